/- Two fractions that are drawn for Between. -/
import Derived.Test.YtmlnabgmibhfhabDrawW3
import Derived.Test.YtmlnabgmibhfhabBetwW3
namespace Go.Proofs.Ytmlnabgmibhfhab
open Go.RowKit Go.Proofs.Ytmlnabgmibhfhab.RM

theorem IsR.ex {w w' : World} {cb R : Nat} {n d : Int} (h : IsR w R n d) (hx : Ex cb w w') (hne : R ≠ cb) : IsR w' R n d := (hx.2.2.2.2 R h.lt hne).trans h
theorem IsR.st {W : World} {R b : Nat} {n d : Int} (h : IsR W R n d) (hne : R ≠ b) (o : Nat) (v : Value) : IsR (W.setCell ⟨b, o, none⟩ v) R n d := (Below.heap_setCell W ⟨b, o, none⟩ v R hne).trans h

set_option maxRecDepth 100000 in
set_option maxHeartbeats 4000000 in
theorem dBetw_any (a : Option Addr) (len cap : Nat) (zs : List Int) (w : World) (hr : IsRow .u8 w a len cap zs) :
    Calls Try.prog 5 #[.slice a len cap] w fun e w' => ∃ n d p q : Int, e = .returned (.tuple #[.agg #[.int .i64 n, .int .i64 d], .agg #[.int .i64 p, .int .i64 q]]) ∧ Below w.heap.size w w' := by
  have b0 : ∀ {u : World} (o : Obj), Below u.heap.size u (u.alloc o) := fun o => below_alR o (Below.refl _ _)
  have HR : Hid (IsRow .u8 ((w.alloc (.cells #[.int .i64 0, .int .i64 0] 25)).alloc (.cells #[.int .i64 0, .int .i64 0] 25)) a len cap zs) := (hr.below (b0 _)).below (b0 _)
  have HROW : Hid (∀ b off, a = some ⟨b, off, none⟩ → 0 < zs.length → b < w.heap.size) := hr.lt
  clear hr
  go_enter Try.func5, Try.ntmps5
  go_wp2_with fail
  refine (new_any a len cap zs _ HR.out).mono ?_
  rintro e w1 ⟨rfl, hC1, hB1, hs1⟩
  obtain ⟨C, hC⟩ : ∃ C, C = w.heap.size + 1 + 1 := ⟨_, rfl⟩
  have hAC : w.heap.size + 1 < C := by omega
  have B1 : Below w.heap.size w w1 := (below_alR _ (below_alR _ (Below.refl _ _))).trans (hB1.mono (by simp; omega))
  have r2 : IsR w1 w.heap.size 0 0 := ((IsR.new w 0 0).below (b0 (.cells #[.int .i64 0, .int .i64 0] 25))).below hB1
  have r3 : IsR w1 (w.heap.size + 1) 0 0 := by simpa using (IsR.new (w.alloc (.cells #[.int .i64 0, .int .i64 0] 25)) 0 0).below hB1
  have hC1' : Cur w1 C a len cap zs := by rw [hC]; simpa using hC1
  have HC : Hid (Cur w1 C a len cap zs) := hC1'
  have hsE : (((w.alloc (.cells #[.int .i64 0, .int .i64 0] 25)).alloc (.cells #[.int .i64 0, .int .i64 0] 25)).heap.size) = C := by simp; omega
  simp only [hsE]
  clear hsE hC1 hC1' hB1 hs1 HR hC
  go_wp2_with fail
  refine (drawAny_any C a len cap zs _ HC.out).mono ?_
  rintro e w2 ⟨n, d, rfl, hC', hE⟩
  replace HC : Hid (Cur w2 C a len cap zs) := hC'
  replace B1 : Below w.heap.size w w2 := Ex.below B1 hE (by omega)
  replace r2 := r2.ex hE (by omega)
  replace r3 := r3.ex hE (by omega)
  clear hC' hE
  obtain ⟨P5, hP5⟩ : ∃ P, P = w2.heap.size := ⟨_, rfl⟩
  obtain ⟨X2, hX2⟩ : ∃ X, X = w2.alloc (.cells #[.int .i64 n, .int .i64 d] 25) := ⟨_, rfl⟩
  have hbx : Below w2.heap.size w2 X2 := by rw [hX2]; exact b0 _
  have r5 : IsR X2 P5 n d := by rw [hX2, hP5]; exact IsR.new w2 n d
  have hCP5 : C < P5 := by rw [hP5]; exact HC.out.lt
  replace HC : Hid (Cur X2 C a len cap zs) := HC.out.below hbx
  replace B1 : Below w.heap.size w X2 := B1.trans (hbx.mono B1.size)
  replace r2 := r2.below hbx
  replace r3 := r3.below hbx
  clear hbx
  go_wp2_with fail
  rw [← hP5, ← hX2]
  clear hP5 hX2
  refine (drawAny_any C a len cap zs _ HC.out).mono ?_
  rintro e w3 ⟨p, q, rfl, hC', hE⟩
  replace HC : Hid (Cur w3 C a len cap zs) := hC'
  replace B1 : Below w.heap.size w w3 := Ex.below B1 hE (by omega)
  replace r2 := r2.ex hE (by omega)
  replace r3 := r3.ex hE (by omega)
  replace r5 := r5.ex hE (by omega)
  clear hC' hE
  obtain ⟨P6, hP6⟩ : ∃ P, P = w3.heap.size := ⟨_, rfl⟩
  obtain ⟨X3, hX3⟩ : ∃ X, X = w3.alloc (.cells #[.int .i64 p, .int .i64 q] 25) := ⟨_, rfl⟩
  have hbx : Below w3.heap.size w3 X3 := by rw [hX3]; exact b0 _
  have r6 : IsR X3 P6 p q := by rw [hX3, hP6]; exact IsR.new w3 p q
  have hCP6 : C < P6 := by rw [hP6]; exact HC.out.lt
  have h56 : P5 < P6 := by rw [hP6]; exact r5.lt
  replace HC : Hid (Cur X3 C a len cap zs) := HC.out.below hbx
  replace B1 : Below w.heap.size w X3 := B1.trans (hbx.mono B1.size)
  replace r2 := r2.below hbx
  replace r3 := r3.below hbx
  replace r5 := r5.below hbx
  clear hbx
  go_wp2_with fail
  rw [← hP6, ← hX3]
  clear hP6 hX3
  refine (once_any C _ a len cap zs _ HC.out (by omega)).mono ?_
  rintro e w4 ⟨x, rfl, hC', hE⟩
  replace HC : Hid (Cur w4 C a len cap zs) := hC'
  replace B1 : Below w.heap.size w w4 := Ex.below B1 hE (by omega)
  replace r2 := r2.ex hE (by omega)
  replace r3 := r3.ex hE (by omega)
  replace r5 := r5.ex hE (by omega)
  replace r6 := r6.ex hE (by omega)
  clear hC' hE
  cases x
  · have r2a := r2.c0
    have r2b := r2.c1
    have r2c := r2.f0
    have r2d := r2.f1
    have r2l := r2.lt
    have r3a := r3.c0
    have r3b := r3.c1
    have r3c := r3.f0
    have r3d := r3.f1
    have r3l := r3.lt
    have r5a := r5.c0
    have r5b := r5.c1
    have r5c := r5.f0
    have r5d := r5.f1
    have r5l := r5.lt
    have r6a := r6.c0
    have r6b := r6.c1
    have r6c := r6.f0
    have r6d := r6.f1
    have r6l := r6.lt
    go_wp2_with fail
    refine (sLess_any p q n d _).mono ?_
    rintro e w5 ⟨rfl, hb⟩
    replace B1 : Below w.heap.size w w5 := B1.trans (hb.mono B1.size)
    replace r2 := r2.below hb
    replace r3 := r3.below hb
    replace r5 := r5.below hb
    replace r6 := r6.below hb
    replace HC : Hid (Cur w5 C a len cap zs) := HC.out.below hb
    clear hb
    clear r2a r2b r2c r2d r2l r3a r3b r3c r3d r3l r5a r5b r5c r5d r5l r6a r6b r6c r6d r6l
    generalize lessB p q n d = ls
    cases ls
    · have r2a := r2.c0
      have r2b := r2.c1
      have r2c := r2.f0
      have r2d := r2.f1
      have r2l := r2.lt
      have r3a := r3.c0
      have r3b := r3.c1
      have r3c := r3.f0
      have r3d := r3.f1
      have r3l := r3.lt
      have r5a := r5.c0
      have r5b := r5.c1
      have r5c := r5.f0
      have r5d := r5.f1
      have r5l := r5.lt
      have r6a := r6.c0
      have r6b := r6.c1
      have r6c := r6.f0
      have r6d := r6.f1
      have r6l := r6.lt
      go_wp2
      go_region
      all_goals go_wp2
      have s2 : IsR ((((w5.setCell ⟨w.heap.size, 0, none⟩ (.int .i64 n)).setCell ⟨w.heap.size, 1, none⟩ (.int .i64 d)).setCell ⟨w.heap.size + 1, 0, none⟩ (.int .i64 p)).setCell ⟨w.heap.size + 1, 1, none⟩ (.int .i64 q)).drew w.heap.size n d := (((r2.set0 n).set1 d).st (by omega) 0 _).st (by omega) 1 _
      have s3 : IsR ((((w5.setCell ⟨w.heap.size, 0, none⟩ (.int .i64 n)).setCell ⟨w.heap.size, 1, none⟩ (.int .i64 d)).setCell ⟨w.heap.size + 1, 0, none⟩ (.int .i64 p)).setCell ⟨w.heap.size + 1, 1, none⟩ (.int .i64 q)).drew (w.heap.size + 1) p q := (((r3.st (by omega) 0 _).st (by omega) 1 _).set0 p).set1 q
      have e0 := s2.c0
      have e1 := s2.c1
      have e2 := s3.c0
      have e3 := s3.c1
      all_goals exact bodyPost_ret (v := .tuple #[.agg #[.int .i64 n, .int .i64 d], .agg #[.int .i64 p, .int .i64 q]]) (by simp [results, Try.results5, go_sem, e0, e1, e2, e3]) rfl ⟨_, _, _, _, rfl, ((((B1.setCell (p := ⟨w.heap.size, 0, none⟩) (Nat.le_refl _) _).setCell (p := ⟨w.heap.size, 1, none⟩) (Nat.le_refl _) _).setCell (p := ⟨w.heap.size + 1, 0, none⟩) (by show _ ≤ w.heap.size + 1; omega) _).setCell (p := ⟨w.heap.size + 1, 1, none⟩) (by show _ ≤ w.heap.size + 1; omega) _).drew⟩
    · go_wp2_with fail
      refine (once_any C _ a len cap zs _ HC.out (by omega)).mono ?_
      rintro e w6 ⟨z, rfl, hC', hE⟩
      replace HC : Hid (Cur w6 C a len cap zs) := hC'
      replace B1 : Below w.heap.size w w6 := Ex.below B1 hE (by omega)
      replace r2 := r2.ex hE (by omega)
      replace r3 := r3.ex hE (by omega)
      replace r5 := r5.ex hE (by omega)
      replace r6 := r6.ex hE (by omega)
      clear hC' hE
      have r2a := r2.c0
      have r2b := r2.c1
      have r2c := r2.f0
      have r2d := r2.f1
      have r2l := r2.lt
      have r3a := r3.c0
      have r3b := r3.c1
      have r3c := r3.f0
      have r3d := r3.f1
      have r3l := r3.lt
      have r5a := r5.c0
      have r5b := r5.c1
      have r5c := r5.f0
      have r5d := r5.f1
      have r5l := r5.lt
      have r6a := r6.c0
      have r6b := r6.c1
      have r6c := r6.f0
      have r6d := r6.f1
      have r6l := r6.lt
      cases z
      · go_wp2
        go_region
        all_goals go_wp2
        have s2 : IsR ((((w6.setCell ⟨w.heap.size, 0, none⟩ (.int .i64 p)).setCell ⟨w.heap.size, 1, none⟩ (.int .i64 q)).setCell ⟨w.heap.size + 1, 0, none⟩ (.int .i64 n)).setCell ⟨w.heap.size + 1, 1, none⟩ (.int .i64 d)).drew w.heap.size p q := (((r2.set0 p).set1 q).st (by omega) 0 _).st (by omega) 1 _
        have s3 : IsR ((((w6.setCell ⟨w.heap.size, 0, none⟩ (.int .i64 p)).setCell ⟨w.heap.size, 1, none⟩ (.int .i64 q)).setCell ⟨w.heap.size + 1, 0, none⟩ (.int .i64 n)).setCell ⟨w.heap.size + 1, 1, none⟩ (.int .i64 d)).drew (w.heap.size + 1) n d := (((r3.st (by omega) 0 _).st (by omega) 1 _).set0 n).set1 d
        have e0 := s2.c0
        have e1 := s2.c1
        have e2 := s3.c0
        have e3 := s3.c1
        all_goals exact bodyPost_ret (v := .tuple #[.agg #[.int .i64 p, .int .i64 q], .agg #[.int .i64 n, .int .i64 d]]) (by simp [results, Try.results5, go_sem, e0, e1, e2, e3]) rfl ⟨_, _, _, _, rfl, ((((B1.setCell (p := ⟨w.heap.size, 0, none⟩) (Nat.le_refl _) _).setCell (p := ⟨w.heap.size, 1, none⟩) (Nat.le_refl _) _).setCell (p := ⟨w.heap.size + 1, 0, none⟩) (by show _ ≤ w.heap.size + 1; omega) _).setCell (p := ⟨w.heap.size + 1, 1, none⟩) (by show _ ≤ w.heap.size + 1; omega) _).drew⟩
      · go_wp2
        go_region
        all_goals go_wp2
        have s2 : IsR ((((w6.setCell ⟨w.heap.size, 0, none⟩ (.int .i64 n)).setCell ⟨w.heap.size, 1, none⟩ (.int .i64 d)).setCell ⟨w.heap.size + 1, 0, none⟩ (.int .i64 p)).setCell ⟨w.heap.size + 1, 1, none⟩ (.int .i64 q)).drew w.heap.size n d := (((r2.set0 n).set1 d).st (by omega) 0 _).st (by omega) 1 _
        have s3 : IsR ((((w6.setCell ⟨w.heap.size, 0, none⟩ (.int .i64 n)).setCell ⟨w.heap.size, 1, none⟩ (.int .i64 d)).setCell ⟨w.heap.size + 1, 0, none⟩ (.int .i64 p)).setCell ⟨w.heap.size + 1, 1, none⟩ (.int .i64 q)).drew (w.heap.size + 1) p q := (((r3.st (by omega) 0 _).st (by omega) 1 _).set0 p).set1 q
        have e0 := s2.c0
        have e1 := s2.c1
        have e2 := s3.c0
        have e3 := s3.c1
        all_goals exact bodyPost_ret (v := .tuple #[.agg #[.int .i64 n, .int .i64 d], .agg #[.int .i64 p, .int .i64 q]]) (by simp [results, Try.results5, go_sem, e0, e1, e2, e3]) rfl ⟨_, _, _, _, rfl, ((((B1.setCell (p := ⟨w.heap.size, 0, none⟩) (Nat.le_refl _) _).setCell (p := ⟨w.heap.size, 1, none⟩) (Nat.le_refl _) _).setCell (p := ⟨w.heap.size + 1, 0, none⟩) (by show _ ≤ w.heap.size + 1; omega) _).setCell (p := ⟨w.heap.size + 1, 1, none⟩) (by show _ ≤ w.heap.size + 1; omega) _).drew⟩
  · go_wp2_with fail
    refine (from_any C _ _ a len cap zs _ HC.out (by omega) (by omega) (by omega)).mono ?_
    rintro e w6 ⟨f6, rfl, hf6, hg6, hC', hE⟩
    replace HC : Hid (Cur w6 C a len cap zs) := hC'
    replace B1 : Below w.heap.size w w6 := Ex.below B1 hE (by omega)
    replace r2 := r2.ex hE (by omega)
    replace r3 := r3.ex hE (by omega)
    replace r5 := r5.ex hE (by omega)
    replace r6 := r6.ex hE (by omega)
    clear hC' hE
    go_wp2_with fail
    refine (below_any C _ a len cap zs _ HC.out (by omega)).mono ?_
    rintro e w7 ⟨i6, rfl, hi6, hj6, hC', hE⟩
    replace HC : Hid (Cur w7 C a len cap zs) := hC'
    replace B1 : Below w.heap.size w w7 := Ex.below B1 hE (by omega)
    replace r2 := r2.ex hE (by omega)
    replace r3 := r3.ex hE (by omega)
    replace r5 := r5.ex hE (by omega)
    replace r6 := r6.ex hE (by omega)
    clear hC' hE
    go_wp2_with fail
    refine (sRed_any _ _ _).mono ?_
    rintro e w8 ⟨rfl, hb⟩
    replace B1 : Below w.heap.size w w8 := B1.trans (hb.mono B1.size)
    replace r2 := r2.below hb
    replace r3 := r3.below hb
    replace r5 := r5.below hb
    replace r6 := r6.below hb
    replace HC : Hid (Cur w8 C a len cap zs) := HC.out.below hb
    clear hb
    obtain ⟨n1, hn⟩ : ∃ z, z = redN f6 (1 + i6) := ⟨_, rfl⟩
    obtain ⟨d1, hd⟩ : ∃ z, z = redD f6 (1 + i6) := ⟨_, rfl⟩
    generalize redOk f6 (1 + i6) = ro6
    rw [← hn, ← hd]
    clear hn hd
    have r5a := r5.c0
    have r5b := r5.c1
    have r5c := r5.f0
    have r5d := r5.f1
    have r5l := r5.lt
    go_wp2_with fail
    have hex : Ex P5 w8 ((w8.setCell ⟨P5, 0, none⟩ (.int .i64 n1)).setCell ⟨P5, 1, none⟩ (.int .i64 d1)) := ((Ex.refl _ _).setCell (.inl rfl) _).setCell (.inl rfl) _
    replace r2 : IsR ((w8.setCell ⟨P5, 0, none⟩ (.int .i64 n1)).setCell ⟨P5, 1, none⟩ (.int .i64 d1)) _ _ _ := (r2.st (by omega) 0 _).st (by omega) 1 _
    replace r3 : IsR ((w8.setCell ⟨P5, 0, none⟩ (.int .i64 n1)).setCell ⟨P5, 1, none⟩ (.int .i64 d1)) _ _ _ := (r3.st (by omega) 0 _).st (by omega) 1 _
    replace r6 : IsR ((w8.setCell ⟨P5, 0, none⟩ (.int .i64 n1)).setCell ⟨P5, 1, none⟩ (.int .i64 d1)) _ _ _ := (r6.st (by omega) 0 _).st (by omega) 1 _
    replace r5 : IsR ((w8.setCell ⟨P5, 0, none⟩ (.int .i64 n1)).setCell ⟨P5, 1, none⟩ (.int .i64 d1)) P5 n1 d1 := (r5.set0 _).set1 _
    replace B1 : Below w.heap.size w ((w8.setCell ⟨P5, 0, none⟩ (.int .i64 n1)).setCell ⟨P5, 1, none⟩ (.int .i64 d1)) := (B1.setCell (p := ⟨P5, 0, none⟩) (by show _ ≤ P5; omega) _).setCell (p := ⟨P5, 1, none⟩) (by show _ ≤ P5; omega) _
    replace HC : Hid (Cur ((w8.setCell ⟨P5, 0, none⟩ (.int .i64 n1)).setCell ⟨P5, 1, none⟩ (.int .i64 d1)) C a len cap zs) := HC.out.ex hex (by omega) (fun b off e hz => by have := HROW.out b off e hz; omega)
    clear hex
    clear r5a r5b r5c r5d r5l
    obtain ⟨Y6, hY6⟩ : ∃ Y, Y = ((w8.setCell ⟨P5, 0, none⟩ (.int .i64 n1)).setCell ⟨P5, 1, none⟩ (.int .i64 d1)) := ⟨_, rfl⟩
    rw [← hY6] at r2 r3 r5 r6 B1 HC ⊢
    clear hY6
    refine (from_any C _ _ a len cap zs _ HC.out (by omega) (by omega) (by omega)).mono ?_
    rintro e w9 ⟨f9, rfl, hf9, hg9, hC', hE⟩
    replace HC : Hid (Cur w9 C a len cap zs) := hC'
    replace B1 : Below w.heap.size w w9 := Ex.below B1 hE (by omega)
    replace r2 := r2.ex hE (by omega)
    replace r3 := r3.ex hE (by omega)
    replace r5 := r5.ex hE (by omega)
    replace r6 := r6.ex hE (by omega)
    clear hC' hE
    go_wp2_with fail
    refine (below_any C _ a len cap zs _ HC.out (by omega)).mono ?_
    rintro e w10 ⟨i9, rfl, hi9, hj9, hC', hE⟩
    replace HC : Hid (Cur w10 C a len cap zs) := hC'
    replace B1 : Below w.heap.size w w10 := Ex.below B1 hE (by omega)
    replace r2 := r2.ex hE (by omega)
    replace r3 := r3.ex hE (by omega)
    replace r5 := r5.ex hE (by omega)
    replace r6 := r6.ex hE (by omega)
    clear hC' hE
    go_wp2_with fail
    refine (sRed_any _ _ _).mono ?_
    rintro e w11 ⟨rfl, hb⟩
    replace B1 : Below w.heap.size w w11 := B1.trans (hb.mono B1.size)
    replace r2 := r2.below hb
    replace r3 := r3.below hb
    replace r5 := r5.below hb
    replace r6 := r6.below hb
    replace HC : Hid (Cur w11 C a len cap zs) := HC.out.below hb
    clear hb
    obtain ⟨p1, hn⟩ : ∃ z, z = redN f9 (1 + i9) := ⟨_, rfl⟩
    obtain ⟨q1, hd⟩ : ∃ z, z = redD f9 (1 + i9) := ⟨_, rfl⟩
    generalize redOk f9 (1 + i9) = ro9
    rw [← hn, ← hd]
    clear hn hd
    have r6a := r6.c0
    have r6b := r6.c1
    have r6c := r6.f0
    have r6d := r6.f1
    have r6l := r6.lt
    have r5a := r5.c0
    have r5b := r5.c1
    have r5c := r5.f0
    have r5d := r5.f1
    have r5l := r5.lt
    go_wp2_with fail
    have hex : Ex P6 w11 ((w11.setCell ⟨P6, 0, none⟩ (.int .i64 p1)).setCell ⟨P6, 1, none⟩ (.int .i64 q1)) := ((Ex.refl _ _).setCell (.inl rfl) _).setCell (.inl rfl) _
    replace r2 : IsR ((w11.setCell ⟨P6, 0, none⟩ (.int .i64 p1)).setCell ⟨P6, 1, none⟩ (.int .i64 q1)) _ _ _ := (r2.st (by omega) 0 _).st (by omega) 1 _
    replace r3 : IsR ((w11.setCell ⟨P6, 0, none⟩ (.int .i64 p1)).setCell ⟨P6, 1, none⟩ (.int .i64 q1)) _ _ _ := (r3.st (by omega) 0 _).st (by omega) 1 _
    replace r5 : IsR ((w11.setCell ⟨P6, 0, none⟩ (.int .i64 p1)).setCell ⟨P6, 1, none⟩ (.int .i64 q1)) _ _ _ := (r5.st (by omega) 0 _).st (by omega) 1 _
    replace r6 : IsR ((w11.setCell ⟨P6, 0, none⟩ (.int .i64 p1)).setCell ⟨P6, 1, none⟩ (.int .i64 q1)) P6 p1 q1 := (r6.set0 _).set1 _
    replace B1 : Below w.heap.size w ((w11.setCell ⟨P6, 0, none⟩ (.int .i64 p1)).setCell ⟨P6, 1, none⟩ (.int .i64 q1)) := (B1.setCell (p := ⟨P6, 0, none⟩) (by show _ ≤ P6; omega) _).setCell (p := ⟨P6, 1, none⟩) (by show _ ≤ P6; omega) _
    replace HC : Hid (Cur ((w11.setCell ⟨P6, 0, none⟩ (.int .i64 p1)).setCell ⟨P6, 1, none⟩ (.int .i64 q1)) C a len cap zs) := HC.out.ex hex (by omega) (fun b off e hz => by have := HROW.out b off e hz; omega)
    clear hex
    clear r6a r6b r6c r6d r6l r5a r5b r5c r5d r5l
    obtain ⟨Y9, hY9⟩ : ∃ Y, Y = ((w11.setCell ⟨P6, 0, none⟩ (.int .i64 p1)).setCell ⟨P6, 1, none⟩ (.int .i64 q1)) := ⟨_, rfl⟩
    rw [← hY9] at r2 r3 r5 r6 B1 HC ⊢
    clear hY9
    have r2a := r2.c0
    have r2b := r2.c1
    have r2c := r2.f0
    have r2d := r2.f1
    have r2l := r2.lt
    have r3a := r3.c0
    have r3b := r3.c1
    have r3c := r3.f0
    have r3d := r3.f1
    have r3l := r3.lt
    have r5a := r5.c0
    have r5b := r5.c1
    have r5c := r5.f0
    have r5d := r5.f1
    have r5l := r5.lt
    have r6a := r6.c0
    have r6b := r6.c1
    have r6c := r6.f0
    have r6d := r6.f1
    have r6l := r6.lt
    refine (sLess_any p1 q1 n1 d1 _).mono ?_
    rintro e w12 ⟨rfl, hb⟩
    replace B1 : Below w.heap.size w w12 := B1.trans (hb.mono B1.size)
    replace r2 := r2.below hb
    replace r3 := r3.below hb
    replace r5 := r5.below hb
    replace r6 := r6.below hb
    replace HC : Hid (Cur w12 C a len cap zs) := HC.out.below hb
    clear hb
    clear r2a r2b r2c r2d r2l r3a r3b r3c r3d r3l r5a r5b r5c r5d r5l r6a r6b r6c r6d r6l
    generalize lessB p1 q1 n1 d1 = ls
    cases ls
    · have r2a := r2.c0
      have r2b := r2.c1
      have r2c := r2.f0
      have r2d := r2.f1
      have r2l := r2.lt
      have r3a := r3.c0
      have r3b := r3.c1
      have r3c := r3.f0
      have r3d := r3.f1
      have r3l := r3.lt
      have r5a := r5.c0
      have r5b := r5.c1
      have r5c := r5.f0
      have r5d := r5.f1
      have r5l := r5.lt
      have r6a := r6.c0
      have r6b := r6.c1
      have r6c := r6.f0
      have r6d := r6.f1
      have r6l := r6.lt
      go_wp2
      go_region
      all_goals go_wp2
      have s2 : IsR ((((w12.setCell ⟨w.heap.size, 0, none⟩ (.int .i64 n1)).setCell ⟨w.heap.size, 1, none⟩ (.int .i64 d1)).setCell ⟨w.heap.size + 1, 0, none⟩ (.int .i64 p1)).setCell ⟨w.heap.size + 1, 1, none⟩ (.int .i64 q1)).drew w.heap.size n1 d1 := (((r2.set0 n1).set1 d1).st (by omega) 0 _).st (by omega) 1 _
      have s3 : IsR ((((w12.setCell ⟨w.heap.size, 0, none⟩ (.int .i64 n1)).setCell ⟨w.heap.size, 1, none⟩ (.int .i64 d1)).setCell ⟨w.heap.size + 1, 0, none⟩ (.int .i64 p1)).setCell ⟨w.heap.size + 1, 1, none⟩ (.int .i64 q1)).drew (w.heap.size + 1) p1 q1 := (((r3.st (by omega) 0 _).st (by omega) 1 _).set0 p1).set1 q1
      have e0 := s2.c0
      have e1 := s2.c1
      have e2 := s3.c0
      have e3 := s3.c1
      all_goals exact bodyPost_ret (v := .tuple #[.agg #[.int .i64 n1, .int .i64 d1], .agg #[.int .i64 p1, .int .i64 q1]]) (by simp [results, Try.results5, go_sem, e0, e1, e2, e3]) rfl ⟨_, _, _, _, rfl, ((((B1.setCell (p := ⟨w.heap.size, 0, none⟩) (Nat.le_refl _) _).setCell (p := ⟨w.heap.size, 1, none⟩) (Nat.le_refl _) _).setCell (p := ⟨w.heap.size + 1, 0, none⟩) (by show _ ≤ w.heap.size + 1; omega) _).setCell (p := ⟨w.heap.size + 1, 1, none⟩) (by show _ ≤ w.heap.size + 1; omega) _).drew⟩
    · go_wp2_with fail
      refine (once_any C _ a len cap zs _ HC.out (by omega)).mono ?_
      rintro e w13 ⟨z, rfl, hC', hE⟩
      replace HC : Hid (Cur w13 C a len cap zs) := hC'
      replace B1 : Below w.heap.size w w13 := Ex.below B1 hE (by omega)
      replace r2 := r2.ex hE (by omega)
      replace r3 := r3.ex hE (by omega)
      replace r5 := r5.ex hE (by omega)
      replace r6 := r6.ex hE (by omega)
      clear hC' hE
      have r2a := r2.c0
      have r2b := r2.c1
      have r2c := r2.f0
      have r2d := r2.f1
      have r2l := r2.lt
      have r3a := r3.c0
      have r3b := r3.c1
      have r3c := r3.f0
      have r3d := r3.f1
      have r3l := r3.lt
      have r5a := r5.c0
      have r5b := r5.c1
      have r5c := r5.f0
      have r5d := r5.f1
      have r5l := r5.lt
      have r6a := r6.c0
      have r6b := r6.c1
      have r6c := r6.f0
      have r6d := r6.f1
      have r6l := r6.lt
      cases z
      · go_wp2
        go_region
        all_goals go_wp2
        have s2 : IsR ((((w13.setCell ⟨w.heap.size, 0, none⟩ (.int .i64 p1)).setCell ⟨w.heap.size, 1, none⟩ (.int .i64 q1)).setCell ⟨w.heap.size + 1, 0, none⟩ (.int .i64 n1)).setCell ⟨w.heap.size + 1, 1, none⟩ (.int .i64 d1)).drew w.heap.size p1 q1 := (((r2.set0 p1).set1 q1).st (by omega) 0 _).st (by omega) 1 _
        have s3 : IsR ((((w13.setCell ⟨w.heap.size, 0, none⟩ (.int .i64 p1)).setCell ⟨w.heap.size, 1, none⟩ (.int .i64 q1)).setCell ⟨w.heap.size + 1, 0, none⟩ (.int .i64 n1)).setCell ⟨w.heap.size + 1, 1, none⟩ (.int .i64 d1)).drew (w.heap.size + 1) n1 d1 := (((r3.st (by omega) 0 _).st (by omega) 1 _).set0 n1).set1 d1
        have e0 := s2.c0
        have e1 := s2.c1
        have e2 := s3.c0
        have e3 := s3.c1
        all_goals exact bodyPost_ret (v := .tuple #[.agg #[.int .i64 p1, .int .i64 q1], .agg #[.int .i64 n1, .int .i64 d1]]) (by simp [results, Try.results5, go_sem, e0, e1, e2, e3]) rfl ⟨_, _, _, _, rfl, ((((B1.setCell (p := ⟨w.heap.size, 0, none⟩) (Nat.le_refl _) _).setCell (p := ⟨w.heap.size, 1, none⟩) (Nat.le_refl _) _).setCell (p := ⟨w.heap.size + 1, 0, none⟩) (by show _ ≤ w.heap.size + 1; omega) _).setCell (p := ⟨w.heap.size + 1, 1, none⟩) (by show _ ≤ w.heap.size + 1; omega) _).drew⟩
      · go_wp2
        go_region
        all_goals go_wp2
        have s2 : IsR ((((w13.setCell ⟨w.heap.size, 0, none⟩ (.int .i64 n1)).setCell ⟨w.heap.size, 1, none⟩ (.int .i64 d1)).setCell ⟨w.heap.size + 1, 0, none⟩ (.int .i64 p1)).setCell ⟨w.heap.size + 1, 1, none⟩ (.int .i64 q1)).drew w.heap.size n1 d1 := (((r2.set0 n1).set1 d1).st (by omega) 0 _).st (by omega) 1 _
        have s3 : IsR ((((w13.setCell ⟨w.heap.size, 0, none⟩ (.int .i64 n1)).setCell ⟨w.heap.size, 1, none⟩ (.int .i64 d1)).setCell ⟨w.heap.size + 1, 0, none⟩ (.int .i64 p1)).setCell ⟨w.heap.size + 1, 1, none⟩ (.int .i64 q1)).drew (w.heap.size + 1) p1 q1 := (((r3.st (by omega) 0 _).st (by omega) 1 _).set0 p1).set1 q1
        have e0 := s2.c0
        have e1 := s2.c1
        have e2 := s3.c0
        have e3 := s3.c1
        all_goals exact bodyPost_ret (v := .tuple #[.agg #[.int .i64 n1, .int .i64 d1], .agg #[.int .i64 p1, .int .i64 q1]]) (by simp [results, Try.results5, go_sem, e0, e1, e2, e3]) rfl ⟨_, _, _, _, rfl, ((((B1.setCell (p := ⟨w.heap.size, 0, none⟩) (Nat.le_refl _) _).setCell (p := ⟨w.heap.size, 1, none⟩) (Nat.le_refl _) _).setCell (p := ⟨w.heap.size + 1, 0, none⟩) (by show _ ≤ w.heap.size + 1; omega) _).setCell (p := ⟨w.heap.size + 1, 1, none⟩) (by show _ ≤ w.heap.size + 1; omega) _).drew⟩
end Go.Proofs.Ytmlnabgmibhfhab
