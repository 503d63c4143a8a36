/- A fraction and a bound that are drawn for Nearest. -/
import Derived.Test.YtllgbfoffebojaaDrawW7
namespace Go.Proofs.Ytllgbfoffebojaa
open Go.RowKit Go.Proofs.Ytllgbfoffebojaa.RM

theorem isR_ex {w w' : World} {cb R : Nat} {n d : Int} (h : IsR w R n d) (hx : Ex cb w w') (hne : R ≠ cb) : IsR w' R n d := (hx.2.2.2.2 R h.lt hne).trans h
theorem isR_st {W : World} {R b : Nat} {n d : Int} (h : IsR W R n d) (hne : R ≠ b) (o : Nat) (v : Value) : IsR (W.setCell ⟨b, o, none⟩ v) R n d := (Below.heap_setCell W ⟨b, o, none⟩ v R hne).trans h

set_option maxRecDepth 100000 in
set_option maxHeartbeats 2000000 in
theorem dNear_any (a : Option Addr) (len cap : Nat) (zs : List Int) (w : World) (hr : IsRow .u8 w a len cap zs) :
    Calls Try.prog 40 #[.slice a len cap] w fun e w' => ∃ n d m : Int, e = .returned (.tuple #[.agg #[.int .i64 n, .int .i64 d], .int .i64 m]) ∧ Below w.heap.size w w' := by
  have b0 : ∀ {u : World} (o : Obj), Below u.heap.size u (u.alloc o) := fun o => (Below.refl _ _).alloc (Nat.le_refl _) o
  have HR : Hid (IsRow .u8 (w.alloc (.cells #[.int .i64 0, .int .i64 0] 25)) a len cap zs) := hr.below (b0 _)
  have HROW : Hid (∀ b off, a = some ⟨b, off, none⟩ → 0 < zs.length → b < w.heap.size) := hr.lt
  clear hr
  go_enter Try.func40, Try.ntmps40
  go_wp2_with fail
  refine (new_any a len cap zs _ HR.out).mono ?_
  rintro e w1 ⟨rfl, hC1, hB1, hs1⟩
  have B1 : Below w.heap.size w w1 := ((Below.refl _ _).alloc (Nat.le_refl _) _).trans (hB1.mono (by simp))
  have r2 : IsR w1 w.heap.size 0 0 := (IsR.new w 0 0).below hB1
  have hC1' : Cur w1 (w.heap.size + 1) a len cap zs := by simpa using hC1
  have HC : Hid (Cur w1 (w.heap.size + 1) a len cap zs) := hC1'
  clear hC1 hC1' hB1 hs1 HR
  go_wp2_with fail
  refine (from_any (w.heap.size + 1) _ _ a len cap zs _ HC.out (by omega) (by omega) (by omega)).mono ?_
  rintro e w2 ⟨x, rfl, hx0, hx1, hC', hE⟩
  replace HC : Hid (Cur w2 (w.heap.size + 1) a len cap zs) := hC'
  replace B1 : Below w.heap.size w w2 := Ex.below B1 hE (by omega)
  replace r2 := isR_ex r2 hE (by omega)
  clear hC' hE
  go_wp2_with fail
  refine (below_any (w.heap.size + 1) _ a len cap zs _ HC.out (by omega)).mono ?_
  rintro e w3 ⟨y, rfl, hy0, hy1, hC', hE⟩
  replace HC : Hid (Cur w3 (w.heap.size + 1) a len cap zs) := hC'
  replace B1 : Below w.heap.size w w3 := Ex.below B1 hE (by omega)
  replace r2 := isR_ex r2 hE (by omega)
  clear hC' hE
  go_wp2_with fail
  refine (sRed_any _ _ _).mono ?_
  rintro e w4 ⟨rfl, hb⟩
  replace B1 : Below w.heap.size w w4 := B1.trans (hb.mono B1.size)
  replace r2 := r2.below hb
  replace HC : Hid (Cur w4 (w.heap.size + 1) a len cap zs) := HC.out.below hb
  clear hb
  obtain ⟨n, hn⟩ : ∃ z, z = redN x (1 + y) := ⟨_, rfl⟩
  obtain ⟨d, hd⟩ : ∃ z, z = redD x (1 + y) := ⟨_, rfl⟩
  generalize redOk x (1 + y) = ro
  rw [← hn, ← hd]
  clear hn hd hx0 hx1 hy0 hy1
  obtain ⟨P, hP⟩ : ∃ P, P = w4.heap.size := ⟨_, rfl⟩
  obtain ⟨X, hX⟩ : ∃ X, X = w4.alloc (.cells #[.int .i64 n, .int .i64 d] 25) := ⟨_, rfl⟩
  have hbx : Below w4.heap.size w4 X := by rw [hX]; exact b0 _
  have r5 : IsR X P n d := by rw [hX, hP]; exact IsR.new w4 n d
  have hCP : w.heap.size + 1 < P := by rw [hP]; exact HC.out.lt
  replace HC : Hid (Cur X (w.heap.size + 1) a len cap zs) := HC.out.below hbx
  replace B1 : Below w.heap.size w X := B1.trans (hbx.mono B1.size)
  replace r2 := r2.below hbx
  clear hbx
  go_wp2_with fail
  rw [← hP, ← hX]
  clear hP hX
  refine (once_any (w.heap.size + 1) _ a len cap zs _ HC.out (by omega)).mono ?_
  rintro e w5 ⟨z, rfl, hC', hE⟩
  replace HC : Hid (Cur w5 (w.heap.size + 1) a len cap zs) := hC'
  replace B1 : Below w.heap.size w w5 := Ex.below B1 hE (by omega)
  replace r2 := isR_ex r2 hE (by omega)
  replace r5 := isR_ex r5 hE (by omega)
  clear hC' hE
  cases z
  · go_wp2_with fail
    refine (below_any (w.heap.size + 1) _ a len cap zs _ HC.out (by omega)).mono ?_
    rintro e w6 ⟨m, rfl, hm0, hm1, hC', hE⟩
    replace HC : Hid (Cur w6 (w.heap.size + 1) a len cap zs) := hC'
    replace B1 : Below w.heap.size w w6 := Ex.below B1 hE (by omega)
    replace r2 := isR_ex r2 hE (by omega)
    replace r5 := isR_ex r5 hE (by omega)
    clear hC' hE
    go_wp2_with fail
    refine (once_any (w.heap.size + 1) _ a len cap zs _ HC.out (by omega)).mono ?_
    rintro e w7 ⟨z, rfl, hC', hE⟩
    replace HC : Hid (Cur w7 (w.heap.size + 1) a len cap zs) := hC'
    replace B1 : Below w.heap.size w w7 := Ex.below B1 hE (by omega)
    replace r2 := isR_ex r2 hE (by omega)
    replace r5 := isR_ex r5 hE (by omega)
    clear hC' hE
    cases z
    · have p0 := r5.c0
      have p1 := r5.c1
      have q0 := r2.f0
      have q1 := r2.f1
      have q2 := r2.c0
      have q3 := r2.c1
      go_wp2
      exact bodyPost_ret (v := .tuple #[.agg #[.int .i64 n, .int .i64 d], .int .i64 (1 + m)]) (by simp [results, Try.results40, go_sem, q2, q3]) rfl ⟨_, _, _, rfl, (B1.setCell (p := ⟨w.heap.size, 0, none⟩) (Nat.le_refl _) _).setCell (p := ⟨w.heap.size, 1, none⟩) (Nat.le_refl _) _⟩
    · obtain ⟨X5, hX5⟩ : ∃ X, X = w7.alloc (.cells #[.int .i64 0, .int .i64 1000000000, .int .i64 1000000001, .int .i64 1, .int .i64 (-9223372036854775808), .int .i64 1000] 2) := ⟨_, rfl⟩
      obtain ⟨Z5, hZ5⟩ : ∃ Z, Z = w7.heap.size := ⟨_, rfl⟩
      have hcell : ∀ k : Nat, k < 6 → ∃ q : Int, X5.cell? ⟨Z5, k, none⟩ = some (.int .i64 q) := by
        intro k hk
        rw [hX5, hZ5]
        match k, hk with
        | 0, _ => exact ⟨0, by simp [go_sem]⟩
        | 1, _ => exact ⟨1000000000, by simp [go_sem]⟩
        | 2, _ => exact ⟨1000000001, by simp [go_sem]⟩
        | 3, _ => exact ⟨1, by simp [go_sem]⟩
        | 4, _ => exact ⟨(-9223372036854775808), by simp [go_sem]⟩
        | 5, _ => exact ⟨1000, by simp [go_sem]⟩
      have HCELL : Hid _ := hcell
      have hbx : Below w7.heap.size w7 X5 := by rw [hX5]; exact b0 _
      have hne : w.heap.size + 1 < Z5 := by rw [hZ5]; exact HC.out.lt
      replace HC : Hid (Cur X5 (w.heap.size + 1) a len cap zs) := HC.out.below hbx
      replace B1 : Below w.heap.size w X5 := B1.trans (hbx.mono B1.size)
      replace r2 := r2.below hbx
      replace r5 := r5.below hbx
      clear hbx hcell
      go_wp2_with fail
      rw [← hX5, ← hZ5]
      clear hX5 hZ5
      refine (below_any (w.heap.size + 1) _ a len cap zs _ HC.out (by omega)).mono ?_
      rintro e w8 ⟨k, rfl, hk0, hk1, hC', hE⟩
      obtain ⟨k, rfl⟩ := Int.eq_ofNat_of_zero_le hk0
      obtain ⟨q, hq⟩ := HCELL.out k (by omega)
      have hq6 := hE.cell hq (by omega)
      replace HC : Hid (Cur w8 (w.heap.size + 1) a len cap zs) := hC'
      replace B1 : Below w.heap.size w w8 := Ex.below B1 hE (by omega)
      replace r2 := isR_ex r2 hE (by omega)
      replace r5 := isR_ex r5 hE (by omega)
      clear hC' hE
      clear hq HCELL
      have p0 := r5.c0
      have p1 := r5.c1
      have q0 := r2.f0
      have q1 := r2.f1
      have q2 := r2.c0
      have q3 := r2.c1
      go_wp2
      exact bodyPost_ret (v := .tuple #[.agg #[.int .i64 n, .int .i64 d], .int .i64 q]) (by simp [results, Try.results40, go_sem, q2, q3]) rfl ⟨_, _, _, rfl, (B1.setCell (p := ⟨w.heap.size, 0, none⟩) (Nat.le_refl _) _).setCell (p := ⟨w.heap.size, 1, none⟩) (Nat.le_refl _) _⟩
  · go_wp2_with fail
    refine (drawAny_any (w.heap.size + 1) a len cap zs _ HC.out).mono ?_
    rintro e w6 ⟨n2, d2, rfl, hC', hE⟩
    replace HC : Hid (Cur w6 (w.heap.size + 1) a len cap zs) := hC'
    replace B1 : Below w.heap.size w w6 := Ex.below B1 hE (by omega)
    replace r2 := isR_ex r2 hE (by omega)
    replace r5 := isR_ex r5 hE (by omega)
    clear hC' hE
    have p0 := r5.c0
    have p1 := r5.c1
    have p2 := r5.f0
    have p3 := r5.f1
    have hPs := r5.lt
    go_wp2_with fail
    have hex : Ex P w6 ((w6.setCell ⟨P, 0, none⟩ (.int .i64 n2)).setCell ⟨P, 1, none⟩ (.int .i64 d2)) := ((Ex.refl _ _).setCell (.inl rfl) _).setCell (.inl rfl) _
    replace r2 : IsR ((w6.setCell ⟨P, 0, none⟩ (.int .i64 n2)).setCell ⟨P, 1, none⟩ (.int .i64 d2)) w.heap.size 0 0 := isR_st (isR_st r2 (by omega) 0 _) (by omega) 1 _
    replace r5 : IsR ((w6.setCell ⟨P, 0, none⟩ (.int .i64 n2)).setCell ⟨P, 1, none⟩ (.int .i64 d2)) P n2 d2 := (r5.set0 n2).set1 d2
    replace B1 : Below w.heap.size w ((w6.setCell ⟨P, 0, none⟩ (.int .i64 n2)).setCell ⟨P, 1, none⟩ (.int .i64 d2)) := (B1.setCell (p := ⟨P, 0, none⟩) (by show _ ≤ P; omega) _).setCell (p := ⟨P, 1, none⟩) (by show _ ≤ P; omega) _
    replace HC : Hid (Cur ((w6.setCell ⟨P, 0, none⟩ (.int .i64 n2)).setCell ⟨P, 1, none⟩ (.int .i64 d2)) (w.heap.size + 1) a len cap zs) := HC.out.ex hex (by omega) (fun b off e hz => by have := HROW.out b off e hz; omega)
    clear hex p0 p1 p2 p3 hPs
    refine (below_any (w.heap.size + 1) _ a len cap zs _ HC.out (by omega)).mono ?_
    rintro e w7 ⟨m, rfl, hm0, hm1, hC', hE⟩
    replace HC : Hid (Cur w7 (w.heap.size + 1) a len cap zs) := hC'
    replace B1 : Below w.heap.size w w7 := Ex.below B1 hE (by omega)
    replace r2 := isR_ex r2 hE (by omega)
    replace r5 := isR_ex r5 hE (by omega)
    clear hC' hE
    go_wp2_with fail
    refine (once_any (w.heap.size + 1) _ a len cap zs _ HC.out (by omega)).mono ?_
    rintro e w8 ⟨z, rfl, hC', hE⟩
    replace HC : Hid (Cur w8 (w.heap.size + 1) a len cap zs) := hC'
    replace B1 : Below w.heap.size w w8 := Ex.below B1 hE (by omega)
    replace r2 := isR_ex r2 hE (by omega)
    replace r5 := isR_ex r5 hE (by omega)
    clear hC' hE
    cases z
    · have p0 := r5.c0
      have p1 := r5.c1
      have q0 := r2.f0
      have q1 := r2.f1
      have q2 := r2.c0
      have q3 := r2.c1
      go_wp2
      exact bodyPost_ret (v := .tuple #[.agg #[.int .i64 n2, .int .i64 d2], .int .i64 (1 + m)]) (by simp [results, Try.results40, go_sem, q2, q3]) rfl ⟨_, _, _, rfl, (B1.setCell (p := ⟨w.heap.size, 0, none⟩) (Nat.le_refl _) _).setCell (p := ⟨w.heap.size, 1, none⟩) (Nat.le_refl _) _⟩
    · obtain ⟨X5, hX5⟩ : ∃ X, X = w8.alloc (.cells #[.int .i64 0, .int .i64 1000000000, .int .i64 1000000001, .int .i64 1, .int .i64 (-9223372036854775808), .int .i64 1000] 2) := ⟨_, rfl⟩
      obtain ⟨Z5, hZ5⟩ : ∃ Z, Z = w8.heap.size := ⟨_, rfl⟩
      have hcell : ∀ k : Nat, k < 6 → ∃ q : Int, X5.cell? ⟨Z5, k, none⟩ = some (.int .i64 q) := by
        intro k hk
        rw [hX5, hZ5]
        match k, hk with
        | 0, _ => exact ⟨0, by simp [go_sem]⟩
        | 1, _ => exact ⟨1000000000, by simp [go_sem]⟩
        | 2, _ => exact ⟨1000000001, by simp [go_sem]⟩
        | 3, _ => exact ⟨1, by simp [go_sem]⟩
        | 4, _ => exact ⟨(-9223372036854775808), by simp [go_sem]⟩
        | 5, _ => exact ⟨1000, by simp [go_sem]⟩
      have HCELL : Hid _ := hcell
      have hbx : Below w8.heap.size w8 X5 := by rw [hX5]; exact b0 _
      have hne : w.heap.size + 1 < Z5 := by rw [hZ5]; exact HC.out.lt
      replace HC : Hid (Cur X5 (w.heap.size + 1) a len cap zs) := HC.out.below hbx
      replace B1 : Below w.heap.size w X5 := B1.trans (hbx.mono B1.size)
      replace r2 := r2.below hbx
      replace r5 := r5.below hbx
      clear hbx hcell
      go_wp2_with fail
      rw [← hX5, ← hZ5]
      clear hX5 hZ5
      refine (below_any (w.heap.size + 1) _ a len cap zs _ HC.out (by omega)).mono ?_
      rintro e w9 ⟨k, rfl, hk0, hk1, hC', hE⟩
      obtain ⟨k, rfl⟩ := Int.eq_ofNat_of_zero_le hk0
      obtain ⟨q, hq⟩ := HCELL.out k (by omega)
      have hq6 := hE.cell hq (by omega)
      replace HC : Hid (Cur w9 (w.heap.size + 1) a len cap zs) := hC'
      replace B1 : Below w.heap.size w w9 := Ex.below B1 hE (by omega)
      replace r2 := isR_ex r2 hE (by omega)
      replace r5 := isR_ex r5 hE (by omega)
      clear hC' hE
      clear hq HCELL
      have p0 := r5.c0
      have p1 := r5.c1
      have q0 := r2.f0
      have q1 := r2.f1
      have q2 := r2.c0
      have q3 := r2.c1
      go_wp2
      exact bodyPost_ret (v := .tuple #[.agg #[.int .i64 n2, .int .i64 d2], .int .i64 q]) (by simp [results, Try.results40, go_sem, q2, q3]) rfl ⟨_, _, _, rfl, (B1.setCell (p := ⟨w.heap.size, 0, none⟩) (Nat.le_refl _) _).setCell (p := ⟨w.heap.size, 1, none⟩) (Nat.le_refl _) _⟩
end Go.Proofs.Ytllgbfoffebojaa
