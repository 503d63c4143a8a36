/- The law of Cauchy walked: what two carry together of inputs that are alone is, squared, no more than the product of what each carries. -/
import Derived.Test.YtcafdkmgjfakdaaPk1
import Derived.Deep.RegionLaw
namespace Go.Proofs.Ytcafdkmgjfakdaa
open Go.RowKit Go.Proofs.Ytcafdkmgjfakdaa.RM

theorem b0_any' (u : World) (o : Obj) : Below u.heap.size u (u.alloc o) := (Below.refl _ _).alloc (Nat.le_refl _) o
theorem Own3.tbX {W W' : World} {B : Nat} {o : Value} {Tb : Nat} {u0 u1 : Value} {vs xs ys : List Fr} (h : Own3 W B o Tb u0 u1 vs xs ys) (hg : W.grownBy W' u0.ownBlock) : W'.cell? ⟨Tb, 0, none⟩ = some u0 ∧ W'.frozen? ⟨Tb, 0, none⟩ = false := by
  have ht := (hg.block Tb h.ltT (fun e => own3_type h.ox h.tb e.symm)).trans h.tb
  exact ⟨by simp [World.cell?, ht], by simp [World.frozen?, ht]⟩
theorem Own3.tbY {W W' : World} {B : Nat} {o : Value} {Tb : Nat} {u0 u1 : Value} {vs xs ys : List Fr} (h : Own3 W B o Tb u0 u1 vs xs ys) (hg : W.grownBy W' u1.ownBlock) : W'.cell? ⟨Tb, 1, none⟩ = some u1 ∧ W'.frozen? ⟨Tb, 1, none⟩ = false := by
  have ht := (hg.block Tb h.ltT (fun e => own3_type h.oy h.tb e.symm)).trans h.tb
  exact ⟨by simp [World.cell?, ht], by simp [World.frozen?, ht]⟩
theorem below_app3 {B e size n : Nat} {v : Value} {xs : List Value} {W W' : World} (h : W.ownsRow B e size v n xs) (hs : B ≤ W.heap.size) (hg : W.grownBy W' v.ownBlock) : Below B W W' :=
  ⟨hg.os, hg.tape, hg.output, hg.size, fun k hk => hg.block k (by omega) (fun e => by have := (World.ownsRow.lt h k e.symm).1; omega)⟩
theorem tab22 {W : World} {B : Nat} {v : Value} {us : List Value} {a b c d : Fr} (h : Tab W B v us [[a, b], [c, d]]) : ∃ g cc g0 c0 g1 c1, v = .slice (some ⟨g, 0, none⟩) 2 cc ∧ W.cell? ⟨g, 0, none⟩ = some (.slice (some ⟨g0, 0, none⟩) 2 c0) ∧ W.cell? ⟨g, 1, none⟩ = some (.slice (some ⟨g1, 0, none⟩) 2 c1) ∧
    W.cell? ⟨g0, 0, none⟩ = some (.int .i64 a.1) ∧ W.cell? ⟨g0, 1, none⟩ = some (.int .i64 a.2) ∧ W.cell? ⟨g0, 2, none⟩ = some (.int .i64 b.1) ∧ W.cell? ⟨g0, 3, none⟩ = some (.int .i64 b.2) ∧
    W.cell? ⟨g1, 0, none⟩ = some (.int .i64 c.1) ∧ W.cell? ⟨g1, 1, none⟩ = some (.int .i64 c.2) ∧ W.cell? ⟨g1, 2, none⟩ = some (.int .i64 d.1) ∧ W.cell? ⟨g1, 3, none⟩ = some (.int .i64 d.2) := by
  have hl : us.length = 2 := h.len
  have h0 := h.outer
  rw [hl] at h0
  obtain ⟨g, cc, rfl, _⟩ := World.ownsRow.form h0 (by omega)
  have i0 := h.inner 0 (by omega)
  have i1 := h.inner 1 (by omega)
  obtain ⟨g0, c0, e0, _⟩ := World.ownsRow.form i0 (by show 0 < 2; omega)
  obtain ⟨g1, c1, e1, _⟩ := World.ownsRow.form i1 (by show 0 < 2; omega)
  have k0 := h0.cellAt 0 (by omega)
  have k1 := h0.cellAt 1 (by omega)
  rw [List.getElem?_eq_getElem (by omega), show us[0]'(by omega) = vl us 0 by simp [vl, List.getElem?_eq_getElem (show 0 < us.length by omega)], e0] at k0
  rw [List.getElem?_eq_getElem (by omega), show us[1]'(by omega) = vl us 1 by simp [vl, List.getElem?_eq_getElem (show 1 < us.length by omega)], e1] at k1
  rw [e0] at i0
  rw [e1] at i1
  exact ⟨g, cc, g0, c0, g1, c1, rfl, k0, k1, i0.cellAt 0 (by show 0 < 2 * 2; omega), i0.cellAt 1 (by show 1 < 2 * 2; omega), i0.cellAt 2 (by show 2 < 2 * 2; omega), i0.cellAt 3 (by show 3 < 2 * 2; omega), i1.cellAt 0 (by show 0 < 2 * 2; omega), i1.cellAt 1 (by show 1 < 2 * 2; omega), i1.cellAt 2 (by show 2 < 2 * 2; omega), i1.cellAt 3 (by show 3 < 2 * 2; omega)⟩
theorem aloneA_smallC (vs : List Fr) : (aloneA vs).length ≤ 1048576 ∧ ∀ i, i < (aloneA vs).length → (rw' (aloneA vs) i).length ≤ 1048576 := by
  cases h : aloneC vs
  · rw [aloneA_no h]
    exact ⟨by simp, fun i hi => absurd hi (Nat.not_lt_zero _)⟩
  · have h6 : vs.length ≤ 6 := by
      unfold aloneC at h
      rw [Bool.and_eq_true, decide_eq_true_eq] at h
      exact h.1.2
    rw [aloneA_yes h]
    have hl : (aloneT vs vs.length).length = vs.length := by simp [aloneT]
    rw [hl]
    refine ⟨by omega, fun i hi => ?_⟩
    have : rw' (aloneT vs vs.length) i = aloneR vs vs.length i := by simp [rw', aloneT, hi]
    rw [this, aloneR_len]; omega
theorem Tab.st' {W : World} {B S : Nat} {v : Value} {us : List Value} {rows : List (List Fr)} (h : Tab W B v us rows) (hu : Under S v us) (o : Nat) (x : Value) : Tab (W.setCell ⟨S, o, none⟩ x) B v us rows := Tab.st h (fun i hi b e => hu.2 i hi b e) (fun b e => hu.1 b e) o x
/-- small variances, none below 0 -/
def SmV (l : List Fr) : Prop := ∀ i, i < l.length → Sm (fr l i) 8 1 ∧ 0 ≤ (fr l i).1
theorem SmV.snoc {l : List Fr} (h : SmV l) {n : Int} (h0 : 0 ≤ n) (h1 : n ≤ 8) : SmV (l ++ [(n, 1)]) := by
  intro i hi
  rw [len_snoc] at hi
  by_cases e : i < l.length
  · rw [fr_app1 _ _ _ e]; exact h i e
  · obtain rfl : i = l.length := by omega
    rw [fr_app2 _ _ _ (Nat.le_refl _), Nat.sub_self]
    exact ⟨whole_sm (by omega) h1 (by omega) (by omega), h0⟩
theorem sMulB (x y : Fr) (w : World) :
    Calls Try.prog 12 #[.agg #[.int .i64 x.1, .int .i64 x.2], .agg #[.int .i64 y.1, .int .i64 y.2]] w fun e w' => e = .returned (.tuple #[.agg #[.int .i64 (mulP x y).1, .int .i64 (mulP x y).2], .bool (mulK x y)]) ∧ Below w.heap.size w w' := sMul_any x.1 x.2 y.1 y.2 w
theorem rdT_at {W : World} {v : Value} {T : List (List Fr)} (h : RdT W v T) {i j : Nat} (hi : i < T.length) (hj : j < (rw' T i).length) : ∃ b off c b2 off2 c2, v = .slice (some ⟨b, off, none⟩) T.length c ∧ W.cell? ⟨b, off + i, none⟩ = some (.slice (some ⟨b2, off2, none⟩) (rw' T i).length c2) ∧ W.cell? ⟨b2, off2 + j * 2, none⟩ = some (.int .i64 (fr (rw' T i) j).1) ∧ W.cell? ⟨b2, off2 + j * 2 + 1, none⟩ = some (.int .i64 (fr (rw' T i) j).2) := by
  obtain ⟨a, c, rfl, _, _, _, h5⟩ := h
  obtain ⟨b, off, u, rfl, h6, a2, c2, rfl, _, _, _, h7⟩ := h5 i hi
  obtain ⟨b2, off2, rfl, h8, h9⟩ := h7 j hj
  exact ⟨b, off, c, b2, off2, c2, rfl, h6, h8, h9⟩

set_option maxRecDepth 100000 in
set_option maxHeartbeats 8000000 in
theorem lawCau (a : Option Addr) (len cap : Nat) (zs : List Int) (w : World) (hr : IsRow .u8 w a len cap zs) :
    Calls Try.prog 3 #[.slice a len cap] w fun e w' => e = .returned (.bool true) ∧ Below w.heap.size w w' := by
  obtain ⟨i0, hi, hz0, hz1, hz2⟩ := info_parts infoF
  have HR := hidW8 hr
  have HBIG := hidW8 (fun W => big_any a len cap W)
  by_cases hbig : 4096 < (len : Int)
  · have HBG : Hid (decide (4096 < (len : Int)) = true) := decide_eq_true hbig
    rw [HBG.out] at HBIG
    go_enter Try.func3, Try.ntmps3
    go_wp2_with fail
    refine (HBIG.out _).mono ?_
    rintro e w1 ⟨rfl, rfl⟩
    go_wp2
    go_ret
    exact ⟨rfl, Below.refl _ _⟩
  have HBG : Hid (decide (4096 < (len : Int)) = false) := decide_eq_false hbig
  have hlen : len ≤ 4096 := by omega
  rw [HBG.out] at HBIG
  have HPK : Hid (∀ (s n : Int) (W : World), 0 ≤ s → s ≤ 1000 → 0 < n → Below w.heap.size w W → Calls Try.prog 6 #[.slice a len cap, .int .i64 s, .int .i64 n] W fun e w' => e = .returned (.int .i64 (pickV len zs s n)) ∧ Below W.heap.size W w') := fun s n W h0 h1 h2 hW => pickV_any a len cap zs s n W (HR.out.below hW) hlen h0 h1 h2
  have HPT : Hid (∀ (s : Int) (W : World), 0 ≤ s → s ≤ 900 → Below w.heap.size w W → Calls Try.prog 7 #[.slice a len cap, .int .i64 s] W fun e w' => ∃ n d : Int, e = .returned (.agg #[.int .i64 n, .int .i64 d]) ∧ okB n d = true ∧ -6 ≤ n ∧ n ≤ 6 ∧ 1 ≤ d ∧ d ≤ 4 ∧ Below W.heap.size W w') := fun s W h0 h1 hW => part_any a len cap zs s W (HR.out.below hW) hlen h0 h1
  clear hr hbig
  go_enter Try.func3, Try.ntmps3
  go_wp2_with fail
  refine (HBIG.out _).mono ?_
  rintro e w0 ⟨rfl, hw⟩
  have hw2 := hw.symm
  subst hw2
  clear hw HBIG HBG
  go_wp2
  obtain ⟨Nb, hNb⟩ : ∃ N, N = w.heap.size := ⟨_, rfl⟩
  obtain ⟨X1, h1⟩ : ∃ X, X = w.alloc (.cells #[] 27) := ⟨_, rfl⟩
  obtain ⟨X2, h2⟩ : ∃ X, X = X1.alloc (.cells #[] 27) := ⟨_, rfl⟩
  obtain ⟨X3, h3⟩ : ∃ X, X = X2.alloc (.cells #[] 27) := ⟨_, rfl⟩
  have s1 : X1.heap.size = Nb + 1 := by rw [h1, hNb]; simp
  have s2 : X2.heap.size = Nb + 2 := by rw [h2]; simp [s1]
  have s3 : X3.heap.size = Nb + 3 := by rw [h3]; simp [s2]
  obtain ⟨X, hX⟩ : ∃ X, X = X3.alloc (.cells #[.slice (some ⟨Nb + 1, 0, none⟩) 0 0, .slice (some ⟨Nb + 2, 0, none⟩) 0 0] 24) := ⟨_, rfl⟩
  have k1 : Below X1.heap.size X1 X2 := by rw [h2]; exact b0_any' _ _
  have k2 : Below X2.heap.size X2 X3 := by rw [h3]; exact b0_any' _ _
  have k3 : Below X3.heap.size X3 X := by rw [hX]; exact b0_any' _ _
  have o1 := litB w w.heap.size (Nat.le_refl _)
  have o2 := litB X1 w.heap.size (by omega)
  have o3 := litB X2 w.heap.size (by omega)
  rw [← h1, ← hNb] at o1
  rw [← h2, s1] at o2
  rw [← h3, s2] at o3
  have T0 : Own3 X w.heap.size (.slice (some ⟨Nb, 0, none⟩) 0 0) (Nb + 3) (.slice (some ⟨Nb + 1, 0, none⟩) 0 0) (.slice (some ⟨Nb + 2, 0, none⟩) 0 0) [] [] [] := by
    refine ⟨own_below (own_below (own_below (by rw [← hNb]; exact o1) k1) k2) k3, own_below (own_below o2 k2) k3, own_below o3 k3, ?_, by omega, ?_, ?_, ?_⟩
    · rw [hX, ← s3]; exact World.alloc_heap_new X3 _
    · intro b h1 h2; simp [Value.ownBlock] at h1 h2; omega
    · intro b h1 h2; simp [Value.ownBlock] at h1 h2; omega
    · intro b h1 h2; simp [Value.ownBlock] at h1 h2; omega
  have B0 : Below w.heap.size w X := by rw [hX, h3, h2, h1]; exact ((((Below.refl _ _).alloc (Nat.le_refl _) _).alloc (by simp) _).alloc (by simp; omega) _).alloc (by simp; omega) _
  obtain ⟨Tb, hTb⟩ : ∃ T, T = Nb + 3 := ⟨_, rfl⟩
  rw [← hTb] at T0
  have HTB := hidW8 (show w.heap.size ≤ Tb by omega)
  rw [← h1, ← hNb, show Nb + 1 + 1 = Nb + 2 by omega, ← h2, ← h3, ← hX, show Nb + 2 + 1 = Tb by omega]
  clear h1 h2 h3 hX hNb s1 s2 s3 k1 k2 k3 o1 o2 o3 hTb
  go_loopw [3, 5] (fun q i wr => ∃ (o u0 u1 : Value) (vs xs ys : List Fr) (k : Nat), k ≤ 3 ∧ i = .int .i64 k ∧ o = q ∧ vs.length = k ∧ xs.length = k ∧ ys.length = k ∧ Hid (Own3 wr w.heap.size o Tb u0 u1 vs xs ys) ∧ Hid (SmV vs ∧ SmL xs 6 4 ∧ SmL ys 6 4) ∧ Hid (Below w.heap.size w wr)) (fun _ i _ => 3 - (intOf i).toNat)
  case atStart => exact ⟨_, _, _, [], [], [], 0, by omega, rfl, rfl, rfl, rfl, rfl, T0, ⟨fun _ h => absurd h (Nat.not_lt_zero _), SmL.nil _ _, SmL.nil _ _⟩, B0⟩
  case round =>
    clear T0 B0
    obtain ⟨o, u0, u1, vs, xs, ys, k, hk, rfl, rfl, lv, lx, ly, hT, HSM, hB⟩ := hrel
    by_cases hlt : k < 3
    · have hki : (k : Int) < 3 := by omega
      obtain ⟨v, hv⟩ : ∃ v, v = pickV len zs (40 + (k : Int)) 7 := ⟨_, rfl⟩
      obtain ⟨x, hx⟩ : ∃ v, v = pickV len zs (10 + (k : Int)) 9 := ⟨_, rfl⟩
      have HV : Hid (0 ≤ v ∧ v ≤ 6) := by have := pickV_in len zs (40 + (k : Int)) (n := 7) (by omega); show _ ∧ _; omega
      have HX := pickV_in len zs (10 + (k : Int)) (n := 9) (by omega)
      have P1 : Hid (∀ W : World, Below w.heap.size w W → Calls Try.prog 6 #[.slice a len cap, .int .i64 (40 + (k : Int)), .int .i64 7] W fun e w' => e = .returned (.int .i64 v) ∧ Below W.heap.size W w') := by
        intro W hW; rw [hv]; exact HPK.out _ _ W (by omega) (by omega) (by omega) hW
      have P2 : Hid (∀ W : World, Below w.heap.size w W → Calls Try.prog 6 #[.slice a len cap, .int .i64 (10 + (k : Int)), .int .i64 9] W fun e w' => e = .returned (.int .i64 x) ∧ Below W.heap.size W w') := by
        intro W hW; rw [hx]; exact HPK.out _ _ W (by omega) (by omega) (by omega) hW
      have P3 := hidW8 (fun (W : World) (hW : Below w.heap.size w W) => HPT.out (20 + (k : Int)) W (by omega) (by omega) hW)
      rw [← hx] at HX
      have hx0 := HX.1
      have hx1 := HX.2
      clear hv hx HX
      have hmvs : vs.length + 1 ≤ maxLen := by unfold maxLen; omega
      have hmxs : xs.length + 1 ≤ maxLen := by unfold maxLen; omega
      have hmys : ys.length + 1 ≤ maxLen := by unfold maxLen; omega
      have T : Own3 wr w.heap.size o Tb u0 u1 vs xs ys := hT.out
      have BB : Below w.heap.size w wr := hB.out
      clear hT hB
      go_wp2_with fail
      refine (P1.out _ BB).mono ?_
      rintro e w1 ⟨rfl, hb⟩
      replace T := T.below hb
      replace BB := BB.trans (hb.mono BB.size)
      clear hb
      go_wp2_with fail
      refine (wholeB_any v _).mono ?_
      rintro e w2 ⟨rfl, hb⟩
      replace T := T.below hb
      replace BB := BB.trans (hb.mono BB.size)
      have hz2' := BB.size
      clear hb P1
      go_upto_region 9 with (at_builtin; refine wpList_append_own_at _ rfl _ _ 24 rfl w.heap.size 27 i0 (.agg #[.int .i64 0, .int .i64 0]) 2 16 Try.underlying24 hi hz0 hz1 hz2 rfl (by decide) _ _ _ rfl (T.ov.alloc _) ⟨w2.heap.size, 0, none⟩ 1 1 [.int .i64 v, .int .i64 1] rfl rfl (cell_twoF _ _ _ _) (by intro u hu; simp at hu; rcases hu with rfl | rfl <;> rfl) hmvs (by unfold maxLen at hmvs; omega) (by simp; omega) ?_; intro o' wcur hown' hgrow _ hbl)
      have BA : Below w.heap.size w wcur := BB.trans ((below_appended T.ov hz2' hgrow).mono (by omega))
      replace T := (T.below (b0_any' w2 (.cells #[.int .i64 v, .int .i64 1] 27))).appV hown' hgrow hbl
      replace BB := BA
      clear hown' hgrow hbl BA hz2'
      go_cut [] from 31 to 54 (fun wx => ∃ u0', Hid (Own3 wx w.heap.size o' Tb u0' u1 (vs ++ [(v, 1)]) (xs ++ [(x - 4, 1)]) ys) ∧ Hid (Below w.heap.size w wx))
      case first =>
        have hb := (Below.refl wcur.heap.size wcur).drew
        replace T := T.below hb
        replace BB := BB.trans (hb.mono BB.size)
        have hz := BB.size
        have c0 := T.c0
        have c1 := T.c1
        clear hb
        refine wp_region_noPanic ?_
        refine wp_region_held_drew (S := fun _ => True) (by kernel_rfl) trivial (fun hHeld => ?_)
        obtain ⟨wd, hwd⟩ : ∃ u, u = wcur.drew := ⟨_, rfl⟩
        rw [← hwd] at T BB hz c0 c1 ⊢
        clear hwd
        refine wpAnyH_take (i := 0) (v := ?_) rfl (by kernel_rfl) (by kernel_rfl) (by kernel_rfl) (fun _ _ _ h => h) (Or.inl ⟨by kernel_rfl, ?_⟩) hHeld ?_
        rotate_left
        · intro wz hSw; (try dsimp only at hSw); go_simp; all_goals (try with_reducible rfl)
        (try simp only [List.getElem_toArray]); (try simp only [List.getElem_cons_succ]); (try simp only [List.getElem_cons_zero]); (try simp only [Act.put]); (try simp only [List.setIfInBounds_toArray]); (try simp only [List.set_cons_succ]); (try simp only [List.set_cons_zero])
        refine wpAnyH_take (i := 1) (v := ?_) rfl (by kernel_rfl) (by kernel_rfl) (by kernel_rfl) (fun _ _ _ h => h) (Or.inl ⟨by kernel_rfl, ?_⟩) hHeld ?_
        rotate_left
        · intro wz hSw; (try dsimp only at hSw); go_simp; all_goals (try with_reducible rfl)
        (try simp only [List.getElem_toArray]); (try simp only [List.getElem_cons_succ]); (try simp only [List.getElem_cons_zero]); (try simp only [Act.put]); (try simp only [List.setIfInBounds_toArray]); (try simp only [List.set_cons_succ]); (try simp only [List.set_cons_zero])
        refine wpAnyH_take (i := 2) (v := ?_) rfl (by kernel_rfl) (by kernel_rfl) (by kernel_rfl) (fun _ _ _ h => h) (Or.inl ⟨by kernel_rfl, ?_⟩) hHeld ?_
        rotate_left
        · intro wz hSw; (try dsimp only at hSw); go_simp; all_goals (try with_reducible rfl)
        (try simp only [List.getElem_toArray]); (try simp only [List.getElem_cons_succ]); (try simp only [List.getElem_cons_zero]); (try simp only [Act.put]); (try simp only [List.setIfInBounds_toArray]); (try simp only [List.set_cons_succ]); (try simp only [List.set_cons_zero])
        refine wpAnyH_take (i := 4) (v := ?_) rfl (by kernel_rfl) (by kernel_rfl) (by kernel_rfl) (fun _ _ _ h => h) (Or.inl ⟨by kernel_rfl, ?_⟩) hHeld ?_
        rotate_left
        · intro wz hSw; (try dsimp only at hSw); go_simp; all_goals (try with_reducible rfl)
        (try simp only [List.getElem_toArray]); (try simp only [List.getElem_cons_succ]); (try simp only [List.getElem_cons_zero]); (try simp only [Act.put]); (try simp only [List.setIfInBounds_toArray]); (try simp only [List.set_cons_succ]); (try simp only [List.set_cons_zero])
        refine wpAnyH_take (i := 5) (v := ?_) rfl (by kernel_rfl) (by kernel_rfl) (by kernel_rfl) (fun _ _ _ h => h) (Or.inl ⟨by kernel_rfl, ?_⟩) hHeld ?_
        rotate_left
        · intro wz hSw; (try dsimp only at hSw); go_simp; all_goals (try with_reducible rfl)
        (try simp only [List.getElem_toArray]); (try simp only [List.getElem_cons_succ]); (try simp only [List.getElem_cons_zero]); (try simp only [Act.put]); (try simp only [List.setIfInBounds_toArray]); (try simp only [List.set_cons_succ]); (try simp only [List.set_cons_zero])
        refine wpAnyH_take (i := 6) (v := .int .i64 (10 + (k : Int))) rfl (by kernel_rfl) (by kernel_rfl) (by kernel_rfl) (fun _ _ _ h => h) (Or.inl ⟨by kernel_rfl, ?_⟩) hHeld ?_
        skip
        · intro wz hSw; (try dsimp only at hSw); go_simp; all_goals (try with_reducible rfl); all_goals (try (rw [IntKind.wrap_i64]; omega))
        (try simp only [List.getElem_toArray]); (try simp only [List.getElem_cons_succ]); (try simp only [List.getElem_cons_zero]); (try simp only [Act.put]); (try simp only [List.setIfInBounds_toArray]); (try simp only [List.set_cons_succ]); (try simp only [List.set_cons_zero])
        refine wpAnyH_ready (rs := [3, 7]) (by kernel_rfl) (by simp) (AllReadyH.cons rfl (fun Kc hKc => ?_) (AllReadyH.cons rfl (fun Kc hKc => ?_) AllReadyH.nil))
        · go_simp
          refine hKc.out _ _ trivial (fun hHeld => ?_)
          clear hKc Kc
          (try simp only [List.getElem_toArray]); (try simp only [List.getElem_cons_succ]); (try simp only [List.getElem_cons_zero]); (try simp only [Act.put]); (try simp only [List.setIfInBounds_toArray]); (try simp only [List.set_cons_succ]); (try simp only [List.set_cons_zero])
          refine wpAnyH_ready (rs := [7]) (by kernel_rfl) (by simp) (AllReadyH.cons rfl (fun Kc hKc => ?_) AllReadyH.nil)
          go_simp
          (go_at_call 6; refine (P2.out _ BB).mono ?_; rintro e w6 ⟨rfl, hb⟩)
          replace T := T.below hb
          replace BB := BB.trans (hb.mono BB.size)
          have hz := BB.size
          have c0 := T.c0
          have c1 := T.c1
          clear hb
          go_wp2_with fail
          refine hKc.out _ _ trivial (fun hHeld => ?_)
          clear hKc Kc
          (try simp only [List.getElem_toArray]); (try simp only [List.getElem_cons_succ]); (try simp only [List.getElem_cons_zero]); (try simp only [Act.put]); (try simp only [List.setIfInBounds_toArray]); (try simp only [List.set_cons_succ]); (try simp only [List.set_cons_zero])
          refine wpAnyH_take (i := 8) (v := .int .i64 (x - 4)) rfl (by kernel_rfl) (by kernel_rfl) (by kernel_rfl) (fun _ _ _ h => h) (Or.inl ⟨by kernel_rfl, ?_⟩) hHeld ?_
          skip
          · intro wz hSw; (try dsimp only at hSw); go_simp; all_goals (try with_reducible rfl); all_goals (try (rw [IntKind.wrap_i64]; omega))
          (try simp only [List.getElem_toArray]); (try simp only [List.getElem_cons_succ]); (try simp only [List.getElem_cons_zero]); (try simp only [Act.put]); (try simp only [List.setIfInBounds_toArray]); (try simp only [List.set_cons_succ]); (try simp only [List.set_cons_zero])
          refine wpAnyH_ready (rs := [9]) (by kernel_rfl) (by simp) (AllReadyH.cons rfl (fun Kc hKc => ?_) AllReadyH.nil)
          go_simp
          (go_at_call 5; refine (wholeB_any (x - 4) _).mono ?_; rintro e w7 ⟨rfl, hb⟩)
          replace T := T.below hb
          replace BB := BB.trans (hb.mono BB.size)
          have hz := BB.size
          have c0 := T.c0
          have c1 := T.c1
          clear hb
          go_wp2_with fail
          refine hKc.out _ _ trivial (fun hHeld => ?_)
          clear hKc Kc
          (try simp only [List.getElem_toArray]); (try simp only [List.getElem_cons_succ]); (try simp only [List.getElem_cons_zero]); (try simp only [Act.put]); (try simp only [List.setIfInBounds_toArray]); (try simp only [List.set_cons_succ]); (try simp only [List.set_cons_zero])
          refine wpAnyH_ready (rs := [10]) (by kernel_rfl) (by simp) (AllReadyH.cons rfl (fun Kc hKc => ?_) AllReadyH.nil)
          go_simp
          have hb := b0_any' w7 (.cells #[(.int .i64 (x - 4)), .int .i64 1] 27)
          replace T := T.below hb
          replace BB := BB.trans (hb.mono BB.size)
          have hz := BB.size
          have c0 := T.c0
          have c1 := T.c1
          clear hb
          refine hKc.out _ _ trivial (fun hHeld => ?_)
          clear hKc Kc
          (try simp only [List.getElem_toArray]); (try simp only [List.getElem_cons_succ]); (try simp only [List.getElem_cons_zero]); (try simp only [Act.put]); (try simp only [List.setIfInBounds_toArray]); (try simp only [List.set_cons_succ]); (try simp only [List.set_cons_zero])
          refine wpAnyH_ready (rs := [11]) (by kernel_rfl) (by simp) (AllReadyH.cons rfl (fun Kc hKc => ?_) AllReadyH.nil)
          refine step_app_at rfl (.tmp 34) (.tmp 41) 24 rfl w.heap.size 27 i0 (.agg #[.int .i64 0, .int .i64 0]) 2 16 Try.underlying24 hi hz0 hz1 hz2 rfl (by decide) u0 xs.length _ (by simp [Act.eval]) T.ox ⟨w7.heap.size, 0, none⟩ 1 1 [.int .i64 (x - 4), .int .i64 1] (by simp [Act.eval]) rfl (cell_twoF _ _ _ _) (by intro u hu; simp at hu; rcases hu with rfl | rfl <;> rfl) hmxs (by unfold maxLen at hmxs; omega) (by simp; omega) ?_
          intro u' w9 hown' hgrow hbl
          obtain ⟨g9, c9, rfl, -⟩ := World.ownsRow.form hown' (by omega)
          have T9 := T.appX hown' hgrow hbl
          rw [lx] at T9
          obtain ⟨c0, f0⟩ := T.tbX hgrow
          have B9 : Below w.heap.size w w9 := BB.trans ((below_app3 T.ox hz hgrow))
          refine hKc.out _ _ trivial (fun hHeld => ?_)
          clear hKc Kc
          (try simp only [List.getElem_toArray]); (try simp only [List.getElem_cons_succ]); (try simp only [List.getElem_cons_zero]); (try simp only [Act.put]); (try simp only [List.setIfInBounds_toArray]); (try simp only [List.set_cons_succ]); (try simp only [List.set_cons_zero])
          refine wpAnyH_take (i := 12) (v := ?_) rfl (by kernel_rfl) (by kernel_rfl) (by kernel_rfl) (fun _ _ _ h => h) (Or.inl ⟨by kernel_rfl, ?_⟩) hHeld ?_
          rotate_left
          · intro wz hSw; (try dsimp only at hSw); go_simp; all_goals (try with_reducible rfl)
          (try simp only [List.getElem_toArray]); (try simp only [List.getElem_cons_succ]); (try simp only [List.getElem_cons_zero]); (try simp only [Act.put]); (try simp only [List.setIfInBounds_toArray]); (try simp only [List.set_cons_succ]); (try simp only [List.set_cons_zero])
          refine wpAnyH_ready (rs := [13]) (by kernel_rfl) (by simp) (AllReadyH.cons rfl (fun Kc hKc => ?_) AllReadyH.nil)
          go_simp
          refine hKc.out _ _ trivial (fun hHeld => ?_)
          clear hKc Kc
          (try simp only [List.getElem_toArray]); (try simp only [List.getElem_cons_succ]); (try simp only [List.getElem_cons_zero]); (try simp only [Act.put]); (try simp only [List.setIfInBounds_toArray]); (try simp only [List.set_cons_succ]); (try simp only [List.set_cons_zero])
          refine wpAnyH_done (by kernel_rfl) ?_ _
          refine NoPanic.normal ?_
          go_wp2
          go_meet
          case rel => exact ⟨_, T9, B9.setCell (p := ⟨Tb, 0, none⟩) HTB.out _⟩
        · go_simp
          (go_at_call 6; refine (P2.out _ BB).mono ?_; rintro e w6 ⟨rfl, hb⟩)
          replace T := T.below hb
          replace BB := BB.trans (hb.mono BB.size)
          have hz := BB.size
          have c0 := T.c0
          have c1 := T.c1
          clear hb
          go_wp2_with fail
          refine hKc.out _ _ trivial (fun hHeld => ?_)
          clear hKc Kc
          (try simp only [List.getElem_toArray]); (try simp only [List.getElem_cons_succ]); (try simp only [List.getElem_cons_zero]); (try simp only [Act.put]); (try simp only [List.setIfInBounds_toArray]); (try simp only [List.set_cons_succ]); (try simp only [List.set_cons_zero])
          refine wpAnyH_take (i := 8) (v := .int .i64 (x - 4)) rfl (by kernel_rfl) (by kernel_rfl) (by kernel_rfl) (fun _ _ _ h => h) (Or.inl ⟨by kernel_rfl, ?_⟩) hHeld ?_
          skip
          · intro wz hSw; (try dsimp only at hSw); go_simp; all_goals (try with_reducible rfl); all_goals (try (rw [IntKind.wrap_i64]; omega))
          (try simp only [List.getElem_toArray]); (try simp only [List.getElem_cons_succ]); (try simp only [List.getElem_cons_zero]); (try simp only [Act.put]); (try simp only [List.setIfInBounds_toArray]); (try simp only [List.set_cons_succ]); (try simp only [List.set_cons_zero])
          refine wpAnyH_ready (rs := [3, 9]) (by kernel_rfl) (by simp) (AllReadyH.cons rfl (fun Kc hKc => ?_) (AllReadyH.cons rfl (fun Kc hKc => ?_) AllReadyH.nil))
          · go_simp
            refine hKc.out _ _ trivial (fun hHeld => ?_)
            clear hKc Kc
            (try simp only [List.getElem_toArray]); (try simp only [List.getElem_cons_succ]); (try simp only [List.getElem_cons_zero]); (try simp only [Act.put]); (try simp only [List.setIfInBounds_toArray]); (try simp only [List.set_cons_succ]); (try simp only [List.set_cons_zero])
            refine wpAnyH_ready (rs := [9]) (by kernel_rfl) (by simp) (AllReadyH.cons rfl (fun Kc hKc => ?_) AllReadyH.nil)
            go_simp
            (go_at_call 5; refine (wholeB_any (x - 4) _).mono ?_; rintro e w7 ⟨rfl, hb⟩)
            replace T := T.below hb
            replace BB := BB.trans (hb.mono BB.size)
            have hz := BB.size
            have c0 := T.c0
            have c1 := T.c1
            clear hb
            go_wp2_with fail
            refine hKc.out _ _ trivial (fun hHeld => ?_)
            clear hKc Kc
            (try simp only [List.getElem_toArray]); (try simp only [List.getElem_cons_succ]); (try simp only [List.getElem_cons_zero]); (try simp only [Act.put]); (try simp only [List.setIfInBounds_toArray]); (try simp only [List.set_cons_succ]); (try simp only [List.set_cons_zero])
            refine wpAnyH_ready (rs := [10]) (by kernel_rfl) (by simp) (AllReadyH.cons rfl (fun Kc hKc => ?_) AllReadyH.nil)
            go_simp
            have hb := b0_any' w7 (.cells #[(.int .i64 (x - 4)), .int .i64 1] 27)
            replace T := T.below hb
            replace BB := BB.trans (hb.mono BB.size)
            have hz := BB.size
            have c0 := T.c0
            have c1 := T.c1
            clear hb
            refine hKc.out _ _ trivial (fun hHeld => ?_)
            clear hKc Kc
            (try simp only [List.getElem_toArray]); (try simp only [List.getElem_cons_succ]); (try simp only [List.getElem_cons_zero]); (try simp only [Act.put]); (try simp only [List.setIfInBounds_toArray]); (try simp only [List.set_cons_succ]); (try simp only [List.set_cons_zero])
            refine wpAnyH_ready (rs := [11]) (by kernel_rfl) (by simp) (AllReadyH.cons rfl (fun Kc hKc => ?_) AllReadyH.nil)
            refine step_app_at rfl (.tmp 34) (.tmp 41) 24 rfl w.heap.size 27 i0 (.agg #[.int .i64 0, .int .i64 0]) 2 16 Try.underlying24 hi hz0 hz1 hz2 rfl (by decide) u0 xs.length _ (by simp [Act.eval]) T.ox ⟨w7.heap.size, 0, none⟩ 1 1 [.int .i64 (x - 4), .int .i64 1] (by simp [Act.eval]) rfl (cell_twoF _ _ _ _) (by intro u hu; simp at hu; rcases hu with rfl | rfl <;> rfl) hmxs (by unfold maxLen at hmxs; omega) (by simp; omega) ?_
            intro u' w9 hown' hgrow hbl
            obtain ⟨g9, c9, rfl, -⟩ := World.ownsRow.form hown' (by omega)
            have T9 := T.appX hown' hgrow hbl
            rw [lx] at T9
            obtain ⟨c0, f0⟩ := T.tbX hgrow
            have B9 : Below w.heap.size w w9 := BB.trans ((below_app3 T.ox hz hgrow))
            refine hKc.out _ _ trivial (fun hHeld => ?_)
            clear hKc Kc
            (try simp only [List.getElem_toArray]); (try simp only [List.getElem_cons_succ]); (try simp only [List.getElem_cons_zero]); (try simp only [Act.put]); (try simp only [List.setIfInBounds_toArray]); (try simp only [List.set_cons_succ]); (try simp only [List.set_cons_zero])
            refine wpAnyH_take (i := 12) (v := ?_) rfl (by kernel_rfl) (by kernel_rfl) (by kernel_rfl) (fun _ _ _ h => h) (Or.inl ⟨by kernel_rfl, ?_⟩) hHeld ?_
            rotate_left
            · intro wz hSw; (try dsimp only at hSw); go_simp; all_goals (try with_reducible rfl)
            (try simp only [List.getElem_toArray]); (try simp only [List.getElem_cons_succ]); (try simp only [List.getElem_cons_zero]); (try simp only [Act.put]); (try simp only [List.setIfInBounds_toArray]); (try simp only [List.set_cons_succ]); (try simp only [List.set_cons_zero])
            refine wpAnyH_ready (rs := [13]) (by kernel_rfl) (by simp) (AllReadyH.cons rfl (fun Kc hKc => ?_) AllReadyH.nil)
            go_simp
            refine hKc.out _ _ trivial (fun hHeld => ?_)
            clear hKc Kc
            (try simp only [List.getElem_toArray]); (try simp only [List.getElem_cons_succ]); (try simp only [List.getElem_cons_zero]); (try simp only [Act.put]); (try simp only [List.setIfInBounds_toArray]); (try simp only [List.set_cons_succ]); (try simp only [List.set_cons_zero])
            refine wpAnyH_done (by kernel_rfl) ?_ _
            refine NoPanic.normal ?_
            go_wp2
            go_meet
            case rel => exact ⟨_, T9, B9.setCell (p := ⟨Tb, 0, none⟩) HTB.out _⟩
          · go_simp
            (go_at_call 5; refine (wholeB_any (x - 4) _).mono ?_; rintro e w7 ⟨rfl, hb⟩)
            replace T := T.below hb
            replace BB := BB.trans (hb.mono BB.size)
            have hz := BB.size
            have c0 := T.c0
            have c1 := T.c1
            clear hb
            go_wp2_with fail
            refine hKc.out _ _ trivial (fun hHeld => ?_)
            clear hKc Kc
            (try simp only [List.getElem_toArray]); (try simp only [List.getElem_cons_succ]); (try simp only [List.getElem_cons_zero]); (try simp only [Act.put]); (try simp only [List.setIfInBounds_toArray]); (try simp only [List.set_cons_succ]); (try simp only [List.set_cons_zero])
            refine wpAnyH_ready (rs := [3, 10]) (by kernel_rfl) (by simp) (AllReadyH.cons rfl (fun Kc hKc => ?_) (AllReadyH.cons rfl (fun Kc hKc => ?_) AllReadyH.nil))
            · go_simp
              refine hKc.out _ _ trivial (fun hHeld => ?_)
              clear hKc Kc
              (try simp only [List.getElem_toArray]); (try simp only [List.getElem_cons_succ]); (try simp only [List.getElem_cons_zero]); (try simp only [Act.put]); (try simp only [List.setIfInBounds_toArray]); (try simp only [List.set_cons_succ]); (try simp only [List.set_cons_zero])
              refine wpAnyH_ready (rs := [10]) (by kernel_rfl) (by simp) (AllReadyH.cons rfl (fun Kc hKc => ?_) AllReadyH.nil)
              go_simp
              have hb := b0_any' w7 (.cells #[(.int .i64 (x - 4)), .int .i64 1] 27)
              replace T := T.below hb
              replace BB := BB.trans (hb.mono BB.size)
              have hz := BB.size
              have c0 := T.c0
              have c1 := T.c1
              clear hb
              refine hKc.out _ _ trivial (fun hHeld => ?_)
              clear hKc Kc
              (try simp only [List.getElem_toArray]); (try simp only [List.getElem_cons_succ]); (try simp only [List.getElem_cons_zero]); (try simp only [Act.put]); (try simp only [List.setIfInBounds_toArray]); (try simp only [List.set_cons_succ]); (try simp only [List.set_cons_zero])
              refine wpAnyH_ready (rs := [11]) (by kernel_rfl) (by simp) (AllReadyH.cons rfl (fun Kc hKc => ?_) AllReadyH.nil)
              refine step_app_at rfl (.tmp 34) (.tmp 41) 24 rfl w.heap.size 27 i0 (.agg #[.int .i64 0, .int .i64 0]) 2 16 Try.underlying24 hi hz0 hz1 hz2 rfl (by decide) u0 xs.length _ (by simp [Act.eval]) T.ox ⟨w7.heap.size, 0, none⟩ 1 1 [.int .i64 (x - 4), .int .i64 1] (by simp [Act.eval]) rfl (cell_twoF _ _ _ _) (by intro u hu; simp at hu; rcases hu with rfl | rfl <;> rfl) hmxs (by unfold maxLen at hmxs; omega) (by simp; omega) ?_
              intro u' w9 hown' hgrow hbl
              obtain ⟨g9, c9, rfl, -⟩ := World.ownsRow.form hown' (by omega)
              have T9 := T.appX hown' hgrow hbl
              rw [lx] at T9
              obtain ⟨c0, f0⟩ := T.tbX hgrow
              have B9 : Below w.heap.size w w9 := BB.trans ((below_app3 T.ox hz hgrow))
              refine hKc.out _ _ trivial (fun hHeld => ?_)
              clear hKc Kc
              (try simp only [List.getElem_toArray]); (try simp only [List.getElem_cons_succ]); (try simp only [List.getElem_cons_zero]); (try simp only [Act.put]); (try simp only [List.setIfInBounds_toArray]); (try simp only [List.set_cons_succ]); (try simp only [List.set_cons_zero])
              refine wpAnyH_take (i := 12) (v := ?_) rfl (by kernel_rfl) (by kernel_rfl) (by kernel_rfl) (fun _ _ _ h => h) (Or.inl ⟨by kernel_rfl, ?_⟩) hHeld ?_
              rotate_left
              · intro wz hSw; (try dsimp only at hSw); go_simp; all_goals (try with_reducible rfl)
              (try simp only [List.getElem_toArray]); (try simp only [List.getElem_cons_succ]); (try simp only [List.getElem_cons_zero]); (try simp only [Act.put]); (try simp only [List.setIfInBounds_toArray]); (try simp only [List.set_cons_succ]); (try simp only [List.set_cons_zero])
              refine wpAnyH_ready (rs := [13]) (by kernel_rfl) (by simp) (AllReadyH.cons rfl (fun Kc hKc => ?_) AllReadyH.nil)
              go_simp
              refine hKc.out _ _ trivial (fun hHeld => ?_)
              clear hKc Kc
              (try simp only [List.getElem_toArray]); (try simp only [List.getElem_cons_succ]); (try simp only [List.getElem_cons_zero]); (try simp only [Act.put]); (try simp only [List.setIfInBounds_toArray]); (try simp only [List.set_cons_succ]); (try simp only [List.set_cons_zero])
              refine wpAnyH_done (by kernel_rfl) ?_ _
              refine NoPanic.normal ?_
              go_wp2
              go_meet
              case rel => exact ⟨_, T9, B9.setCell (p := ⟨Tb, 0, none⟩) HTB.out _⟩
            · go_simp
              have hb := b0_any' w7 (.cells #[(.int .i64 (x - 4)), .int .i64 1] 27)
              replace T := T.below hb
              replace BB := BB.trans (hb.mono BB.size)
              have hz := BB.size
              have c0 := T.c0
              have c1 := T.c1
              clear hb
              refine hKc.out _ _ trivial (fun hHeld => ?_)
              clear hKc Kc
              (try simp only [List.getElem_toArray]); (try simp only [List.getElem_cons_succ]); (try simp only [List.getElem_cons_zero]); (try simp only [Act.put]); (try simp only [List.setIfInBounds_toArray]); (try simp only [List.set_cons_succ]); (try simp only [List.set_cons_zero])
              refine wpAnyH_ready (rs := [3]) (by kernel_rfl) (by simp) (AllReadyH.cons rfl (fun Kc hKc => ?_) AllReadyH.nil)
              go_simp
              refine hKc.out _ _ trivial (fun hHeld => ?_)
              clear hKc Kc
              (try simp only [List.getElem_toArray]); (try simp only [List.getElem_cons_succ]); (try simp only [List.getElem_cons_zero]); (try simp only [Act.put]); (try simp only [List.setIfInBounds_toArray]); (try simp only [List.set_cons_succ]); (try simp only [List.set_cons_zero])
              refine wpAnyH_ready (rs := [11]) (by kernel_rfl) (by simp) (AllReadyH.cons rfl (fun Kc hKc => ?_) AllReadyH.nil)
              refine step_app_at rfl (.tmp 34) (.tmp 41) 24 rfl w.heap.size 27 i0 (.agg #[.int .i64 0, .int .i64 0]) 2 16 Try.underlying24 hi hz0 hz1 hz2 rfl (by decide) u0 xs.length _ (by simp [Act.eval]) T.ox ⟨w7.heap.size, 0, none⟩ 1 1 [.int .i64 (x - 4), .int .i64 1] (by simp [Act.eval]) rfl (cell_twoF _ _ _ _) (by intro u hu; simp at hu; rcases hu with rfl | rfl <;> rfl) hmxs (by unfold maxLen at hmxs; omega) (by simp; omega) ?_
              intro u' w9 hown' hgrow hbl
              obtain ⟨g9, c9, rfl, -⟩ := World.ownsRow.form hown' (by omega)
              have T9 := T.appX hown' hgrow hbl
              rw [lx] at T9
              obtain ⟨c0, f0⟩ := T.tbX hgrow
              have B9 : Below w.heap.size w w9 := BB.trans ((below_app3 T.ox hz hgrow))
              refine hKc.out _ _ trivial (fun hHeld => ?_)
              clear hKc Kc
              (try simp only [List.getElem_toArray]); (try simp only [List.getElem_cons_succ]); (try simp only [List.getElem_cons_zero]); (try simp only [Act.put]); (try simp only [List.setIfInBounds_toArray]); (try simp only [List.set_cons_succ]); (try simp only [List.set_cons_zero])
              refine wpAnyH_take (i := 12) (v := ?_) rfl (by kernel_rfl) (by kernel_rfl) (by kernel_rfl) (fun _ _ _ h => h) (Or.inl ⟨by kernel_rfl, ?_⟩) hHeld ?_
              rotate_left
              · intro wz hSw; (try dsimp only at hSw); go_simp; all_goals (try with_reducible rfl)
              (try simp only [List.getElem_toArray]); (try simp only [List.getElem_cons_succ]); (try simp only [List.getElem_cons_zero]); (try simp only [Act.put]); (try simp only [List.setIfInBounds_toArray]); (try simp only [List.set_cons_succ]); (try simp only [List.set_cons_zero])
              refine wpAnyH_ready (rs := [13]) (by kernel_rfl) (by simp) (AllReadyH.cons rfl (fun Kc hKc => ?_) AllReadyH.nil)
              go_simp
              refine hKc.out _ _ trivial (fun hHeld => ?_)
              clear hKc Kc
              (try simp only [List.getElem_toArray]); (try simp only [List.getElem_cons_succ]); (try simp only [List.getElem_cons_zero]); (try simp only [Act.put]); (try simp only [List.setIfInBounds_toArray]); (try simp only [List.set_cons_succ]); (try simp only [List.set_cons_zero])
              refine wpAnyH_done (by kernel_rfl) ?_ _
              refine NoPanic.normal ?_
              go_wp2
              go_meet
              case rel => exact ⟨_, T9, B9.setCell (p := ⟨Tb, 0, none⟩) HTB.out _⟩
      case rest =>
        clear T BB P2
        obtain ⟨u0', hT, hB⟩ := hcut
        have T : Own3 wc w.heap.size o' Tb u0' u1 (vs ++ [(v, 1)]) (xs ++ [(x - 4, 1)]) ys := hT.out
        have BB : Below w.heap.size w wc := hB.out
        clear hT hB
        go_upto_region 10 with fail
        obtain ⟨wcur, hwc⟩ : ∃ u, u = wc := ⟨_, rfl⟩
        rw [← hwc] at T BB ⊢
        clear hwc
        have hb := (Below.refl wcur.heap.size wcur).drew
        replace T := T.below hb
        replace BB := BB.trans (hb.mono BB.size)
        have hz := BB.size
        have c0 := T.c0
        have c1 := T.c1
        clear hb
        refine wp_region_noPanic ?_
        refine wp_region_held_drew (S := fun _ => True) (by kernel_rfl) trivial (fun hHeld => ?_)
        obtain ⟨wd, hwd⟩ : ∃ u, u = wcur.drew := ⟨_, rfl⟩
        rw [← hwd] at T BB hz c0 c1 ⊢
        clear hwd
        refine wpAnyH_take (i := 0) (v := ?_) rfl (by kernel_rfl) (by kernel_rfl) (by kernel_rfl) (fun _ _ _ h => h) (Or.inl ⟨by kernel_rfl, ?_⟩) hHeld ?_
        rotate_left
        · intro wz hSw; (try dsimp only at hSw); go_simp; all_goals (try with_reducible rfl)
        (try simp only [List.getElem_toArray]); (try simp only [List.getElem_cons_succ]); (try simp only [List.getElem_cons_zero]); (try simp only [Act.put]); (try simp only [List.setIfInBounds_toArray]); (try simp only [List.set_cons_succ]); (try simp only [List.set_cons_zero])
        refine wpAnyH_take (i := 1) (v := ?_) rfl (by kernel_rfl) (by kernel_rfl) (by kernel_rfl) (fun _ _ _ h => h) (Or.inl ⟨by kernel_rfl, ?_⟩) hHeld ?_
        rotate_left
        · intro wz hSw; (try dsimp only at hSw); go_simp; all_goals (try with_reducible rfl)
        (try simp only [List.getElem_toArray]); (try simp only [List.getElem_cons_succ]); (try simp only [List.getElem_cons_zero]); (try simp only [Act.put]); (try simp only [List.setIfInBounds_toArray]); (try simp only [List.set_cons_succ]); (try simp only [List.set_cons_zero])
        refine wpAnyH_take (i := 2) (v := ?_) rfl (by kernel_rfl) (by kernel_rfl) (by kernel_rfl) (fun _ _ _ h => h) (Or.inl ⟨by kernel_rfl, ?_⟩) hHeld ?_
        rotate_left
        · intro wz hSw; (try dsimp only at hSw); go_simp; all_goals (try with_reducible rfl)
        (try simp only [List.getElem_toArray]); (try simp only [List.getElem_cons_succ]); (try simp only [List.getElem_cons_zero]); (try simp only [Act.put]); (try simp only [List.setIfInBounds_toArray]); (try simp only [List.set_cons_succ]); (try simp only [List.set_cons_zero])
        refine wpAnyH_take (i := 4) (v := ?_) rfl (by kernel_rfl) (by kernel_rfl) (by kernel_rfl) (fun _ _ _ h => h) (Or.inl ⟨by kernel_rfl, ?_⟩) hHeld ?_
        rotate_left
        · intro wz hSw; (try dsimp only at hSw); go_simp; all_goals (try with_reducible rfl)
        (try simp only [List.getElem_toArray]); (try simp only [List.getElem_cons_succ]); (try simp only [List.getElem_cons_zero]); (try simp only [Act.put]); (try simp only [List.setIfInBounds_toArray]); (try simp only [List.set_cons_succ]); (try simp only [List.set_cons_zero])
        refine wpAnyH_take (i := 5) (v := ?_) rfl (by kernel_rfl) (by kernel_rfl) (by kernel_rfl) (fun _ _ _ h => h) (Or.inl ⟨by kernel_rfl, ?_⟩) hHeld ?_
        rotate_left
        · intro wz hSw; (try dsimp only at hSw); go_simp; all_goals (try with_reducible rfl)
        (try simp only [List.getElem_toArray]); (try simp only [List.getElem_cons_succ]); (try simp only [List.getElem_cons_zero]); (try simp only [Act.put]); (try simp only [List.setIfInBounds_toArray]); (try simp only [List.set_cons_succ]); (try simp only [List.set_cons_zero])
        refine wpAnyH_take (i := 6) (v := .int .i64 (20 + (k : Int))) rfl (by kernel_rfl) (by kernel_rfl) (by kernel_rfl) (fun _ _ _ h => h) (Or.inl ⟨by kernel_rfl, ?_⟩) hHeld ?_
        skip
        · intro wz hSw; (try dsimp only at hSw); go_simp; all_goals (try with_reducible rfl); all_goals (try (rw [IntKind.wrap_i64]; omega))
        (try simp only [List.getElem_toArray]); (try simp only [List.getElem_cons_succ]); (try simp only [List.getElem_cons_zero]); (try simp only [Act.put]); (try simp only [List.setIfInBounds_toArray]); (try simp only [List.set_cons_succ]); (try simp only [List.set_cons_zero])
        refine wpAnyH_ready (rs := [3, 7]) (by kernel_rfl) (by simp) (AllReadyH.cons rfl (fun Kc hKc => ?_) (AllReadyH.cons rfl (fun Kc hKc => ?_) AllReadyH.nil))
        · go_simp
          refine hKc.out _ _ trivial (fun hHeld => ?_)
          clear hKc Kc
          (try simp only [List.getElem_toArray]); (try simp only [List.getElem_cons_succ]); (try simp only [List.getElem_cons_zero]); (try simp only [Act.put]); (try simp only [List.setIfInBounds_toArray]); (try simp only [List.set_cons_succ]); (try simp only [List.set_cons_zero])
          refine wpAnyH_ready (rs := [7]) (by kernel_rfl) (by simp) (AllReadyH.cons rfl (fun Kc hKc => ?_) AllReadyH.nil)
          go_simp
          (go_at_call 7; refine (P3.out _ BB).mono ?_; rintro e w6 ⟨n, d, rfl, hok, hn0, hn1, hd0, hd1, hb⟩)
          replace T := T.below hb
          replace BB := BB.trans (hb.mono BB.size)
          have hz := BB.size
          have c0 := T.c0
          have c1 := T.c1
          clear hb
          go_wp2_with fail
          refine hKc.out _ _ trivial (fun hHeld => ?_)
          clear hKc Kc
          (try simp only [List.getElem_toArray]); (try simp only [List.getElem_cons_succ]); (try simp only [List.getElem_cons_zero]); (try simp only [Act.put]); (try simp only [List.setIfInBounds_toArray]); (try simp only [List.set_cons_succ]); (try simp only [List.set_cons_zero])
          refine wpAnyH_ready (rs := [8]) (by kernel_rfl) (by simp) (AllReadyH.cons rfl (fun Kc hKc => ?_) AllReadyH.nil)
          go_simp
          have hb := b0_any' w6 (.cells #[.int .i64 n, .int .i64 d] 27)
          replace T := T.below hb
          replace BB := BB.trans (hb.mono BB.size)
          have hz := BB.size
          have c0 := T.c0
          have c1 := T.c1
          clear hb
          refine hKc.out _ _ trivial (fun hHeld => ?_)
          clear hKc Kc
          (try simp only [List.getElem_toArray]); (try simp only [List.getElem_cons_succ]); (try simp only [List.getElem_cons_zero]); (try simp only [Act.put]); (try simp only [List.setIfInBounds_toArray]); (try simp only [List.set_cons_succ]); (try simp only [List.set_cons_zero])
          refine wpAnyH_ready (rs := [9]) (by kernel_rfl) (by simp) (AllReadyH.cons rfl (fun Kc hKc => ?_) AllReadyH.nil)
          refine step_app_at rfl (.tmp 47) (.tmp 52) 24 rfl w.heap.size 27 i0 (.agg #[.int .i64 0, .int .i64 0]) 2 16 Try.underlying24 hi hz0 hz1 hz2 rfl (by decide) u1 ys.length _ (by simp [Act.eval]) T.oy ⟨w6.heap.size, 0, none⟩ 1 1 [.int .i64 n, .int .i64 d] (by simp [Act.eval]) rfl (cell_twoF _ _ _ _) (by intro u hu; simp at hu; rcases hu with rfl | rfl <;> rfl) hmys (by unfold maxLen at hmys; omega) (by simp; omega) ?_
          intro u' w9 hown' hgrow hbl
          obtain ⟨g9, c9, rfl, -⟩ := World.ownsRow.form hown' (by omega)
          have T9 := T.appY hown' hgrow hbl
          rw [ly] at T9
          obtain ⟨c1, f1⟩ := T.tbY hgrow
          have B9 : Below w.heap.size w w9 := BB.trans ((below_app3 T.oy hz hgrow))
          refine hKc.out _ _ trivial (fun hHeld => ?_)
          clear hKc Kc
          (try simp only [List.getElem_toArray]); (try simp only [List.getElem_cons_succ]); (try simp only [List.getElem_cons_zero]); (try simp only [Act.put]); (try simp only [List.setIfInBounds_toArray]); (try simp only [List.set_cons_succ]); (try simp only [List.set_cons_zero])
          refine wpAnyH_take (i := 10) (v := ?_) rfl (by kernel_rfl) (by kernel_rfl) (by kernel_rfl) (fun _ _ _ h => h) (Or.inl ⟨by kernel_rfl, ?_⟩) hHeld ?_
          rotate_left
          · intro wz hSw; (try dsimp only at hSw); go_simp; all_goals (try with_reducible rfl)
          (try simp only [List.getElem_toArray]); (try simp only [List.getElem_cons_succ]); (try simp only [List.getElem_cons_zero]); (try simp only [Act.put]); (try simp only [List.setIfInBounds_toArray]); (try simp only [List.set_cons_succ]); (try simp only [List.set_cons_zero])
          refine wpAnyH_ready (rs := [11]) (by kernel_rfl) (by simp) (AllReadyH.cons rfl (fun Kc hKc => ?_) AllReadyH.nil)
          go_simp
          refine hKc.out _ _ trivial (fun hHeld => ?_)
          clear hKc Kc
          (try simp only [List.getElem_toArray]); (try simp only [List.getElem_cons_succ]); (try simp only [List.getElem_cons_zero]); (try simp only [Act.put]); (try simp only [List.setIfInBounds_toArray]); (try simp only [List.set_cons_succ]); (try simp only [List.set_cons_zero])
          refine wpAnyH_done (by kernel_rfl) ?_ _
          refine NoPanic.normal ?_
          go_wp2
          go_roundw
          case rel =>
            refine ⟨o', u0', _, vs ++ [(v, 1)], xs ++ [(x - 4, 1)], ys ++ [(n, d)], k + 1, by omega, by go_num, rfl, by rw [len_snoc, lv], by rw [len_snoc, lx], by rw [len_snoc, ly], T9, ⟨HSM.out.1.snoc HV.out.1 (by have := HV.out; omega), HSM.out.2.1.snoc (whole_sm (by omega) (by omega) (by omega) (by omega)), HSM.out.2.2.snoc ⟨hok, hn0, hn1, hd0, hd1⟩⟩, B9.setCell (p := ⟨Tb, 1, none⟩) HTB.out _⟩
          case measure => simp [intOf]; omega
        · go_simp
          (go_at_call 7; refine (P3.out _ BB).mono ?_; rintro e w6 ⟨n, d, rfl, hok, hn0, hn1, hd0, hd1, hb⟩)
          replace T := T.below hb
          replace BB := BB.trans (hb.mono BB.size)
          have hz := BB.size
          have c0 := T.c0
          have c1 := T.c1
          clear hb
          go_wp2_with fail
          refine hKc.out _ _ trivial (fun hHeld => ?_)
          clear hKc Kc
          (try simp only [List.getElem_toArray]); (try simp only [List.getElem_cons_succ]); (try simp only [List.getElem_cons_zero]); (try simp only [Act.put]); (try simp only [List.setIfInBounds_toArray]); (try simp only [List.set_cons_succ]); (try simp only [List.set_cons_zero])
          refine wpAnyH_ready (rs := [3, 8]) (by kernel_rfl) (by simp) (AllReadyH.cons rfl (fun Kc hKc => ?_) (AllReadyH.cons rfl (fun Kc hKc => ?_) AllReadyH.nil))
          · go_simp
            refine hKc.out _ _ trivial (fun hHeld => ?_)
            clear hKc Kc
            (try simp only [List.getElem_toArray]); (try simp only [List.getElem_cons_succ]); (try simp only [List.getElem_cons_zero]); (try simp only [Act.put]); (try simp only [List.setIfInBounds_toArray]); (try simp only [List.set_cons_succ]); (try simp only [List.set_cons_zero])
            refine wpAnyH_ready (rs := [8]) (by kernel_rfl) (by simp) (AllReadyH.cons rfl (fun Kc hKc => ?_) AllReadyH.nil)
            go_simp
            have hb := b0_any' w6 (.cells #[.int .i64 n, .int .i64 d] 27)
            replace T := T.below hb
            replace BB := BB.trans (hb.mono BB.size)
            have hz := BB.size
            have c0 := T.c0
            have c1 := T.c1
            clear hb
            refine hKc.out _ _ trivial (fun hHeld => ?_)
            clear hKc Kc
            (try simp only [List.getElem_toArray]); (try simp only [List.getElem_cons_succ]); (try simp only [List.getElem_cons_zero]); (try simp only [Act.put]); (try simp only [List.setIfInBounds_toArray]); (try simp only [List.set_cons_succ]); (try simp only [List.set_cons_zero])
            refine wpAnyH_ready (rs := [9]) (by kernel_rfl) (by simp) (AllReadyH.cons rfl (fun Kc hKc => ?_) AllReadyH.nil)
            refine step_app_at rfl (.tmp 47) (.tmp 52) 24 rfl w.heap.size 27 i0 (.agg #[.int .i64 0, .int .i64 0]) 2 16 Try.underlying24 hi hz0 hz1 hz2 rfl (by decide) u1 ys.length _ (by simp [Act.eval]) T.oy ⟨w6.heap.size, 0, none⟩ 1 1 [.int .i64 n, .int .i64 d] (by simp [Act.eval]) rfl (cell_twoF _ _ _ _) (by intro u hu; simp at hu; rcases hu with rfl | rfl <;> rfl) hmys (by unfold maxLen at hmys; omega) (by simp; omega) ?_
            intro u' w9 hown' hgrow hbl
            obtain ⟨g9, c9, rfl, -⟩ := World.ownsRow.form hown' (by omega)
            have T9 := T.appY hown' hgrow hbl
            rw [ly] at T9
            obtain ⟨c1, f1⟩ := T.tbY hgrow
            have B9 : Below w.heap.size w w9 := BB.trans ((below_app3 T.oy hz hgrow))
            refine hKc.out _ _ trivial (fun hHeld => ?_)
            clear hKc Kc
            (try simp only [List.getElem_toArray]); (try simp only [List.getElem_cons_succ]); (try simp only [List.getElem_cons_zero]); (try simp only [Act.put]); (try simp only [List.setIfInBounds_toArray]); (try simp only [List.set_cons_succ]); (try simp only [List.set_cons_zero])
            refine wpAnyH_take (i := 10) (v := ?_) rfl (by kernel_rfl) (by kernel_rfl) (by kernel_rfl) (fun _ _ _ h => h) (Or.inl ⟨by kernel_rfl, ?_⟩) hHeld ?_
            rotate_left
            · intro wz hSw; (try dsimp only at hSw); go_simp; all_goals (try with_reducible rfl)
            (try simp only [List.getElem_toArray]); (try simp only [List.getElem_cons_succ]); (try simp only [List.getElem_cons_zero]); (try simp only [Act.put]); (try simp only [List.setIfInBounds_toArray]); (try simp only [List.set_cons_succ]); (try simp only [List.set_cons_zero])
            refine wpAnyH_ready (rs := [11]) (by kernel_rfl) (by simp) (AllReadyH.cons rfl (fun Kc hKc => ?_) AllReadyH.nil)
            go_simp
            refine hKc.out _ _ trivial (fun hHeld => ?_)
            clear hKc Kc
            (try simp only [List.getElem_toArray]); (try simp only [List.getElem_cons_succ]); (try simp only [List.getElem_cons_zero]); (try simp only [Act.put]); (try simp only [List.setIfInBounds_toArray]); (try simp only [List.set_cons_succ]); (try simp only [List.set_cons_zero])
            refine wpAnyH_done (by kernel_rfl) ?_ _
            refine NoPanic.normal ?_
            go_wp2
            go_roundw
            case rel =>
              refine ⟨o', u0', _, vs ++ [(v, 1)], xs ++ [(x - 4, 1)], ys ++ [(n, d)], k + 1, by omega, by go_num, rfl, by rw [len_snoc, lv], by rw [len_snoc, lx], by rw [len_snoc, ly], T9, ⟨HSM.out.1.snoc HV.out.1 (by have := HV.out; omega), HSM.out.2.1.snoc (whole_sm (by omega) (by omega) (by omega) (by omega)), HSM.out.2.2.snoc ⟨hok, hn0, hn1, hd0, hd1⟩⟩, B9.setCell (p := ⟨Tb, 1, none⟩) HTB.out _⟩
            case measure => simp [intOf]; omega
          · go_simp
            have hb := b0_any' w6 (.cells #[.int .i64 n, .int .i64 d] 27)
            replace T := T.below hb
            replace BB := BB.trans (hb.mono BB.size)
            have hz := BB.size
            have c0 := T.c0
            have c1 := T.c1
            clear hb
            refine hKc.out _ _ trivial (fun hHeld => ?_)
            clear hKc Kc
            (try simp only [List.getElem_toArray]); (try simp only [List.getElem_cons_succ]); (try simp only [List.getElem_cons_zero]); (try simp only [Act.put]); (try simp only [List.setIfInBounds_toArray]); (try simp only [List.set_cons_succ]); (try simp only [List.set_cons_zero])
            refine wpAnyH_ready (rs := [3]) (by kernel_rfl) (by simp) (AllReadyH.cons rfl (fun Kc hKc => ?_) AllReadyH.nil)
            go_simp
            refine hKc.out _ _ trivial (fun hHeld => ?_)
            clear hKc Kc
            (try simp only [List.getElem_toArray]); (try simp only [List.getElem_cons_succ]); (try simp only [List.getElem_cons_zero]); (try simp only [Act.put]); (try simp only [List.setIfInBounds_toArray]); (try simp only [List.set_cons_succ]); (try simp only [List.set_cons_zero])
            refine wpAnyH_ready (rs := [9]) (by kernel_rfl) (by simp) (AllReadyH.cons rfl (fun Kc hKc => ?_) AllReadyH.nil)
            refine step_app_at rfl (.tmp 47) (.tmp 52) 24 rfl w.heap.size 27 i0 (.agg #[.int .i64 0, .int .i64 0]) 2 16 Try.underlying24 hi hz0 hz1 hz2 rfl (by decide) u1 ys.length _ (by simp [Act.eval]) T.oy ⟨w6.heap.size, 0, none⟩ 1 1 [.int .i64 n, .int .i64 d] (by simp [Act.eval]) rfl (cell_twoF _ _ _ _) (by intro u hu; simp at hu; rcases hu with rfl | rfl <;> rfl) hmys (by unfold maxLen at hmys; omega) (by simp; omega) ?_
            intro u' w9 hown' hgrow hbl
            obtain ⟨g9, c9, rfl, -⟩ := World.ownsRow.form hown' (by omega)
            have T9 := T.appY hown' hgrow hbl
            rw [ly] at T9
            obtain ⟨c1, f1⟩ := T.tbY hgrow
            have B9 : Below w.heap.size w w9 := BB.trans ((below_app3 T.oy hz hgrow))
            refine hKc.out _ _ trivial (fun hHeld => ?_)
            clear hKc Kc
            (try simp only [List.getElem_toArray]); (try simp only [List.getElem_cons_succ]); (try simp only [List.getElem_cons_zero]); (try simp only [Act.put]); (try simp only [List.setIfInBounds_toArray]); (try simp only [List.set_cons_succ]); (try simp only [List.set_cons_zero])
            refine wpAnyH_take (i := 10) (v := ?_) rfl (by kernel_rfl) (by kernel_rfl) (by kernel_rfl) (fun _ _ _ h => h) (Or.inl ⟨by kernel_rfl, ?_⟩) hHeld ?_
            rotate_left
            · intro wz hSw; (try dsimp only at hSw); go_simp; all_goals (try with_reducible rfl)
            (try simp only [List.getElem_toArray]); (try simp only [List.getElem_cons_succ]); (try simp only [List.getElem_cons_zero]); (try simp only [Act.put]); (try simp only [List.setIfInBounds_toArray]); (try simp only [List.set_cons_succ]); (try simp only [List.set_cons_zero])
            refine wpAnyH_ready (rs := [11]) (by kernel_rfl) (by simp) (AllReadyH.cons rfl (fun Kc hKc => ?_) AllReadyH.nil)
            go_simp
            refine hKc.out _ _ trivial (fun hHeld => ?_)
            clear hKc Kc
            (try simp only [List.getElem_toArray]); (try simp only [List.getElem_cons_succ]); (try simp only [List.getElem_cons_zero]); (try simp only [Act.put]); (try simp only [List.setIfInBounds_toArray]); (try simp only [List.set_cons_succ]); (try simp only [List.set_cons_zero])
            refine wpAnyH_done (by kernel_rfl) ?_ _
            refine NoPanic.normal ?_
            go_wp2
            go_roundw
            case rel =>
              refine ⟨o', u0', _, vs ++ [(v, 1)], xs ++ [(x - 4, 1)], ys ++ [(n, d)], k + 1, by omega, by go_num, rfl, by rw [len_snoc, lv], by rw [len_snoc, lx], by rw [len_snoc, ly], T9, ⟨HSM.out.1.snoc HV.out.1 (by have := HV.out; omega), HSM.out.2.1.snoc (whole_sm (by omega) (by omega) (by omega) (by omega)), HSM.out.2.2.snoc ⟨hok, hn0, hn1, hd0, hd1⟩⟩, B9.setCell (p := ⟨Tb, 1, none⟩) HTB.out _⟩
            case measure => simp [intOf]; omega
    · obtain rfl : k = 3 := by omega
      obtain ⟨p, hp⟩ : ∃ p, p = pickV len zs 60 3 := ⟨_, rfl⟩
      have P4 : Hid (∀ W : World, Below w.heap.size w W → Calls Try.prog 6 #[.slice a len cap, .int .i64 60, .int .i64 3] W fun e w' => e = .returned (.int .i64 p) ∧ Below W.heap.size W w') := by
        intro W hW; rw [hp]; exact HPK.out _ _ W (by omega) (by omega) (by omega) hW
      have T : Own3 wr w.heap.size o Tb u0 u1 vs xs ys := hT.out
      have BB : Below w.heap.size w wr := hB.out
      have SX : ∀ i, i < 3 → Sm (fr xs i) 6 4 := fun i hi => HSM.out.2.1 i (by omega)
      have SV : ∀ i, i < 3 → Sm (fr vs i) 8 1 := fun i hi => (HSM.out.1 i (by omega)).1
      have SP : ∀ i, i < 3 → 0 ≤ (fr vs i).1 := fun i hi => (HSM.out.1 i (by omega)).2
      clear hT hB hp HPK HPT
      by_cases hp0 : p = 0
      · subst hp0
        go_wp2_with fail
        refine (P4.out _ BB).mono ?_
        rintro e w3 ⟨rfl, hb⟩
        replace T := T.below hb
        replace BB := BB.trans (hb.mono BB.size)
        clear hb
        obtain ⟨g9, c9, rfl, -⟩ := World.ownsRow.form T.ox (by omega)
        have c0 := T.c0
        have c1 := T.c1
        have f1 := T.f1
        obtain ⟨RV, RT⟩ := T.same
        replace BB := BB.setCell (p := ⟨Tb, 1, none⟩) HTB.out (.slice (some ⟨g9, 0, none⟩) xs.length c9)
        rw [lx] at c0 RV RT BB
        obtain ⟨W3, hW3⟩ : ∃ W, W = w3.setCell ⟨Tb, 1, none⟩ (.slice (some ⟨g9, 0, none⟩) 3 c9) := ⟨_, rfl⟩
        rw [← hW3] at RV RT BB
        obtain ⟨ys', hys⟩ : ∃ y, y = xs := ⟨_, rfl⟩
        have HYX := hidW8 hys
        have SY : ∀ i, i < 3 → Sm (fr ys' i) 6 4 := by rw [hys]; exact SX
        have ly' : ys'.length = 3 := by rw [hys]; exact lx
        have RT : RdT W3 (.slice (some ⟨Tb, 0, none⟩) 2 2) [xs, ys'] := by rw [hys]; exact RT
        clear T hys
        have HW3 := hidW8 hW3
        clear hW3
        have hco := cauchy_car lx ly' lv SX SY SV
        have hcl := fun k1 k2 => cauchy_law SX SY SV SP k1 k2
        obtain ⟨⟨a1, a2⟩, ha⟩ : ∃ m, m = (dgV xs vs xs false 3).1 := ⟨_, rfl⟩
        obtain ⟨⟨b1, b2⟩, hbm⟩ : ∃ m, m = (dgV xs vs ys' false 3).1 := ⟨_, rfl⟩
        obtain ⟨mc, hc⟩ : ∃ m, m = (dgV ys' vs xs false 3).1 := ⟨_, rfl⟩
        obtain ⟨⟨d1, d2⟩, hd⟩ : ∃ m, m = (dgV ys' vs ys' false 3).1 := ⟨_, rfl⟩
        rw [← ha, ← hbm, ← hc, ← hd] at hco
        rw [← ha, ← hbm, ← hd] at hcl
        have HEQ : Hid (mulP (a1, a2) (d1, d2) = mulP (b1, b2) (b1, b2)) := by show _ = _; rw [ha, hbm, hd, HYX.out]
        have HCL := hidW8 hcl
        have HCO := hidW8 hco
        clear hco hcl ha hbm hc hd
        have H1 := hidW8 (fun (W : World) (h : RdR W o vs) => iAlone_any o vs W h)
        have H2 := hidW8 (fun (W : World) (h : RdR W o vs) => sAlone_any o vs W h)
        have HAS := hidW8 (aloneA_smallC vs)
        go_wp2_with fail
        rw [← HW3.out]
        refine (H1.out _ RV).mono ?_
        rintro e w4 ⟨vm, um, rfl, TM, hb⟩
        replace RV := RV.below hb
        replace RT := RT.below hb
        replace BB := BB.trans (hb.mono BB.size)
        clear hb H1
        have H3 := iCar_any _ vm [xs, ys'] (aloneA vs) w4 RT TM.read
        rw [HCO.out.1, HCO.out.2] at H3
        have H3 := hidW8 H3
        go_wp2_with fail
        refine H3.out.mono ?_
        rintro e w5 ⟨r, ur, rfl, T, hb⟩
        replace RV := RV.below hb
        replace TM := TM.below hb
        replace BB := BB.trans (hb.mono BB.size)
        clear hb H3 RT
        go_wp2_with fail
        refine (H2.out _ RV).mono ?_
        rintro e w6 ⟨vn, un, rfl, TN, hb⟩
        replace TM := TM.below hb
        replace T := T.below hb
        replace BB := BB.trans (hb.mono BB.size)
        clear hb H2 RV
        have H4 := hidW8 (likeRows_rd vm vn (aloneA vs) w6 (by have := HAS.out.1; omega) (fun i hi => by have := HAS.out.2 i hi; omega) TM.read TN.read)
        obtain ⟨Bw, hBw⟩ : ∃ B, B = w4.heap.size := ⟨_, rfl⟩
        rw [← hBw] at T
        clear TM TN hBw
        go_wp2_with fail
        refine H4.out.mono ?_
        rintro e w7 ⟨rfl, hb⟩
        replace T := T.below hb
        replace BB := BB.trans (hb.mono BB.size)
        clear hb H4
        obtain ⟨g, cc, g0, c0, g1, c1, rfl, y0, y1, y2, y3, y4, y5, _, _, y6, y7⟩ := tab22 T
        have HM := hidW8 (fun W => sMulB (b1, b2) (b1, b2) W)
        have HM' := hidW8 (fun W => sMulB (a1, a2) (d1, d2) W)
        obtain ⟨⟨q1, q2⟩, hq⟩ : ∃ m, m = mulP (b1, b2) (b1, b2) := ⟨_, rfl⟩
        obtain ⟨⟨t1, t2⟩, ht⟩ : ∃ m, m = mulP (a1, a2) (d1, d2) := ⟨_, rfl⟩
        obtain ⟨k1, hk1⟩ : ∃ m, m = mulK (b1, b2) (b1, b2) := ⟨_, rfl⟩
        obtain ⟨k2, hk2⟩ : ∃ m, m = mulK (a1, a2) (d1, d2) := ⟨_, rfl⟩
        rw [← hq, ← hk1] at HM
        rw [← ht, ← hk2] at HM'
        rw [← hq, ← ht] at HEQ
        have HLS : Hid (k1 = true → k2 = true → lessB t1 t2 q1 q2 = false) := by
          intro h1 h2
          have := HCL.out (hk1.symm.trans h1) (hk2.symm.trans h2)
          rw [← hq, ← ht] at this
          exact this
        clear hq ht hk1 hk2 HCL
        dsimp only at y0 y1 y2 y3 y4 y5 y6 y7 HM HM'
        go_upto_region 17 with fail
        obtain ⟨Xr, hXr⟩ : ∃ u, u = w7 := ⟨_, rfl⟩
        rw [← hXr] at T BB y0 y1 y2 y3 y4 y5 y6 y7 ⊢
        clear hXr
        go_cut [9, 10] (fun s9 s10 wx => ∃ P : Nat, s9 = .pointer (some ⟨P, 0, none⟩) ∧ s10 = .bool k1 ∧ Hid (IsR wx P q1 q2) ∧ Hid (Tab wx Bw (.slice (some ⟨g, 0, none⟩) 2 cc) ur [[(a1, a2), (b1, b2)], [mc, (d1, d2)]]) ∧ Hid (Below w.heap.size w wx))
        case first =>
          have hg := World.block_lt_of_cell? Xr _ y0
          have hg0 := World.block_lt_of_cell? Xr _ y2
          have hg1 := World.block_lt_of_cell? Xr _ y6
          dsimp only at hg hg0 hg1
          refine wp_region_noPanic ?_
          refine wp_region_held_drew (S := (fun w' => w'.cell? ⟨g, 0, none⟩ = some (.slice (some ⟨g0, 0, none⟩) 2 c0) ∧ w'.cell? ⟨g, 1, none⟩ = some (.slice (some ⟨g1, 0, none⟩) 2 c1) ∧ w'.cell? ⟨g0, 0, none⟩ = some (.int .i64 a1) ∧ w'.cell? ⟨g0, 1, none⟩ = some (.int .i64 a2) ∧ w'.cell? ⟨g0, 2, none⟩ = some (.int .i64 b1) ∧ w'.cell? ⟨g0, 3, none⟩ = some (.int .i64 b2) ∧ w'.cell? ⟨g1, 2, none⟩ = some (.int .i64 d1) ∧ w'.cell? ⟨g1, 3, none⟩ = some (.int .i64 d2))) (by kernel_rfl) ?_ (fun hHeld => ?_)
          · (try dsimp only)
            refine ⟨?_, ?_, ?_, ?_, ?_, ?_, ?_, ?_⟩ <;> (repeat (with_reducible (first | exact y0 | exact y1 | exact y2 | exact y3 | exact y4 | exact y5 | exact y6 | exact y7 | refine cell_dr ?_ | refine cell_al _ ?_ | refine cell_stb ?_ ?_ | (show _ ≠ _; omega))))
          refine wpAnyH_take (i := 0) (v := ?_) rfl (by kernel_rfl) (by kernel_rfl) (by kernel_rfl) (fun _ _ _ h => h) (Or.inl ⟨by kernel_rfl, ?_⟩) hHeld ?_
          rotate_left
          · intro wz hSw; (try dsimp only at hSw); go_simp; all_goals (try with_reducible rfl)
          (try simp only [List.getElem_toArray]); (try simp only [List.getElem_cons_succ]); (try simp only [List.getElem_cons_zero]); (try simp only [Act.put]); (try simp only [List.setIfInBounds_toArray]); (try simp only [List.set_cons_succ]); (try simp only [List.set_cons_zero])
          refine wpAnyH_take (i := 1) (v := ?_) rfl (by kernel_rfl) (by kernel_rfl) (by kernel_rfl) (fun _ _ _ h => h) (Or.inl ⟨by kernel_rfl, ?_⟩) hHeld ?_
          rotate_left
          · intro wz hSw; (try dsimp only at hSw); go_simp; all_goals (try with_reducible rfl)
          (try simp only [List.getElem_toArray]); (try simp only [List.getElem_cons_succ]); (try simp only [List.getElem_cons_zero]); (try simp only [Act.put]); (try simp only [List.setIfInBounds_toArray]); (try simp only [List.set_cons_succ]); (try simp only [List.set_cons_zero])
          refine wpAnyH_take (i := 2) (v := ?_) rfl (by kernel_rfl) (by kernel_rfl) (by kernel_rfl) (fun _ _ _ h => h) (Or.inl ⟨by kernel_rfl, ?_⟩) hHeld ?_
          rotate_left
          · intro wz hSw; (try dsimp only at hSw); go_simp; all_goals (try with_reducible rfl)
          (try simp only [List.getElem_toArray]); (try simp only [List.getElem_cons_succ]); (try simp only [List.getElem_cons_zero]); (try simp only [Act.put]); (try simp only [List.setIfInBounds_toArray]); (try simp only [List.set_cons_succ]); (try simp only [List.set_cons_zero])
          refine wpAnyH_take (i := 3) (v := ?_) rfl (by kernel_rfl) (by kernel_rfl) (by kernel_rfl) (fun _ _ _ h => h) (Or.inl ⟨by kernel_rfl, ?_⟩) hHeld ?_
          rotate_left
          · intro wz hSw; (try dsimp only at hSw); go_simp; all_goals (try with_reducible rfl)
          (try simp only [List.getElem_toArray]); (try simp only [List.getElem_cons_succ]); (try simp only [List.getElem_cons_zero]); (try simp only [Act.put]); (try simp only [List.setIfInBounds_toArray]); (try simp only [List.set_cons_succ]); (try simp only [List.set_cons_zero])
          refine wpAnyH_take (i := 4) (v := ?_) rfl (by kernel_rfl) (by kernel_rfl) (by kernel_rfl) (fun _ _ _ h => h) (Or.inl ⟨by kernel_rfl, ?_⟩) hHeld ?_
          rotate_left
          · intro wz hSw; (try dsimp only at hSw); go_simp; all_goals (try with_reducible rfl)
          (try simp only [List.getElem_toArray]); (try simp only [List.getElem_cons_succ]); (try simp only [List.getElem_cons_zero]); (try simp only [Act.put]); (try simp only [List.setIfInBounds_toArray]); (try simp only [List.set_cons_succ]); (try simp only [List.set_cons_zero])
          refine wpAnyH_take (i := 5) (v := ?_) rfl (by kernel_rfl) (by kernel_rfl) (by kernel_rfl) (fun _ _ _ h => h) (Or.inl ⟨by kernel_rfl, ?_⟩) hHeld ?_
          rotate_left
          · intro wz hSw; (try dsimp only at hSw); go_simp; all_goals (try with_reducible rfl)
          (try simp only [List.getElem_toArray]); (try simp only [List.getElem_cons_succ]); (try simp only [List.getElem_cons_zero]); (try simp only [Act.put]); (try simp only [List.setIfInBounds_toArray]); (try simp only [List.set_cons_succ]); (try simp only [List.set_cons_zero])
          refine wpAnyH_take (i := 6) (v := ?_) rfl (by kernel_rfl) (by kernel_rfl) (by kernel_rfl) (fun _ _ _ h => h) (Or.inl ⟨by kernel_rfl, ?_⟩) hHeld ?_
          rotate_left
          · intro wz hSw; (try dsimp only at hSw); go_simp; all_goals (try with_reducible rfl)
          (try simp only [List.getElem_toArray]); (try simp only [List.getElem_cons_succ]); (try simp only [List.getElem_cons_zero]); (try simp only [Act.put]); (try simp only [List.setIfInBounds_toArray]); (try simp only [List.set_cons_succ]); (try simp only [List.set_cons_zero])
          refine wpAnyH_take (i := 7) (v := ?_) rfl (by kernel_rfl) (by kernel_rfl) (by kernel_rfl) (fun _ _ _ h => h) (Or.inl ⟨by kernel_rfl, ?_⟩) hHeld ?_
          rotate_left
          · intro wz hSw; (try dsimp only at hSw); go_simp; all_goals (try with_reducible rfl)
          (try simp only [List.getElem_toArray]); (try simp only [List.getElem_cons_succ]); (try simp only [List.getElem_cons_zero]); (try simp only [Act.put]); (try simp only [List.setIfInBounds_toArray]); (try simp only [List.set_cons_succ]); (try simp only [List.set_cons_zero])
          refine wpAnyH_take (i := 8) (v := ?_) rfl (by kernel_rfl) (by kernel_rfl) (by kernel_rfl) (fun _ _ _ h => h) (Or.inl ⟨by kernel_rfl, ?_⟩) hHeld ?_
          rotate_left
          · intro wz hSw; (try dsimp only at hSw); go_simp; all_goals (try with_reducible rfl)
          (try simp only [List.getElem_toArray]); (try simp only [List.getElem_cons_succ]); (try simp only [List.getElem_cons_zero]); (try simp only [Act.put]); (try simp only [List.setIfInBounds_toArray]); (try simp only [List.set_cons_succ]); (try simp only [List.set_cons_zero])
          refine wpAnyH_take (i := 9) (v := ?_) rfl (by kernel_rfl) (by kernel_rfl) (by kernel_rfl) (fun _ _ _ h => h) (Or.inl ⟨by kernel_rfl, ?_⟩) hHeld ?_
          rotate_left
          · intro wz hSw; (try dsimp only at hSw); go_simp; all_goals (try with_reducible rfl)
          (try simp only [List.getElem_toArray]); (try simp only [List.getElem_cons_succ]); (try simp only [List.getElem_cons_zero]); (try simp only [Act.put]); (try simp only [List.setIfInBounds_toArray]); (try simp only [List.set_cons_succ]); (try simp only [List.set_cons_zero])
          refine wpAnyH_ready (rs := [10, 14]) (by kernel_rfl) (by simp) (AllReadyH.cons rfl (fun Kc hKc => ?_) (AllReadyH.cons rfl (fun Kc hKc => ?_) AllReadyH.nil))
          · go_simp
            (go_at_call 12; refine (HM.out _).mono ?_; rintro e w2 ⟨rfl, hb2⟩)
            have hbd : Below Xr.heap.size Xr w2 := ((Below.refl _ _).drew).trans (hb2.mono (by simp))
            have y0 := cell_keep hbd y0
            have y1 := cell_keep hbd y1
            have y2 := cell_keep hbd y2
            have y3 := cell_keep hbd y3
            have y4 := cell_keep hbd y4
            have y5 := cell_keep hbd y5
            have y6 := cell_keep hbd y6
            have y7 := cell_keep hbd y7
            have T9 := T.below hbd
            have B9 := BB.trans (hbd.mono BB.size)
            have hsw := hbd.size
            clear hb2
            go_wp2_with fail
            refine hKc.out _ _ ?_ (fun hHeld => ?_)
            · (try dsimp only)
              refine ⟨?_, ?_, ?_, ?_, ?_, ?_, ?_, ?_⟩ <;> (repeat (with_reducible (first | exact y0 | exact y1 | exact y2 | exact y3 | exact y4 | exact y5 | exact y6 | exact y7 | refine cell_dr ?_ | refine cell_al _ ?_ | refine cell_stb ?_ ?_ | (show _ ≠ _; omega))))
            clear hKc Kc
            (try simp only [List.getElem_toArray]); (try simp only [List.getElem_cons_succ]); (try simp only [List.getElem_cons_zero]); (try simp only [Act.put]); (try simp only [List.setIfInBounds_toArray]); (try simp only [List.set_cons_succ]); (try simp only [List.set_cons_zero])
            refine wpAnyH_take (i := 11) (v := ?_) rfl (by kernel_rfl) (by kernel_rfl) (by kernel_rfl) (fun _ _ _ h => h) (Or.inl ⟨by kernel_rfl, ?_⟩) hHeld ?_
            rotate_left
            · intro wz hSw; (try dsimp only at hSw); go_simp; all_goals (try with_reducible rfl)
            (try simp only [List.getElem_toArray]); (try simp only [List.getElem_cons_succ]); (try simp only [List.getElem_cons_zero]); (try simp only [Act.put]); (try simp only [List.setIfInBounds_toArray]); (try simp only [List.set_cons_succ]); (try simp only [List.set_cons_zero])
            refine wpAnyH_take (i := 12) (v := ?_) rfl (by kernel_rfl) (by kernel_rfl) (by kernel_rfl) (fun _ _ _ h => h) (Or.inl ⟨by kernel_rfl, ?_⟩) hHeld ?_
            rotate_left
            · intro wz hSw; (try dsimp only at hSw); go_simp; all_goals (try with_reducible rfl)
            (try simp only [List.getElem_toArray]); (try simp only [List.getElem_cons_succ]); (try simp only [List.getElem_cons_zero]); (try simp only [Act.put]); (try simp only [List.setIfInBounds_toArray]); (try simp only [List.set_cons_succ]); (try simp only [List.set_cons_zero])
            refine wpAnyH_take (i := 13) (v := ?_) rfl (by kernel_rfl) (by kernel_rfl) (by kernel_rfl) (fun _ _ _ h => h) (Or.inl ⟨by kernel_rfl, ?_⟩) hHeld ?_
            rotate_left
            · intro wz hSw; (try dsimp only at hSw); go_simp; all_goals (try with_reducible rfl)
            (try simp only [List.getElem_toArray]); (try simp only [List.getElem_cons_succ]); (try simp only [List.getElem_cons_zero]); (try simp only [Act.put]); (try simp only [List.setIfInBounds_toArray]); (try simp only [List.set_cons_succ]); (try simp only [List.set_cons_zero])
            refine wpAnyH_ready (rs := [14]) (by kernel_rfl) (by simp) (AllReadyH.cons rfl (fun Kc hKc => ?_) AllReadyH.nil)
            go_simp
            refine hKc.out _ _ ?_ (fun hHeld => ?_)
            · (try dsimp only)
              refine ⟨?_, ?_, ?_, ?_, ?_, ?_, ?_, ?_⟩ <;> (repeat (with_reducible (first | exact y0 | exact y1 | exact y2 | exact y3 | exact y4 | exact y5 | exact y6 | exact y7 | refine cell_dr ?_ | refine cell_al _ ?_ | refine cell_stb ?_ ?_ | (show _ ≠ _; omega))))
            clear hKc Kc
            (try simp only [List.getElem_toArray]); (try simp only [List.getElem_cons_succ]); (try simp only [List.getElem_cons_zero]); (try simp only [Act.put]); (try simp only [List.setIfInBounds_toArray]); (try simp only [List.set_cons_succ]); (try simp only [List.set_cons_zero])
            refine wpAnyH_ready (rs := [15]) (by kernel_rfl) (by simp) (AllReadyH.cons rfl (fun Kc hKc => ?_) AllReadyH.nil)
            go_simp
            refine hKc.out _ _ ?_ (fun hHeld => ?_)
            · (try dsimp only)
              refine ⟨?_, ?_, ?_, ?_, ?_, ?_, ?_, ?_⟩ <;> (repeat (with_reducible (first | exact y0 | exact y1 | exact y2 | exact y3 | exact y4 | exact y5 | exact y6 | exact y7 | refine cell_dr ?_ | refine cell_al _ ?_ | refine cell_stb ?_ ?_ | (show _ ≠ _; omega))))
            clear hKc Kc
            (try simp only [List.getElem_toArray]); (try simp only [List.getElem_cons_succ]); (try simp only [List.getElem_cons_zero]); (try simp only [Act.put]); (try simp only [List.setIfInBounds_toArray]); (try simp only [List.set_cons_succ]); (try simp only [List.set_cons_zero])
            refine wpAnyH_take (i := 16) (v := ?_) rfl (by kernel_rfl) (by kernel_rfl) (by kernel_rfl) (fun _ _ _ h => h) (Or.inl ⟨by kernel_rfl, ?_⟩) hHeld ?_
            rotate_left
            · intro wz hSw; (try dsimp only at hSw); go_simp; all_goals (try with_reducible rfl)
            (try simp only [List.getElem_toArray]); (try simp only [List.getElem_cons_succ]); (try simp only [List.getElem_cons_zero]); (try simp only [Act.put]); (try simp only [List.setIfInBounds_toArray]); (try simp only [List.set_cons_succ]); (try simp only [List.set_cons_zero])
            refine wpAnyH_done (by kernel_rfl) ?_ _
            refine NoPanic.normal ?_
            go_wp2
            go_meet
            case rel => exact ⟨w2.heap.size, rfl, rfl, IsR.new w2 q1 q2, T9.below (b0_any' _ _), B9.alloc B9.size _⟩
          · go_simp
            refine hKc.out _ _ ?_ (fun hHeld => ?_)
            · (try dsimp only)
              refine ⟨?_, ?_, ?_, ?_, ?_, ?_, ?_, ?_⟩ <;> (repeat (with_reducible (first | exact y0 | exact y1 | exact y2 | exact y3 | exact y4 | exact y5 | exact y6 | exact y7 | refine cell_dr ?_ | refine cell_al _ ?_ | refine cell_stb ?_ ?_ | (show _ ≠ _; omega))))
            clear hKc Kc
            (try simp only [List.getElem_toArray]); (try simp only [List.getElem_cons_succ]); (try simp only [List.getElem_cons_zero]); (try simp only [Act.put]); (try simp only [List.setIfInBounds_toArray]); (try simp only [List.set_cons_succ]); (try simp only [List.set_cons_zero])
            refine wpAnyH_ready (rs := [10]) (by kernel_rfl) (by simp) (AllReadyH.cons rfl (fun Kc hKc => ?_) AllReadyH.nil)
            go_simp
            (go_at_call 12; refine (HM.out _).mono ?_; rintro e w2 ⟨rfl, hb2⟩)
            have hbd : Below Xr.heap.size Xr w2 := (((Below.refl _ _).drew).alloc (by simp) _).trans (hb2.mono (by simp))
            have pP : IsR w2 Xr.heap.size 0 0 := (show IsR (Xr.drew.alloc (.cells #[.int .i64 0, .int .i64 0] 27)) Xr.heap.size 0 0 from by simpa using IsR.new Xr.drew 0 0).below hb2
            have p0 := pP.c0
            have p1' := pP.c1
            have p2' := pP.f0
            have p3' := pP.f1
            have y0 := cell_keep hbd y0
            have y1 := cell_keep hbd y1
            have y2 := cell_keep hbd y2
            have y3 := cell_keep hbd y3
            have y4 := cell_keep hbd y4
            have y5 := cell_keep hbd y5
            have y6 := cell_keep hbd y6
            have y7 := cell_keep hbd y7
            have T9 := T.below hbd
            have B9 := BB.trans (hbd.mono BB.size)
            have hsw := hbd.size
            clear hb2
            go_wp2_with fail
            refine hKc.out _ _ ?_ (fun hHeld => ?_)
            · (try dsimp only)
              refine ⟨?_, ?_, ?_, ?_, ?_, ?_, ?_, ?_⟩ <;> (repeat (with_reducible (first | exact y0 | exact y1 | exact y2 | exact y3 | exact y4 | exact y5 | exact y6 | exact y7 | refine cell_dr ?_ | refine cell_al _ ?_ | refine cell_stb ?_ ?_ | (show _ ≠ _; omega))))
            clear hKc Kc
            (try simp only [List.getElem_toArray]); (try simp only [List.getElem_cons_succ]); (try simp only [List.getElem_cons_zero]); (try simp only [Act.put]); (try simp only [List.setIfInBounds_toArray]); (try simp only [List.set_cons_succ]); (try simp only [List.set_cons_zero])
            refine wpAnyH_take (i := 11) (v := ?_) rfl (by kernel_rfl) (by kernel_rfl) (by kernel_rfl) (fun _ _ _ h => h) (Or.inl ⟨by kernel_rfl, ?_⟩) hHeld ?_
            rotate_left
            · intro wz hSw; (try dsimp only at hSw); go_simp; all_goals (try with_reducible rfl)
            (try simp only [List.getElem_toArray]); (try simp only [List.getElem_cons_succ]); (try simp only [List.getElem_cons_zero]); (try simp only [Act.put]); (try simp only [List.setIfInBounds_toArray]); (try simp only [List.set_cons_succ]); (try simp only [List.set_cons_zero])
            refine wpAnyH_take (i := 12) (v := ?_) rfl (by kernel_rfl) (by kernel_rfl) (by kernel_rfl) (fun _ _ _ h => h) (Or.inl ⟨by kernel_rfl, ?_⟩) hHeld ?_
            rotate_left
            · intro wz hSw; (try dsimp only at hSw); go_simp; all_goals (try with_reducible rfl)
            (try simp only [List.getElem_toArray]); (try simp only [List.getElem_cons_succ]); (try simp only [List.getElem_cons_zero]); (try simp only [Act.put]); (try simp only [List.setIfInBounds_toArray]); (try simp only [List.set_cons_succ]); (try simp only [List.set_cons_zero])
            refine wpAnyH_take (i := 13) (v := ?_) rfl (by kernel_rfl) (by kernel_rfl) (by kernel_rfl) (fun _ _ _ h => h) (Or.inl ⟨by kernel_rfl, ?_⟩) hHeld ?_
            rotate_left
            · intro wz hSw; (try dsimp only at hSw); go_simp; all_goals (try with_reducible rfl)
            (try simp only [List.getElem_toArray]); (try simp only [List.getElem_cons_succ]); (try simp only [List.getElem_cons_zero]); (try simp only [Act.put]); (try simp only [List.setIfInBounds_toArray]); (try simp only [List.set_cons_succ]); (try simp only [List.set_cons_zero])
            refine wpAnyH_ready (rs := [15]) (by kernel_rfl) (by simp) (AllReadyH.cons rfl (fun Kc hKc => ?_) AllReadyH.nil)
            go_simp
            refine hKc.out _ _ ?_ (fun hHeld => ?_)
            · (try dsimp only)
              refine ⟨?_, ?_, ?_, ?_, ?_, ?_, ?_, ?_⟩ <;> (repeat (with_reducible (first | exact y0 | exact y1 | exact y2 | exact y3 | exact y4 | exact y5 | exact y6 | exact y7 | refine cell_dr ?_ | refine cell_al _ ?_ | refine cell_stb ?_ ?_ | (show _ ≠ _; omega))))
            clear hKc Kc
            (try simp only [List.getElem_toArray]); (try simp only [List.getElem_cons_succ]); (try simp only [List.getElem_cons_zero]); (try simp only [Act.put]); (try simp only [List.setIfInBounds_toArray]); (try simp only [List.set_cons_succ]); (try simp only [List.set_cons_zero])
            refine wpAnyH_take (i := 16) (v := ?_) rfl (by kernel_rfl) (by kernel_rfl) (by kernel_rfl) (fun _ _ _ h => h) (Or.inl ⟨by kernel_rfl, ?_⟩) hHeld ?_
            rotate_left
            · intro wz hSw; (try dsimp only at hSw); go_simp; all_goals (try with_reducible rfl)
            (try simp only [List.getElem_toArray]); (try simp only [List.getElem_cons_succ]); (try simp only [List.getElem_cons_zero]); (try simp only [Act.put]); (try simp only [List.setIfInBounds_toArray]); (try simp only [List.set_cons_succ]); (try simp only [List.set_cons_zero])
            refine wpAnyH_done (by kernel_rfl) ?_ _
            refine NoPanic.normal ?_
            go_wp2
            go_meet
            case rel => exact ⟨Xr.heap.size, rfl, rfl, (pP.set0 q1).set1 q2, (T9.st' T.under 0 _).st' T.under 1 _, (B9.setCell (p := ⟨Xr.heap.size, 0, none⟩) BB.size _).setCell (p := ⟨Xr.heap.size, 1, none⟩) BB.size _⟩
        case rest =>
          clear T BB y0 y1 y2 y3 y4 y5 y6 y7 HM
          have HM := HM'
          clear HM'
          obtain ⟨P, rfl, rfl, hS, hT, hB⟩ := hcut
          have SQ : IsR wc P q1 q2 := hS.out
          have T : Tab wc Bw (.slice (some ⟨g, 0, none⟩) 2 cc) ur [[(a1, a2), (b1, b2)], [mc, (d1, d2)]] := hT.out
          have BB : Below w.heap.size w wc := hB.out
          clear hS hT hB
          obtain ⟨g', cc', g0, c0, g1, c1, e, y0, y1, y2, y3, y4, y5, _, _, y6, y7⟩ := tab22 T
          cases e
          dsimp only at y0 y1 y2 y3 y4 y5 y6 y7
          go_upto_region 18 with fail
          obtain ⟨Xr, hXr⟩ : ∃ u, u = wc := ⟨_, rfl⟩
          rw [← hXr] at T BB SQ y0 y1 y2 y3 y4 y5 y6 y7 ⊢
          clear hXr
          obtain ⟨r1, hr1⟩ : ∃ r, r = q1 := ⟨_, rfl⟩
          obtain ⟨r2, hr2⟩ : ∃ r, r = q2 := ⟨_, rfl⟩
          have HR1 := hidW8 (And.intro hr1 hr2)
          rw [← hr1, ← hr2] at SQ
          clear hr1 hr2
          go_cut [11, 12] (fun s11 s12 wx => ∃ Q : Nat, s11 = .pointer (some ⟨Q, 0, none⟩) ∧ s12 = .bool k2 ∧ Hid (IsR wx Q t1 t2) ∧ Hid (IsR wx P r1 r2) ∧ Hid (Tab wx Bw (.slice (some ⟨g, 0, none⟩) 2 cc) ur [[(a1, a2), (b1, b2)], [mc, (d1, d2)]]) ∧ Hid (Below w.heap.size w wx))
          case first =>
            have hg := World.block_lt_of_cell? Xr _ y0
            have hg0 := World.block_lt_of_cell? Xr _ y2
            have hg1 := World.block_lt_of_cell? Xr _ y6
            dsimp only at hg hg0 hg1
            refine wp_region_noPanic ?_
            refine wp_region_held_drew (S := (fun w' => w'.cell? ⟨g, 0, none⟩ = some (.slice (some ⟨g0, 0, none⟩) 2 c0) ∧ w'.cell? ⟨g, 1, none⟩ = some (.slice (some ⟨g1, 0, none⟩) 2 c1) ∧ w'.cell? ⟨g0, 0, none⟩ = some (.int .i64 a1) ∧ w'.cell? ⟨g0, 1, none⟩ = some (.int .i64 a2) ∧ w'.cell? ⟨g0, 2, none⟩ = some (.int .i64 b1) ∧ w'.cell? ⟨g0, 3, none⟩ = some (.int .i64 b2) ∧ w'.cell? ⟨g1, 2, none⟩ = some (.int .i64 d1) ∧ w'.cell? ⟨g1, 3, none⟩ = some (.int .i64 d2))) (by kernel_rfl) ?_ (fun hHeld => ?_)
            · (try dsimp only)
              refine ⟨?_, ?_, ?_, ?_, ?_, ?_, ?_, ?_⟩ <;> (repeat (with_reducible (first | exact y0 | exact y1 | exact y2 | exact y3 | exact y4 | exact y5 | exact y6 | exact y7 | refine cell_dr ?_ | refine cell_al _ ?_ | refine cell_stb ?_ ?_ | (show _ ≠ _; omega))))
            refine wpAnyH_take (i := 0) (v := ?_) rfl (by kernel_rfl) (by kernel_rfl) (by kernel_rfl) (fun _ _ _ h => h) (Or.inl ⟨by kernel_rfl, ?_⟩) hHeld ?_
            rotate_left
            · intro wz hSw; (try dsimp only at hSw); go_simp; all_goals (try with_reducible rfl)
            (try simp only [List.getElem_toArray]); (try simp only [List.getElem_cons_succ]); (try simp only [List.getElem_cons_zero]); (try simp only [Act.put]); (try simp only [List.setIfInBounds_toArray]); (try simp only [List.set_cons_succ]); (try simp only [List.set_cons_zero])
            refine wpAnyH_take (i := 1) (v := ?_) rfl (by kernel_rfl) (by kernel_rfl) (by kernel_rfl) (fun _ _ _ h => h) (Or.inl ⟨by kernel_rfl, ?_⟩) hHeld ?_
            rotate_left
            · intro wz hSw; (try dsimp only at hSw); go_simp; all_goals (try with_reducible rfl)
            (try simp only [List.getElem_toArray]); (try simp only [List.getElem_cons_succ]); (try simp only [List.getElem_cons_zero]); (try simp only [Act.put]); (try simp only [List.setIfInBounds_toArray]); (try simp only [List.set_cons_succ]); (try simp only [List.set_cons_zero])
            refine wpAnyH_take (i := 2) (v := ?_) rfl (by kernel_rfl) (by kernel_rfl) (by kernel_rfl) (fun _ _ _ h => h) (Or.inl ⟨by kernel_rfl, ?_⟩) hHeld ?_
            rotate_left
            · intro wz hSw; (try dsimp only at hSw); go_simp; all_goals (try with_reducible rfl)
            (try simp only [List.getElem_toArray]); (try simp only [List.getElem_cons_succ]); (try simp only [List.getElem_cons_zero]); (try simp only [Act.put]); (try simp only [List.setIfInBounds_toArray]); (try simp only [List.set_cons_succ]); (try simp only [List.set_cons_zero])
            refine wpAnyH_take (i := 3) (v := ?_) rfl (by kernel_rfl) (by kernel_rfl) (by kernel_rfl) (fun _ _ _ h => h) (Or.inl ⟨by kernel_rfl, ?_⟩) hHeld ?_
            rotate_left
            · intro wz hSw; (try dsimp only at hSw); go_simp; all_goals (try with_reducible rfl)
            (try simp only [List.getElem_toArray]); (try simp only [List.getElem_cons_succ]); (try simp only [List.getElem_cons_zero]); (try simp only [Act.put]); (try simp only [List.setIfInBounds_toArray]); (try simp only [List.set_cons_succ]); (try simp only [List.set_cons_zero])
            refine wpAnyH_take (i := 4) (v := ?_) rfl (by kernel_rfl) (by kernel_rfl) (by kernel_rfl) (fun _ _ _ h => h) (Or.inl ⟨by kernel_rfl, ?_⟩) hHeld ?_
            rotate_left
            · intro wz hSw; (try dsimp only at hSw); go_simp; all_goals (try with_reducible rfl)
            (try simp only [List.getElem_toArray]); (try simp only [List.getElem_cons_succ]); (try simp only [List.getElem_cons_zero]); (try simp only [Act.put]); (try simp only [List.setIfInBounds_toArray]); (try simp only [List.set_cons_succ]); (try simp only [List.set_cons_zero])
            refine wpAnyH_take (i := 5) (v := ?_) rfl (by kernel_rfl) (by kernel_rfl) (by kernel_rfl) (fun _ _ _ h => h) (Or.inl ⟨by kernel_rfl, ?_⟩) hHeld ?_
            rotate_left
            · intro wz hSw; (try dsimp only at hSw); go_simp; all_goals (try with_reducible rfl)
            (try simp only [List.getElem_toArray]); (try simp only [List.getElem_cons_succ]); (try simp only [List.getElem_cons_zero]); (try simp only [Act.put]); (try simp only [List.setIfInBounds_toArray]); (try simp only [List.set_cons_succ]); (try simp only [List.set_cons_zero])
            refine wpAnyH_take (i := 6) (v := ?_) rfl (by kernel_rfl) (by kernel_rfl) (by kernel_rfl) (fun _ _ _ h => h) (Or.inl ⟨by kernel_rfl, ?_⟩) hHeld ?_
            rotate_left
            · intro wz hSw; (try dsimp only at hSw); go_simp; all_goals (try with_reducible rfl)
            (try simp only [List.getElem_toArray]); (try simp only [List.getElem_cons_succ]); (try simp only [List.getElem_cons_zero]); (try simp only [Act.put]); (try simp only [List.setIfInBounds_toArray]); (try simp only [List.set_cons_succ]); (try simp only [List.set_cons_zero])
            refine wpAnyH_take (i := 7) (v := ?_) rfl (by kernel_rfl) (by kernel_rfl) (by kernel_rfl) (fun _ _ _ h => h) (Or.inl ⟨by kernel_rfl, ?_⟩) hHeld ?_
            rotate_left
            · intro wz hSw; (try dsimp only at hSw); go_simp; all_goals (try with_reducible rfl)
            (try simp only [List.getElem_toArray]); (try simp only [List.getElem_cons_succ]); (try simp only [List.getElem_cons_zero]); (try simp only [Act.put]); (try simp only [List.setIfInBounds_toArray]); (try simp only [List.set_cons_succ]); (try simp only [List.set_cons_zero])
            refine wpAnyH_take (i := 8) (v := ?_) rfl (by kernel_rfl) (by kernel_rfl) (by kernel_rfl) (fun _ _ _ h => h) (Or.inl ⟨by kernel_rfl, ?_⟩) hHeld ?_
            rotate_left
            · intro wz hSw; (try dsimp only at hSw); go_simp; all_goals (try with_reducible rfl)
            (try simp only [List.getElem_toArray]); (try simp only [List.getElem_cons_succ]); (try simp only [List.getElem_cons_zero]); (try simp only [Act.put]); (try simp only [List.setIfInBounds_toArray]); (try simp only [List.set_cons_succ]); (try simp only [List.set_cons_zero])
            refine wpAnyH_take (i := 9) (v := ?_) rfl (by kernel_rfl) (by kernel_rfl) (by kernel_rfl) (fun _ _ _ h => h) (Or.inl ⟨by kernel_rfl, ?_⟩) hHeld ?_
            rotate_left
            · intro wz hSw; (try dsimp only at hSw); go_simp; all_goals (try with_reducible rfl)
            (try simp only [List.getElem_toArray]); (try simp only [List.getElem_cons_succ]); (try simp only [List.getElem_cons_zero]); (try simp only [Act.put]); (try simp only [List.setIfInBounds_toArray]); (try simp only [List.set_cons_succ]); (try simp only [List.set_cons_zero])
            refine wpAnyH_ready (rs := [10, 14]) (by kernel_rfl) (by simp) (AllReadyH.cons rfl (fun Kc hKc => ?_) (AllReadyH.cons rfl (fun Kc hKc => ?_) AllReadyH.nil))
            · go_simp
              (go_at_call 12; refine (HM.out _).mono ?_; rintro e w2 ⟨rfl, hb2⟩)
              have hbd : Below Xr.heap.size Xr w2 := ((Below.refl _ _).drew).trans (hb2.mono (by simp))
              have y0 := cell_keep hbd y0
              have y1 := cell_keep hbd y1
              have y2 := cell_keep hbd y2
              have y3 := cell_keep hbd y3
              have y4 := cell_keep hbd y4
              have y5 := cell_keep hbd y5
              have y6 := cell_keep hbd y6
              have y7 := cell_keep hbd y7
              have T9 := T.below hbd
              have B9 := BB.trans (hbd.mono BB.size)
              have hsw := hbd.size
              have S9 := SQ.below hbd
              clear hb2
              go_wp2_with fail
              refine hKc.out _ _ ?_ (fun hHeld => ?_)
              · (try dsimp only)
                refine ⟨?_, ?_, ?_, ?_, ?_, ?_, ?_, ?_⟩ <;> (repeat (with_reducible (first | exact y0 | exact y1 | exact y2 | exact y3 | exact y4 | exact y5 | exact y6 | exact y7 | refine cell_dr ?_ | refine cell_al _ ?_ | refine cell_stb ?_ ?_ | (show _ ≠ _; omega))))
              clear hKc Kc
              (try simp only [List.getElem_toArray]); (try simp only [List.getElem_cons_succ]); (try simp only [List.getElem_cons_zero]); (try simp only [Act.put]); (try simp only [List.setIfInBounds_toArray]); (try simp only [List.set_cons_succ]); (try simp only [List.set_cons_zero])
              refine wpAnyH_take (i := 11) (v := ?_) rfl (by kernel_rfl) (by kernel_rfl) (by kernel_rfl) (fun _ _ _ h => h) (Or.inl ⟨by kernel_rfl, ?_⟩) hHeld ?_
              rotate_left
              · intro wz hSw; (try dsimp only at hSw); go_simp; all_goals (try with_reducible rfl)
              (try simp only [List.getElem_toArray]); (try simp only [List.getElem_cons_succ]); (try simp only [List.getElem_cons_zero]); (try simp only [Act.put]); (try simp only [List.setIfInBounds_toArray]); (try simp only [List.set_cons_succ]); (try simp only [List.set_cons_zero])
              refine wpAnyH_take (i := 12) (v := ?_) rfl (by kernel_rfl) (by kernel_rfl) (by kernel_rfl) (fun _ _ _ h => h) (Or.inl ⟨by kernel_rfl, ?_⟩) hHeld ?_
              rotate_left
              · intro wz hSw; (try dsimp only at hSw); go_simp; all_goals (try with_reducible rfl)
              (try simp only [List.getElem_toArray]); (try simp only [List.getElem_cons_succ]); (try simp only [List.getElem_cons_zero]); (try simp only [Act.put]); (try simp only [List.setIfInBounds_toArray]); (try simp only [List.set_cons_succ]); (try simp only [List.set_cons_zero])
              refine wpAnyH_take (i := 13) (v := ?_) rfl (by kernel_rfl) (by kernel_rfl) (by kernel_rfl) (fun _ _ _ h => h) (Or.inl ⟨by kernel_rfl, ?_⟩) hHeld ?_
              rotate_left
              · intro wz hSw; (try dsimp only at hSw); go_simp; all_goals (try with_reducible rfl)
              (try simp only [List.getElem_toArray]); (try simp only [List.getElem_cons_succ]); (try simp only [List.getElem_cons_zero]); (try simp only [Act.put]); (try simp only [List.setIfInBounds_toArray]); (try simp only [List.set_cons_succ]); (try simp only [List.set_cons_zero])
              refine wpAnyH_ready (rs := [14]) (by kernel_rfl) (by simp) (AllReadyH.cons rfl (fun Kc hKc => ?_) AllReadyH.nil)
              go_simp
              refine hKc.out _ _ ?_ (fun hHeld => ?_)
              · (try dsimp only)
                refine ⟨?_, ?_, ?_, ?_, ?_, ?_, ?_, ?_⟩ <;> (repeat (with_reducible (first | exact y0 | exact y1 | exact y2 | exact y3 | exact y4 | exact y5 | exact y6 | exact y7 | refine cell_dr ?_ | refine cell_al _ ?_ | refine cell_stb ?_ ?_ | (show _ ≠ _; omega))))
              clear hKc Kc
              (try simp only [List.getElem_toArray]); (try simp only [List.getElem_cons_succ]); (try simp only [List.getElem_cons_zero]); (try simp only [Act.put]); (try simp only [List.setIfInBounds_toArray]); (try simp only [List.set_cons_succ]); (try simp only [List.set_cons_zero])
              refine wpAnyH_ready (rs := [15]) (by kernel_rfl) (by simp) (AllReadyH.cons rfl (fun Kc hKc => ?_) AllReadyH.nil)
              go_simp
              refine hKc.out _ _ ?_ (fun hHeld => ?_)
              · (try dsimp only)
                refine ⟨?_, ?_, ?_, ?_, ?_, ?_, ?_, ?_⟩ <;> (repeat (with_reducible (first | exact y0 | exact y1 | exact y2 | exact y3 | exact y4 | exact y5 | exact y6 | exact y7 | refine cell_dr ?_ | refine cell_al _ ?_ | refine cell_stb ?_ ?_ | (show _ ≠ _; omega))))
              clear hKc Kc
              (try simp only [List.getElem_toArray]); (try simp only [List.getElem_cons_succ]); (try simp only [List.getElem_cons_zero]); (try simp only [Act.put]); (try simp only [List.setIfInBounds_toArray]); (try simp only [List.set_cons_succ]); (try simp only [List.set_cons_zero])
              refine wpAnyH_take (i := 16) (v := ?_) rfl (by kernel_rfl) (by kernel_rfl) (by kernel_rfl) (fun _ _ _ h => h) (Or.inl ⟨by kernel_rfl, ?_⟩) hHeld ?_
              rotate_left
              · intro wz hSw; (try dsimp only at hSw); go_simp; all_goals (try with_reducible rfl)
              (try simp only [List.getElem_toArray]); (try simp only [List.getElem_cons_succ]); (try simp only [List.getElem_cons_zero]); (try simp only [Act.put]); (try simp only [List.setIfInBounds_toArray]); (try simp only [List.set_cons_succ]); (try simp only [List.set_cons_zero])
              refine wpAnyH_done (by kernel_rfl) ?_ _
              refine NoPanic.normal ?_
              go_wp2
              go_meet
              case rel => exact ⟨w2.heap.size, rfl, rfl, IsR.new w2 t1 t2, S9.below (b0_any' _ _), T9.below (b0_any' _ _), B9.alloc B9.size _⟩
            · go_simp
              refine hKc.out _ _ ?_ (fun hHeld => ?_)
              · (try dsimp only)
                refine ⟨?_, ?_, ?_, ?_, ?_, ?_, ?_, ?_⟩ <;> (repeat (with_reducible (first | exact y0 | exact y1 | exact y2 | exact y3 | exact y4 | exact y5 | exact y6 | exact y7 | refine cell_dr ?_ | refine cell_al _ ?_ | refine cell_stb ?_ ?_ | (show _ ≠ _; omega))))
              clear hKc Kc
              (try simp only [List.getElem_toArray]); (try simp only [List.getElem_cons_succ]); (try simp only [List.getElem_cons_zero]); (try simp only [Act.put]); (try simp only [List.setIfInBounds_toArray]); (try simp only [List.set_cons_succ]); (try simp only [List.set_cons_zero])
              refine wpAnyH_ready (rs := [10]) (by kernel_rfl) (by simp) (AllReadyH.cons rfl (fun Kc hKc => ?_) AllReadyH.nil)
              go_simp
              (go_at_call 12; refine (HM.out _).mono ?_; rintro e w2 ⟨rfl, hb2⟩)
              have hbd : Below Xr.heap.size Xr w2 := (((Below.refl _ _).drew).alloc (by simp) _).trans (hb2.mono (by simp))
              have pP : IsR w2 Xr.heap.size 0 0 := (show IsR (Xr.drew.alloc (.cells #[.int .i64 0, .int .i64 0] 27)) Xr.heap.size 0 0 from by simpa using IsR.new Xr.drew 0 0).below hb2
              have p0 := pP.c0
              have p1' := pP.c1
              have p2' := pP.f0
              have p3' := pP.f1
              have y0 := cell_keep hbd y0
              have y1 := cell_keep hbd y1
              have y2 := cell_keep hbd y2
              have y3 := cell_keep hbd y3
              have y4 := cell_keep hbd y4
              have y5 := cell_keep hbd y5
              have y6 := cell_keep hbd y6
              have y7 := cell_keep hbd y7
              have T9 := T.below hbd
              have B9 := BB.trans (hbd.mono BB.size)
              have hsw := hbd.size
              have S9 := SQ.below hbd
              clear hb2
              go_wp2_with fail
              refine hKc.out _ _ ?_ (fun hHeld => ?_)
              · (try dsimp only)
                refine ⟨?_, ?_, ?_, ?_, ?_, ?_, ?_, ?_⟩ <;> (repeat (with_reducible (first | exact y0 | exact y1 | exact y2 | exact y3 | exact y4 | exact y5 | exact y6 | exact y7 | refine cell_dr ?_ | refine cell_al _ ?_ | refine cell_stb ?_ ?_ | (show _ ≠ _; omega))))
              clear hKc Kc
              (try simp only [List.getElem_toArray]); (try simp only [List.getElem_cons_succ]); (try simp only [List.getElem_cons_zero]); (try simp only [Act.put]); (try simp only [List.setIfInBounds_toArray]); (try simp only [List.set_cons_succ]); (try simp only [List.set_cons_zero])
              refine wpAnyH_take (i := 11) (v := ?_) rfl (by kernel_rfl) (by kernel_rfl) (by kernel_rfl) (fun _ _ _ h => h) (Or.inl ⟨by kernel_rfl, ?_⟩) hHeld ?_
              rotate_left
              · intro wz hSw; (try dsimp only at hSw); go_simp; all_goals (try with_reducible rfl)
              (try simp only [List.getElem_toArray]); (try simp only [List.getElem_cons_succ]); (try simp only [List.getElem_cons_zero]); (try simp only [Act.put]); (try simp only [List.setIfInBounds_toArray]); (try simp only [List.set_cons_succ]); (try simp only [List.set_cons_zero])
              refine wpAnyH_take (i := 12) (v := ?_) rfl (by kernel_rfl) (by kernel_rfl) (by kernel_rfl) (fun _ _ _ h => h) (Or.inl ⟨by kernel_rfl, ?_⟩) hHeld ?_
              rotate_left
              · intro wz hSw; (try dsimp only at hSw); go_simp; all_goals (try with_reducible rfl)
              (try simp only [List.getElem_toArray]); (try simp only [List.getElem_cons_succ]); (try simp only [List.getElem_cons_zero]); (try simp only [Act.put]); (try simp only [List.setIfInBounds_toArray]); (try simp only [List.set_cons_succ]); (try simp only [List.set_cons_zero])
              refine wpAnyH_take (i := 13) (v := ?_) rfl (by kernel_rfl) (by kernel_rfl) (by kernel_rfl) (fun _ _ _ h => h) (Or.inl ⟨by kernel_rfl, ?_⟩) hHeld ?_
              rotate_left
              · intro wz hSw; (try dsimp only at hSw); go_simp; all_goals (try with_reducible rfl)
              (try simp only [List.getElem_toArray]); (try simp only [List.getElem_cons_succ]); (try simp only [List.getElem_cons_zero]); (try simp only [Act.put]); (try simp only [List.setIfInBounds_toArray]); (try simp only [List.set_cons_succ]); (try simp only [List.set_cons_zero])
              refine wpAnyH_ready (rs := [15]) (by kernel_rfl) (by simp) (AllReadyH.cons rfl (fun Kc hKc => ?_) AllReadyH.nil)
              go_simp
              refine hKc.out _ _ ?_ (fun hHeld => ?_)
              · (try dsimp only)
                refine ⟨?_, ?_, ?_, ?_, ?_, ?_, ?_, ?_⟩ <;> (repeat (with_reducible (first | exact y0 | exact y1 | exact y2 | exact y3 | exact y4 | exact y5 | exact y6 | exact y7 | refine cell_dr ?_ | refine cell_al _ ?_ | refine cell_stb ?_ ?_ | (show _ ≠ _; omega))))
              clear hKc Kc
              (try simp only [List.getElem_toArray]); (try simp only [List.getElem_cons_succ]); (try simp only [List.getElem_cons_zero]); (try simp only [Act.put]); (try simp only [List.setIfInBounds_toArray]); (try simp only [List.set_cons_succ]); (try simp only [List.set_cons_zero])
              refine wpAnyH_take (i := 16) (v := ?_) rfl (by kernel_rfl) (by kernel_rfl) (by kernel_rfl) (fun _ _ _ h => h) (Or.inl ⟨by kernel_rfl, ?_⟩) hHeld ?_
              rotate_left
              · intro wz hSw; (try dsimp only at hSw); go_simp; all_goals (try with_reducible rfl)
              (try simp only [List.getElem_toArray]); (try simp only [List.getElem_cons_succ]); (try simp only [List.getElem_cons_zero]); (try simp only [Act.put]); (try simp only [List.setIfInBounds_toArray]); (try simp only [List.set_cons_succ]); (try simp only [List.set_cons_zero])
              refine wpAnyH_done (by kernel_rfl) ?_ _
              refine NoPanic.normal ?_
              go_wp2
              go_meet
              case rel => exact ⟨Xr.heap.size, rfl, rfl, (pP.set0 t1).set1 t2, (S9.other (by have := SQ.lt; omega) 0 _).other (by have := SQ.lt; omega) 1 _, (T9.st' T.under 0 _).st' T.under 1 _, (B9.setCell (p := ⟨Xr.heap.size, 0, none⟩) BB.size _).setCell (p := ⟨Xr.heap.size, 1, none⟩) BB.size _⟩
          case rest =>
            clear T BB y0 y1 y2 y3 y4 y5 y6 y7 HM SQ
            obtain ⟨Q, rfl, rfl, hP, hS, hT, hB⟩ := hcut
            have z0 := hS.out.c0
            have z1 := hS.out.c1
            have z2 := hP.out.c0
            have z3 := hP.out.c1
            rw [HR1.out.1] at z0
            rw [HR1.out.2] at z1
            have BB : Below w.heap.size w wc := hB.out
            clear hP hS hT hB
            cases k1
            · go_wp2
              go_ret
              exact ⟨rfl, BB⟩
            cases k2
            · go_wp2
              go_ret
              exact ⟨rfl, BB⟩
            have HL : Hid (∀ W : World, Calls Try.prog 13 #[.agg #[.int .i64 t1, .int .i64 t2], .agg #[.int .i64 q1, .int .i64 q2]] W fun e w' => e = .returned (.bool false) ∧ Below W.heap.size W w') := by
              intro W; have := iLess_any t1 t2 q1 q2 W; rw [HLS.out rfl rfl] at this; exact this
            go_wp2_with fail
            refine (HL.out _).mono ?_
            rintro e w8 ⟨rfl, hb⟩
            replace BB := BB.trans (hb.mono BB.size)
            replace z0 := cell_keep hb z0
            replace z1 := cell_keep hb z1
            replace z2 := cell_keep hb z2
            replace z3 := cell_keep hb z3
            clear hb
            go_wp2_with fail
            refine (P4.out _ BB).mono ?_
            rintro e w9 ⟨rfl, hb⟩
            replace BB := BB.trans (hb.mono BB.size)
            replace z0 := cell_keep hb z0
            replace z1 := cell_keep hb z1
            replace z2 := cell_keep hb z2
            replace z3 := cell_keep hb z3
            clear hb
            have he := HEQ.out
            cases he
            have f1 : (q1 == q1) = true := by simp
            have f2 : (q2 == q2) = true := by simp
            go_wp2
            go_ret
            exact ⟨rfl, BB⟩
      · have hpn : (p == 0) = false := by simp [hp0]
        have hpm : (p != 0) = true := by simp [hp0]
        go_wp2_with fail
        refine (P4.out _ BB).mono ?_
        rintro e w3 ⟨rfl, hb⟩
        replace T := T.below hb
        replace BB := BB.trans (hb.mono BB.size)
        clear hb
        obtain ⟨RV, RT⟩ := T.rd
        obtain ⟨ys', hys⟩ : ∃ y, y = ys := ⟨_, rfl⟩
        rw [← hys] at RT
        have SY : ∀ i, i < 3 → Sm (fr ys' i) 6 4 := by rw [hys]; exact fun i hi => HSM.out.2.2 i (by omega)
        have ly' : ys'.length = 3 := by rw [hys]; exact ly
        clear T hys
        have hco := cauchy_car lx ly' lv SX SY SV
        have hcl := fun k1 k2 => cauchy_law SX SY SV SP k1 k2
        obtain ⟨⟨a1, a2⟩, ha⟩ : ∃ m, m = (dgV xs vs xs false 3).1 := ⟨_, rfl⟩
        obtain ⟨⟨b1, b2⟩, hbm⟩ : ∃ m, m = (dgV xs vs ys' false 3).1 := ⟨_, rfl⟩
        obtain ⟨mc, hc⟩ : ∃ m, m = (dgV ys' vs xs false 3).1 := ⟨_, rfl⟩
        obtain ⟨⟨d1, d2⟩, hd⟩ : ∃ m, m = (dgV ys' vs ys' false 3).1 := ⟨_, rfl⟩
        rw [← ha, ← hbm, ← hc, ← hd] at hco
        rw [← ha, ← hbm, ← hd] at hcl
        have HCL := hidW8 hcl
        have HCO := hidW8 hco
        clear hco hcl ha hbm hc hd
        have H1 := hidW8 (fun (W : World) (h : RdR W o vs) => iAlone_any o vs W h)
        have H2 := hidW8 (fun (W : World) (h : RdR W o vs) => sAlone_any o vs W h)
        have HAS := hidW8 (aloneA_smallC vs)
        go_wp2_with fail
        refine (H1.out _ RV).mono ?_
        rintro e w4 ⟨vm, um, rfl, TM, hb⟩
        replace RV := RV.below hb
        replace RT := RT.below hb
        replace BB := BB.trans (hb.mono BB.size)
        clear hb H1
        have H3 := iCar_any _ vm [xs, ys'] (aloneA vs) w4 RT TM.read
        rw [HCO.out.1, HCO.out.2] at H3
        have H3 := hidW8 H3
        go_wp2_with fail
        refine H3.out.mono ?_
        rintro e w5 ⟨r, ur, rfl, T, hb⟩
        replace RV := RV.below hb
        replace TM := TM.below hb
        replace BB := BB.trans (hb.mono BB.size)
        clear hb H3 RT
        go_wp2_with fail
        refine (H2.out _ RV).mono ?_
        rintro e w6 ⟨vn, un, rfl, TN, hb⟩
        replace TM := TM.below hb
        replace T := T.below hb
        replace BB := BB.trans (hb.mono BB.size)
        clear hb H2 RV
        have H4 := hidW8 (likeRows_rd vm vn (aloneA vs) w6 (by have := HAS.out.1; omega) (fun i hi => by have := HAS.out.2 i hi; omega) TM.read TN.read)
        obtain ⟨Bw, hBw⟩ : ∃ B, B = w4.heap.size := ⟨_, rfl⟩
        rw [← hBw] at T
        clear TM TN hBw
        go_wp2_with fail
        refine H4.out.mono ?_
        rintro e w7 ⟨rfl, hb⟩
        replace T := T.below hb
        replace BB := BB.trans (hb.mono BB.size)
        clear hb H4
        obtain ⟨g, cc, g0, c0, g1, c1, rfl, y0, y1, y2, y3, y4, y5, _, _, y6, y7⟩ := tab22 T
        have HM := hidW8 (fun W => sMulB (b1, b2) (b1, b2) W)
        have HM' := hidW8 (fun W => sMulB (a1, a2) (d1, d2) W)
        obtain ⟨⟨q1, q2⟩, hq⟩ : ∃ m, m = mulP (b1, b2) (b1, b2) := ⟨_, rfl⟩
        obtain ⟨⟨t1, t2⟩, ht⟩ : ∃ m, m = mulP (a1, a2) (d1, d2) := ⟨_, rfl⟩
        obtain ⟨k1, hk1⟩ : ∃ m, m = mulK (b1, b2) (b1, b2) := ⟨_, rfl⟩
        obtain ⟨k2, hk2⟩ : ∃ m, m = mulK (a1, a2) (d1, d2) := ⟨_, rfl⟩
        rw [← hq, ← hk1] at HM
        rw [← ht, ← hk2] at HM'
        have HLS : Hid (k1 = true → k2 = true → lessB t1 t2 q1 q2 = false) := by
          intro h1 h2
          have := HCL.out (hk1.symm.trans h1) (hk2.symm.trans h2)
          rw [← hq, ← ht] at this
          exact this
        clear hq ht hk1 hk2 HCL
        dsimp only at y0 y1 y2 y3 y4 y5 y6 y7 HM HM'
        go_upto_region 17 with fail
        obtain ⟨Xr, hXr⟩ : ∃ u, u = w7 := ⟨_, rfl⟩
        rw [← hXr] at T BB y0 y1 y2 y3 y4 y5 y6 y7 ⊢
        clear hXr
        go_cut [9, 10] (fun s9 s10 wx => ∃ P : Nat, s9 = .pointer (some ⟨P, 0, none⟩) ∧ s10 = .bool k1 ∧ Hid (IsR wx P q1 q2) ∧ Hid (Tab wx Bw (.slice (some ⟨g, 0, none⟩) 2 cc) ur [[(a1, a2), (b1, b2)], [mc, (d1, d2)]]) ∧ Hid (Below w.heap.size w wx))
        case first =>
          have hg := World.block_lt_of_cell? Xr _ y0
          have hg0 := World.block_lt_of_cell? Xr _ y2
          have hg1 := World.block_lt_of_cell? Xr _ y6
          dsimp only at hg hg0 hg1
          refine wp_region_noPanic ?_
          refine wp_region_held_drew (S := (fun w' => w'.cell? ⟨g, 0, none⟩ = some (.slice (some ⟨g0, 0, none⟩) 2 c0) ∧ w'.cell? ⟨g, 1, none⟩ = some (.slice (some ⟨g1, 0, none⟩) 2 c1) ∧ w'.cell? ⟨g0, 0, none⟩ = some (.int .i64 a1) ∧ w'.cell? ⟨g0, 1, none⟩ = some (.int .i64 a2) ∧ w'.cell? ⟨g0, 2, none⟩ = some (.int .i64 b1) ∧ w'.cell? ⟨g0, 3, none⟩ = some (.int .i64 b2) ∧ w'.cell? ⟨g1, 2, none⟩ = some (.int .i64 d1) ∧ w'.cell? ⟨g1, 3, none⟩ = some (.int .i64 d2))) (by kernel_rfl) ?_ (fun hHeld => ?_)
          · (try dsimp only)
            refine ⟨?_, ?_, ?_, ?_, ?_, ?_, ?_, ?_⟩ <;> (repeat (with_reducible (first | exact y0 | exact y1 | exact y2 | exact y3 | exact y4 | exact y5 | exact y6 | exact y7 | refine cell_dr ?_ | refine cell_al _ ?_ | refine cell_stb ?_ ?_ | (show _ ≠ _; omega))))
          refine wpAnyH_take (i := 0) (v := ?_) rfl (by kernel_rfl) (by kernel_rfl) (by kernel_rfl) (fun _ _ _ h => h) (Or.inl ⟨by kernel_rfl, ?_⟩) hHeld ?_
          rotate_left
          · intro wz hSw; (try dsimp only at hSw); go_simp; all_goals (try with_reducible rfl)
          (try simp only [List.getElem_toArray]); (try simp only [List.getElem_cons_succ]); (try simp only [List.getElem_cons_zero]); (try simp only [Act.put]); (try simp only [List.setIfInBounds_toArray]); (try simp only [List.set_cons_succ]); (try simp only [List.set_cons_zero])
          refine wpAnyH_take (i := 1) (v := ?_) rfl (by kernel_rfl) (by kernel_rfl) (by kernel_rfl) (fun _ _ _ h => h) (Or.inl ⟨by kernel_rfl, ?_⟩) hHeld ?_
          rotate_left
          · intro wz hSw; (try dsimp only at hSw); go_simp; all_goals (try with_reducible rfl)
          (try simp only [List.getElem_toArray]); (try simp only [List.getElem_cons_succ]); (try simp only [List.getElem_cons_zero]); (try simp only [Act.put]); (try simp only [List.setIfInBounds_toArray]); (try simp only [List.set_cons_succ]); (try simp only [List.set_cons_zero])
          refine wpAnyH_take (i := 2) (v := ?_) rfl (by kernel_rfl) (by kernel_rfl) (by kernel_rfl) (fun _ _ _ h => h) (Or.inl ⟨by kernel_rfl, ?_⟩) hHeld ?_
          rotate_left
          · intro wz hSw; (try dsimp only at hSw); go_simp; all_goals (try with_reducible rfl)
          (try simp only [List.getElem_toArray]); (try simp only [List.getElem_cons_succ]); (try simp only [List.getElem_cons_zero]); (try simp only [Act.put]); (try simp only [List.setIfInBounds_toArray]); (try simp only [List.set_cons_succ]); (try simp only [List.set_cons_zero])
          refine wpAnyH_take (i := 3) (v := ?_) rfl (by kernel_rfl) (by kernel_rfl) (by kernel_rfl) (fun _ _ _ h => h) (Or.inl ⟨by kernel_rfl, ?_⟩) hHeld ?_
          rotate_left
          · intro wz hSw; (try dsimp only at hSw); go_simp; all_goals (try with_reducible rfl)
          (try simp only [List.getElem_toArray]); (try simp only [List.getElem_cons_succ]); (try simp only [List.getElem_cons_zero]); (try simp only [Act.put]); (try simp only [List.setIfInBounds_toArray]); (try simp only [List.set_cons_succ]); (try simp only [List.set_cons_zero])
          refine wpAnyH_take (i := 4) (v := ?_) rfl (by kernel_rfl) (by kernel_rfl) (by kernel_rfl) (fun _ _ _ h => h) (Or.inl ⟨by kernel_rfl, ?_⟩) hHeld ?_
          rotate_left
          · intro wz hSw; (try dsimp only at hSw); go_simp; all_goals (try with_reducible rfl)
          (try simp only [List.getElem_toArray]); (try simp only [List.getElem_cons_succ]); (try simp only [List.getElem_cons_zero]); (try simp only [Act.put]); (try simp only [List.setIfInBounds_toArray]); (try simp only [List.set_cons_succ]); (try simp only [List.set_cons_zero])
          refine wpAnyH_take (i := 5) (v := ?_) rfl (by kernel_rfl) (by kernel_rfl) (by kernel_rfl) (fun _ _ _ h => h) (Or.inl ⟨by kernel_rfl, ?_⟩) hHeld ?_
          rotate_left
          · intro wz hSw; (try dsimp only at hSw); go_simp; all_goals (try with_reducible rfl)
          (try simp only [List.getElem_toArray]); (try simp only [List.getElem_cons_succ]); (try simp only [List.getElem_cons_zero]); (try simp only [Act.put]); (try simp only [List.setIfInBounds_toArray]); (try simp only [List.set_cons_succ]); (try simp only [List.set_cons_zero])
          refine wpAnyH_take (i := 6) (v := ?_) rfl (by kernel_rfl) (by kernel_rfl) (by kernel_rfl) (fun _ _ _ h => h) (Or.inl ⟨by kernel_rfl, ?_⟩) hHeld ?_
          rotate_left
          · intro wz hSw; (try dsimp only at hSw); go_simp; all_goals (try with_reducible rfl)
          (try simp only [List.getElem_toArray]); (try simp only [List.getElem_cons_succ]); (try simp only [List.getElem_cons_zero]); (try simp only [Act.put]); (try simp only [List.setIfInBounds_toArray]); (try simp only [List.set_cons_succ]); (try simp only [List.set_cons_zero])
          refine wpAnyH_take (i := 7) (v := ?_) rfl (by kernel_rfl) (by kernel_rfl) (by kernel_rfl) (fun _ _ _ h => h) (Or.inl ⟨by kernel_rfl, ?_⟩) hHeld ?_
          rotate_left
          · intro wz hSw; (try dsimp only at hSw); go_simp; all_goals (try with_reducible rfl)
          (try simp only [List.getElem_toArray]); (try simp only [List.getElem_cons_succ]); (try simp only [List.getElem_cons_zero]); (try simp only [Act.put]); (try simp only [List.setIfInBounds_toArray]); (try simp only [List.set_cons_succ]); (try simp only [List.set_cons_zero])
          refine wpAnyH_take (i := 8) (v := ?_) rfl (by kernel_rfl) (by kernel_rfl) (by kernel_rfl) (fun _ _ _ h => h) (Or.inl ⟨by kernel_rfl, ?_⟩) hHeld ?_
          rotate_left
          · intro wz hSw; (try dsimp only at hSw); go_simp; all_goals (try with_reducible rfl)
          (try simp only [List.getElem_toArray]); (try simp only [List.getElem_cons_succ]); (try simp only [List.getElem_cons_zero]); (try simp only [Act.put]); (try simp only [List.setIfInBounds_toArray]); (try simp only [List.set_cons_succ]); (try simp only [List.set_cons_zero])
          refine wpAnyH_take (i := 9) (v := ?_) rfl (by kernel_rfl) (by kernel_rfl) (by kernel_rfl) (fun _ _ _ h => h) (Or.inl ⟨by kernel_rfl, ?_⟩) hHeld ?_
          rotate_left
          · intro wz hSw; (try dsimp only at hSw); go_simp; all_goals (try with_reducible rfl)
          (try simp only [List.getElem_toArray]); (try simp only [List.getElem_cons_succ]); (try simp only [List.getElem_cons_zero]); (try simp only [Act.put]); (try simp only [List.setIfInBounds_toArray]); (try simp only [List.set_cons_succ]); (try simp only [List.set_cons_zero])
          refine wpAnyH_ready (rs := [10, 14]) (by kernel_rfl) (by simp) (AllReadyH.cons rfl (fun Kc hKc => ?_) (AllReadyH.cons rfl (fun Kc hKc => ?_) AllReadyH.nil))
          · go_simp
            (go_at_call 12; refine (HM.out _).mono ?_; rintro e w2 ⟨rfl, hb2⟩)
            have hbd : Below Xr.heap.size Xr w2 := ((Below.refl _ _).drew).trans (hb2.mono (by simp))
            have y0 := cell_keep hbd y0
            have y1 := cell_keep hbd y1
            have y2 := cell_keep hbd y2
            have y3 := cell_keep hbd y3
            have y4 := cell_keep hbd y4
            have y5 := cell_keep hbd y5
            have y6 := cell_keep hbd y6
            have y7 := cell_keep hbd y7
            have T9 := T.below hbd
            have B9 := BB.trans (hbd.mono BB.size)
            have hsw := hbd.size
            clear hb2
            go_wp2_with fail
            refine hKc.out _ _ ?_ (fun hHeld => ?_)
            · (try dsimp only)
              refine ⟨?_, ?_, ?_, ?_, ?_, ?_, ?_, ?_⟩ <;> (repeat (with_reducible (first | exact y0 | exact y1 | exact y2 | exact y3 | exact y4 | exact y5 | exact y6 | exact y7 | refine cell_dr ?_ | refine cell_al _ ?_ | refine cell_stb ?_ ?_ | (show _ ≠ _; omega))))
            clear hKc Kc
            (try simp only [List.getElem_toArray]); (try simp only [List.getElem_cons_succ]); (try simp only [List.getElem_cons_zero]); (try simp only [Act.put]); (try simp only [List.setIfInBounds_toArray]); (try simp only [List.set_cons_succ]); (try simp only [List.set_cons_zero])
            refine wpAnyH_take (i := 11) (v := ?_) rfl (by kernel_rfl) (by kernel_rfl) (by kernel_rfl) (fun _ _ _ h => h) (Or.inl ⟨by kernel_rfl, ?_⟩) hHeld ?_
            rotate_left
            · intro wz hSw; (try dsimp only at hSw); go_simp; all_goals (try with_reducible rfl)
            (try simp only [List.getElem_toArray]); (try simp only [List.getElem_cons_succ]); (try simp only [List.getElem_cons_zero]); (try simp only [Act.put]); (try simp only [List.setIfInBounds_toArray]); (try simp only [List.set_cons_succ]); (try simp only [List.set_cons_zero])
            refine wpAnyH_take (i := 12) (v := ?_) rfl (by kernel_rfl) (by kernel_rfl) (by kernel_rfl) (fun _ _ _ h => h) (Or.inl ⟨by kernel_rfl, ?_⟩) hHeld ?_
            rotate_left
            · intro wz hSw; (try dsimp only at hSw); go_simp; all_goals (try with_reducible rfl)
            (try simp only [List.getElem_toArray]); (try simp only [List.getElem_cons_succ]); (try simp only [List.getElem_cons_zero]); (try simp only [Act.put]); (try simp only [List.setIfInBounds_toArray]); (try simp only [List.set_cons_succ]); (try simp only [List.set_cons_zero])
            refine wpAnyH_take (i := 13) (v := ?_) rfl (by kernel_rfl) (by kernel_rfl) (by kernel_rfl) (fun _ _ _ h => h) (Or.inl ⟨by kernel_rfl, ?_⟩) hHeld ?_
            rotate_left
            · intro wz hSw; (try dsimp only at hSw); go_simp; all_goals (try with_reducible rfl)
            (try simp only [List.getElem_toArray]); (try simp only [List.getElem_cons_succ]); (try simp only [List.getElem_cons_zero]); (try simp only [Act.put]); (try simp only [List.setIfInBounds_toArray]); (try simp only [List.set_cons_succ]); (try simp only [List.set_cons_zero])
            refine wpAnyH_ready (rs := [14]) (by kernel_rfl) (by simp) (AllReadyH.cons rfl (fun Kc hKc => ?_) AllReadyH.nil)
            go_simp
            refine hKc.out _ _ ?_ (fun hHeld => ?_)
            · (try dsimp only)
              refine ⟨?_, ?_, ?_, ?_, ?_, ?_, ?_, ?_⟩ <;> (repeat (with_reducible (first | exact y0 | exact y1 | exact y2 | exact y3 | exact y4 | exact y5 | exact y6 | exact y7 | refine cell_dr ?_ | refine cell_al _ ?_ | refine cell_stb ?_ ?_ | (show _ ≠ _; omega))))
            clear hKc Kc
            (try simp only [List.getElem_toArray]); (try simp only [List.getElem_cons_succ]); (try simp only [List.getElem_cons_zero]); (try simp only [Act.put]); (try simp only [List.setIfInBounds_toArray]); (try simp only [List.set_cons_succ]); (try simp only [List.set_cons_zero])
            refine wpAnyH_ready (rs := [15]) (by kernel_rfl) (by simp) (AllReadyH.cons rfl (fun Kc hKc => ?_) AllReadyH.nil)
            go_simp
            refine hKc.out _ _ ?_ (fun hHeld => ?_)
            · (try dsimp only)
              refine ⟨?_, ?_, ?_, ?_, ?_, ?_, ?_, ?_⟩ <;> (repeat (with_reducible (first | exact y0 | exact y1 | exact y2 | exact y3 | exact y4 | exact y5 | exact y6 | exact y7 | refine cell_dr ?_ | refine cell_al _ ?_ | refine cell_stb ?_ ?_ | (show _ ≠ _; omega))))
            clear hKc Kc
            (try simp only [List.getElem_toArray]); (try simp only [List.getElem_cons_succ]); (try simp only [List.getElem_cons_zero]); (try simp only [Act.put]); (try simp only [List.setIfInBounds_toArray]); (try simp only [List.set_cons_succ]); (try simp only [List.set_cons_zero])
            refine wpAnyH_take (i := 16) (v := ?_) rfl (by kernel_rfl) (by kernel_rfl) (by kernel_rfl) (fun _ _ _ h => h) (Or.inl ⟨by kernel_rfl, ?_⟩) hHeld ?_
            rotate_left
            · intro wz hSw; (try dsimp only at hSw); go_simp; all_goals (try with_reducible rfl)
            (try simp only [List.getElem_toArray]); (try simp only [List.getElem_cons_succ]); (try simp only [List.getElem_cons_zero]); (try simp only [Act.put]); (try simp only [List.setIfInBounds_toArray]); (try simp only [List.set_cons_succ]); (try simp only [List.set_cons_zero])
            refine wpAnyH_done (by kernel_rfl) ?_ _
            refine NoPanic.normal ?_
            go_wp2
            go_meet
            case rel => exact ⟨w2.heap.size, rfl, rfl, IsR.new w2 q1 q2, T9.below (b0_any' _ _), B9.alloc B9.size _⟩
          · go_simp
            refine hKc.out _ _ ?_ (fun hHeld => ?_)
            · (try dsimp only)
              refine ⟨?_, ?_, ?_, ?_, ?_, ?_, ?_, ?_⟩ <;> (repeat (with_reducible (first | exact y0 | exact y1 | exact y2 | exact y3 | exact y4 | exact y5 | exact y6 | exact y7 | refine cell_dr ?_ | refine cell_al _ ?_ | refine cell_stb ?_ ?_ | (show _ ≠ _; omega))))
            clear hKc Kc
            (try simp only [List.getElem_toArray]); (try simp only [List.getElem_cons_succ]); (try simp only [List.getElem_cons_zero]); (try simp only [Act.put]); (try simp only [List.setIfInBounds_toArray]); (try simp only [List.set_cons_succ]); (try simp only [List.set_cons_zero])
            refine wpAnyH_ready (rs := [10]) (by kernel_rfl) (by simp) (AllReadyH.cons rfl (fun Kc hKc => ?_) AllReadyH.nil)
            go_simp
            (go_at_call 12; refine (HM.out _).mono ?_; rintro e w2 ⟨rfl, hb2⟩)
            have hbd : Below Xr.heap.size Xr w2 := (((Below.refl _ _).drew).alloc (by simp) _).trans (hb2.mono (by simp))
            have pP : IsR w2 Xr.heap.size 0 0 := (show IsR (Xr.drew.alloc (.cells #[.int .i64 0, .int .i64 0] 27)) Xr.heap.size 0 0 from by simpa using IsR.new Xr.drew 0 0).below hb2
            have p0 := pP.c0
            have p1' := pP.c1
            have p2' := pP.f0
            have p3' := pP.f1
            have y0 := cell_keep hbd y0
            have y1 := cell_keep hbd y1
            have y2 := cell_keep hbd y2
            have y3 := cell_keep hbd y3
            have y4 := cell_keep hbd y4
            have y5 := cell_keep hbd y5
            have y6 := cell_keep hbd y6
            have y7 := cell_keep hbd y7
            have T9 := T.below hbd
            have B9 := BB.trans (hbd.mono BB.size)
            have hsw := hbd.size
            clear hb2
            go_wp2_with fail
            refine hKc.out _ _ ?_ (fun hHeld => ?_)
            · (try dsimp only)
              refine ⟨?_, ?_, ?_, ?_, ?_, ?_, ?_, ?_⟩ <;> (repeat (with_reducible (first | exact y0 | exact y1 | exact y2 | exact y3 | exact y4 | exact y5 | exact y6 | exact y7 | refine cell_dr ?_ | refine cell_al _ ?_ | refine cell_stb ?_ ?_ | (show _ ≠ _; omega))))
            clear hKc Kc
            (try simp only [List.getElem_toArray]); (try simp only [List.getElem_cons_succ]); (try simp only [List.getElem_cons_zero]); (try simp only [Act.put]); (try simp only [List.setIfInBounds_toArray]); (try simp only [List.set_cons_succ]); (try simp only [List.set_cons_zero])
            refine wpAnyH_take (i := 11) (v := ?_) rfl (by kernel_rfl) (by kernel_rfl) (by kernel_rfl) (fun _ _ _ h => h) (Or.inl ⟨by kernel_rfl, ?_⟩) hHeld ?_
            rotate_left
            · intro wz hSw; (try dsimp only at hSw); go_simp; all_goals (try with_reducible rfl)
            (try simp only [List.getElem_toArray]); (try simp only [List.getElem_cons_succ]); (try simp only [List.getElem_cons_zero]); (try simp only [Act.put]); (try simp only [List.setIfInBounds_toArray]); (try simp only [List.set_cons_succ]); (try simp only [List.set_cons_zero])
            refine wpAnyH_take (i := 12) (v := ?_) rfl (by kernel_rfl) (by kernel_rfl) (by kernel_rfl) (fun _ _ _ h => h) (Or.inl ⟨by kernel_rfl, ?_⟩) hHeld ?_
            rotate_left
            · intro wz hSw; (try dsimp only at hSw); go_simp; all_goals (try with_reducible rfl)
            (try simp only [List.getElem_toArray]); (try simp only [List.getElem_cons_succ]); (try simp only [List.getElem_cons_zero]); (try simp only [Act.put]); (try simp only [List.setIfInBounds_toArray]); (try simp only [List.set_cons_succ]); (try simp only [List.set_cons_zero])
            refine wpAnyH_take (i := 13) (v := ?_) rfl (by kernel_rfl) (by kernel_rfl) (by kernel_rfl) (fun _ _ _ h => h) (Or.inl ⟨by kernel_rfl, ?_⟩) hHeld ?_
            rotate_left
            · intro wz hSw; (try dsimp only at hSw); go_simp; all_goals (try with_reducible rfl)
            (try simp only [List.getElem_toArray]); (try simp only [List.getElem_cons_succ]); (try simp only [List.getElem_cons_zero]); (try simp only [Act.put]); (try simp only [List.setIfInBounds_toArray]); (try simp only [List.set_cons_succ]); (try simp only [List.set_cons_zero])
            refine wpAnyH_ready (rs := [15]) (by kernel_rfl) (by simp) (AllReadyH.cons rfl (fun Kc hKc => ?_) AllReadyH.nil)
            go_simp
            refine hKc.out _ _ ?_ (fun hHeld => ?_)
            · (try dsimp only)
              refine ⟨?_, ?_, ?_, ?_, ?_, ?_, ?_, ?_⟩ <;> (repeat (with_reducible (first | exact y0 | exact y1 | exact y2 | exact y3 | exact y4 | exact y5 | exact y6 | exact y7 | refine cell_dr ?_ | refine cell_al _ ?_ | refine cell_stb ?_ ?_ | (show _ ≠ _; omega))))
            clear hKc Kc
            (try simp only [List.getElem_toArray]); (try simp only [List.getElem_cons_succ]); (try simp only [List.getElem_cons_zero]); (try simp only [Act.put]); (try simp only [List.setIfInBounds_toArray]); (try simp only [List.set_cons_succ]); (try simp only [List.set_cons_zero])
            refine wpAnyH_take (i := 16) (v := ?_) rfl (by kernel_rfl) (by kernel_rfl) (by kernel_rfl) (fun _ _ _ h => h) (Or.inl ⟨by kernel_rfl, ?_⟩) hHeld ?_
            rotate_left
            · intro wz hSw; (try dsimp only at hSw); go_simp; all_goals (try with_reducible rfl)
            (try simp only [List.getElem_toArray]); (try simp only [List.getElem_cons_succ]); (try simp only [List.getElem_cons_zero]); (try simp only [Act.put]); (try simp only [List.setIfInBounds_toArray]); (try simp only [List.set_cons_succ]); (try simp only [List.set_cons_zero])
            refine wpAnyH_done (by kernel_rfl) ?_ _
            refine NoPanic.normal ?_
            go_wp2
            go_meet
            case rel => exact ⟨Xr.heap.size, rfl, rfl, (pP.set0 q1).set1 q2, (T9.st' T.under 0 _).st' T.under 1 _, (B9.setCell (p := ⟨Xr.heap.size, 0, none⟩) BB.size _).setCell (p := ⟨Xr.heap.size, 1, none⟩) BB.size _⟩
        case rest =>
          clear T BB y0 y1 y2 y3 y4 y5 y6 y7 HM
          have HM := HM'
          clear HM'
          obtain ⟨P, rfl, rfl, hS, hT, hB⟩ := hcut
          have SQ : IsR wc P q1 q2 := hS.out
          have T : Tab wc Bw (.slice (some ⟨g, 0, none⟩) 2 cc) ur [[(a1, a2), (b1, b2)], [mc, (d1, d2)]] := hT.out
          have BB : Below w.heap.size w wc := hB.out
          clear hS hT hB
          obtain ⟨g', cc', g0, c0, g1, c1, e, y0, y1, y2, y3, y4, y5, _, _, y6, y7⟩ := tab22 T
          cases e
          dsimp only at y0 y1 y2 y3 y4 y5 y6 y7
          go_upto_region 18 with fail
          obtain ⟨Xr, hXr⟩ : ∃ u, u = wc := ⟨_, rfl⟩
          rw [← hXr] at T BB SQ y0 y1 y2 y3 y4 y5 y6 y7 ⊢
          clear hXr
          obtain ⟨r1, hr1⟩ : ∃ r, r = q1 := ⟨_, rfl⟩
          obtain ⟨r2, hr2⟩ : ∃ r, r = q2 := ⟨_, rfl⟩
          have HR1 := hidW8 (And.intro hr1 hr2)
          rw [← hr1, ← hr2] at SQ
          clear hr1 hr2
          go_cut [11, 12] (fun s11 s12 wx => ∃ Q : Nat, s11 = .pointer (some ⟨Q, 0, none⟩) ∧ s12 = .bool k2 ∧ Hid (IsR wx Q t1 t2) ∧ Hid (IsR wx P r1 r2) ∧ Hid (Tab wx Bw (.slice (some ⟨g, 0, none⟩) 2 cc) ur [[(a1, a2), (b1, b2)], [mc, (d1, d2)]]) ∧ Hid (Below w.heap.size w wx))
          case first =>
            have hg := World.block_lt_of_cell? Xr _ y0
            have hg0 := World.block_lt_of_cell? Xr _ y2
            have hg1 := World.block_lt_of_cell? Xr _ y6
            dsimp only at hg hg0 hg1
            refine wp_region_noPanic ?_
            refine wp_region_held_drew (S := (fun w' => w'.cell? ⟨g, 0, none⟩ = some (.slice (some ⟨g0, 0, none⟩) 2 c0) ∧ w'.cell? ⟨g, 1, none⟩ = some (.slice (some ⟨g1, 0, none⟩) 2 c1) ∧ w'.cell? ⟨g0, 0, none⟩ = some (.int .i64 a1) ∧ w'.cell? ⟨g0, 1, none⟩ = some (.int .i64 a2) ∧ w'.cell? ⟨g0, 2, none⟩ = some (.int .i64 b1) ∧ w'.cell? ⟨g0, 3, none⟩ = some (.int .i64 b2) ∧ w'.cell? ⟨g1, 2, none⟩ = some (.int .i64 d1) ∧ w'.cell? ⟨g1, 3, none⟩ = some (.int .i64 d2))) (by kernel_rfl) ?_ (fun hHeld => ?_)
            · (try dsimp only)
              refine ⟨?_, ?_, ?_, ?_, ?_, ?_, ?_, ?_⟩ <;> (repeat (with_reducible (first | exact y0 | exact y1 | exact y2 | exact y3 | exact y4 | exact y5 | exact y6 | exact y7 | refine cell_dr ?_ | refine cell_al _ ?_ | refine cell_stb ?_ ?_ | (show _ ≠ _; omega))))
            refine wpAnyH_take (i := 0) (v := ?_) rfl (by kernel_rfl) (by kernel_rfl) (by kernel_rfl) (fun _ _ _ h => h) (Or.inl ⟨by kernel_rfl, ?_⟩) hHeld ?_
            rotate_left
            · intro wz hSw; (try dsimp only at hSw); go_simp; all_goals (try with_reducible rfl)
            (try simp only [List.getElem_toArray]); (try simp only [List.getElem_cons_succ]); (try simp only [List.getElem_cons_zero]); (try simp only [Act.put]); (try simp only [List.setIfInBounds_toArray]); (try simp only [List.set_cons_succ]); (try simp only [List.set_cons_zero])
            refine wpAnyH_take (i := 1) (v := ?_) rfl (by kernel_rfl) (by kernel_rfl) (by kernel_rfl) (fun _ _ _ h => h) (Or.inl ⟨by kernel_rfl, ?_⟩) hHeld ?_
            rotate_left
            · intro wz hSw; (try dsimp only at hSw); go_simp; all_goals (try with_reducible rfl)
            (try simp only [List.getElem_toArray]); (try simp only [List.getElem_cons_succ]); (try simp only [List.getElem_cons_zero]); (try simp only [Act.put]); (try simp only [List.setIfInBounds_toArray]); (try simp only [List.set_cons_succ]); (try simp only [List.set_cons_zero])
            refine wpAnyH_take (i := 2) (v := ?_) rfl (by kernel_rfl) (by kernel_rfl) (by kernel_rfl) (fun _ _ _ h => h) (Or.inl ⟨by kernel_rfl, ?_⟩) hHeld ?_
            rotate_left
            · intro wz hSw; (try dsimp only at hSw); go_simp; all_goals (try with_reducible rfl)
            (try simp only [List.getElem_toArray]); (try simp only [List.getElem_cons_succ]); (try simp only [List.getElem_cons_zero]); (try simp only [Act.put]); (try simp only [List.setIfInBounds_toArray]); (try simp only [List.set_cons_succ]); (try simp only [List.set_cons_zero])
            refine wpAnyH_take (i := 3) (v := ?_) rfl (by kernel_rfl) (by kernel_rfl) (by kernel_rfl) (fun _ _ _ h => h) (Or.inl ⟨by kernel_rfl, ?_⟩) hHeld ?_
            rotate_left
            · intro wz hSw; (try dsimp only at hSw); go_simp; all_goals (try with_reducible rfl)
            (try simp only [List.getElem_toArray]); (try simp only [List.getElem_cons_succ]); (try simp only [List.getElem_cons_zero]); (try simp only [Act.put]); (try simp only [List.setIfInBounds_toArray]); (try simp only [List.set_cons_succ]); (try simp only [List.set_cons_zero])
            refine wpAnyH_take (i := 4) (v := ?_) rfl (by kernel_rfl) (by kernel_rfl) (by kernel_rfl) (fun _ _ _ h => h) (Or.inl ⟨by kernel_rfl, ?_⟩) hHeld ?_
            rotate_left
            · intro wz hSw; (try dsimp only at hSw); go_simp; all_goals (try with_reducible rfl)
            (try simp only [List.getElem_toArray]); (try simp only [List.getElem_cons_succ]); (try simp only [List.getElem_cons_zero]); (try simp only [Act.put]); (try simp only [List.setIfInBounds_toArray]); (try simp only [List.set_cons_succ]); (try simp only [List.set_cons_zero])
            refine wpAnyH_take (i := 5) (v := ?_) rfl (by kernel_rfl) (by kernel_rfl) (by kernel_rfl) (fun _ _ _ h => h) (Or.inl ⟨by kernel_rfl, ?_⟩) hHeld ?_
            rotate_left
            · intro wz hSw; (try dsimp only at hSw); go_simp; all_goals (try with_reducible rfl)
            (try simp only [List.getElem_toArray]); (try simp only [List.getElem_cons_succ]); (try simp only [List.getElem_cons_zero]); (try simp only [Act.put]); (try simp only [List.setIfInBounds_toArray]); (try simp only [List.set_cons_succ]); (try simp only [List.set_cons_zero])
            refine wpAnyH_take (i := 6) (v := ?_) rfl (by kernel_rfl) (by kernel_rfl) (by kernel_rfl) (fun _ _ _ h => h) (Or.inl ⟨by kernel_rfl, ?_⟩) hHeld ?_
            rotate_left
            · intro wz hSw; (try dsimp only at hSw); go_simp; all_goals (try with_reducible rfl)
            (try simp only [List.getElem_toArray]); (try simp only [List.getElem_cons_succ]); (try simp only [List.getElem_cons_zero]); (try simp only [Act.put]); (try simp only [List.setIfInBounds_toArray]); (try simp only [List.set_cons_succ]); (try simp only [List.set_cons_zero])
            refine wpAnyH_take (i := 7) (v := ?_) rfl (by kernel_rfl) (by kernel_rfl) (by kernel_rfl) (fun _ _ _ h => h) (Or.inl ⟨by kernel_rfl, ?_⟩) hHeld ?_
            rotate_left
            · intro wz hSw; (try dsimp only at hSw); go_simp; all_goals (try with_reducible rfl)
            (try simp only [List.getElem_toArray]); (try simp only [List.getElem_cons_succ]); (try simp only [List.getElem_cons_zero]); (try simp only [Act.put]); (try simp only [List.setIfInBounds_toArray]); (try simp only [List.set_cons_succ]); (try simp only [List.set_cons_zero])
            refine wpAnyH_take (i := 8) (v := ?_) rfl (by kernel_rfl) (by kernel_rfl) (by kernel_rfl) (fun _ _ _ h => h) (Or.inl ⟨by kernel_rfl, ?_⟩) hHeld ?_
            rotate_left
            · intro wz hSw; (try dsimp only at hSw); go_simp; all_goals (try with_reducible rfl)
            (try simp only [List.getElem_toArray]); (try simp only [List.getElem_cons_succ]); (try simp only [List.getElem_cons_zero]); (try simp only [Act.put]); (try simp only [List.setIfInBounds_toArray]); (try simp only [List.set_cons_succ]); (try simp only [List.set_cons_zero])
            refine wpAnyH_take (i := 9) (v := ?_) rfl (by kernel_rfl) (by kernel_rfl) (by kernel_rfl) (fun _ _ _ h => h) (Or.inl ⟨by kernel_rfl, ?_⟩) hHeld ?_
            rotate_left
            · intro wz hSw; (try dsimp only at hSw); go_simp; all_goals (try with_reducible rfl)
            (try simp only [List.getElem_toArray]); (try simp only [List.getElem_cons_succ]); (try simp only [List.getElem_cons_zero]); (try simp only [Act.put]); (try simp only [List.setIfInBounds_toArray]); (try simp only [List.set_cons_succ]); (try simp only [List.set_cons_zero])
            refine wpAnyH_ready (rs := [10, 14]) (by kernel_rfl) (by simp) (AllReadyH.cons rfl (fun Kc hKc => ?_) (AllReadyH.cons rfl (fun Kc hKc => ?_) AllReadyH.nil))
            · go_simp
              (go_at_call 12; refine (HM.out _).mono ?_; rintro e w2 ⟨rfl, hb2⟩)
              have hbd : Below Xr.heap.size Xr w2 := ((Below.refl _ _).drew).trans (hb2.mono (by simp))
              have y0 := cell_keep hbd y0
              have y1 := cell_keep hbd y1
              have y2 := cell_keep hbd y2
              have y3 := cell_keep hbd y3
              have y4 := cell_keep hbd y4
              have y5 := cell_keep hbd y5
              have y6 := cell_keep hbd y6
              have y7 := cell_keep hbd y7
              have T9 := T.below hbd
              have B9 := BB.trans (hbd.mono BB.size)
              have hsw := hbd.size
              have S9 := SQ.below hbd
              clear hb2
              go_wp2_with fail
              refine hKc.out _ _ ?_ (fun hHeld => ?_)
              · (try dsimp only)
                refine ⟨?_, ?_, ?_, ?_, ?_, ?_, ?_, ?_⟩ <;> (repeat (with_reducible (first | exact y0 | exact y1 | exact y2 | exact y3 | exact y4 | exact y5 | exact y6 | exact y7 | refine cell_dr ?_ | refine cell_al _ ?_ | refine cell_stb ?_ ?_ | (show _ ≠ _; omega))))
              clear hKc Kc
              (try simp only [List.getElem_toArray]); (try simp only [List.getElem_cons_succ]); (try simp only [List.getElem_cons_zero]); (try simp only [Act.put]); (try simp only [List.setIfInBounds_toArray]); (try simp only [List.set_cons_succ]); (try simp only [List.set_cons_zero])
              refine wpAnyH_take (i := 11) (v := ?_) rfl (by kernel_rfl) (by kernel_rfl) (by kernel_rfl) (fun _ _ _ h => h) (Or.inl ⟨by kernel_rfl, ?_⟩) hHeld ?_
              rotate_left
              · intro wz hSw; (try dsimp only at hSw); go_simp; all_goals (try with_reducible rfl)
              (try simp only [List.getElem_toArray]); (try simp only [List.getElem_cons_succ]); (try simp only [List.getElem_cons_zero]); (try simp only [Act.put]); (try simp only [List.setIfInBounds_toArray]); (try simp only [List.set_cons_succ]); (try simp only [List.set_cons_zero])
              refine wpAnyH_take (i := 12) (v := ?_) rfl (by kernel_rfl) (by kernel_rfl) (by kernel_rfl) (fun _ _ _ h => h) (Or.inl ⟨by kernel_rfl, ?_⟩) hHeld ?_
              rotate_left
              · intro wz hSw; (try dsimp only at hSw); go_simp; all_goals (try with_reducible rfl)
              (try simp only [List.getElem_toArray]); (try simp only [List.getElem_cons_succ]); (try simp only [List.getElem_cons_zero]); (try simp only [Act.put]); (try simp only [List.setIfInBounds_toArray]); (try simp only [List.set_cons_succ]); (try simp only [List.set_cons_zero])
              refine wpAnyH_take (i := 13) (v := ?_) rfl (by kernel_rfl) (by kernel_rfl) (by kernel_rfl) (fun _ _ _ h => h) (Or.inl ⟨by kernel_rfl, ?_⟩) hHeld ?_
              rotate_left
              · intro wz hSw; (try dsimp only at hSw); go_simp; all_goals (try with_reducible rfl)
              (try simp only [List.getElem_toArray]); (try simp only [List.getElem_cons_succ]); (try simp only [List.getElem_cons_zero]); (try simp only [Act.put]); (try simp only [List.setIfInBounds_toArray]); (try simp only [List.set_cons_succ]); (try simp only [List.set_cons_zero])
              refine wpAnyH_ready (rs := [14]) (by kernel_rfl) (by simp) (AllReadyH.cons rfl (fun Kc hKc => ?_) AllReadyH.nil)
              go_simp
              refine hKc.out _ _ ?_ (fun hHeld => ?_)
              · (try dsimp only)
                refine ⟨?_, ?_, ?_, ?_, ?_, ?_, ?_, ?_⟩ <;> (repeat (with_reducible (first | exact y0 | exact y1 | exact y2 | exact y3 | exact y4 | exact y5 | exact y6 | exact y7 | refine cell_dr ?_ | refine cell_al _ ?_ | refine cell_stb ?_ ?_ | (show _ ≠ _; omega))))
              clear hKc Kc
              (try simp only [List.getElem_toArray]); (try simp only [List.getElem_cons_succ]); (try simp only [List.getElem_cons_zero]); (try simp only [Act.put]); (try simp only [List.setIfInBounds_toArray]); (try simp only [List.set_cons_succ]); (try simp only [List.set_cons_zero])
              refine wpAnyH_ready (rs := [15]) (by kernel_rfl) (by simp) (AllReadyH.cons rfl (fun Kc hKc => ?_) AllReadyH.nil)
              go_simp
              refine hKc.out _ _ ?_ (fun hHeld => ?_)
              · (try dsimp only)
                refine ⟨?_, ?_, ?_, ?_, ?_, ?_, ?_, ?_⟩ <;> (repeat (with_reducible (first | exact y0 | exact y1 | exact y2 | exact y3 | exact y4 | exact y5 | exact y6 | exact y7 | refine cell_dr ?_ | refine cell_al _ ?_ | refine cell_stb ?_ ?_ | (show _ ≠ _; omega))))
              clear hKc Kc
              (try simp only [List.getElem_toArray]); (try simp only [List.getElem_cons_succ]); (try simp only [List.getElem_cons_zero]); (try simp only [Act.put]); (try simp only [List.setIfInBounds_toArray]); (try simp only [List.set_cons_succ]); (try simp only [List.set_cons_zero])
              refine wpAnyH_take (i := 16) (v := ?_) rfl (by kernel_rfl) (by kernel_rfl) (by kernel_rfl) (fun _ _ _ h => h) (Or.inl ⟨by kernel_rfl, ?_⟩) hHeld ?_
              rotate_left
              · intro wz hSw; (try dsimp only at hSw); go_simp; all_goals (try with_reducible rfl)
              (try simp only [List.getElem_toArray]); (try simp only [List.getElem_cons_succ]); (try simp only [List.getElem_cons_zero]); (try simp only [Act.put]); (try simp only [List.setIfInBounds_toArray]); (try simp only [List.set_cons_succ]); (try simp only [List.set_cons_zero])
              refine wpAnyH_done (by kernel_rfl) ?_ _
              refine NoPanic.normal ?_
              go_wp2
              go_meet
              case rel => exact ⟨w2.heap.size, rfl, rfl, IsR.new w2 t1 t2, S9.below (b0_any' _ _), T9.below (b0_any' _ _), B9.alloc B9.size _⟩
            · go_simp
              refine hKc.out _ _ ?_ (fun hHeld => ?_)
              · (try dsimp only)
                refine ⟨?_, ?_, ?_, ?_, ?_, ?_, ?_, ?_⟩ <;> (repeat (with_reducible (first | exact y0 | exact y1 | exact y2 | exact y3 | exact y4 | exact y5 | exact y6 | exact y7 | refine cell_dr ?_ | refine cell_al _ ?_ | refine cell_stb ?_ ?_ | (show _ ≠ _; omega))))
              clear hKc Kc
              (try simp only [List.getElem_toArray]); (try simp only [List.getElem_cons_succ]); (try simp only [List.getElem_cons_zero]); (try simp only [Act.put]); (try simp only [List.setIfInBounds_toArray]); (try simp only [List.set_cons_succ]); (try simp only [List.set_cons_zero])
              refine wpAnyH_ready (rs := [10]) (by kernel_rfl) (by simp) (AllReadyH.cons rfl (fun Kc hKc => ?_) AllReadyH.nil)
              go_simp
              (go_at_call 12; refine (HM.out _).mono ?_; rintro e w2 ⟨rfl, hb2⟩)
              have hbd : Below Xr.heap.size Xr w2 := (((Below.refl _ _).drew).alloc (by simp) _).trans (hb2.mono (by simp))
              have pP : IsR w2 Xr.heap.size 0 0 := (show IsR (Xr.drew.alloc (.cells #[.int .i64 0, .int .i64 0] 27)) Xr.heap.size 0 0 from by simpa using IsR.new Xr.drew 0 0).below hb2
              have p0 := pP.c0
              have p1' := pP.c1
              have p2' := pP.f0
              have p3' := pP.f1
              have y0 := cell_keep hbd y0
              have y1 := cell_keep hbd y1
              have y2 := cell_keep hbd y2
              have y3 := cell_keep hbd y3
              have y4 := cell_keep hbd y4
              have y5 := cell_keep hbd y5
              have y6 := cell_keep hbd y6
              have y7 := cell_keep hbd y7
              have T9 := T.below hbd
              have B9 := BB.trans (hbd.mono BB.size)
              have hsw := hbd.size
              have S9 := SQ.below hbd
              clear hb2
              go_wp2_with fail
              refine hKc.out _ _ ?_ (fun hHeld => ?_)
              · (try dsimp only)
                refine ⟨?_, ?_, ?_, ?_, ?_, ?_, ?_, ?_⟩ <;> (repeat (with_reducible (first | exact y0 | exact y1 | exact y2 | exact y3 | exact y4 | exact y5 | exact y6 | exact y7 | refine cell_dr ?_ | refine cell_al _ ?_ | refine cell_stb ?_ ?_ | (show _ ≠ _; omega))))
              clear hKc Kc
              (try simp only [List.getElem_toArray]); (try simp only [List.getElem_cons_succ]); (try simp only [List.getElem_cons_zero]); (try simp only [Act.put]); (try simp only [List.setIfInBounds_toArray]); (try simp only [List.set_cons_succ]); (try simp only [List.set_cons_zero])
              refine wpAnyH_take (i := 11) (v := ?_) rfl (by kernel_rfl) (by kernel_rfl) (by kernel_rfl) (fun _ _ _ h => h) (Or.inl ⟨by kernel_rfl, ?_⟩) hHeld ?_
              rotate_left
              · intro wz hSw; (try dsimp only at hSw); go_simp; all_goals (try with_reducible rfl)
              (try simp only [List.getElem_toArray]); (try simp only [List.getElem_cons_succ]); (try simp only [List.getElem_cons_zero]); (try simp only [Act.put]); (try simp only [List.setIfInBounds_toArray]); (try simp only [List.set_cons_succ]); (try simp only [List.set_cons_zero])
              refine wpAnyH_take (i := 12) (v := ?_) rfl (by kernel_rfl) (by kernel_rfl) (by kernel_rfl) (fun _ _ _ h => h) (Or.inl ⟨by kernel_rfl, ?_⟩) hHeld ?_
              rotate_left
              · intro wz hSw; (try dsimp only at hSw); go_simp; all_goals (try with_reducible rfl)
              (try simp only [List.getElem_toArray]); (try simp only [List.getElem_cons_succ]); (try simp only [List.getElem_cons_zero]); (try simp only [Act.put]); (try simp only [List.setIfInBounds_toArray]); (try simp only [List.set_cons_succ]); (try simp only [List.set_cons_zero])
              refine wpAnyH_take (i := 13) (v := ?_) rfl (by kernel_rfl) (by kernel_rfl) (by kernel_rfl) (fun _ _ _ h => h) (Or.inl ⟨by kernel_rfl, ?_⟩) hHeld ?_
              rotate_left
              · intro wz hSw; (try dsimp only at hSw); go_simp; all_goals (try with_reducible rfl)
              (try simp only [List.getElem_toArray]); (try simp only [List.getElem_cons_succ]); (try simp only [List.getElem_cons_zero]); (try simp only [Act.put]); (try simp only [List.setIfInBounds_toArray]); (try simp only [List.set_cons_succ]); (try simp only [List.set_cons_zero])
              refine wpAnyH_ready (rs := [15]) (by kernel_rfl) (by simp) (AllReadyH.cons rfl (fun Kc hKc => ?_) AllReadyH.nil)
              go_simp
              refine hKc.out _ _ ?_ (fun hHeld => ?_)
              · (try dsimp only)
                refine ⟨?_, ?_, ?_, ?_, ?_, ?_, ?_, ?_⟩ <;> (repeat (with_reducible (first | exact y0 | exact y1 | exact y2 | exact y3 | exact y4 | exact y5 | exact y6 | exact y7 | refine cell_dr ?_ | refine cell_al _ ?_ | refine cell_stb ?_ ?_ | (show _ ≠ _; omega))))
              clear hKc Kc
              (try simp only [List.getElem_toArray]); (try simp only [List.getElem_cons_succ]); (try simp only [List.getElem_cons_zero]); (try simp only [Act.put]); (try simp only [List.setIfInBounds_toArray]); (try simp only [List.set_cons_succ]); (try simp only [List.set_cons_zero])
              refine wpAnyH_take (i := 16) (v := ?_) rfl (by kernel_rfl) (by kernel_rfl) (by kernel_rfl) (fun _ _ _ h => h) (Or.inl ⟨by kernel_rfl, ?_⟩) hHeld ?_
              rotate_left
              · intro wz hSw; (try dsimp only at hSw); go_simp; all_goals (try with_reducible rfl)
              (try simp only [List.getElem_toArray]); (try simp only [List.getElem_cons_succ]); (try simp only [List.getElem_cons_zero]); (try simp only [Act.put]); (try simp only [List.setIfInBounds_toArray]); (try simp only [List.set_cons_succ]); (try simp only [List.set_cons_zero])
              refine wpAnyH_done (by kernel_rfl) ?_ _
              refine NoPanic.normal ?_
              go_wp2
              go_meet
              case rel => exact ⟨Xr.heap.size, rfl, rfl, (pP.set0 t1).set1 t2, (S9.other (by have := SQ.lt; omega) 0 _).other (by have := SQ.lt; omega) 1 _, (T9.st' T.under 0 _).st' T.under 1 _, (B9.setCell (p := ⟨Xr.heap.size, 0, none⟩) BB.size _).setCell (p := ⟨Xr.heap.size, 1, none⟩) BB.size _⟩
          case rest =>
            clear T BB y0 y1 y2 y3 y4 y5 y6 y7 HM SQ
            obtain ⟨Q, rfl, rfl, hP, hS, hT, hB⟩ := hcut
            have z0 := hS.out.c0
            have z1 := hS.out.c1
            have z2 := hP.out.c0
            have z3 := hP.out.c1
            rw [HR1.out.1] at z0
            rw [HR1.out.2] at z1
            have BB : Below w.heap.size w wc := hB.out
            clear hP hS hT hB
            cases k1
            · go_wp2
              go_ret
              exact ⟨rfl, BB⟩
            cases k2
            · go_wp2
              go_ret
              exact ⟨rfl, BB⟩
            have HL : Hid (∀ W : World, Calls Try.prog 13 #[.agg #[.int .i64 t1, .int .i64 t2], .agg #[.int .i64 q1, .int .i64 q2]] W fun e w' => e = .returned (.bool false) ∧ Below W.heap.size W w') := by
              intro W; have := iLess_any t1 t2 q1 q2 W; rw [HLS.out rfl rfl] at this; exact this
            go_wp2_with fail
            refine (HL.out _).mono ?_
            rintro e w8 ⟨rfl, hb⟩
            replace BB := BB.trans (hb.mono BB.size)
            replace z0 := cell_keep hb z0
            replace z1 := cell_keep hb z1
            replace z2 := cell_keep hb z2
            replace z3 := cell_keep hb z3
            clear hb
            go_wp2_with fail
            refine (P4.out _ BB).mono ?_
            rintro e w9 ⟨rfl, hb⟩
            replace BB := BB.trans (hb.mono BB.size)
            replace z0 := cell_keep hb z0
            replace z1 := cell_keep hb z1
            replace z2 := cell_keep hb z2
            replace z3 := cell_keep hb z3
            clear hb
            go_wp2
            go_ret
            exact ⟨rfl, BB⟩
end Go.Proofs.Ytcafdkmgjfakdaa
