/- The walks of the program's simplest and of both mirrors. -/
import Derived.Test.YtmlnabgmibhfhabNearW1
import Derived.Test.YtmlnabgmibhfhabTermsW
import Derived.Test.YtmlnabgmibhfhabBetwMath
namespace Go.Proofs.Ytmlnabgmibhfhab
open Go.RowKit Go.Proofs.Ytmlnabgmibhfhab.RM

theorem mul_in {u v m n : Int} (h1 : 0 ≤ u) (h2 : u ≤ m) (h3 : 0 ≤ v) (h4 : v ≤ n) : 0 ≤ u * v ∧ u * v ≤ m * n :=
  ⟨Int.mul_nonneg h1 h3, Int.le_trans (Int.mul_le_mul_of_nonneg_right h2 h3) (Int.mul_le_mul_of_nonneg_left h4 (by omega))⟩

theorem mirr_any (n d : Int) (w : World) (h1 : -2000000000 ≤ n) (h2 : n ≤ 2000000000) :
    Calls Try.prog 18 #[.agg #[.int .i64 n, .int .i64 d]] w fun e w' => e = .returned (.agg #[.int .i64 (-n), .int .i64 d]) ∧ Below w.heap.size w w' := by
  go_enter Try.func18, Try.ntmps18
  go_wp2
  exact bodyPost_ret (v := .agg #[.int .i64 (-n), .int .i64 d]) (by simp [results, Try.results18, go_sem]) rfl ⟨rfl, below_alR _ (below_alR _ (Below.refl _ _))⟩
theorem sMinus_any (n d : Int) (w : World) (h1 : -2000000000 ≤ n) (h2 : n ≤ 2000000000) :
    Calls Try.prog 20 #[.agg #[.int .i64 n, .int .i64 d]] w fun e w' => e = .returned (.agg #[.int .i64 (-n), .int .i64 d]) ∧ Below w.heap.size w w' := by
  go_enter Try.func20, Try.ntmps20
  go_wp2
  exact bodyPost_ret (v := .agg #[.int .i64 (-n), .int .i64 d]) (by simp [results, Try.results20, go_sem]) rfl ⟨rfl, below_alR _ (below_alR _ (Below.refl _ _))⟩

set_option maxRecDepth 100000 in
set_option maxHeartbeats 2000000 in
theorem simp_any : ∀ (k : Nat) (a b c d x y : Int), Dom a b c d → b + d ≤ k → 0 ≤ a → a ≤ 1000000000 → b ≤ 1000000000 → c ≤ 1000000000 → d ≤ 1000000000 → Best a b c d x y → ∀ w : World,
    Calls Try.prog 17 #[.agg #[.int .i64 a, .int .i64 b], .agg #[.int .i64 c, .int .i64 d]] w fun e w' => e = .returned (.agg #[.int .i64 x, .int .i64 y]) ∧ Below w.heap.size w w'
  | 0, a, b, c, d, x, y, h, hk, _, _, _, _, _, _, w => by have := h.b1; have := h.d0; omega
  | k + 1, a, b, c, d, x, y, h, hk, a0, a9, b9, c9, d9, hB, w => by
    have b1 := h.b1
    have d0 := h.d0
    have hbz : ¬ b = 0 := by omega
    obtain ⟨W, hW⟩ : ∃ W, W = a / b := ⟨_, rfl⟩
    have hWr : a / b = W := hW.symm
    have W0 : 0 ≤ W := by rw [hW]; exact Int.ediv_nonneg a0 (by omega)
    have W9 : W ≤ 1000000000 := by rw [hW]; have := Int.ediv_le_self b a0; omega
    have hcd : 0 < c * b := by
      have := Int.mul_nonneg a0 d0
      have := h.lt
      omega
    have c1 : 1 ≤ c := by
      have h5 : 0 * b < c * b := by omega
      have := Int.lt_of_mul_lt_mul_right h5 (by omega)
      omega
    obtain ⟨p1, p2⟩ := mul_in (show 0 ≤ W + 1 by omega) (show W + 1 ≤ 1000000001 by omega) d0 d9
    by_cases hn : (W + 1) * d < c
    · obtain ⟨rfl, rfl⟩ := hB.first h (by rw [hWr]; exact hn)
      have hdec : decide ((W + 1) * d < c) = true := decide_eq_true hn
      rw [hWr]
      clear hB hW hcd h
      go_enter Try.func17, Try.ntmps17
      go_wp2
      exact bodyPost_ret (v := .agg #[.int .i64 (W + 1), .int .i64 1]) (by simp [results, Try.results17, go_sem]) rfl ⟨rfl, below_alR _ (below_alR _ (below_alR _ (below_alR _ (Below.refl _ _))))⟩
    · have hn' : ¬ (a / b + 1) * d < c := by rw [hWr]; exact hn
      obtain ⟨hd, d1, n1, n2, n3⟩ := h.next hn'
      obtain ⟨x', y', hB', ex, ey⟩ := hB.step h hn'
      obtain ⟨s1, s2, s3⟩ := hB.size h
      have y1 := hB.y1
      have y1' := hB'.y1
      rw [hWr] at hd n1 n2 n3 hB' ex s2 s3
      have e1 := hd.b1
      subst ey
      have ex' : y' = x - W * y := by omega
      obtain ⟨m1, m2⟩ := mul_in W0 W9 (show 0 ≤ y by omega) (show y ≤ 2000000000 by omega)
      have HI : Hid (∀ u : World, Calls Try.prog 17 #[.agg #[.int .i64 d, .int .i64 (c - W * d)], .agg #[.int .i64 b, .int .i64 (a - W * b)]] u fun e w' => e = .returned (.agg #[.int .i64 y, .int .i64 y']) ∧ Below u.heap.size u w') :=
        fun u => simp_any k _ _ _ _ _ _ hd (by omega) (by omega) d9 (by omega) b9 (by omega) hB' u
      have hdec : decide ((W + 1) * d < c) = false := decide_eq_false hn
      have i1 : 0 ≤ W * d := Int.mul_nonneg W0 d0
      have i2 : 0 ≤ W * b := Int.mul_nonneg W0 (by omega)
      have i3 : W * d ≤ c := by omega
      have i4 : W * b ≤ a := by omega
      have j1 : 1 ≤ y' := y1'
      have j2 : y' ≤ 2000000000 := by omega
      subst ex
      have ez : IntKind.i64.wrap (W * y + y') = W * y + y' := by rw [IntKind.wrap_i64]; omega
      clear hB hW hcd h hd hB' hn' s1 s2 s3 ex' y1'
      go_enter Try.func17, Try.ntmps17
      go_wp2_with fail
      refine (HI.out _).mono ?_
      rintro e w1 ⟨rfl, hb⟩
      obtain ⟨R, hR⟩ : ∃ R, R = w.heap.size + 1 + 1 := ⟨_, rfl⟩
      have hwR : w.heap.size ≤ R := by omega
      have B1 : Below w.heap.size w w1 := (below_alR _ (below_alR _ (below_alR _ (below_alR _ (Below.refl _ _))))).trans (hb.mono (by simp; omega))
      have r2 : IsR w1 R 0 0 := by
        rw [hR]
        simpa using ((IsR.new ((w.alloc (.cells #[.int .i64 a, .int .i64 b] 25)).alloc (.cells #[.int .i64 c, .int .i64 d] 25)) 0 0).below (below_alR (.cells #[.int .i64 (W + 1), .int .i64 1] 25) (Below.refl _ _))).below hb
      have k0 := r2.c0
      have k1 := r2.c1
      have k2 := r2.f0
      have k3 := r2.f1
      have hl := r2.lt
      rw [← hR]
      clear hb hR
      go_wp2
      exact bodyPost_ret (v := .agg #[.int .i64 (W * y + y'), .int .i64 y]) (by simp [results, Try.results17, go_sem, k0, k1, hl]) rfl ⟨rfl, by first | exact (((B1.alloc B1.size _).setCell (p := ⟨R, 0, none⟩) hwR _).setCell (p := ⟨R, 1, none⟩) hwR _) | exact (((B1.setCell (p := ⟨R, 0, none⟩) hwR _).setCell (p := ⟨R, 1, none⟩) hwR _).alloc (by have := B1.size; simp; omega) _)⟩
end Go.Proofs.Ytmlnabgmibhfhab
