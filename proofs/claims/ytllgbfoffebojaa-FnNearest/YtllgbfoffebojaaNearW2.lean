/- The walk of the model's choice between two fractions. -/
import Derived.Test.YtllgbfoffebojaaNearW1
namespace Go.Proofs.Ytllgbfoffebojaa
open Go.RowKit Go.Proofs.Ytllgbfoffebojaa.RM

theorem side_of {A xd B d n xn : Int} : sideB A xd B d n xn = (decide (ordI B xd A d < 0) || (decide (ordI B xd A d = 0) && (decide (xd < d) || (decide (xd = d) && decide (xn < n))))) := by
  unfold sideB ordI
  by_cases h1 : B * d < A * xd
  · rw [if_pos h1]; simp [h1]
  · by_cases h2 : A * xd < B * d
    · rw [if_neg h1, if_pos h2]
      have : ¬ (B * d < A * xd ∨ (B * d = A * xd ∧ (xd < d ∨ (xd = d ∧ xn < n)))) := by omega
      rw [decide_eq_false this]; rfl
    · rw [if_neg h1, if_neg h2]
      have e : B * d = A * xd := by omega
      simp [e]

set_option maxRecDepth 100000 in
set_option maxHeartbeats 4000000 in
theorem best_any (p q xn xd n d : Int) (w : World) (h1 : -1000000000 ≤ p) (h2 : p ≤ 1000000000) (h3 : 0 ≤ q) (h4 : q ≤ 1000000000) (h5 : -2000000000 ≤ n) (h6 : n ≤ 2000000000) (h7 : 1 ≤ d) (h8 : d ≤ 1000000000) (h9 : -2000000000 ≤ xn) (h10 : xn ≤ 2000000000) (h11 : 1 ≤ xd) (h12 : xd ≤ 1000000000) :
    Calls Try.prog 72 #[.agg #[.int .i64 p, .int .i64 q], .agg #[.int .i64 xn, .int .i64 xd], .agg #[.int .i64 n, .int .i64 d]] w fun e w' =>
      e = .returned (.bool (sideB (iabs (p * d - n * q)) xd (iabs (p * xd - xn * q)) d n xn)) ∧ Below w.heap.size w w' := by
  obtain ⟨m1, m2⟩ := mul_bd2 p d (by omega) (by omega) (by omega) h8
  obtain ⟨m3, m4⟩ := mul_bd2 n q h5 h6 (by omega) h4
  obtain ⟨m5, m6⟩ := mul_bd2 p xd (by omega) (by omega) (by omega) h12
  obtain ⟨m7, m8⟩ := mul_bd2 xn q h9 h10 (by omega) h4
  rw [side_of]
  obtain ⟨B, hB⟩ : ∃ B, B = iabs (p * xd - xn * q) := ⟨_, rfl⟩
  obtain ⟨A, hA⟩ : ∃ A, A = iabs (p * d - n * q) := ⟨_, rfl⟩
  have B0 : 0 ≤ B := by rw [hB]; exact iabs_nn _
  have A0 : 0 ≤ A := by rw [hA]; exact iabs_nn _
  have B1 : B ≤ 4611686018427387904 := by rw [hB]; unfold iabs; split <;> omega
  have A1 : A ≤ 4611686018427387904 := by rw [hA]; unfold iabs; split <;> omega
  rw [← hA, ← hB]
  have HO : Hid (∀ u : World, Calls Try.prog 81 #[.int .i64 B, .int .i64 xd, .int .i64 A, .int .i64 d] u fun e w' => e = .returned (.int .i64 (ordI B xd A d)) ∧ w' = u) := by
    intro u; exact order_any B xd A d u B0 B1 h11 (by omega) A0 A1 h7 (by omega)
  obtain ⟨o, ho⟩ : ∃ o, o = ordI B xd A d := ⟨_, rfl⟩
  rw [← ho] at HO ⊢
  clear ho A0 A1 B0 B1
  obtain ⟨rb, hrb⟩ : ∃ rb, rb = (decide (o < 0) || (decide (o = 0) && (decide (xd < d) || (decide (xd = d) && decide (xn < n))))) := ⟨_, rfl⟩
  rw [← hrb]
  have HRB : Hid (rb = (decide (o < 0) || (decide (o = 0) && (decide (xd < d) || (decide (xd = d) && decide (xn < n)))))) := hrb
  clear hrb
  have HA : Hid (A = iabs (p * d - n * q)) := hA
  have HB : Hid (B = iabs (p * xd - xn * q)) := hB
  clear hA hB
  by_cases c1 : xn * q - p * xd < 0
  all_goals by_cases c2 : n * q - p * d < 0
  all_goals
    have hB' : Hid (B = if xn * q - p * xd < 0 then -(xn * q - p * xd) else xn * q - p * xd) := by show _ = _; rw [HB.out, iabs_neg]; rfl
    have hA' : Hid (A = if n * q - p * d < 0 then -(n * q - p * d) else n * q - p * d) := by show _ = _; rw [HA.out, iabs_neg]; rfl
    first | rw [if_pos c1] at hB' | rw [if_neg c1] at hB'
    first | rw [if_pos c2] at hA' | rw [if_neg c2] at hA'
    clear HA HB
    go_enter Try.func72, Try.ntmps72
    go_wp2_with fail
    rw [← hA'.out, ← hB'.out]
    refine (HO.out _).mono ?_
    rintro e w1 ⟨rfl, hw1⟩
    obtain rfl := hw1.symm
    clear hw1 c1 c2
    have BB : Below w.heap.size w (((w.alloc (.cells #[.int .i64 p, .int .i64 q] 25)).alloc (.cells #[.int .i64 xn, .int .i64 xd] 25)).alloc (.cells #[.int .i64 n, .int .i64 d] 25)) := below_alR _ (below_alR _ (below_alR _ (Below.refl _ _)))
    have HBB : Hid _ := BB
    clear BB hA' hB' m1 m2 m3 m4 m5 m6 m7 m8
    by_cases o1 : o < 0
    · have E : Hid (rb = true) := by show _ = _; rw [HRB.out]; simp [o1]
      go_wp2
      go_ret
      exact ⟨ret_bool (by rw [E.out] <;> (first | rfl | (simp <;> omega))), HBB.out⟩
    by_cases o2 : o = 0
    · have o3 : (o == 0) = true := by simpa using o2
      by_cases c3 : xd < d
      · have E : Hid (rb = true) := by show _ = _; rw [HRB.out]; simp [o2, c3]
        clear o2
        go_wp2
        go_ret
        exact ⟨ret_bool (by rw [E.out] <;> (first | rfl | (simp <;> omega))), HBB.out⟩
      by_cases c4 : xd = d
      · have c5 : (xd == d) = true := by simpa using c4
        by_cases c6 : xn < n
        · have E : Hid (rb = true) := by show _ = _; rw [HRB.out]; simp [o2, c4, c6]
          clear o2 c4
          go_wp2
          go_ret
          exact ⟨ret_bool (by rw [E.out] <;> (first | rfl | (simp <;> omega))), HBB.out⟩
        · have E : Hid (rb = false) := by show _ = _; rw [HRB.out]; simp [o2, c4, c6]
          clear o2 c4
          go_wp2
          go_ret
          exact ⟨ret_bool (by rw [E.out] <;> (first | rfl | (simp <;> omega))), HBB.out⟩
      · have c5 : (xd == d) = false := by simpa using c4
        have E : Hid (rb = false) := by show _ = _; rw [HRB.out]; simp [o2, c4, c3]
        clear o2 c4
        go_wp2
        go_ret
        exact ⟨ret_bool (by rw [E.out] <;> (first | rfl | (simp <;> omega))), HBB.out⟩
    · have o3 : (o == 0) = false := by simpa using o2
      have E : Hid (rb = false) := by show _ = _; rw [HRB.out]; simp [o1, o2]
      clear o2
      go_wp2
      go_ret
      exact ⟨ret_bool (by rw [E.out] <;> (first | rfl | (simp <;> omega))), HBB.out⟩
end Go.Proofs.Ytllgbfoffebojaa
