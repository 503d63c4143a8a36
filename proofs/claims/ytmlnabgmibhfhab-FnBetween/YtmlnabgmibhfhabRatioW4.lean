/- The walks of the reckonings of two fractions, the model's and the program's (method values handed to one helper). -/
import Derived.Test.YtmlnabgmibhfhabRatioW3
import Derived.Deep.RegionWith
namespace Go.Proofs.Ytmlnabgmibhfhab
open Go.RowKit Go.Proofs.Ytmlnabgmibhfhab.RM

/-- what the walk is told of the two fractions whose products it takes -/
theorem prods {a b c d : Int} (h : two a b c d = true) :
    (-1000000000000000000 ≤ a * d ∧ a * d ≤ 1000000000000000000) ∧ (-1000000000000000000 ≤ c * b ∧ c * b ≤ 1000000000000000000) ∧ (-1000000000000000000 ≤ b * d ∧ b * d ≤ 1000000000000000000) ∧ (-1000000000000000000 ≤ a * c ∧ a * c ≤ 1000000000000000000) ∧ (-1000000000000000000 ≤ b * c ∧ b * c ≤ 1000000000000000000) := by
  obtain ⟨h1, h2⟩ := two_out h
  obtain ⟨p1, p2, p3, p4, _⟩ := okB_out h1
  obtain ⟨q1, q2, q3, q4, _⟩ := okB_out h2
  exact ⟨mul_bd a d p3 p4 (by omega) q2, mul_bd c b q3 q4 (by omega) p2, mul_bd b d (by omega) p2 (by omega) q2, mul_bd a c p3 p4 q3 q4, mul_bd b c (by omega) p2 q3 q4⟩

theorem sTwo_any (a b c d : Int) (w : World) :
    Calls Try.prog 27 #[.agg #[.int .i64 a, .int .i64 b], .agg #[.int .i64 c, .int .i64 d]] w fun e w' => e = .returned (.bool (two a b c d)) ∧ Below w.heap.size w w' := by
  by_cases h1 : okB a b = true
  · by_cases h2 : okB c d = true
    all_goals
      try rw [Bool.not_eq_true] at h2
      go_enter Try.func27, Try.ntmps27
      go_wp2_with fail
      refine (sOk_any _ _ _).mono ?_
      rintro e w1 ⟨rfl, hbl⟩
      obtain ⟨hc, hf⟩ := bcell hbl
      go_wp2_with fail
      refine (sOk_any _ _ _).mono ?_
      rintro e w2 ⟨rfl, hbl2⟩
      clear hc hf
      have B : Below w.heap.size w w2 := ((((Below.refl _ _).alloc (Nat.le_refl _) _).alloc (by simp <;> omega) _).trans (hbl.mono (by simp <;> omega))).trans (hbl2.mono (by have := hbl.size; simp at this; omega))
      go_wp2
      go_ret
      exact ⟨ret_bool (by unfold two; rw [h1, h2]; rfl), B⟩
  · rw [Bool.not_eq_true] at h1
    go_enter Try.func27, Try.ntmps27
    go_wp2_with fail
    refine (sOk_any _ _ _).mono ?_
    rintro e w1 ⟨rfl, hbl⟩
    have B : Below w.heap.size w w1 := (((Below.refl _ _).alloc (Nat.le_refl _) _).alloc (by simp <;> omega) _).trans (hbl.mono (by simp <;> omega))
    go_wp2
    go_ret
    exact ⟨ret_bool (by unfold two; rw [h1]; rfl), B⟩

end Go.Proofs.Ytmlnabgmibhfhab
