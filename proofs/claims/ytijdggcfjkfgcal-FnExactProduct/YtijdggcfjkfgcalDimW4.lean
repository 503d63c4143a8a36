/- The walks of DimOk, DimTimes, DimPower: the program's. -/
import Derived.Test.YtijdggcfjkfgcalDimW3
namespace Go.Proofs.Ytijdggcfjkfgcal
open Go.RowKit Go.Proofs.Ytijdggcfjkfgcal.RM

theorem ansT_no {a b : List Int} (h : dimB a = false ∨ dimB b = false) : ansDimTimes a b = [] := by
  unfold ansDimTimes
  rcases h with h | h <;> simp [h]
theorem ansP_no {a : List Int} {n : Int} (h : dimB a = false) : ansDimPower a n = [] := by unfold ansDimPower; simp [h]
theorem ansT_five {a b c d e a' b' c' d' e' : Int} (h : dimB [a, b, c, d, e] = true) (h' : dimB [a', b', c', d', e'] = true) : ansDimTimes [a, b, c, d, e] [a', b', c', d', e'] = if lim5 (a + a') (b + b') (c + c') (d + d') (e + e') then [a + a', b + b', c + c', d + d', e + e'] else [] := by
  unfold ansDimTimes dimN
  rw [h, h']
  simp only [Bool.and_true, if_true, List.zipWith_cons_cons, List.zipWith_nil_right]
  rw [dimB_five]
theorem ansP_five {a b c d e n : Int} (h : dimB [a, b, c, d, e] = true) : ansDimPower [a, b, c, d, e] n = if rq a b c d e n then [a * n, b * n, c * n, d * n, e * n] else [] := by
  unfold ansDimPower dimN
  rw [h]
  simp only [if_true, List.all_cons, List.all_nil, Bool.and_true, List.map_cons, List.map_nil]
  rw [dimB_five]
  unfold rq
  cases hz : z5 a b c d e with
  | true =>
    have h0 : a = 0 ∧ b = 0 ∧ c = 0 ∧ d = 0 ∧ e = 0 := by
      unfold z5 at hz
      simpa using hz
    obtain ⟨rfl, rfl, rfl, rfl, rfl⟩ := h0
    have : lim5 (0 * n) (0 * n) (0 * n) (0 * n) (0 * n) = true := by simp only [Int.zero_mul]; decide
    rw [this]
    simp
  | false =>
    cases hn : in9 n with
    | true => simp
    | false =>
      have : ¬ (a = 0 ∧ b = 0 ∧ c = 0 ∧ d = 0 ∧ e = 0) := by
        intro h0
        unfold z5 at hz
        simp [h0] at hz
      simp
      intro h1 h2 h3 h4 h5
      exact absurd ⟨h1, h2, h3, h4, h5⟩ this

end Go.Proofs.Ytijdggcfjkfgcal
