/- The walks of the program's DimOk, DimTimes, DimPower. -/
import Derived.Test.YtbbkejfcheobaaaDoorDimW1
import Derived.Deep.Cut
namespace Go.Proofs.YtbbkejfcheobaaaDoor
open Go.RowKit Go.Proofs.YtbbkejfcheobaaaDoor.RM

theorem cl_iff (x : Int) : (x == cl x) = in9 x := by
  unfold cl in9
  rw [Bool.eq_iff_iff]
  simp only [beq_iff_eq, Bool.and_eq_true, decide_eq_true_eq]
  split <;> split <;> omega
theorem dimB_five (a b c d e : Int) : dimB [a, b, c, d, e] = lim5 a b c d e := by
  unfold dimB lim5
  simp only [cl_iff, List.length_cons, List.length_nil, List.all_cons, List.all_nil]
  simp
theorem in9_out {x : Int} (h : in9 x = true) : -9 ≤ x ∧ x ≤ 9 := by
  unfold in9 at h
  simpa using h
theorem lim5_out {a b c d e : Int} (h : lim5 a b c d e = true) : (-9 ≤ a ∧ a ≤ 9) ∧ (-9 ≤ b ∧ b ≤ 9) ∧ (-9 ≤ c ∧ c ≤ 9) ∧ (-9 ≤ d ∧ d ≤ 9) ∧ (-9 ≤ e ∧ e ≤ 9) := by
  unfold lim5 at h
  simp only [cl_iff, Bool.and_eq_true] at h
  exact ⟨in9_out h.1, in9_out h.2.1, in9_out h.2.2.1, in9_out h.2.2.2.1, in9_out h.2.2.2.2⟩
/-- is it five noughts -/
def z5 (a b c d e : Int) : Bool := a == 0 && (b == 0 && (c == 0 && (d == 0 && e == 0)))
/-- do the powers make a dimension -/
def rq (a b c d e n : Int) : Bool := z5 a b c d e || (in9 n && lim5 (a * n) (b * n) (c * n) (d * n) (e * n))
theorem mul_b {x n : Int} (hx : -9 ≤ x ∧ x ≤ 9) (hn : -9 ≤ n ∧ n ≤ 9) : -81 ≤ x * n ∧ x * n ≤ 81 := by
  obtain ⟨h1, h2⟩ := hx
  obtain ⟨h3, h4⟩ := hn
  constructor
  · rcases Int.le_total 0 x with h | h
    · have := Int.mul_le_mul_of_nonneg_left h3 h; omega
    · have := Int.mul_le_mul_of_nonpos_left h h4; omega
  · rcases Int.le_total 0 x with h | h
    · have := Int.mul_le_mul_of_nonneg_left h4 h; omega
    · have := Int.mul_le_mul_of_nonpos_left h h3; omega

end Go.Proofs.YtbbkejfcheobaaaDoor
