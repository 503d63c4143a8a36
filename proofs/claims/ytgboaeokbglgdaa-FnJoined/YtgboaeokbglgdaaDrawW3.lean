/- Fractions that are drawn, right or not. -/
import Derived.Test.YtgboaeokbglgdaaDrawW2
namespace Go.Proofs.Ytgboaeokbglgdaa
open Go.RowKit Go.Proofs.Ytgboaeokbglgdaa.RM
theorem frz_st {w : World} {a p : Addr} {u : Value} (h : w.frozen? a = false) : (w.setCell p u).frozen? a = false := by simp [h]
theorem set00 {w : World} {B : Nat} {x n : Value} (h : w.cell? ⟨B, 0, none⟩ = some x) : (w.setCell ⟨B, 0, none⟩ n).cell? ⟨B, 0, none⟩ = some n := by simp [go_sem, h]
theorem set01 {w : World} {B : Nat} {y n : Value} (h : w.cell? ⟨B, 1, none⟩ = some y) : (w.setCell ⟨B, 0, none⟩ n).cell? ⟨B, 1, none⟩ = some y := by simp [go_sem, h]

end Go.Proofs.Ytgboaeokbglgdaa
