/- The walk of the model's Variance. -/
import Derived.Test.YtibncepllmjhhaaBudW2
namespace Go.Proofs.Ytibncepllmjhhaa
open Go.RowKit Go.Proofs.Ytibncepllmjhhaa.RM

/-- the variance of shares: does the model tell it, and what -/
def varS (ps : List Fr) (rows : List (List Fr)) : Fr × Bool := sumV ps rows ps false rows.length
def varO (ps : List Fr) (rows : List (List Fr)) : Bool := toldC ps rows && !(varS ps rows).2
def varA (ps : List Fr) (rows : List (List Fr)) : Fr := if varO ps rows = true then (varS ps rows).1 else (0, 0)
theorem varA_no {ps : List Fr} {rows : List (List Fr)} (h : varO ps rows = false) : varA ps rows = (0, 0) := by unfold varA; rw [h]; rfl
theorem varA_yes {ps : List Fr} {rows : List (List Fr)} (h : varO ps rows = true) : varA ps rows = (varS ps rows).1 := by unfold varA; rw [if_pos h]
theorem toldC_out {ps : List Fr} {rows : List (List Fr)} (h : toldC ps rows = true) : (1 ≤ rows.length ∧ rows.length ≤ 6) ∧ ps.length = rows.length ∧ allOk ps = true ∧ (∀ k, k < rows.length → (rw' rows k).length = rows.length ∧ allOk (rw' rows k) = true) ∧ symP rows := by
  unfold toldC at h
  rw [Bool.and_eq_true] at h
  obtain ⟨h1, h2, h3⟩ := covB_out h.1
  obtain ⟨h4, h5⟩ := allB_len (by omega) h.2
  exact ⟨h1, by omega, h5, h2, h3⟩
theorem ret_vb {a b a' b' : Int} {o o' : Bool} (h1 : a = a') (h2 : b = b') (h3 : o = o') : Ending.returned (.tuple #[.agg #[.int .i64 a, .int .i64 b], .bool o]) = .returned (.tuple #[.agg #[.int .i64 a', .int .i64 b'], .bool o']) := by rw [h1, h2, h3]

end Go.Proofs.Ytibncepllmjhhaa
