/- The walks of what only reads a table: is it one, are two alike. -/
import Derived.Test.YthfdpdnphnjebaaTabW1
namespace Go.Proofs.Ythfdpdnphnjebaa
open Go.RowKit Go.Proofs.Ythfdpdnphnjebaa.RM

theorem all_no {α : Type} (p : α → Bool) (d : α) {l : List α} {k : Nat} (hk : k < l.length) (h : p (l[k]?.getD d) = false) : l.all p = false := by
  rw [← Bool.not_eq_true, List.all_eq_true]
  intro ha
  have := ha l[k] (List.getElem_mem hk)
  rw [List.getElem?_eq_getElem hk] at h
  rw [show p l[k] = false from h] at this
  exact absurd this (by simp)
theorem all_yes {α : Type} (p : α → Bool) (d : α) {l : List α} (h : ∀ k, k < l.length → p (l[k]?.getD d) = true) : l.all p = true := by
  rw [List.all_eq_true]
  intro x hx
  obtain ⟨k, hk, rfl⟩ := List.mem_iff_getElem.1 hx
  have := h k hk
  rw [List.getElem?_eq_getElem hk] at this
  exact this
theorem all_at {α : Type} {p : α → Bool} {d : α} {l : List α} (h : l.all p = true) {k : Nat} (hk : k < l.length) : p (l[k]?.getD d) = true := by
  rw [List.all_eq_true] at h
  rw [List.getElem?_eq_getElem hk]
  exact h _ (List.getElem_mem hk)
theorem ret_b {a b : Bool} (h : a = b) : Ending.returned (.bool a) = .returned (.bool b) := by rw [h]
/-- are all of them right -/
def allOk (ps : List Fr) : Bool := ps.all fun p => okB p.1 p.2
theorem allOk_no {ps : List Fr} {k : Nat} (hk : k < ps.length) (h : okB (fr ps k).1 (fr ps k).2 = false) : allOk ps = false := all_no _ (0, 0) hk h
theorem allOk_yes {ps : List Fr} (h : ∀ k, k < ps.length → okB (fr ps k).1 (fr ps k).2 = true) : allOk ps = true := all_yes _ (0, 0) h
theorem allOk_at {ps : List Fr} (h : allOk ps = true) {k : Nat} (hk : k < ps.length) : okB (fr ps k).1 (fr ps k).2 = true := all_at (d := ((0, 0) : Fr)) h hk
/-- as many as told (-1: not asked), and right -/
def allB (ps : List Fr) (n : Int) : Bool := decide (n < 0 ∨ (ps.length : Int) = n) && allOk ps
/-- a row as the program asks it -/
def rowB (ps : List Fr) : Bool := decide (1 ≤ ps.length ∧ ps.length ≤ 6) && allOk ps
/-- a table -/
def tabB (rows : List (List Fr)) (cols : Int) : Bool :=
  decide (1 ≤ rows.length ∧ rows.length ≤ 6 ∧ 1 ≤ (rw' rows 0).length ∧ ((rw' rows 0).length : Int) ≤ cols) && rows.all (fun r => decide (r.length = (rw' rows 0).length) && allOk r)
theorem tabB_head {rows : List (List Fr)} {cols : Int} (h : ¬ (1 ≤ rows.length ∧ rows.length ≤ 6 ∧ 1 ≤ (rw' rows 0).length ∧ ((rw' rows 0).length : Int) ≤ cols)) : tabB rows cols = false := by
  unfold tabB; rw [decide_eq_false h]; rfl
theorem tabB_row {rows : List (List Fr)} {cols : Int} {k : Nat} (hk : k < rows.length) (h : ¬ ((rw' rows k).length = (rw' rows 0).length ∧ allOk (rw' rows k) = true)) : tabB rows cols = false := by
  unfold tabB
  rw [all_no _ [] hk, Bool.and_false]
  show (decide ((rw' rows k).length = (rw' rows 0).length) && allOk (rw' rows k)) = false
  rw [← Bool.not_eq_true, Bool.and_eq_true, decide_eq_true_eq]
  exact h
theorem tabB_yes {rows : List (List Fr)} {cols : Int} (h : 1 ≤ rows.length ∧ rows.length ≤ 6 ∧ 1 ≤ (rw' rows 0).length ∧ ((rw' rows 0).length : Int) ≤ cols) (hr : ∀ k, k < rows.length → (rw' rows k).length = (rw' rows 0).length ∧ allOk (rw' rows k) = true) : tabB rows cols = true := by
  unfold tabB
  rw [decide_eq_true h, Bool.true_and]
  refine all_yes _ [] fun k hk => ?_
  show (decide ((rw' rows k).length = (rw' rows 0).length) && allOk (rw' rows k)) = true
  rw [decide_eq_true (hr k hk).1, (hr k hk).2]; rfl
theorem tabB_out {rows : List (List Fr)} {cols : Int} (h : tabB rows cols = true) : (1 ≤ rows.length ∧ rows.length ≤ 6 ∧ 1 ≤ (rw' rows 0).length ∧ ((rw' rows 0).length : Int) ≤ cols) ∧ ∀ k, k < rows.length → (rw' rows k).length = (rw' rows 0).length ∧ allOk (rw' rows k) = true := by
  unfold tabB at h
  rw [Bool.and_eq_true, decide_eq_true_eq] at h
  refine ⟨h.1, fun k hk => ?_⟩
  have : (decide ((rw' rows k).length = (rw' rows 0).length) && allOk (rw' rows k)) = true := all_at (d := ([] : List Fr)) h.2 hk
  rw [Bool.and_eq_true, decide_eq_true_eq] at this
  exact this

end Go.Proofs.Ythfdpdnphnjebaa
