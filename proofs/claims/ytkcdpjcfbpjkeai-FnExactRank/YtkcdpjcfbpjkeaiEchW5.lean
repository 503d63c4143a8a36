/- The walk of choose: one column's step. -/
import Derived.Test.YtkcdpjcfbpjkeaiEchW4
namespace Go.Proofs.Ytkcdpjcfbpjkeai
open Go.RowKit Go.Proofs.Ytkcdpjcfbpjkeai.RM

/-- the step's rows when k of them were taken from -/
def stepP (rows : List (List Fr)) (at' r col k : Nat) : List (List Fr) :=
  (List.range rows.length).map fun x => if x = at' then divR (rw' rows r) (fr (rw' rows r) col) else if x < k then takeR (rw' (swapT rows r at') x) (fr (rw' (swapT rows r at') x) col) (divR (rw' rows r) (fr (rw' rows r) col)) else rw' (swapT rows r at') x
theorem stepP_len (rows : List (List Fr)) (at' r col k : Nat) : (stepP rows at' r col k).length = rows.length := by simp [stepP]
theorem stepP_at (rows : List (List Fr)) (at' r col k x : Nat) (hx : x < rows.length) : rw' (stepP rows at' r col k) x = if x = at' then divR (rw' rows r) (fr (rw' rows r) col) else if x < k then takeR (rw' (swapT rows r at') x) (fr (rw' (swapT rows r at') x) col) (divR (rw' rows r) (fr (rw' rows r) col)) else rw' (swapT rows r at') x := by
  unfold stepP rw'
  simp [hx]
theorem rows_ext {a b : List (List Fr)} (hl : a.length = b.length) (h : ∀ x, x < a.length → rw' a x = rw' b x) : a = b := by
  apply List.ext_getElem hl
  intro x h1 h2
  have := h x h1
  simpa [rw', h1, h2] using this
theorem stepP_zero (rows : List (List Fr)) (at' r col : Nat) (h : at' < rows.length) : (swapT rows r at').set at' (divR (rw' rows r) (fr (rw' rows r) col)) = stepP rows at' r col 0 := by
  apply rows_ext (by simp [stepP_len, swapT_len])
  intro x hx
  rw [List.length_set, swapT_len] at hx
  rw [rw_set _ _ _ _ (by rw [swapT_len]; exact h), stepP_at _ _ _ _ _ _ hx]
  by_cases e : at' = x
  · rw [if_pos e, if_pos e.symm]
  · rw [if_neg e, if_neg (fun h => e h.symm), if_neg (by omega)]
theorem stepP_skip (rows : List (List Fr)) (at' r col : Nat) : stepP rows at' r col at' = stepP rows at' r col (at' + 1) := by
  apply rows_ext (by simp [stepP_len])
  intro x hx
  rw [stepP_len] at hx
  rw [stepP_at _ _ _ _ _ _ hx, stepP_at _ _ _ _ _ _ hx]
  by_cases e : x = at'
  · rw [if_pos e, if_pos e]
  · rw [if_neg e, if_neg e]
    by_cases e2 : x < at'
    · rw [if_pos e2, if_pos (by omega)]
    · rw [if_neg e2, if_neg (by omega)]
theorem stepP_set (rows : List (List Fr)) (at' r col k : Nat) (hk : k < rows.length) (hne : k ≠ at') : (stepP rows at' r col k).set k (takeR (rw' (swapT rows r at') k) (fr (rw' (swapT rows r at') k) col) (divR (rw' rows r) (fr (rw' rows r) col))) = stepP rows at' r col (k + 1) := by
  apply rows_ext (by simp [stepP_len])
  intro x hx
  rw [List.length_set, stepP_len] at hx
  rw [rw_set _ _ _ _ (by rw [stepP_len]; exact hk), stepP_at _ _ _ _ _ _ hx, stepP_at _ _ _ _ _ _ hx]
  by_cases e : k = x
  · subst e
    rw [if_pos rfl, if_neg hne, if_pos (by omega)]
  · rw [if_neg e]
    by_cases e2 : x = at'
    · rw [if_pos e2, if_pos e2]
    · rw [if_neg e2, if_neg e2]
      by_cases e3 : x < k
      · rw [if_pos e3, if_pos (by omega)]
      · rw [if_neg e3, if_neg (by omega)]
theorem stepP_all (rows : List (List Fr)) (at' r col : Nat) : stepP rows at' r col rows.length = stepT rows at' r col := by
  apply rows_ext (by simp [stepP_len, stepT])
  intro x hx
  rw [stepP_len] at hx
  rw [stepP_at _ _ _ _ _ _ hx, if_pos hx]
  simp [rw', stepT, hx]
theorem stepB_div {rows : List (List Fr)} {at' r col : Nat} (h : divB (rw' rows r) (fr (rw' rows r) col) = false) : stepB rows at' r col = false := by
  unfold stepB; rw [h]; rfl
theorem stepB_take {rows : List (List Fr)} {at' r col k : Nat} (hk : k < rows.length) (hne : k ≠ at') (h : takeB (rw' (swapT rows r at') k) (fr (rw' (swapT rows r at') k) col) (divR (rw' rows r) (fr (rw' rows r) col)) = false) : stepB rows at' r col = false := by
  rw [← Bool.not_eq_true]
  intro hb
  unfold stepB at hb
  rw [Bool.and_eq_true, List.all_eq_true] at hb
  have := hb.2 k (by simpa using hk)
  rw [h] at this
  simp [hne] at this
theorem stepB_yes {rows : List (List Fr)} {at' r col : Nat} (h : divB (rw' rows r) (fr (rw' rows r) col) = true) (h2 : ∀ k, k < rows.length → k ≠ at' → takeB (rw' (swapT rows r at') k) (fr (rw' (swapT rows r at') k) col) (divR (rw' rows r) (fr (rw' rows r) col)) = true) : stepB rows at' r col = true := by
  unfold stepB
  rw [h, Bool.true_and, List.all_eq_true]
  intro k hk
  by_cases e : k = at'
  · simp [e]
  · rw [h2 k (by simpa using hk) e]; simp
theorem divR_len (row : List Fr) (f : Fr) : (divR row f).length = row.length := by simp [divR]
/-- the block of an echelon is as it was where only the chosen ones' row grew -/
theorem EchS.grownBlk {W w1 : World} {base E : Nat} {v vc vf : Value} {us : List Value} {rows : List (List Fr)} {ch fe : List Nat} {tmp : Obj} (h : EchS W base E v vc vf us rows ch fe) (hgrow : (W.alloc tmp).grownBy w1 vc.ownBlock) :
    w1.heap[E]? = some (.cells #[v, vc, vf] 77 (0, 0)) :=
  ((hgrow.block E (by have := (cells3 h.blk).2.2.2.2.2.2; simp; omega) (fun e => own_ne h.cho h.blk (by decide) E e.symm rfl)).trans (Below.heap_alloc _ _ _ (cells3 h.blk).2.2.2.2.2.2)).trans h.blk
/-- a row's elements as a walk reads them -/
theorem row_at {W : World} {base b n c : Nat} {ps : List Fr} (h : W.ownsRow base 24 2 (.slice (some ⟨b, 0, none⟩) n c) ps.length (cellsR ps)) (j : Nat) (hj : j < ps.length) : W.cell? ⟨b, j * 2, none⟩ = some (.int .i64 (fr ps j).1) ∧ W.cell? ⟨b, j * 2 + 1, none⟩ = some (.int .i64 (fr ps j).2) := by
  have hn : n = ps.length := by
    rcases h.2 with ⟨e, _⟩ | ⟨g', c', cur, e, _⟩ <;> cases e; rfl
  subst hn
  exact own_R h rfl j hj
end Go.Proofs.Ytkcdpjcfbpjkeai
