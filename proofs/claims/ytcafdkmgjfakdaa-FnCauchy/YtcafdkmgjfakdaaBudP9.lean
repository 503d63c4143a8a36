/- The walk of the program's Parts. -/
import Derived.Test.YtcafdkmgjfakdaaBudP8
import Derived.Test.YtcafdkmgjfakdaaBudW5
namespace Go.Proofs.Ytcafdkmgjfakdaa
open Go.RowKit Go.Proofs.Ytcafdkmgjfakdaa.RM

theorem stpV_bad {m : Fr × Bool} (h : m.2 = true) (a c b : Fr) : (stpV m a c b).2 = true := by unfold stpV; dsimp only; rw [h]; simp
theorem rowV_bad (a : Fr) (r bs : List Fr) {m : Fr × Bool} (h : m.2 = true) : ∀ b, (rowV a r bs m b).2 = true
  | 0 => h
  | b + 1 => stpV_bad (rowV_bad a r bs h b) _ _ _
theorem sumV_bad (ps : List Fr) (rows : List (List Fr)) (bs : List Fr) : ∀ k, (sumV ps rows bs true k).2 = true
  | 0 => rfl
  | k + 1 => rowV_bad _ _ _ (sumV_bad ps rows bs k) _
theorem partS_bad (ps : List Fr) (rows : List (List Fr)) (i : Nat) : (partS ps rows i true).2 = true := rowV_bad _ _ _ rfl _
theorem prtV_bad (ps : List Fr) (rows : List (List Fr)) : ∀ k n, k ≤ n → (prtV ps rows k).2 = true → (prtV ps rows n).2 = true
  | k, n, hkn, h => by
    induction n with
    | zero => obtain rfl : k = 0 := by omega
              exact h
    | succ n ih =>
      by_cases e : k = n + 1
      · subst e; exact h
      · have := ih (by omega)
        show (partS ps rows n (prtV ps rows n).2).2 = true
        rw [this]; exact partS_bad ps rows n
theorem prtV_good (ps : List Fr) (rows : List (List Fr)) : ∀ k, (∀ i, i < k → (partS ps rows i false).2 = false) → prtV ps rows k = ((List.range k).map fun i => (partS ps rows i false).1, false)
  | 0, _ => rfl
  | k + 1, h => by
    have := prtV_good ps rows k (fun i hi => h i (by omega))
    show ((prtV ps rows k).1 ++ [(partS ps rows k (prtV ps rows k).2).1], (partS ps rows k (prtV ps rows k).2).2) = _
    rw [this, List.range_succ, List.map_append]
    dsimp only
    rw [h k (by omega)]; rfl
theorem prtO_bad {ps : List Fr} {rows : List (List Fr)} {k : Nat} (hk : k < rows.length) (h : ∀ i, i < k → (partS ps rows i false).2 = false) (hb : (partS ps rows k false).2 = true) : prtO ps rows = false := by
  have h1 : (prtV ps rows (k + 1)).2 = true := by
    show (partS ps rows k (prtV ps rows k).2).2 = true
    rw [prtV_good ps rows k h]; exact hb
  unfold prtO
  rw [prtV_bad ps rows (k + 1) rows.length (by omega) h1]; simp
/-- the parts when k of them are laid -/
def prtQ (ps : List Fr) (rows : List (List Fr)) (k : Nat) : List Fr := (List.range rows.length).map fun i => if i < k then (partS ps rows i false).1 else (0, 0)
theorem prtQ_len (ps : List Fr) (rows : List (List Fr)) (k : Nat) : (prtQ ps rows k).length = rows.length := by simp [prtQ]
theorem prtQ_zero (ps : List Fr) (rows : List (List Fr)) : prtQ ps rows 0 = List.replicate rows.length (0, 0) := by
  apply List.ext_getElem
  · simp [prtQ]
  · intro i h1 h2
    simp [prtQ]
theorem prtQ_all (ps : List Fr) (rows : List (List Fr)) : prtQ ps rows rows.length = (List.range rows.length).map fun i => (partS ps rows i false).1 := by
  apply List.ext_getElem
  · simp [prtQ]
  · intro i h1 h2
    simp only [prtQ, List.getElem_map, List.getElem_range]
    rw [if_pos (by simpa [prtQ] using h1)]
theorem prtQ_set (ps : List Fr) (rows : List (List Fr)) (k : Nat) : (prtQ ps rows k).set k (partS ps rows k false).1 = prtQ ps rows (k + 1) := by
  apply List.ext_getElem
  · simp [prtQ]
  · intro i h1 h2
    simp only [prtQ, List.getElem_set, List.getElem_map, List.getElem_range]
    by_cases e : k = i
    · subst e
      rw [if_pos rfl, if_pos (by omega)]
    · rw [if_neg e]
      by_cases h3 : i < k
      · rw [if_pos h3, if_pos (by omega)]
      · rw [if_neg h3, if_neg (by omega)]

end Go.Proofs.Ytcafdkmgjfakdaa
