/- The walks of the laws' helpers over tables that came in: their size, their copies. -/
import Derived.Test.YthmdiljcceiedaaTabW0
namespace Go.Proofs.Ythmdiljcceiedaa
open Go.RowKit Go.Proofs.Ythmdiljcceiedaa.RM

/-- what is copied when k of them have been -/
def cpyF (ps : List Fr) (k : Nat) : List Fr := (List.range ps.length).map (fun i => if i < k then fr ps i else (0, 0))
theorem cpyF_len (ps : List Fr) (k : Nat) : (cpyF ps k).length = ps.length := by simp [cpyF]
theorem cpyF_zero (ps : List Fr) : cpyF ps 0 = List.replicate ps.length (0, 0) := by
  apply List.ext_getElem
  · simp [cpyF]
  · intro i h1 h2
    simp [cpyF]
theorem cpyF_all (ps : List Fr) : cpyF ps ps.length = ps := by
  apply List.ext_getElem
  · rw [cpyF_len]
  · intro i h1 h2
    simp [cpyF, fr, h2]
theorem cpyF_set (ps : List Fr) (k : Nat) : (cpyF ps k).set k (fr ps k) = cpyF ps (k + 1) := by
  apply List.ext_getElem
  · simp [cpyF]
  · intro i h1 h2
    simp only [cpyF, List.getElem_set, List.getElem_map, List.getElem_range]
    by_cases e : k = i
    · subst e
      rw [if_pos rfl, if_pos (by omega)]
    · rw [if_neg e]
      by_cases h3 : i < k
      · rw [if_pos h3, if_pos (by omega)]
      · rw [if_neg h3, if_neg (by omega)]

/-- the rows that are copied when k of them have been -/
def cpyT (rows : List (List Fr)) (k : Nat) : List (List Fr) := (List.range rows.length).map (fun i => if i < k then rw' rows i else [])
theorem cpyT_len (rows : List (List Fr)) (k : Nat) : (cpyT rows k).length = rows.length := by simp [cpyT]
theorem cpyT_zero (rows : List (List Fr)) : cpyT rows 0 = List.replicate rows.length [] := by
  apply List.ext_getElem
  · simp [cpyT]
  · intro i h1 h2
    simp [cpyT]
theorem cpyT_all (rows : List (List Fr)) : cpyT rows rows.length = rows := by
  apply List.ext_getElem
  · rw [cpyT_len]
  · intro i h1 h2
    simp [cpyT, rw', h2]
theorem cpyT_set (rows : List (List Fr)) (k : Nat) : (cpyT rows k).set k (rw' rows k) = cpyT rows (k + 1) := by
  apply List.ext_getElem
  · simp [cpyT]
  · intro i h1 h2
    simp only [cpyT, List.getElem_set, List.getElem_map, List.getElem_range]
    by_cases e : k = i
    · subst e
      rw [if_pos rfl, if_pos (by omega)]
    · rw [if_neg e]
      by_cases h3 : i < k
      · rw [if_pos h3, if_pos (by omega)]
      · rw [if_neg h3, if_neg (by omega)]
theorem vl_nils (n i : Nat) : vl (List.replicate n (.slice none 0 0)) i = .slice none 0 0 := by
  unfold vl
  by_cases h : i < n
  · rw [List.getElem?_eq_getElem (by simpa using h)]; simp
  · rw [List.getElem?_eq_none (by simpa using h)]; rfl
theorem rw_nils (n i : Nat) : rw' (List.replicate n ([] : List Fr)) i = [] := by
  unfold rw'
  by_cases h : i < n
  · rw [List.getElem?_eq_getElem (by simpa using h)]; simp
  · rw [List.getElem?_eq_none (by simpa using h)]; rfl
theorem madeT (n : Nat) : (madeCells (Value.slice none 0 0).cells (n * 1)).toList = List.replicate n (.slice none 0 0) := by
  rw [show (Value.slice none 0 0).cells = #[Value.slice none 0 0] from rfl, Nat.mul_one, toList_madeCells_one]
/-- a table that was just made -/
theorem Tab.made {W : World} {base n : Nat} {v : Value} (h : W.ownsRow base 24 1 v n (List.replicate n (.slice none 0 0))) : Tab W base v (List.replicate n (.slice none 0 0)) (List.replicate n []) := by
  refine ⟨by rw [List.length_replicate]; exact h, by simp, fun i hi => ?_, fun i j _ _ _ b hb => ?_⟩
  · rw [vl_nils, rw_nils]
    exact World.ownsRow_nil _ _ _ _
  · rw [vl_nils] at hb; simp [Value.ownBlock] at hb
theorem Tab.lt {W : World} {base : Nat} {v : Value} {us : List Value} {rows : List (List Fr)} (h : Tab W base v us rows) (i : Nat) (hi : i < us.length) : ∀ b, (vl us i).ownBlock = some b → b < W.heap.size := fun b hb => ((h.inner i hi).lt b hb).2

end Go.Proofs.Ythmdiljcceiedaa
