/- The walks of the laws' helpers over rows of fractions: held against each other, marked, held to be marked. -/
import Derived.Test.YthmdiljcceiedaaRowsW
import Derived.Test.YthmdiljcceiedaaRatioW4
import Derived.Deep.RegionWith
namespace Go.Proofs.Ythmdiljcceiedaa
open Go.RowKit Go.Proofs.Ythmdiljcceiedaa.RM

/-- the cells of a row of fractions -/
def cellsR (ps : List (Int × Int)) : List Value := ps.flatMap fun p => [Value.int .i64 p.1, .int .i64 p.2]
theorem cellsR_nil : cellsR [] = [] := rfl
theorem cellsR_cons (p : Int × Int) (ps : List (Int × Int)) : cellsR (p :: ps) = Value.int .i64 p.1 :: .int .i64 p.2 :: cellsR ps := rfl
theorem cellsR_append (ps qs : List (Int × Int)) : cellsR (ps ++ qs) = cellsR ps ++ cellsR qs := by simp [cellsR]
theorem cellsR_len (ps : List (Int × Int)) : (cellsR ps).length = ps.length * 2 := by
  induction ps with
  | nil => rfl
  | cons p ps ih => rw [cellsR_cons]; simp [ih]; omega
theorem cellsR_at : ∀ (ps : List (Int × Int)) (j : Nat), j < ps.length → (cellsR ps)[j * 2]? = some (.int .i64 (ps[j]?.getD (0, 0)).1) ∧ (cellsR ps)[j * 2 + 1]? = some (.int .i64 (ps[j]?.getD (0, 0)).2)
  | [], j, h => by simp at h
  | p :: ps, 0, _ => ⟨rfl, rfl⟩
  | p :: ps, j + 1, h => by
    have ih := cellsR_at ps j (by simpa using h)
    rw [cellsR_cons, show (j + 1) * 2 = j * 2 + 1 + 1 by omega]
    simpa using ih
theorem cellsR_set : ∀ (ps : List (Int × Int)) (j : Nat) (x y : Int), j < ps.length → ((cellsR ps).set (j * 2) (.int .i64 x)).set (j * 2 + 1) (.int .i64 y) = cellsR (ps.set j (x, y))
  | [], j, _, _, h => by simp at h
  | p :: ps, 0, _, _, _ => rfl
  | p :: ps, j + 1, x, y, h => by
    have ih := cellsR_set ps j x y (by simpa using h)
    rw [cellsR_cons, show (j + 1) * 2 = j * 2 + 1 + 1 by omega]
    simp only [List.set_cons_succ]
    rw [ih]; rfl
/-- what a row of fractions tells of its cells -/
theorem own_R {W : World} {base g n c : Nat} {ps : List (Int × Int)} (h : W.ownsRow base 27 2 (.slice (some ⟨g, 0, none⟩) n c) n (cellsR ps)) (hl : ps.length = n) (j : Nat) (hj : j < n) :
    W.cell? ⟨g, j * 2, none⟩ = some (.int .i64 (ps[j]?.getD (0, 0)).1) ∧ W.cell? ⟨g, j * 2 + 1, none⟩ = some (.int .i64 (ps[j]?.getD (0, 0)).2) := by
  have h1 := h.cellAt (j * 2) (by omega)
  have h2 := h.cellAt (j * 2 + 1) (by omega)
  have h3 := cellsR_at ps j (by omega)
  exact ⟨h1.trans h3.1, h2.trans h3.2⟩

/-- what is marked when j of them have been -/
def mrkR (ps : List (Int × Int)) (j : Nat) : List (Int × Int) := (List.range ps.length).map (fun i => if i < j then (1 + 2 * (i : Int), 2 + 2 * (i : Int)) else ps[i]?.getD (0, 0))
theorem mrkR_len (ps : List (Int × Int)) (j : Nat) : (mrkR ps j).length = ps.length := by simp [mrkR]
theorem mrkR_zero (ps : List (Int × Int)) : mrkR ps 0 = ps := by
  apply List.ext_getElem
  · rw [mrkR_len]
  · intro i h1 h2
    simp [mrkR, List.getElem?_eq_getElem h2]
theorem mrkR_set (ps : List (Int × Int)) (j : Nat) : (mrkR ps j).set j (1 + 2 * (j : Int), 2 + 2 * (j : Int)) = mrkR ps (j + 1) := by
  apply List.ext_getElem
  · simp [mrkR]
  · intro i h1 h2
    simp only [mrkR, List.getElem_set, List.getElem_map, List.getElem_range]
    by_cases e : j = i
    · subst e
      rw [if_pos rfl, if_pos (by omega)]
    · rw [if_neg e]
      by_cases h3 : i < j
      · rw [if_pos h3, if_pos (by omega)]
      · rw [if_neg h3, if_neg (by omega)]
theorem mrkR_at (ps : List (Int × Int)) (j : Nat) (h : j < ps.length) : (mrkR ps ps.length)[j]?.getD (0, 0) = (1 + 2 * (j : Int), 2 + 2 * (j : Int)) := by
  simp [mrkR, h]

end Go.Proofs.Ythmdiljcceiedaa
