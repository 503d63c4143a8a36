/- The walk of the program's Times. -/
import Derived.Test.YtkcdpjcfbpjkeanTimW1
namespace Go.Proofs.Ytkcdpjcfbpjkean
open Go.RowKit Go.Proofs.Ytkcdpjcfbpjkean.RM

theorem Tab.empty {W : World} {base : Nat} {v : Value} (h : W.ownsRow base 35 1 v 0 []) : Tab W base v [] [] :=
  ⟨h, rfl, fun _ hi => absurd hi (Nat.not_lt_zero _), fun _ _ hi => absurd hi (Nat.not_lt_zero _)⟩
/-- the literal without a row -/
theorem Tab.lit {W : World} {base : Nat} (hb : base ≤ W.heap.size) : Tab (W.alloc (.cells #[] 35)) base (.slice (some ⟨W.heap.size, 0, none⟩) 0 0) [] [] :=
  Tab.empty (World.ownsRow_lit W (base := base) (e := 35) (size := 1) #[] 0 hb (Nat.zero_le _) rfl)
/-- the rows that are reckoned when k of them have been -/
def timP (a b : List (List Fr)) (k : Nat) : List (List Fr) := (List.range a.length).map (fun i => if i < k then timRow a b i (rw' b 0).length else [])
theorem timP_len (a b : List (List Fr)) (k : Nat) : (timP a b k).length = a.length := by simp [timP]
theorem timP_zero (a b : List (List Fr)) : timP a b 0 = List.replicate a.length [] := by
  apply List.ext_getElem
  · simp [timP]
  · intro i h1 h2
    simp [timP]
theorem timP_all (a b : List (List Fr)) : timP a b a.length = timT a b a.length := by
  apply List.ext_getElem
  · rw [timP_len, timT_len]
  · intro i h1 h2
    rw [timP_len] at h1
    simp [timP, timT, h1]
theorem timP_set (a b : List (List Fr)) (k : Nat) : (timP a b k).set k (timRow a b k (rw' b 0).length) = timP a b (k + 1) := by
  apply List.ext_getElem
  · simp [timP]
  · intro i h1 h2
    simp only [timP, List.getElem_set, List.getElem_map, List.getElem_range]
    by_cases e : k = i
    · subst e
      rw [if_pos rfl, if_pos (by omega)]
    · rw [if_neg e]
      by_cases h3 : i < k
      · rw [if_pos h3, if_pos (by omega)]
      · rw [if_neg h3, if_neg (by omega)]
/-- the entries that are reckoned when j of them have been -/
def timQ (a b : List (List Fr)) (i L j : Nat) : List Fr := (List.range L).map (fun x => if x < j then (timE a b i x).1 else (0, 0))
theorem timQ_len (a b : List (List Fr)) (i L j : Nat) : (timQ a b i L j).length = L := by simp [timQ]
theorem timQ_zero (a b : List (List Fr)) (i L : Nat) : timQ a b i L 0 = List.replicate L (0, 0) := by
  apply List.ext_getElem
  · simp [timQ]
  · intro x h1 h2
    simp [timQ]
theorem timQ_all (a b : List (List Fr)) (i L : Nat) : timQ a b i L L = timRow a b i L := by
  apply List.ext_getElem
  · rw [timQ_len, timRow_len]
  · intro x h1 h2
    rw [timQ_len] at h1
    simp [timQ, timRow, h1]
theorem timQ_set (a b : List (List Fr)) (i L j : Nat) : (timQ a b i L j).set j (timE a b i j).1 = timQ a b i L (j + 1) := by
  apply List.ext_getElem
  · simp [timQ]
  · intro x h1 h2
    simp only [timQ, List.getElem_set, List.getElem_map, List.getElem_range]
    by_cases e : j = x
    · subst e
      rw [if_pos rfl, if_pos (by omega)]
    · rw [if_neg e]
      by_cases h3 : x < j
      · rw [if_pos h3, if_pos (by omega)]
      · rw [if_neg h3, if_neg (by omega)]
theorem set_set' {α : Type} (l : List α) (k : Nat) (x y : α) : (l.set k x).set k y = l.set k y := by simp
theorem ret_tb {v : Value} {b b' : Bool} (h : b = b') : Ending.returned (.tuple #[v, .bool b]) = .returned (.tuple #[v, .bool b']) := by rw [h]

end Go.Proofs.Ytkcdpjcfbpjkean
