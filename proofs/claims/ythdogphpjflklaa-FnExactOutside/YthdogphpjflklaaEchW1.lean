/- The walks of the program's steps on rows: one divided, so many times one taken from another. -/
import Derived.Test.YthdogphpjflklaaEchMath
import Derived.Test.YthdogphpjflklaaTimW1
namespace Go.Proofs.Ythdogphpjflklaa
open Go.RowKit Go.Proofs.Ythdogphpjflklaa.RM

theorem divC (x1 x2 y1 y2 : Int) (w : World) :
    Calls Try.prog 53 #[.agg #[.int .i64 x1, .int .i64 x2], .agg #[.int .i64 y1, .int .i64 y2]] w fun e w' => e = .returned (.tuple #[.agg #[.int .i64 (divP (x1, x2) (y1, y2)).1, .int .i64 (divP (x1, x2) (y1, y2)).2], .bool (divK (x1, x2) (y1, y2))]) ∧ Below w.heap.size w w' := iDiv_any x1 x2 y1 y2 w
theorem subC (x1 x2 y1 y2 : Int) (w : World) :
    Calls Try.prog 79 #[.agg #[.int .i64 x1, .int .i64 x2], .agg #[.int .i64 y1, .int .i64 y2]] w fun e w' => e = .returned (.tuple #[.agg #[.int .i64 (subP (x1, x2) (y1, y2)).1, .int .i64 (subP (x1, x2) (y1, y2)).2], .bool (subK (x1, x2) (y1, y2))]) ∧ Below w.heap.size w w' := iSub_any x1 x2 y1 y2 w

/-- the first k elements by one function, the others as they were -/
def parF (f : Nat → Fr) (row : List Fr) (k : Nat) : List Fr := (List.range row.length).map fun i => if i < k then f i else fr row i
theorem parF_len (f : Nat → Fr) (row : List Fr) (k : Nat) : (parF f row k).length = row.length := by simp [parF]
theorem parF_zero (f : Nat → Fr) (row : List Fr) : parF f row 0 = row := by
  apply List.ext_getElem
  · rw [parF_len]
  · intro i h1 h2
    simp [parF, fr, h2]
theorem parF_set (f : Nat → Fr) (row : List Fr) (k : Nat) : (parF f row k).set k (f k) = parF f row (k + 1) := by
  apply List.ext_getElem
  · simp [parF]
  · intro i h1 h2
    simp only [parF, List.getElem_set, List.getElem_map, List.getElem_range]
    by_cases e : k = i
    · subst e
      rw [if_pos rfl, if_pos (by omega)]
    · rw [if_neg e]
      by_cases h3 : i < k
      · rw [if_pos h3, if_pos (by omega)]
      · rw [if_neg h3, if_neg (by omega)]
theorem parF_at (f : Nat → Fr) (row : List Fr) (k : Nat) (h : k < row.length) : (parF f row k)[k]?.getD (0, 0) = fr row k := by simp [parF, h]
theorem parF_div (row : List Fr) (g : Fr) : parF (fun i => divP (fr row i) g) row row.length = divR row g := by
  apply List.ext_getElem
  · simp [parF, divR]
  · intro i h1 h2
    rw [parF_len] at h1
    simp [parF, divR, fr, h1]
theorem parF_take (row : List Fr) (t : Fr) (what : List Fr) : parF (fun i => takeE (fr row i) t (fr what i)) row row.length = takeR row t what := by
  apply List.ext_getElem
  · simp [parF, takeR]
  · intro i h1 h2
    rw [parF_len] at h1
    simp [parF, takeR, h1]
theorem divB_no {row : List Fr} {g : Fr} {k : Nat} (hk : k < row.length) (h : divK (fr row k) g = false) : divB row g = false := all_no _ (0, 0) hk h
theorem divB_yes {row : List Fr} {g : Fr} (h : ∀ k, k < row.length → divK (fr row k) g = true) : divB row g = true := all_yes _ (0, 0) h
theorem takeB_no {row : List Fr} {t : Fr} {what : List Fr} {k : Nat} (hk : k < row.length) (h : takeK (fr row k) t (fr what k) = false) : takeB row t what = false := by
  rw [← Bool.not_eq_true]
  intro ha
  unfold takeB at ha
  rw [List.all_eq_true] at ha
  have := ha k (by simpa using hk)
  rw [h] at this
  exact absurd this (by simp)
theorem takeB_yes {row : List Fr} {t : Fr} {what : List Fr} (h : ∀ k, k < row.length → takeK (fr row k) t (fr what k) = true) : takeB row t what = true := by
  unfold takeB
  rw [List.all_eq_true]
  intro k hk
  exact h k (by simpa using hk)

end Go.Proofs.Ythdogphpjflklaa
