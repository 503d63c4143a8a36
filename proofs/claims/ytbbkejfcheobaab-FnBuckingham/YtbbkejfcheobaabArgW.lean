/- The walk of the laws' copy of a list of numbers that came in. -/
import Derived.Test.YtbbkejfcheobaabRowsW
import Derived.Test.YtbbkejfcheobaabDrawW1
namespace Go.Proofs.Ytbbkejfcheobaab
open Go.RowKit Go.Proofs.Ytbbkejfcheobaab.RM

/-- what is copied when k of n have been -/
def cpy (zs : List Int) (n k : Nat) : List Int := (List.range n).map (fun i => if i < k then zs[i]?.getD 0 else 0)
theorem cpy_len (zs : List Int) (n k : Nat) : (cpy zs n k).length = n := by simp [cpy]
theorem cpy_zero (zs : List Int) (n : Nat) : cpy zs n 0 = List.replicate n 0 := by
  apply List.ext_getElem
  · simp [cpy]
  · intro i h1 h2
    simp [cpy]
theorem cpy_all (zs : List Int) (n : Nat) (h : (zs.take n).length = n) : cpy zs n n = zs.take n := by
  apply List.ext_getElem
  · rw [h, cpy_len]
  · intro i h1 h2
    rw [cpy_len] at h1
    rw [List.length_take] at h
    simp [cpy, h1, List.getElem?_eq_getElem (show i < zs.length by omega)]
theorem cpy_set (zs : List Int) (n k : Nat) : (cpy zs n k).set k (zs[k]?.getD 0) = cpy zs n (k + 1) := by
  apply List.ext_getElem
  · simp [cpy]
  · intro i h1 h2
    simp only [cpy, List.getElem_set, List.getElem_map, List.getElem_range]
    by_cases e : k = i
    · subst e
      rw [if_pos rfl, if_pos (by omega)]
    · rw [if_neg e]
      by_cases h3 : i < k
      · rw [if_pos h3, if_pos (by omega)]
      · rw [if_neg h3, if_neg (by omega)]

end Go.Proofs.Ytbbkejfcheobaab
