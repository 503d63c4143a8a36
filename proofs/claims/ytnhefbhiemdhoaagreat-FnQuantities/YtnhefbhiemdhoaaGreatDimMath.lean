/- What a dimension is, in plain numbers. -/
import Derived.Test.YtnhefbhiemdhoaaGreatRatioMath
namespace Go.Proofs.YtnhefbhiemdhoaaGreat
open Go.Proofs.YtnhefbhiemdhoaaGreat.RM

/-- is it a number from -9 to 9 -/
def in9 (x : Int) : Bool := decide (-9 ≤ x) && decide (x ≤ 9)
def dimB (ys : List Int) : Bool := decide (ys.length = 5) && ys.all in9
/-- what is no dimension becomes nothing -/
def dimN (ys : List Int) : List Int := if dimB ys then ys else []
/-- sums of the numbers -/
def ansDimTimes (a b : List Int) : List Int := if dimB a && dimB b then dimN (List.zipWith (· + ·) a b) else []
/-- the numbers so many times -/
def ansDimPower (a : List Int) (n : Int) : List Int :=
  if dimB a then (if a.all (fun x => decide (x = 0) || in9 n) then dimN (a.map (· * n)) else []) else []
theorem dimN_len (ys : List Int) : (dimN ys).length ≤ 5 := by
  unfold dimN dimB
  split
  · rename_i h
    rw [Bool.and_eq_true, decide_eq_true_eq] at h
    omega
  · exact Nat.zero_le _
theorem ansDimTimes_len (a b : List Int) : (ansDimTimes a b).length ≤ 1000000000 := by
  unfold ansDimTimes
  split
  · have := dimN_len (List.zipWith (· + ·) a b); omega
  · exact Nat.zero_le _
theorem ansDimPower_len (a : List Int) (n : Int) : (ansDimPower a n).length ≤ 1000000000 := by
  unfold ansDimPower
  split
  · split
    · have := dimN_len (a.map (· * n)); omega
    · exact Nat.zero_le _
  · exact Nat.zero_le _
/-- the numbers of a dimension, one by one -/
theorem dim_out {ys : List Int} (h : ys.length = 5) : ∃ a b c d e, ys = [a, b, c, d, e] := by
  match ys, h with
  | [a, b, c, d, e], _ => exact ⟨a, b, c, d, e, rfl⟩
end Go.Proofs.YtnhefbhiemdhoaaGreat
