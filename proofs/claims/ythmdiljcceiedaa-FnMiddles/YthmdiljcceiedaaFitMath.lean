/- Lines through spots as the model reckons them: what is too great is told by a flag. -/
import Derived.Test.YthmdiljcceiedaaBudMath
namespace Go.Proofs.Ythmdiljcceiedaa
open Go.Proofs.Ythmdiljcceiedaa.RM

/-- a sum as the model keeps it -/
def a1V (a c : Fr) : Fr := keepF (addK a c) (addP a c)
/-- a difference as the model keeps it -/
def s1V (a c : Fr) : Fr := keepF (subK a c) (subP a c)
/-- a power -/
def powV (x : Fr) (bd : Bool) : Nat → Fr × Bool
  | 0 => ((1, 1), bd)
  | k + 1 => (p1V (powV x bd k).1 x, (powV x bd k).2 || !mulK (powV x bd k).1 x)
/-- what there is times x, and the next one -/
def hrS (s : Fr × Bool) (x c : Fr) : Fr × Bool := (a1V (p1V s.1 x) c, (s.2 || !mulK s.1 x) || !addK (p1V s.1 x) c)
/-- from the highest power on, k steps -/
def hrnV (cs : List Fr) (x : Fr) (bd : Bool) : Nat → Fr × Bool
  | 0 => (fr cs (cs.length - 1), bd)
  | k + 1 => hrS (hrnV cs x bd k) x (fr cs (cs.length - 2 - k))
/-- the curve at x -/
def atV (cs : List Fr) (x : Fr) (bd : Bool) : Fr × Bool := hrnV cs x bd (cs.length - 1)
end Go.Proofs.Ythmdiljcceiedaa
