/- Converted, the program's. -/
import Derived.Test.YtnhefbhiemdhoaaGreatUnitP9
namespace Go.Proofs.YtnhefbhiemdhoaaGreat
open Go.RowKit Go.MapKept Go.Proofs.YtnhefbhiemdhoaaGreat.RM

/-- sums, differences and quotients, as the functions tell them -/
def addQ (p q : Int × Int) : Int × Int × Bool := (opN (two p.1 p.2 q.1 q.2) (p.1 * q.2 + q.1 * p.2) (p.2 * q.2), opD (two p.1 p.2 q.1 q.2) (p.1 * q.2 + q.1 * p.2) (p.2 * q.2), opOk (two p.1 p.2 q.1 q.2) (p.1 * q.2 + q.1 * p.2) (p.2 * q.2))
def subQ (p q : Int × Int) : Int × Int × Bool := (opN (two p.1 p.2 q.1 q.2) (p.1 * q.2 - q.1 * p.2) (p.2 * q.2), opD (two p.1 p.2 q.1 q.2) (p.1 * q.2 - q.1 * p.2) (p.2 * q.2), opOk (two p.1 p.2 q.1 q.2) (p.1 * q.2 - q.1 * p.2) (p.2 * q.2))
def divQ (p q : Int × Int) : Int × Int × Bool := (opN (two p.1 p.2 q.1 q.2) (p.1 * q.2) (p.2 * q.1), opD (two p.1 p.2 q.1 q.2) (p.1 * q.2) (p.2 * q.1), opOk (two p.1 p.2 q.1 q.2) (p.1 * q.2) (p.2 * q.1))
def zer (l : List UInt8) : Int × Int := if l = [67] then (5463, 20) else (0, 1)
/-- a fraction alone -/
def fr (p : Int × Int × Bool) : Int × Int := (p.1, p.2.1)
/-- what is converted -/
def convQ (v : Int × Int) (z : Int × Int) (f g : UV) (y : Int × Int) : Int × Int × Bool := subQ (fr (divQ (fr (mulQ (fr (addQ v z)) (f.n, f.d))) (g.n, g.d))) y
def convI (v : Int × Int) (s t : List UInt8) : Int × Int × Bool :=
  match unitI s, unitI t with
  | some f, some g => if f.dims = g.dims then convQ v (zer s) f g (zer t) else (0, 0, false)
  | _, _ => (0, 0, false)
theorem zer_any (s : ByteArray) (w : World) :
    Calls Tryz.prog 58 #[.string s] w fun e w' => e = .returned (.agg #[.int .i64 (zer s.data.toList).1, .int .i64 (zer s.data.toList).2]) ∧ Below w.heap.size w w' := by
  have := zeroOf_any s w
  unfold zer
  by_cases h : s.data.toList = [67]
  · rw [if_pos h, if_pos h] at this
    rw [if_pos h]
    exact this
  · rw [if_neg h, if_neg h] at this
    rw [if_neg h]
    exact this

end Go.Proofs.YtnhefbhiemdhoaaGreat
