/- Quantities in plain numbers: what Plus and Product tell. -/
import Derived.Test.YtijdggcfjkfgcalRatioMath
import Derived.Test.YtijdggcfjkfgcalDimMath
namespace Go.Proofs.Ytijdggcfjkfgcal
open Go.Proofs.Ytijdggcfjkfgcal.RM

/-- is it a quantity -/
def quaB (n d : Int) (ys : List Int) : Bool := okB n d && dimB ys
/-- a quantity and whether there is one: what is told where there is none is nought -/
def toldQ (n d : Int) (xs : List Int) (b : Bool) : Int × Int × List Int × Bool := if b then (n, d, xs, true) else (0, 0, [], false)
def plusQ (n d : Int) (ys : List Int) (m c : Int) (zs : List Int) : Int × Int × List Int × Bool :=
  toldQ (opN (two n d m c) (n * c + m * d) (d * c)) (opD (two n d m c) (n * c + m * d) (d * c)) ys (dimB ys && dimB zs && decide (ys = zs) && opOk (two n d m c) (n * c + m * d) (d * c))
def prodQ (n d : Int) (ys : List Int) (m c : Int) (zs : List Int) : Int × Int × List Int × Bool :=
  toldQ (opN (two n d m c) (n * m) (d * c)) (opD (two n d m c) (n * m) (d * c)) (List.zipWith (· + ·) ys zs) (dimB ys && dimB zs && dimB (List.zipWith (· + ·) ys zs) && opOk (two n d m c) (n * m) (d * c))
theorem toldQ_len (n d : Int) (xs : List Int) (b : Bool) (h : b = true → xs.length ≤ 5) : (toldQ n d xs b).2.2.1.length ≤ 5 := by
  unfold toldQ
  cases b
  · exact Nat.zero_le _
  · exact h rfl
theorem dimB_len {ys : List Int} (h : dimB ys = true) : ys.length = 5 := by
  unfold dimB at h
  rw [Bool.and_eq_true, decide_eq_true_eq] at h
  exact h.1
theorem plusQ_len (n d : Int) (ys : List Int) (m c : Int) (zs : List Int) : (plusQ n d ys m c zs).2.2.1.length ≤ 5 :=
  toldQ_len _ _ _ _ fun h => by
    simp only [Bool.and_eq_true] at h
    rw [dimB_len h.1.1.1]; exact Nat.le_refl _
theorem prodQ_len (n d : Int) (ys : List Int) (m c : Int) (zs : List Int) : (prodQ n d ys m c zs).2.2.1.length ≤ 5 :=
  toldQ_len _ _ _ _ fun h => by
    simp only [Bool.and_eq_true] at h
    rw [dimB_len h.1.2]; exact Nat.le_refl _
end Go.Proofs.Ytijdggcfjkfgcal
