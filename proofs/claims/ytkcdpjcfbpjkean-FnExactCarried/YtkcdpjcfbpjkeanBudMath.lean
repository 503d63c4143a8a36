/- Sums over a cover as the model reckons them: what is too great is told by a flag. -/
import Derived.Test.YtkcdpjcfbpjkeanTimMath
namespace Go.Proofs.Ytkcdpjcfbpjkean
open Go.Proofs.Ytkcdpjcfbpjkean.RM

/-- a product as the model keeps it -/
def p1V (a c : Fr) : Fr := keepF (mulK a c) (mulP a c)
/-- one summand more: share times cover times share -/
def stpV (s : Fr × Bool) (a c b : Fr) : Fr × Bool :=
  (keepF (addK s.1 (p1V (p1V a c) b)) (addP s.1 (p1V (p1V a c) b)), ((s.2 || !mulK a c) || !mulK (p1V a c) b) || !addK s.1 (p1V (p1V a c) b))
/-- k summands of a row more -/
def rowV (a : Fr) (r bs : List Fr) (s : Fr × Bool) : Nat → Fr × Bool
  | 0 => s
  | k + 1 => stpV (rowV a r bs s k) a (fr r k) (fr bs k)
/-- k rows -/
def sumV (ps : List Fr) (rows : List (List Fr)) (bs : List Fr) (bd : Bool) : Nat → Fr × Bool
  | 0 => ((0, 1), bd)
  | k + 1 => rowV (fr ps k) (rw' rows k) bs (sumV ps rows bs bd k) rows.length
/-- the part of one share -/
def partS (ps : List Fr) (rows : List (List Fr)) (i : Nat) (bd : Bool) : Fr × Bool := rowV (fr ps i) (rw' rows i) ps ((0, 1), bd) rows.length
/-- the parts of the first k shares, and was something too great -/
def prtV (ps : List Fr) (rows : List (List Fr)) : Nat → List Fr × Bool
  | 0 => ([], false)
  | k + 1 => ((prtV ps rows k).1 ++ [(partS ps rows k (prtV ps rows k).2).1], (partS ps rows k (prtV ps rows k).2).2)
theorem prtV_len (ps : List Fr) (rows : List (List Fr)) : ∀ k, (prtV ps rows k).1.length = k
  | 0 => rfl
  | k + 1 => by simp [prtV, prtV_len ps rows k]
/-- the j-th row's sums with the first rows of shares -/
def crsV (S : List (List Fr)) (rows : List (List Fr)) (i : Nat) (bd : Bool) : Nat → List Fr × Bool
  | 0 => ([], bd)
  | k + 1 => ((crsV S rows i bd k).1 ++ [(sumV (rw' S i) rows (rw' S k) (crsV S rows i bd k).2 rows.length).1], (sumV (rw' S i) rows (rw' S k) (crsV S rows i bd k).2 rows.length).2)
theorem crsV_len (S rows : List (List Fr)) (i : Nat) (bd : Bool) : ∀ k, (crsV S rows i bd k).1.length = k
  | 0 => rfl
  | k + 1 => by simp [crsV, crsV_len S rows i bd k]
/-- the first rows of what is carried -/
def carV (S : List (List Fr)) (rows : List (List Fr)) : Nat → List (List Fr) × Bool
  | 0 => ([], false)
  | k + 1 => ((carV S rows k).1 ++ [(crsV S rows k (carV S rows k).2 S.length).1], (crsV S rows k (carV S rows k).2 S.length).2)
theorem carV_len (S rows : List (List Fr)) : ∀ k, (carV S rows k).1.length = k
  | 0 => rfl
  | k + 1 => by simp [carV, carV_len S rows k]
end Go.Proofs.Ytkcdpjcfbpjkean
