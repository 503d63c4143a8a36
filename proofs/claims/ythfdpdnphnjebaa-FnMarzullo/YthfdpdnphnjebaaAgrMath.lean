/- Claims, without any program: how many have a number. -/
import Derived.Test.YthfdpdnphnjebaaRngMath
import Derived.Test.YthfdpdnphnjebaaRgW0
namespace Go.Proofs.Ythfdpdnphnjebaa
open Go.RowKit Go.Proofs.Ythfdpdnphnjebaa.RM

/-- claims as told -/
def clmP (ls : List Sp) : Prop := (1 ≤ ls.length ∧ ls.length ≤ 12) ∧ ∀ j, j < ls.length → rng7 (sp ls j).1 (sp ls j).2 = true
instance (ls : List Sp) : Decidable (clmP ls) := by unfold clmP; infer_instance
def clmB (ls : List Sp) : Bool := decide (clmP ls)
theorem clmB_len {ls : List Sp} (h : ¬ (1 ≤ ls.length ∧ ls.length ≤ 12)) : clmB ls = false := decide_eq_false fun k => h k.1
theorem clmB_at {ls : List Sp} {k : Nat} (hk : k < ls.length) (h : rng7 (sp ls k).1 (sp ls k).2 = false) : clmB ls = false := decide_eq_false fun q => by have := q.2 k hk; rw [h] at this; exact absurd this (by decide)
theorem clmB_out {ls : List Sp} (h : clmB ls = true) : clmP ls := of_decide_eq_true h
/-- has the j-th it -/
def hasB (ls : List Sp) (v : Fr) (j : Nat) : Bool := within7 (sp ls j).1 (sp ls j).2 v
/-- how many of the first k have it -/
def depN (ls : List Sp) (v : Fr) : Nat → Nat
  | 0 => 0
  | k + 1 => if hasB ls v k = true then depN ls v k + 1 else depN ls v k
theorem depN_le (ls : List Sp) (v : Fr) : ∀ k, depN ls v k ≤ k
  | 0 => Nat.le_refl _
  | k + 1 => by
    have := depN_le ls v k
    unfold depN
    split <;> omega
def depI (ls : List Sp) (v : Fr) : Int := (depN ls v ls.length : Int)
def deeA (ls : List Sp) (v : Fr) : Int := if (clmB ls && okB v.1 v.2) = true then depI ls v else -1
theorem ret_i11 {a b : Int} (h : a = b) : Ending.returned (.int .i64 a) = .returned (.int .i64 b) := by rw [h]
end Go.Proofs.Ythfdpdnphnjebaa
