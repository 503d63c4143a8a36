/- The walk of the model's Vary; what lies inside, told without a new world. -/
import Derived.Test.YthmdiljcceiedaaPtW3
import Derived.Test.YthmdiljcceiedaaCalcW
import Derived.Test.YthmdiljcceiedaaBudMath
import Derived.Test.YthmdiljcceiedaaTimW1
namespace Go.Proofs.Ythmdiljcceiedaa
open Go.RowKit Go.Proofs.Ythmdiljcceiedaa.RM

theorem b0P (u : World) (o : Obj) : Below u.heap.size u (u.alloc o) := (Below.refl _ _).alloc (Nat.le_refl _) o
theorem kSub9 (K : Nat) (bd : Bool) (x y : Fr) (w : World) (hK : IsK w K bd) :
    Calls Try.prog 56 #[.pointer (some ⟨K, 0, none⟩), .agg #[.int .i64 x.1, .int .i64 x.2], .agg #[.int .i64 y.1, .int .i64 y.2]] w fun e w' =>
      e = .returned (.agg #[.int .i64 (keepF (subK x y) (subP x y)).1, .int .i64 (keepF (subK x y) (subP x y)).2]) ∧ IsK w' K (bd || !subK x y) ∧ w.grownBy w' (some K) := cSub_any K bd x.1 x.2 y.1 y.2 w hK
theorem cell_gP {K : Nat} {W W' : World} (hg : W.grownBy W' (some K)) {b o : Nat} {v : Value} (h : W.cell? ⟨b, o, none⟩ = some v) (hne : b ≠ K) : W'.cell? ⟨b, o, none⟩ = some v :=
  (g_cell hg o (World.block_lt_of_cell? W _ h) (by simpa using hne)).trans h
/-- the variance as the model reckons it: its number, was something too great -/
def vryV (q m : Fr) : Fr × Bool := (keepF (subK q (p1V m m)) (subP q (p1V m m)), (!mulK m m) || !subK q (p1V m m))
def vryO (ps : List Fr) : Bool := sprB ps && ((momA ps 1).2 && ((momA ps 2).2 && !(vryV (momA ps 2).1 (momA ps 1).1).2))
def vryA (ps : List Fr) : Fr := if vryO ps = true then (vryV (momA ps 2).1 (momA ps 1).1).1 else (0, 0)
theorem vryA_no {ps : List Fr} (h : vryO ps = false) : vryA ps = (0, 0) := by unfold vryA; rw [h]; rfl
theorem vryA_yes {ps : List Fr} (h : vryO ps = true) : vryA ps = (vryV (momA ps 2).1 (momA ps 1).1).1 := by unfold vryA; rw [if_pos h]

end Go.Proofs.Ythmdiljcceiedaa
