/- The walk of the model's sum over all of a cover. -/
import Derived.Test.YtibncepllmjhhaaBudMath
import Derived.Test.YtibncepllmjhhaaBudW1
import Derived.Test.YtibncepllmjhhaaTimW3
namespace Go.Proofs.Ytibncepllmjhhaa
open Go.RowKit Go.Proofs.Ytibncepllmjhhaa.RM

theorem g_drew1 {w w' : World} {row : Option Nat} (h : w.grownBy w' row) : w.grownBy w'.drew row := g_drewN h 1
/-- two products and a sum, told -/
theorem kStep (K : Nat) (bd : Bool) (s a c b : Fr) (p q : Fr) (r : Fr × Bool) (hp : p = p1V a c) (hq : q = p1V p b) (hr : r = stpV (s, bd) a c b) :
    (∀ W : World, IsK W K bd → Calls Try.prog 43 #[.pointer (some ⟨K, 0, none⟩), .agg #[.int .i64 a.1, .int .i64 a.2], .agg #[.int .i64 c.1, .int .i64 c.2]] W fun e w' => e = .returned (.agg #[.int .i64 p.1, .int .i64 p.2]) ∧ IsK w' K (bd || !mulK a c) ∧ W.grownBy w' (some K)) ∧
    (∀ W : World, IsK W K (bd || !mulK a c) → Calls Try.prog 43 #[.pointer (some ⟨K, 0, none⟩), .agg #[.int .i64 p.1, .int .i64 p.2], .agg #[.int .i64 b.1, .int .i64 b.2]] W fun e w' => e = .returned (.agg #[.int .i64 q.1, .int .i64 q.2]) ∧ IsK w' K ((bd || !mulK a c) || !mulK p b) ∧ W.grownBy w' (some K)) ∧
    (∀ W : World, IsK W K ((bd || !mulK a c) || !mulK p b) → Calls Try.prog 42 #[.pointer (some ⟨K, 0, none⟩), .agg #[.int .i64 s.1, .int .i64 s.2], .agg #[.int .i64 q.1, .int .i64 q.2]] W fun e w' => e = .returned (.agg #[.int .i64 r.1.1, .int .i64 r.1.2]) ∧ IsK w' K r.2 ∧ W.grownBy w' (some K)) := by
  subst hp
  subst hq
  subst hr
  exact ⟨fun W hW => kMul K bd a.1 a.2 c.1 c.2 W hW, fun W hW => kMul K _ _ _ b.1 b.2 W hW, fun W hW => kAdd K _ s.1 s.2 _ _ W hW⟩

end Go.Proofs.Ytibncepllmjhhaa
