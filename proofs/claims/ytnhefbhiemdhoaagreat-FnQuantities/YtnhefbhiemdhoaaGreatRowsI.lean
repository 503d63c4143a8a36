/- The walks of the laws' helpers over rows of whole numbers, whatever their blocks' type and wherever the marks begin. -/
import Derived.Test.YtnhefbhiemdhoaaGreatRowsW
namespace Go.Proofs.YtnhefbhiemdhoaaGreat
open Go.RowKit Go.Proofs.YtnhefbhiemdhoaaGreat.RM

/-- rows that lie apart: one stays where the other one is written -/
theorem own_sep {w w' : World} {base base' : Nat} {e e' : TypeId} {size size' : Nat} {v v' : Value} {n n' : Nat} {xs xs' : List Value} (h : w.ownsRow base e size v n xs) (_h' : w.ownsRow base' e' size' v' n' xs') (hne : ∀ k, v.ownBlock = some k → v'.ownBlock ≠ some k) (hg : w.grownBy w' v'.ownBlock) : w'.ownsRow base e size v n xs := by
  refine h.kept hg ?_
  by_cases k : v.ownBlock = none
  · exact .inl k
  · refine .inr fun e' => ?_
    obtain ⟨j, hj⟩ := Option.ne_none_iff_exists'.mp k
    exact hne j hj (e' ▸ hj)
theorem below_wrote {w w' : World} {B base : Nat} {e : TypeId} {size : Nat} {v : Value} {n : Nat} {xs : List Value} (h : w.ownsRow base e size v n xs) (hB : B ≤ base) (hs : B ≤ w.heap.size) (hg : w.grownBy w' v.ownBlock) : Below B w w' :=
  (Below.refl B w).grown hg hs (fun j ej => by have := (h.lt j ej).1; omega)

end Go.Proofs.YtnhefbhiemdhoaaGreat
