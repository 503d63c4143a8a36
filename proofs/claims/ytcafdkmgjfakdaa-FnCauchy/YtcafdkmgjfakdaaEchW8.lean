/- The walk of the program's echelonOf. -/
import Derived.Test.YtcafdkmgjfakdaaEchW6
import Derived.Test.YtcafdkmgjfakdaaEchW7
import Derived.Test.YtcafdkmgjfakdaaEchM3
import Derived.Deep.LoopGhost
import Derived.WalkMore
namespace Go.Proofs.Ytcafdkmgjfakdaa
open Go.RowKit Go.Proofs.Ytcafdkmgjfakdaa.RM

theorem own_nil {W : World} {base : Nat} {e : TypeId} {size : Nat} : W.ownsRow base e size (.slice none 0 0) 0 [] := ⟨by simp, .inl ⟨rfl, rfl⟩⟩
/-- what echelonOf answers -/
def IEchP (w : World) (rows : List (List Fr)) (e : Ending) (w' : World) : Prop :=
  ∃ vm vc vf us, e = .returned (.tuple #[.agg #[vm, vc, vf], .bool (echO rows)]) ∧ Tab w' w.heap.size vm us (echA rows) ∧ w'.ownsRow w.heap.size 3 1 vc (echCh rows).length (natV (echCh rows)) ∧ w'.ownsRow w.heap.size 3 1 vf (echFe rows).length (natV (echFe rows)) ∧ Below w.heap.size w w'
theorem IEchP.no {w w' : World} {rows : List (List Fr)} (h : echO rows = false) (hb : Below w.heap.size w w') : IEchP w rows (.returned (.tuple #[.agg #[.slice none 0 0, .slice none 0 0, .slice none 0 0], .bool false])) w' := by
  obtain ⟨h1, h2, h3⟩ := echO_no h
  refine ⟨_, _, _, [], by rw [h], ?_, ?_, ?_, hb⟩
  · rw [h1]; exact Tab.empty own_nil
  · rw [h2]; exact own_nil
  · rw [h3]; exact own_nil
theorem IEchP.yes {w w' : World} {rows R : List (List Fr)} {ch fe : List Nat} {L B : Nat} {vm vc vf : Value} {us : List Value} (ht : tabB rows 6 = true) (hL : L = (rw' rows 0).length) (hi : EInv rows L L R ch fe) (hB : w.heap.size ≤ B) (t : Tab w' B vm us R) (hc : w'.ownsRow B 3 1 vc ch.length (natV ch)) (hf : w'.ownsRow B 3 1 vf fe.length (natV fe)) (hb : Below w.heap.size w w') :
    IEchP w rows (.returned (.tuple #[.agg #[vm, vc, vf], .bool true])) w' := by
  obtain ⟨k1, k2, k3⟩ := ech_yes hi.stop
  have ho : echO rows = true := by unfold echO; rw [ht, k1]; rfl
  obtain ⟨h1, h2, h3⟩ := echO_yes ho
  refine ⟨vm, vc, vf, us, by rw [ho], ?_, ?_, ?_, hb⟩
  · rw [h1, k2]; exact t.le hB
  · rw [h2, k3]; exact own_le hc hB
  · rw [h3, k3, ← hL, ← hi.fes]; exact own_le hf hB

end Go.Proofs.Ytcafdkmgjfakdaa
