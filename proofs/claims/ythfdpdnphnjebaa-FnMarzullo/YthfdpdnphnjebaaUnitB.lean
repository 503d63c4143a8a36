/- A block of cells, whatever its type: its cells, kept, written. -/
import Derived.Test.YthfdpdnphnjebaaRatioW1
namespace Go.Proofs.Ythfdpdnphnjebaa
open Go.RowKit

/-- block B of W holds just these cells -/
def IsB (W : World) (B : Nat) (vs : Array Value) (t : TypeId) : Prop := W.heap[B]? = some (.cells vs t (0, 0))
theorem IsB.new (W : World) (vs : Array Value) (t : TypeId) : IsB (W.alloc (.cells vs t)) W.heap.size vs t := by
  show (W.heap.push _)[W.heap.size]? = _
  simp
theorem IsB.lt {W : World} {B : Nat} {vs : Array Value} {t : TypeId} (h : IsB W B vs t) : B < W.heap.size := (Array.getElem?_eq_some_iff.1 h).1
theorem IsB.cell {W : World} {B : Nat} {vs : Array Value} {t : TypeId} (h : IsB W B vs t) (i : Nat) {v : Value} (hv : vs[i]? = some v) : W.cell? ⟨B, i, none⟩ = some v := by
  simp [World.cell?, show W.heap[B]? = _ from h, hv]
theorem IsB.frozen {W : World} {B : Nat} {vs : Array Value} {t : TypeId} (h : IsB W B vs t) (i : Nat) : W.frozen? ⟨B, i, none⟩ = false := by
  simp [World.frozen?, show W.heap[B]? = _ from h]
theorem IsB.below {W W' : World} {B : Nat} {vs : Array Value} {t : TypeId} (h : IsB W B vs t) (hb : Below W.heap.size W W') : IsB W' B vs t := (hb.block B h.lt).trans h
theorem IsB.other {W : World} {B b : Nat} {vs : Array Value} {t : TypeId} (h : IsB W B vs t) (hne : B ≠ b) (o : Nat) (v : Value) : IsB (W.setCell ⟨b, o, none⟩ v) B vs t := (Below.heap_setCell W ⟨b, o, none⟩ v B hne).trans h
theorem IsB.set {W : World} {B : Nat} {vs : Array Value} {t : TypeId} (h : IsB W B vs t) (i : Nat) (v : Value) : IsB (W.setCell ⟨B, i, none⟩ v) B (vs.setIfInBounds i v) t := by
  obtain ⟨hlt, hk⟩ := Array.getElem?_eq_some_iff.1 h
  show (W.heap.modify B _)[B]? = _
  rw [Array.getElem?_eq_getElem (by rw [Array.size_modify]; exact hlt), Array.getElem_modify_self, hk]
  rfl
theorem IsB.drew {W : World} {B : Nat} {vs : Array Value} {t : TypeId} (h : IsB W B vs t) : IsB W.drew B vs t := h
theorem hidU {p : Prop} (h : p) : Hid p := h
end Go.Proofs.Ythfdpdnphnjebaa
