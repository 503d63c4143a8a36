/- The walk of the program's kernelRow. -/
import Derived.Test.YtibncepllmjhhaaKerMath
import Derived.Deep.DeepMust
import Derived.Deep.LoopGhost
namespace Go.Proofs.Ytibncepllmjhhaa
open Go.RowKit Go.Proofs.Ytibncepllmjhhaa.RM

/-- a number of a list of columns, as it is read -/
theorem nat_at {W : World} {base g n c : Nat} {C : List Nat} (h : W.ownsRow base 3 1 (.slice (some ⟨g, 0, none⟩) n c) C.length (natV C)) (k : Nat) (hk : k < C.length) : W.cell? ⟨g, k, none⟩ = some (.int .i64 (nt C k : Int)) := by
  have hn : n = C.length := by
    rcases h.2 with ⟨e, _⟩ | ⟨g', c', cur, e, _⟩ <;> cases e; rfl
  subst hn
  have h1 := h.cellAt k (by omega)
  rw [h1]
  unfold natV nt
  rw [List.getElem?_map, List.getElem?_eq_getElem hk]
  rfl
/-- two cells of a row are stored -/
theorem row_set {W : World} {base g L c : Nat} {ps : List Fr} (h : W.ownsRow base 33 2 (.slice (some ⟨g, 0, none⟩) L c) L (cellsR ps)) (hl : ps.length = L) (k : Nat) (hk : k < L) (x y : Int) :
    ((W.setCell ⟨g, k * 2, none⟩ (.int .i64 x)).setCell ⟨g, k * 2 + 1, none⟩ (.int .i64 y)).ownsRow base 33 2 (.slice (some ⟨g, 0, none⟩) L c) L (cellsR (ps.set k (x, y))) ∧ W.grownBy ((W.setCell ⟨g, k * 2, none⟩ (.int .i64 x)).setCell ⟨g, k * 2 + 1, none⟩ (.int .i64 y)) (some g) := by
  obtain ⟨p1, p2⟩ := h.stored (k * 2) (.int .i64 x)
  obtain ⟨p3, p4⟩ := p1.stored (k * 2 + 1) (.int .i64 y)
  rw [cellsR_set _ _ _ _ (by rw [hl]; exact hk)] at p3
  exact ⟨p3, p2.trans p4⟩
theorem blk_set {W : World} {E b : Nat} {cs : Array Value} {t : TypeId} (h : W.heap[E]? = some (.cells cs t (0, 0))) (hne : E ≠ b) (o : Nat) (v : Value) : (W.setCell ⟨b, o, none⟩ v).heap[E]? = some (.cells cs t (0, 0)) := (Below.heap_setCell W ⟨b, o, none⟩ v E hne).trans h

end Go.Proofs.Ytibncepllmjhhaa
