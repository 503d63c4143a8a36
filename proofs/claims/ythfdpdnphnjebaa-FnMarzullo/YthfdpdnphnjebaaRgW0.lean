/- Rows of ranges: copied, held against each other, marked. -/
import Derived.Test.YthfdpdnphnjebaaSpW0
namespace Go.Proofs.Ythfdpdnphnjebaa
open Go.RowKit Go.Proofs.Ythfdpdnphnjebaa.RM

theorem infoRg : (Try.prog.info? 29).map (fun i => (i.zero, i.size, i.bytes)) = some (some (.agg #[.int .i64 0, .int .i64 0, .int .i64 0, .int .i64 0]), 4, 32) := by kernel_rfl
theorem own_Rg {W : World} {base g n c : Nat} {ss : List Sp} (h : W.ownsRow base 29 4 (.slice (some ⟨g, 0, none⟩) n c) n (cellsS ss)) (hl : ss.length = n) (j : Nat) (hj : j < n) :
    W.cell? ⟨g, j * 4, none⟩ = some (.int .i64 (sp ss j).1.1) ∧ W.cell? ⟨g, j * 4 + 1, none⟩ = some (.int .i64 (sp ss j).1.2) ∧ W.cell? ⟨g, j * 4 + 2, none⟩ = some (.int .i64 (sp ss j).2.1) ∧ W.cell? ⟨g, j * 4 + 3, none⟩ = some (.int .i64 (sp ss j).2.2) := by
  have h1 := h.cellAt (j * 4) (by omega)
  have h2 := h.cellAt (j * 4 + 1) (by omega)
  have h3 := h.cellAt (j * 4 + 2) (by omega)
  have h4 := h.cellAt (j * 4 + 3) (by omega)
  have k := cellsS_at ss j (by omega)
  exact ⟨h1.trans k.1, h2.trans k.2.1, h3.trans k.2.2.1, h4.trans k.2.2.2⟩
theorem RdS.ownRg {W : World} {base : Nat} {v : Value} {n : Nat} {ss : List Sp} (h : W.ownsRow base 29 4 v n (cellsS ss)) : RdS W v ss ∧ ss.length = n := by
  have hl : ss.length = n := by have := h.1; rw [cellsS_len] at this; omega
  subst hl
  refine ⟨?_, rfl⟩
  rcases h.2 with ⟨e, h0⟩ | ⟨g, c, cur, e, _, _, h1, h2, _⟩
  · refine ⟨none, 0, by rw [e, h0], by rw [h0]; exact Nat.zero_le _, by omega, Nat.zero_le _, fun j hj => by omega⟩
  · subst e
    refine ⟨_, c, rfl, by omega, h1, h2, fun j hj => ⟨g, 0, rfl, ?_⟩⟩
    have := own_Rg h rfl j hj
    simpa using this
theorem own_setRg {W : World} {base g n c : Nat} {ss : List Sp} (h : W.ownsRow base 29 4 (.slice (some ⟨g, 0, none⟩) n c) n (cellsS ss)) (hl : ss.length = n) (k : Nat) (hk : k < n) (x1 x2 y1 y2 : Int) :
    ((((W.setCell ⟨g, k * 4, none⟩ (.int .i64 x1)).setCell ⟨g, k * 4 + 1, none⟩ (.int .i64 x2)).setCell ⟨g, k * 4 + 2, none⟩ (.int .i64 y1)).setCell ⟨g, k * 4 + 3, none⟩ (.int .i64 y2)).ownsRow base 29 4 (.slice (some ⟨g, 0, none⟩) n c) n (cellsS (ss.set k ((x1, x2), (y1, y2)))) ∧
    W.grownBy ((((W.setCell ⟨g, k * 4, none⟩ (.int .i64 x1)).setCell ⟨g, k * 4 + 1, none⟩ (.int .i64 x2)).setCell ⟨g, k * 4 + 2, none⟩ (.int .i64 y1)).setCell ⟨g, k * 4 + 3, none⟩ (.int .i64 y2)) (some g) := by
  obtain ⟨p1, q1⟩ := h.stored (k * 4) (.int .i64 x1)
  obtain ⟨p2, q2⟩ := p1.stored (k * 4 + 1) (.int .i64 x2)
  obtain ⟨p3, q3⟩ := p2.stored (k * 4 + 2) (.int .i64 y1)
  obtain ⟨p4, q4⟩ := p3.stored (k * 4 + 3) (.int .i64 y2)
  rw [cellsS_set _ _ _ _ _ _ (by rw [hl]; exact hk)] at p4
  exact ⟨p4, ((q1.trans q2).trans q3).trans q4⟩
end Go.Proofs.Ythfdpdnphnjebaa
