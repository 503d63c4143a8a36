/- Rows of points: copied, held against each other, marked. -/
import Derived.Test.YtgboaeokbglgdaaTabW4
import Derived.Test.YtgboaeokbglgdaaRatioW4
namespace Go.Proofs.Ytgboaeokbglgdaa
open Go.RowKit Go.Proofs.Ytgboaeokbglgdaa.RM

theorem infoQ : (Try.prog.info? 44).map (fun i => (i.zero, i.size, i.bytes)) = some (some (.agg #[.int .i64 0, .int .i64 0]), 2, 16) := by kernel_rfl

/-- what a row of fractions tells of its cells -/
theorem own_Q {W : World} {base g n c : Nat} {ps : List (Int × Int)} (h : W.ownsRow base 44 2 (.slice (some ⟨g, 0, none⟩) n c) n (cellsR ps)) (hl : ps.length = n) (j : Nat) (hj : j < n) :
    W.cell? ⟨g, j * 2, none⟩ = some (.int .i64 (ps[j]?.getD (0, 0)).1) ∧ W.cell? ⟨g, j * 2 + 1, none⟩ = some (.int .i64 (ps[j]?.getD (0, 0)).2) := by
  have h1 := h.cellAt (j * 2) (by omega)
  have h2 := h.cellAt (j * 2 + 1) (by omega)
  have h3 := cellsR_at ps j (by omega)
  exact ⟨h1.trans h3.1, h2.trans h3.2⟩

theorem RdR.ownQ {W : World} {base : Nat} {v : Value} {n : Nat} {ps : List Fr} (h : W.ownsRow base 44 2 v n (cellsR ps)) : RdR W v ps ∧ ps.length = n := by
  have hl : ps.length = n := by have := h.1; rw [cellsR_len] at this; omega
  subst hl
  refine ⟨?_, rfl⟩
  rcases h.2 with ⟨e, h0⟩ | ⟨g, c, cur, e, _, _, h1, h2, _⟩
  · refine ⟨none, 0, by rw [e, h0], by rw [h0]; exact Nat.zero_le _, by omega, Nat.zero_le _, fun j hj => by omega⟩
  · subst e
    refine ⟨_, c, rfl, by omega, h1, h2, fun j hj => ⟨g, 0, rfl, ?_⟩⟩
    have := own_Q h rfl j hj
    simpa [fr] using this

end Go.Proofs.Ytgboaeokbglgdaa
