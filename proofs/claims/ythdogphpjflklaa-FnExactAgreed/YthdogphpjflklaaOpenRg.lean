/- A row of ranges that came in, opened. -/
import Derived.Test.YthdogphpjflklaaRgW0
import Derived.ProofKit
import Derived.OpenShut
import Derived.Lib.SmallJoins
import Derived.Deep.SlicePairs
namespace Go.Proofs.Ythdogphpjflklaa
open Go.ChangeShapes Go.WideShapes Go.ChangeAt Go.RowKit Go.Deep Go.Joins

theorem cellsRg4 : Try.prog.cellsOf 58 = 4 := by kernel_rfl
theorem cellsRg2 : Try.prog.cellsOf 24 = 2 := by kernel_rfl
theorem cellsRg1 : Try.prog.cellsOf 2 = 1 := by kernel_rfl
theorem plain_addRg {b off : Nat} (i : Nat) : (⟨b, off, none⟩ : Addr).add i = ⟨b, off + i, none⟩ := by
  by_cases i0 : i = 0 <;> simp [Addr.add, i0]
theorem open_twoRg {H : Type} {enc : TypeId × Value → H} {W : World} {n : Nat} {c0 c1 : Value} {y : DataW H × List MemPlace} (h : DataW.trod enc Try.prog W 0 (fun _ => true) true n 24 [c0, c1] = some y) : ∃ x0 x1, c0 = .int .i64 x0 ∧ c1 = .int .i64 x1 := by
  obtain ⟨z0, z1, m, hx2, _, g0, g1⟩ := trod_struct2 Try.underlying24 h
  rw [cellsRg1] at g0 g1
  have g0' : DataW.trod enc Try.prog W 0 (fun _ => true) true m 2 [c0] = some z0 := g0
  have g1' : DataW.trod enc Try.prog W 0 (fun _ => true) true m 2 [c1] = some z1 := g1
  obtain ⟨x0, l0, e0, _⟩ := DataW.trod_int Try.underlying2 g0'
  obtain ⟨x1, l1, e1, _⟩ := DataW.trod_int Try.underlying2 g1'
  simp at l0 l1
  exact ⟨x0, x1, l0, l1⟩

set_option maxRecDepth 100000 in
theorem open_rrow {H : Type} {enc : TypeId × Value → H} {W : World} {fuel : Nat} {v : Value} {x : DataW H × List MemPlace} (h : DataW.trod enc Try.prog W 0 (fun _ => true) true fuel 22 [v] = some x) : ∃ ss, RdS W v ss := by
  rcases open_slice Try.underlying22 h with ⟨hcs, _⟩ | ⟨a, len, cap, m, n, D, Pl, hcs, _, hl, hm, hmm, _, hx⟩
  · injection hcs with hcs _
    subst hcs
    exact ⟨[], none, 0, rfl, Nat.zero_le _, Nat.le_refl _, Nat.zero_le _, fun j hj => absurd hj (Nat.not_lt_zero _)⟩
  · injection hcs with hcs _
    subst hcs
    simp only [if_true] at hmm
    subst hmm
    have each : ∀ i, i < m → ∃ p : Sp, W.cell? (a.add (i * 4)) = some (.int .i64 p.1.1) ∧ W.cell? ((a.add (i * 4)).add 1) = some (.int .i64 p.1.2) ∧ W.cell? ((a.add (i * 4)).add 2) = some (.int .i64 p.2.1) ∧ W.cell? ((a.add (i * 4)).add 3) = some (.int .i64 p.2.2) := by
      intro i hi
      obtain ⟨cs', h1, h2⟩ := hx i hi
      rw [cellsRg4] at h1
      obtain ⟨_, hlen, hcell⟩ := World.cells?_some h1
      match cs', hlen, hcell, h2 with
      | [c0, c1, c2, c3], _, hcell, h2 =>
        obtain ⟨y0, y1, k, hx2, _, h0, h1'⟩ := trod_struct2 Try.underlying58 h2
        rw [cellsRg2] at h0 h1'
        have h0' : DataW.trod enc Try.prog W 0 (fun _ => true) true k 24 [c0, c1] = some y0 := h0
        have h1'' : DataW.trod enc Try.prog W 0 (fun _ => true) true k 24 [c2, c3] = some y1 := h1'
        obtain ⟨x0, x1, e0, e1⟩ := open_twoRg h0'
        obtain ⟨x2, x3, e2, e3⟩ := open_twoRg h1''
        subst e0 e1 e2 e3
        have k0 := hcell 0 (by omega)
        have k1 := hcell 1 (by omega)
        have k2 := hcell 2 (by omega)
        have k3 := hcell 3 (by omega)
        refine ⟨((x0, x1), (x2, x3)), ?_, by simpa using k1, by simpa using k2, by simpa using k3⟩
        have : ((a.add (i * 4)).add 0) = a.add (i * 4) := by simp [Addr.add]
        rw [this] at k0
        simpa using k0
    obtain ⟨f, hf⟩ := choose_lt each
    obtain ⟨b, off, spot⟩ := a
    refine ⟨(List.range len).map f, some ⟨b, off, spot⟩, m, by simp, by simp; omega, by simp; exact hl, hm, fun j hj => ?_⟩
    simp at hj
    obtain ⟨k1, k2, k3, k4⟩ := hf j (by omega)
    have hspot : spot = none := by
      obtain ⟨k0, _⟩ := hf 0 (by omega)
      simpa [Addr.add] using World.cell?_spot k0
    subst hspot
    rw [plain_addRg] at k1 k2 k3 k4
    rw [plain_addRg] at k2 k3 k4
    have e : sp ((List.range len).map f) j = f j := by unfold sp; simp [hj]
    rw [e]
    exact ⟨b, off, rfl, k1, k2, k3, k4⟩
end Go.Proofs.Ythdogphpjflklaa
