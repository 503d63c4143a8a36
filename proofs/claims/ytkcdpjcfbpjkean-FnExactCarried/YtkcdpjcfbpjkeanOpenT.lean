/- A table of fractions that came in, opened. -/
import Derived.Test.YtkcdpjcfbpjkeanTabW0
import Derived.ProofKit
import Derived.OpenShut
import Derived.Deep.SlicePairs
namespace Go.Proofs.Ytkcdpjcfbpjkean
open Go.ChangeShapes Go.WideShapes Go.ChangeAt Go.RowKit Go.Deep

theorem cellsLR : Try.prog.cellsOf 63 = 2 := by kernel_rfl
theorem cellsLS : Try.prog.cellsOf 29 = 1 := by kernel_rfl
theorem plain_add {b off : Nat} (i : Nat) : (⟨b, off, none⟩ : Addr).add i = ⟨b, off + i, none⟩ := by
  by_cases i0 : i = 0 <;> simp [Addr.add, i0]

theorem open_row {H : Type} {enc : TypeId × Value → H} {W : World} {fuel : Nat} {v : Value} {x : DataW H × List MemPlace} (h : DataW.trod enc Try.prog W 0 (fun _ => true) true fuel 29 [v] = some x) : ∃ ps, RdR W v ps := by
  rcases open_slice_pairs Try.underlying29 Try.underlying63 cellsLR rfl rfl (by kernel_rfl) (by kernel_rfl) h with ⟨hcs, _⟩ | ⟨a, len, cap, m, n, V0, V1, D0, D1, P0, P1, hcs, _, hl, hm, hmm, _, hx⟩
  · injection hcs with hcs _
    subst hcs
    exact ⟨[], none, 0, rfl, Nat.zero_le _, Nat.le_refl _, Nat.zero_le _, fun j hj => absurd hj (Nat.not_lt_zero _)⟩
  · injection hcs with hcs _
    subst hcs
    simp only [if_true] at hmm
    subst hmm
    have each : ∀ i, i < m → ∃ p : Fr, W.cell? (a.add (i * 2)) = some (.int .i64 p.1) ∧ W.cell? (a.add (i * 2 + 1)) = some (.int .i64 p.2) := by
      intro i hi
      obtain ⟨g1, g2, g3, g4⟩ := hx i hi
      obtain ⟨x0, l0, e0, _⟩ := DataW.trod_int Try.underlying2 g3
      obtain ⟨y0, l1, e1, _⟩ := DataW.trod_int Try.underlying2 g4
      simp at l0 l1
      exact ⟨(x0, y0), by rw [g1, l0], by rw [g2, l1]⟩
    obtain ⟨f, hf⟩ := choose_lt each
    obtain ⟨b, off, spot⟩ := a
    refine ⟨(List.range len).map f, some ⟨b, off, spot⟩, m, by simp, by simp; omega, by simp; exact hl, hm, fun j hj => ?_⟩
    simp at hj
    obtain ⟨k1, k2⟩ := hf j (by omega)
    have hspot : spot = none := by
      obtain ⟨k0, _⟩ := hf 0 (by omega)
      simpa [Addr.add] using World.cell?_spot k0
    subst hspot
    rw [plain_add] at k1 k2
    refine ⟨b, off, rfl, ?_, ?_⟩
    · rw [k1]; simp [fr, hj]
    · rw [Nat.add_assoc, k2]; simp [fr, hj]
theorem open_table {H : Type} {enc : TypeId × Value → H} {W : World} {fuel : Nat} {v : Value} {x : DataW H × List MemPlace} (h : DataW.trod enc Try.prog W 0 (fun _ => true) true fuel 22 [v] = some x) : ∃ rows, RdT W v rows := by
  rcases open_slice1 Try.underlying22 cellsLS h with ⟨hcs, _⟩ | ⟨a, len, cap, m, n, V, D, P, hcs, _, hl, hm, hmm, _, hx⟩
  · injection hcs with hcs _
    subst hcs
    exact ⟨[], none, 0, rfl, Nat.zero_le _, Nat.le_refl _, Nat.zero_le _, fun j hj => absurd hj (Nat.not_lt_zero _)⟩
  · injection hcs with hcs _
    subst hcs
    simp only [if_true] at hmm
    subst hmm
    have each : ∀ i, i < m → ∃ ps : List Fr, RdR W (V i) ps := fun i hi => open_row (hx i hi).2
    obtain ⟨f, hf⟩ := choose_lt each
    obtain ⟨b, off, spot⟩ := a
    refine ⟨(List.range len).map f, some ⟨b, off, spot⟩, m, by simp, by simp; omega, by simp; exact hl, hm, fun j hj => ?_⟩
    simp at hj
    obtain ⟨k1, _⟩ := hx j (by omega)
    have hspot : spot = none := by
      obtain ⟨k0, _⟩ := hx 0 (by omega)
      simpa [Addr.add] using World.cell?_spot k0
    subst hspot
    rw [plain_add] at k1
    refine ⟨b, off, V j, rfl, k1, ?_⟩
    have := hf j (by omega)
    simpa [rw', hj] using this
end Go.Proofs.Ytkcdpjcfbpjkean
