/- A table of whole numbers that came in, opened. -/
import Derived.Test.YtbbkejfcheobaakTabI0
import Derived.ProofKit
import Derived.OpenShut
import Derived.Deep.SlicePairs
namespace Go.Proofs.Ytbbkejfcheobaak
open Go.ChangeShapes Go.WideShapes Go.ChangeAt Go.RowKit Go.Deep

theorem cellsLU : Try.prog.cellsOf 29 = 1 := by kernel_rfl
theorem plain_addU {b off : Nat} (i : Nat) : (⟨b, off, none⟩ : Addr).add i = ⟨b, off + i, none⟩ := by
  by_cases i0 : i = 0 <;> simp [Addr.add, i0]

theorem open_irow {H : Type} {enc : TypeId × Value → H} {W : World} {fuel : Nat} {v : Value} {x : DataW H × List MemPlace} (h : DataW.trod enc Try.prog W 0 (fun _ => true) true fuel 29 [v] = some x) : ∃ ps, InI W v ps := by
  rcases open_ints Try.underlying29 Try.underlying2 (by kernel_rfl) h with ⟨hcs, _⟩ | ⟨a, l, c, zs, hcs, _, hl, hm, hz, _, hcell, hwz⟩
  · injection hcs with hcs _
    subst hcs
    exact ⟨[], none, 0, 0, [], rfl, .inl ⟨rfl, rfl, rfl⟩, rfl, rfl, Nat.zero_le _⟩
  · injection hcs with hcs _
    subst hcs
    have hz1 : zs.length = c := by simpa using hz
    refine ⟨zs.take l, a, l, c, zs, rfl, ?_, rfl, by simp; omega, by omega⟩
    by_cases hz0 : 0 < zs.length
    · obtain ⟨b, off, spot⟩ := a
      have hc := hcell 0 hz0
      have hspot : spot = none := by simpa [Addr.add] using World.cell?_spot hc
      subst hspot
      exact .inr ⟨b, off, rfl, hl, hm, hz1, fun i hi => by have h := hcell i hi; rw [plain_addU] at h; exact h, hwz⟩
    · obtain rfl : zs = [] := List.eq_nil_of_length_eq_zero (by omega)
      exact .inl ⟨by simp at hz1; omega, by simp at hz1; omega, rfl⟩
theorem open_itable {H : Type} {enc : TypeId × Value → H} {W : World} {fuel : Nat} {v : Value} {x : DataW H × List MemPlace} (h : DataW.trod enc Try.prog W 0 (fun _ => true) true fuel 22 [v] = some x) : ∃ rows, InT W v rows := by
  rcases open_slice1 Try.underlying22 cellsLU h with ⟨hcs, _⟩ | ⟨a, len, cap, m, n, V, D, P, hcs, _, hl, hm, hmm, _, hx⟩
  · injection hcs with hcs _
    subst hcs
    exact ⟨[], none, 0, rfl, Nat.zero_le _, Nat.le_refl _, Nat.zero_le _, fun j hj => absurd hj (Nat.not_lt_zero _)⟩
  · injection hcs with hcs _
    subst hcs
    simp only [if_true] at hmm
    subst hmm
    have each : ∀ i, i < m → ∃ ps : List Int, InI W (V i) ps := fun i hi => open_irow (hx i hi).2
    obtain ⟨f, hf⟩ := choose_lt each
    obtain ⟨b, off, spot⟩ := a
    refine ⟨(List.range len).map f, some ⟨b, off, spot⟩, m, by simp, by simp; omega, by simp; exact hl, hm, fun j hj => ?_⟩
    simp at hj
    obtain ⟨k1, _⟩ := hx j (by omega)
    have hspot : spot = none := by
      obtain ⟨k0, _⟩ := hx 0 (by omega)
      simpa [Addr.add] using World.cell?_spot k0
    subst hspot
    rw [plain_addU] at k1
    refine ⟨b, off, V j, rfl, k1, ?_⟩
    have := hf j (by omega)
    simpa [ri, hj] using this
end Go.Proofs.Ytbbkejfcheobaak
