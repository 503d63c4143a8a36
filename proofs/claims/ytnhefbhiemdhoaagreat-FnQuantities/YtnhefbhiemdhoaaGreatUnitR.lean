/- The laws' helpers over a row of numbers that lies anywhere in its block. -/
import Derived.Test.YtnhefbhiemdhoaaGreatUnitW5
import Derived.Test.YtnhefbhiemdhoaaGreatRowsI
namespace Go.Proofs.YtnhefbhiemdhoaaGreat
open Go.RowKit Go.Proofs.YtnhefbhiemdhoaaGreat.RM

theorem RowU.cells {W : World} {base : Nat} {v : Value} {xs : List Int} (h : RowU W base v xs) : ∃ g off, v = .slice (some ⟨g, off, none⟩) xs.length xs.length ∧ base ≤ g ∧ g < W.heap.size ∧ ∀ j, j < xs.length → W.cell? ⟨g, off + j, none⟩ = some (.int .i64 (xs[j]?.getD 0)) ∧ W.frozen? ⟨g, off + j, none⟩ = false := by
  obtain ⟨g, off, vs, t, h1, h2, h3, h4, h5⟩ := h
  exact ⟨g, off, h1, h2, h3.lt, fun j hj => ⟨h3.cell _ (h5 j hj), h3.frozen _⟩⟩
theorem RowU.drewN {W : World} {base : Nat} {v : Value} {xs : List Int} (h : RowU W base v xs) (m : Nat) : RowU (W.drewN m) base v xs := h.below (below_drewN (Below.refl _ _) _)

/-- the marks: number j has become k0 + j where j is below k -/
def MkU (W : World) (g off n : Nat) (k0 : Int) (zs : List Int) (k : Nat) : Prop := ∀ j : Nat, j < n → W.cell? ⟨g, off + j, none⟩ = some (.int .i64 (if j < k then k0 + j else zs[j]?.getD 0)) ∧ W.frozen? ⟨g, off + j, none⟩ = false
theorem MkU.step {W : World} {g off n k : Nat} {k0 : Int} {zs : List Int} (h : MkU W g off n k0 zs k) (hk : k < n) : MkU (W.setCell ⟨g, off + k, none⟩ (.int .i64 (k0 + k))) g off n k0 zs (k + 1) := by
  intro j hj
  obtain ⟨h1, h2⟩ := h j hj
  by_cases e : j = k
  · subst e
    refine ⟨?_, by simpa using h2⟩
    rw [if_pos (by omega)]
    simp [go_sem, h1]
  · refine ⟨?_, by simpa using h2⟩
    have hne : ¬ (⟨g, off + k, none⟩ : Addr) = ⟨g, off + j, none⟩ := by intro e2; injection e2 with _ e3 _; omega
    rw [World.cell?_setCell_other _ _ _ _ hne, h1]
    by_cases hjk : j < k
    · rw [if_pos hjk, if_pos (by omega)]
    · rw [if_neg hjk, if_neg (by omega)]
theorem MkU.below {W W' : World} {g off n k : Nat} {k0 : Int} {zs : List Int} (h : MkU W g off n k0 zs k) (hg : g < W.heap.size) (hb : Below W.heap.size W W') : MkU W' g off n k0 zs k := fun j hj => by
  obtain ⟨h1, h2⟩ := h j hj
  exact ⟨(hb.cell (p := ⟨g, off + j, none⟩) hg).trans h1, (hb.frozen (p := ⟨g, off + j, none⟩) hg).trans h2⟩

end Go.Proofs.YtnhefbhiemdhoaaGreat
