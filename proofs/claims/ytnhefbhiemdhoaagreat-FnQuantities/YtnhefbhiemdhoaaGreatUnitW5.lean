/- What is shown of a word; Word and Both, the program's. -/
import Derived.Test.YtnhefbhiemdhoaaGreatUnitW4
import Derived.Test.YtnhefbhiemdhoaaGreatRowsW
import Derived.BigRegion
namespace Go.Proofs.YtnhefbhiemdhoaaGreat
open Go.RowKit Go.MapKept Go.Proofs.YtnhefbhiemdhoaaGreat.RM

/-- a row of numbers in memory of its own, wherever in its block -/
def RowU (W : World) (base : Nat) (v : Value) (xs : List Int) : Prop :=
  ∃ g off vs t, v = .slice (some ⟨g, off, none⟩) xs.length xs.length ∧ base ≤ g ∧ IsB W g vs t ∧ off + xs.length = vs.size ∧ ∀ j, j < xs.length → vs[off + j]? = some (.int .i64 (xs[j]?.getD 0))
theorem RowU.below {W W' : World} {base : Nat} {v : Value} {xs : List Int} (h : RowU W base v xs) (hb : Below W.heap.size W W') : RowU W' base v xs := by
  obtain ⟨g, off, vs, t, h1, h2, h3, h4⟩ := h
  exact ⟨g, off, vs, t, h1, h2, h3.below hb, h4⟩
theorem RowU.mono {W : World} {base base' : Nat} {v : Value} {xs : List Int} (h : RowU W base v xs) (hb : base' ≤ base) : RowU W base' v xs := by
  obtain ⟨g, off, vs, t, h1, h2, h3⟩ := h
  exact ⟨g, off, vs, t, h1, Nat.le_trans hb h2, h3⟩
theorem RowU.other {W : World} {base Z : Nat} {v : Value} {xs : List Int} (h : RowU W base v xs) (hZ : Z < base) (o : Nat) (x : Value) : RowU (W.setCell ⟨Z, o, none⟩ x) base v xs := by
  obtain ⟨g, off, vs, t, h1, h2, h3, h4⟩ := h
  exact ⟨g, off, vs, t, h1, h2, h3.other (by omega) o x, h4⟩
theorem RowU.five {W : World} {base g : Nat} {u : UV} (hg : base ≤ g) (h : IsB W g #[.int .i64 u.n, .int .i64 u.d, .int .i64 u.x0, .int .i64 u.x1, .int .i64 u.x2, .int .i64 u.x3, .int .i64 u.x4] 55) : RowU W base (.slice (some ⟨g, 2, none⟩) 5 5) u.dims :=
  ⟨g, 2, _, _, rfl, hg, h, rfl, fun j hj => by
    match j, hj with
    | 0, _ => rfl
    | 1, _ => rfl
    | 2, _ => rfl
    | 3, _ => rfl
    | 4, _ => rfl⟩
theorem RowU.empty {W : World} {base g : Nat} {t : TypeId} (hg : base ≤ g) (h : IsB W g #[] t) : RowU W base (.slice (some ⟨g, 0, none⟩) 0 0) [] :=
  ⟨g, 0, _, _, rfl, hg, h, rfl, fun j hj => absurd hj (by simp)⟩

end Go.Proofs.YtnhefbhiemdhoaaGreat
