/- The model's echelon: its table, the reckoning that remembers, the chosen columns, told by one predicate. -/
import Derived.Test.YtcafdkmgjfakdaaEchW6
import Derived.Test.YtcafdkmgjfakdaaEchM3
namespace Go.Proofs.Ytcafdkmgjfakdaa
open Go.RowKit Go.Proofs.Ytcafdkmgjfakdaa.RM

/-- what l3Echelon answers -/
def SEchP (w : World) (rows : List (List Fr)) (e : Ending) (w' : World) : Prop :=
  ∃ vm vc us, e = .returned (.tuple #[vm, vc, .bool (echK rows)]) ∧ Tab w' w.heap.size vm us (echR rows) ∧ w'.ownsRow w.heap.size 3 1 vc (echC rows).length (natV (echC rows)) ∧ Below w.heap.size w w'
theorem takeS (rows : List (List Fr)) (k : Nat) (hk : k < rows.length) : rows.take k ++ [rw' rows k] = rows.take (k + 1) := by
  rw [List.take_add_one, List.getElem?_eq_getElem hk]
  simp [rw', hk]
theorem own_gkR {W W' : World} {base K n b c L : Nat} {xs : List Value} (h : W.ownsRow base 27 2 (.slice (some ⟨b, 0, none⟩) n c) L xs) (hg : W.grownBy W' (some K)) (hne : b ≠ K) : W'.ownsRow base 27 2 (.slice (some ⟨b, 0, none⟩) n c) L xs := h.kept hg (.inr (by intro e; exact hne (by simpa [Value.ownBlock] using e)))
theorem set_same (rows : List (List Fr)) (k : Nat) (ps : List Fr) (h : k < rows.length) (e : rw' rows k = ps) : rows.set k ps = rows := by
  apply rows_ext (by simp)
  intro x hx
  rw [rw_set _ _ _ _ h]
  by_cases e2 : k = x
  · subst e2; rw [if_pos rfl, e]
  · rw [if_neg e2]
end Go.Proofs.Ytcafdkmgjfakdaa
