/- The model's echelon: its table, the reckoning that remembers, the chosen columns, told by one predicate. -/
import Derived.Test.YtaaefebjjjfgbaaEchW6
import Derived.Test.YtaaefebjjjfgbaaEchM3
namespace Go.Proofs.Ytaaefebjjjfgbaa
open Go.RowKit Go.Proofs.Ytaaefebjjjfgbaa.RM

theorem IsK.blk {W : World} {K : Nat} {b : Bool} (h : IsK W K b) : W.heap[K]? = some (.cells #[.bool b] 53 (0, 0)) := h
theorem own_gk {W W' : World} {base K n : Nat} {bd : Bool} {v : Value} {xs : List Value} (h : W.ownsRow base 3 1 v n xs) (hK : IsK W K bd) (hg : W.grownBy W' (some K)) : W'.ownsRow base 3 1 v n xs := h.kept hg (by
    cases hv : v.ownBlock with
    | none => exact .inl rfl
    | some b => exact .inr (by intro e; exact own_ne h hK.blk (by decide) b hv (by cases e; rfl)))
theorem takeS (rows : List (List Fr)) (k : Nat) (hk : k < rows.length) : rows.take k ++ [rw' rows k] = rows.take (k + 1) := by
  rw [List.take_add_one, List.getElem?_eq_getElem hk]
  simp [rw', hk]
theorem kSub (K : Nat) (bd : Bool) (x1 x2 y1 y2 : Int) (w : World) (hK : IsK w K bd) :
    Calls Try.prog 29 #[.pointer (some ⟨K, 0, none⟩), .agg #[.int .i64 x1, .int .i64 x2], .agg #[.int .i64 y1, .int .i64 y2]] w fun e w' =>
      e = .returned (.agg #[.int .i64 (keepF (subK (x1, x2) (y1, y2)) (subP (x1, x2) (y1, y2))).1, .int .i64 (keepF (subK (x1, x2) (y1, y2)) (subP (x1, x2) (y1, y2))).2]) ∧ IsK w' K (bd || !subK (x1, x2) (y1, y2)) ∧ w.grownBy w' (some K) := cSub_any K bd x1 x2 y1 y2 w hK
theorem own_gkR {W W' : World} {base K n b c L : Nat} {xs : List Value} (h : W.ownsRow base 29 2 (.slice (some ⟨b, 0, none⟩) n c) L xs) (hg : W.grownBy W' (some K)) (hne : b ≠ K) : W'.ownsRow base 29 2 (.slice (some ⟨b, 0, none⟩) n c) L xs := h.kept hg (.inr (by intro e; exact hne (by simpa [Value.ownBlock] using e)))
theorem set_same (rows : List (List Fr)) (k : Nat) (ps : List Fr) (h : k < rows.length) (e : rw' rows k = ps) : rows.set k ps = rows := by
  apply rows_ext (by simp)
  intro x hx
  rw [rw_set _ _ _ _ h]
  by_cases e2 : k = x
  · subst e2; rw [if_pos rfl, e]
  · rw [if_neg e2]
end Go.Proofs.Ytaaefebjjjfgbaa
