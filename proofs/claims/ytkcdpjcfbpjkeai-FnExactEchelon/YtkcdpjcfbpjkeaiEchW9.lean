/- The model's echelon: its table, the reckoning that remembers, the chosen columns, told by one predicate. -/
import Derived.Test.YtkcdpjcfbpjkeaiEchW6
import Derived.Test.YtkcdpjcfbpjkeaiEchM3
namespace Go.Proofs.Ytkcdpjcfbpjkeai
open Go.RowKit Go.Proofs.Ytkcdpjcfbpjkeai.RM

theorem IsK.blk {W : World} {K : Nat} {b : Bool} (h : IsK W K b) : W.heap[K]? = some (.cells #[.bool b] 69 (0, 0)) := h
theorem Tab.gk {W W' : World} {base K : Nat} {bd : Bool} {v : Value} {us : List Value} {rows : List (List Fr)} (h : Tab W base v us rows) (hK : IsK W K bd) (hg : W.grownBy W' (some K)) : Tab W' base v us rows :=
  h.kept hg (fun k e h2 => own_ne h.outer hK.blk (by decide) k h2 (by cases e; rfl)) (fun i hi k e h2 => own_ne (h.inner i hi) hK.blk (by decide) k h2 (by cases e; rfl))
theorem own_gk {W W' : World} {base K n : Nat} {bd : Bool} {v : Value} {xs : List Value} (h : W.ownsRow base 3 1 v n xs) (hK : IsK W K bd) (hg : W.grownBy W' (some K)) : W'.ownsRow base 3 1 v n xs := h.kept hg (by
    cases hv : v.ownBlock with
    | none => exact .inl rfl
    | some b => exact .inr (by intro e; exact own_ne h hK.blk (by decide) b hv (by cases e; rfl)))
structure SEch (W : World) (base K : Nat) (bd : Bool) (o vc : Value) (us : List Value) (rows : List (List Fr)) (ch : List Nat) : Prop where
  tab : Tab W base o us rows
  kk : IsK W K bd
  kb : base ≤ K
  cho : W.ownsRow base 3 1 vc ch.length (natV ch)
theorem SEch.below {W W' : World} {base K : Nat} {bd : Bool} {o vc : Value} {us : List Value} {rows : List (List Fr)} {ch : List Nat} (h : SEch W base K bd o vc us rows ch) (hb : Below W.heap.size W W') : SEch W' base K bd o vc us rows ch :=
  ⟨h.tab.below hb, h.kk.below hb, h.kb, own_below h.cho hb⟩
/-- a call that only remembers -/
theorem SEch.call {W W' : World} {base K : Nat} {bd bd' : Bool} {o vc : Value} {us : List Value} {rows : List (List Fr)} {ch : List Nat} (h : SEch W base K bd o vc us rows ch) (hk : IsK W' K bd') (hg : W.grownBy W' (some K)) : SEch W' base K bd' o vc us rows ch :=
  ⟨h.tab.gk h.kk hg, hk, h.kb, own_gk h.cho h.kk hg⟩
/-- a row is turned -/
theorem SEch.turn {W W' : World} {base K k : Nat} {bd : Bool} {o vc : Value} {us : List Value} {rows : List (List Fr)} {ps : List Fr} {ch : List Nat} (h : SEch W base K bd o vc us rows ch) (hk : k < us.length)
    (hu : W'.ownsRow base 24 2 (vl us k) ps.length (cellsR ps)) (hg : W.grownBy W' (vl us k).ownBlock) : SEch W' base K bd o vc us (rows.set k ps) ch := by
  have hne := own_ne (h.tab.inner k hk) h.kk.blk (by decide)
  exact ⟨h.tab.turn hk hu hg, (hg.block K h.kk.lt (fun e => hne K e.symm rfl)).trans h.kk, h.kb, own_oth h.cho (h.tab.inner k hk) (by decide) hg⟩
/-- two rows are exchanged -/
theorem SEch.swap {W : World} {base K G n c i r : Nat} {bd : Bool} {vc : Value} {us : List Value} {rows : List (List Fr)} {ch : List Nat} (h : SEch W base K bd (.slice (some ⟨G, 0, none⟩) n c) vc us rows ch) (hi : i < us.length) (hr : r < us.length) :
    SEch ((W.setCell ⟨G, i, none⟩ (vl us r)).setCell ⟨G, r, none⟩ (vl us i)) base K bd (.slice (some ⟨G, 0, none⟩) n c) vc ((us.set i (vl us r)).set r (vl us i)) (swapT rows i r) ch := by
  obtain ⟨t, g⟩ := h.tab.swap hi hr
  have hGK : G ≠ K := own_ne h.tab.outer h.kk.blk (by decide) G rfl
  have hg : W.grownBy ((W.setCell ⟨G, i, none⟩ (vl us r)).setCell ⟨G, r, none⟩ (vl us i)) (Value.slice (some ⟨G, 0, none⟩) n c).ownBlock := g
  exact ⟨t, (g.block K h.kk.lt (fun e => hGK (by cases e; rfl))).trans h.kk, h.kb, own_oth h.cho h.tab.outer (by decide) hg⟩
/-- a column is chosen -/
theorem SEch.push {W w1 : World} {base K col n : Nat} {bd : Bool} {o vc vc' : Value} {us : List Value} {rows : List (List Fr)} {ch : List Nat} {tmp : Obj} (h : SEch W base K bd o vc us rows ch)
    (hown : w1.ownsRow base 3 1 vc' n (natV ch ++ [Value.int .i64 (col : Int)])) (hn : n = (ch ++ [col]).length) (hgrow : (W.alloc tmp).grownBy w1 vc.ownBlock) : SEch w1 base K bd o vc' us rows (ch ++ [col]) := by
  have hcK := own_ne h.cho h.kk.blk (by decide)
  have ga : ∀ k, k < W.heap.size → some k ≠ vc.ownBlock → w1.heap[k]? = W.heap[k]? := fun k hk hne => (hgrow.block k (by simp; omega) hne).trans (Below.heap_alloc _ _ _ hk)
  have gW : W.grownBy w1 vc.ownBlock := ⟨hgrow.os, hgrow.tape, hgrow.output, Nat.le_trans (by simp) hgrow.size, ga⟩
  rw [← natV_app, hn] at hown
  exact ⟨h.tab.kept gW (fun k e h2 => own_unlike h.cho h.tab.outer (by decide) e h2) (fun i hi k e h2 => own_unlike h.cho (h.tab.inner i hi) (by decide) e h2), (ga K h.kk.lt (fun e => hcK K e.symm rfl)).trans h.kk, h.kb, hown⟩
/-- what l3Echelon answers -/
def SEchP (w : World) (rows : List (List Fr)) (e : Ending) (w' : World) : Prop :=
  ∃ vm vc us, e = .returned (.tuple #[vm, vc, .bool (echK rows)]) ∧ Tab w' w.heap.size vm us (echR rows) ∧ w'.ownsRow w.heap.size 3 1 vc (echC rows).length (natV (echC rows)) ∧ Below w.heap.size w w'
theorem takeS (rows : List (List Fr)) (k : Nat) (hk : k < rows.length) : rows.take k ++ [rw' rows k] = rows.take (k + 1) := by
  rw [List.take_add_one, List.getElem?_eq_getElem hk]
  simp [rw', hk]
theorem kDiv (K : Nat) (bd : Bool) (x1 x2 y1 y2 : Int) (w : World) (hK : IsK w K bd) :
    Calls Try.prog 75 #[.pointer (some ⟨K, 0, none⟩), .agg #[.int .i64 x1, .int .i64 x2], .agg #[.int .i64 y1, .int .i64 y2]] w fun e w' =>
      e = .returned (.agg #[.int .i64 (sDivE (x1, x2) (y1, y2)).1, .int .i64 (sDivE (x1, x2) (y1, y2)).2]) ∧ IsK w' K (bd || !divK (x1, x2) (y1, y2)) ∧ w.grownBy w' (some K) := cDiv_any K bd x1 x2 y1 y2 w hK
theorem kSub (K : Nat) (bd : Bool) (x1 x2 y1 y2 : Int) (w : World) (hK : IsK w K bd) :
    Calls Try.prog 76 #[.pointer (some ⟨K, 0, none⟩), .agg #[.int .i64 x1, .int .i64 x2], .agg #[.int .i64 y1, .int .i64 y2]] w fun e w' =>
      e = .returned (.agg #[.int .i64 (keepF (subK (x1, x2) (y1, y2)) (subP (x1, x2) (y1, y2))).1, .int .i64 (keepF (subK (x1, x2) (y1, y2)) (subP (x1, x2) (y1, y2))).2]) ∧ IsK w' K (bd || !subK (x1, x2) (y1, y2)) ∧ w.grownBy w' (some K) := cSub_any K bd x1 x2 y1 y2 w hK
theorem own_gkR {W W' : World} {base K n b c L : Nat} {xs : List Value} (h : W.ownsRow base 24 2 (.slice (some ⟨b, 0, none⟩) n c) L xs) (hg : W.grownBy W' (some K)) (hne : b ≠ K) : W'.ownsRow base 24 2 (.slice (some ⟨b, 0, none⟩) n c) L xs := h.kept hg (.inr (by intro e; exact hne (by simpa [Value.ownBlock] using e)))
theorem set_same (rows : List (List Fr)) (k : Nat) (ps : List Fr) (h : k < rows.length) (e : rw' rows k = ps) : rows.set k ps = rows := by
  apply rows_ext (by simp)
  intro x hx
  rw [rw_set _ _ _ _ h]
  by_cases e2 : k = x
  · subst e2; rw [if_pos rfl, e]
  · rw [if_neg e2]
end Go.Proofs.Ytkcdpjcfbpjkeai
