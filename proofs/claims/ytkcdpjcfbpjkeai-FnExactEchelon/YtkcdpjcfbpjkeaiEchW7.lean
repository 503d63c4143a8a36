/- The echelon's other list grows; how it begins. -/
import Derived.Test.YtkcdpjcfbpjkeaiEchW5
import Derived.Test.YtkcdpjcfbpjkeaiEchM2
namespace Go.Proofs.Ytkcdpjcfbpjkeai
open Go.RowKit Go.Proofs.Ytkcdpjcfbpjkeai.RM

theorem EchS.grownBlkF {W w1 : World} {base E : Nat} {v vc vf : Value} {us : List Value} {rows : List (List Fr)} {ch fe : List Nat} {tmp : Obj} (h : EchS W base E v vc vf us rows ch fe) (hgrow : (W.alloc tmp).grownBy w1 vf.ownBlock) :
    w1.heap[E]? = some (.cells #[v, vc, vf] 77 (0, 0)) :=
  ((hgrow.block E (by have := (cells3 h.blk).2.2.2.2.2.2; simp; omega) (fun e => own_ne h.fre h.blk (by decide) E e.symm rfl)).trans (Below.heap_alloc _ _ _ (cells3 h.blk).2.2.2.2.2.2)).trans h.blk
/-- a column is added to the free ones -/
theorem EchS.pushF {W w1 : World} {base E : Nat} {v vc vf vf' : Value} {us : List Value} {rows : List (List Fr)} {ch fe : List Nat} {tmp : Obj} {col n : Nat} (h : EchS W base E v vc vf us rows ch fe)
    (hown : w1.ownsRow base 3 1 vf' n (natV fe ++ [Value.int .i64 (col : Int)])) (hn : n = (fe ++ [col]).length) (hgrow : (W.alloc tmp).grownBy w1 vf.ownBlock) (hne : ∀ c, c ∈ ch → c ≠ col) :
    EchS (w1.setCell ⟨E, 2, none⟩ vf') base E v vc vf' us rows ch (fe ++ [col]) := by
  have hEl := (cells3 h.blk).2.2.2.2.2.2
  have hcE := own_ne h.fre h.blk (by decide)
  have ga : ∀ k, k < W.heap.size → some k ≠ vf.ownBlock → w1.heap[k]? = W.heap[k]? := fun k hk hne => (hgrow.block k (by simp; omega) hne).trans (Below.heap_alloc _ _ _ hk)
  have gW : W.grownBy w1 vf.ownBlock := ⟨hgrow.os, hgrow.tape, hgrow.output, Nat.le_trans (by simp) hgrow.size, ga⟩
  have b1 : w1.heap[E]? = some (.cells #[v, vc, vf] 77 (0, 0)) := (ga E hEl (fun e => hcE E e.symm rfl)).trans h.blk
  have t1 : Tab w1 base v us rows := h.tab.kept gW (fun k e h2 => own_unlike h.fre h.tab.outer (by decide) e h2) (fun i hi k e h2 => own_unlike h.fre (h.tab.inner i hi) (by decide) e h2)
  have c1 : w1.ownsRow base 3 1 vc ch.length (natV ch) := h.cho.kept gW (by
    cases hv : vc.ownBlock with
    | none => exact .inl rfl
    | some b => exact .inr (fun e => h.ap b hv e.symm))
  have gs : w1.grownBy (w1.setCell ⟨E, 2, none⟩ vf') (some E) := ⟨rfl, rfl, rfl, by simp [World.setCell], fun k _ hk => Below.heap_setCell _ _ _ _ (fun e => hk (by rw [e]))⟩
  have kb : ∀ {e size m : Nat} {x : Value} {xs : List Value}, w1.ownsRow base e size x m xs → e ≠ 77 → (w1.setCell ⟨E, 2, none⟩ vf').ownsRow base e size x m xs := fun hx hd => hx.kept gs (by
    cases hv : Value.ownBlock _ with
    | none => exact .inl rfl
    | some b => exact .inr (by intro e; exact own_ne hx b1 hd b hv (by cases e; rfl)))
  rw [← natV_app, hn] at hown
  refine ⟨?_, h.lo, t1.kept gs (fun k e h2 => own_ne t1.outer b1 (by decide) k h2 (by cases e; rfl)) (fun i hi k e h2 => own_ne (t1.inner i hi) b1 (by decide) k h2 (by cases e; rfl)), kb c1 (by decide), kb hown (by decide), h.nc, fun e => by simp at e, fun c hc f hf => ?_⟩
  · simp [World.setCell, Array.getElem?_modify, b1]
  · rw [List.mem_append] at hf
    rcases hf with hf | hf
    · exact h.ne c hc f hf
    · simp at hf; subst hf; exact hne c hc
/-- an echelon with nothing chosen yet -/
theorem EchS.first {W : World} {base E : Nat} {v : Value} {us : List Value} {rows : List (List Fr)} (hb : W.heap[E]? = some (.cells #[v, .slice none 0 0, .slice none 0 0] 77 (0, 0))) (hE : base ≤ E) (t : Tab W base v us rows) :
    EchS W base E v (.slice none 0 0) (.slice none 0 0) us rows [] [] :=
  ⟨hb, hE, t, ⟨rfl, .inl ⟨rfl, rfl⟩⟩, ⟨rfl, .inl ⟨rfl, rfl⟩⟩, fun _ => rfl, fun _ => rfl, fun c h => by cases h⟩
theorem rw_len_pos {rows : List (List Fr)} {cols : Int} (h : tabB rows cols = true) : ∀ x, x < rows.length → (rw' rows x).length = (rw' rows 0).length := fun x hx => ((tabB_out h).2 x hx).1
end Go.Proofs.Ytkcdpjcfbpjkeai
