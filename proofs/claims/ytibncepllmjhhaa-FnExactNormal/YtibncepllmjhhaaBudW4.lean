/- The walk of the model's Alone. -/
import Derived.Test.YtibncepllmjhhaaBudW3
import Derived.Maps.AppendAt
namespace Go.Proofs.Ytibncepllmjhhaa
open Go.RowKit Go.Proofs.Ytibncepllmjhhaa.RM

theorem repB_succ (n : Nat) (x : Fr) : List.replicate (n + 1) x = List.replicate n x ++ [x] := by rw [List.replicate_succ']
theorem rowB_set {W : World} {base g L c : Nat} {ps : List Fr} (h : W.ownsRow base 33 2 (.slice (some ⟨g, 0, none⟩) L c) L (cellsR ps)) (hl : ps.length = L) (k : Nat) (hk : k < L) (x y : Int) :
    ((W.setCell ⟨g, k * 2, none⟩ (.int .i64 x)).setCell ⟨g, k * 2 + 1, none⟩ (.int .i64 y)).ownsRow base 33 2 (.slice (some ⟨g, 0, none⟩) L c) L (cellsR (ps.set k (x, y))) := by
  obtain ⟨p1, p2⟩ := h.stored (k * 2) (.int .i64 x)
  obtain ⟨p3, p4⟩ := p1.stored (k * 2 + 1) (.int .i64 y)
  rw [cellsR_set _ _ _ _ (by rw [hl]; exact hk)] at p3
  exact p3
theorem ownB_low {S : Nat} {W W' : World} {base e size n : Nat} {v : Value} {xs : List Value} (h : W.ownsRow base e size v n xs) (hu : ∀ b, v.ownBlock = some b → b < S) (hb : Below S W W') : W'.ownsRow base e size v n xs := by
  refine ⟨h.1, ?_⟩
  rcases h.2 with k | ⟨g, cap, cur, e1, e2, e3, r⟩
  · exact .inl k
  · subst e1
    exact .inr ⟨g, cap, cur, rfl, e2, (hb.block g (hu g rfl)).trans e3, r⟩
theorem TabB_low {S : Nat} {W W' : World} {base : Nat} {v : Value} {us : List Value} {rows : List (List Fr)} (h : Tab W base v us rows) (hu : Under S v us) (hb : Below S W W') : Tab W' base v us rows :=
  ⟨ownB_low h.outer hu.1 hb, h.len, fun i hi => ownB_low (h.inner i hi) (hu.2 i hi) hb, h.apart⟩

/-- a row of noughts but for one -/
def aloneR (vs : List Fr) (n i : Nat) : List Fr := (List.replicate n (0, 1)).set i (fr vs i)
def aloneT (vs : List Fr) (k : Nat) : List (List Fr) := (List.range k).map fun i => aloneR vs vs.length i
def aloneC (vs : List Fr) : Bool := decide (1 ≤ vs.length ∧ vs.length ≤ 6) && allB vs vs.length
def aloneA (vs : List Fr) : List (List Fr) := if aloneC vs = true then aloneT vs vs.length else []
theorem aloneR_len (vs : List Fr) (n i : Nat) : (aloneR vs n i).length = n := by simp [aloneR]
theorem aloneT_succ (vs : List Fr) (k : Nat) : aloneT vs (k + 1) = aloneT vs k ++ [aloneR vs vs.length k] := by simp [aloneT, List.range_succ]
theorem aloneA_no {vs : List Fr} (h : aloneC vs = false) : aloneA vs = [] := by unfold aloneA; rw [h]; rfl
theorem aloneA_yes {vs : List Fr} (h : aloneC vs = true) : aloneA vs = aloneT vs vs.length := by unfold aloneA; rw [if_pos h]

end Go.Proofs.Ytibncepllmjhhaa
