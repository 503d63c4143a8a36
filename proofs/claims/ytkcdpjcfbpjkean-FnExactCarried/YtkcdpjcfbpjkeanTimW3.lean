/- The walk of the model's Times. -/
import Derived.Test.YtkcdpjcfbpjkeanTimW2
namespace Go.Proofs.Ytkcdpjcfbpjkean
open Go.RowKit Go.Proofs.Ytkcdpjcfbpjkean.RM

theorem cell_g {K : Nat} {W W' : World} (hg : W.grownBy W' (some K)) {b o : Nat} {v : Value} (h : W.cell? ⟨b, o, none⟩ = some v) (hne : b ≠ K) : W'.cell? ⟨b, o, none⟩ = some v :=
  (g_cell hg o (World.block_lt_of_cell? W _ h) (by simpa using hne)).trans h
theorem own_g {K : Nat} {W W' : World} {base e size n : Nat} {v : Value} {xs : List Value} (hg : W.grownBy W' (some K)) (h : W.ownsRow base e size v n xs) (hb : K < base) : W'.ownsRow base e size v n xs :=
  h.kept hg (.inr fun e => by have := (h.lt K e).1; omega)
theorem Tab.g {K : Nat} {W W' : World} {base : Nat} {v : Value} {us : List Value} {rows : List (List Fr)} (h : Tab W base v us rows) (hg : W.grownBy W' (some K)) (hb : K < base) : Tab W' base v us rows :=
  h.kept hg (fun k e h2 => by cases e; have := (h.outer.lt K h2).1; omega) (fun i hi k e h2 => by cases e; have := ((h.inner i hi).lt K h2).1; omega)
/-- a store into a block beyond leaves it -/
theorem Tab.st {W : World} {base S : Nat} {v : Value} {us : List Value} {rows : List (List Fr)} (h : Tab W base v us rows) (hu : ∀ i, i < us.length → ∀ b, (vl us i).ownBlock = some b → b < S) (ho : ∀ b, v.ownBlock = some b → b < S) (o : Nat) (x : Value) : Tab (W.setCell ⟨S, o, none⟩ x) base v us rows :=
  h.kept (row := some S) (grown_set W S o x) (fun k e h2 => by cases e; have := ho S h2; omega) (fun i hi k e h2 => by cases e; have := hu i hi S h2; omega)
theorem own_st {W : World} {base e size n S : Nat} {v : Value} {xs : List Value} (h : W.ownsRow base e size v n xs) (ho : ∀ b, v.ownBlock = some b → b < S) (o : Nat) (x : Value) : (W.setCell ⟨S, o, none⟩ x).ownsRow base e size v n xs :=
  h.kept (row := some S) (grown_set W S o x) (.inr fun e => by have := ho S e; omega)
theorem vl_app (us : List Value) (x : Value) (i : Nat) (hi : i < us.length + 1) : vl (us ++ [x]) i = if i < us.length then vl us i else x := by
  unfold vl
  by_cases h : i < us.length
  · rw [if_pos h, List.getElem?_append_left h]
  · obtain rfl : i = us.length := by omega
    rw [if_neg h]; simp
theorem rw_app (rows : List (List Fr)) (x : List Fr) (i : Nat) (hi : i < rows.length + 1) : rw' (rows ++ [x]) i = if i < rows.length then rw' rows i else x := by
  unfold rw'
  by_cases h : i < rows.length
  · rw [if_pos h, List.getElem?_append_left h]
  · obtain rfl : i = rows.length := by omega
    rw [if_neg h]; simp
/-- a row that is apart is appended -/
theorem Tab.append {W w' : World} {base : Nat} {v v' : Value} {us : List Value} {rows : List (List Fr)} {u : Value} {ps : List Fr} {tmp : Obj} (h : Tab W base v us rows)
    (hu : W.ownsRow base 32 2 u ps.length (cellsR ps)) (ha : ∀ i, i < us.length → ∀ b, (vl us i).ownBlock = some b → u.ownBlock ≠ some b)
    (hown : w'.ownsRow base 35 1 v' (us.length + 1) (us ++ [u])) (hgrow : (W.alloc tmp).grownBy w' v.ownBlock) : Tab w' base v' (us ++ [u]) (rows ++ [ps]) := by
  have keep : ∀ {m : Nat} {x : Value} {xs : List Value}, W.ownsRow base 32 2 x m xs → w'.ownsRow base 32 2 x m xs := fun hx => own_oth (hx.alloc tmp) (h.outer.alloc tmp) (by decide) hgrow
  have hl := h.len
  refine ⟨by rw [List.length_append]; exact hown, by simp [hl], fun i hi => ?_, fun i j hi hj hne b hb => ?_⟩
  · rw [List.length_append, List.length_singleton] at hi
    rw [vl_app _ _ _ hi, rw_app _ _ _ (by omega)]
    by_cases e : i < us.length
    · rw [if_pos e, if_pos (by omega)]; exact keep (h.inner i e)
    · rw [if_neg e, if_neg (by omega)]; exact keep hu
  · rw [List.length_append, List.length_singleton] at hi hj
    rw [vl_app _ _ _ hi] at hb
    rw [vl_app _ _ _ hj]
    by_cases e : i < us.length
    · rw [if_pos e] at hb
      by_cases e2 : j < us.length
      · rw [if_pos e2]; exact h.apart i j e e2 hne b hb
      · rw [if_neg e2]; exact ha i e b hb
    · rw [if_neg e] at hb
      rw [if_pos (by omega)]
      intro h2
      exact ha j (by omega) b h2 hb
theorem IsK.grownO {W W' : World} {K : Nat} {b : Bool} {row : Option Nat} (h : IsK W K b) (hg : W.grownBy W' row) (hne : row ≠ some K) : IsK W' K b := (hg.block K h.lt (fun e => hne e.symm)).trans h
theorem cell_twoF (w : World) (a b : Value) (t : TypeId) : ∀ j u, [a, b][j]? = some u → (w.alloc (.cells #[a, b] t)).cell? ((⟨w.heap.size, 0, none⟩ : Addr).add j) = some u := by
  intro j u h
  match j, h with
  | 0, h => simp at h; subst h; simp [go_sem, Addr.add]
  | 1, h => simp at h; subst h; simp [go_sem, Addr.add]
  | (j + 2), h => simp at h
theorem kMul (K : Nat) (bd : Bool) (x1 x2 y1 y2 : Int) (w : World) (hK : IsK w K bd) :
    Calls Try.prog 46 #[.pointer (some ⟨K, 0, none⟩), .agg #[.int .i64 x1, .int .i64 x2], .agg #[.int .i64 y1, .int .i64 y2]] w fun e w' =>
      e = .returned (.agg #[.int .i64 (keepF (mulK (x1, x2) (y1, y2)) (mulP (x1, x2) (y1, y2))).1, .int .i64 (keepF (mulK (x1, x2) (y1, y2)) (mulP (x1, x2) (y1, y2))).2]) ∧ IsK w' K (bd || !mulK (x1, x2) (y1, y2)) ∧ w.grownBy w' (some K) := cMul_any K bd x1 x2 y1 y2 w hK
theorem kAdd (K : Nat) (bd : Bool) (x1 x2 y1 y2 : Int) (w : World) (hK : IsK w K bd) :
    Calls Try.prog 45 #[.pointer (some ⟨K, 0, none⟩), .agg #[.int .i64 x1, .int .i64 x2], .agg #[.int .i64 y1, .int .i64 y2]] w fun e w' =>
      e = .returned (.agg #[.int .i64 (keepF (addK (x1, x2) (y1, y2)) (addP (x1, x2) (y1, y2))).1, .int .i64 (keepF (addK (x1, x2) (y1, y2)) (addP (x1, x2) (y1, y2))).2]) ∧ IsK w' K (bd || !addK (x1, x2) (y1, y2)) ∧ w.grownBy w' (some K) := cAdd_any K bd x1 x2 y1 y2 w hK

end Go.Proofs.Ytkcdpjcfbpjkean
