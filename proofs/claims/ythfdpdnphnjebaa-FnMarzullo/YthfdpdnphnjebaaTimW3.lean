/- The walk of the model's Times. -/
import Derived.Test.YthfdpdnphnjebaaTimW2
namespace Go.Proofs.Ythfdpdnphnjebaa
open Go.RowKit Go.Proofs.Ythfdpdnphnjebaa.RM

theorem cell_g {K : Nat} {W W' : World} (hg : W.grownBy W' (some K)) {b o : Nat} {v : Value} (h : W.cell? ⟨b, o, none⟩ = some v) (hne : b ≠ K) : W'.cell? ⟨b, o, none⟩ = some v :=
  (g_cell hg o (World.block_lt_of_cell? W _ h) (by simpa using hne)).trans h
theorem own_g {K : Nat} {W W' : World} {base e size n : Nat} {v : Value} {xs : List Value} (hg : W.grownBy W' (some K)) (h : W.ownsRow base e size v n xs) (hb : K < base) : W'.ownsRow base e size v n xs :=
  h.kept hg (.inr fun e => by have := (h.lt K e).1; omega)
theorem own_st {W : World} {base e size n S : Nat} {v : Value} {xs : List Value} (h : W.ownsRow base e size v n xs) (ho : ∀ b, v.ownBlock = some b → b < S) (o : Nat) (x : Value) : (W.setCell ⟨S, o, none⟩ x).ownsRow base e size v n xs :=
  h.kept (row := some S) (grown_set W S o x) (.inr fun e => by have := ho S e; omega)
theorem vl_app (us : List Value) (x : Value) (i : Nat) (hi : i < us.length + 1) : vl (us ++ [x]) i = if i < us.length then vl us i else x := by
  unfold vl
  by_cases h : i < us.length
  · rw [if_pos h, List.getElem?_append_left h]
  · obtain rfl : i = us.length := by omega
    rw [if_neg h]; simp
theorem rw_app (rows : List (List Fr)) (x : List Fr) (i : Nat) (hi : i < rows.length + 1) : rw' (rows ++ [x]) i = if i < rows.length then rw' rows i else x := by
  unfold rw'
  by_cases h : i < rows.length
  · rw [if_pos h, List.getElem?_append_left h]
  · obtain rfl : i = rows.length := by omega
    rw [if_neg h]; simp
theorem cell_twoF (w : World) (a b : Value) (t : TypeId) : ∀ j u, [a, b][j]? = some u → (w.alloc (.cells #[a, b] t)).cell? ((⟨w.heap.size, 0, none⟩ : Addr).add j) = some u := by
  intro j u h
  match j, h with
  | 0, h => simp at h; subst h; simp [go_sem, Addr.add]
  | 1, h => simp at h; subst h; simp [go_sem, Addr.add]
  | (j + 2), h => simp at h
end Go.Proofs.Ythfdpdnphnjebaa
