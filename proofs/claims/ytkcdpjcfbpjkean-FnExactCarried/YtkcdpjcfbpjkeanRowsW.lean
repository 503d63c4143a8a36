/- The walks of the laws' helpers over rows of whole numbers: held against each other, marked, held to be marked. -/
import Derived.Test.YtkcdpjcfbpjkeanTermsW
namespace Go.Proofs.Ytkcdpjcfbpjkean
open Go.RowKit Go.Proofs.Ytkcdpjcfbpjkean.RM

theorem own_shape {W : World} {base : Nat} {e : TypeId} {size : Nat} {v : Value} {n : Nat} {xs : List Value} (h : W.ownsRow base e size v n xs) : ∃ a c, v = .slice a n c := by
  rcases h.2 with ⟨rfl, rfl⟩ | ⟨g, cap, cur, rfl, _⟩
  · exact ⟨_, _, rfl⟩
  · exact ⟨_, _, rfl⟩
theorem own_some {W : World} {base : Nat} {e : TypeId} {size : Nat} {v : Value} {n : Nat} {xs : List Value} (h : W.ownsRow base e size v n xs) (hn : 0 < n) : ∃ g c, v = .slice (some ⟨g, 0, none⟩) n c := by
  rcases h.2 with ⟨rfl, rfl⟩ | ⟨g, cap, cur, rfl, _⟩
  · omega
  · exact ⟨_, _, rfl⟩
theorem own_int {W : World} {base : Nat} {e : TypeId} {g n c : Nat} {zs : List Int} (h : W.ownsRow base e 1 (.slice (some ⟨g, 0, none⟩) n c) n (zs.map (Value.int .i64))) (hl : zs.length = n) (j : Nat) (hj : j < n) : W.cell? ⟨g, j, none⟩ = some (.int .i64 (zs[j]?.getD 0)) := by
  have h1 := h.cellAt j (by omega)
  rw [h1, List.getElem?_map, List.getElem?_eq_getElem (by omega)]
  rfl
theorem own_drewN {w : World} {base : Nat} {e : TypeId} {size : Nat} {v : Value} {n : Nat} {xs : List Value} (h : w.ownsRow base e size v n xs) (m : Nat) : (w.drewN m).ownsRow base e size v n xs := own_below h (below_drewN (Below.refl _ _) m)

/-- what is marked when j of n have been: k, k + 1, .., and the rest as it was -/
def mrk (k : Int) (zs : List Int) (j : Nat) : List Int := (List.range j).map (fun (i : Nat) => k + (i : Int)) ++ zs.drop j
theorem mrk_len (k : Int) (zs : List Int) (j : Nat) (h : j ≤ zs.length) : (mrk k zs j).length = zs.length := by simp [mrk]; omega
theorem mrk_zero (k : Int) (zs : List Int) : mrk k zs 0 = zs := by simp [mrk]
theorem mrk_set (k : Int) (zs : List Int) (j : Nat) (h : j < zs.length) : (mrk k zs j).set j (k + j) = mrk k zs (j + 1) := by
  apply List.ext_getElem?
  intro i
  simp only [mrk, List.getElem?_set, List.getElem?_append, List.length_map, List.length_range, List.getElem?_map, List.getElem?_drop, List.length_append, List.length_drop]
  by_cases h1 : j = i
  · subst h1
    rw [if_pos rfl, if_pos (by omega), if_pos (by omega), List.getElem?_range (by omega)]; rfl
  · rw [if_neg h1]
    by_cases h2 : i < j
    · rw [if_pos h2, if_pos (by omega), List.getElem?_range (by omega), List.getElem?_range (by omega)]
    · rw [if_neg h2, if_neg (by omega)]
      congr 1; omega
theorem mrk_at (k : Int) (zs : List Int) (j : Nat) (h : j < zs.length) : (mrk k zs zs.length)[j]?.getD 0 = k + j := by
  simp [mrk, h]

end Go.Proofs.Ytkcdpjcfbpjkean
