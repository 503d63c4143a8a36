/- What a column's step keeps; how the echelon goes on by columns. -/
import Derived.Test.YtkcdpjcfbpjkeaiEchW5
namespace Go.Proofs.Ytkcdpjcfbpjkeai
open Go.Proofs.Ytkcdpjcfbpjkeai.RM

theorem takeR_len (o : List Fr) (t : Fr) (x : List Fr) : (takeR o t x).length = o.length := by simp [takeR]
theorem stepT_len (rows : List (List Fr)) (at' r col : Nat) : (stepT rows at' r col).length = rows.length := by simp [stepT]
/-- the rows stay as long as they were -/
theorem stepT_row {rows : List (List Fr)} {at' r col L : Nat} (hL : ∀ x, x < rows.length → (rw' rows x).length = L) (ha : at' < rows.length) (hr : r < rows.length) : ∀ x, x < (stepT rows at' r col).length → (rw' (stepT rows at' r col) x).length = L := by
  intro x hx
  rw [stepT_len] at hx
  rw [← stepP_all, stepP_at _ _ _ _ _ _ hx, if_pos hx]
  split
  · rw [divR_len]; exact hL r hr
  · rw [takeR_len, rw_exch _ _ _ _ hr ha]
    exact hL _ (exch_lt hr ha hx)
theorem echF_free {n col : Nat} {rows : List (List Fr)} {ch : List Nat} (h : piv rows col ch.length = rows.length) : echF (n + 1) col rows ch = echF n (col + 1) rows ch := by
  simp only [echF]; rw [if_pos h]
theorem echF_yes {n col r : Nat} {rows : List (List Fr)} {ch : List Nat} (hr : r = piv rows col ch.length) (h : r ≠ rows.length) (hb : stepB rows ch.length r col = true) : echF (n + 1) col rows ch = echF n (col + 1) (stepT rows ch.length r col) (ch ++ [col]) := by
  subst hr
  simp only [echF]; rw [if_neg h, if_pos hb]
theorem echF_no {n col r : Nat} {rows : List (List Fr)} {ch : List Nat} (hr : r = piv rows col ch.length) (h : r ≠ rows.length) (hb : stepB rows ch.length r col = false) : echF (n + 1) col rows ch = none := by
  subst hr
  simp only [echF]; rw [if_neg h, if_neg (by rw [hb]; decide)]
/-- the row that a search from the top finds -/
theorem pivF_is (rows : List (List Fr)) (col : Nat) : ∀ n r i, r ≤ i → i < r + n → (∀ x, r ≤ x → x < i → (fr (rw' rows x) col).1 = 0) → (fr (rw' rows i) col).1 ≠ 0 → pivF rows col n r = i
  | 0, r, i, h1, h2, _, _ => by omega
  | n + 1, r, i, h1, h2, hz, hn => by
    simp only [pivF]
    by_cases e : i = r
    · subst e; rw [if_neg hn]
    · rw [if_pos (hz r (Nat.le_refl _) (by omega))]
      exact pivF_is rows col n (r + 1) i (by omega) (by omega) (fun x h3 h4 => hz x (by omega) h4) hn
theorem pivF_none (rows : List (List Fr)) (col : Nat) : ∀ n r, (∀ x, r ≤ x → x < r + n → (fr (rw' rows x) col).1 = 0) → pivF rows col n r = r + n
  | 0, r, _ => rfl
  | n + 1, r, hz => by
    simp only [pivF]
    rw [if_pos (hz r (Nat.le_refl _) (by omega)), pivF_none rows col n (r + 1) (fun x h3 h4 => hz x (by omega) (by omega))]
    omega
end Go.Proofs.Ytkcdpjcfbpjkeai
