/- The echelon, as the program and as the model reckon it, element by element. -/
import Derived.Test.YtkcdpjcfbpjkeaiTimMath
namespace Go.Proofs.Ytkcdpjcfbpjkeai
open Go.Proofs.Ytkcdpjcfbpjkeai.RM

/-- a row divided -/
def divR (row : List Fr) (by' : Fr) : List Fr := row.map fun p => divP p by'
def divB (row : List Fr) (by' : Fr) : Bool := row.all fun p => divK p by'
/-- one element of what is left of a row, so many times another one taken from it -/
def takeE (o t x : Fr) : Fr := subP o (mulP t x)
def takeK (o t x : Fr) : Bool := subK o (mulP t x)
def takeR (other : List Fr) (t : Fr) (what : List Fr) : List Fr := (List.range other.length).map fun i => takeE (fr other i) t (fr what i)
def takeB (other : List Fr) (t : Fr) (what : List Fr) : Bool := (List.range other.length).all fun i => takeK (fr other i) t (fr what i)
/-- the same as the model reckons it: what it keeps, and was something too great -/
def sDivE (x f : Fr) : Fr := keepF (divK x f) (divP x f)
def sTakeP (t x : Fr) : Fr := keepF (mulK t x) (mulP t x)
def sTakeE (o t x : Fr) : Fr := keepF (subK o (sTakeP t x)) (subP o (sTakeP t x))
def sTakeX (o t x : Fr) : Bool := !mulK t x || !subK o (sTakeP t x)
theorem take_bad (o t x : Fr) : sTakeX o t x = !takeK o t x := by
  unfold sTakeX takeK sTakeP
  by_cases h : mulK t x = true
  · rw [keepF_yes h, h]; rfl
  · rw [Bool.not_eq_true] at h
    rw [h, mul_none h, sub_zero_r]; rfl
theorem take_same {o t x : Fr} (h : takeK o t x = true) : sTakeE o t x = takeE o t x := by
  have hb := take_bad o t x
  rw [h] at hb
  unfold sTakeX at hb
  rw [Bool.not_true, Bool.or_eq_false_iff] at hb
  have hm : mulK t x = true := by simpa using hb.1
  unfold sTakeE sTakeP takeE
  rw [keepF_yes hm]
  unfold takeK at h
  rw [keepF_yes h]
theorem div_same {x f : Fr} (h : divK x f = true) : sDivE x f = divP x f := keepF_yes h
/-- the row of the first one, from 'at' on, with something in the column that is not 0; as many as rows where there is none -/
def pivF (rows : List (List Fr)) (col : Nat) : Nat → Nat → Nat
  | 0, r => r
  | n + 1, r => if (fr (rw' rows r) col).1 = 0 then pivF rows col n (r + 1) else r
def piv (rows : List (List Fr)) (col at' : Nat) : Nat := pivF rows col (rows.length - at') at'
/-- the rows when row r was exchanged with row at -/
def swapT (rows : List (List Fr)) (r at' : Nat) : List (List Fr) := (rows.set r (rw' rows at')).set at' (rw' rows r)
/-- one column's step -/
def stepT (rows : List (List Fr)) (at' r col : Nat) : List (List Fr) :=
  (List.range rows.length).map fun i => if i = at' then divR (rw' rows r) (fr (rw' rows r) col) else takeR (rw' (swapT rows r at') i) (fr (rw' (swapT rows r at') i) col) (divR (rw' rows r) (fr (rw' rows r) col))
def stepB (rows : List (List Fr)) (at' r col : Nat) : Bool :=
  divB (rw' rows r) (fr (rw' rows r) col) && (List.range rows.length).all fun i => decide (i = at') || takeB (rw' (swapT rows r at') i) (fr (rw' (swapT rows r at') i) col) (divR (rw' rows r) (fr (rw' rows r) col))
/-- the columns from col on, n of them: the rows and the chosen columns, or none where something is too great -/
def echF : Nat → Nat → List (List Fr) → List Nat → Option (List (List Fr) × List Nat)
  | 0, _, rows, ch => some (rows, ch)
  | n + 1, col, rows, ch =>
    if piv rows col ch.length = rows.length then echF n (col + 1) rows ch
    else if stepB rows ch.length (piv rows col ch.length) col = true then echF n (col + 1) (stepT rows ch.length (piv rows col ch.length) col) (ch ++ [col])
    else none
def ech (rows : List (List Fr)) : Option (List (List Fr) × List Nat) := echF (rw' rows 0).length 0 rows []
theorem pivF_ge (rows : List (List Fr)) (col : Nat) : ∀ n r, r ≤ pivF rows col n r ∧ pivF rows col n r ≤ r + n
  | 0, r => ⟨Nat.le_refl _, Nat.le_refl _⟩
  | n + 1, r => by
    have := pivF_ge rows col n (r + 1)
    simp only [pivF]
    split <;> omega
theorem piv_le {rows : List (List Fr)} {col at' : Nat} (h : at' ≤ rows.length) : at' ≤ piv rows col at' ∧ piv rows col at' ≤ rows.length := by
  have := pivF_ge rows col (rows.length - at') at'
  unfold piv; omega
theorem pivF_zero (rows : List (List Fr)) (col : Nat) : ∀ n r i, r ≤ i → i < pivF rows col n r → (fr (rw' rows i) col).1 = 0
  | 0, r, i, h1, h2 => by simp only [pivF] at h2; omega
  | n + 1, r, i, h1, h2 => by
    simp only [pivF] at h2
    split at h2
    · rename_i h
      by_cases e : i = r
      · subst e; exact h
      · exact pivF_zero rows col n (r + 1) i (by omega) h2
    · omega
theorem pivF_at (rows : List (List Fr)) (col : Nat) : ∀ n r, pivF rows col n r < r + n → (fr (rw' rows (pivF rows col n r)) col).1 ≠ 0
  | 0, r, h => by simp only [pivF] at h; omega
  | n + 1, r, h => by
    simp only [pivF] at h ⊢
    split
    · rename_i hz
      rw [if_pos hz] at h
      exact pivF_at rows col n (r + 1) (by omega)
    · rename_i hz
      exact hz
end Go.Proofs.Ytkcdpjcfbpjkeai
