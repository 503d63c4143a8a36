/- The echelon as the model reckons it, element by element, with what it remembers; the free columns. -/
import Derived.Test.YtkcdpjcfbpjkeaiEchM2
namespace Go.Proofs.Ytkcdpjcfbpjkeai
open Go.Proofs.Ytkcdpjcfbpjkeai.RM

/-- the first j elements turned -/
def upto (f : Nat → Fr) (ps : List Fr) (j : Nat) : List Fr := (List.range ps.length).map fun i => if i < j then f i else fr ps i
theorem upto_len (f : Nat → Fr) (ps : List Fr) (j : Nat) : (upto f ps j).length = ps.length := by simp [upto]
theorem upto_at (f : Nat → Fr) (ps : List Fr) (j i : Nat) (h : i < ps.length) : fr (upto f ps j) i = if i < j then f i else fr ps i := by simp [upto, fr, h]
theorem fr_ext {a b : List Fr} (hl : a.length = b.length) (h : ∀ x, x < a.length → fr a x = fr b x) : a = b := by
  apply List.ext_getElem hl
  intro x h1 h2
  have := h x h1
  simpa [fr, h1, h2] using this
theorem fr_set (ps : List Fr) (k i : Nat) (r : Fr) (hk : k < ps.length) : fr (ps.set k r) i = if k = i then r else fr ps i := by
  unfold fr
  rw [List.getElem?_set]
  by_cases e : k = i
  · subst e; rw [if_pos rfl, if_pos rfl, if_pos hk]; rfl
  · rw [if_neg e, if_neg e]
theorem upto_zero (f : Nat → Fr) (ps : List Fr) : upto f ps 0 = ps := by
  apply fr_ext (upto_len _ _ _)
  intro x hx
  rw [upto_len] at hx
  rw [upto_at _ _ _ _ hx, if_neg (by omega)]
theorem upto_set (f : Nat → Fr) (ps : List Fr) (j : Nat) (hj : j < ps.length) : (upto f ps j).set j (f j) = upto f ps (j + 1) := by
  apply fr_ext (by simp [upto_len])
  intro x hx
  rw [List.length_set, upto_len] at hx
  rw [fr_set _ _ _ _ (by rw [upto_len]; exact hj), upto_at _ _ _ _ hx, upto_at _ _ _ _ hx]
  by_cases e : j = x
  · subst e; rw [if_pos rfl, if_pos (by omega)]
  · rw [if_neg e]
    by_cases e2 : x < j
    · rw [if_pos e2, if_pos (by omega)]
    · rw [if_neg e2, if_neg (by omega)]
theorem upto_all (f : Nat → Fr) (ps : List Fr) : upto f ps ps.length = (List.range ps.length).map f := by
  unfold upto
  apply List.map_congr_left
  intro x hx
  rw [List.mem_range] at hx
  rw [if_pos hx]
/-- the first k rows turned -/
def uptoT (f : Nat → List Fr) (rows : List (List Fr)) (k : Nat) : List (List Fr) := (List.range rows.length).map fun i => if i < k then f i else rw' rows i
theorem uptoT_len (f : Nat → List Fr) (rows : List (List Fr)) (k : Nat) : (uptoT f rows k).length = rows.length := by simp [uptoT]
theorem uptoT_at (f : Nat → List Fr) (rows : List (List Fr)) (k i : Nat) (h : i < rows.length) : rw' (uptoT f rows k) i = if i < k then f i else rw' rows i := by simp [uptoT, rw', h]
theorem uptoT_zero (f : Nat → List Fr) (rows : List (List Fr)) : uptoT f rows 0 = rows := by
  apply rows_ext (uptoT_len _ _ _)
  intro x hx
  rw [uptoT_len] at hx
  rw [uptoT_at _ _ _ _ hx, if_neg (by omega)]
theorem uptoT_set (f : Nat → List Fr) (rows : List (List Fr)) (k : Nat) (hk : k < rows.length) : (uptoT f rows k).set k (f k) = uptoT f rows (k + 1) := by
  apply rows_ext (by simp [uptoT_len])
  intro x hx
  rw [List.length_set, uptoT_len] at hx
  rw [rw_set _ _ _ _ (by rw [uptoT_len]; exact hk), uptoT_at _ _ _ _ hx, uptoT_at _ _ _ _ hx]
  by_cases e : k = x
  · subst e; rw [if_pos rfl, if_pos (by omega)]
  · rw [if_neg e]
    by_cases e2 : x < k
    · rw [if_pos e2, if_pos (by omega)]
    · rw [if_neg e2, if_neg (by omega)]
/-- a row that stays -/
theorem uptoT_same (f : Nat → List Fr) (rows : List (List Fr)) (k : Nat) (hk : k < rows.length) (h : f k = rw' rows k) : uptoT f rows k = uptoT f rows (k + 1) := by
  apply rows_ext (by simp [uptoT_len])
  intro x hx
  rw [uptoT_len] at hx
  rw [uptoT_at _ _ _ _ hx, uptoT_at _ _ _ _ hx]
  by_cases e : x = k
  · subst e; rw [if_neg (by omega), if_pos (by omega), h]
  · by_cases e2 : x < k
    · rw [if_pos e2, if_pos (by omega)]
    · rw [if_neg e2, if_neg (by omega)]
/-- was one of the first n so -/
def xTo (b : Nat → Bool) (n : Nat) : Bool := (List.range n).any b
theorem xTo_zero (b : Nat → Bool) : xTo b 0 = false := rfl
theorem xTo_succ (b : Nat → Bool) (n : Nat) : xTo b (n + 1) = (xTo b n || b n) := by simp [xTo, List.range_succ]
theorem xTo_not (b : Nat → Bool) (n : Nat) : xTo b n = !(List.range n).all (fun i => !b i) := by
  unfold xTo
  induction n with
  | zero => rfl
  | succ n ih => rw [List.range_succ, List.any_append, List.all_append, ih]; simp [Bool.not_and]
theorem xTo_congr {b c : Nat → Bool} {n : Nat} (h : ∀ i, i < n → b i = c i) : xTo b n = xTo c n := by
  induction n with
  | zero => rfl
  | succ n ih => rw [xTo_succ, xTo_succ, ih (fun i hi => h i (by omega)), h n (by omega)]
theorem xTo_no {b : Nat → Bool} {n : Nat} (h : xTo b n = false) : ∀ i, i < n → b i = false := by
  intro i hi
  induction n with
  | zero => omega
  | succ n ih =>
    rw [xTo_succ, Bool.or_eq_false_iff] at h
    by_cases e : i = n
    · subst e; exact h.2
    · exact ih h.1 (by omega)
/-- a row divided, as the model does; was something too great -/
def sDivF (row : List Fr) (f : Fr) : Nat → Fr := fun i => sDivE (fr row i) f
def sDivB (row : List Fr) (f : Fr) : Nat → Bool := fun i => !divK (fr row i) f
def sTakeF (other : List Fr) (t : Fr) (what : List Fr) : Nat → Fr := fun i => sTakeE (fr other i) t (fr what i)
def sTakeB (other : List Fr) (t : Fr) (what : List Fr) : Nat → Bool := fun i => sTakeX (fr other i) t (fr what i)
theorem map_fr (g : Fr → Fr) (row : List Fr) : (List.range row.length).map (fun i => g (fr row i)) = row.map g := by
  apply List.ext_getElem (by simp)
  intro x h1 h2
  simp at h1 h2
  simp [fr, h1]
theorem all_fr (g : Fr → Bool) (row : List Fr) : (List.range row.length).all (fun i => g (fr row i)) = row.all g := by
  rw [Bool.eq_iff_iff, List.all_eq_true, List.all_eq_true]
  constructor
  · intro h x hx
    obtain ⟨k, hk, rfl⟩ := List.mem_iff_getElem.1 hx
    have := h k (List.mem_range.2 hk)
    simpa [fr, hk] using this
  · intro h i hi
    rw [List.mem_range] at hi
    have := h row[i] (List.getElem_mem hi)
    simpa [fr, hi] using this
theorem sDiv_flag (row : List Fr) (f : Fr) : xTo (sDivB row f) row.length = !divB row f := by
  rw [xTo_not]
  unfold sDivB divB
  simp only [Bool.not_not]
  rw [all_fr (fun p => divK p f)]
theorem sDiv_same {row : List Fr} {f : Fr} (h : divB row f = true) : upto (sDivF row f) row row.length = divR row f := by
  rw [upto_all]
  unfold sDivF divR
  rw [map_fr (fun p => sDivE p f)]
  apply List.map_congr_left
  intro p hp
  unfold divB at h
  rw [List.all_eq_true] at h
  exact div_same (h p hp)
theorem sTake_flag (other : List Fr) (t : Fr) (what : List Fr) : xTo (sTakeB other t what) other.length = !takeB other t what := by
  rw [xTo_not]
  unfold sTakeB takeB
  simp only [take_bad, Bool.not_not]
theorem sTake_same {other : List Fr} {t : Fr} {what : List Fr} (h : takeB other t what = true) : upto (sTakeF other t what) other other.length = takeR other t what := by
  rw [upto_all]
  unfold sTakeF takeR
  apply List.map_congr_left
  intro i hi
  unfold takeB at h
  rw [List.all_eq_true] at h
  exact take_same (h i hi)
/-- the table when the row was exchanged and divided -/
def tabD (rows : List (List Fr)) (at' r col : Nat) : List (List Fr) := (swapT rows r at').set at' (upto (sDivF (rw' rows r) (fr (rw' rows r) col)) (rw' rows r) (rw' rows r).length)
theorem tabD_len (rows : List (List Fr)) (at' r col : Nat) : (tabD rows at' r col).length = rows.length := by simp [tabD, swapT]
/-- what the model makes of row i, and was something too great there -/
def sRowF (T : List (List Fr)) (at' col : Nat) : Nat → List Fr := fun i => if i = at' then rw' T i else upto (sTakeF (rw' T i) (fr (rw' T i) col) (rw' T at')) (rw' T i) (rw' T i).length
def sRowB (T : List (List Fr)) (at' col : Nat) : Nat → Bool := fun i => !decide (i = at') && xTo (sTakeB (rw' T i) (fr (rw' T i) col) (rw' T at')) (rw' T i).length
/-- a column's step of the model: all its flags, and its rows -/
theorem sStep_flag (rows : List (List Fr)) (at' r col : Nat) (h : at' < rows.length) :
    (xTo (sDivB (rw' rows r) (fr (rw' rows r) col)) (rw' rows r).length || xTo (sRowB (tabD rows at' r col) at' col) rows.length) = !stepB rows at' r col ∧ (stepB rows at' r col = true → uptoT (sRowF (tabD rows at' r col) at' col) (tabD rows at' r col) rows.length = stepT rows at' r col) := by
  rw [sDiv_flag]
  by_cases hd : divB (rw' rows r) (fr (rw' rows r) col) = true
  · have hT : ∀ x, x < rows.length → rw' (tabD rows at' r col) x = if at' = x then divR (rw' rows r) (fr (rw' rows r) col) else rw' (swapT rows r at') x := by
      intro x hx
      unfold tabD
      rw [rw_set _ _ _ _ (by rw [swapT_len]; exact h), sDiv_same hd]
    have hB : xTo (sRowB (tabD rows at' r col) at' col) rows.length = !stepB rows at' r col := by
      rw [xTo_not]
      unfold stepB
      rw [hd, Bool.true_and]
      congr 1
      rw [Bool.eq_iff_iff, List.all_eq_true, List.all_eq_true]
      have key : ∀ i, i ∈ List.range rows.length → (!sRowB (tabD rows at' r col) at' col i) = (decide (i = at') || takeB (rw' (swapT rows r at') i) (fr (rw' (swapT rows r at') i) col) (divR (rw' rows r) (fr (rw' rows r) col))) := by
        intro i hi
        rw [List.mem_range] at hi
        unfold sRowB
        by_cases e : i = at'
        · simp [e]
        · rw [sTake_flag, hT i hi, hT at' h, if_neg (fun e' => e e'.symm), if_pos rfl]
          simp [e]
      constructor
      · intro hh i hi; rw [← key i hi]; exact hh i hi
      · intro hh i hi; rw [key i hi]; exact hh i hi
    refine ⟨by rw [hB, hd]; simp, fun hb => ?_⟩
    apply rows_ext (by rw [uptoT_len, tabD_len, stepT_len])
    intro x hx
    rw [uptoT_len, tabD_len] at hx
    rw [uptoT_at _ _ _ _ (by rw [tabD_len]; exact hx), if_pos hx, ← stepP_all, stepP_at _ _ _ _ _ _ hx, if_pos hx]
    unfold sRowF
    by_cases e : x = at'
    · subst e
      rw [if_pos rfl, if_pos rfl, hT x hx, if_pos rfl]
    · rw [if_neg e, if_neg e, hT x hx, hT at' h, if_neg (fun e' => e e'.symm), if_pos rfl]
      apply sTake_same
      unfold stepB at hb
      rw [hd, Bool.true_and, List.all_eq_true] at hb
      have := hb x (List.mem_range.2 hx)
      simpa [e] using this
  · rw [Bool.not_eq_true] at hd
    rw [hd, stepB_div hd]
    simp
/-- what both answer -/
def echK (rows : List (List Fr)) : Bool := (ech rows).isSome
def echR (rows : List (List Fr)) : List (List Fr) := match ech rows with | some p => p.1 | none => []
def echC (rows : List (List Fr)) : List Nat := match ech rows with | some p => p.2 | none => []
theorem ech_no {rows : List (List Fr)} (h : ech rows = none) : echK rows = false ∧ echR rows = [] ∧ echC rows = [] := by simp [echK, echR, echC, h]
theorem ech_yes {rows R : List (List Fr)} {ch : List Nat} (h : ech rows = some (R, ch)) : echK rows = true ∧ echR rows = R ∧ echC rows = ch := by simp [echK, echR, echC, h]
/-- the columns below col that were not chosen -/
def freeC (col : Nat) (ch : List Nat) : List Nat := (List.range col).filter fun c => !ch.contains c
theorem freeC_free {col : Nat} {ch : List Nat} (h : ∀ c, c ∈ ch → c < col) : freeC (col + 1) ch = freeC col ch ++ [col] := by
  unfold freeC
  rw [List.range_succ, List.filter_append]
  have : ch.contains col = false := by
    rw [← Bool.not_eq_true, List.contains_iff_mem]
    intro hc
    have := h col hc
    omega
  simp [List.filter_cons]
  intro hc
  have := h col hc
  omega
theorem freeC_yes {col : Nat} {ch : List Nat} : freeC (col + 1) (ch ++ [col]) = freeC col ch := by
  unfold freeC
  rw [List.range_succ, List.filter_append]
  have h1 : List.filter (fun c => !(ch ++ [col]).contains c) [col] = [] := by simp
  rw [h1, List.append_nil]
  apply List.filter_congr
  intro x hx
  rw [List.mem_range] at hx
  have : x ≠ col := by omega
  simp [this]
theorem freeC_lt {col : Nat} {ch : List Nat} : ∀ f, f ∈ freeC col ch → f < col := by
  intro f hf
  unfold freeC at hf
  rw [List.mem_filter, List.mem_range] at hf
  exact hf.1
/-- the state ahead of column col -/
structure EInv (rows0 : List (List Fr)) (L col : Nat) (rows : List (List Fr)) (ch fe : List Nat) : Prop where
  is : ech rows0 = echF (L - col) col rows ch
  len : rows.length = rows0.length
  row : ∀ x, x < rows.length → (rw' rows x).length = L
  cl : ch.length ≤ rows.length
  chs : ∀ c, c ∈ ch → c < col
  fes : fe = freeC col ch
theorem EInv.start {rows0 : List (List Fr)} {L : Nat} (hL : L = (rw' rows0 0).length) (h : ∀ x, x < rows0.length → (rw' rows0 x).length = L) : EInv rows0 L 0 rows0 [] [] :=
  ⟨by rw [hL]; rfl, rfl, h, Nat.zero_le _, fun c hc => absurd hc (by simp), rfl⟩
theorem EInv.fl {rows0 rows : List (List Fr)} {L col : Nat} {ch fe : List Nat} (h : EInv rows0 L col rows ch fe) : ∀ f, f ∈ fe → col ≠ f := by
  intro f hf
  rw [h.fes] at hf
  have := freeC_lt f hf
  omega
theorem EInv.cn {rows0 rows : List (List Fr)} {L col : Nat} {ch fe : List Nat} (h : EInv rows0 L col rows ch fe) : ∀ c, c ∈ ch → c ≠ col := by
  intro c hc
  have := h.chs c hc
  omega
theorem EInv.free {rows0 rows : List (List Fr)} {L col : Nat} {ch fe : List Nat} (h : EInv rows0 L col rows ch fe) (hc : col < L) (hz : ∀ x, ch.length ≤ x → x < rows.length → (fr (rw' rows x) col).1 = 0) : EInv rows0 L (col + 1) rows ch (fe ++ [col]) := by
  have hp : piv rows col ch.length = rows.length := by
    unfold piv
    rw [pivF_none rows col _ _ (fun x h1 h2 => hz x h1 (by omega))]
    have := h.cl
    omega
  refine ⟨?_, h.len, h.row, h.cl, fun c hx => by have := h.chs c hx; omega, by rw [freeC_free h.chs, ← h.fes]⟩
  rw [h.is, show L - col = (L - (col + 1)) + 1 by omega, echF_free hp]
theorem EInv.piv {rows0 rows : List (List Fr)} {L col i : Nat} {ch fe : List Nat} (_h : EInv rows0 L col rows ch fe) (h1 : ch.length ≤ i) (h2 : i < rows.length) (hz : ∀ x, ch.length ≤ x → x < i → (fr (rw' rows x) col).1 = 0) (hn : (fr (rw' rows i) col).1 ≠ 0) : i = piv rows col ch.length :=
  (pivF_is rows col _ _ i h1 (by omega) hz hn).symm
theorem EInv.yes {rows0 rows : List (List Fr)} {L col i : Nat} {ch fe : List Nat} (h : EInv rows0 L col rows ch fe) (hc : col < L) (h1 : ch.length ≤ i) (h2 : i < rows.length) (hz : ∀ x, ch.length ≤ x → x < i → (fr (rw' rows x) col).1 = 0) (hn : (fr (rw' rows i) col).1 ≠ 0) (hb : stepB rows ch.length i col = true) : EInv rows0 L (col + 1) (stepT rows ch.length i col) (ch ++ [col]) fe := by
  refine ⟨?_, by rw [stepT_len]; exact h.len, stepT_row h.row (by omega) h2, by rw [stepT_len]; simp; omega, fun c hx => ?_, by rw [freeC_yes, ← h.fes]⟩
  · rw [h.is, show L - col = (L - (col + 1)) + 1 by omega, echF_yes (h.piv h1 h2 hz hn) (by omega) hb]
  · rw [List.mem_append] at hx
    rcases hx with hx | hx
    · have := h.chs c hx; omega
    · simp at hx; omega
theorem EInv.no {rows0 rows : List (List Fr)} {L col i : Nat} {ch fe : List Nat} (h : EInv rows0 L col rows ch fe) (hc : col < L) (h1 : ch.length ≤ i) (h2 : i < rows.length) (hz : ∀ x, ch.length ≤ x → x < i → (fr (rw' rows x) col).1 = 0) (hn : (fr (rw' rows i) col).1 ≠ 0) (hb : stepB rows ch.length i col = false) : ech rows0 = none := by
  rw [h.is, show L - col = (L - (col + 1)) + 1 by omega, echF_no (h.piv h1 h2 hz hn) (by omega) hb]
theorem EInv.stop {rows0 rows : List (List Fr)} {L : Nat} {ch fe : List Nat} (h : EInv rows0 L L rows ch fe) : ech rows0 = some (rows, ch) := by
  rw [h.is, Nat.sub_self]; rfl
/-- what both answer, whatever came in -/
def echO (rows : List (List Fr)) : Bool := tabB rows 6 && echK rows
def echA (rows : List (List Fr)) : List (List Fr) := if echO rows then echR rows else []
def echCh (rows : List (List Fr)) : List Nat := if echO rows then echC rows else []
def echFe (rows : List (List Fr)) : List Nat := if echO rows then freeC (rw' rows 0).length (echC rows) else []
theorem echO_no {rows : List (List Fr)} (h : echO rows = false) : echA rows = [] ∧ echCh rows = [] ∧ echFe rows = [] := by simp [echA, echCh, echFe, h]
theorem echO_yes {rows : List (List Fr)} (h : echO rows = true) : echA rows = echR rows ∧ echCh rows = echC rows ∧ echFe rows = freeC (rw' rows 0).length (echC rows) := by simp [echA, echCh, echFe, h]
end Go.Proofs.Ytkcdpjcfbpjkeai
