/- Several texts of this proof laid one behind the other: each has its own heading below. -/
import Derived.Test.YthnlcgilmljliaaPk3
import Derived.Deep.LoopGhost
import Derived.WalkMore
import Derived.Deep.DeepMust
import Derived.Deep.RegionWith
import Derived.Deep.RegionLawGrows
import Derived.Deep.RegionLaw

/- What a column's step keeps; how the echelon goes on by columns. -/
namespace Go.Proofs.Ythnlcgilmljliaa
open Go.Proofs.Ythnlcgilmljliaa.RM

theorem takeR_len (o : List Fr) (t : Fr) (x : List Fr) : (takeR o t x).length = o.length := by simp [takeR]
theorem stepT_len (rows : List (List Fr)) (at' r col : Nat) : (stepT rows at' r col).length = rows.length := by simp [stepT]
/-- the rows stay as long as they were -/
theorem stepT_row {rows : List (List Fr)} {at' r col L : Nat} (hL : ∀ x, x < rows.length → (rw' rows x).length = L) (ha : at' < rows.length) (hr : r < rows.length) : ∀ x, x < (stepT rows at' r col).length → (rw' (stepT rows at' r col) x).length = L := by
  intro x hx
  rw [stepT_len] at hx
  rw [← stepP_all, stepP_at _ _ _ _ _ _ hx, if_pos hx]
  split
  · rw [divR_len]; exact hL r hr
  · rw [takeR_len, rw_exch _ _ _ _ hr ha]
    exact hL _ (exch_lt hr ha hx)
theorem echF_free {n col : Nat} {rows : List (List Fr)} {ch : List Nat} (h : piv rows col ch.length = rows.length) : echF (n + 1) col rows ch = echF n (col + 1) rows ch := by
  simp only [echF]; rw [if_pos h]
theorem echF_yes {n col r : Nat} {rows : List (List Fr)} {ch : List Nat} (hr : r = piv rows col ch.length) (h : r ≠ rows.length) (hb : stepB rows ch.length r col = true) : echF (n + 1) col rows ch = echF n (col + 1) (stepT rows ch.length r col) (ch ++ [col]) := by
  subst hr
  simp only [echF]; rw [if_neg h, if_pos hb]
theorem echF_no {n col r : Nat} {rows : List (List Fr)} {ch : List Nat} (hr : r = piv rows col ch.length) (h : r ≠ rows.length) (hb : stepB rows ch.length r col = false) : echF (n + 1) col rows ch = none := by
  subst hr
  simp only [echF]; rw [if_neg h, if_neg (by rw [hb]; decide)]
/-- the row that a search from the top finds -/
theorem pivF_is (rows : List (List Fr)) (col : Nat) : ∀ n r i, r ≤ i → i < r + n → (∀ x, r ≤ x → x < i → (fr (rw' rows x) col).1 = 0) → (fr (rw' rows i) col).1 ≠ 0 → pivF rows col n r = i
  | 0, r, i, h1, h2, _, _ => by omega
  | n + 1, r, i, h1, h2, hz, hn => by
    simp only [pivF]
    by_cases e : i = r
    · subst e; rw [if_neg hn]
    · rw [if_pos (hz r (Nat.le_refl _) (by omega))]
      exact pivF_is rows col n (r + 1) i (by omega) (by omega) (fun x h3 h4 => hz x (by omega) h4) hn
theorem pivF_none (rows : List (List Fr)) (col : Nat) : ∀ n r, (∀ x, r ≤ x → x < r + n → (fr (rw' rows x) col).1 = 0) → pivF rows col n r = r + n
  | 0, r, _ => rfl
  | n + 1, r, hz => by
    simp only [pivF]
    rw [if_pos (hz r (Nat.le_refl _) (by omega)), pivF_none rows col n (r + 1) (fun x h3 h4 => hz x (by omega) (by omega))]
    omega
end Go.Proofs.Ythnlcgilmljliaa

/- The echelon's other list grows; how it begins. -/
namespace Go.Proofs.Ythnlcgilmljliaa
open Go.RowKit Go.Proofs.Ythnlcgilmljliaa.RM

theorem EchS.grownBlkF {W w1 : World} {base E : Nat} {v vc vf : Value} {us : List Value} {rows : List (List Fr)} {ch fe : List Nat} {tmp : Obj} (h : EchS W base E v vc vf us rows ch fe) (hgrow : (W.alloc tmp).grownBy w1 vf.ownBlock) :
    w1.heap[E]? = some (.cells #[v, vc, vf] 88 (0, 0)) :=
  ((hgrow.block E (by have := (cells3 h.blk).2.2.2.2.2.2; simp; omega) (fun e => own_ne h.fre h.blk (by decide) E e.symm rfl)).trans (Below.heap_alloc _ _ _ (cells3 h.blk).2.2.2.2.2.2)).trans h.blk
/-- a column is added to the free ones -/
theorem EchS.pushF {W w1 : World} {base E : Nat} {v vc vf vf' : Value} {us : List Value} {rows : List (List Fr)} {ch fe : List Nat} {tmp : Obj} {col n : Nat} (h : EchS W base E v vc vf us rows ch fe)
    (hown : w1.ownsRow base 3 1 vf' n (natV fe ++ [Value.int .i64 (col : Int)])) (hn : n = (fe ++ [col]).length) (hgrow : (W.alloc tmp).grownBy w1 vf.ownBlock) (hne : ∀ c, c ∈ ch → c ≠ col) :
    EchS (w1.setCell ⟨E, 2, none⟩ vf') base E v vc vf' us rows ch (fe ++ [col]) := by
  have hEl := (cells3 h.blk).2.2.2.2.2.2
  have hcE := own_ne h.fre h.blk (by decide)
  have ga : ∀ k, k < W.heap.size → some k ≠ vf.ownBlock → w1.heap[k]? = W.heap[k]? := fun k hk hne => (hgrow.block k (by simp; omega) hne).trans (Below.heap_alloc _ _ _ hk)
  have gW : W.grownBy w1 vf.ownBlock := ⟨hgrow.os, hgrow.tape, hgrow.output, Nat.le_trans (by simp) hgrow.size, ga⟩
  have b1 : w1.heap[E]? = some (.cells #[v, vc, vf] 88 (0, 0)) := (ga E hEl (fun e => hcE E e.symm rfl)).trans h.blk
  have t1 : Tab w1 base v us rows := h.tab.kept gW (fun k e h2 => own_unlike h.fre h.tab.outer (by decide) e h2) (fun i hi k e h2 => own_unlike h.fre (h.tab.inner i hi) (by decide) e h2)
  have c1 : w1.ownsRow base 3 1 vc ch.length (natV ch) := h.cho.kept gW (by
    cases hv : vc.ownBlock with
    | none => exact .inl rfl
    | some b => exact .inr (fun e => h.ap b hv e.symm))
  have gs : w1.grownBy (w1.setCell ⟨E, 2, none⟩ vf') (some E) := ⟨rfl, rfl, rfl, by simp [World.setCell], fun k _ hk => Below.heap_setCell _ _ _ _ (fun e => hk (by rw [e]))⟩
  have kb : ∀ {e size m : Nat} {x : Value} {xs : List Value}, w1.ownsRow base e size x m xs → e ≠ 88 → (w1.setCell ⟨E, 2, none⟩ vf').ownsRow base e size x m xs := fun hx hd => hx.kept gs (by
    cases hv : Value.ownBlock _ with
    | none => exact .inl rfl
    | some b => exact .inr (by intro e; exact own_ne hx b1 hd b hv (by cases e; rfl)))
  rw [← natV_app, hn] at hown
  refine ⟨?_, h.lo, t1.kept gs (fun k e h2 => own_ne t1.outer b1 (by decide) k h2 (by cases e; rfl)) (fun i hi k e h2 => own_ne (t1.inner i hi) b1 (by decide) k h2 (by cases e; rfl)), kb c1 (by decide), kb hown (by decide), h.nc, fun e => by simp at e, fun c hc f hf => ?_⟩
  · simp [World.setCell, Array.getElem?_modify, b1]
  · rw [List.mem_append] at hf
    rcases hf with hf | hf
    · exact h.ne c hc f hf
    · simp at hf; subst hf; exact hne c hc
/-- an echelon with nothing chosen yet -/
theorem EchS.first {W : World} {base E : Nat} {v : Value} {us : List Value} {rows : List (List Fr)} (hb : W.heap[E]? = some (.cells #[v, .slice none 0 0, .slice none 0 0] 88 (0, 0))) (hE : base ≤ E) (t : Tab W base v us rows) :
    EchS W base E v (.slice none 0 0) (.slice none 0 0) us rows [] [] :=
  ⟨hb, hE, t, ⟨rfl, .inl ⟨rfl, rfl⟩⟩, ⟨rfl, .inl ⟨rfl, rfl⟩⟩, fun _ => rfl, fun _ => rfl, fun c h => by cases h⟩
theorem rw_len_pos {rows : List (List Fr)} {cols : Int} (h : tabB rows cols = true) : ∀ x, x < rows.length → (rw' rows x).length = (rw' rows 0).length := fun x hx => ((tabB_out h).2 x hx).1
end Go.Proofs.Ythnlcgilmljliaa

/- The echelon as the model reckons it, element by element, with what it remembers; the free columns. -/
namespace Go.Proofs.Ythnlcgilmljliaa
open Go.Proofs.Ythnlcgilmljliaa.RM

/-- the first j elements turned -/
def upto (f : Nat → Fr) (ps : List Fr) (j : Nat) : List Fr := (List.range ps.length).map fun i => if i < j then f i else fr ps i
theorem upto_len (f : Nat → Fr) (ps : List Fr) (j : Nat) : (upto f ps j).length = ps.length := by simp [upto]
theorem upto_at (f : Nat → Fr) (ps : List Fr) (j i : Nat) (h : i < ps.length) : fr (upto f ps j) i = if i < j then f i else fr ps i := by simp [upto, fr, h]
theorem fr_ext {a b : List Fr} (hl : a.length = b.length) (h : ∀ x, x < a.length → fr a x = fr b x) : a = b := by
  apply List.ext_getElem hl
  intro x h1 h2
  have := h x h1
  simpa [fr, h1, h2] using this
theorem fr_set (ps : List Fr) (k i : Nat) (r : Fr) (hk : k < ps.length) : fr (ps.set k r) i = if k = i then r else fr ps i := by
  unfold fr
  rw [List.getElem?_set]
  by_cases e : k = i
  · subst e; rw [if_pos rfl, if_pos rfl, if_pos hk]; rfl
  · rw [if_neg e, if_neg e]
theorem upto_zero (f : Nat → Fr) (ps : List Fr) : upto f ps 0 = ps := by
  apply fr_ext (upto_len _ _ _)
  intro x hx
  rw [upto_len] at hx
  rw [upto_at _ _ _ _ hx, if_neg (by omega)]
theorem upto_set (f : Nat → Fr) (ps : List Fr) (j : Nat) (hj : j < ps.length) : (upto f ps j).set j (f j) = upto f ps (j + 1) := by
  apply fr_ext (by simp [upto_len])
  intro x hx
  rw [List.length_set, upto_len] at hx
  rw [fr_set _ _ _ _ (by rw [upto_len]; exact hj), upto_at _ _ _ _ hx, upto_at _ _ _ _ hx]
  by_cases e : j = x
  · subst e; rw [if_pos rfl, if_pos (by omega)]
  · rw [if_neg e]
    by_cases e2 : x < j
    · rw [if_pos e2, if_pos (by omega)]
    · rw [if_neg e2, if_neg (by omega)]
theorem upto_all (f : Nat → Fr) (ps : List Fr) : upto f ps ps.length = (List.range ps.length).map f := by
  unfold upto
  apply List.map_congr_left
  intro x hx
  rw [List.mem_range] at hx
  rw [if_pos hx]
/-- the first k rows turned -/
def uptoT (f : Nat → List Fr) (rows : List (List Fr)) (k : Nat) : List (List Fr) := (List.range rows.length).map fun i => if i < k then f i else rw' rows i
theorem uptoT_len (f : Nat → List Fr) (rows : List (List Fr)) (k : Nat) : (uptoT f rows k).length = rows.length := by simp [uptoT]
theorem uptoT_at (f : Nat → List Fr) (rows : List (List Fr)) (k i : Nat) (h : i < rows.length) : rw' (uptoT f rows k) i = if i < k then f i else rw' rows i := by simp [uptoT, rw', h]
theorem uptoT_zero (f : Nat → List Fr) (rows : List (List Fr)) : uptoT f rows 0 = rows := by
  apply rows_ext (uptoT_len _ _ _)
  intro x hx
  rw [uptoT_len] at hx
  rw [uptoT_at _ _ _ _ hx, if_neg (by omega)]
theorem uptoT_set (f : Nat → List Fr) (rows : List (List Fr)) (k : Nat) (hk : k < rows.length) : (uptoT f rows k).set k (f k) = uptoT f rows (k + 1) := by
  apply rows_ext (by simp [uptoT_len])
  intro x hx
  rw [List.length_set, uptoT_len] at hx
  rw [rw_set _ _ _ _ (by rw [uptoT_len]; exact hk), uptoT_at _ _ _ _ hx, uptoT_at _ _ _ _ hx]
  by_cases e : k = x
  · subst e; rw [if_pos rfl, if_pos (by omega)]
  · rw [if_neg e]
    by_cases e2 : x < k
    · rw [if_pos e2, if_pos (by omega)]
    · rw [if_neg e2, if_neg (by omega)]
/-- a row that stays -/
theorem uptoT_same (f : Nat → List Fr) (rows : List (List Fr)) (k : Nat) (hk : k < rows.length) (h : f k = rw' rows k) : uptoT f rows k = uptoT f rows (k + 1) := by
  apply rows_ext (by simp [uptoT_len])
  intro x hx
  rw [uptoT_len] at hx
  rw [uptoT_at _ _ _ _ hx, uptoT_at _ _ _ _ hx]
  by_cases e : x = k
  · subst e; rw [if_neg (by omega), if_pos (by omega), h]
  · by_cases e2 : x < k
    · rw [if_pos e2, if_pos (by omega)]
    · rw [if_neg e2, if_neg (by omega)]
/-- was one of the first n so -/
def xTo (b : Nat → Bool) (n : Nat) : Bool := (List.range n).any b
theorem xTo_zero (b : Nat → Bool) : xTo b 0 = false := rfl
theorem xTo_succ (b : Nat → Bool) (n : Nat) : xTo b (n + 1) = (xTo b n || b n) := by simp [xTo, List.range_succ]
theorem xTo_not (b : Nat → Bool) (n : Nat) : xTo b n = !(List.range n).all (fun i => !b i) := by
  unfold xTo
  induction n with
  | zero => rfl
  | succ n ih => rw [List.range_succ, List.any_append, List.all_append, ih]; simp [Bool.not_and]
theorem xTo_congr {b c : Nat → Bool} {n : Nat} (h : ∀ i, i < n → b i = c i) : xTo b n = xTo c n := by
  induction n with
  | zero => rfl
  | succ n ih => rw [xTo_succ, xTo_succ, ih (fun i hi => h i (by omega)), h n (by omega)]
theorem xTo_no {b : Nat → Bool} {n : Nat} (h : xTo b n = false) : ∀ i, i < n → b i = false := by
  intro i hi
  induction n with
  | zero => omega
  | succ n ih =>
    rw [xTo_succ, Bool.or_eq_false_iff] at h
    by_cases e : i = n
    · subst e; exact h.2
    · exact ih h.1 (by omega)
/-- a row divided, as the model does; was something too great -/
def sDivF (row : List Fr) (f : Fr) : Nat → Fr := fun i => sDivE (fr row i) f
def sDivB (row : List Fr) (f : Fr) : Nat → Bool := fun i => !divK (fr row i) f
def sTakeF (other : List Fr) (t : Fr) (what : List Fr) : Nat → Fr := fun i => sTakeE (fr other i) t (fr what i)
def sTakeB (other : List Fr) (t : Fr) (what : List Fr) : Nat → Bool := fun i => sTakeX (fr other i) t (fr what i)
theorem map_fr (g : Fr → Fr) (row : List Fr) : (List.range row.length).map (fun i => g (fr row i)) = row.map g := by
  apply List.ext_getElem (by simp)
  intro x h1 h2
  simp at h1 h2
  simp [fr, h1]
theorem all_fr (g : Fr → Bool) (row : List Fr) : (List.range row.length).all (fun i => g (fr row i)) = row.all g := by
  rw [Bool.eq_iff_iff, List.all_eq_true, List.all_eq_true]
  constructor
  · intro h x hx
    obtain ⟨k, hk, rfl⟩ := List.mem_iff_getElem.1 hx
    have := h k (List.mem_range.2 hk)
    simpa [fr, hk] using this
  · intro h i hi
    rw [List.mem_range] at hi
    have := h row[i] (List.getElem_mem hi)
    simpa [fr, hi] using this
theorem sDiv_flag (row : List Fr) (f : Fr) : xTo (sDivB row f) row.length = !divB row f := by
  rw [xTo_not]
  unfold sDivB divB
  simp only [Bool.not_not]
  rw [all_fr (fun p => divK p f)]
theorem sDiv_same {row : List Fr} {f : Fr} (h : divB row f = true) : upto (sDivF row f) row row.length = divR row f := by
  rw [upto_all]
  unfold sDivF divR
  rw [map_fr (fun p => sDivE p f)]
  apply List.map_congr_left
  intro p hp
  unfold divB at h
  rw [List.all_eq_true] at h
  exact div_same (h p hp)
theorem sTake_flag (other : List Fr) (t : Fr) (what : List Fr) : xTo (sTakeB other t what) other.length = !takeB other t what := by
  rw [xTo_not]
  unfold sTakeB takeB
  simp only [take_bad, Bool.not_not]
theorem sTake_same {other : List Fr} {t : Fr} {what : List Fr} (h : takeB other t what = true) : upto (sTakeF other t what) other other.length = takeR other t what := by
  rw [upto_all]
  unfold sTakeF takeR
  apply List.map_congr_left
  intro i hi
  unfold takeB at h
  rw [List.all_eq_true] at h
  exact take_same (h i hi)
/-- the table when the row was exchanged and divided -/
def tabD (rows : List (List Fr)) (at' r col : Nat) : List (List Fr) := (swapT rows r at').set at' (upto (sDivF (rw' rows r) (fr (rw' rows r) col)) (rw' rows r) (rw' rows r).length)
theorem tabD_len (rows : List (List Fr)) (at' r col : Nat) : (tabD rows at' r col).length = rows.length := by simp [tabD, swapT]
/-- what the model makes of row i, and was something too great there -/
def sRowF (T : List (List Fr)) (at' col : Nat) : Nat → List Fr := fun i => if i = at' then rw' T i else upto (sTakeF (rw' T i) (fr (rw' T i) col) (rw' T at')) (rw' T i) (rw' T i).length
def sRowB (T : List (List Fr)) (at' col : Nat) : Nat → Bool := fun i => !decide (i = at') && xTo (sTakeB (rw' T i) (fr (rw' T i) col) (rw' T at')) (rw' T i).length
/-- a column's step of the model: all its flags, and its rows -/
theorem sStep_flag (rows : List (List Fr)) (at' r col : Nat) (h : at' < rows.length) :
    (xTo (sDivB (rw' rows r) (fr (rw' rows r) col)) (rw' rows r).length || xTo (sRowB (tabD rows at' r col) at' col) rows.length) = !stepB rows at' r col ∧ (stepB rows at' r col = true → uptoT (sRowF (tabD rows at' r col) at' col) (tabD rows at' r col) rows.length = stepT rows at' r col) := by
  rw [sDiv_flag]
  by_cases hd : divB (rw' rows r) (fr (rw' rows r) col) = true
  · have hT : ∀ x, x < rows.length → rw' (tabD rows at' r col) x = if at' = x then divR (rw' rows r) (fr (rw' rows r) col) else rw' (swapT rows r at') x := by
      intro x hx
      unfold tabD
      rw [rw_set _ _ _ _ (by rw [swapT_len]; exact h), sDiv_same hd]
    have hB : xTo (sRowB (tabD rows at' r col) at' col) rows.length = !stepB rows at' r col := by
      rw [xTo_not]
      unfold stepB
      rw [hd, Bool.true_and]
      congr 1
      rw [Bool.eq_iff_iff, List.all_eq_true, List.all_eq_true]
      have key : ∀ i, i ∈ List.range rows.length → (!sRowB (tabD rows at' r col) at' col i) = (decide (i = at') || takeB (rw' (swapT rows r at') i) (fr (rw' (swapT rows r at') i) col) (divR (rw' rows r) (fr (rw' rows r) col))) := by
        intro i hi
        rw [List.mem_range] at hi
        unfold sRowB
        by_cases e : i = at'
        · simp [e]
        · rw [sTake_flag, hT i hi, hT at' h, if_neg (fun e' => e e'.symm), if_pos rfl]
          simp [e]
      constructor
      · intro hh i hi; rw [← key i hi]; exact hh i hi
      · intro hh i hi; rw [key i hi]; exact hh i hi
    refine ⟨by rw [hB, hd]; simp, fun hb => ?_⟩
    apply rows_ext (by rw [uptoT_len, tabD_len, stepT_len])
    intro x hx
    rw [uptoT_len, tabD_len] at hx
    rw [uptoT_at _ _ _ _ (by rw [tabD_len]; exact hx), if_pos hx, ← stepP_all, stepP_at _ _ _ _ _ _ hx, if_pos hx]
    unfold sRowF
    by_cases e : x = at'
    · subst e
      rw [if_pos rfl, if_pos rfl, hT x hx, if_pos rfl]
    · rw [if_neg e, if_neg e, hT x hx, hT at' h, if_neg (fun e' => e e'.symm), if_pos rfl]
      apply sTake_same
      unfold stepB at hb
      rw [hd, Bool.true_and, List.all_eq_true] at hb
      have := hb x (List.mem_range.2 hx)
      simpa [e] using this
  · rw [Bool.not_eq_true] at hd
    rw [hd, stepB_div hd]
    simp
/-- what both answer -/
def echK (rows : List (List Fr)) : Bool := (ech rows).isSome
def echR (rows : List (List Fr)) : List (List Fr) := match ech rows with | some p => p.1 | none => []
def echC (rows : List (List Fr)) : List Nat := match ech rows with | some p => p.2 | none => []
theorem ech_no {rows : List (List Fr)} (h : ech rows = none) : echK rows = false ∧ echR rows = [] ∧ echC rows = [] := by simp [echK, echR, echC, h]
theorem ech_yes {rows R : List (List Fr)} {ch : List Nat} (h : ech rows = some (R, ch)) : echK rows = true ∧ echR rows = R ∧ echC rows = ch := by simp [echK, echR, echC, h]
/-- the columns below col that were not chosen -/
def freeC (col : Nat) (ch : List Nat) : List Nat := (List.range col).filter fun c => !ch.contains c
theorem freeC_free {col : Nat} {ch : List Nat} (h : ∀ c, c ∈ ch → c < col) : freeC (col + 1) ch = freeC col ch ++ [col] := by
  unfold freeC
  rw [List.range_succ, List.filter_append]
  have : ch.contains col = false := by
    rw [← Bool.not_eq_true, List.contains_iff_mem]
    intro hc
    have := h col hc
    omega
  simp [List.filter_cons]
  intro hc
  have := h col hc
  omega
theorem freeC_yes {col : Nat} {ch : List Nat} : freeC (col + 1) (ch ++ [col]) = freeC col ch := by
  unfold freeC
  rw [List.range_succ, List.filter_append]
  have h1 : List.filter (fun c => !(ch ++ [col]).contains c) [col] = [] := by simp
  rw [h1, List.append_nil]
  apply List.filter_congr
  intro x hx
  rw [List.mem_range] at hx
  have : x ≠ col := by omega
  simp [this]
theorem freeC_lt {col : Nat} {ch : List Nat} : ∀ f, f ∈ freeC col ch → f < col := by
  intro f hf
  unfold freeC at hf
  rw [List.mem_filter, List.mem_range] at hf
  exact hf.1
/-- the state ahead of column col -/
structure EInv (rows0 : List (List Fr)) (L col : Nat) (rows : List (List Fr)) (ch fe : List Nat) : Prop where
  is : ech rows0 = echF (L - col) col rows ch
  len : rows.length = rows0.length
  row : ∀ x, x < rows.length → (rw' rows x).length = L
  cl : ch.length ≤ rows.length
  chs : ∀ c, c ∈ ch → c < col
  fes : fe = freeC col ch
theorem EInv.start {rows0 : List (List Fr)} {L : Nat} (hL : L = (rw' rows0 0).length) (h : ∀ x, x < rows0.length → (rw' rows0 x).length = L) : EInv rows0 L 0 rows0 [] [] :=
  ⟨by rw [hL]; rfl, rfl, h, Nat.zero_le _, fun c hc => absurd hc (by simp), rfl⟩
theorem EInv.fl {rows0 rows : List (List Fr)} {L col : Nat} {ch fe : List Nat} (h : EInv rows0 L col rows ch fe) : ∀ f, f ∈ fe → col ≠ f := by
  intro f hf
  rw [h.fes] at hf
  have := freeC_lt f hf
  omega
theorem EInv.cn {rows0 rows : List (List Fr)} {L col : Nat} {ch fe : List Nat} (h : EInv rows0 L col rows ch fe) : ∀ c, c ∈ ch → c ≠ col := by
  intro c hc
  have := h.chs c hc
  omega
theorem EInv.free {rows0 rows : List (List Fr)} {L col : Nat} {ch fe : List Nat} (h : EInv rows0 L col rows ch fe) (hc : col < L) (hz : ∀ x, ch.length ≤ x → x < rows.length → (fr (rw' rows x) col).1 = 0) : EInv rows0 L (col + 1) rows ch (fe ++ [col]) := by
  have hp : piv rows col ch.length = rows.length := by
    unfold piv
    rw [pivF_none rows col _ _ (fun x h1 h2 => hz x h1 (by omega))]
    have := h.cl
    omega
  refine ⟨?_, h.len, h.row, h.cl, fun c hx => by have := h.chs c hx; omega, by rw [freeC_free h.chs, ← h.fes]⟩
  rw [h.is, show L - col = (L - (col + 1)) + 1 by omega, echF_free hp]
theorem EInv.piv {rows0 rows : List (List Fr)} {L col i : Nat} {ch fe : List Nat} (_h : EInv rows0 L col rows ch fe) (h1 : ch.length ≤ i) (h2 : i < rows.length) (hz : ∀ x, ch.length ≤ x → x < i → (fr (rw' rows x) col).1 = 0) (hn : (fr (rw' rows i) col).1 ≠ 0) : i = piv rows col ch.length :=
  (pivF_is rows col _ _ i h1 (by omega) hz hn).symm
theorem EInv.yes {rows0 rows : List (List Fr)} {L col i : Nat} {ch fe : List Nat} (h : EInv rows0 L col rows ch fe) (hc : col < L) (h1 : ch.length ≤ i) (h2 : i < rows.length) (hz : ∀ x, ch.length ≤ x → x < i → (fr (rw' rows x) col).1 = 0) (hn : (fr (rw' rows i) col).1 ≠ 0) (hb : stepB rows ch.length i col = true) : EInv rows0 L (col + 1) (stepT rows ch.length i col) (ch ++ [col]) fe := by
  refine ⟨?_, by rw [stepT_len]; exact h.len, stepT_row h.row (by omega) h2, by rw [stepT_len]; simp; omega, fun c hx => ?_, by rw [freeC_yes, ← h.fes]⟩
  · rw [h.is, show L - col = (L - (col + 1)) + 1 by omega, echF_yes (h.piv h1 h2 hz hn) (by omega) hb]
  · rw [List.mem_append] at hx
    rcases hx with hx | hx
    · have := h.chs c hx; omega
    · simp at hx; omega
theorem EInv.no {rows0 rows : List (List Fr)} {L col i : Nat} {ch fe : List Nat} (h : EInv rows0 L col rows ch fe) (hc : col < L) (h1 : ch.length ≤ i) (h2 : i < rows.length) (hz : ∀ x, ch.length ≤ x → x < i → (fr (rw' rows x) col).1 = 0) (hn : (fr (rw' rows i) col).1 ≠ 0) (hb : stepB rows ch.length i col = false) : ech rows0 = none := by
  rw [h.is, show L - col = (L - (col + 1)) + 1 by omega, echF_no (h.piv h1 h2 hz hn) (by omega) hb]
theorem EInv.stop {rows0 rows : List (List Fr)} {L : Nat} {ch fe : List Nat} (h : EInv rows0 L L rows ch fe) : ech rows0 = some (rows, ch) := by
  rw [h.is, Nat.sub_self]; rfl
/-- what both answer, whatever came in -/
def echO (rows : List (List Fr)) : Bool := tabB rows 6 && echK rows
def echA (rows : List (List Fr)) : List (List Fr) := if echO rows then echR rows else []
def echCh (rows : List (List Fr)) : List Nat := if echO rows then echC rows else []
def echFe (rows : List (List Fr)) : List Nat := if echO rows then freeC (rw' rows 0).length (echC rows) else []
theorem echO_no {rows : List (List Fr)} (h : echO rows = false) : echA rows = [] ∧ echCh rows = [] ∧ echFe rows = [] := by simp [echA, echCh, echFe, h]
theorem echO_yes {rows : List (List Fr)} (h : echO rows = true) : echA rows = echR rows ∧ echCh rows = echC rows ∧ echFe rows = freeC (rw' rows 0).length (echC rows) := by simp [echA, echCh, echFe, h]
end Go.Proofs.Ythnlcgilmljliaa

/- The walk of the program's echelonOf. -/
namespace Go.Proofs.Ythnlcgilmljliaa
open Go.RowKit Go.Proofs.Ythnlcgilmljliaa.RM

theorem own_nil {W : World} {base : Nat} {e : TypeId} {size : Nat} : W.ownsRow base e size (.slice none 0 0) 0 [] := ⟨by simp, .inl ⟨rfl, rfl⟩⟩
/-- what echelonOf answers -/
def IEchP (w : World) (rows : List (List Fr)) (e : Ending) (w' : World) : Prop :=
  ∃ vm vc vf us, e = .returned (.tuple #[.agg #[vm, vc, vf], .bool (echO rows)]) ∧ Tab w' w.heap.size vm us (echA rows) ∧ w'.ownsRow w.heap.size 3 1 vc (echCh rows).length (natV (echCh rows)) ∧ w'.ownsRow w.heap.size 3 1 vf (echFe rows).length (natV (echFe rows)) ∧ Below w.heap.size w w'
theorem IEchP.no {w w' : World} {rows : List (List Fr)} (h : echO rows = false) (hb : Below w.heap.size w w') : IEchP w rows (.returned (.tuple #[.agg #[.slice none 0 0, .slice none 0 0, .slice none 0 0], .bool false])) w' := by
  obtain ⟨h1, h2, h3⟩ := echO_no h
  refine ⟨_, _, _, [], by rw [h], ?_, ?_, ?_, hb⟩
  · rw [h1]; exact Tab.empty own_nil
  · rw [h2]; exact own_nil
  · rw [h3]; exact own_nil
theorem IEchP.yes {w w' : World} {rows R : List (List Fr)} {ch fe : List Nat} {L B : Nat} {vm vc vf : Value} {us : List Value} (ht : tabB rows 6 = true) (hL : L = (rw' rows 0).length) (hi : EInv rows L L R ch fe) (hB : w.heap.size ≤ B) (t : Tab w' B vm us R) (hc : w'.ownsRow B 3 1 vc ch.length (natV ch)) (hf : w'.ownsRow B 3 1 vf fe.length (natV fe)) (hb : Below w.heap.size w w') :
    IEchP w rows (.returned (.tuple #[.agg #[vm, vc, vf], .bool true])) w' := by
  obtain ⟨k1, k2, k3⟩ := ech_yes hi.stop
  have ho : echO rows = true := by unfold echO; rw [ht, k1]; rfl
  obtain ⟨h1, h2, h3⟩ := echO_yes ho
  refine ⟨vm, vc, vf, us, by rw [ho], ?_, ?_, ?_, hb⟩
  · rw [h1, k2]; exact t.le hB
  · rw [h2, k3]; exact own_le hc hB
  · rw [h3, k3, ← hL, ← hi.fes]; exact own_le hf hB

set_option maxRecDepth 1000000 in
set_option maxHeartbeats 4000000 in
theorem iEch_any (v : Value) (rows : List (List Fr)) (w : World) (h : RdT w v rows) :
    Calls Try.prog 62 #[v] w fun e w' => IEchP w rows e w' := by
  have HA : Hid (RdT w v rows) := h
  obtain ⟨pa, ca, rfl, -, -, -, -⟩ := h
  obtain ⟨qa, hqa⟩ : ∃ q, q = tabB rows 6 := ⟨_, rfl⟩
  have HQA : Hid (qa = tabB rows 6) := hqa
  have CA : Hid (∀ W : World, RdT W (.slice pa rows.length ca) rows → Calls Try.prog 61 #[.slice pa rows.length ca] W fun e w' => e = .returned (.bool qa) ∧ Below W.heap.size W w') := by
    intro W hW; rw [hqa]; exact iTab_any _ rows W hW
  clear hqa
  cases qa
  · have HO : Hid (echO rows = false) := by show _ = _; unfold echO; rw [← HQA.out]; rfl
    go_enter Try.func62, Try.ntmps62
    go_wp2
    go_step3
    go_wp2_with (go_at_call 61; refine (CA.out _ (HA.out.below ((Below.refl _ _).alloc (Nat.le_refl _) _))).mono ?_; rintro e w1 ⟨rfl, hb1⟩; have hbk := (hb1.block w.heap.size (by simp)).trans (World.alloc_heap_new w (.cells #[.slice none 0 0, .slice none 0 0, .slice none 0 0] 88)); have B1 : Below w.heap.size w w1 := ((Below.refl _ _).alloc (Nat.le_refl _) _).trans (hb1.mono (by simp)); obtain ⟨e0, e1, e2, z0, z1, z2, hEl⟩ := cells3 hbk; clear hb1 hbk)
    try rw [Exit.noGoto_ret]
    exact bodyPost_ret (v := .tuple #[.agg #[.slice none 0 0, .slice none 0 0, .slice none 0 0], .bool false]) (by simp [results, Try.results62, go_sem, e0, e1, e2]) rfl (IEchP.no HO.out (((B1.setCell (p := ⟨w.heap.size, 0, none⟩) (Nat.le_refl _) _).setCell (p := ⟨w.heap.size, 1, none⟩) (Nat.le_refl _) _).setCell (p := ⟨w.heap.size, 2, none⟩) (Nat.le_refl _) _))
  obtain ⟨⟨ta1, ta2, ta3, ta4⟩, tar⟩ := tabB_out HQA.out.symm
  obtain ⟨L, hL⟩ : ∃ L, L = (rw' rows 0).length := ⟨_, rfl⟩
  have HL : Hid (L = (rw' rows 0).length) := hL
  rw [← hL] at ta3 ta4
  have TAR : Hid (∀ k, k < rows.length → (rw' rows k).length = L) := fun k hk => by rw [(tar k hk).1, hL]
  have hL6 : L ≤ 6 := by omega
  clear tar ta4 hL
  go_enter Try.func62, Try.ntmps62
  go_wp2
  go_step3
  go_upto_region 3 with (go_at_call 61; refine (CA.out _ (HA.out.below ((Below.refl _ _).alloc (Nat.le_refl _) _))).mono ?_; rintro e w1 ⟨rfl, hb1⟩)
  have hbk := (hb1.block w.heap.size (by simp)).trans (World.alloc_heap_new w (.cells #[.slice none 0 0, .slice none 0 0, .slice none 0 0] 88))
  have hR0 : w.heap.size < w1.heap.size := by have := hb1.size; simp at this; omega
  have B1 : Below w.heap.size w w1 := ((Below.refl _ _).alloc (Nat.le_refl _) _).trans (hb1.mono (by simp))
  clear hb1
  have HCP := hid (iCopied_any (.slice pa rows.length ca) rows w1 (HA.out.below B1) (by omega) (fun i hi => by rw [TAR.out i hi]; omega))
  go_upto_region 4 with (go_at_call 79; refine (HCP.out).mono ?_; rintro e w2 ⟨u, us, rfl, T2, hb2⟩; obtain ⟨G, cG, rfl⟩ := own_some T2.outer (by rw [T2.len]; omega))
  have hbk2 := (hb2.block w.heap.size hR0).trans hbk
  have hul := T2.len
  obtain ⟨N, hN⟩ : ∃ n, n = us.length := ⟨_, rfl⟩
  have hNr : N = rows.length := hN.trans hul
  have hs2 : w1.heap.size ≤ w2.heap.size := hb2.size
  have S0 := EchS.first (base := w1.heap.size) (World.alloc_heap_new w2 (.cells #[.slice (some ⟨G, 0, none⟩) us.length cG, .slice none 0 0, .slice none 0 0] 88)) hs2 (T2.below ((Below.refl _ _).alloc (Nat.le_refl _) _))
  have hbk3 : (w2.alloc (.cells #[.slice (some ⟨G, 0, none⟩) us.length cG, .slice none 0 0, .slice none 0 0] 88)).heap[w.heap.size]? = some (.cells #[.slice none 0 0, .slice none 0 0, .slice none 0 0] 88 (0, 0)) := by rw [Below.heap_alloc _ _ _ (by omega)]; exact hbk2
  have B3 : Below w.heap.size w (w2.alloc (.cells #[.slice (some ⟨G, 0, none⟩) us.length cG, .slice none 0 0, .slice none 0 0] 88)) := (B1.trans (hb2.mono B1.size)).alloc (by omega) _
  obtain ⟨X, hX⟩ : ∃ X, X = w2.alloc (.cells #[.slice (some ⟨G, 0, none⟩) us.length cG, .slice none 0 0, .slice none 0 0] 88) := ⟨_, rfl⟩
  obtain ⟨E, hE⟩ : ∃ E, E = w2.heap.size := ⟨_, rfl⟩
  rw [← hX, ← hE] at S0
  rw [← hX] at hbk3 B3
  have hXB : w1.heap.size ≤ X.heap.size := by rw [hX]; simp; omega
  rw [← hX, ← hE, ← hN]
  clear hX hbk2 hbk hb2 HCP T2
  obtain ⟨B, hB⟩ : ∃ B, B = w1.heap.size := ⟨_, rfl⟩
  rw [← hB] at S0 hR0 hs2 hXB
  have hwB : w.heap.size ≤ B := by omega
  rw [← hN] at S0
  have hdim := TAR.out
  have I0 := EInv.start (rows0 := rows) (L := L) HL.out hdim
  have ho := S0.tab.outer
  rw [← hN] at ho
  have c0 := ho.cellAt 0 (by omega)
  obtain ⟨b0, d0, hu0⟩ := own_some (S0.tab.inner 0 (by omega)) (by rw [hdim 0 (by omega)]; omega)
  rw [hdim 0 (by omega)] at hu0
  rw [show us[0]? = some (vl us 0) by unfold vl; rw [List.getElem?_eq_getElem (by omega)]; rfl, hu0] at c0
  obtain ⟨e0, e1, e2, z0, z1, z2, hEl⟩ := cells3 S0.blk
  have HS0 := hid S0
  have HI0 := hid I0
  have HB3 := hid B3
  have HBK := hid hbk3
  have HNN := hid hNr
  have hN6 : N ≤ 6 := by omega
  have hN1 : 1 ≤ N := by omega
  clear S0 I0 B3 hbk3 hdim ho hu0 hul hB B1 hE hN hNr
  go_step3
  go_wp2
  clear c0 e0 e1 e2 z0 z1 z2 hEl
  go_loopg [19] L (fun g i wr => ∃ (col : Nat) (vc vf : Value) (us' : List Value) (R : List (List Fr)) (ch fe : List Nat), col + g = L ∧ i = .int .i64 col ∧ Hid (EchS wr B E (.slice (some ⟨G, 0, none⟩) N cG) vc vf us' R ch fe) ∧ Hid (EInv rows L col R ch fe) ∧ Hid (Below B X wr))
  case atStart => exact ⟨0, _, _, us, rows, [], [], by omega, rfl, HS0.out, HI0.out, Below.refl _ _⟩
  case round =>
    clear HS0 HI0
    obtain ⟨col, vc, vf, us', R, ch, fe, hcg, rfl, hS, hI, hBl⟩ := hrel
    cases gk with
    | zero =>
      obtain rfl : col = L := by omega
      obtain ⟨e0, e1, e2, z0, z1, z2, hEl⟩ := cells3 hS.out.blk
      have hr := (hBl.out.block w.heap.size hR0).trans HBK.out
      obtain ⟨r0, r1, r2, y0, y1, y2, _⟩ := cells3 hr
      obtain ⟨ac, cc, rfl⟩ := own_shape hS.out.cho
      obtain ⟨af, cf, rfl⟩ := own_shape hS.out.fre
      go_wp2
      have hg : wr.grownBy (((wr.setCell ⟨w.heap.size, 0, none⟩ (.slice (some ⟨G, 0, none⟩) N cG)).setCell ⟨w.heap.size, 1, none⟩ (.slice ac ch.length cc)).setCell ⟨w.heap.size, 2, none⟩ (.slice af fe.length cf)) (some w.heap.size) := g_set (g_set (g_set (g_refl wr _) (.inr rfl) 0 _) (.inr rfl) 1 _) (.inr rfl) 2 _
      try rw [Exit.noGoto_ret]
      exact bodyPost_ret (v := .tuple #[.agg #[.slice (some ⟨G, 0, none⟩) N cG, .slice ac ch.length cc, .slice af fe.length cf], .bool true]) (by simp [results, Try.results62, go_sem, r0, r1, r2]) rfl (IEchP.yes HQA.out.symm HL.out hI.out hwB (hS.out.tab.g hg hR0) (own_g hg hS.out.cho hR0) (own_g hg hS.out.fre hR0) ((((HB3.out.trans (hBl.out.mono hwB)).setCell (p := ⟨w.heap.size, 0, none⟩) (Nat.le_refl _) _).setCell (p := ⟨w.heap.size, 1, none⟩) (Nat.le_refl _) _).setCell (p := ⟨w.heap.size, 2, none⟩) (Nat.le_refl _) _))
    | succ g =>
      have hlt : col < L := by omega
      have hcl1 := hI.out.cl
      have hRl := hI.out.len
      have hchs : Hid (∀ c, c ∈ ch → c ≠ col) := hI.out.cn
      have hfes : Hid (∀ f, f ∈ fe → col ≠ f) := hI.out.fl
      have hus : us'.length = N := by have := hS.out.tab.len; have := HNN.out; omega
      obtain ⟨nf, hnf⟩ : ∃ n, n = ch.length := ⟨_, rfl⟩
      have HNF : Hid (nf = ch.length) := hnf
      have hnN : nf ≤ N := by have := HNN.out; omega
      have HUS := hid hus
      have HRL : Hid (R.length = N) := by show _ = _; have := HNN.out; omega
      obtain ⟨ac, cc, rfl⟩ := own_shape hS.out.cho
      obtain ⟨e0, e1, e2, z0, z1, z2, hEl⟩ := cells3 hS.out.blk
      rw [← hnf] at e1 hS
      clear hcl1 hRl hnf hus
      go_wp2
      clear e0 e1 e2 z0 z1 z2 hEl
      go_loopg [6] (N - nf) (fun g2 i wr2 => ∃ k : Nat, nf ≤ k ∧ k + g2 = N ∧ i = .int .i64 k ∧ Hid (EchS wr2 B E (.slice (some ⟨G, 0, none⟩) N cG) (.slice ac nf cc) vf us' R ch fe) ∧ Hid (Below B X wr2) ∧ Hid (∀ x, nf ≤ x → x < k → (fr (rw' R x) col).1 = 0))
      case atStart => exact ⟨nf, Nat.le_refl _, by omega, rfl, hS.out, hBl.out, fun x h1 h2 => by omega⟩
      case round =>
        clear hS hBl
        obtain ⟨k, hk1, hkg, rfl, hS, hBl, hZ⟩ := hrel
        cases gk with
        | zero =>
          obtain rfl : k = N := by omega
          obtain ⟨af, cf, rfl⟩ := own_shape hS.out.fre
          obtain ⟨nff, hnff⟩ : ∃ n, n = fe.length := ⟨_, rfl⟩
          have hff : nff ≤ 6 := by
            have h1 := hI.out.fes
            have h2 : (freeC col ch).length ≤ col := by unfold freeC; have := List.length_filter_le (fun c => !ch.contains c) (List.range col); simpa using this
            rw [hnff, h1]; omega
          have HFC : Hid (wr.ownsRow B 3 1 (.slice af nff cf) nff (natV fe)) := by show World.ownsRow _ _ _ _ _ _ _; rw [hnff]; exact hS.out.fre
          have HNFF := hid hnff
          obtain ⟨e0, e1, e2, z0, z1, z2, hEl⟩ := cells3 hS.out.blk
          rw [← hnff] at e2 hS
          have hws : B ≤ wr.heap.size := by have := hBl.out.size; omega
          obtain ⟨t0, hti, htz0, htz1, htz2⟩ := info_parts infoInt
          clear hnff
          go_wp2_with (at_builtin; go_must (refine wpList_append_own _ rfl _ _ 86 rfl B 3 t0 (.int .i64 0) 1 8 Try.underlying86 hti htz0 htz1 htz2 rfl (by decide) _ _ _ rfl (World.ownsRow.alloc HFC.out _) ⟨wr.heap.size, 0, none⟩ 1 1 [.int .i64 col] rfl rfl (cell_one_new _ _ _) (by simp [Value.oneCell']) (by unfold maxLen; omega) (by omega) (by simp; omega) ?_); intro v' w3 hown' hgrow _; go_must (obtain ⟨a3, c3, rfl⟩ := own_shape hown'); go_must (have hb3 := hS.out.grownBlkF hgrow); obtain ⟨q0, q1, q2, y0, y1, y2, hq⟩ := cells3 hb3)
          go_roundg g
          case measure => omega
          case rel => exact ⟨col + 1, _, .slice a3 (nff + 1) c3, us', R, ch, fe ++ [col], by omega, by go_num, hS.out.pushF hown' (by rw [HNFF.out]; simp) hgrow hchs.out, hI.out.free hlt (fun x h1 h2 => hZ.out x (by rw [HNF.out]; exact h1) (by rw [HRL.out] at h2; exact h2)), (hBl.out.trans (below_appended HFC.out hws hgrow)).setCell (p := ⟨E, 2, none⟩) (by show B ≤ E; exact hS.out.lo) _⟩
        | succ g2 =>
          have hkN : k < N := by omega
          obtain ⟨e0, e1, e2, z0, z1, z2, hEl⟩ := cells3 hS.out.blk
          have ho := hS.out.tab.outer
          rw [HUS.out] at ho
          have ck := ho.cellAt k (by omega)
          have hin := hS.out.tab.inner k (by rw [HUS.out]; exact hkN)
          have hRL := hI.out.row k (by rw [HRL.out]; exact hkN)
          rw [hRL] at hin
          obtain ⟨bk, dk, ek⟩ := own_some hin (by omega)
          rw [show us'[k]? = some (vl us' k) by unfold vl; rw [List.getElem?_eq_getElem (by have := HUS.out; omega)]; rfl, ek] at ck
          rw [ek] at hin
          obtain ⟨g1, g2'⟩ := own_R hin hRL col hlt
          obtain ⟨f, hf⟩ : ∃ f, f = fr (rw' R k) col := ⟨_, rfl⟩
          rw [show (rw' R k)[col]?.getD (0, 0) = f from hf.symm] at g1 g2'
          obtain ⟨f1, f2⟩ := f
          have HF := hid hf
          clear ho hin hRL ek hf
          by_cases hf0 : f1 = 0
          · subst hf0
            go_wp2
            go_roundg g2
            case measure => omega
            case rel =>
              refine ⟨k + 1, by omega, by omega, by go_num, hS.out, hBl.out, fun x h1 h2 => ?_⟩
              by_cases e : x = k
              · subst e; rw [← HF.out]
              · exact hZ.out x h1 (by omega)
          · have hpv : (fr (rw' R k) col).1 ≠ 0 := by rw [← HF.out]; exact hf0
            have HCH := hid (choose_any B E k col L _ _ vf us' R ch fe wr hS.out hfes.out (by rw [← HNF.out]; exact hk1) (by rw [HRL.out]; exact hkN) hlt (by omega) (by rw [HRL.out]; omega) (hI.out.row))
            have HPV := hid hpv
            clear hpv
            obtain ⟨q, hq⟩ : ∃ q, q = stepB R ch.length k col := ⟨_, rfl⟩
            have HQ := hid hq
            clear hq
            cases q
            · go_wp2_with (go_at_call 80; refine (HCH.out).mono ?_; rintro e w5 ⟨re, _, hb5⟩; rw [← HQ.out] at re; subst re; obtain ⟨r0, r1, r2, y0, y1, y2, _⟩ := cells3 (((hBl.out.trans hb5).block w.heap.size hR0).trans HBK.out))
              have hno := (ech_no (hI.out.no hlt (by rw [← HNF.out]; exact hk1) (by rw [HRL.out]; exact hkN) (by rw [← HNF.out]; exact hZ.out) HPV.out HQ.out.symm)).1
              have hO : echO rows = false := by unfold echO; rw [hno, Bool.and_false]
              try rw [Exit.noGoto_ret]
              exact bodyPost_ret (v := .tuple #[.agg #[.slice none 0 0, .slice none 0 0, .slice none 0 0], .bool false]) (by simp [results, Try.results62, go_sem, r0, r1, r2]) rfl (IEchP.no hO ((((HB3.out.trans ((hBl.out.trans hb5).mono hwB)).setCell (p := ⟨w.heap.size, 0, none⟩) (Nat.le_refl _) _).setCell (p := ⟨w.heap.size, 1, none⟩) (Nat.le_refl _) _).setCell (p := ⟨w.heap.size, 2, none⟩) (Nat.le_refl _) _))
            · go_wp2_with (go_at_call 80; refine (HCH.out).mono ?_; rintro e w5 ⟨re, st5, hb5⟩; rw [← HQ.out] at re; subst re)
              obtain ⟨vc', us'', S5⟩ := st5 HQ.out.symm
              go_roundg g
              case measure => omega
              case rel => exact ⟨col + 1, vc', vf, us'', _, _, fe, by omega, by go_num, S5, hI.out.yes hlt (by rw [← HNF.out]; exact hk1) (by rw [HRL.out]; exact hkN) (by rw [← HNF.out]; exact hZ.out) HPV.out HQ.out.symm, hBl.out.trans hb5⟩
end Go.Proofs.Ythnlcgilmljliaa

/- The model's echelon: its table, the reckoning that remembers, the chosen columns, told by one predicate. -/
namespace Go.Proofs.Ythnlcgilmljliaa
open Go.RowKit Go.Proofs.Ythnlcgilmljliaa.RM

theorem IsK.blk {W : World} {K : Nat} {b : Bool} (h : IsK W K b) : W.heap[K]? = some (.cells #[.bool b] 71 (0, 0)) := h
theorem Tab.gk {W W' : World} {base K : Nat} {bd : Bool} {v : Value} {us : List Value} {rows : List (List Fr)} (h : Tab W base v us rows) (hK : IsK W K bd) (hg : W.grownBy W' (some K)) : Tab W' base v us rows :=
  h.kept hg (fun k e h2 => own_ne h.outer hK.blk (by decide) k h2 (by cases e; rfl)) (fun i hi k e h2 => own_ne (h.inner i hi) hK.blk (by decide) k h2 (by cases e; rfl))
theorem own_gk {W W' : World} {base K n : Nat} {bd : Bool} {v : Value} {xs : List Value} (h : W.ownsRow base 3 1 v n xs) (hK : IsK W K bd) (hg : W.grownBy W' (some K)) : W'.ownsRow base 3 1 v n xs := h.kept hg (by
    cases hv : v.ownBlock with
    | none => exact .inl rfl
    | some b => exact .inr (by intro e; exact own_ne h hK.blk (by decide) b hv (by cases e; rfl)))
structure SEch (W : World) (base K : Nat) (bd : Bool) (o vc : Value) (us : List Value) (rows : List (List Fr)) (ch : List Nat) : Prop where
  tab : Tab W base o us rows
  kk : IsK W K bd
  kb : base ≤ K
  cho : W.ownsRow base 3 1 vc ch.length (natV ch)
theorem SEch.below {W W' : World} {base K : Nat} {bd : Bool} {o vc : Value} {us : List Value} {rows : List (List Fr)} {ch : List Nat} (h : SEch W base K bd o vc us rows ch) (hb : Below W.heap.size W W') : SEch W' base K bd o vc us rows ch :=
  ⟨h.tab.below hb, h.kk.below hb, h.kb, own_below h.cho hb⟩
/-- a call that only remembers -/
theorem SEch.call {W W' : World} {base K : Nat} {bd bd' : Bool} {o vc : Value} {us : List Value} {rows : List (List Fr)} {ch : List Nat} (h : SEch W base K bd o vc us rows ch) (hk : IsK W' K bd') (hg : W.grownBy W' (some K)) : SEch W' base K bd' o vc us rows ch :=
  ⟨h.tab.gk h.kk hg, hk, h.kb, own_gk h.cho h.kk hg⟩
/-- a row is turned -/
theorem SEch.turn {W W' : World} {base K k : Nat} {bd : Bool} {o vc : Value} {us : List Value} {rows : List (List Fr)} {ps : List Fr} {ch : List Nat} (h : SEch W base K bd o vc us rows ch) (hk : k < us.length)
    (hu : W'.ownsRow base 33 2 (vl us k) ps.length (cellsR ps)) (hg : W.grownBy W' (vl us k).ownBlock) : SEch W' base K bd o vc us (rows.set k ps) ch := by
  have hne := own_ne (h.tab.inner k hk) h.kk.blk (by decide)
  exact ⟨h.tab.turn hk hu hg, (hg.block K h.kk.lt (fun e => hne K e.symm rfl)).trans h.kk, h.kb, own_oth h.cho (h.tab.inner k hk) (by decide) hg⟩
/-- two rows are exchanged -/
theorem SEch.swap {W : World} {base K G n c i r : Nat} {bd : Bool} {vc : Value} {us : List Value} {rows : List (List Fr)} {ch : List Nat} (h : SEch W base K bd (.slice (some ⟨G, 0, none⟩) n c) vc us rows ch) (hi : i < us.length) (hr : r < us.length) :
    SEch ((W.setCell ⟨G, i, none⟩ (vl us r)).setCell ⟨G, r, none⟩ (vl us i)) base K bd (.slice (some ⟨G, 0, none⟩) n c) vc ((us.set i (vl us r)).set r (vl us i)) (swapT rows i r) ch := by
  obtain ⟨t, g⟩ := h.tab.swap hi hr
  have hGK : G ≠ K := own_ne h.tab.outer h.kk.blk (by decide) G rfl
  have hg : W.grownBy ((W.setCell ⟨G, i, none⟩ (vl us r)).setCell ⟨G, r, none⟩ (vl us i)) (Value.slice (some ⟨G, 0, none⟩) n c).ownBlock := g
  exact ⟨t, (g.block K h.kk.lt (fun e => hGK (by cases e; rfl))).trans h.kk, h.kb, own_oth h.cho h.tab.outer (by decide) hg⟩
/-- a column is chosen -/
theorem SEch.push {W w1 : World} {base K col n : Nat} {bd : Bool} {o vc vc' : Value} {us : List Value} {rows : List (List Fr)} {ch : List Nat} {tmp : Obj} (h : SEch W base K bd o vc us rows ch)
    (hown : w1.ownsRow base 3 1 vc' n (natV ch ++ [Value.int .i64 (col : Int)])) (hn : n = (ch ++ [col]).length) (hgrow : (W.alloc tmp).grownBy w1 vc.ownBlock) : SEch w1 base K bd o vc' us rows (ch ++ [col]) := by
  have hcK := own_ne h.cho h.kk.blk (by decide)
  have ga : ∀ k, k < W.heap.size → some k ≠ vc.ownBlock → w1.heap[k]? = W.heap[k]? := fun k hk hne => (hgrow.block k (by simp; omega) hne).trans (Below.heap_alloc _ _ _ hk)
  have gW : W.grownBy w1 vc.ownBlock := ⟨hgrow.os, hgrow.tape, hgrow.output, Nat.le_trans (by simp) hgrow.size, ga⟩
  rw [← natV_app, hn] at hown
  exact ⟨h.tab.kept gW (fun k e h2 => own_unlike h.cho h.tab.outer (by decide) e h2) (fun i hi k e h2 => own_unlike h.cho (h.tab.inner i hi) (by decide) e h2), (ga K h.kk.lt (fun e => hcK K e.symm rfl)).trans h.kk, h.kb, hown⟩
/-- what l3Echelon answers -/
def SEchP (w : World) (rows : List (List Fr)) (e : Ending) (w' : World) : Prop :=
  ∃ vm vc us, e = .returned (.tuple #[vm, vc, .bool (echK rows)]) ∧ Tab w' w.heap.size vm us (echR rows) ∧ w'.ownsRow w.heap.size 3 1 vc (echC rows).length (natV (echC rows)) ∧ Below w.heap.size w w'
theorem takeS (rows : List (List Fr)) (k : Nat) (hk : k < rows.length) : rows.take k ++ [rw' rows k] = rows.take (k + 1) := by
  rw [List.take_add_one, List.getElem?_eq_getElem hk]
  simp [rw', hk]
theorem kDiv (K : Nat) (bd : Bool) (x1 x2 y1 y2 : Int) (w : World) (hK : IsK w K bd) :
    Calls Try.prog 83 #[.pointer (some ⟨K, 0, none⟩), .agg #[.int .i64 x1, .int .i64 x2], .agg #[.int .i64 y1, .int .i64 y2]] w fun e w' =>
      e = .returned (.agg #[.int .i64 (sDivE (x1, x2) (y1, y2)).1, .int .i64 (sDivE (x1, x2) (y1, y2)).2]) ∧ IsK w' K (bd || !divK (x1, x2) (y1, y2)) ∧ w.grownBy w' (some K) := cDiv_any K bd x1 x2 y1 y2 w hK
theorem kSub (K : Nat) (bd : Bool) (x1 x2 y1 y2 : Int) (w : World) (hK : IsK w K bd) :
    Calls Try.prog 51 #[.pointer (some ⟨K, 0, none⟩), .agg #[.int .i64 x1, .int .i64 x2], .agg #[.int .i64 y1, .int .i64 y2]] w fun e w' =>
      e = .returned (.agg #[.int .i64 (keepF (subK (x1, x2) (y1, y2)) (subP (x1, x2) (y1, y2))).1, .int .i64 (keepF (subK (x1, x2) (y1, y2)) (subP (x1, x2) (y1, y2))).2]) ∧ IsK w' K (bd || !subK (x1, x2) (y1, y2)) ∧ w.grownBy w' (some K) := cSub_any K bd x1 x2 y1 y2 w hK
theorem own_gkR {W W' : World} {base K n b c L : Nat} {xs : List Value} (h : W.ownsRow base 33 2 (.slice (some ⟨b, 0, none⟩) n c) L xs) (hg : W.grownBy W' (some K)) (hne : b ≠ K) : W'.ownsRow base 33 2 (.slice (some ⟨b, 0, none⟩) n c) L xs := h.kept hg (.inr (by intro e; exact hne (by simpa [Value.ownBlock] using e)))
theorem set_same (rows : List (List Fr)) (k : Nat) (ps : List Fr) (h : k < rows.length) (e : rw' rows k = ps) : rows.set k ps = rows := by
  apply rows_ext (by simp)
  intro x hx
  rw [rw_set _ _ _ _ h]
  by_cases e2 : k = x
  · subst e2; rw [if_pos rfl, e]
  · rw [if_neg e2]
end Go.Proofs.Ythnlcgilmljliaa

/- The walk of the model's l3Echelon. -/
namespace Go.Proofs.Ythnlcgilmljliaa
open Go.RowKit Go.Proofs.Ythnlcgilmljliaa.RM

set_option maxRecDepth 1000000 in
set_option maxHeartbeats 4000000 in
theorem sEch_any (v : Value) (rows : List (List Fr)) (L : Nat) (w : World) (h : RdT w v rows) (hn1 : 1 ≤ rows.length) (hn2 : rows.length ≤ 1000) (hL1 : 1 ≤ L) (hL2 : L ≤ 1000) (hd : ∀ x, x < rows.length → (rw' rows x).length = L) :
    Calls Try.prog 74 #[v] w fun e w' => SEchP w rows e w' := by
  obtain ⟨i0, hi, hz0, hz1, hz2⟩ := info_parts infoF
  obtain ⟨t0, hti, htz0, htz1, htz2⟩ := info_parts infoT
  obtain ⟨pa, ca, rfl, -, -, -, h5⟩ := h
  have H5 : Hid (∀ i, i < rows.length → ∃ b off u, pa = some ⟨b, off, none⟩ ∧ w.cell? ⟨b, off + i, none⟩ = some u ∧ RdR w u (rw' rows i)) := h5
  have HD : Hid (∀ x, x < rows.length → (rw' rows x).length = L) := hd
  have b0 : ∀ (u : World) (o : Obj), Below u.heap.size u (u.alloc o) := fun u o => (Below.refl _ _).alloc (Nat.le_refl _) o
  obtain ⟨N, hN⟩ : ∃ n, n = rows.length := ⟨_, rfl⟩
  have HN := hid hN
  have H5N : Hid (∀ i, i < N → ∃ b off u, pa = some ⟨b, off, none⟩ ∧ w.cell? ⟨b, off + i, none⟩ = some u ∧ RdR w u (rw' rows i)) := by show ∀ i, _; rw [hN]; exact h5
  rw [← hN] at hn1 hn2 ⊢
  clear h5 hd hN
  go_enter Try.func74, Try.ntmps74
  go_wp2
  have o0 : Tab (w.alloc (.cells #[] 27)) w.heap.size (.slice (some ⟨w.heap.size, 0, none⟩) 0 0) [] (rows.take 0) := Tab.lit (Nat.le_refl _)
  have B0 : Below w.heap.size w (w.alloc (.cells #[] 27)) := b0 _ _
  go_loopg [5, 6] N (fun g q i wr => ∃ (o : Value) (k : Nat) (us : List Value), k + g = N ∧ i = .int .i64 k ∧ o = q ∧ us.length = k ∧ Hid (Tab wr w.heap.size o us (rows.take k)) ∧ Hid (Below w.heap.size w wr))
  case atStart => exact ⟨_, 0, [], by omega, rfl, rfl, rfl, o0, B0⟩
  case round =>
    clear o0 B0
    obtain ⟨o, k, us, hkg, rfl, rfl, hus, hT, hB⟩ := hrel
    have hsz := hB.out.size
    cases gk with
    | zero =>
      obtain rfl : k = N := by omega
      obtain ⟨G, cG, rfl⟩ := own_some hT.out.outer (by omega)
      rw [hus]
      have T0 : Tab wr w.heap.size (.slice (some ⟨G, 0, none⟩) k cG) us rows := by
        have := hT.out
        rw [HN.out, List.take_length] at this
        rw [hus] at this
        rw [HN.out]
        rw [HN.out] at this
        exact this
      have B1 := hB.out
      clear hT hB H5 H5N
      go_wp2
      obtain ⟨K, hK⟩ : ∃ K, K = wr.heap.size := ⟨_, rfl⟩
      obtain ⟨X, hX⟩ : ∃ X, X = (wr.alloc (.cells #[.bool false] 71)).alloc (.cells #[] 3) := ⟨_, rfl⟩
      have S0 : SEch X w.heap.size K false (.slice (some ⟨G, 0, none⟩) k cG) (.slice (some ⟨K + 1, 0, none⟩) 0 0) us rows [] := by
        have h4 := World.ownsRow_lit (wr.alloc (.cells #[.bool false] 71)) (base := w.heap.size) (e := 3) (size := 1) #[] 0 (by simp; omega) (Nat.zero_le _) rfl
        refine ⟨?_, ?_, by omega, ?_⟩
        · rw [hX]; exact (T0.below (b0 _ _)).below (b0 _ _)
        · rw [hX, hK]; exact (IsK.new wr false).below (b0 _ _)
        · rw [hX, hK]; simpa [natV] using h4
      have BX : Below w.heap.size w X := by rw [hX]; exact (B1.alloc hsz _).alloc (by simp; omega) _
      rw [← hX, ← hK]
      have I0 := EInv.start (rows0 := rows) (L := L) (HD.out 0 (by have := HN.out; omega)).symm HD.out
      obtain ⟨N, hN⟩ : ∃ n, n = k := ⟨_, rfl⟩
      rw [← hN] at S0 hn1 hn2 HN ⊢
      have hKl : w.heap.size ≤ K := by omega
      clear T0 B1 hX hN hus hsz hK
      go_loopg [8, 9] L (fun g q i wr => ∃ (col : Nat) (vc : Value) (us' : List Value) (R : List (List Fr)) (ch fe : List Nat), col + g = L ∧ i = .int .i64 col ∧ vc = q ∧ Hid (SEch wr w.heap.size K false (.slice (some ⟨G, 0, none⟩) N cG) vc us' R ch) ∧ Hid (EInv rows L col R ch fe) ∧ Hid (Below w.heap.size w wr))
      case atStart => exact ⟨0, _, us, rows, [], [], by omega, rfl, rfl, S0, I0, BX⟩
      case round =>
        clear S0 I0 BX
        obtain ⟨col, vc, us', R, ch, fe, hcg, rfl, rfl, hS, hI, hB⟩ := hrel
        have hRl := hI.out.len
        have hus : us'.length = N := by have := hS.out.tab.len; have := HN.out; omega
        have HRL : Hid (R.length = N) := by show _ = _; have := HN.out; omega
        have HUS := hid hus
        have ho := hS.out.tab.outer
        rw [hus] at ho
        have c0 := ho.cellAt 0 (by omega)
        obtain ⟨br0, dr0, hu0⟩ := own_some (hS.out.tab.inner 0 (by omega)) (by rw [hI.out.row 0 (by have := HRL.out; omega)]; omega)
        rw [hI.out.row 0 (by have := HRL.out; omega)] at hu0
        rw [show us'[0]? = some (vl us' 0) by unfold vl; rw [List.getElem?_eq_getElem (by omega)]; rfl, hu0] at c0
        clear ho hu0 hRl
        cases gk with
        | zero =>
          obtain rfl : col = L := by omega
          clear hus
          go_wp2
          obtain ⟨k1, k2, k3⟩ := ech_yes hI.out.stop
          refine bodyPost_ret (v := .tuple #[.slice (some ⟨G, 0, none⟩) N cG, vc, .bool true]) (by simp [results, Try.results74, go_sem]) rfl ⟨_, vc, us', by rw [k1], ?_, ?_, hB.out⟩
          · rw [k2]; exact hS.out.tab
          · rw [k3]; exact hS.out.cho
        | succ g =>
          have hlt : col < L := by omega
          have hcl1 := hI.out.cl
          obtain ⟨nf, hnf⟩ : ∃ n, n = ch.length := ⟨_, rfl⟩
          have HNF : Hid (nf = ch.length) := hnf
          have hnN : nf ≤ N := by have := HRL.out; omega
          obtain ⟨ac, cc, rfl⟩ := own_shape hS.out.cho
          rw [← hnf] at hS ⊢
          clear hcl1 hnf hus
          go_wp2
          clear c0
          go_loopg [11] (N - nf) (fun g2 i wr2 => ∃ r : Nat, nf ≤ r ∧ r + g2 = N ∧ i = .int .i64 r ∧ Hid (SEch wr2 w.heap.size K false (.slice (some ⟨G, 0, none⟩) N cG) (.slice ac nf cc) us' R ch) ∧ Hid (Below w.heap.size w wr2) ∧ Hid (∀ x, nf ≤ x → x < r → (fr (rw' R x) col).1 = 0))
          case atStart => exact ⟨nf, Nat.le_refl _, by omega, rfl, hS.out, hB.out, fun x h1 h2 => by omega⟩
          case round =>
            clear hS hB
            obtain ⟨r, hr1, hrg, rfl, hS, hB, hZ⟩ := hrel
            cases gk with
            | zero =>
              obtain rfl : r = N := by omega
              go_wp2
              go_roundg g
              case measure => omega
              case rel => exact ⟨col + 1, _, us', R, ch, fe ++ [col], by omega, by go_num, rfl, hS.out, hI.out.free hlt (fun x h1 h2 => hZ.out x (by rw [HNF.out]; exact h1) (by rw [HRL.out] at h2; exact h2)), hB.out⟩
            | succ g2 =>
              have hrN : r < N := by omega
              have ho := hS.out.tab.outer
              rw [HUS.out] at ho
              have ck := ho.cellAt r (by omega)
              have hin := hS.out.tab.inner r (by rw [HUS.out]; exact hrN)
              have hRL := hI.out.row r (by rw [HRL.out]; exact hrN)
              rw [hRL] at hin
              obtain ⟨bk, dk, ek⟩ := own_some hin (by omega)
              have hur : us'[r]? = some (vl us' r) := by unfold vl; rw [List.getElem?_eq_getElem (by have := HUS.out; omega)]; rfl
              rw [hur, ek] at ck
              rw [ek] at hin
              obtain ⟨g1, g2'⟩ := own_R hin hRL col hlt
              obtain ⟨f, hf⟩ : ∃ f, f = fr (rw' R r) col := ⟨_, rfl⟩
              rw [show (rw' R r)[col]?.getD (0, 0) = f from hf.symm] at g1 g2'
              obtain ⟨f1, f2⟩ := f
              have HF := hid hf
              have HEK := hid ek
              have HRL' := hid hRL
              have hHO := hid ho
              clear ho hin hRL ek hf hur
              by_cases hf0 : f1 = 0
              · subst hf0
                go_wp2
                go_roundg g2
                case measure => omega
                case rel =>
                  refine ⟨r + 1, by omega, by omega, by go_num, hS.out, hB.out, fun x h1 h2 => ?_⟩
                  by_cases e : x = r
                  · subst e; rw [← HF.out]
                  · exact hZ.out x h1 (by omega)
              · have hpv : (fr (rw' R r) col).1 ≠ 0 := by rw [← HF.out]; exact hf0
                have HPV := hid hpv
                have hnN' : nf < N := by omega
                have cf := hHO.out.cellAt nf (by omega)
                have zr := hHO.out.frozenAt r
                have zf := hHO.out.frozenAt nf
                have hinf := hS.out.tab.inner nf (by rw [HUS.out]; exact hnN')
                rw [hI.out.row nf (by rw [HRL.out]; exact hnN')] at hinf
                obtain ⟨bf, df, ef⟩ := own_some hinf (by omega)
                rw [show us'[nf]? = some (vl us' nf) by unfold vl; rw [List.getElem?_eq_getElem (by have := HUS.out; omega)]; rfl, ef] at cf
                have cf2 : (wr.setCell ⟨G, r, none⟩ (.slice (some ⟨bf, 0, none⟩) L df)).cell? ⟨G, nf, none⟩ = some (.slice (some ⟨bf, 0, none⟩) L df) := by
                  by_cases e : r = nf
                  · rw [e]; exact World.cell?_setCell_same _ _ _ cf
                  · rw [World.cell?_setCell_other _ _ _ _ (by intro h; cases h; exact e rfl)]; exact cf
                have zf2 : (wr.setCell ⟨G, r, none⟩ (.slice (some ⟨bf, 0, none⟩) L df)).frozen? ⟨G, nf, none⟩ = false := by simp [zf]
                have HEF := hid ef
                clear hinf ef hpv
                go_upto_region 19 with fail
                have HX := hS.out.swap (i := r) (r := nf) (by rw [HUS.out]; exact hrN) (by rw [HUS.out]; exact hnN')
                rw [HEF.out, HEK.out] at HX
                have BX : Below w.heap.size w ((wr.setCell ⟨G, r, none⟩ (.slice (some ⟨bf, 0, none⟩) L df)).setCell ⟨G, nf, none⟩ (.slice (some ⟨bk, 0, none⟩) L dk)) := (hB.out.setCell (p := ⟨G, r, none⟩) (by show _ ≤ G; exact (hS.out.tab.outer.lt G rfl).1) _).setCell (p := ⟨G, nf, none⟩) (by show _ ≤ G; exact (hS.out.tab.outer.lt G rfl).1) _
                obtain ⟨X, hX⟩ : ∃ X, X = (wr.setCell ⟨G, r, none⟩ (.slice (some ⟨bf, 0, none⟩) L df)).setCell ⟨G, nf, none⟩ (.slice (some ⟨bk, 0, none⟩) L dk) := ⟨_, rfl⟩
                rw [← hX] at HX BX ⊢
                clear hX cf2 zf2 cf zf zr ck g1 g2'
                obtain ⟨us2, hus2⟩ : ∃ u, u = (us'.set r (.slice (some ⟨bf, 0, none⟩) L df)).set nf (.slice (some ⟨bk, 0, none⟩) L dk) := ⟨_, rfl⟩
                have hvf : vl us2 nf = .slice (some ⟨bk, 0, none⟩) L dk := by rw [hus2, vl_set _ _ _ _ (by rw [List.length_set, HUS.out]; exact hnN'), if_pos rfl]
                have hl2 : us2.length = N := by rw [hus2, List.length_set, List.length_set]; exact HUS.out
                rw [← hus2] at HX
                clear hus2
                obtain ⟨Rr, hRr⟩ : ∃ x, x = rw' R r := ⟨_, rfl⟩
                have hRs : rw' (swapT R r nf) nf = Rr := by rw [rw_exch R r nf nf (by rw [HRL.out]; exact hrN) (by rw [HRL.out]; exact hnN'), hRr]; simp [exch]
                have hRrl : Rr.length = L := by rw [hRr]; exact HRL'.out
                have hrow := HX.tab.inner nf (by omega)
                rw [hvf, hRs, hRrl] at hrow
                obtain ⟨g1, g2'⟩ := own_R hrow hRrl col hlt
                rw [show Rr[col]?.getD (0, 0) = (f1, f2) by rw [hRr]; exact HF.out.symm] at g1 g2'
                have hFs := HX.tab.lt nf (by omega)
                rw [hvf] at hFs
                have hbF : bk < X.heap.size := hFs bk rfl
                have hbw : w.heap.size ≤ bk := (hrow.lt bk rfl).1
                have hKF : K < X.heap.size := HX.kk.lt
                have HRR := hid hRr
                have HVF := hid hvf
                have HL2 := hid hl2
                have HRRL := hid hRrl
                have HHX := hid HX
                have HBX := hid BX
                clear hFs hRs hRr hvf hl2 hRrl hrow HX BX hS hB HEK HEF hHO
                go_wp2
                obtain ⟨F, hF⟩ : ∃ F, F = X.heap.size := ⟨_, rfl⟩
                obtain ⟨Y, hY⟩ : ∃ Y, Y = X.alloc (.cells #[.int .i64 f1, .int .i64 f2] 33) := ⟨_, rfl⟩
                have rF : IsR Y F f1 f2 := by rw [hY, hF]; exact IsR.new X f1 f2
                have SY : SEch Y w.heap.size K false (.slice (some ⟨G, 0, none⟩) N cG) (.slice ac nf cc) us2 ((swapT R r nf).set nf (upto (sDivF Rr (f1, f2)) Rr 0)) ch := by
                  rw [upto_zero, set_same _ _ _ (by rw [swapT_len, HRL.out]; exact hnN') (by rw [rw_exch R r nf nf (by rw [HRL.out]; exact hrN) (by rw [HRL.out]; exact hnN'), HRR.out]; simp [exch]), hY]
                  exact HHX.out.below (b0 _ _)
                have BY : Below w.heap.size w Y := by rw [hY]; exact HBX.out.alloc (by have := HBX.out.size; omega) _
                rw [← hY, ← hF]
                rw [← hF] at hbF hKF
                clear hY hF HHX HBX g1 g2'
                go_loopg [14] L (fun g3 i wr2 => ∃ j : Nat, j + g3 = L ∧ i = .int .i64 j ∧ Hid (SEch wr2 w.heap.size K (xTo (sDivB Rr (f1, f2)) j) (.slice (some ⟨G, 0, none⟩) N cG) (.slice ac nf cc) us2 ((swapT R r nf).set nf (upto (sDivF Rr (f1, f2)) Rr j)) ch) ∧ Hid (IsR wr2 F f1 f2) ∧ Hid (Below w.heap.size w wr2))
                case atStart => exact ⟨0, by omega, rfl, SY, rF, BY⟩
                case round =>
                  clear SY rF BY
                  obtain ⟨j, hjg, rfl, hS, hF, hB⟩ := hrel
                  cases gk with
                  | zero =>
                    obtain rfl : j = L := by omega
                    obtain ⟨T, hT⟩ : ∃ T, T = (swapT R r nf).set nf (upto (sDivF Rr (f1, f2)) Rr j) := ⟨_, rfl⟩
                    obtain ⟨bd1, hbd1⟩ : ∃ q, q = xTo (sDivB Rr (f1, f2)) j := ⟨_, rfl⟩
                    have hTd : T = tabD R nf r col := by
                      rw [hT]; unfold tabD
                      rw [← HRR.out, HRRL.out, show fr Rr col = (f1, f2) by rw [HRR.out]; exact HF.out.symm]
                    have HBD : Hid (bd1 = xTo (sDivB (rw' R r) (fr (rw' R r) col)) (rw' R r).length) := by
                      show _ = _
                      rw [hbd1, ← HRR.out, HRRL.out, show fr Rr col = (f1, f2) by rw [HRR.out]; exact HF.out.symm]
                    have hTn : T.length = N := by rw [hTd, tabD_len]; exact HRL.out
                    have hTr : ∀ x, x < N → (rw' T x).length = j := by
                      intro x hx
                      rw [hT, rw_set _ _ _ _ (by rw [swapT_len, HRL.out]; exact hnN')]
                      split
                      · rw [upto_len]; exact HRRL.out
                      · rw [rw_exch R r nf x (by rw [HRL.out]; exact hrN) (by rw [HRL.out]; exact hnN')]
                        exact hI.out.row _ (exch_lt (by rw [HRL.out]; exact hrN) (by rw [HRL.out]; exact hnN') (by rw [HRL.out]; exact hx))
                    rw [← hT, ← hbd1] at hS
                    have HTD := hid hTd
                    have HTN := hid hTn
                    have HTR : Hid (∀ x, x < N → (rw' T x).length = j) := hTr
                    clear hT hbd1 hTd hTn hTr hF
                    go_wp2
                    go_loopg [15] N (fun g4 i wr2 => ∃ i' : Nat, i' + g4 = N ∧ i = .int .i64 i' ∧ Hid (SEch wr2 w.heap.size K (bd1 || xTo (sRowB T nf col) i') (.slice (some ⟨G, 0, none⟩) N cG) (.slice ac nf cc) us2 (uptoT (sRowF T nf col) T i') ch) ∧ Hid (Below w.heap.size w wr2))
                    case atStart => exact ⟨0, by omega, rfl, by rw [uptoT_zero, xTo_zero, Bool.or_false]; exact hS.out, hB.out⟩
                    case round =>
                      clear hS hB
                      obtain ⟨i, hig, rfl, hS, hB⟩ := hrel
                      cases gk with
                      | zero =>
                        obtain rfl : i = N := by omega
                        obtain ⟨fl, hfl⟩ : ∃ q, q = (bd1 || xTo (sRowB T nf col) i) := ⟨_, rfl⟩
                        rw [← hfl] at hS
                        have hst := sStep_flag R nf r col (by rw [HRL.out]; exact hnN')
                        rw [← HBD.out, ← HTD.out, HRL.out, ← hfl] at hst
                        have HST := hid hst
                        have k0 := hS.out.kk.cell
                        clear hst hfl
                        cases fl
                        · have hb : stepB R nf r col = true := by have := HST.out.1; simpa using this.symm
                          have HBT := hid hb
                          obtain ⟨t3, hti', htz0', htz1', htz2'⟩ := info_parts infoInt
                          have hws := hB.out.size
                          have HFC : Hid (wr.ownsRow w.heap.size 3 1 (.slice ac nf cc) nf (natV ch)) := by show World.ownsRow _ _ _ _ _ _ _; rw [HNF.out]; have := hS.out.cho; rw [← HNF.out] at this ⊢; exact this
                          clear hb
                          go_wp2_with (at_builtin; go_must (refine wpList_append_own _ rfl _ _ 86 rfl w.heap.size 3 t3 (.int .i64 0) 1 8 Try.underlying86 hti' htz0' htz1' htz2' rfl (by decide) _ _ _ rfl (World.ownsRow.alloc HFC.out _) ⟨wr.heap.size, 0, none⟩ 1 1 [.int .i64 col] rfl rfl (cell_one_new _ _ _) (by simp [Value.oneCell']) (by unfold maxLen; omega) (by omega) (by simp; omega) ?_); intro v' w3 hown' hgrow _)
                          go_roundg g
                          case measure => omega
                          case rel =>
                            have SP := hS.out.push hown' (by rw [HNF.out]; simp) hgrow
                            rw [HST.out.2 HBT.out] at SP
                            exact ⟨col + 1, v', us2, _, _, fe, by omega, by go_num, rfl, SP, (by have h9 := hI.out.yes hlt (by rw [← HNF.out]; exact hr1) (by rw [HRL.out]; exact hrN) (by rw [← HNF.out]; exact hZ.out) HPV.out (by rw [← HNF.out]; exact HBT.out); rw [← HNF.out] at h9; exact h9), hB.out.trans (below_appended HFC.out hws hgrow)⟩
                        · have hb : stepB R nf r col = false := by have := HST.out.1; simpa using this.symm
                          have hno := ech_no (hI.out.no hlt (by rw [← HNF.out]; exact hr1) (by rw [HRL.out]; exact hrN) (by rw [← HNF.out]; exact hZ.out) HPV.out (by rw [← HNF.out]; exact hb))
                          have HNO := hid hno
                          have hws := hB.out.size
                          clear hb hno
                          go_wp2
                          refine bodyPost_ret (v := .tuple #[.slice (some ⟨wr.heap.size, 0, none⟩) 0 0, .slice (some ⟨wr.heap.size + 1, 0, none⟩) 0 0, .bool false]) (by simp [results, Try.results74, go_sem]) rfl ⟨_, _, [], by rw [HNO.out.1], ?_, ?_, (hB.out.alloc hws _).alloc (by simp; omega) _⟩
                          · rw [HNO.out.2.1]; exact (Tab.lit hws).below (b0 _ _)
                          · rw [HNO.out.2.2]
                            have h4 := World.ownsRow_lit (wr.alloc (.cells #[] 27)) (base := w.heap.size) (e := 3) (size := 1) #[] 0 (by simp; omega) (Nat.zero_le _) rfl
                            simpa [natV] using h4
                      | succ g4 =>
                        have hiN : i < N := by omega
                        have ho := hS.out.tab.outer
                        rw [HL2.out] at ho
                        have ci := ho.cellAt i (by omega)
                        have hin := hS.out.tab.inner i (by rw [HL2.out]; exact hiN)
                        rw [uptoT_at _ _ _ _ (by rw [HTN.out]; exact hiN), if_neg (Nat.lt_irrefl _), HTR.out i hiN] at hin
                        obtain ⟨bi, di, ei⟩ := own_some hin (by omega)
                        rw [show us2[i]? = some (vl us2 i) by unfold vl; rw [List.getElem?_eq_getElem (by have := HL2.out; omega)]; rfl, ei] at ci
                        rw [ei] at hin
                        obtain ⟨Ri, hRi⟩ : ∃ x, x = rw' T i := ⟨_, rfl⟩
                        have hRil : Ri.length = j := by rw [hRi]; exact HTR.out i hiN
                        rw [← hRi] at hin
                        obtain ⟨g1, g2'⟩ := own_R hin hRil col hlt
                        obtain ⟨y, hy⟩ : ∃ y, y = fr Ri col := ⟨_, rfl⟩
                        rw [show Ri[col]?.getD (0, 0) = y from hy.symm] at g1 g2'
                        obtain ⟨y1, y2⟩ := y
                        have hwi : w.heap.size ≤ bi := (hin.lt bi rfl).1
                        have hbi : bi < wr.heap.size := (hin.lt bi rfl).2
                        have hbk2 : bk < wr.heap.size := by
                          have := hS.out.tab.lt nf (by rw [HL2.out]; exact hnN')
                          rw [HVF.out] at this
                          exact this bk rfl
                        have hbiK : bi ≠ K := own_ne hin hS.out.kk.blk (by decide) bi rfl
                        have hbkK : bk ≠ K := by
                          have h1 := hS.out.tab.inner nf (by rw [HL2.out]; exact hnN')
                          rw [HVF.out] at h1
                          exact own_ne h1 hS.out.kk.blk (by decide) bk rfl
                        have hGK : G ≠ K := own_ne hS.out.tab.outer hS.out.kk.blk (by decide) G rfl
                        have hK2 := hS.out.kk.lt
                        have HRI : Hid (Ri = rw' T i ∧ Ri.length = j ∧ (y1, y2) = fr Ri col ∧ vl us2 i = .slice (some ⟨bi, 0, none⟩) j di) := ⟨hRi, hRil, hy, ei⟩
                        clear ho hin ei hRi hRil hy
                        go_wp2
                        obtain ⟨F2, hF2⟩ : ∃ F, F = wr.heap.size := ⟨_, rfl⟩
                        obtain ⟨Y, hY⟩ : ∃ Y, Y = wr.alloc (.cells #[.int .i64 y1, .int .i64 y2] 33) := ⟨_, rfl⟩
                        have rF : IsR Y F2 y1 y2 := by rw [hY, hF2]; exact IsR.new wr y1 y2
                        have SY := hS.out.below (b0 wr (.cells #[.int .i64 y1, .int .i64 y2] 33))
                        have BY : Below w.heap.size w Y := by rw [hY]; exact hB.out.alloc (by have := hB.out.size; omega) _
                        rw [← hY] at SY
                        rw [← hY, ← hF2]
                        rw [← hF2] at hbi hbk2 hK2
                        clear hY hF2 hS hB g1 g2' ci
                        by_cases hin : i = nf
                        · subst hin
                          go_loopg [17] 0 (fun g5 z wr2 => z = .int .i64 0 ∧ Hid (SEch wr2 w.heap.size K (bd1 || xTo (sRowB T i col) i) (.slice (some ⟨G, 0, none⟩) N cG) (.slice ac i cc) us2 (uptoT (sRowF T i col) T i) ch) ∧ Hid (Below w.heap.size w wr2))
                          case atStart => exact ⟨rfl, SY, BY⟩
                          case round =>
                            clear SY BY rF
                            obtain ⟨rfl, hS, hB⟩ := hrel
                            go_wp2
                            go_roundg g4
                            case measure => omega
                            case rel =>
                              refine ⟨i + 1, by omega, by go_num, ?_, hB.out⟩
                              rw [← uptoT_same _ _ _ (by rw [HTN.out]; exact hiN) (by unfold sRowF; rw [if_pos rfl]), xTo_succ, show sRowB T i col i = false by unfold sRowB; simp, Bool.or_false]
                              exact hS.out
                        · have hin2 : (i : Int) ≠ (nf : Int) := by omega
                          obtain ⟨Xr, hXr⟩ : ∃ x, x = rw' T nf := ⟨_, rfl⟩
                          have hXl : Xr.length = j := by rw [hXr]; exact HTR.out nf hnN'
                          obtain ⟨bd2, hbd2⟩ : ∃ q, q = (bd1 || xTo (sRowB T nf col) i) := ⟨_, rfl⟩
                          have HBD2 := hid hbd2
                          have HXR : Hid (Xr = rw' T nf ∧ Xr.length = j) := ⟨hXr, hXl⟩
                          have SY2 : SEch Y w.heap.size K (bd2 || xTo (sTakeB Ri (y1, y2) Xr) 0) (.slice (some ⟨G, 0, none⟩) N cG) (.slice ac nf cc) us2 ((uptoT (sRowF T nf col) T i).set i (upto (sTakeF Ri (y1, y2) Xr) Ri 0)) ch := by
                            rw [xTo_zero, Bool.or_false, upto_zero, set_same _ _ _ (by rw [uptoT_len, HTN.out]; exact hiN) (by rw [uptoT_at _ _ _ _ (by rw [HTN.out]; exact hiN), if_neg (Nat.lt_irrefl _), HRI.out.1]), hbd2]
                            exact SY
                          clear hXr hXl hbd2 SY
                          go_loopg [17] j (fun g5 z wr2 => ∃ m : Nat, m + g5 = j ∧ z = .int .i64 m ∧ Hid (SEch wr2 w.heap.size K (bd2 || xTo (sTakeB Ri (y1, y2) Xr) m) (.slice (some ⟨G, 0, none⟩) N cG) (.slice ac nf cc) us2 ((uptoT (sRowF T nf col) T i).set i (upto (sTakeF Ri (y1, y2) Xr) Ri m)) ch) ∧ Hid (IsR wr2 F2 y1 y2) ∧ Hid (Below w.heap.size w wr2))
                          case atStart => exact ⟨0, by omega, rfl, SY2, rF, BY⟩
                          case round =>
                            clear SY2 rF BY
                            obtain ⟨m, hmg, rfl, hS, hF2, hB⟩ := hrel
                            cases gk with
                            | zero =>
                              obtain rfl : m = j := by omega
                              go_wp2
                              go_roundg g4
                              case measure => omega
                              case rel =>
                                have hrf : upto (sTakeF Ri (y1, y2) Xr) Ri m = sRowF T nf col i := by
                                  unfold sRowF
                                  rw [if_neg hin, ← HRI.out.1, ← HXR.out.1, HRI.out.2.1, HRI.out.2.2.1]
                                have hrb : xTo (sTakeB Ri (y1, y2) Xr) m = sRowB T nf col i := by
                                  unfold sRowB
                                  rw [decide_eq_false hin, Bool.not_false, Bool.true_and, ← HRI.out.1, ← HXR.out.1, HRI.out.2.1, HRI.out.2.2.1]
                                have S7 := hS.out
                                rw [hrf, uptoT_set _ _ _ (by rw [HTN.out]; exact hiN), hrb, HBD2.out, Bool.or_assoc, ← xTo_succ] at S7
                                exact ⟨i + 1, by omega, by go_num, S7, hB.out⟩
                            | succ g5 =>
                              have hmj : m < j := by omega
                              have ho := hS.out.tab.outer
                              rw [HL2.out] at ho
                              have ci := ho.cellAt i (by omega)
                              rw [show us2[i]? = some (vl us2 i) by unfold vl; rw [List.getElem?_eq_getElem (by have := HL2.out; omega)]; rfl, HRI.out.2.2.2] at ci
                              have hrow := hS.out.tab.inner i (by rw [HL2.out]; exact hiN)
                              rw [HRI.out.2.2.2, rw_set _ _ _ _ (by rw [uptoT_len, HTN.out]; exact hiN), if_pos rfl, upto_len, HRI.out.2.1] at hrow
                              have hul : (upto (sTakeF Ri (y1, y2) Xr) Ri m).length = j := by rw [upto_len]; exact HRI.out.2.1
                              obtain ⟨c1, c2⟩ := own_R hrow hul m hmj
                              obtain ⟨o, hoo⟩ : ∃ x, x = fr Ri m := ⟨_, rfl⟩
                              rw [show (upto (sTakeF Ri (y1, y2) Xr) Ri m)[m]?.getD (0, 0) = o by rw [hoo]; have := upto_at (sTakeF Ri (y1, y2) Xr) Ri m m (by rw [HRI.out.2.1]; exact hmj); rw [if_neg (Nat.lt_irrefl _)] at this; exact this] at c1 c2
                              have hxr := hS.out.tab.inner nf (by rw [HL2.out]; exact hnN')
                              have hxt : rw' ((uptoT (sRowF T nf col) T i).set i (upto (sTakeF Ri (y1, y2) Xr) Ri m)) nf = Xr := by
                                rw [rw_set _ _ _ _ (by rw [uptoT_len, HTN.out]; exact hiN), if_neg hin, uptoT_at _ _ _ _ (by rw [HTN.out]; exact hnN'), HXR.out.1]
                                split
                                · unfold sRowF; rw [if_pos rfl]
                                · rfl
                              rw [HVF.out, hxt, HXR.out.2] at hxr
                              obtain ⟨x1c, x2c⟩ := own_R hxr HXR.out.2 m hmj
                              obtain ⟨x, hx⟩ : ∃ x, x = fr Xr m := ⟨_, rfl⟩
                              rw [show Xr[m]?.getD (0, 0) = x from hx.symm] at x1c x2c
                              obtain ⟨x1, x2⟩ := x
                              obtain ⟨o1, o2⟩ := o
                              obtain ⟨bd, hbd⟩ : ∃ q, q = (bd2 || xTo (sTakeB Ri (y1, y2) Xr) m) := ⟨_, rfl⟩
                              obtain ⟨p, hp⟩ : ∃ q, q = sTakeP (y1, y2) (x1, x2) := ⟨_, rfl⟩
                              obtain ⟨mb, hmb⟩ : ∃ q, q = !mulK (y1, y2) (x1, x2) := ⟨_, rfl⟩
                              obtain ⟨s, hs⟩ : ∃ q, q = sTakeE (o1, o2) (y1, y2) (x1, x2) := ⟨_, rfl⟩
                              obtain ⟨sb, hsb⟩ : ∃ q, q = !subK (o1, o2) (sTakeP (y1, y2) (x1, x2)) := ⟨_, rfl⟩
                              have HM : Hid (∀ W : World, IsK W K bd → Calls Try.prog 47 #[.pointer (some ⟨K, 0, none⟩), .agg #[.int .i64 y1, .int .i64 y2], .agg #[.int .i64 x1, .int .i64 x2]] W fun e w' => e = .returned (.agg #[.int .i64 p.1, .int .i64 p.2]) ∧ IsK w' K (bd || mb) ∧ W.grownBy w' (some K)) := by
                                intro W hW; rw [hp, hmb]; exact kMul K bd y1 y2 x1 x2 W hW
                              have HSB : Hid (∀ W : World, IsK W K (bd || mb) → Calls Try.prog 51 #[.pointer (some ⟨K, 0, none⟩), .agg #[.int .i64 o1, .int .i64 o2], .agg #[.int .i64 p.1, .int .i64 p.2]] W fun e w' => e = .returned (.agg #[.int .i64 s.1, .int .i64 s.2]) ∧ IsK w' K (bd || mb || sb) ∧ W.grownBy w' (some K)) := by
                                intro W hW
                                rw [hs, hsb]
                                have := kSub K (bd || mb) o1 o2 p.1 p.2 W hW
                                rw [show ((p.1, p.2) : Fr) = sTakeP (y1, y2) (x1, x2) from hp] at this
                                exact this
                              have HQ : Hid (s = sTakeF Ri (y1, y2) Xr m ∧ (bd || mb || sb) = (bd2 || xTo (sTakeB Ri (y1, y2) Xr) (m + 1))) := by
                                refine ⟨by unfold sTakeF; rw [← hx, ← hoo]; exact hs, ?_⟩
                                rw [xTo_succ, hbd, hmb, hsb]
                                unfold sTakeB
                                rw [← hx, ← hoo]
                                unfold sTakeX
                                simp only [Bool.or_assoc]
                              rw [← hbd] at hS
                              obtain ⟨s1, s2⟩ := s
                              obtain ⟨p1, p2⟩ := p
                              have fr1 := hrow.frozenAt (m * 2)
                              have fr2 := hrow.frozenAt (m * 2 + 1)
                              have d0 := hF2.out.c0
                              have d1 := hF2.out.c1
                              have HROW := hid hrow
                              have HUL := hid hul
                              have hFK : F2 ≠ K := by omega
                              have hGbi : G ≠ bi := fun e => own_unlike hS.out.tab.outer hrow (by decide) (b := G) rfl (by rw [e]; rfl)
                              have hkbi : bk ≠ bi := fun e => hS.out.tab.apart nf i (by rw [HL2.out]; exact hnN') (by rw [HL2.out]; exact hiN) (fun h => hin h.symm) bk (by rw [HVF.out]; rfl) (by rw [HRI.out.2.2.2, e]; rfl)
                              clear hx hoo hbd hp hmb hs hsb hrow hul hxr hxt ho
                              go_wp2
                              --R31
                              refine wp_region_noPanic ?_
                              refine wp_region_held_drew (S := (fun w' => w'.cell? ⟨G, i, none⟩ = some (.slice (some ⟨bi, 0, none⟩) j di) ∧ w'.cell? ⟨F2, 0, none⟩ = some (.int .i64 y1) ∧ w'.cell? ⟨F2, 1, none⟩ = some (.int .i64 y2) ∧ w'.cell? ⟨bk, m * 2, none⟩ = some (.int .i64 x1) ∧ w'.cell? ⟨bk, m * 2 + 1, none⟩ = some (.int .i64 x2))) (by kernel_rfl) ?_ (fun hHeld => ?_)
                              · (try dsimp only)
                                refine ⟨?_, ?_, ?_, ?_, ?_⟩ <;> (repeat (with_reducible (first | exact ci | exact d0 | exact d1 | exact x1c | exact x2c | refine cell_dr ?_ | refine cell_al _ ?_ | refine cell_stb ?_ ?_ | (show _ ≠ _; omega))))
                              refine wpAnyH_take (i := 0) (v := ?_) rfl (by kernel_rfl) (by kernel_rfl) (by kernel_rfl) (fun _ _ _ h => h) (Or.inl ⟨by kernel_rfl, ?_⟩) hHeld ?_
                              rotate_left
                              · intro wz hSw; (try dsimp only at hSw); go_simp; all_goals (try with_reducible rfl)
                              (try simp only [List.getElem_toArray]); (try simp only [List.getElem_cons_succ]); (try simp only [List.getElem_cons_zero]); (try simp only [Act.put]); (try simp only [List.setIfInBounds_toArray]); (try simp only [List.set_cons_succ]); (try simp only [List.set_cons_zero])
                              refine wpAnyH_take (i := 1) (v := ?_) rfl (by kernel_rfl) (by kernel_rfl) (by kernel_rfl) (fun _ _ _ h => h) (Or.inl ⟨by kernel_rfl, ?_⟩) hHeld ?_
                              rotate_left
                              · intro wz hSw; (try dsimp only at hSw); go_simp; all_goals (try with_reducible rfl)
                              (try simp only [List.getElem_toArray]); (try simp only [List.getElem_cons_succ]); (try simp only [List.getElem_cons_zero]); (try simp only [Act.put]); (try simp only [List.setIfInBounds_toArray]); (try simp only [List.set_cons_succ]); (try simp only [List.set_cons_zero])
                              refine wpAnyH_take (i := 2) (v := ?_) rfl (by kernel_rfl) (by kernel_rfl) (by kernel_rfl) (fun _ _ _ h => h) (Or.inl ⟨by kernel_rfl, ?_⟩) hHeld ?_
                              rotate_left
                              · intro wz hSw; (try dsimp only at hSw); go_simp; all_goals (try with_reducible rfl)
                              (try simp only [List.getElem_toArray]); (try simp only [List.getElem_cons_succ]); (try simp only [List.getElem_cons_zero]); (try simp only [Act.put]); (try simp only [List.setIfInBounds_toArray]); (try simp only [List.set_cons_succ]); (try simp only [List.set_cons_zero])
                              refine wpAnyH_take (i := 3) (v := ?_) rfl (by kernel_rfl) (by kernel_rfl) (by kernel_rfl) (fun _ _ _ h => h) (Or.inl ⟨by kernel_rfl, ?_⟩) hHeld ?_
                              rotate_left
                              · intro wz hSw; (try dsimp only at hSw); go_simp; all_goals (try with_reducible rfl)
                              (try simp only [List.getElem_toArray]); (try simp only [List.getElem_cons_succ]); (try simp only [List.getElem_cons_zero]); (try simp only [Act.put]); (try simp only [List.setIfInBounds_toArray]); (try simp only [List.set_cons_succ]); (try simp only [List.set_cons_zero])
                              refine wpAnyH_take (i := 4) (v := ?_) rfl (by kernel_rfl) (by kernel_rfl) (by kernel_rfl) (fun _ _ _ h => h) (Or.inl ⟨by kernel_rfl, ?_⟩) hHeld ?_
                              rotate_left
                              · intro wz hSw; (try dsimp only at hSw); go_simp; all_goals (try with_reducible rfl)
                              (try simp only [List.getElem_toArray]); (try simp only [List.getElem_cons_succ]); (try simp only [List.getElem_cons_zero]); (try simp only [Act.put]); (try simp only [List.setIfInBounds_toArray]); (try simp only [List.set_cons_succ]); (try simp only [List.set_cons_zero])
                              refine wpAnyH_take (i := 5) (v := ?_) rfl (by kernel_rfl) (by kernel_rfl) (by kernel_rfl) (fun _ _ _ h => h) (Or.inl ⟨by kernel_rfl, ?_⟩) hHeld ?_
                              rotate_left
                              · intro wz hSw; (try dsimp only at hSw); go_simp; all_goals (try with_reducible rfl)
                              (try simp only [List.getElem_toArray]); (try simp only [List.getElem_cons_succ]); (try simp only [List.getElem_cons_zero]); (try simp only [Act.put]); (try simp only [List.setIfInBounds_toArray]); (try simp only [List.set_cons_succ]); (try simp only [List.set_cons_zero])
                              refine wpAnyH_take (i := 6) (v := ?_) rfl (by kernel_rfl) (by kernel_rfl) (by kernel_rfl) (fun _ _ _ h => h) (Or.inl ⟨by kernel_rfl, ?_⟩) hHeld ?_
                              rotate_left
                              · intro wz hSw; (try dsimp only at hSw); go_simp; all_goals (try with_reducible rfl)
                              (try simp only [List.getElem_toArray]); (try simp only [List.getElem_cons_succ]); (try simp only [List.getElem_cons_zero]); (try simp only [Act.put]); (try simp only [List.setIfInBounds_toArray]); (try simp only [List.set_cons_succ]); (try simp only [List.set_cons_zero])
                              refine wpAnyH_take (i := 7) (v := ?_) rfl (by kernel_rfl) (by kernel_rfl) (by kernel_rfl) (fun _ _ _ h => h) (Or.inl ⟨by kernel_rfl, ?_⟩) hHeld ?_
                              rotate_left
                              · intro wz hSw; (try dsimp only at hSw); go_simp; all_goals (try with_reducible rfl)
                              (try simp only [List.getElem_toArray]); (try simp only [List.getElem_cons_succ]); (try simp only [List.getElem_cons_zero]); (try simp only [Act.put]); (try simp only [List.setIfInBounds_toArray]); (try simp only [List.set_cons_succ]); (try simp only [List.set_cons_zero])
                              refine wpAnyH_take (i := 8) (v := ?_) rfl (by kernel_rfl) (by kernel_rfl) (by kernel_rfl) (fun _ _ _ h => h) (Or.inl ⟨by kernel_rfl, ?_⟩) hHeld ?_
                              rotate_left
                              · intro wz hSw; (try dsimp only at hSw); go_simp; all_goals (try with_reducible rfl)
                              (try simp only [List.getElem_toArray]); (try simp only [List.getElem_cons_succ]); (try simp only [List.getElem_cons_zero]); (try simp only [Act.put]); (try simp only [List.setIfInBounds_toArray]); (try simp only [List.set_cons_succ]); (try simp only [List.set_cons_zero])
                              refine wpAnyH_take (i := 9) (v := ?_) rfl (by kernel_rfl) (by kernel_rfl) (by kernel_rfl) (fun _ _ _ h => h) (Or.inl ⟨by kernel_rfl, ?_⟩) hHeld ?_
                              rotate_left
                              · intro wz hSw; (try dsimp only at hSw); go_simp; all_goals (try with_reducible rfl)
                              (try simp only [List.getElem_toArray]); (try simp only [List.getElem_cons_succ]); (try simp only [List.getElem_cons_zero]); (try simp only [Act.put]); (try simp only [List.setIfInBounds_toArray]); (try simp only [List.set_cons_succ]); (try simp only [List.set_cons_zero])
                              refine wpAnyH_take (i := 10) (v := ?_) rfl (by kernel_rfl) (by kernel_rfl) (by kernel_rfl) (fun _ _ _ h => h) (Or.inl ⟨by kernel_rfl, ?_⟩) hHeld ?_
                              rotate_left
                              · intro wz hSw; (try dsimp only at hSw); go_simp; all_goals (try with_reducible rfl)
                              (try simp only [List.getElem_toArray]); (try simp only [List.getElem_cons_succ]); (try simp only [List.getElem_cons_zero]); (try simp only [Act.put]); (try simp only [List.setIfInBounds_toArray]); (try simp only [List.set_cons_succ]); (try simp only [List.set_cons_zero])
                              refine wpAnyH_take (i := 11) (v := ?_) rfl (by kernel_rfl) (by kernel_rfl) (by kernel_rfl) (fun _ _ _ h => h) (Or.inl ⟨by kernel_rfl, ?_⟩) hHeld ?_
                              rotate_left
                              · intro wz hSw; (try dsimp only at hSw); go_simp; all_goals (try with_reducible rfl)
                              (try simp only [List.getElem_toArray]); (try simp only [List.getElem_cons_succ]); (try simp only [List.getElem_cons_zero]); (try simp only [Act.put]); (try simp only [List.setIfInBounds_toArray]); (try simp only [List.set_cons_succ]); (try simp only [List.set_cons_zero])
                              refine wpAnyH_take (i := 13) (v := ?_) rfl (by kernel_rfl) (by kernel_rfl) (by kernel_rfl) (fun _ _ _ h => h) (Or.inl ⟨by kernel_rfl, ?_⟩) hHeld ?_
                              rotate_left
                              · intro wz hSw; (try dsimp only at hSw); go_simp; all_goals (try with_reducible rfl)
                              (try simp only [List.getElem_toArray]); (try simp only [List.getElem_cons_succ]); (try simp only [List.getElem_cons_zero]); (try simp only [Act.put]); (try simp only [List.setIfInBounds_toArray]); (try simp only [List.set_cons_succ]); (try simp only [List.set_cons_zero])
                              refine wpAnyH_take (i := 14) (v := ?_) rfl (by kernel_rfl) (by kernel_rfl) (by kernel_rfl) (fun _ _ _ h => h) (Or.inl ⟨by kernel_rfl, ?_⟩) hHeld ?_
                              rotate_left
                              · intro wz hSw; (try dsimp only at hSw); go_simp; all_goals (try with_reducible rfl)
                              (try simp only [List.getElem_toArray]); (try simp only [List.getElem_cons_succ]); (try simp only [List.getElem_cons_zero]); (try simp only [Act.put]); (try simp only [List.setIfInBounds_toArray]); (try simp only [List.set_cons_succ]); (try simp only [List.set_cons_zero])
                              refine wpAnyH_take (i := 15) (v := ?_) rfl (by kernel_rfl) (by kernel_rfl) (by kernel_rfl) (fun _ _ _ h => h) (Or.inl ⟨by kernel_rfl, ?_⟩) hHeld ?_
                              rotate_left
                              · intro wz hSw; (try dsimp only at hSw); go_simp; all_goals (try with_reducible rfl)
                              (try simp only [List.getElem_toArray]); (try simp only [List.getElem_cons_succ]); (try simp only [List.getElem_cons_zero]); (try simp only [Act.put]); (try simp only [List.setIfInBounds_toArray]); (try simp only [List.set_cons_succ]); (try simp only [List.set_cons_zero])
                              refine wpAnyH_take (i := 16) (v := ?_) rfl (by kernel_rfl) (by kernel_rfl) (by kernel_rfl) (fun _ _ _ h => h) (Or.inl ⟨by kernel_rfl, ?_⟩) hHeld ?_
                              rotate_left
                              · intro wz hSw; (try dsimp only at hSw); go_simp; all_goals (try with_reducible rfl)
                              (try simp only [List.getElem_toArray]); (try simp only [List.getElem_cons_succ]); (try simp only [List.getElem_cons_zero]); (try simp only [Act.put]); (try simp only [List.setIfInBounds_toArray]); (try simp only [List.set_cons_succ]); (try simp only [List.set_cons_zero])
                              refine wpAnyH_take (i := 17) (v := ?_) rfl (by kernel_rfl) (by kernel_rfl) (by kernel_rfl) (fun _ _ _ h => h) (Or.inl ⟨by kernel_rfl, ?_⟩) hHeld ?_
                              rotate_left
                              · intro wz hSw; (try dsimp only at hSw); go_simp; all_goals (try with_reducible rfl)
                              (try simp only [List.getElem_toArray]); (try simp only [List.getElem_cons_succ]); (try simp only [List.getElem_cons_zero]); (try simp only [Act.put]); (try simp only [List.setIfInBounds_toArray]); (try simp only [List.set_cons_succ]); (try simp only [List.set_cons_zero])
                              refine wpAnyH_take (i := 18) (v := ?_) rfl (by kernel_rfl) (by kernel_rfl) (by kernel_rfl) (fun _ _ _ h => h) (Or.inl ⟨by kernel_rfl, ?_⟩) hHeld ?_
                              rotate_left
                              · intro wz hSw; (try dsimp only at hSw); go_simp; all_goals (try with_reducible rfl)
                              (try simp only [List.getElem_toArray]); (try simp only [List.getElem_cons_succ]); (try simp only [List.getElem_cons_zero]); (try simp only [Act.put]); (try simp only [List.setIfInBounds_toArray]); (try simp only [List.set_cons_succ]); (try simp only [List.set_cons_zero])
                              refine wpAnyH_ready (rs := [12, 19]) (by kernel_rfl) (by simp) (AllReadyH.cons rfl (fun Kc hKc => ?_) (AllReadyH.cons rfl (fun Kc hKc => ?_) AllReadyH.nil))
                              · go_simp
                                refine hKc.out _ _ ?_ (fun hHeld => ?_)
                                · (try dsimp only)
                                  refine ⟨?_, ?_, ?_, ?_, ?_⟩ <;> (repeat (with_reducible (first | exact ci | exact d0 | exact d1 | exact x1c | exact x2c | refine cell_dr ?_ | refine cell_al _ ?_ | refine cell_stb ?_ ?_ | (show _ ≠ _; omega))))
                                clear hKc Kc
                                (try simp only [List.getElem_toArray]); (try simp only [List.getElem_cons_succ]); (try simp only [List.getElem_cons_zero]); (try simp only [Act.put]); (try simp only [List.setIfInBounds_toArray]); (try simp only [List.set_cons_succ]); (try simp only [List.set_cons_zero])
                                refine wpAnyH_ready (rs := [19]) (by kernel_rfl) (by simp) (AllReadyH.cons rfl (fun Kc hKc => ?_) AllReadyH.nil)
                                go_simp
                                (go_at_call 47; refine (HM.out _ (IsK.below (by exact hS.out.kk) ((Below.refl _ _).drew))).mono ?_; rintro e w5 ⟨rfl, k5, g5⟩)
                                have ci := cell_g g5 ci hGK
                                have d0 := cell_g g5 d0 hFK
                                have d1 := cell_g g5 d1 hFK
                                have x1c := cell_g g5 x1c hbkK
                                have x2c := cell_g g5 x2c hbkK
                                have c1 := cell_g g5 c1 hbiK
                                have c2 := cell_g g5 c2 hbiK
                                have S5 := hid (SEch.call (hS.out.below ((Below.refl _ _).drew)) k5 g5)
                                have F5 := hid (IsR.grown (hF2.out.below ((Below.refl _ _).drew)) g5 hFK)
                                have B5 : Below w.heap.size w w5 := (hB.out.drew).trans (below_grownK g5 hKl (by simpa using hB.out.size))
                                have r5 := hid (own_gkR (own_below HROW.out ((Below.refl _ _).drew)) g5 hbiK)
                                clear g5 k5
                                go_wp2_with fail
                                refine hKc.out _ _ ?_ (fun hHeld => ?_)
                                · (try dsimp only)
                                  refine ⟨?_, ?_, ?_, ?_, ?_⟩ <;> (repeat (with_reducible (first | exact ci | exact d0 | exact d1 | exact x1c | exact x2c | refine cell_dr ?_ | refine cell_al _ ?_ | refine cell_stb ?_ ?_ | (show _ ≠ _; omega))))
                                clear hKc Kc
                                (try simp only [List.getElem_toArray]); (try simp only [List.getElem_cons_succ]); (try simp only [List.getElem_cons_zero]); (try simp only [Act.put]); (try simp only [List.setIfInBounds_toArray]); (try simp only [List.set_cons_succ]); (try simp only [List.set_cons_zero])
                                refine wpAnyH_ready (rs := [20]) (by kernel_rfl) (by simp) (AllReadyH.cons rfl (fun Kc hKc => ?_) AllReadyH.nil)
                                go_simp
                                (go_at_call 51; refine (HSB.out _ (by exact S5.out.kk)).mono ?_; rintro e w6 ⟨rfl, k6, g6⟩)
                                have ci := cell_g g6 ci hGK
                                have d0 := cell_g g6 d0 hFK
                                have d1 := cell_g g6 d1 hFK
                                have x1c := cell_g g6 x1c hbkK
                                have x2c := cell_g g6 x2c hbkK
                                have c1 := cell_g g6 c1 hbiK
                                have c2 := cell_g g6 c2 hbiK
                                have S6' := hid (SEch.call S5.out k6 g6)
                                have F6' := hid (IsR.grown F5.out g6 hFK)
                                have B6 : Below w.heap.size w w6 := B5.trans (below_grownK g6 hKl B5.size)
                                have R6 := hid (own_gkR r5.out g6 hbiK)
                                have fr3 := R6.out.frozenAt (m * 2)
                                have fr4 := R6.out.frozenAt (m * 2 + 1)
                                clear g6 k6
                                go_wp2_with fail
                                refine hKc.out _ _ ?_ (fun hHeld => ?_)
                                · (try dsimp only)
                                  refine ⟨?_, ?_, ?_, ?_, ?_⟩ <;> (repeat (with_reducible (first | exact ci | exact d0 | exact d1 | exact x1c | exact x2c | refine cell_dr ?_ | refine cell_al _ ?_ | refine cell_stb ?_ ?_ | (show _ ≠ _; omega))))
                                clear hKc Kc
                                (try simp only [List.getElem_toArray]); (try simp only [List.getElem_cons_succ]); (try simp only [List.getElem_cons_zero]); (try simp only [Act.put]); (try simp only [List.setIfInBounds_toArray]); (try simp only [List.set_cons_succ]); (try simp only [List.set_cons_zero])
                                refine wpAnyH_take (i := 21) (v := ?_) rfl (by kernel_rfl) (by kernel_rfl) (by kernel_rfl) (fun _ _ _ h => h) (Or.inl ⟨by kernel_rfl, ?_⟩) hHeld ?_
                                rotate_left
                                · intro wz hSw; (try dsimp only at hSw); go_simp; all_goals (try with_reducible rfl)
                                (try simp only [List.getElem_toArray]); (try simp only [List.getElem_cons_succ]); (try simp only [List.getElem_cons_zero]); (try simp only [Act.put]); (try simp only [List.setIfInBounds_toArray]); (try simp only [List.set_cons_succ]); (try simp only [List.set_cons_zero])
                                refine wpAnyH_ready (rs := [22]) (by kernel_rfl) (by simp) (AllReadyH.cons rfl (fun Kc hKc => ?_) AllReadyH.nil)
                                go_simp
                                refine hKc.out _ _ ?_ (fun hHeld => ?_)
                                · (try dsimp only)
                                  refine ⟨?_, ?_, ?_, ?_, ?_⟩ <;> (repeat (with_reducible (first | exact ci | exact d0 | exact d1 | exact x1c | exact x2c | refine cell_dr ?_ | refine cell_al _ ?_ | refine cell_stb ?_ ?_ | (show _ ≠ _; omega))))
                                clear hKc Kc
                                (try simp only [List.getElem_toArray]); (try simp only [List.getElem_cons_succ]); (try simp only [List.getElem_cons_zero]); (try simp only [Act.put]); (try simp only [List.setIfInBounds_toArray]); (try simp only [List.set_cons_succ]); (try simp only [List.set_cons_zero])
                                refine wpAnyH_done (by kernel_rfl) ?_ _
                                refine NoPanic.normal ?_
                                go_wp2
                                go_roundg g5
                                case measure => omega
                                case rel =>
                                  obtain ⟨q1, q2⟩ := R6.out.stored (m * 2) (.int .i64 s1)
                                  obtain ⟨q3, q4⟩ := q1.stored (m * 2 + 1) (.int .i64 s2)
                                  rw [cellsR_set _ _ _ _ (by rw [HUL.out]; exact hmj), HQ.out.1, upto_set _ _ _ (by rw [HRI.out.2.1]; exact hmj)] at q3
                                  have S8 := S6'.out.turn (k := i) (ps := upto (sTakeF Ri (y1, y2) Xr) Ri (m + 1)) (by rw [HL2.out]; exact hiN) (by rw [upto_len, HRI.out.2.1, HRI.out.2.2.2]; exact q3) (by rw [HRI.out.2.2.2]; exact q2.trans q4)
                                  rw [set_set', HQ.out.2] at S8
                                  exact ⟨m + 1, by omega, by go_num, S8, (F6'.out.other (by omega) _ _).other (by omega) _ _, (B6.setCell (p := ⟨bi, m * 2, none⟩) hwi _).setCell (p := ⟨bi, m * 2 + 1, none⟩) hwi _⟩
                              · go_simp
                                (go_at_call 47; refine (HM.out _ (IsK.below (by exact hS.out.kk) ((Below.refl _ _).drew))).mono ?_; rintro e w5 ⟨rfl, k5, g5⟩)
                                have ci := cell_g g5 ci hGK
                                have d0 := cell_g g5 d0 hFK
                                have d1 := cell_g g5 d1 hFK
                                have x1c := cell_g g5 x1c hbkK
                                have x2c := cell_g g5 x2c hbkK
                                have c1 := cell_g g5 c1 hbiK
                                have c2 := cell_g g5 c2 hbiK
                                have S5 := hid (SEch.call (hS.out.below ((Below.refl _ _).drew)) k5 g5)
                                have F5 := hid (IsR.grown (hF2.out.below ((Below.refl _ _).drew)) g5 hFK)
                                have B5 : Below w.heap.size w w5 := (hB.out.drew).trans (below_grownK g5 hKl (by simpa using hB.out.size))
                                have r5 := hid (own_gkR (own_below HROW.out ((Below.refl _ _).drew)) g5 hbiK)
                                clear g5 k5
                                go_wp2_with fail
                                refine hKc.out _ _ ?_ (fun hHeld => ?_)
                                · (try dsimp only)
                                  refine ⟨?_, ?_, ?_, ?_, ?_⟩ <;> (repeat (with_reducible (first | exact ci | exact d0 | exact d1 | exact x1c | exact x2c | refine cell_dr ?_ | refine cell_al _ ?_ | refine cell_stb ?_ ?_ | (show _ ≠ _; omega))))
                                clear hKc Kc
                                (try simp only [List.getElem_toArray]); (try simp only [List.getElem_cons_succ]); (try simp only [List.getElem_cons_zero]); (try simp only [Act.put]); (try simp only [List.setIfInBounds_toArray]); (try simp only [List.set_cons_succ]); (try simp only [List.set_cons_zero])
                                refine wpAnyH_ready (rs := [12]) (by kernel_rfl) (by simp) (AllReadyH.cons rfl (fun Kc hKc => ?_) AllReadyH.nil)
                                go_simp
                                refine hKc.out _ _ ?_ (fun hHeld => ?_)
                                · (try dsimp only)
                                  refine ⟨?_, ?_, ?_, ?_, ?_⟩ <;> (repeat (with_reducible (first | exact ci | exact d0 | exact d1 | exact x1c | exact x2c | refine cell_dr ?_ | refine cell_al _ ?_ | refine cell_stb ?_ ?_ | (show _ ≠ _; omega))))
                                clear hKc Kc
                                (try simp only [List.getElem_toArray]); (try simp only [List.getElem_cons_succ]); (try simp only [List.getElem_cons_zero]); (try simp only [Act.put]); (try simp only [List.setIfInBounds_toArray]); (try simp only [List.set_cons_succ]); (try simp only [List.set_cons_zero])
                                refine wpAnyH_ready (rs := [20]) (by kernel_rfl) (by simp) (AllReadyH.cons rfl (fun Kc hKc => ?_) AllReadyH.nil)
                                go_simp
                                (go_at_call 51; refine (HSB.out _ (by exact S5.out.kk)).mono ?_; rintro e w6 ⟨rfl, k6, g6⟩)
                                have ci := cell_g g6 ci hGK
                                have d0 := cell_g g6 d0 hFK
                                have d1 := cell_g g6 d1 hFK
                                have x1c := cell_g g6 x1c hbkK
                                have x2c := cell_g g6 x2c hbkK
                                have c1 := cell_g g6 c1 hbiK
                                have c2 := cell_g g6 c2 hbiK
                                have S6' := hid (SEch.call S5.out k6 g6)
                                have F6' := hid (IsR.grown F5.out g6 hFK)
                                have B6 : Below w.heap.size w w6 := B5.trans (below_grownK g6 hKl B5.size)
                                have R6 := hid (own_gkR r5.out g6 hbiK)
                                have fr3 := R6.out.frozenAt (m * 2)
                                have fr4 := R6.out.frozenAt (m * 2 + 1)
                                clear g6 k6
                                go_wp2_with fail
                                refine hKc.out _ _ ?_ (fun hHeld => ?_)
                                · (try dsimp only)
                                  refine ⟨?_, ?_, ?_, ?_, ?_⟩ <;> (repeat (with_reducible (first | exact ci | exact d0 | exact d1 | exact x1c | exact x2c | refine cell_dr ?_ | refine cell_al _ ?_ | refine cell_stb ?_ ?_ | (show _ ≠ _; omega))))
                                clear hKc Kc
                                (try simp only [List.getElem_toArray]); (try simp only [List.getElem_cons_succ]); (try simp only [List.getElem_cons_zero]); (try simp only [Act.put]); (try simp only [List.setIfInBounds_toArray]); (try simp only [List.set_cons_succ]); (try simp only [List.set_cons_zero])
                                refine wpAnyH_take (i := 21) (v := ?_) rfl (by kernel_rfl) (by kernel_rfl) (by kernel_rfl) (fun _ _ _ h => h) (Or.inl ⟨by kernel_rfl, ?_⟩) hHeld ?_
                                rotate_left
                                · intro wz hSw; (try dsimp only at hSw); go_simp; all_goals (try with_reducible rfl)
                                (try simp only [List.getElem_toArray]); (try simp only [List.getElem_cons_succ]); (try simp only [List.getElem_cons_zero]); (try simp only [Act.put]); (try simp only [List.setIfInBounds_toArray]); (try simp only [List.set_cons_succ]); (try simp only [List.set_cons_zero])
                                refine wpAnyH_ready (rs := [22]) (by kernel_rfl) (by simp) (AllReadyH.cons rfl (fun Kc hKc => ?_) AllReadyH.nil)
                                go_simp
                                refine hKc.out _ _ ?_ (fun hHeld => ?_)
                                · (try dsimp only)
                                  refine ⟨?_, ?_, ?_, ?_, ?_⟩ <;> (repeat (with_reducible (first | exact ci | exact d0 | exact d1 | exact x1c | exact x2c | refine cell_dr ?_ | refine cell_al _ ?_ | refine cell_stb ?_ ?_ | (show _ ≠ _; omega))))
                                clear hKc Kc
                                (try simp only [List.getElem_toArray]); (try simp only [List.getElem_cons_succ]); (try simp only [List.getElem_cons_zero]); (try simp only [Act.put]); (try simp only [List.setIfInBounds_toArray]); (try simp only [List.set_cons_succ]); (try simp only [List.set_cons_zero])
                                refine wpAnyH_done (by kernel_rfl) ?_ _
                                refine NoPanic.normal ?_
                                go_wp2
                                go_roundg g5
                                case measure => omega
                                case rel =>
                                  obtain ⟨q1, q2⟩ := R6.out.stored (m * 2) (.int .i64 s1)
                                  obtain ⟨q3, q4⟩ := q1.stored (m * 2 + 1) (.int .i64 s2)
                                  rw [cellsR_set _ _ _ _ (by rw [HUL.out]; exact hmj), HQ.out.1, upto_set _ _ _ (by rw [HRI.out.2.1]; exact hmj)] at q3
                                  have S8 := S6'.out.turn (k := i) (ps := upto (sTakeF Ri (y1, y2) Xr) Ri (m + 1)) (by rw [HL2.out]; exact hiN) (by rw [upto_len, HRI.out.2.1, HRI.out.2.2.2]; exact q3) (by rw [HRI.out.2.2.2]; exact q2.trans q4)
                                  rw [set_set', HQ.out.2] at S8
                                  exact ⟨m + 1, by omega, by go_num, S8, (F6'.out.other (by omega) _ _).other (by omega) _ _, (B6.setCell (p := ⟨bi, m * 2, none⟩) hwi _).setCell (p := ⟨bi, m * 2 + 1, none⟩) hwi _⟩
                              --R31E
                  | succ g3 =>
                    have hjL : j < L := by omega
                    have hrow := hS.out.tab.inner nf (by rw [HL2.out]; exact hnN')
                    rw [HVF.out, rw_set _ _ _ _ (by rw [swapT_len, HRL.out]; exact hnN'), if_pos rfl, upto_len, HRRL.out] at hrow
                    have hul : (upto (sDivF Rr (f1, f2)) Rr j).length = L := by rw [upto_len]; exact HRRL.out
                    obtain ⟨c1, c2⟩ := own_R hrow hul j hjL
                    obtain ⟨x, hx⟩ : ∃ x, x = fr Rr j := ⟨_, rfl⟩
                    rw [show (upto (sDivF Rr (f1, f2)) Rr j)[j]?.getD (0, 0) = x by rw [hx]; have := upto_at (sDivF Rr (f1, f2)) Rr j j (by rw [HRRL.out]; exact hjL); rw [if_neg (Nat.lt_irrefl _)] at this; exact this] at c1 c2
                    obtain ⟨x1, x2⟩ := x
                    obtain ⟨q, hq⟩ : ∃ q, q = sDivE (x1, x2) (f1, f2) := ⟨_, rfl⟩
                    obtain ⟨xb, hxb⟩ : ∃ q, q = !divK (x1, x2) (f1, f2) := ⟨_, rfl⟩
                    obtain ⟨bd, hbd⟩ : ∃ q, q = xTo (sDivB Rr (f1, f2)) j := ⟨_, rfl⟩
                    have HDV : Hid (∀ W : World, IsK W K bd → Calls Try.prog 83 #[.pointer (some ⟨K, 0, none⟩), .agg #[.int .i64 x1, .int .i64 x2], .agg #[.int .i64 f1, .int .i64 f2]] W fun e w' => e = .returned (.agg #[.int .i64 q.1, .int .i64 q.2]) ∧ IsK w' K (bd || xb) ∧ W.grownBy w' (some K)) := by
                      intro W hW; rw [hq, hxb]; exact kDiv K bd x1 x2 f1 f2 W hW
                    have HQ : Hid (q = sDivF Rr (f1, f2) j ∧ (bd || xb) = xTo (sDivB Rr (f1, f2)) (j + 1)) := by
                      refine ⟨by unfold sDivF; rw [← hx]; exact hq, ?_⟩
                      rw [xTo_succ, ← hbd, hxb]
                      unfold sDivB
                      rw [← hx]
                    rw [← hbd] at hS
                    obtain ⟨q1, q2⟩ := q
                    have fr1 := hrow.frozenAt (j * 2)
                    have fr2 := hrow.frozenAt (j * 2 + 1)
                    have d0 := hF.out.c0
                    have d1 := hF.out.c1
                    have HROW := hid hrow
                    have HUL := hid hul
                    have hbK : bk ≠ K := own_ne hrow hS.out.kk.blk (by decide) bk rfl
                    have hFK : F ≠ K := by omega
                    clear hx hq hxb hbd hrow hul
                    go_wp2
                    go_region_with (go_at_call 83; refine (HDV.out _ (by first | exact hS.out.kk | exact hS.out.kk.below ((Below.refl _ _).drew))).mono ?_; rintro e w5 ⟨rfl, k5, g5⟩; have S5 := SEch.call (by first | exact hS.out | exact hS.out.below ((Below.refl _ _).drew)) k5 g5; have F5 := IsR.grown (by first | exact hF.out | exact hF.out.below ((Below.refl _ _).drew)) g5 hFK; have B5 : Below w.heap.size w w5 := Below.trans (by first | exact hB.out | exact hB.out.drew) (below_grownK g5 hKl (by simpa using hB.out.size)); have r5 := S5.tab.inner nf (by rw [HL2.out]; exact hnN'); rw [HVF.out, rw_set _ _ _ _ (by rw [swapT_len, HRL.out]; exact hnN'), if_pos rfl, upto_len, HRRL.out] at r5; have c3 := cell_g g5 (by first | exact c1 | exact cell_dr c1) hbK; have c4 := cell_g g5 (by first | exact c2 | exact cell_dr c2) hbK; have fr3 := r5.frozenAt (j * 2); have fr4 := r5.frozenAt (j * 2 + 1); have d2 := F5.c0; have d3 := F5.c1; have HR5 := hid r5; clear r5)
                    all_goals go_wp2
                    all_goals
                      go_roundg g3
                      case measure => omega
                      case rel =>
                        obtain ⟨p1, p2⟩ := HR5.out.stored (j * 2) (.int .i64 q1)
                        obtain ⟨p3, p4⟩ := p1.stored (j * 2 + 1) (.int .i64 q2)
                        rw [cellsR_set _ _ _ _ (by rw [HUL.out]; exact hjL), HQ.out.1, upto_set _ _ _ (by rw [HRRL.out]; exact hjL)] at p3
                        have S6 := S5.turn (k := nf) (ps := upto (sDivF Rr (f1, f2)) Rr (j + 1)) (by rw [HL2.out]; exact hnN') (by rw [upto_len, HRRL.out, HVF.out]; exact p3) (by rw [HVF.out]; exact p2.trans p4)
                        rw [set_set', HQ.out.2] at S6
                        exact ⟨j + 1, by omega, by go_num, S6, (F5.other (by omega) _ _).other (by omega) _ _, (B5.setCell (p := ⟨bk, j * 2, none⟩) hbw _).setCell (p := ⟨bk, j * 2 + 1, none⟩) hbw _⟩
    | succ g =>
      have hlt : k < N := by omega
      obtain ⟨bs, offs, u, rfl, c1, hu⟩ := H5N.out k hlt
      obtain ⟨ar, cr, rfl, m2, m3, m4, _⟩ := id hu
      obtain ⟨-, b2, off2, rfl, hsrc⟩ := row_src hu rfl (by rw [HD.out k (by have := HN.out; omega)]; exact hL1)
      have hrl := HD.out k (by have := HN.out; omega)
      have HS : Hid (∀ W : World, Below w.heap.size w W → ∀ j u, (cellsR (rw' rows k))[j]? = some u → W.cell? ((⟨b2, off2, none⟩ : Addr).add j) = some u) := by
        intro W hW j u' hj
        have h1 := hsrc j u' hj
        obtain ⟨a1, a2, a3, a4⟩ : ∃ a1 a2, (⟨b2, off2, none⟩ : Addr).add j = ⟨a1, a2, none⟩ ∧ True := by
          refine ⟨b2, off2 + j, ?_, trivial⟩
          by_cases i0 : j = 0 <;> simp [Addr.add, i0]
        rw [a3] at h1 ⊢
        exact cell_keep hW h1
      rw [hrl] at c1
      replace c1 := cell_keep hB.out c1
      have HRL := hid hrl
      obtain ⟨ao, co, rfl⟩ := own_shape hT.out.outer
      have hlo : ∀ b, (Value.slice ao us.length co).ownBlock = some b → b < wr.heap.size := fun b e => (hT.out.outer.lt b e).2
      have HLO := hid hlo
      have HUS := hid hus
      have hT' : Hid (wr.ownsRow w.heap.size 27 1 (.slice ao k co) k us) := by show World.ownsRow _ _ _ _ _ _ _; rw [← hus]; exact hT.out.outer
      rw [hus]
      clear hsrc hu m2 m3 m4 hrl hus hlo
      have hk6 : k < 1000 := by omega
      replace c1 : ∀ o : Obj, (wr.alloc o).cell? ⟨bs, offs + k, none⟩ = some (.slice (some ⟨b2, off2, none⟩) L cr) := fun o => cell_keep (b0 _ o) c1
      go_wp2_with (first | (at_builtin; refine wpList_append_own _ rfl _ _ 27 rfl wr.heap.size 33 i0 (.agg #[.int .i64 0, .int .i64 0]) 2 16 Try.underlying27 hi hz0 hz1 hz2 rfl (by decide) _ _ _ rfl (World.ownsRow_lit wr (base := wr.heap.size) (e := 33) (size := 2) #[] 0 (Nat.le_refl _) (Nat.zero_le _) rfl) ⟨b2, off2, none⟩ L cr (cellsR (rw' rows k)) rfl (by rw [cellsR_len, HRL.out]) (HS.out _ (hB.out.trans ((b0 _ _).mono hsz))) (cellsR_one _) (by unfold maxLen; omega) (by omega) (by simp) ?_; intro v1 w3 hown1 hgrow1 _; replace hown1 : w3.ownsRow wr.heap.size 33 2 v1 L (cellsR (rw' rows k)) := (by simpa using hown1); obtain ⟨a1, c1', rfl⟩ := own_shape hown1; have T3 : Tab w3 w.heap.size (.slice ao us.length co) us (rows.take k) := (hT.out.below (b0 _ _)).kept hgrow1 (fun b e h2 => by cases e; exact Nat.lt_irrefl _ (HLO.out _ h2)) (fun i hi b e h2 => by cases e; exact Nat.lt_irrefl _ (hT.out.lt i hi _ h2)); have B3 : Below w.heap.size w w3 := (hB.out.trans ((b0 _ _).mono hsz)).grown hgrow1 (by simp; omega) (fun b e => by cases e; exact hsz); have hs3 := B3.size; have hs4 := hgrow1.size; have HO1 := hid hown1; have o3 : Hid (w3.ownsRow w.heap.size 27 1 (.slice ao k co) k us) := (by show World.ownsRow _ _ _ _ _ _ _; rw [← HUS.out]; exact T3.outer); have HT3 := hid T3; clear T3 hown1) | (at_builtin; refine wpList_append_own _ rfl _ _ 56 rfl w.heap.size 27 t0 (.slice none 0 0) 1 24 Try.underlying56 hti htz0 htz1 htz2 rfl (by decide) _ _ _ rfl (World.ownsRow.alloc o3.out _) ⟨w3.heap.size, 0, none⟩ 1 1 [.slice a1 L c1'] rfl rfl (cell_one_new _ _ _) (by simp [Value.oneCell']) (by unfold maxLen; omega) (by omega) (by simp; omega) ?_; intro v2 w4 hown2 hgrow2 _))
      go_roundg g
      case measure => omega
      case rel =>
        have hu3 : w3.ownsRow w.heap.size 33 2 (.slice a1 L c1') (rw' rows k).length (cellsR (rw' rows k)) := by
          rw [HRL.out]
          exact own_le HO1.out hsz
        have T4 := HT3.out.append (u := .slice a1 L c1') (ps := rw' rows k) hu3 (fun i hi b e h2 => by
          have h1 := hT.out.lt i hi b e
          have h3 := (HO1.out.lt b h2).1
          omega) (by rw [HUS.out]; exact hown2) (by rw [HUS.out]; exact hgrow2)
        rw [takeS rows k (by have := HN.out; omega)] at T4
        exact ⟨v2, k + 1, us ++ [Value.slice a1 L c1'], by omega, by go_num, rfl, by simp [HUS.out], T4, B3.trans ((below_appended o3.out hs3 hgrow2))⟩
end Go.Proofs.Ythnlcgilmljliaa

/- The walks of Echelon and Rank, the program's and the model's. -/
namespace Go.Proofs.Ythnlcgilmljliaa
open Go.RowKit Go.Proofs.Ythnlcgilmljliaa.RM

theorem sEchO_any (v : Value) (rows : List (List Fr)) (w : World) (h : RdT w v rows) (ht : tabB rows 6 = true) :
    Calls Try.prog 74 #[v] w fun e w' => SEchP w rows e w' := by
  obtain ⟨⟨t1, t2, t3, t4⟩, tr⟩ := tabB_out ht
  exact sEch_any v rows (rw' rows 0).length w h t1 (by omega) t3 (by omega) (fun x hx => (tr x hx).1)
/-- how many columns are chosen -/
def rkI (rows : List (List Fr)) : Int := if echO rows then ((echC rows).length : Int) else -1

end Go.Proofs.Ythnlcgilmljliaa

/- How great what Echelon answers can be. -/
namespace Go.Proofs.Ythnlcgilmljliaa
open Go.Proofs.Ythnlcgilmljliaa.RM

/-- the steps keep the table's form -/
theorem echF_dims {L : Nat} : ∀ (n col : Nat) (rows : List (List Fr)) (ch : List Nat) (R : List (List Fr)) (C : List Nat), (∀ x, x < rows.length → (rw' rows x).length = L) → ch.length ≤ rows.length → (∀ c, c ∈ ch → c < col) → echF n col rows ch = some (R, C) →
    R.length = rows.length ∧ (∀ x, x < R.length → (rw' R x).length = L) ∧ C.length ≤ rows.length ∧ ∀ c, c ∈ C → c < col + n
  | 0, col, rows, ch, R, C, hd, hl, hc, h => by
    simp only [echF, Option.some.injEq, Prod.mk.injEq] at h
    obtain ⟨rfl, rfl⟩ := h
    exact ⟨rfl, hd, hl, fun c hx => by have := hc c hx; omega⟩
  | n + 1, col, rows, ch, R, C, hd, hl, hc, h => by
    by_cases hp : piv rows col ch.length = rows.length
    · rw [echF_free hp] at h
      obtain ⟨h1, h2, h3, h4⟩ := echF_dims n (col + 1) rows ch R C hd hl (fun c hx => by have := hc c hx; omega) h
      exact ⟨h1, h2, h3, fun c hx => by have := h4 c hx; omega⟩
    · obtain ⟨p1, p2⟩ := piv_le (rows := rows) (col := col) hl
      cases hb : stepB rows ch.length (piv rows col ch.length) col with
      | false => rw [echF_no rfl hp hb] at h; cases h
      | true =>
        rw [echF_yes rfl hp hb] at h
        have := echF_dims n (col + 1) (stepT rows ch.length (piv rows col ch.length) col) (ch ++ [col]) R C (stepT_row hd (by omega) (by omega)) (by rw [stepT_len]; simp; omega) (fun c hx => by
          rw [List.mem_append] at hx
          rcases hx with hx | hx
          · have := hc c hx; omega
          · simp at hx; omega) h
        rw [stepT_len] at this
        obtain ⟨h1, h2, h3, h4⟩ := this
        exact ⟨h1, h2, h3, fun c hx => by have := h4 c hx; omega⟩
theorem ech_dims {rows : List (List Fr)} (ht : tabB rows 6 = true) (hk : echK rows = true) : (echR rows).length = rows.length ∧ (∀ x, x < (echR rows).length → (rw' (echR rows) x).length = (rw' rows 0).length) ∧ (echC rows).length ≤ rows.length ∧ ∀ c, c ∈ echC rows → c < (rw' rows 0).length := by
  obtain ⟨⟨t1, t2, t3, t4⟩, tr⟩ := tabB_out ht
  unfold echK at hk
  cases he : ech rows with
  | none => rw [he] at hk; cases hk
  | some p =>
    obtain ⟨R, C⟩ := p
    obtain ⟨-, e1, e2⟩ := ech_yes he
    rw [e1, e2]
    have := echF_dims (L := (rw' rows 0).length) _ 0 rows [] R C (fun x hx => (tr x hx).1) (Nat.zero_le _) (fun c hx => absurd hx (by simp)) he
    simpa using this
theorem echA_small (rows : List (List Fr)) : (echA rows).length ≤ 1048576 ∧ ∀ i, i < (echA rows).length → (rw' (echA rows) i).length ≤ 1048576 := by
  cases ho : echO rows with
  | false => rw [(echO_no ho).1]; exact ⟨by simp, fun i hi => absurd hi (Nat.not_lt_zero _)⟩
  | true =>
    have h := ho
    unfold echO at h
    rw [Bool.and_eq_true] at h
    obtain ⟨h1, h2, _⟩ := ech_dims h.1 h.2
    obtain ⟨⟨t1, t2, t3, t4⟩, tr⟩ := tabB_out h.1
    rw [(echO_yes ho).1]
    exact ⟨by omega, fun i hi => by rw [h2 i hi]; omega⟩
end Go.Proofs.Ythnlcgilmljliaa

/- The kernel's rows, in plain lists. -/
namespace Go.Proofs.Ythnlcgilmljliaa
open Go.RowKit Go.Proofs.Ythnlcgilmljliaa.RM

def mirF (p : Fr) : Fr := (wrap64 (-p.1), p.2)
/-- number k of a list of columns -/
def nt (C : List Nat) (k : Nat) : Nat := C[k]?.getD 0
/-- the chosen columns' elements laid, the first k -/
def setsK (R : List (List Fr)) (C : List Nat) (col : Nat) : Nat → List Fr → List Fr
  | 0, b => b
  | k + 1, b => (setsK R C col k b).set (nt C k) (mirF (fr (rw' R k) col))
/-- the free columns' noughts laid, the first k -/
def setsF (F : List Nat) : Nat → List Fr → List Fr
  | 0, b => b
  | k + 1, b => (setsF F k b).set (nt F k) (0, 1)
theorem setsK_len (R : List (List Fr)) (C : List Nat) (col k : Nat) (b : List Fr) : (setsK R C col k b).length = b.length := by
  induction k with
  | zero => rfl
  | succ k ih => simp [setsK, ih]
theorem setsF_len (F : List Nat) (k : Nat) (b : List Fr) : (setsF F k b).length = b.length := by
  induction k with
  | zero => rfl
  | succ k ih => simp [setsF, ih]
theorem nt_mem {C : List Nat} {k : Nat} (h : k < C.length) : nt C k ∈ C := by
  unfold nt
  rw [List.getElem?_eq_getElem h]
  exact List.getElem_mem h
/-- the row of one free column -/
def kerRow (R : List (List Fr)) (C : List Nat) (L col : Nat) : List Fr := setsK R C col C.length ((List.replicate L ((0, 1) : Fr)).set col (1, 1))
theorem kerRow_len (R : List (List Fr)) (C : List Nat) (L col : Nat) : (kerRow R C L col).length = L := by simp [kerRow, setsK_len]
theorem setsK_same (R : List (List Fr)) (C : List Nat) (col : Nat) (b b' : List Fr) (hl : b.length = b'.length) (x : Nat) : ∀ k, k ≤ C.length → (∀ i, i < k → nt C i < b.length) → ((∀ i, i < k → nt C i ≠ x) → fr b x = fr b' x) → fr (setsK R C col k b) x = fr (setsK R C col k b') x
  | 0, _, _, h => h (fun i hi => absurd hi (Nat.not_lt_zero _))
  | k + 1, hk, hc, h => by
    simp only [setsK]
    rw [fr_set _ _ _ _ (by rw [setsK_len]; exact hc k (by omega)), fr_set _ _ _ _ (by rw [setsK_len, ← hl]; exact hc k (by omega))]
    by_cases e : nt C k = x
    · rw [if_pos e, if_pos e]
    · rw [if_neg e, if_neg e]
      refine setsK_same R C col b b' hl x k (by omega) (fun i hi => hc i (by omega)) (fun hn => h (fun i hi => ?_))
      by_cases e2 : i = k
      · subst e2; exact e
      · exact hn i (by omega)
theorem setsF_at (F : List Nat) (b : List Fr) (x : Nat) : ∀ k, k ≤ F.length → (∀ i, i < k → nt F i < b.length) → fr (setsF F k b) x = if (∃ i, i < k ∧ nt F i = x) then (0, 1) else fr b x
  | 0, _, _ => by
    rw [if_neg (by rintro ⟨i, hi, _⟩; omega)]; rfl
  | k + 1, hk, hc => by
    simp only [setsF]
    rw [fr_set _ _ _ _ (by rw [setsF_len]; exact hc k (by omega)), setsF_at F b x k (by omega) (fun i hi => hc i (by omega))]
    by_cases e : nt F k = x
    · rw [if_pos e, if_pos ⟨k, by omega, e⟩]
    · rw [if_neg e]
      by_cases h : ∃ i, i < k ∧ nt F i = x
      · obtain ⟨i, hi, he⟩ := h
        rw [if_pos ⟨i, hi, he⟩, if_pos ⟨i, by omega, he⟩]
      · rw [if_neg h, if_neg]
        rintro ⟨i, hi, he⟩
        by_cases e2 : i = k
        · subst e2; exact e he
        · exact h ⟨i, by omega, he⟩
theorem mem_nt {C : List Nat} {x : Nat} (h : x ∈ C) : ∃ i, i < C.length ∧ nt C i = x := by
  obtain ⟨i, hi, rfl⟩ := List.mem_iff_getElem.1 h
  exact ⟨i, hi, by simp [nt, hi]⟩
theorem freeC_mem {L : Nat} {C : List Nat} {x : Nat} : x ∈ freeC L C ↔ x < L ∧ x ∉ C := by
  unfold freeC
  rw [List.mem_filter, List.mem_range]
  simp
/-- the program's way to the same row -/
theorem kerRow_impl (R : List (List Fr)) (C : List Nat) (L col : Nat) (hC : ∀ c, c ∈ C → c < L) (hcol : col < L) :
    setsK R C col C.length ((setsF (freeC L C) (freeC L C).length (List.replicate L (0, 0))).set col (1, 1)) = kerRow R C L col := by
  unfold kerRow
  apply fr_ext
  · rw [setsK_len, setsK_len, List.length_set, List.length_set, setsF_len]; simp
  · intro x hx
    rw [setsK_len, List.length_set, setsF_len, List.length_replicate] at hx
    refine setsK_same R C col _ _ (by rw [List.length_set, List.length_set, setsF_len]; simp) x C.length (Nat.le_refl _) (fun i hi => by rw [List.length_set, setsF_len, List.length_replicate]; exact hC _ (nt_mem hi)) (fun hn => ?_)
    rw [fr_set _ _ _ _ (by rw [setsF_len]; simpa using hcol), fr_set _ _ _ _ (by simpa using hcol)]
    by_cases e : col = x
    · rw [if_pos e, if_pos e]
    · rw [if_neg e, if_neg e, setsF_at _ _ _ _ (Nat.le_refl _) (fun i hi => by rw [List.length_replicate]; exact (freeC_mem.1 (nt_mem hi)).1)]
      have hxC : x ∉ C := fun h => by
        obtain ⟨i, hi, he⟩ := mem_nt h
        exact hn i hi he
      rw [if_pos (mem_nt (freeC_mem.2 ⟨hx, hxC⟩))]
      simp [fr, hx]
/-- what Kernel answers -/
def kerA (rows : List (List Fr)) : List (List Fr) := if echO rows then (freeC (rw' rows 0).length (echC rows)).map (kerRow (echR rows) (echC rows) (rw' rows 0).length) else []
theorem kerA_no {rows : List (List Fr)} (h : echO rows = false) : kerA rows = [] := by simp [kerA, h]
theorem kerA_yes {rows : List (List Fr)} (h : echO rows = true) : kerA rows = (freeC (rw' rows 0).length (echC rows)).map (kerRow (echR rows) (echC rows) (rw' rows 0).length) := by simp [kerA, h]
theorem freeC_len (L : Nat) (C : List Nat) : (freeC L C).length ≤ L := by
  unfold freeC
  have := List.length_filter_le (fun c => !C.contains c) (List.range L)
  simpa using this
theorem kerA_small (rows : List (List Fr)) : (kerA rows).length ≤ 1048576 ∧ ∀ i, i < (kerA rows).length → (rw' (kerA rows) i).length ≤ 1048576 := by
  cases ho : echO rows with
  | false => rw [kerA_no ho]; exact ⟨by simp, fun i hi => absurd hi (Nat.not_lt_zero _)⟩
  | true =>
    have h := ho
    unfold echO at h
    rw [Bool.and_eq_true] at h
    obtain ⟨⟨t1, t2, t3, t4⟩, tr⟩ := tabB_out h.1
    have hl := freeC_len (rw' rows 0).length (echC rows)
    rw [kerA_yes ho]
    refine ⟨by rw [List.length_map]; omega, fun i hi => ?_⟩
    rw [List.length_map] at hi
    have : rw' ((freeC (rw' rows 0).length (echC rows)).map (kerRow (echR rows) (echC rows) (rw' rows 0).length)) i = kerRow (echR rows) (echC rows) (rw' rows 0).length (nt (freeC (rw' rows 0).length (echC rows)) i) := by
      show (List.map _ _)[i]?.getD [] = _
      unfold nt
      rw [List.getElem?_map, List.getElem?_eq_getElem hi]
      rfl
    rw [this, kerRow_len]
    omega
/-- the chosen columns rise -/
def rises (C : List Nat) : Prop := ∀ i j, i < j → j < C.length → nt C i < nt C j
theorem echF_rises {L : Nat} : ∀ (n col : Nat) (rows : List (List Fr)) (ch : List Nat) (R : List (List Fr)) (C : List Nat), rises ch → (∀ c, c ∈ ch → c < col) → echF n col rows ch = some (R, C) → rises C
  | 0, col, rows, ch, R, C, hr, hc, h => by
    simp only [echF, Option.some.injEq, Prod.mk.injEq] at h
    obtain ⟨rfl, rfl⟩ := h
    exact hr
  | n + 1, col, rows, ch, R, C, hr, hc, h => by
    by_cases hp : piv rows col ch.length = rows.length
    · rw [echF_free hp] at h
      exact echF_rises (L := L) n (col + 1) rows ch R C hr (fun c hx => by have := hc c hx; omega) h
    · cases hb : stepB rows ch.length (piv rows col ch.length) col with
      | false => rw [echF_no rfl hp hb] at h; cases h
      | true =>
        rw [echF_yes rfl hp hb] at h
        refine echF_rises (L := L) n (col + 1) _ (ch ++ [col]) R C (fun i j hij hj => ?_) (fun c hx => ?_) h
        · rw [List.length_append, List.length_singleton] at hj
          have hi : nt (ch ++ [col]) i = nt ch i := by unfold nt; rw [List.getElem?_append_left (by omega)]
          rw [hi]
          by_cases e : j < ch.length
          · have : nt (ch ++ [col]) j = nt ch j := by unfold nt; rw [List.getElem?_append_left e]
            rw [this]
            exact hr i j hij e
          · obtain rfl : j = ch.length := by omega
            have : nt (ch ++ [col]) ch.length = col := by simp [nt]
            rw [this]
            exact hc _ (nt_mem (by omega))
        · rw [List.mem_append] at hx
          rcases hx with hx | hx
          · have := hc c hx; omega
          · simp at hx; omega
theorem ech_rises {rows : List (List Fr)} (hk : echK rows = true) : rises (echC rows) := by
  unfold echK at hk
  cases he : ech rows with
  | none => rw [he] at hk; cases hk
  | some p =>
    obtain ⟨R, C⟩ := p
    obtain ⟨-, e1, e2⟩ := ech_yes he
    rw [e2]
    exact echF_rises (L := 0) _ 0 rows [] R C (fun _ _ _ hj => absurd hj (Nat.not_lt_zero _)) (fun c hx => absurd hx (by simp)) he
/-- so many of the chosen ones lie ahead of col -/
def atP (C : List Nat) (at' col : Nat) : Prop := at' ≤ C.length ∧ (∀ i, i < at' → nt C i < col) ∧ ∀ i, at' ≤ i → i < C.length → col ≤ nt C i
theorem atP_zero (C : List Nat) : atP C 0 0 := ⟨Nat.zero_le _, fun _ hi => absurd hi (Nat.not_lt_zero _), fun _ _ _ => Nat.zero_le _⟩
theorem atP_yes {C : List Nat} {at' col : Nat} (hr : rises C) (h : atP C at' col) (h1 : at' < C.length) (h2 : nt C at' = col) : atP C (at' + 1) (col + 1) ∧ col ∈ C := by
  refine ⟨⟨by omega, fun i hi => ?_, fun i hi hl => ?_⟩, h2 ▸ nt_mem h1⟩
  · by_cases e : i = at'
    · subst e; omega
    · have := h.2.1 i (by omega); omega
  · have := hr at' i (by omega) hl; omega
theorem atP_no {C : List Nat} {at' col : Nat} (hr : rises C) (h : atP C at' col) (h1 : at' < C.length → nt C at' ≠ col) : atP C at' (col + 1) ∧ col ∉ C := by
  have hgt : ∀ i, at' ≤ i → i < C.length → col < nt C i := by
    intro i hi hl
    have h3 := h.2.2 at' (Nat.le_refl _) (by omega)
    have h4 := h1 (by omega)
    by_cases e : i = at'
    · subst e; omega
    · have := hr at' i (by omega) hl; omega
  refine ⟨⟨h.1, fun i hi => by have := h.2.1 i hi; omega, fun i hi hl => by have := hgt i hi hl; omega⟩, fun hm => ?_⟩
  obtain ⟨i, hi, he⟩ := mem_nt hm
  by_cases e : i < at'
  · have := h.2.1 i e; omega
  · have := hgt i (by omega) hi; omega
theorem freeC_in {col : Nat} {C : List Nat} (h : col ∈ C) : freeC (col + 1) C = freeC col C := by
  unfold freeC
  rw [List.range_succ, List.filter_append]
  simp [h]
theorem freeC_out {col : Nat} {C : List Nat} (h : col ∉ C) : freeC (col + 1) C = freeC col C ++ [col] := by
  unfold freeC
  rw [List.range_succ, List.filter_append]
  simp [h]
end Go.Proofs.Ythnlcgilmljliaa

/- What Solved answers, in plain lists. -/
namespace Go.Proofs.Ythnlcgilmljliaa
open Go.RowKit Go.Proofs.Ythnlcgilmljliaa.RM

/-- the rows with right's elements behind them -/
def wideT (rows : List (List Fr)) (right : List Fr) : List (List Fr) := (List.range rows.length).map fun i => rw' rows i ++ [fr right i]
theorem wideT_len (rows : List (List Fr)) (right : List Fr) : (wideT rows right).length = rows.length := by simp [wideT]
theorem wideT_at (rows : List (List Fr)) (right : List Fr) (i : Nat) (h : i < rows.length) : rw' (wideT rows right) i = rw' rows i ++ [fr right i] := by simp [wideT, rw', h]
/-- is it as told, right's fractions aside -/
def solC (rows : List (List Fr)) (right : List Fr) : Bool := decide (rows.length ≤ 5) && (tabB rows 6 && (decide ((rw' rows 0).length = rows.length) && decide (right.length = rows.length)))
theorem solC_out {rows : List (List Fr)} {right : List Fr} (h : solC rows right = true) : rows.length ≤ 5 ∧ tabB rows 6 = true ∧ (rw' rows 0).length = rows.length ∧ right.length = rows.length := by
  unfold solC at h
  simpa [Bool.and_eq_true, and_assoc] using h
theorem solC_no {rows : List (List Fr)} {right : List Fr} (h : ¬ (rows.length ≤ 5 ∧ tabB rows 6 = true ∧ (rw' rows 0).length = rows.length ∧ right.length = rows.length)) : solC rows right = false := by
  rw [← Bool.not_eq_true]
  exact fun h2 => h (solC_out h2)
/-- just one free column: right's -/
def solF (n : Nat) (C : List Nat) : Bool := decide (freeC (n + 1) C = [n])
def solO (rows : List (List Fr)) (right : List Fr) : Bool := solC rows right && (echO (wideT rows right) && solF rows.length (echC (wideT rows right)))
def solX (rows : List (List Fr)) (right : List Fr) : List Fr := (List.range rows.length).map fun i => fr (rw' (echR (wideT rows right)) i) rows.length
def solA (rows : List (List Fr)) (right : List Fr) : List Fr := if solO rows right then solX rows right else []
theorem solA_no {rows : List (List Fr)} {right : List Fr} (h : solO rows right = false) : solA rows right = [] := by simp [solA, h]
theorem solA_yes {rows : List (List Fr)} {right : List Fr} (h : solO rows right = true) : solA rows right = solX rows right := by simp [solA, h]
theorem solX_len (rows : List (List Fr)) (right : List Fr) : (solX rows right).length = rows.length := by simp [solX]
theorem solX_at (rows : List (List Fr)) (right : List Fr) (i : Nat) (h : i < rows.length) : fr (solX rows right) i = fr (rw' (echR (wideT rows right)) i) rows.length := by simp [solX, fr, h]
/-- the wide table is one where right's fractions are right -/
theorem wide_tab {rows : List (List Fr)} {right : List Fr} (h : solC rows right = true) : tabB (wideT rows right) 6 = allOk right := by
  obtain ⟨h1, h2, h3, h4⟩ := solC_out h
  obtain ⟨⟨t1, t2, t3, t4⟩, tr⟩ := tabB_out h2
  have h0 : (rw' (wideT rows right) 0).length = rows.length + 1 := by rw [wideT_at _ _ _ (by omega)]; simp [h3]
  cases hr : allOk right with
  | true =>
    refine tabB_yes (by rw [wideT_len, h0]; omega) (fun k hk => ?_)
    rw [wideT_len] at hk
    rw [h0, wideT_at _ _ _ hk]
    refine ⟨by rw [List.length_append, (tr k hk).1, h3]; rfl, ?_⟩
    unfold allOk
    rw [List.all_append]
    have e1 := (tr k hk).2
    unfold allOk at e1
    rw [e1]
    have e2 := allOk_at hr (k := k) (by omega)
    simpa using e2
  | false =>
    have hbad : ∃ k, k < right.length ∧ okB (fr right k).1 (fr right k).2 = false := by
      apply Classical.byContradiction
      intro hn
      have : allOk right = true := allOk_yes (fun k hk => by
        cases e : okB (fr right k).1 (fr right k).2 with
        | true => rfl
        | false => exact absurd ⟨k, hk, e⟩ hn)
      rw [hr] at this; cases this
    obtain ⟨k, hk, hb⟩ := hbad
    refine tabB_row (k := k) (by rw [wideT_len]; omega) (fun hh => ?_)
    have e1 := hh.2
    rw [wideT_at _ _ _ (by omega)] at e1
    unfold allOk at e1
    rw [List.all_append, Bool.and_eq_true] at e1
    have e2 := e1.2
    simp [hb] at e2
theorem atP_run {n : Nat} {C : List Nat} (hr : rises C) (h : ∀ x, x < n → x ∈ C) : ∀ k, k ≤ n → atP C k k ∧ ∀ i, i < k → nt C i = i
  | 0, _ => ⟨atP_zero C, fun i hi => absurd hi (Nat.not_lt_zero _)⟩
  | k + 1, hk => by
    obtain ⟨h1, h2⟩ := atP_run hr h k (by omega)
    have hm := h k (by omega)
    have hc : k < C.length ∧ nt C k = k := by
      apply Classical.byContradiction
      intro hn
      exact (atP_no hr h1 (fun hl e => hn ⟨hl, e⟩)).2 hm
    refine ⟨(atP_yes hr h1 hc.1 hc.2).1, fun i hi => ?_⟩
    by_cases e : i = k
    · subst e; exact hc.2
    · exact h2 i (by omega)
/-- the model's way to say the same -/
theorem solF_model {n : Nat} {C : List Nat} (hn : 1 ≤ n) (hr : rises C) (hl : ∀ c, c ∈ C → c < n + 1) : solF n C = (decide (C.length = n) && decide (nt C (n - 1) = n - 1)) := by
  unfold solF
  rw [Bool.eq_iff_iff, decide_eq_true_eq, Bool.and_eq_true, decide_eq_true_eq, decide_eq_true_eq]
  constructor
  · intro h
    have hin : ∀ x, x < n → x ∈ C := by
      intro x hx
      apply Classical.byContradiction
      intro hn2
      have : x ∈ freeC (n + 1) C := freeC_mem.2 ⟨by omega, hn2⟩
      rw [h] at this
      simp at this
      omega
    have hout : n ∉ C := by
      have : n ∈ freeC (n + 1) C := by rw [h]; simp
      exact (freeC_mem.1 this).2
    obtain ⟨h1, h2⟩ := atP_run hr hin n (Nat.le_refl _)
    have hlen : C.length = n := by
      apply Classical.byContradiction
      intro hne
      have hgt : n < C.length := by have := h1.1; omega
      have h3 := h1.2.2 n (Nat.le_refl _) hgt
      have h4 := hl _ (nt_mem hgt)
      exact hout (by have := nt_mem hgt; rw [show nt C n = n by omega] at this; exact this)
    exact ⟨hlen, h2 (n - 1) (by omega)⟩
  · rintro ⟨h1, h2⟩
    have hle : ∀ k, k < n → nt C (n - 1 - k) ≤ n - 1 - k := by
      intro k
      induction k with
      | zero => intro _; simp [h2]
      | succ k ih =>
        intro hk
        have := ih (by omega)
        have := hr (n - 1 - (k + 1)) (n - 1 - k) (by omega) (by omega)
        omega
    have hge : ∀ k, k < n → k ≤ nt C k := by
      intro k
      induction k with
      | zero => intro _; omega
      | succ k ih =>
        intro hk
        have := ih (by omega)
        have := hr k (k + 1) (by omega) (by omega)
        omega
    have heq : ∀ k, k < n → nt C k = k := by
      intro k hk
      have a := hge k hk
      have b := hle (n - 1 - k) (by omega)
      rw [show n - 1 - (n - 1 - k) = k by omega] at b
      omega
    have hin : ∀ x, x < n → x ∈ C := fun x hx => by have := nt_mem (C := C) (k := x) (by omega); rw [heq x hx] at this; exact this
    have hout : n ∉ C := by
      intro hm
      obtain ⟨i, hi, he⟩ := mem_nt hm
      have := heq i (by omega)
      omega
    have hz : ∀ k, k ≤ n → freeC k C = [] := by
      intro k
      induction k with
      | zero => intro _; rfl
      | succ k ih => intro hk; rw [freeC_in (hin k (by omega))]; exact ih (by omega)
    rw [freeC_out hout, hz n (Nat.le_refl _)]
    rfl
theorem solA_small (rows : List (List Fr)) (right : List Fr) : (solA rows right).length ≤ 1048576 := by
  cases ho : solO rows right with
  | false => rw [solA_no ho]; simp
  | true =>
    have h := ho
    unfold solO at h
    rw [Bool.and_eq_true] at h
    obtain ⟨h1, _⟩ := solC_out h.1
    rw [solA_yes ho, solX_len]
    omega
end Go.Proofs.Ythnlcgilmljliaa

/- The walk of the program's kernelRow. -/
namespace Go.Proofs.Ythnlcgilmljliaa
open Go.RowKit Go.Proofs.Ythnlcgilmljliaa.RM

/-- a number of a list of columns, as it is read -/
theorem nat_at {W : World} {base g n c : Nat} {C : List Nat} (h : W.ownsRow base 3 1 (.slice (some ⟨g, 0, none⟩) n c) C.length (natV C)) (k : Nat) (hk : k < C.length) : W.cell? ⟨g, k, none⟩ = some (.int .i64 (nt C k : Int)) := by
  have hn : n = C.length := by
    rcases h.2 with ⟨e, _⟩ | ⟨g', c', cur, e, _⟩ <;> cases e; rfl
  subst hn
  have h1 := h.cellAt k (by omega)
  rw [h1]
  unfold natV nt
  rw [List.getElem?_map, List.getElem?_eq_getElem hk]
  rfl
/-- two cells of a row are stored -/
theorem row_set {W : World} {base g L c : Nat} {ps : List Fr} (h : W.ownsRow base 33 2 (.slice (some ⟨g, 0, none⟩) L c) L (cellsR ps)) (hl : ps.length = L) (k : Nat) (hk : k < L) (x y : Int) :
    ((W.setCell ⟨g, k * 2, none⟩ (.int .i64 x)).setCell ⟨g, k * 2 + 1, none⟩ (.int .i64 y)).ownsRow base 33 2 (.slice (some ⟨g, 0, none⟩) L c) L (cellsR (ps.set k (x, y))) ∧ W.grownBy ((W.setCell ⟨g, k * 2, none⟩ (.int .i64 x)).setCell ⟨g, k * 2 + 1, none⟩ (.int .i64 y)) (some g) := by
  obtain ⟨p1, p2⟩ := h.stored (k * 2) (.int .i64 x)
  obtain ⟨p3, p4⟩ := p1.stored (k * 2 + 1) (.int .i64 y)
  rw [cellsR_set _ _ _ _ (by rw [hl]; exact hk)] at p3
  exact ⟨p3, p2.trans p4⟩
theorem blk_set {W : World} {E b : Nat} {cs : Array Value} {t : TypeId} (h : W.heap[E]? = some (.cells cs t (0, 0))) (hne : E ≠ b) (o : Nat) (v : Value) : (W.setCell ⟨b, o, none⟩ v).heap[E]? = some (.cells cs t (0, 0)) := (Below.heap_setCell W ⟨b, o, none⟩ v E hne).trans h

end Go.Proofs.Ythnlcgilmljliaa

/- The walk of the program's Solved. -/
namespace Go.Proofs.Ythnlcgilmljliaa
open Go.RowKit Go.Proofs.Ythnlcgilmljliaa.RM

/-- what both answer -/
def SolP (w : World) (rows : List (List Fr)) (right : List Fr) (e : Ending) (w' : World) : Prop :=
  ∃ v, e = .returned (.tuple #[v, .bool (solO rows right)]) ∧ w'.ownsRow w.heap.size 33 2 v (solA rows right).length (cellsR (solA rows right)) ∧ Below w.heap.size w w'
theorem SolP.no {w W : World} {rows : List (List Fr)} {right : List Fr} (h : solO rows right = false) (hb : Below w.heap.size w W) :
    SolP w rows right (.returned (.tuple #[.slice (some ⟨W.heap.size, 0, none⟩) 0 0, .bool false])) (W.alloc (.cells #[] 33)) := by
  refine ⟨_, by rw [h], ?_, hb.alloc hb.size _⟩
  rw [solA_no h]
  exact World.ownsRow_lit W (base := w.heap.size) (e := 33) (size := 2) #[] 0 hb.size (Nat.zero_le _) rfl

set_option maxRecDepth 1000000 in
set_option maxHeartbeats 4000000 in
theorem iSolved_any (va vb : Value) (rows : List (List Fr)) (right : List Fr) (w : World) (ha : RdT w va rows) (hb : RdR w vb right) :
    Calls Try.prog 30 #[va, vb] w fun e w' => SolP w rows right e w' := by
  obtain ⟨i0, hi, hz0, hz1, hz2⟩ := info_parts infoF
  obtain ⟨t0, hti, htz0, htz1, htz2⟩ := info_parts infoT
  have b0 : ∀ (u : World) (o : Obj), Below u.heap.size u (u.alloc o) := fun u o => (Below.refl _ _).alloc (Nat.le_refl _) o
  have HA := hid ha
  obtain ⟨qa, hqa⟩ : ∃ q, q = tabB rows 6 := ⟨_, rfl⟩
  have HQA := hid hqa
  have CA : Hid (Calls Try.prog 61 #[va] w fun e w' => e = .returned (.bool qa) ∧ Below w.heap.size w w') := by
    rw [hqa]; exact iTab_any _ rows w ha
  obtain ⟨pa, ca, rfl, -, -, -, h5⟩ := ha
  have H5 : Hid (∀ i, i < rows.length → ∃ b off u, pa = some ⟨b, off, none⟩ ∧ w.cell? ⟨b, off + i, none⟩ = some u ∧ RdR w u (rw' rows i)) := h5
  obtain ⟨pb, cb, rfl, -, -, -, h6⟩ := hb
  have H6 : Hid (∀ j, j < right.length → ∃ b off, pb = some ⟨b, off, none⟩ ∧ w.cell? ⟨b, off + j * 2, none⟩ = some (.int .i64 (fr right j).1) ∧ w.cell? ⟨b, off + j * 2 + 1, none⟩ = some (.int .i64 (fr right j).2)) := h6
  obtain ⟨n, hn⟩ : ∃ n, n = rows.length := ⟨_, rfl⟩
  obtain ⟨mr, hmr⟩ : ∃ n, n = right.length := ⟨_, rfl⟩
  have HN : Hid (n = rows.length ∧ mr = right.length) := ⟨hn, hmr⟩
  have no : ∀ {W : World}, ¬ (rows.length ≤ 5 ∧ tabB rows 6 = true ∧ (rw' rows 0).length = rows.length ∧ right.length = rows.length) → solO rows right = false := fun {W} h => by unfold solO; rw [solC_no h]; rfl
  rw [← hn] at CA ⊢
  rw [← hmr]
  by_cases n5 : 5 < (n : Int)
  · have HO := hid (no (W := w) (fun h => by omega))
    clear hqa h5 h6 hn hmr no
    go_enter Try.func30, Try.ntmps30
    go_wp2
    refine bodyPost_ret (v := .tuple #[.slice (some ⟨w.heap.size, 0, none⟩) 0 0, .bool false]) (by simp [results, Try.results30, go_sem]) rfl (SolP.no HO.out (Below.refl _ _))
  cases qa
  · have HO := hid (no (W := w) (fun h => by rw [h.2.1] at hqa; cases hqa))
    clear hqa h5 h6 hn hmr no
    go_enter Try.func30, Try.ntmps30
    go_wp2_with (go_at_call 61; refine (CA.out).mono ?_; rintro e w1 ⟨rfl, hb⟩)
    refine bodyPost_ret (v := .tuple #[.slice (some ⟨w1.heap.size, 0, none⟩) 0 0, .bool false]) (by simp [results, Try.results30, go_sem]) rfl (SolP.no HO.out hb)
  obtain ⟨⟨t1, t2, t3, t4⟩, tr⟩ := tabB_out hqa.symm
  obtain ⟨ba, offa, ua, e, ca0, ⟨pa0, ca0', rfl, -, -, -, -⟩⟩ := h5 0 (by omega)
  subst e
  rw [Nat.add_zero] at ca0
  obtain ⟨L, hL⟩ : ∃ L, L = (rw' rows 0).length := ⟨_, rfl⟩
  have HL := hid hL
  have TR : Hid (∀ k, k < rows.length → (rw' rows k).length = L) := fun k hk => by rw [(tr k hk).1, hL]
  rw [← hL] at ca0 t3 t4
  have hn1 : 1 ≤ n := by omega
  by_cases hLn : L = n
  case neg =>
    have HO := hid (no (W := w) (fun h => hLn (by rw [hL, h.2.2.1, hn])))
    have hLn' : ¬ (L : Int) = (n : Int) := by omega
    clear hqa h5 h6 hn hmr no tr hL hLn t4 t3 t2 t1
    go_enter Try.func30, Try.ntmps30
    go_wp2_with (go_at_call 61; refine (CA.out).mono ?_; rintro e w1 ⟨rfl, hb⟩; have c0 := cell_keep hb ca0)
    refine bodyPost_ret (v := .tuple #[.slice (some ⟨w1.heap.size, 0, none⟩) 0 0, .bool false]) (by simp [results, Try.results30, go_sem]) rfl (SolP.no HO.out hb)
  by_cases hmn : mr = n
  case neg =>
    have HO := hid (no (W := w) (fun h => hmn (by rw [hmr, h.2.2.2, hn])))
    have hmn' : ¬ (mr : Int) = (n : Int) := by omega
    subst hLn
    clear hqa h5 h6 hn hmr no tr hL hmn t4 t3 t2 t1
    go_enter Try.func30, Try.ntmps30
    go_wp2_with (go_at_call 61; refine (CA.out).mono ?_; rintro e w1 ⟨rfl, hb⟩; have c0 := cell_keep hb ca0)
    refine bodyPost_ret (v := .tuple #[.slice (some ⟨w1.heap.size, 0, none⟩) 0 0, .bool false]) (by simp [results, Try.results30, go_sem]) rfl (SolP.no HO.out hb)
  have hC : solC rows right = true := by
    unfold solC
    rw [← hqa, decide_eq_true (show rows.length ≤ 5 by omega), decide_eq_true (show (rw' rows 0).length = rows.length by omega), decide_eq_true (show right.length = rows.length by omega)]
    rfl
  have HC := hid hC
  have hn5 : n ≤ 5 := by omega
  obtain ⟨T, hT⟩ : ∃ T, T = wideT rows right := ⟨_, rfl⟩
  have HT : Hid (T = wideT rows right ∧ T.length = n ∧ ∀ k, k < n → rw' T k = rw' rows k ++ [fr right k]) := ⟨hT, by rw [hT, wideT_len, hn], fun k hk => by rw [hT, wideT_at _ _ _ (by omega)]⟩
  have HSO : Hid (solO rows right = (echO T && solF n (echC T))) := by show _ = _; unfold solO; rw [hC, hT, hn]; rfl
  have TRn : Hid (∀ k, k < n → (rw' rows k).length = n) := fun k hk => by rw [TR.out k (by omega), hLn]
  subst hLn
  subst hmn
  clear hqa h5 h6 hmr hn no tr hL t4 t3 t2 t1 hC hT TR
  go_enter Try.func30, Try.ntmps30
  go_upto_region 4 with (go_at_call 61; refine (CA.out).mono ?_; rintro e w1 ⟨rfl, hb⟩; have c0 := cell_keep hb ca0)
  have B1 := hb
  have hs1 := hb.size
  clear c0 hb CA
  go_wp2_with (at_make; refine wpList_make_full _ rfl _ _ 56 rfl w.heap.size 27 t0 (.slice none 0 0) 1 Try.underlying56 hti htz0 htz1 .i64 .i64 _ _ mr rfl rfl rfl rfl (by rw [htz2]; omega) (by unfold maxLen; omega) hs1 ?_; intro w3 hown hgrow)
  have B3 : Below w.heap.size w w3 := B1.grown hgrow hs1 (fun b e => by cases e)
  obtain ⟨Gk, hGk⟩ : ∃ g, g = w1.heap.size := ⟨_, rfl⟩
  have o0 : Tab w3 w.heap.size (.slice (some ⟨Gk, 0, none⟩) mr mr) (List.replicate mr (.slice none 0 0)) (cpyT T 0) := by
    rw [cpyT_zero, HT.out.2.1, hGk]; refine Tab.made ?_; rw [← madeT]; exact hown
  have hwR : w.heap.size ≤ Gk := by omega
  rw [← hGk]
  clear hGk hown hgrow B1 hs1
  go_loopg [43] mr (fun g i wr => ∃ (k : Nat) (us' : List Value), k + g = mr ∧ i = .int .i64 k ∧ Hid (Tab wr w.heap.size (.slice (some ⟨Gk, 0, none⟩) mr mr) us' (cpyT T k)) ∧ Hid (Below w.heap.size w wr))
  case atStart => exact ⟨0, _, by omega, rfl, o0, B3⟩
  case round =>
    clear o0 B3
    obtain ⟨k, us', hkg, rfl, hO, hB⟩ := hrel
    have hsz := hB.out.size
    cases gk with
    | zero =>
      obtain rfl : k = mr := by omega
      have TT : Tab wr w.heap.size (.slice (some ⟨Gk, 0, none⟩) k k) us' T := by
        have := hO.out
        rw [show cpyT T k = T by have := cpyT_all T; rw [HT.out.2.1] at this; exact this] at this
        exact this
      have HE := hid (iEch_any (.slice (some ⟨Gk, 0, none⟩) k k) T wr TT.read)
      obtain ⟨q, hq⟩ : ∃ q, q = echO T := ⟨_, rfl⟩
      have HQ := hid hq
      clear hq TT hO H5 H6
      cases q
      · have HO : Hid (solO rows right = false) := by show _ = _; rw [HSO.out, ← HQ.out]; rfl
        go_wp2_with (go_at_call 62; refine (HE.out).mono ?_; rintro e w4 ⟨vm, vc, vf, us, rfl, t, c, f, hb4⟩; rw [← HQ.out]; obtain ⟨am, cm, rfl⟩ := own_shape t.outer; obtain ⟨ac, cc, rfl⟩ := own_shape c; obtain ⟨af, cf, rfl⟩ := own_shape f; clear c f t)
        have B4 := (hB.out.trans (hb4.mono hsz)).alloc (hB.out.trans (hb4.mono hsz)).size (.cells #[.slice am us.length cm, .slice ac (echCh T).length cc, .slice af (echFe T).length cf] 88)
        have hno := SolP.no (rows := rows) (right := right) HO.out B4
        refine bodyPost_ret (v := .tuple #[.slice (some ⟨w4.heap.size + 1, 0, none⟩) 0 0, .bool false]) (by simp [results, Try.results30, go_sem]) rfl ?_
        simpa using hno
      · have hk2 : tabB T 6 = true ∧ echK T = true := by have := HQ.out.symm; unfold echO at this; rw [Bool.and_eq_true] at this; exact this
        obtain ⟨d1, d2, d3, d4⟩ := ech_dims hk2.1 hk2.2
        obtain ⟨e1, e2, e3⟩ := echO_yes HQ.out.symm
        have hL0 : (rw' T 0).length = k + 1 := by rw [HT.out.2.2 0 (by omega), List.length_append, TRn.out 0 (by omega)]; rfl
        rw [hL0] at d2 d4 e3
        rw [HT.out.2.1] at d1
        obtain ⟨F, hF⟩ : ∃ F, F = freeC (k + 1) (echC T) := ⟨_, rfl⟩
        obtain ⟨R, hR⟩ : ∃ R, R = echR T := ⟨_, rfl⟩
        rw [← hF] at e3
        rw [← hR] at e1 d1 d2
        have HE2 : Hid (Calls Try.prog 62 #[.slice (some ⟨Gk, 0, none⟩) k k] wr fun e w' => ∃ vm vc vf us, e = .returned (.tuple #[.agg #[vm, vc, vf], .bool true]) ∧ Tab w' wr.heap.size vm us R ∧ w'.ownsRow wr.heap.size 3 1 vc (echCh T).length (natV (echCh T)) ∧ w'.ownsRow wr.heap.size 3 1 vf F.length (natV F) ∧ Below wr.heap.size wr w') := by
          refine (HE.out).mono ?_
          rintro e w' ⟨vm, vc, vf, us, rfl, t, c, f, hb⟩
          rw [← HQ.out]
          rw [e1] at t
          rw [e3] at f
          exact ⟨vm, vc, vf, us, rfl, t, c, f, hb⟩
        have HSF : Hid (solO rows right = decide (F = [k])) := by
          show _ = _
          rw [HSO.out, ← HQ.out, Bool.true_and]
          unfold solF
          rw [hF]
        have HRR : Hid (R = echR T ∧ R.length = k ∧ ∀ x, x < k → (rw' R x).length = k + 1) := ⟨hR, d1, fun x hx => d2 x (by omega)⟩
        have hFl : F.length ≤ 6 := by rw [hF]; have := freeC_len (k + 1) (echC T); omega
        clear hk2 d1 d2 d3 d4 e1 e2 e3 hL0 hF hR HE
        obtain ⟨nf, hnf⟩ : ∃ n, n = F.length := ⟨_, rfl⟩
        have HNF := hid hnf
        rw [← hnf] at hFl
        by_cases hF1 : nf = 1
        case neg =>
          have HO : Hid (solO rows right = false) := by show _ = _; rw [HSF.out]; exact decide_eq_false (fun h => hF1 (by rw [hnf, h]; rfl))
          have hF2 : ¬ (nf : Int) = 1 := by omega
          clear hF1 hnf
          go_wp2_with (go_at_call 62; refine (HE2.out).mono ?_; rintro e w4 ⟨vm, vc, vf, us, rfl, t, c, f, hb4⟩; obtain ⟨am, cm, rfl⟩ := own_shape t.outer; obtain ⟨ac, cc, rfl⟩ := own_shape c; rw [← HNF.out] at f; obtain ⟨af, cf, rfl⟩ := own_shape f; clear c f t)
          have B4 := (hB.out.trans (hb4.mono hsz)).alloc (hB.out.trans (hb4.mono hsz)).size (.cells #[.slice am us.length cm, .slice ac (echCh T).length cc, .slice af nf cf] 88)
          have hno := SolP.no (rows := rows) (right := right) HO.out B4
          refine bodyPost_ret (v := .tuple #[.slice (some ⟨w4.heap.size + 1, 0, none⟩) 0 0, .bool false]) (by simp [results, Try.results30, go_sem]) rfl ?_
          simpa using hno
        subst hF1
        obtain ⟨x, hx⟩ : ∃ x, x = nt F 0 := ⟨_, rfl⟩
        have HX := hid hx
        have hFx : F = [x] := by
          match F, hnf with
          | [y], _ => rw [hx]; rfl
        have HFX := hid hFx
        have hxk : (x : Int) ≤ 6 ∨ True := .inr trivial
        clear hx hFx hnf hxk
        by_cases hxk : x = k
        case neg =>
          have HO : Hid (solO rows right = false) := by show _ = _; rw [HSF.out, HFX.out]; exact decide_eq_false (fun h => hxk (by simpa using h))
          have hxk2 : ¬ (x : Int) = (k : Int) := by omega
          go_wp2_with (go_at_call 62; refine (HE2.out).mono ?_; rintro e w4 ⟨vm, vc, vf, us, rfl, t, c, f, hb4⟩; obtain ⟨am, cm, rfl⟩ := own_shape t.outer; obtain ⟨ac, cc, rfl⟩ := own_shape c; obtain ⟨gf, cf, rfl⟩ := own_some f (by rw [HFX.out]; exact Nat.one_pos); have fx := nat_at f 0 (by rw [HFX.out]; exact Nat.one_pos); rw [← HX.out] at fx; rw [← HNF.out]; replace fx : ∀ o : Obj, (w4.alloc o).cell? ⟨gf, 0, none⟩ = some (.int .i64 (x : Int)) := (fun o => cell_keep (b0 _ o) fx); clear c f t)
          have B4 := (hB.out.trans (hb4.mono hsz)).alloc (hB.out.trans (hb4.mono hsz)).size (.cells #[.slice am us.length cm, .slice ac (echCh T).length cc, .slice (some ⟨gf, 0, none⟩) 1 cf] 88)
          have hno := SolP.no (rows := rows) (right := right) HO.out B4
          refine bodyPost_ret (v := .tuple #[.slice (some ⟨w4.heap.size + 1, 0, none⟩) 0 0, .bool false]) (by simp [results, Try.results30, go_sem]) rfl ?_
          simpa using hno
        subst hxk
        have HO : Hid (solO rows right = true) := by show _ = _; rw [HSF.out, HFX.out]; exact decide_eq_true rfl
        have HSA := hid (solA_yes HO.out)
        go_upto_region 13 with (go_at_call 62; refine (HE2.out).mono ?_; rintro e w4 ⟨vm, vc, vf, us, rfl, t, c, f, hb4⟩; obtain ⟨G, cG, rfl⟩ := own_some t.outer (by rw [t.len, HRR.out.2.1]; omega); obtain ⟨ac, cc, rfl⟩ := own_shape c; obtain ⟨gf, cf, rfl⟩ := own_some f (by rw [HFX.out]; exact Nat.one_pos); have fx := nat_at f 0 (by rw [HFX.out]; exact Nat.one_pos); rw [← HX.out] at fx; rw [← HNF.out]; replace fx : ∀ o : Obj, (w4.alloc o).cell? ⟨gf, 0, none⟩ = some (.int .i64 (x : Int)) := (fun o => cell_keep (b0 _ o) fx))
        obtain ⟨N, hN⟩ : ∃ n, n = us.length := ⟨_, rfl⟩
        have hNx : N = x := by have := t.len; have := HRR.out.2.1; omega
        obtain ⟨E, hE⟩ : ∃ E, E = w4.heap.size := ⟨_, rfl⟩
        obtain ⟨X, hX⟩ : ∃ X, X = w4.alloc (.cells #[.slice (some ⟨G, 0, none⟩) us.length cG, .slice ac (echCh T).length cc, .slice (some ⟨gf, 0, none⟩) 1 cf] 88) := ⟨_, rfl⟩
        have hblk : X.heap[E]? = some (.cells #[.slice (some ⟨G, 0, none⟩) us.length cG, .slice ac (echCh T).length cc, .slice (some ⟨gf, 0, none⟩) 1 cf] 88 (0, 0)) := by rw [hX, hE]; exact World.alloc_heap_new w4 _
        have TX := t.below (b0 w4 (.cells #[.slice (some ⟨G, 0, none⟩) us.length cG, .slice ac (echCh T).length cc, .slice (some ⟨gf, 0, none⟩) 1 cf] 88))
        have BX : Below w.heap.size w X := by rw [hX]; exact (hB.out.trans (hb4.mono hsz)).alloc (hB.out.trans (hb4.mono hsz)).size _
        rw [← hX] at TX
        rw [← hX, ← hE, ← hN]
        rw [← hN] at hblk
        have hXs : E < X.heap.size := (cells3 hblk).2.2.2.2.2.2
        have hus : us.length = x := by omega
        subst hNx
        have HTf : Hid (∀ k, k < N → ∃ g d, g < X.heap.size ∧ X.cell? ⟨G, k, none⟩ = some (.slice (some ⟨g, 0, none⟩) (N + 1) d) ∧ X.cell? ⟨g, N * 2, none⟩ = some (.int .i64 (fr (rw' R k) N).1) ∧ X.cell? ⟨g, N * 2 + 1, none⟩ = some (.int .i64 (fr (rw' R k) N).2)) := by
          intro k hk
          have ck := TX.outer.cellAt k (by omega)
          have hin := TX.inner k (by omega)
          rw [HRR.out.2.2 k hk] at hin
          obtain ⟨g, d, ek⟩ := own_some hin (by omega)
          rw [show us[k]? = some (vl us k) by unfold vl; rw [List.getElem?_eq_getElem (by omega)]; rfl, ek] at ck
          rw [ek] at hin
          obtain ⟨h1, h2⟩ := own_R hin (HRR.out.2.2 k hk) N (by omega)
          exact ⟨g, d, (hin.lt g rfl).2, ck, h1, h2⟩
        have hGX : G < X.heap.size := (TX.outer.lt G rfl).2
        clear hX hE hN t c f hb4 fx TX hus hsz hB
        go_wp2_with (at_make; refine wpList_make_full _ rfl _ _ 27 rfl w.heap.size 33 i0 (.agg #[.int .i64 0, .int .i64 0]) 2 Try.underlying27 hi hz0 hz1 .i64 .i64 _ _ N rfl rfl rfl rfl (by rw [hz2]; omega) (by unfold maxLen; omega) BX.size ?_; intro w5 hown hgrow; have hblk5 := (hgrow.block E hXs (by simp)).trans hblk; obtain ⟨p0, p1, p2, y0, y1, y2, hEl5⟩ := cells3 hblk5)
        have B5 : Below w.heap.size w w5 := BX.grown hgrow BX.size (fun b e => by cases e)
        have X5 : Below X.heap.size X w5 := (Below.refl _ _).grown hgrow (Nat.le_refl _) (fun b e => by cases e)
        obtain ⟨Rw, hRw⟩ : ∃ g, g = X.heap.size := ⟨_, rfl⟩
        have o5 : w5.ownsRow w.heap.size 33 2 (.slice (some ⟨Rw, 0, none⟩) N N) N (cellsR (upto (fun i => fr (rw' R i) N) (List.replicate N (0, 0)) 0)) := by
          rw [upto_zero, ← madeF, hRw]; exact hown
        have hXR : X.heap.size ≤ Rw := by omega
        have hwR2 : w.heap.size ≤ Rw := by have := BX.size; omega
        rw [← hRw]
        clear hRw hown hgrow hblk hblk5 p0 p1 p2 y0 y1 y2 hEl5 hXs
        go_loopg [89] N (fun g i wr => ∃ k : Nat, k + g = N ∧ i = .int .i64 k ∧ Hid (wr.ownsRow w.heap.size 33 2 (.slice (some ⟨Rw, 0, none⟩) N N) N (cellsR (upto (fun i => fr (rw' R i) N) (List.replicate N (0, 0)) k))) ∧ Hid (Below X.heap.size X wr) ∧ Hid (Below w.heap.size w wr))
        case atStart => exact ⟨0, by omega, rfl, o5, X5, B5⟩
        case round =>
          clear o5 X5 B5
          obtain ⟨k, hkg3, rfl, hO, hX, hB⟩ := hrel
          cases gk with
          | zero =>
            obtain rfl : k = N := by omega
            go_wp2
            refine bodyPost_ret (v := .tuple #[.slice (some ⟨Rw, 0, none⟩) k k, .bool true]) (by simp [results, Try.results30, go_sem]) rfl ⟨_, by rw [HO.out], ?_, hB.out⟩
            rw [HSA.out]
            have e1 : upto (fun i => fr (rw' R i) k) (List.replicate k (0, 0)) k = solX rows right := by
              have := upto_all (fun i => fr (rw' R i) k) (List.replicate k (0, 0))
              rw [List.length_replicate] at this
              rw [this]
              unfold solX
              rw [← HN.out.1, ← HT.out.1, ← HRR.out.1]
            rw [solX_len, ← HN.out.1, ← e1]
            exact hO.out
          | succ g =>
            have hkn : k < N := by omega
            obtain ⟨g0, d0, q1, q2, q3, q4⟩ := HTf.out k hkn
            replace q2 := cell_keep hX.out q2
            replace q3 := cell_keep hX.out q3
            replace q4 := cell_keep hX.out q4
            obtain ⟨p, hp⟩ : ∃ p, p = fr (rw' R k) N := ⟨_, rfl⟩
            have HP := hid hp
            rw [← hp] at q3 q4
            obtain ⟨p1, p2⟩ := p
            have hsl : (upto (fun i => fr (rw' R i) N) (List.replicate N ((0, 0) : Fr)) k).length = N := by rw [upto_len]; simp
            have HSL := hid hsl
            obtain ⟨o1, o2⟩ := own_R hO.out hsl k hkn
            have z1 := hO.out.frozenAt (k * 2)
            have z2 := hO.out.frozenAt (k * 2 + 1)
            generalize ((upto (fun i => fr (rw' R i) N) (List.replicate N ((0, 0) : Fr)) k)[k]?.getD (0, 0)).1 = y1 at o1
            generalize ((upto (fun i => fr (rw' R i) N) (List.replicate N ((0, 0) : Fr)) k)[k]?.getD (0, 0)).2 = y2 at o2
            clear hp hsl
            go_wp2
            go_roundg g
            case measure => omega
            case rel =>
              obtain ⟨s1, s2⟩ := row_set hO.out HSL.out k hkn p1 p2
              refine ⟨k + 1, by omega, by go_num, ?_, (hX.out.setCell (p := ⟨Rw, k * 2, none⟩) hXR _).setCell (p := ⟨Rw, k * 2 + 1, none⟩) hXR _, (hB.out.setCell (p := ⟨Rw, k * 2, none⟩) hwR2 _).setCell (p := ⟨Rw, k * 2 + 1, none⟩) hwR2 _⟩
              show World.ownsRow _ _ _ _ _ _ _
              rw [← upto_set _ _ _ (by simpa using hkn), ← HP.out]
              exact s1
    | succ g =>
      have hkn : k < mr := by omega
      obtain ⟨b, off, u, e, c1, hu⟩ := H5.out k (by have := HN.out.1; omega)
      cases e
      obtain ⟨ar, cr, rfl, -, mm3, -, -⟩ := id hu
      obtain ⟨-, br, offr, rfl, hsrc⟩ := row_src hu rfl (by rw [TRn.out k hkn]; exact hn1)
      rw [TRn.out k hkn] at c1 mm3
      obtain ⟨b2, off2, rfl, y1, y2⟩ := H6.out k (by have := HN.out.2; omega)
      have HSR : Hid (∀ W : World, Below w.heap.size w W → ∀ j u, (cellsR (rw' rows k))[j]? = some u → W.cell? ((⟨br, offr, none⟩ : Addr).add j) = some u) := by
        intro W hW j u' hj
        have h1 := hsrc j u' hj
        have e : (⟨br, offr, none⟩ : Addr).add j = ⟨br, offr + j, none⟩ := by by_cases i0 : j = 0 <;> simp [Addr.add, i0]
        rw [e] at h1 ⊢
        exact cell_keep hW h1
      replace c1 := cell_keep hB.out c1
      replace y1 := cell_keep hB.out y1
      replace y2 := cell_keep hB.out y2
      obtain ⟨r, hr⟩ : ∃ r, r = fr right k := ⟨_, rfl⟩
      have HR := hid hr
      rw [← hr] at y1 y2
      obtain ⟨r1, r2⟩ := r
      have hlu : us'.length = mr := by have := hO.out.len; rw [cpyT_len, HT.out.2.1] at this; exact this
      have HLU := hid hlu
      have hrl : Hid ((cellsR (rw' rows k)).length = mr * 2) := by show _ = _; rw [cellsR_len, TRn.out k hkn]
      clear hsrc hu hr hlu
      go_wp2
      go_region_law (refine step_append_grows rfl (.tmp 53) (.tmp 58) 27 rfl 33 i0 (.agg #[.int .i64 0, .int .i64 0]) 2 16 Try.underlying27 hi hz0 hz1 hz2 rfl (by decide) (some ⟨br, offr, none⟩) mr mr (cellsR (rw' rows k)) (by simp [Act.eval]) (fun h => by cases h) hrl.out (fun b e => by cases e; exact HSR.out _ (by first | exact (hB.out.trans ((b0 _ _).mono hsz)).drew | exact hB.out.trans ((b0 _ _).mono hsz))) ⟨wr.heap.size, 0, none⟩ 1 1 [.int .i64 r1, .int .i64 r2] (by simp [Act.eval]) rfl (fun j u h => by first | exact cell_dr (cell_twoF wr _ _ _ j u h) | exact cell_twoF wr _ _ _ j u h) (by intro u hu; simp at hu; rcases hu with rfl | rfl <;> rfl) (by omega) (by unfold maxLen; omega) (by omega) ?_; intro v' w4 hown hgrow; obtain ⟨av, cv, rfl⟩ := own_shape hown; have Bx : Below wr.heap.size wr w4 := Below.grown (by first | exact (b0 _ _).drew | exact b0 _ _) hgrow (by simp) (fun b e => by cases e); have T4 := hO.out.below Bx; have ho := T4.outer; rw [HLU.out] at ho; have d1 := ho.cellAt k (by omega); have f1 := ho.frozenAt k; rw [List.getElem?_eq_getElem (by have := HLU.out; omega)] at d1; have HT4 := hid T4; have HOW := hid hown; clear T4 ho hown)
      all_goals go_wp2
      all_goals
        go_roundg g
        case measure => omega
        case rel =>
          have how : w4.ownsRow wr.heap.size 33 2 (.slice av (mr + 1) cv) (rw' T k).length (cellsR (rw' T k)) := by
            rw [HT.out.2.2 k hkn, List.length_append, TRn.out k hkn, cellsR_append, ← HR.out]
            have := own_le HOW.out (base' := wr.heap.size) (by simp)
            exact this
          have T5 := HT4.out.put (k := k) (by rw [HLU.out]; exact hkn) (own_le how hsz) (fun i hi _ b hb hb2 => by
            have h1 := hO.out.lt i hi b hb
            have h2 := (how.lt b hb2).1
            omega)
          rw [cpyT_set] at T5
          exact ⟨k + 1, _, by omega, by go_num, T5, (hB.out.trans (Bx.mono hsz)).setCell (p := ⟨Gk, k, none⟩) hwR _⟩
end Go.Proofs.Ythnlcgilmljliaa

/- The walk of the model's Solved. -/
namespace Go
open Go.RowKit
/-- append to a row of the call's own, as one step of a region that draws -/
theorem step_append_ownS {P : Program} {ops : Array Oper} {o : Oper} {a : Act} {w : World} {K : Act → World → Prop} {Q : Exit → Act → World → Prop} {E : Prop}
    (hg : o.guard = none) (s x : Operand) (t : TypeId) (hop : o.op = Op.call { callee := Callee.builtin Builtin.append, args := #[s, x], argTypes := #[t, t] })
    (base : Nat) (e : TypeId) (i : TypeInfo) (z : Value) (size bytes : Nat) (ht : P.underlying t = some (.slice e)) (hi : P.info? e = some i) (hz : i.zero = some z)
    (hsize : i.size = size) (hby : i.bytes = bytes) (hzs : z.cells.size = size) (hsz : 0 < size)
    (v : Value) (n : Nat) (xs : List Value) (hs : a.eval s = v) (hown : w.ownsRow base e size v n xs)
    (ad : Addr) (m c : Nat) (news : List Value) (hx : a.eval x = .slice (some ad) m c) (hl : news.length = m * size) (hnews : ∀ j u, news[j]? = some u → w.cell? (ad.add j) = some u) (h1 : ∀ u ∈ news, u.oneCell' = true)
    (h63 : n + m ≤ maxLen) (hbytes : (n + m) * bytes ≤ 140737488355328) (hbase : base ≤ w.heap.size)
    (hK : ∀ v' w', w'.ownsRow base e size v' (n + m) (xs ++ news) → w.grownBy w' v.ownBlock → K (a.put o.dst v') w') :
    if Region.wanted o (yielded ops a.tmps) = true then Oper.wp P o a w K Q else E := by
  have hw : Region.wanted o (yielded ops a.tmps) = true := by simp [Region.wanted, hg]
  rw [if_pos hw]
  obtain ⟨v', w', hrun, h2, h3, _⟩ := run_append_own (P := P) (w := w) base t o.type e i z size bytes ht hi hz hsize hby hzs hsz v n xs hown ad m c news hl hnews h1 h63 hbytes hbase
  unfold Oper.wp
  simp [execOp, hop, resolve, invoke, builtin, hs, hx, hrun, Result.andThen]
  exact hK _ _ h2 h3
end Go
namespace Go.Proofs.Ythnlcgilmljliaa
open Go.RowKit Go.Proofs.Ythnlcgilmljliaa.RM

theorem own_empty {U : World} {base b : Nat} (h : U.heap[b]? = some (.cells #[] 33 (0, 0))) (hb : base ≤ b) : U.ownsRow base 33 2 (.slice (some ⟨b, 0, none⟩) 0 0) 0 [] :=
  ⟨rfl, .inr ⟨b, 0, #[], rfl, hb, h, Nat.le_refl _, Nat.zero_le _, rfl, rfl⟩⟩

set_option maxRecDepth 1000000 in
set_option maxHeartbeats 4000000 in
theorem sL3Solved_any (va vb : Value) (rows : List (List Fr)) (right : List Fr) (w : World) (ha : RdT w va rows) (hb : RdR w vb right) (hn1 : 1 ≤ rows.length) (hn2 : rows.length ≤ 900) (hd : ∀ k, k < rows.length → (rw' rows k).length = rows.length) (hr : right.length = rows.length) (hO : tabB (wideT rows right) 6 = true) :
    Calls Try.prog 48 #[va, vb] w fun e w' => ∃ v, e = .returned (.tuple #[v, .bool (echK (wideT rows right) && solF rows.length (echC (wideT rows right)))]) ∧ w'.ownsRow w.heap.size 33 2 v (if echK (wideT rows right) && solF rows.length (echC (wideT rows right)) then solX rows right else []).length (cellsR (if echK (wideT rows right) && solF rows.length (echC (wideT rows right)) then solX rows right else [])) ∧ Below w.heap.size w w' := by
  obtain ⟨i0, hi, hz0, hz1, hz2⟩ := info_parts infoF
  obtain ⟨t0, hti, htz0, htz1, htz2⟩ := info_parts infoT
  have b0 : ∀ (u : World) (o : Obj), Below u.heap.size u (u.alloc o) := fun u o => (Below.refl _ _).alloc (Nat.le_refl _) o
  obtain ⟨pa, ca, rfl, -, -, -, h5⟩ := ha
  obtain ⟨pb, cb, rfl, -, -, -, h6⟩ := hb
  have H6 : Hid (∀ j, j < right.length → ∃ b off, pb = some ⟨b, off, none⟩ ∧ w.cell? ⟨b, off + j * 2, none⟩ = some (.int .i64 (fr right j).1) ∧ w.cell? ⟨b, off + j * 2 + 1, none⟩ = some (.int .i64 (fr right j).2)) := h6
  have H5 : Hid (∀ i, i < rows.length → ∃ b off u, pa = some ⟨b, off, none⟩ ∧ w.cell? ⟨b, off + i, none⟩ = some u ∧ RdR w u (rw' rows i)) := h5
  obtain ⟨n, hn⟩ : ∃ n, n = rows.length := ⟨_, rfl⟩
  rw [← hn] at hn1 hn2 hd
  have TRn : Hid (∀ k, k < n → (rw' rows k).length = n) := fun k hk => hd k (by omega)
  have HN : Hid (n = rows.length ∧ right.length = n) := ⟨hn, by omega⟩
  obtain ⟨T, hT⟩ : ∃ T, T = wideT rows right := ⟨_, rfl⟩
  have HT : Hid (T = wideT rows right ∧ T.length = n ∧ ∀ k, k < n → rw' T k = rw' rows k ++ [fr right k]) := ⟨hT, by rw [hT, wideT_len, hn], fun k hk => by rw [hT, wideT_at _ _ _ (by omega)]⟩
  obtain ⟨q, hq⟩ : ∃ q, q = (echK T && solF n (echC T)) := ⟨_, rfl⟩
  obtain ⟨xs, hxs⟩ : ∃ xs, xs = (if q then solX rows right else []) := ⟨_, rfl⟩
  have HQ := hid hq
  have HO6 : Hid (tabB T 6 = true) := by show _ = _; rw [hT]; exact hO
  have HXS := hid hxs
  rw [← hT, show rows.length = n from hn.symm, hr, ← hn, ← hq, ← hxs]
  clear h5 h6 hd hr hn hT hq hxs hO
  go_enter Try.func48, Try.ntmps48
  go_wp2
  have o0 : Tab (w.alloc (.cells #[] 27)) w.heap.size (.slice (some ⟨w.heap.size, 0, none⟩) 0 0) [] (T.take 0) := Tab.lit (Nat.le_refl _)
  have B0 : Below w.heap.size w (w.alloc (.cells #[] 27)) := b0 _ _
  go_loopg [6, 7] n (fun g q i wr => ∃ (o : Value) (k : Nat) (us : List Value), k + g = n ∧ i = .int .i64 k ∧ o = q ∧ us.length = k ∧ Hid (Tab wr w.heap.size o us (T.take k)) ∧ Hid (Below w.heap.size w wr))
  case atStart => exact ⟨_, 0, [], by omega, rfl, rfl, rfl, o0, B0⟩
  case round =>
    clear o0 B0
    obtain ⟨o, k, us, hkg, rfl, rfl, hus, hT, hB⟩ := hrel
    have hsz := hB.out.size
    cases gk with
    | zero =>
      obtain rfl : k = n := by omega
      have hT0 : Tab wr w.heap.size o us T := by
        have h9 := hT.out
        rwa [List.take_of_length_le (by rw [HT.out.2.1]; exact Nat.le_refl _)] at h9
      have RD := hid hT0.read
      have HTW := hid hT0
      obtain ⟨ao, co, rfl⟩ := own_shape hT0.outer
      have HUS := hid hus
      rw [hus] at RD HTW
      rw [hus]
      clear hT hT0 hus
      obtain ⟨kk, hkk⟩ : ∃ b, b = echK T := ⟨_, rfl⟩
      have HK := hid hkk
      obtain ⟨C, hC⟩ : ∃ C, C = echC T := ⟨_, rfl⟩
      obtain ⟨R, hR⟩ : ∃ R, R = echR T := ⟨_, rfl⟩
      have HCR : Hid (C = echC T ∧ R = echR T) := ⟨hC, hR⟩
      obtain ⟨nc, hnc⟩ : ∃ x, x = C.length := ⟨_, rfl⟩
      have HNC := hid hnc
      have HSE : Hid (Calls Try.prog 74 #[.slice ao k co] wr fun e w' => ∃ vm vc us', e = .returned (.tuple #[vm, vc, .bool kk]) ∧ Tab w' wr.heap.size vm us' R ∧ w'.ownsRow wr.heap.size 3 1 vc nc (natV C) ∧ Below wr.heap.size wr w') := by
        show Calls _ _ _ _ _
        refine (sEchO_any _ T wr RD.out HO6.out).mono ?_
        rintro e w2 ⟨vm, vc, us2, rfl, t, c, hb2⟩
        rw [hkk, hnc, hC, hR]
        exact ⟨vm, vc, us2, rfl, t, c, hb2⟩
      have HDM : Hid (kk = true → R.length = k ∧ (∀ x, x < k → (rw' R x).length = k + 1) ∧ rises C ∧ ∀ c, c ∈ C → c < k + 1) := by
        intro e
        have hl0 : (rw' T 0).length = k + 1 := by rw [HT.out.2.2 0 (by omega), List.length_append, TRn.out 0 (by omega)]; rfl
        obtain ⟨d1, d2, d3, d4⟩ := ech_dims HO6.out (hkk.symm.trans e)
        have h9 := HT.out.2.1
        rw [hl0] at d2 d4
        rw [hC, hR]
        exact ⟨d1.trans h9, fun x hx => d2 x (by rw [d1, h9]; exact hx), ech_rises (hkk.symm.trans e), d4⟩
      clear hkk hC hR hnc
      cases kk
      · obtain rfl : q = false := by rw [HQ.out, ← HK.out]; rfl
        obtain rfl : xs = [] := by rw [HXS.out]; rfl
        go_wp2_with (go_at_call 74; refine HSE.out.mono ?_; rintro e w2 ⟨vm, vc, us2, rfl, t, c, hb2⟩; clear t c)
        refine bodyPost_ret (v := .tuple #[.slice (some ⟨w2.heap.size, 0, none⟩) 0 0, .bool false]) (by simp [results, Try.results48, go_sem]) rfl ⟨_, rfl, ?_, ?_⟩
        · exact own_empty (World.alloc_heap_new _ _) (by have := hb2.size; omega)
        · exact (hB.out.trans (hb2.mono hsz)).trans ((b0 _ _).mono (by have := hb2.size; omega))
      · obtain ⟨d1, d2, d3, d4⟩ := HDM.out rfl
        have hsm := solF_model hn1 d3 d4
        rw [← HNC.out] at hsm
        have HSM : Hid (q = (decide (nc = k) && decide (nt C (k - 1) = k - 1))) := by show _ = _; rw [HQ.out, ← HK.out, ← HCR.out.1, hsm]; rfl
        obtain ⟨m, hm⟩ : ∃ m, m = k - 1 := ⟨_, rfl⟩
        have hm1 : (k : Int) - 1 = (m : Int) := by omega
        have hmk : m < k := by omega
        have HMM := hid hm
        have HR1 : Hid (R.length = k ∧ (∀ x, x < k → (rw' R x).length = k + 1)) := ⟨d1, d2⟩
        clear hsm hm d1 d2 d3 d4
        have done : q = false → ∀ w2 : World, Below wr.heap.size wr w2 → ∃ v, Ending.returned (.tuple #[.slice (some ⟨w2.heap.size, 0, none⟩) 0 0, .bool false]) = .returned (.tuple #[v, .bool q]) ∧ (w2.alloc (.cells #[] 33)).ownsRow w.heap.size 33 2 v xs.length (cellsR xs) ∧ Below w.heap.size w (w2.alloc (.cells #[] 33)) := by
          intro hq w2 hb2
          have hs2 := hb2.size
          rw [HXS.out, hq]
          exact ⟨_, rfl, own_empty (World.alloc_heap_new _ _) (by omega), (hB.out.trans (hb2.mono hsz)).trans ((b0 _ _).mono (by omega))⟩
        have HDN := hid done
        clear done
        by_cases hcn : nc = k
        · subst hcn
          obtain ⟨x, hx⟩ : ∃ x, x = nt C m := ⟨_, rfl⟩
          have HX := hid hx
          clear hx
          by_cases hxm : x = m
          · subst hxm
            have HQT : Hid (q = true) := by show _ = _; rw [HSM.out, ← HMM.out, ← HX.out]; simp
            go_wp2_with (go_at_call 74; refine HSE.out.mono ?_; rintro e w2 ⟨vm, vc, us2, rfl, t, c, hb2⟩; have TM := hid t; have CC := hid c; have hs2 := hb2.size; have B2 := hid (hB.out.trans (hb2.mono hsz)); obtain ⟨gc, cc, rfl⟩ := own_some c (by omega); have c2 := nat_at (by rw [← HNC.out]; exact c) x (by rw [← HNC.out]; exact hmk); rw [← HX.out] at c2; clear t c)
            obtain ⟨e1, e2⟩ := HR1.out
            have hul := TM.out.len
            obtain ⟨G, cG, rfl⟩ := own_some TM.out.outer (by omega)
            have hu2 : us2.length = nc := by omega
            have HTf : Hid (∀ k, k < nc → ∃ g d, w2.cell? ⟨G, k, none⟩ = some (.slice (some ⟨g, 0, none⟩) (nc + 1) d) ∧ w2.cell? ⟨g, nc * 2, none⟩ = some (.int .i64 (fr (rw' R k) nc).1) ∧ w2.cell? ⟨g, nc * 2 + 1, none⟩ = some (.int .i64 (fr (rw' R k) nc).2)) := by
              intro k hk
              have ck := TM.out.outer.cellAt k (by omega)
              have hin := TM.out.inner k (by omega)
              rw [e2 k hk] at hin
              obtain ⟨g, d, ek⟩ := own_some hin (by omega)
              rw [show us2[k]? = some (vl us2 k) by unfold vl; rw [List.getElem?_eq_getElem (by omega)]; rfl, ek] at ck
              rw [ek] at hin
              obtain ⟨q2, q3⟩ := own_R hin (e2 k hk) nc (by omega)
              exact ⟨g, d, ck, q2, q3⟩
            rw [hu2]
            obtain ⟨S2, hS2⟩ : ∃ g, g = w2.heap.size := ⟨_, rfl⟩
            have o0 : (w2.alloc (.cells #[] 33)).ownsRow S2 33 2 (.slice (some ⟨S2, 0, none⟩) 0 0) 0 (cellsR ((List.range 0).map fun i => fr (rw' R i) nc)) := by rw [hS2]; exact own_empty (World.alloc_heap_new _ _) (Nat.le_refl _)
            have B0 : Below S2 w2 (w2.alloc (.cells #[] 33)) := by rw [hS2]; exact b0 _ _
            have hwS : w.heap.size ≤ S2 := by omega
            have hS20 : S2 ≤ (w2.alloc (.cells #[] 33)).heap.size := by rw [hS2]; simp
            rw [← hS2]
            have HS2 := hid hS2
            clear e1 e2 hul hu2 hS2
            go_loopg [12, 13] nc (fun g o i wz => ∃ (v : Value) (j : Nat), j + g = nc ∧ i = .int .i64 j ∧ v = o ∧ Hid (wz.ownsRow S2 33 2 v j (cellsR ((List.range j).map fun i => fr (rw' R i) nc))) ∧ Hid (Below S2 w2 wz) ∧ S2 ≤ wz.heap.size)
            case atStart => exact ⟨_, 0, by omega, rfl, rfl, o0, B0, hS20⟩
            case round =>
              clear o0 B0 hS20
              obtain ⟨v, j, hjg, rfl, rfl, hO, hB3, hs3⟩ := hrel
              obtain ⟨av, cv, rfl⟩ := own_shape hO.out
              cases gk with
              | zero =>
                obtain rfl : j = nc := by omega
                go_wp2
                refine bodyPost_ret (v := .tuple #[.slice av j cv, .bool true]) (by simp [results, Try.results48, go_sem]) rfl ⟨_, by rw [HQT.out], ?_, B2.out.trans (hB3.out.mono hwS)⟩
                have e : xs = (List.range j).map fun i => fr (rw' R i) j := by
                  rw [HXS.out, HQT.out, if_pos rfl]
                  unfold solX
                  rw [← HN.out.1, ← HT.out.1, ← HCR.out.2]
                rw [e, List.length_map, List.length_range]
                exact own_le hO.out hwS
              | succ g =>
                have hjn : j < nc := by omega
                obtain ⟨gr, dr, q1, q2, q3⟩ := HTf.out j hjn
                replace q1 := cell_keep (by rw [← HS2.out]; exact hB3.out) q1
                replace q2 := cell_keep (by rw [← HS2.out]; exact hB3.out) q2
                replace q3 := cell_keep (by rw [← HS2.out]; exact hB3.out) q3
                obtain ⟨p, hp⟩ : ∃ p, p = fr (rw' R j) nc := ⟨_, rfl⟩
                have HP := hid hp
                rw [← hp] at q2 q3
                obtain ⟨p1, p2⟩ := p
                clear hp
                go_wp2_with (at_builtin; refine wpList_append_own _ rfl _ _ 27 rfl S2 33 i0 (.agg #[.int .i64 0, .int .i64 0]) 2 16 Try.underlying27 hi hz0 hz1 hz2 rfl (by decide) _ _ _ rfl (World.ownsRow.alloc hO.out _) ⟨_, 0, none⟩ 1 1 [.int .i64 p1, .int .i64 p2] rfl rfl (cell_twoF _ _ _ _) (by intro u hu; simp at hu; rcases hu with rfl | rfl <;> rfl) (by unfold maxLen; omega) (by omega) (by simp; omega) ?_; intro v' w5 hown' hgrow _)
                go_roundg g
                case measure => omega
                case rel =>
                  refine ⟨v', j + 1, by omega, by go_num, rfl, ?_, ?_, ?_⟩
                  · show World.ownsRow _ _ _ _ _ _ _
                    rw [List.range_succ, List.map_append, cellsR_append, List.map_singleton, ← HP.out]
                    exact hown'
                  · exact Below.grown (hB3.out.trans ((b0 _ _).mono hs3)) hgrow (by simp; omega) (fun b e => (hO.out.lt b e).1)
                  · have := hgrow.size
                    simp at this
                    omega
          · have hbe : ((x : Int) == (m : Int)) = false := by simpa using (show (x : Int) ≠ (m : Int) by omega)
            have hqf : q = false := by rw [HSM.out, ← HMM.out, ← HX.out]; simp [hxm]
            have HQF := hid hqf
            clear hqf
            go_wp2_with (go_at_call 74; refine HSE.out.mono ?_; rintro e w2 ⟨vm, vc, us2, rfl, t, c, hb2⟩; have hs2 := hb2.size; obtain ⟨gc, cc, rfl⟩ := own_some c (by omega); have c2 := nat_at (by rw [← HNC.out]; exact c) m (by rw [← HNC.out]; exact hmk); rw [← HX.out] at c2; clear t c)
            refine bodyPost_ret (v := .tuple #[.slice (some ⟨w2.heap.size, 0, none⟩) 0 0, .bool false]) (by simp [results, Try.results48, go_sem]) rfl (HDN.out HQF.out _ hb2)
        · have hbe : ((nc : Int) == (k : Int)) = false := by simpa using (show (nc : Int) ≠ (k : Int) by omega)
          have hqf : q = false := by rw [HSM.out]; simp [hcn]
          have HQF := hid hqf
          clear hqf
          go_wp2_with (go_at_call 74; refine HSE.out.mono ?_; rintro e w2 ⟨vm, vc, us2, rfl, t, c, hb2⟩; have hs2 := hb2.size; obtain ⟨ac, cc, rfl⟩ := own_shape c; clear t c)
          refine bodyPost_ret (v := .tuple #[.slice (some ⟨w2.heap.size, 0, none⟩) 0 0, .bool false]) (by simp [results, Try.results48, go_sem]) rfl (HDN.out HQF.out _ hb2)
    | succ g =>
      have hkn : k < n := by omega
      obtain ⟨b, off, u, rfl, c1, hu⟩ := H5.out k (by have := HN.out.1; omega)
      obtain ⟨ar, cr, rfl, -, -, -, -⟩ := id hu
      obtain ⟨-, br, offr, rfl, hsrc⟩ := row_src hu rfl (by rw [TRn.out k hkn]; exact hn1)
      rw [TRn.out k hkn] at c1
      obtain ⟨b2, off2, rfl, y1, y2⟩ := H6.out k (by have := HN.out.2; omega)
      have HSR : Hid (∀ W : World, Below w.heap.size w W → ∀ j u, (cellsR (rw' rows k))[j]? = some u → W.cell? ((⟨br, offr, none⟩ : Addr).add j) = some u) := by
        intro W hW j u' hj
        have h1 := hsrc j u' hj
        have e : (⟨br, offr, none⟩ : Addr).add j = ⟨br, offr + j, none⟩ := by by_cases i0 : j = 0 <;> simp [Addr.add, i0]
        rw [e] at h1 ⊢
        exact cell_keep hW h1
      have hlb := World.block_lt_of_cell? w _ c1
      have hl2 := World.block_lt_of_cell? w _ y1
      dsimp only at hlb hl2
      replace c1 := cell_keep hB.out c1
      replace y1 := cell_keep hB.out y1
      replace y2 := cell_keep hB.out y2
      have c1' : ∀ o : Obj, (wr.alloc o).cell? ⟨b, off + k, none⟩ = _ := fun o => cell_keep (b0 _ o) c1
      have c1'' : ∀ o o' : Obj, ((wr.alloc o).alloc o').cell? ⟨b, off + k, none⟩ = _ := fun o o' => cell_keep (b0 _ o') (cell_keep (b0 _ o) c1)
      have y1' : ∀ o : Obj, (wr.alloc o).cell? ⟨b2, off2 + k * 2, none⟩ = _ := fun o => cell_keep (b0 _ o) y1
      have y2' : ∀ o : Obj, (wr.alloc o).cell? ⟨b2, off2 + k * 2 + 1, none⟩ = _ := fun o => cell_keep (b0 _ o) y2
      obtain ⟨r, hr⟩ : ∃ r, r = fr right k := ⟨_, rfl⟩
      have HR := hid hr
      rw [← hr] at y1 y2 y1' y2'
      obtain ⟨r1, r2⟩ := r
      obtain ⟨ao, co, rfl⟩ := own_shape hT.out.outer
      have HUS := hid hus
      have hT' : Hid (Tab wr w.heap.size (.slice ao k co) us (T.take k)) := by have h9 := hT.out; rw [hus] at h9; exact h9
      have HO' : Hid (wr.ownsRow w.heap.size 27 1 (.slice ao k co) k us) := by have h9 := hT.out.outer; rw [hus] at h9; exact h9
      have hrl : Hid ((cellsR (rw' rows k)).length = n * 2) := by show _ = _; rw [cellsR_len, TRn.out k hkn]
      rw [hus]
      have hk9 : k < 900 := by omega
      clear hsrc hu hr hus hT
      go_wp2
      go_region_law (first
        | (refine step_append_ownS rfl (.tmp 22) (.tmp 26) 27 rfl wr.heap.size 33 i0 (.agg #[.int .i64 0, .int .i64 0]) 2 16 Try.underlying27 hi hz0 hz1 hz2 rfl (by decide) _ 0 [] (by simp [Act.eval]) (own_empty (b := wr.heap.size) (World.alloc_heap_new wr _) (by omega)) ⟨br, offr, none⟩ n cr (cellsR (rw' rows k)) (by simp [Act.eval]) hrl.out (HSR.out _ (hB.out.trans (Below.mono (by first | exact (b0 _ _).drew | exact b0 _ _) hsz))) (cellsR_one _) (by unfold maxLen; omega) (by omega) (by simp; try omega) ?_; intro v1 w4 hown1 hgrow1; have Bw4 : Below wr.heap.size wr w4 := Below.grown (by first | exact (b0 _ _).drew | exact b0 _ _) hgrow1 (by simp; try omega) (fun b e => by cases e; simp; try omega); replace hown1 : w4.ownsRow wr.heap.size 33 2 v1 n (cellsR (rw' rows k)) := (by simpa using hown1); obtain ⟨a1, c1x, rfl⟩ := own_shape hown1; have z1 := cell_keep Bw4 y1; have z2 := cell_keep Bw4 y2; have hs4 := Bw4.size; have HOW := hid hown1; clear hown1)
        | (refine step_append_ownS rfl (.tmp 22) (.tmp 26) 27 rfl wr.heap.size 33 i0 (.agg #[.int .i64 0, .int .i64 0]) 2 16 Try.underlying27 hi hz0 hz1 hz2 rfl (by decide) _ 0 [] (by simp [Act.eval]) (own_empty (b := wr.heap.size) ((Below.heap_alloc _ _ _ (by simp)).trans (World.alloc_heap_new wr _)) (by omega)) ⟨br, offr, none⟩ n cr (cellsR (rw' rows k)) (by simp [Act.eval]) hrl.out (HSR.out _ (hB.out.trans (Below.mono (by first | exact ((b0 _ _).trans ((b0 _ _).mono (by simp))).drew | exact (b0 _ _).trans ((b0 _ _).mono (by simp))) hsz))) (cellsR_one _) (by unfold maxLen; omega) (by omega) (by simp; try omega) ?_; intro v1 w4 hown1 hgrow1; have Bw4 : Below wr.heap.size wr w4 := Below.grown (by first | exact ((b0 _ _).trans ((b0 _ _).mono (by simp))).drew | exact (b0 _ _).trans ((b0 _ _).mono (by simp))) hgrow1 (by simp; try omega) (fun b e => by cases e; simp; try omega); replace hown1 : w4.ownsRow wr.heap.size 33 2 v1 n (cellsR (rw' rows k)) := (by simpa using hown1); obtain ⟨a1, c1x, rfl⟩ := own_shape hown1; have z1 := cell_keep Bw4 y1; have z2 := cell_keep Bw4 y2; have hs4 := Bw4.size; have HOW := hid hown1; clear hown1; have hc2 : ∀ j u, [Value.int .i64 r1, Value.int .i64 r2][j]? = some u → w4.cell? ((⟨wr.heap.size + 1, 0, none⟩ : Addr).add j) = some u := (by intro j u h; have h9 := cell_twoF (wr.alloc (.cells #[] 33)) (.int .i64 r1) (.int .i64 r2) 33 j u h; rw [show (wr.alloc (.cells #[] 33)).heap.size = wr.heap.size + 1 by simp] at h9; have e9 : (⟨wr.heap.size + 1, 0, none⟩ : Addr).add j = ⟨wr.heap.size + 1, j, none⟩ := (by by_cases i0 : j = 0 <;> simp [Addr.add, i0]); rw [e9] at h9 ⊢; exact cell_g hgrow1 h9 (by simp <;> omega)); have HC2 := hid hc2; clear hc2)
        | (refine step_append_ownS rfl (.tmp 22) (.tmp 26) 27 rfl wr.heap.size 33 i0 (.agg #[.int .i64 0, .int .i64 0]) 2 16 Try.underlying27 hi hz0 hz1 hz2 rfl (by decide) _ 0 [] (by simp [Act.eval]) (own_empty (b := (wr.heap.size + 1)) (by have h9 := World.alloc_heap_new (wr.alloc (.cells #[.int .i64 r1, .int .i64 r2] 33)) (.cells #[] 33); rw [show (wr.alloc (.cells #[.int .i64 r1, .int .i64 r2] 33)).heap.size = wr.heap.size + 1 by simp] at h9; exact h9) (by omega)) ⟨br, offr, none⟩ n cr (cellsR (rw' rows k)) (by simp [Act.eval]) hrl.out (HSR.out _ (hB.out.trans (Below.mono (by first | exact ((b0 _ _).trans ((b0 _ _).mono (by simp))).drew | exact (b0 _ _).trans ((b0 _ _).mono (by simp))) hsz))) (cellsR_one _) (by unfold maxLen; omega) (by omega) (by simp; try omega) ?_; intro v1 w4 hown1 hgrow1; have Bw4 : Below wr.heap.size wr w4 := Below.grown (by first | exact ((b0 _ _).trans ((b0 _ _).mono (by simp))).drew | exact (b0 _ _).trans ((b0 _ _).mono (by simp))) hgrow1 (by simp; try omega) (fun b e => by cases e; simp; try omega); replace hown1 : w4.ownsRow wr.heap.size 33 2 v1 n (cellsR (rw' rows k)) := (by simpa using hown1); obtain ⟨a1, c1x, rfl⟩ := own_shape hown1; have z1 := cell_keep Bw4 y1; have z2 := cell_keep Bw4 y2; have hs4 := Bw4.size; have HOW := hid hown1; clear hown1; have hc2 : ∀ j u, [Value.int .i64 r1, Value.int .i64 r2][j]? = some u → w4.cell? ((⟨wr.heap.size, 0, none⟩ : Addr).add j) = some u := (by intro j u h; have h9 := cell_twoF wr (.int .i64 r1) (.int .i64 r2) 33 j u h; have e9 : (⟨wr.heap.size, 0, none⟩ : Addr).add j = ⟨wr.heap.size, j, none⟩ := (by by_cases i0 : j = 0 <;> simp [Addr.add, i0]); rw [e9] at h9 ⊢; exact cell_g hgrow1 (cell_al _ h9) (by simp <;> omega)); have HC2 := hid hc2; clear hc2)
        | (refine step_append_ownS rfl (.tmp 27) (.tmp 32) 27 rfl wr.heap.size 33 i0 (.agg #[.int .i64 0, .int .i64 0]) 2 16 Try.underlying27 hi hz0 hz1 hz2 rfl (by decide) (.slice a1 n c1x) n (cellsR (rw' rows k)) (by simp [Act.eval]) (own_below HOW.out (by first | exact (b0 _ _).drew | exact b0 _ _)) ⟨w4.heap.size, 0, none⟩ 1 1 [.int .i64 r1, .int .i64 r2] (by simp [Act.eval]) rfl (fun j u h => by first | exact cell_dr (cell_twoF w4 _ _ _ j u h) | exact cell_twoF w4 _ _ _ j u h) (by intro u hu; simp at hu; rcases hu with rfl | rfl <;> rfl) (by unfold maxLen; omega) (by omega) (by first | omega | (simp; omega)) ?_; intro v2 w5 hown2 hgrow2; have Bw5 : Below wr.heap.size wr w5 := Below.grown (by first | exact (Bw4.trans ((b0 _ _).mono hs4)).drew | exact Bw4.trans ((b0 _ _).mono hs4)) hgrow2 (by first | omega | (simp; omega)) (fun b e => (HOW.out.lt b e).1); obtain ⟨a2, c2x, rfl⟩ := own_shape hown2; have HO2 := hid hown2; have hs5 := Bw5.size; clear hown2)
        | (refine step_append_ownS rfl (.tmp 27) (.tmp 32) 27 rfl wr.heap.size 33 i0 (.agg #[.int .i64 0, .int .i64 0]) 2 16 Try.underlying27 hi hz0 hz1 hz2 rfl (by decide) (.slice a1 n c1x) n (cellsR (rw' rows k)) (by simp [Act.eval]) (by first | exact HOW.out | exact own_below HOW.out ((Below.refl _ _).drew)) ⟨(wr.heap.size + 1), 0, none⟩ 1 1 [.int .i64 r1, .int .i64 r2] (by simp [Act.eval]) rfl (fun j u h => by first | exact HC2.out j u h | exact cell_dr (HC2.out j u h)) (by intro u hu; simp at hu; rcases hu with rfl | rfl <;> rfl) (by unfold maxLen; omega) (by omega) (by first | omega | (simp; omega)) ?_; intro v2 w5 hown2 hgrow2; have Bw5 : Below wr.heap.size wr w5 := Below.grown (by first | exact Bw4 | exact Bw4.drew) hgrow2 (by first | omega | (simp; omega)) (fun b e => (HOW.out.lt b e).1); obtain ⟨a2, c2x, rfl⟩ := own_shape hown2; have HO2 := hid hown2; have hs5 := Bw5.size; clear hown2)
        | (refine step_append_ownS rfl (.tmp 27) (.tmp 32) 27 rfl wr.heap.size 33 i0 (.agg #[.int .i64 0, .int .i64 0]) 2 16 Try.underlying27 hi hz0 hz1 hz2 rfl (by decide) (.slice a1 n c1x) n (cellsR (rw' rows k)) (by simp [Act.eval]) (by first | exact HOW.out | exact own_below HOW.out ((Below.refl _ _).drew)) ⟨wr.heap.size, 0, none⟩ 1 1 [.int .i64 r1, .int .i64 r2] (by simp [Act.eval]) rfl (fun j u h => by first | exact HC2.out j u h | exact cell_dr (HC2.out j u h)) (by intro u hu; simp at hu; rcases hu with rfl | rfl <;> rfl) (by unfold maxLen; omega) (by omega) (by first | omega | (simp; omega)) ?_; intro v2 w5 hown2 hgrow2; have Bw5 : Below wr.heap.size wr w5 := Below.grown (by first | exact Bw4 | exact Bw4.drew) hgrow2 (by first | omega | (simp; omega)) (fun b e => (HOW.out.lt b e).1); obtain ⟨a2, c2x, rfl⟩ := own_shape hown2; have HO2 := hid hown2; have hs5 := Bw5.size; clear hown2)
        | (refine step_append_ownS rfl (.tmp 21) (.tmp 34) 56 rfl w.heap.size 27 t0 (.slice none 0 0) 1 24 Try.underlying56 hti htz0 htz1 htz2 rfl (by decide) _ k us (by simp [Act.eval]) (own_below (own_below HO'.out Bw5) (by first | exact (b0 _ _).drew | exact b0 _ _)) ⟨w5.heap.size, 0, none⟩ 1 1 [.slice a2 (n + 1) c2x] (by simp [Act.eval]) rfl (fun j u h => by first | exact cell_dr (cell_one_new w5 _ _ j u h) | exact cell_one_new w5 _ _ j u h) (by simp [Value.oneCell']) (by unfold maxLen; omega) (by omega) (by simp; omega) ?_; intro v3 w6 hown3 hgrow3))
      all_goals go_wp2
      all_goals
        go_roundg g
        case measure => omega
        case rel =>
          have how : w5.ownsRow w.heap.size 33 2 (.slice a2 (n + 1) c2x) (rw' T k).length (cellsR (rw' T k)) := by
            rw [HT.out.2.2 k hkn, List.length_append, TRn.out k hkn, cellsR_append, ← HR.out]
            exact own_le HO2.out hsz
          have T5 := hT'.out.below Bw5
          have T6 := T5.append how (fun i hi b hb hb2 => by
            have h1 := (hT'.out.inner i hi).lt b hb
            have h2 := (HO2.out.lt b hb2).1
            omega) (by rw [HUS.out]; exact hown3) hgrow3
          refine ⟨v3, k + 1, us ++ [.slice a2 (n + 1) c2x], by omega, by go_num, rfl, by simp [HUS.out], ?_, ?_⟩
          · rw [← takeS T k (by rw [HT.out.2.1]; exact hkn)]
            exact T6
          · exact Below.grown (by first | exact ((hB.out.trans (Bw5.mono hsz)).trans ((b0 _ _).mono (by omega))).drew | exact (hB.out.trans (Bw5.mono hsz)).trans ((b0 _ _).mono (by omega))) hgrow3 (by simp; omega) (fun b e => (hT'.out.outer.lt b e).1)
end Go.Proofs.Ythnlcgilmljliaa
