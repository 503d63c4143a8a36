/- Several texts of this proof laid one behind the other: each has its own heading below. -/
import Derived.Test.YtgboaeokbglgdaaTimMath
import Derived.Test.YtgboaeokbglgdaaTimW1
import Derived.Test.YtgboaeokbglgdaaTimW3
import Derived.Laws.CopyOwn
import Derived.BigRegion
import Derived.WalkKit
import Derived.Deep.DeepMust
import Derived.Deep.LoopGhost
import Derived.WalkMore
import Derived.Deep.RegionWith
import Derived.Test.YtgboaeokbglgdaaRatioMath
import Derived.Test.YtgboaeokbglgdaaPtW4

/- The echelon, as the program and as the model reckon it, element by element. -/
namespace Go.Proofs.Ytgboaeokbglgdaa
open Go.Proofs.Ytgboaeokbglgdaa.RM

/-- a row divided -/
def divR (row : List Fr) (by' : Fr) : List Fr := row.map fun p => divP p by'
def divB (row : List Fr) (by' : Fr) : Bool := row.all fun p => divK p by'
/-- one element of what is left of a row, so many times another one taken from it -/
def takeE (o t x : Fr) : Fr := subP o (mulP t x)
def takeK (o t x : Fr) : Bool := subK o (mulP t x)
def takeR (other : List Fr) (t : Fr) (what : List Fr) : List Fr := (List.range other.length).map fun i => takeE (fr other i) t (fr what i)
def takeB (other : List Fr) (t : Fr) (what : List Fr) : Bool := (List.range other.length).all fun i => takeK (fr other i) t (fr what i)
/-- the same as the model reckons it: what it keeps, and was something too great -/
def sDivE (x f : Fr) : Fr := keepF (divK x f) (divP x f)
def sTakeP (t x : Fr) : Fr := keepF (mulK t x) (mulP t x)
def sTakeE (o t x : Fr) : Fr := keepF (subK o (sTakeP t x)) (subP o (sTakeP t x))
def sTakeX (o t x : Fr) : Bool := !mulK t x || !subK o (sTakeP t x)
theorem take_bad (o t x : Fr) : sTakeX o t x = !takeK o t x := by
  unfold sTakeX takeK sTakeP
  by_cases h : mulK t x = true
  · rw [keepF_yes h, h]; rfl
  · rw [Bool.not_eq_true] at h
    rw [h, mul_none h, sub_zero_r]; rfl
theorem take_same {o t x : Fr} (h : takeK o t x = true) : sTakeE o t x = takeE o t x := by
  have hb := take_bad o t x
  rw [h] at hb
  unfold sTakeX at hb
  rw [Bool.not_true, Bool.or_eq_false_iff] at hb
  have hm : mulK t x = true := by simpa using hb.1
  unfold sTakeE sTakeP takeE
  rw [keepF_yes hm]
  unfold takeK at h
  rw [keepF_yes h]
theorem div_same {x f : Fr} (h : divK x f = true) : sDivE x f = divP x f := keepF_yes h
/-- the row of the first one, from 'at' on, with something in the column that is not 0; as many as rows where there is none -/
def pivF (rows : List (List Fr)) (col : Nat) : Nat → Nat → Nat
  | 0, r => r
  | n + 1, r => if (fr (rw' rows r) col).1 = 0 then pivF rows col n (r + 1) else r
def piv (rows : List (List Fr)) (col at' : Nat) : Nat := pivF rows col (rows.length - at') at'
/-- the rows when row r was exchanged with row at -/
def swapT (rows : List (List Fr)) (r at' : Nat) : List (List Fr) := (rows.set r (rw' rows at')).set at' (rw' rows r)
/-- one column's step -/
def stepT (rows : List (List Fr)) (at' r col : Nat) : List (List Fr) :=
  (List.range rows.length).map fun i => if i = at' then divR (rw' rows r) (fr (rw' rows r) col) else takeR (rw' (swapT rows r at') i) (fr (rw' (swapT rows r at') i) col) (divR (rw' rows r) (fr (rw' rows r) col))
def stepB (rows : List (List Fr)) (at' r col : Nat) : Bool :=
  divB (rw' rows r) (fr (rw' rows r) col) && (List.range rows.length).all fun i => decide (i = at') || takeB (rw' (swapT rows r at') i) (fr (rw' (swapT rows r at') i) col) (divR (rw' rows r) (fr (rw' rows r) col))
/-- the columns from col on, n of them: the rows and the chosen columns, or none where something is too great -/
def echF : Nat → Nat → List (List Fr) → List Nat → Option (List (List Fr) × List Nat)
  | 0, _, rows, ch => some (rows, ch)
  | n + 1, col, rows, ch =>
    if piv rows col ch.length = rows.length then echF n (col + 1) rows ch
    else if stepB rows ch.length (piv rows col ch.length) col = true then echF n (col + 1) (stepT rows ch.length (piv rows col ch.length) col) (ch ++ [col])
    else none
def ech (rows : List (List Fr)) : Option (List (List Fr) × List Nat) := echF (rw' rows 0).length 0 rows []
theorem pivF_ge (rows : List (List Fr)) (col : Nat) : ∀ n r, r ≤ pivF rows col n r ∧ pivF rows col n r ≤ r + n
  | 0, r => ⟨Nat.le_refl _, Nat.le_refl _⟩
  | n + 1, r => by
    have := pivF_ge rows col n (r + 1)
    simp only [pivF]
    split <;> omega
theorem piv_le {rows : List (List Fr)} {col at' : Nat} (h : at' ≤ rows.length) : at' ≤ piv rows col at' ∧ piv rows col at' ≤ rows.length := by
  have := pivF_ge rows col (rows.length - at') at'
  unfold piv; omega
theorem pivF_zero (rows : List (List Fr)) (col : Nat) : ∀ n r i, r ≤ i → i < pivF rows col n r → (fr (rw' rows i) col).1 = 0
  | 0, r, i, h1, h2 => by simp only [pivF] at h2; omega
  | n + 1, r, i, h1, h2 => by
    simp only [pivF] at h2
    split at h2
    · rename_i h
      by_cases e : i = r
      · subst e; exact h
      · exact pivF_zero rows col n (r + 1) i (by omega) h2
    · omega
theorem pivF_at (rows : List (List Fr)) (col : Nat) : ∀ n r, pivF rows col n r < r + n → (fr (rw' rows (pivF rows col n r)) col).1 ≠ 0
  | 0, r, h => by simp only [pivF] at h; omega
  | n + 1, r, h => by
    simp only [pivF] at h ⊢
    split
    · rename_i hz
      rw [if_pos hz] at h
      exact pivF_at rows col n (r + 1) (by omega)
    · rename_i hz
      exact hz
end Go.Proofs.Ytgboaeokbglgdaa

/- The walks of the program's steps on rows: one divided, so many times one taken from another. -/
namespace Go.Proofs.Ytgboaeokbglgdaa
open Go.RowKit Go.Proofs.Ytgboaeokbglgdaa.RM

theorem subC (x1 x2 y1 y2 : Int) (w : World) :
    Calls Try.prog 25 #[.agg #[.int .i64 x1, .int .i64 x2], .agg #[.int .i64 y1, .int .i64 y2]] w fun e w' => e = .returned (.tuple #[.agg #[.int .i64 (subP (x1, x2) (y1, y2)).1, .int .i64 (subP (x1, x2) (y1, y2)).2], .bool (subK (x1, x2) (y1, y2))]) ∧ Below w.heap.size w w' := iSub_any x1 x2 y1 y2 w

/-- the first k elements by one function, the others as they were -/
def parF (f : Nat → Fr) (row : List Fr) (k : Nat) : List Fr := (List.range row.length).map fun i => if i < k then f i else fr row i
theorem parF_len (f : Nat → Fr) (row : List Fr) (k : Nat) : (parF f row k).length = row.length := by simp [parF]
theorem parF_zero (f : Nat → Fr) (row : List Fr) : parF f row 0 = row := by
  apply List.ext_getElem
  · rw [parF_len]
  · intro i h1 h2
    simp [parF, fr, h2]
theorem parF_set (f : Nat → Fr) (row : List Fr) (k : Nat) : (parF f row k).set k (f k) = parF f row (k + 1) := by
  apply List.ext_getElem
  · simp [parF]
  · intro i h1 h2
    simp only [parF, List.getElem_set, List.getElem_map, List.getElem_range]
    by_cases e : k = i
    · subst e
      rw [if_pos rfl, if_pos (by omega)]
    · rw [if_neg e]
      by_cases h3 : i < k
      · rw [if_pos h3, if_pos (by omega)]
      · rw [if_neg h3, if_neg (by omega)]
theorem parF_at (f : Nat → Fr) (row : List Fr) (k : Nat) (h : k < row.length) : (parF f row k)[k]?.getD (0, 0) = fr row k := by simp [parF, h]
theorem parF_div (row : List Fr) (g : Fr) : parF (fun i => divP (fr row i) g) row row.length = divR row g := by
  apply List.ext_getElem
  · simp [parF, divR]
  · intro i h1 h2
    rw [parF_len] at h1
    simp [parF, divR, fr, h1]
theorem parF_take (row : List Fr) (t : Fr) (what : List Fr) : parF (fun i => takeE (fr row i) t (fr what i)) row row.length = takeR row t what := by
  apply List.ext_getElem
  · simp [parF, takeR]
  · intro i h1 h2
    rw [parF_len] at h1
    simp [parF, takeR, h1]
theorem divB_no {row : List Fr} {g : Fr} {k : Nat} (hk : k < row.length) (h : divK (fr row k) g = false) : divB row g = false := all_no _ (0, 0) hk h
theorem divB_yes {row : List Fr} {g : Fr} (h : ∀ k, k < row.length → divK (fr row k) g = true) : divB row g = true := all_yes _ (0, 0) h
theorem takeB_no {row : List Fr} {t : Fr} {what : List Fr} {k : Nat} (hk : k < row.length) (h : takeK (fr row k) t (fr what k) = false) : takeB row t what = false := by
  rw [← Bool.not_eq_true]
  intro ha
  unfold takeB at ha
  rw [List.all_eq_true] at ha
  have := ha k (by simpa using hk)
  rw [h] at this
  exact absurd this (by simp)
theorem takeB_yes {row : List Fr} {t : Fr} {what : List Fr} (h : ∀ k, k < row.length → takeK (fr row k) t (fr what k) = true) : takeB row t what = true := by
  unfold takeB
  rw [List.all_eq_true]
  intro k hk
  exact h k (by simpa using hk)

end Go.Proofs.Ytgboaeokbglgdaa

/- The walk of the program's takeFromRow. -/
namespace Go.Proofs.Ytgboaeokbglgdaa
open Go.RowKit Go.Proofs.Ytgboaeokbglgdaa.RM

end Go.Proofs.Ytgboaeokbglgdaa

/- A copy of elements of two cells into a row that is known whole. -/
namespace Go.Proofs.Ytgboaeokbglgdaa
open Go Go.RowKit

theorem run_copy_two {P : Program} (w : World) (dT sT ty elem : TypeId) (g o dLen dCap : Nat) (a : Addr) (sLen sCap : Nat) (cur : Array Value) (t : TypeId) (cs : List Value)
    (hu : P.underlying dT = some (.slice elem)) (hs : (P.info? elem).map (·.size) = some 2)
    (hg : w.heap[g]? = some (.cells cur t (0, 0))) (hn : cs.length = Nat.min sLen dLen * 2)
    (hsrc : ∀ j v, cs[j]? = some v → w.cell? (a.add j) = some v) (hfit : o + cs.length ≤ cur.size) (h1 : ∀ v ∈ cs, v.oneCell' = true) :
    (Builtin.copy_ #[dT, sT] ty #[.slice (some ⟨g, o, none⟩) dLen dCap, .slice (some a) sLen sCap]).run P w =
      .ok (goInt (Nat.min sLen dLen)) (w.setRow g (cur.toList.take o ++ cs ++ cur.toList.drop (o + cs.length)).toArray) := by
  have hl := run_loadCells_list (P := P) w a cs hsrc
  have hst := run_storeCells_at P g o t cs 0 cur w hg (by simpa using hfit) h1
  cases hq : P.info? elem with
  | none => simp [hq] at hs
  | some i =>
    have hi : i.size = 2 := by simpa [hq] using hs
    simp [Builtin.copy_, run_underlying hu, Builtin.lenOf, Builtin.firstCells, sizeOf, typeInfo, hq, hi, ← hn, hl, hst]
theorem wpList_copy_two {P : Program} {w : World} {ops : Array Oper} {rest : List Oper} {o : Oper} {a : Act} {Q : Exit → Act → World → Prop} (hgd : o.guard = none) (d s : Operand) (dT sT : TypeId)
    (ho : o.op = .call { callee := .builtin .copy, args := #[d, s], argTypes := #[dT, sT] }) (elem : TypeId) (hu : P.underlying dT = some (.slice elem)) (hsz : (P.info? elem).map (·.size) = some 2)
    (g off dLen dCap : Nat) (ad : Addr) (sLen sCap : Nat) (hd : a.eval d = .slice (some ⟨g, off, none⟩) dLen dCap) (hs : a.eval s = .slice (some ad) sLen sCap)
    (cur : Array Value) (t : TypeId) (hg : w.heap[g]? = some (.cells cur t (0, 0))) (cs : List Value) (hn : cs.length = Nat.min sLen dLen * 2)
    (hsrc : ∀ j v, cs[j]? = some v → w.cell? (ad.add j) = some v) (hfit : off + cs.length ≤ cur.size) (h1 : ∀ v ∈ cs, v.oneCell' = true)
    (h : wpList P ops Q rest (a.put o.dst (goInt (Nat.min sLen dLen))) (w.setRow g (cur.toList.take off ++ (cs ++ cur.toList.drop (off + cs.length))).toArray)) : wpList P ops Q (o :: rest) a w := by
  refine wpList_plain hgd fun K hK => ?_
  have hrun := run_copy_two (P := P) w dT sT o.type elem g off dLen dCap ad sLen sCap cur t cs hu hsz hg hn hsrc hfit h1
  unfold Oper.wp
  simp [execOp, ho, resolve, invoke, builtin, hd, hs, hrun, Result.andThen]
  exact hK _ _ h
end Go.Proofs.Ytgboaeokbglgdaa

/- The walk of the program's copiedRows. -/
namespace Go.Proofs.Ytgboaeokbglgdaa
open Go.RowKit Go.Proofs.Ytgboaeokbglgdaa.RM

theorem sizeF : (Try.prog.info? 30).map (fun i => i.size) = some 2 := by kernel_rfl
/-- a row as a walk that copies wants it -/
theorem row_src {W : World} {v : Value} {ps : List Fr} {a : Option Addr} {n c : Nat} (h : RdR W v ps) (e : v = .slice a n c) (h1 : 1 ≤ ps.length) : n = ps.length ∧ ∃ b off, a = some ⟨b, off, none⟩ ∧ ∀ j u, (cellsR ps)[j]? = some u → W.cell? ((⟨b, off, none⟩ : Addr).add j) = some u := by
  obtain ⟨a', c', rfl, _, _, _, h5⟩ := h
  cases e
  refine ⟨rfl, ?_⟩
  obtain ⟨b, off, rfl, _, _⟩ := h5 0 (by omega)
  refine ⟨b, off, rfl, fun j u hj => ?_⟩
  have hl : j < ps.length * 2 := by
    have := (List.getElem?_eq_some_iff.1 hj).1
    rw [cellsR_len] at this
    exact this
  obtain ⟨b', off', e, k1, k2⟩ := h5 (j / 2) (by omega)
  cases e
  have hc := cellsR_at ps (j / 2) (by omega)
  have ea : (⟨b, off, none⟩ : Addr).add j = ⟨b, off + j, none⟩ := by by_cases i0 : j = 0 <;> simp [Addr.add, i0]
  rw [ea]
  rcases Nat.mod_two_eq_zero_or_one j with m | m
  · have ej : j / 2 * 2 = j := by omega
    rw [ej] at hc k1
    rw [hc.1] at hj
    injection hj with hj
    rw [k1, ← hj]; rfl
  · have ej : j / 2 * 2 + 1 = j := by omega
    rw [ej] at hc
    rw [Nat.add_assoc, ej] at k2
    rw [hc.2] at hj
    injection hj with hj
    rw [k2, ← hj]; rfl
theorem cellsR_one (ps : List Fr) : ∀ v ∈ cellsR ps, v.oneCell' = true := by
  intro v hv
  unfold cellsR at hv
  rw [List.mem_flatMap] at hv
  obtain ⟨p, _, hp⟩ := hv
  simp at hp
  rcases hp with rfl | rfl <;> rfl
/-- a row that was made, laid over whole -/
theorem row_laid {W : World} {base G L : Nat} {cur : Array Value} {ps : List Fr} (hb : base ≤ G) (hL : ps.length = L) (hm : L ≤ 1000) (hg : W.heap[G]? = some (.cells cur 30 (0, 0))) (hs : cur.size = L * 2) :
    (W.setRow G (cur.toList.take 0 ++ (cellsR ps ++ cur.toList.drop (0 + (cellsR ps).length))).toArray).ownsRow base 30 2 (.slice (some ⟨G, 0, none⟩) L L) L (cellsR ps) ∧
    W.grownBy (W.setRow G (cur.toList.take 0 ++ (cellsR ps ++ cur.toList.drop (0 + (cellsR ps).length))).toArray) (some G) := by
  have hd : cur.toList.drop (0 + (cellsR ps).length) = [] := by
    rw [cellsR_len, hL, Nat.zero_add, List.drop_eq_nil_iff]
    simp [hs]
  rw [hd, List.take_zero, List.nil_append, List.append_nil]
  refine ⟨⟨by rw [cellsR_len, hL], .inr ⟨G, L, (cellsR ps).toArray, rfl, hb, setRow_heap W G _ _ _ _ hg, Nat.le_refl _, by unfold maxLen; omega, by simp [cellsR_len, hL], ?_⟩⟩, ⟨rfl, rfl, rfl, by simp [World.setRow], fun k _ hk => setRow_other W G k _ (fun e => hk (by rw [e]))⟩⟩
  rw [List.toList_toArray, List.take_of_length_le (by rw [cellsR_len, hL]; exact Nat.le_refl _)]

end Go.Proofs.Ytgboaeokbglgdaa

/- The echelon that a pointer holds; the walk of choose. -/
namespace Go.Proofs.Ytgboaeokbglgdaa
open Go.RowKit Go.Proofs.Ytgboaeokbglgdaa.RM

/-- whole numbers as cells -/
def natV (ns : List Nat) : List Value := ns.map fun (n : Nat) => Value.int .i64 (n : Int)
/-- two lists that have nothing in common lie apart -/
theorem own_apart {W : World} {base e n m : Nat} {vc vf : Value} {ch fe : List Nat} (h : W.ownsRow base e 1 vc n (natV ch)) (k : W.ownsRow base e 1 vf m (natV fe)) (nc : ch = [] → vc = .slice none 0 0) (nf : fe = [] → vf = .slice none 0 0) (ne : ∀ c, c ∈ ch → ∀ f, f ∈ fe → c ≠ f) :
    ∀ b, vc.ownBlock = some b → vf.ownBlock ≠ some b := by
  intro b hb hb2
  cases ch with
  | nil => rw [nc rfl] at hb; cases hb
  | cons c ch =>
    cases fe with
    | nil => rw [nf rfl] at hb2; cases hb2
    | cons f fe =>
      have h1 := h.cells hb 0 (.int .i64 (c : Int)) (by simp [natV])
      have h2 := k.cells hb2 0 (.int .i64 (f : Int)) (by simp [natV])
      rw [h1] at h2
      have : (c : Int) = f := by injection h2 with h2; injection h2
      exact ne c (by simp) f (by simp) (by omega)
/-- the cells of a struct of three -/
theorem cells3 {W : World} {E : Nat} {a b c : Value} {t : TypeId} (h : W.heap[E]? = some (.cells #[a, b, c] t (0, 0))) :
    W.cell? ⟨E, 0, none⟩ = some a ∧ W.cell? ⟨E, 1, none⟩ = some b ∧ W.cell? ⟨E, 2, none⟩ = some c ∧ W.frozen? ⟨E, 0, none⟩ = false ∧ W.frozen? ⟨E, 1, none⟩ = false ∧ W.frozen? ⟨E, 2, none⟩ = false ∧ E < W.heap.size := by
  have hl : E < W.heap.size := (Array.getElem?_eq_some_iff.1 h).1
  refine ⟨?_, ?_, ?_, ?_, ?_, ?_, hl⟩ <;> simp [World.cell?, World.frozen?, h]
/-- a block of a type that no row has -/
theorem own_ne {W : World} {base e size n E : Nat} {v : Value} {xs : List Value} {cs : Array Value} {t : TypeId} {f : Nat × Nat} (h : W.ownsRow base e size v n xs) (hE : W.heap[E]? = some (.cells cs t f)) (hne : e ≠ t) : ∀ b, v.ownBlock = some b → b ≠ E := by
  rintro b hb rfl
  obtain ⟨cs', h'⟩ := own_type h hb
  rw [h'] at hE
  cases hE
  exact hne rfl
/-- where an exchange takes a row from -/
def exch (i r x : Nat) : Nat := if r = x then i else if i = x then r else x
theorem exch_lt {i r x n : Nat} (hi : i < n) (hr : r < n) (hx : x < n) : exch i r x < n := by unfold exch; split <;> (try split) <;> omega
theorem exch_inj {i r x y : Nat} (h : exch i r x = exch i r y) : x = y := by
  unfold exch at h
  split at h <;> split at h <;> (try split at h) <;> (try split at h) <;> omega
theorem vl_exch (us : List Value) (i r x : Nat) (hi : i < us.length) (hr : r < us.length) : vl ((us.set i (vl us r)).set r (vl us i)) x = vl us (exch i r x) := by
  rw [vl_set _ _ _ _ (by rw [List.length_set]; exact hr), vl_set _ _ _ _ hi]
  unfold exch
  split <;> (try split) <;> rfl
theorem rw_exch (rows : List (List Fr)) (i r x : Nat) (hi : i < rows.length) (hr : r < rows.length) : rw' (swapT rows i r) x = rw' rows (exch i r x) := by
  unfold swapT
  rw [rw_set _ _ _ _ (by rw [List.length_set]; exact hr), rw_set _ _ _ _ hi]
  unfold exch
  split <;> (try split) <;> rfl
theorem swapT_len (rows : List (List Fr)) (i r : Nat) : (swapT rows i r).length = rows.length := by simp [swapT]
theorem natV_app (ch : List Nat) (c : Nat) : natV (ch ++ [c]) = natV ch ++ [Value.int .i64 (c : Int)] := by simp [natV]
end Go.Proofs.Ytgboaeokbglgdaa

/- The walk of choose: one column's step. -/
namespace Go.Proofs.Ytgboaeokbglgdaa
open Go.RowKit Go.Proofs.Ytgboaeokbglgdaa.RM

/-- the step's rows when k of them were taken from -/
def stepP (rows : List (List Fr)) (at' r col k : Nat) : List (List Fr) :=
  (List.range rows.length).map fun x => if x = at' then divR (rw' rows r) (fr (rw' rows r) col) else if x < k then takeR (rw' (swapT rows r at') x) (fr (rw' (swapT rows r at') x) col) (divR (rw' rows r) (fr (rw' rows r) col)) else rw' (swapT rows r at') x
theorem stepP_len (rows : List (List Fr)) (at' r col k : Nat) : (stepP rows at' r col k).length = rows.length := by simp [stepP]
theorem stepP_at (rows : List (List Fr)) (at' r col k x : Nat) (hx : x < rows.length) : rw' (stepP rows at' r col k) x = if x = at' then divR (rw' rows r) (fr (rw' rows r) col) else if x < k then takeR (rw' (swapT rows r at') x) (fr (rw' (swapT rows r at') x) col) (divR (rw' rows r) (fr (rw' rows r) col)) else rw' (swapT rows r at') x := by
  unfold stepP rw'
  simp [hx]
theorem rows_ext {a b : List (List Fr)} (hl : a.length = b.length) (h : ∀ x, x < a.length → rw' a x = rw' b x) : a = b := by
  apply List.ext_getElem hl
  intro x h1 h2
  have := h x h1
  simpa [rw', h1, h2] using this
theorem stepP_zero (rows : List (List Fr)) (at' r col : Nat) (h : at' < rows.length) : (swapT rows r at').set at' (divR (rw' rows r) (fr (rw' rows r) col)) = stepP rows at' r col 0 := by
  apply rows_ext (by simp [stepP_len, swapT_len])
  intro x hx
  rw [List.length_set, swapT_len] at hx
  rw [rw_set _ _ _ _ (by rw [swapT_len]; exact h), stepP_at _ _ _ _ _ _ hx]
  by_cases e : at' = x
  · rw [if_pos e, if_pos e.symm]
  · rw [if_neg e, if_neg (fun h => e h.symm), if_neg (by omega)]
theorem stepP_skip (rows : List (List Fr)) (at' r col : Nat) : stepP rows at' r col at' = stepP rows at' r col (at' + 1) := by
  apply rows_ext (by simp [stepP_len])
  intro x hx
  rw [stepP_len] at hx
  rw [stepP_at _ _ _ _ _ _ hx, stepP_at _ _ _ _ _ _ hx]
  by_cases e : x = at'
  · rw [if_pos e, if_pos e]
  · rw [if_neg e, if_neg e]
    by_cases e2 : x < at'
    · rw [if_pos e2, if_pos (by omega)]
    · rw [if_neg e2, if_neg (by omega)]
theorem stepP_set (rows : List (List Fr)) (at' r col k : Nat) (hk : k < rows.length) (hne : k ≠ at') : (stepP rows at' r col k).set k (takeR (rw' (swapT rows r at') k) (fr (rw' (swapT rows r at') k) col) (divR (rw' rows r) (fr (rw' rows r) col))) = stepP rows at' r col (k + 1) := by
  apply rows_ext (by simp [stepP_len])
  intro x hx
  rw [List.length_set, stepP_len] at hx
  rw [rw_set _ _ _ _ (by rw [stepP_len]; exact hk), stepP_at _ _ _ _ _ _ hx, stepP_at _ _ _ _ _ _ hx]
  by_cases e : k = x
  · subst e
    rw [if_pos rfl, if_neg hne, if_pos (by omega)]
  · rw [if_neg e]
    by_cases e2 : x = at'
    · rw [if_pos e2, if_pos e2]
    · rw [if_neg e2, if_neg e2]
      by_cases e3 : x < k
      · rw [if_pos e3, if_pos (by omega)]
      · rw [if_neg e3, if_neg (by omega)]
theorem stepP_all (rows : List (List Fr)) (at' r col : Nat) : stepP rows at' r col rows.length = stepT rows at' r col := by
  apply rows_ext (by simp [stepP_len, stepT])
  intro x hx
  rw [stepP_len] at hx
  rw [stepP_at _ _ _ _ _ _ hx, if_pos hx]
  simp [rw', stepT, hx]
theorem stepB_div {rows : List (List Fr)} {at' r col : Nat} (h : divB (rw' rows r) (fr (rw' rows r) col) = false) : stepB rows at' r col = false := by
  unfold stepB; rw [h]; rfl
theorem stepB_take {rows : List (List Fr)} {at' r col k : Nat} (hk : k < rows.length) (hne : k ≠ at') (h : takeB (rw' (swapT rows r at') k) (fr (rw' (swapT rows r at') k) col) (divR (rw' rows r) (fr (rw' rows r) col)) = false) : stepB rows at' r col = false := by
  rw [← Bool.not_eq_true]
  intro hb
  unfold stepB at hb
  rw [Bool.and_eq_true, List.all_eq_true] at hb
  have := hb.2 k (by simpa using hk)
  rw [h] at this
  simp [hne] at this
theorem stepB_yes {rows : List (List Fr)} {at' r col : Nat} (h : divB (rw' rows r) (fr (rw' rows r) col) = true) (h2 : ∀ k, k < rows.length → k ≠ at' → takeB (rw' (swapT rows r at') k) (fr (rw' (swapT rows r at') k) col) (divR (rw' rows r) (fr (rw' rows r) col)) = true) : stepB rows at' r col = true := by
  unfold stepB
  rw [h, Bool.true_and, List.all_eq_true]
  intro k hk
  by_cases e : k = at'
  · simp [e]
  · rw [h2 k (by simpa using hk) e]; simp
theorem divR_len (row : List Fr) (f : Fr) : (divR row f).length = row.length := by simp [divR]
/-- a row's elements as a walk reads them -/
theorem row_at {W : World} {base b n c : Nat} {ps : List Fr} (h : W.ownsRow base 30 2 (.slice (some ⟨b, 0, none⟩) n c) ps.length (cellsR ps)) (j : Nat) (hj : j < ps.length) : W.cell? ⟨b, j * 2, none⟩ = some (.int .i64 (fr ps j).1) ∧ W.cell? ⟨b, j * 2 + 1, none⟩ = some (.int .i64 (fr ps j).2) := by
  have hn : n = ps.length := by
    rcases h.2 with ⟨e, _⟩ | ⟨g', c', cur, e, _⟩ <;> cases e; rfl
  subst hn
  exact own_R h rfl j hj
end Go.Proofs.Ytgboaeokbglgdaa

/- The walk of choose. -/
namespace Go.Proofs.Ytgboaeokbglgdaa
open Go.RowKit Go.Proofs.Ytgboaeokbglgdaa.RM
theorem hid {p : Prop} (h : p) : Hid p := h
theorem infoInt : (Try.prog.info? 3).map (fun i => (i.zero, i.size, i.bytes)) = some (some (.int .i64 0), 1, 8) := by kernel_rfl


end Go.Proofs.Ytgboaeokbglgdaa

/- What a column's step keeps; how the echelon goes on by columns. -/
namespace Go.Proofs.Ytgboaeokbglgdaa
open Go.Proofs.Ytgboaeokbglgdaa.RM

theorem takeR_len (o : List Fr) (t : Fr) (x : List Fr) : (takeR o t x).length = o.length := by simp [takeR]
theorem stepT_len (rows : List (List Fr)) (at' r col : Nat) : (stepT rows at' r col).length = rows.length := by simp [stepT]
/-- the rows stay as long as they were -/
theorem stepT_row {rows : List (List Fr)} {at' r col L : Nat} (hL : ∀ x, x < rows.length → (rw' rows x).length = L) (ha : at' < rows.length) (hr : r < rows.length) : ∀ x, x < (stepT rows at' r col).length → (rw' (stepT rows at' r col) x).length = L := by
  intro x hx
  rw [stepT_len] at hx
  rw [← stepP_all, stepP_at _ _ _ _ _ _ hx, if_pos hx]
  split
  · rw [divR_len]; exact hL r hr
  · rw [takeR_len, rw_exch _ _ _ _ hr ha]
    exact hL _ (exch_lt hr ha hx)
theorem echF_free {n col : Nat} {rows : List (List Fr)} {ch : List Nat} (h : piv rows col ch.length = rows.length) : echF (n + 1) col rows ch = echF n (col + 1) rows ch := by
  simp only [echF]; rw [if_pos h]
theorem echF_yes {n col r : Nat} {rows : List (List Fr)} {ch : List Nat} (hr : r = piv rows col ch.length) (h : r ≠ rows.length) (hb : stepB rows ch.length r col = true) : echF (n + 1) col rows ch = echF n (col + 1) (stepT rows ch.length r col) (ch ++ [col]) := by
  subst hr
  simp only [echF]; rw [if_neg h, if_pos hb]
theorem echF_no {n col r : Nat} {rows : List (List Fr)} {ch : List Nat} (hr : r = piv rows col ch.length) (h : r ≠ rows.length) (hb : stepB rows ch.length r col = false) : echF (n + 1) col rows ch = none := by
  subst hr
  simp only [echF]; rw [if_neg h, if_neg (by rw [hb]; decide)]
/-- the row that a search from the top finds -/
theorem pivF_is (rows : List (List Fr)) (col : Nat) : ∀ n r i, r ≤ i → i < r + n → (∀ x, r ≤ x → x < i → (fr (rw' rows x) col).1 = 0) → (fr (rw' rows i) col).1 ≠ 0 → pivF rows col n r = i
  | 0, r, i, h1, h2, _, _ => by omega
  | n + 1, r, i, h1, h2, hz, hn => by
    simp only [pivF]
    by_cases e : i = r
    · subst e; rw [if_neg hn]
    · rw [if_pos (hz r (Nat.le_refl _) (by omega))]
      exact pivF_is rows col n (r + 1) i (by omega) (by omega) (fun x h3 h4 => hz x (by omega) h4) hn
theorem pivF_none (rows : List (List Fr)) (col : Nat) : ∀ n r, (∀ x, r ≤ x → x < r + n → (fr (rw' rows x) col).1 = 0) → pivF rows col n r = r + n
  | 0, r, _ => rfl
  | n + 1, r, hz => by
    simp only [pivF]
    rw [if_pos (hz r (Nat.le_refl _) (by omega)), pivF_none rows col n (r + 1) (fun x h3 h4 => hz x (by omega) (by omega))]
    omega
end Go.Proofs.Ytgboaeokbglgdaa

/- The echelon's other list grows; how it begins. -/
namespace Go.Proofs.Ytgboaeokbglgdaa
open Go.RowKit Go.Proofs.Ytgboaeokbglgdaa.RM

theorem rw_len_pos {rows : List (List Fr)} {cols : Int} (h : tabB rows cols = true) : ∀ x, x < rows.length → (rw' rows x).length = (rw' rows 0).length := fun x hx => ((tabB_out h).2 x hx).1
end Go.Proofs.Ytgboaeokbglgdaa

/- The echelon as the model reckons it, element by element, with what it remembers; the free columns. -/
namespace Go.Proofs.Ytgboaeokbglgdaa
open Go.Proofs.Ytgboaeokbglgdaa.RM

/-- the first j elements turned -/
def upto (f : Nat → Fr) (ps : List Fr) (j : Nat) : List Fr := (List.range ps.length).map fun i => if i < j then f i else fr ps i
theorem upto_len (f : Nat → Fr) (ps : List Fr) (j : Nat) : (upto f ps j).length = ps.length := by simp [upto]
theorem upto_at (f : Nat → Fr) (ps : List Fr) (j i : Nat) (h : i < ps.length) : fr (upto f ps j) i = if i < j then f i else fr ps i := by simp [upto, fr, h]
theorem fr_ext {a b : List Fr} (hl : a.length = b.length) (h : ∀ x, x < a.length → fr a x = fr b x) : a = b := by
  apply List.ext_getElem hl
  intro x h1 h2
  have := h x h1
  simpa [fr, h1, h2] using this
theorem fr_set (ps : List Fr) (k i : Nat) (r : Fr) (hk : k < ps.length) : fr (ps.set k r) i = if k = i then r else fr ps i := by
  unfold fr
  rw [List.getElem?_set]
  by_cases e : k = i
  · subst e; rw [if_pos rfl, if_pos rfl, if_pos hk]; rfl
  · rw [if_neg e, if_neg e]
theorem upto_zero (f : Nat → Fr) (ps : List Fr) : upto f ps 0 = ps := by
  apply fr_ext (upto_len _ _ _)
  intro x hx
  rw [upto_len] at hx
  rw [upto_at _ _ _ _ hx, if_neg (by omega)]
theorem upto_set (f : Nat → Fr) (ps : List Fr) (j : Nat) (hj : j < ps.length) : (upto f ps j).set j (f j) = upto f ps (j + 1) := by
  apply fr_ext (by simp [upto_len])
  intro x hx
  rw [List.length_set, upto_len] at hx
  rw [fr_set _ _ _ _ (by rw [upto_len]; exact hj), upto_at _ _ _ _ hx, upto_at _ _ _ _ hx]
  by_cases e : j = x
  · subst e; rw [if_pos rfl, if_pos (by omega)]
  · rw [if_neg e]
    by_cases e2 : x < j
    · rw [if_pos e2, if_pos (by omega)]
    · rw [if_neg e2, if_neg (by omega)]
theorem upto_all (f : Nat → Fr) (ps : List Fr) : upto f ps ps.length = (List.range ps.length).map f := by
  unfold upto
  apply List.map_congr_left
  intro x hx
  rw [List.mem_range] at hx
  rw [if_pos hx]
/-- the first k rows turned -/
def uptoT (f : Nat → List Fr) (rows : List (List Fr)) (k : Nat) : List (List Fr) := (List.range rows.length).map fun i => if i < k then f i else rw' rows i
theorem uptoT_len (f : Nat → List Fr) (rows : List (List Fr)) (k : Nat) : (uptoT f rows k).length = rows.length := by simp [uptoT]
theorem uptoT_at (f : Nat → List Fr) (rows : List (List Fr)) (k i : Nat) (h : i < rows.length) : rw' (uptoT f rows k) i = if i < k then f i else rw' rows i := by simp [uptoT, rw', h]
theorem uptoT_zero (f : Nat → List Fr) (rows : List (List Fr)) : uptoT f rows 0 = rows := by
  apply rows_ext (uptoT_len _ _ _)
  intro x hx
  rw [uptoT_len] at hx
  rw [uptoT_at _ _ _ _ hx, if_neg (by omega)]
theorem uptoT_set (f : Nat → List Fr) (rows : List (List Fr)) (k : Nat) (hk : k < rows.length) : (uptoT f rows k).set k (f k) = uptoT f rows (k + 1) := by
  apply rows_ext (by simp [uptoT_len])
  intro x hx
  rw [List.length_set, uptoT_len] at hx
  rw [rw_set _ _ _ _ (by rw [uptoT_len]; exact hk), uptoT_at _ _ _ _ hx, uptoT_at _ _ _ _ hx]
  by_cases e : k = x
  · subst e; rw [if_pos rfl, if_pos (by omega)]
  · rw [if_neg e]
    by_cases e2 : x < k
    · rw [if_pos e2, if_pos (by omega)]
    · rw [if_neg e2, if_neg (by omega)]
/-- a row that stays -/
theorem uptoT_same (f : Nat → List Fr) (rows : List (List Fr)) (k : Nat) (hk : k < rows.length) (h : f k = rw' rows k) : uptoT f rows k = uptoT f rows (k + 1) := by
  apply rows_ext (by simp [uptoT_len])
  intro x hx
  rw [uptoT_len] at hx
  rw [uptoT_at _ _ _ _ hx, uptoT_at _ _ _ _ hx]
  by_cases e : x = k
  · subst e; rw [if_neg (by omega), if_pos (by omega), h]
  · by_cases e2 : x < k
    · rw [if_pos e2, if_pos (by omega)]
    · rw [if_neg e2, if_neg (by omega)]
/-- was one of the first n so -/
def xTo (b : Nat → Bool) (n : Nat) : Bool := (List.range n).any b
theorem xTo_zero (b : Nat → Bool) : xTo b 0 = false := rfl
theorem xTo_succ (b : Nat → Bool) (n : Nat) : xTo b (n + 1) = (xTo b n || b n) := by simp [xTo, List.range_succ]
theorem xTo_not (b : Nat → Bool) (n : Nat) : xTo b n = !(List.range n).all (fun i => !b i) := by
  unfold xTo
  induction n with
  | zero => rfl
  | succ n ih => rw [List.range_succ, List.any_append, List.all_append, ih]; simp [Bool.not_and]
theorem xTo_congr {b c : Nat → Bool} {n : Nat} (h : ∀ i, i < n → b i = c i) : xTo b n = xTo c n := by
  induction n with
  | zero => rfl
  | succ n ih => rw [xTo_succ, xTo_succ, ih (fun i hi => h i (by omega)), h n (by omega)]
theorem xTo_no {b : Nat → Bool} {n : Nat} (h : xTo b n = false) : ∀ i, i < n → b i = false := by
  intro i hi
  induction n with
  | zero => omega
  | succ n ih =>
    rw [xTo_succ, Bool.or_eq_false_iff] at h
    by_cases e : i = n
    · subst e; exact h.2
    · exact ih h.1 (by omega)
/-- a row divided, as the model does; was something too great -/
def sDivF (row : List Fr) (f : Fr) : Nat → Fr := fun i => sDivE (fr row i) f
def sDivB (row : List Fr) (f : Fr) : Nat → Bool := fun i => !divK (fr row i) f
def sTakeF (other : List Fr) (t : Fr) (what : List Fr) : Nat → Fr := fun i => sTakeE (fr other i) t (fr what i)
def sTakeB (other : List Fr) (t : Fr) (what : List Fr) : Nat → Bool := fun i => sTakeX (fr other i) t (fr what i)
theorem map_fr (g : Fr → Fr) (row : List Fr) : (List.range row.length).map (fun i => g (fr row i)) = row.map g := by
  apply List.ext_getElem (by simp)
  intro x h1 h2
  simp at h1 h2
  simp [fr, h1]
theorem all_fr (g : Fr → Bool) (row : List Fr) : (List.range row.length).all (fun i => g (fr row i)) = row.all g := by
  rw [Bool.eq_iff_iff, List.all_eq_true, List.all_eq_true]
  constructor
  · intro h x hx
    obtain ⟨k, hk, rfl⟩ := List.mem_iff_getElem.1 hx
    have := h k (List.mem_range.2 hk)
    simpa [fr, hk] using this
  · intro h i hi
    rw [List.mem_range] at hi
    have := h row[i] (List.getElem_mem hi)
    simpa [fr, hi] using this
theorem sDiv_flag (row : List Fr) (f : Fr) : xTo (sDivB row f) row.length = !divB row f := by
  rw [xTo_not]
  unfold sDivB divB
  simp only [Bool.not_not]
  rw [all_fr (fun p => divK p f)]
theorem sDiv_same {row : List Fr} {f : Fr} (h : divB row f = true) : upto (sDivF row f) row row.length = divR row f := by
  rw [upto_all]
  unfold sDivF divR
  rw [map_fr (fun p => sDivE p f)]
  apply List.map_congr_left
  intro p hp
  unfold divB at h
  rw [List.all_eq_true] at h
  exact div_same (h p hp)
theorem sTake_flag (other : List Fr) (t : Fr) (what : List Fr) : xTo (sTakeB other t what) other.length = !takeB other t what := by
  rw [xTo_not]
  unfold sTakeB takeB
  simp only [take_bad, Bool.not_not]
theorem sTake_same {other : List Fr} {t : Fr} {what : List Fr} (h : takeB other t what = true) : upto (sTakeF other t what) other other.length = takeR other t what := by
  rw [upto_all]
  unfold sTakeF takeR
  apply List.map_congr_left
  intro i hi
  unfold takeB at h
  rw [List.all_eq_true] at h
  exact take_same (h i hi)
/-- the table when the row was exchanged and divided -/
def tabD (rows : List (List Fr)) (at' r col : Nat) : List (List Fr) := (swapT rows r at').set at' (upto (sDivF (rw' rows r) (fr (rw' rows r) col)) (rw' rows r) (rw' rows r).length)
theorem tabD_len (rows : List (List Fr)) (at' r col : Nat) : (tabD rows at' r col).length = rows.length := by simp [tabD, swapT]
/-- what the model makes of row i, and was something too great there -/
def sRowF (T : List (List Fr)) (at' col : Nat) : Nat → List Fr := fun i => if i = at' then rw' T i else upto (sTakeF (rw' T i) (fr (rw' T i) col) (rw' T at')) (rw' T i) (rw' T i).length
def sRowB (T : List (List Fr)) (at' col : Nat) : Nat → Bool := fun i => !decide (i = at') && xTo (sTakeB (rw' T i) (fr (rw' T i) col) (rw' T at')) (rw' T i).length
/-- a column's step of the model: all its flags, and its rows -/
theorem sStep_flag (rows : List (List Fr)) (at' r col : Nat) (h : at' < rows.length) :
    (xTo (sDivB (rw' rows r) (fr (rw' rows r) col)) (rw' rows r).length || xTo (sRowB (tabD rows at' r col) at' col) rows.length) = !stepB rows at' r col ∧ (stepB rows at' r col = true → uptoT (sRowF (tabD rows at' r col) at' col) (tabD rows at' r col) rows.length = stepT rows at' r col) := by
  rw [sDiv_flag]
  by_cases hd : divB (rw' rows r) (fr (rw' rows r) col) = true
  · have hT : ∀ x, x < rows.length → rw' (tabD rows at' r col) x = if at' = x then divR (rw' rows r) (fr (rw' rows r) col) else rw' (swapT rows r at') x := by
      intro x hx
      unfold tabD
      rw [rw_set _ _ _ _ (by rw [swapT_len]; exact h), sDiv_same hd]
    have hB : xTo (sRowB (tabD rows at' r col) at' col) rows.length = !stepB rows at' r col := by
      rw [xTo_not]
      unfold stepB
      rw [hd, Bool.true_and]
      congr 1
      rw [Bool.eq_iff_iff, List.all_eq_true, List.all_eq_true]
      have key : ∀ i, i ∈ List.range rows.length → (!sRowB (tabD rows at' r col) at' col i) = (decide (i = at') || takeB (rw' (swapT rows r at') i) (fr (rw' (swapT rows r at') i) col) (divR (rw' rows r) (fr (rw' rows r) col))) := by
        intro i hi
        rw [List.mem_range] at hi
        unfold sRowB
        by_cases e : i = at'
        · simp [e]
        · rw [sTake_flag, hT i hi, hT at' h, if_neg (fun e' => e e'.symm), if_pos rfl]
          simp [e]
      constructor
      · intro hh i hi; rw [← key i hi]; exact hh i hi
      · intro hh i hi; rw [key i hi]; exact hh i hi
    refine ⟨by rw [hB, hd]; simp, fun hb => ?_⟩
    apply rows_ext (by rw [uptoT_len, tabD_len, stepT_len])
    intro x hx
    rw [uptoT_len, tabD_len] at hx
    rw [uptoT_at _ _ _ _ (by rw [tabD_len]; exact hx), if_pos hx, ← stepP_all, stepP_at _ _ _ _ _ _ hx, if_pos hx]
    unfold sRowF
    by_cases e : x = at'
    · subst e
      rw [if_pos rfl, if_pos rfl, hT x hx, if_pos rfl]
    · rw [if_neg e, if_neg e, hT x hx, hT at' h, if_neg (fun e' => e e'.symm), if_pos rfl]
      apply sTake_same
      unfold stepB at hb
      rw [hd, Bool.true_and, List.all_eq_true] at hb
      have := hb x (List.mem_range.2 hx)
      simpa [e] using this
  · rw [Bool.not_eq_true] at hd
    rw [hd, stepB_div hd]
    simp
/-- what both answer -/
def echK (rows : List (List Fr)) : Bool := (ech rows).isSome
def echR (rows : List (List Fr)) : List (List Fr) := match ech rows with | some p => p.1 | none => []
def echC (rows : List (List Fr)) : List Nat := match ech rows with | some p => p.2 | none => []
theorem ech_no {rows : List (List Fr)} (h : ech rows = none) : echK rows = false ∧ echR rows = [] ∧ echC rows = [] := by simp [echK, echR, echC, h]
theorem ech_yes {rows R : List (List Fr)} {ch : List Nat} (h : ech rows = some (R, ch)) : echK rows = true ∧ echR rows = R ∧ echC rows = ch := by simp [echK, echR, echC, h]
/-- the columns below col that were not chosen -/
def freeC (col : Nat) (ch : List Nat) : List Nat := (List.range col).filter fun c => !ch.contains c
theorem freeC_free {col : Nat} {ch : List Nat} (h : ∀ c, c ∈ ch → c < col) : freeC (col + 1) ch = freeC col ch ++ [col] := by
  unfold freeC
  rw [List.range_succ, List.filter_append]
  have : ch.contains col = false := by
    rw [← Bool.not_eq_true, List.contains_iff_mem]
    intro hc
    have := h col hc
    omega
  simp [List.filter_cons]
  intro hc
  have := h col hc
  omega
theorem freeC_yes {col : Nat} {ch : List Nat} : freeC (col + 1) (ch ++ [col]) = freeC col ch := by
  unfold freeC
  rw [List.range_succ, List.filter_append]
  have h1 : List.filter (fun c => !(ch ++ [col]).contains c) [col] = [] := by simp
  rw [h1, List.append_nil]
  apply List.filter_congr
  intro x hx
  rw [List.mem_range] at hx
  have : x ≠ col := by omega
  simp [this]
theorem freeC_lt {col : Nat} {ch : List Nat} : ∀ f, f ∈ freeC col ch → f < col := by
  intro f hf
  unfold freeC at hf
  rw [List.mem_filter, List.mem_range] at hf
  exact hf.1
/-- the state ahead of column col -/
structure EInv (rows0 : List (List Fr)) (L col : Nat) (rows : List (List Fr)) (ch fe : List Nat) : Prop where
  is : ech rows0 = echF (L - col) col rows ch
  len : rows.length = rows0.length
  row : ∀ x, x < rows.length → (rw' rows x).length = L
  cl : ch.length ≤ rows.length
  chs : ∀ c, c ∈ ch → c < col
  fes : fe = freeC col ch
theorem EInv.start {rows0 : List (List Fr)} {L : Nat} (hL : L = (rw' rows0 0).length) (h : ∀ x, x < rows0.length → (rw' rows0 x).length = L) : EInv rows0 L 0 rows0 [] [] :=
  ⟨by rw [hL]; rfl, rfl, h, Nat.zero_le _, fun c hc => absurd hc (by simp), rfl⟩
theorem EInv.fl {rows0 rows : List (List Fr)} {L col : Nat} {ch fe : List Nat} (h : EInv rows0 L col rows ch fe) : ∀ f, f ∈ fe → col ≠ f := by
  intro f hf
  rw [h.fes] at hf
  have := freeC_lt f hf
  omega
theorem EInv.cn {rows0 rows : List (List Fr)} {L col : Nat} {ch fe : List Nat} (h : EInv rows0 L col rows ch fe) : ∀ c, c ∈ ch → c ≠ col := by
  intro c hc
  have := h.chs c hc
  omega
theorem EInv.free {rows0 rows : List (List Fr)} {L col : Nat} {ch fe : List Nat} (h : EInv rows0 L col rows ch fe) (hc : col < L) (hz : ∀ x, ch.length ≤ x → x < rows.length → (fr (rw' rows x) col).1 = 0) : EInv rows0 L (col + 1) rows ch (fe ++ [col]) := by
  have hp : piv rows col ch.length = rows.length := by
    unfold piv
    rw [pivF_none rows col _ _ (fun x h1 h2 => hz x h1 (by omega))]
    have := h.cl
    omega
  refine ⟨?_, h.len, h.row, h.cl, fun c hx => by have := h.chs c hx; omega, by rw [freeC_free h.chs, ← h.fes]⟩
  rw [h.is, show L - col = (L - (col + 1)) + 1 by omega, echF_free hp]
theorem EInv.piv {rows0 rows : List (List Fr)} {L col i : Nat} {ch fe : List Nat} (_h : EInv rows0 L col rows ch fe) (h1 : ch.length ≤ i) (h2 : i < rows.length) (hz : ∀ x, ch.length ≤ x → x < i → (fr (rw' rows x) col).1 = 0) (hn : (fr (rw' rows i) col).1 ≠ 0) : i = piv rows col ch.length :=
  (pivF_is rows col _ _ i h1 (by omega) hz hn).symm
theorem EInv.yes {rows0 rows : List (List Fr)} {L col i : Nat} {ch fe : List Nat} (h : EInv rows0 L col rows ch fe) (hc : col < L) (h1 : ch.length ≤ i) (h2 : i < rows.length) (hz : ∀ x, ch.length ≤ x → x < i → (fr (rw' rows x) col).1 = 0) (hn : (fr (rw' rows i) col).1 ≠ 0) (hb : stepB rows ch.length i col = true) : EInv rows0 L (col + 1) (stepT rows ch.length i col) (ch ++ [col]) fe := by
  refine ⟨?_, by rw [stepT_len]; exact h.len, stepT_row h.row (by omega) h2, by rw [stepT_len]; simp; omega, fun c hx => ?_, by rw [freeC_yes, ← h.fes]⟩
  · rw [h.is, show L - col = (L - (col + 1)) + 1 by omega, echF_yes (h.piv h1 h2 hz hn) (by omega) hb]
  · rw [List.mem_append] at hx
    rcases hx with hx | hx
    · have := h.chs c hx; omega
    · simp at hx; omega
theorem EInv.no {rows0 rows : List (List Fr)} {L col i : Nat} {ch fe : List Nat} (h : EInv rows0 L col rows ch fe) (hc : col < L) (h1 : ch.length ≤ i) (h2 : i < rows.length) (hz : ∀ x, ch.length ≤ x → x < i → (fr (rw' rows x) col).1 = 0) (hn : (fr (rw' rows i) col).1 ≠ 0) (hb : stepB rows ch.length i col = false) : ech rows0 = none := by
  rw [h.is, show L - col = (L - (col + 1)) + 1 by omega, echF_no (h.piv h1 h2 hz hn) (by omega) hb]
theorem EInv.stop {rows0 rows : List (List Fr)} {L : Nat} {ch fe : List Nat} (h : EInv rows0 L L rows ch fe) : ech rows0 = some (rows, ch) := by
  rw [h.is, Nat.sub_self]; rfl
/-- what both answer, whatever came in -/
def echO (rows : List (List Fr)) : Bool := tabB rows 6 && echK rows
def echA (rows : List (List Fr)) : List (List Fr) := if echO rows then echR rows else []
def echCh (rows : List (List Fr)) : List Nat := if echO rows then echC rows else []
def echFe (rows : List (List Fr)) : List Nat := if echO rows then freeC (rw' rows 0).length (echC rows) else []
theorem echO_no {rows : List (List Fr)} (h : echO rows = false) : echA rows = [] ∧ echCh rows = [] ∧ echFe rows = [] := by simp [echA, echCh, echFe, h]
theorem echO_yes {rows : List (List Fr)} (h : echO rows = true) : echA rows = echR rows ∧ echCh rows = echC rows ∧ echFe rows = freeC (rw' rows 0).length (echC rows) := by simp [echA, echCh, echFe, h]
end Go.Proofs.Ytgboaeokbglgdaa

/- The walk of the program's echelonOf. -/
namespace Go.Proofs.Ytgboaeokbglgdaa
open Go.RowKit Go.Proofs.Ytgboaeokbglgdaa.RM

theorem own_nil {W : World} {base : Nat} {e : TypeId} {size : Nat} : W.ownsRow base e size (.slice none 0 0) 0 [] := ⟨by simp, .inl ⟨rfl, rfl⟩⟩
end Go.Proofs.Ytgboaeokbglgdaa

/- The model's echelon: its table, the reckoning that remembers, the chosen columns, told by one predicate. -/
namespace Go.Proofs.Ytgboaeokbglgdaa
open Go.RowKit Go.Proofs.Ytgboaeokbglgdaa.RM

theorem IsK.blk {W : World} {K : Nat} {b : Bool} (h : IsK W K b) : W.heap[K]? = some (.cells #[.bool b] 50 (0, 0)) := h
theorem own_gk {W W' : World} {base K n : Nat} {bd : Bool} {v : Value} {xs : List Value} (h : W.ownsRow base 3 1 v n xs) (hK : IsK W K bd) (hg : W.grownBy W' (some K)) : W'.ownsRow base 3 1 v n xs := h.kept hg (by
    cases hv : v.ownBlock with
    | none => exact .inl rfl
    | some b => exact .inr (by intro e; exact own_ne h hK.blk (by decide) b hv (by cases e; rfl)))
theorem takeS (rows : List (List Fr)) (k : Nat) (hk : k < rows.length) : rows.take k ++ [rw' rows k] = rows.take (k + 1) := by
  rw [List.take_add_one, List.getElem?_eq_getElem hk]
  simp [rw', hk]
theorem kSub (K : Nat) (bd : Bool) (x1 x2 y1 y2 : Int) (w : World) (hK : IsK w K bd) :
    Calls Try.prog 30 #[.pointer (some ⟨K, 0, none⟩), .agg #[.int .i64 x1, .int .i64 x2], .agg #[.int .i64 y1, .int .i64 y2]] w fun e w' =>
      e = .returned (.agg #[.int .i64 (keepF (subK (x1, x2) (y1, y2)) (subP (x1, x2) (y1, y2))).1, .int .i64 (keepF (subK (x1, x2) (y1, y2)) (subP (x1, x2) (y1, y2))).2]) ∧ IsK w' K (bd || !subK (x1, x2) (y1, y2)) ∧ w.grownBy w' (some K) := cSub_any K bd x1 x2 y1 y2 w hK
theorem own_gkR {W W' : World} {base K n b c L : Nat} {xs : List Value} (h : W.ownsRow base 30 2 (.slice (some ⟨b, 0, none⟩) n c) L xs) (hg : W.grownBy W' (some K)) (hne : b ≠ K) : W'.ownsRow base 30 2 (.slice (some ⟨b, 0, none⟩) n c) L xs := h.kept hg (.inr (by intro e; exact hne (by simpa [Value.ownBlock] using e)))
theorem set_same (rows : List (List Fr)) (k : Nat) (ps : List Fr) (h : k < rows.length) (e : rw' rows k = ps) : rows.set k ps = rows := by
  apply rows_ext (by simp)
  intro x hx
  rw [rw_set _ _ _ _ h]
  by_cases e2 : k = x
  · subst e2; rw [if_pos rfl, e]
  · rw [if_neg e2]
end Go.Proofs.Ytgboaeokbglgdaa

/- The walk of the model's l3Echelon. -/
namespace Go.Proofs.Ytgboaeokbglgdaa
open Go.RowKit Go.Proofs.Ytgboaeokbglgdaa.RM

end Go.Proofs.Ytgboaeokbglgdaa

/- The walks of Echelon and Rank, the program's and the model's. -/
namespace Go.Proofs.Ytgboaeokbglgdaa
open Go.RowKit Go.Proofs.Ytgboaeokbglgdaa.RM

/-- how many columns are chosen -/
def rkI (rows : List (List Fr)) : Int := if echO rows then ((echC rows).length : Int) else -1

end Go.Proofs.Ytgboaeokbglgdaa

/- How great what Echelon answers can be. -/
namespace Go.Proofs.Ytgboaeokbglgdaa
open Go.Proofs.Ytgboaeokbglgdaa.RM

/-- the steps keep the table's form -/
theorem echF_dims {L : Nat} : ∀ (n col : Nat) (rows : List (List Fr)) (ch : List Nat) (R : List (List Fr)) (C : List Nat), (∀ x, x < rows.length → (rw' rows x).length = L) → ch.length ≤ rows.length → (∀ c, c ∈ ch → c < col) → echF n col rows ch = some (R, C) →
    R.length = rows.length ∧ (∀ x, x < R.length → (rw' R x).length = L) ∧ C.length ≤ rows.length ∧ ∀ c, c ∈ C → c < col + n
  | 0, col, rows, ch, R, C, hd, hl, hc, h => by
    simp only [echF, Option.some.injEq, Prod.mk.injEq] at h
    obtain ⟨rfl, rfl⟩ := h
    exact ⟨rfl, hd, hl, fun c hx => by have := hc c hx; omega⟩
  | n + 1, col, rows, ch, R, C, hd, hl, hc, h => by
    by_cases hp : piv rows col ch.length = rows.length
    · rw [echF_free hp] at h
      obtain ⟨h1, h2, h3, h4⟩ := echF_dims n (col + 1) rows ch R C hd hl (fun c hx => by have := hc c hx; omega) h
      exact ⟨h1, h2, h3, fun c hx => by have := h4 c hx; omega⟩
    · obtain ⟨p1, p2⟩ := piv_le (rows := rows) (col := col) hl
      cases hb : stepB rows ch.length (piv rows col ch.length) col with
      | false => rw [echF_no rfl hp hb] at h; cases h
      | true =>
        rw [echF_yes rfl hp hb] at h
        have := echF_dims n (col + 1) (stepT rows ch.length (piv rows col ch.length) col) (ch ++ [col]) R C (stepT_row hd (by omega) (by omega)) (by rw [stepT_len]; simp; omega) (fun c hx => by
          rw [List.mem_append] at hx
          rcases hx with hx | hx
          · have := hc c hx; omega
          · simp at hx; omega) h
        rw [stepT_len] at this
        obtain ⟨h1, h2, h3, h4⟩ := this
        exact ⟨h1, h2, h3, fun c hx => by have := h4 c hx; omega⟩
theorem ech_dims {rows : List (List Fr)} (ht : tabB rows 6 = true) (hk : echK rows = true) : (echR rows).length = rows.length ∧ (∀ x, x < (echR rows).length → (rw' (echR rows) x).length = (rw' rows 0).length) ∧ (echC rows).length ≤ rows.length ∧ ∀ c, c ∈ echC rows → c < (rw' rows 0).length := by
  obtain ⟨⟨t1, t2, t3, t4⟩, tr⟩ := tabB_out ht
  unfold echK at hk
  cases he : ech rows with
  | none => rw [he] at hk; cases hk
  | some p =>
    obtain ⟨R, C⟩ := p
    obtain ⟨-, e1, e2⟩ := ech_yes he
    rw [e1, e2]
    have := echF_dims (L := (rw' rows 0).length) _ 0 rows [] R C (fun x hx => (tr x hx).1) (Nat.zero_le _) (fun c hx => absurd hx (by simp)) he
    simpa using this
theorem echA_small (rows : List (List Fr)) : (echA rows).length ≤ 1048576 ∧ ∀ i, i < (echA rows).length → (rw' (echA rows) i).length ≤ 1048576 := by
  cases ho : echO rows with
  | false => rw [(echO_no ho).1]; exact ⟨by simp, fun i hi => absurd hi (Nat.not_lt_zero _)⟩
  | true =>
    have h := ho
    unfold echO at h
    rw [Bool.and_eq_true] at h
    obtain ⟨h1, h2, _⟩ := ech_dims h.1 h.2
    obtain ⟨⟨t1, t2, t3, t4⟩, tr⟩ := tabB_out h.1
    rw [(echO_yes ho).1]
    exact ⟨by omega, fun i hi => by rw [h2 i hi]; omega⟩
end Go.Proofs.Ytgboaeokbglgdaa

/- The kernel's rows, in plain lists. -/
namespace Go.Proofs.Ytgboaeokbglgdaa
open Go.RowKit Go.Proofs.Ytgboaeokbglgdaa.RM

def mirF (p : Fr) : Fr := (wrap64 (-p.1), p.2)
/-- number k of a list of columns -/
def nt (C : List Nat) (k : Nat) : Nat := C[k]?.getD 0
/-- the chosen columns' elements laid, the first k -/
def setsK (R : List (List Fr)) (C : List Nat) (col : Nat) : Nat → List Fr → List Fr
  | 0, b => b
  | k + 1, b => (setsK R C col k b).set (nt C k) (mirF (fr (rw' R k) col))
/-- the free columns' noughts laid, the first k -/
def setsF (F : List Nat) : Nat → List Fr → List Fr
  | 0, b => b
  | k + 1, b => (setsF F k b).set (nt F k) (0, 1)
theorem setsK_len (R : List (List Fr)) (C : List Nat) (col k : Nat) (b : List Fr) : (setsK R C col k b).length = b.length := by
  induction k with
  | zero => rfl
  | succ k ih => simp [setsK, ih]
theorem setsF_len (F : List Nat) (k : Nat) (b : List Fr) : (setsF F k b).length = b.length := by
  induction k with
  | zero => rfl
  | succ k ih => simp [setsF, ih]
theorem nt_mem {C : List Nat} {k : Nat} (h : k < C.length) : nt C k ∈ C := by
  unfold nt
  rw [List.getElem?_eq_getElem h]
  exact List.getElem_mem h
/-- the row of one free column -/
def kerRow (R : List (List Fr)) (C : List Nat) (L col : Nat) : List Fr := setsK R C col C.length ((List.replicate L ((0, 1) : Fr)).set col (1, 1))
theorem kerRow_len (R : List (List Fr)) (C : List Nat) (L col : Nat) : (kerRow R C L col).length = L := by simp [kerRow, setsK_len]
theorem setsK_same (R : List (List Fr)) (C : List Nat) (col : Nat) (b b' : List Fr) (hl : b.length = b'.length) (x : Nat) : ∀ k, k ≤ C.length → (∀ i, i < k → nt C i < b.length) → ((∀ i, i < k → nt C i ≠ x) → fr b x = fr b' x) → fr (setsK R C col k b) x = fr (setsK R C col k b') x
  | 0, _, _, h => h (fun i hi => absurd hi (Nat.not_lt_zero _))
  | k + 1, hk, hc, h => by
    simp only [setsK]
    rw [fr_set _ _ _ _ (by rw [setsK_len]; exact hc k (by omega)), fr_set _ _ _ _ (by rw [setsK_len, ← hl]; exact hc k (by omega))]
    by_cases e : nt C k = x
    · rw [if_pos e, if_pos e]
    · rw [if_neg e, if_neg e]
      refine setsK_same R C col b b' hl x k (by omega) (fun i hi => hc i (by omega)) (fun hn => h (fun i hi => ?_))
      by_cases e2 : i = k
      · subst e2; exact e
      · exact hn i (by omega)
theorem setsF_at (F : List Nat) (b : List Fr) (x : Nat) : ∀ k, k ≤ F.length → (∀ i, i < k → nt F i < b.length) → fr (setsF F k b) x = if (∃ i, i < k ∧ nt F i = x) then (0, 1) else fr b x
  | 0, _, _ => by
    rw [if_neg (by rintro ⟨i, hi, _⟩; omega)]; rfl
  | k + 1, hk, hc => by
    simp only [setsF]
    rw [fr_set _ _ _ _ (by rw [setsF_len]; exact hc k (by omega)), setsF_at F b x k (by omega) (fun i hi => hc i (by omega))]
    by_cases e : nt F k = x
    · rw [if_pos e, if_pos ⟨k, by omega, e⟩]
    · rw [if_neg e]
      by_cases h : ∃ i, i < k ∧ nt F i = x
      · obtain ⟨i, hi, he⟩ := h
        rw [if_pos ⟨i, hi, he⟩, if_pos ⟨i, by omega, he⟩]
      · rw [if_neg h, if_neg]
        rintro ⟨i, hi, he⟩
        by_cases e2 : i = k
        · subst e2; exact e he
        · exact h ⟨i, by omega, he⟩
theorem mem_nt {C : List Nat} {x : Nat} (h : x ∈ C) : ∃ i, i < C.length ∧ nt C i = x := by
  obtain ⟨i, hi, rfl⟩ := List.mem_iff_getElem.1 h
  exact ⟨i, hi, by simp [nt, hi]⟩
theorem freeC_mem {L : Nat} {C : List Nat} {x : Nat} : x ∈ freeC L C ↔ x < L ∧ x ∉ C := by
  unfold freeC
  rw [List.mem_filter, List.mem_range]
  simp
/-- the program's way to the same row -/
theorem kerRow_impl (R : List (List Fr)) (C : List Nat) (L col : Nat) (hC : ∀ c, c ∈ C → c < L) (hcol : col < L) :
    setsK R C col C.length ((setsF (freeC L C) (freeC L C).length (List.replicate L (0, 0))).set col (1, 1)) = kerRow R C L col := by
  unfold kerRow
  apply fr_ext
  · rw [setsK_len, setsK_len, List.length_set, List.length_set, setsF_len]; simp
  · intro x hx
    rw [setsK_len, List.length_set, setsF_len, List.length_replicate] at hx
    refine setsK_same R C col _ _ (by rw [List.length_set, List.length_set, setsF_len]; simp) x C.length (Nat.le_refl _) (fun i hi => by rw [List.length_set, setsF_len, List.length_replicate]; exact hC _ (nt_mem hi)) (fun hn => ?_)
    rw [fr_set _ _ _ _ (by rw [setsF_len]; simpa using hcol), fr_set _ _ _ _ (by simpa using hcol)]
    by_cases e : col = x
    · rw [if_pos e, if_pos e]
    · rw [if_neg e, if_neg e, setsF_at _ _ _ _ (Nat.le_refl _) (fun i hi => by rw [List.length_replicate]; exact (freeC_mem.1 (nt_mem hi)).1)]
      have hxC : x ∉ C := fun h => by
        obtain ⟨i, hi, he⟩ := mem_nt h
        exact hn i hi he
      rw [if_pos (mem_nt (freeC_mem.2 ⟨hx, hxC⟩))]
      simp [fr, hx]
/-- what Kernel answers -/
def kerA (rows : List (List Fr)) : List (List Fr) := if echO rows then (freeC (rw' rows 0).length (echC rows)).map (kerRow (echR rows) (echC rows) (rw' rows 0).length) else []
theorem kerA_no {rows : List (List Fr)} (h : echO rows = false) : kerA rows = [] := by simp [kerA, h]
theorem kerA_yes {rows : List (List Fr)} (h : echO rows = true) : kerA rows = (freeC (rw' rows 0).length (echC rows)).map (kerRow (echR rows) (echC rows) (rw' rows 0).length) := by simp [kerA, h]
theorem freeC_len (L : Nat) (C : List Nat) : (freeC L C).length ≤ L := by
  unfold freeC
  have := List.length_filter_le (fun c => !C.contains c) (List.range L)
  simpa using this
theorem kerA_small (rows : List (List Fr)) : (kerA rows).length ≤ 1048576 ∧ ∀ i, i < (kerA rows).length → (rw' (kerA rows) i).length ≤ 1048576 := by
  cases ho : echO rows with
  | false => rw [kerA_no ho]; exact ⟨by simp, fun i hi => absurd hi (Nat.not_lt_zero _)⟩
  | true =>
    have h := ho
    unfold echO at h
    rw [Bool.and_eq_true] at h
    obtain ⟨⟨t1, t2, t3, t4⟩, tr⟩ := tabB_out h.1
    have hl := freeC_len (rw' rows 0).length (echC rows)
    rw [kerA_yes ho]
    refine ⟨by rw [List.length_map]; omega, fun i hi => ?_⟩
    rw [List.length_map] at hi
    have : rw' ((freeC (rw' rows 0).length (echC rows)).map (kerRow (echR rows) (echC rows) (rw' rows 0).length)) i = kerRow (echR rows) (echC rows) (rw' rows 0).length (nt (freeC (rw' rows 0).length (echC rows)) i) := by
      show (List.map _ _)[i]?.getD [] = _
      unfold nt
      rw [List.getElem?_map, List.getElem?_eq_getElem hi]
      rfl
    rw [this, kerRow_len]
    omega
/-- the chosen columns rise -/
def rises (C : List Nat) : Prop := ∀ i j, i < j → j < C.length → nt C i < nt C j
theorem echF_rises {L : Nat} : ∀ (n col : Nat) (rows : List (List Fr)) (ch : List Nat) (R : List (List Fr)) (C : List Nat), rises ch → (∀ c, c ∈ ch → c < col) → echF n col rows ch = some (R, C) → rises C
  | 0, col, rows, ch, R, C, hr, hc, h => by
    simp only [echF, Option.some.injEq, Prod.mk.injEq] at h
    obtain ⟨rfl, rfl⟩ := h
    exact hr
  | n + 1, col, rows, ch, R, C, hr, hc, h => by
    by_cases hp : piv rows col ch.length = rows.length
    · rw [echF_free hp] at h
      exact echF_rises (L := L) n (col + 1) rows ch R C hr (fun c hx => by have := hc c hx; omega) h
    · cases hb : stepB rows ch.length (piv rows col ch.length) col with
      | false => rw [echF_no rfl hp hb] at h; cases h
      | true =>
        rw [echF_yes rfl hp hb] at h
        refine echF_rises (L := L) n (col + 1) _ (ch ++ [col]) R C (fun i j hij hj => ?_) (fun c hx => ?_) h
        · rw [List.length_append, List.length_singleton] at hj
          have hi : nt (ch ++ [col]) i = nt ch i := by unfold nt; rw [List.getElem?_append_left (by omega)]
          rw [hi]
          by_cases e : j < ch.length
          · have : nt (ch ++ [col]) j = nt ch j := by unfold nt; rw [List.getElem?_append_left e]
            rw [this]
            exact hr i j hij e
          · obtain rfl : j = ch.length := by omega
            have : nt (ch ++ [col]) ch.length = col := by simp [nt]
            rw [this]
            exact hc _ (nt_mem (by omega))
        · rw [List.mem_append] at hx
          rcases hx with hx | hx
          · have := hc c hx; omega
          · simp at hx; omega
theorem ech_rises {rows : List (List Fr)} (hk : echK rows = true) : rises (echC rows) := by
  unfold echK at hk
  cases he : ech rows with
  | none => rw [he] at hk; cases hk
  | some p =>
    obtain ⟨R, C⟩ := p
    obtain ⟨-, e1, e2⟩ := ech_yes he
    rw [e2]
    exact echF_rises (L := 0) _ 0 rows [] R C (fun _ _ _ hj => absurd hj (Nat.not_lt_zero _)) (fun c hx => absurd hx (by simp)) he
/-- so many of the chosen ones lie ahead of col -/
def atP (C : List Nat) (at' col : Nat) : Prop := at' ≤ C.length ∧ (∀ i, i < at' → nt C i < col) ∧ ∀ i, at' ≤ i → i < C.length → col ≤ nt C i
theorem atP_zero (C : List Nat) : atP C 0 0 := ⟨Nat.zero_le _, fun _ hi => absurd hi (Nat.not_lt_zero _), fun _ _ _ => Nat.zero_le _⟩
theorem atP_yes {C : List Nat} {at' col : Nat} (hr : rises C) (h : atP C at' col) (h1 : at' < C.length) (h2 : nt C at' = col) : atP C (at' + 1) (col + 1) ∧ col ∈ C := by
  refine ⟨⟨by omega, fun i hi => ?_, fun i hi hl => ?_⟩, h2 ▸ nt_mem h1⟩
  · by_cases e : i = at'
    · subst e; omega
    · have := h.2.1 i (by omega); omega
  · have := hr at' i (by omega) hl; omega
theorem atP_no {C : List Nat} {at' col : Nat} (hr : rises C) (h : atP C at' col) (h1 : at' < C.length → nt C at' ≠ col) : atP C at' (col + 1) ∧ col ∉ C := by
  have hgt : ∀ i, at' ≤ i → i < C.length → col < nt C i := by
    intro i hi hl
    have h3 := h.2.2 at' (Nat.le_refl _) (by omega)
    have h4 := h1 (by omega)
    by_cases e : i = at'
    · subst e; omega
    · have := hr at' i (by omega) hl; omega
  refine ⟨⟨h.1, fun i hi => by have := h.2.1 i hi; omega, fun i hi hl => by have := hgt i hi hl; omega⟩, fun hm => ?_⟩
  obtain ⟨i, hi, he⟩ := mem_nt hm
  by_cases e : i < at'
  · have := h.2.1 i e; omega
  · have := hgt i (by omega) hi; omega
theorem freeC_in {col : Nat} {C : List Nat} (h : col ∈ C) : freeC (col + 1) C = freeC col C := by
  unfold freeC
  rw [List.range_succ, List.filter_append]
  simp [h]
theorem freeC_out {col : Nat} {C : List Nat} (h : col ∉ C) : freeC (col + 1) C = freeC col C ++ [col] := by
  unfold freeC
  rw [List.range_succ, List.filter_append]
  simp [h]
end Go.Proofs.Ytgboaeokbglgdaa

/- What Solved answers, in plain lists. -/
namespace Go.Proofs.Ytgboaeokbglgdaa
open Go.RowKit Go.Proofs.Ytgboaeokbglgdaa.RM

/-- the rows with right's elements behind them -/
def wideT (rows : List (List Fr)) (right : List Fr) : List (List Fr) := (List.range rows.length).map fun i => rw' rows i ++ [fr right i]
theorem wideT_len (rows : List (List Fr)) (right : List Fr) : (wideT rows right).length = rows.length := by simp [wideT]
theorem wideT_at (rows : List (List Fr)) (right : List Fr) (i : Nat) (h : i < rows.length) : rw' (wideT rows right) i = rw' rows i ++ [fr right i] := by simp [wideT, rw', h]
/-- is it as told, right's fractions aside -/
def solC (rows : List (List Fr)) (right : List Fr) : Bool := decide (rows.length ≤ 5) && (tabB rows 6 && (decide ((rw' rows 0).length = rows.length) && decide (right.length = rows.length)))
theorem solC_out {rows : List (List Fr)} {right : List Fr} (h : solC rows right = true) : rows.length ≤ 5 ∧ tabB rows 6 = true ∧ (rw' rows 0).length = rows.length ∧ right.length = rows.length := by
  unfold solC at h
  simpa [Bool.and_eq_true, and_assoc] using h
theorem solC_no {rows : List (List Fr)} {right : List Fr} (h : ¬ (rows.length ≤ 5 ∧ tabB rows 6 = true ∧ (rw' rows 0).length = rows.length ∧ right.length = rows.length)) : solC rows right = false := by
  rw [← Bool.not_eq_true]
  exact fun h2 => h (solC_out h2)
/-- just one free column: right's -/
def solF (n : Nat) (C : List Nat) : Bool := decide (freeC (n + 1) C = [n])
def solO (rows : List (List Fr)) (right : List Fr) : Bool := solC rows right && (echO (wideT rows right) && solF rows.length (echC (wideT rows right)))
def solX (rows : List (List Fr)) (right : List Fr) : List Fr := (List.range rows.length).map fun i => fr (rw' (echR (wideT rows right)) i) rows.length
def solA (rows : List (List Fr)) (right : List Fr) : List Fr := if solO rows right then solX rows right else []
theorem solA_no {rows : List (List Fr)} {right : List Fr} (h : solO rows right = false) : solA rows right = [] := by simp [solA, h]
theorem solA_yes {rows : List (List Fr)} {right : List Fr} (h : solO rows right = true) : solA rows right = solX rows right := by simp [solA, h]
theorem solX_len (rows : List (List Fr)) (right : List Fr) : (solX rows right).length = rows.length := by simp [solX]
theorem solX_at (rows : List (List Fr)) (right : List Fr) (i : Nat) (h : i < rows.length) : fr (solX rows right) i = fr (rw' (echR (wideT rows right)) i) rows.length := by simp [solX, fr, h]
/-- the wide table is one where right's fractions are right -/
theorem wide_tab {rows : List (List Fr)} {right : List Fr} (h : solC rows right = true) : tabB (wideT rows right) 6 = allOk right := by
  obtain ⟨h1, h2, h3, h4⟩ := solC_out h
  obtain ⟨⟨t1, t2, t3, t4⟩, tr⟩ := tabB_out h2
  have h0 : (rw' (wideT rows right) 0).length = rows.length + 1 := by rw [wideT_at _ _ _ (by omega)]; simp [h3]
  cases hr : allOk right with
  | true =>
    refine tabB_yes (by rw [wideT_len, h0]; omega) (fun k hk => ?_)
    rw [wideT_len] at hk
    rw [h0, wideT_at _ _ _ hk]
    refine ⟨by rw [List.length_append, (tr k hk).1, h3]; rfl, ?_⟩
    unfold allOk
    rw [List.all_append]
    have e1 := (tr k hk).2
    unfold allOk at e1
    rw [e1]
    have e2 := allOk_at hr (k := k) (by omega)
    simpa using e2
  | false =>
    have hbad : ∃ k, k < right.length ∧ okB (fr right k).1 (fr right k).2 = false := by
      apply Classical.byContradiction
      intro hn
      have : allOk right = true := allOk_yes (fun k hk => by
        cases e : okB (fr right k).1 (fr right k).2 with
        | true => rfl
        | false => exact absurd ⟨k, hk, e⟩ hn)
      rw [hr] at this; cases this
    obtain ⟨k, hk, hb⟩ := hbad
    refine tabB_row (k := k) (by rw [wideT_len]; omega) (fun hh => ?_)
    have e1 := hh.2
    rw [wideT_at _ _ _ (by omega)] at e1
    unfold allOk at e1
    rw [List.all_append, Bool.and_eq_true] at e1
    have e2 := e1.2
    simp [hb] at e2
theorem atP_run {n : Nat} {C : List Nat} (hr : rises C) (h : ∀ x, x < n → x ∈ C) : ∀ k, k ≤ n → atP C k k ∧ ∀ i, i < k → nt C i = i
  | 0, _ => ⟨atP_zero C, fun i hi => absurd hi (Nat.not_lt_zero _)⟩
  | k + 1, hk => by
    obtain ⟨h1, h2⟩ := atP_run hr h k (by omega)
    have hm := h k (by omega)
    have hc : k < C.length ∧ nt C k = k := by
      apply Classical.byContradiction
      intro hn
      exact (atP_no hr h1 (fun hl e => hn ⟨hl, e⟩)).2 hm
    refine ⟨(atP_yes hr h1 hc.1 hc.2).1, fun i hi => ?_⟩
    by_cases e : i = k
    · subst e; exact hc.2
    · exact h2 i (by omega)
/-- the model's way to say the same -/
theorem solF_model {n : Nat} {C : List Nat} (hn : 1 ≤ n) (hr : rises C) (hl : ∀ c, c ∈ C → c < n + 1) : solF n C = (decide (C.length = n) && decide (nt C (n - 1) = n - 1)) := by
  unfold solF
  rw [Bool.eq_iff_iff, decide_eq_true_eq, Bool.and_eq_true, decide_eq_true_eq, decide_eq_true_eq]
  constructor
  · intro h
    have hin : ∀ x, x < n → x ∈ C := by
      intro x hx
      apply Classical.byContradiction
      intro hn2
      have : x ∈ freeC (n + 1) C := freeC_mem.2 ⟨by omega, hn2⟩
      rw [h] at this
      simp at this
      omega
    have hout : n ∉ C := by
      have : n ∈ freeC (n + 1) C := by rw [h]; simp
      exact (freeC_mem.1 this).2
    obtain ⟨h1, h2⟩ := atP_run hr hin n (Nat.le_refl _)
    have hlen : C.length = n := by
      apply Classical.byContradiction
      intro hne
      have hgt : n < C.length := by have := h1.1; omega
      have h3 := h1.2.2 n (Nat.le_refl _) hgt
      have h4 := hl _ (nt_mem hgt)
      exact hout (by have := nt_mem hgt; rw [show nt C n = n by omega] at this; exact this)
    exact ⟨hlen, h2 (n - 1) (by omega)⟩
  · rintro ⟨h1, h2⟩
    have hle : ∀ k, k < n → nt C (n - 1 - k) ≤ n - 1 - k := by
      intro k
      induction k with
      | zero => intro _; simp [h2]
      | succ k ih =>
        intro hk
        have := ih (by omega)
        have := hr (n - 1 - (k + 1)) (n - 1 - k) (by omega) (by omega)
        omega
    have hge : ∀ k, k < n → k ≤ nt C k := by
      intro k
      induction k with
      | zero => intro _; omega
      | succ k ih =>
        intro hk
        have := ih (by omega)
        have := hr k (k + 1) (by omega) (by omega)
        omega
    have heq : ∀ k, k < n → nt C k = k := by
      intro k hk
      have a := hge k hk
      have b := hle (n - 1 - k) (by omega)
      rw [show n - 1 - (n - 1 - k) = k by omega] at b
      omega
    have hin : ∀ x, x < n → x ∈ C := fun x hx => by have := nt_mem (C := C) (k := x) (by omega); rw [heq x hx] at this; exact this
    have hout : n ∉ C := by
      intro hm
      obtain ⟨i, hi, he⟩ := mem_nt hm
      have := heq i (by omega)
      omega
    have hz : ∀ k, k ≤ n → freeC k C = [] := by
      intro k
      induction k with
      | zero => intro _; rfl
      | succ k ih => intro hk; rw [freeC_in (hin k (by omega))]; exact ih (by omega)
    rw [freeC_out hout, hz n (Nat.le_refl _)]
    rfl
theorem solA_small (rows : List (List Fr)) (right : List Fr) : (solA rows right).length ≤ 1048576 := by
  cases ho : solO rows right with
  | false => rw [solA_no ho]; simp
  | true =>
    have h := ho
    unfold solO at h
    rw [Bool.and_eq_true] at h
    obtain ⟨h1, _⟩ := solC_out h.1
    rw [solA_yes ho, solX_len]
    omega
end Go.Proofs.Ytgboaeokbglgdaa

/- The order of fractions: sums keep it, and of two unlike ones one is less. -/
namespace Go.Proofs.Ytgboaeokbglgdaa.RM
theorem lt_iff_mul {x y k : Int} (hk : 0 < k) : k * x < k * y ↔ x < y :=
  ⟨fun h => Int.lt_of_mul_lt_mul_left h (Int.le_of_lt hk), fun h => Int.mul_lt_mul_of_pos_left h hk⟩
theorem red_parts {x y : Int} (h : redOk x y = true) (hy : 0 < y) : 0 < gcdi x y ∧ gcdi x y * redN x y = x ∧ gcdi x y * redD x y = y := by
  have hs := sg_pos (n := x) (d := y) (by omega)
  have e1 : redN x y = x / sg x y := by unfold redN; rw [if_pos h]
  have e2 : redD x y = y / sg x y := by unfold redD; rw [if_pos h]
  rw [e1, e2, hs]
  exact ⟨gcdi_pos_r x y (by omega), Int.mul_ediv_cancel' (gcdi_dvd_l x y), Int.mul_ediv_cancel' (gcdi_dvd_r x y)⟩
theorem add_less {a b c d p q : Int} (hb : 0 < b) (hd : 0 < d) (hq : 0 < q) (hab : two a b c d = true) (h1 : redOk (a * q + p * b) (b * q) = true) (h2 : redOk (c * q + p * d) (d * q) = true) :
    lessB (redN (a * q + p * b) (b * q)) (redD (a * q + p * b) (b * q)) (redN (c * q + p * d) (d * q)) (redD (c * q + p * d) (d * q)) = lessB a b c d := by
  have t := two_yes (okB_redN h1) (okB_redN h2)
  obtain ⟨g1, n1, d1⟩ := red_parts h1 (Int.mul_pos hb hq)
  obtain ⟨g2, n2, d2⟩ := red_parts h2 (Int.mul_pos hd hq)
  unfold lessB
  rw [t, hab]
  generalize gcdi (a * q + p * b) (b * q) = k1 at *
  generalize gcdi (c * q + p * d) (d * q) = k2 at *
  generalize redN (a * q + p * b) (b * q) = N1 at *
  generalize redD (a * q + p * b) (b * q) = D1 at *
  generalize redN (c * q + p * d) (d * q) = N2 at *
  generalize redD (c * q + p * d) (d * q) = D2 at *
  have e : (N1 * D2 < N2 * D1) ↔ (a * d < c * b) := by
    rw [← lt_iff_mul (Int.mul_pos g1 g2), ← lt_iff_mul (Int.mul_pos hq hq) (x := a * d)]
    have e1 : k1 * k2 * (N1 * D2) = (a * q + p * b) * (d * q) := by rw [← n1, ← d2]; ac_rfl
    have e2 : k1 * k2 * (N2 * D1) = (c * q + p * d) * (b * q) := by rw [← n2, ← d1]; ac_rfl
    have e3 : (a * q + p * b) * (d * q) = q * q * (a * d) + p * b * d * q := by rw [Int.add_mul]; congr 1 <;> ac_rfl
    have e4 : (c * q + p * d) * (b * q) = q * q * (c * b) + p * b * d * q := by rw [Int.add_mul]; congr 1 <;> ac_rfl
    rw [e1, e2, e3, e4]
    omega
  simp only [e]
theorem less_same (a b : Int) : lessB a b a b = false := by unfold lessB; rw [decide_eq_false (by omega)]; simp
theorem dvd_cop {k m n : Int} (h : Int.gcd k m = 1) (hd : k ∣ m * n) : k ∣ n := by
  rw [← Int.natAbs_dvd_natAbs] at hd ⊢
  rw [Int.natAbs_mul] at hd
  exact Nat.Coprime.dvd_of_dvd_mul_left (by unfold Nat.Coprime; rw [Int.gcd_eq_natAbs_gcd_natAbs] at h; exact h) hd
theorem okB_eq {a b c d : Int} (h1 : okB a b = true) (h2 : okB c d = true) (h : a * d = c * b) : a = c ∧ b = d := by
  have p1 := okB_out h1
  have p2 := okB_out h2
  have g1 : Int.gcd a b = 1 := by have := p1.2.2.2.2; unfold gcdi at this; omega
  have g2 : Int.gcd c d = 1 := by have := p2.2.2.2.2; unfold gcdi at this; omega
  have d1 : b ∣ d := by
    have : b ∣ a * d := ⟨c, by rw [h]; ac_rfl⟩
    exact dvd_cop (by rw [Int.gcd_comm]; exact g1) this
  have d2 : d ∣ b := by
    have : d ∣ c * b := ⟨a, by rw [← h]; ac_rfl⟩
    exact dvd_cop (by rw [Int.gcd_comm]; exact g2) this
  have e : b = d := Int.dvd_antisymm (by omega) (by omega) d1 d2
  subst e
  exact ⟨Int.eq_of_mul_eq_mul_right (by omega) h, rfl⟩
theorem less_flip {a b c d : Int} (h1 : okB a b = true) (h2 : okB c d = true) (hne : ¬ (a = c ∧ b = d)) : lessB c d a b = !lessB a b c d := by
  have k : a * d ≠ c * b := fun h => hne (okB_eq h1 h2 h)
  unfold lessB
  rw [two_yes h1 h2, two_yes h2 h1]
  by_cases h : a * d < c * b
  · rw [decide_eq_true h, decide_eq_false (by omega)]; rfl
  · rw [decide_eq_false h, decide_eq_true (by omega)]; rfl
end Go.Proofs.Ytgboaeokbglgdaa.RM

/- Fractions are a field, as far as they go: what is taken or divided comes back. -/
namespace Go.Proofs.Ytgboaeokbglgdaa.RM
theorem mul_in (x y A B : Int) (h1 : -A ≤ x) (h2 : x ≤ A) (h3 : -B ≤ y) (h4 : y ≤ B) : -(A * B) ≤ x * y ∧ x * y ≤ A * B := by
  have hA : 0 ≤ A := by omega
  have hB : 0 ≤ B := by omega
  have k : (x * y).natAbs ≤ (A * B).natAbs := by
    rw [Int.natAbs_mul, Int.natAbs_mul]; exact Nat.mul_le_mul (by omega) (by omega)
  have hp : 0 ≤ A * B := Int.mul_nonneg hA hB
  generalize x * y = z at *
  generalize A * B = u at *
  omega
/-- what a reduced fraction times its divisor is -/
theorem red_sg {x y : Int} (h : redOk x y = true) : sg x y ≠ 0 ∧ sg x y * redN x y = x ∧ sg x y * redD x y = y := by
  have h' := h
  unfold redOk at h'
  rw [Bool.and_eq_true] at h'
  have hy := (redIn_out h'.1).1
  have e1 : redN x y = x / sg x y := by unfold redN; rw [if_pos h]
  have e2 : redD x y = y / sg x y := by unfold redD; rw [if_pos h]
  rw [e1, e2]
  exact ⟨sg_ne x y hy, Int.mul_ediv_cancel' (sg_dvd_l x y), Int.mul_ediv_cancel' (sg_dvd_r x y)⟩
theorem cancel {k x y : Int} (hk : k ≠ 0) (h : k * x = k * y) : x = y := Int.eq_of_mul_eq_mul_left hk h
theorem add_sub {a b c d : Int} (h1 : okB a b = true) (s : redOk (a * d + c * b) (b * d) = true)
    (t : redOk (redN (a * d + c * b) (b * d) * d - c * redD (a * d + c * b) (b * d)) (redD (a * d + c * b) (b * d) * d) = true) :
    redN (redN (a * d + c * b) (b * d) * d - c * redD (a * d + c * b) (b * d)) (redD (a * d + c * b) (b * d) * d) = a ∧
    redD (redN (a * d + c * b) (b * d) * d - c * redD (a * d + c * b) (b * d)) (redD (a * d + c * b) (b * d) * d) = b := by
  obtain ⟨k1, n1, d1⟩ := red_sg s
  obtain ⟨k2, n2, d2⟩ := red_sg t
  have ht := okB_redN t
  generalize redN (a * d + c * b) (b * d) = N at *
  generalize redD (a * d + c * b) (b * d) = D at *
  generalize sg (a * d + c * b) (b * d) = g at *
  generalize redN (N * d - c * D) (D * d) = X at *
  generalize redD (N * d - c * D) (D * d) = Y at *
  generalize sg (N * d - c * D) (D * d) = k at *
  refine okB_eq ht h1 (cancel (Int.mul_ne_zero k1 k2) ?_)
  have e1 : g * k * (X * b) = g * (N * d - c * D) * b := by rw [← n2]; ac_rfl
  have e2 : g * k * (a * Y) = a * (g * D) * d := by rw [show g * k * (a * Y) = a * g * (k * Y) from by ac_rfl, d2]; ac_rfl
  have e3 : g * (N * d - c * D) * b = (g * N * d - c * (g * D)) * b := by rw [Int.mul_sub]; congr 2 <;> ac_rfl
  rw [e1, e2, e3, n1, d1, Int.add_mul, show c * b * d = c * (b * d) from by ac_rfl, Int.add_sub_cancel]
  ac_rfl
theorem div_mul {a b c d : Int} (h1 : okB a b = true) (s : redOk (a * d) (b * c) = true)
    (t : redOk (redN (a * d) (b * c) * c) (redD (a * d) (b * c) * d) = true) :
    redN (redN (a * d) (b * c) * c) (redD (a * d) (b * c) * d) = a ∧ redD (redN (a * d) (b * c) * c) (redD (a * d) (b * c) * d) = b := by
  obtain ⟨k1, n1, d1⟩ := red_sg s
  obtain ⟨k2, n2, d2⟩ := red_sg t
  have ht := okB_redN t
  generalize redN (a * d) (b * c) = N at *
  generalize redD (a * d) (b * c) = D at *
  generalize sg (a * d) (b * c) = g at *
  generalize redN (N * c) (D * d) = X at *
  generalize redD (N * c) (D * d) = Y at *
  generalize sg (N * c) (D * d) = k at *
  refine okB_eq ht h1 (cancel (Int.mul_ne_zero k1 k2) ?_)
  have e1 : g * k * (X * b) = g * N * c * b := by rw [show g * k * (X * b) = g * (k * X) * b from by ac_rfl, n2]; ac_rfl
  have e2 : g * k * (a * Y) = a * (g * D) * d := by rw [show g * k * (a * Y) = a * g * (k * Y) from by ac_rfl, d2]; ac_rfl
  rw [e1, e2, n1, d1]
  ac_rfl
theorem add_comm2 (a b c d : Int) : c * b + a * d = a * d + c * b ∧ d * b = b * d := ⟨Int.add_comm _ _, Int.mul_comm _ _⟩
/-- of three small right fractions: the product over the sum is the sum of the products, and nothing is too great -/
theorem spread {a b c d p q : Int} (a1 : -6 ≤ a) (a2 : a ≤ 6) (b1 : 1 ≤ b) (b2 : b ≤ 4) (c1 : -6 ≤ c) (c2 : c ≤ 6) (d1 : 1 ≤ d) (d2 : d ≤ 4) (p1 : -6 ≤ p) (p2 : p ≤ 6) (q1 : 1 ≤ q) (q2 : q ≤ 4) :
    ∃ sN sD lN lD mN mD nN nD rN rD : Int,
      (redOk (c * q + p * d) (d * q) = true ∧ redN (c * q + p * d) (d * q) = sN ∧ redD (c * q + p * d) (d * q) = sD ∧ okB sN sD = true) ∧
      (redOk (a * sN) (b * sD) = true ∧ redN (a * sN) (b * sD) = lN ∧ redD (a * sN) (b * sD) = lD) ∧
      (redOk (a * c) (b * d) = true ∧ redN (a * c) (b * d) = mN ∧ redD (a * c) (b * d) = mD ∧ okB mN mD = true) ∧
      (redOk (a * p) (b * q) = true ∧ redN (a * p) (b * q) = nN ∧ redD (a * p) (b * q) = nD ∧ okB nN nD = true) ∧
      (redOk (mN * nD + nN * mD) (mD * nD) = true ∧ redN (mN * nD + nN * mD) (mD * nD) = rN ∧ redD (mN * nD + nN * mD) (mD * nD) = rD) ∧ lN = rN ∧ lD = rD := by
  have pos : ∀ {x y : Int}, 1 ≤ x → 1 ≤ y → 1 ≤ x * y := fun hx hy => Int.mul_pos (by omega) (by omega)
  have u1 := mul_in c q 6 4 c1 c2 (by omega) q2
  have u2 := mul_in p d 6 4 p1 p2 (by omega) d2
  have u3 := mul_in d q 4 4 (by omega) d2 (by omega) q2
  have u3' := pos d1 q1
  obtain ⟨s1, s2, s3, s4, s5, s6⟩ := red_small (x := c * q + p * d) (y := d * q) (m := 48) (by omega) (by omega) (by omega) u3' (by omega)
  obtain ⟨gs, gs1, gs2⟩ := red_sg s1
  have v1 := mul_in a (redN (c * q + p * d) (d * q)) 6 48 a1 a2 s3 s4
  have v2 := mul_in b (redD (c * q + p * d) (d * q)) 4 16 (by omega) b2 (by omega) (by omega)
  have v2' := pos b1 s5
  obtain ⟨l1, l2, l3, l4, l5, l6⟩ := red_small (x := a * redN (c * q + p * d) (d * q)) (y := b * redD (c * q + p * d) (d * q)) (m := 288) (by omega) (by omega) (by omega) v2' (by omega)
  obtain ⟨gl, gl1, gl2⟩ := red_sg l1
  have w1 := mul_in a c 6 6 a1 a2 c1 c2
  have w2 := mul_in b d 4 4 (by omega) b2 (by omega) d2
  have w2' := pos b1 d1
  obtain ⟨m1, m2, m3, m4, m5, m6⟩ := red_small (x := a * c) (y := b * d) (m := 36) (by omega) (by omega) (by omega) w2' (by omega)
  obtain ⟨gm, gm1, gm2⟩ := red_sg m1
  have x1 := mul_in a p 6 6 a1 a2 p1 p2
  have x2 := mul_in b q 4 4 (by omega) b2 (by omega) q2
  have x2' := pos b1 q1
  obtain ⟨n1, n2, n3, n4, n5, n6⟩ := red_small (x := a * p) (y := b * q) (m := 36) (by omega) (by omega) (by omega) x2' (by omega)
  obtain ⟨gn, gn1, gn2⟩ := red_sg n1
  have y1 := mul_in (redN (a * c) (b * d)) (redD (a * p) (b * q)) 36 16 m3 m4 (by omega) (by omega)
  have y2 := mul_in (redN (a * p) (b * q)) (redD (a * c) (b * d)) 36 16 n3 n4 (by omega) (by omega)
  have y3 := mul_in (redD (a * c) (b * d)) (redD (a * p) (b * q)) 16 16 (by omega) (by omega) (by omega) (by omega)
  have y3' := pos m5 n5
  obtain ⟨r1, r2, r3, r4, r5, r6⟩ := red_small (x := redN (a * c) (b * d) * redD (a * p) (b * q) + redN (a * p) (b * q) * redD (a * c) (b * d)) (y := redD (a * c) (b * d) * redD (a * p) (b * q)) (m := 1152) (by omega) (by omega) (by omega) y3' (by omega)
  obtain ⟨gr, gr1, gr2⟩ := red_sg r1
  refine ⟨_, _, _, _, _, _, _, _, _, _, ⟨s1, rfl, rfl, s2⟩, ⟨l1, rfl, rfl⟩, ⟨m1, rfl, rfl, m2⟩, ⟨n1, rfl, rfl, n2⟩, ⟨r1, rfl, rfl⟩, ?_⟩
  refine okB_eq l2 r2 ?_
  clear s1 s2 s3 s4 s5 s6 l1 l2 l3 l4 l5 l6 m1 m2 m3 m4 m5 m6 n1 n2 n3 n4 n5 n6 r1 r2 r3 r4 r5 r6 u1 u2 u3 u3' v1 v2 v2' w1 w2 w2' x1 x2 x2' y1 y2 y3 y3' pos
  generalize redN (c * q + p * d) (d * q) = sN at *
  generalize redD (c * q + p * d) (d * q) = sD at *
  generalize sg (c * q + p * d) (d * q) = ks at *
  generalize redN (a * sN) (b * sD) = lN at *
  generalize redD (a * sN) (b * sD) = lD at *
  generalize sg (a * sN) (b * sD) = kl at *
  generalize redN (a * c) (b * d) = mN at *
  generalize redD (a * c) (b * d) = mD at *
  generalize sg (a * c) (b * d) = km at *
  generalize redN (a * p) (b * q) = nN at *
  generalize redD (a * p) (b * q) = nD at *
  generalize sg (a * p) (b * q) = kn at *
  generalize redN (mN * nD + nN * mD) (mD * nD) = rN at *
  generalize redD (mN * nD + nN * mD) (mD * nD) = rD at *
  generalize sg (mN * nD + nN * mD) (mD * nD) = kr at *
  refine cancel (Int.mul_ne_zero (Int.mul_ne_zero gs gl) (Int.mul_ne_zero gr (Int.mul_ne_zero gm gn))) ?_
  have e1 : ks * kl * (kr * (km * kn)) * (lN * rD) = a * (ks * sN) * ((km * mD) * (kn * nD)) := by
    rw [show ks * kl * (kr * (km * kn)) * (lN * rD) = ks * (kl * lN) * ((km * kn) * (kr * rD)) from by ac_rfl, gl1, gr2]; ac_rfl
  have e2 : ks * kl * (kr * (km * kn)) * (rN * lD) = b * (ks * sD) * ((km * mN) * (kn * nD) + (kn * nN) * (km * mD)) := by
    rw [show ks * kl * (kr * (km * kn)) * (rN * lD) = ks * (kl * lD) * ((km * kn) * (kr * rN)) from by ac_rfl, gl2, gr1, Int.mul_add (km * kn)]
    congr 1
    · ac_rfl
    · congr 1 <;> ac_rfl
  rw [e1, e2, gs1, gs2, gm1, gm2, gn1, gn2, Int.mul_add a, Int.add_mul (a * (c * q)), Int.mul_add (b * (d * q))]
  congr 1 <;> ac_rfl
theorem op_true {t : Bool} {x y : Int} (h : opOk t x y = true) : t = true ∧ redOk x y = true ∧ opN t x y = redN x y ∧ opD t x y = redD x y := by
  unfold opOk at h
  rw [Bool.and_eq_true] at h
  obtain ⟨h1, h2⟩ := h
  subst h1
  exact ⟨rfl, h2, rfl, rfl⟩
theorem sub_back {a b c d N D : Int} (hN : N = opN (two a b c d) (a * d + c * b) (b * d)) (hD : D = opD (two a b c d) (a * d + c * b) (b * d)) (h : opOk (two a b c d) (a * d + c * b) (b * d) = true)
    (k : opOk (two N D c d) (N * d - c * D) (D * d) = true) : a = opN (two N D c d) (N * d - c * D) (D * d) ∧ b = opD (two N D c d) (N * d - c * D) (D * d) := by
  obtain ⟨t1, r1, e1, e2⟩ := op_true h
  obtain ⟨t2, r2, e3, e4⟩ := op_true k
  rw [e3, e4]
  rw [e1] at hN
  rw [e2] at hD
  subst hN hD
  have := add_sub (two_out t1).1 r1 r2
  exact ⟨this.1.symm, this.2.symm⟩
theorem mul_back {a b c d N D : Int} (hN : N = opN (two a b c d) (a * d) (b * c)) (hD : D = opD (two a b c d) (a * d) (b * c)) (h : opOk (two a b c d) (a * d) (b * c) = true)
    (k : opOk (two N D c d) (N * c) (D * d) = true) : a = opN (two N D c d) (N * c) (D * d) ∧ b = opD (two N D c d) (N * c) (D * d) := by
  obtain ⟨t1, r1, e1, e2⟩ := op_true h
  obtain ⟨t2, r2, e3, e4⟩ := op_true k
  rw [e3, e4]
  rw [e1] at hN
  rw [e2] at hD
  subst hN hD
  have := div_mul (two_out t1).1 r1 r2
  exact ⟨this.1.symm, this.2.symm⟩
end Go.Proofs.Ytgboaeokbglgdaa.RM

/- Sums, tables of fractions as numbers, and what a column's step of the echelon keeps: the solutions, the dependence of rows, the units of the chosen columns. -/
namespace Go.Proofs.Ytgboaeokbglgdaa
open Go.RowKit Go.Proofs.Ytgboaeokbglgdaa.RM

/-- a sum of n -/
def sumN (f : Nat → Rat) : Nat → Rat
  | 0 => 0
  | n + 1 => sumN f n + f n
theorem sumN_congr {f g : Nat → Rat} : ∀ {n : Nat}, (∀ i, i < n → f i = g i) → sumN f n = sumN g n
  | 0, _ => rfl
  | n + 1, h => by
    simp only [sumN]
    rw [sumN_congr (fun i hi => h i (by omega)), h n (by omega)]
theorem sumN_zero {f : Nat → Rat} : ∀ {n : Nat}, (∀ i, i < n → f i = 0) → sumN f n = 0
  | 0, _ => rfl
  | n + 1, h => by
    simp only [sumN]
    rw [sumN_zero (fun i hi => h i (by omega)), h n (by omega)]
    grind
theorem sumN_add (f g : Nat → Rat) : ∀ n, sumN (fun i => f i + g i) n = sumN f n + sumN g n
  | 0 => by simp only [sumN]; grind
  | n + 1 => by simp only [sumN]; rw [sumN_add f g n]; grind
theorem sumN_sub (f g : Nat → Rat) : ∀ n, sumN (fun i => f i - g i) n = sumN f n - sumN g n
  | 0 => by simp only [sumN]; grind
  | n + 1 => by simp only [sumN]; rw [sumN_sub f g n]; grind
theorem sumN_mul (f : Nat → Rat) (c : Rat) : ∀ n, sumN (fun i => f i * c) n = sumN f n * c
  | 0 => by simp only [sumN]; grind
  | n + 1 => by simp only [sumN]; rw [sumN_mul f c n]; grind
theorem sumN_swap (f : Nat → Nat → Rat) (m : Nat) : ∀ n, sumN (fun i => sumN (fun j => f i j) m) n = sumN (fun j => sumN (fun i => f i j) n) m
  | 0 => by
    simp only [sumN]
    rw [sumN_zero (fun _ _ => rfl)]
  | n + 1 => by
    simp only [sumN]
    rw [sumN_swap f m n, ← sumN_add]
/-- one of them turned -/
theorem sumN_turn (f : Nat → Rat) (a : Nat) (c : Rat) : ∀ {n : Nat}, a < n → sumN (fun i => if i = a then c else f i) n = sumN f n - f a + c
  | 0, h => by omega
  | n + 1, h => by
    simp only [sumN]
    by_cases e : a = n
    · subst e
      rw [if_pos rfl, sumN_congr (g := f) (fun i hi => by rw [if_neg (by omega)])]
      grind
    · rw [if_neg (fun h => e h.symm), sumN_turn f a c (by omega)]
      grind
/-- just one is not 0 -/
theorem sumN_one {f : Nat → Rat} {a n : Nat} (ha : a < n) (h : ∀ i, i < n → i ≠ a → f i = 0) : sumN f n = f a := by
  have h1 : sumN f n = sumN (fun i => if i = a then f a else (fun _ => 0) i) n := sumN_congr (fun i hi => by
    by_cases e : i = a
    · rw [if_pos e, e]
    · rw [if_neg e, h i hi e])
  rw [h1, sumN_turn _ _ _ ha, sumN_zero (fun _ _ => rfl)]
  grind
/-- in another order: two were exchanged -/
theorem sumN_exch (f : Nat → Rat) (a b : Nat) {n : Nat} (ha : a < n) (hb : b < n) : sumN (fun i => f (exch a b i)) n = sumN f n := by
  by_cases e : a = b
  · subst e
    apply sumN_congr
    intro i _
    unfold exch
    split
    · rename_i h; rw [h]
    · rfl
  · have h1 : sumN (fun i => f (exch a b i)) n = sumN (fun i => if i = b then f a else (fun i => if i = a then f b else f i) i) n := sumN_congr (fun i hi => by
      unfold exch
      by_cases e1 : b = i
      · rw [if_pos e1, if_pos e1.symm]
      · rw [if_neg e1, if_neg (show ¬ i = b from fun h => e1 h.symm)]
        show _ = if i = a then f b else f i
        by_cases e2 : a = i
        · rw [if_pos e2, if_pos e2.symm]
        · rw [if_neg e2, if_neg (show ¬ i = a from fun h => e2 h.symm)])
    rw [h1, sumN_turn _ _ _ hb, sumN_turn _ _ _ ha, if_neg (fun h => e h.symm)]
    grind
/-- the number that a fraction is -/
def qf (p : Fr) : Rat := Rat.divInt p.1 p.2
theorem qf_red {x y : Int} (h : redOk x y = true) : qf (redN x y, redD x y) = Rat.divInt x y := by
  obtain ⟨h1, h2, h3⟩ := red_sg h
  have hb := okB_out (okB_redN h)
  have hy : y ≠ 0 := by
    intro h0
    have h4 : sg x y * redD x y = 0 := by rw [h3]; exact h0
    rcases Int.mul_eq_zero.1 h4 with k | k
    · exact h1 k
    · omega
  unfold qf
  rw [Rat.divInt_eq_divInt_iff (by show redD x y ≠ 0; omega) hy]
  show redN x y * y = x * redD x y
  obtain ⟨p, hp⟩ : ∃ p, p = redN x y := ⟨_, rfl⟩
  obtain ⟨q, hq⟩ : ∃ q, q = redD x y := ⟨_, rfl⟩
  obtain ⟨s, hs⟩ : ∃ s, s = sg x y := ⟨_, rfl⟩
  rw [← hp, ← hs] at h2
  rw [← hq, ← hs] at h3
  rw [← hp, ← hq]
  clear hp hq hs h1 hb hy h
  grind
theorem okF_ne {p : Fr} (h : okF p = true) : p.2 ≠ 0 := by have := okB_out h; omega
theorem op_parts {p q : Fr} {x y : Int} (h : opOk (two p.1 p.2 q.1 q.2) x y = true) : okF p = true ∧ okF q = true ∧ qf (opN (two p.1 p.2 q.1 q.2) x y, opD (two p.1 p.2 q.1 q.2) x y) = Rat.divInt x y := by
  obtain ⟨t, h2, h3, h4⟩ := op_true h
  obtain ⟨t1, t2⟩ := two_out t
  exact ⟨t1, t2, by rw [h3, h4]; exact qf_red h2⟩
theorem dz {n d : Int} (hd : d ≠ 0) : Rat.divInt n d = 0 ↔ n = 0 := by
  rw [show (0 : Rat) = Rat.divInt 0 1 from rfl, Rat.divInt_eq_divInt_iff hd (by decide)]
  omega
theorem qf_mul {p q : Fr} (h : mulK p q = true) : qf (mulP p q) = qf p * qf q := by
  obtain ⟨h1, h2, h3⟩ := op_parts h
  unfold mulP
  rw [h3]
  unfold qf
  rw [Rat.divInt_mul_divInt]
theorem qf_add {p q : Fr} (h : addK p q = true) : qf (addP p q) = qf p + qf q := by
  obtain ⟨h1, h2, h3⟩ := op_parts h
  unfold addP
  rw [h3]
  unfold qf
  rw [Rat.divInt_add_divInt _ _ (okF_ne h1) (okF_ne h2)]
theorem qf_sub {p q : Fr} (h : subK p q = true) : qf (subP p q) = qf p - qf q := by
  obtain ⟨h1, h2, h3⟩ := op_parts h
  unfold subP
  rw [h3]
  unfold qf
  rw [Rat.divInt_sub_divInt _ _ (okF_ne h1) (okF_ne h2)]
theorem qf_div {p q : Fr} (h : divK p q = true) : qf q ≠ 0 ∧ qf (divP p q) = qf p / qf q := by
  obtain ⟨h1, h2, h3⟩ := op_parts h
  have h4 : opOk (two p.1 p.2 q.1 q.2) (p.1 * q.2) (p.2 * q.1) = true := h
  obtain ⟨-, h5, -, -⟩ := op_true h4
  have hq : q.1 ≠ 0 := by
    intro h0
    unfold redOk at h5
    rw [Bool.and_eq_true] at h5
    have := (redIn_out h5.1).1
    rw [h0] at this
    omega
  unfold divP
  rw [h3]
  unfold qf
  have hz : Rat.divInt q.1 q.2 ≠ 0 := by
    intro h0
    rw [dz (okF_ne h2)] at h0
    exact hq h0
  refine ⟨hz, ?_⟩
  have hm : Rat.divInt (p.1 * q.2) (p.2 * q.1) * Rat.divInt q.1 q.2 = Rat.divInt p.1 p.2 := by
    rw [Rat.divInt_mul_divInt, Rat.divInt_eq_divInt_iff (by
      intro h0
      rcases Int.mul_eq_zero.1 h0 with k | k
      · rcases Int.mul_eq_zero.1 k with k | k
        · exact okF_ne h1 k
        · exact hq k
      · exact okF_ne h2 k) (okF_ne h1)]
    grind
  rw [← hm]
  grind
theorem qf_inj {p q : Fr} (h1 : okF p = true) (h2 : okF q = true) (h : qf p = qf q) : p = q := by
  unfold qf at h
  rw [Rat.divInt_eq_divInt_iff (okF_ne h1) (okF_ne h2)] at h
  obtain ⟨e1, e2⟩ := okB_eq h1 h2 h
  exact Prod.ext e1 e2
theorem qf_zero {p : Fr} (h : okF p = true) : qf p = 0 ↔ p.1 = 0 := by
  unfold qf
  rw [dz (okF_ne h)]
theorem qf_null : qf (0, 1) = 0 := by unfold qf; rfl
theorem qf_one : qf (1, 1) = 1 := by unfold qf; rfl
/-- a table as numbers -/
def mv (rows : List (List Fr)) (i j : Nat) : Rat := qf (fr (rw' rows i) j)
/-- what every column's step of the echelon is, in numbers -/
structure StepQ (m L at' r col : Nat) (M M' : Nat → Nat → Rat) : Prop where
  ha : at' < m
  hr : r < m
  hge : at' ≤ r
  hc : col < L
  f0 : M r col ≠ 0
  top : ∀ j, j < L → M' at' j = M r j / M r col
  oth : ∀ i, i < m → i ≠ at' → ∀ j, j < L → M' i j = M (exch r at' i) j - M (exch r at' i) col * M' at' j
/-- the same solutions -/
theorem StepQ.ker {m L at' r col : Nat} {M M' : Nat → Nat → Rat} (h : StepQ m L at' r col M M') (v : Nat → Rat) : (∀ i, i < m → sumN (fun j => M' i j * v j) L = 0) ↔ (∀ i, i < m → sumN (fun j => M i j * v j) L = 0) := by
  have e1 : sumN (fun j => M' at' j * v j) L = sumN (fun j => M r j * v j) L / M r col := by
    have := h.f0
    rw [show sumN (fun j => M r j * v j) L / M r col = sumN (fun j => M r j * v j) L * (1 / M r col) by grind, ← sumN_mul]
    apply sumN_congr
    intro j hj
    rw [h.top j hj]
    grind
  have e2 : ∀ i, i < m → i ≠ at' → sumN (fun j => M' i j * v j) L = sumN (fun j => M (exch r at' i) j * v j) L - M (exch r at' i) col * sumN (fun j => M' at' j * v j) L := by
    intro i hi hne
    rw [show M (exch r at' i) col * sumN (fun j => M' at' j * v j) L = sumN (fun j => M' at' j * v j) L * M (exch r at' i) col by grind, ← sumN_mul, ← sumN_sub]
    apply sumN_congr
    intro j hj
    rw [h.oth i hi hne j hj]
    grind
  have f0 := h.f0
  constructor
  · intro h0
    have hr0 : sumN (fun j => M r j * v j) L = 0 := by
      have := h0 at' h.ha
      rw [e1] at this
      grind
    intro i hi
    by_cases e : i = r
    · rw [e]; exact hr0
    · have hx : exch r at' (exch r at' i) = i := by
        unfold exch
        split <;> split <;> (try split) <;> omega
      have hne : exch r at' i ≠ at' := by
        unfold exch
        have := h.ha
        split
        · omega
        · split <;> omega
      have := e2 (exch r at' i) (exch_lt h.hr h.ha hi) hne
      rw [hx, h0 _ (exch_lt h.hr h.ha hi), h0 _ h.ha] at this
      grind
  · intro h0
    have ha0 : sumN (fun j => M' at' j * v j) L = 0 := by
      rw [e1, h0 r h.hr]
      grind
    intro i hi
    by_cases e : i = at'
    · rw [e]; exact ha0
    · rw [e2 i hi e, ha0, h0 _ (exch_lt h.hr h.ha hi)]
      grind
/-- rows of which some make up nothing, by the first n columns -/
def Dep (m n : Nat) (M : Nat → Nat → Rat) : Prop := ∃ y : Nat → Rat, (∃ i, i < m ∧ y i ≠ 0) ∧ ∀ j, j < n → sumN (fun i => y i * M i j) m = 0
theorem StepQ.dep {m L at' r col n : Nat} {M M' : Nat → Nat → Rat} (h : StepQ m L at' r col M M') (hn : n ≤ L) (hcn : col < n) (hd : Dep m n M) : Dep m n M' := by
  obtain ⟨y, ⟨k, hk, hy⟩, h0⟩ := hd
  have hx : ∀ i, exch r at' (exch r at' i) = i := by
    intro i
    unfold exch
    split <;> split <;> (try split) <;> omega
  have hsum : ∀ j, j < n → sumN (fun i => y (exch r at' i) * M (exch r at' i) j) m = 0 := by
    intro j hj
    rw [sumN_exch (fun i => y i * M i j) r at' h.hr h.ha]
    exact h0 j hj
  have hat : exch r at' at' = r := by unfold exch; rw [if_pos rfl]
  have f0 := h.f0
  refine ⟨fun i => if i = at' then 0 else y (exch r at' i), ?_, ?_⟩
  · apply Classical.byContradiction
    intro hn0
    have hz : ∀ i, i < m → i ≠ at' → y (exch r at' i) = 0 := by
      intro i hi hne
      apply Classical.byContradiction
      intro h1
      exact hn0 ⟨i, hi, by show (if i = at' then (0 : Rat) else _) ≠ 0; rw [if_neg hne]; exact h1⟩
    have hs := hsum col hcn
    rw [sumN_one h.ha (fun i hi hne => by rw [hz i hi hne]; grind), hat] at hs
    have hyr : y r = 0 := by grind
    apply hy
    by_cases e : k = r
    · rw [e]; exact hyr
    · have := hz (exch r at' k) (exch_lt h.hr h.ha hk) (by
        intro h1
        have h2 : exch r at' (exch r at' k) = exch r at' at' := by rw [h1]
        rw [hx, hat] at h2
        exact e h2)
      rw [hx] at this
      exact this
  · intro j hj
    have he : sumN (fun i => (if i = at' then 0 else y (exch r at' i)) * M' i j) m = sumN (fun i => y (exch r at' i) * M (exch r at' i) j - (y (exch r at' i) * M (exch r at' i) col) * M' at' j) m := by
      apply sumN_congr
      intro i hi
      by_cases e : i = at'
      · rw [if_pos e, e, hat, h.top j (by omega)]
        grind
      · rw [if_neg e, h.oth i hi e j (by omega)]
        grind
    rw [he, sumN_sub, sumN_mul, hsum j hj, hsum col hcn]
    grind
/-- the chosen columns are units -/
def Units (m : Nat) (M : Nat → Nat → Rat) (ch : List Nat) : Prop := ∀ k, k < ch.length → ∀ i, i < m → M i (nt ch k) = if i = k then 1 else 0
theorem nt_app {ch : List Nat} {c k : Nat} (h : k < ch.length) : nt (ch ++ [c]) k = nt ch k := by unfold nt; rw [List.getElem?_append_left h]
theorem nt_last (ch : List Nat) (c : Nat) : nt (ch ++ [c]) ch.length = c := by simp [nt]
theorem StepQ.units {m L r col : Nat} {M M' : Nat → Nat → Rat} {ch : List Nat} (h : StepQ m L ch.length r col M M') (hu : Units m M ch) (hl : ∀ c, c ∈ ch → c < L) : Units m M' (ch ++ [col]) := by
  have f0 := h.f0
  have hge := h.hge
  have hr := h.hr
  have ha := h.ha
  intro k hk i hi
  rw [List.length_append, List.length_singleton] at hk
  by_cases e : k < ch.length
  · rw [nt_app e]
    have hc : nt ch k < L := hl _ (nt_mem e)
    have htop : M' ch.length (nt ch k) = 0 := by
      rw [h.top _ hc, hu k e r h.hr, if_neg (by omega)]
      grind
    by_cases e2 : i = ch.length
    · rw [e2, htop, if_neg (by omega)]
    · rw [h.oth i hi e2 _ hc, htop, hu k e _ (exch_lt h.hr h.ha hi)]
      by_cases e3 : i = k
      · have : exch r ch.length i = i := by unfold exch; rw [if_neg (by omega), if_neg (by omega)]
        rw [this, if_pos e3]
        grind
      · have : exch r ch.length i ≠ k := by unfold exch; split <;> (try split) <;> omega
        rw [if_neg this, if_neg e3]
        grind
  · obtain rfl : k = ch.length := by omega
    rw [nt_last]
    have htop : M' ch.length col = 1 := by rw [h.top _ h.hc]; grind
    by_cases e2 : i = ch.length
    · rw [if_pos e2, e2, htop]
    · rw [if_neg e2, h.oth i hi e2 _ h.hc, htop]
      grind
/-- what every state of the echelon is -/
structure Base (m L : Nat) (rows : List (List Fr)) (ch : List Nat) (col : Nat) : Prop where
  len : rows.length = m
  row : ∀ x, x < m → (rw' rows x).length = L
  ok : ∀ x, x < m → ∀ j, j < L → okF (fr (rw' rows x) j) = true
  cl : ch.length ≤ m
  chs : ∀ c, c ∈ ch → c < col
theorem divR_at {row : List Fr} {f : Fr} {j : Nat} (hj : j < row.length) : fr (divR row f) j = divP (fr row j) f := by simp [divR, fr, hj]
theorem takeR_at {o w : List Fr} {t : Fr} {j : Nat} (hj : j < o.length) : fr (takeR o t w) j = takeE (fr o j) t (fr w j) := by simp [takeR, fr, hj]
theorem divB_at {row : List Fr} {f : Fr} (h : divB row f = true) {j : Nat} (hj : j < row.length) : divK (fr row j) f = true := all_at (p := fun p => divK p f) (d := ((0, 0) : Fr)) h hj
theorem takeB_at {o w : List Fr} {t : Fr} (h : takeB o t w = true) {j : Nat} (hj : j < o.length) : takeK (fr o j) t (fr w j) = true := by
  unfold takeB at h
  rw [List.all_eq_true] at h
  exact h j (by simpa using hj)
theorem qf_take {o t x : Fr} (h : takeK o t x = true) : qf (takeE o t x) = qf o - qf t * qf x ∧ okF (takeE o t x) = true := by
  unfold takeK at h
  have hm : mulK t x = true := by
    rw [← Bool.not_eq_false]
    intro h0
    rw [mul_none h0, sub_zero_r] at h
    cases h
  unfold takeE
  exact ⟨by rw [qf_sub h, qf_mul hm], sub_right h⟩
/-- one column's step, in numbers; the state behind it -/
theorem stepQ {m L r col : Nat} {rows : List (List Fr)} {ch : List Nat} (hB : Base m L rows ch col) (hc : col < L) (h1 : ch.length ≤ r) (h2 : r < m) (hb : stepB rows ch.length r col = true) :
    StepQ m L ch.length r col (mv rows) (mv (stepT rows ch.length r col)) ∧ Base m L (stepT rows ch.length r col) (ch ++ [col]) (col + 1) := by
  have ha : ch.length < m := by omega
  have hb' := hb
  unfold stepB at hb'
  rw [Bool.and_eq_true, List.all_eq_true] at hb'
  obtain ⟨hd, ht⟩ := hb'
  have hlr : (rw' rows r).length = L := hB.row r h2
  have hat : ∀ i, i < m → rw' (stepT rows ch.length r col) i = if i = ch.length then divR (rw' rows r) (fr (rw' rows r) col) else takeR (rw' (swapT rows r ch.length) i) (fr (rw' (swapT rows r ch.length) i) col) (divR (rw' rows r) (fr (rw' rows r) col)) := by
    intro i hi
    have hi2 : i < rows.length := by rw [hB.len]; exact hi
    rw [← stepP_all, stepP_at _ _ _ _ _ _ hi2, if_pos hi2]
  have htop : ∀ j, j < L → fr (rw' (stepT rows ch.length r col) ch.length) j = divP (fr (rw' rows r) j) (fr (rw' rows r) col) := by
    intro j hj
    rw [hat _ ha, if_pos rfl, divR_at (by omega)]
  have hkd : ∀ j, j < L → divK (fr (rw' rows r) j) (fr (rw' rows r) col) = true := fun j hj => divB_at hd (by omega)
  have hoth : ∀ i, i < m → i ≠ ch.length → ∀ j, j < L → fr (rw' (stepT rows ch.length r col) i) j = takeE (fr (rw' rows (exch r ch.length i)) j) (fr (rw' rows (exch r ch.length i)) col) (divP (fr (rw' rows r) j) (fr (rw' rows r) col)) ∧ takeK (fr (rw' rows (exch r ch.length i)) j) (fr (rw' rows (exch r ch.length i)) col) (divP (fr (rw' rows r) j) (fr (rw' rows r) col)) = true := by
    intro i hi hne j hj
    have hl := hB.row _ (exch_lt h2 ha hi)
    have hti := ht i (by simpa [hB.len] using hi)
    rw [rw_exch _ _ _ _ (by rw [hB.len]; exact h2) (by rw [hB.len]; exact ha)] at hti
    have hti2 : takeB (rw' rows (exch r ch.length i)) (fr (rw' rows (exch r ch.length i)) col) (divR (rw' rows r) (fr (rw' rows r) col)) = true := by
      simpa [hne] using hti
    have hk := takeB_at hti2 (j := j) (by omega)
    rw [divR_at (by omega)] at hk
    rw [hat i hi, if_neg hne, rw_exch _ _ _ _ (by rw [hB.len]; exact h2) (by rw [hB.len]; exact ha), takeR_at (by omega), divR_at (by omega)]
    exact ⟨rfl, hk⟩
  refine ⟨⟨ha, h2, h1, hc, (qf_div (hkd col hc)).1, fun j hj => ?_, fun i hi hne j hj => ?_⟩, ⟨by rw [stepT_len]; exact hB.len, fun x hx => ?_, fun x hx j hj => ?_, by simp; omega, fun c hx => ?_⟩⟩
  · show qf _ = _
    rw [htop j hj, (qf_div (hkd j hj)).2]
    rfl
  · obtain ⟨e1, e2⟩ := hoth i hi hne j hj
    show qf _ = _
    rw [e1, (qf_take e2).1]
    show _ = mv rows _ j - mv rows _ col * qf _
    rw [htop j hj]
    rfl
  · exact stepT_row (fun y hy => hB.row y (by rw [← hB.len]; exact hy)) (by rw [hB.len]; exact ha) (by rw [hB.len]; exact h2) x (by rw [stepT_len, hB.len]; exact hx)
  · by_cases e : x = ch.length
    · rw [e, htop j hj]
      exact div_right (hkd j hj)
    · obtain ⟨e1, e2⟩ := hoth x hx e j hj
      rw [e1]
      exact (qf_take e2).2
  · rw [List.mem_append] at hx
    rcases hx with hx | hx
    · have := hB.chs c hx; omega
    · simp at hx; omega
/-- what every step keeps, the whole echelon does -/
theorem ech_ind {m L : Nat} {P : Nat → List (List Fr) → List Nat → Prop}
    (free : ∀ col rows ch, Base m L rows ch col → col < L → (∀ x, ch.length ≤ x → x < m → (fr (rw' rows x) col).1 = 0) → P col rows ch → P (col + 1) rows ch)
    (yes : ∀ col rows ch r, Base m L rows ch col → col < L → ch.length ≤ r → r < m → (fr (rw' rows r) col).1 ≠ 0 → (∀ x, ch.length ≤ x → x < r → (fr (rw' rows x) col).1 = 0) → stepB rows ch.length r col = true → P col rows ch → P (col + 1) (stepT rows ch.length r col) (ch ++ [col])) :
    ∀ n col rows ch R C, col + n ≤ L → Base m L rows ch col → P col rows ch → echF n col rows ch = some (R, C) → P (col + n) R C ∧ Base m L R C (col + n)
  | 0, col, rows, ch, R, C, _, hB, hP, he => by
    simp only [echF] at he
    cases he
    exact ⟨hP, hB⟩
  | n + 1, col, rows, ch, R, C, hl, hB, hP, he => by
    have hp := piv_le (rows := rows) (col := col) (at' := ch.length) (by rw [hB.len]; exact hB.cl)
    by_cases hf : piv rows col ch.length = rows.length
    · rw [echF_free hf] at he
      have hz : ∀ x, ch.length ≤ x → x < m → (fr (rw' rows x) col).1 = 0 := by
        intro x h1 h2
        refine pivF_zero rows col (rows.length - ch.length) ch.length x h1 ?_
        show x < piv rows col ch.length
        rw [hf, hB.len]
        exact h2
      have := ech_ind free yes n (col + 1) rows ch R C (by omega) ⟨hB.len, hB.row, hB.ok, hB.cl, fun c hx => by have := hB.chs c hx; omega⟩ (free col rows ch hB (by omega) hz hP) he
      rw [show col + (n + 1) = col + 1 + n by omega]
      exact this
    · have hlt : piv rows col ch.length < m := by rw [← hB.len]; omega
      by_cases hs : stepB rows ch.length (piv rows col ch.length) col = true
      · rw [echF_yes rfl hf hs] at he
        obtain ⟨-, hB2⟩ := stepQ hB (by omega) hp.1 hlt hs
        have hne : (fr (rw' rows (piv rows col ch.length)) col).1 ≠ 0 := by
          apply pivF_at
          show piv rows col ch.length < _
          have := hB.cl
          rw [hB.len]
          omega
        have hzz : ∀ x, ch.length ≤ x → x < piv rows col ch.length → (fr (rw' rows x) col).1 = 0 := fun x h1 h2 => pivF_zero rows col _ _ x h1 h2
        have := ech_ind free yes n (col + 1) _ _ R C (by omega) hB2 (yes col rows ch _ hB (by omega) hp.1 hlt hne hzz hs hP) he
        rw [show col + (n + 1) = col + 1 + n by omega]
        exact this
      · rw [Bool.not_eq_true] at hs
        rw [echF_no rfl hf hs] at he
        cases he
theorem base_start {rows : List (List Fr)} {L : Nat} (hL : L = (rw' rows 0).length) (h : tabB rows 6 = true) : Base rows.length L rows [] 0 := by
  obtain ⟨-, hr⟩ := tabB_out h
  refine ⟨rfl, fun x hx => by rw [hL]; exact (hr x hx).1, fun x hx j hj => ?_, Nat.zero_le _, fun c hc => absurd hc (by simp)⟩
  exact allOk_at (hr x hx).2 (by rw [(hr x hx).1]; omega)
end Go.Proofs.Ytgboaeokbglgdaa

/- Chebyshev: no more weight lies far off the mean than the variance allows. -/
namespace Go.Proofs.Ytgboaeokbglgdaa
open Go.Proofs.Ytgboaeokbglgdaa.RM

theorem wt_rat (ps : List Fr) : ∀ k, ((wtS ps k : Int) : Rat) = sumN (fun i => (((fr ps i).2 : Int) : Rat)) k
  | 0 => rfl
  | k + 1 => by
    show (((wtS ps k + (fr ps k).2 : Int)) : Rat) = sumN _ k + _
    rw [Rat.intCast_add, wt_rat ps k]
theorem mom1_rat (ps : List Fr) : ∀ k, ((momS ps 1 k : Int) : Rat) = sumN (fun i => (((fr ps i).2 : Int) : Rat) * (((fr ps i).1 : Int) : Rat)) k
  | 0 => rfl
  | k + 1 => by
    show (((momS ps 1 k + (fr ps k).2 * (fr ps k).1 : Int)) : Rat) = sumN _ k + _
    rw [Rat.intCast_add, Rat.intCast_mul, mom1_rat ps k]
theorem mom2_rat (ps : List Fr) : ∀ k, ((momS ps 2 k : Int) : Rat) = sumN (fun i => (((fr ps i).2 : Int) : Rat) * (((fr ps i).1 : Int) : Rat) * (((fr ps i).1 : Int) : Rat)) k
  | 0 => rfl
  | k + 1 => by
    show (((momS ps 2 k + (fr ps k).2 * (fr ps k).1 * (fr ps k).1 : Int)) : Rat) = sumN _ k + _
    rw [Rat.intCast_add, Rat.intCast_mul, Rat.intCast_mul, mom2_rat ps k]
/-- squares off a middle, weighed -/
def sqW (ps : List Fr) (u : Rat) (k : Nat) : Rat := sumN (fun i => (((fr ps i).2 : Int) : Rat) * (((((fr ps i).1 : Int) : Rat) - u) * ((((fr ps i).1 : Int) : Rat) - u))) k
theorem sqW_is (ps : List Fr) (u : Rat) : ∀ k, sqW ps u k = ((momS ps 2 k : Int) : Rat) - 2 * u * ((momS ps 1 k : Int) : Rat) + u * u * ((wtS ps k : Int) : Rat)
  | 0 => by show (0 : Rat) = ((0 : Int) : Rat) - 2 * u * ((0 : Int) : Rat) + u * u * ((0 : Int) : Rat); grind
  | k + 1 => by
    have h := sqW_is ps u k
    rw [mom2_rat, mom1_rat, wt_rat] at h ⊢
    show sqW ps u k + _ = (sumN _ k + _) - 2 * u * (sumN _ k + _) + u * u * (sumN _ k + _)
    grind
/-- what the model tells of the variance -/
theorem vary_val {ps : List Fr} (hw : wtS ps ps.length ≠ 0) (h1 : (momA ps 1).2 = true) (h2 : (momA ps 2).2 = true) (hv : (vryV (momA ps 2).1 (momA ps 1).1).2 = false) :
    ((wtS ps ps.length : Int) : Rat) * qf (vryV (momA ps 2).1 (momA ps 1).1).1 = sqW ps (qf (momA ps 1).1) ps.length := by
  have q1 : qf (momA ps 1).1 = Rat.divInt (momS ps 1 ps.length) (wtS ps ps.length) := qf_red h1
  have q2 : qf (momA ps 2).1 = Rat.divInt (momS ps 2 ps.length) (wtS ps ps.length) := qf_red h2
  unfold vryV at hv ⊢
  dsimp only at hv ⊢
  rw [Bool.or_eq_false_iff] at hv
  have k1 : mulK (momA ps 1).1 (momA ps 1).1 = true := by simpa using hv.1
  have k2 : subK (momA ps 2).1 (p1V (momA ps 1).1 (momA ps 1).1) = true := by simpa using hv.2
  have e : p1V (momA ps 1).1 (momA ps 1).1 = mulP (momA ps 1).1 (momA ps 1).1 := by unfold p1V; exact keepF_yes k1
  rw [keepF_yes k2, qf_sub k2, e, qf_mul k1, sqW_is]
  have hW : ((wtS ps ps.length : Int) : Rat) ≠ 0 := fun h => hw (by exact_mod_cast h)
  rw [Rat.divInt_eq_div] at q1 q2
  have m1 : ((momS ps 1 ps.length : Int) : Rat) = qf (momA ps 1).1 * ((wtS ps ps.length : Int) : Rat) := by rw [q1, Rat.div_mul_cancel hW]
  have m2 : ((momS ps 2 ps.length : Int) : Rat) = qf (momA ps 2).1 * ((wtS ps ps.length : Int) : Rat) := by rw [q2, Rat.div_mul_cancel hW]
  rw [m1, m2]
  grind
/-- the weights of those that a test takes -/
def farS (ps : List Fr) (c : Nat → Prop) [DecidablePred c] : Nat → Int
  | 0 => 0
  | k + 1 => if c k then farS ps c k + (fr ps k).2 else farS ps c k
theorem far_le {ps : List Fr} {c : Nat → Prop} [DecidablePred c] {u t : Rat} : ∀ {k : Nat}, (∀ i, i < k → 0 ≤ (fr ps i).2) → (∀ i, i < k → c i → t * t ≤ ((((fr ps i).1 : Int) : Rat) - u) * ((((fr ps i).1 : Int) : Rat) - u)) →
    ((farS ps c k : Int) : Rat) * (t * t) ≤ sqW ps u k
  | 0, _, _ => by show ((0 : Int) : Rat) * _ ≤ (0 : Rat); rw [show ((0 : Int) : Rat) = 0 from rfl, Rat.zero_mul]; exact Rat.le_refl
  | k + 1, hw, hc => by
    have h := far_le (ps := ps) (c := c) (u := u) (t := t) (k := k) (fun i hi => hw i (by omega)) (fun i hi => hc i (by omega))
    have hwk : (0 : Rat) ≤ (((fr ps k).2 : Int) : Rat) := by exact_mod_cast hw k (by omega)
    show ((farS ps c (k + 1) : Int) : Rat) * (t * t) ≤ sqW ps u k + (((fr ps k).2 : Int) : Rat) * (((((fr ps k).1 : Int) : Rat) - u) * ((((fr ps k).1 : Int) : Rat) - u))
    by_cases g : c k
    · rw [show farS ps c (k + 1) = farS ps c k + (fr ps k).2 from if_pos g, Rat.intCast_add]
      have := Rat.mul_le_mul_of_nonneg_left (hc k (by omega) g) hwk
      grind
    · rw [show farS ps c (k + 1) = farS ps c k from if_neg g]
      have hs : (0 : Rat) ≤ ((((fr ps k).1 : Int) : Rat) - u) * ((((fr ps k).1 : Int) : Rat) - u) := by
        rcases Rat.nonneg_total ((((fr ps k).1 : Int) : Rat) - u) with h | h
        · exact Rat.mul_nonneg h h
        · have := Rat.mul_nonneg h h
          grind
      have := Rat.mul_nonneg hwk hs
      grind
end Go.Proofs.Ytgboaeokbglgdaa
