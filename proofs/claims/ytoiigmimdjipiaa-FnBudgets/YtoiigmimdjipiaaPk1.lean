/- Several texts of this proof laid one behind the other: each has its own heading below. -/
import Derived.Test.YtoiigmimdjipiaaTimMath
import Derived.Test.YtoiigmimdjipiaaTimW1
import Derived.Test.YtoiigmimdjipiaaTimW3
import Derived.Laws.CopyOwn
import Derived.BigRegion
import Derived.WalkKit
import Derived.Deep.DeepMust
import Derived.Deep.LoopGhost
import Derived.WalkMore
import Derived.Deep.RegionWith
import Derived.Test.YtoiigmimdjipiaaRatioMath
import Derived.Test.YtoiigmimdjipiaaBudW6

/- The echelon, as the program and as the model reckon it, element by element. -/
namespace Go.Proofs.Ytoiigmimdjipiaa
open Go.Proofs.Ytoiigmimdjipiaa.RM

/-- a row divided -/
def divR (row : List Fr) (by' : Fr) : List Fr := row.map fun p => divP p by'
def divB (row : List Fr) (by' : Fr) : Bool := row.all fun p => divK p by'
/-- one element of what is left of a row, so many times another one taken from it -/
def takeE (o t x : Fr) : Fr := subP o (mulP t x)
def takeK (o t x : Fr) : Bool := subK o (mulP t x)
def takeR (other : List Fr) (t : Fr) (what : List Fr) : List Fr := (List.range other.length).map fun i => takeE (fr other i) t (fr what i)
def takeB (other : List Fr) (t : Fr) (what : List Fr) : Bool := (List.range other.length).all fun i => takeK (fr other i) t (fr what i)
/-- the same as the model reckons it: what it keeps, and was something too great -/
def sDivE (x f : Fr) : Fr := keepF (divK x f) (divP x f)
def sTakeP (t x : Fr) : Fr := keepF (mulK t x) (mulP t x)
def sTakeE (o t x : Fr) : Fr := keepF (subK o (sTakeP t x)) (subP o (sTakeP t x))
def sTakeX (o t x : Fr) : Bool := !mulK t x || !subK o (sTakeP t x)
theorem take_bad (o t x : Fr) : sTakeX o t x = !takeK o t x := by
  unfold sTakeX takeK sTakeP
  by_cases h : mulK t x = true
  · rw [keepF_yes h, h]; rfl
  · rw [Bool.not_eq_true] at h
    rw [h, mul_none h, sub_zero_r]; rfl
theorem take_same {o t x : Fr} (h : takeK o t x = true) : sTakeE o t x = takeE o t x := by
  have hb := take_bad o t x
  rw [h] at hb
  unfold sTakeX at hb
  rw [Bool.not_true, Bool.or_eq_false_iff] at hb
  have hm : mulK t x = true := by simpa using hb.1
  unfold sTakeE sTakeP takeE
  rw [keepF_yes hm]
  unfold takeK at h
  rw [keepF_yes h]
theorem div_same {x f : Fr} (h : divK x f = true) : sDivE x f = divP x f := keepF_yes h
/-- the row of the first one, from 'at' on, with something in the column that is not 0; as many as rows where there is none -/
def pivF (rows : List (List Fr)) (col : Nat) : Nat → Nat → Nat
  | 0, r => r
  | n + 1, r => if (fr (rw' rows r) col).1 = 0 then pivF rows col n (r + 1) else r
def piv (rows : List (List Fr)) (col at' : Nat) : Nat := pivF rows col (rows.length - at') at'
/-- the rows when row r was exchanged with row at -/
def swapT (rows : List (List Fr)) (r at' : Nat) : List (List Fr) := (rows.set r (rw' rows at')).set at' (rw' rows r)
/-- one column's step -/
def stepT (rows : List (List Fr)) (at' r col : Nat) : List (List Fr) :=
  (List.range rows.length).map fun i => if i = at' then divR (rw' rows r) (fr (rw' rows r) col) else takeR (rw' (swapT rows r at') i) (fr (rw' (swapT rows r at') i) col) (divR (rw' rows r) (fr (rw' rows r) col))
def stepB (rows : List (List Fr)) (at' r col : Nat) : Bool :=
  divB (rw' rows r) (fr (rw' rows r) col) && (List.range rows.length).all fun i => decide (i = at') || takeB (rw' (swapT rows r at') i) (fr (rw' (swapT rows r at') i) col) (divR (rw' rows r) (fr (rw' rows r) col))
/-- the columns from col on, n of them: the rows and the chosen columns, or none where something is too great -/
def echF : Nat → Nat → List (List Fr) → List Nat → Option (List (List Fr) × List Nat)
  | 0, _, rows, ch => some (rows, ch)
  | n + 1, col, rows, ch =>
    if piv rows col ch.length = rows.length then echF n (col + 1) rows ch
    else if stepB rows ch.length (piv rows col ch.length) col = true then echF n (col + 1) (stepT rows ch.length (piv rows col ch.length) col) (ch ++ [col])
    else none
def ech (rows : List (List Fr)) : Option (List (List Fr) × List Nat) := echF (rw' rows 0).length 0 rows []
theorem pivF_ge (rows : List (List Fr)) (col : Nat) : ∀ n r, r ≤ pivF rows col n r ∧ pivF rows col n r ≤ r + n
  | 0, r => ⟨Nat.le_refl _, Nat.le_refl _⟩
  | n + 1, r => by
    have := pivF_ge rows col n (r + 1)
    simp only [pivF]
    split <;> omega
theorem piv_le {rows : List (List Fr)} {col at' : Nat} (h : at' ≤ rows.length) : at' ≤ piv rows col at' ∧ piv rows col at' ≤ rows.length := by
  have := pivF_ge rows col (rows.length - at') at'
  unfold piv; omega
theorem pivF_zero (rows : List (List Fr)) (col : Nat) : ∀ n r i, r ≤ i → i < pivF rows col n r → (fr (rw' rows i) col).1 = 0
  | 0, r, i, h1, h2 => by simp only [pivF] at h2; omega
  | n + 1, r, i, h1, h2 => by
    simp only [pivF] at h2
    split at h2
    · rename_i h
      by_cases e : i = r
      · subst e; exact h
      · exact pivF_zero rows col n (r + 1) i (by omega) h2
    · omega
theorem pivF_at (rows : List (List Fr)) (col : Nat) : ∀ n r, pivF rows col n r < r + n → (fr (rw' rows (pivF rows col n r)) col).1 ≠ 0
  | 0, r, h => by simp only [pivF] at h; omega
  | n + 1, r, h => by
    simp only [pivF] at h ⊢
    split
    · rename_i hz
      rw [if_pos hz] at h
      exact pivF_at rows col n (r + 1) (by omega)
    · rename_i hz
      exact hz
end Go.Proofs.Ytoiigmimdjipiaa

/- The walks of the program's steps on rows: one divided, so many times one taken from another. -/
namespace Go.Proofs.Ytoiigmimdjipiaa
open Go.RowKit Go.Proofs.Ytoiigmimdjipiaa.RM

/-- the first k elements by one function, the others as they were -/
def parF (f : Nat → Fr) (row : List Fr) (k : Nat) : List Fr := (List.range row.length).map fun i => if i < k then f i else fr row i
theorem parF_len (f : Nat → Fr) (row : List Fr) (k : Nat) : (parF f row k).length = row.length := by simp [parF]
theorem parF_zero (f : Nat → Fr) (row : List Fr) : parF f row 0 = row := by
  apply List.ext_getElem
  · rw [parF_len]
  · intro i h1 h2
    simp [parF, fr, h2]
theorem parF_set (f : Nat → Fr) (row : List Fr) (k : Nat) : (parF f row k).set k (f k) = parF f row (k + 1) := by
  apply List.ext_getElem
  · simp [parF]
  · intro i h1 h2
    simp only [parF, List.getElem_set, List.getElem_map, List.getElem_range]
    by_cases e : k = i
    · subst e
      rw [if_pos rfl, if_pos (by omega)]
    · rw [if_neg e]
      by_cases h3 : i < k
      · rw [if_pos h3, if_pos (by omega)]
      · rw [if_neg h3, if_neg (by omega)]
theorem parF_at (f : Nat → Fr) (row : List Fr) (k : Nat) (h : k < row.length) : (parF f row k)[k]?.getD (0, 0) = fr row k := by simp [parF, h]
theorem parF_div (row : List Fr) (g : Fr) : parF (fun i => divP (fr row i) g) row row.length = divR row g := by
  apply List.ext_getElem
  · simp [parF, divR]
  · intro i h1 h2
    rw [parF_len] at h1
    simp [parF, divR, fr, h1]
theorem parF_take (row : List Fr) (t : Fr) (what : List Fr) : parF (fun i => takeE (fr row i) t (fr what i)) row row.length = takeR row t what := by
  apply List.ext_getElem
  · simp [parF, takeR]
  · intro i h1 h2
    rw [parF_len] at h1
    simp [parF, takeR, h1]
theorem divB_no {row : List Fr} {g : Fr} {k : Nat} (hk : k < row.length) (h : divK (fr row k) g = false) : divB row g = false := all_no _ (0, 0) hk h
theorem divB_yes {row : List Fr} {g : Fr} (h : ∀ k, k < row.length → divK (fr row k) g = true) : divB row g = true := all_yes _ (0, 0) h
theorem takeB_no {row : List Fr} {t : Fr} {what : List Fr} {k : Nat} (hk : k < row.length) (h : takeK (fr row k) t (fr what k) = false) : takeB row t what = false := by
  rw [← Bool.not_eq_true]
  intro ha
  unfold takeB at ha
  rw [List.all_eq_true] at ha
  have := ha k (by simpa using hk)
  rw [h] at this
  exact absurd this (by simp)
theorem takeB_yes {row : List Fr} {t : Fr} {what : List Fr} (h : ∀ k, k < row.length → takeK (fr row k) t (fr what k) = true) : takeB row t what = true := by
  unfold takeB
  rw [List.all_eq_true]
  intro k hk
  exact h k (by simpa using hk)

end Go.Proofs.Ytoiigmimdjipiaa

/- The walk of the program's takeFromRow. -/
namespace Go.Proofs.Ytoiigmimdjipiaa
open Go.RowKit Go.Proofs.Ytoiigmimdjipiaa.RM

end Go.Proofs.Ytoiigmimdjipiaa

/- A copy of elements of two cells into a row that is known whole. -/
namespace Go.Proofs.Ytoiigmimdjipiaa
open Go Go.RowKit

theorem run_copy_two {P : Program} (w : World) (dT sT ty elem : TypeId) (g o dLen dCap : Nat) (a : Addr) (sLen sCap : Nat) (cur : Array Value) (t : TypeId) (cs : List Value)
    (hu : P.underlying dT = some (.slice elem)) (hs : (P.info? elem).map (·.size) = some 2)
    (hg : w.heap[g]? = some (.cells cur t (0, 0))) (hn : cs.length = Nat.min sLen dLen * 2)
    (hsrc : ∀ j v, cs[j]? = some v → w.cell? (a.add j) = some v) (hfit : o + cs.length ≤ cur.size) (h1 : ∀ v ∈ cs, v.oneCell' = true) :
    (Builtin.copy_ #[dT, sT] ty #[.slice (some ⟨g, o, none⟩) dLen dCap, .slice (some a) sLen sCap]).run P w =
      .ok (goInt (Nat.min sLen dLen)) (w.setRow g (cur.toList.take o ++ cs ++ cur.toList.drop (o + cs.length)).toArray) := by
  have hl := run_loadCells_list (P := P) w a cs hsrc
  have hst := run_storeCells_at P g o t cs 0 cur w hg (by simpa using hfit) h1
  cases hq : P.info? elem with
  | none => simp [hq] at hs
  | some i =>
    have hi : i.size = 2 := by simpa [hq] using hs
    simp [Builtin.copy_, run_underlying hu, Builtin.lenOf, Builtin.firstCells, sizeOf, typeInfo, hq, hi, ← hn, hl, hst]
theorem wpList_copy_two {P : Program} {w : World} {ops : Array Oper} {rest : List Oper} {o : Oper} {a : Act} {Q : Exit → Act → World → Prop} (hgd : o.guard = none) (d s : Operand) (dT sT : TypeId)
    (ho : o.op = .call { callee := .builtin .copy, args := #[d, s], argTypes := #[dT, sT] }) (elem : TypeId) (hu : P.underlying dT = some (.slice elem)) (hsz : (P.info? elem).map (·.size) = some 2)
    (g off dLen dCap : Nat) (ad : Addr) (sLen sCap : Nat) (hd : a.eval d = .slice (some ⟨g, off, none⟩) dLen dCap) (hs : a.eval s = .slice (some ad) sLen sCap)
    (cur : Array Value) (t : TypeId) (hg : w.heap[g]? = some (.cells cur t (0, 0))) (cs : List Value) (hn : cs.length = Nat.min sLen dLen * 2)
    (hsrc : ∀ j v, cs[j]? = some v → w.cell? (ad.add j) = some v) (hfit : off + cs.length ≤ cur.size) (h1 : ∀ v ∈ cs, v.oneCell' = true)
    (h : wpList P ops Q rest (a.put o.dst (goInt (Nat.min sLen dLen))) (w.setRow g (cur.toList.take off ++ (cs ++ cur.toList.drop (off + cs.length))).toArray)) : wpList P ops Q (o :: rest) a w := by
  refine wpList_plain hgd fun K hK => ?_
  have hrun := run_copy_two (P := P) w dT sT o.type elem g off dLen dCap ad sLen sCap cur t cs hu hsz hg hn hsrc hfit h1
  unfold Oper.wp
  simp [execOp, ho, resolve, invoke, builtin, hd, hs, hrun, Result.andThen]
  exact hK _ _ h
end Go.Proofs.Ytoiigmimdjipiaa

/- The walk of the program's copiedRows. -/
namespace Go.Proofs.Ytoiigmimdjipiaa
open Go.RowKit Go.Proofs.Ytoiigmimdjipiaa.RM

theorem sizeF : (Try.prog.info? 29).map (fun i => i.size) = some 2 := by kernel_rfl
/-- a row as a walk that copies wants it -/
theorem row_src {W : World} {v : Value} {ps : List Fr} {a : Option Addr} {n c : Nat} (h : RdR W v ps) (e : v = .slice a n c) (h1 : 1 ≤ ps.length) : n = ps.length ∧ ∃ b off, a = some ⟨b, off, none⟩ ∧ ∀ j u, (cellsR ps)[j]? = some u → W.cell? ((⟨b, off, none⟩ : Addr).add j) = some u := by
  obtain ⟨a', c', rfl, _, _, _, h5⟩ := h
  cases e
  refine ⟨rfl, ?_⟩
  obtain ⟨b, off, rfl, _, _⟩ := h5 0 (by omega)
  refine ⟨b, off, rfl, fun j u hj => ?_⟩
  have hl : j < ps.length * 2 := by
    have := (List.getElem?_eq_some_iff.1 hj).1
    rw [cellsR_len] at this
    exact this
  obtain ⟨b', off', e, k1, k2⟩ := h5 (j / 2) (by omega)
  cases e
  have hc := cellsR_at ps (j / 2) (by omega)
  have ea : (⟨b, off, none⟩ : Addr).add j = ⟨b, off + j, none⟩ := by by_cases i0 : j = 0 <;> simp [Addr.add, i0]
  rw [ea]
  rcases Nat.mod_two_eq_zero_or_one j with m | m
  · have ej : j / 2 * 2 = j := by omega
    rw [ej] at hc k1
    rw [hc.1] at hj
    injection hj with hj
    rw [k1, ← hj]; rfl
  · have ej : j / 2 * 2 + 1 = j := by omega
    rw [ej] at hc
    rw [Nat.add_assoc, ej] at k2
    rw [hc.2] at hj
    injection hj with hj
    rw [k2, ← hj]; rfl
theorem cellsR_one (ps : List Fr) : ∀ v ∈ cellsR ps, v.oneCell' = true := by
  intro v hv
  unfold cellsR at hv
  rw [List.mem_flatMap] at hv
  obtain ⟨p, _, hp⟩ := hv
  simp at hp
  rcases hp with rfl | rfl <;> rfl
/-- a row that was made, laid over whole -/
theorem row_laid {W : World} {base G L : Nat} {cur : Array Value} {ps : List Fr} (hb : base ≤ G) (hL : ps.length = L) (hm : L ≤ 1000) (hg : W.heap[G]? = some (.cells cur 29 (0, 0))) (hs : cur.size = L * 2) :
    (W.setRow G (cur.toList.take 0 ++ (cellsR ps ++ cur.toList.drop (0 + (cellsR ps).length))).toArray).ownsRow base 29 2 (.slice (some ⟨G, 0, none⟩) L L) L (cellsR ps) ∧
    W.grownBy (W.setRow G (cur.toList.take 0 ++ (cellsR ps ++ cur.toList.drop (0 + (cellsR ps).length))).toArray) (some G) := by
  have hd : cur.toList.drop (0 + (cellsR ps).length) = [] := by
    rw [cellsR_len, hL, Nat.zero_add, List.drop_eq_nil_iff]
    simp [hs]
  rw [hd, List.take_zero, List.nil_append, List.append_nil]
  refine ⟨⟨by rw [cellsR_len, hL], .inr ⟨G, L, (cellsR ps).toArray, rfl, hb, setRow_heap W G _ _ _ _ hg, Nat.le_refl _, by unfold maxLen; omega, by simp [cellsR_len, hL], ?_⟩⟩, ⟨rfl, rfl, rfl, by simp [World.setRow], fun k _ hk => setRow_other W G k _ (fun e => hk (by rw [e]))⟩⟩
  rw [List.toList_toArray, List.take_of_length_le (by rw [cellsR_len, hL]; exact Nat.le_refl _)]

end Go.Proofs.Ytoiigmimdjipiaa

/- The echelon that a pointer holds; the walk of choose. -/
namespace Go.Proofs.Ytoiigmimdjipiaa
open Go.RowKit Go.Proofs.Ytoiigmimdjipiaa.RM

/-- whole numbers as cells -/
def natV (ns : List Nat) : List Value := ns.map fun (n : Nat) => Value.int .i64 (n : Int)
/-- two lists that have nothing in common lie apart -/
theorem own_apart {W : World} {base e n m : Nat} {vc vf : Value} {ch fe : List Nat} (h : W.ownsRow base e 1 vc n (natV ch)) (k : W.ownsRow base e 1 vf m (natV fe)) (nc : ch = [] → vc = .slice none 0 0) (nf : fe = [] → vf = .slice none 0 0) (ne : ∀ c, c ∈ ch → ∀ f, f ∈ fe → c ≠ f) :
    ∀ b, vc.ownBlock = some b → vf.ownBlock ≠ some b := by
  intro b hb hb2
  cases ch with
  | nil => rw [nc rfl] at hb; cases hb
  | cons c ch =>
    cases fe with
    | nil => rw [nf rfl] at hb2; cases hb2
    | cons f fe =>
      have h1 := h.cells hb 0 (.int .i64 (c : Int)) (by simp [natV])
      have h2 := k.cells hb2 0 (.int .i64 (f : Int)) (by simp [natV])
      rw [h1] at h2
      have : (c : Int) = f := by injection h2 with h2; injection h2
      exact ne c (by simp) f (by simp) (by omega)
/-- the cells of a struct of three -/
theorem cells3 {W : World} {E : Nat} {a b c : Value} {t : TypeId} (h : W.heap[E]? = some (.cells #[a, b, c] t (0, 0))) :
    W.cell? ⟨E, 0, none⟩ = some a ∧ W.cell? ⟨E, 1, none⟩ = some b ∧ W.cell? ⟨E, 2, none⟩ = some c ∧ W.frozen? ⟨E, 0, none⟩ = false ∧ W.frozen? ⟨E, 1, none⟩ = false ∧ W.frozen? ⟨E, 2, none⟩ = false ∧ E < W.heap.size := by
  have hl : E < W.heap.size := (Array.getElem?_eq_some_iff.1 h).1
  refine ⟨?_, ?_, ?_, ?_, ?_, ?_, hl⟩ <;> simp [World.cell?, World.frozen?, h]
/-- a block of a type that no row has -/
theorem own_ne {W : World} {base e size n E : Nat} {v : Value} {xs : List Value} {cs : Array Value} {t : TypeId} {f : Nat × Nat} (h : W.ownsRow base e size v n xs) (hE : W.heap[E]? = some (.cells cs t f)) (hne : e ≠ t) : ∀ b, v.ownBlock = some b → b ≠ E := by
  rintro b hb rfl
  obtain ⟨cs', h'⟩ := own_type h hb
  rw [h'] at hE
  cases hE
  exact hne rfl
/-- where an exchange takes a row from -/
def exch (i r x : Nat) : Nat := if r = x then i else if i = x then r else x
theorem exch_lt {i r x n : Nat} (hi : i < n) (hr : r < n) (hx : x < n) : exch i r x < n := by unfold exch; split <;> (try split) <;> omega
theorem exch_inj {i r x y : Nat} (h : exch i r x = exch i r y) : x = y := by
  unfold exch at h
  split at h <;> split at h <;> (try split at h) <;> (try split at h) <;> omega
theorem vl_exch (us : List Value) (i r x : Nat) (hi : i < us.length) (hr : r < us.length) : vl ((us.set i (vl us r)).set r (vl us i)) x = vl us (exch i r x) := by
  rw [vl_set _ _ _ _ (by rw [List.length_set]; exact hr), vl_set _ _ _ _ hi]
  unfold exch
  split <;> (try split) <;> rfl
theorem rw_exch (rows : List (List Fr)) (i r x : Nat) (hi : i < rows.length) (hr : r < rows.length) : rw' (swapT rows i r) x = rw' rows (exch i r x) := by
  unfold swapT
  rw [rw_set _ _ _ _ (by rw [List.length_set]; exact hr), rw_set _ _ _ _ hi]
  unfold exch
  split <;> (try split) <;> rfl
theorem swapT_len (rows : List (List Fr)) (i r : Nat) : (swapT rows i r).length = rows.length := by simp [swapT]
/-- two rows of a table are exchanged -/
theorem Tab.swap {W : World} {base G n c i r : Nat} {us : List Value} {rows : List (List Fr)} (h : Tab W base (.slice (some ⟨G, 0, none⟩) n c) us rows) (hi : i < us.length) (hr : r < us.length) :
    Tab ((W.setCell ⟨G, i, none⟩ (vl us r)).setCell ⟨G, r, none⟩ (vl us i)) base (.slice (some ⟨G, 0, none⟩) n c) ((us.set i (vl us r)).set r (vl us i)) (swapT rows i r) ∧ W.grownBy ((W.setCell ⟨G, i, none⟩ (vl us r)).setCell ⟨G, r, none⟩ (vl us i)) (some G) := by
  have hn : us.length = n := by
    rcases h.outer.2 with ⟨e, _⟩ | ⟨g', c', cur, e, _⟩ <;> cases e; rfl
  subst hn
  obtain ⟨s1, s2⟩ := h.outer.stored i (vl us r)
  obtain ⟨t1, t2⟩ := s1.stored r (vl us i)
  have keep : ∀ {m : Nat} {x : Value} {xs : List Value}, W.ownsRow base 29 2 x m xs → ((W.setCell ⟨G, i, none⟩ (vl us r)).setCell ⟨G, r, none⟩ (vl us i)).ownsRow base 29 2 x m xs := fun hx => own_oth (own_oth hx h.outer (by decide) s2) s1 (by decide) t2
  have hl := h.len
  refine ⟨⟨by rw [List.length_set, List.length_set]; exact t1, by rw [List.length_set, List.length_set, swapT_len]; exact hl, fun x hx => ?_, fun x y hx hy hne b hb => ?_⟩, ?_⟩
  · rw [List.length_set, List.length_set] at hx
    rw [vl_exch _ _ _ _ hi hr, rw_exch _ _ _ _ (by omega) (by omega)]
    exact keep (h.inner _ (exch_lt hi hr hx))
  · rw [List.length_set, List.length_set] at hx hy
    rw [vl_exch _ _ _ _ hi hr] at hb ⊢
    exact h.apart _ _ (exch_lt hi hr hx) (exch_lt hi hr hy) (fun e => hne (exch_inj e)) b hb
  · exact ⟨t2.os.trans s2.os, t2.tape.trans s2.tape, t2.output.trans s2.output, Nat.le_trans s2.size t2.size, fun k hk hne => (t2.block k (Nat.lt_of_lt_of_le hk s2.size) hne).trans (s2.block k hk hne)⟩
theorem natV_app (ch : List Nat) (c : Nat) : natV (ch ++ [c]) = natV ch ++ [Value.int .i64 (c : Int)] := by simp [natV]
end Go.Proofs.Ytoiigmimdjipiaa

/- The walk of choose: one column's step. -/
namespace Go.Proofs.Ytoiigmimdjipiaa
open Go.RowKit Go.Proofs.Ytoiigmimdjipiaa.RM

/-- the step's rows when k of them were taken from -/
def stepP (rows : List (List Fr)) (at' r col k : Nat) : List (List Fr) :=
  (List.range rows.length).map fun x => if x = at' then divR (rw' rows r) (fr (rw' rows r) col) else if x < k then takeR (rw' (swapT rows r at') x) (fr (rw' (swapT rows r at') x) col) (divR (rw' rows r) (fr (rw' rows r) col)) else rw' (swapT rows r at') x
theorem stepP_len (rows : List (List Fr)) (at' r col k : Nat) : (stepP rows at' r col k).length = rows.length := by simp [stepP]
theorem stepP_at (rows : List (List Fr)) (at' r col k x : Nat) (hx : x < rows.length) : rw' (stepP rows at' r col k) x = if x = at' then divR (rw' rows r) (fr (rw' rows r) col) else if x < k then takeR (rw' (swapT rows r at') x) (fr (rw' (swapT rows r at') x) col) (divR (rw' rows r) (fr (rw' rows r) col)) else rw' (swapT rows r at') x := by
  unfold stepP rw'
  simp [hx]
theorem rows_ext {a b : List (List Fr)} (hl : a.length = b.length) (h : ∀ x, x < a.length → rw' a x = rw' b x) : a = b := by
  apply List.ext_getElem hl
  intro x h1 h2
  have := h x h1
  simpa [rw', h1, h2] using this
theorem stepP_zero (rows : List (List Fr)) (at' r col : Nat) (h : at' < rows.length) : (swapT rows r at').set at' (divR (rw' rows r) (fr (rw' rows r) col)) = stepP rows at' r col 0 := by
  apply rows_ext (by simp [stepP_len, swapT_len])
  intro x hx
  rw [List.length_set, swapT_len] at hx
  rw [rw_set _ _ _ _ (by rw [swapT_len]; exact h), stepP_at _ _ _ _ _ _ hx]
  by_cases e : at' = x
  · rw [if_pos e, if_pos e.symm]
  · rw [if_neg e, if_neg (fun h => e h.symm), if_neg (by omega)]
theorem stepP_skip (rows : List (List Fr)) (at' r col : Nat) : stepP rows at' r col at' = stepP rows at' r col (at' + 1) := by
  apply rows_ext (by simp [stepP_len])
  intro x hx
  rw [stepP_len] at hx
  rw [stepP_at _ _ _ _ _ _ hx, stepP_at _ _ _ _ _ _ hx]
  by_cases e : x = at'
  · rw [if_pos e, if_pos e]
  · rw [if_neg e, if_neg e]
    by_cases e2 : x < at'
    · rw [if_pos e2, if_pos (by omega)]
    · rw [if_neg e2, if_neg (by omega)]
theorem stepP_set (rows : List (List Fr)) (at' r col k : Nat) (hk : k < rows.length) (hne : k ≠ at') : (stepP rows at' r col k).set k (takeR (rw' (swapT rows r at') k) (fr (rw' (swapT rows r at') k) col) (divR (rw' rows r) (fr (rw' rows r) col))) = stepP rows at' r col (k + 1) := by
  apply rows_ext (by simp [stepP_len])
  intro x hx
  rw [List.length_set, stepP_len] at hx
  rw [rw_set _ _ _ _ (by rw [stepP_len]; exact hk), stepP_at _ _ _ _ _ _ hx, stepP_at _ _ _ _ _ _ hx]
  by_cases e : k = x
  · subst e
    rw [if_pos rfl, if_neg hne, if_pos (by omega)]
  · rw [if_neg e]
    by_cases e2 : x = at'
    · rw [if_pos e2, if_pos e2]
    · rw [if_neg e2, if_neg e2]
      by_cases e3 : x < k
      · rw [if_pos e3, if_pos (by omega)]
      · rw [if_neg e3, if_neg (by omega)]
theorem stepP_all (rows : List (List Fr)) (at' r col : Nat) : stepP rows at' r col rows.length = stepT rows at' r col := by
  apply rows_ext (by simp [stepP_len, stepT])
  intro x hx
  rw [stepP_len] at hx
  rw [stepP_at _ _ _ _ _ _ hx, if_pos hx]
  simp [rw', stepT, hx]
theorem stepB_div {rows : List (List Fr)} {at' r col : Nat} (h : divB (rw' rows r) (fr (rw' rows r) col) = false) : stepB rows at' r col = false := by
  unfold stepB; rw [h]; rfl
theorem stepB_take {rows : List (List Fr)} {at' r col k : Nat} (hk : k < rows.length) (hne : k ≠ at') (h : takeB (rw' (swapT rows r at') k) (fr (rw' (swapT rows r at') k) col) (divR (rw' rows r) (fr (rw' rows r) col)) = false) : stepB rows at' r col = false := by
  rw [← Bool.not_eq_true]
  intro hb
  unfold stepB at hb
  rw [Bool.and_eq_true, List.all_eq_true] at hb
  have := hb.2 k (by simpa using hk)
  rw [h] at this
  simp [hne] at this
theorem stepB_yes {rows : List (List Fr)} {at' r col : Nat} (h : divB (rw' rows r) (fr (rw' rows r) col) = true) (h2 : ∀ k, k < rows.length → k ≠ at' → takeB (rw' (swapT rows r at') k) (fr (rw' (swapT rows r at') k) col) (divR (rw' rows r) (fr (rw' rows r) col)) = true) : stepB rows at' r col = true := by
  unfold stepB
  rw [h, Bool.true_and, List.all_eq_true]
  intro k hk
  by_cases e : k = at'
  · simp [e]
  · rw [h2 k (by simpa using hk) e]; simp
theorem divR_len (row : List Fr) (f : Fr) : (divR row f).length = row.length := by simp [divR]
/-- a row's elements as a walk reads them -/
theorem row_at {W : World} {base b n c : Nat} {ps : List Fr} (h : W.ownsRow base 29 2 (.slice (some ⟨b, 0, none⟩) n c) ps.length (cellsR ps)) (j : Nat) (hj : j < ps.length) : W.cell? ⟨b, j * 2, none⟩ = some (.int .i64 (fr ps j).1) ∧ W.cell? ⟨b, j * 2 + 1, none⟩ = some (.int .i64 (fr ps j).2) := by
  have hn : n = ps.length := by
    rcases h.2 with ⟨e, _⟩ | ⟨g', c', cur, e, _⟩ <;> cases e; rfl
  subst hn
  exact own_R h rfl j hj
end Go.Proofs.Ytoiigmimdjipiaa

/- The walk of choose. -/
namespace Go.Proofs.Ytoiigmimdjipiaa
open Go.RowKit Go.Proofs.Ytoiigmimdjipiaa.RM
theorem hid {p : Prop} (h : p) : Hid p := h
theorem infoInt : (Try.prog.info? 3).map (fun i => (i.zero, i.size, i.bytes)) = some (some (.int .i64 0), 1, 8) := by kernel_rfl


end Go.Proofs.Ytoiigmimdjipiaa

/- What a column's step keeps; how the echelon goes on by columns. -/
namespace Go.Proofs.Ytoiigmimdjipiaa
open Go.Proofs.Ytoiigmimdjipiaa.RM

theorem takeR_len (o : List Fr) (t : Fr) (x : List Fr) : (takeR o t x).length = o.length := by simp [takeR]
theorem stepT_len (rows : List (List Fr)) (at' r col : Nat) : (stepT rows at' r col).length = rows.length := by simp [stepT]
/-- the rows stay as long as they were -/
theorem stepT_row {rows : List (List Fr)} {at' r col L : Nat} (hL : ∀ x, x < rows.length → (rw' rows x).length = L) (ha : at' < rows.length) (hr : r < rows.length) : ∀ x, x < (stepT rows at' r col).length → (rw' (stepT rows at' r col) x).length = L := by
  intro x hx
  rw [stepT_len] at hx
  rw [← stepP_all, stepP_at _ _ _ _ _ _ hx, if_pos hx]
  split
  · rw [divR_len]; exact hL r hr
  · rw [takeR_len, rw_exch _ _ _ _ hr ha]
    exact hL _ (exch_lt hr ha hx)
theorem echF_free {n col : Nat} {rows : List (List Fr)} {ch : List Nat} (h : piv rows col ch.length = rows.length) : echF (n + 1) col rows ch = echF n (col + 1) rows ch := by
  simp only [echF]; rw [if_pos h]
theorem echF_yes {n col r : Nat} {rows : List (List Fr)} {ch : List Nat} (hr : r = piv rows col ch.length) (h : r ≠ rows.length) (hb : stepB rows ch.length r col = true) : echF (n + 1) col rows ch = echF n (col + 1) (stepT rows ch.length r col) (ch ++ [col]) := by
  subst hr
  simp only [echF]; rw [if_neg h, if_pos hb]
theorem echF_no {n col r : Nat} {rows : List (List Fr)} {ch : List Nat} (hr : r = piv rows col ch.length) (h : r ≠ rows.length) (hb : stepB rows ch.length r col = false) : echF (n + 1) col rows ch = none := by
  subst hr
  simp only [echF]; rw [if_neg h, if_neg (by rw [hb]; decide)]
/-- the row that a search from the top finds -/
theorem pivF_is (rows : List (List Fr)) (col : Nat) : ∀ n r i, r ≤ i → i < r + n → (∀ x, r ≤ x → x < i → (fr (rw' rows x) col).1 = 0) → (fr (rw' rows i) col).1 ≠ 0 → pivF rows col n r = i
  | 0, r, i, h1, h2, _, _ => by omega
  | n + 1, r, i, h1, h2, hz, hn => by
    simp only [pivF]
    by_cases e : i = r
    · subst e; rw [if_neg hn]
    · rw [if_pos (hz r (Nat.le_refl _) (by omega))]
      exact pivF_is rows col n (r + 1) i (by omega) (by omega) (fun x h3 h4 => hz x (by omega) h4) hn
theorem pivF_none (rows : List (List Fr)) (col : Nat) : ∀ n r, (∀ x, r ≤ x → x < r + n → (fr (rw' rows x) col).1 = 0) → pivF rows col n r = r + n
  | 0, r, _ => rfl
  | n + 1, r, hz => by
    simp only [pivF]
    rw [if_pos (hz r (Nat.le_refl _) (by omega)), pivF_none rows col n (r + 1) (fun x h3 h4 => hz x (by omega) (by omega))]
    omega
end Go.Proofs.Ytoiigmimdjipiaa

/- The echelon's other list grows; how it begins. -/
namespace Go.Proofs.Ytoiigmimdjipiaa
open Go.RowKit Go.Proofs.Ytoiigmimdjipiaa.RM

theorem rw_len_pos {rows : List (List Fr)} {cols : Int} (h : tabB rows cols = true) : ∀ x, x < rows.length → (rw' rows x).length = (rw' rows 0).length := fun x hx => ((tabB_out h).2 x hx).1
end Go.Proofs.Ytoiigmimdjipiaa

/- The echelon as the model reckons it, element by element, with what it remembers; the free columns. -/
namespace Go.Proofs.Ytoiigmimdjipiaa
open Go.Proofs.Ytoiigmimdjipiaa.RM

/-- the first j elements turned -/
def upto (f : Nat → Fr) (ps : List Fr) (j : Nat) : List Fr := (List.range ps.length).map fun i => if i < j then f i else fr ps i
theorem upto_len (f : Nat → Fr) (ps : List Fr) (j : Nat) : (upto f ps j).length = ps.length := by simp [upto]
theorem upto_at (f : Nat → Fr) (ps : List Fr) (j i : Nat) (h : i < ps.length) : fr (upto f ps j) i = if i < j then f i else fr ps i := by simp [upto, fr, h]
theorem fr_ext {a b : List Fr} (hl : a.length = b.length) (h : ∀ x, x < a.length → fr a x = fr b x) : a = b := by
  apply List.ext_getElem hl
  intro x h1 h2
  have := h x h1
  simpa [fr, h1, h2] using this
theorem fr_set (ps : List Fr) (k i : Nat) (r : Fr) (hk : k < ps.length) : fr (ps.set k r) i = if k = i then r else fr ps i := by
  unfold fr
  rw [List.getElem?_set]
  by_cases e : k = i
  · subst e; rw [if_pos rfl, if_pos rfl, if_pos hk]; rfl
  · rw [if_neg e, if_neg e]
theorem upto_zero (f : Nat → Fr) (ps : List Fr) : upto f ps 0 = ps := by
  apply fr_ext (upto_len _ _ _)
  intro x hx
  rw [upto_len] at hx
  rw [upto_at _ _ _ _ hx, if_neg (by omega)]
theorem upto_set (f : Nat → Fr) (ps : List Fr) (j : Nat) (hj : j < ps.length) : (upto f ps j).set j (f j) = upto f ps (j + 1) := by
  apply fr_ext (by simp [upto_len])
  intro x hx
  rw [List.length_set, upto_len] at hx
  rw [fr_set _ _ _ _ (by rw [upto_len]; exact hj), upto_at _ _ _ _ hx, upto_at _ _ _ _ hx]
  by_cases e : j = x
  · subst e; rw [if_pos rfl, if_pos (by omega)]
  · rw [if_neg e]
    by_cases e2 : x < j
    · rw [if_pos e2, if_pos (by omega)]
    · rw [if_neg e2, if_neg (by omega)]
theorem upto_all (f : Nat → Fr) (ps : List Fr) : upto f ps ps.length = (List.range ps.length).map f := by
  unfold upto
  apply List.map_congr_left
  intro x hx
  rw [List.mem_range] at hx
  rw [if_pos hx]
/-- the first k rows turned -/
def uptoT (f : Nat → List Fr) (rows : List (List Fr)) (k : Nat) : List (List Fr) := (List.range rows.length).map fun i => if i < k then f i else rw' rows i
theorem uptoT_len (f : Nat → List Fr) (rows : List (List Fr)) (k : Nat) : (uptoT f rows k).length = rows.length := by simp [uptoT]
theorem uptoT_at (f : Nat → List Fr) (rows : List (List Fr)) (k i : Nat) (h : i < rows.length) : rw' (uptoT f rows k) i = if i < k then f i else rw' rows i := by simp [uptoT, rw', h]
theorem uptoT_zero (f : Nat → List Fr) (rows : List (List Fr)) : uptoT f rows 0 = rows := by
  apply rows_ext (uptoT_len _ _ _)
  intro x hx
  rw [uptoT_len] at hx
  rw [uptoT_at _ _ _ _ hx, if_neg (by omega)]
theorem uptoT_set (f : Nat → List Fr) (rows : List (List Fr)) (k : Nat) (hk : k < rows.length) : (uptoT f rows k).set k (f k) = uptoT f rows (k + 1) := by
  apply rows_ext (by simp [uptoT_len])
  intro x hx
  rw [List.length_set, uptoT_len] at hx
  rw [rw_set _ _ _ _ (by rw [uptoT_len]; exact hk), uptoT_at _ _ _ _ hx, uptoT_at _ _ _ _ hx]
  by_cases e : k = x
  · subst e; rw [if_pos rfl, if_pos (by omega)]
  · rw [if_neg e]
    by_cases e2 : x < k
    · rw [if_pos e2, if_pos (by omega)]
    · rw [if_neg e2, if_neg (by omega)]
/-- a row that stays -/
theorem uptoT_same (f : Nat → List Fr) (rows : List (List Fr)) (k : Nat) (hk : k < rows.length) (h : f k = rw' rows k) : uptoT f rows k = uptoT f rows (k + 1) := by
  apply rows_ext (by simp [uptoT_len])
  intro x hx
  rw [uptoT_len] at hx
  rw [uptoT_at _ _ _ _ hx, uptoT_at _ _ _ _ hx]
  by_cases e : x = k
  · subst e; rw [if_neg (by omega), if_pos (by omega), h]
  · by_cases e2 : x < k
    · rw [if_pos e2, if_pos (by omega)]
    · rw [if_neg e2, if_neg (by omega)]
/-- was one of the first n so -/
def xTo (b : Nat → Bool) (n : Nat) : Bool := (List.range n).any b
theorem xTo_zero (b : Nat → Bool) : xTo b 0 = false := rfl
theorem xTo_succ (b : Nat → Bool) (n : Nat) : xTo b (n + 1) = (xTo b n || b n) := by simp [xTo, List.range_succ]
theorem xTo_not (b : Nat → Bool) (n : Nat) : xTo b n = !(List.range n).all (fun i => !b i) := by
  unfold xTo
  induction n with
  | zero => rfl
  | succ n ih => rw [List.range_succ, List.any_append, List.all_append, ih]; simp [Bool.not_and]
theorem xTo_congr {b c : Nat → Bool} {n : Nat} (h : ∀ i, i < n → b i = c i) : xTo b n = xTo c n := by
  induction n with
  | zero => rfl
  | succ n ih => rw [xTo_succ, xTo_succ, ih (fun i hi => h i (by omega)), h n (by omega)]
theorem xTo_no {b : Nat → Bool} {n : Nat} (h : xTo b n = false) : ∀ i, i < n → b i = false := by
  intro i hi
  induction n with
  | zero => omega
  | succ n ih =>
    rw [xTo_succ, Bool.or_eq_false_iff] at h
    by_cases e : i = n
    · subst e; exact h.2
    · exact ih h.1 (by omega)
/-- a row divided, as the model does; was something too great -/
def sDivF (row : List Fr) (f : Fr) : Nat → Fr := fun i => sDivE (fr row i) f
def sDivB (row : List Fr) (f : Fr) : Nat → Bool := fun i => !divK (fr row i) f
def sTakeF (other : List Fr) (t : Fr) (what : List Fr) : Nat → Fr := fun i => sTakeE (fr other i) t (fr what i)
def sTakeB (other : List Fr) (t : Fr) (what : List Fr) : Nat → Bool := fun i => sTakeX (fr other i) t (fr what i)
theorem map_fr (g : Fr → Fr) (row : List Fr) : (List.range row.length).map (fun i => g (fr row i)) = row.map g := by
  apply List.ext_getElem (by simp)
  intro x h1 h2
  simp at h1 h2
  simp [fr, h1]
theorem all_fr (g : Fr → Bool) (row : List Fr) : (List.range row.length).all (fun i => g (fr row i)) = row.all g := by
  rw [Bool.eq_iff_iff, List.all_eq_true, List.all_eq_true]
  constructor
  · intro h x hx
    obtain ⟨k, hk, rfl⟩ := List.mem_iff_getElem.1 hx
    have := h k (List.mem_range.2 hk)
    simpa [fr, hk] using this
  · intro h i hi
    rw [List.mem_range] at hi
    have := h row[i] (List.getElem_mem hi)
    simpa [fr, hi] using this
theorem sDiv_flag (row : List Fr) (f : Fr) : xTo (sDivB row f) row.length = !divB row f := by
  rw [xTo_not]
  unfold sDivB divB
  simp only [Bool.not_not]
  rw [all_fr (fun p => divK p f)]
theorem sDiv_same {row : List Fr} {f : Fr} (h : divB row f = true) : upto (sDivF row f) row row.length = divR row f := by
  rw [upto_all]
  unfold sDivF divR
  rw [map_fr (fun p => sDivE p f)]
  apply List.map_congr_left
  intro p hp
  unfold divB at h
  rw [List.all_eq_true] at h
  exact div_same (h p hp)
theorem sTake_flag (other : List Fr) (t : Fr) (what : List Fr) : xTo (sTakeB other t what) other.length = !takeB other t what := by
  rw [xTo_not]
  unfold sTakeB takeB
  simp only [take_bad, Bool.not_not]
theorem sTake_same {other : List Fr} {t : Fr} {what : List Fr} (h : takeB other t what = true) : upto (sTakeF other t what) other other.length = takeR other t what := by
  rw [upto_all]
  unfold sTakeF takeR
  apply List.map_congr_left
  intro i hi
  unfold takeB at h
  rw [List.all_eq_true] at h
  exact take_same (h i hi)
/-- the table when the row was exchanged and divided -/
def tabD (rows : List (List Fr)) (at' r col : Nat) : List (List Fr) := (swapT rows r at').set at' (upto (sDivF (rw' rows r) (fr (rw' rows r) col)) (rw' rows r) (rw' rows r).length)
theorem tabD_len (rows : List (List Fr)) (at' r col : Nat) : (tabD rows at' r col).length = rows.length := by simp [tabD, swapT]
/-- what the model makes of row i, and was something too great there -/
def sRowF (T : List (List Fr)) (at' col : Nat) : Nat → List Fr := fun i => if i = at' then rw' T i else upto (sTakeF (rw' T i) (fr (rw' T i) col) (rw' T at')) (rw' T i) (rw' T i).length
def sRowB (T : List (List Fr)) (at' col : Nat) : Nat → Bool := fun i => !decide (i = at') && xTo (sTakeB (rw' T i) (fr (rw' T i) col) (rw' T at')) (rw' T i).length
/-- a column's step of the model: all its flags, and its rows -/
theorem sStep_flag (rows : List (List Fr)) (at' r col : Nat) (h : at' < rows.length) :
    (xTo (sDivB (rw' rows r) (fr (rw' rows r) col)) (rw' rows r).length || xTo (sRowB (tabD rows at' r col) at' col) rows.length) = !stepB rows at' r col ∧ (stepB rows at' r col = true → uptoT (sRowF (tabD rows at' r col) at' col) (tabD rows at' r col) rows.length = stepT rows at' r col) := by
  rw [sDiv_flag]
  by_cases hd : divB (rw' rows r) (fr (rw' rows r) col) = true
  · have hT : ∀ x, x < rows.length → rw' (tabD rows at' r col) x = if at' = x then divR (rw' rows r) (fr (rw' rows r) col) else rw' (swapT rows r at') x := by
      intro x hx
      unfold tabD
      rw [rw_set _ _ _ _ (by rw [swapT_len]; exact h), sDiv_same hd]
    have hB : xTo (sRowB (tabD rows at' r col) at' col) rows.length = !stepB rows at' r col := by
      rw [xTo_not]
      unfold stepB
      rw [hd, Bool.true_and]
      congr 1
      rw [Bool.eq_iff_iff, List.all_eq_true, List.all_eq_true]
      have key : ∀ i, i ∈ List.range rows.length → (!sRowB (tabD rows at' r col) at' col i) = (decide (i = at') || takeB (rw' (swapT rows r at') i) (fr (rw' (swapT rows r at') i) col) (divR (rw' rows r) (fr (rw' rows r) col))) := by
        intro i hi
        rw [List.mem_range] at hi
        unfold sRowB
        by_cases e : i = at'
        · simp [e]
        · rw [sTake_flag, hT i hi, hT at' h, if_neg (fun e' => e e'.symm), if_pos rfl]
          simp [e]
      constructor
      · intro hh i hi; rw [← key i hi]; exact hh i hi
      · intro hh i hi; rw [key i hi]; exact hh i hi
    refine ⟨by rw [hB, hd]; simp, fun hb => ?_⟩
    apply rows_ext (by rw [uptoT_len, tabD_len, stepT_len])
    intro x hx
    rw [uptoT_len, tabD_len] at hx
    rw [uptoT_at _ _ _ _ (by rw [tabD_len]; exact hx), if_pos hx, ← stepP_all, stepP_at _ _ _ _ _ _ hx, if_pos hx]
    unfold sRowF
    by_cases e : x = at'
    · subst e
      rw [if_pos rfl, if_pos rfl, hT x hx, if_pos rfl]
    · rw [if_neg e, if_neg e, hT x hx, hT at' h, if_neg (fun e' => e e'.symm), if_pos rfl]
      apply sTake_same
      unfold stepB at hb
      rw [hd, Bool.true_and, List.all_eq_true] at hb
      have := hb x (List.mem_range.2 hx)
      simpa [e] using this
  · rw [Bool.not_eq_true] at hd
    rw [hd, stepB_div hd]
    simp
/-- what both answer -/
def echK (rows : List (List Fr)) : Bool := (ech rows).isSome
def echR (rows : List (List Fr)) : List (List Fr) := match ech rows with | some p => p.1 | none => []
def echC (rows : List (List Fr)) : List Nat := match ech rows with | some p => p.2 | none => []
theorem ech_no {rows : List (List Fr)} (h : ech rows = none) : echK rows = false ∧ echR rows = [] ∧ echC rows = [] := by simp [echK, echR, echC, h]
theorem ech_yes {rows R : List (List Fr)} {ch : List Nat} (h : ech rows = some (R, ch)) : echK rows = true ∧ echR rows = R ∧ echC rows = ch := by simp [echK, echR, echC, h]
/-- the columns below col that were not chosen -/
def freeC (col : Nat) (ch : List Nat) : List Nat := (List.range col).filter fun c => !ch.contains c
theorem freeC_free {col : Nat} {ch : List Nat} (h : ∀ c, c ∈ ch → c < col) : freeC (col + 1) ch = freeC col ch ++ [col] := by
  unfold freeC
  rw [List.range_succ, List.filter_append]
  have : ch.contains col = false := by
    rw [← Bool.not_eq_true, List.contains_iff_mem]
    intro hc
    have := h col hc
    omega
  simp [List.filter_cons]
  intro hc
  have := h col hc
  omega
theorem freeC_yes {col : Nat} {ch : List Nat} : freeC (col + 1) (ch ++ [col]) = freeC col ch := by
  unfold freeC
  rw [List.range_succ, List.filter_append]
  have h1 : List.filter (fun c => !(ch ++ [col]).contains c) [col] = [] := by simp
  rw [h1, List.append_nil]
  apply List.filter_congr
  intro x hx
  rw [List.mem_range] at hx
  have : x ≠ col := by omega
  simp [this]
theorem freeC_lt {col : Nat} {ch : List Nat} : ∀ f, f ∈ freeC col ch → f < col := by
  intro f hf
  unfold freeC at hf
  rw [List.mem_filter, List.mem_range] at hf
  exact hf.1
/-- the state ahead of column col -/
structure EInv (rows0 : List (List Fr)) (L col : Nat) (rows : List (List Fr)) (ch fe : List Nat) : Prop where
  is : ech rows0 = echF (L - col) col rows ch
  len : rows.length = rows0.length
  row : ∀ x, x < rows.length → (rw' rows x).length = L
  cl : ch.length ≤ rows.length
  chs : ∀ c, c ∈ ch → c < col
  fes : fe = freeC col ch
theorem EInv.start {rows0 : List (List Fr)} {L : Nat} (hL : L = (rw' rows0 0).length) (h : ∀ x, x < rows0.length → (rw' rows0 x).length = L) : EInv rows0 L 0 rows0 [] [] :=
  ⟨by rw [hL]; rfl, rfl, h, Nat.zero_le _, fun c hc => absurd hc (by simp), rfl⟩
theorem EInv.fl {rows0 rows : List (List Fr)} {L col : Nat} {ch fe : List Nat} (h : EInv rows0 L col rows ch fe) : ∀ f, f ∈ fe → col ≠ f := by
  intro f hf
  rw [h.fes] at hf
  have := freeC_lt f hf
  omega
theorem EInv.cn {rows0 rows : List (List Fr)} {L col : Nat} {ch fe : List Nat} (h : EInv rows0 L col rows ch fe) : ∀ c, c ∈ ch → c ≠ col := by
  intro c hc
  have := h.chs c hc
  omega
theorem EInv.free {rows0 rows : List (List Fr)} {L col : Nat} {ch fe : List Nat} (h : EInv rows0 L col rows ch fe) (hc : col < L) (hz : ∀ x, ch.length ≤ x → x < rows.length → (fr (rw' rows x) col).1 = 0) : EInv rows0 L (col + 1) rows ch (fe ++ [col]) := by
  have hp : piv rows col ch.length = rows.length := by
    unfold piv
    rw [pivF_none rows col _ _ (fun x h1 h2 => hz x h1 (by omega))]
    have := h.cl
    omega
  refine ⟨?_, h.len, h.row, h.cl, fun c hx => by have := h.chs c hx; omega, by rw [freeC_free h.chs, ← h.fes]⟩
  rw [h.is, show L - col = (L - (col + 1)) + 1 by omega, echF_free hp]
theorem EInv.piv {rows0 rows : List (List Fr)} {L col i : Nat} {ch fe : List Nat} (_h : EInv rows0 L col rows ch fe) (h1 : ch.length ≤ i) (h2 : i < rows.length) (hz : ∀ x, ch.length ≤ x → x < i → (fr (rw' rows x) col).1 = 0) (hn : (fr (rw' rows i) col).1 ≠ 0) : i = piv rows col ch.length :=
  (pivF_is rows col _ _ i h1 (by omega) hz hn).symm
theorem EInv.yes {rows0 rows : List (List Fr)} {L col i : Nat} {ch fe : List Nat} (h : EInv rows0 L col rows ch fe) (hc : col < L) (h1 : ch.length ≤ i) (h2 : i < rows.length) (hz : ∀ x, ch.length ≤ x → x < i → (fr (rw' rows x) col).1 = 0) (hn : (fr (rw' rows i) col).1 ≠ 0) (hb : stepB rows ch.length i col = true) : EInv rows0 L (col + 1) (stepT rows ch.length i col) (ch ++ [col]) fe := by
  refine ⟨?_, by rw [stepT_len]; exact h.len, stepT_row h.row (by omega) h2, by rw [stepT_len]; simp; omega, fun c hx => ?_, by rw [freeC_yes, ← h.fes]⟩
  · rw [h.is, show L - col = (L - (col + 1)) + 1 by omega, echF_yes (h.piv h1 h2 hz hn) (by omega) hb]
  · rw [List.mem_append] at hx
    rcases hx with hx | hx
    · have := h.chs c hx; omega
    · simp at hx; omega
theorem EInv.no {rows0 rows : List (List Fr)} {L col i : Nat} {ch fe : List Nat} (h : EInv rows0 L col rows ch fe) (hc : col < L) (h1 : ch.length ≤ i) (h2 : i < rows.length) (hz : ∀ x, ch.length ≤ x → x < i → (fr (rw' rows x) col).1 = 0) (hn : (fr (rw' rows i) col).1 ≠ 0) (hb : stepB rows ch.length i col = false) : ech rows0 = none := by
  rw [h.is, show L - col = (L - (col + 1)) + 1 by omega, echF_no (h.piv h1 h2 hz hn) (by omega) hb]
theorem EInv.stop {rows0 rows : List (List Fr)} {L : Nat} {ch fe : List Nat} (h : EInv rows0 L L rows ch fe) : ech rows0 = some (rows, ch) := by
  rw [h.is, Nat.sub_self]; rfl
/-- what both answer, whatever came in -/
def echO (rows : List (List Fr)) : Bool := tabB rows 6 && echK rows
def echA (rows : List (List Fr)) : List (List Fr) := if echO rows then echR rows else []
def echCh (rows : List (List Fr)) : List Nat := if echO rows then echC rows else []
def echFe (rows : List (List Fr)) : List Nat := if echO rows then freeC (rw' rows 0).length (echC rows) else []
theorem echO_no {rows : List (List Fr)} (h : echO rows = false) : echA rows = [] ∧ echCh rows = [] ∧ echFe rows = [] := by simp [echA, echCh, echFe, h]
theorem echO_yes {rows : List (List Fr)} (h : echO rows = true) : echA rows = echR rows ∧ echCh rows = echC rows ∧ echFe rows = freeC (rw' rows 0).length (echC rows) := by simp [echA, echCh, echFe, h]
end Go.Proofs.Ytoiigmimdjipiaa

/- The walk of the program's echelonOf. -/
namespace Go.Proofs.Ytoiigmimdjipiaa
open Go.RowKit Go.Proofs.Ytoiigmimdjipiaa.RM

theorem own_nil {W : World} {base : Nat} {e : TypeId} {size : Nat} : W.ownsRow base e size (.slice none 0 0) 0 [] := ⟨by simp, .inl ⟨rfl, rfl⟩⟩
/-- what echelonOf answers -/
def IEchP (w : World) (rows : List (List Fr)) (e : Ending) (w' : World) : Prop :=
  ∃ vm vc vf us, e = .returned (.tuple #[.agg #[vm, vc, vf], .bool (echO rows)]) ∧ Tab w' w.heap.size vm us (echA rows) ∧ w'.ownsRow w.heap.size 3 1 vc (echCh rows).length (natV (echCh rows)) ∧ w'.ownsRow w.heap.size 3 1 vf (echFe rows).length (natV (echFe rows)) ∧ Below w.heap.size w w'
theorem IEchP.no {w w' : World} {rows : List (List Fr)} (h : echO rows = false) (hb : Below w.heap.size w w') : IEchP w rows (.returned (.tuple #[.agg #[.slice none 0 0, .slice none 0 0, .slice none 0 0], .bool false])) w' := by
  obtain ⟨h1, h2, h3⟩ := echO_no h
  refine ⟨_, _, _, [], by rw [h], ?_, ?_, ?_, hb⟩
  · rw [h1]; exact Tab.empty own_nil
  · rw [h2]; exact own_nil
  · rw [h3]; exact own_nil
theorem IEchP.yes {w w' : World} {rows R : List (List Fr)} {ch fe : List Nat} {L B : Nat} {vm vc vf : Value} {us : List Value} (ht : tabB rows 6 = true) (hL : L = (rw' rows 0).length) (hi : EInv rows L L R ch fe) (hB : w.heap.size ≤ B) (t : Tab w' B vm us R) (hc : w'.ownsRow B 3 1 vc ch.length (natV ch)) (hf : w'.ownsRow B 3 1 vf fe.length (natV fe)) (hb : Below w.heap.size w w') :
    IEchP w rows (.returned (.tuple #[.agg #[vm, vc, vf], .bool true])) w' := by
  obtain ⟨k1, k2, k3⟩ := ech_yes hi.stop
  have ho : echO rows = true := by unfold echO; rw [ht, k1]; rfl
  obtain ⟨h1, h2, h3⟩ := echO_yes ho
  refine ⟨vm, vc, vf, us, by rw [ho], ?_, ?_, ?_, hb⟩
  · rw [h1, k2]; exact t.le hB
  · rw [h2, k3]; exact own_le hc hB
  · rw [h3, k3, ← hL, ← hi.fes]; exact own_le hf hB

end Go.Proofs.Ytoiigmimdjipiaa

/- The model's echelon: its table, the reckoning that remembers, the chosen columns, told by one predicate. -/
namespace Go.Proofs.Ytoiigmimdjipiaa
open Go.RowKit Go.Proofs.Ytoiigmimdjipiaa.RM

theorem IsK.blk {W : World} {K : Nat} {b : Bool} (h : IsK W K b) : W.heap[K]? = some (.cells #[.bool b] 66 (0, 0)) := h
theorem Tab.gk {W W' : World} {base K : Nat} {bd : Bool} {v : Value} {us : List Value} {rows : List (List Fr)} (h : Tab W base v us rows) (hK : IsK W K bd) (hg : W.grownBy W' (some K)) : Tab W' base v us rows :=
  h.kept hg (fun k e h2 => own_ne h.outer hK.blk (by decide) k h2 (by cases e; rfl)) (fun i hi k e h2 => own_ne (h.inner i hi) hK.blk (by decide) k h2 (by cases e; rfl))
theorem own_gk {W W' : World} {base K n : Nat} {bd : Bool} {v : Value} {xs : List Value} (h : W.ownsRow base 3 1 v n xs) (hK : IsK W K bd) (hg : W.grownBy W' (some K)) : W'.ownsRow base 3 1 v n xs := h.kept hg (by
    cases hv : v.ownBlock with
    | none => exact .inl rfl
    | some b => exact .inr (by intro e; exact own_ne h hK.blk (by decide) b hv (by cases e; rfl)))
structure SEch (W : World) (base K : Nat) (bd : Bool) (o vc : Value) (us : List Value) (rows : List (List Fr)) (ch : List Nat) : Prop where
  tab : Tab W base o us rows
  kk : IsK W K bd
  kb : base ≤ K
  cho : W.ownsRow base 3 1 vc ch.length (natV ch)
theorem SEch.below {W W' : World} {base K : Nat} {bd : Bool} {o vc : Value} {us : List Value} {rows : List (List Fr)} {ch : List Nat} (h : SEch W base K bd o vc us rows ch) (hb : Below W.heap.size W W') : SEch W' base K bd o vc us rows ch :=
  ⟨h.tab.below hb, h.kk.below hb, h.kb, own_below h.cho hb⟩
/-- a call that only remembers -/
theorem SEch.call {W W' : World} {base K : Nat} {bd bd' : Bool} {o vc : Value} {us : List Value} {rows : List (List Fr)} {ch : List Nat} (h : SEch W base K bd o vc us rows ch) (hk : IsK W' K bd') (hg : W.grownBy W' (some K)) : SEch W' base K bd' o vc us rows ch :=
  ⟨h.tab.gk h.kk hg, hk, h.kb, own_gk h.cho h.kk hg⟩
/-- a row is turned -/
theorem SEch.turn {W W' : World} {base K k : Nat} {bd : Bool} {o vc : Value} {us : List Value} {rows : List (List Fr)} {ps : List Fr} {ch : List Nat} (h : SEch W base K bd o vc us rows ch) (hk : k < us.length)
    (hu : W'.ownsRow base 29 2 (vl us k) ps.length (cellsR ps)) (hg : W.grownBy W' (vl us k).ownBlock) : SEch W' base K bd o vc us (rows.set k ps) ch := by
  have hne := own_ne (h.tab.inner k hk) h.kk.blk (by decide)
  exact ⟨h.tab.turn hk hu hg, (hg.block K h.kk.lt (fun e => hne K e.symm rfl)).trans h.kk, h.kb, own_oth h.cho (h.tab.inner k hk) (by decide) hg⟩
/-- two rows are exchanged -/
theorem SEch.swap {W : World} {base K G n c i r : Nat} {bd : Bool} {vc : Value} {us : List Value} {rows : List (List Fr)} {ch : List Nat} (h : SEch W base K bd (.slice (some ⟨G, 0, none⟩) n c) vc us rows ch) (hi : i < us.length) (hr : r < us.length) :
    SEch ((W.setCell ⟨G, i, none⟩ (vl us r)).setCell ⟨G, r, none⟩ (vl us i)) base K bd (.slice (some ⟨G, 0, none⟩) n c) vc ((us.set i (vl us r)).set r (vl us i)) (swapT rows i r) ch := by
  obtain ⟨t, g⟩ := h.tab.swap hi hr
  have hGK : G ≠ K := own_ne h.tab.outer h.kk.blk (by decide) G rfl
  have hg : W.grownBy ((W.setCell ⟨G, i, none⟩ (vl us r)).setCell ⟨G, r, none⟩ (vl us i)) (Value.slice (some ⟨G, 0, none⟩) n c).ownBlock := g
  exact ⟨t, (g.block K h.kk.lt (fun e => hGK (by cases e; rfl))).trans h.kk, h.kb, own_oth h.cho h.tab.outer (by decide) hg⟩
/-- a column is chosen -/
theorem SEch.push {W w1 : World} {base K col n : Nat} {bd : Bool} {o vc vc' : Value} {us : List Value} {rows : List (List Fr)} {ch : List Nat} {tmp : Obj} (h : SEch W base K bd o vc us rows ch)
    (hown : w1.ownsRow base 3 1 vc' n (natV ch ++ [Value.int .i64 (col : Int)])) (hn : n = (ch ++ [col]).length) (hgrow : (W.alloc tmp).grownBy w1 vc.ownBlock) : SEch w1 base K bd o vc' us rows (ch ++ [col]) := by
  have hcK := own_ne h.cho h.kk.blk (by decide)
  have ga : ∀ k, k < W.heap.size → some k ≠ vc.ownBlock → w1.heap[k]? = W.heap[k]? := fun k hk hne => (hgrow.block k (by simp; omega) hne).trans (Below.heap_alloc _ _ _ hk)
  have gW : W.grownBy w1 vc.ownBlock := ⟨hgrow.os, hgrow.tape, hgrow.output, Nat.le_trans (by simp) hgrow.size, ga⟩
  rw [← natV_app, hn] at hown
  exact ⟨h.tab.kept gW (fun k e h2 => own_unlike h.cho h.tab.outer (by decide) e h2) (fun i hi k e h2 => own_unlike h.cho (h.tab.inner i hi) (by decide) e h2), (ga K h.kk.lt (fun e => hcK K e.symm rfl)).trans h.kk, h.kb, hown⟩
/-- what l3Echelon answers -/
def SEchP (w : World) (rows : List (List Fr)) (e : Ending) (w' : World) : Prop :=
  ∃ vm vc us, e = .returned (.tuple #[vm, vc, .bool (echK rows)]) ∧ Tab w' w.heap.size vm us (echR rows) ∧ w'.ownsRow w.heap.size 3 1 vc (echC rows).length (natV (echC rows)) ∧ Below w.heap.size w w'
theorem takeS (rows : List (List Fr)) (k : Nat) (hk : k < rows.length) : rows.take k ++ [rw' rows k] = rows.take (k + 1) := by
  rw [List.take_add_one, List.getElem?_eq_getElem hk]
  simp [rw', hk]
theorem own_gkR {W W' : World} {base K n b c L : Nat} {xs : List Value} (h : W.ownsRow base 29 2 (.slice (some ⟨b, 0, none⟩) n c) L xs) (hg : W.grownBy W' (some K)) (hne : b ≠ K) : W'.ownsRow base 29 2 (.slice (some ⟨b, 0, none⟩) n c) L xs := h.kept hg (.inr (by intro e; exact hne (by simpa [Value.ownBlock] using e)))
theorem set_same (rows : List (List Fr)) (k : Nat) (ps : List Fr) (h : k < rows.length) (e : rw' rows k = ps) : rows.set k ps = rows := by
  apply rows_ext (by simp)
  intro x hx
  rw [rw_set _ _ _ _ h]
  by_cases e2 : k = x
  · subst e2; rw [if_pos rfl, e]
  · rw [if_neg e2]
end Go.Proofs.Ytoiigmimdjipiaa

/- The walk of the model's l3Echelon. -/
namespace Go.Proofs.Ytoiigmimdjipiaa
open Go.RowKit Go.Proofs.Ytoiigmimdjipiaa.RM

end Go.Proofs.Ytoiigmimdjipiaa

/- The walks of Echelon and Rank, the program's and the model's. -/
namespace Go.Proofs.Ytoiigmimdjipiaa
open Go.RowKit Go.Proofs.Ytoiigmimdjipiaa.RM

/-- how many columns are chosen -/
def rkI (rows : List (List Fr)) : Int := if echO rows then ((echC rows).length : Int) else -1

end Go.Proofs.Ytoiigmimdjipiaa

/- How great what Echelon answers can be. -/
namespace Go.Proofs.Ytoiigmimdjipiaa
open Go.Proofs.Ytoiigmimdjipiaa.RM

/-- the steps keep the table's form -/
theorem echF_dims {L : Nat} : ∀ (n col : Nat) (rows : List (List Fr)) (ch : List Nat) (R : List (List Fr)) (C : List Nat), (∀ x, x < rows.length → (rw' rows x).length = L) → ch.length ≤ rows.length → (∀ c, c ∈ ch → c < col) → echF n col rows ch = some (R, C) →
    R.length = rows.length ∧ (∀ x, x < R.length → (rw' R x).length = L) ∧ C.length ≤ rows.length ∧ ∀ c, c ∈ C → c < col + n
  | 0, col, rows, ch, R, C, hd, hl, hc, h => by
    simp only [echF, Option.some.injEq, Prod.mk.injEq] at h
    obtain ⟨rfl, rfl⟩ := h
    exact ⟨rfl, hd, hl, fun c hx => by have := hc c hx; omega⟩
  | n + 1, col, rows, ch, R, C, hd, hl, hc, h => by
    by_cases hp : piv rows col ch.length = rows.length
    · rw [echF_free hp] at h
      obtain ⟨h1, h2, h3, h4⟩ := echF_dims n (col + 1) rows ch R C hd hl (fun c hx => by have := hc c hx; omega) h
      exact ⟨h1, h2, h3, fun c hx => by have := h4 c hx; omega⟩
    · obtain ⟨p1, p2⟩ := piv_le (rows := rows) (col := col) hl
      cases hb : stepB rows ch.length (piv rows col ch.length) col with
      | false => rw [echF_no rfl hp hb] at h; cases h
      | true =>
        rw [echF_yes rfl hp hb] at h
        have := echF_dims n (col + 1) (stepT rows ch.length (piv rows col ch.length) col) (ch ++ [col]) R C (stepT_row hd (by omega) (by omega)) (by rw [stepT_len]; simp; omega) (fun c hx => by
          rw [List.mem_append] at hx
          rcases hx with hx | hx
          · have := hc c hx; omega
          · simp at hx; omega) h
        rw [stepT_len] at this
        obtain ⟨h1, h2, h3, h4⟩ := this
        exact ⟨h1, h2, h3, fun c hx => by have := h4 c hx; omega⟩
theorem ech_dims {rows : List (List Fr)} (ht : tabB rows 6 = true) (hk : echK rows = true) : (echR rows).length = rows.length ∧ (∀ x, x < (echR rows).length → (rw' (echR rows) x).length = (rw' rows 0).length) ∧ (echC rows).length ≤ rows.length ∧ ∀ c, c ∈ echC rows → c < (rw' rows 0).length := by
  obtain ⟨⟨t1, t2, t3, t4⟩, tr⟩ := tabB_out ht
  unfold echK at hk
  cases he : ech rows with
  | none => rw [he] at hk; cases hk
  | some p =>
    obtain ⟨R, C⟩ := p
    obtain ⟨-, e1, e2⟩ := ech_yes he
    rw [e1, e2]
    have := echF_dims (L := (rw' rows 0).length) _ 0 rows [] R C (fun x hx => (tr x hx).1) (Nat.zero_le _) (fun c hx => absurd hx (by simp)) he
    simpa using this
theorem echA_small (rows : List (List Fr)) : (echA rows).length ≤ 1048576 ∧ ∀ i, i < (echA rows).length → (rw' (echA rows) i).length ≤ 1048576 := by
  cases ho : echO rows with
  | false => rw [(echO_no ho).1]; exact ⟨by simp, fun i hi => absurd hi (Nat.not_lt_zero _)⟩
  | true =>
    have h := ho
    unfold echO at h
    rw [Bool.and_eq_true] at h
    obtain ⟨h1, h2, _⟩ := ech_dims h.1 h.2
    obtain ⟨⟨t1, t2, t3, t4⟩, tr⟩ := tabB_out h.1
    rw [(echO_yes ho).1]
    exact ⟨by omega, fun i hi => by rw [h2 i hi]; omega⟩
end Go.Proofs.Ytoiigmimdjipiaa

/- The kernel's rows, in plain lists. -/
namespace Go.Proofs.Ytoiigmimdjipiaa
open Go.RowKit Go.Proofs.Ytoiigmimdjipiaa.RM

def mirF (p : Fr) : Fr := (wrap64 (-p.1), p.2)
/-- number k of a list of columns -/
def nt (C : List Nat) (k : Nat) : Nat := C[k]?.getD 0
/-- the chosen columns' elements laid, the first k -/
def setsK (R : List (List Fr)) (C : List Nat) (col : Nat) : Nat → List Fr → List Fr
  | 0, b => b
  | k + 1, b => (setsK R C col k b).set (nt C k) (mirF (fr (rw' R k) col))
/-- the free columns' noughts laid, the first k -/
def setsF (F : List Nat) : Nat → List Fr → List Fr
  | 0, b => b
  | k + 1, b => (setsF F k b).set (nt F k) (0, 1)
theorem setsK_len (R : List (List Fr)) (C : List Nat) (col k : Nat) (b : List Fr) : (setsK R C col k b).length = b.length := by
  induction k with
  | zero => rfl
  | succ k ih => simp [setsK, ih]
theorem setsF_len (F : List Nat) (k : Nat) (b : List Fr) : (setsF F k b).length = b.length := by
  induction k with
  | zero => rfl
  | succ k ih => simp [setsF, ih]
theorem nt_mem {C : List Nat} {k : Nat} (h : k < C.length) : nt C k ∈ C := by
  unfold nt
  rw [List.getElem?_eq_getElem h]
  exact List.getElem_mem h
/-- the row of one free column -/
def kerRow (R : List (List Fr)) (C : List Nat) (L col : Nat) : List Fr := setsK R C col C.length ((List.replicate L ((0, 1) : Fr)).set col (1, 1))
theorem kerRow_len (R : List (List Fr)) (C : List Nat) (L col : Nat) : (kerRow R C L col).length = L := by simp [kerRow, setsK_len]
theorem setsK_same (R : List (List Fr)) (C : List Nat) (col : Nat) (b b' : List Fr) (hl : b.length = b'.length) (x : Nat) : ∀ k, k ≤ C.length → (∀ i, i < k → nt C i < b.length) → ((∀ i, i < k → nt C i ≠ x) → fr b x = fr b' x) → fr (setsK R C col k b) x = fr (setsK R C col k b') x
  | 0, _, _, h => h (fun i hi => absurd hi (Nat.not_lt_zero _))
  | k + 1, hk, hc, h => by
    simp only [setsK]
    rw [fr_set _ _ _ _ (by rw [setsK_len]; exact hc k (by omega)), fr_set _ _ _ _ (by rw [setsK_len, ← hl]; exact hc k (by omega))]
    by_cases e : nt C k = x
    · rw [if_pos e, if_pos e]
    · rw [if_neg e, if_neg e]
      refine setsK_same R C col b b' hl x k (by omega) (fun i hi => hc i (by omega)) (fun hn => h (fun i hi => ?_))
      by_cases e2 : i = k
      · subst e2; exact e
      · exact hn i (by omega)
theorem setsF_at (F : List Nat) (b : List Fr) (x : Nat) : ∀ k, k ≤ F.length → (∀ i, i < k → nt F i < b.length) → fr (setsF F k b) x = if (∃ i, i < k ∧ nt F i = x) then (0, 1) else fr b x
  | 0, _, _ => by
    rw [if_neg (by rintro ⟨i, hi, _⟩; omega)]; rfl
  | k + 1, hk, hc => by
    simp only [setsF]
    rw [fr_set _ _ _ _ (by rw [setsF_len]; exact hc k (by omega)), setsF_at F b x k (by omega) (fun i hi => hc i (by omega))]
    by_cases e : nt F k = x
    · rw [if_pos e, if_pos ⟨k, by omega, e⟩]
    · rw [if_neg e]
      by_cases h : ∃ i, i < k ∧ nt F i = x
      · obtain ⟨i, hi, he⟩ := h
        rw [if_pos ⟨i, hi, he⟩, if_pos ⟨i, by omega, he⟩]
      · rw [if_neg h, if_neg]
        rintro ⟨i, hi, he⟩
        by_cases e2 : i = k
        · subst e2; exact e he
        · exact h ⟨i, by omega, he⟩
theorem mem_nt {C : List Nat} {x : Nat} (h : x ∈ C) : ∃ i, i < C.length ∧ nt C i = x := by
  obtain ⟨i, hi, rfl⟩ := List.mem_iff_getElem.1 h
  exact ⟨i, hi, by simp [nt, hi]⟩
theorem freeC_mem {L : Nat} {C : List Nat} {x : Nat} : x ∈ freeC L C ↔ x < L ∧ x ∉ C := by
  unfold freeC
  rw [List.mem_filter, List.mem_range]
  simp
/-- the program's way to the same row -/
theorem kerRow_impl (R : List (List Fr)) (C : List Nat) (L col : Nat) (hC : ∀ c, c ∈ C → c < L) (hcol : col < L) :
    setsK R C col C.length ((setsF (freeC L C) (freeC L C).length (List.replicate L (0, 0))).set col (1, 1)) = kerRow R C L col := by
  unfold kerRow
  apply fr_ext
  · rw [setsK_len, setsK_len, List.length_set, List.length_set, setsF_len]; simp
  · intro x hx
    rw [setsK_len, List.length_set, setsF_len, List.length_replicate] at hx
    refine setsK_same R C col _ _ (by rw [List.length_set, List.length_set, setsF_len]; simp) x C.length (Nat.le_refl _) (fun i hi => by rw [List.length_set, setsF_len, List.length_replicate]; exact hC _ (nt_mem hi)) (fun hn => ?_)
    rw [fr_set _ _ _ _ (by rw [setsF_len]; simpa using hcol), fr_set _ _ _ _ (by simpa using hcol)]
    by_cases e : col = x
    · rw [if_pos e, if_pos e]
    · rw [if_neg e, if_neg e, setsF_at _ _ _ _ (Nat.le_refl _) (fun i hi => by rw [List.length_replicate]; exact (freeC_mem.1 (nt_mem hi)).1)]
      have hxC : x ∉ C := fun h => by
        obtain ⟨i, hi, he⟩ := mem_nt h
        exact hn i hi he
      rw [if_pos (mem_nt (freeC_mem.2 ⟨hx, hxC⟩))]
      simp [fr, hx]
/-- what Kernel answers -/
def kerA (rows : List (List Fr)) : List (List Fr) := if echO rows then (freeC (rw' rows 0).length (echC rows)).map (kerRow (echR rows) (echC rows) (rw' rows 0).length) else []
theorem kerA_no {rows : List (List Fr)} (h : echO rows = false) : kerA rows = [] := by simp [kerA, h]
theorem kerA_yes {rows : List (List Fr)} (h : echO rows = true) : kerA rows = (freeC (rw' rows 0).length (echC rows)).map (kerRow (echR rows) (echC rows) (rw' rows 0).length) := by simp [kerA, h]
theorem freeC_len (L : Nat) (C : List Nat) : (freeC L C).length ≤ L := by
  unfold freeC
  have := List.length_filter_le (fun c => !C.contains c) (List.range L)
  simpa using this
theorem kerA_small (rows : List (List Fr)) : (kerA rows).length ≤ 1048576 ∧ ∀ i, i < (kerA rows).length → (rw' (kerA rows) i).length ≤ 1048576 := by
  cases ho : echO rows with
  | false => rw [kerA_no ho]; exact ⟨by simp, fun i hi => absurd hi (Nat.not_lt_zero _)⟩
  | true =>
    have h := ho
    unfold echO at h
    rw [Bool.and_eq_true] at h
    obtain ⟨⟨t1, t2, t3, t4⟩, tr⟩ := tabB_out h.1
    have hl := freeC_len (rw' rows 0).length (echC rows)
    rw [kerA_yes ho]
    refine ⟨by rw [List.length_map]; omega, fun i hi => ?_⟩
    rw [List.length_map] at hi
    have : rw' ((freeC (rw' rows 0).length (echC rows)).map (kerRow (echR rows) (echC rows) (rw' rows 0).length)) i = kerRow (echR rows) (echC rows) (rw' rows 0).length (nt (freeC (rw' rows 0).length (echC rows)) i) := by
      show (List.map _ _)[i]?.getD [] = _
      unfold nt
      rw [List.getElem?_map, List.getElem?_eq_getElem hi]
      rfl
    rw [this, kerRow_len]
    omega
/-- the chosen columns rise -/
def rises (C : List Nat) : Prop := ∀ i j, i < j → j < C.length → nt C i < nt C j
theorem echF_rises {L : Nat} : ∀ (n col : Nat) (rows : List (List Fr)) (ch : List Nat) (R : List (List Fr)) (C : List Nat), rises ch → (∀ c, c ∈ ch → c < col) → echF n col rows ch = some (R, C) → rises C
  | 0, col, rows, ch, R, C, hr, hc, h => by
    simp only [echF, Option.some.injEq, Prod.mk.injEq] at h
    obtain ⟨rfl, rfl⟩ := h
    exact hr
  | n + 1, col, rows, ch, R, C, hr, hc, h => by
    by_cases hp : piv rows col ch.length = rows.length
    · rw [echF_free hp] at h
      exact echF_rises (L := L) n (col + 1) rows ch R C hr (fun c hx => by have := hc c hx; omega) h
    · cases hb : stepB rows ch.length (piv rows col ch.length) col with
      | false => rw [echF_no rfl hp hb] at h; cases h
      | true =>
        rw [echF_yes rfl hp hb] at h
        refine echF_rises (L := L) n (col + 1) _ (ch ++ [col]) R C (fun i j hij hj => ?_) (fun c hx => ?_) h
        · rw [List.length_append, List.length_singleton] at hj
          have hi : nt (ch ++ [col]) i = nt ch i := by unfold nt; rw [List.getElem?_append_left (by omega)]
          rw [hi]
          by_cases e : j < ch.length
          · have : nt (ch ++ [col]) j = nt ch j := by unfold nt; rw [List.getElem?_append_left e]
            rw [this]
            exact hr i j hij e
          · obtain rfl : j = ch.length := by omega
            have : nt (ch ++ [col]) ch.length = col := by simp [nt]
            rw [this]
            exact hc _ (nt_mem (by omega))
        · rw [List.mem_append] at hx
          rcases hx with hx | hx
          · have := hc c hx; omega
          · simp at hx; omega
theorem ech_rises {rows : List (List Fr)} (hk : echK rows = true) : rises (echC rows) := by
  unfold echK at hk
  cases he : ech rows with
  | none => rw [he] at hk; cases hk
  | some p =>
    obtain ⟨R, C⟩ := p
    obtain ⟨-, e1, e2⟩ := ech_yes he
    rw [e2]
    exact echF_rises (L := 0) _ 0 rows [] R C (fun _ _ _ hj => absurd hj (Nat.not_lt_zero _)) (fun c hx => absurd hx (by simp)) he
/-- so many of the chosen ones lie ahead of col -/
def atP (C : List Nat) (at' col : Nat) : Prop := at' ≤ C.length ∧ (∀ i, i < at' → nt C i < col) ∧ ∀ i, at' ≤ i → i < C.length → col ≤ nt C i
theorem atP_zero (C : List Nat) : atP C 0 0 := ⟨Nat.zero_le _, fun _ hi => absurd hi (Nat.not_lt_zero _), fun _ _ _ => Nat.zero_le _⟩
theorem atP_yes {C : List Nat} {at' col : Nat} (hr : rises C) (h : atP C at' col) (h1 : at' < C.length) (h2 : nt C at' = col) : atP C (at' + 1) (col + 1) ∧ col ∈ C := by
  refine ⟨⟨by omega, fun i hi => ?_, fun i hi hl => ?_⟩, h2 ▸ nt_mem h1⟩
  · by_cases e : i = at'
    · subst e; omega
    · have := h.2.1 i (by omega); omega
  · have := hr at' i (by omega) hl; omega
theorem atP_no {C : List Nat} {at' col : Nat} (hr : rises C) (h : atP C at' col) (h1 : at' < C.length → nt C at' ≠ col) : atP C at' (col + 1) ∧ col ∉ C := by
  have hgt : ∀ i, at' ≤ i → i < C.length → col < nt C i := by
    intro i hi hl
    have h3 := h.2.2 at' (Nat.le_refl _) (by omega)
    have h4 := h1 (by omega)
    by_cases e : i = at'
    · subst e; omega
    · have := hr at' i (by omega) hl; omega
  refine ⟨⟨h.1, fun i hi => by have := h.2.1 i hi; omega, fun i hi hl => by have := hgt i hi hl; omega⟩, fun hm => ?_⟩
  obtain ⟨i, hi, he⟩ := mem_nt hm
  by_cases e : i < at'
  · have := h.2.1 i e; omega
  · have := hgt i (by omega) hi; omega
theorem freeC_in {col : Nat} {C : List Nat} (h : col ∈ C) : freeC (col + 1) C = freeC col C := by
  unfold freeC
  rw [List.range_succ, List.filter_append]
  simp [h]
theorem freeC_out {col : Nat} {C : List Nat} (h : col ∉ C) : freeC (col + 1) C = freeC col C ++ [col] := by
  unfold freeC
  rw [List.range_succ, List.filter_append]
  simp [h]
end Go.Proofs.Ytoiigmimdjipiaa

/- What Solved answers, in plain lists. -/
namespace Go.Proofs.Ytoiigmimdjipiaa
open Go.RowKit Go.Proofs.Ytoiigmimdjipiaa.RM

/-- the rows with right's elements behind them -/
def wideT (rows : List (List Fr)) (right : List Fr) : List (List Fr) := (List.range rows.length).map fun i => rw' rows i ++ [fr right i]
theorem wideT_len (rows : List (List Fr)) (right : List Fr) : (wideT rows right).length = rows.length := by simp [wideT]
theorem wideT_at (rows : List (List Fr)) (right : List Fr) (i : Nat) (h : i < rows.length) : rw' (wideT rows right) i = rw' rows i ++ [fr right i] := by simp [wideT, rw', h]
/-- is it as told, right's fractions aside -/
def solC (rows : List (List Fr)) (right : List Fr) : Bool := decide (rows.length ≤ 5) && (tabB rows 6 && (decide ((rw' rows 0).length = rows.length) && decide (right.length = rows.length)))
theorem solC_out {rows : List (List Fr)} {right : List Fr} (h : solC rows right = true) : rows.length ≤ 5 ∧ tabB rows 6 = true ∧ (rw' rows 0).length = rows.length ∧ right.length = rows.length := by
  unfold solC at h
  simpa [Bool.and_eq_true, and_assoc] using h
theorem solC_no {rows : List (List Fr)} {right : List Fr} (h : ¬ (rows.length ≤ 5 ∧ tabB rows 6 = true ∧ (rw' rows 0).length = rows.length ∧ right.length = rows.length)) : solC rows right = false := by
  rw [← Bool.not_eq_true]
  exact fun h2 => h (solC_out h2)
/-- just one free column: right's -/
def solF (n : Nat) (C : List Nat) : Bool := decide (freeC (n + 1) C = [n])
def solO (rows : List (List Fr)) (right : List Fr) : Bool := solC rows right && (echO (wideT rows right) && solF rows.length (echC (wideT rows right)))
def solX (rows : List (List Fr)) (right : List Fr) : List Fr := (List.range rows.length).map fun i => fr (rw' (echR (wideT rows right)) i) rows.length
def solA (rows : List (List Fr)) (right : List Fr) : List Fr := if solO rows right then solX rows right else []
theorem solA_no {rows : List (List Fr)} {right : List Fr} (h : solO rows right = false) : solA rows right = [] := by simp [solA, h]
theorem solA_yes {rows : List (List Fr)} {right : List Fr} (h : solO rows right = true) : solA rows right = solX rows right := by simp [solA, h]
theorem solX_len (rows : List (List Fr)) (right : List Fr) : (solX rows right).length = rows.length := by simp [solX]
theorem solX_at (rows : List (List Fr)) (right : List Fr) (i : Nat) (h : i < rows.length) : fr (solX rows right) i = fr (rw' (echR (wideT rows right)) i) rows.length := by simp [solX, fr, h]
/-- the wide table is one where right's fractions are right -/
theorem wide_tab {rows : List (List Fr)} {right : List Fr} (h : solC rows right = true) : tabB (wideT rows right) 6 = allOk right := by
  obtain ⟨h1, h2, h3, h4⟩ := solC_out h
  obtain ⟨⟨t1, t2, t3, t4⟩, tr⟩ := tabB_out h2
  have h0 : (rw' (wideT rows right) 0).length = rows.length + 1 := by rw [wideT_at _ _ _ (by omega)]; simp [h3]
  cases hr : allOk right with
  | true =>
    refine tabB_yes (by rw [wideT_len, h0]; omega) (fun k hk => ?_)
    rw [wideT_len] at hk
    rw [h0, wideT_at _ _ _ hk]
    refine ⟨by rw [List.length_append, (tr k hk).1, h3]; rfl, ?_⟩
    unfold allOk
    rw [List.all_append]
    have e1 := (tr k hk).2
    unfold allOk at e1
    rw [e1]
    have e2 := allOk_at hr (k := k) (by omega)
    simpa using e2
  | false =>
    have hbad : ∃ k, k < right.length ∧ okB (fr right k).1 (fr right k).2 = false := by
      apply Classical.byContradiction
      intro hn
      have : allOk right = true := allOk_yes (fun k hk => by
        cases e : okB (fr right k).1 (fr right k).2 with
        | true => rfl
        | false => exact absurd ⟨k, hk, e⟩ hn)
      rw [hr] at this; cases this
    obtain ⟨k, hk, hb⟩ := hbad
    refine tabB_row (k := k) (by rw [wideT_len]; omega) (fun hh => ?_)
    have e1 := hh.2
    rw [wideT_at _ _ _ (by omega)] at e1
    unfold allOk at e1
    rw [List.all_append, Bool.and_eq_true] at e1
    have e2 := e1.2
    simp [hb] at e2
theorem atP_run {n : Nat} {C : List Nat} (hr : rises C) (h : ∀ x, x < n → x ∈ C) : ∀ k, k ≤ n → atP C k k ∧ ∀ i, i < k → nt C i = i
  | 0, _ => ⟨atP_zero C, fun i hi => absurd hi (Nat.not_lt_zero _)⟩
  | k + 1, hk => by
    obtain ⟨h1, h2⟩ := atP_run hr h k (by omega)
    have hm := h k (by omega)
    have hc : k < C.length ∧ nt C k = k := by
      apply Classical.byContradiction
      intro hn
      exact (atP_no hr h1 (fun hl e => hn ⟨hl, e⟩)).2 hm
    refine ⟨(atP_yes hr h1 hc.1 hc.2).1, fun i hi => ?_⟩
    by_cases e : i = k
    · subst e; exact hc.2
    · exact h2 i (by omega)
/-- the model's way to say the same -/
theorem solF_model {n : Nat} {C : List Nat} (hn : 1 ≤ n) (hr : rises C) (hl : ∀ c, c ∈ C → c < n + 1) : solF n C = (decide (C.length = n) && decide (nt C (n - 1) = n - 1)) := by
  unfold solF
  rw [Bool.eq_iff_iff, decide_eq_true_eq, Bool.and_eq_true, decide_eq_true_eq, decide_eq_true_eq]
  constructor
  · intro h
    have hin : ∀ x, x < n → x ∈ C := by
      intro x hx
      apply Classical.byContradiction
      intro hn2
      have : x ∈ freeC (n + 1) C := freeC_mem.2 ⟨by omega, hn2⟩
      rw [h] at this
      simp at this
      omega
    have hout : n ∉ C := by
      have : n ∈ freeC (n + 1) C := by rw [h]; simp
      exact (freeC_mem.1 this).2
    obtain ⟨h1, h2⟩ := atP_run hr hin n (Nat.le_refl _)
    have hlen : C.length = n := by
      apply Classical.byContradiction
      intro hne
      have hgt : n < C.length := by have := h1.1; omega
      have h3 := h1.2.2 n (Nat.le_refl _) hgt
      have h4 := hl _ (nt_mem hgt)
      exact hout (by have := nt_mem hgt; rw [show nt C n = n by omega] at this; exact this)
    exact ⟨hlen, h2 (n - 1) (by omega)⟩
  · rintro ⟨h1, h2⟩
    have hle : ∀ k, k < n → nt C (n - 1 - k) ≤ n - 1 - k := by
      intro k
      induction k with
      | zero => intro _; simp [h2]
      | succ k ih =>
        intro hk
        have := ih (by omega)
        have := hr (n - 1 - (k + 1)) (n - 1 - k) (by omega) (by omega)
        omega
    have hge : ∀ k, k < n → k ≤ nt C k := by
      intro k
      induction k with
      | zero => intro _; omega
      | succ k ih =>
        intro hk
        have := ih (by omega)
        have := hr k (k + 1) (by omega) (by omega)
        omega
    have heq : ∀ k, k < n → nt C k = k := by
      intro k hk
      have a := hge k hk
      have b := hle (n - 1 - k) (by omega)
      rw [show n - 1 - (n - 1 - k) = k by omega] at b
      omega
    have hin : ∀ x, x < n → x ∈ C := fun x hx => by have := nt_mem (C := C) (k := x) (by omega); rw [heq x hx] at this; exact this
    have hout : n ∉ C := by
      intro hm
      obtain ⟨i, hi, he⟩ := mem_nt hm
      have := heq i (by omega)
      omega
    have hz : ∀ k, k ≤ n → freeC k C = [] := by
      intro k
      induction k with
      | zero => intro _; rfl
      | succ k ih => intro hk; rw [freeC_in (hin k (by omega))]; exact ih (by omega)
    rw [freeC_out hout, hz n (Nat.le_refl _)]
    rfl
theorem solA_small (rows : List (List Fr)) (right : List Fr) : (solA rows right).length ≤ 1048576 := by
  cases ho : solO rows right with
  | false => rw [solA_no ho]; simp
  | true =>
    have h := ho
    unfold solO at h
    rw [Bool.and_eq_true] at h
    obtain ⟨h1, _⟩ := solC_out h.1
    rw [solA_yes ho, solX_len]
    omega
end Go.Proofs.Ytoiigmimdjipiaa

/- The order of fractions: sums keep it, and of two unlike ones one is less. -/
namespace Go.Proofs.Ytoiigmimdjipiaa.RM
theorem lt_iff_mul {x y k : Int} (hk : 0 < k) : k * x < k * y ↔ x < y :=
  ⟨fun h => Int.lt_of_mul_lt_mul_left h (Int.le_of_lt hk), fun h => Int.mul_lt_mul_of_pos_left h hk⟩
theorem red_parts {x y : Int} (h : redOk x y = true) (hy : 0 < y) : 0 < gcdi x y ∧ gcdi x y * redN x y = x ∧ gcdi x y * redD x y = y := by
  have hs := sg_pos (n := x) (d := y) (by omega)
  have e1 : redN x y = x / sg x y := by unfold redN; rw [if_pos h]
  have e2 : redD x y = y / sg x y := by unfold redD; rw [if_pos h]
  rw [e1, e2, hs]
  exact ⟨gcdi_pos_r x y (by omega), Int.mul_ediv_cancel' (gcdi_dvd_l x y), Int.mul_ediv_cancel' (gcdi_dvd_r x y)⟩
theorem add_less {a b c d p q : Int} (hb : 0 < b) (hd : 0 < d) (hq : 0 < q) (hab : two a b c d = true) (h1 : redOk (a * q + p * b) (b * q) = true) (h2 : redOk (c * q + p * d) (d * q) = true) :
    lessB (redN (a * q + p * b) (b * q)) (redD (a * q + p * b) (b * q)) (redN (c * q + p * d) (d * q)) (redD (c * q + p * d) (d * q)) = lessB a b c d := by
  have t := two_yes (okB_redN h1) (okB_redN h2)
  obtain ⟨g1, n1, d1⟩ := red_parts h1 (Int.mul_pos hb hq)
  obtain ⟨g2, n2, d2⟩ := red_parts h2 (Int.mul_pos hd hq)
  unfold lessB
  rw [t, hab]
  generalize gcdi (a * q + p * b) (b * q) = k1 at *
  generalize gcdi (c * q + p * d) (d * q) = k2 at *
  generalize redN (a * q + p * b) (b * q) = N1 at *
  generalize redD (a * q + p * b) (b * q) = D1 at *
  generalize redN (c * q + p * d) (d * q) = N2 at *
  generalize redD (c * q + p * d) (d * q) = D2 at *
  have e : (N1 * D2 < N2 * D1) ↔ (a * d < c * b) := by
    rw [← lt_iff_mul (Int.mul_pos g1 g2), ← lt_iff_mul (Int.mul_pos hq hq) (x := a * d)]
    have e1 : k1 * k2 * (N1 * D2) = (a * q + p * b) * (d * q) := by rw [← n1, ← d2]; ac_rfl
    have e2 : k1 * k2 * (N2 * D1) = (c * q + p * d) * (b * q) := by rw [← n2, ← d1]; ac_rfl
    have e3 : (a * q + p * b) * (d * q) = q * q * (a * d) + p * b * d * q := by rw [Int.add_mul]; congr 1 <;> ac_rfl
    have e4 : (c * q + p * d) * (b * q) = q * q * (c * b) + p * b * d * q := by rw [Int.add_mul]; congr 1 <;> ac_rfl
    rw [e1, e2, e3, e4]
    omega
  simp only [e]
theorem less_same (a b : Int) : lessB a b a b = false := by unfold lessB; rw [decide_eq_false (by omega)]; simp
theorem dvd_cop {k m n : Int} (h : Int.gcd k m = 1) (hd : k ∣ m * n) : k ∣ n := by
  rw [← Int.natAbs_dvd_natAbs] at hd ⊢
  rw [Int.natAbs_mul] at hd
  exact Nat.Coprime.dvd_of_dvd_mul_left (by unfold Nat.Coprime; rw [Int.gcd_eq_natAbs_gcd_natAbs] at h; exact h) hd
theorem okB_eq {a b c d : Int} (h1 : okB a b = true) (h2 : okB c d = true) (h : a * d = c * b) : a = c ∧ b = d := by
  have p1 := okB_out h1
  have p2 := okB_out h2
  have g1 : Int.gcd a b = 1 := by have := p1.2.2.2.2; unfold gcdi at this; omega
  have g2 : Int.gcd c d = 1 := by have := p2.2.2.2.2; unfold gcdi at this; omega
  have d1 : b ∣ d := by
    have : b ∣ a * d := ⟨c, by rw [h]; ac_rfl⟩
    exact dvd_cop (by rw [Int.gcd_comm]; exact g1) this
  have d2 : d ∣ b := by
    have : d ∣ c * b := ⟨a, by rw [← h]; ac_rfl⟩
    exact dvd_cop (by rw [Int.gcd_comm]; exact g2) this
  have e : b = d := Int.dvd_antisymm (by omega) (by omega) d1 d2
  subst e
  exact ⟨Int.eq_of_mul_eq_mul_right (by omega) h, rfl⟩
theorem less_flip {a b c d : Int} (h1 : okB a b = true) (h2 : okB c d = true) (hne : ¬ (a = c ∧ b = d)) : lessB c d a b = !lessB a b c d := by
  have k : a * d ≠ c * b := fun h => hne (okB_eq h1 h2 h)
  unfold lessB
  rw [two_yes h1 h2, two_yes h2 h1]
  by_cases h : a * d < c * b
  · rw [decide_eq_true h, decide_eq_false (by omega)]; rfl
  · rw [decide_eq_false h, decide_eq_true (by omega)]; rfl
end Go.Proofs.Ytoiigmimdjipiaa.RM

/- Fractions are a field, as far as they go: what is taken or divided comes back. -/
namespace Go.Proofs.Ytoiigmimdjipiaa.RM
theorem mul_in (x y A B : Int) (h1 : -A ≤ x) (h2 : x ≤ A) (h3 : -B ≤ y) (h4 : y ≤ B) : -(A * B) ≤ x * y ∧ x * y ≤ A * B := by
  have hA : 0 ≤ A := by omega
  have hB : 0 ≤ B := by omega
  have k : (x * y).natAbs ≤ (A * B).natAbs := by
    rw [Int.natAbs_mul, Int.natAbs_mul]; exact Nat.mul_le_mul (by omega) (by omega)
  have hp : 0 ≤ A * B := Int.mul_nonneg hA hB
  generalize x * y = z at *
  generalize A * B = u at *
  omega
/-- what a reduced fraction times its divisor is -/
theorem red_sg {x y : Int} (h : redOk x y = true) : sg x y ≠ 0 ∧ sg x y * redN x y = x ∧ sg x y * redD x y = y := by
  have h' := h
  unfold redOk at h'
  rw [Bool.and_eq_true] at h'
  have hy := (redIn_out h'.1).1
  have e1 : redN x y = x / sg x y := by unfold redN; rw [if_pos h]
  have e2 : redD x y = y / sg x y := by unfold redD; rw [if_pos h]
  rw [e1, e2]
  exact ⟨sg_ne x y hy, Int.mul_ediv_cancel' (sg_dvd_l x y), Int.mul_ediv_cancel' (sg_dvd_r x y)⟩
theorem cancel {k x y : Int} (hk : k ≠ 0) (h : k * x = k * y) : x = y := Int.eq_of_mul_eq_mul_left hk h
theorem add_sub {a b c d : Int} (h1 : okB a b = true) (s : redOk (a * d + c * b) (b * d) = true)
    (t : redOk (redN (a * d + c * b) (b * d) * d - c * redD (a * d + c * b) (b * d)) (redD (a * d + c * b) (b * d) * d) = true) :
    redN (redN (a * d + c * b) (b * d) * d - c * redD (a * d + c * b) (b * d)) (redD (a * d + c * b) (b * d) * d) = a ∧
    redD (redN (a * d + c * b) (b * d) * d - c * redD (a * d + c * b) (b * d)) (redD (a * d + c * b) (b * d) * d) = b := by
  obtain ⟨k1, n1, d1⟩ := red_sg s
  obtain ⟨k2, n2, d2⟩ := red_sg t
  have ht := okB_redN t
  generalize redN (a * d + c * b) (b * d) = N at *
  generalize redD (a * d + c * b) (b * d) = D at *
  generalize sg (a * d + c * b) (b * d) = g at *
  generalize redN (N * d - c * D) (D * d) = X at *
  generalize redD (N * d - c * D) (D * d) = Y at *
  generalize sg (N * d - c * D) (D * d) = k at *
  refine okB_eq ht h1 (cancel (Int.mul_ne_zero k1 k2) ?_)
  have e1 : g * k * (X * b) = g * (N * d - c * D) * b := by rw [← n2]; ac_rfl
  have e2 : g * k * (a * Y) = a * (g * D) * d := by rw [show g * k * (a * Y) = a * g * (k * Y) from by ac_rfl, d2]; ac_rfl
  have e3 : g * (N * d - c * D) * b = (g * N * d - c * (g * D)) * b := by rw [Int.mul_sub]; congr 2 <;> ac_rfl
  rw [e1, e2, e3, n1, d1, Int.add_mul, show c * b * d = c * (b * d) from by ac_rfl, Int.add_sub_cancel]
  ac_rfl
theorem div_mul {a b c d : Int} (h1 : okB a b = true) (s : redOk (a * d) (b * c) = true)
    (t : redOk (redN (a * d) (b * c) * c) (redD (a * d) (b * c) * d) = true) :
    redN (redN (a * d) (b * c) * c) (redD (a * d) (b * c) * d) = a ∧ redD (redN (a * d) (b * c) * c) (redD (a * d) (b * c) * d) = b := by
  obtain ⟨k1, n1, d1⟩ := red_sg s
  obtain ⟨k2, n2, d2⟩ := red_sg t
  have ht := okB_redN t
  generalize redN (a * d) (b * c) = N at *
  generalize redD (a * d) (b * c) = D at *
  generalize sg (a * d) (b * c) = g at *
  generalize redN (N * c) (D * d) = X at *
  generalize redD (N * c) (D * d) = Y at *
  generalize sg (N * c) (D * d) = k at *
  refine okB_eq ht h1 (cancel (Int.mul_ne_zero k1 k2) ?_)
  have e1 : g * k * (X * b) = g * N * c * b := by rw [show g * k * (X * b) = g * (k * X) * b from by ac_rfl, n2]; ac_rfl
  have e2 : g * k * (a * Y) = a * (g * D) * d := by rw [show g * k * (a * Y) = a * g * (k * Y) from by ac_rfl, d2]; ac_rfl
  rw [e1, e2, n1, d1]
  ac_rfl
theorem add_comm2 (a b c d : Int) : c * b + a * d = a * d + c * b ∧ d * b = b * d := ⟨Int.add_comm _ _, Int.mul_comm _ _⟩
/-- of three small right fractions: the product over the sum is the sum of the products, and nothing is too great -/
theorem spread {a b c d p q : Int} (a1 : -6 ≤ a) (a2 : a ≤ 6) (b1 : 1 ≤ b) (b2 : b ≤ 4) (c1 : -6 ≤ c) (c2 : c ≤ 6) (d1 : 1 ≤ d) (d2 : d ≤ 4) (p1 : -6 ≤ p) (p2 : p ≤ 6) (q1 : 1 ≤ q) (q2 : q ≤ 4) :
    ∃ sN sD lN lD mN mD nN nD rN rD : Int,
      (redOk (c * q + p * d) (d * q) = true ∧ redN (c * q + p * d) (d * q) = sN ∧ redD (c * q + p * d) (d * q) = sD ∧ okB sN sD = true) ∧
      (redOk (a * sN) (b * sD) = true ∧ redN (a * sN) (b * sD) = lN ∧ redD (a * sN) (b * sD) = lD) ∧
      (redOk (a * c) (b * d) = true ∧ redN (a * c) (b * d) = mN ∧ redD (a * c) (b * d) = mD ∧ okB mN mD = true) ∧
      (redOk (a * p) (b * q) = true ∧ redN (a * p) (b * q) = nN ∧ redD (a * p) (b * q) = nD ∧ okB nN nD = true) ∧
      (redOk (mN * nD + nN * mD) (mD * nD) = true ∧ redN (mN * nD + nN * mD) (mD * nD) = rN ∧ redD (mN * nD + nN * mD) (mD * nD) = rD) ∧ lN = rN ∧ lD = rD := by
  have pos : ∀ {x y : Int}, 1 ≤ x → 1 ≤ y → 1 ≤ x * y := fun hx hy => Int.mul_pos (by omega) (by omega)
  have u1 := mul_in c q 6 4 c1 c2 (by omega) q2
  have u2 := mul_in p d 6 4 p1 p2 (by omega) d2
  have u3 := mul_in d q 4 4 (by omega) d2 (by omega) q2
  have u3' := pos d1 q1
  obtain ⟨s1, s2, s3, s4, s5, s6⟩ := red_small (x := c * q + p * d) (y := d * q) (m := 48) (by omega) (by omega) (by omega) u3' (by omega)
  obtain ⟨gs, gs1, gs2⟩ := red_sg s1
  have v1 := mul_in a (redN (c * q + p * d) (d * q)) 6 48 a1 a2 s3 s4
  have v2 := mul_in b (redD (c * q + p * d) (d * q)) 4 16 (by omega) b2 (by omega) (by omega)
  have v2' := pos b1 s5
  obtain ⟨l1, l2, l3, l4, l5, l6⟩ := red_small (x := a * redN (c * q + p * d) (d * q)) (y := b * redD (c * q + p * d) (d * q)) (m := 288) (by omega) (by omega) (by omega) v2' (by omega)
  obtain ⟨gl, gl1, gl2⟩ := red_sg l1
  have w1 := mul_in a c 6 6 a1 a2 c1 c2
  have w2 := mul_in b d 4 4 (by omega) b2 (by omega) d2
  have w2' := pos b1 d1
  obtain ⟨m1, m2, m3, m4, m5, m6⟩ := red_small (x := a * c) (y := b * d) (m := 36) (by omega) (by omega) (by omega) w2' (by omega)
  obtain ⟨gm, gm1, gm2⟩ := red_sg m1
  have x1 := mul_in a p 6 6 a1 a2 p1 p2
  have x2 := mul_in b q 4 4 (by omega) b2 (by omega) q2
  have x2' := pos b1 q1
  obtain ⟨n1, n2, n3, n4, n5, n6⟩ := red_small (x := a * p) (y := b * q) (m := 36) (by omega) (by omega) (by omega) x2' (by omega)
  obtain ⟨gn, gn1, gn2⟩ := red_sg n1
  have y1 := mul_in (redN (a * c) (b * d)) (redD (a * p) (b * q)) 36 16 m3 m4 (by omega) (by omega)
  have y2 := mul_in (redN (a * p) (b * q)) (redD (a * c) (b * d)) 36 16 n3 n4 (by omega) (by omega)
  have y3 := mul_in (redD (a * c) (b * d)) (redD (a * p) (b * q)) 16 16 (by omega) (by omega) (by omega) (by omega)
  have y3' := pos m5 n5
  obtain ⟨r1, r2, r3, r4, r5, r6⟩ := red_small (x := redN (a * c) (b * d) * redD (a * p) (b * q) + redN (a * p) (b * q) * redD (a * c) (b * d)) (y := redD (a * c) (b * d) * redD (a * p) (b * q)) (m := 1152) (by omega) (by omega) (by omega) y3' (by omega)
  obtain ⟨gr, gr1, gr2⟩ := red_sg r1
  refine ⟨_, _, _, _, _, _, _, _, _, _, ⟨s1, rfl, rfl, s2⟩, ⟨l1, rfl, rfl⟩, ⟨m1, rfl, rfl, m2⟩, ⟨n1, rfl, rfl, n2⟩, ⟨r1, rfl, rfl⟩, ?_⟩
  refine okB_eq l2 r2 ?_
  clear s1 s2 s3 s4 s5 s6 l1 l2 l3 l4 l5 l6 m1 m2 m3 m4 m5 m6 n1 n2 n3 n4 n5 n6 r1 r2 r3 r4 r5 r6 u1 u2 u3 u3' v1 v2 v2' w1 w2 w2' x1 x2 x2' y1 y2 y3 y3' pos
  generalize redN (c * q + p * d) (d * q) = sN at *
  generalize redD (c * q + p * d) (d * q) = sD at *
  generalize sg (c * q + p * d) (d * q) = ks at *
  generalize redN (a * sN) (b * sD) = lN at *
  generalize redD (a * sN) (b * sD) = lD at *
  generalize sg (a * sN) (b * sD) = kl at *
  generalize redN (a * c) (b * d) = mN at *
  generalize redD (a * c) (b * d) = mD at *
  generalize sg (a * c) (b * d) = km at *
  generalize redN (a * p) (b * q) = nN at *
  generalize redD (a * p) (b * q) = nD at *
  generalize sg (a * p) (b * q) = kn at *
  generalize redN (mN * nD + nN * mD) (mD * nD) = rN at *
  generalize redD (mN * nD + nN * mD) (mD * nD) = rD at *
  generalize sg (mN * nD + nN * mD) (mD * nD) = kr at *
  refine cancel (Int.mul_ne_zero (Int.mul_ne_zero gs gl) (Int.mul_ne_zero gr (Int.mul_ne_zero gm gn))) ?_
  have e1 : ks * kl * (kr * (km * kn)) * (lN * rD) = a * (ks * sN) * ((km * mD) * (kn * nD)) := by
    rw [show ks * kl * (kr * (km * kn)) * (lN * rD) = ks * (kl * lN) * ((km * kn) * (kr * rD)) from by ac_rfl, gl1, gr2]; ac_rfl
  have e2 : ks * kl * (kr * (km * kn)) * (rN * lD) = b * (ks * sD) * ((km * mN) * (kn * nD) + (kn * nN) * (km * mD)) := by
    rw [show ks * kl * (kr * (km * kn)) * (rN * lD) = ks * (kl * lD) * ((km * kn) * (kr * rN)) from by ac_rfl, gl2, gr1, Int.mul_add (km * kn)]
    congr 1
    · ac_rfl
    · congr 1 <;> ac_rfl
  rw [e1, e2, gs1, gs2, gm1, gm2, gn1, gn2, Int.mul_add a, Int.add_mul (a * (c * q)), Int.mul_add (b * (d * q))]
  congr 1 <;> ac_rfl
theorem op_true {t : Bool} {x y : Int} (h : opOk t x y = true) : t = true ∧ redOk x y = true ∧ opN t x y = redN x y ∧ opD t x y = redD x y := by
  unfold opOk at h
  rw [Bool.and_eq_true] at h
  obtain ⟨h1, h2⟩ := h
  subst h1
  exact ⟨rfl, h2, rfl, rfl⟩
theorem sub_back {a b c d N D : Int} (hN : N = opN (two a b c d) (a * d + c * b) (b * d)) (hD : D = opD (two a b c d) (a * d + c * b) (b * d)) (h : opOk (two a b c d) (a * d + c * b) (b * d) = true)
    (k : opOk (two N D c d) (N * d - c * D) (D * d) = true) : a = opN (two N D c d) (N * d - c * D) (D * d) ∧ b = opD (two N D c d) (N * d - c * D) (D * d) := by
  obtain ⟨t1, r1, e1, e2⟩ := op_true h
  obtain ⟨t2, r2, e3, e4⟩ := op_true k
  rw [e3, e4]
  rw [e1] at hN
  rw [e2] at hD
  subst hN hD
  have := add_sub (two_out t1).1 r1 r2
  exact ⟨this.1.symm, this.2.symm⟩
theorem mul_back {a b c d N D : Int} (hN : N = opN (two a b c d) (a * d) (b * c)) (hD : D = opD (two a b c d) (a * d) (b * c)) (h : opOk (two a b c d) (a * d) (b * c) = true)
    (k : opOk (two N D c d) (N * c) (D * d) = true) : a = opN (two N D c d) (N * c) (D * d) ∧ b = opD (two N D c d) (N * c) (D * d) := by
  obtain ⟨t1, r1, e1, e2⟩ := op_true h
  obtain ⟨t2, r2, e3, e4⟩ := op_true k
  rw [e3, e4]
  rw [e1] at hN
  rw [e2] at hD
  subst hN hD
  have := div_mul (two_out t1).1 r1 r2
  exact ⟨this.1.symm, this.2.symm⟩
end Go.Proofs.Ytoiigmimdjipiaa.RM

/- Sums, tables of fractions as numbers, and what a column's step of the echelon keeps: the solutions, the dependence of rows, the units of the chosen columns. -/
namespace Go.Proofs.Ytoiigmimdjipiaa
open Go.RowKit Go.Proofs.Ytoiigmimdjipiaa.RM

/-- a sum of n -/
def sumN (f : Nat → Rat) : Nat → Rat
  | 0 => 0
  | n + 1 => sumN f n + f n
theorem sumN_congr {f g : Nat → Rat} : ∀ {n : Nat}, (∀ i, i < n → f i = g i) → sumN f n = sumN g n
  | 0, _ => rfl
  | n + 1, h => by
    simp only [sumN]
    rw [sumN_congr (fun i hi => h i (by omega)), h n (by omega)]
theorem sumN_zero {f : Nat → Rat} : ∀ {n : Nat}, (∀ i, i < n → f i = 0) → sumN f n = 0
  | 0, _ => rfl
  | n + 1, h => by
    simp only [sumN]
    rw [sumN_zero (fun i hi => h i (by omega)), h n (by omega)]
    grind
theorem sumN_add (f g : Nat → Rat) : ∀ n, sumN (fun i => f i + g i) n = sumN f n + sumN g n
  | 0 => by simp only [sumN]; grind
  | n + 1 => by simp only [sumN]; rw [sumN_add f g n]; grind
theorem sumN_sub (f g : Nat → Rat) : ∀ n, sumN (fun i => f i - g i) n = sumN f n - sumN g n
  | 0 => by simp only [sumN]; grind
  | n + 1 => by simp only [sumN]; rw [sumN_sub f g n]; grind
theorem sumN_mul (f : Nat → Rat) (c : Rat) : ∀ n, sumN (fun i => f i * c) n = sumN f n * c
  | 0 => by simp only [sumN]; grind
  | n + 1 => by simp only [sumN]; rw [sumN_mul f c n]; grind
theorem sumN_swap (f : Nat → Nat → Rat) (m : Nat) : ∀ n, sumN (fun i => sumN (fun j => f i j) m) n = sumN (fun j => sumN (fun i => f i j) n) m
  | 0 => by
    simp only [sumN]
    rw [sumN_zero (fun _ _ => rfl)]
  | n + 1 => by
    simp only [sumN]
    rw [sumN_swap f m n, ← sumN_add]
/-- one of them turned -/
theorem sumN_turn (f : Nat → Rat) (a : Nat) (c : Rat) : ∀ {n : Nat}, a < n → sumN (fun i => if i = a then c else f i) n = sumN f n - f a + c
  | 0, h => by omega
  | n + 1, h => by
    simp only [sumN]
    by_cases e : a = n
    · subst e
      rw [if_pos rfl, sumN_congr (g := f) (fun i hi => by rw [if_neg (by omega)])]
      grind
    · rw [if_neg (fun h => e h.symm), sumN_turn f a c (by omega)]
      grind
/-- just one is not 0 -/
theorem sumN_one {f : Nat → Rat} {a n : Nat} (ha : a < n) (h : ∀ i, i < n → i ≠ a → f i = 0) : sumN f n = f a := by
  have h1 : sumN f n = sumN (fun i => if i = a then f a else (fun _ => 0) i) n := sumN_congr (fun i hi => by
    by_cases e : i = a
    · rw [if_pos e, e]
    · rw [if_neg e, h i hi e])
  rw [h1, sumN_turn _ _ _ ha, sumN_zero (fun _ _ => rfl)]
  grind
/-- in another order: two were exchanged -/
theorem sumN_exch (f : Nat → Rat) (a b : Nat) {n : Nat} (ha : a < n) (hb : b < n) : sumN (fun i => f (exch a b i)) n = sumN f n := by
  by_cases e : a = b
  · subst e
    apply sumN_congr
    intro i _
    unfold exch
    split
    · rename_i h; rw [h]
    · rfl
  · have h1 : sumN (fun i => f (exch a b i)) n = sumN (fun i => if i = b then f a else (fun i => if i = a then f b else f i) i) n := sumN_congr (fun i hi => by
      unfold exch
      by_cases e1 : b = i
      · rw [if_pos e1, if_pos e1.symm]
      · rw [if_neg e1, if_neg (show ¬ i = b from fun h => e1 h.symm)]
        show _ = if i = a then f b else f i
        by_cases e2 : a = i
        · rw [if_pos e2, if_pos e2.symm]
        · rw [if_neg e2, if_neg (show ¬ i = a from fun h => e2 h.symm)])
    rw [h1, sumN_turn _ _ _ hb, sumN_turn _ _ _ ha, if_neg (fun h => e h.symm)]
    grind
/-- the number that a fraction is -/
def qf (p : Fr) : Rat := Rat.divInt p.1 p.2
theorem qf_red {x y : Int} (h : redOk x y = true) : qf (redN x y, redD x y) = Rat.divInt x y := by
  obtain ⟨h1, h2, h3⟩ := red_sg h
  have hb := okB_out (okB_redN h)
  have hy : y ≠ 0 := by
    intro h0
    have h4 : sg x y * redD x y = 0 := by rw [h3]; exact h0
    rcases Int.mul_eq_zero.1 h4 with k | k
    · exact h1 k
    · omega
  unfold qf
  rw [Rat.divInt_eq_divInt_iff (by show redD x y ≠ 0; omega) hy]
  show redN x y * y = x * redD x y
  obtain ⟨p, hp⟩ : ∃ p, p = redN x y := ⟨_, rfl⟩
  obtain ⟨q, hq⟩ : ∃ q, q = redD x y := ⟨_, rfl⟩
  obtain ⟨s, hs⟩ : ∃ s, s = sg x y := ⟨_, rfl⟩
  rw [← hp, ← hs] at h2
  rw [← hq, ← hs] at h3
  rw [← hp, ← hq]
  clear hp hq hs h1 hb hy h
  grind
theorem okF_ne {p : Fr} (h : okF p = true) : p.2 ≠ 0 := by have := okB_out h; omega
theorem op_parts {p q : Fr} {x y : Int} (h : opOk (two p.1 p.2 q.1 q.2) x y = true) : okF p = true ∧ okF q = true ∧ qf (opN (two p.1 p.2 q.1 q.2) x y, opD (two p.1 p.2 q.1 q.2) x y) = Rat.divInt x y := by
  obtain ⟨t, h2, h3, h4⟩ := op_true h
  obtain ⟨t1, t2⟩ := two_out t
  exact ⟨t1, t2, by rw [h3, h4]; exact qf_red h2⟩
theorem dz {n d : Int} (hd : d ≠ 0) : Rat.divInt n d = 0 ↔ n = 0 := by
  rw [show (0 : Rat) = Rat.divInt 0 1 from rfl, Rat.divInt_eq_divInt_iff hd (by decide)]
  omega
theorem qf_mul {p q : Fr} (h : mulK p q = true) : qf (mulP p q) = qf p * qf q := by
  obtain ⟨h1, h2, h3⟩ := op_parts h
  unfold mulP
  rw [h3]
  unfold qf
  rw [Rat.divInt_mul_divInt]
theorem qf_add {p q : Fr} (h : addK p q = true) : qf (addP p q) = qf p + qf q := by
  obtain ⟨h1, h2, h3⟩ := op_parts h
  unfold addP
  rw [h3]
  unfold qf
  rw [Rat.divInt_add_divInt _ _ (okF_ne h1) (okF_ne h2)]
theorem qf_sub {p q : Fr} (h : subK p q = true) : qf (subP p q) = qf p - qf q := by
  obtain ⟨h1, h2, h3⟩ := op_parts h
  unfold subP
  rw [h3]
  unfold qf
  rw [Rat.divInt_sub_divInt _ _ (okF_ne h1) (okF_ne h2)]
theorem qf_div {p q : Fr} (h : divK p q = true) : qf q ≠ 0 ∧ qf (divP p q) = qf p / qf q := by
  obtain ⟨h1, h2, h3⟩ := op_parts h
  have h4 : opOk (two p.1 p.2 q.1 q.2) (p.1 * q.2) (p.2 * q.1) = true := h
  obtain ⟨-, h5, -, -⟩ := op_true h4
  have hq : q.1 ≠ 0 := by
    intro h0
    unfold redOk at h5
    rw [Bool.and_eq_true] at h5
    have := (redIn_out h5.1).1
    rw [h0] at this
    omega
  unfold divP
  rw [h3]
  unfold qf
  have hz : Rat.divInt q.1 q.2 ≠ 0 := by
    intro h0
    rw [dz (okF_ne h2)] at h0
    exact hq h0
  refine ⟨hz, ?_⟩
  have hm : Rat.divInt (p.1 * q.2) (p.2 * q.1) * Rat.divInt q.1 q.2 = Rat.divInt p.1 p.2 := by
    rw [Rat.divInt_mul_divInt, Rat.divInt_eq_divInt_iff (by
      intro h0
      rcases Int.mul_eq_zero.1 h0 with k | k
      · rcases Int.mul_eq_zero.1 k with k | k
        · exact okF_ne h1 k
        · exact hq k
      · exact okF_ne h2 k) (okF_ne h1)]
    grind
  rw [← hm]
  grind
theorem qf_inj {p q : Fr} (h1 : okF p = true) (h2 : okF q = true) (h : qf p = qf q) : p = q := by
  unfold qf at h
  rw [Rat.divInt_eq_divInt_iff (okF_ne h1) (okF_ne h2)] at h
  obtain ⟨e1, e2⟩ := okB_eq h1 h2 h
  exact Prod.ext e1 e2
theorem qf_zero {p : Fr} (h : okF p = true) : qf p = 0 ↔ p.1 = 0 := by
  unfold qf
  rw [dz (okF_ne h)]
theorem qf_null : qf (0, 1) = 0 := by unfold qf; rfl
theorem qf_one : qf (1, 1) = 1 := by unfold qf; rfl
/-- a table as numbers -/
def mv (rows : List (List Fr)) (i j : Nat) : Rat := qf (fr (rw' rows i) j)
/-- what every column's step of the echelon is, in numbers -/
structure StepQ (m L at' r col : Nat) (M M' : Nat → Nat → Rat) : Prop where
  ha : at' < m
  hr : r < m
  hge : at' ≤ r
  hc : col < L
  f0 : M r col ≠ 0
  top : ∀ j, j < L → M' at' j = M r j / M r col
  oth : ∀ i, i < m → i ≠ at' → ∀ j, j < L → M' i j = M (exch r at' i) j - M (exch r at' i) col * M' at' j
/-- the same solutions -/
theorem StepQ.ker {m L at' r col : Nat} {M M' : Nat → Nat → Rat} (h : StepQ m L at' r col M M') (v : Nat → Rat) : (∀ i, i < m → sumN (fun j => M' i j * v j) L = 0) ↔ (∀ i, i < m → sumN (fun j => M i j * v j) L = 0) := by
  have e1 : sumN (fun j => M' at' j * v j) L = sumN (fun j => M r j * v j) L / M r col := by
    have := h.f0
    rw [show sumN (fun j => M r j * v j) L / M r col = sumN (fun j => M r j * v j) L * (1 / M r col) by grind, ← sumN_mul]
    apply sumN_congr
    intro j hj
    rw [h.top j hj]
    grind
  have e2 : ∀ i, i < m → i ≠ at' → sumN (fun j => M' i j * v j) L = sumN (fun j => M (exch r at' i) j * v j) L - M (exch r at' i) col * sumN (fun j => M' at' j * v j) L := by
    intro i hi hne
    rw [show M (exch r at' i) col * sumN (fun j => M' at' j * v j) L = sumN (fun j => M' at' j * v j) L * M (exch r at' i) col by grind, ← sumN_mul, ← sumN_sub]
    apply sumN_congr
    intro j hj
    rw [h.oth i hi hne j hj]
    grind
  have f0 := h.f0
  constructor
  · intro h0
    have hr0 : sumN (fun j => M r j * v j) L = 0 := by
      have := h0 at' h.ha
      rw [e1] at this
      grind
    intro i hi
    by_cases e : i = r
    · rw [e]; exact hr0
    · have hx : exch r at' (exch r at' i) = i := by
        unfold exch
        split <;> split <;> (try split) <;> omega
      have hne : exch r at' i ≠ at' := by
        unfold exch
        have := h.ha
        split
        · omega
        · split <;> omega
      have := e2 (exch r at' i) (exch_lt h.hr h.ha hi) hne
      rw [hx, h0 _ (exch_lt h.hr h.ha hi), h0 _ h.ha] at this
      grind
  · intro h0
    have ha0 : sumN (fun j => M' at' j * v j) L = 0 := by
      rw [e1, h0 r h.hr]
      grind
    intro i hi
    by_cases e : i = at'
    · rw [e]; exact ha0
    · rw [e2 i hi e, ha0, h0 _ (exch_lt h.hr h.ha hi)]
      grind
/-- rows of which some make up nothing, by the first n columns -/
def Dep (m n : Nat) (M : Nat → Nat → Rat) : Prop := ∃ y : Nat → Rat, (∃ i, i < m ∧ y i ≠ 0) ∧ ∀ j, j < n → sumN (fun i => y i * M i j) m = 0
theorem StepQ.dep {m L at' r col n : Nat} {M M' : Nat → Nat → Rat} (h : StepQ m L at' r col M M') (hn : n ≤ L) (hcn : col < n) (hd : Dep m n M) : Dep m n M' := by
  obtain ⟨y, ⟨k, hk, hy⟩, h0⟩ := hd
  have hx : ∀ i, exch r at' (exch r at' i) = i := by
    intro i
    unfold exch
    split <;> split <;> (try split) <;> omega
  have hsum : ∀ j, j < n → sumN (fun i => y (exch r at' i) * M (exch r at' i) j) m = 0 := by
    intro j hj
    rw [sumN_exch (fun i => y i * M i j) r at' h.hr h.ha]
    exact h0 j hj
  have hat : exch r at' at' = r := by unfold exch; rw [if_pos rfl]
  have f0 := h.f0
  refine ⟨fun i => if i = at' then 0 else y (exch r at' i), ?_, ?_⟩
  · apply Classical.byContradiction
    intro hn0
    have hz : ∀ i, i < m → i ≠ at' → y (exch r at' i) = 0 := by
      intro i hi hne
      apply Classical.byContradiction
      intro h1
      exact hn0 ⟨i, hi, by show (if i = at' then (0 : Rat) else _) ≠ 0; rw [if_neg hne]; exact h1⟩
    have hs := hsum col hcn
    rw [sumN_one h.ha (fun i hi hne => by rw [hz i hi hne]; grind), hat] at hs
    have hyr : y r = 0 := by grind
    apply hy
    by_cases e : k = r
    · rw [e]; exact hyr
    · have := hz (exch r at' k) (exch_lt h.hr h.ha hk) (by
        intro h1
        have h2 : exch r at' (exch r at' k) = exch r at' at' := by rw [h1]
        rw [hx, hat] at h2
        exact e h2)
      rw [hx] at this
      exact this
  · intro j hj
    have he : sumN (fun i => (if i = at' then 0 else y (exch r at' i)) * M' i j) m = sumN (fun i => y (exch r at' i) * M (exch r at' i) j - (y (exch r at' i) * M (exch r at' i) col) * M' at' j) m := by
      apply sumN_congr
      intro i hi
      by_cases e : i = at'
      · rw [if_pos e, e, hat, h.top j (by omega)]
        grind
      · rw [if_neg e, h.oth i hi e j (by omega)]
        grind
    rw [he, sumN_sub, sumN_mul, hsum j hj, hsum col hcn]
    grind
/-- the chosen columns are units -/
def Units (m : Nat) (M : Nat → Nat → Rat) (ch : List Nat) : Prop := ∀ k, k < ch.length → ∀ i, i < m → M i (nt ch k) = if i = k then 1 else 0
theorem nt_app {ch : List Nat} {c k : Nat} (h : k < ch.length) : nt (ch ++ [c]) k = nt ch k := by unfold nt; rw [List.getElem?_append_left h]
theorem nt_last (ch : List Nat) (c : Nat) : nt (ch ++ [c]) ch.length = c := by simp [nt]
theorem StepQ.units {m L r col : Nat} {M M' : Nat → Nat → Rat} {ch : List Nat} (h : StepQ m L ch.length r col M M') (hu : Units m M ch) (hl : ∀ c, c ∈ ch → c < L) : Units m M' (ch ++ [col]) := by
  have f0 := h.f0
  have hge := h.hge
  have hr := h.hr
  have ha := h.ha
  intro k hk i hi
  rw [List.length_append, List.length_singleton] at hk
  by_cases e : k < ch.length
  · rw [nt_app e]
    have hc : nt ch k < L := hl _ (nt_mem e)
    have htop : M' ch.length (nt ch k) = 0 := by
      rw [h.top _ hc, hu k e r h.hr, if_neg (by omega)]
      grind
    by_cases e2 : i = ch.length
    · rw [e2, htop, if_neg (by omega)]
    · rw [h.oth i hi e2 _ hc, htop, hu k e _ (exch_lt h.hr h.ha hi)]
      by_cases e3 : i = k
      · have : exch r ch.length i = i := by unfold exch; rw [if_neg (by omega), if_neg (by omega)]
        rw [this, if_pos e3]
        grind
      · have : exch r ch.length i ≠ k := by unfold exch; split <;> (try split) <;> omega
        rw [if_neg this, if_neg e3]
        grind
  · obtain rfl : k = ch.length := by omega
    rw [nt_last]
    have htop : M' ch.length col = 1 := by rw [h.top _ h.hc]; grind
    by_cases e2 : i = ch.length
    · rw [if_pos e2, e2, htop]
    · rw [if_neg e2, h.oth i hi e2 _ h.hc, htop]
      grind
/-- what every state of the echelon is -/
structure Base (m L : Nat) (rows : List (List Fr)) (ch : List Nat) (col : Nat) : Prop where
  len : rows.length = m
  row : ∀ x, x < m → (rw' rows x).length = L
  ok : ∀ x, x < m → ∀ j, j < L → okF (fr (rw' rows x) j) = true
  cl : ch.length ≤ m
  chs : ∀ c, c ∈ ch → c < col
theorem divR_at {row : List Fr} {f : Fr} {j : Nat} (hj : j < row.length) : fr (divR row f) j = divP (fr row j) f := by simp [divR, fr, hj]
theorem takeR_at {o w : List Fr} {t : Fr} {j : Nat} (hj : j < o.length) : fr (takeR o t w) j = takeE (fr o j) t (fr w j) := by simp [takeR, fr, hj]
theorem divB_at {row : List Fr} {f : Fr} (h : divB row f = true) {j : Nat} (hj : j < row.length) : divK (fr row j) f = true := all_at (p := fun p => divK p f) (d := ((0, 0) : Fr)) h hj
theorem takeB_at {o w : List Fr} {t : Fr} (h : takeB o t w = true) {j : Nat} (hj : j < o.length) : takeK (fr o j) t (fr w j) = true := by
  unfold takeB at h
  rw [List.all_eq_true] at h
  exact h j (by simpa using hj)
theorem qf_take {o t x : Fr} (h : takeK o t x = true) : qf (takeE o t x) = qf o - qf t * qf x ∧ okF (takeE o t x) = true := by
  unfold takeK at h
  have hm : mulK t x = true := by
    rw [← Bool.not_eq_false]
    intro h0
    rw [mul_none h0, sub_zero_r] at h
    cases h
  unfold takeE
  exact ⟨by rw [qf_sub h, qf_mul hm], sub_right h⟩
/-- one column's step, in numbers; the state behind it -/
theorem stepQ {m L r col : Nat} {rows : List (List Fr)} {ch : List Nat} (hB : Base m L rows ch col) (hc : col < L) (h1 : ch.length ≤ r) (h2 : r < m) (hb : stepB rows ch.length r col = true) :
    StepQ m L ch.length r col (mv rows) (mv (stepT rows ch.length r col)) ∧ Base m L (stepT rows ch.length r col) (ch ++ [col]) (col + 1) := by
  have ha : ch.length < m := by omega
  have hb' := hb
  unfold stepB at hb'
  rw [Bool.and_eq_true, List.all_eq_true] at hb'
  obtain ⟨hd, ht⟩ := hb'
  have hlr : (rw' rows r).length = L := hB.row r h2
  have hat : ∀ i, i < m → rw' (stepT rows ch.length r col) i = if i = ch.length then divR (rw' rows r) (fr (rw' rows r) col) else takeR (rw' (swapT rows r ch.length) i) (fr (rw' (swapT rows r ch.length) i) col) (divR (rw' rows r) (fr (rw' rows r) col)) := by
    intro i hi
    have hi2 : i < rows.length := by rw [hB.len]; exact hi
    rw [← stepP_all, stepP_at _ _ _ _ _ _ hi2, if_pos hi2]
  have htop : ∀ j, j < L → fr (rw' (stepT rows ch.length r col) ch.length) j = divP (fr (rw' rows r) j) (fr (rw' rows r) col) := by
    intro j hj
    rw [hat _ ha, if_pos rfl, divR_at (by omega)]
  have hkd : ∀ j, j < L → divK (fr (rw' rows r) j) (fr (rw' rows r) col) = true := fun j hj => divB_at hd (by omega)
  have hoth : ∀ i, i < m → i ≠ ch.length → ∀ j, j < L → fr (rw' (stepT rows ch.length r col) i) j = takeE (fr (rw' rows (exch r ch.length i)) j) (fr (rw' rows (exch r ch.length i)) col) (divP (fr (rw' rows r) j) (fr (rw' rows r) col)) ∧ takeK (fr (rw' rows (exch r ch.length i)) j) (fr (rw' rows (exch r ch.length i)) col) (divP (fr (rw' rows r) j) (fr (rw' rows r) col)) = true := by
    intro i hi hne j hj
    have hl := hB.row _ (exch_lt h2 ha hi)
    have hti := ht i (by simpa [hB.len] using hi)
    rw [rw_exch _ _ _ _ (by rw [hB.len]; exact h2) (by rw [hB.len]; exact ha)] at hti
    have hti2 : takeB (rw' rows (exch r ch.length i)) (fr (rw' rows (exch r ch.length i)) col) (divR (rw' rows r) (fr (rw' rows r) col)) = true := by
      simpa [hne] using hti
    have hk := takeB_at hti2 (j := j) (by omega)
    rw [divR_at (by omega)] at hk
    rw [hat i hi, if_neg hne, rw_exch _ _ _ _ (by rw [hB.len]; exact h2) (by rw [hB.len]; exact ha), takeR_at (by omega), divR_at (by omega)]
    exact ⟨rfl, hk⟩
  refine ⟨⟨ha, h2, h1, hc, (qf_div (hkd col hc)).1, fun j hj => ?_, fun i hi hne j hj => ?_⟩, ⟨by rw [stepT_len]; exact hB.len, fun x hx => ?_, fun x hx j hj => ?_, by simp; omega, fun c hx => ?_⟩⟩
  · show qf _ = _
    rw [htop j hj, (qf_div (hkd j hj)).2]
    rfl
  · obtain ⟨e1, e2⟩ := hoth i hi hne j hj
    show qf _ = _
    rw [e1, (qf_take e2).1]
    show _ = mv rows _ j - mv rows _ col * qf _
    rw [htop j hj]
    rfl
  · exact stepT_row (fun y hy => hB.row y (by rw [← hB.len]; exact hy)) (by rw [hB.len]; exact ha) (by rw [hB.len]; exact h2) x (by rw [stepT_len, hB.len]; exact hx)
  · by_cases e : x = ch.length
    · rw [e, htop j hj]
      exact div_right (hkd j hj)
    · obtain ⟨e1, e2⟩ := hoth x hx e j hj
      rw [e1]
      exact (qf_take e2).2
  · rw [List.mem_append] at hx
    rcases hx with hx | hx
    · have := hB.chs c hx; omega
    · simp at hx; omega
/-- what every step keeps, the whole echelon does -/
theorem ech_ind {m L : Nat} {P : Nat → List (List Fr) → List Nat → Prop}
    (free : ∀ col rows ch, Base m L rows ch col → col < L → (∀ x, ch.length ≤ x → x < m → (fr (rw' rows x) col).1 = 0) → P col rows ch → P (col + 1) rows ch)
    (yes : ∀ col rows ch r, Base m L rows ch col → col < L → ch.length ≤ r → r < m → (fr (rw' rows r) col).1 ≠ 0 → (∀ x, ch.length ≤ x → x < r → (fr (rw' rows x) col).1 = 0) → stepB rows ch.length r col = true → P col rows ch → P (col + 1) (stepT rows ch.length r col) (ch ++ [col])) :
    ∀ n col rows ch R C, col + n ≤ L → Base m L rows ch col → P col rows ch → echF n col rows ch = some (R, C) → P (col + n) R C ∧ Base m L R C (col + n)
  | 0, col, rows, ch, R, C, _, hB, hP, he => by
    simp only [echF] at he
    cases he
    exact ⟨hP, hB⟩
  | n + 1, col, rows, ch, R, C, hl, hB, hP, he => by
    have hp := piv_le (rows := rows) (col := col) (at' := ch.length) (by rw [hB.len]; exact hB.cl)
    by_cases hf : piv rows col ch.length = rows.length
    · rw [echF_free hf] at he
      have hz : ∀ x, ch.length ≤ x → x < m → (fr (rw' rows x) col).1 = 0 := by
        intro x h1 h2
        refine pivF_zero rows col (rows.length - ch.length) ch.length x h1 ?_
        show x < piv rows col ch.length
        rw [hf, hB.len]
        exact h2
      have := ech_ind free yes n (col + 1) rows ch R C (by omega) ⟨hB.len, hB.row, hB.ok, hB.cl, fun c hx => by have := hB.chs c hx; omega⟩ (free col rows ch hB (by omega) hz hP) he
      rw [show col + (n + 1) = col + 1 + n by omega]
      exact this
    · have hlt : piv rows col ch.length < m := by rw [← hB.len]; omega
      by_cases hs : stepB rows ch.length (piv rows col ch.length) col = true
      · rw [echF_yes rfl hf hs] at he
        obtain ⟨-, hB2⟩ := stepQ hB (by omega) hp.1 hlt hs
        have hne : (fr (rw' rows (piv rows col ch.length)) col).1 ≠ 0 := by
          apply pivF_at
          show piv rows col ch.length < _
          have := hB.cl
          rw [hB.len]
          omega
        have hzz : ∀ x, ch.length ≤ x → x < piv rows col ch.length → (fr (rw' rows x) col).1 = 0 := fun x h1 h2 => pivF_zero rows col _ _ x h1 h2
        have := ech_ind free yes n (col + 1) _ _ R C (by omega) hB2 (yes col rows ch _ hB (by omega) hp.1 hlt hne hzz hs hP) he
        rw [show col + (n + 1) = col + 1 + n by omega]
        exact this
      · rw [Bool.not_eq_true] at hs
        rw [echF_no rfl hf hs] at he
        cases he
theorem base_start {rows : List (List Fr)} {L : Nat} (hL : L = (rw' rows 0).length) (h : tabB rows 6 = true) : Base rows.length L rows [] 0 := by
  obtain ⟨-, hr⟩ := tabB_out h
  refine ⟨rfl, fun x hx => by rw [hL]; exact (hr x hx).1, fun x hx j hj => ?_, Nat.zero_le _, fun c hc => absurd hc (by simp)⟩
  exact allOk_at (hr x hx).2 (by rw [(hr x hx).1]; omega)
end Go.Proofs.Ytoiigmimdjipiaa

/- Sums over a cover as numbers: parts make the variance, what is carried is a cover, carried twice is carried once. -/
namespace Go.Proofs.Ytoiigmimdjipiaa
open Go.Proofs.Ytoiigmimdjipiaa.RM

theorem qf_p1 {a c : Fr} (h : mulK a c = true) : qf (p1V a c) = qf a * qf c := by unfold p1V; rw [keepF_yes h]; exact qf_mul h
theorem stp_ok {s : Fr × Bool} {a c b : Fr} (h : (stpV s a c b).2 = false) : s.2 = false ∧ okF s.1 = true ∧ okF (stpV s a c b).1 = true ∧ qf (stpV s a c b).1 = qf s.1 + qf a * (qf c * qf b) := by
  unfold stpV at h ⊢
  dsimp only at h ⊢
  rw [Bool.or_eq_false_iff, Bool.or_eq_false_iff, Bool.or_eq_false_iff] at h
  obtain ⟨⟨⟨h1, h2⟩, h3⟩, h4⟩ := h
  simp only [Bool.not_eq_false'] at h2 h3 h4
  refine ⟨h1, (op_parts h4).1, ?_, ?_⟩
  · rw [keepF_yes h4]; exact add_right h4
  · rw [keepF_yes h4, qf_add h4, qf_p1 h3, qf_p1 h2]; grind
/-- k summands of a row -/
def lin (r bs : List Fr) (k : Nat) : Rat := sumN (fun j => qf (fr r j) * qf (fr bs j)) k
theorem row_ok {a : Fr} {r bs : List Fr} {s : Fr × Bool} : ∀ {k : Nat}, (rowV a r bs s k).2 = false → s.2 = false ∧ (okF s.1 = true → okF (rowV a r bs s k).1 = true) ∧ qf (rowV a r bs s k).1 = qf s.1 + qf a * lin r bs k
  | 0, h => ⟨h, fun h => h, by show qf s.1 = _; unfold lin; simp only [sumN]; grind⟩
  | k + 1, h => by
    have h0 : (stpV (rowV a r bs s k) a (fr r k) (fr bs k)).2 = false := h
    obtain ⟨h1, h2, h3, h4⟩ := stp_ok h0
    obtain ⟨i1, i2, i3⟩ := row_ok h1
    refine ⟨i1, fun _ => h3, ?_⟩
    show qf (stpV (rowV a r bs s k) a (fr r k) (fr bs k)).1 = _
    rw [h4, i3]
    unfold lin
    simp only [sumN]
    grind
/-- n rows of a cover -/
def quad (ps : List Fr) (rows : List (List Fr)) (bs : List Fr) (n : Nat) : Rat := sumN (fun i => qf (fr ps i) * lin (rw' rows i) bs rows.length) n
theorem okF_null : okF (0, 1) = true := by decide
theorem sum_ok {ps bs : List Fr} {rows : List (List Fr)} {bd : Bool} : ∀ {n : Nat}, (sumV ps rows bs bd n).2 = false → bd = false ∧ okF (sumV ps rows bs bd n).1 = true ∧ qf (sumV ps rows bs bd n).1 = quad ps rows bs n
  | 0, h => ⟨h, okF_null, qf_null⟩
  | n + 1, h => by
    have h0 : (rowV (fr ps n) (rw' rows n) bs (sumV ps rows bs bd n) rows.length).2 = false := h
    obtain ⟨h1, h2, h3⟩ := row_ok h0
    obtain ⟨i1, i2, i3⟩ := sum_ok h1
    refine ⟨i1, h2 i2, ?_⟩
    show qf (rowV (fr ps n) (rw' rows n) bs (sumV ps rows bs bd n) rows.length).1 = _
    rw [h3, i3]
    unfold quad
    simp only [sumN]
theorem prt_ok {ps : List Fr} {rows : List (List Fr)} : ∀ {k : Nat}, (prtV ps rows k).2 = false → ∀ i, i < k → okF (fr (prtV ps rows k).1 i) = true ∧ qf (fr (prtV ps rows k).1 i) = qf (fr ps i) * lin (rw' rows i) ps rows.length
  | 0, _, i, hi => by omega
  | k + 1, h, i, hi => by
    have h0 : (rowV (fr ps k) (rw' rows k) ps ((0, 1), (prtV ps rows k).2) rows.length).2 = false := h
    obtain ⟨h1, h2, h3⟩ := row_ok h0
    have hl := prtV_len ps rows k
    have e : fr (prtV ps rows (k + 1)).1 i = if i < k then fr (prtV ps rows k).1 i else (partS ps rows k (prtV ps rows k).2).1 := by
      show fr ((prtV ps rows k).1 ++ [_]) i = _
      unfold fr
      by_cases c : i < k
      · rw [if_pos c, List.getElem?_append_left (by omega)]
      · obtain rfl : i = k := by omega
        rw [if_neg c, List.getElem?_append_right (by omega), hl, Nat.sub_self]
        rfl
    rw [e]
    by_cases c : i < k
    · rw [if_pos c]; exact prt_ok h1 i c
    · obtain rfl : i = k := by omega
      rw [if_neg c]
      refine ⟨h2 okF_null, ?_⟩
      show qf (rowV (fr ps i) (rw' rows i) ps ((0, 1), (prtV ps rows i).2) rows.length).1 = _
      rw [h3]
      show qf (0, 1) + _ = _
      rw [qf_null]
      grind
/-- a sum of a list, each time with the model's Add -/
def addV (p : List Fr) : Nat → Fr × Bool
  | 0 => ((0, 1), true)
  | k + 1 => (addP (addV p k).1 (fr p k), (addV p k).2 && addK (addV p k).1 (fr p k))
theorem add_ok {p : List Fr} : ∀ {k : Nat}, (addV p k).2 = true → okF (addV p k).1 = true ∧ qf (addV p k).1 = sumN (fun i => qf (fr p i)) k
  | 0, _ => ⟨okF_null, qf_null⟩
  | k + 1, h => by
    have h0 : ((addV p k).2 && addK (addV p k).1 (fr p k)) = true := h
    rw [Bool.and_eq_true] at h0
    obtain ⟨i1, i2⟩ := add_ok h0.1
    refine ⟨add_right h0.2, ?_⟩
    show qf (addP (addV p k).1 (fr p k)) = _
    rw [qf_add h0.2, i2]
    simp only [sumN]
/-- PARTS MAKE THE VARIANCE -/
theorem parts_make {ps : List Fr} {rows : List (List Fr)} (h1 : varO ps rows = true) (h2 : prtO ps rows = true) (h3 : (addV (prtA ps rows) (prtA ps rows).length).2 = true) : (addV (prtA ps rows) (prtA ps rows).length).1 = varA ps rows := by
  obtain ⟨a1, a2⟩ := add_ok h3
  rw [varA_yes h1]
  unfold varO at h1
  rw [Bool.and_eq_true, Bool.not_eq_true'] at h1
  obtain ⟨-, b1, b2⟩ := sum_ok h1.2
  refine qf_inj a1 b1 ?_
  rw [a2, show qf (varS ps rows).1 = _ from b2, prtA_yes h2, prtV_len]
  unfold prtO at h2
  rw [Bool.and_eq_true, Bool.not_eq_true'] at h2
  exact sumN_congr fun i hi => (prt_ok h2.2 i hi).2
theorem quad_turn {ps bs : List Fr} {rows : List (List Fr)} (hs : ∀ i j, i < rows.length → j < rows.length → fr (rw' rows i) j = fr (rw' rows j) i) : quad ps rows bs rows.length = quad bs rows ps rows.length := by
  have e1 : ∀ ps bs : List Fr, quad ps rows bs rows.length = sumN (fun i => sumN (fun j => qf (fr ps i) * qf (fr (rw' rows i) j) * qf (fr bs j)) rows.length) rows.length := by
    intro ps bs
    unfold quad
    refine sumN_congr fun i hi => ?_
    unfold lin
    rw [Rat.mul_comm, ← sumN_mul]
    exact sumN_congr fun j hj => by grind
  rw [e1, e1, sumN_swap]
  refine sumN_congr fun i hi => sumN_congr fun j hj => ?_
  rw [hs j i hj hi]
  grind
theorem symP_any {rows : List (List Fr)} (h : symP rows) : ∀ i j, i < rows.length → j < rows.length → fr (rw' rows i) j = fr (rw' rows j) i := by
  intro i j hi hj
  rcases Nat.lt_trichotomy i j with c | c | c
  · exact (h j hj i c).symm
  · rw [c]
  · exact h i hi j c
/-- the rows of what is carried -/
theorem crs_at {S rows : List (List Fr)} {i : Nat} {bd : Bool} : ∀ {k : Nat}, (crsV S rows i bd k).2 = false → bd = false ∧ ∀ j, j < k → okF (fr (crsV S rows i bd k).1 j) = true ∧ qf (fr (crsV S rows i bd k).1 j) = quad (rw' S i) rows (rw' S j) rows.length
  | 0, h => ⟨h, fun j hj => by omega⟩
  | k + 1, h => by
    have h0 : (sumV (rw' S i) rows (rw' S k) (crsV S rows i bd k).2 rows.length).2 = false := h
    obtain ⟨h1, h2, h3⟩ := sum_ok h0
    obtain ⟨i1, i2⟩ := crs_at h1
    refine ⟨i1, fun j hj => ?_⟩
    have hl := crsV_len S rows i bd k
    have e : fr (crsV S rows i bd (k + 1)).1 j = if j < k then fr (crsV S rows i bd k).1 j else (sumV (rw' S i) rows (rw' S k) (crsV S rows i bd k).2 rows.length).1 := by
      show fr ((crsV S rows i bd k).1 ++ [_]) j = _
      unfold fr
      by_cases c : j < k
      · rw [if_pos c, List.getElem?_append_left (by omega)]
      · obtain rfl : j = k := by omega
        rw [if_neg c, List.getElem?_append_right (by omega), hl, Nat.sub_self]
        rfl
    rw [e]
    by_cases c : j < k
    · rw [if_pos c]; exact i2 j c
    · obtain rfl : j = k := by omega
      rw [if_neg c]
      exact ⟨h2, h3⟩
theorem car_at {S rows : List (List Fr)} : ∀ {k : Nat}, (carV S rows k).2 = false → ∀ i, i < k → (rw' (carV S rows k).1 i).length = S.length ∧ ∀ j, j < S.length → okF (fr (rw' (carV S rows k).1 i) j) = true ∧ qf (fr (rw' (carV S rows k).1 i) j) = quad (rw' S i) rows (rw' S j) rows.length
  | 0, _, i, hi => by omega
  | k + 1, h, i, hi => by
    have h0 : (crsV S rows k (carV S rows k).2 S.length).2 = false := h
    obtain ⟨h1, h2⟩ := crs_at h0
    have hl := carV_len S rows k
    have e : rw' (carV S rows (k + 1)).1 i = if i < k then rw' (carV S rows k).1 i else (crsV S rows k (carV S rows k).2 S.length).1 := by
      show rw' ((carV S rows k).1 ++ [_]) i = _
      unfold rw'
      by_cases c : i < k
      · rw [if_pos c, List.getElem?_append_left (by omega)]
      · obtain rfl : i = k := by omega
        rw [if_neg c, List.getElem?_append_right (by omega), hl, Nat.sub_self]
        rfl
    rw [e]
    by_cases c : i < k
    · rw [if_pos c]; exact car_at h1 i c
    · obtain rfl : i = k := by omega
      rw [if_neg c]
      exact ⟨crsV_len _ _ _ _ _, h2⟩
end Go.Proofs.Ytoiigmimdjipiaa

/- What the law of Solved asks, without any program: what is solved solves; a table with two rows alike has no one solution; the rank is full. -/
namespace Go.Proofs.Ytoiigmimdjipiaa
open Go.RowKit Go.Proofs.Ytoiigmimdjipiaa.RM

theorem solO_out {rows : List (List Fr)} {right : List Fr} (h : solO rows right = true) : solC rows right = true ∧ tabB (wideT rows right) 6 = true ∧ echK (wideT rows right) = true ∧ solF rows.length (echC (wideT rows right)) = true := by
  unfold solO echO at h
  simpa [Bool.and_eq_true, and_assoc] using h
theorem echK_out {rows : List (List Fr)} (h : echK rows = true) : ech rows = some (echR rows, echC rows) := by
  unfold echK at h
  cases he : ech rows with
  | none => rw [he] at h; cases h
  | some p =>
    obtain ⟨R, C⟩ := p
    obtain ⟨-, e1, e2⟩ := ech_yes he
    rw [e1, e2]
/-- solutions, units and dependence at the echelon's end -/
theorem ech_keeps {rows : List (List Fr)} {L : Nat} (hL : L = (rw' rows 0).length) (ht : tabB rows 6 = true) (hk : echK rows = true) :
    ((∀ v : Nat → Rat, (∀ i, i < rows.length → sumN (fun j => mv (echR rows) i j * v j) L = 0) ↔ (∀ i, i < rows.length → sumN (fun j => mv rows i j * v j) L = 0)) ∧ Units rows.length (mv (echR rows)) (echC rows) ∧ ∀ k, k ≤ L → (∀ c, c ∈ echC rows → c < k) → Dep rows.length k (mv rows) → Dep rows.length k (mv (echR rows))) ∧ Base rows.length L (echR rows) (echC rows) L := by
  have he := echK_out hk
  unfold ech at he
  rw [← hL] at he
  have key := ech_ind (m := rows.length) (L := L) (P := fun col R C => (∀ v : Nat → Rat, (∀ i, i < rows.length → sumN (fun j => mv R i j * v j) L = 0) ↔ (∀ i, i < rows.length → sumN (fun j => mv rows i j * v j) L = 0)) ∧ Units rows.length (mv R) C ∧ ∀ k, k ≤ L → (∀ c, c ∈ C → c < k) → Dep rows.length k (mv rows) → Dep rows.length k (mv R))
    (fun col R C hB hc hz hP => hP)
    (fun col R C r hB hc h1 h2 hne hz hb hP => by
      obtain ⟨hs, hB2⟩ := stepQ hB hc h1 h2 hb
      refine ⟨fun v => (hs.ker v).trans (hP.1 v), hs.units hP.2.1 (fun c hx => by have := hB.chs c hx; omega), fun k hk hck hd => ?_⟩
      exact hs.dep hk (hck col (by simp)) (hP.2.2 k hk (fun c hx => hck c (by simp [hx])) hd))
    L 0 rows [] (echR rows) (echC rows) (by omega) (base_start hL ht) ⟨fun v => Iff.rfl, fun k hk => absurd hk (by simp), fun k hk hck hd => hd⟩ he
  rw [Nat.zero_add] at key
  exact key
/-- where it is solved the chosen columns are all but right's -/
theorem sol_cols {rows : List (List Fr)} {right : List Fr} (h : solO rows right = true) : (echC (wideT rows right)).length = rows.length ∧ (∀ i, i < rows.length → nt (echC (wideT rows right)) i = i) ∧ ∀ c, c ∈ echC (wideT rows right) → c < rows.length := by
  obtain ⟨h1, h2, h3, h4⟩ := solO_out h
  obtain ⟨s1, s2, s3, s4⟩ := solC_out h1
  obtain ⟨⟨t1, -⟩, -⟩ := tabB_out s2
  have hr := ech_rises h3
  have hl0 : (rw' (wideT rows right) 0).length = rows.length + 1 := by rw [wideT_at _ _ _ (by omega)]; simp [s3]
  have hB := (ech_keeps (L := rows.length + 1) hl0.symm h2 h3).2
  have hm := h4
  rw [solF_model t1 hr hB.chs, Bool.and_eq_true, decide_eq_true_eq, decide_eq_true_eq] at hm
  have hf := h4
  unfold solF at hf
  rw [decide_eq_true_eq] at hf
  have hin : ∀ x, x < rows.length → x ∈ echC (wideT rows right) := by
    intro x hx
    apply Classical.byContradiction
    intro hn
    have : x ∈ freeC (rows.length + 1) (echC (wideT rows right)) := freeC_mem.2 ⟨by omega, hn⟩
    rw [hf] at this
    simp at this
    omega
  obtain ⟨a1, a2⟩ := atP_run hr hin rows.length (Nat.le_refl _)
  refine ⟨hm.1, a2, fun c hx => ?_⟩
  obtain ⟨i, hi, he⟩ := mem_nt hx
  rw [← he, a2 i (by omega)]
  omega
/-- what is solved solves -/
theorem sol_solves {rows : List (List Fr)} {right : List Fr} (h : solO rows right = true) (i : Nat) (hi : i < rows.length) :
    sumN (fun k => mv rows i k * qf (fr (solX rows right) k)) rows.length = qf (fr right i) := by
  obtain ⟨h1, h2, h3, h4⟩ := solO_out h
  obtain ⟨s1, s2, s3, s4⟩ := solC_out h1
  obtain ⟨-, sr⟩ := tabB_out s2
  obtain ⟨c1, c2, c3⟩ := sol_cols h
  have hl0 : (rw' (wideT rows right) 0).length = rows.length + 1 := by rw [wideT_at _ _ _ (by omega)]; simp [s3]
  obtain ⟨⟨k1, k2, -⟩, hB⟩ := ech_keeps (L := rows.length + 1) hl0.symm h2 h3
  rw [wideT_len] at k1 k2 hB
  have hv := (k1 (fun j => if j = rows.length then -1 else qf (fr (solX rows right) j))).1 (by
    intro x hx
    simp only [sumN]
    rw [if_pos trivial]
    rw [sumN_one (a := x) hx (fun y hy hne => by
      rw [if_neg (by omega)]
      have := k2 y (by omega) x hx
      rw [c2 y hy, if_neg (by omega)] at this
      rw [this]
      grind)]
    rw [if_neg (by omega)]
    have := k2 x (by omega) x hx
    rw [c2 x hx, if_pos rfl] at this
    rw [this, solX_at _ _ _ hx]
    show 1 * mv (echR (wideT rows right)) x rows.length + mv (echR (wideT rows right)) x rows.length * -1 = 0
    grind) i hi
  simp only [sumN] at hv
  rw [if_pos trivial] at hv
  have hw : ∀ j, j < rows.length → mv (wideT rows right) i j = mv rows i j := by
    intro j hj
    unfold mv
    rw [wideT_at _ _ _ hi]
    unfold fr
    rw [List.getElem?_append_left (by rw [(sr i hi).1, s3]; exact hj)]
  have hb : mv (wideT rows right) i rows.length = qf (fr right i) := by
    unfold mv
    rw [wideT_at _ _ _ hi]
    congr 1
    have : (rw' rows i).length = rows.length := by rw [(sr i hi).1, s3]
    unfold fr
    rw [List.getElem?_append_right (by omega), this, Nat.sub_self]
    rfl
  rw [hb, sumN_congr (g := fun k => mv rows i k * qf (fr (solX rows right) k)) (fun j hj => by rw [if_neg (by omega), hw j hj])] at hv
  grind
/-- the table with its second row in the first one's place -/
def twiceT (rows : List (List Fr)) : List (List Fr) := rw' rows 1 :: rows.drop 1
theorem twice_len {rows : List (List Fr)} (h : 2 ≤ rows.length) : (twiceT rows).length = rows.length := by simp [twiceT]; omega
theorem twice_at {rows : List (List Fr)} {i : Nat} (h : i ≠ 0) : rw' (twiceT rows) i = rw' rows i := by
  obtain ⟨k, rfl⟩ : ∃ k, i = k + 1 := ⟨i - 1, by omega⟩
  simp [twiceT, rw']
theorem twice_zero (rows : List (List Fr)) : rw' (twiceT rows) 0 = rw' rows 1 := by simp [twiceT, rw']
theorem sol_twice {rows : List (List Fr)} {right : List Fr} (h2 : 2 ≤ rows.length) : solO (twiceT rows) right = false := by
  rw [← Bool.not_eq_true]
  intro h
  obtain ⟨h1, ht, h3, h4⟩ := solO_out h
  obtain ⟨s1, s2, s3, s4⟩ := solC_out h1
  obtain ⟨-, sr⟩ := tabB_out s2
  obtain ⟨c1, c2, c3⟩ := sol_cols h
  have hl := twice_len h2
  have hl0 : (rw' (wideT (twiceT rows) right) 0).length = (twiceT rows).length + 1 := by rw [wideT_at _ _ _ (by omega)]; simp [s3]
  obtain ⟨⟨k1, k2, k3⟩, hB⟩ := ech_keeps (L := (twiceT rows).length + 1) hl0.symm ht h3
  rw [wideT_len] at k2 k3
  have hsame : ∀ j, j < (twiceT rows).length → mv (wideT (twiceT rows) right) 0 j = mv (wideT (twiceT rows) right) 1 j := by
    intro j hj
    have e0 := (sr 0 (by omega)).1
    have e1 := (sr 1 (by omega)).1
    unfold mv
    rw [wideT_at _ _ _ (by omega), wideT_at _ _ _ (by omega)]
    unfold fr
    rw [List.getElem?_append_left (by omega), List.getElem?_append_left (by omega), twice_zero, twice_at (by decide)]
  have hd := k3 (twiceT rows).length (by omega) c3 ⟨fun i => if i = 0 then 1 else if i = 1 then -1 else 0, ⟨0, by omega, by show (if (0 : Nat) = 0 then (1 : Rat) else if (0 : Nat) = 1 then -1 else 0) ≠ 0; rw [if_pos rfl]; grind⟩, fun j hj => by
    have hs := hsame j hj
    generalize mv (wideT (twiceT rows) right) = M at *
    have e : sumN (fun i => (if i = 0 then (1 : Rat) else if i = 1 then -1 else 0) * M i j) (twiceT rows).length = sumN (fun i => if i = 0 then M 0 j else (fun i => if i = 1 then - M 1 j else (fun _ => 0) i) i) (twiceT rows).length := by
      apply sumN_congr
      intro i _
      by_cases e1 : i = 0
      · subst e1; rw [if_pos rfl, if_pos rfl]; grind
      · rw [if_neg e1, if_neg e1]
        show _ = if i = 1 then _ else _
        by_cases e2 : i = 1
        · subst e2; rw [if_pos rfl, if_pos rfl]; grind
        · rw [if_neg e2, if_neg e2]; grind
    rw [e, sumN_turn _ _ _ (by omega), sumN_turn _ _ _ (by omega), sumN_zero (fun _ _ => rfl), if_neg (by decide), hs]
    grind⟩
  obtain ⟨y, ⟨k, hk, hy⟩, h0⟩ := hd
  apply hy
  have := h0 k hk
  rw [sumN_one hk (fun i hi hne => by
    have hu := k2 k (by omega) i hi
    rw [c2 k hk, if_neg hne] at hu
    rw [hu]
    grind)] at this
  have hu := k2 k (by omega) k hk
  rw [c2 k hk, if_pos rfl] at hu
  rw [hu] at this
  grind
/-- the first L columns of a table are those of another one -/
structure Cut (m L : Nat) (rows wide : List (List Fr)) : Prop where
  l1 : rows.length = m
  l2 : wide.length = m
  r1 : ∀ i, i < m → (rw' rows i).length = L
  r2 : ∀ i, i < m → L ≤ (rw' wide i).length
  same : ∀ i, i < m → ∀ j, j < L → fr (rw' wide i) j = fr (rw' rows i) j
theorem Cut.pivF {m L col : Nat} {rows wide : List (List Fr)} (h : Cut m L rows wide) (hc : col < L) : ∀ n r, r + n ≤ m → pivF wide col n r = pivF rows col n r
  | 0, r, _ => rfl
  | n + 1, r, hr => by
    simp only [Go.Proofs.Ytoiigmimdjipiaa.pivF]
    rw [h.same r (by omega) col hc, h.pivF hc n (r + 1) (by omega)]
theorem Cut.stepB {m L col at' r : Nat} {rows wide : List (List Fr)} (h : Cut m L rows wide) (hc : col < L) (ha : at' < m) (hr : r < m) (hb : stepB wide at' r col = true) : stepB rows at' r col = true := by
  unfold Go.Proofs.Ytoiigmimdjipiaa.stepB at hb
  rw [Bool.and_eq_true, List.all_eq_true] at hb
  obtain ⟨hd, ht⟩ := hb
  have hd2 : divB (rw' rows r) (fr (rw' rows r) col) = true := by
    apply all_yes (p := fun p => divK p (fr (rw' rows r) col)) (d := ((0, 0) : Fr))
    intro k hk
    rw [h.r1 r hr] at hk
    have := divB_at hd (j := k) (by have := h.r2 r hr; omega)
    rw [h.same r hr k hk, h.same r hr col hc] at this
    exact this
  refine stepB_yes hd2 (fun k hk hne => ?_)
  rw [h.l1] at hk
  have hti := ht k (by simpa [h.l2] using hk)
  rw [rw_exch _ _ _ _ (by rw [h.l2]; exact hr) (by rw [h.l2]; exact ha)] at hti
  have hti2 : takeB (rw' wide (exch r at' k)) (fr (rw' wide (exch r at' k)) col) (divR (rw' wide r) (fr (rw' wide r) col)) = true := by simpa [hne] using hti
  rw [rw_exch _ _ _ _ (by rw [h.l1]; exact hr) (by rw [h.l1]; exact ha)]
  have hx := exch_lt hr ha hk
  unfold takeB
  rw [List.all_eq_true]
  intro j hj
  rw [List.mem_range, h.r1 _ hx] at hj
  have := takeB_at hti2 (j := j) (by have := h.r2 _ hx; omega)
  rw [divR_at (by have := h.r2 r hr; omega), h.same _ hx j hj, h.same _ hx col hc, h.same r hr j hj, h.same r hr col hc] at this
  rw [divR_at (by rw [h.r1 r hr]; exact hj)]
  exact this
theorem Cut.stepT {m L col at' r : Nat} {rows wide : List (List Fr)} (h : Cut m L rows wide) (hc : col < L) (ha : at' < m) (hr : r < m) : Cut m L (stepT rows at' r col) (stepT wide at' r col) := by
  have e1 : ∀ (T : List (List Fr)), T.length = m → ∀ i, i < m → rw' (Go.Proofs.Ytoiigmimdjipiaa.stepT T at' r col) i = if i = at' then divR (rw' T r) (fr (rw' T r) col) else takeR (rw' T (exch r at' i)) (fr (rw' T (exch r at' i)) col) (divR (rw' T r) (fr (rw' T r) col)) := by
    intro T hT i hi
    have hi2 : i < T.length := by rw [hT]; exact hi
    rw [← stepP_all, stepP_at _ _ _ _ _ _ hi2, if_pos hi2, rw_exch _ _ _ _ (by rw [hT]; exact hr) (by rw [hT]; exact ha)]
  refine ⟨by rw [stepT_len]; exact h.l1, by rw [stepT_len]; exact h.l2, fun i hi => ?_, fun i hi => ?_, fun i hi j hj => ?_⟩
  · rw [e1 rows h.l1 i hi]
    split
    · rw [divR_len]; exact h.r1 r hr
    · rw [takeR_len]; exact h.r1 _ (exch_lt hr ha hi)
  · rw [e1 wide h.l2 i hi]
    split
    · rw [divR_len]; exact h.r2 r hr
    · rw [takeR_len]; exact h.r2 _ (exch_lt hr ha hi)
  · rw [e1 rows h.l1 i hi, e1 wide h.l2 i hi]
    have hx := exch_lt hr ha hi
    have hr2 := h.r2 r hr
    have hx2 := h.r2 _ hx
    by_cases e : i = at'
    · rw [if_pos e, if_pos e, divR_at (by omega), divR_at (by rw [h.r1 r hr]; exact hj), h.same r hr j hj, h.same r hr col hc]
    · rw [if_neg e, if_neg e, takeR_at (by omega), takeR_at (by rw [h.r1 _ hx]; exact hj), divR_at (by omega), divR_at (by rw [h.r1 r hr]; exact hj), h.same r hr j hj, h.same r hr col hc, h.same _ hx j hj, h.same _ hx col hc]
theorem Cut.ech {m L : Nat} : ∀ n col rows wide ch R C, Cut m L rows wide → col + n ≤ L → ch.length ≤ m → echF n col wide ch = some (R, C) → ∃ R', echF n col rows ch = some (R', C) ∧ Cut m L R' R
  | 0, col, rows, wide, ch, R, C, h, _, _, he => by
    simp only [echF] at he ⊢
    cases he
    exact ⟨rows, rfl, h⟩
  | n + 1, col, rows, wide, ch, R, C, h, hl, hcl, he => by
    have hp : piv wide col ch.length = piv rows col ch.length := by
      unfold piv
      rw [h.l1, h.l2, h.pivF (by omega) _ _ (by omega)]
    have hple := piv_le (rows := rows) (col := col) (at' := ch.length) (by rw [h.l1]; exact hcl)
    by_cases hf : piv rows col ch.length = rows.length
    · rw [echF_free (by rw [hp, hf, h.l1, h.l2])] at he
      rw [echF_free hf]
      exact Cut.ech n (col + 1) rows wide ch R C h (by omega) hcl he
    · have hw : piv wide col ch.length ≠ wide.length := by rw [hp, h.l2, ← h.l1]; exact hf
      have hlt : piv rows col ch.length < m := by rw [← h.l1]; omega
      by_cases hs : Go.Proofs.Ytoiigmimdjipiaa.stepB wide ch.length (piv rows col ch.length) col = true
      · rw [echF_yes hp.symm (by rw [← hp]; exact hw) hs] at he
        rw [echF_yes rfl hf (h.stepB (by omega) (by omega) hlt hs)]
        exact Cut.ech n (col + 1) _ _ _ R C (h.stepT (by omega) (by omega) hlt) (by omega) (by simp; omega) he
      · rw [Bool.not_eq_true] at hs
        rw [echF_no hp.symm (by rw [← hp]; exact hw) hs] at he
        cases he
theorem echF_split : ∀ (a b col : Nat) (rows : List (List Fr)) (ch : List Nat) (R : List (List Fr)) (C : List Nat), echF (a + b) col rows ch = some (R, C) → ∃ R1 C1, echF a col rows ch = some (R1, C1) ∧ echF b (col + a) R1 C1 = some (R, C)
  | 0, b, col, rows, ch, R, C, h => ⟨rows, ch, rfl, by rw [Nat.zero_add] at h; exact h⟩
  | a + 1, b, col, rows, ch, R, C, h => by
    rw [show a + 1 + b = (a + b) + 1 by omega] at h
    rw [show col + (a + 1) = col + 1 + a by omega]
    by_cases hf : piv rows col ch.length = rows.length
    · rw [echF_free hf] at h ⊢
      exact echF_split a b (col + 1) rows ch R C h
    · by_cases hs : stepB rows ch.length (piv rows col ch.length) col = true
      · rw [echF_yes rfl hf hs] at h ⊢
        exact echF_split a b (col + 1) _ _ R C h
      · rw [Bool.not_eq_true] at hs
        rw [echF_no rfl hf hs] at h
        cases h
/-- where it is solved, the rank is full -/
theorem sol_rank {rows : List (List Fr)} {right : List Fr} (h : solO rows right = true) : echO rows = true ∧ (echC rows).length = rows.length := by
  obtain ⟨h1, h2, h3, h4⟩ := solO_out h
  obtain ⟨s1, s2, s3, s4⟩ := solC_out h1
  obtain ⟨⟨t1, -⟩, sr⟩ := tabB_out s2
  obtain ⟨c1, c2, c3⟩ := sol_cols h
  have hl0 : (rw' (wideT rows right) 0).length = rows.length + 1 := by rw [wideT_at _ _ _ (by omega)]; simp [s3]
  have he := echK_out h3
  unfold ech at he
  rw [hl0] at he
  obtain ⟨R1, C1, e1, e2⟩ := echF_split rows.length 1 0 _ _ _ _ he
  rw [Nat.zero_add] at e2
  have hC : C1 = echC (wideT rows right) := by
    simp only [echF] at e2
    split at e2
    · cases e2; rfl
    · split at e2
      · exfalso
        have e3 : C1 ++ [rows.length] = echC (wideT rows right) := (Prod.mk.inj (Option.some.inj e2)).2
        have := c3 rows.length (by rw [← e3]; simp)
        omega
      · cases e2
  have hcut : Cut rows.length rows.length rows (wideT rows right) := by
    refine ⟨rfl, wideT_len _ _, fun i hi => by rw [(sr i hi).1, s3], fun i hi => by rw [wideT_at _ _ _ hi, List.length_append, (sr i hi).1, s3]; omega, fun i hi j hj => ?_⟩
    rw [wideT_at _ _ _ hi]
    unfold fr
    rw [List.getElem?_append_left (by rw [(sr i hi).1, s3]; exact hj)]
  obtain ⟨R', e3, -⟩ := Cut.ech _ 0 rows _ [] R1 C1 hcut (by omega) (by simp) e1
  have he2 : ech rows = some (R', C1) := by
    unfold ech
    rw [s3]
    exact e3
  obtain ⟨f1, f2, f3⟩ := ech_yes he2
  refine ⟨by unfold echO; rw [s2, f1]; rfl, ?_⟩
  rw [f3, hC, c1]
/-- is row by solution right, as far as it goes: what the law's loop makes -/
def chkS (row x : List Fr) : Nat → Fr × Bool
  | 0 => ((0, 1), true)
  | k + 1 => (addP (chkS row x k).1 (mulP (fr row k) (fr x k)), (chkS row x k).2 && mulK (fr row k) (fr x k) && addK (chkS row x k).1 (mulP (fr row k) (fr x k)))
theorem chkS_is (row x : List Fr) : ∀ k, (chkS row x k).2 = true → okF (chkS row x k).1 = true ∧ qf (chkS row x k).1 = sumN (fun j => qf (fr row j) * qf (fr x j)) k
  | 0, _ => ⟨by show okF (0, 1) = true; decide, by simp only [chkS, sumN]; exact qf_null⟩
  | k + 1, h => by
    simp only [chkS, Bool.and_eq_true] at h
    obtain ⟨⟨h1, h2⟩, h3⟩ := h
    obtain ⟨i1, i2⟩ := chkS_is row x k h1
    simp only [chkS, sumN]
    exact ⟨add_right h3, by rw [qf_add h3, qf_mul h2, i2]⟩
theorem sol_check {rows : List (List Fr)} {right : List Fr} (h : solO rows right = true) (i : Nat) (hi : i < rows.length) (hg : (chkS (rw' rows i) (solX rows right) rows.length).2 = true) : (chkS (rw' rows i) (solX rows right) rows.length).1 = fr right i := by
  obtain ⟨h1, h2, h3, h4⟩ := solO_out h
  obtain ⟨s1, s2, s3, s4⟩ := solC_out h1
  obtain ⟨e1, e2⟩ := chkS_is _ _ _ hg
  have hr : allOk right = true := by rw [← wide_tab h1]; exact h2
  refine qf_inj e1 (allOk_at hr (by omega)) ?_
  rw [e2]
  exact sol_solves h i hi
end Go.Proofs.Ytoiigmimdjipiaa

/- What the law of tables asks of Times, without any program: a product's entries are sums of products, and products are reckoned in either order. -/
namespace Go.Proofs.Ytoiigmimdjipiaa
open Go.RowKit Go.Proofs.Ytoiigmimdjipiaa.RM

theorem sumN_mulL (f : Nat → Rat) (c : Rat) (n : Nat) : sumN (fun i => c * f i) n = c * sumN f n := by
  rw [sumN_congr (g := fun i => f i * c) (fun i _ => by grind), sumN_mul]
  grind
/-- the model's sum, in numbers -/
theorem sdot_is (row : List Fr) (b : List (List Fr)) (j : Nat) : ∀ k, (sdot row b j k).2 = false → okF (sdot row b j k).1 = true ∧ qf (sdot row b j k).1 = sumN (fun i => qf (fr row i) * mv b i j) (k + 1)
  | 0, h => by
    have hm : mulK (fr row 0) (fr (rw' b 0) j) = true := by simpa [sdot] using h
    have e : (sdot row b j 0).1 = mulP (fr row 0) (fr (rw' b 0) j) := by simp only [sdot]; exact keepF_yes hm
    rw [e]
    refine ⟨mul_right hm, ?_⟩
    rw [qf_mul hm]
    simp only [sumN, mv]
    grind
  | k + 1, h => by
    have h1 : (sdot row b j k).2 = false := by
      cases hs : (sdot row b j k).2 with
      | false => rfl
      | true => simp [sdot, hs] at h
    have hm : mulK (fr row (k + 1)) (fr (rw' b (k + 1)) j) = true := by
      cases hs : mulK (fr row (k + 1)) (fr (rw' b (k + 1)) j) with
      | true => rfl
      | false => simp [sdot, hs] at h
    have ha : addK (sdot row b j k).1 (mulP (fr row (k + 1)) (fr (rw' b (k + 1)) j)) = true := by
      cases hs : addK (sdot row b j k).1 (mulP (fr row (k + 1)) (fr (rw' b (k + 1)) j)) with
      | true => rfl
      | false => simp [sdot, hm, keepF_yes, hs] at h
    have e : (sdot row b j (k + 1)).1 = addP (sdot row b j k).1 (mulP (fr row (k + 1)) (fr (rw' b (k + 1)) j)) := by
      simp only [sdot]
      rw [keepF_yes hm, keepF_yes ha]
    obtain ⟨i1, i2⟩ := sdot_is row b j k h1
    rw [e]
    refine ⟨add_right ha, ?_⟩
    rw [qf_add ha, qf_mul hm, i2]
    rfl
theorem timO_out {a b : List (List Fr)} (h : timO a b = true) : timC a b = true ∧ ∀ i j, i < a.length → j < (rw' b 0).length → (timE a b i j).2 = false := by
  constructor
  · cases hc : timC a b with
    | true => rfl
    | false => rw [timO_no hc] at h; cases h
  · intro i j hi hj
    cases hb : (timE a b i j).2 with
    | false => rfl
    | true => rw [timO_bad hi hj hb] at h; cases h
theorem timT_row (a b : List (List Fr)) (k i : Nat) (h : i < k) : rw' (timT a b k) i = timRow a b i (rw' b 0).length := by simp [rw', timT, h]
theorem timRow_at (a b : List (List Fr)) (i L j : Nat) (h : j < L) : fr (timRow a b i L) j = (timE a b i j).1 := by simp [fr, timRow, h]
theorem tim_shape {a b : List (List Fr)} (h : timO a b = true) : (timA a b).length = a.length ∧ ∀ i, i < a.length → (rw' (timA a b) i).length = (rw' b 0).length := by
  rw [timA_yes h]
  exact ⟨timT_len _ _ _, fun i hi => by rw [timT_row _ _ _ _ hi, timRow_len]⟩
theorem tim_at {a b : List (List Fr)} (h : timO a b = true) (hb : 1 ≤ b.length) {i j : Nat} (hi : i < a.length) (hj : j < (rw' b 0).length) :
    okF (fr (rw' (timA a b) i) j) = true ∧ mv (timA a b) i j = sumN (fun k => mv a i k * mv b k j) b.length := by
  obtain ⟨hc, hg⟩ := timO_out h
  have e := sdot_is (rw' a i) b j (b.length - 1) (hg i j hi hj)
  rw [Nat.sub_add_cancel hb] at e
  unfold mv
  rw [timA_yes h, timT_row _ _ _ _ hi, timRow_at _ _ _ _ _ hj]
  exact e
theorem tabs_ext {S T : List (List Fr)} (h1 : S.length = T.length) (h2 : ∀ i, i < S.length → (rw' S i).length = (rw' T i).length) (h3 : ∀ i j, i < S.length → j < (rw' S i).length → fr (rw' S i) j = fr (rw' T i) j) : S = T := by
  refine List.ext_getElem h1 fun i hi hi' => ?_
  have es : rw' S i = S[i] := by simp [rw', hi]
  have et : rw' T i = T[i] := by simp [rw', hi']
  have l := h2 i hi
  rw [es, et] at l
  refine List.ext_getElem l fun j hj hj' => ?_
  have e := h3 i j hi (by rw [es]; exact hj)
  rw [es, et] at e
  simpa [fr, hj, hj'] using e
/-- products in either order -/
theorem tim_assoc {a b c : List (List Fr)} (hab : timO a b = true) (hbc : timO b c = true) (h1 : timO a (timA b c) = true) (h2 : timO (timA a b) c = true) (hb : 1 ≤ b.length) (hc : 1 ≤ c.length) :
    timA a (timA b c) = timA (timA a b) c := by
  obtain ⟨s1, s2⟩ := tim_shape hab
  obtain ⟨s3, s4⟩ := tim_shape hbc
  obtain ⟨s5, s6⟩ := tim_shape h1
  obtain ⟨s7, s8⟩ := tim_shape h2
  have c1 := (timC_out (timO_out hbc).1).2.2
  have hl : (rw' (timA b c) 0).length = (rw' c 0).length := s4 0 (by omega)
  refine tabs_ext (by rw [s5, s7, s1]) (fun i hi => by rw [s6 i (by omega), s8 i (by omega), hl]) fun i j hi hj => ?_
  rw [s5] at hi
  rw [s6 i hi, hl] at hj
  obtain ⟨k1, q1⟩ := tim_at h1 (by omega) hi (by rw [hl]; exact hj)
  obtain ⟨k2, q2⟩ := tim_at h2 hc (by rw [s1]; exact hi) hj
  refine qf_inj k1 k2 ?_
  unfold mv at q1 q2
  rw [q1, q2, s3]
  have e1 : sumN (fun k => qf (fr (rw' a i) k) * qf (fr (rw' (timA b c) k) j)) b.length = sumN (fun k => sumN (fun l => mv a i k * (mv b k l * mv c l j)) c.length) b.length := by
    refine sumN_congr fun k hk => ?_
    have := (tim_at hbc hc (i := k) (j := j) hk hj).2
    unfold mv at this
    rw [this, sumN_mulL]
    rfl
  have e2 : sumN (fun k => qf (fr (rw' (timA a b) i) k) * qf (fr (rw' c k) j)) c.length = sumN (fun l => sumN (fun k => mv a i k * (mv b k l * mv c l j)) b.length) c.length := by
    refine sumN_congr fun l hl' => ?_
    have := (tim_at hab hb (i := i) (j := l) hi (by rw [c1]; exact hl')).2
    unfold mv at this
    rw [this, ← sumN_mul]
    exact sumN_congr fun k _ => by unfold mv; grind
  rw [e1, e2, sumN_swap]
end Go.Proofs.Ytoiigmimdjipiaa

/- What is carried is a cover; carried twice is carried once; small fractions are not too great. -/
namespace Go.Proofs.Ytoiigmimdjipiaa
open Go.Proofs.Ytoiigmimdjipiaa.RM

theorem carO_out {S C : List (List Fr)} (h : carO S C = true) : tabB S 6 = true ∧ covB C = true ∧ (rw' S 0).length = C.length ∧ (carV S C S.length).2 = false := by
  unfold carO carC at h
  rw [Bool.and_eq_true, Bool.and_eq_true, Bool.and_eq_true, decide_eq_true_eq, Bool.not_eq_true'] at h
  exact ⟨h.1.1.1, h.1.1.2, h.1.2, h.2⟩
theorem car_shape {S C : List (List Fr)} (h : carO S C = true) : (carA S C).length = S.length ∧ ∀ i, i < S.length → (rw' (carA S C) i).length = S.length ∧ ∀ j, j < S.length → okF (fr (rw' (carA S C) i) j) = true ∧ qf (fr (rw' (carA S C) i) j) = quad (rw' S i) C (rw' S j) C.length := by
  rw [carA_yes h]
  exact ⟨carV_len _ _ _, car_at (carO_out h).2.2.2⟩
theorem allB_mk {ps : List Fr} {n : Nat} (h : ps.length = n) (hk : ∀ k, k < n → okF (fr ps k) = true) : allB ps n = true := by
  unfold allB
  rw [decide_eq_true (.inr (by omega)), Bool.true_and]
  exact allOk_yes fun k hk' => hk k (by omega)
/-- what is carried is a cover -/
theorem car_cov {S C : List (List Fr)} (h : carO S C = true) : covB (carA S C) = true := by
  obtain ⟨h1, h2⟩ := car_shape h
  obtain ⟨t1, t2, t3, t4⟩ := carO_out h
  obtain ⟨⟨u1, u2, _, _⟩, _⟩ := tabB_out t1
  obtain ⟨_, _, v3⟩ := covB_out t2
  unfold covB
  rw [h1, sqB_yes (by omega) (fun k hk => allB_mk (h2 k (by omega)).1 (fun j hj => ((h2 k (by omega)).2 j hj).1)), Bool.true_and]
  refine decide_eq_true fun i hi k hk => ?_
  rw [h1] at hi
  have a := (h2 i hi).2 k (by omega)
  have b := (h2 k (by omega)).2 i hi
  refine qf_inj a.1 b.1 ?_
  rw [a.2, b.2]
  exact quad_turn (symP_any v3)
theorem quad_is (ps bs : List Fr) (rows : List (List Fr)) : quad ps rows bs rows.length = sumN (fun i => sumN (fun j => qf (fr ps i) * mv rows i j * qf (fr bs j)) rows.length) rows.length := by
  unfold quad
  refine sumN_congr fun i hi => ?_
  unfold lin
  rw [Rat.mul_comm, ← sumN_mul]
  exact sumN_congr fun j hj => by unfold mv; grind
/-- CARRIED TWICE IS CARRIED ONCE -/
theorem car_twice {T S C : List (List Fr)} (h : carO S C = true) (h1 : carO T (carA S C) = true) (h2 : timO T S = true) (h3 : carO (timA T S) C = true) : carA T (carA S C) = carA (timA T S) C := by
  obtain ⟨a1, a2⟩ := car_shape h
  obtain ⟨b1, b2⟩ := car_shape h1
  obtain ⟨c1, c2⟩ := car_shape h3
  obtain ⟨d1, d2⟩ := tim_shape h2
  obtain ⟨t1, t2, t3, t4⟩ := carO_out h
  obtain ⟨⟨u1, u2, _, _⟩, _⟩ := tabB_out t1
  have hTS := fun (i j : Nat) (hi : i < T.length) (hj : j < C.length) => (tim_at h2 u1 hi (j := j) (by rw [t3]; exact hj)).2
  refine tabs_ext (by rw [b1, c1, d1]) (fun i hi => by rw [(b2 i (by omega)).1, (c2 i (by omega)).1, d1]) fun i j hi hj => ?_
  rw [b1] at hi
  rw [(b2 i hi).1] at hj
  obtain ⟨k1, q1⟩ := (b2 i hi).2 j hj
  obtain ⟨k2, q2⟩ := (c2 i (by omega)).2 j (by omega)
  refine qf_inj k1 k2 ?_
  rw [q1, q2, quad_is, quad_is, a1]
  -- left: over x, y of T i x * R x y * T j y; R x y is a sum over a, b
  have e1 : sumN (fun x => sumN (fun y => qf (fr (rw' T i) x) * mv (carA S C) x y * qf (fr (rw' T j) y)) S.length) S.length
      = sumN (fun x => sumN (fun y => sumN (fun a => sumN (fun b => mv T i x * mv S x a * mv C a b * mv S y b * mv T j y) C.length) C.length) S.length) S.length := by
    refine sumN_congr fun x hx => sumN_congr fun y hy => ?_
    have := ((a2 x hx).2 y hy).2
    unfold mv
    rw [this, quad_is, Rat.mul_comm (qf (fr (rw' T i) x)), ← sumN_mul, ← sumN_mul]
    refine sumN_congr fun a ha => ?_
    rw [← sumN_mul, ← sumN_mul]
    exact sumN_congr fun b hb => by unfold mv; grind
  have e2 : sumN (fun a => sumN (fun b => qf (fr (rw' (timA T S) i) a) * mv C a b * qf (fr (rw' (timA T S) j) b)) C.length) C.length
      = sumN (fun a => sumN (fun b => sumN (fun x => sumN (fun y => mv T i x * mv S x a * mv C a b * mv S y b * mv T j y) S.length) S.length) C.length) C.length := by
    refine sumN_congr fun a ha => sumN_congr fun b hb => ?_
    have p := hTS i a hi ha
    have q := hTS j b (by omega) hb
    unfold mv at p q ⊢
    rw [p, q, Rat.mul_assoc, ← sumN_mul]
    refine sumN_congr fun x hx => ?_
    rw [← sumN_mulL, ← sumN_mulL]
    exact sumN_congr fun y hy => by grind
  rw [e1, e2]
  -- the order of the sums
  rw [sumN_congr (g := fun x => sumN (fun a => sumN (fun b => sumN (fun y => mv T i x * mv S x a * mv C a b * mv S y b * mv T j y) S.length) C.length) C.length) (fun x hx => by
    rw [sumN_swap (fun y a => sumN (fun b => mv T i x * mv S x a * mv C a b * mv S y b * mv T j y) C.length)]
    exact sumN_congr fun a ha => sumN_swap (fun y b => mv T i x * mv S x a * mv C a b * mv S y b * mv T j y) _ _)]
  rw [sumN_swap (fun x a => sumN (fun b => sumN (fun y => mv T i x * mv S x a * mv C a b * mv S y b * mv T j y) S.length) C.length)]
  refine sumN_congr fun a ha => ?_
  rw [sumN_swap (fun x b => sumN (fun y => mv T i x * mv S x a * mv C a b * mv S y b * mv T j y) S.length)]
/-- carried of one row of shares is the variance -/
theorem car_one {ps : List Fr} {C : List (List Fr)} (h : varO ps C = true) : carO [ps] C = true ∧ carA [ps] C = [[varA ps C]] := by
  have hv := varA_yes h
  have h' := h
  unfold varO at h
  rw [Bool.and_eq_true, Bool.not_eq_true'] at h
  obtain ⟨t1, t2, t3, t4, t5⟩ := toldC_out h.1
  have hc : covB C = true := by
    have := h.1
    unfold toldC at this
    rw [Bool.and_eq_true] at this
    exact this.1
  have ho : carO [ps] C = true := by
    unfold carO carC
    rw [tabB_yes (rows := [ps]) (cols := 6) ⟨by simp, by simp, by show 1 ≤ ps.length; omega, by show (ps.length : Int) ≤ 6; omega⟩ (fun k hk => by
      obtain rfl : k = 0 := by simpa using hk
      exact ⟨rfl, t3⟩), hc, decide_eq_true (show (rw' [ps] 0).length = C.length from t2)]
    simp only [Bool.true_and, Bool.not_eq_true']
    exact h.2
  refine ⟨ho, ?_⟩
  rw [carA_yes ho, hv]
  rfl
end Go.Proofs.Ytoiigmimdjipiaa

/- Covers of inputs that are alone: small fractions are not too great; what is not below 0; Cauchy. -/
namespace Go.Proofs.Ytoiigmimdjipiaa
open Go.Proofs.Ytoiigmimdjipiaa.RM

/-- a right fraction within bounds -/
def Sm (p : Fr) (A B : Int) : Prop := okF p = true ∧ -A ≤ p.1 ∧ p.1 ≤ A ∧ 1 ≤ p.2 ∧ p.2 ≤ B
theorem Sm.mul {x y : Fr} {A B C D : Int} (hx : Sm x A B) (hy : Sm y C D) (h1 : A * C ≤ 1000000000) (h3 : B * D ≤ A * C) : mulK x y = true ∧ Sm (mulP x y) (A * C) (B * D) := by
  obtain ⟨a0, a1, a2, a3, a4⟩ := hx
  obtain ⟨b0, b1, b2, b3, b4⟩ := hy
  have u := mul_in x.1 y.1 A C a1 a2 b1 b2
  have v := mul_in x.2 y.2 B D (by omega) a4 (by omega) b4
  have v' : 1 ≤ x.2 * y.2 := Int.mul_pos (by omega) (by omega)
  obtain ⟨r1, r2, r3, r4, r5, r6⟩ := red_small (x := x.1 * y.1) (y := x.2 * y.2) (m := A * C) h1 u.1 u.2 v' (by omega)
  have ht : two x.1 x.2 y.1 y.2 = true := two_yes a0 b0
  unfold mulK mulP Sm okF
  rw [ht, (op_yes _ _).1, (op_yes _ _).2.1, (op_yes _ _).2.2]
  exact ⟨r1, r2, r3, r4, r5, by show redD _ _ ≤ _; omega⟩
theorem Sm.add {x y : Fr} {A B C D : Int} (hx : Sm x A B) (hy : Sm y C D) (h1 : A * D + C * B ≤ 1000000000) (h3 : B * D ≤ A * D + C * B) : addK x y = true ∧ Sm (addP x y) (A * D + C * B) (B * D) := by
  obtain ⟨a0, a1, a2, a3, a4⟩ := hx
  obtain ⟨b0, b1, b2, b3, b4⟩ := hy
  have u := mul_in x.1 y.2 A D a1 a2 (by omega) b4
  have u' := mul_in y.1 x.2 C B b1 b2 (by omega) a4
  have v := mul_in x.2 y.2 B D (by omega) a4 (by omega) b4
  have v' : 1 ≤ x.2 * y.2 := Int.mul_pos (by omega) (by omega)
  obtain ⟨r1, r2, r3, r4, r5, r6⟩ := red_small (x := x.1 * y.2 + y.1 * x.2) (y := x.2 * y.2) (m := A * D + C * B) h1 (by omega) (by omega) v' (by omega)
  have ht : two x.1 x.2 y.1 y.2 = true := two_yes a0 b0
  unfold addK addP Sm okF
  rw [ht, (op_yes _ _).1, (op_yes _ _).2.1, (op_yes _ _).2.2]
  exact ⟨r1, r2, r3, r4, r5, by show redD _ _ ≤ _; omega⟩
theorem Sm.mono {x : Fr} {A B C D : Int} (h : Sm x A B) (h1 : A ≤ C) (h2 : B ≤ D) : Sm x C D := ⟨h.1, by have := h.2; omega, by have := h.2; omega, h.2.2.2.1, by have := h.2; omega⟩
theorem okF_sm {p : Fr} (h : okF p = true) : Sm p 1000000000 1000000000 := by
  have := okB_out h
  exact ⟨h, this.2.2.1, this.2.2.2.1, this.1, this.2.1⟩
theorem null_sm : Sm (0, 1) 0 1 := ⟨okF_null, by decide, by decide, by decide, by decide⟩
theorem mul_nul {a : Fr} (h : okF a = true) : mulK a (0, 1) = true ∧ mulP a (0, 1) = (0, 1) := by
  have hb := okB_out h
  obtain ⟨r1, r2, r3, r4, r5, r6⟩ := red_small (x := a.1 * 0) (y := a.2 * 1) (m := 1000000000) (by omega) (by omega) (by omega) (by omega) (by omega)
  have ht : two a.1 a.2 0 1 = true := two_yes h okF_null
  have hk : mulK a (0, 1) = true := by unfold mulK; show opOk (two a.1 a.2 0 1) _ _ = true; rw [ht, (op_yes _ _).2.2]; exact r1
  refine ⟨hk, qf_inj (mul_right hk) okF_null ?_⟩
  rw [qf_mul hk, qf_null]; grind
theorem nul_mul {a : Fr} (h : okF a = true) : mulK (0, 1) a = true ∧ mulP (0, 1) a = (0, 1) := by
  have hb := okB_out h
  obtain ⟨r1, r2, r3, r4, r5, r6⟩ := red_small (x := 0 * a.1) (y := 1 * a.2) (m := 1000000000) (by omega) (by omega) (by omega) (by omega) (by omega)
  have ht : two 0 1 a.1 a.2 = true := two_yes okF_null h
  have hk : mulK (0, 1) a = true := by unfold mulK; show opOk (two 0 1 a.1 a.2) _ _ = true; rw [ht, (op_yes _ _).2.2]; exact r1
  refine ⟨hk, qf_inj (mul_right hk) okF_null ?_⟩
  rw [qf_mul hk, qf_null]; grind
theorem add_nulr {p : Fr} (h : okF p = true) : addK p (0, 1) = true ∧ addP p (0, 1) = p := by
  have hb := okB_out h
  obtain ⟨r1, r2, r3, r4, r5, r6⟩ := red_small (x := p.1 * 1 + 0 * p.2) (y := p.2 * 1) (m := 1000000000) (by omega) (by omega) (by omega) (by omega) (by omega)
  have ht : two p.1 p.2 0 1 = true := two_yes h okF_null
  have hk : addK p (0, 1) = true := by unfold addK; show opOk (two p.1 p.2 0 1) _ _ = true; rw [ht, (op_yes _ _).2.2]; exact r1
  refine ⟨hk, qf_inj (add_right hk) h ?_⟩
  rw [qf_add hk, qf_null]; grind
/-- a nought in the cover adds nothing -/
theorem stp_nul {s : Fr × Bool} {a b : Fr} (hs : okF s.1 = true) (ha : okF a = true) (hb : okF b = true) : stpV s a (0, 1) b = s := by
  have e1 : p1V a (0, 1) = (0, 1) := by unfold p1V; rw [keepF_yes (mul_nul ha).1]; exact (mul_nul ha).2
  have e2 : p1V (0, 1) b = (0, 1) := by unfold p1V; rw [keepF_yes (nul_mul hb).1]; exact (nul_mul hb).2
  unfold stpV
  rw [e1, e2, (mul_nul ha).1, (nul_mul hb).1, (add_nulr hs).1, keepF_yes rfl, (add_nulr hs).2]
  obtain ⟨s1, s2⟩ := s
  simp
theorem keep_right {o : Bool} {p : Fr} (h : o = true → okF p = true) : okF (keepF o p) = true := by
  cases o with
  | true => rw [keepF_yes rfl]; exact h rfl
  | false => exact okF_null
theorem stp_right (s : Fr × Bool) (a c b : Fr) : okF (stpV s a c b).1 = true := keep_right fun h => add_right h
/-- only what stands on the diagonal -/
def dgV (ps vs bs : List Fr) (bd : Bool) : Nat → Fr × Bool
  | 0 => ((0, 1), bd)
  | k + 1 => stpV (dgV ps vs bs bd k) (fr ps k) (fr vs k) (fr bs k)
theorem dgV_right (ps vs bs : List Fr) (bd : Bool) : ∀ k, okF (dgV ps vs bs bd k).1 = true
  | 0 => okF_null
  | _ + 1 => stp_right _ _ _ _
theorem aloneR_at (vs : List Fr) (n i j : Nat) (hj : j < n) : fr (aloneR vs n i) j = if i = j then fr vs i else (0, 1) := by
  unfold aloneR fr
  rw [List.getElem?_set]
  by_cases e : i = j
  · subst e; rw [if_pos rfl, if_pos rfl, if_pos (by simpa using hj)]; rfl
  · rw [if_neg e, if_neg e, List.getElem?_replicate, if_pos hj]; rfl
theorem aloneT_at (vs : List Fr) (k i : Nat) (h : i < k) : rw' (aloneT vs k) i = aloneR vs vs.length i := by simp [rw', aloneT, h]
theorem aloneT_len (vs : List Fr) (k : Nat) : (aloneT vs k).length = k := by simp [aloneT]
theorem row_alone {vs bs : List Fr} {a : Fr} {s : Fr × Bool} {i n : Nat} (hi : i < n) (ha : okF a = true) (hs : okF s.1 = true) (hb : ∀ j, j < n → okF (fr bs j) = true) :
    ∀ k, k ≤ n → rowV a (aloneR vs n i) bs s k = if i < k then stpV s a (fr vs i) (fr bs i) else s
  | 0, _ => by rw [if_neg (by omega)]; rfl
  | k + 1, hk => by
    show stpV (rowV a (aloneR vs n i) bs s k) a (fr (aloneR vs n i) k) (fr bs k) = _
    rw [row_alone hi ha hs hb k (by omega), aloneR_at vs n i k (by omega)]
    rcases Nat.lt_trichotomy i k with c | c | c
    · rw [if_pos c, if_neg (show ¬ i = k by omega), if_pos (show i < k + 1 by omega)]
      exact stp_nul (stp_right _ _ _ _) ha (hb k (by omega))
    · subst c
      rw [if_neg (show ¬ i < i by omega), if_pos rfl, if_pos (show i < i + 1 by omega)]
    · rw [if_neg (show ¬ i < k by omega), if_neg (show ¬ i = k by omega), if_neg (show ¬ i < k + 1 by omega)]
      exact stp_nul hs ha (hb k (by omega))
theorem sum_alone {ps vs bs : List Fr} {bd : Bool} (hp : ∀ j, j < vs.length → okF (fr ps j) = true) (hb : ∀ j, j < vs.length → okF (fr bs j) = true) :
    ∀ k, k ≤ vs.length → sumV ps (aloneT vs vs.length) bs bd k = dgV ps vs bs bd k
  | 0, _ => rfl
  | k + 1, hk => by
    show rowV (fr ps k) (rw' (aloneT vs vs.length) k) bs (sumV ps (aloneT vs vs.length) bs bd k) (aloneT vs vs.length).length = _
    rw [sum_alone hp hb k (by omega), aloneT_at _ _ _ (by omega), aloneT_len, row_alone (by omega) (hp k (by omega)) (dgV_right _ _ _ _ _) hb vs.length (Nat.le_refl _), if_pos (by omega)]
    rfl
theorem stp_sm {s : Fr} {a c b : Fr} {As Bs Aa Ba Ac Bc Ab Bb : Int} (hs : Sm s As Bs) (ha : Sm a Aa Ba) (hc : Sm c Ac Bc) (hb : Sm b Ab Bb)
    (m1 : Aa * Ac ≤ 1000000000) (m2 : Ba * Bc ≤ Aa * Ac) (m3 : Aa * Ac * Ab ≤ 1000000000) (m4 : Ba * Bc * Bb ≤ Aa * Ac * Ab)
    (m5 : As * (Ba * Bc * Bb) + Aa * Ac * Ab * Bs ≤ 1000000000) (m6 : Bs * (Ba * Bc * Bb) ≤ As * (Ba * Bc * Bb) + Aa * Ac * Ab * Bs) :
    (stpV (s, false) a c b).2 = false ∧ Sm (stpV (s, false) a c b).1 (As * (Ba * Bc * Bb) + Aa * Ac * Ab * Bs) (Bs * (Ba * Bc * Bb)) := by
  obtain ⟨k1, s1⟩ := ha.mul hc m1 m2
  have e1 : p1V a c = mulP a c := by unfold p1V; exact keepF_yes k1
  obtain ⟨k2, s2⟩ := s1.mul hb m3 m4
  have e2 : p1V (mulP a c) b = mulP (mulP a c) b := by unfold p1V; exact keepF_yes k2
  obtain ⟨k3, s3⟩ := hs.add s2 m5 m6
  unfold stpV
  dsimp only
  rw [e1, e2, k1, k2, k3, keepF_yes rfl]
  exact ⟨rfl, s3⟩
end Go.Proofs.Ytoiigmimdjipiaa

/- What the laws of budgets ask of inputs that are alone: not below 0, and Cauchy. -/
namespace Go.Proofs.Ytoiigmimdjipiaa
open Go.Proofs.Ytoiigmimdjipiaa.RM

theorem qf_pos {p : Fr} (h : okF p = true) : 0 ≤ qf p ↔ 0 ≤ p.1 := by
  have := okB_out h
  unfold qf
  exact Rat.divInt_nonneg_iff_of_pos_right (by omega)
theorem qf_less {p s : Fr} (h : okF p = true) (k : okF s = true) (hle : qf s ≤ qf p) : lessB p.1 p.2 s.1 s.2 = false := by
  have h1 := okB_out h
  have k1 := okB_out k
  rw [Rat.le_iff_sub_nonneg] at hle
  unfold qf at hle
  rw [Rat.divInt_sub_divInt _ _ (by omega) (by omega), Rat.divInt_nonneg_iff_of_pos_right (Int.mul_pos (by omega) (by omega))] at hle
  unfold lessB
  rw [decide_eq_false (by omega), Bool.and_false]
theorem aloneC_mk {vs : List Fr} (h1 : 1 ≤ vs.length) (h2 : vs.length ≤ 6) (hv : ∀ j, j < vs.length → okF (fr vs j) = true) : aloneC vs = true := by
  unfold aloneC
  rw [decide_eq_true ⟨h1, h2⟩, Bool.true_and]
  exact allB_mk rfl hv
theorem alone_cov {vs : List Fr} (h1 : 1 ≤ vs.length) (h2 : vs.length ≤ 6) (hv : ∀ j, j < vs.length → okF (fr vs j) = true) : aloneA vs = aloneT vs vs.length ∧ covB (aloneT vs vs.length) = true := by
  refine ⟨aloneA_yes (aloneC_mk h1 h2 hv), ?_⟩
  have hl := aloneT_len vs vs.length
  unfold covB
  rw [hl, sqB_yes (by omega) (fun k hk => by
    rw [hl] at hk
    rw [aloneT_at _ _ _ hk]
    refine allB_mk (aloneR_len _ _ _) fun j hj => ?_
    rw [aloneR_at _ _ _ _ hj]
    by_cases e : k = j
    · rw [if_pos e]; exact hv k hk
    · rw [if_neg e]; exact okF_null), Bool.true_and]
  refine decide_eq_true fun i hi k hk => ?_
  rw [hl] at hi
  rw [aloneT_at _ _ _ hi, aloneT_at _ _ _ (by omega), aloneR_at _ _ _ _ (by omega), aloneR_at _ _ _ _ hi, if_neg (by omega), if_neg (by omega)]
theorem dg_is {ps vs bs : List Fr} {bd : Bool} : ∀ {k : Nat}, (dgV ps vs bs bd k).2 = false → okF (dgV ps vs bs bd k).1 = true ∧ qf (dgV ps vs bs bd k).1 = sumN (fun i => qf (fr ps i) * (qf (fr vs i) * qf (fr bs i))) k
  | 0, _ => ⟨okF_null, qf_null⟩
  | k + 1, h => by
    obtain ⟨h1, _, h3, h4⟩ := stp_ok h
    refine ⟨h3, ?_⟩
    show qf (stpV (dgV ps vs bs bd k) (fr ps k) (fr vs k) (fr bs k)).1 = _
    rw [h4, (dg_is h1).2]
    simp only [sumN]
/-- two or three small shares and small variances -/
theorem dg_small {ps vs bs : List Fr} (n : Nat) (hn : n ≤ 3) (hp : ∀ i, i < n → Sm (fr ps i) 6 4) (hv : ∀ i, i < n → Sm (fr vs i) 8 1) (hb : ∀ i, i < n → Sm (fr bs i) 6 4) : (dgV ps vs bs false n).2 = false := by
  have one : ∀ (k : Nat) (s : Fr) (A B : Int), k < n → Sm s A B → A * 16 + 288 * B ≤ 1000000000 → B * 16 ≤ A * 16 + 288 * B → (stpV (s, false) (fr ps k) (fr vs k) (fr bs k)).2 = false ∧ Sm (stpV (s, false) (fr ps k) (fr vs k) (fr bs k)).1 (A * 16 + 288 * B) (B * 16) := by
    intro k s A B hk hs h1 h2
    exact stp_sm hs (hp k hk) (hv k hk) (hb k hk) (by decide) (by decide) (by decide) (by decide) h1 h2
  have pair : ∀ {s : Fr × Bool}, s.2 = false → s = (s.1, false) := fun {s} h => by rw [← h]
  match n, hn with
  | 0, _ => rfl
  | 1, _ => exact (one 0 (0, 1) 0 1 (by omega) null_sm (by decide) (by decide)).1
  | 2, _ =>
    obtain ⟨a1, a2⟩ := one 0 (0, 1) 0 1 (by omega) null_sm (by decide) (by decide)
    obtain ⟨b1, b2⟩ := one 1 _ _ _ (by omega) a2 (by decide) (by decide)
    show (stpV (stpV ((0, 1), false) (fr ps 0) (fr vs 0) (fr bs 0)) (fr ps 1) (fr vs 1) (fr bs 1)).2 = false
    rw [pair a1]
    exact b1
  | 3, _ =>
    obtain ⟨a1, a2⟩ := one 0 (0, 1) 0 1 (by omega) null_sm (by decide) (by decide)
    obtain ⟨b1, b2⟩ := one 1 _ _ _ (by omega) a2 (by decide) (by decide)
    obtain ⟨c1, c2⟩ := one 2 _ _ _ (by omega) b2 (by decide) (by decide)
    show (stpV (stpV (stpV ((0, 1), false) (fr ps 0) (fr vs 0) (fr bs 0)) (fr ps 1) (fr vs 1) (fr bs 1)) (fr ps 2) (fr vs 2) (fr bs 2)).2 = false
    rw [pair a1, pair b1]
    exact c1
theorem sumN_pos {f : Nat → Rat} : ∀ {n : Nat}, (∀ i, i < n → 0 ≤ f i) → 0 ≤ sumN f n
  | 0, _ => Rat.le_refl
  | n + 1, h => Rat.add_nonneg (sumN_pos fun i hi => h i (by omega)) (h n (by omega))
theorem sq_nonneg (x : Rat) : 0 ≤ x * x := by
  rcases Rat.nonneg_total x with h | h
  · exact Rat.mul_nonneg h h
  · have := Rat.mul_nonneg h h
    rwa [show -x * -x = x * x by grind] at this
/-- NO VARIANCE OF ALONE IS BELOW 0 -/
theorem alone_var {ps vs : List Fr} (hl : ps.length = vs.length) (h1 : 1 ≤ vs.length) (h3 : vs.length ≤ 3) (hp : ∀ i, i < vs.length → Sm (fr ps i) 6 4) (hv : ∀ i, i < vs.length → Sm (fr vs i) 8 1) (h0 : ∀ i, i < vs.length → 0 ≤ (fr vs i).1) :
    varO ps (aloneA vs) = true ∧ 0 ≤ (varA ps (aloneA vs)).1 := by
  obtain ⟨e, c⟩ := alone_cov h1 (by omega) (fun j hj => (hv j hj).1)
  have hd := dg_small (ps := ps) (vs := vs) (bs := ps) vs.length h3 hp hv hp
  have hs : varS ps (aloneT vs vs.length) = dgV ps vs ps false vs.length := by
    unfold varS
    rw [aloneT_len]
    exact sum_alone (fun j hj => (hp j hj).1) (fun j hj => (hp j hj).1) _ (Nat.le_refl _)
  rw [e]
  have ho : varO ps (aloneT vs vs.length) = true := by
    unfold varO toldC
    rw [c, hs, hd, aloneT_len, allB_mk hl (fun k hk => (hp k hk).1)]
    rfl
  refine ⟨ho, ?_⟩
  rw [varA_yes ho, hs]
  obtain ⟨d1, d2⟩ := dg_is hd
  rw [← qf_pos d1, d2]
  refine sumN_pos fun i hi => ?_
  rw [show qf (fr ps i) * (qf (fr vs i) * qf (fr ps i)) = qf (fr vs i) * (qf (fr ps i) * qf (fr ps i)) by grind]
  exact Rat.mul_nonneg ((qf_pos (hv i hi).1).2 (h0 i hi)) (sq_nonneg _)
/-- CAUCHY, of three -/
theorem cauchy3 (v x y : Nat → Rat) (h : ∀ i, i < 3 → 0 ≤ v i) :
    sumN (fun i => x i * (v i * y i)) 3 * sumN (fun i => x i * (v i * y i)) 3 ≤ sumN (fun i => x i * (v i * x i)) 3 * sumN (fun i => y i * (v i * y i)) 3 := by
  rw [Rat.le_iff_sub_nonneg]
  have e : sumN (fun i => x i * (v i * x i)) 3 * sumN (fun i => y i * (v i * y i)) 3 - sumN (fun i => x i * (v i * y i)) 3 * sumN (fun i => x i * (v i * y i)) 3
      = v 0 * v 1 * ((x 0 * y 1 - x 1 * y 0) * (x 0 * y 1 - x 1 * y 0)) + v 0 * v 2 * ((x 0 * y 2 - x 2 * y 0) * (x 0 * y 2 - x 2 * y 0)) + v 1 * v 2 * ((x 1 * y 2 - x 2 * y 1) * (x 1 * y 2 - x 2 * y 1)) := by
    simp only [sumN]
    grind
  rw [e]
  have h0 := h 0 (by omega)
  have h1 := h 1 (by omega)
  have h2 := h 2 (by omega)
  exact Rat.add_nonneg (Rat.add_nonneg (Rat.mul_nonneg (Rat.mul_nonneg h0 h1) (sq_nonneg _)) (Rat.mul_nonneg (Rat.mul_nonneg h0 h2) (sq_nonneg _))) (Rat.mul_nonneg (Rat.mul_nonneg h1 h2) (sq_nonneg _))
/-- what two carry of three inputs that are alone -/
theorem cauchy_car {xs ys vs : List Fr} (l1 : xs.length = 3) (l2 : ys.length = 3) (l3 : vs.length = 3) (hx : ∀ i, i < 3 → Sm (fr xs i) 6 4) (hy : ∀ i, i < 3 → Sm (fr ys i) 6 4) (hv : ∀ i, i < 3 → Sm (fr vs i) 8 1) :
    carO [xs, ys] (aloneA vs) = true ∧ carA [xs, ys] (aloneA vs) = [[(dgV xs vs xs false 3).1, (dgV xs vs ys false 3).1], [(dgV ys vs xs false 3).1, (dgV ys vs ys false 3).1]] := by
  obtain ⟨e, c⟩ := alone_cov (vs := vs) (by omega) (by omega) (fun j hj => (hv j (by omega)).1)
  have sm : ∀ ps bs : List Fr, (∀ i, i < 3 → Sm (fr ps i) 6 4) → (∀ i, i < 3 → Sm (fr bs i) 6 4) → sumV ps (aloneT vs vs.length) bs false (aloneT vs vs.length).length = dgV ps vs bs false 3 ∧ (dgV ps vs bs false 3).2 = false := by
    intro ps bs h1 h2
    rw [aloneT_len, sum_alone (fun j hj => (h1 j (by omega)).1) (fun j hj => (h2 j (by omega)).1) _ (Nat.le_refl _), l3]
    exact ⟨rfl, dg_small 3 (Nat.le_refl _) h1 hv h2⟩
  obtain ⟨a1, a2⟩ := sm xs xs hx hx
  obtain ⟨b1, b2⟩ := sm xs ys hx hy
  obtain ⟨c1, c2⟩ := sm ys xs hy hx
  obtain ⟨d1, d2⟩ := sm ys ys hy hy
  have r1 : crsV [xs, ys] (aloneT vs vs.length) 0 false 2 = ([(dgV xs vs xs false 3).1, (dgV xs vs ys false 3).1], false) := by
    show (([] ++ [(sumV xs (aloneT vs vs.length) xs false (aloneT vs vs.length).length).1]) ++ [(sumV xs (aloneT vs vs.length) ys (sumV xs (aloneT vs vs.length) xs false (aloneT vs vs.length).length).2 (aloneT vs vs.length).length).1], (sumV xs (aloneT vs vs.length) ys (sumV xs (aloneT vs vs.length) xs false (aloneT vs vs.length).length).2 (aloneT vs vs.length).length).2) = _
    rw [a1, a2, b1, b2]; rfl
  have r2 : crsV [xs, ys] (aloneT vs vs.length) 1 false 2 = ([(dgV ys vs xs false 3).1, (dgV ys vs ys false 3).1], false) := by
    show (([] ++ [(sumV ys (aloneT vs vs.length) xs false (aloneT vs vs.length).length).1]) ++ [(sumV ys (aloneT vs vs.length) ys (sumV ys (aloneT vs vs.length) xs false (aloneT vs vs.length).length).2 (aloneT vs vs.length).length).1], (sumV ys (aloneT vs vs.length) ys (sumV ys (aloneT vs vs.length) xs false (aloneT vs vs.length).length).2 (aloneT vs vs.length).length).2) = _
    rw [c1, c2, d1, d2]; rfl
  have hc : carV [xs, ys] (aloneT vs vs.length) 2 = ([[(dgV xs vs xs false 3).1, (dgV xs vs ys false 3).1], [(dgV ys vs xs false 3).1, (dgV ys vs ys false 3).1]], false) := by
    show (([] ++ [(crsV [xs, ys] (aloneT vs vs.length) 0 false 2).1]) ++ [(crsV [xs, ys] (aloneT vs vs.length) 1 (crsV [xs, ys] (aloneT vs vs.length) 0 false 2).2 2).1], (crsV [xs, ys] (aloneT vs vs.length) 1 (crsV [xs, ys] (aloneT vs vs.length) 0 false 2).2 2).2) = _
    rw [r1]
    dsimp only
    rw [r2]; rfl
  have ho : carO [xs, ys] (aloneT vs vs.length) = true := by
    unfold carO carC
    rw [tabB_yes (rows := [xs, ys]) (cols := 6) ⟨by simp, by simp, by show 1 ≤ xs.length; omega, by show (xs.length : Int) ≤ 6; omega⟩ (fun k hk => by
      obtain rfl | rfl : k = 0 ∨ k = 1 := by have : k < 2 := hk; omega
      · exact ⟨rfl, allOk_yes fun j hj => (hx j (by rw [← l1]; exact hj)).1⟩
      · exact ⟨by show ys.length = xs.length; omega, allOk_yes fun j hj => (hy j (by rw [← l2]; exact hj)).1⟩), c, decide_eq_true (show (rw' [xs, ys] 0).length = (aloneT vs vs.length).length by rw [aloneT_len]; show xs.length = _; omega), show (carV [xs, ys] (aloneT vs vs.length) [xs, ys].length) = _ from hc]
    rfl
  rw [e]
  refine ⟨ho, ?_⟩
  rw [carA_yes ho, show (carV [xs, ys] (aloneT vs vs.length) [xs, ys].length) = _ from hc]
theorem cauchy_law {xs ys vs : List Fr} (hx : ∀ i, i < 3 → Sm (fr xs i) 6 4) (hy : ∀ i, i < 3 → Sm (fr ys i) 6 4) (hv : ∀ i, i < 3 → Sm (fr vs i) 8 1) (h0 : ∀ i, i < 3 → 0 ≤ (fr vs i).1)
    (k1 : mulK (dgV xs vs ys false 3).1 (dgV xs vs ys false 3).1 = true) (k2 : mulK (dgV xs vs xs false 3).1 (dgV ys vs ys false 3).1 = true) :
    lessB (mulP (dgV xs vs xs false 3).1 (dgV ys vs ys false 3).1).1 (mulP (dgV xs vs xs false 3).1 (dgV ys vs ys false 3).1).2 (mulP (dgV xs vs ys false 3).1 (dgV xs vs ys false 3).1).1 (mulP (dgV xs vs ys false 3).1 (dgV xs vs ys false 3).1).2 = false := by
  refine qf_less (mul_right k2) (mul_right k1) ?_
  rw [qf_mul k1, qf_mul k2, (dg_is (dg_small 3 (Nat.le_refl _) hx hv hy)).2, (dg_is (dg_small 3 (Nat.le_refl _) hx hv hx)).2, (dg_is (dg_small 3 (Nat.le_refl _) hy hv hy)).2]
  exact cauchy3 (fun i => qf (fr vs i)) (fun i => qf (fr xs i)) (fun i => qf (fr ys i)) (fun i hi => (qf_pos (hv i hi).1).2 (h0 i hi))
end Go.Proofs.Ytoiigmimdjipiaa
