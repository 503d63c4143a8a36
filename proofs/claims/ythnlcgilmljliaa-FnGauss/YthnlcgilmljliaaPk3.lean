/- Several texts of this proof laid one behind the other: each has its own heading below. -/
import Derived.Test.YthnlcgilmljliaaTimMath
import Derived.Test.YthnlcgilmljliaaTimW1
import Derived.Test.YthnlcgilmljliaaTimW3
import Derived.Laws.CopyOwn
import Derived.BigRegion
import Derived.WalkKit
import Derived.Deep.DeepMust

/- The echelon, as the program and as the model reckon it, element by element. -/
namespace Go.Proofs.Ythnlcgilmljliaa
open Go.Proofs.Ythnlcgilmljliaa.RM

/-- a row divided -/
def divR (row : List Fr) (by' : Fr) : List Fr := row.map fun p => divP p by'
def divB (row : List Fr) (by' : Fr) : Bool := row.all fun p => divK p by'
/-- one element of what is left of a row, so many times another one taken from it -/
def takeE (o t x : Fr) : Fr := subP o (mulP t x)
def takeK (o t x : Fr) : Bool := subK o (mulP t x)
def takeR (other : List Fr) (t : Fr) (what : List Fr) : List Fr := (List.range other.length).map fun i => takeE (fr other i) t (fr what i)
def takeB (other : List Fr) (t : Fr) (what : List Fr) : Bool := (List.range other.length).all fun i => takeK (fr other i) t (fr what i)
/-- the same as the model reckons it: what it keeps, and was something too great -/
def sDivE (x f : Fr) : Fr := keepF (divK x f) (divP x f)
def sTakeP (t x : Fr) : Fr := keepF (mulK t x) (mulP t x)
def sTakeE (o t x : Fr) : Fr := keepF (subK o (sTakeP t x)) (subP o (sTakeP t x))
def sTakeX (o t x : Fr) : Bool := !mulK t x || !subK o (sTakeP t x)
theorem take_bad (o t x : Fr) : sTakeX o t x = !takeK o t x := by
  unfold sTakeX takeK sTakeP
  by_cases h : mulK t x = true
  · rw [keepF_yes h, h]; rfl
  · rw [Bool.not_eq_true] at h
    rw [h, mul_none h, sub_zero_r]; rfl
theorem take_same {o t x : Fr} (h : takeK o t x = true) : sTakeE o t x = takeE o t x := by
  have hb := take_bad o t x
  rw [h] at hb
  unfold sTakeX at hb
  rw [Bool.not_true, Bool.or_eq_false_iff] at hb
  have hm : mulK t x = true := by simpa using hb.1
  unfold sTakeE sTakeP takeE
  rw [keepF_yes hm]
  unfold takeK at h
  rw [keepF_yes h]
theorem div_same {x f : Fr} (h : divK x f = true) : sDivE x f = divP x f := keepF_yes h
/-- the row of the first one, from 'at' on, with something in the column that is not 0; as many as rows where there is none -/
def pivF (rows : List (List Fr)) (col : Nat) : Nat → Nat → Nat
  | 0, r => r
  | n + 1, r => if (fr (rw' rows r) col).1 = 0 then pivF rows col n (r + 1) else r
def piv (rows : List (List Fr)) (col at' : Nat) : Nat := pivF rows col (rows.length - at') at'
/-- the rows when row r was exchanged with row at -/
def swapT (rows : List (List Fr)) (r at' : Nat) : List (List Fr) := (rows.set r (rw' rows at')).set at' (rw' rows r)
/-- one column's step -/
def stepT (rows : List (List Fr)) (at' r col : Nat) : List (List Fr) :=
  (List.range rows.length).map fun i => if i = at' then divR (rw' rows r) (fr (rw' rows r) col) else takeR (rw' (swapT rows r at') i) (fr (rw' (swapT rows r at') i) col) (divR (rw' rows r) (fr (rw' rows r) col))
def stepB (rows : List (List Fr)) (at' r col : Nat) : Bool :=
  divB (rw' rows r) (fr (rw' rows r) col) && (List.range rows.length).all fun i => decide (i = at') || takeB (rw' (swapT rows r at') i) (fr (rw' (swapT rows r at') i) col) (divR (rw' rows r) (fr (rw' rows r) col))
/-- the columns from col on, n of them: the rows and the chosen columns, or none where something is too great -/
def echF : Nat → Nat → List (List Fr) → List Nat → Option (List (List Fr) × List Nat)
  | 0, _, rows, ch => some (rows, ch)
  | n + 1, col, rows, ch =>
    if piv rows col ch.length = rows.length then echF n (col + 1) rows ch
    else if stepB rows ch.length (piv rows col ch.length) col = true then echF n (col + 1) (stepT rows ch.length (piv rows col ch.length) col) (ch ++ [col])
    else none
def ech (rows : List (List Fr)) : Option (List (List Fr) × List Nat) := echF (rw' rows 0).length 0 rows []
theorem pivF_ge (rows : List (List Fr)) (col : Nat) : ∀ n r, r ≤ pivF rows col n r ∧ pivF rows col n r ≤ r + n
  | 0, r => ⟨Nat.le_refl _, Nat.le_refl _⟩
  | n + 1, r => by
    have := pivF_ge rows col n (r + 1)
    simp only [pivF]
    split <;> omega
theorem piv_le {rows : List (List Fr)} {col at' : Nat} (h : at' ≤ rows.length) : at' ≤ piv rows col at' ∧ piv rows col at' ≤ rows.length := by
  have := pivF_ge rows col (rows.length - at') at'
  unfold piv; omega
theorem pivF_zero (rows : List (List Fr)) (col : Nat) : ∀ n r i, r ≤ i → i < pivF rows col n r → (fr (rw' rows i) col).1 = 0
  | 0, r, i, h1, h2 => by simp only [pivF] at h2; omega
  | n + 1, r, i, h1, h2 => by
    simp only [pivF] at h2
    split at h2
    · rename_i h
      by_cases e : i = r
      · subst e; exact h
      · exact pivF_zero rows col n (r + 1) i (by omega) h2
    · omega
theorem pivF_at (rows : List (List Fr)) (col : Nat) : ∀ n r, pivF rows col n r < r + n → (fr (rw' rows (pivF rows col n r)) col).1 ≠ 0
  | 0, r, h => by simp only [pivF] at h; omega
  | n + 1, r, h => by
    simp only [pivF] at h ⊢
    split
    · rename_i hz
      rw [if_pos hz] at h
      exact pivF_at rows col n (r + 1) (by omega)
    · rename_i hz
      exact hz
end Go.Proofs.Ythnlcgilmljliaa

/- The walks of the program's steps on rows: one divided, so many times one taken from another. -/
namespace Go.Proofs.Ythnlcgilmljliaa
open Go.RowKit Go.Proofs.Ythnlcgilmljliaa.RM

theorem divC (x1 x2 y1 y2 : Int) (w : World) :
    Calls Try.prog 88 #[.agg #[.int .i64 x1, .int .i64 x2], .agg #[.int .i64 y1, .int .i64 y2]] w fun e w' => e = .returned (.tuple #[.agg #[.int .i64 (divP (x1, x2) (y1, y2)).1, .int .i64 (divP (x1, x2) (y1, y2)).2], .bool (divK (x1, x2) (y1, y2))]) ∧ Below w.heap.size w w' := iDiv_any x1 x2 y1 y2 w
theorem subC (x1 x2 y1 y2 : Int) (w : World) :
    Calls Try.prog 63 #[.agg #[.int .i64 x1, .int .i64 x2], .agg #[.int .i64 y1, .int .i64 y2]] w fun e w' => e = .returned (.tuple #[.agg #[.int .i64 (subP (x1, x2) (y1, y2)).1, .int .i64 (subP (x1, x2) (y1, y2)).2], .bool (subK (x1, x2) (y1, y2))]) ∧ Below w.heap.size w w' := iSub_any x1 x2 y1 y2 w

/-- the first k elements by one function, the others as they were -/
def parF (f : Nat → Fr) (row : List Fr) (k : Nat) : List Fr := (List.range row.length).map fun i => if i < k then f i else fr row i
theorem parF_len (f : Nat → Fr) (row : List Fr) (k : Nat) : (parF f row k).length = row.length := by simp [parF]
theorem parF_zero (f : Nat → Fr) (row : List Fr) : parF f row 0 = row := by
  apply List.ext_getElem
  · rw [parF_len]
  · intro i h1 h2
    simp [parF, fr, h2]
theorem parF_set (f : Nat → Fr) (row : List Fr) (k : Nat) : (parF f row k).set k (f k) = parF f row (k + 1) := by
  apply List.ext_getElem
  · simp [parF]
  · intro i h1 h2
    simp only [parF, List.getElem_set, List.getElem_map, List.getElem_range]
    by_cases e : k = i
    · subst e
      rw [if_pos rfl, if_pos (by omega)]
    · rw [if_neg e]
      by_cases h3 : i < k
      · rw [if_pos h3, if_pos (by omega)]
      · rw [if_neg h3, if_neg (by omega)]
theorem parF_at (f : Nat → Fr) (row : List Fr) (k : Nat) (h : k < row.length) : (parF f row k)[k]?.getD (0, 0) = fr row k := by simp [parF, h]
theorem parF_div (row : List Fr) (g : Fr) : parF (fun i => divP (fr row i) g) row row.length = divR row g := by
  apply List.ext_getElem
  · simp [parF, divR]
  · intro i h1 h2
    rw [parF_len] at h1
    simp [parF, divR, fr, h1]
theorem parF_take (row : List Fr) (t : Fr) (what : List Fr) : parF (fun i => takeE (fr row i) t (fr what i)) row row.length = takeR row t what := by
  apply List.ext_getElem
  · simp [parF, takeR]
  · intro i h1 h2
    rw [parF_len] at h1
    simp [parF, takeR, h1]
theorem divB_no {row : List Fr} {g : Fr} {k : Nat} (hk : k < row.length) (h : divK (fr row k) g = false) : divB row g = false := all_no _ (0, 0) hk h
theorem divB_yes {row : List Fr} {g : Fr} (h : ∀ k, k < row.length → divK (fr row k) g = true) : divB row g = true := all_yes _ (0, 0) h
theorem takeB_no {row : List Fr} {t : Fr} {what : List Fr} {k : Nat} (hk : k < row.length) (h : takeK (fr row k) t (fr what k) = false) : takeB row t what = false := by
  rw [← Bool.not_eq_true]
  intro ha
  unfold takeB at ha
  rw [List.all_eq_true] at ha
  have := ha k (by simpa using hk)
  rw [h] at this
  exact absurd this (by simp)
theorem takeB_yes {row : List Fr} {t : Fr} {what : List Fr} (h : ∀ k, k < row.length → takeK (fr row k) t (fr what k) = true) : takeB row t what = true := by
  unfold takeB
  rw [List.all_eq_true]
  intro k hk
  exact h k (by simpa using hk)

set_option maxRecDepth 100000 in
set_option maxHeartbeats 2000000 in
theorem divRow_any (v : Value) (row : List Fr) (f1 f2 : Int) (base : Nat) (w : World) (hn2 : row.length ≤ 1000) (h : w.ownsRow base 33 2 v row.length (cellsR row)) :
    Calls Try.prog 84 #[v, .agg #[.int .i64 f1, .int .i64 f2]] w fun e w' => e = .returned (.bool (divB row (f1, f2))) ∧ (divB row (f1, f2) = true → w'.ownsRow base 33 2 v row.length (cellsR (divR row (f1, f2)))) ∧ w.grownBy w' v.ownBlock := by
  have b0 : ∀ {u : World} (o : Obj), Below u.heap.size u (u.alloc o) := fun o => (Below.refl _ _).alloc (Nat.le_refl _) o
  obtain ⟨n, hn⟩ : ∃ n, row.length = n := ⟨_, rfl⟩
  rw [hn] at h hn2 ⊢
  by_cases h0 : n = 0
  · subst h0
    obtain rfl : row = [] := List.eq_nil_of_length_eq_zero hn
    obtain ⟨a, c, rfl⟩ := own_shape h
    have H1 : Hid (w.ownsRow base 33 2 (.slice a 0 c) 0 []) := h
    clear h hn
    go_enter Try.func84, Try.ntmps84
    go_wp2
    go_loop [11] (fun i => i = .int .i64 0) (fun _ => 0)
    case atStart => exact rfl
    case round =>
      subst hrel
      go_wp2
      go_ret
      exact ⟨rfl, fun _ => own_below H1.out (b0 _), grown_new (b0 _)⟩
  · obtain ⟨g, c, rfl⟩ := own_some h (by omega)
    have hg : g < w.heap.size := (World.ownsRow.lt h g rfl).2
    have HN : Hid (row.length = n) := hn
    have H1 : Hid (w.ownsRow base 33 2 (.slice (some ⟨g, 0, none⟩) n c) n (cellsR row)) := h
    clear h hn h0
    go_enter Try.func84, Try.ntmps84
    go_wp2
    obtain ⟨F, hF⟩ : ∃ F, F = w.heap.size := ⟨_, rfl⟩
    obtain ⟨X, hX⟩ : ∃ X, X = w.alloc (.cells #[.int .i64 f1, .int .i64 f2] 33) := ⟨_, rfl⟩
    have rF : IsR X F f1 f2 := by rw [hX, hF]; exact IsR.new w f1 f2
    have o0 : X.ownsRow base 33 2 (.slice (some ⟨g, 0, none⟩) n c) n (cellsR (parF (fun i => divP (fr row i) (f1, f2)) row 0)) := by
      rw [parF_zero, hX]; exact own_below H1.out (b0 _)
    have g0 : w.grownBy X (some g) := by rw [hX]; exact grown_new (b0 _)
    have hFg : F ≠ g := by omega
    rw [← hX, ← hF]
    clear hX hF H1
    go_loopw [11] (fun i wr => ∃ k : Nat, k ≤ n ∧ i = .int .i64 k ∧ Hid (IsR wr F f1 f2) ∧ Hid (wr.ownsRow base 33 2 (.slice (some ⟨g, 0, none⟩) n c) n (cellsR (parF (fun i => divP (fr row i) (f1, f2)) row k))) ∧ Hid (w.grownBy wr (some g)) ∧ Hid (∀ i, i < k → divK (fr row i) (f1, f2) = true)) (fun i _ => n - (intOf i).toNat)
    case atStart => exact ⟨0, Nat.zero_le _, rfl, rF, o0, g0, fun i hi => absurd hi (Nat.not_lt_zero _)⟩
    case round =>
      clear rF o0 g0
      obtain ⟨k, hk, rfl, rF, hO, hG, HP⟩ := hrel
      by_cases hlt : k < n
      · obtain ⟨c1, c2⟩ := own_R hO.out (by rw [parF_len]; exact HN.out) k hlt
        rw [parF_at _ _ _ (by rw [HN.out]; exact hlt)] at c1 c2
        obtain ⟨x, hx⟩ : ∃ x, x = fr row k := ⟨_, rfl⟩
        have HX : Hid (x = fr row k) := hx
        rw [← hx] at c1 c2
        obtain ⟨x1, x2⟩ := x
        obtain ⟨q, hq⟩ : ∃ q, q = divP (x1, x2) (f1, f2) := ⟨_, rfl⟩
        obtain ⟨qo, hqo⟩ : ∃ q, q = divK (x1, x2) (f1, f2) := ⟨_, rfl⟩
        have HD : Hid (∀ u : World, Calls Try.prog 88 #[.agg #[.int .i64 x1, .int .i64 x2], .agg #[.int .i64 f1, .int .i64 f2]] u fun e w' => e = .returned (.tuple #[.agg #[.int .i64 q.1, .int .i64 q.2], .bool qo]) ∧ Below u.heap.size u w') := by
          intro u; rw [hq, hqo]; exact divC x1 x2 f1 f2 u
        have HQ : Hid (q = divP (x1, x2) (f1, f2)) := hq
        have HQO : Hid (qo = divK (x1, x2) (f1, f2)) := hqo
        obtain ⟨q1, q2⟩ := q
        dsimp only at c1 c2 HD
        have hgl : g < wr.heap.size := (World.ownsRow.lt hO.out g rfl).2
        have hFl := rF.out.lt
        have rFx := rF.out.below (b0 (.cells #[.int .i64 x1, .int .i64 x2] 33))
        have rF0 := rFx.c0
        have rF1 := rFx.c1
        clear hx hq hqo rFx
        go_wp2_with fail
        refine (HD.out _).mono ?_
        rintro e w2 ⟨rfl, hb⟩
        have hbx : Below wr.heap.size wr (w2.alloc (.cells #[.int .i64 q1, .int .i64 q2] 33)) := ((b0 _).trans (hb.mono (by simp))).alloc (by have := hb.size; simp at this; omega) _
        have hO2 := own_below hO.out hbx
        have rF2 := rF.out.below hbx
        have hG2 := g_below hG.out hbx
        obtain ⟨d1, d2⟩ := own_R hO2 (by rw [parF_len]; exact HN.out) k hlt
        have e1 := hO2.frozenAt (k * 2)
        have e2 := hO2.frozenAt (k * 2 + 1)
        generalize ((parF (fun i => divP (fr row i) (f1, f2)) row k)[k]?.getD (0, 0)).1 = y1 at d1
        generalize ((parF (fun i => divP (fr row i) (f1, f2)) row k)[k]?.getD (0, 0)).2 = y2 at d2
        clear hb hbx rF0 rF1
        cases qo
        · have HB : Hid (divB row (f1, f2) = false) := divB_no (by rw [HN.out]; exact hlt) (by rw [← HX.out]; exact HQO.out.symm)
          go_wp2
          go_ret
          exact ⟨ret_b HB.out.symm, fun h => by rw [HB.out] at h; exact absurd h (by simp), hG2⟩
        · go_wp2
          go_roundw
          case rel =>
            obtain ⟨s1, s2⟩ := hO2.stored (k * 2) (.int .i64 q1)
            obtain ⟨s3, s4⟩ := s1.stored (k * 2 + 1) (.int .i64 q2)
            rw [cellsR_set _ _ _ _ (by rw [parF_len, HN.out]; exact hlt), show ((q1, q2) : Fr) = divP (fr row k) (f1, f2) by rw [← HX.out]; exact HQ.out, parF_set (fun i => divP (fr row i) (f1, f2))] at s3
            refine ⟨k + 1, by omega, by go_num, (rF2.other hFg (k * 2) (.int .i64 q1)).other hFg (k * 2 + 1) (.int .i64 q2), s3, (hG2.trans s2).trans s4, fun i hi => ?_⟩
            by_cases e : i = k
            · subst e; rw [← HX.out]; exact HQO.out.symm
            · exact HP.out i (by omega)
          case measure => simp [intOf]; omega
      · obtain rfl : k = n := by omega
        have HB : Hid (divB row (f1, f2) = true) := divB_yes (fun i hi => HP.out i (by rw [← HN.out]; exact hi))
        go_wp2
        go_ret
        refine ⟨ret_b HB.out.symm, fun _ => ?_, hG.out⟩
        have := hO.out
        rw [← HN.out, parF_div, HN.out] at this
        exact this
end Go.Proofs.Ythnlcgilmljliaa

/- The walk of the program's takeFromRow. -/
namespace Go.Proofs.Ythnlcgilmljliaa
open Go.RowKit Go.Proofs.Ythnlcgilmljliaa.RM

set_option maxRecDepth 100000 in
set_option maxHeartbeats 2000000 in
theorem takeRow_any (vo vw : Value) (other what : List Fr) (t1 t2 : Int) (base baseW : Nat) (w : World) (hl : what.length = other.length) (hn2 : other.length ≤ 1000) (ho : w.ownsRow base 33 2 vo other.length (cellsR other)) (hw : w.ownsRow baseW 33 2 vw what.length (cellsR what)) (hne : ∀ b, vo.ownBlock = some b → vw.ownBlock ≠ some b) :
    Calls Try.prog 85 #[vo, .agg #[.int .i64 t1, .int .i64 t2], vw] w fun e w' => e = .returned (.bool (takeB other (t1, t2) what)) ∧ (takeB other (t1, t2) what = true → w'.ownsRow base 33 2 vo other.length (cellsR (takeR other (t1, t2) what))) ∧ w.grownBy w' vo.ownBlock := by
  have b0 : ∀ {u : World} (o : Obj), Below u.heap.size u (u.alloc o) := fun o => (Below.refl _ _).alloc (Nat.le_refl _) o
  obtain ⟨n, hn⟩ : ∃ n, other.length = n := ⟨_, rfl⟩
  rw [hn] at hl
  rw [hl] at hw
  rw [hn] at ho hn2 ⊢
  by_cases h0 : n = 0
  · subst h0
    obtain rfl : other = [] := List.eq_nil_of_length_eq_zero hn
    obtain ⟨a, c, rfl⟩ := own_shape ho
    obtain ⟨a', c', rfl⟩ := own_shape hw
    have H1 : Hid (w.ownsRow base 33 2 (.slice a 0 c) 0 []) := ho
    clear ho hw hn hne hl
    go_enter Try.func85, Try.ntmps85
    go_wp2
    go_loop [15] (fun i => i = .int .i64 0) (fun _ => 0)
    case atStart => exact rfl
    case round =>
      subst hrel
      go_wp2
      go_ret
      exact ⟨rfl, fun _ => own_below H1.out (b0 _), grown_new (b0 _)⟩
  · obtain ⟨g, c, rfl⟩ := own_some ho (by omega)
    obtain ⟨gw, cw, rfl⟩ := own_some hw (by omega)
    have hg : g < w.heap.size := (World.ownsRow.lt ho g rfl).2
    have hgw : gw < w.heap.size := (World.ownsRow.lt hw gw rfl).2
    have hgg : gw ≠ g := by have := hne g rfl; simpa [Value.ownBlock] using this
    have HN : Hid (other.length = n) := hn
    have HL : Hid (what.length = n) := hl
    have H1 : Hid (w.ownsRow base 33 2 (.slice (some ⟨g, 0, none⟩) n c) n (cellsR other)) := ho
    have H2 : Hid (w.ownsRow baseW 33 2 (.slice (some ⟨gw, 0, none⟩) n cw) n (cellsR what)) := hw
    clear ho hw hn h0 hl hne
    go_enter Try.func85, Try.ntmps85
    go_wp2
    obtain ⟨F, hF⟩ : ∃ F, F = w.heap.size := ⟨_, rfl⟩
    obtain ⟨X, hX⟩ : ∃ X, X = w.alloc (.cells #[.int .i64 t1, .int .i64 t2] 33) := ⟨_, rfl⟩
    have rF : IsR X F t1 t2 := by rw [hX, hF]; exact IsR.new w t1 t2
    have o0 : X.ownsRow base 33 2 (.slice (some ⟨g, 0, none⟩) n c) n (cellsR (parF (fun i => takeE (fr other i) (t1, t2) (fr what i)) other 0)) := by
      rw [parF_zero, hX]; exact own_below H1.out (b0 _)
    have q0 : X.ownsRow baseW 33 2 (.slice (some ⟨gw, 0, none⟩) n cw) n (cellsR what) := by rw [hX]; exact own_below H2.out (b0 _)
    have g0 : w.grownBy X (some g) := by rw [hX]; exact grown_new (b0 _)
    have hFg : F ≠ g := by omega
    have hwF : w.heap.size ≤ F := by omega
    rw [← hX, ← hF]
    clear hX hF H1 H2
    go_loopw [15] (fun i wr => ∃ k : Nat, k ≤ n ∧ i = .int .i64 k ∧ Hid (IsR wr F t1 t2) ∧ Hid (wr.ownsRow base 33 2 (.slice (some ⟨g, 0, none⟩) n c) n (cellsR (parF (fun i => takeE (fr other i) (t1, t2) (fr what i)) other k))) ∧ Hid (wr.ownsRow baseW 33 2 (.slice (some ⟨gw, 0, none⟩) n cw) n (cellsR what)) ∧ Hid (w.grownBy wr (some g)) ∧ Hid (∀ i, i < k → takeK (fr other i) (t1, t2) (fr what i) = true)) (fun i _ => n - (intOf i).toNat)
    case atStart => exact ⟨0, Nat.zero_le _, rfl, rF, o0, q0, g0, fun i hi => absurd hi (Nat.not_lt_zero _)⟩
    case round =>
      clear rF o0 g0 q0
      obtain ⟨k, hk, rfl, rF, hO, hW, hG, HP⟩ := hrel
      by_cases hlt : k < n
      · obtain ⟨c1, c2⟩ := own_R hW.out HL.out k hlt
        obtain ⟨c3, c4⟩ := own_R hO.out (by rw [parF_len]; exact HN.out) k hlt
        rw [parF_at _ _ _ (by rw [HN.out]; exact hlt)] at c3 c4
        obtain ⟨x, hx⟩ : ∃ x, x = fr what k := ⟨_, rfl⟩
        obtain ⟨y, hy⟩ : ∃ y, y = fr other k := ⟨_, rfl⟩
        rw [show what[k]?.getD (0, 0) = fr what k from rfl, ← hx] at c1 c2
        rw [← hy] at c3 c4
        obtain ⟨x1, x2⟩ := x
        obtain ⟨y1, y2⟩ := y
        obtain ⟨m, hm⟩ : ∃ q, q = mulP (t1, t2) (x1, x2) := ⟨_, rfl⟩
        obtain ⟨mo, hmo⟩ : ∃ q, q = mulK (t1, t2) (x1, x2) := ⟨_, rfl⟩
        have HM : Hid (∀ u : World, Calls Try.prog 35 #[.agg #[.int .i64 t1, .int .i64 t2], .agg #[.int .i64 x1, .int .i64 x2]] u fun e w' => e = .returned (.tuple #[.agg #[.int .i64 m.1, .int .i64 m.2], .bool mo]) ∧ Below u.heap.size u w') := by
          intro u; rw [hm, hmo]; exact mulC t1 t2 x1 x2 u
        obtain ⟨s, hs⟩ : ∃ q, q = takeE (y1, y2) (t1, t2) (x1, x2) := ⟨_, rfl⟩
        obtain ⟨so, hso⟩ : ∃ q, q = takeK (y1, y2) (t1, t2) (x1, x2) := ⟨_, rfl⟩
        have HS : Hid (s = takeE (fr other k) (t1, t2) (fr what k)) := by show _ = _; rw [← hx, ← hy]; exact hs
        have HSO : Hid (so = takeK (fr other k) (t1, t2) (fr what k)) := by show _ = _; rw [← hx, ← hy]; exact hso
        unfold takeE at hs
        unfold takeK at hso
        rw [← hm] at hs hso
        obtain ⟨m1, m2⟩ := m
        have HD : Hid (∀ u : World, Calls Try.prog 63 #[.agg #[.int .i64 y1, .int .i64 y2], .agg #[.int .i64 m1, .int .i64 m2]] u fun e w' => e = .returned (.tuple #[.agg #[.int .i64 s.1, .int .i64 s.2], .bool so]) ∧ Below u.heap.size u w') := by
          intro u; rw [hs, hso]; exact subC y1 y2 m1 m2 u
        obtain ⟨s1, s2⟩ := s
        dsimp only at c1 c2 c3 c4 HM HD
        have hgwl : gw < wr.heap.size := (World.ownsRow.lt hW.out gw rfl).2
        have rFx := rF.out.below (b0 (.cells #[.int .i64 x1, .int .i64 x2] 33))
        have rF0 := rFx.c0
        have rF1 := rFx.c1
        clear hx hy hm hmo hs hso rFx
        go_wp2_with fail
        refine (HM.out _).mono ?_
        rintro e w2 ⟨rfl, hb⟩
        obtain ⟨N, hN⟩ : ∃ N, N = w2.heap.size := ⟨_, rfl⟩
        obtain ⟨Xr, hXr⟩ : ∃ X, X = w2.alloc (.cells #[.int .i64 m1, .int .i64 m2] 33) := ⟨_, rfl⟩
        have hbx : Below wr.heap.size wr Xr := by rw [hXr]; exact ((b0 _).trans (hb.mono (by simp))).alloc (by have := hb.size; simp at this; omega) _
        have rN : IsR Xr N m1 m2 := by rw [hXr, hN]; exact IsR.new w2 m1 m2
        have r0 := rN.c0
        have r1 := rN.c1
        have hNx : N < Xr.heap.size := rN.lt
        replace c3 := cell_keep hbx c3
        replace c4 := cell_keep hbx c4
        have hgN : g < N := by rw [hN]; have := (World.ownsRow.lt hO.out g rfl).2; have := hb.size; simp at this; omega
        replace hO := own_below hO.out hbx
        replace hW := own_below hW.out hbx
        replace rF := rF.out.below hbx
        replace hG := g_below hG.out hbx
        clear hb hbx rF0 rF1 c1 c2 hgwl
        go_upto_region 5 with fail
        rw [← hXr, ← hN]
        clear hXr hN
        have hFX := rF.lt
        have hgX : g < Xr.heap.size := by omega
        have hgwX : gw < Xr.heap.size := (World.ownsRow.lt hW gw rfl).2
        have hwX : w.heap.size ≤ Xr.heap.size := by omega
        go_cut [11, 12] from 16 to 41 (fun x11 x12 wx => ∃ P, x11 = .pointer (some ⟨P, 0, none⟩) ∧ x12 = .bool so ∧ Hid (IsR wx P s1 s2) ∧ Hid (IsR wx F t1 t2) ∧ Hid (wx.ownsRow base 33 2 (.slice (some ⟨g, 0, none⟩) n c) n (cellsR (parF (fun i => takeE (fr other i) (t1, t2) (fr what i)) other k))) ∧ Hid (wx.ownsRow baseW 33 2 (.slice (some ⟨gw, 0, none⟩) n cw) n (cellsR what)) ∧ Hid (w.grownBy wx (some g)))
        case first =>
          refine wp_region_noPanic ?_
          refine wp_region_held_drew (S := (fun w' => w'.cell? ⟨N, 0, none⟩ = some (.int .i64 m1) ∧ w'.cell? ⟨N, 1, none⟩ = some (.int .i64 m2) ∧ w'.cell? ⟨g, k * 2, none⟩ = some (.int .i64 y1) ∧ w'.cell? ⟨g, k * 2 + 1, none⟩ = some (.int .i64 y2))) (by kernel_rfl) ?_ (fun hHeld => ?_)
          · (try dsimp only)
            refine ⟨?_, ?_, ?_, ?_⟩ <;> (repeat (with_reducible (first | exact r0 | exact r1 | exact c3 | exact c4 | refine cell_dr ?_ | refine cell_al _ ?_ | refine cell_stb ?_ ?_ | (show _ ≠ _; omega))))
          refine wpAnyH_take (i := 0) (v := ?_) rfl (by kernel_rfl) (by kernel_rfl) (by kernel_rfl) (fun _ _ _ h => h) (Or.inl ⟨by kernel_rfl, ?_⟩) hHeld ?_
          rotate_left
          · intro wz hSw; (try dsimp only at hSw); go_simp; all_goals (try with_reducible rfl)
          (try simp only [List.getElem_toArray]); (try simp only [List.getElem_cons_succ]); (try simp only [List.getElem_cons_zero]); (try simp only [Act.put]); (try simp only [List.setIfInBounds_toArray]); (try simp only [List.set_cons_succ]); (try simp only [List.set_cons_zero])
          refine wpAnyH_take (i := 1) (v := ?_) rfl (by kernel_rfl) (by kernel_rfl) (by kernel_rfl) (fun _ _ _ h => h) (Or.inl ⟨by kernel_rfl, ?_⟩) hHeld ?_
          rotate_left
          · intro wz hSw; (try dsimp only at hSw); go_simp; all_goals (try with_reducible rfl)
          (try simp only [List.getElem_toArray]); (try simp only [List.getElem_cons_succ]); (try simp only [List.getElem_cons_zero]); (try simp only [Act.put]); (try simp only [List.setIfInBounds_toArray]); (try simp only [List.set_cons_succ]); (try simp only [List.set_cons_zero])
          refine wpAnyH_take (i := 2) (v := ?_) rfl (by kernel_rfl) (by kernel_rfl) (by kernel_rfl) (fun _ _ _ h => h) (Or.inl ⟨by kernel_rfl, ?_⟩) hHeld ?_
          rotate_left
          · intro wz hSw; (try dsimp only at hSw); go_simp; all_goals (try with_reducible rfl)
          (try simp only [List.getElem_toArray]); (try simp only [List.getElem_cons_succ]); (try simp only [List.getElem_cons_zero]); (try simp only [Act.put]); (try simp only [List.setIfInBounds_toArray]); (try simp only [List.set_cons_succ]); (try simp only [List.set_cons_zero])
          refine wpAnyH_take (i := 3) (v := ?_) rfl (by kernel_rfl) (by kernel_rfl) (by kernel_rfl) (fun _ _ _ h => h) (Or.inl ⟨by kernel_rfl, ?_⟩) hHeld ?_
          rotate_left
          · intro wz hSw; (try dsimp only at hSw); go_simp; all_goals (try with_reducible rfl)
          (try simp only [List.getElem_toArray]); (try simp only [List.getElem_cons_succ]); (try simp only [List.getElem_cons_zero]); (try simp only [Act.put]); (try simp only [List.setIfInBounds_toArray]); (try simp only [List.set_cons_succ]); (try simp only [List.set_cons_zero])
          refine wpAnyH_take (i := 4) (v := ?_) rfl (by kernel_rfl) (by kernel_rfl) (by kernel_rfl) (fun _ _ _ h => h) (Or.inl ⟨by kernel_rfl, ?_⟩) hHeld ?_
          rotate_left
          · intro wz hSw; (try dsimp only at hSw); go_simp; all_goals (try with_reducible rfl)
          (try simp only [List.getElem_toArray]); (try simp only [List.getElem_cons_succ]); (try simp only [List.getElem_cons_zero]); (try simp only [Act.put]); (try simp only [List.setIfInBounds_toArray]); (try simp only [List.set_cons_succ]); (try simp only [List.set_cons_zero])
          refine wpAnyH_ready (rs := [5, 9]) (by kernel_rfl) (by simp) (AllReadyH.cons rfl (fun Kc hKc => ?_) (AllReadyH.cons rfl (fun Kc hKc => ?_) AllReadyH.nil))
          · go_simp
            (go_at_call 63; refine (HD.out _).mono ?_; rintro e w3 ⟨rfl, hb2⟩)
            have hbd : Below Xr.heap.size Xr w3 := ((Below.refl _ _).drew).trans (hb2.mono (by simp))
            have c3 := cell_keep hbd c3
            have c4 := cell_keep hbd c4
            have r0 := cell_keep hbd r0
            have r1 := cell_keep hbd r1
            have q0 := rF.below hbd
            have q1 := own_below hO hbd
            have q2 := own_below hW hbd
            have q3 := g_below hG hbd
            have hsw := hbd.size
            clear hb2
            go_wp2_with fail
            refine hKc.out _ _ ?_ (fun hHeld => ?_)
            · (try dsimp only)
              refine ⟨?_, ?_, ?_, ?_⟩ <;> (repeat (with_reducible (first | exact r0 | exact r1 | exact c3 | exact c4 | refine cell_dr ?_ | refine cell_al _ ?_ | refine cell_stb ?_ ?_ | (show _ ≠ _; omega))))
            clear hKc Kc
            (try simp only [List.getElem_toArray]); (try simp only [List.getElem_cons_succ]); (try simp only [List.getElem_cons_zero]); (try simp only [Act.put]); (try simp only [List.setIfInBounds_toArray]); (try simp only [List.set_cons_succ]); (try simp only [List.set_cons_zero])
            refine wpAnyH_take (i := 6) (v := ?_) rfl (by kernel_rfl) (by kernel_rfl) (by kernel_rfl) (fun _ _ _ h => h) (Or.inl ⟨by kernel_rfl, ?_⟩) hHeld ?_
            rotate_left
            · intro wz hSw; (try dsimp only at hSw); go_simp; all_goals (try with_reducible rfl)
            (try simp only [List.getElem_toArray]); (try simp only [List.getElem_cons_succ]); (try simp only [List.getElem_cons_zero]); (try simp only [Act.put]); (try simp only [List.setIfInBounds_toArray]); (try simp only [List.set_cons_succ]); (try simp only [List.set_cons_zero])
            refine wpAnyH_take (i := 7) (v := ?_) rfl (by kernel_rfl) (by kernel_rfl) (by kernel_rfl) (fun _ _ _ h => h) (Or.inl ⟨by kernel_rfl, ?_⟩) hHeld ?_
            rotate_left
            · intro wz hSw; (try dsimp only at hSw); go_simp; all_goals (try with_reducible rfl)
            (try simp only [List.getElem_toArray]); (try simp only [List.getElem_cons_succ]); (try simp only [List.getElem_cons_zero]); (try simp only [Act.put]); (try simp only [List.setIfInBounds_toArray]); (try simp only [List.set_cons_succ]); (try simp only [List.set_cons_zero])
            refine wpAnyH_take (i := 8) (v := ?_) rfl (by kernel_rfl) (by kernel_rfl) (by kernel_rfl) (fun _ _ _ h => h) (Or.inl ⟨by kernel_rfl, ?_⟩) hHeld ?_
            rotate_left
            · intro wz hSw; (try dsimp only at hSw); go_simp; all_goals (try with_reducible rfl)
            (try simp only [List.getElem_toArray]); (try simp only [List.getElem_cons_succ]); (try simp only [List.getElem_cons_zero]); (try simp only [Act.put]); (try simp only [List.setIfInBounds_toArray]); (try simp only [List.set_cons_succ]); (try simp only [List.set_cons_zero])
            refine wpAnyH_ready (rs := [9]) (by kernel_rfl) (by simp) (AllReadyH.cons rfl (fun Kc hKc => ?_) AllReadyH.nil)
            go_simp
            refine hKc.out _ _ ?_ (fun hHeld => ?_)
            · (try dsimp only)
              refine ⟨?_, ?_, ?_, ?_⟩ <;> (repeat (with_reducible (first | exact r0 | exact r1 | exact c3 | exact c4 | refine cell_dr ?_ | refine cell_al _ ?_ | refine cell_stb ?_ ?_ | (show _ ≠ _; omega))))
            clear hKc Kc
            (try simp only [List.getElem_toArray]); (try simp only [List.getElem_cons_succ]); (try simp only [List.getElem_cons_zero]); (try simp only [Act.put]); (try simp only [List.setIfInBounds_toArray]); (try simp only [List.set_cons_succ]); (try simp only [List.set_cons_zero])
            refine wpAnyH_ready (rs := [10]) (by kernel_rfl) (by simp) (AllReadyH.cons rfl (fun Kc hKc => ?_) AllReadyH.nil)
            go_simp
            refine hKc.out _ _ ?_ (fun hHeld => ?_)
            · (try dsimp only)
              refine ⟨?_, ?_, ?_, ?_⟩ <;> (repeat (with_reducible (first | exact r0 | exact r1 | exact c3 | exact c4 | refine cell_dr ?_ | refine cell_al _ ?_ | refine cell_stb ?_ ?_ | (show _ ≠ _; omega))))
            clear hKc Kc
            (try simp only [List.getElem_toArray]); (try simp only [List.getElem_cons_succ]); (try simp only [List.getElem_cons_zero]); (try simp only [Act.put]); (try simp only [List.setIfInBounds_toArray]); (try simp only [List.set_cons_succ]); (try simp only [List.set_cons_zero])
            refine wpAnyH_take (i := 11) (v := ?_) rfl (by kernel_rfl) (by kernel_rfl) (by kernel_rfl) (fun _ _ _ h => h) (Or.inl ⟨by kernel_rfl, ?_⟩) hHeld ?_
            rotate_left
            · intro wz hSw; (try dsimp only at hSw); go_simp; all_goals (try with_reducible rfl)
            (try simp only [List.getElem_toArray]); (try simp only [List.getElem_cons_succ]); (try simp only [List.getElem_cons_zero]); (try simp only [Act.put]); (try simp only [List.setIfInBounds_toArray]); (try simp only [List.set_cons_succ]); (try simp only [List.set_cons_zero])
            refine wpAnyH_done (by kernel_rfl) ?_ _
            refine NoPanic.normal ?_
            go_wp2
            go_meet
            case rel => exact ⟨w3.heap.size, rfl, rfl, IsR.new w3 s1 s2, q0.below (b0 _), own_below q1 (b0 _), own_below q2 (b0 _), g_below q3 (b0 _)⟩
          · go_simp
            refine hKc.out _ _ ?_ (fun hHeld => ?_)
            · (try dsimp only)
              refine ⟨?_, ?_, ?_, ?_⟩ <;> (repeat (with_reducible (first | exact r0 | exact r1 | exact c3 | exact c4 | refine cell_dr ?_ | refine cell_al _ ?_ | refine cell_stb ?_ ?_ | (show _ ≠ _; omega))))
            clear hKc Kc
            (try simp only [List.getElem_toArray]); (try simp only [List.getElem_cons_succ]); (try simp only [List.getElem_cons_zero]); (try simp only [Act.put]); (try simp only [List.setIfInBounds_toArray]); (try simp only [List.set_cons_succ]); (try simp only [List.set_cons_zero])
            refine wpAnyH_ready (rs := [5]) (by kernel_rfl) (by simp) (AllReadyH.cons rfl (fun Kc hKc => ?_) AllReadyH.nil)
            go_simp
            (go_at_call 63; refine (HD.out _).mono ?_; rintro e w3 ⟨rfl, hb2⟩)
            have hbd : Below Xr.heap.size Xr w3 := (((Below.refl _ _).drew).alloc (by simp) _).trans (hb2.mono (by simp))
            have pP : IsR w3 Xr.heap.size 0 0 := (show IsR (Xr.drew.alloc (.cells #[.int .i64 0, .int .i64 0] 33)) Xr.heap.size 0 0 from by simpa using IsR.new Xr.drew 0 0).below hb2
            have p0 := pP.c0
            have p1' := pP.c1
            have p2' := pP.f0
            have p3' := pP.f1
            have c3 := cell_keep hbd c3
            have c4 := cell_keep hbd c4
            have r0 := cell_keep hbd r0
            have r1 := cell_keep hbd r1
            have q0 := rF.below hbd
            have q1 := own_below hO hbd
            have q2 := own_below hW hbd
            have q3 := g_below hG hbd
            have hsw := hbd.size
            clear hb2
            go_wp2_with fail
            refine hKc.out _ _ ?_ (fun hHeld => ?_)
            · (try dsimp only)
              refine ⟨?_, ?_, ?_, ?_⟩ <;> (repeat (with_reducible (first | exact r0 | exact r1 | exact c3 | exact c4 | refine cell_dr ?_ | refine cell_al _ ?_ | refine cell_stb ?_ ?_ | (show _ ≠ _; omega))))
            clear hKc Kc
            (try simp only [List.getElem_toArray]); (try simp only [List.getElem_cons_succ]); (try simp only [List.getElem_cons_zero]); (try simp only [Act.put]); (try simp only [List.setIfInBounds_toArray]); (try simp only [List.set_cons_succ]); (try simp only [List.set_cons_zero])
            refine wpAnyH_take (i := 6) (v := ?_) rfl (by kernel_rfl) (by kernel_rfl) (by kernel_rfl) (fun _ _ _ h => h) (Or.inl ⟨by kernel_rfl, ?_⟩) hHeld ?_
            rotate_left
            · intro wz hSw; (try dsimp only at hSw); go_simp; all_goals (try with_reducible rfl)
            (try simp only [List.getElem_toArray]); (try simp only [List.getElem_cons_succ]); (try simp only [List.getElem_cons_zero]); (try simp only [Act.put]); (try simp only [List.setIfInBounds_toArray]); (try simp only [List.set_cons_succ]); (try simp only [List.set_cons_zero])
            refine wpAnyH_take (i := 7) (v := ?_) rfl (by kernel_rfl) (by kernel_rfl) (by kernel_rfl) (fun _ _ _ h => h) (Or.inl ⟨by kernel_rfl, ?_⟩) hHeld ?_
            rotate_left
            · intro wz hSw; (try dsimp only at hSw); go_simp; all_goals (try with_reducible rfl)
            (try simp only [List.getElem_toArray]); (try simp only [List.getElem_cons_succ]); (try simp only [List.getElem_cons_zero]); (try simp only [Act.put]); (try simp only [List.setIfInBounds_toArray]); (try simp only [List.set_cons_succ]); (try simp only [List.set_cons_zero])
            refine wpAnyH_take (i := 8) (v := ?_) rfl (by kernel_rfl) (by kernel_rfl) (by kernel_rfl) (fun _ _ _ h => h) (Or.inl ⟨by kernel_rfl, ?_⟩) hHeld ?_
            rotate_left
            · intro wz hSw; (try dsimp only at hSw); go_simp; all_goals (try with_reducible rfl)
            (try simp only [List.getElem_toArray]); (try simp only [List.getElem_cons_succ]); (try simp only [List.getElem_cons_zero]); (try simp only [Act.put]); (try simp only [List.setIfInBounds_toArray]); (try simp only [List.set_cons_succ]); (try simp only [List.set_cons_zero])
            refine wpAnyH_ready (rs := [10]) (by kernel_rfl) (by simp) (AllReadyH.cons rfl (fun Kc hKc => ?_) AllReadyH.nil)
            go_simp
            refine hKc.out _ _ ?_ (fun hHeld => ?_)
            · (try dsimp only)
              refine ⟨?_, ?_, ?_, ?_⟩ <;> (repeat (with_reducible (first | exact r0 | exact r1 | exact c3 | exact c4 | refine cell_dr ?_ | refine cell_al _ ?_ | refine cell_stb ?_ ?_ | (show _ ≠ _; omega))))
            clear hKc Kc
            (try simp only [List.getElem_toArray]); (try simp only [List.getElem_cons_succ]); (try simp only [List.getElem_cons_zero]); (try simp only [Act.put]); (try simp only [List.setIfInBounds_toArray]); (try simp only [List.set_cons_succ]); (try simp only [List.set_cons_zero])
            refine wpAnyH_take (i := 11) (v := ?_) rfl (by kernel_rfl) (by kernel_rfl) (by kernel_rfl) (fun _ _ _ h => h) (Or.inl ⟨by kernel_rfl, ?_⟩) hHeld ?_
            rotate_left
            · intro wz hSw; (try dsimp only at hSw); go_simp; all_goals (try with_reducible rfl)
            (try simp only [List.getElem_toArray]); (try simp only [List.getElem_cons_succ]); (try simp only [List.getElem_cons_zero]); (try simp only [Act.put]); (try simp only [List.setIfInBounds_toArray]); (try simp only [List.set_cons_succ]); (try simp only [List.set_cons_zero])
            refine wpAnyH_done (by kernel_rfl) ?_ _
            refine NoPanic.normal ?_
            go_wp2
            go_meet
            case rel => exact ⟨Xr.heap.size, rfl, rfl, (pP.set0 s1).set1 s2, (q0.other (by omega) 0 _).other (by omega) 1 _, own_st (own_st q1 (fun b e => by cases e; exact hgX) 0 _) (fun b e => by cases e; exact hgX) 1 _, own_st (own_st q2 (fun b e => by cases e; exact hgwX) 0 _) (fun b e => by cases e; exact hgwX) 1 _, g_set (g_set q3 (.inl hwX) 0 _) (.inl hwX) 1 _⟩
        case rest =>
          clear hO hW rF hG c3 c4 r0 r1 rN hNx hgN hgX hgwX hFX hwX
          obtain ⟨P, rfl, rfl, hP, rF, hO, hW, hG⟩ := hcut
          have n0 := hP.out.c0
          have n1 := hP.out.c1
          obtain ⟨d1, d2⟩ := own_R hO.out (by rw [parF_len]; exact HN.out) k hlt
          have e1 := hO.out.frozenAt (k * 2)
          have e2 := hO.out.frozenAt (k * 2 + 1)
          generalize ((parF (fun i => takeE (fr other i) (t1, t2) (fr what i)) other k)[k]?.getD (0, 0)).1 = z1 at d1
          generalize ((parF (fun i => takeE (fr other i) (t1, t2) (fr what i)) other k)[k]?.getD (0, 0)).2 = z2 at d2
          cases so
          · have HB : Hid (takeB other (t1, t2) what = false) := takeB_no (by rw [HN.out]; exact hlt) HSO.out.symm
            go_wp2
            go_ret
            exact ⟨ret_b HB.out.symm, fun h => by rw [HB.out] at h; exact absurd h (by simp), hG.out⟩
          · go_wp2
            go_roundw
            case rel =>
              obtain ⟨p1, p2⟩ := hO.out.stored (k * 2) (.int .i64 s1)
              obtain ⟨p3, p4⟩ := p1.stored (k * 2 + 1) (.int .i64 s2)
              rw [cellsR_set _ _ _ _ (by rw [parF_len, HN.out]; exact hlt), show ((s1, s2) : Fr) = takeE (fr other k) (t1, t2) (fr what k) from HS.out, parF_set (fun i => takeE (fr other i) (t1, t2) (fr what i))] at p3
              have hwk : ∀ {W : World} {r : Nat} (o : Nat) (v : Value), W.ownsRow baseW 33 2 (.slice (some ⟨gw, 0, none⟩) n cw) n (cellsR what) → r ≠ gw → (W.setCell ⟨r, o, none⟩ v).ownsRow baseW 33 2 (.slice (some ⟨gw, 0, none⟩) n cw) n (cellsR what) := fun o v h hr => h.kept (grown_set _ _ o v) (.inr (by simp [Value.ownBlock]; omega))
              refine ⟨k + 1, by omega, by go_num, (rF.out.other hFg (k * 2) (.int .i64 s1)).other hFg (k * 2 + 1) (.int .i64 s2), p3, hwk _ _ (hwk _ _ hW.out hgg.symm) hgg.symm, (hG.out.trans p2).trans p4, fun i hi => ?_⟩
              by_cases e : i = k
              · subst e; exact HSO.out.symm
              · exact HP.out i (by omega)
            case measure => simp [intOf]; omega
      · obtain rfl : k = n := by omega
        have HB : Hid (takeB other (t1, t2) what = true) := takeB_yes (fun i hi => HP.out i (by rw [← HN.out]; exact hi))
        go_wp2
        go_ret
        refine ⟨ret_b HB.out.symm, fun _ => ?_, hG.out⟩
        have := hO.out
        rw [← HN.out, parF_take, HN.out] at this
        exact this
end Go.Proofs.Ythnlcgilmljliaa

/- A copy of elements of two cells into a row that is known whole. -/
namespace Go.Proofs.Ythnlcgilmljliaa
open Go Go.RowKit

theorem run_copy_two {P : Program} (w : World) (dT sT ty elem : TypeId) (g o dLen dCap : Nat) (a : Addr) (sLen sCap : Nat) (cur : Array Value) (t : TypeId) (cs : List Value)
    (hu : P.underlying dT = some (.slice elem)) (hs : (P.info? elem).map (·.size) = some 2)
    (hg : w.heap[g]? = some (.cells cur t (0, 0))) (hn : cs.length = Nat.min sLen dLen * 2)
    (hsrc : ∀ j v, cs[j]? = some v → w.cell? (a.add j) = some v) (hfit : o + cs.length ≤ cur.size) (h1 : ∀ v ∈ cs, v.oneCell' = true) :
    (Builtin.copy_ #[dT, sT] ty #[.slice (some ⟨g, o, none⟩) dLen dCap, .slice (some a) sLen sCap]).run P w =
      .ok (goInt (Nat.min sLen dLen)) (w.setRow g (cur.toList.take o ++ cs ++ cur.toList.drop (o + cs.length)).toArray) := by
  have hl := run_loadCells_list (P := P) w a cs hsrc
  have hst := run_storeCells_at P g o t cs 0 cur w hg (by simpa using hfit) h1
  cases hq : P.info? elem with
  | none => simp [hq] at hs
  | some i =>
    have hi : i.size = 2 := by simpa [hq] using hs
    simp [Builtin.copy_, run_underlying hu, Builtin.lenOf, Builtin.firstCells, sizeOf, typeInfo, hq, hi, ← hn, hl, hst]
theorem wpList_copy_two {P : Program} {w : World} {ops : Array Oper} {rest : List Oper} {o : Oper} {a : Act} {Q : Exit → Act → World → Prop} (hgd : o.guard = none) (d s : Operand) (dT sT : TypeId)
    (ho : o.op = .call { callee := .builtin .copy, args := #[d, s], argTypes := #[dT, sT] }) (elem : TypeId) (hu : P.underlying dT = some (.slice elem)) (hsz : (P.info? elem).map (·.size) = some 2)
    (g off dLen dCap : Nat) (ad : Addr) (sLen sCap : Nat) (hd : a.eval d = .slice (some ⟨g, off, none⟩) dLen dCap) (hs : a.eval s = .slice (some ad) sLen sCap)
    (cur : Array Value) (t : TypeId) (hg : w.heap[g]? = some (.cells cur t (0, 0))) (cs : List Value) (hn : cs.length = Nat.min sLen dLen * 2)
    (hsrc : ∀ j v, cs[j]? = some v → w.cell? (ad.add j) = some v) (hfit : off + cs.length ≤ cur.size) (h1 : ∀ v ∈ cs, v.oneCell' = true)
    (h : wpList P ops Q rest (a.put o.dst (goInt (Nat.min sLen dLen))) (w.setRow g (cur.toList.take off ++ (cs ++ cur.toList.drop (off + cs.length))).toArray)) : wpList P ops Q (o :: rest) a w := by
  refine wpList_plain hgd fun K hK => ?_
  have hrun := run_copy_two (P := P) w dT sT o.type elem g off dLen dCap ad sLen sCap cur t cs hu hsz hg hn hsrc hfit h1
  unfold Oper.wp
  simp [execOp, ho, resolve, invoke, builtin, hd, hs, hrun, Result.andThen]
  exact hK _ _ h
end Go.Proofs.Ythnlcgilmljliaa

/- The walk of the program's copiedRows. -/
namespace Go.Proofs.Ythnlcgilmljliaa
open Go.RowKit Go.Proofs.Ythnlcgilmljliaa.RM

theorem sizeF : (Try.prog.info? 33).map (fun i => i.size) = some 2 := by kernel_rfl
/-- a row as a walk that copies wants it -/
theorem row_src {W : World} {v : Value} {ps : List Fr} {a : Option Addr} {n c : Nat} (h : RdR W v ps) (e : v = .slice a n c) (h1 : 1 ≤ ps.length) : n = ps.length ∧ ∃ b off, a = some ⟨b, off, none⟩ ∧ ∀ j u, (cellsR ps)[j]? = some u → W.cell? ((⟨b, off, none⟩ : Addr).add j) = some u := by
  obtain ⟨a', c', rfl, _, _, _, h5⟩ := h
  cases e
  refine ⟨rfl, ?_⟩
  obtain ⟨b, off, rfl, _, _⟩ := h5 0 (by omega)
  refine ⟨b, off, rfl, fun j u hj => ?_⟩
  have hl : j < ps.length * 2 := by
    have := (List.getElem?_eq_some_iff.1 hj).1
    rw [cellsR_len] at this
    exact this
  obtain ⟨b', off', e, k1, k2⟩ := h5 (j / 2) (by omega)
  cases e
  have hc := cellsR_at ps (j / 2) (by omega)
  have ea : (⟨b, off, none⟩ : Addr).add j = ⟨b, off + j, none⟩ := by by_cases i0 : j = 0 <;> simp [Addr.add, i0]
  rw [ea]
  rcases Nat.mod_two_eq_zero_or_one j with m | m
  · have ej : j / 2 * 2 = j := by omega
    rw [ej] at hc k1
    rw [hc.1] at hj
    injection hj with hj
    rw [k1, ← hj]; rfl
  · have ej : j / 2 * 2 + 1 = j := by omega
    rw [ej] at hc
    rw [Nat.add_assoc, ej] at k2
    rw [hc.2] at hj
    injection hj with hj
    rw [k2, ← hj]; rfl
theorem cellsR_one (ps : List Fr) : ∀ v ∈ cellsR ps, v.oneCell' = true := by
  intro v hv
  unfold cellsR at hv
  rw [List.mem_flatMap] at hv
  obtain ⟨p, _, hp⟩ := hv
  simp at hp
  rcases hp with rfl | rfl <;> rfl
/-- a row that was made, laid over whole -/
theorem row_laid {W : World} {base G L : Nat} {cur : Array Value} {ps : List Fr} (hb : base ≤ G) (hL : ps.length = L) (hm : L ≤ 1000) (hg : W.heap[G]? = some (.cells cur 33 (0, 0))) (hs : cur.size = L * 2) :
    (W.setRow G (cur.toList.take 0 ++ (cellsR ps ++ cur.toList.drop (0 + (cellsR ps).length))).toArray).ownsRow base 33 2 (.slice (some ⟨G, 0, none⟩) L L) L (cellsR ps) ∧
    W.grownBy (W.setRow G (cur.toList.take 0 ++ (cellsR ps ++ cur.toList.drop (0 + (cellsR ps).length))).toArray) (some G) := by
  have hd : cur.toList.drop (0 + (cellsR ps).length) = [] := by
    rw [cellsR_len, hL, Nat.zero_add, List.drop_eq_nil_iff]
    simp [hs]
  rw [hd, List.take_zero, List.nil_append, List.append_nil]
  refine ⟨⟨by rw [cellsR_len, hL], .inr ⟨G, L, (cellsR ps).toArray, rfl, hb, setRow_heap W G _ _ _ _ hg, Nat.le_refl _, by unfold maxLen; omega, by simp [cellsR_len, hL], ?_⟩⟩, ⟨rfl, rfl, rfl, by simp [World.setRow], fun k _ hk => setRow_other W G k _ (fun e => hk (by rw [e]))⟩⟩
  rw [List.toList_toArray, List.take_of_length_le (by rw [cellsR_len, hL]; exact Nat.le_refl _)]

set_option maxRecDepth 100000 in
set_option maxHeartbeats 2000000 in
theorem iCopied_any (v : Value) (rows : List (List Fr)) (w : World) (h : RdT w v rows) (hl : rows.length ≤ 1000) (hrl : ∀ i, i < rows.length → 1 ≤ (rw' rows i).length ∧ (rw' rows i).length ≤ 1000) :
    Calls Try.prog 79 #[v] w fun e w' => ∃ u us, e = .returned u ∧ Tab w' w.heap.size u us rows ∧ Below w.heap.size w w' := by
  obtain ⟨i0, hi, hz0, hz1, hz2⟩ := info_parts infoF
  obtain ⟨t0, hti, htz0, htz1, htz2⟩ := info_parts infoT
  obtain ⟨a, c, rfl, h2, h3, h4, h5⟩ := h
  have H5 : Hid (∀ i, i < rows.length → ∃ b off u, a = some ⟨b, off, none⟩ ∧ w.cell? ⟨b, off + i, none⟩ = some u ∧ RdR w u (rw' rows i)) := h5
  have HL : Hid (∀ i, i < rows.length → 1 ≤ (rw' rows i).length ∧ (rw' rows i).length ≤ 1000) := hrl
  clear h5 h2 h3 h4 hrl
  go_enter Try.func79, Try.ntmps79
  go_wp2_with (at_make; refine wpList_make_full _ rfl _ _ 56 rfl w.heap.size 27 t0 (.slice none 0 0) 1 Try.underlying56 hti htz0 htz1 .i64 .i64 _ _ rows.length rfl rfl rfl rfl (by rw [htz2]; omega) (by unfold maxLen; omega) (Nat.le_refl _) ?_; intro w1 hown hgrow)
  have o0 : Tab w1 w.heap.size (.slice (some ⟨w.heap.size, 0, none⟩) rows.length rows.length) (List.replicate rows.length (.slice none 0 0)) (cpyT rows 0) := by
    rw [cpyT_zero]; refine Tab.made ?_; rw [← madeT]; exact hown
  have hB0 : Below w.heap.size w w1 := (Below.refl _ w).grown hgrow (Nat.le_refl _) (fun k e => by cases e)
  obtain ⟨G, hG⟩ : ∃ G, G = w.heap.size := ⟨_, rfl⟩
  have hwG : w.heap.size ≤ G := by omega
  rw [← hG]
  rw [← hG] at o0
  clear hown hgrow hG
  go_loopw [11] (fun i wr => ∃ (k : Nat) (us : List Value), k ≤ rows.length ∧ i = .int .i64 k ∧ Hid (Tab wr G (.slice (some ⟨G, 0, none⟩) rows.length rows.length) us (cpyT rows k)) ∧ Hid (Below w.heap.size w wr)) (fun i _ => rows.length - (intOf i).toNat)
  case atStart => exact ⟨0, _, Nat.zero_le _, rfl, o0, hB0⟩
  case round =>
    clear o0 hB0
    obtain ⟨k, us, hk, rfl, hO, hB⟩ := hrel
    by_cases hlt : k < rows.length
    · obtain ⟨b, off, u, rfl, c1, hu⟩ := H5.out k hlt
      obtain ⟨ar, cr, rfl, m2, _, _, _⟩ := id hu
      unfold maxLen at m2
      obtain ⟨L, hL⟩ : ∃ L, L = (rw' rows k).length := ⟨_, rfl⟩
      have HLk : Hid (L = (rw' rows k).length) := hL
      obtain ⟨l1, l2⟩ := HL.out k hlt
      rw [← hL] at c1 m2 l1 l2
      have hs := World.block_lt_of_cell? w _ c1
      replace c1 := cell_keep hB.out c1
      have HU : Hid (RdR w (.slice ar (rw' rows k).length cr) (rw' rows k)) := hu
      rw [← hL] at HU
      have hsz := hB.out.size
      have hlu : us.length = rows.length := hO.out.len.trans (cpyT_len _ _)
      have hGs : G ≤ wr.heap.size := by have := (hO.out.outer.lt G rfl).2; omega
      clear hs hu hL
      go_upto_region 6 with (at_make; refine wpList_make_full _ rfl _ _ 27 rfl G 33 i0 (.agg #[.int .i64 0, .int .i64 0]) 2 Try.underlying27 hi hz0 hz1 .i64 .i64 _ _ L rfl rfl rfl rfl (by rw [hz2]; omega) (by unfold maxLen; omega) hGs ?_; intro w4 hown hgrow; have hbg : Below wr.heap.size wr w4 := (Below.refl _ _).grown hgrow (Nat.le_refl _) (fun k e => by cases e); have T4 := hO.out.below hbg; have ho := T4.outer; rw [hlu] at ho; have d1 := ho.cellAt k (by omega); have f1 := ho.frozenAt k; rw [List.getElem?_eq_getElem (by omega)] at d1)
      have ox : w4.ownsRow G 33 2 (.slice (some ⟨wr.heap.size, 0, none⟩) L L) (List.replicate L ((0, 0) : Fr)).length (cellsR (List.replicate L (0, 0))) := by
        rw [List.length_replicate, ← madeF]; exact hown
      have T5 := T4.put (k := k) (by omega) ox (fun i hi _ b' hb' hb2 => by
        have h1 := hO.out.lt i hi b' hb'
        simp [Value.ownBlock] at hb2
        omega)
      have B5 : Below w.heap.size w (w4.setCell ⟨G, k, none⟩ (.slice (some ⟨wr.heap.size, 0, none⟩) L L)) := (hB.out.trans (hbg.mono hsz)).setCell (p := ⟨G, k, none⟩) hwG _
      have hGlt : G < wr.heap.size := (hO.out.outer.lt G rfl).2
      obtain ⟨cur, hcur, hcs⟩ : ∃ cur, w4.heap[wr.heap.size]? = some (.cells cur 33 (0, 0)) ∧ cur.size = L * 2 := by
        rcases hown.2 with ⟨e, _⟩ | ⟨g', c', cur, e, _, h1, _, _, h2, _⟩
        · cases e
        · cases e; exact ⟨cur, h1, h2⟩
      have hg5 : (w4.setCell ⟨G, k, none⟩ (.slice (some ⟨wr.heap.size, 0, none⟩) L L)).heap[wr.heap.size]? = some (.cells cur 33 (0, 0)) := (Below.heap_setCell w4 ⟨G, k, none⟩ _ wr.heap.size (by show wr.heap.size ≠ G; omega)).trans hcur
      obtain ⟨en9, b2, off2, ear, hsrc⟩ := row_src (HU.out.below B5) rfl (by have := HLk.out; omega)
      subst ear
      clear en9
      have hcl : (cellsR (rw' rows k)).length = Nat.min L L * 2 := by rw [cellsR_len, ← HLk.out]; simp
      have HF : Hid (0 + (cellsR (rw' rows k)).length ≤ cur.size) := by show _ ≤ _; rw [hcl, hcs]; simp
      have HCS : Hid (cur.size = L * 2) := hcs
      have o5 := T5.outer
      rw [List.length_set, hlu] at o5
      have d5 := o5.cellAt k (by omega)
      rw [List.getElem?_set_self (by omega)] at d5
      clear o5
      have HT5 : Hid _ := T5
      have HB5 : Hid _ := B5
      have HG5 : Hid _ := hg5
      have HSRC : Hid _ := hsrc
      have HCL : Hid _ := hcl
      clear ho d1 f1 T4 hbg hown hgrow c1 ox hcur hcs T5 B5 hg5 hsrc hcl hO hB
      have hrun := run_copy_two (P := Try.prog) (w4.setCell ⟨G, k, none⟩ (.slice (some ⟨wr.heap.size, 0, none⟩) L L)) 27 27 3 33 wr.heap.size 0 L L ⟨b2, off2, none⟩ L cr cur 33 (cellsR (rw' rows k)) Try.underlying27 sizeF HG5.out HCL.out HSRC.out HF.out (cellsR_one _)
      rw [List.append_assoc] at hrun
      obtain ⟨X9, hX9⟩ : ∃ X, X = (w4.setCell ⟨G, k, none⟩ (.slice (some ⟨wr.heap.size, 0, none⟩) L L)).setRow wr.heap.size (cur.toList.take 0 ++ (cellsR (rw' rows k) ++ cur.toList.drop (0 + (cellsR (rw' rows k)).length))).toArray := ⟨_, rfl⟩
      have HX9 : Hid _ := hX9
      rw [← hX9] at hrun
      clear hX9
      go_wp2
      go_roundw
      case rel =>
        obtain ⟨p1, p2⟩ := row_laid (base := G) (ps := rw' rows k) (L := L) (by omega) HLk.out.symm l2 HG5.out HCS.out
        have hvk : vl (us.set k (.slice (some ⟨wr.heap.size, 0, none⟩) L L)) k = .slice (some ⟨wr.heap.size, 0, none⟩) L L := by rw [vl_set _ _ _ _ (by omega), if_pos rfl]
        have T7 := HT5.out.turn (k := k) (ps := rw' rows k) (by rw [List.length_set]; omega) (by rw [hvk, ← HLk.out]; exact p1) (by rw [hvk]; exact p2)
        rw [set_set', cpyT_set] at T7
        rw [← HX9.out] at T7
        exact ⟨k + 1, _, by omega, by go_num, T7, by rw [HX9.out]; exact below_setRow HB5.out (by omega) _⟩
      case measure => simp [intOf]; omega
    · obtain rfl : k = rows.length := by omega
      go_wp2
      refine bodyPost_ret (results_tmp rfl _ _ _) rfl ⟨_, us, rfl, ?_, hB.out⟩
      have := hO.out
      rw [cpyT_all] at this
      exact this.le hwG
end Go.Proofs.Ythnlcgilmljliaa

/- The echelon that a pointer holds; the walk of choose. -/
namespace Go.Proofs.Ythnlcgilmljliaa
open Go.RowKit Go.Proofs.Ythnlcgilmljliaa.RM

/-- whole numbers as cells -/
def natV (ns : List Nat) : List Value := ns.map fun (n : Nat) => Value.int .i64 (n : Int)
/-- the program's echelon: its struct, its rows, and the two lists -/
structure EchS (W : World) (base E : Nat) (v vc vf : Value) (us : List Value) (rows : List (List Fr)) (ch fe : List Nat) : Prop where
  blk : W.heap[E]? = some (.cells #[v, vc, vf] 88 (0, 0))
  lo : base ≤ E
  tab : Tab W base v us rows
  cho : W.ownsRow base 3 1 vc ch.length (natV ch)
  fre : W.ownsRow base 3 1 vf fe.length (natV fe)
  nc : ch = [] → vc = .slice none 0 0
  nf : fe = [] → vf = .slice none 0 0
  ne : ∀ c, c ∈ ch → ∀ f, f ∈ fe → c ≠ f
/-- two lists that have nothing in common lie apart -/
theorem own_apart {W : World} {base e n m : Nat} {vc vf : Value} {ch fe : List Nat} (h : W.ownsRow base e 1 vc n (natV ch)) (k : W.ownsRow base e 1 vf m (natV fe)) (nc : ch = [] → vc = .slice none 0 0) (nf : fe = [] → vf = .slice none 0 0) (ne : ∀ c, c ∈ ch → ∀ f, f ∈ fe → c ≠ f) :
    ∀ b, vc.ownBlock = some b → vf.ownBlock ≠ some b := by
  intro b hb hb2
  cases ch with
  | nil => rw [nc rfl] at hb; cases hb
  | cons c ch =>
    cases fe with
    | nil => rw [nf rfl] at hb2; cases hb2
    | cons f fe =>
      have h1 := h.cells hb 0 (.int .i64 (c : Int)) (by simp [natV])
      have h2 := k.cells hb2 0 (.int .i64 (f : Int)) (by simp [natV])
      rw [h1] at h2
      have : (c : Int) = f := by injection h2 with h2; injection h2
      exact ne c (by simp) f (by simp) (by omega)
/-- the cells of a struct of three -/
theorem cells3 {W : World} {E : Nat} {a b c : Value} {t : TypeId} (h : W.heap[E]? = some (.cells #[a, b, c] t (0, 0))) :
    W.cell? ⟨E, 0, none⟩ = some a ∧ W.cell? ⟨E, 1, none⟩ = some b ∧ W.cell? ⟨E, 2, none⟩ = some c ∧ W.frozen? ⟨E, 0, none⟩ = false ∧ W.frozen? ⟨E, 1, none⟩ = false ∧ W.frozen? ⟨E, 2, none⟩ = false ∧ E < W.heap.size := by
  have hl : E < W.heap.size := (Array.getElem?_eq_some_iff.1 h).1
  refine ⟨?_, ?_, ?_, ?_, ?_, ?_, hl⟩ <;> simp [World.cell?, World.frozen?, h]
/-- a block of a type that no row has -/
theorem own_ne {W : World} {base e size n E : Nat} {v : Value} {xs : List Value} {cs : Array Value} {t : TypeId} {f : Nat × Nat} (h : W.ownsRow base e size v n xs) (hE : W.heap[E]? = some (.cells cs t f)) (hne : e ≠ t) : ∀ b, v.ownBlock = some b → b ≠ E := by
  rintro b hb rfl
  obtain ⟨cs', h'⟩ := own_type h hb
  rw [h'] at hE
  cases hE
  exact hne rfl
/-- where an exchange takes a row from -/
def exch (i r x : Nat) : Nat := if r = x then i else if i = x then r else x
theorem exch_lt {i r x n : Nat} (hi : i < n) (hr : r < n) (hx : x < n) : exch i r x < n := by unfold exch; split <;> (try split) <;> omega
theorem exch_inj {i r x y : Nat} (h : exch i r x = exch i r y) : x = y := by
  unfold exch at h
  split at h <;> split at h <;> (try split at h) <;> (try split at h) <;> omega
theorem vl_exch (us : List Value) (i r x : Nat) (hi : i < us.length) (hr : r < us.length) : vl ((us.set i (vl us r)).set r (vl us i)) x = vl us (exch i r x) := by
  rw [vl_set _ _ _ _ (by rw [List.length_set]; exact hr), vl_set _ _ _ _ hi]
  unfold exch
  split <;> (try split) <;> rfl
theorem rw_exch (rows : List (List Fr)) (i r x : Nat) (hi : i < rows.length) (hr : r < rows.length) : rw' (swapT rows i r) x = rw' rows (exch i r x) := by
  unfold swapT
  rw [rw_set _ _ _ _ (by rw [List.length_set]; exact hr), rw_set _ _ _ _ hi]
  unfold exch
  split <;> (try split) <;> rfl
theorem swapT_len (rows : List (List Fr)) (i r : Nat) : (swapT rows i r).length = rows.length := by simp [swapT]
/-- two rows of a table are exchanged -/
theorem Tab.swap {W : World} {base G n c i r : Nat} {us : List Value} {rows : List (List Fr)} (h : Tab W base (.slice (some ⟨G, 0, none⟩) n c) us rows) (hi : i < us.length) (hr : r < us.length) :
    Tab ((W.setCell ⟨G, i, none⟩ (vl us r)).setCell ⟨G, r, none⟩ (vl us i)) base (.slice (some ⟨G, 0, none⟩) n c) ((us.set i (vl us r)).set r (vl us i)) (swapT rows i r) ∧ W.grownBy ((W.setCell ⟨G, i, none⟩ (vl us r)).setCell ⟨G, r, none⟩ (vl us i)) (some G) := by
  have hn : us.length = n := by
    rcases h.outer.2 with ⟨e, _⟩ | ⟨g', c', cur, e, _⟩ <;> cases e; rfl
  subst hn
  obtain ⟨s1, s2⟩ := h.outer.stored i (vl us r)
  obtain ⟨t1, t2⟩ := s1.stored r (vl us i)
  have keep : ∀ {m : Nat} {x : Value} {xs : List Value}, W.ownsRow base 33 2 x m xs → ((W.setCell ⟨G, i, none⟩ (vl us r)).setCell ⟨G, r, none⟩ (vl us i)).ownsRow base 33 2 x m xs := fun hx => own_oth (own_oth hx h.outer (by decide) s2) s1 (by decide) t2
  have hl := h.len
  refine ⟨⟨by rw [List.length_set, List.length_set]; exact t1, by rw [List.length_set, List.length_set, swapT_len]; exact hl, fun x hx => ?_, fun x y hx hy hne b hb => ?_⟩, ?_⟩
  · rw [List.length_set, List.length_set] at hx
    rw [vl_exch _ _ _ _ hi hr, rw_exch _ _ _ _ (by omega) (by omega)]
    exact keep (h.inner _ (exch_lt hi hr hx))
  · rw [List.length_set, List.length_set] at hx hy
    rw [vl_exch _ _ _ _ hi hr] at hb ⊢
    exact h.apart _ _ (exch_lt hi hr hx) (exch_lt hi hr hy) (fun e => hne (exch_inj e)) b hb
  · exact ⟨t2.os.trans s2.os, t2.tape.trans s2.tape, t2.output.trans s2.output, Nat.le_trans s2.size t2.size, fun k hk hne => (t2.block k (Nat.lt_of_lt_of_le hk s2.size) hne).trans (s2.block k hk hne)⟩
theorem EchS.ap {W : World} {base E : Nat} {v vc vf : Value} {us : List Value} {rows : List (List Fr)} {ch fe : List Nat} (h : EchS W base E v vc vf us rows ch fe) : ∀ b, vc.ownBlock = some b → vf.ownBlock ≠ some b := own_apart h.cho h.fre h.nc h.nf h.ne
theorem EchS.below {W W' : World} {base E : Nat} {v vc vf : Value} {us : List Value} {rows : List (List Fr)} {ch fe : List Nat} (h : EchS W base E v vc vf us rows ch fe) (hb : Below W.heap.size W W') : EchS W' base E v vc vf us rows ch fe :=
  ⟨(hb.block E (cells3 h.blk).2.2.2.2.2.2).trans h.blk, h.lo, h.tab.below hb, own_below h.cho hb, own_below h.fre hb, h.nc, h.nf, h.ne⟩
theorem EchS.swap {W : World} {base E G n c i r : Nat} {vc vf : Value} {us : List Value} {rows : List (List Fr)} {ch fe : List Nat} (h : EchS W base E (.slice (some ⟨G, 0, none⟩) n c) vc vf us rows ch fe) (hi : i < us.length) (hr : r < us.length) :
    EchS ((W.setCell ⟨G, i, none⟩ (vl us r)).setCell ⟨G, r, none⟩ (vl us i)) base E (.slice (some ⟨G, 0, none⟩) n c) vc vf ((us.set i (vl us r)).set r (vl us i)) (swapT rows i r) ch fe := by
  obtain ⟨t, g⟩ := h.tab.swap hi hr
  have hGE : G ≠ E := own_ne h.tab.outer h.blk (by decide) G rfl
  have hg : W.grownBy ((W.setCell ⟨G, i, none⟩ (vl us r)).setCell ⟨G, r, none⟩ (vl us i)) (Value.slice (some ⟨G, 0, none⟩) n c).ownBlock := g
  refine ⟨(g.block E (cells3 h.blk).2.2.2.2.2.2 (fun e => hGE (by cases e; rfl))).trans h.blk, h.lo, t, own_oth h.cho h.tab.outer (by decide) hg, own_oth h.fre h.tab.outer (by decide) hg, h.nc, h.nf, h.ne⟩
/-- a row is turned -/
theorem EchS.turn {W W' : World} {base E k : Nat} {v vc vf : Value} {us : List Value} {rows : List (List Fr)} {ps : List Fr} {ch fe : List Nat} (h : EchS W base E v vc vf us rows ch fe) (hk : k < us.length)
    (hu : W'.ownsRow base 33 2 (vl us k) ps.length (cellsR ps)) (hg : W.grownBy W' (vl us k).ownBlock) : EchS W' base E v vc vf us (rows.set k ps) ch fe := by
  have hne := own_ne (h.tab.inner k hk) h.blk (by decide)
  exact ⟨(hg.block E (cells3 h.blk).2.2.2.2.2.2 (fun e => hne E e.symm rfl)).trans h.blk, h.lo, h.tab.turn hk hu hg, own_oth h.cho (h.tab.inner k hk) (by decide) hg, own_oth h.fre (h.tab.inner k hk) (by decide) hg, h.nc, h.nf, h.ne⟩
theorem natV_app (ch : List Nat) (c : Nat) : natV (ch ++ [c]) = natV ch ++ [Value.int .i64 (c : Int)] := by simp [natV]
/-- a column is added to the chosen ones -/
theorem EchS.push {W w1 : World} {base E : Nat} {v vc vc' vf : Value} {us : List Value} {rows : List (List Fr)} {ch fe : List Nat} {tmp : Obj} {col n : Nat} (h : EchS W base E v vc vf us rows ch fe)
    (hown : w1.ownsRow base 3 1 vc' n (natV ch ++ [Value.int .i64 (col : Int)])) (hn : n = (ch ++ [col]).length) (hgrow : (W.alloc tmp).grownBy w1 vc.ownBlock) (hne : ∀ f, f ∈ fe → col ≠ f) :
    EchS (w1.setCell ⟨E, 1, none⟩ vc') base E v vc' vf us rows (ch ++ [col]) fe := by
  have hEl := (cells3 h.blk).2.2.2.2.2.2
  have hcE := own_ne h.cho h.blk (by decide)
  have ga : ∀ k, k < W.heap.size → some k ≠ vc.ownBlock → w1.heap[k]? = W.heap[k]? := fun k hk hne => (hgrow.block k (by simp; omega) hne).trans (Below.heap_alloc _ _ _ hk)
  have gW : W.grownBy w1 vc.ownBlock := ⟨hgrow.os, hgrow.tape, hgrow.output, Nat.le_trans (by simp) hgrow.size, ga⟩
  have b1 : w1.heap[E]? = some (.cells #[v, vc, vf] 88 (0, 0)) := (ga E hEl (fun e => hcE E e.symm rfl)).trans h.blk
  have t1 : Tab w1 base v us rows := h.tab.kept gW (fun k e h2 => own_unlike h.cho h.tab.outer (by decide) e h2) (fun i hi k e h2 => own_unlike h.cho (h.tab.inner i hi) (by decide) e h2)
  have f1 : w1.ownsRow base 3 1 vf fe.length (natV fe) := h.fre.kept gW (by
    cases hv : vf.ownBlock with
    | none => exact .inl rfl
    | some b => exact .inr (fun e => h.ap b e.symm hv))
  have gs : w1.grownBy (w1.setCell ⟨E, 1, none⟩ vc') (some E) := ⟨rfl, rfl, rfl, by simp [World.setCell], fun k _ hk => Below.heap_setCell _ _ _ _ (fun e => hk (by rw [e]))⟩
  have kb : ∀ {e size m : Nat} {x : Value} {xs : List Value}, w1.ownsRow base e size x m xs → e ≠ 88 → (w1.setCell ⟨E, 1, none⟩ vc').ownsRow base e size x m xs := fun hx hd => hx.kept gs (by
    cases hv : Value.ownBlock _ with
    | none => exact .inl rfl
    | some b => exact .inr (by intro e; exact own_ne hx b1 hd b hv (by cases e; rfl)))
  rw [← natV_app, hn] at hown
  refine ⟨?_, h.lo, t1.kept gs (fun k e h2 => own_ne t1.outer b1 (by decide) k h2 (by cases e; rfl)) (fun i hi k e h2 => own_ne (t1.inner i hi) b1 (by decide) k h2 (by cases e; rfl)), kb hown (by decide), kb f1 (by decide), fun e => by simp at e, h.nf, fun c hc f hf => ?_⟩
  · simp [World.setCell, Array.getElem?_modify, b1]
  · rw [List.mem_append] at hc
    rcases hc with hc | hc
    · exact h.ne c hc f hf
    · simp at hc; subst hc; exact hne f hf
end Go.Proofs.Ythnlcgilmljliaa

/- The walk of choose: one column's step. -/
namespace Go.Proofs.Ythnlcgilmljliaa
open Go.RowKit Go.Proofs.Ythnlcgilmljliaa.RM

/-- the step's rows when k of them were taken from -/
def stepP (rows : List (List Fr)) (at' r col k : Nat) : List (List Fr) :=
  (List.range rows.length).map fun x => if x = at' then divR (rw' rows r) (fr (rw' rows r) col) else if x < k then takeR (rw' (swapT rows r at') x) (fr (rw' (swapT rows r at') x) col) (divR (rw' rows r) (fr (rw' rows r) col)) else rw' (swapT rows r at') x
theorem stepP_len (rows : List (List Fr)) (at' r col k : Nat) : (stepP rows at' r col k).length = rows.length := by simp [stepP]
theorem stepP_at (rows : List (List Fr)) (at' r col k x : Nat) (hx : x < rows.length) : rw' (stepP rows at' r col k) x = if x = at' then divR (rw' rows r) (fr (rw' rows r) col) else if x < k then takeR (rw' (swapT rows r at') x) (fr (rw' (swapT rows r at') x) col) (divR (rw' rows r) (fr (rw' rows r) col)) else rw' (swapT rows r at') x := by
  unfold stepP rw'
  simp [hx]
theorem rows_ext {a b : List (List Fr)} (hl : a.length = b.length) (h : ∀ x, x < a.length → rw' a x = rw' b x) : a = b := by
  apply List.ext_getElem hl
  intro x h1 h2
  have := h x h1
  simpa [rw', h1, h2] using this
theorem stepP_zero (rows : List (List Fr)) (at' r col : Nat) (h : at' < rows.length) : (swapT rows r at').set at' (divR (rw' rows r) (fr (rw' rows r) col)) = stepP rows at' r col 0 := by
  apply rows_ext (by simp [stepP_len, swapT_len])
  intro x hx
  rw [List.length_set, swapT_len] at hx
  rw [rw_set _ _ _ _ (by rw [swapT_len]; exact h), stepP_at _ _ _ _ _ _ hx]
  by_cases e : at' = x
  · rw [if_pos e, if_pos e.symm]
  · rw [if_neg e, if_neg (fun h => e h.symm), if_neg (by omega)]
theorem stepP_skip (rows : List (List Fr)) (at' r col : Nat) : stepP rows at' r col at' = stepP rows at' r col (at' + 1) := by
  apply rows_ext (by simp [stepP_len])
  intro x hx
  rw [stepP_len] at hx
  rw [stepP_at _ _ _ _ _ _ hx, stepP_at _ _ _ _ _ _ hx]
  by_cases e : x = at'
  · rw [if_pos e, if_pos e]
  · rw [if_neg e, if_neg e]
    by_cases e2 : x < at'
    · rw [if_pos e2, if_pos (by omega)]
    · rw [if_neg e2, if_neg (by omega)]
theorem stepP_set (rows : List (List Fr)) (at' r col k : Nat) (hk : k < rows.length) (hne : k ≠ at') : (stepP rows at' r col k).set k (takeR (rw' (swapT rows r at') k) (fr (rw' (swapT rows r at') k) col) (divR (rw' rows r) (fr (rw' rows r) col))) = stepP rows at' r col (k + 1) := by
  apply rows_ext (by simp [stepP_len])
  intro x hx
  rw [List.length_set, stepP_len] at hx
  rw [rw_set _ _ _ _ (by rw [stepP_len]; exact hk), stepP_at _ _ _ _ _ _ hx, stepP_at _ _ _ _ _ _ hx]
  by_cases e : k = x
  · subst e
    rw [if_pos rfl, if_neg hne, if_pos (by omega)]
  · rw [if_neg e]
    by_cases e2 : x = at'
    · rw [if_pos e2, if_pos e2]
    · rw [if_neg e2, if_neg e2]
      by_cases e3 : x < k
      · rw [if_pos e3, if_pos (by omega)]
      · rw [if_neg e3, if_neg (by omega)]
theorem stepP_all (rows : List (List Fr)) (at' r col : Nat) : stepP rows at' r col rows.length = stepT rows at' r col := by
  apply rows_ext (by simp [stepP_len, stepT])
  intro x hx
  rw [stepP_len] at hx
  rw [stepP_at _ _ _ _ _ _ hx, if_pos hx]
  simp [rw', stepT, hx]
theorem stepB_div {rows : List (List Fr)} {at' r col : Nat} (h : divB (rw' rows r) (fr (rw' rows r) col) = false) : stepB rows at' r col = false := by
  unfold stepB; rw [h]; rfl
theorem stepB_take {rows : List (List Fr)} {at' r col k : Nat} (hk : k < rows.length) (hne : k ≠ at') (h : takeB (rw' (swapT rows r at') k) (fr (rw' (swapT rows r at') k) col) (divR (rw' rows r) (fr (rw' rows r) col)) = false) : stepB rows at' r col = false := by
  rw [← Bool.not_eq_true]
  intro hb
  unfold stepB at hb
  rw [Bool.and_eq_true, List.all_eq_true] at hb
  have := hb.2 k (by simpa using hk)
  rw [h] at this
  simp [hne] at this
theorem stepB_yes {rows : List (List Fr)} {at' r col : Nat} (h : divB (rw' rows r) (fr (rw' rows r) col) = true) (h2 : ∀ k, k < rows.length → k ≠ at' → takeB (rw' (swapT rows r at') k) (fr (rw' (swapT rows r at') k) col) (divR (rw' rows r) (fr (rw' rows r) col)) = true) : stepB rows at' r col = true := by
  unfold stepB
  rw [h, Bool.true_and, List.all_eq_true]
  intro k hk
  by_cases e : k = at'
  · simp [e]
  · rw [h2 k (by simpa using hk) e]; simp
theorem divR_len (row : List Fr) (f : Fr) : (divR row f).length = row.length := by simp [divR]
/-- the block of an echelon is as it was where only the chosen ones' row grew -/
theorem EchS.grownBlk {W w1 : World} {base E : Nat} {v vc vf : Value} {us : List Value} {rows : List (List Fr)} {ch fe : List Nat} {tmp : Obj} (h : EchS W base E v vc vf us rows ch fe) (hgrow : (W.alloc tmp).grownBy w1 vc.ownBlock) :
    w1.heap[E]? = some (.cells #[v, vc, vf] 88 (0, 0)) :=
  ((hgrow.block E (by have := (cells3 h.blk).2.2.2.2.2.2; simp; omega) (fun e => own_ne h.cho h.blk (by decide) E e.symm rfl)).trans (Below.heap_alloc _ _ _ (cells3 h.blk).2.2.2.2.2.2)).trans h.blk
/-- a row's elements as a walk reads them -/
theorem row_at {W : World} {base b n c : Nat} {ps : List Fr} (h : W.ownsRow base 33 2 (.slice (some ⟨b, 0, none⟩) n c) ps.length (cellsR ps)) (j : Nat) (hj : j < ps.length) : W.cell? ⟨b, j * 2, none⟩ = some (.int .i64 (fr ps j).1) ∧ W.cell? ⟨b, j * 2 + 1, none⟩ = some (.int .i64 (fr ps j).2) := by
  have hn : n = ps.length := by
    rcases h.2 with ⟨e, _⟩ | ⟨g', c', cur, e, _⟩ <;> cases e; rfl
  subst hn
  exact own_R h rfl j hj
end Go.Proofs.Ythnlcgilmljliaa

/- The walk of choose. -/
namespace Go.Proofs.Ythnlcgilmljliaa
open Go.RowKit Go.Proofs.Ythnlcgilmljliaa.RM
theorem hid {p : Prop} (h : p) : Hid p := h
theorem infoInt : (Try.prog.info? 3).map (fun i => (i.zero, i.size, i.bytes)) = some (some (.int .i64 0), 1, 8) := by kernel_rfl


set_option maxRecDepth 1000000 in
set_option maxHeartbeats 4000000 in
theorem choose_any (base E i col L : Nat) (v vc vf : Value) (us : List Value) (rows : List (List Fr)) (ch fe : List Nat) (w : World) (h : EchS w base E v vc vf us rows ch fe) (hne : ∀ f, f ∈ fe → col ≠ f) (hi : ch.length ≤ i) (hi2 : i < rows.length) (hcol : col < L) (hL1 : L ≤ 1000) (hR : rows.length ≤ 1000) (hL : ∀ x, x < rows.length → (rw' rows x).length = L) :
    Calls Try.prog 80 #[.pointer (some ⟨E, 0, none⟩), .int .i64 i, .int .i64 col] w fun e w' => e = .returned (.bool (stepB rows ch.length i col)) ∧ (stepB rows ch.length i col = true → ∃ vc' us', EchS w' base E v vc' vf us' (stepT rows ch.length i col) (ch ++ [col]) fe) ∧ Below base w w' := by
  have hbl : base ≤ w.heap.size := by have := (cells3 h.blk).2.2.2.2.2.2; have := h.lo; omega
  obtain ⟨e0, e1, e2, z0, z1, z2, hEl⟩ := cells3 h.blk
  have hul := h.tab.len
  obtain ⟨G, cG, rfl⟩ := own_some h.tab.outer (by omega)
  have hGE : G ≠ E := own_ne h.tab.outer h.blk (by decide) G rfl
  have hGl : G < w.heap.size := (h.tab.outer.lt G rfl).2
  obtain ⟨ac, cc, rfl⟩ := own_shape h.cho
  obtain ⟨nf, hnf⟩ : ∃ n, n = ch.length := ⟨_, rfl⟩
  obtain ⟨N, hN⟩ : ∃ n, n = us.length := ⟨_, rfl⟩
  have HH : Hid (EchS w base E _ _ vf us rows ch fe) := h
  have HNF : Hid (nf = ch.length) := hnf
  have HNN : Hid (N = us.length) := hN
  have hul2 : N = rows.length := hN.trans hul
  rw [← hnf] at hi e1 ⊢
  rw [← hN] at e0
  have ci := h.tab.outer.cellAt i (by omega)
  have zi := h.tab.outer.frozenAt i
  have cf := h.tab.outer.cellAt nf (by omega)
  have zf := h.tab.outer.frozenAt nf
  obtain ⟨ai, di, hui⟩ := own_shape (h.tab.inner i (by omega))
  obtain ⟨af, df, huf⟩ := own_shape (h.tab.inner nf (by omega))
  rw [hL i (by omega)] at hui
  rw [hL nf (by omega)] at huf
  rw [show us[i]? = some (vl us i) by unfold vl; rw [List.getElem?_eq_getElem (by omega)]; rfl, hui] at ci
  rw [show us[nf]? = some (vl us nf) by unfold vl; rw [List.getElem?_eq_getElem (by omega)]; rfl, huf] at cf
  have HUI : Hid (vl us i = _) := hui
  have HUF : Hid (vl us nf = _) := huf
  have HL : Hid (∀ x, x < rows.length → (rw' rows x).length = L) := hL
  have hR2 : N ≤ 1000 := by omega
  have hi3 : i < N := by omega
  have hnN : nf < N := by omega
  have cf2 : (w.setCell ⟨G, i, none⟩ (.slice af L df)).cell? ⟨G, nf, none⟩ = some (.slice af L df) := by
    by_cases e : i = nf
    · rw [e]; exact World.cell?_setCell_same _ _ _ cf
    · rw [World.cell?_setCell_other _ _ _ _ (by intro h; cases h; exact e rfl)]; exact cf
  have zf2 : (w.setCell ⟨G, i, none⟩ (.slice af L df)).frozen? ⟨G, nf, none⟩ = false := by simp [zf]
  clear h hnf hN hui huf hL hul hul2
  have HI2 : Hid (i < rows.length ∧ rows.length ≤ 1000) := ⟨hi2, hR⟩
  clear hi2 hR
  go_enter Try.func80, Try.ntmps80
  go_upto_region 2 with fail
  go_region
  obtain ⟨n1, n2⟩ := HI2.out
  have HX := (HH.out.swap (i := i) (r := nf) (by rw [← HNN.out]; exact hi3) (by rw [← HNN.out]; exact hnN)).below ((Below.refl _ _).drew)
  rw [HUI.out, HUF.out] at HX
  have BX : Below base w (((w.setCell ⟨G, i, none⟩ (.slice af L df)).setCell ⟨G, nf, none⟩ (.slice ai L di)).drew) := (((Below.refl _ _).setCell (p := ⟨G, i, none⟩) (by show base ≤ G; exact (HH.out.tab.outer.lt G rfl).1) _).setCell (p := ⟨G, nf, none⟩) (by show base ≤ G; exact (HH.out.tab.outer.lt G rfl).1) _).drew
  obtain ⟨X, hX⟩ : ∃ X, X = ((w.setCell ⟨G, i, none⟩ (.slice af L df)).setCell ⟨G, nf, none⟩ (.slice ai L di)).drew := ⟨_, rfl⟩
  rw [← hX] at HX BX ⊢
  clear hX e0 e1 e2 z0 z1 z2 hEl ci zi cf zf cf2 zf2 hGl
  obtain ⟨us2, hus2⟩ : ∃ u, u = (us.set i (.slice af L df)).set nf (.slice ai L di) := ⟨_, rfl⟩
  have hvf : vl us2 nf = .slice ai L di := by rw [hus2, vl_set _ _ _ _ (by rw [List.length_set, ← HNN.out]; exact hnN), if_pos rfl]
  have hl2 : us2.length = N := by rw [hus2, List.length_set, List.length_set]; exact HNN.out.symm
  rw [← hus2] at HX
  clear hus2
  rw [← HNN.out, ← HNF.out] at HX
  obtain ⟨e0, e1, e2, z0, z1, z2, hEl⟩ := cells3 HX.blk
  have HC := HX.cho
  rw [← HNF.out] at HC
  have HVF := hid hvf
  have HL2 := hid hl2
  have HHX : Hid (EchS X base E (.slice (some ⟨G, 0, none⟩) N cG) (.slice ac nf cc) vf us2 (swapT rows i nf) ch fe) := HX
  have HBX := hid BX
  have HNE := hid hne
  have hsz := BX.size
  clear hvf hl2 HX BX hne n1 n2
  obtain ⟨t0, hti, htz0, htz1, htz2⟩ := info_parts infoInt
  have HCC := hid HC
  clear HC
  go_upto_region 4 with (at_builtin; go_must (refine wpList_append_own _ rfl _ _ 86 rfl base 3 t0 (.int .i64 0) 1 8 Try.underlying86 hti htz0 htz1 htz2 rfl (by decide) _ _ _ rfl (World.ownsRow.alloc HCC.out _) ⟨X.heap.size, 0, none⟩ 1 1 [.int .i64 col] rfl rfl (cell_one_new _ _ _) (by simp [Value.oneCell']) (by unfold maxLen; omega) (by omega) (by simp; omega) ?_); intro v' w3 hown' hgrow _; go_must (obtain ⟨a3, c3, rfl⟩ := own_shape hown'); go_must (have hb3 := HHX.out.grownBlk hgrow); obtain ⟨q0, q1, q2, y0, y1, y2, hq⟩ := cells3 hb3)
  have HY := HHX.out.push hown' (by rw [HNF.out]; simp) hgrow HNE.out
  have BY : Below base w (w3.setCell ⟨E, 1, none⟩ (.slice a3 (nf + 1) c3)) := (HBX.out.trans (below_appended HCC.out (by omega) hgrow)).setCell (p := ⟨E, 1, none⟩) (by show base ≤ E; exact HH.out.lo) _
  obtain ⟨Y, hY⟩ : ∃ Y, Y = w3.setCell ⟨E, 1, none⟩ (.slice a3 (nf + 1) c3) := ⟨_, rfl⟩
  rw [← hY] at HY BY ⊢
  clear hY hown' hgrow hb3 q0 q1 q2 y0 y1 y2 hq e0 e1 e2 z0 z1 z2 hEl hsz HBX HHX HCC HH w3 hti htz0 htz1 htz2 t0 HUI HUF
  obtain ⟨e0, e1, e2, z0, z1, z2, hEl⟩ := cells3 HY.blk
  obtain ⟨n1, n2⟩ := HI2.out
  have hul : us2.length = rows.length := by have := HY.tab.len; rw [swapT_len] at this; exact this
  have hNr : N = rows.length := HL2.out.symm.trans hul
  obtain ⟨R, hR⟩ : ∃ R, R = rw' rows i := ⟨_, rfl⟩
  have hRs : rw' (swapT rows i nf) nf = R := by rw [rw_exch rows i nf nf n1 (by omega), hR]; simp [exch]
  have hRl : R.length = L := by rw [hR]; exact HL.out i n1
  have hrow := HY.tab.inner nf (by omega)
  rw [HVF.out, hRs, hRl] at hrow
  obtain ⟨bR, cR, eR⟩ := own_some hrow (by omega)
  cases eR
  have hbR : base ≤ bR := (hrow.lt bR rfl).1
  obtain ⟨g1, g2⟩ := own_R hrow hRl col hcol
  obtain ⟨f, hf⟩ : ∃ f, f = fr R col := ⟨_, rfl⟩
  rw [show R[col]?.getD (0, 0) = f from hf.symm] at g1 g2
  obtain ⟨f1, f2⟩ := f
  have hoo := HY.tab.outer
  rw [HL2.out] at hoo
  have cG' := hoo.cellAt nf (by omega)
  clear hoo
  rw [show us2[nf]? = some (vl us2 nf) by unfold vl; rw [List.getElem?_eq_getElem (by omega)]; rfl, HVF.out] at cG'
  have hdv := divRow_any (.slice (some ⟨bR, 0, none⟩) L di) R f1 f2 base Y (by omega) (by rw [hRl]; exact hrow)
  have HDV := hid hdv
  have HYY : Hid (EchS Y base E (.slice (some ⟨G, 0, none⟩) N cG) (.slice a3 (nf + 1) c3) vf us2 (swapT rows i nf) (ch ++ [col]) fe) := HY
  have HBY : Hid (Below base w Y) := BY
  have HRD : Hid (R = rw' rows i ∧ (f1, f2) = fr R col ∧ R.length = L ∧ N = rows.length) := ⟨hR, hf, hRl, hNr⟩
  clear HY BY hul hNr hR hRs hRl hrow hf hdv n1 n2
  obtain ⟨q, hq⟩ : ∃ q, q = divB R (f1, f2) := ⟨_, rfl⟩
  have HQ : Hid (q = divB R (f1, f2)) := hq
  clear hq
  have hYs : base ≤ Y.heap.size := by have := HBY.out.size; omega
  cases q
  · go_wp2_with (go_at_call 84; refine (HDV.out).mono ?_; rintro e w5 ⟨re, dv5, gr5⟩; rw [← HQ.out] at re; subst re)
    have hB : stepB rows nf i col = false := stepB_div (by rw [← HRD.out.1, ← HRD.out.2.1]; exact HQ.out.symm)
    refine bodyPost_ret (results_tmp rfl _ _ _) rfl ?_
    refine ⟨by rw [hB]; rfl, ?_, HBY.out.grown gr5 hYs (fun k e => by cases e; exact hbR)⟩
    intro h
    rw [hB] at h
    cases h
  · go_upto_region 7 with (go_at_call 84; refine (HDV.out).mono ?_; rintro e w5 ⟨re, dv5, gr5⟩; rw [← HQ.out] at re; subst re)
    have r5 := dv5 HQ.out.symm
    have S5 := HYY.out.turn (k := nf) (ps := divR R (f1, f2)) (by rw [HL2.out]; exact hnN) (by rw [HVF.out, divR_len]; exact r5) (by rw [HVF.out]; exact gr5)
    have hz := stepP_zero rows nf i col (by have := HRD.out.2.2.2; omega)
    rw [← HRD.out.1, ← HRD.out.2.1] at hz
    rw [hz] at S5
    have B5 : Below base w w5 := HBY.out.grown gr5 hYs (fun k e => by cases e; exact hbR)
    clear r5 hz gr5 dv5 e0 e1 e2 z0 z1 z2 hEl g1 g2 cG' HDV HYY HBY
    obtain ⟨e0, e1, e2, z0, z1, z2, hEl⟩ := cells3 S5.blk
    have HS5 := hid S5
    have HB5 := hid B5
    clear S5 B5
    obtain ⟨D, hD⟩ : ∃ D, D = divR R (f1, f2) := ⟨_, rfl⟩
    have HD := hid hD
    have hDl : D.length = L := by rw [hD, divR_len]; exact HRD.out.2.2.1
    have HDL := hid hDl
    clear hD hDl e1 e2 z0 z1 z2
    go_wp2
    clear e0
    go_loopw [71] (fun x wr => ∃ k : Nat, k ≤ N ∧ x = .int .i64 k ∧ Hid (EchS wr base E (.slice (some ⟨G, 0, none⟩) N cG) (.slice a3 (nf + 1) c3) vf us2 (stepP rows nf i col k) (ch ++ [col]) fe) ∧ Hid (Below base w wr) ∧ Hid (∀ x, x < k → x ≠ nf → takeB (rw' (swapT rows i nf) x) (fr (rw' (swapT rows i nf) x) col) D = true)) (fun x _ => N - (intOf x).toNat)
    case atStart => exact ⟨0, Nat.zero_le _, rfl, HS5.out, HB5.out, fun x hx => by omega⟩
    case round =>
      clear HS5 HB5 hEl hYs
      obtain ⟨k, hk, rfl, hS, hB, hT⟩ := hrel
      by_cases hlt : k < N
      · have hNr := HRD.out.2.2.2
        have ho := hS.out.tab.outer
        rw [HL2.out] at ho
        have ck := ho.cellAt k (by omega)
        have hin := hS.out.tab.inner k (by rw [HL2.out]; exact hlt)
        have hOk : k ≠ nf → rw' (stepP rows nf i col k) k = rw' (swapT rows i nf) k := fun h => by rw [stepP_at _ _ _ _ _ _ (by omega), if_neg h, if_neg (Nat.lt_irrefl _)]
        have hOl : (rw' (swapT rows i nf) k).length = L := by
          rw [rw_exch _ _ _ _ HI2.out.1 (by omega)]
          exact HL.out _ (exch_lt HI2.out.1 (by omega) (by omega))
        have hkl : (rw' (stepP rows nf i col k) k).length = L := by
          by_cases h : k = nf
          · rw [stepP_at _ _ _ _ _ _ (by omega), if_pos h, divR_len]; exact HL.out i HI2.out.1
          · rw [hOk h]; exact hOl
        rw [hkl] at hin
        obtain ⟨bk, dk, ek⟩ := own_some hin (by omega)
        rw [show us2[k]? = some (vl us2 k) by unfold vl; rw [List.getElem?_eq_getElem (by have := HL2.out; omega)]; rfl, ek] at ck
        have hsz := hB.out.size
        have hws : base ≤ wr.heap.size := by omega
        by_cases hkn : k = nf
        · subst hkn
          clear hin hOk hOl hkl ek ho hNr
          go_wp2
          go_roundw
          case rel => exact ⟨k + 1, by omega, by go_num, by rw [← stepP_skip]; exact hS.out, hB.out, fun x hx hne => hT.out x (by omega) hne⟩
          case measure => simp [intOf]; omega
        · have hkn2 : (k : Int) ≠ (nf : Int) := by omega
          rw [hOk hkn, ek] at hin
          obtain ⟨O, hO⟩ : ∃ O, O = rw' (swapT rows i nf) k := ⟨_, rfl⟩
          rw [← hO] at hin hOl
          obtain ⟨g1, g2⟩ := own_R hin hOl col hcol
          obtain ⟨f, hf⟩ : ∃ f, f = fr O col := ⟨_, rfl⟩
          rw [show O[col]?.getD (0, 0) = f from hf.symm] at g1 g2
          obtain ⟨t1, t2⟩ := f
          have hrw := hS.out.tab.inner nf (by rw [HL2.out]; exact hnN)
          rw [stepP_at _ _ _ _ _ _ (by omega), if_pos rfl, ← HRD.out.1, ← HRD.out.2.1, ← HD.out, HVF.out] at hrw
          have htk := takeRow_any (.slice (some ⟨bk, 0, none⟩) L dk) (.slice (some ⟨bR, 0, none⟩) L di) O D t1 t2 base base wr (by rw [HDL.out, hOl]) (by omega) (by rw [hOl]; exact hin) hrw (by
            intro b e1 e2
            exact hS.out.tab.apart k nf (by rw [HL2.out]; exact hlt) (by rw [HL2.out]; exact hnN) hkn b (by rw [ek]; exact e1) (by rw [HVF.out]; exact e2))
          have hbk : base ≤ bk := (hin.lt bk rfl).1
          have HTK := hid htk
          have HOO : Hid (O = rw' (swapT rows i nf) k ∧ (t1, t2) = fr O col ∧ O.length = L ∧ N = rows.length ∧ vl us2 k = .slice (some ⟨bk, 0, none⟩) L dk) := ⟨hO, hf, hOl, hNr, ek⟩
          clear hin hOk hkl ek ho hNr hO hf hrw htk hOl
          obtain ⟨q, hq⟩ : ∃ q, q = takeB O (t1, t2) D := ⟨_, rfl⟩
          have HQ2 : Hid (q = takeB O (t1, t2) D) := hq
          clear hq
          cases q
          · go_wp2_with (go_at_call 85; refine (HTK.out).mono ?_; rintro e w6 ⟨re, tk6, gr6⟩; rw [← HQ2.out] at re; subst re)
            have hBf : stepB rows nf i col = false := stepB_take (k := k) (by have := HOO.out.2.2.2.1; omega) hkn (by rw [← HOO.out.1, ← HOO.out.2.1, ← HRD.out.1, ← HRD.out.2.1, ← HD.out]; exact HQ2.out.symm)
            refine bodyPost_ret (results_tmp rfl _ _ _) rfl ?_
            refine ⟨by rw [hBf]; rfl, ?_, hB.out.grown gr6 hws (fun k e => by cases e; exact hbk)⟩
            intro h
            rw [hBf] at h
            cases h
          · go_wp2_with (go_at_call 85; refine (HTK.out).mono ?_; rintro e w6 ⟨re, tk6, gr6⟩; rw [← HQ2.out] at re; subst re)
            go_roundw
            case rel =>
              have r6 := tk6 HQ2.out.symm
              have S6 := hS.out.turn (k := k) (ps := takeR O (t1, t2) D) (by rw [HL2.out]; exact hlt) (by rw [HOO.out.2.2.2.2, show (takeR O (t1, t2) D).length = O.length by simp [takeR]]; exact r6) (by rw [HOO.out.2.2.2.2]; exact gr6)
              have hz := stepP_set rows nf i col k (by have := HOO.out.2.2.2.1; omega) hkn
              rw [← HOO.out.1, ← HOO.out.2.1, ← HRD.out.1, ← HRD.out.2.1, ← HD.out] at hz
              rw [hz] at S6
              refine ⟨k + 1, by omega, by go_num, S6, hB.out.grown gr6 hws (fun k e => by cases e; exact hbk), fun x hx hne => ?_⟩
              by_cases e : x = k
              · subst e
                rw [← HOO.out.1, ← HOO.out.2.1]
                exact HQ2.out.symm
              · exact hT.out x (by omega) hne
            case measure => simp [intOf]; omega
      · obtain rfl : k = N := by omega
        have hNr := HRD.out.2.2.2
        have hBt : stepB rows nf i col = true := stepB_yes (by rw [← HRD.out.1, ← HRD.out.2.1]; exact HQ.out.symm) (fun x hx hne => by
          rw [← HRD.out.1, ← HRD.out.2.1, ← HD.out]
          exact hT.out x (by omega) hne)
        clear hNr
        go_wp2
        refine bodyPost_ret (results_tmp rfl _ _ _) rfl ?_
        refine ⟨by rw [hBt]; rfl, fun _ => ?_, hB.out⟩
        have S7 := hS.out
        rw [show stepP rows nf i col k = stepT rows nf i col by rw [HRD.out.2.2.2]; exact stepP_all _ _ _ _] at S7
        rw [← HNN.out]
        exact ⟨_, us2, S7⟩
end Go.Proofs.Ythnlcgilmljliaa
