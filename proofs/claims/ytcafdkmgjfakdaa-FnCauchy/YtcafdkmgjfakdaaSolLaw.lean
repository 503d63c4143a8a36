/- What the law of Solved asks, without any program: what is solved solves; a table with two rows alike has no one solution; the rank is full. -/
import Derived.Test.YtcafdkmgjfakdaaLinMath
namespace Go.Proofs.Ytcafdkmgjfakdaa
open Go.RowKit Go.Proofs.Ytcafdkmgjfakdaa.RM

theorem solO_out {rows : List (List Fr)} {right : List Fr} (h : solO rows right = true) : solC rows right = true ∧ tabB (wideT rows right) 6 = true ∧ echK (wideT rows right) = true ∧ solF rows.length (echC (wideT rows right)) = true := by
  unfold solO echO at h
  simpa [Bool.and_eq_true, and_assoc] using h
theorem echK_out {rows : List (List Fr)} (h : echK rows = true) : ech rows = some (echR rows, echC rows) := by
  unfold echK at h
  cases he : ech rows with
  | none => rw [he] at h; cases h
  | some p =>
    obtain ⟨R, C⟩ := p
    obtain ⟨-, e1, e2⟩ := ech_yes he
    rw [e1, e2]
/-- solutions, units and dependence at the echelon's end -/
theorem ech_keeps {rows : List (List Fr)} {L : Nat} (hL : L = (rw' rows 0).length) (ht : tabB rows 6 = true) (hk : echK rows = true) :
    ((∀ v : Nat → Rat, (∀ i, i < rows.length → sumN (fun j => mv (echR rows) i j * v j) L = 0) ↔ (∀ i, i < rows.length → sumN (fun j => mv rows i j * v j) L = 0)) ∧ Units rows.length (mv (echR rows)) (echC rows) ∧ ∀ k, k ≤ L → (∀ c, c ∈ echC rows → c < k) → Dep rows.length k (mv rows) → Dep rows.length k (mv (echR rows))) ∧ Base rows.length L (echR rows) (echC rows) L := by
  have he := echK_out hk
  unfold ech at he
  rw [← hL] at he
  have key := ech_ind (m := rows.length) (L := L) (P := fun col R C => (∀ v : Nat → Rat, (∀ i, i < rows.length → sumN (fun j => mv R i j * v j) L = 0) ↔ (∀ i, i < rows.length → sumN (fun j => mv rows i j * v j) L = 0)) ∧ Units rows.length (mv R) C ∧ ∀ k, k ≤ L → (∀ c, c ∈ C → c < k) → Dep rows.length k (mv rows) → Dep rows.length k (mv R))
    (fun col R C hB hc hz hP => hP)
    (fun col R C r hB hc h1 h2 hne hz hb hP => by
      obtain ⟨hs, hB2⟩ := stepQ hB hc h1 h2 hb
      refine ⟨fun v => (hs.ker v).trans (hP.1 v), hs.units hP.2.1 (fun c hx => by have := hB.chs c hx; omega), fun k hk hck hd => ?_⟩
      exact hs.dep hk (hck col (by simp)) (hP.2.2 k hk (fun c hx => hck c (by simp [hx])) hd))
    L 0 rows [] (echR rows) (echC rows) (by omega) (base_start hL ht) ⟨fun v => Iff.rfl, fun k hk => absurd hk (by simp), fun k hk hck hd => hd⟩ he
  rw [Nat.zero_add] at key
  exact key
/-- where it is solved the chosen columns are all but right's -/
theorem sol_cols {rows : List (List Fr)} {right : List Fr} (h : solO rows right = true) : (echC (wideT rows right)).length = rows.length ∧ (∀ i, i < rows.length → nt (echC (wideT rows right)) i = i) ∧ ∀ c, c ∈ echC (wideT rows right) → c < rows.length := by
  obtain ⟨h1, h2, h3, h4⟩ := solO_out h
  obtain ⟨s1, s2, s3, s4⟩ := solC_out h1
  obtain ⟨⟨t1, -⟩, -⟩ := tabB_out s2
  have hr := ech_rises h3
  have hl0 : (rw' (wideT rows right) 0).length = rows.length + 1 := by rw [wideT_at _ _ _ (by omega)]; simp [s3]
  have hB := (ech_keeps (L := rows.length + 1) hl0.symm h2 h3).2
  have hm := h4
  rw [solF_model t1 hr hB.chs, Bool.and_eq_true, decide_eq_true_eq, decide_eq_true_eq] at hm
  have hf := h4
  unfold solF at hf
  rw [decide_eq_true_eq] at hf
  have hin : ∀ x, x < rows.length → x ∈ echC (wideT rows right) := by
    intro x hx
    apply Classical.byContradiction
    intro hn
    have : x ∈ freeC (rows.length + 1) (echC (wideT rows right)) := freeC_mem.2 ⟨by omega, hn⟩
    rw [hf] at this
    simp at this
    omega
  obtain ⟨a1, a2⟩ := atP_run hr hin rows.length (Nat.le_refl _)
  refine ⟨hm.1, a2, fun c hx => ?_⟩
  obtain ⟨i, hi, he⟩ := mem_nt hx
  rw [← he, a2 i (by omega)]
  omega
/-- what is solved solves -/
theorem sol_solves {rows : List (List Fr)} {right : List Fr} (h : solO rows right = true) (i : Nat) (hi : i < rows.length) :
    sumN (fun k => mv rows i k * qf (fr (solX rows right) k)) rows.length = qf (fr right i) := by
  obtain ⟨h1, h2, h3, h4⟩ := solO_out h
  obtain ⟨s1, s2, s3, s4⟩ := solC_out h1
  obtain ⟨-, sr⟩ := tabB_out s2
  obtain ⟨c1, c2, c3⟩ := sol_cols h
  have hl0 : (rw' (wideT rows right) 0).length = rows.length + 1 := by rw [wideT_at _ _ _ (by omega)]; simp [s3]
  obtain ⟨⟨k1, k2, -⟩, hB⟩ := ech_keeps (L := rows.length + 1) hl0.symm h2 h3
  rw [wideT_len] at k1 k2 hB
  have hv := (k1 (fun j => if j = rows.length then -1 else qf (fr (solX rows right) j))).1 (by
    intro x hx
    simp only [sumN]
    rw [if_pos trivial]
    rw [sumN_one (a := x) hx (fun y hy hne => by
      rw [if_neg (by omega)]
      have := k2 y (by omega) x hx
      rw [c2 y hy, if_neg (by omega)] at this
      rw [this]
      grind)]
    rw [if_neg (by omega)]
    have := k2 x (by omega) x hx
    rw [c2 x hx, if_pos rfl] at this
    rw [this, solX_at _ _ _ hx]
    show 1 * mv (echR (wideT rows right)) x rows.length + mv (echR (wideT rows right)) x rows.length * -1 = 0
    grind) i hi
  simp only [sumN] at hv
  rw [if_pos trivial] at hv
  have hw : ∀ j, j < rows.length → mv (wideT rows right) i j = mv rows i j := by
    intro j hj
    unfold mv
    rw [wideT_at _ _ _ hi]
    unfold fr
    rw [List.getElem?_append_left (by rw [(sr i hi).1, s3]; exact hj)]
  have hb : mv (wideT rows right) i rows.length = qf (fr right i) := by
    unfold mv
    rw [wideT_at _ _ _ hi]
    congr 1
    have : (rw' rows i).length = rows.length := by rw [(sr i hi).1, s3]
    unfold fr
    rw [List.getElem?_append_right (by omega), this, Nat.sub_self]
    rfl
  rw [hb, sumN_congr (g := fun k => mv rows i k * qf (fr (solX rows right) k)) (fun j hj => by rw [if_neg (by omega), hw j hj])] at hv
  grind
/-- the table with its second row in the first one's place -/
def twiceT (rows : List (List Fr)) : List (List Fr) := rw' rows 1 :: rows.drop 1
theorem twice_len {rows : List (List Fr)} (h : 2 ≤ rows.length) : (twiceT rows).length = rows.length := by simp [twiceT]; omega
theorem twice_at {rows : List (List Fr)} {i : Nat} (h : i ≠ 0) : rw' (twiceT rows) i = rw' rows i := by
  obtain ⟨k, rfl⟩ : ∃ k, i = k + 1 := ⟨i - 1, by omega⟩
  simp [twiceT, rw']
theorem twice_zero (rows : List (List Fr)) : rw' (twiceT rows) 0 = rw' rows 1 := by simp [twiceT, rw']
theorem sol_twice {rows : List (List Fr)} {right : List Fr} (h2 : 2 ≤ rows.length) : solO (twiceT rows) right = false := by
  rw [← Bool.not_eq_true]
  intro h
  obtain ⟨h1, ht, h3, h4⟩ := solO_out h
  obtain ⟨s1, s2, s3, s4⟩ := solC_out h1
  obtain ⟨-, sr⟩ := tabB_out s2
  obtain ⟨c1, c2, c3⟩ := sol_cols h
  have hl := twice_len h2
  have hl0 : (rw' (wideT (twiceT rows) right) 0).length = (twiceT rows).length + 1 := by rw [wideT_at _ _ _ (by omega)]; simp [s3]
  obtain ⟨⟨k1, k2, k3⟩, hB⟩ := ech_keeps (L := (twiceT rows).length + 1) hl0.symm ht h3
  rw [wideT_len] at k2 k3
  have hsame : ∀ j, j < (twiceT rows).length → mv (wideT (twiceT rows) right) 0 j = mv (wideT (twiceT rows) right) 1 j := by
    intro j hj
    have e0 := (sr 0 (by omega)).1
    have e1 := (sr 1 (by omega)).1
    unfold mv
    rw [wideT_at _ _ _ (by omega), wideT_at _ _ _ (by omega)]
    unfold fr
    rw [List.getElem?_append_left (by omega), List.getElem?_append_left (by omega), twice_zero, twice_at (by decide)]
  have hd := k3 (twiceT rows).length (by omega) c3 ⟨fun i => if i = 0 then 1 else if i = 1 then -1 else 0, ⟨0, by omega, by show (if (0 : Nat) = 0 then (1 : Rat) else if (0 : Nat) = 1 then -1 else 0) ≠ 0; rw [if_pos rfl]; grind⟩, fun j hj => by
    have hs := hsame j hj
    generalize mv (wideT (twiceT rows) right) = M at *
    have e : sumN (fun i => (if i = 0 then (1 : Rat) else if i = 1 then -1 else 0) * M i j) (twiceT rows).length = sumN (fun i => if i = 0 then M 0 j else (fun i => if i = 1 then - M 1 j else (fun _ => 0) i) i) (twiceT rows).length := by
      apply sumN_congr
      intro i _
      by_cases e1 : i = 0
      · subst e1; rw [if_pos rfl, if_pos rfl]; grind
      · rw [if_neg e1, if_neg e1]
        show _ = if i = 1 then _ else _
        by_cases e2 : i = 1
        · subst e2; rw [if_pos rfl, if_pos rfl]; grind
        · rw [if_neg e2, if_neg e2]; grind
    rw [e, sumN_turn _ _ _ (by omega), sumN_turn _ _ _ (by omega), sumN_zero (fun _ _ => rfl), if_neg (by decide), hs]
    grind⟩
  obtain ⟨y, ⟨k, hk, hy⟩, h0⟩ := hd
  apply hy
  have := h0 k hk
  rw [sumN_one hk (fun i hi hne => by
    have hu := k2 k (by omega) i hi
    rw [c2 k hk, if_neg hne] at hu
    rw [hu]
    grind)] at this
  have hu := k2 k (by omega) k hk
  rw [c2 k hk, if_pos rfl] at hu
  rw [hu] at this
  grind
/-- the first L columns of a table are those of another one -/
structure Cut (m L : Nat) (rows wide : List (List Fr)) : Prop where
  l1 : rows.length = m
  l2 : wide.length = m
  r1 : ∀ i, i < m → (rw' rows i).length = L
  r2 : ∀ i, i < m → L ≤ (rw' wide i).length
  same : ∀ i, i < m → ∀ j, j < L → fr (rw' wide i) j = fr (rw' rows i) j
theorem Cut.pivF {m L col : Nat} {rows wide : List (List Fr)} (h : Cut m L rows wide) (hc : col < L) : ∀ n r, r + n ≤ m → pivF wide col n r = pivF rows col n r
  | 0, r, _ => rfl
  | n + 1, r, hr => by
    simp only [Go.Proofs.Ytcafdkmgjfakdaa.pivF]
    rw [h.same r (by omega) col hc, h.pivF hc n (r + 1) (by omega)]
theorem Cut.stepB {m L col at' r : Nat} {rows wide : List (List Fr)} (h : Cut m L rows wide) (hc : col < L) (ha : at' < m) (hr : r < m) (hb : stepB wide at' r col = true) : stepB rows at' r col = true := by
  unfold Go.Proofs.Ytcafdkmgjfakdaa.stepB at hb
  rw [Bool.and_eq_true, List.all_eq_true] at hb
  obtain ⟨hd, ht⟩ := hb
  have hd2 : divB (rw' rows r) (fr (rw' rows r) col) = true := by
    apply all_yes (p := fun p => divK p (fr (rw' rows r) col)) (d := ((0, 0) : Fr))
    intro k hk
    rw [h.r1 r hr] at hk
    have := divB_at hd (j := k) (by have := h.r2 r hr; omega)
    rw [h.same r hr k hk, h.same r hr col hc] at this
    exact this
  refine stepB_yes hd2 (fun k hk hne => ?_)
  rw [h.l1] at hk
  have hti := ht k (by simpa [h.l2] using hk)
  rw [rw_exch _ _ _ _ (by rw [h.l2]; exact hr) (by rw [h.l2]; exact ha)] at hti
  have hti2 : takeB (rw' wide (exch r at' k)) (fr (rw' wide (exch r at' k)) col) (divR (rw' wide r) (fr (rw' wide r) col)) = true := by simpa [hne] using hti
  rw [rw_exch _ _ _ _ (by rw [h.l1]; exact hr) (by rw [h.l1]; exact ha)]
  have hx := exch_lt hr ha hk
  unfold takeB
  rw [List.all_eq_true]
  intro j hj
  rw [List.mem_range, h.r1 _ hx] at hj
  have := takeB_at hti2 (j := j) (by have := h.r2 _ hx; omega)
  rw [divR_at (by have := h.r2 r hr; omega), h.same _ hx j hj, h.same _ hx col hc, h.same r hr j hj, h.same r hr col hc] at this
  rw [divR_at (by rw [h.r1 r hr]; exact hj)]
  exact this
theorem Cut.stepT {m L col at' r : Nat} {rows wide : List (List Fr)} (h : Cut m L rows wide) (hc : col < L) (ha : at' < m) (hr : r < m) : Cut m L (stepT rows at' r col) (stepT wide at' r col) := by
  have e1 : ∀ (T : List (List Fr)), T.length = m → ∀ i, i < m → rw' (Go.Proofs.Ytcafdkmgjfakdaa.stepT T at' r col) i = if i = at' then divR (rw' T r) (fr (rw' T r) col) else takeR (rw' T (exch r at' i)) (fr (rw' T (exch r at' i)) col) (divR (rw' T r) (fr (rw' T r) col)) := by
    intro T hT i hi
    have hi2 : i < T.length := by rw [hT]; exact hi
    rw [← stepP_all, stepP_at _ _ _ _ _ _ hi2, if_pos hi2, rw_exch _ _ _ _ (by rw [hT]; exact hr) (by rw [hT]; exact ha)]
  refine ⟨by rw [stepT_len]; exact h.l1, by rw [stepT_len]; exact h.l2, fun i hi => ?_, fun i hi => ?_, fun i hi j hj => ?_⟩
  · rw [e1 rows h.l1 i hi]
    split
    · rw [divR_len]; exact h.r1 r hr
    · rw [takeR_len]; exact h.r1 _ (exch_lt hr ha hi)
  · rw [e1 wide h.l2 i hi]
    split
    · rw [divR_len]; exact h.r2 r hr
    · rw [takeR_len]; exact h.r2 _ (exch_lt hr ha hi)
  · rw [e1 rows h.l1 i hi, e1 wide h.l2 i hi]
    have hx := exch_lt hr ha hi
    have hr2 := h.r2 r hr
    have hx2 := h.r2 _ hx
    by_cases e : i = at'
    · rw [if_pos e, if_pos e, divR_at (by omega), divR_at (by rw [h.r1 r hr]; exact hj), h.same r hr j hj, h.same r hr col hc]
    · rw [if_neg e, if_neg e, takeR_at (by omega), takeR_at (by rw [h.r1 _ hx]; exact hj), divR_at (by omega), divR_at (by rw [h.r1 r hr]; exact hj), h.same r hr j hj, h.same r hr col hc, h.same _ hx j hj, h.same _ hx col hc]
theorem Cut.ech {m L : Nat} : ∀ n col rows wide ch R C, Cut m L rows wide → col + n ≤ L → ch.length ≤ m → echF n col wide ch = some (R, C) → ∃ R', echF n col rows ch = some (R', C) ∧ Cut m L R' R
  | 0, col, rows, wide, ch, R, C, h, _, _, he => by
    simp only [echF] at he ⊢
    cases he
    exact ⟨rows, rfl, h⟩
  | n + 1, col, rows, wide, ch, R, C, h, hl, hcl, he => by
    have hp : piv wide col ch.length = piv rows col ch.length := by
      unfold piv
      rw [h.l1, h.l2, h.pivF (by omega) _ _ (by omega)]
    have hple := piv_le (rows := rows) (col := col) (at' := ch.length) (by rw [h.l1]; exact hcl)
    by_cases hf : piv rows col ch.length = rows.length
    · rw [echF_free (by rw [hp, hf, h.l1, h.l2])] at he
      rw [echF_free hf]
      exact Cut.ech n (col + 1) rows wide ch R C h (by omega) hcl he
    · have hw : piv wide col ch.length ≠ wide.length := by rw [hp, h.l2, ← h.l1]; exact hf
      have hlt : piv rows col ch.length < m := by rw [← h.l1]; omega
      by_cases hs : Go.Proofs.Ytcafdkmgjfakdaa.stepB wide ch.length (piv rows col ch.length) col = true
      · rw [echF_yes hp.symm (by rw [← hp]; exact hw) hs] at he
        rw [echF_yes rfl hf (h.stepB (by omega) (by omega) hlt hs)]
        exact Cut.ech n (col + 1) _ _ _ R C (h.stepT (by omega) (by omega) hlt) (by omega) (by simp; omega) he
      · rw [Bool.not_eq_true] at hs
        rw [echF_no hp.symm (by rw [← hp]; exact hw) hs] at he
        cases he
theorem echF_split : ∀ (a b col : Nat) (rows : List (List Fr)) (ch : List Nat) (R : List (List Fr)) (C : List Nat), echF (a + b) col rows ch = some (R, C) → ∃ R1 C1, echF a col rows ch = some (R1, C1) ∧ echF b (col + a) R1 C1 = some (R, C)
  | 0, b, col, rows, ch, R, C, h => ⟨rows, ch, rfl, by rw [Nat.zero_add] at h; exact h⟩
  | a + 1, b, col, rows, ch, R, C, h => by
    rw [show a + 1 + b = (a + b) + 1 by omega] at h
    rw [show col + (a + 1) = col + 1 + a by omega]
    by_cases hf : piv rows col ch.length = rows.length
    · rw [echF_free hf] at h ⊢
      exact echF_split a b (col + 1) rows ch R C h
    · by_cases hs : stepB rows ch.length (piv rows col ch.length) col = true
      · rw [echF_yes rfl hf hs] at h ⊢
        exact echF_split a b (col + 1) _ _ R C h
      · rw [Bool.not_eq_true] at hs
        rw [echF_no rfl hf hs] at h
        cases h
/-- where it is solved, the rank is full -/
theorem sol_rank {rows : List (List Fr)} {right : List Fr} (h : solO rows right = true) : echO rows = true ∧ (echC rows).length = rows.length := by
  obtain ⟨h1, h2, h3, h4⟩ := solO_out h
  obtain ⟨s1, s2, s3, s4⟩ := solC_out h1
  obtain ⟨⟨t1, -⟩, sr⟩ := tabB_out s2
  obtain ⟨c1, c2, c3⟩ := sol_cols h
  have hl0 : (rw' (wideT rows right) 0).length = rows.length + 1 := by rw [wideT_at _ _ _ (by omega)]; simp [s3]
  have he := echK_out h3
  unfold ech at he
  rw [hl0] at he
  obtain ⟨R1, C1, e1, e2⟩ := echF_split rows.length 1 0 _ _ _ _ he
  rw [Nat.zero_add] at e2
  have hC : C1 = echC (wideT rows right) := by
    simp only [echF] at e2
    split at e2
    · cases e2; rfl
    · split at e2
      · exfalso
        have e3 : C1 ++ [rows.length] = echC (wideT rows right) := (Prod.mk.inj (Option.some.inj e2)).2
        have := c3 rows.length (by rw [← e3]; simp)
        omega
      · cases e2
  have hcut : Cut rows.length rows.length rows (wideT rows right) := by
    refine ⟨rfl, wideT_len _ _, fun i hi => by rw [(sr i hi).1, s3], fun i hi => by rw [wideT_at _ _ _ hi, List.length_append, (sr i hi).1, s3]; omega, fun i hi j hj => ?_⟩
    rw [wideT_at _ _ _ hi]
    unfold fr
    rw [List.getElem?_append_left (by rw [(sr i hi).1, s3]; exact hj)]
  obtain ⟨R', e3, -⟩ := Cut.ech _ 0 rows _ [] R1 C1 hcut (by omega) (by simp) e1
  have he2 : ech rows = some (R', C1) := by
    unfold ech
    rw [s3]
    exact e3
  obtain ⟨f1, f2, f3⟩ := ech_yes he2
  refine ⟨by unfold echO; rw [s2, f1]; rfl, ?_⟩
  rw [f3, hC, c1]
/-- is row by solution right, as far as it goes: what the law's loop makes -/
def chkS (row x : List Fr) : Nat → Fr × Bool
  | 0 => ((0, 1), true)
  | k + 1 => (addP (chkS row x k).1 (mulP (fr row k) (fr x k)), (chkS row x k).2 && mulK (fr row k) (fr x k) && addK (chkS row x k).1 (mulP (fr row k) (fr x k)))
theorem chkS_is (row x : List Fr) : ∀ k, (chkS row x k).2 = true → okF (chkS row x k).1 = true ∧ qf (chkS row x k).1 = sumN (fun j => qf (fr row j) * qf (fr x j)) k
  | 0, _ => ⟨by show okF (0, 1) = true; decide, by simp only [chkS, sumN]; exact qf_null⟩
  | k + 1, h => by
    simp only [chkS, Bool.and_eq_true] at h
    obtain ⟨⟨h1, h2⟩, h3⟩ := h
    obtain ⟨i1, i2⟩ := chkS_is row x k h1
    simp only [chkS, sumN]
    exact ⟨add_right h3, by rw [qf_add h3, qf_mul h2, i2]⟩
theorem sol_check {rows : List (List Fr)} {right : List Fr} (h : solO rows right = true) (i : Nat) (hi : i < rows.length) (hg : (chkS (rw' rows i) (solX rows right) rows.length).2 = true) : (chkS (rw' rows i) (solX rows right) rows.length).1 = fr right i := by
  obtain ⟨h1, h2, h3, h4⟩ := solO_out h
  obtain ⟨s1, s2, s3, s4⟩ := solC_out h1
  obtain ⟨e1, e2⟩ := chkS_is _ _ _ hg
  have hr : allOk right = true := by rw [← wide_tab h1]; exact h2
  refine qf_inj e1 (allOk_at hr (by omega)) ?_
  rw [e2]
  exact sol_solves h i hi
end Go.Proofs.Ytcafdkmgjfakdaa
