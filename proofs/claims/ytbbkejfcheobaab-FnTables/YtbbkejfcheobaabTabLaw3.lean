/- An echelon's echelon is it again, without any program. -/
import Derived.Test.YtbbkejfcheobaabTabLaw2
namespace Go.Proofs.Ytbbkejfcheobaab
open Go.RowKit Go.Proofs.Ytbbkejfcheobaab.RM

theorem red_zero {d : Int} (h1 : 1 ≤ d) (h2 : d ≤ 1000000000) : redOk 0 d = true ∧ redN 0 d = 0 ∧ redD 0 d = 1 := by
  have hs : sg 0 d = d := by
    rw [sg_pos (by omega)]
    unfold gcdi
    simp
    omega
  have hi : redIn 0 d = true := redIn_mk ⟨by omega, by omega, by omega, by omega, by omega⟩
  have hq : d.tdiv d = 1 := Int.tdiv_self (by omega)
  have hb : bdB ((0 : Int).tdiv (sg 0 d)) (d.tdiv (sg 0 d)) = true := by rw [hs, hq, Int.zero_tdiv]; exact bdB_mk ⟨by omega, by omega, by omega, by omega⟩
  obtain ⟨r1, r2, r3⟩ := red_yes hi hb
  rw [hs] at r2 r3
  rw [Int.zero_tdiv] at r2
  rw [hq] at r3
  exact ⟨r1, r2, r3⟩
theorem mul_null {p : Fr} (h : okF p = true) : mulK (0, 1) p = true ∧ mulP (0, 1) p = (0, 1) := by
  have h0 : two 0 1 p.1 p.2 = true := two_yes (okB_whole (by omega) (by omega)) h
  have hk := okB_out h
  obtain ⟨r1, r2, r3⟩ := red_zero hk.1 hk.2.1
  have e1 : (0 : Int) * p.1 = 0 := by omega
  have e2 : (1 : Int) * p.2 = p.2 := by omega
  unfold mulK mulP
  show opOk (two 0 1 p.1 p.2) (0 * p.1) (1 * p.2) = true ∧ (opN (two 0 1 p.1 p.2) (0 * p.1) (1 * p.2), opD (two 0 1 p.1 p.2) (0 * p.1) (1 * p.2)) = (0, 1)
  rw [h0, e1, e2, (op_yes _ _).1, (op_yes _ _).2.1, (op_yes _ _).2.2, r1, r2, r3]
  exact ⟨rfl, rfl⟩
theorem sub_null {p : Fr} (h : okF p = true) : subK p (0, 1) = true ∧ subP p (0, 1) = p := by
  have h0 : two p.1 p.2 0 1 = true := two_yes h (okB_whole (by omega) (by omega))
  obtain ⟨r1, r2, r3⟩ := red_self (show okB p.1 p.2 = true from h)
  have e1 : p.1 * 1 - (0 : Int) * p.2 = p.1 := by omega
  have e2 : p.2 * (1 : Int) = p.2 := by omega
  unfold subK subP
  show opOk (two p.1 p.2 0 1) (p.1 * 1 - 0 * p.2) (p.2 * 1) = true ∧ (opN (two p.1 p.2 0 1) (p.1 * 1 - 0 * p.2) (p.2 * 1), opD (two p.1 p.2 0 1) (p.1 * 1 - 0 * p.2) (p.2 * 1)) = p
  rw [h0, e1, e2, (op_yes _ _).1, (op_yes _ _).2.1, (op_yes _ _).2.2, r1, r2, r3]
  exact ⟨rfl, rfl⟩
theorem div_one {p : Fr} (h : okF p = true) : divK p (1, 1) = true ∧ divP p (1, 1) = p := by
  have h0 : two p.1 p.2 1 1 = true := two_yes h (okB_whole (by omega) (by omega))
  obtain ⟨r1, r2, r3⟩ := red_self (show okB p.1 p.2 = true from h)
  have e1 : p.1 * (1 : Int) = p.1 := by omega
  have e2 : p.2 * (1 : Int) = p.2 := by omega
  unfold divK divP
  show opOk (two p.1 p.2 1 1) (p.1 * 1) (p.2 * 1) = true ∧ (opN (two p.1 p.2 1 1) (p.1 * 1) (p.2 * 1), opD (two p.1 p.2 1 1) (p.1 * 1) (p.2 * 1)) = p
  rw [h0, e1, e2, (op_yes _ _).1, (op_yes _ _).2.1, (op_yes _ _).2.2, r1, r2, r3]
  exact ⟨rfl, rfl⟩
theorem take_null {o x : Fr} (ho : okF o = true) (hx : okF x = true) : takeK o (0, 1) x = true ∧ takeE o (0, 1) x = o := by
  unfold takeK takeE
  rw [(mul_null hx).2]
  exact sub_null ho
theorem allp_fr {p : Fr → Bool} {ps : List Fr} (h : ∀ j, j < ps.length → p (fr ps j) = true) : ps.all p = true := by
  rw [List.all_eq_true]
  intro x hx
  obtain ⟨j, hj, rfl⟩ := List.mem_iff_getElem.1 hx
  have := h j hj
  simpa [fr, hj] using this
theorem rowp_ext {xs ys : List Fr} (hl : xs.length = ys.length) (h : ∀ j, j < xs.length → fr xs j = fr ys j) : xs = ys := by
  refine List.ext_getElem hl fun j hj hj' => ?_
  have := h j hj
  simpa [fr, hj, hj'] using this
theorem swap_same (R : List (List Fr)) (a : Nat) (ha : a < R.length) : swapT R a a = R := by
  unfold swapT
  have e : rw' R a = R[a] := by simp [rw', ha]
  rw [e]
  simp
/-- a step at a column that is a unit already turns nothing -/
theorem step_same {R : List (List Fr)} {a col L : Nat} (ha : a < R.length) (hrow : ∀ x, x < R.length → (rw' R x).length = L) (hok : ∀ x, x < R.length → ∀ j, j < L → okF (fr (rw' R x) j) = true)
    (h1 : fr (rw' R a) col = (1, 1)) (h0 : ∀ x, x < R.length → x ≠ a → fr (rw' R x) col = (0, 1)) : stepB R a a col = true ∧ stepT R a a col = R := by
  have hd : divR (rw' R a) (fr (rw' R a) col) = rw' R a := by
    rw [h1]
    refine rowp_ext (by simp [divR]) fun j hj => ?_
    rw [show (divR (rw' R a) (1, 1)).length = (rw' R a).length by simp [divR]] at hj
    rw [divR_at hj]
    exact (div_one (hok a ha j (by rw [← hrow a ha]; exact hj))).2
  have ht : ∀ x, x < R.length → x ≠ a → takeB (rw' R x) (fr (rw' R x) col) (rw' R a) = true ∧ takeR (rw' R x) (fr (rw' R x) col) (rw' R a) = rw' R x := by
    intro x hx hne
    rw [h0 x hx hne]
    have hj : ∀ j, j < (rw' R x).length → takeK (fr (rw' R x) j) (0, 1) (fr (rw' R a) j) = true ∧ takeE (fr (rw' R x) j) (0, 1) (fr (rw' R a) j) = fr (rw' R x) j := by
      intro j hj
      rw [hrow x hx] at hj
      exact take_null (hok x hx j hj) (hok a ha j hj)
    constructor
    · unfold takeB
      rw [List.all_eq_true]
      intro j hj2
      exact (hj j (by simpa using hj2)).1
    · refine rowp_ext (takeR_len _ _ _) fun j hj2 => ?_
      rw [takeR_len] at hj2
      rw [takeR_at hj2]
      exact (hj j hj2).2
  constructor
  · unfold stepB
    rw [hd, swap_same R a ha, Bool.and_eq_true]
    constructor
    · unfold divB
      rw [h1]
      exact allp_fr fun j hj => (div_one (hok a ha j (by rw [← hrow a ha]; exact hj))).1
    · rw [List.all_eq_true]
      intro x hx
      have hx2 : x < R.length := by simpa using hx
      by_cases e : x = a
      · simp [e]
      · simp [e, (ht x hx2 e).1]
  · unfold stepT
    rw [hd, swap_same R a ha]
    refine List.ext_getElem (by simp) fun x hx hx' => ?_
    have er : R[x] = rw' R x := by simp [rw', hx']
    rw [List.getElem_map, List.getElem_range, er]
    by_cases e : x = a
    · rw [if_pos e, e]
    · rw [if_neg e]
      exact (ht x hx' e).2
/-- a table in that form is its own echelon -/
theorem ech_form {R : List (List Fr)} {C : List Nat} {m L : Nat} (hB : Base m L R C L) (hU : Units m (mv R) C) (hQ : RedQ m L (mv R) C) (hr : rises C) :
    ∀ n col at', col + n = L → atP C at' col → echF n col R (C.take at') = some (R, C)
  | 0, col, at', hc, hp => by
    have : at' = C.length := by
      apply Classical.byContradiction
      intro hn
      have hlt : at' < C.length := by have := hp.1; omega
      have h1 := hp.2.2 at' (Nat.le_refl _) hlt
      have h2 := hB.chs _ (nt_mem hlt)
      omega
    simp only [echF]
    rw [this, List.take_length]
  | n + 1, col, at', hc, hp => by
    have hlen : (C.take at').length = at' := by rw [List.length_take]; have := hp.1; omega
    have hm := hB.len
    have hcl := hB.cl
    have hcol : col < L := by omega
    by_cases h : at' < C.length ∧ nt C at' = col
    · obtain ⟨k1, k2⟩ := atP_yes hr hp h.1 h.2
      have ham : at' < R.length := by omega
      have hone : fr (rw' R at') col = (1, 1) := by
        refine qf_inj (hB.ok at' (by omega) col hcol) (by decide) ?_
        rw [qf_one]
        have := hU at' h.1 at' (by omega)
        rw [if_pos rfl, h.2] at this
        exact this
      have hzero : ∀ x, x < R.length → x ≠ at' → fr (rw' R x) col = (0, 1) := by
        intro x hx hne
        refine qf_inj (hB.ok x (by omega) col hcol) (by decide) ?_
        rw [qf_null]
        have := hU at' h.1 x (by omega)
        rw [if_neg hne, h.2] at this
        exact this
      obtain ⟨s1, s2⟩ := step_same (L := L) ham (fun x hx => hB.row x (by omega)) (fun x hx => hB.ok x (by omega)) hone hzero
      have hpiv : piv R col at' = at' := by
        unfold piv
        exact pivF_is R col (R.length - at') at' at' (Nat.le_refl _) (by omega) (fun x h1 h2 => by omega) (by rw [hone]; decide)
      have e := echF_yes (n := n) (col := col) (r := at') (rows := R) (ch := C.take at') (by rw [hlen, hpiv]) (by omega) (by rw [hlen]; exact s1)
      rw [e, hlen, s2]
      have et : C.take at' ++ [col] = C.take (at' + 1) := by
        rw [List.take_succ_eq_append_getElem h.1]
        congr 2
        have := h.2
        simp [nt, h.1] at this
        exact this.symm
      rw [et]
      exact ech_form hB hU hQ hr n (col + 1) (at' + 1) (by omega) k1
    · obtain ⟨k1, k2⟩ := atP_no hr hp (fun h3 h4 => h ⟨h3, h4⟩)
      have hz : ∀ x, at' ≤ x → x < m → (fr (rw' R x) col).1 = 0 := by
        intro x h1 h2
        rw [← qf_zero (hB.ok x h2 col hcol)]
        by_cases hx : x < C.length
        · have := k1.2.2 x h1 hx
          exact hQ.left x hx col (by omega)
        · exact hQ.zero x (by omega) h2 col hcol
      have ham : at' ≤ m := by have := hp.1; omega
      have hpiv : piv R col at' = R.length := by
        unfold piv
        rw [pivF_none R col (R.length - at') at' (fun x h1 h2 => hz x h1 (by omega))]
        omega
      rw [echF_free (by rw [hlen]; exact hpiv)]
      exact ech_form hB hU hQ hr n (col + 1) at' (by omega) k1
/-- the echelon of an echelon is it -/
theorem ech_again {rows : List (List Fr)} (h : echO rows = true) : echO (echR rows) = true ∧ echR (echR rows) = echR rows := by
  have h' := h
  unfold echO at h'
  rw [Bool.and_eq_true] at h'
  obtain ⟨ht, hk⟩ := h'
  obtain ⟨⟨-, hU, -⟩, hB⟩ := ech_keeps rfl ht hk
  have hQ := ech_red rfl ht hk
  obtain ⟨⟨t1, t2, t3, t4⟩, -⟩ := tabB_out ht
  have hl0 : (rw' (echR rows) 0).length = (rw' rows 0).length := hB.row 0 (by omega)
  have hm := hB.len
  have he : ech (echR rows) = some (echR rows, echC rows) := by
    unfold ech
    rw [hl0]
    exact ech_form hB hU hQ (ech_rises hk) _ 0 0 (by omega) (atP_zero _)
  obtain ⟨e1, e2, e3⟩ := ech_yes he
  refine ⟨?_, e2⟩
  unfold echO
  rw [e1, Bool.and_true]
  refine tabB_yes ⟨by omega, by omega, by omega, by omega⟩ fun k hk2 => ⟨by rw [hl0]; exact hB.row k (by omega), ?_⟩
  exact allp_fr (p := fun p => okB p.1 p.2) fun j hj => hB.ok k (by omega) j (by rw [hB.row k (by omega)] at hj; exact hj)
end Go.Proofs.Ytbbkejfcheobaab
