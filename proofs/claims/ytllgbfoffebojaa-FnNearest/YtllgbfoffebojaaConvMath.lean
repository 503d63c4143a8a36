/- The convergents are the fractions of the beginnings of the terms. -/
import Derived.Test.YtllgbfoffebojaaSignMath
import Derived.Test.YtllgbfoffebojaaTermMath
namespace Go.Proofs.Ytllgbfoffebojaa.RM

theorem fold_lin : ∀ (l : List Int) (c e : Cv) (A B A' B' : Int), c.n = A * e.n + B * e.d → c.hn = A * e.hn + B * e.hd → c.d = A' * e.n + B' * e.d → c.hd = A' * e.hn + B' * e.hd →
    (l.foldl Cv.step c).n = A * (l.foldl Cv.step e).n + B * (l.foldl Cv.step e).d ∧ (l.foldl Cv.step c).d = A' * (l.foldl Cv.step e).n + B' * (l.foldl Cv.step e).d
  | [], c, e, A, B, A', B', h1, _, h3, _ => ⟨h1, h3⟩
  | t :: l, c, e, A, B, A', B', h1, h2, h3, h4 => by
    rw [List.foldl_cons, List.foldl_cons]
    refine fold_lin l (c.step t) (e.step t) A B A' B' ?_ h1 ?_ h3
    · show c.hn + t * c.n = A * (e.hn + t * e.n) + B * (e.hd + t * e.d)
      rw [h1, h2]; grind
    · show c.hd + t * c.d = A' * (e.hn + t * e.n) + B' * (e.hd + t * e.d)
      rw [h3, h4]; grind
theorem cvs_cons (t : Int) (l : List Int) : (cvs (t :: l)).n = t * (cvs l).n + (cvs l).d ∧ (cvs (t :: l)).d = (cvs l).n := by
  have := fold_lin l (cv0.step t) cv0 t 1 1 0 (by simp [Cv.step, cv0]) (by simp [Cv.step, cv0]) (by simp [Cv.step, cv0]) (by simp [Cv.step, cv0])
  unfold cvs
  rw [List.foldl_cons]
  exact ⟨by rw [this.1]; omega, by rw [this.2]; omega⟩
/-- a convergent on the way is right -/
theorem conv_ok {p q : Int} (hok : okB p q = true) {pre : List Int} {r s : Int} (h : At p q pre r s) (hne : pre ≠ []) : okB (cvs pre).n (cvs pre).d = true := by
  obtain ⟨q1, q9, p8, p9, _⟩ := okB_out hok
  obtain ⟨s1, _⟩ := okB_out h.ok
  rcases h.fst with ⟨h0, _, _⟩ | ⟨_, d1, hsr⟩
  · exact absurd h0 hne
  have hb := h.bounds hok
  have hq := h.inv.hq
  have h2 : (cvs pre).d * 2 ≤ (cvs pre).d * r := Int.mul_le_mul_of_nonneg_left (by omega) (by omega)
  have h3 := Int.mul_nonneg h.inv.hd0 (show 0 ≤ s by omega)
  have h4 : (cvs pre).d * s ≤ (cvs pre).d * r := Int.mul_le_mul_of_nonneg_left (by omega) (by omega)
  have h5 : 1 * s ≤ (cvs pre).d * s := Int.mul_le_mul_of_nonneg_right d1 (by omega)
  have hd := h.inv.dist
  have hs : -s ≤ p * (cvs pre).d - (cvs pre).n * q ∧ p * (cvs pre).d - (cvs pre).n * q ≤ s := by
    rcases h.inv.det with e | e <;> rw [e] at hd <;> omega
  have m1 : p * (cvs pre).d ≤ 1000000000 * (cvs pre).d := Int.mul_le_mul_of_nonneg_right p9 (by omega)
  have m2 : -1000000000 * (cvs pre).d ≤ p * (cvs pre).d := Int.mul_le_mul_of_nonneg_right p8 (by omega)
  have up : (2 * (cvs pre).n) * q ≤ 1000000002 * q := by grind
  have lo : (-1000000002) * q ≤ (2 * (cvs pre).n) * q := by grind
  have u1 := Int.le_of_mul_le_mul_right up (by omega)
  have u2 := Int.le_of_mul_le_mul_right lo (by omega)
  refine okB_mk ⟨d1, by omega, by omega, by omega, ?_⟩
  have hg1 : gcdi (cvs pre).n (cvs pre).d ∣ (cvs pre).n * (cvs pre).hd - (cvs pre).hn * (cvs pre).d :=
    Int.dvd_sub (Int.dvd_trans (gcdi_dvd_l _ _) (Int.dvd_mul_right _ _)) (Int.dvd_trans (gcdi_dvd_r _ _) (Int.dvd_mul_left _ _))
  have hg2 : gcdi (cvs pre).n (cvs pre).d ∣ 1 := by
    rcases h.inv.det with e | e
    · rw [e] at hg1; exact hg1
    · rw [e] at hg1; exact Int.dvd_neg.mp hg1
  have := gcdi_nonneg (cvs pre).n (cvs pre).d
  have h7 := Int.le_of_dvd (by omega) hg2
  have h8 := gcdi_pos_r (cvs pre).n (cvs pre).d (by omega)
  omega
/-- every convergent is right -/
theorem conv_right {p q : Int} (hok : okB p q = true) {i : Nat} (hi : i < (cf p q).length) : okB (cvs ((cf p q).take (i + 1))).n (cvs ((cf p q).take (i + 1))).d = true := by
  by_cases hl : i + 1 = (cf p q).length
  · rw [hl, List.take_length, (cvs_all hok).1, (cvs_all hok).2]; exact hok
  · obtain ⟨r, s, ha, _⟩ := at_prefix hok ((cf p q).take (i + 1)) ((cf p q).drop (i + 1)) (List.take_append_drop _ _).symm (by
      intro h; have := congrArg List.length h; simp at this; omega)
    exact conv_ok hok ha (by intro h; have := congrArg List.length h; rw [List.length_take, List.length_nil] at this; omega)
/-- the program's way back over a beginning of the terms -/
theorem ftL_take : ∀ (i : Nat) (p q : Int), okB p q = true → i < (cf p q).length → ftL ((cf p q).take (i + 1)) = ((cvs ((cf p q).take (i + 1))).n, (cvs ((cf p q).take (i + 1))).d, true)
  | i, p, q, hok, hi => by
    have hr := conv_right hok hi
    obtain ⟨q1, q9, p8, p9, _⟩ := okB_out hok
    obtain ⟨f1, f2⟩ := flo_bd hok
    rw [flo_ok hok] at f1 f2
    match i, hi with
    | 0, hi =>
      rw [cf_eq p q q1]
      simp only [List.take_succ_cons, List.take_zero]
      rw [cvs_one]
      obtain ⟨r1, r2, r3⟩ := red_whole (t := p / q) ⟨f1, f2⟩
      show (redN (p / q) 1, redD (p / q) 1, redOk (p / q) 1) = _
      rw [r1, r2, r3]
    | i + 1, hi =>
      by_cases hz : p % q = 0
      · rw [cf_last p q q1 hz] at hi; simp at hi
      · have ok2 := ok_left hok hz
        rw [cf_more p q q1 hz] at hi hr ⊢
        have hi' : i < (cf q (p % q)).length := by simp at hi; omega
        have ih := ftL_take i q (p % q) ok2 hi'
        have hr' := conv_right ok2 hi'
        rw [List.take_succ_cons] at hr ⊢
        obtain ⟨c1, c2⟩ := cvs_cons (p / q) ((cf q (p % q)).take (i + 1))
        rw [c1, c2] at hr ⊢
        have hne : (cf q (p % q)).take (i + 1) ≠ [] := by intro h; have := congrArg List.length h; rw [List.length_take, List.length_nil] at this; omega
        rw [ftL_cons _ _ hne, ih]
        generalize (cvs ((cf q (p % q)).take (i + 1))).n = N at *
        generalize (cvs ((cf q (p % q)).take (i + 1))).d = D at *
        obtain ⟨n1, n9, _, _, _⟩ := okB_out hr
        obtain ⟨d1, d9, _, _, g⟩ := okB_out hr'
        refine bk_right hr hr' (okB_mk ⟨n1, n9, by omega, by omega, ?_⟩) (okB_whole f1 f2) rfl
        unfold gcdi at g ⊢; rw [Int.gcd_comm]; exact g
end Go.Proofs.Ytllgbfoffebojaa.RM
