/- No fraction with so small a D is nearer than the nearest one. -/
import Derived.Test.YtllgbfoffebojaaConvMath
import Derived.Test.YtllgbfoffebojaaSideMath
import Derived.Test.YtllgbfoffebojaaOrdMath
import Derived.Test.YtllgbfoffebojaaOrderMath
namespace Go.Proofs.Ytllgbfoffebojaa.RM

/-- a fraction out of the stretch between two is as far as the nearer end, at least -/
theorem out_far {p q n d xn xd u v : Int} (hq : 1 ≤ q) (d1 : 1 ≤ d) (xd1 : 1 ≤ xd) (e : n * xd - xn * d = 1) (hv : v < d + xd) :
    ((n * q - p * d) * v ≤ (u * q - p * v) * d) ∨ ((p * xd - xn * q) * v ≤ (p * v - u * q) * xd) := by
  by_cases c1 : n * v ≤ u * d
  · left
    have h := Int.mul_nonneg (show 0 ≤ u * d - n * v by omega) (show 0 ≤ q by omega)
    have e1 : (u * q - p * v) * d - (n * q - p * d) * v = (u * d - n * v) * q := by grind
    omega
  · by_cases c2 : u * xd ≤ xn * v
    · right
      have h := Int.mul_nonneg (show 0 ≤ xn * v - u * xd by omega) (show 0 ≤ q by omega)
      have e1 : (p * v - u * q) * xd - (p * xd - xn * q) * v = (xn * v - u * xd) * q := by grind
      omega
    · exfalso
      have a1 := Int.mul_le_mul_of_nonneg_left (show 1 ≤ n * v - u * d by omega) (show 0 ≤ xd by omega)
      have a2 := Int.mul_le_mul_of_nonneg_left (show 1 ≤ u * xd - xn * v by omega) (show 0 ≤ d by omega)
      have e1 : xd * (n * v - u * d) + d * (u * xd - xn * v) = v * (n * xd - xn * d) := by grind
      rw [e] at e1
      omega
theorem le_iabs (x : Int) : x ≤ iabs x := by unfold iabs; split <;> omega
theorem iabs_le_neg (x : Int) : -x ≤ iabs x := by unfold iabs; split <;> omega
theorem iabs_of_nn {x : Int} (h : 0 ≤ x) : iabs x = x := by unfold iabs; rw [if_neg (by omega)]
theorem iabs_of_np {x : Int} (h : x ≤ 0) : iabs x = -x := by unfold iabs; split <;> omega
/-- .. told by distances -/
theorem out_dist {p q n d xn xd u v : Int} (hq : 1 ≤ q) (d1 : 1 ≤ d) (xd1 : 1 ≤ xd) (hv : v < d + xd)
    (h : (n * xd - xn * d = 1 ∧ xn * q ≤ p * xd ∧ p * d ≤ n * q) ∨ (xn * d - n * xd = 1 ∧ n * q ≤ p * d ∧ p * xd ≤ xn * q)) :
    iabs (p * d - n * q) * v ≤ iabs (p * v - u * q) * d ∨ iabs (p * xd - xn * q) * v ≤ iabs (p * v - u * q) * xd := by
  have a1 := le_iabs (p * v - u * q)
  have a2 := iabs_le_neg (p * v - u * q)
  have m1 : ∀ z : Int, 1 ≤ z → (p * v - u * q) * z ≤ iabs (p * v - u * q) * z := fun z hz => Int.mul_le_mul_of_nonneg_right a1 (by omega)
  have m2 : ∀ z : Int, 1 ≤ z → (u * q - p * v) * z ≤ iabs (p * v - u * q) * z := fun z hz => Int.mul_le_mul_of_nonneg_right (by omega) (by omega)
  rcases h with ⟨e, h1, h2⟩ | ⟨e, h1, h2⟩
  · rw [iabs_of_np (show p * d - n * q ≤ 0 by omega), iabs_of_nn (show 0 ≤ p * xd - xn * q by omega)]
    have := m1 xd xd1
    have := m2 d d1
    have e0 : -(p * d - n * q) = n * q - p * d := by omega
    rw [e0]
    rcases out_far (p := p) (u := u) (v := v) hq d1 xd1 e hv with k | k
    · left; omega
    · right; omega
  · rw [iabs_of_nn (show 0 ≤ p * d - n * q by omega), iabs_of_np (show p * xd - xn * q ≤ 0 by omega)]
    have := m1 d d1
    have := m2 xd xd1
    have e0 : -(p * xd - xn * q) = xn * q - p * xd := by omega
    rw [e0]
    rcases out_far (p := p) (u := u) (v := v) hq xd1 d1 e (by omega) with k | k
    · right; omega
    · left; omega
theorem trans_dist {a cd b zd w v : Int} (hz : 1 ≤ zd) (hv : 0 ≤ v) (hc : 0 ≤ cd) (h1 : a * zd ≤ b * cd) (h2 : b * v ≤ w * zd) : a * v ≤ w * cd := by
  have m1 := Int.mul_le_mul_of_nonneg_right h1 hv
  have m2 := Int.mul_le_mul_of_nonneg_right h2 hc
  have e1 : a * zd * v = (a * v) * zd := by grind
  have e2 : b * cd * v = b * v * cd := by grind
  have e3 : w * zd * cd = (w * cd) * zd := by grind
  exact Int.le_of_mul_le_mul_right (a := zd) (by omega) (by omega)
/-- what is asked of the nearest -/
def NP (p q most : Int) (x : Int × Int) : Prop :=
  1 ≤ x.2 ∧ x.2 ≤ most ∧ okB x.1 x.2 = true ∧ ∀ u v : Int, 1 ≤ v → v ≤ most → iabs (p * x.2 - x.1 * q) * v ≤ iabs (p * v - u * q) * x.2
theorem side_ok {p q most : Int} {pre : List Int} {r s k : Int} (hok : okB p q = true) (h : At p q pre r s) (hm2 : most ≤ 1000000000) (hq : most < q) (sd : Side p q most pre r s k) : okB ((cvs pre).hn + k * (cvs pre).n) ((cvs pre).hd + k * (cvs pre).d) = true := by
  obtain ⟨q1, q9, p8, p9, _⟩ := okB_out hok
  obtain ⟨s1, _⟩ := okB_out h.ok
  have d1 := sd.d1
  have left := sd.left
  have xd := sd.xd
  have xm := sd.xm
  have hq' : q = ((cvs pre).hd + k * (cvs pre).d) * s + (cvs pre).d * (r - k * s) := sd.inv.hq
  have hdist : p * ((cvs pre).hd + k * (cvs pre).d) - ((cvs pre).hn + k * (cvs pre).n) * q = -(((cvs pre).step k).n * ((cvs pre).step k).hd - ((cvs pre).step k).hn * ((cvs pre).step k).d) * (r - k * s) := by
    have := sd.inv.dist
    rw [Int.neg_mul]
    exact this
  have hdet := sd.inv.det
  have hdet' : ((cvs pre).hn + k * (cvs pre).n) * (cvs pre).d - (cvs pre).n * ((cvs pre).hd + k * (cvs pre).d) = 1 ∨ ((cvs pre).hn + k * (cvs pre).n) * (cvs pre).d - (cvs pre).n * ((cvs pre).hd + k * (cvs pre).d) = -1 := hdet
  generalize (cvs pre).hn + k * (cvs pre).n = N at *
  generalize (cvs pre).hd + k * (cvs pre).d = D at *
  generalize r - k * s = l at *
  have m1 : 0 ≤ D * s := Int.mul_nonneg (by omega) (by omega)
  have m2 : 1 * l ≤ (cvs pre).d * l := Int.mul_le_mul_of_nonneg_right d1 (by omega)
  have m3 : 1 * s ≤ D * s := Int.mul_le_mul_of_nonneg_right xd (by omega)
  have hl : l < q := by omega
  have hb : -l ≤ p * D - N * q ∧ p * D - N * q ≤ l := by
    rw [hdist]
    rcases hdet with c | c <;> rw [c] <;> omega
  have b1 : p * D ≤ 1000000000 * D := Int.mul_le_mul_of_nonneg_right p9 (by omega)
  have b2 : -1000000000 * D ≤ p * D := Int.mul_le_mul_of_nonneg_right p8 (by omega)
  have up : N * q < 1000000001 * q := by omega
  have lo : (-1000000001) * q < N * q := by omega
  have u1 := Int.lt_of_mul_lt_mul_right up (by omega)
  have u2 := Int.lt_of_mul_lt_mul_right lo (by omega)
  refine okB_mk ⟨xd, by omega, by omega, by omega, ?_⟩
  have hg1 : gcdi N D ∣ N * (cvs pre).d - (cvs pre).n * D :=
    Int.dvd_sub (Int.dvd_trans (gcdi_dvd_l _ _) (Int.dvd_mul_right _ _)) (Int.dvd_trans (gcdi_dvd_r _ _) (Int.dvd_mul_left _ _))
  have hg2 : gcdi N D ∣ 1 := by
    rcases hdet' with e | e
    · rw [e] at hg1; exact hg1
    · rw [e] at hg1; exact Int.dvd_neg.mp hg1
  have := gcdi_nonneg N D
  have h7 := Int.le_of_dvd (by omega) hg2
  have h8 := gcdi_pos_r N D (by omega)
  omega
theorem pick_prop {p q most : Int} {pre : List Int} {r s : Int} (hok : okB p q = true) (hm1 : 1 ≤ most) (hm2 : most ≤ 1000000000) (h : At p q pre r s) (hd : (cvs pre).d ≤ most) (hh : pre ≠ [] → (cvs pre).hd ≤ most) (hx : most < (cvs pre).hd + r / s * (cvs pre).d) : NP p q most (pick p q most (cvs pre)) := by
  obtain ⟨q1, _⟩ := okB_out hok
  obtain ⟨s1, _⟩ := okB_out h.ok
  have sd := h.side hm1 hd hh hx
  have hq : most < q := by have := (h.next_bounds hok).2.1; omega
  have hne : pre ≠ [] := by
    rintro rfl
    have := sd.d1
    rw [cvs_nil] at this; simp [cv0] at this
  have okc := conv_ok hok h hne
  have oks := side_ok hok h hm2 hq sd
  obtain ⟨k, hk⟩ : ∃ k, k = (most - (cvs pre).hd) / (cvs pre).d := ⟨_, rfl⟩
  rw [← hk] at sd oks
  have d1 := sd.d1
  have left := sd.left
  have xd := sd.xd
  have xm := sd.xm
  have hs1 : p * (cvs pre).d - (cvs pre).n * q = -(((cvs pre).n * (cvs pre).hd - (cvs pre).hn * (cvs pre).d) * s) := h.inv.dist
  have hs2 : p * ((cvs pre).hd + k * (cvs pre).d) - ((cvs pre).hn + k * (cvs pre).n) * q = -((((cvs pre).hn + k * (cvs pre).n) * (cvs pre).d - (cvs pre).n * ((cvs pre).hd + k * (cvs pre).d)) * (r - k * s)) := sd.inv.dist
  have hdet := h.inv.det
  have hdd : ((cvs pre).hn + k * (cvs pre).n) * (cvs pre).d - (cvs pre).n * ((cvs pre).hd + k * (cvs pre).d) = -((cvs pre).n * (cvs pre).hd - (cvs pre).hn * (cvs pre).d) := by grind
  have hsum : most < (cvs pre).d + ((cvs pre).hd + k * (cvs pre).d) := by
    have e := Int.mul_ediv_add_emod (most - (cvs pre).hd) (cvs pre).d
    have e2 := Int.emod_lt_of_pos (most - (cvs pre).hd) (show 0 < (cvs pre).d by omega)
    rw [← hk, Int.mul_comm] at e
    omega
  unfold pick
  simp only [Cv.step, ← hk]
  generalize (cvs pre).hn + k * (cvs pre).n = xn at *
  generalize (cvs pre).hd + k * (cvs pre).d = xd' at *
  generalize r - k * s = l at *
  rw [hdd] at hs2
  generalize (cvs pre).n * (cvs pre).hd - (cvs pre).hn * (cvs pre).d = e at *
  generalize (cvs pre).n = n at *
  generalize (cvs pre).d = d at *
  have hset : (n * xd' - xn * d = 1 ∧ xn * q ≤ p * xd' ∧ p * d ≤ n * q) ∨ (xn * d - n * xd' = 1 ∧ n * q ≤ p * d ∧ p * xd' ≤ xn * q) := by
    rcases hdet with c | c
    · rw [c] at hs1 hs2 hdd
      left; omega
    · rw [c] at hs1 hs2 hdd
      right; omega
  have far : ∀ u v : Int, 1 ≤ v → v ≤ most → iabs (p * d - n * q) * v ≤ iabs (p * v - u * q) * d ∨ iabs (p * xd' - xn * q) * v ≤ iabs (p * v - u * q) * xd' := fun u v v1 vm => out_dist q1 d1 xd (by omega) hset
  by_cases hb : sideB (iabs (p * d - n * q)) xd' (iabs (p * xd' - xn * q)) d n xn = true
  · rw [if_pos hb]
    have hle : iabs (p * xd' - xn * q) * d ≤ iabs (p * d - n * q) * xd' := by
      have := of_decide_eq_true hb
      omega
    refine ⟨xd, xm, oks, fun u v v1 vm => ?_⟩
    rcases far u v v1 vm with f | f
    · exact trans_dist d1 (by omega) (by show 0 ≤ xd'; omega) hle f
    · exact f
  · rw [if_neg hb]
    have hle : iabs (p * d - n * q) * xd' ≤ iabs (p * xd' - xn * q) * d := by
      rw [Bool.not_eq_true] at hb
      have := of_decide_eq_false hb
      omega
    refine ⟨d1, hd, okc, fun u v v1 vm => ?_⟩
    rcases far u v v1 vm with f | f
    · exact f
    · exact trans_dist xd (by omega) (by show 0 ≤ d; omega) hle f
theorem near_all {p q most : Int} (hok : okB p q = true) (hm1 : 1 ≤ most) (hm2 : most ≤ 1000000000) : ∀ (rest pre : List Int), cf p q = pre ++ rest → (cvs pre).d ≤ most → (pre ≠ [] → (cvs pre).hd ≤ most) → NP p q most (nearL p q most rest (cvs pre))
  | [], pre, h, hd, _ => by
    have hc := cvs_all hok
    rw [List.append_nil] at h
    rw [h] at hc
    show NP p q most ((cvs pre).n, (cvs pre).d)
    rw [hc.1, hc.2]
    rw [hc.2] at hd
    have hq := (okB_out hok).1
    refine ⟨hq, hd, hok, fun u v v1 vm => ?_⟩
    have e0 : p * q - p * q = 0 := by omega
    show iabs (p * q - p * q) * v ≤ _
    rw [e0, show iabs 0 = 0 from rfl, Int.zero_mul]
    exact Int.mul_nonneg (iabs_nn _) (by show 0 ≤ q; omega)
  | t :: l, pre, h, hd, hh => by
    obtain ⟨r, s, ha, rfl⟩ := termsL_head hok h
    show NP p q most (if most < (cvs pre).hd + r / s * (cvs pre).d then _ else _)
    by_cases hx : most < (cvs pre).hd + r / s * (cvs pre).d
    · rw [if_pos hx]
      exact pick_prop hok hm1 hm2 ha hd hh hx
    · rw [if_neg hx, ← cvs_snoc]
      refine near_all hok hm1 hm2 l (pre ++ [r / s]) (by rw [h]; simp) ?_ (fun _ => ?_)
      · rw [cvs_snoc]
        show (cvs pre).hd + r / s * (cvs pre).d ≤ most
        omega
      · rw [cvs_snoc]; exact hd
theorem near_prop {p q most : Int} (hok : okB p q = true) (hm1 : 1 ≤ most) (hm2 : most ≤ 1000000000) : NP p q most (near p q most) :=
  near_all hok hm1 hm2 (cf p q) [] rfl (by rw [cvs_nil]; show (0 : Int) ≤ most; omega) (fun h => absurd rfl h)
/-- a difference's size, reduced -/
theorem sub_parts {x y p q : Int} (hy : 1 ≤ y) (hq : 1 ≤ q) (h : opOk (two x y p q) (x * q - p * y) (y * q) = true) :
    ∃ g : Int, 1 ≤ g ∧ g * iabs (opN (two x y p q) (x * q - p * y) (y * q)) = iabs (p * y - x * q) ∧ g * opD (two x y p q) (x * q - p * y) (y * q) = y * q ∧ okB (iabs (opN (two x y p q) (x * q - p * y) (y * q))) (opD (two x y p q) (x * q - p * y) (y * q)) = true := by
  have hk := op_right h
  unfold opOk at h
  rw [Bool.and_eq_true] at h
  obtain ⟨ht, hr⟩ := h
  rw [ht] at hk ⊢
  have hyq : 0 < y * q := Int.mul_pos (by omega) (by omega)
  obtain ⟨g1, g2, g3⟩ := red_parts hr hyq
  rw [(op_yes _ _).1, (op_yes _ _).2.1] at hk ⊢
  obtain ⟨k1, k2, k3, k4, k5⟩ := okB_out hk
  generalize gcdi (x * q - p * y) (y * q) = g at *
  generalize redN (x * q - p * y) (y * q) = N at *
  refine ⟨g, by omega, ?_, g3, ?_⟩
  · rw [iabs_neg (p * y) (x * q), ← g2]
    unfold iabs
    by_cases c : N < 0
    · have : g * N < 0 := Int.mul_neg_of_pos_of_neg g1 c
      rw [if_pos c, if_pos this, Int.mul_neg]
    · have : 0 ≤ g * N := Int.mul_nonneg (by omega) (by omega)
      rw [if_neg c, if_neg (by omega)]
  · unfold iabs
    by_cases c : N < 0
    · rw [if_pos c]
      refine okB_mk ⟨k1, k2, by omega, by omega, ?_⟩
      rw [gcdi_neg_l]; exact k5
    · rw [if_neg c]; exact hk
/-- what the law asks of each fraction that it tries -/
theorem near_law {p q most xn xd k d : Int} (hok : okB p q = true) (hm1 : 1 ≤ most) (hm2 : most ≤ 1000000000) (hx : near p q most = (xn, xd)) (hd1 : 1 ≤ d) (hdm : d ≤ most) (hr : redOk k d = true)
    (h1 : opOk (two xn xd p q) (xn * q - p * xd) (xd * q) = true) (h2 : opOk (two (redN k d) (redD k d) p q) (redN k d * q - p * redD k d) (redD k d * q) = true) :
    lessB (iabs (opN (two (redN k d) (redD k d) p q) (redN k d * q - p * redD k d) (redD k d * q))) (opD (two (redN k d) (redD k d) p q) (redN k d * q - p * redD k d) (redD k d * q)) (iabs (opN (two xn xd p q) (xn * q - p * xd) (xd * q))) (opD (two xn xd p q) (xn * q - p * xd) (xd * q)) = false := by
  have np := near_prop hok hm1 hm2
  rw [hx] at np
  obtain ⟨n1, n2, n3, n4⟩ := np
  dsimp only at n1 n2 n3 n4
  obtain ⟨q1, _⟩ := okB_out hok
  obtain ⟨g1, g2, g3⟩ := red_parts hr (by omega)
  have hy1 : 1 ≤ redD k d := (okB_out (okB_redN hr)).1
  have hym : redD k d ≤ most := by
    have h4 : 1 * redD k d ≤ gcdi k d * redD k d := Int.mul_le_mul_of_nonneg_right (by omega) (by omega)
    omega
  have far := n4 (redN k d) (redD k d) hy1 hym
  obtain ⟨ga, a1, a2, a3, a4⟩ := sub_parts n1 q1 h1
  obtain ⟨gb, b1, b2, b3, b4⟩ := sub_parts hy1 q1 h2
  generalize redN k d = yn at *
  generalize redD k d = yd at *
  generalize opN (two yn yd p q) (yn * q - p * yd) (yd * q) = F at *
  generalize opD (two yn yd p q) (yn * q - p * yd) (yd * q) = FD at *
  generalize opN (two xn xd p q) (xn * q - p * xd) (xd * q) = G at *
  generalize opD (two xn xd p q) (xn * q - p * xd) (xd * q) = GD at *
  generalize iabs F = f at *
  generalize iabs G = g at *
  rw [← a2, ← b2] at far
  unfold lessB
  rw [two_yes b4 a4, Bool.true_and]
  refine decide_eq_false fun hlt => ?_
  have m1 := Int.mul_lt_mul_of_pos_right hlt (show 0 < ga * gb by exact Int.mul_pos (by omega) (by omega))
  have e1 : f * GD * (ga * gb) = (gb * f) * (xd * q) := by rw [← a3]; grind
  have e2 : g * FD * (ga * gb) = (ga * g) * (yd * q) := by rw [← b3]; grind
  rw [e1, e2] at m1
  have m2 := Int.mul_le_mul_of_nonneg_right far (show 0 ≤ q by omega)
  have e3 : ga * g * yd * q = ga * g * (yd * q) := by grind
  have e4 : gb * f * xd * q = gb * f * (xd * q) := by grind
  omega
end Go.Proofs.Ytllgbfoffebojaa.RM
