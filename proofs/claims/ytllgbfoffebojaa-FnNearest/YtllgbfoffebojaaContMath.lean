/- The convergents of a fraction, without any program: each step of Euclid, what it keeps, and how large its numbers are. -/
import Derived.Test.YtllgbfoffebojaaNearMath
namespace Go.Proofs.Ytllgbfoffebojaa.RM
/-- the convergent ahead and the last one: numerators and denominators -/
structure Cv where
  hn : Int
  hd : Int
  n : Int
  d : Int
def Cv.step (c : Cv) (t : Int) : Cv := ⟨c.n, c.d, c.hn + t * c.n, c.hd + t * c.d⟩
def cv0 : Cv := ⟨0, 1, 1, 0⟩
def cvs (l : List Int) : Cv := l.foldl Cv.step cv0
theorem cvs_nil : cvs [] = cv0 := rfl
theorem cvs_snoc (l : List Int) (t : Int) : cvs (l ++ [t]) = (cvs l).step t := by simp [cvs]
theorem cvs_one (t : Int) : cvs [t] = ⟨1, 0, t, 1⟩ := by simp [cvs, Cv.step, cv0]
/-- what Euclid keeps: p / q the fraction, r / s what is left of it, e the sign -/
structure Inv (p q : Int) (c : Cv) (r s : Int) : Prop where
  hp : p = c.n * r + c.hn * s
  hq : q = c.d * r + c.hd * s
  det : c.n * c.hd - c.hn * c.d = 1 ∨ c.n * c.hd - c.hn * c.d = -1
  hd0 : 0 ≤ c.hd
  d0 : 0 ≤ c.d
theorem inv_start (p q : Int) : Inv p q cv0 p q := ⟨by simp [cv0], by simp [cv0], by simp [cv0], by simp [cv0], by simp [cv0]⟩
theorem Inv.next {p q : Int} {c : Cv} {r s : Int} (h : Inv p q c r s) (t : Int) (ht : 0 ≤ c.hd + t * c.d) : Inv p q (c.step t) s (r - t * s) := by
  refine ⟨?_, ?_, ?_, h.d0, ht⟩
  · show p = (c.hn + t * c.n) * s + c.n * (r - t * s)
    have := h.hp
    rw [Int.add_mul, Int.mul_sub, show c.n * (t * s) = t * c.n * s by ac_rfl]; omega
  · show q = (c.hd + t * c.d) * s + c.d * (r - t * s)
    have := h.hq
    rw [Int.add_mul, Int.mul_sub, show c.d * (t * s) = t * c.d * s by ac_rfl]; omega
  · show (c.hn + t * c.n) * c.d - c.n * (c.hd + t * c.d) = 1 ∨ (c.hn + t * c.n) * c.d - c.n * (c.hd + t * c.d) = -1
    have e : (c.hn + t * c.n) * c.d - c.n * (c.hd + t * c.d) = -(c.n * c.hd - c.hn * c.d) := by
      rw [Int.add_mul, Int.mul_add, show c.n * (t * c.d) = t * c.n * c.d by ac_rfl]; omega
    rw [e]
    rcases h.det with k | k <;> rw [k] <;> simp
/-- the distance of a convergent from the fraction -/
theorem Inv.dist {p q : Int} {c : Cv} {r s : Int} (h : Inv p q c r s) : p * c.d - c.n * q = -((c.n * c.hd - c.hn * c.d) * s) := by
  rw [h.hp, h.hq]
  rw [Int.add_mul, Int.mul_add, Int.sub_mul, show c.n * (c.d * r) = c.n * r * c.d by ac_rfl, show c.n * (c.hd * s) = c.n * c.hd * s by ac_rfl, show c.hn * s * c.d = c.hn * c.d * s by ac_rfl]
  omega
/-- .. of the one ahead -/
theorem Inv.distH {p q : Int} {c : Cv} {r s : Int} (h : Inv p q c r s) : p * c.hd - c.hn * q = (c.n * c.hd - c.hn * c.d) * r := by
  rw [h.hp, h.hq]
  rw [Int.add_mul, Int.mul_add, Int.sub_mul, show c.hn * (c.d * r) = c.hn * c.d * r by ac_rfl, show c.hn * (c.hd * s) = c.hn * s * c.hd by ac_rfl, show c.n * r * c.hd = c.n * c.hd * r by ac_rfl]
  omega
theorem nn_mul {a b : Int} (ha : 0 ≤ a) (hb : 0 ≤ b) : 0 ≤ a * b := Int.mul_nonneg ha hb
/-- a state of the walk over the terms of a right fraction: some are over, r over s is left -/
structure At (p q : Int) (pre : List Int) (r s : Int) : Prop where
  inv : Inv p q (cvs pre) r s
  ok : okB r s = true
  all : cf p q = pre ++ cf r s
  fst : (pre = [] ∧ r = p ∧ s = q) ∨ (pre ≠ [] ∧ 1 ≤ (cvs pre).d ∧ s < r)
theorem at_start {p q : Int} (h : okB p q = true) : At p q [] p q := ⟨inv_start p q, h, rfl, .inl ⟨rfl, rfl, rfl⟩⟩
/-- the next denominator, and what it is told of -/
theorem At.next_d {p q : Int} {pre : List Int} {r s : Int} (h : At p q pre r s) : 1 ≤ (cvs pre).hd + r / s * (cvs pre).d ∧ ((cvs pre).hd + r / s * (cvs pre).d) * s + (cvs pre).d * (r % s) = q := by
  obtain ⟨s1, s2, _⟩ := okB_out h.ok
  have e := Int.mul_ediv_add_emod r s
  have e1 : ((cvs pre).hd + r / s * (cvs pre).d) * s + (cvs pre).d * (r % s) = q := by
    rw [h.inv.hq]
    have : (cvs pre).d * r = (cvs pre).d * (s * (r / s)) + (cvs pre).d * (r % s) := by rw [← Int.mul_add, e]
    rw [this, Int.add_mul, show r / s * (cvs pre).d * s = (cvs pre).d * (s * (r / s)) by ac_rfl]; omega
  refine ⟨?_, e1⟩
  rcases h.fst with ⟨h1, _, _⟩ | ⟨_, h2, h3⟩
  · rw [h1, cvs_nil]; simp [cv0]
  · have ht : 1 ≤ r / s := by
      rw [Int.le_ediv_iff_mul_le (by omega)]; omega
    have := Int.mul_le_mul_of_nonneg_right ht (show 0 ≤ (cvs pre).d by omega)
    have := h.inv.hd0
    omega
theorem At.next_inv {p q : Int} {pre : List Int} {r s : Int} (h : At p q pre r s) : Inv p q (cvs (pre ++ [r / s])) s (r % s) := by
  rw [cvs_snoc, ← left_eq r s]
  exact h.inv.next _ (by have := h.next_d.1; omega)
theorem At.step {p q : Int} {pre : List Int} {r s : Int} (h : At p q pre r s) (hz : r % s ≠ 0) : At p q (pre ++ [r / s]) s (r % s) := by
  obtain ⟨s1, s2, _⟩ := okB_out h.ok
  refine ⟨h.next_inv, ok_left h.ok hz, ?_, .inr ⟨by simp, ?_, ?_⟩⟩
  · rw [h.all, cf_more r s s1 hz]; simp
  · rw [cvs_snoc]; exact h.next_d.1
  · exact Int.emod_lt_of_pos r (by omega)
/-- at the end the convergent is the fraction -/
theorem At.last {p q : Int} {pre : List Int} {r s : Int} (h : At p q pre r s) (hz : r % s = 0) : (cvs (pre ++ [r / s])).n = p ∧ (cvs (pre ++ [r / s])).d = q ∧ cf p q = pre ++ [r / s] := by
  obtain ⟨s1, s2, _, _, hg⟩ := okB_out h.ok
  have h1 := h.next_inv
  rw [hz] at h1
  have hs : s = 1 := by
    have hd : s ∣ gcdi r s := by
      unfold gcdi
      exact Int.dvd_coe_gcd (Int.dvd_of_emod_eq_zero hz) (Int.dvd_refl s)
    rw [hg] at hd
    have := Int.le_of_dvd (by omega) hd
    omega
  subst hs
  exact ⟨by have := h1.hp; omega, by have := h1.hq; omega, by rw [h.all, cf_last r 1 (by omega) hz]⟩
/-- of a beginning of the terms -/
theorem at_prefix {p q : Int} (hok : okB p q = true) (pre rest : List Int) (h : cf p q = pre ++ rest) (hne : rest ≠ []) : ∃ r s, At p q pre r s ∧ rest = cf r s := by
  obtain ⟨n, hn⟩ : ∃ n, n = pre.length := ⟨_, rfl⟩
  induction n generalizing pre rest with
  | zero =>
    obtain rfl : pre = [] := List.eq_nil_of_length_eq_zero hn.symm
    exact ⟨p, q, at_start hok, h.symm⟩
  | succ n ih =>
    have hp : pre ≠ [] := by rintro rfl; simp at hn
    obtain ⟨l, t, rfl⟩ : ∃ l t, pre = l ++ [t] := ⟨_, _, (List.dropLast_concat_getLast hp).symm⟩
    obtain ⟨r, s, ha, hr⟩ := ih l (t :: rest) (by rw [h]; simp) (by simp) (by simp at hn; omega)
    obtain ⟨s1, _⟩ := okB_out ha.ok
    by_cases hz : r % s = 0
    · rw [cf_last r s s1 hz] at hr
      injection hr with _ hr
      exact absurd hr hne
    · rw [cf_more r s s1 hz] at hr
      injection hr with ht hr
      subst ht
      exact ⟨s, r % s, ha.step hz, hr⟩
theorem abs_mul {n q p d m e : Int} (hq : 1 ≤ q) (hp : -m ≤ p) (hp' : p ≤ m) (hd : 0 ≤ d) (hd' : d ≤ q) (he : -q ≤ e) (he' : e ≤ q) (hm : 0 ≤ m) (h : p * d - n * q = e) : -(m + 1) ≤ n ∧ n ≤ m + 1 := by
  have h1 : p * d ≤ m * q := by
    have a1 : p * d ≤ m * d := Int.mul_le_mul_of_nonneg_right hp' hd
    have a2 : m * d ≤ m * q := Int.mul_le_mul_of_nonneg_left hd' hm
    omega
  have h2 : -(m * q) ≤ p * d := by
    have a1 : -m * d ≤ p * d := Int.mul_le_mul_of_nonneg_right hp hd
    have a2 : m * d ≤ m * q := Int.mul_le_mul_of_nonneg_left hd' hm
    rw [Int.neg_mul] at a1
    omega
  have h3 : n * q ≤ (m + 1) * q := by rw [Int.add_mul]; omega
  have h4 : -(m + 1) * q ≤ n * q := by rw [Int.neg_mul, Int.add_mul]; omega
  exact ⟨Int.le_of_mul_le_mul_right h4 (by omega), Int.le_of_mul_le_mul_right h3 (by omega)⟩
theorem le_mul {d r : Int} (hd : 0 ≤ d) (hr : 1 ≤ r) : d ≤ d * r := by
  have := Int.mul_le_mul_of_nonneg_left hr hd
  omega
/-- how large the numbers are -/
theorem inv_bounds {p q : Int} {c : Cv} {r s : Int} (hok : okB p q = true) (h : Inv p q c r s) (hr : 1 ≤ r) (hs : 0 ≤ s) (hsr : s ≤ r) (hd : 1 ≤ c.d) : c.d ≤ q ∧ -1000000001 ≤ c.n ∧ c.n ≤ 1000000001 := by
  obtain ⟨q1, q2, p1, p2, _⟩ := okB_out hok
  have a1 := le_mul h.d0 hr
  have a2 := nn_mul h.hd0 hs
  have hq := h.hq
  have a3 : r ≤ c.d * r := by have := le_mul (show 0 ≤ r by omega) hd; rw [Int.mul_comm] at this; exact this
  have a4 : c.d ≤ q := by omega
  refine ⟨a4, ?_⟩
  have hdist := h.dist
  rcases h.det with k | k
  · rw [k] at hdist
    exact abs_mul (e := -(1 * s)) (by omega) p1 p2 (by omega) a4 (by omega) (by omega) (by omega) hdist
  · rw [k] at hdist
    exact abs_mul (e := -(-1 * s)) (by omega) p1 p2 (by omega) a4 (by omega) (by omega) (by omega) hdist
theorem inv_boundsH {p q : Int} {c : Cv} {r s : Int} (hok : okB p q = true) (h : Inv p q c r s) (hr : 1 ≤ r) (hs : 1 ≤ s) (hd : 1 ≤ c.d) : c.hd ≤ q ∧ -1000000001 ≤ c.hn ∧ c.hn ≤ 1000000001 := by
  obtain ⟨q1, q2, p1, p2, _⟩ := okB_out hok
  have a1 := nn_mul h.d0 (show 0 ≤ r by omega)
  have a2 := le_mul h.hd0 hs
  have hq := h.hq
  have a3 : r ≤ c.d * r := by have := le_mul (show 0 ≤ r by omega) hd; rw [Int.mul_comm] at this; exact this
  have a5 := nn_mul h.hd0 (show 0 ≤ s by omega)
  have a4 : c.hd ≤ q := by omega
  refine ⟨a4, ?_⟩
  have hdist := h.distH
  rcases h.det with k | k
  · rw [k] at hdist
    exact abs_mul (e := 1 * r) (by omega) p1 p2 h.hd0 a4 (by omega) (by omega) (by omega) hdist
  · rw [k] at hdist
    exact abs_mul (e := -1 * r) (by omega) p1 p2 h.hd0 a4 (by omega) (by omega) (by omega) hdist
theorem At.bounds {p q : Int} {pre : List Int} {r s : Int} (hok : okB p q = true) (h : At p q pre r s) :
    0 ≤ (cvs pre).d ∧ (cvs pre).d ≤ q ∧ 0 ≤ (cvs pre).hd ∧ (cvs pre).hd ≤ q ∧ -1000000001 ≤ (cvs pre).n ∧ (cvs pre).n ≤ 1000000001 ∧ -1000000001 ≤ (cvs pre).hn ∧ (cvs pre).hn ≤ 1000000001 := by
  obtain ⟨q1, _⟩ := okB_out hok
  obtain ⟨s1, _⟩ := okB_out h.ok
  rcases h.fst with ⟨rfl, _, _⟩ | ⟨_, h2, h3⟩
  · rw [cvs_nil]; simp [cv0]; omega
  · obtain ⟨b1, b2, b3⟩ := inv_bounds hok h.inv (by omega) (by omega) (by omega) h2
    obtain ⟨b4, b5, b6⟩ := inv_boundsH hok h.inv (by omega) (by omega) h2
    exact ⟨h.inv.d0, b1, h.inv.hd0, b4, b2, b3, b5, b6⟩
/-- .. of the next one -/
theorem At.next_bounds {p q : Int} {pre : List Int} {r s : Int} (hok : okB p q = true) (h : At p q pre r s) :
    1 ≤ (cvs pre).hd + r / s * (cvs pre).d ∧ (cvs pre).hd + r / s * (cvs pre).d ≤ q ∧ -1000000001 ≤ (cvs pre).hn + r / s * (cvs pre).n ∧ (cvs pre).hn + r / s * (cvs pre).n ≤ 1000000001 := by
  obtain ⟨s1, _⟩ := okB_out h.ok
  have hi := h.next_inv
  have hd := h.next_d.1
  rw [cvs_snoc] at hi
  have e1 := Int.emod_nonneg r (show s ≠ 0 by omega)
  have e2 := Int.emod_lt_of_pos r (show 0 < s by omega)
  obtain ⟨b1, b2, b3⟩ := inv_bounds hok hi s1 e1 (by omega) hd
  exact ⟨hd, b1, b2, b3⟩
/-- the whole list of terms leads to the fraction -/
theorem cvs_all {p q : Int} (hok : okB p q = true) : (cvs (cf p q)).n = p ∧ (cvs (cf p q)).d = q := by
  obtain ⟨l, t, hl⟩ : ∃ l t, cf p q = l ++ [t] := by
    have hne : cf p q ≠ [] := by rw [cf_eq p q (okB_out hok).1]; simp
    exact ⟨_, _, (List.dropLast_concat_getLast hne).symm⟩
  obtain ⟨r, s, ha, hr⟩ := at_prefix hok l [t] hl (by simp)
  obtain ⟨s1, _⟩ := okB_out ha.ok
  by_cases hz : r % s = 0
  · obtain ⟨h1, h2, h3⟩ := ha.last hz
    rw [h3]; exact ⟨h1, h2⟩
  · rw [cf_more r s s1 hz] at hr
    injection hr with _ hr
    have := cf_eq s (r % s) (okB_out (ok_left ha.ok hz)).1
    rw [this] at hr
    cases hr
theorem termsL_head {p q t : Int} {pre rest : List Int} (hok : okB p q = true) (h : cf p q = pre ++ t :: rest) : ∃ r s, At p q pre r s ∧ t = r / s := by
  obtain ⟨r, s, ha, hr⟩ := at_prefix hok pre (t :: rest) h (by simp)
  rw [cf_eq r s (okB_out ha.ok).1] at hr
  injection hr with hr _
  exact ⟨r, s, ha, hr⟩
def iabs (x : Int) : Int := if x < 0 then -x else x
/-- which of the last convergent and the one on the way is nearer -/
def sideB (a xd b d n xn : Int) : Bool := decide (b * d < a * xd ∨ (b * d = a * xd ∧ (xd < d ∨ (xd = d ∧ xn < n))))
def pick (p q most : Int) (c : Cv) : Int × Int :=
  let x := c.step ((most - c.hd) / c.d)
  if sideB (iabs (p * c.d - c.n * q)) x.d (iabs (p * x.d - x.n * q)) c.d c.n x.n = true then (x.n, x.d) else (c.n, c.d)
def nearL (p q most : Int) : List Int → Cv → Int × Int
  | [], c => (c.n, c.d)
  | t :: l, c => if most < c.hd + t * c.d then pick p q most c else nearL p q most l (c.step t)
def near (p q most : Int) : Int × Int := nearL p q most (cf p q) cv0
theorem near_far {p q most : Int} (hok : okB p q = true) (hm : q ≤ most) : ∀ (rest pre : List Int), cf p q = pre ++ rest → nearL p q most rest (cvs pre) = (p, q)
  | [], pre, h => by
    have := cvs_all hok
    rw [List.append_nil] at h
    rw [h] at this
    show ((cvs pre).n, (cvs pre).d) = _
    rw [this.1, this.2]
  | t :: l, pre, h => by
    obtain ⟨r, s, ha, rfl⟩ := termsL_head hok h
    have hb := ha.next_bounds hok
    show (if most < (cvs pre).hd + r / s * (cvs pre).d then _ else _) = _
    rw [if_neg (by omega), ← cvs_snoc]
    exact near_far hok hm l (pre ++ [r / s]) (by rw [h]; simp)
theorem near_le {p q most : Int} (hok : okB p q = true) (hm : q ≤ most) : near p q most = (p, q) := near_far hok hm (cf p q) [] rfl
/-- the fraction on the way, at a state where the next convergent has too great a denominator -/
structure Side (p q most : Int) (pre : List Int) (r s k : Int) : Prop where
  kk : k = (most - (cvs pre).hd) / (cvs pre).d
  k0 : 0 ≤ k
  k1 : k < r / s
  d1 : 1 ≤ (cvs pre).d
  hm : (cvs pre).hd ≤ most
  xd : 1 ≤ (cvs pre).hd + k * (cvs pre).d
  xm : (cvs pre).hd + k * (cvs pre).d ≤ most
  inv : Inv p q ((cvs pre).step k) s (r - k * s)
  left : s ≤ r - k * s
theorem At.side {p q most : Int} {pre : List Int} {r s : Int} (h : At p q pre r s) (hm : 1 ≤ most) (hd : (cvs pre).d ≤ most) (hh : pre ≠ [] → (cvs pre).hd ≤ most) (hx : most < (cvs pre).hd + r / s * (cvs pre).d) :
    Side p q most pre r s ((most - (cvs pre).hd) / (cvs pre).d) := by
  obtain ⟨s1, _⟩ := okB_out h.ok
  rcases h.fst with ⟨rfl, _, _⟩ | ⟨hne, h2, h3⟩
  · rw [cvs_nil] at hx; simp [cv0] at hx; omega
  have hh' := hh hne
  have h0 := h.inv.hd0
  obtain ⟨k, hk⟩ : ∃ k, k = (most - (cvs pre).hd) / (cvs pre).d := ⟨_, rfl⟩
  rw [← hk]
  have e := Int.mul_ediv_add_emod (most - (cvs pre).hd) (cvs pre).d
  have e1 := Int.emod_nonneg (most - (cvs pre).hd) (show (cvs pre).d ≠ 0 by omega)
  have e2 := Int.emod_lt_of_pos (most - (cvs pre).hd) (show 0 < (cvs pre).d by omega)
  rw [← hk, Int.mul_comm] at e
  have k0 : 0 ≤ k := by rw [hk]; exact Int.ediv_nonneg (by omega) (by omega)
  have k1 : k < r / s := by
    by_cases c : k < r / s
    · exact c
    · exfalso
      have := Int.mul_le_mul_of_nonneg_right (show r / s ≤ k by omega) (show 0 ≤ (cvs pre).d by omega)
      omega
  have kd := nn_mul k0 (show 0 ≤ (cvs pre).d by omega)
  have xd : 1 ≤ (cvs pre).hd + k * (cvs pre).d := by
    by_cases c : (cvs pre).hd = 0
    · -- then the last one has the denominator 1
      have hdet := h.inv.det
      rw [c] at hdet
      have hd1 : (cvs pre).d = 1 := by
        rcases hdet with hh | hh
        · have : (cvs pre).d ∣ 1 := ⟨-(cvs pre).hn, by rw [Int.mul_neg, Int.mul_comm]; simp at hh; omega⟩
          have := Int.le_of_dvd (by omega) this
          omega
        · have : (cvs pre).d ∣ 1 := ⟨(cvs pre).hn, by rw [Int.mul_comm]; simp at hh; omega⟩
          have := Int.le_of_dvd (by omega) this
          omega
      rw [hd1] at e e2 ⊢
      omega
    · omega
  have left : s ≤ r - k * s := by
    have := Int.mul_ediv_add_emod r s
    have a1 := Int.emod_nonneg r (show s ≠ 0 by omega)
    have a2 := Int.mul_le_mul_of_nonneg_right (show k + 1 ≤ r / s by omega) (show 0 ≤ s by omega)
    rw [Int.add_mul] at a2
    rw [Int.mul_comm] at this
    omega
  exact ⟨hk, k0, k1, h2, hh', xd, by omega, h.inv.next k (by omega), left⟩
end Go.Proofs.Ytllgbfoffebojaa.RM
