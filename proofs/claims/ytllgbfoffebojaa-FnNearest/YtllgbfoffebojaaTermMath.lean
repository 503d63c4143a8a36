/- The fraction of a fraction's terms is the fraction. -/
import Derived.Test.YtllgbfoffebojaaFromMath
import Derived.Test.YtllgbfoffebojaaBetwFin
namespace Go.Proofs.Ytllgbfoffebojaa.RM

theorem red_right {n d : Int} (h : okB n d = true) : redOk n d = true ∧ redN n d = n ∧ redD n d = d := by
  obtain ⟨h1, h2, h3, h4, h5⟩ := okB_out h
  have := red_cop h5 h1 (by omega) (by omega) (by omega)
  rw [h] at this
  exact this
theorem bk_right {t n d r : Int} (h : okB n d = true) (hr : okB d r = true) (hr2 : okB r d = true) (ht : okB t 1 = true) (e : t * d + r = n) : bk t (d, r, true) = (n, d, true) := by
  obtain ⟨k1, k2, k3⟩ := red_right hr2
  obtain ⟨m1, m2, m3⟩ := red_right h
  have d1 : divN d r = r ∧ divD d r = d := by
    unfold divN divD
    rw [two_whole, hr, Int.one_mul, Int.one_mul, (op_yes r d).1, (op_yes r d).2.1]
    exact ⟨k2, k3⟩
  have a1 : addN t r d = n ∧ addD t r d = d ∧ addO t r d = true := by
    unfold addN addD addO
    rw [two_yes ht hr2, Int.mul_one, Int.one_mul, e, (op_yes n d).1, (op_yes n d).2.1, (op_yes n d).2.2]
    exact ⟨m2, m3, m1⟩
  unfold bk
  simp only
  rw [d1.1, d1.2, a1.1, a1.2.1, a1.2.2]
/-- the program's way back is the way back -/
theorem ftL_cf : ∀ (k : Nat) (n d : Int), d ≤ k → okB n d = true → ftL (cf n d) = (n, d, true)
  | 0, n, d, hk, h => by have := okB_out h; omega
  | k + 1, n, d, hk, h => by
    obtain ⟨h1, h2, h3, h4, h5⟩ := okB_out h
    obtain ⟨f1, f2⟩ := flo_bd h
    rw [flo_ok h] at f1 f2
    have hdm := Int.mul_ediv_add_emod n d
    have e1 := Int.emod_nonneg n (show d ≠ 0 by omega)
    have e2 := Int.emod_lt_of_pos n (show 0 < d by omega)
    by_cases hz : n % d = 0
    · have hd : d ∣ n := Int.dvd_of_emod_eq_zero hz
      have hg : gcdi n d = d := by
        unfold gcdi
        rw [Int.gcd_eq_right_iff_dvd (by omega : 0 ≤ d) |>.mpr hd]
      have hd1 : d = 1 := by omega
      subst hd1
      rw [cf_last n 1 (by omega) hz, Int.ediv_one]
      obtain ⟨r1, r2, r3⟩ := red_whole (t := n) ⟨h3, h4⟩
      show (redN n 1, redD n 1, redOk n 1) = _
      rw [r1, r2, r3]
    · have hr := ok_left h hz
      have hr2 : okB (n % d) d = true := by
        obtain ⟨_, _, _, _, g5⟩ := okB_out hr
        refine okB_mk ⟨by omega, by omega, by omega, by omega, ?_⟩
        unfold gcdi at g5 ⊢
        rw [Int.gcd_comm]; exact g5
      rw [cf_more n d h1 hz]
      have hne : cf d (n % d) ≠ [] := by rw [cf_eq d (n % d) (okB_out hr).1]; simp
      rw [ftL_cons _ _ hne, ftL_cf k d (n % d) (by omega) hr]
      exact bk_right h hr hr2 (okB_whole f1 f2) (by rw [Int.mul_comm]; exact hdm)
theorem ftL_terms {n d : Int} (h : okB n d = true) : ftL (cf n d) = (n, d, true) := ftL_cf d.toNat n d (by have := okB_out h; omega) h
end Go.Proofs.Ytllgbfoffebojaa.RM
