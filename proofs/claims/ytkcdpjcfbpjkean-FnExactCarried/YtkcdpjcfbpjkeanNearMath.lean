/- Continued fractions of whole numbers, without any program: the terms, and the fraction of terms. -/
import Derived.Test.YtkcdpjcfbpjkeanRatioMath
namespace Go.Proofs.Ytkcdpjcfbpjkean.RM
def cfA : Nat → Int → Int → List Int
  | 0, _, _ => []
  | k + 1, n, d => (n / d) :: (if n % d = 0 then [] else cfA k d (n % d))
/-- the terms of n over d -/
def cf (n d : Int) : List Int := cfA d.toNat n d
theorem cfA_more : ∀ (k : Nat) (n d : Int), 1 ≤ d → d ≤ k → cfA k n d = cfA d.toNat n d := by
  intro k
  induction k using Nat.strongRecOn with
  | _ k ih =>
    intro n d h1 h2
    obtain ⟨m, rfl⟩ : ∃ m, k = m + 1 := ⟨k - 1, by omega⟩
    obtain ⟨e, he⟩ : ∃ e : Nat, d.toNat = e + 1 := ⟨d.toNat - 1, by omega⟩
    rw [he]
    simp only [cfA]
    by_cases hz : n % d = 0
    · rw [if_pos hz, if_pos hz]
    · have h3 := Int.emod_nonneg n (show d ≠ 0 by omega)
      have h4 := Int.emod_lt_of_pos n (show 0 < d by omega)
      rw [if_neg hz, if_neg hz, ih m (by omega) d (n % d) (by omega) (by omega), ih e (by omega) d (n % d) (by omega) (by omega)]
theorem cf_eq (n d : Int) (h : 1 ≤ d) : cf n d = (n / d) :: (if n % d = 0 then [] else cf d (n % d)) := by
  obtain ⟨e, he⟩ : ∃ e : Nat, d.toNat = e + 1 := ⟨d.toNat - 1, by omega⟩
  unfold cf
  rw [he]
  simp only [cfA]
  by_cases hz : n % d = 0
  · rw [if_pos hz, if_pos hz]
  · have h3 := Int.emod_nonneg n (show d ≠ 0 by omega)
    have h4 := Int.emod_lt_of_pos n (show 0 < d by omega)
    rw [if_neg hz, if_neg hz, cfA_more e d (n % d) (by omega) (by omega)]
theorem cf_last (n d : Int) (h : 1 ≤ d) (hz : n % d = 0) : cf n d = [n / d] := by rw [cf_eq n d h, if_pos hz]
theorem cf_more (n d : Int) (h : 1 ≤ d) (hz : n % d ≠ 0) : cf n d = (n / d) :: cf d (n % d) := by rw [cf_eq n d h, if_neg hz]
theorem cfA_len : ∀ (k : Nat) (n d : Int), (cfA k n d).length ≤ k
  | 0, _, _ => by simp [cfA]
  | k + 1, n, d => by
    simp only [cfA, List.length_cons]
    split
    · simp
    · have := cfA_len k d (n % d); omega
theorem cf_len (n d : Int) : (cf n d).length ≤ d.toNat := cfA_len _ _ _
theorem cf_len_le (n d : Int) (h : d ≤ 1000000000) : (cf n d).length ≤ 1000000000 := by have := cf_len n d; omega
/-- what is left of a right fraction, turned round, is right -/
theorem ok_left {n d : Int} (h : okB n d = true) (hz : n % d ≠ 0) : okB d (n % d) = true := by
  obtain ⟨h1, h2, h3, h4, h5⟩ := okB_out h
  have e1 := Int.emod_nonneg n (show d ≠ 0 by omega)
  have e2 := Int.emod_lt_of_pos n (show 0 < d by omega)
  refine okB_mk ⟨by omega, by omega, by omega, by omega, ?_⟩
  unfold gcdi at h5 ⊢
  rw [← h5, Int.gcd_comm d (n % d), Int.gcd_comm n d]
  congr 1
  rw [Int.gcd_eq_natAbs_gcd_natAbs, Int.gcd_eq_natAbs_gcd_natAbs]
  have k : n % d = n - d * (n / d) := by have := Int.mul_ediv_add_emod n d; omega
  rw [Nat.gcd_comm]
  have : Int.gcd d (n % d) = Int.gcd d n := by
    rw [k]
    have := Int.gcd_sub_mul_right_right d n (n / d)
    rw [Int.mul_comm] at this
    exact this
  rw [Int.gcd_eq_natAbs_gcd_natAbs, Int.gcd_eq_natAbs_gcd_natAbs] at this
  exact this
theorem flo_ok {n d : Int} (h : okB n d = true) : floI n d = n / d := by unfold floI; rw [if_pos h]
theorem left_eq (n d : Int) : n - n / d * d = n % d := by
  have := Int.mul_ediv_add_emod n d
  rw [Int.mul_comm] at this; omega
theorem whole_bd {n d : Int} (h : okB n d = true) : -1000000000 ≤ n / d ∧ n / d ≤ 1000000000 := by
  have := flo_bd h; rw [flo_ok h] at this; exact this
theorem wmul_bd {n d : Int} (h : okB n d = true) : -2000000000 ≤ n / d * d ∧ n / d * d ≤ 2000000000 := by
  obtain ⟨h1, h2, h3, h4, _⟩ := okB_out h
  have e := left_eq n d
  have e1 := Int.emod_nonneg n (show d ≠ 0 by omega)
  have e2 := Int.emod_lt_of_pos n (show 0 < d by omega)
  omega
/-- what Terms answers -/
def termsL (n d : Int) : List Int := if okB n d = true then cf n d else []
theorem termsL_yes {n d : Int} (h : okB n d = true) : termsL n d = cf n d := if_pos h
theorem termsL_no {n d : Int} (h : okB n d = false) : termsL n d = [] := by unfold termsL; rw [h]; rfl
theorem termsL_len (n d : Int) : (termsL n d).length ≤ 1000000000 := by
  by_cases h : okB n d = true
  · rw [termsL_yes h]; exact cf_len_le n d (okB_out h).2.1
  · rw [termsL_no (by simpa using h)]; simp
end Go.Proofs.Ytkcdpjcfbpjkean.RM
