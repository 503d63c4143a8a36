/- What FnTerms asks of the terms and their convergents. -/
import Derived.Test.YtllgbfoffebojaaConvMath
import Derived.Test.YtllgbfoffebojaaConvW
namespace Go.Proofs.Ytllgbfoffebojaa
open Go.Proofs.Ytllgbfoffebojaa.RM

theorem cf_short : ∀ (k : Nat) (n d : Int), 1 ≤ d → d < 2 ^ k → (cf n d).length + 1 ≤ 2 * k
  | 0, n, d, h1, h2 => by simp at h2; omega
  | k + 1, n, d, h1, h2 => by
    by_cases hz : n % d = 0
    · rw [cf_last n d h1 hz]; simp; omega
    · have e1 := Int.emod_nonneg n (show d ≠ 0 by omega)
      have e2 := Int.emod_lt_of_pos n (show 0 < d by omega)
      rw [cf_more n d h1 hz]
      generalize n % d = r at *
      have hr : 1 ≤ r := by omega
      have hk : 1 ≤ k := by
        rcases Nat.eq_zero_or_pos k with e | e
        · subst e; simp at h2; omega
        · omega
      by_cases hz2 : d % r = 0
      · rw [cf_last d r hr hz2]; simp; omega
      · rw [cf_more d r hr hz2]
        have f1 := Int.emod_nonneg d (show r ≠ 0 by omega)
        have f2 := Int.emod_lt_of_pos d (show 0 < r by omega)
        have f3 := Int.mul_ediv_add_emod d r
        have f4 : 1 ≤ d / r := Int.le_ediv_of_mul_le (by omega) (by omega)
        have f5 : r * 1 ≤ r * (d / r) := Int.mul_le_mul_of_nonneg_left f4 (by omega)
        have hp : (2 : Int) ^ (k + 1) = 2 * 2 ^ k := by rw [Int.pow_succ]; omega
        have ih := cf_short k r (d % r) (by omega) (by omega)
        simp
        omega
theorem cf_terms : ∀ (k : Nat) (n d : Int), d ≤ k → okB n d = true → (∀ t ∈ cf n d, inR t) ∧ ∀ t ∈ (cf n d).drop 1, 1 ≤ t
  | 0, n, d, hk, h => by have := okB_out h; omega
  | k + 1, n, d, hk, h => by
    obtain ⟨h1, h2, h3, h4, h5⟩ := okB_out h
    obtain ⟨f1, f2⟩ := flo_bd h
    rw [flo_ok h] at f1 f2
    by_cases hz : n % d = 0
    · rw [cf_last n d h1 hz]
      exact ⟨fun t ht => by simp at ht; subst ht; exact ⟨f1, f2⟩, fun t ht => by simp at ht⟩
    · have hr := ok_left h hz
      have e1 := Int.emod_nonneg n (show d ≠ 0 by omega)
      have e2 := Int.emod_lt_of_pos n (show 0 < d by omega)
      obtain ⟨i1, i2⟩ := cf_terms k d (n % d) (by omega) hr
      rw [cf_more n d h1 hz]
      refine ⟨fun t ht => ?_, fun t ht => ?_⟩
      · rcases List.mem_cons.1 ht with rfl | ht
        · exact ⟨f1, f2⟩
        · exact i1 t ht
      · simp only [List.drop_succ_cons, List.drop_zero] at ht
        have hr1 := (okB_out hr).1
        rw [cf_eq d (n % d) hr1] at ht i2
        rcases List.mem_cons.1 ht with rfl | ht
        · exact Int.le_ediv_of_mul_le (by omega) (by omega)
        · exact i2 t (by simpa using ht)
theorem cf_ok {n d : Int} (h : okB n d = true) : 1 ≤ (cf n d).length ∧ (cf n d).length ≤ 60 ∧ ∀ t ∈ (cf n d).drop 1, 1 ≤ t := by
  obtain ⟨h1, h2, _⟩ := okB_out h
  refine ⟨by rw [cf_eq n d h1]; simp, ?_, (cf_terms d.toNat n d (by omega) h).2⟩
  have := cf_short 30 n d h1 (by show d < 1073741824; omega)
  omega
theorem fromT_take {n d : Int} (h : okB n d = true) {i : Nat} (hi : i < (cf n d).length) : fromT ((cf n d).take (i + 1)) = ((cvs ((cf n d).take (i + 1))).n, (cvs ((cf n d).take (i + 1))).d, true) := by
  obtain ⟨l1, l2, l3⟩ := cf_ok h
  rw [fromT_yes (by rw [List.length_take]; omega) (by rw [List.length_take]; omega) (decide_eq_true fun t ht => l3 t ?_)]
  · exact ftL_take i n d h hi
  · rw [List.drop_take] at ht
    exact List.mem_of_mem_take ht
theorem fromT_all {n d : Int} (h : okB n d = true) : fromT (cf n d) = (n, d, true) := by
  obtain ⟨l1, l2, l3⟩ := cf_ok h
  rw [fromT_yes l1 l2 (decide_eq_true l3)]
  exact ftL_terms h
theorem conv_cvs {n d : Int} (h : okB n d = true) {i : Nat} (hi : i < (cf n d).length) : conv (cf n d) i = ((cvs ((cf n d).take (i + 1))).n, (cvs ((cf n d).take (i + 1))).d) := by
  unfold conv; rw [fromT_take h hi]
theorem conv_last {n d : Int} (h : okB n d = true) {i : Nat} (hi : i + 1 = (cf n d).length) : conv (cf n d) i = (n, d) := by
  rw [conv_cvs h (by omega), hi, List.take_length, (cvs_all h).1, (cvs_all h).2]
/-- a convergent that is not the fraction itself is below it behind an odd number of terms, else above -/
theorem conv_side {n d : Int} (h : okB n d = true) {i : Nat} (hi : i < (cf n d).length) (hne : ¬ ((conv (cf n d) i).1 = n ∧ (conv (cf n d) i).2 = d)) :
    lessB (conv (cf n d) i).1 (conv (cf n d) i).2 n d = decide ((i : Int) % 2 = 0) := by
  by_cases hl : i + 1 = (cf n d).length
  · rw [conv_last h hl] at hne; exact absurd ⟨rfl, rfl⟩ hne
  · obtain ⟨r, s, ha, _⟩ := at_prefix h ((cf n d).take (i + 1)) ((cf n d).drop (i + 1)) (List.take_append_drop _ _).symm (by
      intro e; have := congrArg List.length e; simp at this; omega)
    have hs := side_of_cv ha.inv (okB_out ha.ok).1
    have hr := conv_right h hi
    rw [conv_cvs h hi]
    have hlen : ((cf n d).take (i + 1)).length = i + 1 := by rw [List.length_take]; omega
    rw [hlen] at hs
    show lessB (cvs ((cf n d).take (i + 1))).n (cvs ((cf n d).take (i + 1))).d n d = _
    unfold lessB
    rw [two_yes hr h, Bool.true_and]
    by_cases he : i % 2 = 0
    · rw [decide_eq_true (hs.1 (by omega)), decide_eq_true (by omega)]
    · have := hs.2 (by omega)
      rw [decide_eq_false (by show ¬ _; omega), decide_eq_false (by omega)]
theorem conv_ok' {n d : Int} (h : okB n d = true) {i : Nat} (hi : i < (cf n d).length) : okB (conv (cf n d) i).1 (conv (cf n d) i).2 = true := by
  rw [conv_cvs h hi]; exact conv_right h hi
/-- two convergents next to each other -/
theorem conv_next {n d : Int} (h : okB n d = true) {i : Nat} (hi : i + 1 < (cf n d).length) :
    (conv (cf n d) i).2 ≤ (conv (cf n d) (i + 1)).2 ∧ ((conv (cf n d) (i + 1)).1 * (conv (cf n d) i).2 - (conv (cf n d) i).1 * (conv (cf n d) (i + 1)).2 = 1 ∨ (conv (cf n d) (i + 1)).1 * (conv (cf n d) i).2 - (conv (cf n d) i).1 * (conv (cf n d) (i + 1)).2 = -1) := by
  obtain ⟨r, s, ha, _⟩ := at_prefix h ((cf n d).take (i + 1)) ((cf n d).drop (i + 1)) (List.take_append_drop _ _).symm (by
    intro e; have := congrArg List.length e; simp at this; omega)
  have hs : (cf n d).take (i + 1 + 1) = (cf n d).take (i + 1) ++ [(cf n d)[i + 1]] := List.take_succ_eq_append_getElem hi
  have ht : 1 ≤ (cf n d)[i + 1] := (cf_ok h).2.2 _ (by
    rw [List.mem_iff_getElem?]; exact ⟨i, by rw [List.getElem?_drop, Nat.add_comm, List.getElem?_eq_getElem hi]⟩)
  rw [conv_cvs h (by omega), conv_cvs h hi, hs]
  refine ⟨den_grows ha.inv.hd0 ha.inv.d0 ht, next_det _ _⟩
end Go.Proofs.Ytllgbfoffebojaa
