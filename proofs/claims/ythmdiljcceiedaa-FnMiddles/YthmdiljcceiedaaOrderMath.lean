/- The order of fractions: sums keep it, and of two unlike ones one is less. -/
import Derived.Test.YthmdiljcceiedaaRatioMath
namespace Go.Proofs.Ythmdiljcceiedaa.RM
theorem lt_iff_mul {x y k : Int} (hk : 0 < k) : k * x < k * y ↔ x < y :=
  ⟨fun h => Int.lt_of_mul_lt_mul_left h (Int.le_of_lt hk), fun h => Int.mul_lt_mul_of_pos_left h hk⟩
theorem red_parts {x y : Int} (h : redOk x y = true) (hy : 0 < y) : 0 < gcdi x y ∧ gcdi x y * redN x y = x ∧ gcdi x y * redD x y = y := by
  have hs := sg_pos (n := x) (d := y) (by omega)
  have e1 : redN x y = x / sg x y := by unfold redN; rw [if_pos h]
  have e2 : redD x y = y / sg x y := by unfold redD; rw [if_pos h]
  rw [e1, e2, hs]
  exact ⟨gcdi_pos_r x y (by omega), Int.mul_ediv_cancel' (gcdi_dvd_l x y), Int.mul_ediv_cancel' (gcdi_dvd_r x y)⟩
theorem add_less {a b c d p q : Int} (hb : 0 < b) (hd : 0 < d) (hq : 0 < q) (hab : two a b c d = true) (h1 : redOk (a * q + p * b) (b * q) = true) (h2 : redOk (c * q + p * d) (d * q) = true) :
    lessB (redN (a * q + p * b) (b * q)) (redD (a * q + p * b) (b * q)) (redN (c * q + p * d) (d * q)) (redD (c * q + p * d) (d * q)) = lessB a b c d := by
  have t := two_yes (okB_redN h1) (okB_redN h2)
  obtain ⟨g1, n1, d1⟩ := red_parts h1 (Int.mul_pos hb hq)
  obtain ⟨g2, n2, d2⟩ := red_parts h2 (Int.mul_pos hd hq)
  unfold lessB
  rw [t, hab]
  generalize gcdi (a * q + p * b) (b * q) = k1 at *
  generalize gcdi (c * q + p * d) (d * q) = k2 at *
  generalize redN (a * q + p * b) (b * q) = N1 at *
  generalize redD (a * q + p * b) (b * q) = D1 at *
  generalize redN (c * q + p * d) (d * q) = N2 at *
  generalize redD (c * q + p * d) (d * q) = D2 at *
  have e : (N1 * D2 < N2 * D1) ↔ (a * d < c * b) := by
    rw [← lt_iff_mul (Int.mul_pos g1 g2), ← lt_iff_mul (Int.mul_pos hq hq) (x := a * d)]
    have e1 : k1 * k2 * (N1 * D2) = (a * q + p * b) * (d * q) := by rw [← n1, ← d2]; ac_rfl
    have e2 : k1 * k2 * (N2 * D1) = (c * q + p * d) * (b * q) := by rw [← n2, ← d1]; ac_rfl
    have e3 : (a * q + p * b) * (d * q) = q * q * (a * d) + p * b * d * q := by rw [Int.add_mul]; congr 1 <;> ac_rfl
    have e4 : (c * q + p * d) * (b * q) = q * q * (c * b) + p * b * d * q := by rw [Int.add_mul]; congr 1 <;> ac_rfl
    rw [e1, e2, e3, e4]
    omega
  simp only [e]
theorem less_same (a b : Int) : lessB a b a b = false := by unfold lessB; rw [decide_eq_false (by omega)]; simp
theorem dvd_cop {k m n : Int} (h : Int.gcd k m = 1) (hd : k ∣ m * n) : k ∣ n := by
  rw [← Int.natAbs_dvd_natAbs] at hd ⊢
  rw [Int.natAbs_mul] at hd
  exact Nat.Coprime.dvd_of_dvd_mul_left (by unfold Nat.Coprime; rw [Int.gcd_eq_natAbs_gcd_natAbs] at h; exact h) hd
theorem okB_eq {a b c d : Int} (h1 : okB a b = true) (h2 : okB c d = true) (h : a * d = c * b) : a = c ∧ b = d := by
  have p1 := okB_out h1
  have p2 := okB_out h2
  have g1 : Int.gcd a b = 1 := by have := p1.2.2.2.2; unfold gcdi at this; omega
  have g2 : Int.gcd c d = 1 := by have := p2.2.2.2.2; unfold gcdi at this; omega
  have d1 : b ∣ d := by
    have : b ∣ a * d := ⟨c, by rw [h]; ac_rfl⟩
    exact dvd_cop (by rw [Int.gcd_comm]; exact g1) this
  have d2 : d ∣ b := by
    have : d ∣ c * b := ⟨a, by rw [← h]; ac_rfl⟩
    exact dvd_cop (by rw [Int.gcd_comm]; exact g2) this
  have e : b = d := Int.dvd_antisymm (by omega) (by omega) d1 d2
  subst e
  exact ⟨Int.eq_of_mul_eq_mul_right (by omega) h, rfl⟩
theorem less_flip {a b c d : Int} (h1 : okB a b = true) (h2 : okB c d = true) (hne : ¬ (a = c ∧ b = d)) : lessB c d a b = !lessB a b c d := by
  have k : a * d ≠ c * b := fun h => hne (okB_eq h1 h2 h)
  unfold lessB
  rw [two_yes h1 h2, two_yes h2 h1]
  by_cases h : a * d < c * b
  · rw [decide_eq_true h, decide_eq_false (by omega)]; rfl
  · rw [decide_eq_false h, decide_eq_true (by omega)]; rfl
end Go.Proofs.Ythmdiljcceiedaa.RM
