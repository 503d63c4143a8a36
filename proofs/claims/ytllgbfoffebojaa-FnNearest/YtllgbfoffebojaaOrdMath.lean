/- The order of two fractions by their terms, without any program. -/
import Derived.Test.YtllgbfoffebojaaContMath
namespace Go.Proofs.Ytllgbfoffebojaa.RM
/-- the order of p over d and q over e -/
def ordI (p d q e : Int) : Int := if p * e < q * d then -1 else if q * d < p * e then 1 else 0
theorem ord_lt {p d q e : Int} (hd : 1 ≤ d) (he : 1 ≤ e) (h : p / d < q / e) : ordI p d q e = -1 := by
  have h1 := Int.lt_ediv_add_one_mul_self p (show 0 < d by omega)
  have h2 := Int.ediv_mul_le q (show e ≠ 0 by omega)
  have h3 : p < q / e * d := by
    have := Int.mul_le_mul_of_nonneg_right (show p / d + 1 ≤ q / e by omega) (show 0 ≤ d by omega)
    omega
  have h4 : p * e < q / e * d * e := Int.mul_lt_mul_of_pos_right h3 (by omega)
  have h5 : q / e * e * d ≤ q * d := Int.mul_le_mul_of_nonneg_right h2 (by omega)
  have h6 : q / e * d * e = q / e * e * d := by ac_rfl
  unfold ordI
  rw [if_pos (by omega)]
theorem ord_swap (p d q e : Int) : ordI q e p d = -ordI p d q e := by
  unfold ordI
  by_cases h1 : p * e < q * d
  · rw [if_neg (by omega), if_pos h1, if_pos h1]; rfl
  · by_cases h2 : q * d < p * e
    · rw [if_pos h2, if_neg h1, if_pos h2]
    · rw [if_neg h2, if_neg h1, if_neg h1, if_neg h2]; rfl
theorem ord_gt {p d q e : Int} (hd : 1 ≤ d) (he : 1 ≤ e) (h : q / e < p / d) : ordI p d q e = 1 := by
  have := ord_lt he hd h
  rw [ord_swap] at this
  omega
theorem ord_rest {p d q e : Int} (h : p / d = q / e) : ordI p d q e = ordI (p % d) d (q % e) e := by
  have e1 := Int.mul_ediv_add_emod p d
  have e2 := Int.mul_ediv_add_emod q e
  have h1 : p * e = d * (q / e) * e + p % d * e := by rw [← Int.add_mul, ← h, e1]
  have h2 : q * d = e * (q / e) * d + q % e * d := by rw [← Int.add_mul, e2]
  have h3 : d * (q / e) * e = e * (q / e) * d := by ac_rfl
  unfold ordI
  rw [h1, h2, h3]
  by_cases c1 : p % d * e < q % e * d
  · rw [if_pos c1, if_pos (by omega)]
  · rw [if_neg c1, if_neg (by omega)]
    by_cases c2 : q % e * d < p % d * e
    · rw [if_pos c2, if_pos (by omega)]
    · rw [if_neg c2, if_neg (by omega)]
theorem ord_turn (p d q e : Int) : ordI d p e q = -ordI p d q e := by
  rw [← ord_swap]
  unfold ordI
  rw [Int.mul_comm d q, Int.mul_comm e p]
theorem ord_zz (d e : Int) : ordI 0 d 0 e = 0 := by unfold ordI; simp
theorem ord_z1 {d q e : Int} (hd : 1 ≤ d) (hq : 1 ≤ q) : ordI 0 d q e = -1 := by
  unfold ordI
  have : 0 < q * d := Int.mul_pos (by omega) (by omega)
  rw [if_pos (by omega)]
theorem ord_z2 {p d e : Int} (he : 1 ≤ e) (hp : 1 ≤ p) : ordI p d 0 e = 1 := by
  have := ord_z1 (e := d) he hp
  rw [ord_swap] at this
  omega
theorem iabs_neg (x y : Int) : iabs (x - y) = iabs (y - x) := by unfold iabs; split <;> split <;> omega
theorem iabs_nn (x : Int) : 0 ≤ iabs x := by unfold iabs; split <;> omega
theorem mul_bd2 (x y : Int) (h1 : -2000000000 ≤ x) (h2 : x ≤ 2000000000) (h3 : -1000000000 ≤ y) (h4 : y ≤ 1000000000) : -2000000000000000000 ≤ x * y ∧ x * y ≤ 2000000000000000000 := by
  have k : (x * y).natAbs ≤ 2000000000 * 1000000000 := by
    rw [Int.natAbs_mul]; exact Nat.mul_le_mul (by omega) (by omega)
  generalize x * y = z at k
  omega
/-- the program's choice and the model's come to the same fraction -/
def cmpI (x y : Int) : Int := if x < y then -1 else if y < x then 1 else 0
def orI (a b c : Int) : Int := if a ≠ 0 then a else if b ≠ 0 then b else c
def nearB (a xd b d n xn : Int) : Bool := decide (orI (cmpI (a * xd) (b * d)) (cmpI d xd) (cmpI n xn) < 0)
def selI (b : Bool) (x y : Int) : Int := if b = true then x else y
theorem sel_yes (x y : Int) : selI true x y = x := rfl
theorem sel_no (x y : Int) : selI false x y = y := rfl
theorem or_neg (u v d xd n xn : Int) : orI (cmpI u v) (cmpI d xd) (cmpI n xn) < 0 ↔ (u < v ∨ (u = v ∧ (d < xd ∨ (d = xd ∧ n < xn)))) := by
  unfold orI cmpI
  repeat (first | omega | split)
theorem near_same (a xd b d n xn : Int) : (if nearB a xd b d n xn = true then (n, d) else (xn, xd)) = (if sideB a xd b d n xn = true then (xn, xd) else (n, d)) := by
  unfold nearB sideB
  simp only [decide_eq_true_eq, or_neg]
  generalize a * xd = u
  generalize b * d = v
  by_cases h1 : u < v ∨ (u = v ∧ (d < xd ∨ (d = xd ∧ n < xn)))
  · rw [if_pos h1, if_neg (by omega)]
  · rw [if_neg h1]
    by_cases h2 : v < u ∨ (v = u ∧ (xd < d ∨ (xd = d ∧ xn < n)))
    · rw [if_pos h2]
    · rw [if_neg h2]
      have e1 : d = xd := by omega
      have e2 : n = xn := by omega
      rw [e1, e2]
end Go.Proofs.Ytllgbfoffebojaa.RM
