/- What Between answers. -/
import Derived.Test.YtllgbfoffebojaaBetwMath
set_option linter.unusedVariables false
namespace Go.Proofs.Ytllgbfoffebojaa.RM

open Classical in
noncomputable def bt (a b c d : Int) : Int × Int := if h : ∃ p : Int × Int, Best a b c d p.1 p.2 then Classical.choose h else (0, 0)
theorem bt_is {a b c d x y : Int} (k : Best a b c d x y) : bt a b c d = (x, y) := by
  have h : ∃ p : Int × Int, Best a b c d p.1 p.2 := ⟨(x, y), k⟩
  unfold bt
  rw [dif_pos h]
  have := (Classical.choose_spec h).same k
  exact Prod.ext this.1 this.2
/-- the least whole number above a/b, the greatest below c/d -/
def loI (a b : Int) : Int := a / b + 1
def hiI (c d : Int) : Int := -(-c / d) - 1
theorem lo_le {a b n : Int} (hb : 1 ≤ b) (h : a < n * b) : loI a b ≤ n := by
  have h1 := ediv_le a b hb
  have h2 : (a / b) * b < n * b := by omega
  have := Int.lt_of_mul_lt_mul_right h2 (by omega)
  unfold loI; omega
theorem lo_above (a b : Int) (hb : 1 ≤ b) : a < loI a b * b := lt_ediv a b hb
theorem le_hi {c d n : Int} (hd : 1 ≤ d) (h : n * d < c) : n ≤ hiI c d := by
  have := lo_le (a := -c) (b := d) (n := -n) hd (by rw [Int.neg_mul]; omega)
  unfold loI at this; unfold hiI; omega
theorem hi_below (c d : Int) (hd : 1 ≤ d) : hiI c d * d < c := by
  have := lo_above (-c) d hd
  have e : hiI c d = -loI (-c) d := by unfold hiI loI; omega
  rw [e, Int.neg_mul]; omega
theorem down {m n d c : Int} (hd : 1 ≤ d) (h : m ≤ n) (h2 : n * d < c) : m * d < c := by
  have : m * d ≤ n * d := Int.mul_le_mul_of_nonneg_right h (by omega)
  omega
theorem upw {m n b a : Int} (hb : 1 ≤ b) (h : m ≤ n) (h2 : a < m * b) : a < n * b := by
  have : m * b ≤ n * b := Int.mul_le_mul_of_nonneg_right h (by omega)
  omega
noncomputable def btA (a b c d : Int) : Int × Int :=
  if loI a b ≤ hiI c d then (if loI a b ≤ 0 ∧ 0 ≤ hiI c d then (0, 1) else if 0 < loI a b then (loI a b, 1) else (hiI c d, 1)) else bt a b c d
/-- from 0 on -/
theorem btA_up {a b c d x y : Int} (h : Dom a b c d) (hd : 1 ≤ d) (a0 : 0 ≤ a) (k : Best a b c d x y) : btA a b c d = (x, y) := by
  have hl : 0 < loI a b := by unfold loI; have := Int.ediv_nonneg a0 (show 0 ≤ b by have := h.b1; omega); omega
  unfold btA
  by_cases g : loI a b ≤ hiI c d
  · rw [if_pos g, if_neg (by omega), if_pos hl]
    obtain ⟨e1, e2⟩ := k.first h (down hd g (hi_below c d hd))
    rw [e1, e2]; rfl
  · rw [if_neg g]; exact bt_is k
/-- up to 0 -/
theorem btA_down {a b c d x y : Int} (h : Dom a b c d) (hd : 1 ≤ d) (c0 : c ≤ 0) (k : Best (-c) d (-a) b x y) : btA a b c d = (-x, y) := by
  have b1 := h.b1
  have hh : Dom (-c) d (-a) b := ⟨hd, by omega, by have := h.lt; rw [Int.neg_mul, Int.neg_mul]; omega⟩
  have hl : hiI c d < 0 := by
    unfold hiI
    have := Int.ediv_nonneg (show 0 ≤ -c by omega) (show 0 ≤ d by omega); omega
  unfold btA
  by_cases g : loI a b ≤ hiI c d
  · rw [if_pos g, if_neg (by omega), if_neg (by omega)]
    have h1 := upw b1 g (lo_above a b b1)
    have e : -c / d + 1 = -hiI c d := by unfold hiI; omega
    obtain ⟨e1, e2⟩ := k.first hh (by rw [e, Int.neg_mul]; omega)
    rw [e1, e2, e, Int.neg_neg]
  · rw [if_neg g]
    obtain ⟨x0, y0, k0⟩ := best_is h
    obtain ⟨e1, e2⟩ := k0.mirror h hd k (fun n g1 g2 => g (Int.le_trans (lo_le b1 g1) (le_hi hd g2)))
    rw [bt_is k0, e1, e2, Int.neg_neg]
/-- around 0 -/
theorem btA_mid {a b c d : Int} (hb : 1 ≤ b) (hd : 1 ≤ d) (a0 : a < 0) (c0 : 0 < c) : btA a b c d = (0, 1) := by
  have h1 := lo_le (n := 0) hb (show a < 0 * b by omega)
  have h2 := le_hi (n := 0) hd (show 0 * d < c by omega)
  unfold btA
  rw [if_pos (by omega), if_pos ⟨h1, h2⟩]
theorem red_cop {x y : Int} (hc : gcdi x y = 1) (hy : 1 ≤ y) (hy' : y ≤ 4611686018427387904) (hx : -4611686018427387904 ≤ x) (hx' : x ≤ 4611686018427387904) :
    redOk x y = okB x y ∧ redN x y = (if okB x y = true then x else 0) ∧ redD x y = (if okB x y = true then y else 0) := by
  have hi : redIn x y = true := redIn_mk ⟨by omega, hx, hx', by omega, hy'⟩
  have hs : sg x y = 1 := by rw [sg_pos (by omega), hc]
  have ok : okB x y = bdB x y := by
    by_cases hb : bdB x y = true
    · rw [hb]; obtain ⟨h1, h2, h3, h4⟩ := bdB_out hb; exact okB_mk ⟨h1, h2, h3, h4, hc⟩
    · rw [Bool.not_eq_true] at hb
      rw [hb]; exact okB_no (fun h => bdB_outN hb ⟨h.1, h.2.1, h.2.2.1, h.2.2.2.1⟩)
  have t1 : x.tdiv (sg x y) = x := by rw [hs, Int.tdiv_one]
  have t2 : y.tdiv (sg x y) = y := by rw [hs, Int.tdiv_one]
  by_cases hb : okB x y = true
  · obtain ⟨r1, r2, r3⟩ := red_yes hi (by rw [t1, t2, ← ok]; exact hb)
    rw [r1, r2, r3, hb, t1, t2]; exact ⟨rfl, rfl, rfl⟩
  · rw [Bool.not_eq_true] at hb
    obtain ⟨r1, r2, r3⟩ := red_no2 (n := x) (d := y) (by rw [t1, t2, ← ok]; exact hb)
    rw [r1, r2, r3, hb]; exact ⟨rfl, rfl, rfl⟩

noncomputable def btB (a b c d : Int) : Bool := lessB a b c d && okB (btA a b c d).1 (btA a b c d).2
noncomputable def btN (a b c d : Int) : Int := if btB a b c d = true then (btA a b c d).1 else 0
noncomputable def btD (a b c d : Int) : Int := if btB a b c d = true then (btA a b c d).2 else 0
theorem bt_no {a b c d : Int} (h : lessB a b c d = false) : btB a b c d = false ∧ btN a b c d = 0 ∧ btD a b c d = 0 := by
  have : btB a b c d = false := by unfold btB; rw [h]; rfl
  unfold btN btD; rw [this]; exact ⟨rfl, rfl, rfl⟩
theorem bt_yes {a b c d x y : Int} (h : lessB a b c d = true) (e : btA a b c d = (x, y)) : btB a b c d = okB x y ∧ btN a b c d = (if okB x y = true then x else 0) ∧ btD a b c d = (if okB x y = true then y else 0) := by
  have : btB a b c d = okB x y := by unfold btB; rw [h, e]; rfl
  unfold btN btD; rw [this, e]; exact ⟨rfl, rfl, rfl⟩
/-- how large the parts are -/
theorem Best.wide {a b c d x y : Int} (h : Dom a b c d) (k : Best a b c d x y) (a8 : -1000000000 ≤ a) (a9 : a ≤ 1000000000) (b9 : b ≤ 1000000000) (c9 : c ≤ 1000000000) (c8 : -1000000000 ≤ c) (d9 : d ≤ 1000000000) (w8 : -1000000000 ≤ a / b) (w9 : a / b ≤ 1000000000) :
    y ≤ 2000000000 ∧ -3000000003000000000 ≤ x ∧ x ≤ 4000000003000000000 := by
  obtain ⟨s1, s2, s3⟩ := k.size h
  have y1 := k.y1
  have b1 := h.b1
  have d0 := h.d0
  have m : -2000000000000000000 ≤ a / b * y ∧ a / b * y ≤ 2000000000000000000 := by
    generalize a / b = W at *
    by_cases hs : 0 ≤ W
    · have h1 := Int.mul_nonneg hs (show 0 ≤ y by omega)
      have h2 := Int.mul_le_mul_of_nonneg_right w9 (show 0 ≤ y by omega)
      omega
    · have h1 := Int.mul_le_mul_of_nonneg_right w8 (show 0 ≤ y by omega)
      have h2 := Int.mul_le_mul_of_nonneg_right (show W ≤ 0 by omega) (show 0 ≤ y by omega)
      omega
  have m1 : -1000000000000000000 ≤ a / b * b := by
    have := Int.mul_le_mul_of_nonneg_right w8 (show 0 ≤ b by omega); omega
  have m2 : -1000000000000000000 ≤ a / b * d := by
    have := Int.mul_le_mul_of_nonneg_right w8 d0; omega
  omega
end Go.Proofs.Ytllgbfoffebojaa.RM
