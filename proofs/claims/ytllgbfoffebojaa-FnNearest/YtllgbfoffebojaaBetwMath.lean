/- The simplest fraction between two: by the steps of the continued fraction; it is the only one of its kind. -/
import Derived.Test.YtllgbfoffebojaaRatioMath
set_option linter.unusedVariables false
namespace Go.Proofs.Ytllgbfoffebojaa.RM

/-- a/b below c/d; the latter may be 1/0 -/
structure Dom (a b c d : Int) : Prop where
  b1 : 1 ≤ b
  d0 : 0 ≤ d
  lt : a * d < c * b

/-- x/y is the simplest one between -/
structure Best (a b c d x y : Int) : Prop where
  lo : a * y < x * b
  hi : x * d < c * y
  y1 : 1 ≤ y
  cop : gcdi x y = 1
  least : ∀ u v : Int, 1 ≤ v → a * v < u * b → u * d < c * v → y ≤ v ∧ x - a / b * y ≤ u - a / b * v

theorem ediv_le (a b : Int) (h : 1 ≤ b) : a / b * b ≤ a := by
  have := Int.emod_add_mul_ediv a b
  have h2 := Int.emod_nonneg a (show b ≠ 0 by omega)
  grind
theorem lt_ediv (a b : Int) (h : 1 ≤ b) : a < (a / b + 1) * b := by
  have := Int.emod_add_mul_ediv a b
  have h2 := Int.emod_lt_of_pos a (show 0 < b by omega)
  grind
theorem above {a b u v : Int} (hb : 1 ≤ b) (hv : 1 ≤ v) (h : a * v < u * b) : a / b * v + 1 ≤ u := by
  have h1 := ediv_le a b hb
  have h2 : (a / b * b) * v ≤ a * v := Int.mul_le_mul_of_nonneg_right h1 (by omega)
  have h3 : (a / b * v) * b < u * b := by grind
  have := Int.lt_of_mul_lt_mul_right h3 (by omega)
  omega
theorem Dom.next {a b c d : Int} (h : Dom a b c d) (hn : ¬ (a / b + 1) * d < c) : Dom d (c - a / b * d) b (a - a / b * b) ∧ 1 ≤ d ∧ c - a / b * d ≤ d ∧ 0 ≤ a - a / b * b ∧ a - a / b * b < b := by
  obtain ⟨b1, d0, lt⟩ := h
  have h1 := ediv_le a b b1
  have h1' := lt_ediv a b b1
  have h2 : (a / b * b) * d ≤ a * d := Int.mul_le_mul_of_nonneg_right h1 d0
  have h3 : (a / b * d) * b < c * b := by grind
  have h4 : a / b * d < c := Int.lt_of_mul_lt_mul_right h3 (by omega)
  have h5 : (a / b + 1) * d = a / b * d + d := by grind
  have h6 : (a / b + 1) * b = a / b * b + b := by grind
  refine ⟨⟨by omega, by omega, by grind⟩, by omega, by omega, by omega, by omega⟩
theorem best_base {a b c d : Int} (h : Dom a b c d) (hn : (a / b + 1) * d < c) : Best a b c d (a / b + 1) 1 := by
  refine ⟨by have := lt_ediv a b h.b1; omega, by omega, by omega, gcdi_one _, fun u v hv h1 h2 => ⟨hv, ?_⟩⟩
  have := above h.b1 hv h1
  omega
theorem gcdi_up (w x y : Int) : gcdi (w * x + y) x = gcdi x y := by
  unfold gcdi
  rw [Int.gcd_comm (w * x + y) x]
  simp
theorem best_up {a b c d x y : Int} (h : Dom a b c d) (hn : ¬ (a / b + 1) * d < c) (k : Best d (c - a / b * d) b (a - a / b * b) x y) : Best a b c d (a / b * x + y) x := by
  obtain ⟨hd, d1, h1, h2, h3⟩ := h.next hn
  obtain ⟨lo, hi, y1, cop, least⟩ := k
  have x1 : 1 ≤ x := by
    have h4 : 0 < d * y := Int.mul_pos (by omega) (by omega)
    have h5 : 0 * (c - a / b * d) < x * (c - a / b * d) := by omega
    have := Int.lt_of_mul_lt_mul_right h5 (by have := hd.b1; omega)
    omega
  refine ⟨by grind, by grind, x1, by rw [gcdi_up]; exact cop, fun u v hv g1 g2 => ?_⟩
  have h6 := above h.b1 hv g1
  obtain ⟨e1, e2⟩ := least v (u - a / b * v) (by omega) (by grind) (by grind)
  have w0 : 0 ≤ d / (c - a / b * d) := Int.ediv_nonneg (by omega) (by have := hd.b1; omega)
  have e3 : d / (c - a / b * d) * y ≤ d / (c - a / b * d) * (u - a / b * v) := Int.mul_le_mul_of_nonneg_left e1 w0
  exact ⟨by omega, by omega⟩
theorem Best.same {a b c d x y x' y' : Int} (h : Best a b c d x y) (k : Best a b c d x' y') : x = x' ∧ y = y' := by
  obtain ⟨h1, h2⟩ := h.least x' y' k.y1 k.lo k.hi
  obtain ⟨h3, h4⟩ := k.least x y h.y1 h.lo h.hi
  have e : y = y' := by omega
  subst e
  exact ⟨by omega, rfl⟩
theorem best_ex : ∀ (k : Nat) (a b c d : Int), Dom a b c d → b + d ≤ k → ∃ x y, Best a b c d x y
  | 0, a, b, c, d, h, hk => by have := h.b1; have := h.d0; omega
  | k + 1, a, b, c, d, h, hk => by
    by_cases hn : (a / b + 1) * d < c
    · exact ⟨_, _, best_base h hn⟩
    · obtain ⟨hd, d1, h1, h2, h3⟩ := h.next hn
      obtain ⟨x, y, hB⟩ := best_ex k _ _ _ _ hd (by omega)
      exact ⟨_, _, best_up h hn hB⟩
theorem best_is {a b c d : Int} (h : Dom a b c d) : ∃ x y, Best a b c d x y := best_ex (b + d).toNat a b c d h (by have := h.b1; have := h.d0; omega)
/-- the step, seen from its end -/
theorem Best.step {a b c d x y : Int} (h : Dom a b c d) (k : Best a b c d x y) (hn : ¬ (a / b + 1) * d < c) : ∃ x' y', Best d (c - a / b * d) b (a - a / b * b) x' y' ∧ x = a / b * x' + y' ∧ y = x' := by
  obtain ⟨x', y', hB⟩ := best_is (h.next hn).1
  have := k.same (best_up h hn hB)
  exact ⟨x', y', hB, this.1, this.2⟩
theorem Best.first {a b c d x y : Int} (h : Dom a b c d) (k : Best a b c d x y) (hn : (a / b + 1) * d < c) : x = a / b + 1 ∧ y = 1 := k.same (best_base h hn)
/-- none has more parts than both ends together -/
theorem Best.size {a b c d x y : Int} (h : Dom a b c d) (k : Best a b c d x y) : y ≤ b + d ∧ a / b * y + 1 ≤ x ∧ x - a / b * y ≤ (a - a / b * b) + (c - a / b * d) := by
  obtain ⟨b1, d0, lt⟩ := h
  obtain ⟨h1, h2⟩ := k.least (a + c) (b + d) (by omega) (by grind) (by grind)
  exact ⟨h1, above b1 k.y1 k.lo, by grind⟩

/-- seen in the mirror, where no whole number lies between -/
theorem Best.mirror {a b c d x y x' y' : Int} (h : Dom a b c d) (hd : 1 ≤ d) (k : Best a b c d x y) (k' : Best (-c) d (-a) b x' y') (hw : ∀ n : Int, a < n * b → ¬ n * d < c) : x' = -x ∧ y' = y := by
  have b1 := h.b1
  obtain ⟨e1, e2⟩ := k.least (-x') y' k'.y1 (by have := k'.hi; grind) (by have := k'.lo; grind)
  obtain ⟨e3, e4⟩ := k'.least (-x) y k.y1 (by have := k.hi; grind) (by have := k.lo; grind)
  have e : y' = y := by omega
  subst e
  have y1 := k.y1
  by_cases hx : x = -x'
  · exact ⟨by omega, rfl⟩
  exfalso
  have hlt : x + 1 ≤ -x' := by omega
  -- x/y below (x+1)/y, both between
  have g1 := k.lo
  have g2 : (x + 1) * d < c * y' := by
    have h1 : (x + 1) * d ≤ (-x') * d := Int.mul_le_mul_of_nonneg_right hlt (by omega)
    have := k'.lo
    grind
  obtain ⟨q, hq⟩ : ∃ q, q = x / y' := ⟨_, rfl⟩
  obtain ⟨r, hr⟩ : ∃ r, r = x % y' := ⟨_, rfl⟩
  have hx1 : x = q * y' + r := by rw [hq, hr, Int.mul_comm]; have := Int.emod_add_mul_ediv x y'; omega
  have r0 : 0 ≤ r := by rw [hr]; exact Int.emod_nonneg _ (by omega)
  have r1 : r < y' := by rw [hr]; exact Int.emod_lt_of_pos _ (by omega)
  have y0 : 0 < y' := by omega
  by_cases hr0 : r = 0
  · have hx2 : x = q * y' := by omega
    have h1 : a * y' < (q * b) * y' := by
      have : x * b = (q * b) * y' := by rw [hx2, Int.mul_right_comm]
      omega
    have h2 : (q * d) * y' < c * y' := by
      have h4 : (x + 1) * d = x * d + d := by rw [Int.add_mul, Int.one_mul]
      have h5 : x * d = (q * d) * y' := by rw [hx2, Int.mul_right_comm]
      omega
    exact hw q (Int.lt_of_mul_lt_mul_right h1 (by omega)) (Int.lt_of_mul_lt_mul_right h2 (by omega))
  by_cases hr1 : r = y' - 1
  · have h3 : x + 1 = (q + 1) * y' := by rw [Int.add_mul, Int.one_mul]; omega
    have h1 : a * y' < ((q + 1) * b) * y' := by
      have h4 : (x + 1) * b = x * b + b := by rw [Int.add_mul, Int.one_mul]
      have h5 : (x + 1) * b = ((q + 1) * b) * y' := by rw [h3, Int.mul_right_comm]
      omega
    have h2 : ((q + 1) * d) * y' < c * y' := by
      have h5 : (x + 1) * d = ((q + 1) * d) * y' := by rw [h3, Int.mul_right_comm]
      omega
    exact hw (q + 1) (Int.lt_of_mul_lt_mul_right h1 (by omega)) (Int.lt_of_mul_lt_mul_right h2 (by omega))
  -- (x - q) / (y - 1) lies between
  have hy2 : 1 ≤ y' - 1 := by omega
  have i1 : x * (y' - 1) < (x - q) * y' := by
    have : (x - q) * y' - x * (y' - 1) = r := by rw [hx1]; grind
    omega
  have i2 : (x - q) * y' < (x + 1) * (y' - 1) := by
    have : (x + 1) * (y' - 1) - (x - q) * y' = y' - 1 - r := by rw [hx1]; grind
    omega
  have j1 : (a * (y' - 1)) * y' < ((x - q) * b) * y' := by
    have h1 : (a * y') * (y' - 1) < (x * b) * (y' - 1) := Int.mul_lt_mul_of_pos_right g1 (by omega)
    have h2 : (x * (y' - 1)) * b < ((x - q) * y') * b := Int.mul_lt_mul_of_pos_right i1 (by omega)
    grind
  have j2 : ((x - q) * d) * y' < (c * (y' - 1)) * y' := by
    have h1 : ((x + 1) * d) * (y' - 1) < (c * y') * (y' - 1) := Int.mul_lt_mul_of_pos_right g2 (by omega)
    have h2 : ((x - q) * y') * d < ((x + 1) * (y' - 1)) * d := Int.mul_lt_mul_of_pos_right i2 (by omega)
    grind
  obtain ⟨f1, _⟩ := k.least (x - q) (y' - 1) hy2 (Int.lt_of_mul_lt_mul_right j1 (by omega)) (Int.lt_of_mul_lt_mul_right j2 (by omega))
  omega
end Go.Proofs.Ytllgbfoffebojaa.RM
