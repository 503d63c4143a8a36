/- Whole numbers and fractions, without any program: what Reduced and RatioOk reckon. -/
import Derived.WalkKit
namespace Go.Proofs.Ytkcdpjcfbpjkean.RM

theorem gcd_step (a b : Int) : Int.gcd b (a.tmod b) = Int.gcd a b := by
  rw [Int.gcd_eq_natAbs_gcd_natAbs, Int.gcd_eq_natAbs_gcd_natAbs, Int.natAbs_tmod, Nat.gcd_comm b.natAbs, ← Nat.gcd_rec, Nat.gcd_comm]

theorem gcd_stepE (a b : Int) (ha : 0 ≤ a) : Int.gcd b (a % b) = Int.gcd a b := by
  rw [← Int.tmod_eq_emod_of_nonneg ha]; exact gcd_step a b

/-- the greatest common divisor as an integer -/
def gcdi (a b : Int) : Int := (Int.gcd a b : Int)

theorem gcdi_step (a b : Int) : gcdi b (a.tmod b) = gcdi a b := by unfold gcdi; rw [gcd_step]
theorem gcdi_stepE (a b : Int) (ha : 0 ≤ a) : gcdi b (a % b) = gcdi a b := by unfold gcdi; rw [gcd_stepE a b ha]
theorem gcdi_neg_l (a b : Int) : gcdi (-a) b = gcdi a b := by unfold gcdi; rw [Int.neg_gcd]
theorem gcdi_neg_r (a b : Int) : gcdi a (-b) = gcdi a b := by unfold gcdi; rw [Int.gcd_neg]
theorem gcdi_zero_abs (a : Int) : gcdi a 0 = if a < 0 then -a else a := by
  unfold gcdi; rw [Int.gcd_zero_right]; split <;> omega
theorem gcdi_nonneg (a b : Int) : 0 ≤ gcdi a b := by unfold gcdi; omega
theorem gcdi_pos_r (a b : Int) (hb : b ≠ 0) : 0 < gcdi a b := by
  unfold gcdi
  have := Int.gcd_pos_of_ne_zero_right a hb
  omega
theorem gcdi_dvd_l (a b : Int) : gcdi a b ∣ a := Int.gcd_dvd_left a b
theorem gcdi_dvd_r (a b : Int) : gcdi a b ∣ b := Int.gcd_dvd_right a b
theorem gcdi_le_r (a b m : Int) (h0 : b ≠ 0) (hb : b ≤ m) (hb' : -m ≤ b) : gcdi a b ≤ m := by
  have h1 := Int.gcd_le_natAbs_right a h0
  unfold gcdi
  omega

/-- is (n, d) a right fraction? -/
def okB (n d : Int) : Bool := decide (1 ≤ d ∧ d ≤ 1000000000 ∧ -1000000000 ≤ n ∧ n ≤ 1000000000 ∧ gcdi n d = 1)
/-- within the bounds of a fraction -/
def bdB (n d : Int) : Bool := decide (1 ≤ d ∧ d ≤ 1000000000 ∧ -1000000000 ≤ n ∧ n ≤ 1000000000)

theorem okB_mk {n d : Int} (h : 1 ≤ d ∧ d ≤ 1000000000 ∧ -1000000000 ≤ n ∧ n ≤ 1000000000 ∧ gcdi n d = 1) : okB n d = true := decide_eq_true h
theorem okB_no {n d : Int} (h : ¬ (1 ≤ d ∧ d ≤ 1000000000 ∧ -1000000000 ≤ n ∧ n ≤ 1000000000 ∧ gcdi n d = 1)) : okB n d = false := decide_eq_false h
theorem okB_out {n d : Int} (h : okB n d = true) : 1 ≤ d ∧ d ≤ 1000000000 ∧ -1000000000 ≤ n ∧ n ≤ 1000000000 ∧ gcdi n d = 1 := of_decide_eq_true h
theorem okB_outN {n d : Int} (h : okB n d = false) : ¬ (1 ≤ d ∧ d ≤ 1000000000 ∧ -1000000000 ≤ n ∧ n ≤ 1000000000 ∧ gcdi n d = 1) := of_decide_eq_false h
theorem bdB_out {n d : Int} (h : bdB n d = true) : 1 ≤ d ∧ d ≤ 1000000000 ∧ -1000000000 ≤ n ∧ n ≤ 1000000000 := of_decide_eq_true h
theorem bdB_mk {n d : Int} (h : 1 ≤ d ∧ d ≤ 1000000000 ∧ -1000000000 ≤ n ∧ n ≤ 1000000000) : bdB n d = true := decide_eq_true h
theorem bdB_no {n d : Int} (h : ¬ (1 ≤ d ∧ d ≤ 1000000000 ∧ -1000000000 ≤ n ∧ n ≤ 1000000000)) : bdB n d = false := decide_eq_false h
theorem bdB_outN {n d : Int} (h : bdB n d = false) : ¬ (1 ≤ d ∧ d ≤ 1000000000 ∧ -1000000000 ≤ n ∧ n ≤ 1000000000) := of_decide_eq_false h

def sg (n d : Int) : Int := if d < 0 then -(gcdi n d) else gcdi n d
/-- may (n, d) be reduced at all? -/
def redIn (n d : Int) : Bool := decide (d ≠ 0 ∧ -4611686018427387904 ≤ n ∧ n ≤ 4611686018427387904 ∧ -4611686018427387904 ≤ d ∧ d ≤ 4611686018427387904)
theorem redIn_out {n d : Int} (h : redIn n d = true) : d ≠ 0 ∧ -4611686018427387904 ≤ n ∧ n ≤ 4611686018427387904 ∧ -4611686018427387904 ≤ d ∧ d ≤ 4611686018427387904 := of_decide_eq_true h
theorem redIn_mk {n d : Int} (h : d ≠ 0 ∧ -4611686018427387904 ≤ n ∧ n ≤ 4611686018427387904 ∧ -4611686018427387904 ≤ d ∧ d ≤ 4611686018427387904) : redIn n d = true := decide_eq_true h
theorem redIn_no {n d : Int} (h : ¬ (d ≠ 0 ∧ -4611686018427387904 ≤ n ∧ n ≤ 4611686018427387904 ∧ -4611686018427387904 ≤ d ∧ d ≤ 4611686018427387904)) : redIn n d = false := decide_eq_false h
def redOk (n d : Int) : Bool := redIn n d && bdB (n / sg n d) (d / sg n d)
def redN (n d : Int) : Int := if redOk n d = true then n / sg n d else 0
def redD (n d : Int) : Int := if redOk n d = true then d / sg n d else 0

theorem sg_ne (n d : Int) (hd : d ≠ 0) : sg n d ≠ 0 := by
  have := gcdi_pos_r n d hd
  unfold sg; split <;> omega
theorem sg_dvd_l (n d : Int) : sg n d ∣ n := by
  unfold sg; split
  · exact Int.neg_dvd.mpr (gcdi_dvd_l n d)
  · exact gcdi_dvd_l n d
theorem sg_dvd_r (n d : Int) : sg n d ∣ d := by
  unfold sg; split
  · exact Int.neg_dvd.mpr (gcdi_dvd_r n d)
  · exact gcdi_dvd_r n d
theorem tdiv_l (n d : Int) : n.tdiv (sg n d) = n / sg n d := Int.tdiv_eq_ediv_of_dvd (sg_dvd_l n d)
theorem tdiv_r (n d : Int) : d.tdiv (sg n d) = d / sg n d := Int.tdiv_eq_ediv_of_dvd (sg_dvd_r n d)
theorem gcd_red (n d : Int) (hd : d ≠ 0) : gcdi (n / sg n d) (d / sg n d) = 1 := by
  have hp := gcdi_pos_r n d hd
  have h1 : Int.gcd (n / gcdi n d) (d / gcdi n d) = 1 := by
    unfold gcdi at *
    have := Int.gcd_ediv (Int.gcd_dvd_left n d) (Int.gcd_dvd_right n d)
    rw [this]; simp
    exact Nat.div_self (by omega)
  unfold gcdi at h1 ⊢
  unfold sg gcdi
  split
  · rw [Int.ediv_neg, Int.ediv_neg, Int.neg_gcd, Int.gcd_neg, h1]; rfl
  · rw [h1]; rfl
theorem okB_red (n d : Int) (hd : d ≠ 0) : okB (n / sg n d) (d / sg n d) = bdB (n / sg n d) (d / sg n d) := by
  unfold okB bdB; rw [gcd_red n d hd]; simp
/-- a quotient of what is within 2 to the 62nd stays so -/
theorem div_bd (x s : Int) (hx : -4611686018427387904 ≤ x) (hx' : x ≤ 4611686018427387904) : -4611686018427387904 ≤ x.tdiv s ∧ x.tdiv s ≤ 4611686018427387904 := by
  have h1 : (x.tdiv s).natAbs ≤ x.natAbs := by
    rw [Int.natAbs_tdiv]; exact Nat.div_le_self _ _
  omega
theorem red_no {n d : Int} (h : redIn n d = false) : redOk n d = false ∧ redN n d = 0 ∧ redD n d = 0 := by
  have k : redOk n d = false := by unfold redOk; rw [h]; rfl
  exact ⟨k, by unfold redN; rw [k]; rfl, by unfold redD; rw [k]; rfl⟩
theorem red_no2 {n d : Int} (h : bdB (n.tdiv (sg n d)) (d.tdiv (sg n d)) = false) : redOk n d = false ∧ redN n d = 0 ∧ redD n d = 0 := by
  rw [tdiv_l, tdiv_r] at h
  have k : redOk n d = false := by unfold redOk; rw [h]; simp
  exact ⟨k, by unfold redN; rw [k]; rfl, by unfold redD; rw [k]; rfl⟩
theorem red_yes {n d : Int} (h1 : redIn n d = true) (h : bdB (n.tdiv (sg n d)) (d.tdiv (sg n d)) = true) : redOk n d = true ∧ redN n d = n.tdiv (sg n d) ∧ redD n d = d.tdiv (sg n d) := by
  rw [tdiv_l, tdiv_r] at *
  have k : redOk n d = true := by unfold redOk; rw [h, h1]; rfl
  exact ⟨k, by unfold redN; rw [k]; rfl, by unfold redD; rw [k]; rfl⟩
theorem sg_neg {n d : Int} (h : d < 0) : sg n d = -gcdi n d := if_pos h
theorem sg_pos {n d : Int} (h : 0 ≤ d) : sg n d = gcdi n d := if_neg (by omega)
theorem okB_tdiv (n d : Int) (hd : d ≠ 0) : okB (n.tdiv (sg n d)) (d.tdiv (sg n d)) = bdB (n.tdiv (sg n d)) (d.tdiv (sg n d)) := by
  rw [tdiv_l, tdiv_r]; exact okB_red n d hd
theorem okB_redN {n d : Int} (h : redOk n d = true) : okB (redN n d) (redD n d) = true := by
  have h' := h
  unfold redOk at h'
  rw [Bool.and_eq_true] at h'
  unfold redN redD
  rw [if_pos h, if_pos h, okB_red n d (redIn_out h'.1).1]
  exact h'.2

theorem tdiv_bd (n d m : Int) (h1 : -m ≤ n) (h2 : n ≤ m) : -m ≤ n.tdiv d ∧ n.tdiv d ≤ m := by
  have k : (n.tdiv d).natAbs ≤ n.natAbs := by rw [Int.natAbs_tdiv]; exact Nat.div_le_self _ _
  generalize n.tdiv d = z at k
  omega
/-- both right? -/
def two (a b c d : Int) : Bool := okB a b && okB c d
theorem two_out {a b c d : Int} (h : two a b c d = true) : okB a b = true ∧ okB c d = true := by
  unfold two at h; rwa [Bool.and_eq_true] at h
theorem two_no1 {a b c d : Int} (h : okB a b = false) : two a b c d = false := by unfold two; rw [h]; rfl
theorem two_no2 {a b c d : Int} (h : okB c d = false) : two a b c d = false := by unfold two; rw [h]; simp
theorem two_yes {a b c d : Int} (h : okB a b = true) (k : okB c d = true) : two a b c d = true := by unfold two; rw [h, k]; rfl
/-- the answer of a reckoning of two fractions: x over y where both are right -/
def opN (t : Bool) (x y : Int) : Int := if t = true then redN x y else 0
def opD (t : Bool) (x y : Int) : Int := if t = true then redD x y else 0
def opOk (t : Bool) (x y : Int) : Bool := t && redOk x y
theorem op_yes (x y : Int) : opN true x y = redN x y ∧ opD true x y = redD x y ∧ opOk true x y = redOk x y := ⟨rfl, rfl, rfl⟩
theorem op_no (x y : Int) : opN false x y = 0 ∧ opD false x y = 0 ∧ opOk false x y = false := ⟨rfl, rfl, rfl⟩
theorem mul_bd (x y : Int) (h1 : -1000000000 ≤ x) (h2 : x ≤ 1000000000) (h3 : -1000000000 ≤ y) (h4 : y ≤ 1000000000) : -1000000000000000000 ≤ x * y ∧ x * y ≤ 1000000000000000000 := by
  have k : (x * y).natAbs ≤ 1000000000 * 1000000000 := by
    rw [Int.natAbs_mul]; exact Nat.mul_le_mul (by omega) (by omega)
  generalize x * y = z at k
  omega
/-- less? -/
def lessB (a b c d : Int) : Bool := two a b c d && decide (a * d < c * b)

/-- the greatest whole number that is not above n over d -/
def floI (n d : Int) : Int := if okB n d = true then n / d else 0
theorem flo_no {n d : Int} (h : okB n d = false) : floI n d = 0 := by unfold floI; rw [h]; rfl
theorem tdiv_form (n d : Int) (hd : 0 < d) : n.tdiv d = if 0 ≤ n ∨ n % d = 0 then n / d else n / d + 1 := by
  rw [Int.tdiv_eq_ediv]
  have hs : d.sign = 1 := Int.sign_eq_one_of_pos hd
  by_cases h : 0 ≤ n ∨ d ∣ n
  · rw [if_pos h, if_pos (h.imp id Int.emod_eq_zero_of_dvd)]; simp
  · rw [if_neg h, if_neg (fun k => h (k.imp id Int.dvd_of_emod_eq_zero)), hs]
theorem flo_up {n d : Int} (h : okB n d = true) (g : n < n.tdiv d * d) : floI n d = n.tdiv d - 1 := by
  have hd : 0 < d := by have := okB_out h; omega
  unfold floI; rw [if_pos h]
  rw [tdiv_form n d hd] at g ⊢
  have e := Int.mul_ediv_add_emod n d
  have e1 := Int.emod_nonneg n (show d ≠ 0 by omega)
  split at g
  · exfalso; rw [Int.mul_comm] at g; omega
  · rename_i k; rw [if_neg k]; omega
theorem flo_at {n d : Int} (h : okB n d = true) (g : ¬ n < n.tdiv d * d) : floI n d = n.tdiv d := by
  have hd : 0 < d := by have := okB_out h; omega
  unfold floI; rw [if_pos h]
  rw [tdiv_form n d hd] at g ⊢
  have e := Int.mul_ediv_add_emod n d
  have e1 := Int.emod_lt_of_pos n hd
  split at g
  · rename_i k; rw [if_pos k]
  · exfalso; rw [Int.add_mul, Int.mul_comm] at g; omega
theorem rem_neg (n d : Int) : n.tmod d < 0 ↔ n < n.tdiv d * d := by
  have := Int.mul_tdiv_add_tmod n d
  rw [Int.mul_comm] at this
  omega
theorem tdm_bd (n d m : Int) (h1 : -m ≤ n) (h2 : n ≤ m) : -m ≤ n.tdiv d * d ∧ n.tdiv d * d ≤ m := by
  have k : (n.tdiv d * d).natAbs ≤ n.natAbs := by
    rw [Int.natAbs_mul, Int.natAbs_tdiv]; exact Nat.div_mul_le_self _ _
  generalize n.tdiv d * d = z at k
  omega

/-- a fraction of small parts can be reduced, and its parts become no greater -/
theorem red_small {x y m : Int} (hm : m ≤ 1000000000) (hx : -m ≤ x) (hx' : x ≤ m) (hy : 1 ≤ y) (hy' : y ≤ m) :
    redOk x y = true ∧ okB (redN x y) (redD x y) = true ∧ -m ≤ redN x y ∧ redN x y ≤ m ∧ 1 ≤ redD x y ∧ redD x y ≤ y := by
  have hin : redIn x y = true := redIn_mk ⟨by omega, by omega, by omega, by omega, by omega⟩
  have hs := sg_pos (n := x) (d := y) (by omega)
  have gp := gcdi_pos_r x y (by omega)
  have q1 := tdiv_bd x (sg x y) m hx hx'
  have q2 : y.tdiv (sg x y) ≤ y ∧ 1 ≤ y.tdiv (sg x y) := by
    have k : (y.tdiv (sg x y)).natAbs ≤ y.natAbs := by rw [Int.natAbs_tdiv]; exact Nat.div_le_self _ _
    have e : sg x y * (y.tdiv (sg x y)) = y := Int.mul_tdiv_cancel' (sg_dvd_r x y)
    have h0 : 0 ≤ y.tdiv (sg x y) := by rw [hs]; exact Int.tdiv_nonneg (by omega) (by omega)
    have h1 : y.tdiv (sg x y) ≠ 0 := fun h => by rw [h] at e; simp at e; omega
    generalize y.tdiv (sg x y) = z at *
    omega
  have hb : bdB (x.tdiv (sg x y)) (y.tdiv (sg x y)) = true := bdB_mk ⟨q2.2, by omega, by omega, by omega⟩
  obtain ⟨e1, e2, e3⟩ := red_yes hin hb
  exact ⟨e1, okB_redN e1, by rw [e2]; exact q1.1, by rw [e2]; exact q1.2, by rw [e3]; exact q2.2, by rw [e3]; exact q2.1⟩

theorem gcdi_one (n : Int) : gcdi n 1 = 1 := by unfold gcdi; simp
theorem okB_whole {n : Int} (h1 : -1000000000 ≤ n) (h2 : n ≤ 1000000000) : okB n 1 = true := okB_mk ⟨by omega, by omega, h1, h2, gcdi_one n⟩
theorem flo_bd {f g : Int} (h : okB f g = true) : -1000000000 ≤ floI f g ∧ floI f g ≤ 1000000000 := by
  have hb := okB_out h
  have hg : 0 < g := by omega
  unfold floI; rw [if_pos h]
  have e := Int.mul_ediv_add_emod f g
  have e1 := Int.emod_nonneg f (show g ≠ 0 by omega)
  have e2 := Int.emod_lt_of_pos f hg
  constructor
  · apply (Int.le_ediv_iff_mul_le hg).mpr
    have : -1000000000 * g ≤ -1000000000 * 1 := Int.mul_le_mul_of_nonpos_left (by omega) (by omega)
    omega
  · have : f / g ≤ f / g * g ∨ f / g < 0 := by
      by_cases k : f / g < 0
      · exact .inr k
      · left
        have : f / g * 1 ≤ f / g * g := Int.mul_le_mul_of_nonneg_left (by omega) (by omega)
        omega
    rcases this with k | k
    · rw [Int.mul_comm] at k; omega
    · omega
theorem flo_less {f g : Int} (h : okB f g = true) : lessB f g (floI f g) 1 = false := by
  have hb := okB_out h
  have hg : 0 < g := by omega
  have k : ¬ f * 1 < floI f g * g := by
    unfold floI; rw [if_pos h]
    have e := Int.mul_ediv_add_emod f g
    have e1 := Int.emod_nonneg f (show g ≠ 0 by omega)
    rw [Int.mul_comm] at e
    omega
  unfold lessB; rw [decide_eq_false k]; simp
theorem flo_next {f g : Int} (h : okB f g = true) (hn : floI f g < 1000000000) : lessB f g (floI f g + 1) 1 = true := by
  have hb := okB_out h
  have hg : 0 < g := by omega
  have hd := flo_bd h
  have k : f * 1 < (floI f g + 1) * g := by
    unfold floI; rw [if_pos h]
    have e := Int.mul_ediv_add_emod f g
    have e1 := Int.emod_lt_of_pos f hg
    rw [Int.add_mul, Int.mul_comm (f / g)]
    omega
  unfold lessB; rw [decide_eq_true k, two_yes h (okB_whole (by omega) (by omega))]; rfl

theorem tmod_lt (p q : Int) (hq : q ≠ 0) : (p.tmod q).natAbs < q.natAbs := by
  rw [Int.natAbs_tmod]; exact Nat.mod_lt _ (by omega)
theorem tmod_bd (p q m : Int) (hq : q ≠ 0) (h1 : -m ≤ q) (h2 : q ≤ m) : -m ≤ p.tmod q ∧ p.tmod q ≤ m := by
  have h := tmod_lt p q hq
  generalize p.tmod q = x at h
  omega
end Go.Proofs.Ytkcdpjcfbpjkean.RM
