/- Several texts of this proof laid one behind the other: each has its own heading below. -/
import Derived.Test.YtnhefbhiemdhoaaGreatRatioMath
import Derived.Test.YtnhefbhiemdhoaaGreatUnitP10
import Derived.Test.YtnhefbhiemdhoaaGreatFromMath
import Derived.Test.YtnhefbhiemdhoaaGreatUnitP7
import Derived.Test.YtnhefbhiemdhoaaGreatRatioW1
import Derived.LoopTactic
import Derived.Test.YtnhefbhiemdhoaaGreatUnitMath
import Derived.Test.YtnhefbhiemdhoaaGreatCalcW
import Derived.Test.YtnhefbhiemdhoaaGreatDimW2
import Derived.Deep.Cut
import Derived.Test.YtnhefbhiemdhoaaGreatUnitP9
import Derived.Test.YtnhefbhiemdhoaaGreatRatioW3
import Derived.OpenShut
import Derived.Deep.RegionLaw
import Derived.IntWalk
import Derived.Laws.IdiomStrings
import Derived.Lib.BufferRead
import Derived.Deep.RegionWith
import Derived.Deep.RegionHeld3
import Derived.Test.YtnhefbhiemdhoaaGreatUnitB

/- The order of fractions: sums keep it, and of two unlike ones one is less. -/
namespace Go.Proofs.YtnhefbhiemdhoaaGreat.RM
theorem lt_iff_mul {x y k : Int} (hk : 0 < k) : k * x < k * y ↔ x < y :=
  ⟨fun h => Int.lt_of_mul_lt_mul_left h (Int.le_of_lt hk), fun h => Int.mul_lt_mul_of_pos_left h hk⟩
theorem red_parts {x y : Int} (h : redOk x y = true) (hy : 0 < y) : 0 < gcdi x y ∧ gcdi x y * redN x y = x ∧ gcdi x y * redD x y = y := by
  have hs := sg_pos (n := x) (d := y) (by omega)
  have e1 : redN x y = x / sg x y := by unfold redN; rw [if_pos h]
  have e2 : redD x y = y / sg x y := by unfold redD; rw [if_pos h]
  rw [e1, e2, hs]
  exact ⟨gcdi_pos_r x y (by omega), Int.mul_ediv_cancel' (gcdi_dvd_l x y), Int.mul_ediv_cancel' (gcdi_dvd_r x y)⟩
theorem add_less {a b c d p q : Int} (hb : 0 < b) (hd : 0 < d) (hq : 0 < q) (hab : two a b c d = true) (h1 : redOk (a * q + p * b) (b * q) = true) (h2 : redOk (c * q + p * d) (d * q) = true) :
    lessB (redN (a * q + p * b) (b * q)) (redD (a * q + p * b) (b * q)) (redN (c * q + p * d) (d * q)) (redD (c * q + p * d) (d * q)) = lessB a b c d := by
  have t := two_yes (okB_redN h1) (okB_redN h2)
  obtain ⟨g1, n1, d1⟩ := red_parts h1 (Int.mul_pos hb hq)
  obtain ⟨g2, n2, d2⟩ := red_parts h2 (Int.mul_pos hd hq)
  unfold lessB
  rw [t, hab]
  generalize gcdi (a * q + p * b) (b * q) = k1 at *
  generalize gcdi (c * q + p * d) (d * q) = k2 at *
  generalize redN (a * q + p * b) (b * q) = N1 at *
  generalize redD (a * q + p * b) (b * q) = D1 at *
  generalize redN (c * q + p * d) (d * q) = N2 at *
  generalize redD (c * q + p * d) (d * q) = D2 at *
  have e : (N1 * D2 < N2 * D1) ↔ (a * d < c * b) := by
    rw [← lt_iff_mul (Int.mul_pos g1 g2), ← lt_iff_mul (Int.mul_pos hq hq) (x := a * d)]
    have e1 : k1 * k2 * (N1 * D2) = (a * q + p * b) * (d * q) := by rw [← n1, ← d2]; ac_rfl
    have e2 : k1 * k2 * (N2 * D1) = (c * q + p * d) * (b * q) := by rw [← n2, ← d1]; ac_rfl
    have e3 : (a * q + p * b) * (d * q) = q * q * (a * d) + p * b * d * q := by rw [Int.add_mul]; congr 1 <;> ac_rfl
    have e4 : (c * q + p * d) * (b * q) = q * q * (c * b) + p * b * d * q := by rw [Int.add_mul]; congr 1 <;> ac_rfl
    rw [e1, e2, e3, e4]
    omega
  simp only [e]
theorem less_same (a b : Int) : lessB a b a b = false := by unfold lessB; rw [decide_eq_false (by omega)]; simp
theorem dvd_cop {k m n : Int} (h : Int.gcd k m = 1) (hd : k ∣ m * n) : k ∣ n := by
  rw [← Int.natAbs_dvd_natAbs] at hd ⊢
  rw [Int.natAbs_mul] at hd
  exact Nat.Coprime.dvd_of_dvd_mul_left (by unfold Nat.Coprime; rw [Int.gcd_eq_natAbs_gcd_natAbs] at h; exact h) hd
theorem okB_eq {a b c d : Int} (h1 : okB a b = true) (h2 : okB c d = true) (h : a * d = c * b) : a = c ∧ b = d := by
  have p1 := okB_out h1
  have p2 := okB_out h2
  have g1 : Int.gcd a b = 1 := by have := p1.2.2.2.2; unfold gcdi at this; omega
  have g2 : Int.gcd c d = 1 := by have := p2.2.2.2.2; unfold gcdi at this; omega
  have d1 : b ∣ d := by
    have : b ∣ a * d := ⟨c, by rw [h]; ac_rfl⟩
    exact dvd_cop (by rw [Int.gcd_comm]; exact g1) this
  have d2 : d ∣ b := by
    have : d ∣ c * b := ⟨a, by rw [← h]; ac_rfl⟩
    exact dvd_cop (by rw [Int.gcd_comm]; exact g2) this
  have e : b = d := Int.dvd_antisymm (by omega) (by omega) d1 d2
  subst e
  exact ⟨Int.eq_of_mul_eq_mul_right (by omega) h, rfl⟩
theorem less_flip {a b c d : Int} (h1 : okB a b = true) (h2 : okB c d = true) (hne : ¬ (a = c ∧ b = d)) : lessB c d a b = !lessB a b c d := by
  have k : a * d ≠ c * b := fun h => hne (okB_eq h1 h2 h)
  unfold lessB
  rw [two_yes h1 h2, two_yes h2 h1]
  by_cases h : a * d < c * b
  · rw [decide_eq_true h, decide_eq_false (by omega)]; rfl
  · rw [decide_eq_false h, decide_eq_true (by omega)]; rfl
end Go.Proofs.YtnhefbhiemdhoaaGreat.RM

/- Fractions are a field, as far as they go: what is taken or divided comes back. -/
namespace Go.Proofs.YtnhefbhiemdhoaaGreat.RM
theorem mul_in (x y A B : Int) (h1 : -A ≤ x) (h2 : x ≤ A) (h3 : -B ≤ y) (h4 : y ≤ B) : -(A * B) ≤ x * y ∧ x * y ≤ A * B := by
  have hA : 0 ≤ A := by omega
  have hB : 0 ≤ B := by omega
  have k : (x * y).natAbs ≤ (A * B).natAbs := by
    rw [Int.natAbs_mul, Int.natAbs_mul]; exact Nat.mul_le_mul (by omega) (by omega)
  have hp : 0 ≤ A * B := Int.mul_nonneg hA hB
  generalize x * y = z at *
  generalize A * B = u at *
  omega
/-- what a reduced fraction times its divisor is -/
theorem red_sg {x y : Int} (h : redOk x y = true) : sg x y ≠ 0 ∧ sg x y * redN x y = x ∧ sg x y * redD x y = y := by
  have h' := h
  unfold redOk at h'
  rw [Bool.and_eq_true] at h'
  have hy := (redIn_out h'.1).1
  have e1 : redN x y = x / sg x y := by unfold redN; rw [if_pos h]
  have e2 : redD x y = y / sg x y := by unfold redD; rw [if_pos h]
  rw [e1, e2]
  exact ⟨sg_ne x y hy, Int.mul_ediv_cancel' (sg_dvd_l x y), Int.mul_ediv_cancel' (sg_dvd_r x y)⟩
theorem cancel {k x y : Int} (hk : k ≠ 0) (h : k * x = k * y) : x = y := Int.eq_of_mul_eq_mul_left hk h
theorem add_sub {a b c d : Int} (h1 : okB a b = true) (s : redOk (a * d + c * b) (b * d) = true)
    (t : redOk (redN (a * d + c * b) (b * d) * d - c * redD (a * d + c * b) (b * d)) (redD (a * d + c * b) (b * d) * d) = true) :
    redN (redN (a * d + c * b) (b * d) * d - c * redD (a * d + c * b) (b * d)) (redD (a * d + c * b) (b * d) * d) = a ∧
    redD (redN (a * d + c * b) (b * d) * d - c * redD (a * d + c * b) (b * d)) (redD (a * d + c * b) (b * d) * d) = b := by
  obtain ⟨k1, n1, d1⟩ := red_sg s
  obtain ⟨k2, n2, d2⟩ := red_sg t
  have ht := okB_redN t
  generalize redN (a * d + c * b) (b * d) = N at *
  generalize redD (a * d + c * b) (b * d) = D at *
  generalize sg (a * d + c * b) (b * d) = g at *
  generalize redN (N * d - c * D) (D * d) = X at *
  generalize redD (N * d - c * D) (D * d) = Y at *
  generalize sg (N * d - c * D) (D * d) = k at *
  refine okB_eq ht h1 (cancel (Int.mul_ne_zero k1 k2) ?_)
  have e1 : g * k * (X * b) = g * (N * d - c * D) * b := by rw [← n2]; ac_rfl
  have e2 : g * k * (a * Y) = a * (g * D) * d := by rw [show g * k * (a * Y) = a * g * (k * Y) from by ac_rfl, d2]; ac_rfl
  have e3 : g * (N * d - c * D) * b = (g * N * d - c * (g * D)) * b := by rw [Int.mul_sub]; congr 2 <;> ac_rfl
  rw [e1, e2, e3, n1, d1, Int.add_mul, show c * b * d = c * (b * d) from by ac_rfl, Int.add_sub_cancel]
  ac_rfl
theorem div_mul {a b c d : Int} (h1 : okB a b = true) (s : redOk (a * d) (b * c) = true)
    (t : redOk (redN (a * d) (b * c) * c) (redD (a * d) (b * c) * d) = true) :
    redN (redN (a * d) (b * c) * c) (redD (a * d) (b * c) * d) = a ∧ redD (redN (a * d) (b * c) * c) (redD (a * d) (b * c) * d) = b := by
  obtain ⟨k1, n1, d1⟩ := red_sg s
  obtain ⟨k2, n2, d2⟩ := red_sg t
  have ht := okB_redN t
  generalize redN (a * d) (b * c) = N at *
  generalize redD (a * d) (b * c) = D at *
  generalize sg (a * d) (b * c) = g at *
  generalize redN (N * c) (D * d) = X at *
  generalize redD (N * c) (D * d) = Y at *
  generalize sg (N * c) (D * d) = k at *
  refine okB_eq ht h1 (cancel (Int.mul_ne_zero k1 k2) ?_)
  have e1 : g * k * (X * b) = g * N * c * b := by rw [show g * k * (X * b) = g * (k * X) * b from by ac_rfl, n2]; ac_rfl
  have e2 : g * k * (a * Y) = a * (g * D) * d := by rw [show g * k * (a * Y) = a * g * (k * Y) from by ac_rfl, d2]; ac_rfl
  rw [e1, e2, n1, d1]
  ac_rfl
theorem add_comm2 (a b c d : Int) : c * b + a * d = a * d + c * b ∧ d * b = b * d := ⟨Int.add_comm _ _, Int.mul_comm _ _⟩
/-- of three small right fractions: the product over the sum is the sum of the products, and nothing is too great -/
theorem spread {a b c d p q : Int} (a1 : -6 ≤ a) (a2 : a ≤ 6) (b1 : 1 ≤ b) (b2 : b ≤ 4) (c1 : -6 ≤ c) (c2 : c ≤ 6) (d1 : 1 ≤ d) (d2 : d ≤ 4) (p1 : -6 ≤ p) (p2 : p ≤ 6) (q1 : 1 ≤ q) (q2 : q ≤ 4) :
    ∃ sN sD lN lD mN mD nN nD rN rD : Int,
      (redOk (c * q + p * d) (d * q) = true ∧ redN (c * q + p * d) (d * q) = sN ∧ redD (c * q + p * d) (d * q) = sD ∧ okB sN sD = true) ∧
      (redOk (a * sN) (b * sD) = true ∧ redN (a * sN) (b * sD) = lN ∧ redD (a * sN) (b * sD) = lD) ∧
      (redOk (a * c) (b * d) = true ∧ redN (a * c) (b * d) = mN ∧ redD (a * c) (b * d) = mD ∧ okB mN mD = true) ∧
      (redOk (a * p) (b * q) = true ∧ redN (a * p) (b * q) = nN ∧ redD (a * p) (b * q) = nD ∧ okB nN nD = true) ∧
      (redOk (mN * nD + nN * mD) (mD * nD) = true ∧ redN (mN * nD + nN * mD) (mD * nD) = rN ∧ redD (mN * nD + nN * mD) (mD * nD) = rD) ∧ lN = rN ∧ lD = rD := by
  have pos : ∀ {x y : Int}, 1 ≤ x → 1 ≤ y → 1 ≤ x * y := fun hx hy => Int.mul_pos (by omega) (by omega)
  have u1 := mul_in c q 6 4 c1 c2 (by omega) q2
  have u2 := mul_in p d 6 4 p1 p2 (by omega) d2
  have u3 := mul_in d q 4 4 (by omega) d2 (by omega) q2
  have u3' := pos d1 q1
  obtain ⟨s1, s2, s3, s4, s5, s6⟩ := red_small (x := c * q + p * d) (y := d * q) (m := 48) (by omega) (by omega) (by omega) u3' (by omega)
  obtain ⟨gs, gs1, gs2⟩ := red_sg s1
  have v1 := mul_in a (redN (c * q + p * d) (d * q)) 6 48 a1 a2 s3 s4
  have v2 := mul_in b (redD (c * q + p * d) (d * q)) 4 16 (by omega) b2 (by omega) (by omega)
  have v2' := pos b1 s5
  obtain ⟨l1, l2, l3, l4, l5, l6⟩ := red_small (x := a * redN (c * q + p * d) (d * q)) (y := b * redD (c * q + p * d) (d * q)) (m := 288) (by omega) (by omega) (by omega) v2' (by omega)
  obtain ⟨gl, gl1, gl2⟩ := red_sg l1
  have w1 := mul_in a c 6 6 a1 a2 c1 c2
  have w2 := mul_in b d 4 4 (by omega) b2 (by omega) d2
  have w2' := pos b1 d1
  obtain ⟨m1, m2, m3, m4, m5, m6⟩ := red_small (x := a * c) (y := b * d) (m := 36) (by omega) (by omega) (by omega) w2' (by omega)
  obtain ⟨gm, gm1, gm2⟩ := red_sg m1
  have x1 := mul_in a p 6 6 a1 a2 p1 p2
  have x2 := mul_in b q 4 4 (by omega) b2 (by omega) q2
  have x2' := pos b1 q1
  obtain ⟨n1, n2, n3, n4, n5, n6⟩ := red_small (x := a * p) (y := b * q) (m := 36) (by omega) (by omega) (by omega) x2' (by omega)
  obtain ⟨gn, gn1, gn2⟩ := red_sg n1
  have y1 := mul_in (redN (a * c) (b * d)) (redD (a * p) (b * q)) 36 16 m3 m4 (by omega) (by omega)
  have y2 := mul_in (redN (a * p) (b * q)) (redD (a * c) (b * d)) 36 16 n3 n4 (by omega) (by omega)
  have y3 := mul_in (redD (a * c) (b * d)) (redD (a * p) (b * q)) 16 16 (by omega) (by omega) (by omega) (by omega)
  have y3' := pos m5 n5
  obtain ⟨r1, r2, r3, r4, r5, r6⟩ := red_small (x := redN (a * c) (b * d) * redD (a * p) (b * q) + redN (a * p) (b * q) * redD (a * c) (b * d)) (y := redD (a * c) (b * d) * redD (a * p) (b * q)) (m := 1152) (by omega) (by omega) (by omega) y3' (by omega)
  obtain ⟨gr, gr1, gr2⟩ := red_sg r1
  refine ⟨_, _, _, _, _, _, _, _, _, _, ⟨s1, rfl, rfl, s2⟩, ⟨l1, rfl, rfl⟩, ⟨m1, rfl, rfl, m2⟩, ⟨n1, rfl, rfl, n2⟩, ⟨r1, rfl, rfl⟩, ?_⟩
  refine okB_eq l2 r2 ?_
  clear s1 s2 s3 s4 s5 s6 l1 l2 l3 l4 l5 l6 m1 m2 m3 m4 m5 m6 n1 n2 n3 n4 n5 n6 r1 r2 r3 r4 r5 r6 u1 u2 u3 u3' v1 v2 v2' w1 w2 w2' x1 x2 x2' y1 y2 y3 y3' pos
  generalize redN (c * q + p * d) (d * q) = sN at *
  generalize redD (c * q + p * d) (d * q) = sD at *
  generalize sg (c * q + p * d) (d * q) = ks at *
  generalize redN (a * sN) (b * sD) = lN at *
  generalize redD (a * sN) (b * sD) = lD at *
  generalize sg (a * sN) (b * sD) = kl at *
  generalize redN (a * c) (b * d) = mN at *
  generalize redD (a * c) (b * d) = mD at *
  generalize sg (a * c) (b * d) = km at *
  generalize redN (a * p) (b * q) = nN at *
  generalize redD (a * p) (b * q) = nD at *
  generalize sg (a * p) (b * q) = kn at *
  generalize redN (mN * nD + nN * mD) (mD * nD) = rN at *
  generalize redD (mN * nD + nN * mD) (mD * nD) = rD at *
  generalize sg (mN * nD + nN * mD) (mD * nD) = kr at *
  refine cancel (Int.mul_ne_zero (Int.mul_ne_zero gs gl) (Int.mul_ne_zero gr (Int.mul_ne_zero gm gn))) ?_
  have e1 : ks * kl * (kr * (km * kn)) * (lN * rD) = a * (ks * sN) * ((km * mD) * (kn * nD)) := by
    rw [show ks * kl * (kr * (km * kn)) * (lN * rD) = ks * (kl * lN) * ((km * kn) * (kr * rD)) from by ac_rfl, gl1, gr2]; ac_rfl
  have e2 : ks * kl * (kr * (km * kn)) * (rN * lD) = b * (ks * sD) * ((km * mN) * (kn * nD) + (kn * nN) * (km * mD)) := by
    rw [show ks * kl * (kr * (km * kn)) * (rN * lD) = ks * (kl * lD) * ((km * kn) * (kr * rN)) from by ac_rfl, gl2, gr1, Int.mul_add (km * kn)]
    congr 1
    · ac_rfl
    · congr 1 <;> ac_rfl
  rw [e1, e2, gs1, gs2, gm1, gm2, gn1, gn2, Int.mul_add a, Int.add_mul (a * (c * q)), Int.mul_add (b * (d * q))]
  congr 1 <;> ac_rfl
theorem op_true {t : Bool} {x y : Int} (h : opOk t x y = true) : t = true ∧ redOk x y = true ∧ opN t x y = redN x y ∧ opD t x y = redD x y := by
  unfold opOk at h
  rw [Bool.and_eq_true] at h
  obtain ⟨h1, h2⟩ := h
  subst h1
  exact ⟨rfl, h2, rfl, rfl⟩
theorem sub_back {a b c d N D : Int} (hN : N = opN (two a b c d) (a * d + c * b) (b * d)) (hD : D = opD (two a b c d) (a * d + c * b) (b * d)) (h : opOk (two a b c d) (a * d + c * b) (b * d) = true)
    (k : opOk (two N D c d) (N * d - c * D) (D * d) = true) : a = opN (two N D c d) (N * d - c * D) (D * d) ∧ b = opD (two N D c d) (N * d - c * D) (D * d) := by
  obtain ⟨t1, r1, e1, e2⟩ := op_true h
  obtain ⟨t2, r2, e3, e4⟩ := op_true k
  rw [e3, e4]
  rw [e1] at hN
  rw [e2] at hD
  subst hN hD
  have := add_sub (two_out t1).1 r1 r2
  exact ⟨this.1.symm, this.2.symm⟩
theorem mul_back {a b c d N D : Int} (hN : N = opN (two a b c d) (a * d) (b * c)) (hD : D = opD (two a b c d) (a * d) (b * c)) (h : opOk (two a b c d) (a * d) (b * c) = true)
    (k : opOk (two N D c d) (N * c) (D * d) = true) : a = opN (two N D c d) (N * c) (D * d) ∧ b = opD (two N D c d) (N * c) (D * d) := by
  obtain ⟨t1, r1, e1, e2⟩ := op_true h
  obtain ⟨t2, r2, e3, e4⟩ := op_true k
  rw [e3, e4]
  rw [e1] at hN
  rw [e2] at hD
  subst hN hD
  have := div_mul (two_out t1).1 r1 r2
  exact ⟨this.1.symm, this.2.symm⟩
end Go.Proofs.YtnhefbhiemdhoaaGreat.RM

/- The program's exact operations as numbers. -/
namespace Go.Proofs.YtnhefbhiemdhoaaGreat
open Go.RowKit Go.Proofs.YtnhefbhiemdhoaaGreat.RM

/-- the number that a fraction is -/
def qr (p : Int × Int) : Rat := Rat.divInt p.1 p.2
theorem qr_red {x y : Int} (h : redOk x y = true) : qr (redN x y, redD x y) = Rat.divInt x y := by
  obtain ⟨h1, h2, h3⟩ := red_sg h
  have hb := okB_out (okB_redN h)
  have hy : y ≠ 0 := by
    intro h0
    have h4 : sg x y * redD x y = 0 := by rw [h3]; exact h0
    rcases Int.mul_eq_zero.1 h4 with k | k
    · exact h1 k
    · omega
  unfold qr
  rw [Rat.divInt_eq_divInt_iff (by show redD x y ≠ 0; omega) hy]
  show redN x y * y = x * redD x y
  obtain ⟨p, hp⟩ : ∃ p, p = redN x y := ⟨_, rfl⟩
  obtain ⟨q, hq⟩ : ∃ q, q = redD x y := ⟨_, rfl⟩
  obtain ⟨s, hs⟩ : ∃ s, s = sg x y := ⟨_, rfl⟩
  rw [← hp, ← hs] at h2
  rw [← hq, ← hs] at h3
  rw [← hp, ← hq]
  clear hp hq hs h1 hb hy h
  grind
/-- is it right -/
def okQ (p : Int × Int) : Prop := okB p.1 p.2 = true
theorem okQ_null : ¬ okQ (0, 0) := by unfold okQ; decide
theorem okQ_ne {p : Int × Int} (h : okQ p) : p.2 ≠ 0 := by have := okB_out h; omega
theorem op_q {p q : Int × Int} {x y : Int} (h : opOk (two p.1 p.2 q.1 q.2) x y = true) : okQ p ∧ okQ q ∧ okQ (opN (two p.1 p.2 q.1 q.2) x y, opD (two p.1 p.2 q.1 q.2) x y) ∧ qr (opN (two p.1 p.2 q.1 q.2) x y, opD (two p.1 p.2 q.1 q.2) x y) = Rat.divInt x y := by
  have hr := op_right h
  obtain ⟨t, h2, h3, h4⟩ := op_true h
  obtain ⟨t1, t2⟩ := two_out t
  exact ⟨t1, t2, hr, by rw [h3, h4]; exact qr_red h2⟩
theorem op_qno {p q : Int × Int} {x y : Int} (h : okQ (opN (two p.1 p.2 q.1 q.2) x y, opD (two p.1 p.2 q.1 q.2) x y)) : opOk (two p.1 p.2 q.1 q.2) x y = true := by
  cases e : opOk (two p.1 p.2 q.1 q.2) x y
  · rw [(op_zero e).1, (op_zero e).2] at h
    exact absurd h okQ_null
  · rfl
theorem dzQ {n d : Int} (hd : d ≠ 0) : Rat.divInt n d = 0 ↔ n = 0 := by
  rw [show (0 : Rat) = Rat.divInt 0 1 from rfl, Rat.divInt_eq_divInt_iff hd (by decide)]
  omega
theorem mul_q {p q : Int × Int} (h : (mulQ p q).2.2 = true) : okQ p ∧ okQ q ∧ okQ (fr (mulQ p q)) ∧ qr (fr (mulQ p q)) = qr p * qr q := by
  obtain ⟨h1, h2, h3, h4⟩ := op_q (p := p) (q := q) h
  refine ⟨h1, h2, h3, h4.trans ?_⟩
  unfold qr
  rw [Rat.divInt_mul_divInt]
theorem add_q {p q : Int × Int} (h : (addQ p q).2.2 = true) : okQ p ∧ okQ q ∧ okQ (fr (addQ p q)) ∧ qr (fr (addQ p q)) = qr p + qr q := by
  obtain ⟨h1, h2, h3, h4⟩ := op_q (p := p) (q := q) h
  refine ⟨h1, h2, h3, h4.trans ?_⟩
  unfold qr
  rw [Rat.divInt_add_divInt _ _ (okQ_ne h1) (okQ_ne h2)]
theorem sub_q {p q : Int × Int} (h : (subQ p q).2.2 = true) : okQ p ∧ okQ q ∧ okQ (fr (subQ p q)) ∧ qr (fr (subQ p q)) = qr p - qr q := by
  obtain ⟨h1, h2, h3, h4⟩ := op_q (p := p) (q := q) h
  refine ⟨h1, h2, h3, h4.trans ?_⟩
  unfold qr
  rw [Rat.divInt_sub_divInt _ _ (okQ_ne h1) (okQ_ne h2)]
theorem div_q {p q : Int × Int} (h : (divQ p q).2.2 = true) : okQ p ∧ okQ q ∧ okQ (fr (divQ p q)) ∧ qr q ≠ 0 ∧ qr (fr (divQ p q)) = qr p / qr q := by
  obtain ⟨h1, h2, h3, h4⟩ := op_q (p := p) (q := q) h
  have h4' : opOk (two p.1 p.2 q.1 q.2) (p.1 * q.2) (p.2 * q.1) = true := h
  obtain ⟨-, h5, -, -⟩ := op_true h4'
  have hq : q.1 ≠ 0 := by
    intro h0
    unfold redOk at h5
    rw [Bool.and_eq_true] at h5
    have := (redIn_out h5.1).1
    rw [h0] at this
    omega
  have hz : Rat.divInt q.1 q.2 ≠ 0 := by
    intro h0
    rw [dzQ (okQ_ne h2)] at h0
    exact hq h0
  refine ⟨h1, h2, h3, hz, h4.trans ?_⟩
  unfold qr
  have hm : Rat.divInt (p.1 * q.2) (p.2 * q.1) * Rat.divInt q.1 q.2 = Rat.divInt p.1 p.2 := by
    rw [Rat.divInt_mul_divInt, Rat.divInt_eq_divInt_iff (by
      intro h0
      rcases Int.mul_eq_zero.1 h0 with k | k
      · rcases Int.mul_eq_zero.1 k with k | k
        · exact okQ_ne h1 k
        · exact hq k
      · exact okQ_ne h2 k) (okQ_ne h1)]
    grind
  rw [← hm]
  grind
theorem qr_inj {p q : Int × Int} (h1 : okQ p) (h2 : okQ q) (h : qr p = qr q) : p = q := by
  unfold qr at h
  rw [Rat.divInt_eq_divInt_iff (okQ_ne h1) (okQ_ne h2)] at h
  obtain ⟨e1, e2⟩ := okB_eq h1 h2 h
  exact Prod.ext e1 e2
end Go.Proofs.YtnhefbhiemdhoaaGreat

/- What is converted, as numbers: there and back, and by a third unit. -/
namespace Go.Proofs.YtnhefbhiemdhoaaGreat
open Go.RowKit Go.Proofs.YtnhefbhiemdhoaaGreat.RM

/-- the number that stands for a unit's factor -/
def uq (f : UV) : Rat := qr (f.n, f.d)
/-- what a conversion that succeeds tells -/
theorem conv_qf {v z y : Int × Int} {f g : UV} (h : (convQ v z f g y).2.2 = true) :
    okQ v ∧ okQ z ∧ okQ y ∧ okQ (fr (convQ v z f g y)) ∧ uq g ≠ 0 ∧ (qr (fr (convQ v z f g y)) + qr y) * uq g = (qr v + qr z) * uq f ∧ (addQ v z).2.2 = true ∧ (mulQ (fr (addQ v z)) (f.n, f.d)).2.2 = true := by
  unfold convQ at h ⊢
  obtain ⟨o1, o2, o3, q1⟩ := sub_q h
  have kd : (divQ (fr (mulQ (fr (addQ v z)) (f.n, f.d))) (g.n, g.d)).2.2 = true := op_qno (p := fr (mulQ (fr (addQ v z)) (f.n, f.d))) (q := (g.n, g.d)) o1
  obtain ⟨o4, o5, -, q0, q2⟩ := div_q kd
  have km : (mulQ (fr (addQ v z)) (f.n, f.d)).2.2 = true := op_qno (p := fr (addQ v z)) (q := (f.n, f.d)) o4
  obtain ⟨o6, o7, -, q3⟩ := mul_q km
  have ka : (addQ v z).2.2 = true := op_qno (p := v) (q := z) o6
  obtain ⟨o8, o9, -, q4⟩ := add_q ka
  refine ⟨o8, o9, o2, o3, q0, ?_, ka, km⟩
  rw [q1, q2, q3, q4]
  unfold uq
  generalize qr (g.n, g.d) = G at *
  generalize qr (f.n, f.d) = F at *
  generalize qr v = a at *
  generalize qr z = b at *
  generalize qr y = c at *
  clear q1 q2 q3 q4
  grind
theorem can_mul {p r q F : Rat} (h : (p + r) * F = (q + r) * F) (hF : F ≠ 0) : p = q := by
  have : (p - q) * F = 0 := by grind
  rcases Rat.mul_eq_zero.1 this with h | h
  · grind
  · exact absurd h hF
/-- there and back -/
theorem conv_back {v z y : Int × Int} {f g : UV} (h : (convQ v z f g y).2.2 = true) (h2 : (convQ (fr (convQ v z f g y)) y g f z).2.2 = true) : fr (convQ (fr (convQ v z f g y)) y g f z) = v := by
  obtain ⟨a1, a2, a3, a4, a5, a6, -⟩ := conv_qf h
  obtain ⟨b1, b2, b3, b4, b5, b6, -⟩ := conv_qf h2
  refine qr_inj b4 a1 ?_
  rw [a6] at b6
  exact can_mul b6 b5
/-- by a third one -/
theorem conv_third {v z y k : Int × Int} {f g m : UV} (h : (convQ v z f g y).2.2 = true) (h2 : (convQ v z f m k).2.2 = true) (h3 : (convQ (fr (convQ v z f m k)) k m g y).2.2 = true) : fr (convQ (fr (convQ v z f m k)) k m g y) = fr (convQ v z f g y) := by
  obtain ⟨a1, a2, a3, a4, a5, a6, -⟩ := conv_qf h
  obtain ⟨b1, b2, b3, b4, b5, b6, -⟩ := conv_qf h2
  obtain ⟨c1, c2, c3, c4, c5, c6, -⟩ := conv_qf h3
  refine qr_inj c4 a4 ?_
  rw [b6, ← a6] at c6
  exact can_mul c6 a5
end Go.Proofs.YtnhefbhiemdhoaaGreat

/- A conversion into one's own unit gives back what was converted. -/
namespace Go.Proofs.YtnhefbhiemdhoaaGreat
open Go.RowKit Go.Proofs.YtnhefbhiemdhoaaGreat.RM

theorem red_is {p q x y : Int} (h : okB p q = true) (hy : y ≠ 0) (e : x * q = p * y) (b1 : -4611686018427387904 ≤ x ∧ x ≤ 4611686018427387904) (b2 : -4611686018427387904 ≤ y ∧ y ≤ 4611686018427387904) : redOk x y = true ∧ redN x y = p ∧ redD x y = q := by
  have hq := okB_out h
  have g1 : Int.gcd q p = 1 := by have := hq.2.2.2.2; unfold gcdi at this; rw [Int.gcd_comm]; omega
  have hd : q ∣ y := dvd_cop g1 ⟨x, by rw [← e]; ac_rfl⟩
  obtain ⟨m, rfl⟩ := hd
  have hx : x = p * m := by
    have : q * x = q * (p * m) := by rw [show q * x = x * q from by ac_rfl, e]; ac_rfl
    exact Int.eq_of_mul_eq_mul_left (by omega) this
  subst hx
  have hm : m ≠ 0 := fun h0 => hy (by rw [h0]; simp)
  have hg : gcdi (p * m) (q * m) = (m.natAbs : Int) := by
    unfold gcdi
    rw [Int.gcd_mul_right, Int.gcd_comm, g1]
    simp
  have hs : sg (p * m) (q * m) = m := by
    unfold sg
    rw [hg]
    split
    · rename_i hn
      have : m < 0 := by
        rcases Int.lt_or_le m 0 with h | h
        · exact h
        · have := Int.mul_nonneg (show 0 ≤ q by omega) h; omega
      omega
    · rename_i hn
      have : 0 ≤ m := by
        rcases Int.lt_or_le m 0 with h | h
        · have := Int.mul_neg_of_pos_of_neg (show 0 < q by omega) h; omega
        · exact h
      omega
  have k1 : p * m / sg (p * m) (q * m) = p := by rw [hs]; exact Int.mul_ediv_cancel p hm
  have k2 : q * m / sg (p * m) (q * m) = q := by rw [hs]; exact Int.mul_ediv_cancel q hm
  have k : redOk (p * m) (q * m) = true := by
    unfold redOk
    rw [k1, k2, redIn_mk ⟨hy, b1.1, b1.2, b2.1, b2.2⟩, bdB_mk ⟨hq.1, hq.2.1, hq.2.2.1, hq.2.2.2.1⟩]
    rfl
  exact ⟨k, by unfold redN; rw [if_pos k, k1], by unfold redD; rw [if_pos k, k2]⟩
theorem op_is {P Q A : Int × Int} {x y : Int} (h1 : okQ P) (h2 : okQ Q) (h : okQ A) (hy : y ≠ 0) (e : x * A.2 = A.1 * y) (b1 : -4611686018427387904 ≤ x ∧ x ≤ 4611686018427387904) (b2 : -4611686018427387904 ≤ y ∧ y ≤ 4611686018427387904) :
    opN (two P.1 P.2 Q.1 Q.2) x y = A.1 ∧ opD (two P.1 P.2 Q.1 Q.2) x y = A.2 ∧ opOk (two P.1 P.2 Q.1 Q.2) x y = true := by
  have t : two P.1 P.2 Q.1 Q.2 = true := by unfold two; rw [show okB P.1 P.2 = true from h1, show okB Q.1 Q.2 = true from h2]; rfl
  obtain ⟨r1, r2, r3⟩ := red_is h hy e b1 b2
  rw [t]
  exact ⟨r2, r3, r1⟩
theorem bd_mul {p q : Int × Int} (h1 : okQ p) (h2 : okQ q) : (-1000000000000000000 ≤ p.1 * q.1 ∧ p.1 * q.1 ≤ 1000000000000000000) ∧ (-1000000000000000000 ≤ p.1 * q.2 ∧ p.1 * q.2 ≤ 1000000000000000000) ∧ (-1000000000000000000 ≤ p.2 * q.1 ∧ p.2 * q.1 ≤ 1000000000000000000) ∧ (-1000000000000000000 ≤ p.2 * q.2 ∧ p.2 * q.2 ≤ 1000000000000000000) := by
  have a := okB_out h1
  have b := okB_out h2
  exact ⟨mul_bd _ _ a.2.2.1 a.2.2.2.1 b.2.2.1 b.2.2.2.1, mul_bd _ _ a.2.2.1 a.2.2.2.1 (by omega) b.2.1, mul_bd _ _ (by omega) a.2.1 b.2.2.1 b.2.2.2.1, mul_bd _ _ (by omega) a.2.1 (by omega) b.2.1⟩
theorem div_back {A F : Int × Int} (h : (mulQ A F).2.2 = true) (hF : qr F ≠ 0) : divQ (fr (mulQ A F)) F = (A.1, A.2, true) := by
  obtain ⟨h1, h2, h3, h4⟩ := mul_q h
  generalize fr (mulQ A F) = M at *
  have hz : F.1 ≠ 0 := by
    intro h0
    apply hF
    unfold qr
    rw [dzQ (okQ_ne h2)]
    exact h0
  have hM := okQ_ne h3
  have hA := okQ_ne h1
  have hF2 := okQ_ne h2
  obtain ⟨-, c2, c3, -⟩ := bd_mul h3 h2
  unfold qr at h4
  rw [Rat.divInt_mul_divInt, Rat.divInt_eq_divInt_iff hM (Int.mul_ne_zero hA hF2)] at h4
  obtain ⟨e1, e2, e3⟩ := op_is (P := M) (Q := F) (A := A) (x := M.1 * F.2) (y := M.2 * F.1) h3 h2 h1 (Int.mul_ne_zero hM hz) (by rw [show M.1 * F.2 * A.2 = M.1 * (A.2 * F.2) from by ac_rfl, h4]; ac_rfl) (by omega) (by omega)
  show (_, _, _) = _
  rw [e1, e2, e3]
theorem sub_back {v z : Int × Int} (h : (addQ v z).2.2 = true) : subQ (fr (addQ v z)) z = (v.1, v.2, true) := by
  obtain ⟨h1, h2, h3, h4⟩ := add_q h
  generalize fr (addQ v z) = A at *
  have hA := okQ_ne h3
  have hv := okQ_ne h1
  have hz := okQ_ne h2
  obtain ⟨-, c2, c3, c4⟩ := bd_mul h3 h2
  have c5 := (bd_mul h2 h3).2.1
  unfold qr at h4
  rw [Rat.divInt_add_divInt _ _ hv hz, Rat.divInt_eq_divInt_iff hA (Int.mul_ne_zero hv hz)] at h4
  obtain ⟨e1, e2, e3⟩ := op_is (P := A) (Q := z) (A := v) (x := A.1 * z.2 - z.1 * A.2) (y := A.2 * z.2) h3 h2 h1 (Int.mul_ne_zero hA hz) (by grind) (by omega) (by omega)
  show (_, _, _) = _
  rw [e1, e2, e3]
/-- into one's own unit -/
theorem conv_self {v z y : Int × Int} {f g : UV} (h : (convQ v z f g y).2.2 = true) (hf : uq f ≠ 0) : convQ v z f f z = (v.1, v.2, true) := by
  obtain ⟨a1, a2, a3, a4, a5, a6, a7, a8⟩ := conv_qf h
  unfold convQ
  rw [div_back a8 hf]
  exact sub_back a7
end Go.Proofs.YtnhefbhiemdhoaaGreat

/- A text split at a byte, in plain lists. -/
namespace Go.Proofs.YtnhefbhiemdhoaaGreat

/-- the parts between a byte, behind what has been read of the part at hand -/
def splitA (by' : UInt8) : List UInt8 → List UInt8 → List (List UInt8)
  | acc, [] => [acc]
  | acc, b :: r => if b = by' then acc :: splitA by' [] r else splitA by' (acc ++ [b]) r
def splitL (by' : UInt8) (l : List UInt8) : List (List UInt8) := splitA by' [] l
theorem splitA_no {c : UInt8} : ∀ (x acc : List UInt8), c ∉ x → splitA c acc x = [acc ++ x]
  | [], acc, _ => by simp [splitA]
  | b :: r, acc, h => by
    have hb : ¬ b = c := fun e => h (by rw [e]; exact List.mem_cons_self)
    rw [splitA, if_neg hb, splitA_no r _ (fun hm => h (List.mem_cons_of_mem _ hm))]
    simp
theorem splitA_at {c : UInt8} : ∀ (x acc r : List UInt8), c ∉ x → splitA c acc (x ++ c :: r) = (acc ++ x) :: splitA c [] r
  | [], acc, r, _ => by simp [splitA]
  | b :: y, acc, r, h => by
    have hb : ¬ b = c := fun e => h (by rw [e]; exact List.mem_cons_self)
    rw [List.cons_append, splitA, if_neg hb, splitA_at y _ r (fun hm => h (List.mem_cons_of_mem _ hm))]
    simp
theorem splitA_acc {c : UInt8} : ∀ (l acc : List UInt8), ∃ h t, splitA c [] l = h :: t ∧ splitA c acc l = (acc ++ h) :: t
  | [], acc => ⟨[], [], rfl, by simp [splitA]⟩
  | b :: r, acc => by
    by_cases hb : b = c
    · exact ⟨[], splitA c [] r, by rw [splitA, if_pos hb], by rw [splitA, if_pos hb]; simp⟩
    · obtain ⟨h, t, h1, h2⟩ := splitA_acc r [b]
      obtain ⟨h', t', h3, h4⟩ := splitA_acc r (acc ++ [b])
      rw [h1] at h3
      injection h3 with e1 e2
      subst e1 e2
      exact ⟨b :: h, t, by rw [splitA, if_neg hb, List.nil_append, h2]; rfl, by rw [splitA, if_neg hb, h4]; simp⟩
theorem splitL_no {c : UInt8} {x : List UInt8} (h : c ∉ x) : splitL c x = [x] := by unfold splitL; rw [splitA_no _ _ h]; rfl
theorem splitL_at {c : UInt8} {x r : List UInt8} (h : c ∉ x) : splitL c (x ++ c :: r) = x :: splitL c r := by unfold splitL; rw [splitA_at _ _ _ h]; rfl
theorem splitL_pre {c : UInt8} {x r : List UInt8} (h : c ∉ x) : ∃ a t, splitL c r = a :: t ∧ splitL c (x ++ r) = (x ++ a) :: t := by
  unfold splitL
  have key : ∀ (x acc : List UInt8), c ∉ x → splitA c acc (x ++ r) = splitA c (acc ++ x) r := by
    intro x
    induction x with
    | nil => intro acc _; simp
    | cons b y ih =>
      intro acc h
      have hb : ¬ b = c := fun e => h (by rw [e]; exact List.mem_cons_self)
      rw [List.cons_append, splitA, if_neg hb, ih _ (fun hm => h (List.mem_cons_of_mem _ hm))]
      simp
  rw [key x [] h]
  obtain ⟨a, t, h1, h2⟩ := splitA_acc (c := c) r ([] ++ x)
  exact ⟨a, t, h1, by rw [h2]; simp⟩
theorem splitL_one {c : UInt8} {l a : List UInt8} (h : splitL c l = [a]) : a = l ∧ c ∉ l := by
  by_cases hc : c ∈ l
  · obtain ⟨x, r, rfl, hx⟩ := List.eq_append_cons_of_mem hc
    rw [splitL_at hx] at h
    injection h with _ h2
    obtain ⟨a', t', h3, _⟩ := splitA_acc (c := c) r []
    unfold splitL at h2
    rw [h3] at h2
    cases h2
  · rw [splitL_no hc] at h
    injection h with h1 _
    exact ⟨h1.symm, hc⟩

theorem splitL_two {c : UInt8} {l : List UInt8} (h : c ∈ l) : ∃ a b t, splitL c l = a :: b :: t := by
  obtain ⟨x, r, rfl, hx⟩ := List.eq_append_cons_of_mem h
  rw [splitL_at hx]
  obtain ⟨a, t, h1, _⟩ := splitA_acc (c := c) r []
  exact ⟨x, a, t, by unfold splitL; rw [h1]⟩

/-- how far a text has been split: k bytes are read, the part at hand begins at j -/
def RelS (c : UInt8) (l : List UInt8) (k j : Nat) (ss : List (List UInt8)) : Prop :=
  (k ≤ l.length → splitL c l = ss ++ splitA c ((l.drop j).take (k - j)) (l.drop k)) ∧ (l.length < k → splitL c l = ss)
theorem RelS.start (c : UInt8) (l : List UInt8) : RelS c l 0 0 [] := ⟨fun _ => by simp [splitL], fun h => absurd h (Nat.not_lt_zero _)⟩
theorem take_more {l : List UInt8} {j k : Nat} (hj : j ≤ k) (hk : k < l.length) : (l.drop j).take (k + 1 - j) = (l.drop j).take (k - j) ++ [l[k]] := by
  have e : k + 1 - j = (k - j) + 1 := by omega
  have hl : k - j < (l.drop j).length := by rw [List.length_drop]; omega
  rw [e, List.take_succ_eq_append_getElem hl]
  congr 2
  rw [List.getElem_drop]
  have e2 : j + (k - j) = k := by omega
  simp only [e2]
theorem RelS.no {c : UInt8} {l : List UInt8} {k j : Nat} {ss : List (List UInt8)} (h : RelS c l k j ss) (hj : j ≤ k) (hk : k < l.length) (hb : ¬ l[k] = c) : RelS c l (k + 1) j ss := by
  refine ⟨fun _ => ?_, fun h2 => by omega⟩
  rw [h.1 (by omega), List.drop_eq_getElem_cons hk, splitA, if_neg hb, take_more hj hk]
theorem RelS.yes {c : UInt8} {l : List UInt8} {k j : Nat} {ss : List (List UInt8)} (h : RelS c l k j ss) (hk : k < l.length) (hb : l[k] = c) : RelS c l (k + 1) (k + 1) (ss ++ [(l.drop j).take (k - j)]) := by
  refine ⟨fun _ => ?_, fun h2 => by omega⟩
  rw [h.1 (by omega), List.drop_eq_getElem_cons hk, splitA, if_pos hb]
  simp
theorem RelS.last {c : UInt8} {l : List UInt8} {k j : Nat} {ss : List (List UInt8)} (h : RelS c l k j ss) (hk : k = l.length) : RelS c l (k + 1) (k + 1) (ss ++ [(l.drop j).take (k - j)]) := by
  refine ⟨fun h2 => by omega, fun _ => ?_⟩
  rw [h.1 (by omega), hk, List.drop_length, splitA]
theorem RelS.done {c : UInt8} {l : List UInt8} {k j : Nat} {ss : List (List UInt8)} (h : RelS c l k j ss) (hk : l.length < k) : splitL c l = ss := h.2 hk
theorem ext_sub (s : ByteArray) (j k : Nat) : (s.extract j k).data.toList = (s.data.toList.drop j).take (k - j) := by
  rw [ByteArray.data_extract, Array.toList_extract, List.extract_eq_take_drop]
theorem splitA_len (c : UInt8) : ∀ (l acc : List UInt8), (splitA c acc l).length ≤ l.length + 1
  | [], _ => Nat.le_refl _
  | b :: r, acc => by
    rw [splitA]
    split
    · simp only [List.length_cons]; exact Nat.succ_le_succ (splitA_len c r [])
    · exact Nat.le_trans (splitA_len c r _) (by simp)
theorem splitA_mem (c : UInt8) : ∀ (l acc : List UInt8) (x : List UInt8), x ∈ splitA c acc l → ∀ b ∈ x, b ∈ acc ∨ b ∈ l
  | [], acc, x, hx, b, hb => by
    simp [splitA] at hx
    subst hx
    exact .inl hb
  | d :: r, acc, x, hx, b, hb => by
    rw [splitA] at hx
    split at hx
    · rcases List.mem_cons.1 hx with rfl | hx
      · exact .inl hb
      · rcases splitA_mem c r [] x hx b hb with h | h
        · cases h
        · exact .inr (List.mem_cons_of_mem _ h)
    · rcases splitA_mem c r _ x hx b hb with h | h
      · rcases List.mem_append.1 h with h | h
        · exact .inl h
        · simp at h; subst h; exact .inr List.mem_cons_self
      · exact .inr (List.mem_cons_of_mem _ h)
end Go.Proofs.YtnhefbhiemdhoaaGreat

/- A unit text told by splitting it, as the model does: the same as what the program tells by reading on. -/
namespace Go.Proofs.YtnhefbhiemdhoaaGreat
open Go.Proofs.YtnhefbhiemdhoaaGreat.RM

/-- the power behind the ^ -/
def powY (y : List UInt8) : Option Int :=
  match y with
  | [c] => if c.toNat < 49 ∨ 57 < c.toNat then none else some ((c.toNat : Int) - 48)
  | [m, c] => if m = 45 then (if c.toNat < 49 ∨ 57 < c.toNat then none else some (-((c.toNat : Int) - 48))) else none
  | _ => none
/-- a word and its power -/
def rdW (x : List UInt8) : Option (UV × Int) :=
  match splitL 94 x with
  | [a] => if (wordI a).2 = true then some ((wordI a).1, 1) else none
  | [a, y] => match powY y with
    | none => none
    | some p => if (wordI a).2 = true then some ((wordI a).1, p) else none
  | _ => none
/-- one word's part of the product -/
def stepW (dv : Bool) (x : List UInt8) (P : UV) : Option UV :=
  match rdW x with
  | none => none
  | some (u, p) => mulP u p dv P
def mulAll (dv : Bool) : List (List UInt8) → UV → Option UV
  | [], P => some P
  | x :: r, P => match stepW dv x P with
    | none => none
    | some P' => mulAll dv r P'
def halvesU (hs : List (List UInt8)) (P : UV) : Option UV :=
  match hs with
  | [a] => mulAll false (splitL 46 a) P
  | [a, b] => match mulAll false (splitL 46 a) P with
    | none => none
    | some P' => mulAll true (splitL 46 b) P'
  | _ => none
def sUnitI (l : List UInt8) : Option UV := if l = [49] then some oneV else halvesU (splitL 47 l) oneV

/-- behind a word of the program's -/
def restU (n : Nat) (r : List UInt8) (dv : Bool) (P : UV) : Option UV :=
  match r with
  | [] => some P
  | b :: r' => if b = 46 then uo n r' dv P else if b = 47 ∧ dv = false then uo n r' true P else none
theorem partU_rest (n : Nat) (r : List UInt8) (u : UV) (p : Int) (dv : Bool) (P : UV) : partU (uo n) r u p dv P = match mulP u p dv P with
    | none => none
    | some P' => restU n r dv P' := rfl
/-- where a word ends: nothing, or a . or a / -/
def EndW (r : List UInt8) : Prop := r = [] ∨ ∃ r', r = 46 :: r' ∨ r = 47 :: r'
theorem end_no94 {r : List UInt8} (h : EndW r) : passL 94 r = (r, false) := by
  rcases h with rfl | ⟨r', rfl | rfl⟩ <;> rfl
theorem sep_iff (b : UInt8) : sepB b = true ↔ (b = 46 ∨ b = 94 ∨ b = 47) := by
  unfold sepB
  simp
theorem hd_of {x r : List UInt8} (hx : ∀ b ∈ x, sepB b = false) (hr : r = [] ∨ ∃ b r', r = b :: r' ∧ sepB b = true) : hdW (x ++ r) = x ∧ tlW (x ++ r) = r := by
  unfold hdW tlW
  have h1 : ∀ b ∈ x, (!sepB b) = true := fun b hb => by rw [hx b hb]; rfl
  rw [List.takeWhile_append_of_pos h1, List.dropWhile_append_of_pos h1]
  rcases hr with rfl | ⟨b, r', rfl, hb⟩
  · simp
  · simp [hb]
theorem powY_94 {y : List UInt8} (h : (94 : UInt8) ∈ y) : powY y = none := by
  match y, h with
  | [c], h => simp at h; subst h; rfl
  | [m, c], h =>
    simp only [List.mem_cons, List.not_mem_nil, or_false] at h
    rcases h with rfl | rfl
    · rfl
    · simp only [powY]; split <;> rfl
  | a :: b :: c :: r, _ => rfl
theorem rdW_pow {a y : List UInt8} (ha : (94 : UInt8) ∉ a) : rdW (a ++ 94 :: y) = match powY y with
    | none => none
    | some p => if (wordI a).2 = true then some ((wordI a).1, p) else none := by
  unfold rdW
  rw [splitL_at ha]
  by_cases hy : (94 : UInt8) ∈ y
  · obtain ⟨b, c, t, h1⟩ := splitL_two hy
    rw [h1, powY_94 hy]
  · rw [splitL_no hy]
theorem powL_at {y r : List UInt8} (hy : ∀ b ∈ y, b ≠ 46 ∧ b ≠ 47) (hr : EndW r) : (∃ p, powY y = some p ∧ powL (y ++ r) = some (p, r)) ∨ (powY y = none ∧ ∀ q, powL (y ++ r) = some q → ∃ b t, q.2 = b :: t ∧ b ≠ 46 ∧ b ≠ 47) := by
  have hend : ∀ n q, powA n r = some q → False := by
    intro n q h
    rcases hr with rfl | ⟨r', rfl | rfl⟩
    · cases h
    · simp [powA] at h
    · simp [powA] at h
  have hpass : passL 45 r = (r, false) := by rcases hr with rfl | ⟨r', rfl | rfl⟩ <;> rfl
  match y, hy with
  | [], _ =>
    refine .inr ⟨rfl, fun q h => ?_⟩
    unfold powL at h
    rw [List.nil_append, hpass] at h
    exact (hend _ _ h).elim
  | [c], hy =>
    unfold powL
    rw [List.singleton_append, passL_cons]
    by_cases h45 : c = 45
    · subst h45
      refine .inr ⟨rfl, fun q h => ?_⟩
      rw [if_pos rfl] at h
      exact (hend _ _ h).elim
    · rw [if_neg h45]
      simp only [powA, powY]
      by_cases hc : c.toNat < 49 ∨ 57 < c.toNat
      · rw [if_pos hc, if_pos hc]
        exact .inr ⟨rfl, fun q h => by cases h⟩
      · rw [if_neg hc, if_neg hc]
        exact .inl ⟨_, rfl, by simp⟩
  | [m, c], hy =>
    unfold powL
    rw [List.cons_append, passL_cons]
    by_cases h45 : m = 45
    · rw [if_pos h45]
      simp only [powY, if_pos h45, List.singleton_append, powA]
      by_cases hc : c.toNat < 49 ∨ 57 < c.toNat
      · rw [if_pos hc, if_pos hc]
        exact .inr ⟨rfl, fun q h => by cases h⟩
      · rw [if_neg hc, if_neg hc]
        exact .inl ⟨_, rfl, by simp⟩
    · rw [if_neg h45]
      simp only [powY, if_neg h45, List.singleton_append, powA]
      refine .inr ⟨trivial, fun q h => ?_⟩
      split at h
      · cases h
      · cases h
        exact ⟨c, r, rfl, hy c (by simp)⟩
  | m :: c :: d :: z, hy =>
    unfold powL
    rw [List.cons_append, passL_cons]
    refine .inr ⟨rfl, fun q h => ?_⟩
    by_cases h45 : m = 45
    · rw [if_pos h45] at h
      simp only [List.cons_append, powA] at h
      split at h
      · cases h
      · cases h
        exact ⟨d, z ++ r, rfl, hy d (by simp)⟩
    · rw [if_neg h45] at h
      simp only [List.cons_append, powA] at h
      split at h
      · cases h
      · cases h
        exact ⟨c, d :: z ++ r, rfl, hy c (by simp)⟩
theorem restU_no (n : Nat) {b : UInt8} (t : List UInt8) (dv : Bool) (P : UV) (h1 : b ≠ 46) (h2 : b ≠ 47) : restU n (b :: t) dv P = none := by
  show (if b = 46 then uo n t dv P else if b = 47 ∧ dv = false then uo n t true P else none) = none
  rw [if_neg h1, if_neg (fun h => h2 h.1)]
theorem uo_step (n : Nat) {x r : List UInt8} (dv : Bool) (P : UV) (hx : ∀ b ∈ x, b ≠ 46 ∧ b ≠ 47) (hr : EndW r) : uo (n + 1) (x ++ r) dv P = match stepW dv x P with
    | none => none
    | some P' => restU n r dv P' := by
  by_cases h94 : (94 : UInt8) ∈ x
  · obtain ⟨a, y, rfl, ha⟩ := List.eq_append_cons_of_mem h94
    have hd := hd_of (x := a) (r := 94 :: (y ++ r)) (fun b hb => by
      have h1 := hx b (by simp [hb])
      rw [← Bool.not_eq_true, sep_iff]
      rintro (h | h | h)
      · exact h1.1 h
      · exact ha (h ▸ hb)
      · exact h1.2 h) (.inr ⟨94, _, rfl, rfl⟩)
    have he : (a ++ 94 :: y) ++ r = a ++ 94 :: (y ++ r) := by simp
    rw [he]
    unfold uo stepW
    rw [hd.1, hd.2, rdW_pow ha]
    have hp : passL 94 (94 :: (y ++ r)) = (y ++ r, true) := rfl
    rw [hp]
    simp only [if_true]
    by_cases hw : (wordI a).2 = true
    · simp only [hw, if_true]
      unfold powU
      rcases powL_at (y := y) (r := r) (fun b hb => hx b (by simp [hb])) hr with ⟨p, h1, h2⟩ | ⟨h1, h2⟩
      · rw [h1, h2]
        simp only [partU_rest]
      · rw [h1]
        cases hq : powL (y ++ r) with
        | none => rfl
        | some q =>
          obtain ⟨b, t, h3, h4, h5⟩ := h2 q hq
          simp only [partU_rest]
          cases mulP (wordI a).1 q.1 dv P with
          | none => rfl
          | some P' => simp only [h3, restU_no n t dv P' h4 h5]
    · rw [if_neg hw]
      cases powY y with
      | none => rfl
      | some p => simp [hw]
  · have hd := hd_of (x := x) (r := r) (fun b hb => by
      have h1 := hx b hb
      rw [← Bool.not_eq_true, sep_iff]
      rintro (h | h | h)
      · exact h1.1 h
      · exact h94 (h ▸ hb)
      · exact h1.2 h) (by
        rcases hr with rfl | ⟨r', rfl | rfl⟩
        · exact .inl rfl
        · exact .inr ⟨46, r', rfl, rfl⟩
        · exact .inr ⟨47, r', rfl, rfl⟩)
    unfold uo stepW rdW
    rw [hd.1, hd.2, end_no94 hr, splitL_no h94]
    by_cases hw : (wordI x).2 = true
    · simp only [hw, if_true, partU_rest, Bool.false_eq_true, if_false]
    · simp [hw]
theorem cut_word (l : List UInt8) : ∃ x r, l = x ++ r ∧ (∀ b ∈ x, b ≠ 46 ∧ b ≠ 47) ∧ EndW r := by
  induction l with
  | nil => exact ⟨[], [], rfl, (fun b hb => by cases hb), .inl rfl⟩
  | cons c l ih =>
    by_cases h1 : c = 46
    · exact ⟨[], c :: l, rfl, (fun b hb => by cases hb), .inr ⟨l, .inl (by rw [h1])⟩⟩
    by_cases h2 : c = 47
    · exact ⟨[], c :: l, rfl, (fun b hb => by cases hb), .inr ⟨l, .inr (by rw [h2])⟩⟩
    obtain ⟨x, r, e, hx, hr⟩ := ih
    refine ⟨c :: x, r, by rw [e]; rfl, fun b hb => ?_, hr⟩
    rcases List.mem_cons.1 hb with rfl | hb
    · exact ⟨h1, h2⟩
    · exact hx b hb
theorem mulAll_cons (dv : Bool) (x : List UInt8) (r : List (List UInt8)) (P : UV) : mulAll dv (x :: r) P = match stepW dv x P with
    | none => none
    | some P' => mulAll dv r P' := rfl
theorem uo_true : ∀ (n : Nat) (l : List UInt8) (P : UV), l.length < n → uo n l true P = if (47 : UInt8) ∈ l then none else mulAll true (splitL 46 l) P := by
  intro n
  induction n with
  | zero => intro l P h; exact absurd h (Nat.not_lt_zero _)
  | succ n ih =>
    intro l P hl
    obtain ⟨x, r, rfl, hx, hr⟩ := cut_word l
    rw [uo_step n true P hx hr]
    have h46 : (46 : UInt8) ∉ x := fun h => (hx _ h).1 rfl
    have h47 : (47 : UInt8) ∉ x := fun h => (hx _ h).2 rfl
    rcases hr with rfl | ⟨r', rfl | rfl⟩
    · rw [List.append_nil, if_neg h47, splitL_no h46, mulAll_cons]
      rfl
    · rw [splitL_at h46, mulAll_cons]
      have hm : ((47 : UInt8) ∈ x ++ 46 :: r') ↔ (47 : UInt8) ∈ r' := by simp [h47]
      have hl' : r'.length < n := by simp at hl; omega
      cases stepW true x P with
      | none => simp
      | some P' =>
        show uo n r' true P' = _
        rw [ih r' P' hl']
        by_cases h : (47 : UInt8) ∈ r'
        · rw [if_pos h, if_pos (hm.2 h)]
        · rw [if_neg h, if_neg (fun h2 => h (hm.1 h2))]
    · rw [if_pos (by simp)]
      cases stepW true x P with
      | none => rfl
      | some P' => rfl
theorem uo_false : ∀ (n : Nat) (l : List UInt8) (P : UV), l.length < n → uo n l false P = halvesU (splitL 47 l) P := by
  intro n
  induction n with
  | zero => intro l P h; exact absurd h (Nat.not_lt_zero _)
  | succ n ih =>
    intro l P hl
    obtain ⟨x, r, rfl, hx, hr⟩ := cut_word l
    rw [uo_step n false P hx hr]
    have h46 : (46 : UInt8) ∉ x := fun h => (hx _ h).1 rfl
    have h47 : (47 : UInt8) ∉ x := fun h => (hx _ h).2 rfl
    rcases hr with rfl | ⟨r', rfl | rfl⟩
    · rw [List.append_nil, splitL_no h47]
      show _ = mulAll false (splitL 46 x) P
      rw [splitL_no h46, mulAll_cons]
      rfl
    · have hl' : r'.length < n := by simp at hl; omega
      obtain ⟨a, t, h1, h2⟩ := splitL_pre (c := 47) (x := x ++ [46]) (r := r') (by simp [h47])
      have he : x ++ 46 :: r' = (x ++ [46]) ++ r' := by simp
      rw [he, h2]
      have h3 : splitL 46 ((x ++ [46]) ++ a) = x :: splitL 46 a := by rw [List.append_assoc, List.singleton_append, splitL_at h46]
      have hre : ∀ P', restU n (46 :: r') false P' = halvesU (a :: t) P' := fun P' => by
        show uo n r' false P' = _
        rw [ih r' P' hl', h1]
      match t with
      | [] =>
        show _ = mulAll false (splitL 46 ((x ++ [46]) ++ a)) P
        rw [h3, mulAll_cons]
        cases stepW false x P with
        | none => rfl
        | some P' => exact hre P'
      | [b] =>
        show _ = (match mulAll false (splitL 46 ((x ++ [46]) ++ a)) P with | none => none | some P' => mulAll true (splitL 46 b) P')
        rw [h3, mulAll_cons]
        cases stepW false x P with
        | none => rfl
        | some P' => exact hre P'
      | b :: c :: t =>
        show _ = none
        cases stepW false x P with
        | none => rfl
        | some P' => exact hre P'
    · have hl' : r'.length < n := by simp at hl; omega
      rw [splitL_at h47]
      have hre : ∀ P', restU n (47 :: r') false P' = if (47 : UInt8) ∈ r' then none else mulAll true (splitL 46 r') P' := fun P' => uo_true n r' P' hl'
      by_cases h : (47 : UInt8) ∈ r'
      · obtain ⟨b, c, t, h4⟩ := splitL_two h
        rw [h4]
        show _ = none
        cases stepW false x P with
        | none => rfl
        | some P' => show restU n (47 :: r') false P' = none; rw [hre P', if_pos h]
      · rw [splitL_no h]
        show _ = (match mulAll false (splitL 46 x) P with | none => none | some P' => mulAll true (splitL 46 r') P')
        rw [splitL_no h46, mulAll_cons]
        cases stepW false x P with
        | none => rfl
        | some P' => show restU n (47 :: r') false P' = _; rw [hre P', if_neg h]; rfl
theorem unitI_split (l : List UInt8) : unitI l = sUnitI l := by
  unfold unitI sUnitI
  split
  · rfl
  · exact uo_false _ l oneV (Nat.lt_succ_self _)
end Go.Proofs.YtnhefbhiemdhoaaGreat

/- The model's l1Digits, exactly: what it answers at every text. -/
namespace Go.Proofs.YtnhefbhiemdhoaaGreat
open Go.RowKit Go.Proofs.YtnhefbhiemdhoaaGreat.RM

/-- digits read on from a -/
def dgG : List UInt8 → Nat → Option Nat
  | [], a => some a
  | c :: r, a => if 48 ≤ c.toNat ∧ c.toNat ≤ 57 then dgG r (a * 10 + (c.toNat - 48)) else none
theorem dgG_app (x y : List UInt8) : ∀ a b, dgG x a = some b → dgG (x ++ y) a = dgG y b := by
  induction x with
  | nil => intro a b h; simp only [dgG] at h; cases h; rfl
  | cons c r ih =>
    intro a b h
    simp only [dgG, List.cons_append] at h ⊢
    split at h
    · rename_i hc; rw [if_pos hc]; exact ih _ _ h
    · cases h
theorem dgG_no {c : UInt8} (hc : ¬ (48 ≤ c.toNat ∧ c.toNat ≤ 57)) : ∀ (l : List UInt8) (a : Nat), c ∈ l → dgG l a = none
  | [], _, h => by cases h
  | d :: r, a, h => by
    rw [dgG]
    rcases List.mem_cons.1 h with rfl | h
    · rw [if_neg hc]
    · split
      · exact dgG_no hc r _ h
      · rfl
theorem dgG_bd : ∀ (l : List UInt8) (a b k : Nat), dgG l a = some b → l.length ≤ k → b + 1 ≤ (a + 1) * 10 ^ k
  | [], a, b, k, h, hk => by
    simp only [dgG] at h
    cases h
    have := Nat.pow_pos (n := k) (show 0 < 10 by omega)
    exact Nat.le_mul_of_pos_right _ this
  | c :: r, a, b, 0, h, hk => by simp at hk
  | c :: r, a, b, k + 1, h, hk => by
    simp only [dgG] at h
    split at h
    · rename_i hc
      have := dgG_bd r _ _ k h (by simpa using hk)
      refine Nat.le_trans this ?_
      rw [Nat.pow_succ, Nat.mul_comm (10 ^ k) 10, ← Nat.mul_assoc]
      exact Nat.mul_le_mul_right _ (by omega)
    · cases h
theorem dgG_bd9 {l : List UInt8} {b : Nat} (h : dgG l 0 = some b) (hl : l.length ≤ 9) : b ≤ 999999999 := by
  have := dgG_bd l 0 b 9 h hl
  have e : (0 + 1) * 10 ^ 9 = 1000000000 := by decide
  rw [e] at this
  omega
theorem dgG_le : ∀ (l : List UInt8) (a b : Nat), dgG l a = some b → a ≤ b
  | [], a, b, h => by simp only [dgG] at h; cases h; exact Nat.le_refl _
  | c :: r, a, b, h => by
    simp only [dgG] at h
    split at h
    · have := dgG_le r _ _ h; omega
    · cases h
theorem dgG_one {l : List UInt8} {a : Nat} {c : UInt8} (h : dgG l 0 = some a) (h1 : 48 ≤ c.toNat) (h2 : c.toNat ≤ 57) : dgG (l ++ [c]) 0 = some (a * 10 + (c.toNat - 48)) := by
  rw [dgG_app _ _ _ _ h]
  simp only [dgG]
  rw [if_pos ⟨h1, h2⟩]
theorem lenG (s : ByteArray) : s.data.toList.length = s.size := by rw [Array.length_toList]; rfl
theorem headG (s : ByteArray) (h : 0 < s.size) : s.data.toList.head? = some s[0] := by
  rw [List.head?_eq_getElem?, List.getElem?_eq_getElem (by simpa using h)]
  rfl
theorem dropG (s : ByteArray) (i : Nat) (h : i < s.size) : ∃ r, s.data.toList.drop i = s[i] :: r := by
  have hl : i < s.data.toList.length := by rw [lenG]; exact h
  exact ⟨_, List.drop_eq_getElem_cons hl⟩
theorem take_dropG (s : ByteArray) (i k : Nat) (hi : i ≤ k) (h : k < s.size) : (s.data.toList.drop i).take (k + 1 - i) = (s.data.toList.drop i).take (k - i) ++ [s[k]] := by
  have e : k + 1 - i = (k - i) + 1 := by omega
  have hl : k - i < (s.data.toList.drop i).length := by
    rw [List.length_drop, lenG]
    omega
  rw [e, List.take_succ_eq_append_getElem hl]
  congr 2
  rw [List.getElem_drop]
  have e2 : i + (k - i) = k := by omega
  simp only [e2]
  rfl
theorem mem_dropG (s : ByteArray) (i k : Nat) (hi : i ≤ k) (h : k < s.size) : s[k] ∈ s.data.toList.drop i := by
  have hl : k - i < (s.data.toList.drop i).length := by
    rw [List.length_drop, lenG]
    omega
  have : (s.data.toList.drop i)[k - i] = s[k] := by
    rw [List.getElem_drop]
    have e2 : i + (k - i) = k := by omega
    simp only [e2]
    rfl
  rw [← this]
  exact List.getElem_mem _
/-- what is read of a text of at most nine digits, and whether it is one -/
def numX (l : List UInt8) : Int × Bool :=
  if l.head? = some 45 then
    (if l.length - 1 < 1 ∨ 9 < l.length - 1 then (0, false) else match dgG (l.drop 1) 0 with
      | none => (0, false)
      | some a => if (l.drop 1).head? = some 48 then (0, false) else (-(a : Int), true))
  else
    (if l.length < 1 ∨ 9 < l.length then (0, false) else match dgG (l.drop 0) 0 with
      | none => (0, false)
      | some a => if (l.drop 0).head? = some 48 ∧ 1 < l.length then (0, false) else ((a : Int), true))
def NumE (l : List UInt8) (e : Ending) : Prop := e = .returned (.tuple #[.int .i64 (numX l).1, .bool (numX l).2])
theorem NumE.mk {l : List UInt8} {v : Int} {b : Bool} (h : numX l = (v, b)) : NumE l (.returned (.tuple #[.int .i64 v, .bool b])) := by unfold NumE; rw [h]

set_option maxRecDepth 100000 in
set_option maxHeartbeats 1000000 in
theorem digX_any (s : ByteArray) (w : World) (hs : s.size ≤ 1048576) :
    Calls Tryz.prog 90 #[.string s, .int .i64 9] w fun e w' => NumE s.data.toList e ∧ w' = w := by
  obtain ⟨l, hl⟩ : ∃ l, l = s.data.toList := ⟨_, rfl⟩
  have HL : Hid (l = s.data.toList) := hl
  have hll : l.length = s.size := by rw [hl]; exact lenG s
  have HLL : Hid (l.length = s.size) := hll
  rw [← hl]
  by_cases h0 : s.size = 0
  · have hn : l = [] := List.eq_nil_of_length_eq_zero (by omega)
    have hn2 : s.toList = [] := by rw [ByteArray.toList_eq, ← hl]; exact hn
    have hn3 : s.toList.isEmpty = true := by rw [hn2]; rfl
    have HN : Hid (numX l = (0, false)) := by show _ = _; rw [hn]; rfl
    clear hl hn hll
    go_enter Tryz.func90, Tryz.ntmps90
    go_wp2
    go_ret2
    exact ⟨NumE.mk HN.out, rfl⟩
  · have hlt0 : 0 < s.size := by omega
    have hn2 : s.toList ≠ [] := by rw [ByteArray.toList_eq, ← hl]; intro e; rw [e] at hll; simp at hll; omega
    have hn3 : s.toList.isEmpty = false := by rw [List.isEmpty_eq_false_iff]; exact hn2
    clear hn2
    have hh := headG s hlt0
    rw [← hl] at hh
    by_cases hc : s[0] = 45
    · have h45 : ((s[0]).toNat : Int) = 45 := by rw [hc]; rfl
      have HX : Hid (numX l = if l.length - 1 < 1 ∨ 9 < l.length - 1 then (0, false) else match dgG (l.drop 1) 0 with
        | none => (0, false)
        | some a => if (l.drop 1).head? = some 48 then (0, false) else (-(a : Int), true)) := by show _ = _; unfold numX; rw [if_pos (by rw [hh, hc])]
      clear hh
      by_cases hsz : s.size - 1 < 1 ∨ 9 < s.size - 1
      · have HN : Hid (numX l = (0, false)) := by show _ = _; rw [HX.out, if_pos (by rw [hll]; omega)]
        clear hl HX
        go_enter Tryz.func90, Tryz.ntmps90
        rcases hsz with hsz | hsz
        all_goals
          go_wp2
          try (go_ret2; exact ⟨NumE.mk HN.out, rfl⟩)
      · have hsz1 : 1 < s.size := by omega
        have hsz2 : s.size ≤ 9 + 1 := by omega
        have hszn : ¬ (l.length - 1 < 1 ∨ 9 < l.length - 1) := by rw [hll]; omega
        have HQ : Hid (∀ (k a : Nat), 1 ≤ k → k ≤ s.size → dgG ((l.drop 1).take (k - 1)) 0 = some a → a ≤ 999999999) := by
          intro k a hk1 hk2 h
          refine dgG_bd9 h ?_
          rw [List.length_take]
          omega
        have HT : Hid (∀ (k a : Nat) (hk : 1 ≤ k) (hk2 : k < s.size), dgG ((l.drop 1).take (k - 1)) 0 = some a → 48 ≤ (s[k]).toNat → (s[k]).toNat ≤ 57 → dgG ((l.drop 1).take (k + 1 - 1)) 0 = some (a * 10 + ((s[k]).toNat - 48))) := by
          intro k a hk hk2 h h1 h2
          rw [HL.out] at h ⊢
          rw [take_dropG s 1 k hk hk2]
          exact dgG_one h h1 h2
        have HD : Hid (∀ (k : Nat) (hk : 1 ≤ k) (hk2 : k < s.size), ¬ (48 ≤ (s[k]).toNat ∧ (s[k]).toNat ≤ 57) → numX l = (0, false)) := by
          intro k hk hk2 h
          have hm := mem_dropG s 1 k hk hk2
          rw [← HL.out] at hm
          rw [HX.out, if_neg hszn, dgG_no h _ _ hm]
        have HZ : Hid ((s[1]).toNat = 48 → ∀ a : Nat, dgG (l.drop 1) 0 = some a → numX l = (0, false)) := by
          intro h a ha
          obtain ⟨r, hr⟩ := dropG s 1 hsz1
          rw [HX.out, if_neg hszn, ha]
          rw [← HL.out] at hr
          have h48 : s[1] = 48 := UInt8.toNat_inj.1 (by rw [h]; rfl)
          simp only [hr, h48, List.head?_cons, if_true]
        have HV : Hid ((s[1]).toNat ≠ 48 → ∀ a : Nat, dgG (l.drop 1) 0 = some a → numX l = (-(a : Int), true)) := by
          intro h a ha
          obtain ⟨r, hr⟩ := dropG s 1 hsz1
          rw [HX.out, if_neg hszn, ha]
          rw [← HL.out] at hr
          have h48 : ¬ (some s[1] = some (48 : UInt8)) := fun e => h (by injection e with e; rw [e]; rfl)
          simp only [hr, List.head?_cons, if_neg h48]
        have HW : Hid (∀ k : Nat, s.size ≤ k → (l.drop 1).take (k - 1) = l.drop 1) := by
          intro k hk
          exact List.take_of_length_le (by rw [List.length_drop]; omega)
        clear hl HX hsz hszn hll
        go_enter Tryz.func90, Tryz.ntmps90
        go_wp2
        go_loop [8, 9] (fun n i => ∃ k a : Nat, 1 ≤ k ∧ k ≤ s.size ∧ i = .int .i64 k ∧ n = .int .i64 a ∧ Hid (dgG ((l.drop 1).take (k - 1)) 0 = some a)) (fun _ i => s.size - (intOf i).toNat)
        case atStart => exact ⟨1, 0, by omega, by omega, rfl, rfl, by show _ = _; rw [Nat.sub_self, List.take_zero]; rfl⟩
        case round =>
          obtain ⟨k, a, hk1, hk2, rfl, rfl, hI⟩ := hrel
          have ha := HQ.out k a hk1 hk2 hI.out
          by_cases hlt : k < s.size
          · have hk3 : (k : Int) < s.size := by omega
            by_cases hdg : 48 ≤ (s[k]).toNat ∧ (s[k]).toNat ≤ 57
            · have HS : Hid _ := HT.out k a hk1 hlt hI.out hdg.1 hdg.2
              obtain ⟨g1, g2⟩ := hdg
              have wu : IntKind.u8.wrap (((s[k]).toNat : Int) - 48) = ((s[k]).toNat : Int) - 48 := by rw [IntKind.wrap_u8]; omega
              have g3 : ¬ ((s[k]).toNat : Int) < 48 := by omega
              have g4 : ¬ 57 < ((s[k]).toNat : Int) := by omega
              clear hI
              go_wp2
              all_goals
                go_round
                case rel => exact ⟨k + 1, a * 10 + ((s[k]).toNat - 48), by omega, by omega, by go_num, by go_num, HS.out⟩
                case measure => simp [intOf]; omega
            · have HN : Hid (numX l = (0, false)) := HD.out k hk1 hlt hdg
              clear hI
              by_cases g1 : 48 ≤ (s[k]).toNat
              · have g3 : ¬ ((s[k]).toNat : Int) < 48 := by omega
                have g4 : 57 < ((s[k]).toNat : Int) := by omega
                go_wp2
                go_ret2
                exact ⟨NumE.mk HN.out, rfl⟩
              · have g3 : ((s[k]).toNat : Int) < 48 := by omega
                go_wp2
                go_ret2
                exact ⟨NumE.mk HN.out, rfl⟩
          · have hE : dgG (l.drop 1) 0 = some a := by rw [← HW.out k (by omega)]; exact hI.out
            have HE : Hid (dgG (l.drop 1) 0 = some a) := hE
            clear hE hI
            by_cases hz : (s[1]).toNat = 48
            · have hzi : ((s[1]).toNat : Int) = 48 := by omega
              have HN : Hid (numX l = (0, false)) := HZ.out hz a HE.out
              go_wp2
              go_ret2
              exact ⟨NumE.mk HN.out, rfl⟩
            · have hzi : ((s[1]).toNat : Int) ≠ 48 := by omega
              have HG : Hid (numX l = (-(a : Int), true)) := HV.out hz a HE.out
              go_wp2
              go_ret2
              exact ⟨NumE.mk HG.out, rfl⟩
    · have h45 : ((s[0]).toNat : Int) ≠ 45 := by intro e; exact hc (UInt8.toNat_inj.1 (by have : (45 : UInt8).toNat = 45 := rfl; omega))
      have HX : Hid (numX l = if l.length < 1 ∨ 9 < l.length then (0, false) else match dgG (l.drop 0) 0 with
        | none => (0, false)
        | some a => if (l.drop 0).head? = some 48 ∧ 1 < l.length then (0, false) else ((a : Int), true)) := by show _ = _; unfold numX; rw [if_neg (by rw [hh]; intro e; injection e with e; exact hc e)]
      clear hh
      by_cases hsz : s.size - 0 < 1 ∨ 9 < s.size - 0
      · have HN : Hid (numX l = (0, false)) := by show _ = _; rw [HX.out, if_pos (by rw [hll]; omega)]
        clear hl HX
        go_enter Tryz.func90, Tryz.ntmps90
        rcases hsz with hsz | hsz
        all_goals
          go_wp2
          try (go_ret2; exact ⟨NumE.mk HN.out, rfl⟩)
      · have hsz1 : 0 < s.size := by omega
        have hsz2 : s.size ≤ 9 + 0 := by omega
        have hszn : ¬ (l.length < 1 ∨ 9 < l.length) := by rw [hll]; omega
        have HQ : Hid (∀ (k a : Nat), 0 ≤ k → k ≤ s.size → dgG ((l.drop 0).take (k - 0)) 0 = some a → a ≤ 999999999) := by
          intro k a hk1 hk2 h
          refine dgG_bd9 h ?_
          rw [List.length_take]
          omega
        have HT : Hid (∀ (k a : Nat) (hk : 0 ≤ k) (hk2 : k < s.size), dgG ((l.drop 0).take (k - 0)) 0 = some a → 48 ≤ (s[k]).toNat → (s[k]).toNat ≤ 57 → dgG ((l.drop 0).take (k + 1 - 0)) 0 = some (a * 10 + ((s[k]).toNat - 48))) := by
          intro k a hk hk2 h h1 h2
          rw [HL.out] at h ⊢
          rw [take_dropG s 0 k hk hk2]
          exact dgG_one h h1 h2
        have HD : Hid (∀ (k : Nat) (hk : 0 ≤ k) (hk2 : k < s.size), ¬ (48 ≤ (s[k]).toNat ∧ (s[k]).toNat ≤ 57) → numX l = (0, false)) := by
          intro k hk hk2 h
          have hm := mem_dropG s 0 k hk hk2
          rw [← HL.out] at hm
          rw [HX.out, if_neg hszn, dgG_no h _ _ hm]
        have HZ : Hid ((s[0]).toNat = 48 → 1 < s.size → ∀ a : Nat, dgG (l.drop 0) 0 = some a → numX l = (0, false)) := by
          intro h h1 a ha
          obtain ⟨r, hr⟩ := dropG s 0 hsz1
          rw [HX.out, if_neg hszn, ha]
          rw [← HL.out] at hr
          have h48 : s[0] = 48 := UInt8.toNat_inj.1 (by rw [h]; rfl)
          have h2 : 1 < l.length := by rw [HLL.out]; exact h1
          show (if (l.drop 0).head? = some 48 ∧ 1 < l.length then ((0 : Int), false) else ((a : Int), true)) = _
          rw [if_pos ⟨by rw [hr, h48]; rfl, h2⟩]
        have HV : Hid (((s[0]).toNat ≠ 48 ∨ ¬ 1 < s.size) → ∀ a : Nat, dgG (l.drop 0) 0 = some a → numX l = ((a : Int), true)) := by
          intro h a ha
          obtain ⟨r, hr⟩ := dropG s 0 hsz1
          rw [HX.out, if_neg hszn, ha]
          rw [← HL.out] at hr
          show (if (l.drop 0).head? = some 48 ∧ 1 < l.length then ((0 : Int), false) else ((a : Int), true)) = _
          rw [if_neg]
          rintro ⟨e, h2⟩
          rw [hr, List.head?_cons] at e
          injection e with e
          rcases h with h | h
          · exact h (by rw [e]; rfl)
          · exact h (by rw [← HLL.out]; exact h2)
        have HW : Hid (∀ k : Nat, s.size ≤ k → (l.drop 0).take (k - 0) = l.drop 0) := by
          intro k hk
          exact List.take_of_length_le (by rw [List.length_drop]; omega)
        clear hl HX hsz hszn hll
        go_enter Tryz.func90, Tryz.ntmps90
        go_wp2
        go_loop [8, 9] (fun n i => ∃ k a : Nat, 0 ≤ k ∧ k ≤ s.size ∧ i = .int .i64 k ∧ n = .int .i64 a ∧ Hid (dgG ((l.drop 0).take (k - 0)) 0 = some a)) (fun _ i => s.size - (intOf i).toNat)
        case atStart => exact ⟨0, 0, by omega, by omega, rfl, rfl, by show _ = _; rw [Nat.sub_self, List.take_zero]; rfl⟩
        case round =>
          obtain ⟨k, a, hk1, hk2, rfl, rfl, hI⟩ := hrel
          have ha := HQ.out k a hk1 hk2 hI.out
          by_cases hlt : k < s.size
          · have hk3 : (k : Int) < s.size := by omega
            by_cases hdg : 48 ≤ (s[k]).toNat ∧ (s[k]).toNat ≤ 57
            · have HS : Hid _ := HT.out k a hk1 hlt hI.out hdg.1 hdg.2
              obtain ⟨g1, g2⟩ := hdg
              have wu : IntKind.u8.wrap (((s[k]).toNat : Int) - 48) = ((s[k]).toNat : Int) - 48 := by rw [IntKind.wrap_u8]; omega
              have g3 : ¬ ((s[k]).toNat : Int) < 48 := by omega
              have g4 : ¬ 57 < ((s[k]).toNat : Int) := by omega
              clear hI
              go_wp2
              all_goals
                go_round
                case rel => exact ⟨k + 1, a * 10 + ((s[k]).toNat - 48), by omega, by omega, by go_num, by go_num, HS.out⟩
                case measure => simp [intOf]; omega
            · have HN : Hid (numX l = (0, false)) := HD.out k hk1 hlt hdg
              clear hI
              by_cases g1 : 48 ≤ (s[k]).toNat
              · have g3 : ¬ ((s[k]).toNat : Int) < 48 := by omega
                have g4 : 57 < ((s[k]).toNat : Int) := by omega
                go_wp2
                go_ret2
                exact ⟨NumE.mk HN.out, rfl⟩
              · have g3 : ((s[k]).toNat : Int) < 48 := by omega
                go_wp2
                go_ret2
                exact ⟨NumE.mk HN.out, rfl⟩
          · have hE : dgG (l.drop 0) 0 = some a := by rw [← HW.out k (by omega)]; exact hI.out
            have HE : Hid (dgG (l.drop 0) 0 = some a) := hE
            clear hE hI
            by_cases hz : (s[0]).toNat = 48
            · have hzi : ((s[0]).toNat : Int) = 48 := by omega
              by_cases hone : 1 < s.size
              · have hone2 : (1 : Int) < s.size := by omega
                have HN : Hid (numX l = (0, false)) := HZ.out hz hone a HE.out
                go_wp2
                go_ret2
                exact ⟨NumE.mk HN.out, rfl⟩
              · have hone2 : ¬ (1 : Int) < s.size := by omega
                have HG : Hid (numX l = ((a : Int), true)) := HV.out (.inr hone) a HE.out
                go_wp2
                go_ret2
                exact ⟨NumE.mk HG.out, rfl⟩
            · have hzi : ((s[0]).toNat : Int) ≠ 48 := by omega
              have HG : Hid (numX l = ((a : Int), true)) := HV.out (.inl hz) a HE.out
              go_wp2
              go_ret2
              exact ⟨NumE.mk HG.out, rfl⟩

set_option maxRecDepth 100000 in
set_option maxHeartbeats 1000000 in
theorem number_any (s : ByteArray) (w : World) (hs : s.size ≤ 1048576) :
    Calls Tryz.prog 71 #[.string s] w fun e w' => e = .returned (.tuple #[.int .i64 (numX s.data.toList).1, .bool (numX s.data.toList).2]) ∧ w' = w := by
  have HD : Hid (∀ W : World, Calls Tryz.prog 90 #[.string s, .int .i64 9] W fun e w' => NumE s.data.toList e ∧ w' = W) := fun W => digX_any s W hs
  unfold NumE at HD
  obtain ⟨v, hv⟩ : ∃ v, v = numX s.data.toList := ⟨_, rfl⟩
  rw [← hv] at HD ⊢
  clear hv
  obtain ⟨v, b⟩ := v
  go_enter Tryz.func71, Tryz.ntmps71
  go_wp2_with fail
  refine (HD.out _).mono ?_
  rintro e w1 ⟨rfl, hw⟩
  obtain rfl := hw.symm
  clear hw
  go_wp2
  go_ret2
  exact ⟨rfl, rfl⟩
end Go.Proofs.YtnhefbhiemdhoaaGreat

/- The model's UnitOf in plain numbers. -/
namespace Go.Proofs.YtnhefbhiemdhoaaGreat
open Go.Proofs.YtnhefbhiemdhoaaGreat.RM

/-- the power that the model reads behind the ^ -/
def powX (y : List UInt8) : Option Int := if (numX y).2 = true ∧ (numX y).1 ≠ 0 ∧ -9 ≤ (numX y).1 ∧ (numX y).1 ≤ 9 then some (numX y).1 else none
/-- a fraction on the way, and whether something has been too great -/
abbrev Ca := (Int × Int) × Bool
def mulC (f : Ca) (u : Int × Int) : Ca :=
  ((kN (opOk (two f.1.1 f.1.2 u.1 u.2) (f.1.1 * u.1) (f.1.2 * u.2)) (opN (two f.1.1 f.1.2 u.1 u.2) (f.1.1 * u.1) (f.1.2 * u.2)), kD (opOk (two f.1.1 f.1.2 u.1 u.2) (f.1.1 * u.1) (f.1.2 * u.2)) (opD (two f.1.1 f.1.2 u.1 u.2) (f.1.1 * u.1) (f.1.2 * u.2))), f.2 || !opOk (two f.1.1 f.1.2 u.1 u.2) (f.1.1 * u.1) (f.1.2 * u.2))
def divC (f : Ca) (u : Int × Int) : Ca :=
  ((kN (opOk (two f.1.1 f.1.2 u.1 u.2) (f.1.1 * u.2) (f.1.2 * u.1)) (opN (two f.1.1 f.1.2 u.1 u.2) (f.1.1 * u.2) (f.1.2 * u.1)), kD (opOk (two f.1.1 f.1.2 u.1 u.2) (f.1.1 * u.2) (f.1.2 * u.1)) (opD (two f.1.1 f.1.2 u.1 u.2) (f.1.1 * u.2) (f.1.2 * u.1))), f.2 || !opOk (two f.1.1 f.1.2 u.1 u.2) (f.1.1 * u.2) (f.1.2 * u.1))
def mulCs (u : Int × Int) : Nat → Ca → Ca
  | 0, f => f
  | k + 1, f => mulCs u k (mulC f u)
def divCs (u : Int × Int) : Nat → Ca → Ca
  | 0, f => f
  | k + 1, f => divCs u k (divC f u)
/-- a power's part: so many times, or the other way round -/
def powC (u : Int × Int) (p : Int) (f : Ca) : Ca := if 0 < p then mulCs u p.toNat f else divCs u (-p).toNat f
/-- the model's state: the factor, whether it has been too great, the dimension -/
abbrev Su := Ca × List Int
/-- a word and its power, as the model reads them -/
def rdS (x : List UInt8) : Option ((Int × Int × List Int) × Int) :=
  match splitL 94 x with
  | [a] => if (wordS a).2.2.2 = true then some (((wordS a).1, (wordS a).2.1, (wordS a).2.2.1), 1) else none
  | [a, y] => match powX y with
    | none => none
    | some p => if (wordS a).2.2.2 = true then some (((wordS a).1, (wordS a).2.1, (wordS a).2.2.1), p) else none
  | _ => none
def stepS (dv : Bool) (x : List UInt8) (s : Su) : Option Su :=
  match rdS x with
  | none => none
  | some (u, p) =>
    if ansDimTimes s.2 (ansDimPower u.2.2 (if dv then -p else p)) = [] then none
    else some (powC (u.1, u.2.1) (if dv then -p else p) s.1, ansDimTimes s.2 (ansDimPower u.2.2 (if dv then -p else p)))
def wordsS (dv : Bool) : List (List UInt8) → Su → Option Su
  | [], s => some s
  | x :: r, s => match stepS dv x s with
    | none => none
    | some s' => wordsS dv r s'
/-- the halves from number h on -/
def halvesS : List (List UInt8) → Bool → Su → Option Su
  | [], _, s => some s
  | a :: r, dv, s => match wordsS dv (splitL 46 a) s with
    | none => none
    | some s' => halvesS r true s'
def oneS : Su := (((1, 1), false), [0, 0, 0, 0, 0])
def unitM (l : List UInt8) : Option Su := if l = [49] then some oneS else if 2 < (splitL 47 l).length then none else halvesS (splitL 47 l) false oneS
/-- what it answers -/
def ansU (o : Option Su) : Int × Int × List Int × Bool :=
  match o with
  | none => (0, 0, [], false)
  | some s => if s.1.2 = true then (0, 0, [], false) else (s.1.1.1, s.1.1.2, s.2, true)
theorem ansU_none : ansU none = (0, 0, [], false) := rfl
theorem ansU_len (o : Option Su) (h : ∀ s, o = some s → s.2.length ≤ 5) : (ansU o).2.2.1.length ≤ 5 := by
  cases o with
  | none => exact Nat.zero_le _
  | some s =>
    unfold ansU
    simp only
    split
    · exact Nat.zero_le _
    · exact h s rfl
theorem wordsS_cons (dv : Bool) (x : List UInt8) (r : List (List UInt8)) (s : Su) : wordsS dv (x :: r) s = match stepS dv x s with
    | none => none
    | some s' => wordsS dv r s' := rfl
theorem halvesS_cons (a : List UInt8) (r : List (List UInt8)) (dv : Bool) (s : Su) : halvesS (a :: r) dv s = match wordsS dv (splitL 46 a) s with
    | none => none
    | some s' => halvesS r true s' := rfl
/-- behind the word at hand: the other words of its half, the other half -/
def restS (dv : Bool) (ws hs : List (List UInt8)) (o : Option Su) : Option Su :=
  match o with
  | none => none
  | some s => match wordsS dv ws s with
    | none => none
    | some s' => halvesS hs true s'
theorem restS_nil (dv : Bool) (hs : List (List UInt8)) (s : Su) : restS dv [] hs (some s) = halvesS hs true s := rfl
theorem restS_cons (dv : Bool) (x : List UInt8) (ws hs : List (List UInt8)) (s : Su) : restS dv (x :: ws) hs (some s) = restS dv ws hs (stepS dv x s) := by
  unfold restS
  simp only [wordsS_cons]
  cases stepS dv x s <;> rfl
theorem mulCs_step (u : Int × Int) {p : Int} (hp : 0 < p) (f : Ca) : mulCs u p.toNat f = mulCs u (p - 1).toNat (mulC f u) := by
  have : p.toNat = (p - 1).toNat + 1 := by omega
  rw [this]; rfl
theorem divCs_step (u : Int × Int) {p : Int} (hp : p < 0) (f : Ca) : divCs u (-p).toNat f = divCs u (-(p + 1)).toNat (divC f u) := by
  have : (-p).toNat = (-(p + 1)).toNat + 1 := by omega
  rw [this]; rfl
end Go.Proofs.YtnhefbhiemdhoaaGreat

/- The walks of the program's DimOk, DimTimes, DimPower. -/
namespace Go.Proofs.YtnhefbhiemdhoaaGreat
open Go.RowKit Go.Proofs.YtnhefbhiemdhoaaGreat.RM

/-- a list of numbers in memory of the call's own -/
def RowP (w : World) (rs : List Int) (x : Ending) (w' : World) : Prop := ∃ v et, x = .returned v ∧ w'.ownsRow w.heap.size et 1 v rs.length (rs.map (Value.int .i64)) ∧ Below w.heap.size w w'
/-- a list as the walks over dimensions read it: in memory of its own, or not of five numbers -/
def DimIn (w : World) (v : Value) (ys : List Int) : Prop := (∃ base et, w.ownsRow base et 1 v ys.length (ys.map (Value.int .i64))) ∨ (ys.length ≠ 5 ∧ ∃ a c, v = .slice a ys.length c)
theorem DimIn.of {w : World} {v : Value} {ys : List Int} {base : Nat} {et : TypeId} (h : w.ownsRow base et 1 v ys.length (ys.map (Value.int .i64))) : DimIn w v ys := .inl ⟨base, et, h⟩
theorem DimIn.below {w w' : World} {v : Value} {ys : List Int} (h : DimIn w v ys) (hb : Below w.heap.size w w') : DimIn w' v ys := by
  rcases h with ⟨base, et, h⟩ | h
  · exact .inl ⟨base, et, own_below h hb⟩
  · exact .inr h
theorem DimIn.five {w : World} {v : Value} {ys : List Int} (h : DimIn w v ys) (h5 : ys.length = 5) : ∃ base et, w.ownsRow base et 1 v ys.length (ys.map (Value.int .i64)) := by
  rcases h with h | h
  · exact h
  · exact absurd h5 h.1
theorem DimIn.shape {w : World} {v : Value} {ys : List Int} (h : DimIn w v ys) : ∃ a c, v = .slice a ys.length c := by
  rcases h with ⟨base, et, h⟩ | h
  · exact own_shape h
  · exact h.2
theorem sizeI1 : (Tryz.prog.info? 2).map (·.size) = some 1 := by kernel_rfl
theorem five_cells {W : World} {g c base : Nat} {et : TypeId} {a b c' d e : Int} (h : W.ownsRow base et 1 (.slice (some ⟨g, 0, none⟩) 5 c) 5 ([a, b, c', d, e].map (Value.int .i64))) : ∀ j v, (arr a b c' d e).toList[j]? = some v → W.cell? ((⟨g, 0, none⟩ : Addr).add j) = some v := by
  intro j v hj
  have hl : j < 5 := by
    have := (List.getElem?_eq_some_iff.1 hj).1
    simpa [arr] using this
  have h1 := h.cellAt j hl
  have e : (⟨g, 0, none⟩ : Addr).add j = ⟨g, j, none⟩ := by by_cases i0 : j = 0 <;> simp [Addr.add, i0]
  rw [e, h1, ← hj]
  rfl

set_option maxRecDepth 100000 in
set_option maxHeartbeats 2000000 in
theorem dimOf_in (v : Value) (ys : List Int) (w : World) (h : DimIn w v ys) :
    Calls Tryz.prog 61 #[v] w fun x w' => ∃ s0 s1 s2 s3 s4, x = .returned (.tuple #[.agg (arr s0 s1 s2 s3 s4), .bool (dimB ys)]) ∧ (dimB ys = true → ys = [s0, s1, s2, s3, s4]) ∧ Below w.heap.size w w' := by
  have Q1 := IsD.new w 0 0 0 0 0
  have B1 : Below w.heap.size w (w.alloc (.cells (arr 0 0 0 0 0) 53)) := (Below.refl _ _).alloc (Nat.le_refl _) _
  by_cases h5 : ys.length = 5
  · obtain ⟨base, et, h⟩ := h.five h5
    obtain ⟨a, b, c, d, e, rfl⟩ := dim_out h5
    obtain ⟨g, cg, rfl⟩ := own_some h (by simp)
    have hg : g < w.heap.size := (h.lt g rfl).2
    have HS := hidD (five_cells h)
    have H := hidD h
    clear h h5
    go_enter Tryz.func61, Tryz.ntmps61
    have hB2 : Below w.heap.size w ((w.alloc (.cells (arr 0 0 0 0 0) 53)).alloc (.cells (arr 0 0 0 0 0) 53)) := B1.alloc B1.size _
    have hsz : (w.alloc (.cells (arr 0 0 0 0 0) 53)).heap.size = w.heap.size + 1 := by simp
    have hnew := World.alloc_heap_new (w.alloc (.cells (arr 0 0 0 0 0) 53)) (.cells (arr 0 0 0 0 0) 53)
    rw [hsz] at hnew
    have Q2 := Q1.below ((Below.refl _ _).alloc (Nat.le_refl _) (.cells (arr 0 0 0 0 0) 53))
    have hsrc : ∀ j v, (arr a b c d e).toList[j]? = some v → ((w.alloc (.cells (arr 0 0 0 0 0) 53)).alloc (.cells (arr 0 0 0 0 0) 53)).cell? ((⟨g, 0, none⟩ : Addr).add j) = some v := by
      intro j v hj
      have h1 := HS.out j v hj
      have e : (⟨g, 0, none⟩ : Addr).add j = ⟨g, j, none⟩ := by by_cases i0 : j = 0 <;> simp [Addr.add, i0]
      rw [e] at h1 ⊢
      exact (hB2.cell (p := ⟨g, j, none⟩) hg).trans h1
    have HSRC := hidD hsrc
    have HNEW := hidD hnew
    have HQ2 := hidD Q2
    have HB2 := hidD hB2
    clear hsrc hnew Q2 hB2 hsz Q1 B1
    have hrun := run_copy_row (P := Tryz.prog) ((w.alloc (.cells (arr 0 0 0 0 0) 53)).alloc (.cells (arr 0 0 0 0 0) 53)) 28 28 3 2 (w.heap.size + 1) 0 5 5 ⟨g, 0, none⟩ 5 cg (arr 0 0 0 0 0) 53 (arr a b c d e).toList Tryz.underlying28 sizeI1 HNEW.out rfl HSRC.out (by simp [arr]) (by intro v hv; simp [arr] at hv; rcases hv with rfl | rfl | rfl | rfl | rfl <;> rfl)
    obtain ⟨X, hX⟩ : ∃ X, X = ((w.alloc (.cells (arr 0 0 0 0 0) 53)).alloc (.cells (arr 0 0 0 0 0) 53)).setRow (w.heap.size + 1) ((arr 0 0 0 0 0).toList.take 0 ++ (arr a b c d e).toList ++ (arr 0 0 0 0 0).toList.drop (0 + (arr a b c d e).toList.length)).toArray := ⟨_, rfl⟩
    have DX : IsD X (w.heap.size + 1) a b c d e := by rw [hX]; exact setRow_heap _ _ _ _ _ _ HNEW.out
    have QX : IsD X w.heap.size 0 0 0 0 0 := by rw [hX]; exact (setRow_other _ _ _ _ (by omega)).trans HQ2.out
    have BX : Below w.heap.size w X := by rw [hX]; exact below_setRow HB2.out (by omega) _
    rw [← hX] at hrun
    clear hX
    unfold arr at hrun
    have HX := hidD (And.intro DX QX)
    obtain ⟨d0, d1, d2, d3, d4⟩ := DX.c
    obtain ⟨k0, k1, k2, k3, k4⟩ := QX.c
    have l0 := QX.f 0
    have l1 := QX.f 1
    have l2 := QX.f 2
    have l3 := QX.f 3
    have l4 := QX.f 4
    have HL : Hid (∀ u : World, Calls Tryz.prog 65 #[.agg #[.int .i64 a, .int .i64 b, .int .i64 c, .int .i64 d, .int .i64 e]] u fun x w' => x = .returned (.agg #[.int .i64 (cl a), .int .i64 (cl b), .int .i64 (cl c), .int .i64 (cl d), .int .i64 (cl e)]) ∧ Below u.heap.size u w') := fun u => lim_any a b c d e u
    obtain ⟨q, hq⟩ : ∃ q, q = (a == cl a && (b == cl b && (c == cl c && (d == cl d && e == cl e)))) := ⟨_, rfl⟩
    have hE := fun u : World => eq5 a b c d e (cl a) (cl b) (cl c) (cl d) (cl e) u
    rw [← hq] at hE
    have HQ : Hid (q = dimB [a, b, c, d, e]) := by show _ = _; rw [dimB_five]; exact hq
    clear DX QX hq HNEW HSRC HQ2 HB2
    go_upto_region 5 with fail
    clear hrun
    go_region_with (go_at_call 65; refine (HL.out _).mono ?_; rintro x w1 ⟨rfl, hb⟩; have D1 : IsD w1 (w.heap.size + 1) a b c d e := IsD.below (by first | exact HX.out.1 | exact HX.out.1.below ((Below.refl _ _).drew)) hb; have D2 : IsD w1 w.heap.size 0 0 0 0 0 := IsD.below (by first | exact HX.out.2 | exact HX.out.2.below ((Below.refl _ _).drew)) hb; obtain ⟨d0, d1, d2, d3, d4⟩ := D1.c; obtain ⟨k0, k1, k2, k3, k4⟩ := D2.c; have l0 := D2.f 0; have l1 := D2.f 1; have l2 := D2.f 2; have l3 := D2.f 3; have l4 := D2.f 4; have B1 : Below w.heap.size w w1 := Below.trans (by first | exact BX | exact BX.drew) (hb.mono (by simpa using BX.size)))
    all_goals
      go_wp2
      exact bodyPost_ret (v := .tuple #[.agg #[.int .i64 a, .int .i64 b, .int .i64 c, .int .i64 d, .int .i64 e], .bool q]) (by simp [results, Tryz.results61, go_sem, k0, k1, k2, k3, k4]) rfl ⟨a, b, c, d, e, by rw [HQ.out]; rfl, fun _ => rfl, ((((B1.setCell (p := ⟨w.heap.size, 0, none⟩) (Nat.le_refl _) _).setCell (p := ⟨w.heap.size, 1, none⟩) (Nat.le_refl _) _).setCell (p := ⟨w.heap.size, 2, none⟩) (Nat.le_refl _) _).setCell (p := ⟨w.heap.size, 3, none⟩) (Nat.le_refl _) _).setCell (p := ⟨w.heap.size, 4, none⟩) (Nat.le_refl _) _⟩
  · have hq : dimB ys = false := by unfold dimB; rw [decide_eq_false h5]; rfl
    have HQ := hidD hq
    obtain ⟨ao, co, rfl⟩ := h.shape
    have h5' : ¬ ((ys.length : Int) = 5) := by omega
    clear h h5 hq
    go_enter Tryz.func61, Tryz.ntmps61
    go_wp2
    exact bodyPost_ret (v := .tuple #[.agg #[.int .i64 0, .int .i64 0, .int .i64 0, .int .i64 0, .int .i64 0], .bool false]) (by simp [results, Tryz.results61, go_sem]) rfl ⟨0, 0, 0, 0, 0, by rw [HQ.out]; rfl, fun h => by rw [HQ.out] at h; exact absurd h (by simp), B1⟩
theorem dimOf_any (v : Value) (ys : List Int) (base : Nat) (et : TypeId) (w : World) (h : w.ownsRow base et 1 v ys.length (ys.map (Value.int .i64))) :
    Calls Tryz.prog 61 #[v] w fun x w' => ∃ s0 s1 s2 s3 s4, x = .returned (.tuple #[.agg (arr s0 s1 s2 s3 s4), .bool (dimB ys)]) ∧ (dimB ys = true → ys = [s0, s1, s2, s3, s4]) ∧ Below w.heap.size w w' := dimOf_in v ys w (.of h)

end Go.Proofs.YtnhefbhiemdhoaaGreat

/- The walks of DimOk, DimTimes, DimPower: the program's. -/
namespace Go.Proofs.YtnhefbhiemdhoaaGreat
open Go.RowKit Go.Proofs.YtnhefbhiemdhoaaGreat.RM

theorem ansT_no {a b : List Int} (h : dimB a = false ∨ dimB b = false) : ansDimTimes a b = [] := by
  unfold ansDimTimes
  rcases h with h | h <;> simp [h]
theorem ansP_no {a : List Int} {n : Int} (h : dimB a = false) : ansDimPower a n = [] := by unfold ansDimPower; simp [h]
theorem ansT_five {a b c d e a' b' c' d' e' : Int} (h : dimB [a, b, c, d, e] = true) (h' : dimB [a', b', c', d', e'] = true) : ansDimTimes [a, b, c, d, e] [a', b', c', d', e'] = if lim5 (a + a') (b + b') (c + c') (d + d') (e + e') then [a + a', b + b', c + c', d + d', e + e'] else [] := by
  unfold ansDimTimes dimN
  rw [h, h']
  simp only [Bool.and_true, if_true, List.zipWith_cons_cons, List.zipWith_nil_right]
  rw [dimB_five]
theorem ansP_five {a b c d e n : Int} (h : dimB [a, b, c, d, e] = true) : ansDimPower [a, b, c, d, e] n = if rq a b c d e n then [a * n, b * n, c * n, d * n, e * n] else [] := by
  unfold ansDimPower dimN
  rw [h]
  simp only [if_true, List.all_cons, List.all_nil, Bool.and_true, List.map_cons, List.map_nil]
  rw [dimB_five]
  unfold rq
  cases hz : z5 a b c d e with
  | true =>
    have h0 : a = 0 ∧ b = 0 ∧ c = 0 ∧ d = 0 ∧ e = 0 := by
      unfold z5 at hz
      simpa using hz
    obtain ⟨rfl, rfl, rfl, rfl, rfl⟩ := h0
    have : lim5 (0 * n) (0 * n) (0 * n) (0 * n) (0 * n) = true := by simp only [Int.zero_mul]; decide
    rw [this]
    simp
  | false =>
    cases hn : in9 n with
    | true => simp
    | false =>
      have : ¬ (a = 0 ∧ b = 0 ∧ c = 0 ∧ d = 0 ∧ e = 0) := by
        intro h0
        unfold z5 at hz
        simp [h0] at hz
      simp
      intro h1 h2 h3 h4 h5
      exact absurd ⟨h1, h2, h3, h4, h5⟩ this

end Go.Proofs.YtnhefbhiemdhoaaGreat

/- The model's UnitOf and the program's tell one thing, where the powers are small. -/
namespace Go.Proofs.YtnhefbhiemdhoaaGreat
open Go.Proofs.YtnhefbhiemdhoaaGreat.RM

/-- no digit above 3 -/
def okT (l : List UInt8) : Prop := ∀ b ∈ l, b.toNat < 52 ∨ 57 < b.toNat
theorem numX_neg (r : List UInt8) : numX (45 :: r) = if r.length < 1 ∨ 9 < r.length then (0, false) else match dgG r 0 with
    | none => (0, false)
    | some a => if r.head? = some 48 then (0, false) else (-(a : Int), true) := by
  unfold numX
  rw [if_pos (show (45 :: r).head? = some 45 from rfl)]
  rfl
theorem numX_pos {l : List UInt8} (h : l.head? ≠ some 45) : numX l = if l.length < 1 ∨ 9 < l.length then (0, false) else match dgG l 0 with
    | none => (0, false)
    | some a => if l.head? = some 48 ∧ 1 < l.length then (0, false) else ((a : Int), true) := by
  unfold numX
  rw [if_neg h]
  rfl
theorem powX_of_no {l : List UInt8} {v : Int} (h : numX l = (v, false)) : powX l = none := by unfold powX; rw [h]; simp
theorem powX_of_yes {l : List UInt8} {v : Int} (h : numX l = (v, true)) : powX l = if v ≠ 0 ∧ -9 ≤ v ∧ v ≤ 9 then some v else none := by unfold powX; rw [h]; simp
theorem dg_one (c : UInt8) : dgG [c] 0 = if 48 ≤ c.toNat ∧ c.toNat ≤ 57 then some (c.toNat - 48) else none := by
  simp only [dgG]
  split
  · simp
  · rfl
theorem dg_big {x z : UInt8} {t : List UInt8} {v : Nat} (h : dgG (x :: z :: t) 0 = some v) (hx : x ≠ 48) : 10 ≤ v := by
  have hx2 : x.toNat ≠ 48 := fun e => hx (UInt8.toNat_inj.1 (by rw [e]; rfl))
  rw [dgG] at h
  split at h
  · rw [dgG] at h
    split at h
    · have := dgG_le _ _ _ h; omega
    · cases h
  · cases h
theorem dg48 {c : UInt8} (h : ¬ c = 48) : c.toNat ≠ 48 := fun e => h (UInt8.toNat_inj.1 (by rw [e]; rfl))
/-- no power is read of two signs or more, the first of them no nought nor sign, or of none at all -/
theorem powX_long {x z : UInt8} {t : List UInt8} (h45 : x ≠ 45) : powX (x :: z :: t) = none := by
  have h := numX_pos (l := x :: z :: t) (by simpa using h45)
  split at h
  · exact powX_of_no h
  · cases hd : dgG (x :: z :: t) 0 with
    | none => rw [hd] at h; exact powX_of_no h
    | some v =>
      rw [hd] at h
      by_cases h48 : x = 48
      · exact powX_of_no (h.trans (if_pos ⟨by rw [h48]; rfl, by simp⟩))
      · have hv := dg_big hd h48
        rw [powX_of_yes (h.trans (if_neg (fun e => h48 (by have := e.1; simpa using this)))), if_neg (by omega)]
theorem powX_neg_long {x z : UInt8} {t : List UInt8} : powX (45 :: x :: z :: t) = none := by
  have h := numX_neg (x :: z :: t)
  split at h
  · exact powX_of_no h
  · cases hd : dgG (x :: z :: t) 0 with
    | none => rw [hd] at h; exact powX_of_no h
    | some v =>
      rw [hd] at h
      by_cases h48 : x = 48
      · exact powX_of_no (h.trans (if_pos (by rw [h48]; rfl)))
      · have hv := dg_big hd h48
        rw [powX_of_yes (h.trans (if_neg (fun e => h48 (by simpa using e)))), if_neg (by omega)]
theorem powX_eq (y : List UInt8) : powX y = powY y := by
  match y with
  | [] => rfl
  | [c] =>
    by_cases h45 : c = 45
    · subst h45; rfl
    · have h := numX_pos (l := [c]) (by simpa using h45)
      rw [if_neg (by simp), dg_one] at h
      simp only [powY]
      by_cases hc : 48 ≤ c.toNat ∧ c.toNat ≤ 57
      · rw [if_pos hc] at h
        rw [powX_of_yes (h.trans (if_neg (by simp)))]
        by_cases h0 : c.toNat = 48
        · rw [if_neg (by omega), if_pos (by omega)]
        · rw [if_pos (by omega), if_neg (by omega)]
          congr 1
          omega
      · rw [if_neg hc] at h
        rw [powX_of_no h, if_pos (by omega)]
  | [m, c] =>
    by_cases h45 : m = 45
    · subst h45
      have h := numX_neg [c]
      rw [if_neg (by simp), dg_one] at h
      simp only [powY, if_true]
      by_cases hc : 48 ≤ c.toNat ∧ c.toNat ≤ 57
      · rw [if_pos hc] at h
        by_cases h0 : c = 48
        · subst h0; rfl
        · have h1 := dg48 h0
          rw [powX_of_yes (h.trans (if_neg (by simpa using h0))), if_pos (by omega), if_neg (by omega)]
          congr 1
          omega
      · rw [if_neg hc] at h
        rw [powX_of_no h, if_pos (by omega)]
    · rw [powX_long h45]
      simp only [powY, if_neg h45]
  | a :: b :: c :: r =>
    show powX (a :: b :: c :: r) = none
    by_cases h45 : a = 45
    · subst h45; exact powX_neg_long
    · exact powX_long h45
theorem rdS_rdW (x : List UInt8) : rdS x = (rdW x).map fun r => ((r.1.n, r.1.d, r.1.dims), r.2) := by
  unfold rdS rdW
  match splitL 94 x with
  | [] => rfl
  | [a] =>
    simp only [wordS, told]
    by_cases h : (wordI a).2 = true
    · simp [h]
    · simp [h]
  | [a, y] =>
    simp only [powX_eq]
    cases powY y with
    | none => rfl
    | some p =>
      simp only [wordS, told]
      by_cases h : (wordI a).2 = true
      · simp [h]
      · simp [h]
  | a :: b :: c :: t => rfl
/-- factors that go either way, dimensions that may be raised -/
def okW (u : UV) : Prop := okB u.n u.d = true ∧ okB u.d u.n = true ∧ (-3 ≤ u.x0 ∧ u.x0 ≤ 3) ∧ (-3 ≤ u.x1 ∧ u.x1 ≤ 3) ∧ (-3 ≤ u.x2 ∧ u.x2 ≤ 3) ∧ (-3 ≤ u.x3 ∧ u.x3 ≤ 3) ∧ (-3 ≤ u.x4 ∧ u.x4 ≤ 3)
instance (u : UV) : Decidable (okW u) := by unfold okW; infer_instance
theorem okW_tab : ∀ r ∈ uTab, okW r.2 := by
  have h : uTab.all (fun r => decide (okW r.2)) = true := by decide +kernel
  intro r hr
  exact of_decide_eq_true (List.all_eq_true.1 h r hr)
theorem okW_find {l : List UInt8} {u : UV} (h : uFind l = some u) : okW u := by
  unfold uFind look at h
  rw [Option.map_eq_some_iff] at h
  obtain ⟨r, hr, rfl⟩ := h
  exact okW_tab r (List.mem_of_find?_eq_some hr)
theorem okW_pfx : ∀ b ∈ ([107, 99, 109, 117, 77] : List UInt8), ∀ r ∈ uTab, (mulQ (pfx b) (r.2.n, r.2.d)).2.2 = true → okW { r.2 with n := (mulQ (pfx b) (r.2.n, r.2.d)).1, d := (mulQ (pfx b) (r.2.n, r.2.d)).2.1 } := by
  have h : ([107, 99, 109, 117, 77] : List UInt8).all (fun b => uTab.all (fun r => !(mulQ (pfx b) (r.2.n, r.2.d)).2.2 || decide (okW { r.2 with n := (mulQ (pfx b) (r.2.n, r.2.d)).1, d := (mulQ (pfx b) (r.2.n, r.2.d)).2.1 }))) = true := by decide +kernel
  intro b hb r hr ho
  have h2 := List.all_eq_true.1 (List.all_eq_true.1 h b hb) r hr
  rw [ho] at h2
  simpa using h2
theorem okW_word (a : List UInt8) (h : (wordI a).2 = true) : okW (wordI a).1 := by
  unfold wordI at h ⊢
  cases hf : uFind a with
  | some u => exact okW_find hf
  | none =>
    rw [hf] at h
    simp only at h ⊢
    match a, h with
    | [], h => cases h
    | b :: r, h =>
      cases hr : uFind r with
      | none => simp only [preI, hr] at h; cases h
      | some u =>
        simp only [preI, hr] at h ⊢
        split
        · rename_i hbar; rw [if_pos hbar] at h; cases h
        · rename_i hbar
          rw [if_neg hbar] at h
          have hb : b ∈ ([107, 99, 109, 117, 77] : List UInt8) := by
            by_cases h1 : b = 107
            · simp [h1]
            by_cases h2 : b = 99
            · simp [h2]
            by_cases h3 : b = 109
            · simp [h3]
            by_cases h4 : b = 117
            · simp [h4]
            by_cases h5 : b = 77
            · simp [h5]
            rw [pfx_zero h1 h2 h3 h4 h5, mulQ_zero] at h
            cases h
          unfold uFind look at hr
          rw [Option.map_eq_some_iff] at hr
          obtain ⟨q, hq, rfl⟩ := hr
          exact okW_pfx b hb q (List.mem_of_find?_eq_some hq) h
end Go.Proofs.YtnhefbhiemdhoaaGreat

/- What converted texts tell: there and back, into one's own unit, by a third one. -/
namespace Go.Proofs.YtnhefbhiemdhoaaGreat
open Go.RowKit Go.Proofs.YtnhefbhiemdhoaaGreat.RM

theorem mulV_nz {P v : UV} (h : (mulV P v).2 = true) (hP : P.n ≠ 0) (hv : v.n ≠ 0) : (mulV P v).1.n ≠ 0 := by
  unfold mulV at h
  rw [Bool.and_eq_true] at h
  have k : (mulQ (P.n, P.d) (v.n, v.d)).2.2 = true := h.1
  obtain ⟨h1, h2, h3, h4⟩ := mul_q k
  intro h0
  have h0' : (fr (mulQ (P.n, P.d) (v.n, v.d))).1 = 0 := h0
  have z : qr (fr (mulQ (P.n, P.d) (v.n, v.d))) = 0 := by
    show Rat.divInt _ _ = 0
    exact (dzQ (okQ_ne h3)).2 h0'
  rw [h4] at z
  rcases Rat.mul_eq_zero.1 z with e | e
  · exact hP ((dzQ (okQ_ne h1)).1 e)
  · exact hv ((dzQ (okQ_ne h2)).1 e)
theorem mulN_nz {v : UV} (hv : v.n ≠ 0) : ∀ (k : Nat) (P P' : UV), mulN v k P = some P' → P.n ≠ 0 → P'.n ≠ 0 := by
  intro k
  induction k with
  | zero => intro P P' h hP; cases h; exact hP
  | succ k ih =>
    intro P P' h hP
    rw [mulN_succ] at h
    split at h
    · rename_i hm
      exact ih _ _ h (mulV_nz hm hP hv)
    · cases h
theorem mulP_nz {u : UV} {p : Int} {dv : Bool} {P P' : UV} (hu : u.n ≠ 0) (hd : u.d ≠ 0) (h : mulP u p dv P = some P') (hP : P.n ≠ 0) : P'.n ≠ 0 := by
  unfold mulP at h
  refine mulN_nz ?_ _ _ _ h hP
  split <;> split
  · exact hu
  · exact hd
  · exact hd
  · exact hu
theorem partU_nz {rec : List UInt8 → Bool → UV → Option UV} (hrec : ∀ r dv P P', rec r dv P = some P' → P.n ≠ 0 → P'.n ≠ 0) {r : List UInt8} {u : UV} {p : Int} {dv : Bool} {P P' : UV} (hu : u.n ≠ 0) (hd : u.d ≠ 0) (h : partU rec r u p dv P = some P') (hP : P.n ≠ 0) : P'.n ≠ 0 := by
  unfold partU at h
  cases hm : mulP u p dv P with
  | none => rw [hm] at h; cases h
  | some M =>
    rw [hm] at h
    have hM := mulP_nz hu hd hm hP
    match r, h with
    | [], h => cases h; exact hM
    | b :: r', h =>
      simp only at h
      split at h
      · exact hrec _ _ _ _ h hM
      · split at h
        · exact hrec _ _ _ _ h hM
        · cases h
theorem uo_nz : ∀ (n : Nat) (l : List UInt8) (dv : Bool) (P P' : UV), uo n l dv P = some P' → P.n ≠ 0 → P'.n ≠ 0 := by
  intro n
  induction n with
  | zero => intro l dv P P' h; cases h
  | succ n ih =>
    intro l dv P P' h hP
    unfold uo at h
    split at h
    · rename_i hw
      have ok := okW_word _ hw
      have hu : (wordI (hdW l)).1.n ≠ 0 := by have := okB_out ok.2.1; omega
      have hd : (wordI (hdW l)).1.d ≠ 0 := by have := okB_out ok.1; omega
      split at h
      · unfold powU at h
        cases hp : powL (passL 94 (tlW l)).1 with
        | none => rw [hp] at h; cases h
        | some q =>
          rw [hp] at h
          exact partU_nz ih hu hd h hP
      · exact partU_nz ih hu hd h hP
    · cases h
theorem unitI_nz {l : List UInt8} {f : UV} (h : unitI l = some f) : f.n ≠ 0 := by
  unfold unitI at h
  split at h
  · cases h; decide
  · exact uo_nz _ _ _ _ _ h (by decide)
theorem convQ_no {v z y : Int × Int} {f g : UV} (h : (convQ v z f g y).2.2 = false) : convQ v z f g y = (0, 0, false) := by
  unfold convQ at h ⊢
  generalize fr (divQ (fr (mulQ (fr (addQ v z)) (f.n, f.d))) (g.n, g.d)) = D at *
  have e := op_zero (q := two D.1 D.2 y.1 y.2) h
  unfold subQ at h ⊢
  rw [e.1, e.2]
  rw [show (opOk (two D.1 D.2 y.1 y.2) (D.1 * y.2 - y.1 * D.2) (D.2 * y.2)) = false from h]
theorem convI_no {v : Int × Int} {s t : List UInt8} (h : (convI v s t).2.2 = false) : convI v s t = (0, 0, false) := by
  unfold convI at h ⊢
  cases h1 : unitI s with
  | none => rfl
  | some f =>
    cases h2 : unitI t with
    | none => rfl
    | some g =>
      rw [h1, h2] at h
      simp only at h ⊢
      split
      · rename_i hd
        rw [if_pos hd] at h
        exact convQ_no h
      · rfl
/-- what a conversion that succeeds is -/
theorem convI_yes {v : Int × Int} {s t : List UInt8} (h : (convI v s t).2.2 = true) : ∃ f g, unitI s = some f ∧ unitI t = some g ∧ f.dims = g.dims ∧ convI v s t = convQ v (zer s) f g (zer t) := by
  unfold convI at h ⊢
  cases h1 : unitI s with
  | none => rw [h1] at h; cases h
  | some f =>
    cases h2 : unitI t with
    | none => rw [h1, h2] at h; cases h
    | some g =>
      rw [h1, h2] at h
      simp only at h ⊢
      split at h
      · rename_i hd
        exact ⟨f, g, rfl, rfl, hd, if_pos hd⟩
      · cases h
theorem convI_back {v : Int × Int} {s t : List UInt8} (h : (convI v s t).2.2 = true) (h2 : (convI (fr (convI v s t)) t s).2.2 = true) : fr (convI (fr (convI v s t)) t s) = v := by
  obtain ⟨f, g, e1, e2, e3, e4⟩ := convI_yes h
  obtain ⟨g', f', d1, d2, d3, d4⟩ := convI_yes h2
  rw [e1] at d2
  rw [e2] at d1
  cases d1
  cases d2
  rw [d4] at h2 ⊢
  rw [e4] at h h2 ⊢
  exact conv_back h h2
theorem convI_self {v : Int × Int} {s t : List UInt8} (h : (convI v s t).2.2 = true) : convI v s s = (v.1, v.2, true) := by
  obtain ⟨f, g, e1, e2, e3, e4⟩ := convI_yes h
  rw [e4] at h
  unfold convI
  rw [e1]
  simp only [if_pos trivial]
  refine conv_self h ?_
  obtain ⟨-, -, -, -, -, -, -, a8⟩ := conv_qf h
  obtain ⟨-, hF, -, -⟩ := mul_q a8
  intro h0
  exact unitI_nz e1 ((dzQ (okQ_ne hF)).1 h0)
theorem convI_third {v : Int × Int} {s t k : List UInt8} (h : (convI v s t).2.2 = true) (h2 : (convI v s k).2.2 = true) (h3 : (convI (fr (convI v s k)) k t).2.2 = true) : fr (convI (fr (convI v s k)) k t) = fr (convI v s t) := by
  obtain ⟨f, g, e1, e2, e3, e4⟩ := convI_yes h
  obtain ⟨f', m, d1, d2, d3, d4⟩ := convI_yes h2
  obtain ⟨m', g', c1, c2, c3, c4⟩ := convI_yes h3
  rw [e1] at d1
  rw [d2] at c1
  rw [e2] at c2
  cases d1
  cases c1
  cases c2
  rw [c4] at h3 ⊢
  rw [d4] at h2 h3 ⊢
  rw [e4] at h ⊢
  exact conv_third h h2 h3
end Go.Proofs.YtnhefbhiemdhoaaGreat

/- The cursor over the bytes of a draw: what each step of it keeps. -/
namespace Go.Proofs.YtnhefbhiemdhoaaGreat
open Go.RowKit Go.Proofs.YtnhefbhiemdhoaaGreat.RM

/-- what the walk is told of a slice of bytes that came in: it is empty, or it leads to a row of numbers -/
def IsRow (k : IntKind) (w : World) (a : Option Addr) (len cap : Nat) (zs : List Int) : Prop :=
  (len = 0 ∧ cap = 0 ∧ zs = []) ∨
  ∃ b off, a = some ⟨b, off, none⟩ ∧ len ≤ cap ∧ cap ≤ maxLen ∧ zs.length = cap ∧ (∀ i, i < zs.length → w.cell? ⟨b, off + i, none⟩ = some (.int k (zs.getD i 0))) ∧ ∀ n ∈ zs, (Lit.int k n).wf = true

/-- all blocks but one are as they were -/
def Ex (cb : Nat) (w w' : World) : Prop :=
  w'.os = w.os ∧ w'.tape = w.tape ∧ w'.output = w.output ∧ w.heap.size ≤ w'.heap.size ∧ ∀ k, k < w.heap.size → k ≠ cb → w'.heap[k]? = w.heap[k]?
theorem Ex.refl (cb : Nat) (w : World) : Ex cb w w := ⟨rfl, rfl, rfl, Nat.le_refl _, fun _ _ _ => rfl⟩
theorem Ex.trans {cb : Nat} {a b c : World} (h : Ex cb a b) (k : Ex cb b c) : Ex cb a c :=
  ⟨k.1.trans h.1, k.2.1.trans h.2.1, k.2.2.1.trans h.2.2.1, Nat.le_trans h.2.2.2.1 k.2.2.2.1, fun n hn hne => (k.2.2.2.2 n (Nat.lt_of_lt_of_le hn h.2.2.2.1) hne).trans (h.2.2.2.2 n hn hne)⟩
theorem Ex.size {cb : Nat} {w w' : World} (h : Ex cb w w') : w.heap.size ≤ w'.heap.size := h.2.2.2.1
theorem Ex.of_below {cb : Nat} {w w' : World} (h : Below w.heap.size w w') : Ex cb w w' := ⟨h.os, h.tape, h.output, h.size, fun k hk _ => h.block k hk⟩
theorem Ex.cell {cb : Nat} {w w' : World} (h : Ex cb w w') {b o : Nat} {v : Value} (hc : w.cell? ⟨b, o, none⟩ = some v) (hne : b ≠ cb) : w'.cell? ⟨b, o, none⟩ = some v := by
  have hb : b < w.heap.size := World.block_lt_of_cell? w _ hc
  rw [World.cell?_of_block (w := w) (a := ⟨b, o, none⟩) (h.2.2.2.2 b hb hne)]; exact hc
theorem Ex.frozen {cb : Nat} {w w' : World} (h : Ex cb w w') {b o : Nat} {v : Value} (hc : w.cell? ⟨b, o, none⟩ = some v) (hf : w.frozen? ⟨b, o, none⟩ = false) (hne : b ≠ cb) : w'.frozen? ⟨b, o, none⟩ = false := by
  have hb : b < w.heap.size := World.block_lt_of_cell? w _ hc
  rw [World.frozen?_of_block (w := w) (a := ⟨b, o, none⟩) (h.2.2.2.2 b hb hne)]; exact hf
theorem Ex.alloc {cb : Nat} {a w : World} (h : Ex cb a w) (o : Obj) : Ex cb a (w.alloc o) := by
  have hb : Below w.heap.size w (w.alloc o) := (Below.refl _ _).alloc (Nat.le_refl _) _
  exact h.trans (Ex.of_below hb)
theorem Ex.drew {cb : Nat} {a w : World} (h : Ex cb a w) : Ex cb a w.drew := ⟨h.1, h.2.1, h.2.2.1, h.2.2.2.1, h.2.2.2.2⟩
theorem Ex.drewN {cb : Nat} {a w : World} (h : Ex cb a w) (n : Nat) : Ex cb a (w.drewN n) := by
  have hb : Below w.heap.size w (w.drewN n) := below_drewN (Below.refl _ _) n
  exact h.trans (Ex.of_below hb)
theorem Ex.setCell {cb : Nat} {a w : World} (h : Ex cb a w) {b o : Nat} (hb : b = cb ∨ a.heap.size ≤ b) (u : Value) : Ex cb a (w.setCell ⟨b, o, none⟩ u) := by
  have hs : (w.setCell ⟨b, o, none⟩ u).heap.size = w.heap.size := by simp
  refine ⟨h.1, h.2.1, h.2.2.1, by rw [hs]; exact h.size, fun k hk hne => ?_⟩
  rw [Below.heap_setCell w ⟨b, o, none⟩ u k (by show k ≠ b; rcases hb with rfl | hb <;> omega)]
  exact h.2.2.2.2 k hk hne
/-- where the one block is new all old ones are as they were -/
theorem Ex.below {W w w' : World} {cb : Nat} (h : Below W.heap.size W w) (k : Ex cb w w') (hc : W.heap.size ≤ cb) : Below W.heap.size W w' :=
  ⟨k.1.trans h.os, k.2.1.trans h.tape, k.2.2.1.trans h.output, Nat.le_trans h.size k.size, fun n hn => (k.2.2.2.2 n (Nat.lt_of_lt_of_le hn h.size) (by omega)).trans (h.block n hn)⟩
theorem IsRow.ex {k : IntKind} {cb : Nat} {w w' : World} {a : Option Addr} {len cap : Nat} {zs : List Int} (h : IsRow k w a len cap zs) (hx : Ex cb w w') (hne : ∀ b off, a = some ⟨b, off, none⟩ → 0 < zs.length → b ≠ cb) : IsRow k w' a len cap zs := by
  rcases h with h | ⟨b, off, ha, h1, h2, h3, h4, h5⟩
  · exact .inl h
  · exact .inr ⟨b, off, ha, h1, h2, h3, fun i hi => hx.cell (h4 i hi) (hne b off ha (by omega)), h5⟩

/-- the cursor in block cb over the bytes zs -/
def Cur (w : World) (cb : Nat) (a : Option Addr) (len cap : Nat) (zs : List Int) : Prop :=
  (∃ i h : Int, 0 ≤ i ∧ i ≤ len ∧ w.cell? ⟨cb, 0, none⟩ = some (.slice a len cap) ∧ w.cell? ⟨cb, 1, none⟩ = some (.int .i64 i) ∧ w.cell? ⟨cb, 2, none⟩ = some (.int .i64 h) ∧ w.frozen? ⟨cb, 1, none⟩ = false ∧ w.frozen? ⟨cb, 2, none⟩ = false) ∧
  IsRow .u8 w a len cap zs ∧ ∀ b off, a = some ⟨b, off, none⟩ → 0 < zs.length → b ≠ cb
theorem Cur.ex {w w' : World} {cb x : Nat} {a : Option Addr} {len cap : Nat} {zs : List Int} (h : Cur w cb a len cap zs) (hx : Ex x w w') (hne : x ≠ cb) (hn2 : ∀ b off, a = some ⟨b, off, none⟩ → 0 < zs.length → b ≠ x) : Cur w' cb a len cap zs := by
  obtain ⟨⟨i, h, h1, h2, h3, h4, h5, h6, h7⟩, hr, hb⟩ := h
  exact ⟨⟨i, h, h1, h2, hx.cell h3 hne.symm, hx.cell h4 hne.symm, hx.cell h5 hne.symm, hx.frozen h4 h6 hne.symm, hx.frozen h5 h7 hne.symm⟩, hr.ex hx hn2, hb⟩
theorem Cur.lt {w : World} {cb : Nat} {a : Option Addr} {len cap : Nat} {zs : List Int} (h : Cur w cb a len cap zs) : cb < w.heap.size := by
  obtain ⟨⟨i, h, h1, h2, h3, _⟩, _⟩ := h
  exact World.block_lt_of_cell? w _ h3
theorem IsRow.lt {k : IntKind} {w : World} {a : Option Addr} {len cap : Nat} {zs : List Int} (h : IsRow k w a len cap zs) : ∀ b off, a = some ⟨b, off, none⟩ → 0 < zs.length → b < w.heap.size := by
  intro b off e hz
  rcases h with ⟨_, _, rfl⟩ | ⟨b', off', ha, h1, h2, h3, h4, h5⟩
  · simp at hz
  · rw [ha] at e; injection e with e; injection e with e1 e2 e3
    rw [← e1]; exact World.block_lt_of_cell? w _ (h4 0 hz)
/-- new blocks leave the cursor as it was -/
theorem Cur.below {w w' : World} {cb : Nat} {a : Option Addr} {len cap : Nat} {zs : List Int} (h : Cur w cb a len cap zs) (hb : Below w.heap.size w w') : Cur w' cb a len cap zs := by
  have hl := h.lt
  refine h.ex (x := w.heap.size) (Ex.of_below hb) (by omega) ?_
  intro b off e hz
  have := h.2.1.lt b off e hz
  omega
theorem IsRow.below {k : IntKind} {w w' : World} {a : Option Addr} {len cap : Nat} {zs : List Int} (h : IsRow k w a len cap zs) (hb : Below w.heap.size w w') : IsRow k w' a len cap zs := by
  refine h.ex (cb := w.heap.size) (Ex.of_below hb) ?_
  intro b off e hz
  have := h.lt b off e hz
  omega
theorem and255 (n : Int) : bits .and .i64 n 255 = n % 256 := by
  have h255 : (BitVec.ofInt 64 255).toNat = 2 ^ 8 - 1 := by decide
  have key : (BitVec.ofInt 64 n &&& BitVec.ofInt 64 255).toNat = (n % ((2 ^ 64 : Nat) : Int)).toNat % 2 ^ 8 := by
    rw [BitVec.toNat_and, BitVec.toNat_ofInt, h255, Nat.and_two_pow_sub_one_eq_mod]
  show IntKind.i64.wrap ((BitVec.ofInt 64 n &&& BitVec.ofInt 64 255).toNat : Nat) = n % 256
  rw [key, IntKind.wrap_i64]
  omega
theorem and255_0 (n : Int) : 0 ≤ bits .and .i64 n 255 := by rw [and255]; omega
theorem and255_1 (n : Int) : bits .and .i64 n 255 ≤ 255 := by rw [and255]; omega

theorem Cur.moved1 {w : World} {cb : Nat} {a : Option Addr} {len cap : Nat} {zs : List Int} (hc : Cur w cb a len cap zs) (x : Int) (n : Nat) :
    Cur ((w.setCell ⟨cb, 2, none⟩ (.int .i64 x)).drewN n) cb a len cap zs := by
  obtain ⟨⟨i, h, h1, h2, h3, h4, h5, h6, h7⟩, hr, hb⟩ := hc
  refine ⟨⟨i, x, h1, h2, ?_, ?_, ?_, ?_, ?_⟩, hr.ex (((Ex.refl cb w).setCell (.inl rfl) _).drewN n) hb, hb⟩ <;> simp [go_sem, h3, h4, h5, h6, h7]
theorem Cur.drewN {w : World} {cb : Nat} {a : Option Addr} {len cap : Nat} {zs : List Int} (hc : Cur w cb a len cap zs) (n : Nat) : Cur (w.drewN n) cb a len cap zs :=
  hc.below (below_drewN (Below.refl _ _) n)
theorem Cur.moved2 {w : World} {cb : Nat} {a : Option Addr} {len cap : Nat} {zs : List Int} (hc : Cur w cb a len cap zs) (j : Int) (h1 : 0 ≤ j) (h2 : j ≤ len) :
    Cur (w.setCell ⟨cb, 1, none⟩ (.int .i64 j)) cb a len cap zs := by
  obtain ⟨⟨i, h, _, _, h3, h4, h5, h6, h7⟩, hr, hb⟩ := hc
  refine ⟨⟨j, h, h1, h2, ?_, ?_, ?_, ?_, ?_⟩, hr.ex ((Ex.refl cb w).setCell (.inl rfl) _) hb, hb⟩ <;> simp [go_sem, h3, h4, h5, h6, h7]

set_option maxHeartbeats 800000 in
theorem byte_any (cb : Nat) (a : Option Addr) (len cap : Nat) (zs : List Int) (w : World) (hc : Cur w cb a len cap zs) :
    Calls Tryz.prog 80 #[.pointer (some ⟨cb, 0, none⟩)] w fun e w' => ∃ x : Int, e = .returned (.int .i64 x) ∧ 0 ≤ x ∧ x ≤ 255 ∧ Cur w' cb a len cap zs ∧ Ex cb w w' := by
  have HC : Hid (Cur w cb a len cap zs) := hc
  obtain ⟨⟨i, h, h1, h2, h3, h4, h5, h6, h7⟩, hr, hb⟩ := hc
  by_cases hl : i < len
  · obtain ⟨k, rfl⟩ := Int.eq_ofNat_of_zero_le h1
    rcases hr with ⟨rfl, _⟩ | ⟨b, off, rfl, g1, g2, g3, g4, g5⟩
    · omega
    · have hk : k < zs.length := by omega
      have hx := g4 k hk
      have hne := hb b off rfl (by omega)
      have hne2 : cb ≠ b := hne.symm
      have hwf := g5 (zs.getD k 0) (by rw [List.getD_eq_getElem?_getD, List.getElem?_eq_getElem hk]; simp)
      have hy : ∃ y, w.cell? ⟨b, off + k, none⟩ = some (.int .u8 y) ∧ 0 ≤ y ∧ y ≤ 255 := ⟨_, hx, (bounds_u8 hwf).1, (bounds_u8 hwf).2⟩
      obtain ⟨y, hy1, hy2, hy3⟩ := hy
      clear hx hwf g4 g5 hb
      unfold maxLen at g2
      go_enter Tryz.func80, Tryz.ntmps80
      go_wp2
      go_quiet (fail)
      go_wp2
      go_quiet (fail)
      go_wp2
      go_quiet (fail)
      go_wp2
      go_ret
      exact ⟨_, rfl, and255_0 _, and255_1 _, (HC.out.moved1 _ _).moved2 _ (by omega) (by omega), (((Ex.refl cb w).setCell (.inl rfl) _).drewN _).setCell (.inl rfl) _⟩
  · clear hr hb
    go_enter Tryz.func80, Tryz.ntmps80
    go_wp2
    go_quiet (fail)
    go_wp2
    go_quiet (fail)
    go_wp2
    go_ret
    exact ⟨_, rfl, and255_0 _, and255_1 _, (HC.out.moved1 _ _).drewN _, (((Ex.refl cb w).setCell (.inl rfl) _).drewN _).drewN _⟩

/-- the rest of a number from 0 on -/
theorem rem_in (x n : Int) (hn : 0 < n) : 0 ≤ x % n ∧ x % n < n := ⟨Int.emod_nonneg _ (by omega), Int.emod_lt_of_pos _ hn⟩

set_option maxHeartbeats 800000 in
theorem below_any (cb : Nat) (n : Int) (a : Option Addr) (len cap : Nat) (zs : List Int) (w : World) (hc : Cur w cb a len cap zs) (hn : 0 < n) :
    Calls Tryz.prog 50 #[.pointer (some ⟨cb, 0, none⟩), .int .i64 n] w fun e w' => ∃ x : Int, e = .returned (.int .i64 x) ∧ 0 ≤ x ∧ x < n ∧ Cur w' cb a len cap zs ∧ Ex cb w w' := by
  have HC : Hid (Cur w cb a len cap zs) := hc
  clear hc
  by_cases h : n ≤ 256
  · go_enter Tryz.func50, Tryz.ntmps50
    go_wp2_with fail
    refine (byte_any cb a len cap zs _ HC.out).mono ?_
    rintro e w1 ⟨x, rfl, hx0, hx1, hC1, hE1⟩
    have HC1 : Hid (Cur w1 cb a len cap zs) := hC1
    have HE1 : Hid (Ex cb w w1) := hE1
    clear hC1 hE1
    have hr := rem_in x n hn
    obtain ⟨hr0, hr1⟩ := hr
    go_wp2
    go_ret
    exact ⟨_, rfl, hr0, hr1, HC1.out, HE1.out⟩
  · go_enter Tryz.func50, Tryz.ntmps50
    go_wp2_with fail
    refine (byte_any cb a len cap zs _ HC.out).mono ?_
    rintro e w1 ⟨x, rfl, hx0, hx1, hC1, hE1⟩
    have HC1 : Hid (Cur w1 cb a len cap zs) := hC1
    have HE1 : Hid (Ex cb w w1) := hE1
    clear hC1 hE1
    go_wp2_with fail
    refine (byte_any cb a len cap zs _ HC1.out).mono ?_
    rintro e w2 ⟨y, rfl, hy0, hy1, hC2, hE2⟩
    have HC2 : Hid (Cur w2 cb a len cap zs) := hC2
    have HE2 : Hid (Ex cb w w2) := HE1.out.trans hE2
    clear hC2 hE2 HC1 HE1
    go_wp2_with fail
    refine (byte_any cb a len cap zs _ HC2.out).mono ?_
    rintro e w3 ⟨z, rfl, hz0, hz1, hC3, hE3⟩
    have HC3 : Hid (Cur w3 cb a len cap zs) := hC3
    have HE3 : Hid (Ex cb w w3) := HE2.out.trans hE3
    clear hC3 hE3 HC2 HE2
    go_wp2_with fail
    refine (byte_any cb a len cap zs _ HC3.out).mono ?_
    rintro e w4 ⟨u, rfl, hu0, hu1, hC4, hE4⟩
    have HC4 : Hid (Cur w4 cb a len cap zs) := hC4
    have HE4 : Hid (Ex cb w w4) := HE3.out.trans hE4
    clear hC4 hE4 HC3 HE3
    have hr := rem_in (x * 16777216 + y * 65536 + z * 256 + u) n hn
    obtain ⟨hr0, hr1⟩ := hr
    go_wp2
    go_ret
    exact ⟨_, rfl, hr0, hr1, HC4.out, HE4.out⟩

theorem once_any (cb : Nat) (n : Int) (a : Option Addr) (len cap : Nat) (zs : List Int) (w : World) (hc : Cur w cb a len cap zs) (hn : 0 < n) :
    Calls Tryz.prog 25 #[.pointer (some ⟨cb, 0, none⟩), .int .i64 n] w fun e w' => ∃ x : Bool, e = .returned (.bool x) ∧ Cur w' cb a len cap zs ∧ Ex cb w w' := by
  have HC : Hid (Cur w cb a len cap zs) := hc
  clear hc
  go_enter Tryz.func25, Tryz.ntmps25
  go_wp2_with fail
  refine (below_any cb n a len cap zs _ HC.out hn).mono ?_
  rintro e w1 ⟨x, rfl, hx0, hx1, hC1, hE1⟩
  have HC1 : Hid (Cur w1 cb a len cap zs) := hC1
  have HE1 : Hid (Ex cb w w1) := hE1
  clear hC1 hE1
  go_wp2
  go_ret
  exact ⟨_, rfl, HC1.out, HE1.out⟩

theorem from_any (cb : Nat) (lo hi : Int) (a : Option Addr) (len cap : Nat) (zs : List Int) (w : World) (hc : Cur w cb a len cap zs) (hn : lo ≤ hi) (h1 : -1000000000000 ≤ lo) (h2 : hi ≤ 1000000000000) :
    Calls Tryz.prog 59 #[.pointer (some ⟨cb, 0, none⟩), .int .i64 lo, .int .i64 hi] w fun e w' => ∃ x : Int, e = .returned (.int .i64 x) ∧ lo ≤ x ∧ x ≤ hi ∧ Cur w' cb a len cap zs ∧ Ex cb w w' := by
  have HC : Hid (Cur w cb a len cap zs) := hc
  clear hc
  go_enter Tryz.func59, Tryz.ntmps59
  go_wp2_with fail
  refine (below_any cb _ a len cap zs _ HC.out (by omega)).mono ?_
  rintro e w1 ⟨x, rfl, hx0, hx1, hC1, hE1⟩
  have HC1 : Hid (Cur w1 cb a len cap zs) := hC1
  have HE1 : Hid (Ex cb w w1) := hE1
  clear hC1 hE1
  go_wp2
  go_ret
  exact ⟨_, rfl, by omega, by omega, HC1.out, HE1.out⟩
end Go.Proofs.YtnhefbhiemdhoaaGreat

/- The cursor is made, and fractions are drawn by it. -/
namespace Go.Proofs.YtnhefbhiemdhoaaGreat
open Go.RowKit Go.Proofs.YtnhefbhiemdhoaaGreat.RM


set_option maxHeartbeats 800000 in
theorem new_any (a : Option Addr) (len cap : Nat) (zs : List Int) (w : World) (hr : IsRow .u8 w a len cap zs) :
    Calls Tryz.prog 22 #[.slice a len cap] w fun e w' => e = .returned (.pointer (some ⟨w.heap.size, 0, none⟩)) ∧ Cur w' w.heap.size a len cap zs ∧ Below w.heap.size w w' ∧ w'.heap.size = w.heap.size + 1 := by
  have HR : Hid (IsRow .u8 w a len cap zs) := hr
  have fin : ∀ h : Int, Cur (w.alloc (.cells #[.slice a len cap, .int .i64 0, .int .i64 h] 79)) w.heap.size a len cap zs := by
    intro h
    refine ⟨⟨0, h, Int.le_refl _, by omega, ?_, ?_, ?_, ?_, ?_⟩, hr.below ((Below.refl _ _).alloc (Nat.le_refl _) _), ?_⟩
    all_goals try (simp [go_sem]; done)
    intro b off e hz
    have := hr.lt b off e hz
    omega
  have FIN : Hid (∀ h : Int, Cur (w.alloc (.cells #[.slice a len cap, .int .i64 0, .int .i64 h] 79)) w.heap.size a len cap zs) := fin
  clear fin
  have hlen : len ≤ 9223372036854775807 := by
    rcases hr with ⟨h, _⟩ | ⟨b, off, _, h1, h2, _⟩
    · omega
    · unfold maxLen at h2; omega
  clear hr
  go_enter Tryz.func22, Tryz.ntmps22
  go_wp2
  go_loop [3, 4] (fun x y => ∃ (h : Int) (k : Nat), k ≤ len ∧ x = .int .i64 h ∧ y = .int .i64 k) (fun _ y => len - (intOf y).toNat)
  case atStart => exact ⟨_, 0, Nat.zero_le _, rfl, rfl⟩
  case round =>
    obtain ⟨h, k, hk, rfl, rfl⟩ := hrel
    by_cases hlt : k < len
    · rcases HR.out with ⟨rfl, _⟩ | ⟨b, off, rfl, g1, g2, g3, g4, g5⟩
      · omega
      · have hx := g4 k (by omega)
        have hwf := range_u8 g5 k
        have hy : ∃ y, w.cell? ⟨b, off + k, none⟩ = some (.int .u8 y) ∧ 0 ≤ y ∧ y ≤ 255 := ⟨_, hx, by rw [List.getD_eq_getElem?_getD]; exact hwf.1, by rw [List.getD_eq_getElem?_getD]; exact hwf.2⟩
        obtain ⟨y, hy1, hy2, hy3⟩ := hy
        clear hx hwf g4 g5
        go_wp2
        go_round
        case rel => exact ⟨_, k + 1, by omega, rfl, by go_num⟩
        case measure => simp [intOf]; omega
    · go_wp2
      go_ret
      exact ⟨rfl, FIN.out _, (Below.refl _ _).alloc (Nat.le_refl _) _, by simp⟩

set_option maxHeartbeats 800000 in
theorem draw_any (cb : Nat) (a : Option Addr) (len cap : Nat) (zs : List Int) (w : World) (hc : Cur w cb a len cap zs) :
    Calls Tryz.prog 48 #[.pointer (some ⟨cb, 0, none⟩)] w fun e w' => ∃ n d : Int, e = .returned (.agg #[.int .i64 n, .int .i64 d]) ∧ okB n d = true ∧ -25 ≤ n ∧ n ≤ 25 ∧ 1 ≤ d ∧ d ≤ 6 ∧ Cur w' cb a len cap zs ∧ Ex cb w w' := by
  have HC : Hid (Cur (w.alloc (.cells #[.int .i64 0, .int .i64 0] 25)) cb a len cap zs) := hc.below ((Below.refl _ _).alloc (Nat.le_refl _) _)
  have hlt := hc.lt
  have HROW : Hid (∀ b off, a = some ⟨b, off, none⟩ → 0 < zs.length → b < w.heap.size) := hc.2.1.lt
  clear hc
  go_enter Tryz.func48, Tryz.ntmps48
  go_wp2_with fail
  refine (from_any cb _ _ a len cap zs _ HC.out (by omega) (by omega) (by omega)).mono ?_
  rintro e w1 ⟨x, rfl, hx0, hx1, hC1, hE1⟩
  have HC1 : Hid (Cur w1 cb a len cap zs) := hC1
  have HE1 : Hid (Ex cb w w1) := (Ex.alloc (Ex.refl cb w) _).trans hE1
  have c0 : w1.cell? ⟨w.heap.size, 0, none⟩ = some (.int .i64 0) := by refine hE1.cell ?_ (by omega); simp [go_sem]
  have c1 : w1.cell? ⟨w.heap.size, 1, none⟩ = some (.int .i64 0) := by refine hE1.cell ?_ (by omega); simp [go_sem]
  have f0 : w1.frozen? ⟨w.heap.size, 0, none⟩ = false := by refine hE1.frozen (v := .int .i64 0) ?_ ?_ (by omega) <;> simp [go_sem]
  have f1 : w1.frozen? ⟨w.heap.size, 1, none⟩ = false := by refine hE1.frozen (v := .int .i64 0) ?_ ?_ (by omega) <;> simp [go_sem]
  clear hC1 hE1 HC
  go_wp2_with fail
  refine (below_any cb _ a len cap zs _ HC1.out (by omega)).mono ?_
  rintro e w2 ⟨y, rfl, hy0, hy1, hC2, hE2⟩
  have HC2 : Hid (Cur w2 cb a len cap zs) := hC2
  have HE2 : Hid (Ex cb w w2) := HE1.out.trans hE2
  have d0 := hE2.cell c0 (by omega)
  have d1 := hE2.cell c1 (by omega)
  have k0 := hE2.frozen c0 f0 (by omega)
  have k1 := hE2.frozen c1 f1 (by omega)
  clear hC2 hE2 HC1 HE1 c0 c1 f0 f1
  go_wp2_with fail
  refine (sRed_any _ _ _).mono ?_
  rintro e w3 ⟨rfl, hb3⟩
  obtain ⟨r1, r2, r3, r4, r5, r6⟩ := red_small (x := x) (y := 1 + y) (m := 25) (by omega) (by omega) (by omega) (by omega) (by omega)
  have HC3 : Hid (Cur w3 cb a len cap zs) := HC2.out.below hb3
  have HE3 : Hid (Ex cb w w3) := HE2.out.trans (Ex.of_below hb3)
  have e0 := cell_later hb3 d0
  have e1 := cell_later hb3 d1
  have q0 : w3.frozen? ⟨w.heap.size, 0, none⟩ = false := (Ex.of_below (cb := cb) hb3).frozen d0 k0 (by omega)
  have q1 : w3.frozen? ⟨w.heap.size, 1, none⟩ = false := (Ex.of_below (cb := cb) hb3).frozen d1 k1 (by omega)
  have hsz : w.heap.size < w3.heap.size := lt_cell e0
  clear hb3 HC2 HE2 d0 d1 k0 k1 r1
  have r0 : (((w3.setCell ⟨w.heap.size, 0, none⟩ (.int .i64 (redN x (1 + y)))).setCell ⟨w.heap.size, 1, none⟩ (.int .i64 (redD x (1 + y)))).alloc (.cells #[.int .i64 (redN x (1 + y)), .int .i64 (redD x (1 + y))] 25)).cell? ⟨w.heap.size, 0, none⟩ = some (.int .i64 (redN x (1 + y))) := cell_al _ (new2 e0 e1).1
  have r01 : (((w3.setCell ⟨w.heap.size, 0, none⟩ (.int .i64 (redN x (1 + y)))).setCell ⟨w.heap.size, 1, none⟩ (.int .i64 (redD x (1 + y)))).alloc (.cells #[.int .i64 (redN x (1 + y)), .int .i64 (redD x (1 + y))] 25)).cell? ⟨w.heap.size, 1, none⟩ = some (.int .i64 (redD x (1 + y))) := cell_al _ (new2 e0 e1).2
  go_wp2
  refine bodyPost_ret (v := .agg #[.int .i64 (redN x (1 + y)), .int .i64 (redD x (1 + y))]) (by simp [results, Tryz.results48, go_sem, r0, r01]) rfl ⟨_, _, rfl, r2, r3, r4, r5, by omega, ?_, ?_⟩
  · exact HC3.out.ex (x := w.heap.size) ((((Ex.refl _ w3).setCell (.inl rfl) _).setCell (.inl rfl) _).alloc _) (by omega) (fun b off e hz => by have := HROW.out b off e hz; omega)
  · exact ((HE3.out.setCell (.inr (Nat.le_refl _)) _).setCell (.inr (Nat.le_refl _)) _).alloc _
end Go.Proofs.YtnhefbhiemdhoaaGreat

/- The walks of DimOk, DimTimes, DimPower: the model's. -/
namespace Go
open Go.RowKit
/-- append to a row of the call's own, as one step of a region that draws -/
theorem step_append_own {P : Program} {ops : Array Oper} {o : Oper} {a : Act} {w : World} {K : Act → World → Prop} {Q : Exit → Act → World → Prop} {E : Prop}
    (hg : o.guard = none) (s x : Operand) (t : TypeId) (hop : o.op = Op.call { callee := Callee.builtin Builtin.append, args := #[s, x], argTypes := #[t, t] })
    (base : Nat) (e : TypeId) (i : TypeInfo) (z : Value) (size bytes : Nat) (ht : P.underlying t = some (.slice e)) (hi : P.info? e = some i) (hz : i.zero = some z)
    (hsize : i.size = size) (hby : i.bytes = bytes) (hzs : z.cells.size = size) (hsz : 0 < size)
    (v : Value) (n : Nat) (xs : List Value) (hs : a.eval s = v) (hown : w.ownsRow base e size v n xs)
    (ad : Addr) (m c : Nat) (news : List Value) (hx : a.eval x = .slice (some ad) m c) (hl : news.length = m * size) (hnews : ∀ j u, news[j]? = some u → w.cell? (ad.add j) = some u) (h1 : ∀ u ∈ news, u.oneCell' = true)
    (h63 : n + m ≤ maxLen) (hbytes : (n + m) * bytes ≤ 140737488355328) (hbase : base ≤ w.heap.size)
    (hK : ∀ v' w', w'.ownsRow base e size v' (n + m) (xs ++ news) → w.grownBy w' v.ownBlock → K (a.put o.dst v') w') :
    if Region.wanted o (yielded ops a.tmps) = true then Oper.wp P o a w K Q else E := by
  have hw : Region.wanted o (yielded ops a.tmps) = true := by simp [Region.wanted, hg]
  rw [if_pos hw]
  obtain ⟨v', w', hrun, h2, h3, _⟩ := run_append_own (P := P) (w := w) base t o.type e i z size bytes ht hi hz hsize hby hzs hsz v n xs hown ad m c news hl hnews h1 h63 hbytes hbase
  unfold Oper.wp
  simp [execOp, hop, resolve, invoke, builtin, hs, hx, hrun, Result.andThen]
  exact hK _ _ h2 h3
end Go
namespace Go.Proofs.YtnhefbhiemdhoaaGreat
open Go.RowKit Go.Proofs.YtnhefbhiemdhoaaGreat.RM

theorem inB9 (x : Int) : inB x (-9) 9 = in9 x := by unfold inB in9; rw [Bool.eq_iff_iff]; simp

set_option maxRecDepth 100000 in
set_option maxHeartbeats 1000000 in
theorem sDimOk_in (v : Value) (ys : List Int) (w : World) (h : DimIn w v ys) :
    Calls Tryz.prog 41 #[v] w fun e w' => e = .returned (.bool (dimB ys)) ∧ ∃ m, w' = w.drewN m := by
  by_cases h5 : ys.length = 5
  · obtain ⟨base, et, h⟩ := h.five h5
    obtain ⟨g, c, rfl⟩ := own_some h (by omega)
    have HC : Hid (∀ j, j < 5 → w.cell? ⟨g, j, none⟩ = some (.int .i64 (ys[j]?.getD 0))) := fun j hj => own_int h rfl j (by omega)
    obtain ⟨n, hn⟩ : ∃ n, n = ys.length := ⟨_, rfl⟩
    have HN := hidD hn
    rw [← hn] at h5 ⊢
    clear h hn
    subst h5
    obtain ⟨q, hq⟩ : ∃ q, q = dimB ys := ⟨_, rfl⟩
    have HQ := hidD hq
    rw [← hq]
    clear hq
    go_enter Tryz.func41, Tryz.ntmps41
    go_wp2
    go_loopw [3] (fun i wr => ∃ k : Nat, k ≤ 5 ∧ i = .int .i64 k ∧ Hid (∃ m, wr = w.drewN m) ∧ Hid (∀ j, j < k → in9 (ys[j]?.getD 0) = true)) (fun i _ => 5 - (intOf i).toNat)
    case atStart => exact ⟨0, Nat.zero_le _, rfl, ⟨0, rfl⟩, fun j hj => absurd hj (Nat.not_lt_zero _)⟩
    case round =>
      obtain ⟨k, hk, rfl, hw, hP⟩ := hrel
      obtain ⟨m, rfl⟩ := hw.out
      clear hw
      by_cases hlt : k < 5
      · have c1 := HC.out k hlt
        obtain ⟨x, hx⟩ : ∃ x, x = ys[k]?.getD 0 := ⟨_, rfl⟩
        have HX := hidD hx
        rw [← hx] at c1
        clear hx
        by_cases hi : in9 x = true
        · have HI := hidD hi
          clear hi
          go_wp2_with (go_at_call 72; refine (in_any _ _ _ _).mono ?_; rintro e w' ⟨rfl, rfl⟩; rw [inB9, HI.out])
          go_roundw
          case rel =>
            refine ⟨k + 1, by omega, by go_num, ⟨m, rfl⟩, fun j hj => ?_⟩
            by_cases e : j = k
            · subst e; rw [← HX.out]; exact HI.out
            · exact hP.out j (by omega)
          case measure => simp [intOf]; omega
        · rw [Bool.not_eq_true] at hi
          have HI := hidD hi
          clear hi
          have hq2 : q = false := by
            rw [HQ.out]
            unfold dimB
            rw [← Bool.not_eq_true, Bool.and_eq_true, List.all_eq_true]
            intro ⟨_, ha⟩
            have hl : k < ys.length := by have := HN.out; omega
            have := ha ys[k] (List.getElem_mem hl)
            have e1 := HX.out
            rw [List.getElem?_eq_getElem hl] at e1
            rw [← show x = ys[k] from e1, HI.out] at this
            cases this
          have HQ2 := hidD hq2
          clear hq2
          go_wp2_with (go_at_call 72; refine (in_any _ _ _ _).mono ?_; rintro e w' ⟨rfl, rfl⟩; rw [inB9, HI.out])
          go_ret
          exact ⟨by rw [HQ2.out]; rfl, m, rfl⟩
      · obtain rfl : k = 5 := by omega
        have hq2 : q = true := by
          rw [HQ.out]
          unfold dimB
          rw [Bool.and_eq_true, decide_eq_true_eq, List.all_eq_true]
          refine ⟨HN.out.symm, fun x hx => ?_⟩
          obtain ⟨j, hj, rfl⟩ := List.mem_iff_getElem.1 hx
          have := hP.out j (by have := HN.out; omega)
          rw [List.getElem?_eq_getElem hj] at this
          exact this
        have HQ2 := hidD hq2
        clear hq2
        go_wp2
        go_ret
        exact ⟨by rw [HQ2.out]; rfl, m, rfl⟩
  · have hq : dimB ys = false := by unfold dimB; rw [decide_eq_false h5]; rfl
    have HQ := hidD hq
    obtain ⟨ao, co, rfl⟩ := h.shape
    have h5' : ¬ ((ys.length : Int) = 5) := by omega
    clear h h5 hq
    go_enter Tryz.func41, Tryz.ntmps41
    go_wp2
    go_ret
    exact ⟨by rw [HQ.out]; rfl, 0, rfl⟩
theorem sDimOk_any (v : Value) (ys : List Int) (base : Nat) (et : TypeId) (w : World) (h : w.ownsRow base et 1 v ys.length (ys.map (Value.int .i64))) :
    Calls Tryz.prog 41 #[v] w fun e w' => e = .returned (.bool (dimB ys)) ∧ ∃ m, w' = w.drewN m := sDimOk_in v ys w (.of h)
end Go.Proofs.YtnhefbhiemdhoaaGreat

/- The walks of DimTimes, DimPower: the model's. -/
namespace Go.Proofs.YtnhefbhiemdhoaaGreat
open Go.RowKit Go.Proofs.YtnhefbhiemdhoaaGreat.RM

/-- the same, from a base on -/
def RowQ (base : Nat) (w : World) (rs : List Int) (x : Ending) (w' : World) : Prop := ∃ v et, x = .returned v ∧ w'.ownsRow base et 1 v rs.length (rs.map (Value.int .i64)) ∧ Below w.heap.size w w'

set_option maxRecDepth 100000 in
set_option maxHeartbeats 1000000 in
theorem none_any (v : Value) (ys : List Int) (base : Nat) (et : TypeId) (w : World) (h : w.ownsRow base et 1 v ys.length (ys.map (Value.int .i64))) (hbs : base ≤ w.heap.size) :
    Calls Tryz.prog 47 #[v] w fun e w' => RowQ base w (dimN ys) e w' := by
  have HD := hidD (sDimOk_any v ys base et w h)
  have H := hidD h
  obtain ⟨q, hq⟩ : ∃ q, q = dimB ys := ⟨_, rfl⟩
  have HQ := hidD hq
  clear hq h
  cases q
  · have HN : Hid (dimN ys = []) := by show _ = _; unfold dimN; rw [← HQ.out]; rfl
    go_enter Tryz.func47, Tryz.ntmps47
    go_wp2_with (go_at_call 41; refine (HD.out).mono ?_; rintro x w1 ⟨rfl, m, rfl⟩; rw [← HQ.out])
    have h4 := World.ownsRow_lit (w.drewN m) (base := base) (e := 2) (size := 1) #[] 0 (by simpa using hbs) (Nat.zero_le _) rfl
    go_ret
    refine ⟨_, 2, rfl, ?_, (below_drewN (Below.refl _ _) m).alloc (by simp) _⟩
    rw [HN.out]
    simpa using h4
  · have HN : Hid (dimN ys = ys) := by show _ = _; unfold dimN; rw [← HQ.out]; rfl
    go_enter Tryz.func47, Tryz.ntmps47
    go_wp2_with (go_at_call 41; refine (HD.out).mono ?_; rintro x w1 ⟨rfl, m, rfl⟩; rw [← HQ.out])
    go_ret
    refine ⟨v, et, rfl, ?_, below_drewN (Below.refl _ _) m⟩
    rw [HN.out]
    exact own_below H.out (below_drewN (Below.refl _ _) m)
theorem zip_at (a b : List Int) (k : Nat) (ha : k < a.length) (hb : k < b.length) : (List.zipWith (· + ·) a b).take (k + 1) = (List.zipWith (· + ·) a b).take k ++ [a[k]?.getD 0 + b[k]?.getD 0] := by
  rw [List.take_add_one, List.getElem?_eq_getElem (by rw [List.length_zipWith]; omega)]
  simp [ha, hb]
theorem map_at (a : List Int) (n : Int) (k : Nat) (ha : k < a.length) : (a.map (· * n)).take (k + 1) = (a.map (· * n)).take k ++ [a[k]?.getD 0 * n] := by
  rw [List.take_add_one, List.getElem?_eq_getElem (by rw [List.length_map]; omega)]
  simp [ha]
theorem dim_at {ys : List Int} (h : dimB ys = true) : ys.length = 5 ∧ ∀ k, k < 5 → -9 ≤ ys[k]?.getD 0 ∧ ys[k]?.getD 0 ≤ 9 := by
  unfold dimB at h
  rw [Bool.and_eq_true, decide_eq_true_eq, List.all_eq_true] at h
  refine ⟨h.1, fun k hk => ?_⟩
  have hl : k < ys.length := by omega
  rw [List.getElem?_eq_getElem hl]
  exact in9_out (h.2 _ (List.getElem_mem hl))

set_option maxRecDepth 100000 in
set_option maxHeartbeats 2000000 in
theorem sDimTimes_in (v0 v1 : Value) (ys0 ys1 : List Int) (w : World) (h0 : DimIn w v0 ys0) (h1 : DimIn w v1 ys1) :
    Calls Tryz.prog 21 #[v0, v1] w fun e w' => RowP w (ansDimTimes ys0 ys1) e w' := by
  obtain ⟨i0, hi, hz0, hz1, hz2⟩ := info_parts infoI
  have H0 := hidD h0
  have H1 := hidD h1
  obtain ⟨q0, hq0⟩ : ∃ q, q = dimB ys0 := ⟨_, rfl⟩
  obtain ⟨q1, hq1⟩ : ∃ q, q = dimB ys1 := ⟨_, rfl⟩
  have HQ0 := hidD hq0
  have HQ1 := hidD hq1
  have b0 : ∀ (u : World) (o : Obj), Below u.heap.size u (u.alloc o) := fun u o => (Below.refl _ _).alloc (Nat.le_refl _) o
  have L0 := World.ownsRow_lit w (base := w.heap.size) (e := 2) (size := 1) #[] 0 (Nat.le_refl _) (Nat.zero_le _) rfl
  have HL0 := hidD L0
  clear hq0 hq1 L0 h0 h1
  cases q0
  · have HN : Hid (ansDimTimes ys0 ys1 = []) := ansT_no (.inl HQ0.out.symm)
    go_enter Tryz.func21, Tryz.ntmps21
    go_wp2_with (go_at_call 41; refine Calls.mono (sDimOk_in _ ys0 _ ?_) ?_; exact DimIn.below H0.out (b0 _ _); rintro x w1 ⟨rfl, m, rfl⟩; rw [← HQ0.out])
    go_ret
    refine ⟨_, 2, rfl, ?_, below_drewN (b0 _ _) _⟩
    rw [HN.out]
    exact own_below HL0.out (below_drewN (Below.refl _ _) _)
  cases q1
  · have HN : Hid (ansDimTimes ys0 ys1 = []) := ansT_no (.inr HQ1.out.symm)
    go_enter Tryz.func21, Tryz.ntmps21
    go_wp2_with (first | (go_at_call 41; refine Calls.mono (sDimOk_in _ ys0 _ ?_) ?_; exact DimIn.below H0.out (b0 _ _); rintro x w1 ⟨rfl, m, rfl⟩; rw [← HQ0.out]) | (go_at_call 41; refine Calls.mono (sDimOk_in _ ys1 _ ?_) ?_; exact DimIn.below H1.out (below_drewN (b0 _ _) _); rintro x w1 ⟨rfl, m2, rfl⟩; rw [← HQ1.out]))
    go_ret
    refine ⟨_, 2, rfl, ?_, below_drewN (b0 _ _) _⟩
    rw [HN.out]
    exact own_below HL0.out (below_drewN (Below.refl _ _) _)
  obtain ⟨n0, r0⟩ := dim_at HQ0.out.symm
  obtain ⟨n1, r1⟩ := dim_at HQ1.out.symm
  obtain ⟨base0, e0, H0⟩ := H0.out.five n0
  replace H0 := hidD H0
  obtain ⟨base1, e1, H1⟩ := H1.out.five n1
  replace H1 := hidD H1
  obtain ⟨g0, c0, rfl⟩ := own_some H0.out (by omega)
  obtain ⟨g1, c1, rfl⟩ := own_some H1.out (by omega)
  have HC0 : Hid (∀ j, j < 5 → w.cell? ⟨g0, j, none⟩ = some (.int .i64 (ys0[j]?.getD 0))) := fun j hj => own_int H0.out rfl j (by omega)
  have HC1 : Hid (∀ j, j < 5 → w.cell? ⟨g1, j, none⟩ = some (.int .i64 (ys1[j]?.getD 0))) := fun j hj => own_int H1.out rfl j (by omega)
  have hg0 : g0 < w.heap.size := (H0.out.lt g0 rfl).2
  have hg1 : g1 < w.heap.size := (H1.out.lt g1 rfl).2
  obtain ⟨l0, hl0⟩ : ∃ n, n = ys0.length := ⟨_, rfl⟩
  obtain ⟨l1, hl1⟩ : ∃ n, n = ys1.length := ⟨_, rfl⟩
  have HN0 := hidD hl0
  have HN1 := hidD hl1
  have HZ0 : Hid (w.ownsRow base0 e0 1 (.slice (some ⟨g0, 0, none⟩) 5 c0) ys0.length (ys0.map (Value.int .i64))) := by
    have h := H0.out
    rw [show (Value.slice (some ⟨g0, 0, none⟩) ys0.length c0) = .slice (some ⟨g0, 0, none⟩) 5 c0 by rw [n0]] at h
    exact h
  have HZ1 : Hid (w.ownsRow base1 e1 1 (.slice (some ⟨g1, 0, none⟩) 5 c1) ys1.length (ys1.map (Value.int .i64))) := by
    have h := H1.out
    rw [show (Value.slice (some ⟨g1, 0, none⟩) ys1.length c1) = .slice (some ⟨g1, 0, none⟩) 5 c1 by rw [n1]] at h
    exact h
  rw [← hl0] at n0 ⊢
  rw [← hl1] at n1 ⊢
  have HR0 : Hid (∀ k, k < 5 → -9 ≤ ys0[k]?.getD 0 ∧ ys0[k]?.getD 0 ≤ 9) := r0
  have HR1 : Hid (∀ k, k < 5 → -9 ≤ ys1[k]?.getD 0 ∧ ys1[k]?.getD 0 ≤ 9) := r1
  have HA : Hid (ansDimTimes ys0 ys1 = dimN (List.zipWith (· + ·) ys0 ys1)) := by show _ = _; unfold ansDimTimes; rw [← HQ0.out, ← HQ1.out]; rfl
  obtain ⟨zs, hzs⟩ : ∃ zs, zs = List.zipWith (· + ·) ys0 ys1 := ⟨_, rfl⟩
  have HZ := hidD hzs
  rw [HA.out, ← hzs]
  subst n0 n1
  clear hl0 hl1 r0 r1 hzs H0 H1
  go_enter Tryz.func21, Tryz.ntmps21
  go_wp2_with (first | (go_at_call 41; refine Calls.mono (sDimOk_in _ ys0 _ ?_) ?_; exact DimIn.of (own_below HZ0.out (b0 _ _)); rintro x w1 ⟨rfl, m, rfl⟩; rw [← HQ0.out]) | (go_at_call 41; refine Calls.mono (sDimOk_in _ ys1 _ ?_) ?_; exact DimIn.of (own_below HZ1.out (below_drewN (b0 _ _) _)); rintro x w1 ⟨rfl, m2, rfl⟩; rw [← HQ1.out]))
  go_loopw [5, 6] (fun o i wr => ∃ (r : Value) (k : Nat), k ≤ 5 ∧ i = .int .i64 k ∧ r = o ∧ Hid (wr.ownsRow w.heap.size 2 1 r k ((zs.take k).map (Value.int .i64))) ∧ Hid (Below w.heap.size w wr)) (fun _ i _ => 5 - (intOf i).toNat)
  case atStart => exact ⟨_, 0, Nat.zero_le _, rfl, rfl, own_below HL0.out (below_drewN (Below.refl _ _) _), below_drewN (b0 _ _) _⟩
  case round =>
    obtain ⟨r, k, hk, rfl, rfl, hO, hB⟩ := hrel
    have hsz := hB.out.size
    by_cases hlt : k < 5
    · have d0 := (hB.out.cell (p := ⟨g0, k, none⟩) hg0).trans (HC0.out k hlt)
      have d1 := (hB.out.cell (p := ⟨g1, k, none⟩) hg1).trans (HC1.out k hlt)
      obtain ⟨x1, x2⟩ := HR0.out k hlt
      obtain ⟨y1, y2⟩ := HR1.out k hlt
      have hzk := zip_at ys0 ys1 k (by have := HN0.out; omega) (by have := HN1.out; omega)
      obtain ⟨x, hx⟩ : ∃ x, x = ys0[k]?.getD 0 := ⟨_, rfl⟩
      obtain ⟨y, hy⟩ : ∃ x, x = ys1[k]?.getD 0 := ⟨_, rfl⟩
      rw [← hx] at d0 x1 x2 hzk
      rw [← hy] at d1 y1 y2 hzk
      rw [← HZ.out] at hzk
      have HZK := hidD hzk
      obtain ⟨ao, co, rfl⟩ := own_shape hO.out
      have HW := hidD (IntWalk.i64_in (x + y) ⟨by omega, by omega⟩)
      clear hx hy hzk
      go_wp2
      go_region_law (refine step_append_own rfl (.tmp 21) (.tmp 31) 28 rfl w.heap.size 2 i0 (.int .i64 0) 1 8 Tryz.underlying28 hi hz0 hz1 hz2 rfl (by decide) _ k _ (by simp [Act.eval]) (own_below hO.out (by first | exact (b0 _ _).drew | exact b0 _ _)) ⟨wr.heap.size, 0, none⟩ 1 1 [.int .i64 (IntKind.i64.wrap (x + y))] (by simp [Act.eval]) rfl (fun j u h => by first | exact cell_dr (cell_one_new wr _ _ j u h) | exact cell_one_new wr _ _ j u h) (by simp [Value.oneCell']) (by unfold maxLen; omega) (by omega) (by simp; omega) ?_; intro v' w3 hown' hgrow)
      all_goals go_wp2
      all_goals
        go_roundw
        case rel =>
          rw [HW.out] at hown'
          refine ⟨v', k + 1, by omega, by go_num, rfl, ?_, (hB.out.trans ((b0 wr (.cells #[.int .i64 (IntKind.i64.wrap (x + y))] 2)).mono hsz)).drew.grown hgrow (by simp; omega) (fun b e => by have := (hO.out.lt b e).1; exact this)⟩
          show World.ownsRow _ _ _ _ _ _ _
          rw [HZK.out, List.map_append]
          exact hown'
        case measure => simp [intOf]; omega
    · obtain rfl : k = 5 := by omega
      have hzl : zs.length = 5 := by rw [HZ.out, List.length_zipWith, ← HN0.out, ← HN1.out]; rfl
      have o5 := hO.out
      rw [List.take_of_length_le (by omega)] at o5
      have HNN := hidD (none_any r zs w.heap.size 2 wr (by rw [hzl]; exact o5) hsz)
      clear o5 hzl
      go_wp2_with (go_at_call 47; refine (HNN.out).mono ?_; rintro e w4 ⟨v', et, rfl, o, hb⟩)
      go_ret
      exact ⟨v', et, rfl, o, hB.out.trans (hb.mono hsz)⟩
theorem sDimTimes_any (v0 v1 : Value) (ys0 ys1 : List Int) (base0 base1 : Nat) (e0 e1 : TypeId) (w : World) (h0 : w.ownsRow base0 e0 1 v0 ys0.length (ys0.map (Value.int .i64))) (h1 : w.ownsRow base1 e1 1 v1 ys1.length (ys1.map (Value.int .i64))) :
    Calls Tryz.prog 21 #[v0, v1] w fun e w' => RowP w (ansDimTimes ys0 ys1) e w' := sDimTimes_in v0 v1 ys0 ys1 w (.of h0) (.of h1)

set_option maxRecDepth 100000 in
set_option maxHeartbeats 2000000 in
theorem sDimPower_in (v0 : Value) (ys0 : List Int) (n : Int) (w : World) (h0 : DimIn w v0 ys0) :
    Calls Tryz.prog 74 #[v0, .int .i64 n] w fun e w' => RowP w (ansDimPower ys0 n) e w' := by
  obtain ⟨i0, hi, hz0, hz1, hz2⟩ := info_parts infoI
  have H0 := hidD h0
  obtain ⟨q0, hq0⟩ : ∃ q, q = dimB ys0 := ⟨_, rfl⟩
  have HQ0 := hidD hq0
  have b0 : ∀ (u : World) (o : Obj), Below u.heap.size u (u.alloc o) := fun u o => (Below.refl _ _).alloc (Nat.le_refl _) o
  have L0 := World.ownsRow_lit w (base := w.heap.size) (e := 2) (size := 1) #[] 0 (Nat.le_refl _) (Nat.zero_le _) rfl
  have HL0 := hidD L0
  clear hq0 L0 h0
  cases q0
  · have HN : Hid (ansDimPower ys0 n = []) := ansP_no HQ0.out.symm
    go_enter Tryz.func74, Tryz.ntmps74
    go_wp2_with (go_at_call 41; refine Calls.mono (sDimOk_in _ ys0 _ ?_) ?_; exact DimIn.below H0.out (b0 _ _); rintro x w1 ⟨rfl, m, rfl⟩; rw [← HQ0.out])
    go_ret
    refine ⟨_, 2, rfl, ?_, below_drewN (b0 _ _) _⟩
    rw [HN.out]
    exact own_below HL0.out (below_drewN (Below.refl _ _) _)
  obtain ⟨n0, r0⟩ := dim_at HQ0.out.symm
  obtain ⟨base0, e0, H0⟩ := H0.out.five n0
  replace H0 := hidD H0
  obtain ⟨g0, c0, rfl⟩ := own_some H0.out (by omega)
  have HC0 : Hid (∀ j, j < 5 → w.cell? ⟨g0, j, none⟩ = some (.int .i64 (ys0[j]?.getD 0))) := fun j hj => own_int H0.out rfl j (by omega)
  have hg0 : g0 < w.heap.size := (H0.out.lt g0 rfl).2
  obtain ⟨l0, hl0⟩ : ∃ n, n = ys0.length := ⟨_, rfl⟩
  have HN0 := hidD hl0
  have HZ0 : Hid (w.ownsRow base0 e0 1 (.slice (some ⟨g0, 0, none⟩) 5 c0) ys0.length (ys0.map (Value.int .i64))) := by
    have h := H0.out
    rw [show (Value.slice (some ⟨g0, 0, none⟩) ys0.length c0) = .slice (some ⟨g0, 0, none⟩) 5 c0 by rw [n0]] at h
    exact h
  rw [← hl0] at n0 ⊢
  have HR0 : Hid (∀ k, k < 5 → -9 ≤ ys0[k]?.getD 0 ∧ ys0[k]?.getD 0 ≤ 9) := r0
  obtain ⟨zs, hzs⟩ : ∃ zs, zs = ys0.map (· * n) := ⟨_, rfl⟩
  have HZ := hidD hzs
  obtain ⟨rs, hrs⟩ : ∃ rs, rs = ansDimPower ys0 n := ⟨_, rfl⟩
  have HRS := hidD hrs
  rw [← hrs]
  subst n0
  clear hl0 r0 hzs H0 hrs
  go_enter Tryz.func74, Tryz.ntmps74
  go_wp2_with (go_at_call 41; refine Calls.mono (sDimOk_in _ ys0 _ ?_) ?_; exact DimIn.of (own_below HZ0.out (b0 _ _)); rintro x w1 ⟨rfl, m, rfl⟩; rw [← HQ0.out])
  go_loopw [5, 6] (fun o i wr => ∃ (r : Value) (k : Nat), k ≤ 5 ∧ i = .int .i64 k ∧ r = o ∧ Hid (wr.ownsRow w.heap.size 2 1 r k ((zs.take k).map (Value.int .i64))) ∧ Hid (Below w.heap.size w wr) ∧ Hid (∀ j, j < k → ys0[j]?.getD 0 = 0 ∨ in9 n = true)) (fun _ i _ => 5 - (intOf i).toNat)
  case atStart => exact ⟨_, 0, Nat.zero_le _, rfl, rfl, own_below HL0.out (below_drewN (Below.refl _ _) _), below_drewN (b0 _ _) _, fun j hj => absurd hj (Nat.not_lt_zero _)⟩
  case round =>
    obtain ⟨r, k, hk, rfl, rfl, hO, hB, hP⟩ := hrel
    have hsz := hB.out.size
    by_cases hlt : k < 5
    · have d0 := (hB.out.cell (p := ⟨g0, k, none⟩) hg0).trans (HC0.out k hlt)
      obtain ⟨x1, x2⟩ := HR0.out k hlt
      have hzk := map_at ys0 n k (by have := HN0.out; omega)
      obtain ⟨x, hx⟩ : ∃ x, x = ys0[k]?.getD 0 := ⟨_, rfl⟩
      have HX := hidD hx
      rw [← hx] at d0 x1 x2 hzk
      rw [← HZ.out] at hzk
      have HZK := hidD hzk
      obtain ⟨ao, co, rfl⟩ := own_shape hO.out
      clear hx hzk
      by_cases x0 : x = 0
      · subst x0
        go_wp2_with (at_builtin; refine wpList_append_own _ rfl _ _ 28 rfl w.heap.size 2 i0 (.int .i64 0) 1 8 Tryz.underlying28 hi hz0 hz1 hz2 rfl (by decide) _ _ _ rfl (own_below hO.out (b0 _ _)) ⟨wr.heap.size, 0, none⟩ 1 1 [.int .i64 0] rfl rfl (cell_one_new _ _ _) (by simp [Value.oneCell']) (by unfold maxLen; omega) (by omega) (by simp; omega) ?_; intro v' w3 hown' hgrow _)
        go_roundw
        case rel =>
          refine ⟨v', k + 1, by omega, by go_num, rfl, ?_, (hB.out.trans ((b0 wr (.cells #[.int .i64 0] 2)).mono hsz)).grown hgrow (by simp; omega) (fun b e => by have := (hO.out.lt b e).1; exact this), fun j hj => ?_⟩
          · show World.ownsRow _ _ _ _ _ _ _
            rw [HZK.out, List.map_append, Int.zero_mul]
            exact hown'
          · by_cases e : j = k
            · subst e; exact .inl HX.out.symm
            · exact hP.out j (by omega)
        case measure => simp [intOf]; omega
      · by_cases hn : in9 n = true
        · have hn9 := in9_out hn
          have mb := mul_b ⟨x1, x2⟩ hn9
          have HNI := hidD hn
          clear hn
          obtain ⟨mb1, mb2⟩ := mb
          go_wp2_with (first | (go_at_call 72; refine (in_any _ _ _ _).mono ?_; rintro e w' ⟨rfl, hw⟩; obtain rfl := hw.symm; rw [inB9, HNI.out]) | (at_builtin; refine wpList_append_own _ rfl _ _ 28 rfl w.heap.size 2 i0 (.int .i64 0) 1 8 Tryz.underlying28 hi hz0 hz1 hz2 rfl (by decide) _ _ _ rfl (own_below hO.out (b0 _ _)) ⟨wr.heap.size, 0, none⟩ 1 1 [.int .i64 (x * n)] rfl rfl (cell_one_new _ _ _) (by simp [Value.oneCell']) (by unfold maxLen; omega) (by omega) (by simp; omega) ?_; intro v' w3 hown' hgrow _))
          go_roundw
          case rel =>
            refine ⟨v', k + 1, by omega, by go_num, rfl, ?_, (hB.out.trans ((b0 wr (.cells #[.int .i64 (x * n)] 2)).mono hsz)).grown hgrow (by simp; omega) (fun b e => by have := (hO.out.lt b e).1; exact this), fun j hj => .inr HNI.out⟩
            show World.ownsRow _ _ _ _ _ _ _
            rw [HZK.out, List.map_append]
            exact hown'
          case measure => simp [intOf]; omega
        · rw [Bool.not_eq_true] at hn
          have HNI := hidD hn
          have hrs2 : rs = [] := by
            rw [HRS.out]
            unfold ansDimPower
            rw [← HQ0.out]
            have : (ys0.all fun x => decide (x = 0) || in9 n) = false := by
              rw [← Bool.not_eq_true, List.all_eq_true]
              intro ha
              have hl : k < ys0.length := by have := HN0.out; omega
              have := ha ys0[k] (List.getElem_mem hl)
              have e1 := HX.out
              rw [List.getElem?_eq_getElem hl] at e1
              rw [← show x = ys0[k] from e1, hn] at this
              simp at this
              exact x0 this
            rw [this]
            simp
          have HR2 := hidD hrs2
          clear hn hrs2
          go_wp2_with (go_at_call 72; refine (in_any _ _ _ _).mono ?_; rintro e w' ⟨rfl, hw⟩; obtain rfl := hw.symm; rw [inB9, HNI.out])
          have h4 := World.ownsRow_lit wr (base := w.heap.size) (e := 2) (size := 1) #[] 0 hsz (Nat.zero_le _) rfl
          go_ret
          refine ⟨_, 2, rfl, ?_, hB.out.alloc hsz _⟩
          rw [HR2.out]
          exact h4
    · obtain rfl : k = 5 := by omega
      have hzl : zs.length = 5 := by rw [HZ.out, List.length_map, ← HN0.out]
      have hrs2 : rs = dimN zs := by
        rw [HRS.out, HZ.out]
        unfold ansDimPower
        rw [← HQ0.out]
        have : (ys0.all fun x => decide (x = 0) || in9 n) = true := by
          rw [List.all_eq_true]
          intro x hx
          obtain ⟨j, hj, rfl⟩ := List.mem_iff_getElem.1 hx
          have := hP.out j (by have := HN0.out; omega)
          rw [List.getElem?_eq_getElem hj] at this
          rcases this with h | h
          · simp [show ys0[j] = 0 from h]
          · simp [h]
        rw [this]
        rfl
      have HR2 := hidD hrs2
      have o5 := hO.out
      rw [List.take_of_length_le (by omega)] at o5
      have HNN := hidD (none_any r zs w.heap.size 2 wr (by rw [hzl]; exact o5) hsz)
      clear o5 hzl hrs2
      go_wp2_with (go_at_call 47; refine (HNN.out).mono ?_; rintro e w4 ⟨v', et, rfl, o, hb⟩)
      go_ret
      rw [← HR2.out] at o
      exact ⟨v', et, rfl, o, hB.out.trans (hb.mono hsz)⟩
theorem sDimPower_any (v0 : Value) (ys0 : List Int) (n : Int) (base0 : Nat) (e0 : TypeId) (w : World) (h0 : w.ownsRow base0 e0 1 v0 ys0.length (ys0.map (Value.int .i64))) :
    Calls Tryz.prog 74 #[v0, .int .i64 n] w fun e w' => RowP w (ansDimPower ys0 n) e w' := sDimPower_in v0 ys0 n w (.of h0)
end Go.Proofs.YtnhefbhiemdhoaaGreat

/- A dimension, or what is none, is drawn. -/
namespace Go.Proofs.YtnhefbhiemdhoaaGreat
open Go.RowKit Go.Proofs.YtnhefbhiemdhoaaGreat.RM

theorem hidI {p : Prop} (h : p) : Hid p := h
theorem ownExI {w w' : World} {cb base : Nat} {e : TypeId} {size : Nat} {v : Value} {n : Nat} {xs : List Value} (h : w.ownsRow base e size v n xs) (hx : Ex cb w w') (hc : cb < base) : w'.ownsRow base e size v n xs := by
  refine ⟨h.1, ?_⟩
  rcases h.2 with hn | ⟨g, c, cur, rfl, h1, h2, h3⟩
  · exact .inl hn
  · exact .inr ⟨g, c, cur, rfl, h1, (hx.2.2.2.2 g (Array.getElem?_eq_some_iff.1 h2).1 (by omega)).trans h2, h3⟩
theorem curGrownI {w w' : World} {cb : Nat} {a : Option Addr} {len cap : Nat} {zs : List Int} {row : Option Nat} (h : Cur w cb a len cap zs) (hg : w.grownBy w' row) (hne : row ≠ some cb) (hrow : ∀ b off, a = some ⟨b, off, none⟩ → 0 < zs.length → row ≠ some b) : Cur w' cb a len cap zs := by
  have hcl := h.lt
  have hx : ∀ b o v, w.cell? ⟨b, o, none⟩ = some v → row ≠ some b → w'.cell? ⟨b, o, none⟩ = some v := by
    intro b o v hv hb
    have hl : b < w.heap.size := World.block_lt_of_cell? w _ hv
    rw [World.cell?_of_block (w := w) (a := ⟨b, o, none⟩) (hg.block b hl (fun e => hb e.symm))]; exact hv
  have hf : ∀ b o, b < w.heap.size → row ≠ some b → w'.frozen? ⟨b, o, none⟩ = w.frozen? ⟨b, o, none⟩ := by
    intro b o hl hb
    exact World.frozen?_of_block (w := w) (a := ⟨b, o, none⟩) (hg.block b hl (fun e => hb e.symm))
  obtain ⟨⟨i, h', h1, h2, h3, h4, h5, h6, h7⟩, hr, hb⟩ := h
  refine ⟨⟨i, h', h1, h2, hx _ _ _ h3 hne, hx _ _ _ h4 hne, hx _ _ _ h5 hne, (hf _ _ hcl hne).trans h6, (hf _ _ hcl hne).trans h7⟩, ?_, hb⟩
  rcases hr with hr | ⟨b, off, ha, k1, k2, k3, k4, k5⟩
  · exact .inl hr
  · exact .inr ⟨b, off, ha, k1, k2, k3, fun i hi => hx _ _ _ (k4 i hi) (hrow b off ha (by omega)), k5⟩
theorem curRowI {w w1 : World} {cb base : Nat} {a : Option Addr} {len cap : Nat} {zs : List Int} {e : TypeId} {size : Nat} {v : Value} {n : Nat} {xs : List Value} {o : Obj} (h : Cur w cb a len cap zs) (hr : w.ownsRow base e size v n xs) (hc : cb < base) (ha : ∀ b off, a = some ⟨b, off, none⟩ → 0 < zs.length → b < base) (hg : (w.alloc o).grownBy w1 v.ownBlock) : Cur w1 cb a len cap zs := by
  refine curGrownI (h.below ((Below.refl _ _).alloc (Nat.le_refl _) o)) hg (fun e => ?_) (fun b off e1 e2 e => ?_)
  · have := (hr.lt cb e).1; omega
  · have := (hr.lt b e).1; have := ha b off e1 e2; omega
theorem exRowI {w0 w w1 : World} {cb base : Nat} {e : TypeId} {size : Nat} {v : Value} {n : Nat} {xs : List Value} {o : Obj} (h : Ex cb w0 w) (hr : w.ownsRow base e size v n xs) (hb : w0.heap.size ≤ base) (hg : (w.alloc o).grownBy w1 v.ownBlock) : Ex cb w0 w1 := by
  have h2 := h.alloc o
  refine ⟨hg.os.trans h2.1, hg.tape.trans h2.2.1, hg.output.trans h2.2.2.1, Nat.le_trans h2.size hg.size, fun k hk hne => ?_⟩
  rw [hg.block k (Nat.lt_of_lt_of_le hk h2.size) (fun e => by have := (hr.lt k e.symm).1; omega)]
  exact h2.2.2.2.2 k hk hne
theorem curSetI {w : World} {cb b o : Nat} {a : Option Addr} {len cap : Nat} {zs : List Int} {u : Value} (h : Cur w cb a len cap zs) (hc : cb ≠ b) (ha : ∀ b' off, a = some ⟨b', off, none⟩ → 0 < zs.length → b' ≠ b) : Cur (w.setCell ⟨b, o, none⟩ u) cb a len cap zs := by
  refine h.ex (x := b) (Ex.setCell (Ex.refl _ _) (.inl rfl) u) (fun e => hc e.symm) ha

/-- a drawn list: in memory of its own from B on, or not of five numbers -/
def DimAt (B : Nat) (w : World) (v : Value) (ys : List Int) : Prop := (∃ base, B ≤ base ∧ w.ownsRow base 2 1 v ys.length (ys.map (Value.int .i64))) ∨ (ys.length ≠ 5 ∧ ∃ a c, v = .slice a ys.length c)
theorem DimAt.to {B : Nat} {w : World} {v : Value} {ys : List Int} (h : DimAt B w v ys) : DimIn w v ys := by
  rcases h with ⟨base, _, h⟩ | h
  · exact .inl ⟨base, 2, h⟩
  · exact .inr h
theorem DimAt.ex {B cb : Nat} {w w' : World} {v : Value} {ys : List Int} (h : DimAt B w v ys) (hx : Ex cb w w') (hc : cb < B) : DimAt B w' v ys := by
  rcases h with ⟨base, hb, h⟩ | h
  · exact .inl ⟨base, hb, ownExI h hx (by omega)⟩
  · exact .inr h

set_option maxRecDepth 100000 in
set_option maxHeartbeats 2000000 in
theorem l4Draw_any (cb : Nat) (a : Option Addr) (len cap : Nat) (zs : List Int) (w : World) (hc : Cur w cb a len cap zs) :
    Calls Tryz.prog 60 #[.pointer (some ⟨cb, 0, none⟩)] w fun e w' => ∃ v ys, e = .returned v ∧ ys.length ≤ 5 ∧ DimAt w.heap.size w' v ys ∧ Cur w' cb a len cap zs ∧ Ex cb w w' := by
  obtain ⟨i0, hi, hz0, hz1, hz2⟩ := info_parts infoI
  have b0 : ∀ (u : World) (o : Obj), Below u.heap.size u (u.alloc o) := fun u o => (Below.refl _ _).alloc (Nat.le_refl _) o
  have hlt := hc.lt
  have HROW : Hid (∀ b off, a = some ⟨b, off, none⟩ → 0 < zs.length → b < w.heap.size) := fun b off e hz => hc.2.1.lt b off e hz
  have O0 := hidI (World.ownsRow_lit w (base := w.heap.size) (e := 2) (size := 1) #[] 0 (Nat.le_refl _) (Nat.zero_le _) rfl)
  have C0 := hidI (hc.below (b0 w (.cells #[] 2)))
  have E0 := hidI ((Ex.refl cb w).alloc (.cells #[] 2))
  clear hc
  go_enter Tryz.func60, Tryz.ntmps60
  go_wp2
  go_loopw [3, 4] (fun o i wr => ∃ (q : Value) (ys : List Int), q = o ∧ ys.length ≤ 5 ∧ i = .int .i64 ys.length ∧ Hid (wr.ownsRow w.heap.size 2 1 q ys.length (ys.map (Value.int .i64))) ∧ Hid (Cur wr cb a len cap zs) ∧ Hid (Ex cb w wr)) (fun _ i _ => 5 - (intOf i).toNat)
  case atStart => exact ⟨_, [], rfl, by simp, rfl, O0.out, C0.out, E0.out⟩
  case round =>
    clear O0 C0 E0
    obtain ⟨q, ys, rfl, hk, rfl, hO, HC, HE⟩ := hrel
    have hsz := HE.out.size
    by_cases hl : ys.length < 5
    · go_wp2_with fail
      refine (once_any cb _ a len cap zs _ HC.out (by omega)).mono ?_
      rintro e w1 ⟨z, rfl, hC', hE⟩
      replace hO := hidI (ownExI hO.out hE hlt)
      replace HE := hidI (HE.out.trans hE)
      replace HC := hidI hC'
      clear hC' hE
      have fin : ∀ (W : World) (x : Int) (v' : Value) (w5 : World), W.ownsRow w.heap.size 2 1 q ys.length (ys.map (Value.int .i64)) → Cur W cb a len cap zs → Ex cb w W → w5.ownsRow w.heap.size 2 1 v' (ys.length + 1) (ys.map (Value.int .i64) ++ [.int .i64 x]) → (W.alloc (.cells #[.int .i64 x] 2)).grownBy w5 q.ownBlock → ∃ (q' : Value) (ys' : List Int), q' = v' ∧ ys'.length ≤ 5 ∧ Value.int .i64 ((ys.length : Int) + 1) = .int .i64 ys'.length ∧ Hid (w5.ownsRow w.heap.size 2 1 q' ys'.length (ys'.map (Value.int .i64))) ∧ Hid (Cur w5 cb a len cap zs) ∧ Hid (Ex cb w w5) := by
        intro W x v' w5 h1 h2 h3 h4 h5
        refine ⟨v', ys ++ [x], rfl, by simp; omega, by simp, ?_, curRowI h2 h1 hlt HROW.out h5, exRowI h3 h1 (Nat.le_refl _) h5⟩
        show World.ownsRow _ _ _ _ _ _ _
        simpa using h4
      have FIN := hidI fin
      clear fin
      obtain ⟨ao, co, rfl⟩ := own_shape hO.out
      cases z
      · go_wp2_with (at_builtin; refine wpList_append_own _ rfl _ _ 28 rfl w.heap.size 2 i0 (.int .i64 0) 1 8 Tryz.underlying28 hi hz0 hz1 hz2 rfl (by decide) _ _ _ rfl (World.ownsRow.alloc hO.out _) ⟨w1.heap.size, 0, none⟩ 1 1 [.int .i64 0] rfl rfl (cell_one_new _ _ _) (by simp [Value.oneCell']) (by unfold maxLen; omega) (by omega) (by simp; have := HE.out.size; omega) ?_; intro v' w5 hown' hgrow _)
        go_roundw
        case rel => exact FIN.out w1 0 v' w5 hO.out HC.out HE.out hown' hgrow
        case measure => simp [intOf]; omega
      · go_wp2_with fail
        refine (from_any cb _ _ a len cap zs _ HC.out (by omega) (by omega) (by omega)).mono ?_
        rintro e w2 ⟨x, rfl, hx0, hx1, hC', hE⟩
        replace hO := hidI (ownExI hO.out hE hlt)
        replace HE := hidI (HE.out.trans hE)
        replace HC := hidI hC'
        clear hC' hE
        go_wp2_with (at_builtin; refine wpList_append_own _ rfl _ _ 28 rfl w.heap.size 2 i0 (.int .i64 0) 1 8 Tryz.underlying28 hi hz0 hz1 hz2 rfl (by decide) _ _ _ rfl (World.ownsRow.alloc hO.out _) ⟨w2.heap.size, 0, none⟩ 1 1 [.int .i64 x] rfl rfl (cell_one_new _ _ _) (by simp [Value.oneCell']) (by unfold maxLen; omega) (by omega) (by simp; have := HE.out.size; omega) ?_; intro v' w5 hown' hgrow _)
        go_roundw
        case rel => exact FIN.out w2 x v' w5 hO.out HC.out HE.out hown' hgrow
        case measure => simp [intOf]; omega
    · have h5 : ys.length = 5 := by omega
      rw [h5] at hO
      obtain ⟨g, c, rfl⟩ := own_some hO.out (by omega)
      have hgw := (hO.out.lt g rfl).1
      have HY := hidI h5
      clear h5
      have TAIL : ∀ (W : World) (ts : List Int), ts.length = 5 → W.ownsRow w.heap.size 2 1 (.slice (some ⟨g, 0, none⟩) 5 c) 5 (ts.map (Value.int .i64)) → DimAt w.heap.size W (.slice (some ⟨g, 0, none⟩) 5 c) ts ∧ DimAt w.heap.size W (.slice (some ⟨g, 1, none⟩) 4 (c - 1)) ts.tail := by
        intro W ts h1 h2
        refine ⟨.inl ⟨w.heap.size, Nat.le_refl _, by rw [h1]; exact h2⟩, .inr ⟨by rw [List.length_tail]; omega, _, c - 1, by rw [List.length_tail, h1]⟩⟩
      have HTAIL := hidI TAIL
      have hcap : 5 ≤ c := by
        rcases hO.out.2 with ⟨e, _⟩ | ⟨g', c', cur, e, _, _, h7, _⟩ <;> cases e
        exact h7
      clear TAIL
      go_wp2_with fail
      refine (once_any cb _ a len cap zs _ HC.out (by omega)).mono ?_
      rintro e w1 ⟨z, rfl, hC', hE⟩
      replace hO := hidI (ownExI hO.out hE hlt)
      replace HE := hidI (HE.out.trans hE)
      replace HC := hidI hC'
      clear hC' hE hsz
      cases z
      · go_wp2_with fail
        refine (once_any cb _ a len cap zs _ HC.out (by omega)).mono ?_
        rintro e w2 ⟨z, rfl, hC', hE⟩
        replace hO := hidI (ownExI hO.out hE hlt)
        replace HE := hidI (HE.out.trans hE)
        replace HC := hidI hC'
        clear hC' hE
        obtain ⟨d1, d2⟩ := HTAIL.out w2 ys HY.out hO.out
        have D1 := hidI d1
        have D2 := hidI d2
        clear d1 d2
        cases z
        · go_wp2
          go_ret
          exact ⟨_, ys, rfl, by have := HY.out; omega, D1.out, HC.out, HE.out⟩
        · go_wp2
          go_ret
          exact ⟨_, ys.tail, rfl, by rw [List.length_tail]; have := HY.out; omega, D2.out, HC.out, HE.out⟩
      · go_wp2_with fail
        refine (below_any cb _ a len cap zs _ HC.out (by omega)).mono ?_
        rintro e w2 ⟨x1, rfl, hx0, hx1, hC', hE⟩
        replace hO := hidI (ownExI hO.out hE hlt)
        replace HE := hidI (HE.out.trans hE)
        replace HC := hidI hC'
        clear hC' hE
        obtain ⟨j1, rfl⟩ : ∃ j : Nat, x1 = j := ⟨x1.toNat, by omega⟩
        go_wp2_with fail
        refine (below_any cb _ a len cap zs _ (HC.out.below (b0 _ _)) (by omega)).mono ?_
        rintro e w3 ⟨x2, rfl, hy0, hy1, hC', hE⟩
        have hlt2 := HC.out.lt
        obtain ⟨j2, rfl⟩ : ∃ j : Nat, x2 = j := ⟨x2.toNat, by omega⟩
        have hidx : ∃ v, w3.cell? ⟨w2.heap.size, j2, none⟩ = some (.int .i64 v) := by
          have o := World.ownsRow_lit w2 (base := w2.heap.size) (e := 2) (size := 1) #[.int .i64 9, .int .i64 (-9), .int .i64 10, .int .i64 (-10), .int .i64 4611686018427387904] 5 (Nat.le_refl _) (by decide) rfl
          have := own_int (zs := [9, -9, 10, -10, 4611686018427387904]) o rfl j2 (by omega)
          exact ⟨_, hE.cell this (by omega)⟩
        obtain ⟨v, hidx⟩ := hidx
        replace hO := hidI (ownExI (hO.out.alloc (.cells #[.int .i64 9, .int .i64 (-9), .int .i64 10, .int .i64 (-10), .int .i64 4611686018427387904] 2)) hE hlt)
        replace HE := hidI ((HE.out.alloc _).trans hE)
        replace HC := hidI hC'
        clear hC' hE
        have d1 := hO.out.cellAt j1 (by omega)
        rw [List.getElem?_eq_getElem (by rw [List.length_map, HY.out]; omega)] at d1
        have f1 := hO.out.frozenAt j1
        have O4 : Hid ((w3.setCell ⟨g, j1, none⟩ (.int .i64 v)).ownsRow w.heap.size 2 1 (.slice (some ⟨g, 0, none⟩) 5 c) 5 ((ys.set j1 v).map (Value.int .i64))) := by
          show World.ownsRow _ _ _ _ _ _ _
          rw [List.map_set]
          exact (hO.out.stored j1 (.int .i64 v)).1
        have C4 : Hid (Cur (w3.setCell ⟨g, j1, none⟩ (.int .i64 v)) cb a len cap zs) := curSetI HC.out (by omega) (fun b off e1 e2 => by have := HROW.out b off e1 e2; omega)
        have E4 : Hid (Ex cb w (w3.setCell ⟨g, j1, none⟩ (.int .i64 v))) := HE.out.setCell (.inr hgw) _
        have HYS : Hid ((ys.set j1 v).length = 5) := by show _ = _; rw [List.length_set]; exact HY.out
        clear hO HC HE
        go_wp2_with fail
        refine (once_any cb _ a len cap zs _ C4.out (by omega)).mono ?_
        rintro e w5 ⟨z, rfl, hC', hE⟩
        replace O4 := hidI (ownExI O4.out hE hlt)
        replace E4 := hidI (E4.out.trans hE)
        replace C4 := hidI hC'
        clear hC' hE d1 f1 hidx
        obtain ⟨d1, d2⟩ := HTAIL.out w5 _ HYS.out O4.out
        have D1 := hidI d1
        have D2 := hidI d2
        clear d1 d2
        cases z
        · go_wp2
          go_ret
          exact ⟨_, ys.set j1 v, rfl, by have := HYS.out; omega, D1.out, C4.out, E4.out⟩
        · go_wp2
          go_ret
          exact ⟨_, (ys.set j1 v).tail, rfl, by rw [List.length_tail]; have := HYS.out; omega, D2.out, C4.out, E4.out⟩
end Go.Proofs.YtnhefbhiemdhoaaGreat

/- Bytes that a call may read and write: what a text's bytes are, what is cut of them, what was appended. -/
namespace Go.Proofs.YtnhefbhiemdhoaaGreat
open Go.RowKit Go.Proofs.YtnhefbhiemdhoaaGreat.RM

theorem hidB {p : Prop} (h : p) : Hid p := h
theorem infoU8 : (Tryz.prog.info? 5).map (fun i => (i.zero, i.size, i.bytes)) = some (some (.int .u8 0), 1, 1) := by kernel_rfl
def vB (bs : List UInt8) : List Value := bs.map fun b => Value.int .u8 (b.toNat : Int)
theorem vB_len (bs : List UInt8) : (vB bs).length = bs.length := by simp [vB]
theorem vB_at (bs : List UInt8) (j : Nat) (h : j < bs.length) : (vB bs)[j]? = some (.int .u8 ((bs[j]?.getD 0).toNat : Int)) := by
  simp [vB, List.getElem?_eq_getElem h]
/-- the bytes bs, to be read and written, in a block from B on -/
def RdB (W : World) (B : Nat) (v : Value) (bs : List UInt8) : Prop :=
  ∃ a c, v = .slice a bs.length c ∧ bs.length ≤ c ∧ c ≤ maxLen ∧ (bs ≠ [] → ∃ g, a = some ⟨g, 0, none⟩ ∧ B ≤ g ∧ ∀ j, j < bs.length → W.cell? ⟨g, j, none⟩ = some (.int .u8 ((bs[j]?.getD 0).toNat : Int)) ∧ W.frozen? ⟨g, j, none⟩ = false)
theorem RdB.ex {W W' : World} {B cb : Nat} {v : Value} {bs : List UInt8} (h : RdB W B v bs) (hx : Ex cb W W') (hc : cb < B) : RdB W' B v bs := by
  obtain ⟨a, c, h1, h2, h3, h4⟩ := h
  refine ⟨a, c, h1, h2, h3, fun hne => ?_⟩
  obtain ⟨g, k1, k2, k3⟩ := h4 hne
  exact ⟨g, k1, k2, fun j hj => ⟨hx.cell (k3 j hj).1 (by omega), hx.frozen (k3 j hj).1 (k3 j hj).2 (by omega)⟩⟩
theorem RdB.own {W : World} {base B n : Nat} {v : Value} {bs : List UInt8} (h : W.ownsRow base 5 1 v n (vB bs)) (hb : B ≤ base) : RdB W B v bs := by
  have hn : bs.length = n := by have := h.1; rw [vB_len] at this; omega
  subst hn
  rcases h.2 with ⟨e, h0⟩ | ⟨g, cap, cur, e, h1, h2, h3, h4, h5⟩
  · subst e
    exact ⟨none, 0, by rw [h0], by omega, Nat.zero_le _, fun hne => absurd (List.eq_nil_of_length_eq_zero h0) hne⟩
  · subst e
    refine ⟨_, cap, rfl, h3, h4, fun _ => ⟨g, rfl, by omega, fun j hj => ⟨?_, h.frozenAt j⟩⟩⟩
    rw [h.cellAt j (by omega), vB_at bs j hj]
theorem RdB.put {W : World} {B n c k : Nat} {g : Nat} {bs : List UInt8} (h : RdB W B (.slice (some ⟨g, 0, none⟩) n c) bs) (hk : k < bs.length) (x : UInt8) : RdB (W.setCell ⟨g, k, none⟩ (.int .u8 (x.toNat : Int))) B (.slice (some ⟨g, 0, none⟩) n c) (bs.set k x) := by
  obtain ⟨a, c', h1, h2, h3, h4⟩ := h
  injection h1 with e1 e2 e3
  subst e1 e2 e3
  refine ⟨_, _, by rw [List.length_set], by rw [List.length_set]; exact h2, h3, fun _ => ?_⟩
  obtain ⟨g', k1, k2, k3⟩ := h4 (by intro e; rw [e] at hk; exact absurd hk (Nat.not_lt_zero _))
  cases k1
  refine ⟨g, rfl, k2, fun j hj => ?_⟩
  rw [List.length_set] at hj
  obtain ⟨q1, q2⟩ := k3 j hj
  refine ⟨?_, by rw [World.frozen?_setCell]; exact q2⟩
  by_cases e : k = j
  · subst e
    rw [World.cell?_setCell_same (h := q1), List.getElem?_set_self hk]
    rfl
  · rw [World.cell?_setCell_other (h := by intro e2; injection e2 with _ e3 _; exact e e3), q1, List.getElem?_set_ne e]
theorem RdB.cut {W : World} {B c k : Nat} {a : Option Addr} {bs : List UInt8} (h : RdB W B (.slice a bs.length c) bs) (hk : k ≤ bs.length) : RdB W B (.slice a k c) (bs.take k) := by
  obtain ⟨a', c', h1, h2, h3, h4⟩ := h
  injection h1 with e1 e2 e3
  subst e1 e3
  have hl : (bs.take k).length = k := by rw [List.length_take]; omega
  refine ⟨_, _, by rw [hl], by rw [hl]; omega, h3, fun hne => ?_⟩
  obtain ⟨g, k1, k2, k3⟩ := h4 (by intro e; rw [e] at hne; simp at hne)
  refine ⟨g, k1, k2, fun j hj => ?_⟩
  rw [hl] at hj
  have := k3 j (by omega)
  rw [List.getElem?_take, if_pos hj]
  exact this
set_option maxRecDepth 100000 in
/-- 'string(b)' -/
theorem RdB.back {W : World} {B c : Nat} {a : Option Addr} {bs : List UInt8} (h : RdB W B (.slice a bs.length c) bs) : (convert 22 9 (.slice a bs.length c)).run Tryz.prog W = .ok (.string ⟨bs.toArray⟩) W := by
  obtain ⟨a', c', h1, h2, h3, h4⟩ := h
  injection h1 with e1 e2 e3
  subst e1 e3
  by_cases hne : bs = []
  · subst hne
    cases a with
    | none => exact Lib.run_convert_nil_bytes W 22 9 5 c Tryz.underlying22 Tryz.underlying5 Tryz.underlying9
    | some ad => exact run_convert_bytes_back W 22 9 5 ad c [] Tryz.underlying22 Tryz.underlying5 Tryz.underlying9 (fun j hj => absurd hj (Nat.not_lt_zero _))
  · obtain ⟨g, rfl, k2, k3⟩ := h4 hne
    refine run_convert_bytes_back W 22 9 5 ⟨g, 0, none⟩ c bs Tryz.underlying22 Tryz.underlying5 Tryz.underlying9 (fun j hj => ?_)
    have e : (⟨g, 0, none⟩ : Addr).add j = ⟨g, j, none⟩ := by by_cases i0 : j = 0 <;> simp [Addr.add, i0]
    rw [e, (k3 j hj).1, List.getElem?_eq_getElem hj]
    rfl
/-- '[]byte(s)' -/
theorem RdB.of (w : World) (s : ByteArray) (c : Nat) (hc : s.size ≤ c) (hm : c ≤ maxLen) : RdB (w.drew.alloc (.cells (bytesRow s c) 5 ((bytesRow s c).size, (bytesRow s c).size + 1))) w.heap.size (.slice (some ⟨w.heap.size, 0, none⟩) s.size c) s.data.toList := by
  have hl : s.data.toList.length = s.size := by rw [Array.length_toList]; rfl
  refine ⟨_, c, by rw [hl], by rw [hl]; exact hc, hm, fun _ => ⟨_, rfl, Nat.le_refl _, fun j hj => ?_⟩⟩
  have hb : (w.drew.alloc (.cells (bytesRow s c) 5 ((bytesRow s c).size, (bytesRow s c).size + 1))).heap[w.heap.size]? = some (.cells (bytesRow s c) 5 ((bytesRow s c).size, (bytesRow s c).size + 1)) := by
    show (w.heap.push _)[w.heap.size]? = _
    simp
  have hsz : j < (bytesRow s c).size := by
    unfold bytesRow
    simp
    omega
  constructor
  · unfold World.cell?
    rw [hb]
    have hj' : j < s.data.size := by simpa using hj
    simp [bytesRow, Array.getElem?_append]
    have hj2 : j < s.size := hj'
    rw [if_pos hj2, Array.getElem?_eq_getElem hj']
    rfl
  · unfold World.frozen?
    rw [hb]
    simp
    omega
theorem exGrowI {w0 w w1 : World} {cb base : Nat} {e : TypeId} {size : Nat} {v : Value} {n : Nat} {xs : List Value} (h : Ex cb w0 w) (hr : w.ownsRow base e size v n xs) (hb : w0.heap.size ≤ base) (hg : w.grownBy w1 v.ownBlock) : Ex cb w0 w1 := by
  refine ⟨hg.os.trans h.1, hg.tape.trans h.2.1, hg.output.trans h.2.2.1, Nat.le_trans h.size hg.size, fun k hk hne => ?_⟩
  rw [hg.block k (Nat.lt_of_lt_of_le hk h.size) (fun e => by have := (hr.lt k e.symm).1; omega)]
  exact h.2.2.2.2 k hk hne
theorem curOwnI {w w1 : World} {cb base : Nat} {a : Option Addr} {len cap : Nat} {zs : List Int} {e : TypeId} {size : Nat} {v : Value} {n : Nat} {xs : List Value} (h : Cur w cb a len cap zs) (hr : w.ownsRow base e size v n xs) (hc : cb < base) (ha : ∀ b off, a = some ⟨b, off, none⟩ → 0 < zs.length → b < base) (hg : w.grownBy w1 v.ownBlock) : Cur w1 cb a len cap zs := by
  refine curGrownI h hg (fun e => ?_) (fun b off e1 e2 e => ?_)
  · have := (hr.lt cb e).1; omega
  · have := (hr.lt b e).1; have := ha b off e1 e2; omega
end Go.Proofs.YtnhefbhiemdhoaaGreat

/- The walk of the model's l1Bend: a text, bent at most twice, is some text of at most two signs more. -/
namespace Go.Proofs.YtnhefbhiemdhoaaGreat
open Go.RowKit Go.Proofs.YtnhefbhiemdhoaaGreat.RM

theorem vB_one (bs : List UInt8) : ∀ u ∈ vB bs, u.oneCell' = true := by
  intro u hu
  unfold vB at hu
  rw [List.mem_map] at hu
  obtain ⟨b, _, rfl⟩ := hu
  rfl
theorem vB_app (a b : List UInt8) : vB (a ++ b) = vB a ++ vB b := by simp [vB]
/-- what is cut of the bytes, as an append reads it -/
theorem RdB.news {W : World} {B n c : Nat} {g : Nat} {bs : List UInt8} (h : RdB W B (.slice (some ⟨g, 0, none⟩) n c) bs) (k m : Nat) (off : Nat) (hoff : off = k ∨ bs.drop k = []) (ps : List UInt8) (hps : ps = (bs.drop k).take m) : ∀ j u, (vB ps)[j]? = some u → W.cell? ((⟨g, off, none⟩ : Addr).add j) = some u := by
  intro j u hu
  obtain ⟨a, c', h1, h2, h3, h4⟩ := h
  injection h1 with e1 e2 e3
  subst e1
  have hj : j < ps.length := by
    have := (List.getElem?_eq_some_iff.1 hu).1
    rwa [vB_len] at this
  rw [vB_at ps j hj] at hu
  rw [hps, List.length_take, List.length_drop] at hj
  obtain ⟨g', k1, k2, k3⟩ := h4 (by intro e; rw [e] at hj; simp at hj)
  cases k1
  have hoff' : off = k := by
    rcases hoff with h | h
    · exact h
    · have : (bs.drop k).length = 0 := by rw [h]; rfl
      rw [List.length_drop] at this
      omega
  subst hoff'
  have e : (⟨g, off, none⟩ : Addr).add j = ⟨g, off + j, none⟩ := by by_cases i0 : j = 0 <;> simp [Addr.add, i0]
  rw [e, (k3 (off + j) (by omega)).1, ← hu, hps, List.getElem?_take, if_pos (by omega), List.getElem?_drop]

theorem RdB.at_ {W : World} {B n c k : Nat} {g : Nat} {bs : List UInt8} (h : RdB W B (.slice (some ⟨g, 0, none⟩) n c) bs) (hk : k < bs.length) : W.cell? ⟨g, k, none⟩ = some (.int .u8 ((bs[k]?.getD 0).toNat : Int)) ∧ W.frozen? ⟨g, k, none⟩ = false := by
  obtain ⟨a, c', h1, h2, h3, h4⟩ := h
  injection h1 with e1 e2 e3
  subst e1
  obtain ⟨g', k1, k2, k3⟩ := h4 (by intro e; rw [e] at hk; exact absurd hk (Nat.not_lt_zero _))
  cases k1
  exact k3 k hk

theorem ba_mem (s : ByteArray) (j : Nat) (h : j < s.size) : s[j] ∈ s.data.toList := by
  have h2 : j < s.data.toList.length := by rw [Array.length_toList]; exact h
  show s.data.toList[j]'h2 ∈ _
  exact List.getElem_mem h2
theorem mem_setP {P : UInt8 → Prop} {bs : List UInt8} {k : Nat} {x : UInt8} (h : ∀ b ∈ bs, P b) (hx : P x) : ∀ b ∈ bs.set k x, P b := fun b hb => by
  rcases List.mem_or_eq_of_mem_set hb with h2 | h2
  · exact h b h2
  · rw [h2]; exact hx
theorem mem_takeP {P : UInt8 → Prop} {bs : List UInt8} (h : ∀ b ∈ bs, P b) (k : Nat) : ∀ b ∈ bs.take k, P b := fun b hb => h b (List.mem_of_mem_take hb)
theorem mem_dropP {P : UInt8 → Prop} {bs : List UInt8} (h : ∀ b ∈ bs, P b) (k : Nat) : ∀ b ∈ bs.drop k, P b := fun b hb => h b (List.mem_of_mem_drop hb)
theorem mem_appP {P : UInt8 → Prop} {x y : List UInt8} (h : ∀ b ∈ x, P b) (h2 : ∀ b ∈ y, P b) : ∀ b ∈ x ++ y, P b := fun b hb => (List.mem_append.1 hb).elim (h b) (h2 b)
theorem mem_oneP {P : UInt8 → Prop} {x : UInt8} (h : P x) : ∀ b ∈ [x], P b := fun b hb => by rw [List.mem_singleton.1 hb]; exact h

set_option maxRecDepth 100000 in
set_option maxHeartbeats 4000000 in
theorem bendX_any (cb : Nat) (a : Option Addr) (len cap : Nat) (zs : List Int) (s sg : ByteArray) (w : World) (hc : Cur w cb a len cap zs) (hs : s.size ≤ 100000) (hsg0 : 0 < sg.size) (hsg1 : sg.size ≤ 200) :
    Calls Tryz.prog 52 #[.pointer (some ⟨cb, 0, none⟩), .string s, .string sg] w fun e w' => ∃ t : List UInt8, e = .returned (.string ⟨t.toArray⟩) ∧ t.length ≤ s.size + 2 ∧ (∀ b ∈ t, b ∈ s.data.toList ∨ b ∈ sg.data.toList) ∧ Cur w' cb a len cap zs ∧ Ex cb w w' := by
  obtain ⟨i0, hi, hz0, hz1, hz2⟩ := info_parts infoU8
  have b0 : ∀ (u : World) (o : Obj), Below u.heap.size u (u.alloc o) := fun u o => (Below.refl _ _).alloc (Nat.le_refl _) o
  have hlt := hc.lt
  have HROW : Hid (∀ b off, a = some ⟨b, off, none⟩ → 0 < zs.length → b < w.heap.size) := fun b off e hz => hc.2.1.lt b off e hz
  have hcv := run_bytes_of_string (P := Tryz.prog) w 9 22 5 s Tryz.underlying9 Tryz.underlying22 Tryz.underlying5
  obtain ⟨c0, hc0⟩ : ∃ c, c = grownCap w s.size 0 5 := ⟨_, rfl⟩
  have hge : s.size ≤ c0 := by rw [hc0]; exact grownCap_ge _ _ _ _
  have hle : c0 ≤ maxLen := by rw [hc0]; exact grownCap_le_maxLen _ _ _ _ (by unfold maxLen; omega)
  rw [← hc0] at hcv
  obtain ⟨X, hX⟩ : ∃ X, X = w.drew.alloc (.cells (bytesRow s c0) 5 ((bytesRow s c0).size, (bytesRow s c0).size + 1)) := ⟨_, rfl⟩
  have R0 : Hid (RdB X w.heap.size (.slice (some ⟨w.heap.size, 0, none⟩) s.data.toList.length c0) s.data.toList) := by
    have hl : s.data.toList.length = s.size := by rw [Array.length_toList]; rfl
    show RdB _ _ _ _
    rw [hX, hl]
    exact RdB.of w s c0 hge hle
  have hsl : s.data.toList.length = s.size := by rw [Array.length_toList]; rfl
  have C0 : Hid (Cur X cb a len cap zs) := by show Cur _ _ _ _ _ _; rw [hX]; exact hc.below (((Below.refl _ _).drew).alloc (Nat.le_refl _) _)
  have E0 : Hid (Ex cb w X) := by show Ex _ _ _; rw [hX]; exact (Ex.refl cb w).drew.alloc _
  rw [← hX] at hcv
  obtain ⟨bs0, hbs0⟩ : ∃ l, l = s.data.toList := ⟨_, rfl⟩
  rw [← hbs0] at R0 hsl
  rw [← hsl] at hcv
  obtain ⟨G, hG⟩ : ∃ G, G = w.heap.size := ⟨_, rfl⟩
  rw [← hG] at hcv
  have HSL := hidB hsl
  have hsl2 : bs0.length ≤ 100000 := by omega
  have R0' : Hid (RdB X w.heap.size (.slice (some ⟨G, 0, none⟩) bs0.length c0) bs0) := by show RdB _ _ _ _; rw [hG]; exact R0.out
  have HB0 := hidB hbs0
  clear hc hX hc0 hbs0 hge hle hG R0 hsl
  go_enter Tryz.func52, Tryz.ntmps52
  go_wp2_with fail
  refine (below_any cb _ a len cap zs _ C0.out (by omega)).mono ?_
  rintro e w1 ⟨m0, rfl, hm0, hm1, hC', hE⟩
  have R1 := hidB (R0'.out.ex hE hlt)
  have C1 := hidB hC'
  have E1 := hidB (E0.out.trans hE)
  clear hC' hE R0' C0 E0 hcv
  go_wp2
  go_loopw [7, 8] (fun b n wr => ∃ (bs : List UInt8) (m : Int), n = .int .i64 m ∧ m ≤ 2 ∧ 0 ≤ m ∧ (bs.length : Int) + m ≤ bs0.length + 2 ∧ Hid (RdB wr w.heap.size b bs) ∧ Hid (Cur wr cb a len cap zs) ∧ Hid (Ex cb w wr) ∧ Hid (∀ b ∈ bs, b ∈ bs0 ∨ b ∈ sg.data.toList)) (fun _ n _ => (intOf n).toNat)
  case atStart => exact ⟨bs0, m0, rfl, by omega, by omega, by omega, R1.out, C1.out, E1.out, fun b hb => .inl hb⟩
  case round =>
    clear R1 C1 E1 hm0 hm1
    obtain ⟨bs, m, rfl, hm2, hm0, hbl, hR, hC, hE, HM⟩ := hrel
    have done : ∀ v, RdB wr w.heap.size v bs → ∃ a c, v = .slice a bs.length c ∧ (convert 22 9 (.slice a bs.length c)).run Tryz.prog wr = .ok (.string ⟨bs.toArray⟩) wr := by
      intro v hv
      obtain ⟨a', c', h1, -⟩ := id hv
      subst h1
      exact ⟨a', c', rfl, hv.back⟩
    obtain ⟨ba, c, rfl, hback⟩ := done _ hR.out
    clear done
    by_cases hmp : 0 < m
    · by_cases hne : bs = []
      · subst hne
        have hn0 : (([] : List UInt8).length : Int) = 0 := rfl
        simp only [List.length_nil] at hback hbl ⊢
        go_wp2
        go_ret
        exact ⟨[], rfl, Nat.zero_le _, (fun b hb => by cases hb), hC.out, hE.out⟩
      · have hn : 0 < bs.length := List.length_pos_iff.2 hne
        have hni : (0 : Int) < (bs.length : Int) := by omega
        obtain ⟨ba', c', e1, hcap, hcm, hfacts⟩ := id hR.out
        injection e1 with e1 e2 e3
        subst e1 e3
        obtain ⟨g, rfl, hgw, hcell⟩ := hfacts hne
        have HCELL := hidB hcell
        clear hback hcell hfacts e2
        unfold maxLen at hcm
        go_wp2_with fail
        refine (below_any cb _ a len cap zs _ hC.out (by omega)).mono ?_
        rintro e w1 ⟨x1, rfl, hk0, hk1, hC', hE'⟩
        obtain ⟨k, rfl⟩ : ∃ j : Nat, x1 = j := ⟨x1.toNat, by omega⟩
        have hk : k < bs.length := by omega
        replace hR := hidB (hR.out.ex hE' hlt)
        replace hC := hidB hC'
        replace hE := hidB (hE.out.trans hE')
        clear hC' hE'
        go_wp2_with fail
        refine (below_any cb _ a len cap zs _ hC.out (by omega)).mono ?_
        rintro e w2 ⟨x2, rfl, hx0, hx1, hC', hE'⟩
        replace hR := hidB (hR.out.ex hE' hlt)
        replace hC := hidB hC'
        replace hE := hidB (hE.out.trans hE')
        have hSw := hE.out.size
        clear hC' hE'
        have hx : x2 = 0 ∨ x2 = 1 ∨ x2 = 2 ∨ x2 = 3 := by omega
        clear hx0 hx1 HCELL
        rcases hx with rfl | rfl | rfl | rfl
        · go_wp2_with fail
          refine (below_any cb _ a len cap zs _ hC.out (by omega)).mono ?_
          rintro e w3 ⟨x3, rfl, hy0, hy1, hC', hE'⟩
          obtain ⟨j2, rfl⟩ : ∃ j : Nat, x3 = j := ⟨x3.toNat, by omega⟩
          have hj2 : j2 < sg.size := by omega
          replace hR := hidB (hR.out.ex hE' hlt)
          replace hC := hidB hC'
          replace hE := hidB (hE.out.trans hE')
          clear hC' hE'
          obtain ⟨d1, d2⟩ := hR.out.at_ hk
          have RP := hidB (hR.out.put hk sg[j2])
          have CP := hidB (curSetI (u := .int .u8 (sg[j2].toNat : Int)) (o := k) hC.out (show cb ≠ g by omega) (fun b off e1 e2 => by have := HROW.out b off e1 e2; omega))
          have EP := hidB (hE.out.setCell (b := g) (o := k) (.inr hgw) (.int .u8 (sg[j2].toNat : Int)))
          go_wp2
          go_roundw
          case rel => exact ⟨bs.set k sg[j2], m - 1, by go_num, by omega, by omega, by rw [List.length_set]; omega, RP.out, CP.out, EP.out, mem_setP HM.out (.inr (ba_mem sg j2 hj2))⟩
          case measure => simp [intOf]; omega
        · have RC := hidB (hR.out.cut (k := k) (by omega))
          go_wp2
          go_roundw
          case rel => exact ⟨bs.take k, m - 1, by go_num, by omega, by omega, by rw [List.length_take]; omega, RC.out, hC.out, hE.out, mem_takeP HM.out k⟩
          case measure => simp [intOf]; omega
        · obtain ⟨Sz, hSz⟩ : ∃ S, S = w2.heap.size := ⟨_, rfl⟩
          have hcS : cb < Sz := by omega
          have HROWS : Hid (∀ b off, a = some ⟨b, off, none⟩ → 0 < zs.length → b < Sz) := fun b off e1 e2 => by have := HROW.out b off e1 e2; omega
          have HS2 : Hid (w2.heap.size ≤ Sz) := by show _ ≤ _; omega
          have L0 : Hid ((w2.drew.alloc (.cells #[] 5)).ownsRow Sz 5 1 (.slice (some ⟨w2.heap.size, 0, none⟩) 0 0) 0 []) := by
            show World.ownsRow _ _ _ _ _ _ _
            have := World.ownsRow_lit w2.drew (base := Sz) (e := 5) (size := 1) #[] 0 (by simp; omega) (Nat.zero_le _) rfl
            simpa using this
          have E1 := hidB ((Ex.refl cb w2).drew.alloc (.cells #[] 5))
          have C1 := hidB (hC.out.below (((Below.refl _ _).drew).alloc (Nat.le_refl _) (.cells #[] 5)))
          have N1 : Hid (∀ j u, (vB (bs.take k))[j]? = some u → (w2.drew.alloc (.cells #[] 5)).cell? ((⟨g, 0, none⟩ : Addr).add j) = some u) := (hR.out.ex E1.out hlt).news 0 k 0 (.inl rfl) _ (by simp)
          have HZ : Hid (Sz ≤ (w2.drew.alloc (.cells #[] 5)).heap.size) := by show _ ≤ _; simp; omega
          have HSZ := hidB hSz
          clear hSz
          have hwk : IntKind.i64.wrap ((k : Int) + 1) = ((k + 1 : Nat) : Int) := by rw [IntWalk.i64_in _ ⟨by omega, by omega⟩]; rfl
          by_cases hck : c ≤ k + 1
          · have hd : bs.drop (k + 1) = [] := by apply List.drop_of_length_le; omega
            have N2 : Hid (∀ W, Ex cb w2 W → ∀ j u, (vB (bs.drop (k + 1)))[j]? = some u → W.cell? ((⟨g, 0, none⟩ : Addr).add j) = some u) := fun W hW => (hR.out.ex hW hlt).news (k + 1) bs.length 0 (.inr hd) _ (by rw [List.take_of_length_le (by rw [List.length_drop]; omega)])
            clear hd
            go_upto_region 12 with fail
            refine wp_region_noPanic ?_
            refine wp_region_held_drew (S := fun _ => True) (by kernel_rfl) trivial (fun hHeld => ?_)
            refine wpAnyH_take (i := 1) (v := ?_) rfl (by kernel_rfl) (by kernel_rfl) (by kernel_rfl) (fun _ _ _ h => h) (Or.inl ⟨by kernel_rfl, ?_⟩) hHeld ?_
            rotate_left
            · intro wz hSw; (try dsimp only at hSw); go_simp; all_goals (try with_reducible rfl)
            (try simp only [List.getElem_toArray]); (try simp only [List.getElem_cons_succ]); (try simp only [List.getElem_cons_zero]); (try simp only [Act.put]); (try simp only [List.setIfInBounds_toArray]); (try simp only [List.set_cons_succ]); (try simp only [List.set_cons_zero])
            refine wpAnyH_take (i := 2) (v := ?_) rfl (by kernel_rfl) (by kernel_rfl) (by kernel_rfl) (fun _ _ _ h => h) (Or.inl ⟨by kernel_rfl, ?_⟩) hHeld ?_
            rotate_left
            · intro wz hSw; (try dsimp only at hSw); go_simp; all_goals (try with_reducible rfl)
            (try simp only [List.getElem_toArray]); (try simp only [List.getElem_cons_succ]); (try simp only [List.getElem_cons_zero]); (try simp only [Act.put]); (try simp only [List.setIfInBounds_toArray]); (try simp only [List.set_cons_succ]); (try simp only [List.set_cons_zero])
            refine wpAnyH_take (i := 3) (v := (.slice (some ⟨g, 0, none⟩) k c)) rfl (by kernel_rfl) (by kernel_rfl) (by kernel_rfl) (fun _ _ _ h => h) (Or.inl ⟨by kernel_rfl, ?_⟩) hHeld ?_
            skip
            · intro wz hSw; (try dsimp only at hSw); go_simp; all_goals (try with_reducible rfl); all_goals (first | (intro hh; omega) | (repeat (first | rw [if_pos (by omega)] | rw [if_neg (by omega)])))
            (try simp only [List.getElem_toArray]); (try simp only [List.getElem_cons_succ]); (try simp only [List.getElem_cons_zero]); (try simp only [Act.put]); (try simp only [List.setIfInBounds_toArray]); (try simp only [List.set_cons_succ]); (try simp only [List.set_cons_zero])
            refine wpAnyH_take (i := 5) (v := ?_) rfl (by kernel_rfl) (by kernel_rfl) (by kernel_rfl) (fun _ _ _ h => h) (Or.inl ⟨by kernel_rfl, ?_⟩) hHeld ?_
            rotate_left
            · intro wz hSw; (try dsimp only at hSw); go_simp; all_goals (try with_reducible rfl)
            (try simp only [List.getElem_toArray]); (try simp only [List.getElem_cons_succ]); (try simp only [List.getElem_cons_zero]); (try simp only [Act.put]); (try simp only [List.setIfInBounds_toArray]); (try simp only [List.set_cons_succ]); (try simp only [List.set_cons_zero])
            refine wpAnyH_take (i := 6) (v := ?_) rfl (by kernel_rfl) (by kernel_rfl) (by kernel_rfl) (fun _ _ _ h => h) (Or.inl ⟨by kernel_rfl, ?_⟩) hHeld ?_
            rotate_left
            · intro wz hSw; (try dsimp only at hSw); go_simp; all_goals (try with_reducible rfl)
            (try simp only [List.getElem_toArray]); (try simp only [List.getElem_cons_succ]); (try simp only [List.getElem_cons_zero]); (try simp only [Act.put]); (try simp only [List.setIfInBounds_toArray]); (try simp only [List.set_cons_succ]); (try simp only [List.set_cons_zero])
            refine wpAnyH_take (i := 7) (v := (.int .i64 ((k + 1 : Nat) : Int))) rfl (by kernel_rfl) (by kernel_rfl) (by kernel_rfl) (fun _ _ _ h => h) (Or.inl ⟨by kernel_rfl, ?_⟩) hHeld ?_
            skip
            · intro wz hSw; (try dsimp only at hSw); go_simp; all_goals (try with_reducible rfl); all_goals (first | rw [hwk] | rfl)
            (try simp only [List.getElem_toArray]); (try simp only [List.getElem_cons_succ]); (try simp only [List.getElem_cons_zero]); (try simp only [Act.put]); (try simp only [List.setIfInBounds_toArray]); (try simp only [List.set_cons_succ]); (try simp only [List.set_cons_zero])
            refine wpAnyH_take (i := 8) (v := (.slice (some ⟨g, 0, none⟩) (bs.length - (k + 1)) (c - (k + 1)))) rfl (by kernel_rfl) (by kernel_rfl) (by kernel_rfl) (fun _ _ _ h => h) (Or.inl ⟨by kernel_rfl, ?_⟩) hHeld ?_
            skip
            · intro wz hSw; (try dsimp only at hSw); go_simp; all_goals (try with_reducible rfl); all_goals (first | (intro hh; omega) | (repeat (first | rw [if_pos (by omega)] | rw [if_neg (by omega)])))
            (try simp only [List.getElem_toArray]); (try simp only [List.getElem_cons_succ]); (try simp only [List.getElem_cons_zero]); (try simp only [Act.put]); (try simp only [List.setIfInBounds_toArray]); (try simp only [List.set_cons_succ]); (try simp only [List.set_cons_zero])
            refine wpAnyH_ready (rs := [0]) (by kernel_rfl) (by simp) (AllReadyH.cons rfl (fun Kc hKc => ?_) AllReadyH.nil)
            go_simp
            refine hKc.out _ _ trivial (fun hHeld => ?_)
            clear hKc Kc
            (try simp only [List.getElem_toArray]); (try simp only [List.getElem_cons_succ]); (try simp only [List.getElem_cons_zero]); (try simp only [Act.put]); (try simp only [List.setIfInBounds_toArray]); (try simp only [List.set_cons_succ]); (try simp only [List.set_cons_zero])
            refine wpAnyH_ready (rs := [4]) (by kernel_rfl) (by simp) (AllReadyH.cons rfl (fun Kc hKc => ?_) AllReadyH.nil)
            refine step_append_own rfl (.tmp 47) (.tmp 50) 22 rfl Sz 5 i0 (.int .u8 0) 1 1 Tryz.underlying22 hi hz0 hz1 hz2 rfl (by decide) (.slice (some ⟨w2.heap.size, 0, none⟩) 0 0) 0 [] (by simp [Act.eval]) L0.out ⟨g, 0, none⟩ k c (vB (bs.take k)) (by simp [Act.eval]) (by rw [vB_len, List.length_take]; omega) N1.out (vB_one _) (by unfold maxLen; omega) (by omega) HZ.out ?_
            intro v3 w3 hown3 hg3
            have O3 := hidB hown3
            have E3 := hidB (exGrowI E1.out L0.out HS2.out hg3)
            have C3 := hidB (curOwnI C1.out L0.out hcS HROWS.out hg3)
            clear hown3 hg3
            refine hKc.out _ _ trivial (fun hHeld => ?_)
            clear hKc Kc
            (try simp only [List.getElem_toArray]); (try simp only [List.getElem_cons_succ]); (try simp only [List.getElem_cons_zero]); (try simp only [Act.put]); (try simp only [List.setIfInBounds_toArray]); (try simp only [List.set_cons_succ]); (try simp only [List.set_cons_zero])
            have N3 := hidB (N2.out w3 E3.out)
            have HZ3 : Hid (Sz ≤ w3.heap.size) := by show _ ≤ _; have := E3.out.size; have := HSZ.out; omega
            refine wpAnyH_ready (rs := [9]) (by kernel_rfl) (by simp) (AllReadyH.cons rfl (fun Kc hKc => ?_) AllReadyH.nil)
            refine step_append_own rfl (.tmp 51) (.tmp 55) 22 rfl Sz 5 i0 (.int .u8 0) 1 1 Tryz.underlying22 hi hz0 hz1 hz2 rfl (by decide) v3 (0 + k) _ (by simp [Act.eval]) O3.out ⟨g, 0, none⟩ (bs.length - (k + 1)) (c - (k + 1)) (vB (bs.drop (k + 1))) (by first | (simp [Act.eval]; done) | (simp [Act.eval]; omega)) (by rw [vB_len, List.length_drop]; omega) N3.out (vB_one _) (by unfold maxLen; omega) (by omega) HZ3.out ?_
            intro v4 w4 hown4 hg4
            have O4 := hidB hown4
            have E4 := hidB (exGrowI E3.out O3.out HS2.out hg4)
            have C4 := hidB (curOwnI C3.out O3.out hcS HROWS.out hg4)
            clear hown4 hg4
            refine hKc.out _ _ trivial (fun hHeld => ?_)
            clear hKc Kc
            (try simp only [List.getElem_toArray]); (try simp only [List.getElem_cons_succ]); (try simp only [List.getElem_cons_zero]); (try simp only [Act.put]); (try simp only [List.setIfInBounds_toArray]); (try simp only [List.set_cons_succ]); (try simp only [List.set_cons_zero])
            refine wpAnyH_take (i := 10) (v := ?_) rfl (by kernel_rfl) (by kernel_rfl) (by kernel_rfl) (fun _ _ _ h => h) (Or.inl ⟨by kernel_rfl, ?_⟩) hHeld ?_
            rotate_left
            · intro wz hSw; (try dsimp only at hSw); go_simp; all_goals (try with_reducible rfl)
            (try simp only [List.getElem_toArray]); (try simp only [List.getElem_cons_succ]); (try simp only [List.getElem_cons_zero]); (try simp only [Act.put]); (try simp only [List.setIfInBounds_toArray]); (try simp only [List.set_cons_succ]); (try simp only [List.set_cons_zero])
            refine wpAnyH_done (by kernel_rfl) ?_ _
            refine NoPanic.normal ?_
            go_wp2
            go_roundw
            case rel => exact ⟨bs.take k ++ bs.drop (k + 1), m - 1, by go_num, by omega, by omega, by rw [List.length_append, List.length_take, List.length_drop]; omega, RdB.own (n := 0 + k + (bs.length - (k + 1))) (by rw [vB_app]; exact O4.out) (by have := HSZ.out; omega), C4.out, hE.out.trans E4.out, mem_appP (mem_takeP HM.out k) (mem_dropP HM.out (k + 1))⟩
            case measure => simp [intOf]; omega
          · have N2 : Hid (∀ W, Ex cb w2 W → ∀ j u, (vB (bs.drop (k + 1)))[j]? = some u → W.cell? ((⟨g, k + 1, none⟩ : Addr).add j) = some u) := fun W hW => (hR.out.ex hW hlt).news (k + 1) bs.length (k + 1) (.inl rfl) _ (by rw [List.take_of_length_le (by rw [List.length_drop]; omega)])
            go_upto_region 12 with fail
            refine wp_region_noPanic ?_
            refine wp_region_held_drew (S := fun _ => True) (by kernel_rfl) trivial (fun hHeld => ?_)
            refine wpAnyH_take (i := 1) (v := ?_) rfl (by kernel_rfl) (by kernel_rfl) (by kernel_rfl) (fun _ _ _ h => h) (Or.inl ⟨by kernel_rfl, ?_⟩) hHeld ?_
            rotate_left
            · intro wz hSw; (try dsimp only at hSw); go_simp; all_goals (try with_reducible rfl)
            (try simp only [List.getElem_toArray]); (try simp only [List.getElem_cons_succ]); (try simp only [List.getElem_cons_zero]); (try simp only [Act.put]); (try simp only [List.setIfInBounds_toArray]); (try simp only [List.set_cons_succ]); (try simp only [List.set_cons_zero])
            refine wpAnyH_take (i := 2) (v := ?_) rfl (by kernel_rfl) (by kernel_rfl) (by kernel_rfl) (fun _ _ _ h => h) (Or.inl ⟨by kernel_rfl, ?_⟩) hHeld ?_
            rotate_left
            · intro wz hSw; (try dsimp only at hSw); go_simp; all_goals (try with_reducible rfl)
            (try simp only [List.getElem_toArray]); (try simp only [List.getElem_cons_succ]); (try simp only [List.getElem_cons_zero]); (try simp only [Act.put]); (try simp only [List.setIfInBounds_toArray]); (try simp only [List.set_cons_succ]); (try simp only [List.set_cons_zero])
            refine wpAnyH_take (i := 3) (v := (.slice (some ⟨g, 0, none⟩) k c)) rfl (by kernel_rfl) (by kernel_rfl) (by kernel_rfl) (fun _ _ _ h => h) (Or.inl ⟨by kernel_rfl, ?_⟩) hHeld ?_
            skip
            · intro wz hSw; (try dsimp only at hSw); go_simp; all_goals (try with_reducible rfl); all_goals (first | (intro hh; omega) | (repeat (first | rw [if_pos (by omega)] | rw [if_neg (by omega)])))
            (try simp only [List.getElem_toArray]); (try simp only [List.getElem_cons_succ]); (try simp only [List.getElem_cons_zero]); (try simp only [Act.put]); (try simp only [List.setIfInBounds_toArray]); (try simp only [List.set_cons_succ]); (try simp only [List.set_cons_zero])
            refine wpAnyH_take (i := 5) (v := ?_) rfl (by kernel_rfl) (by kernel_rfl) (by kernel_rfl) (fun _ _ _ h => h) (Or.inl ⟨by kernel_rfl, ?_⟩) hHeld ?_
            rotate_left
            · intro wz hSw; (try dsimp only at hSw); go_simp; all_goals (try with_reducible rfl)
            (try simp only [List.getElem_toArray]); (try simp only [List.getElem_cons_succ]); (try simp only [List.getElem_cons_zero]); (try simp only [Act.put]); (try simp only [List.setIfInBounds_toArray]); (try simp only [List.set_cons_succ]); (try simp only [List.set_cons_zero])
            refine wpAnyH_take (i := 6) (v := ?_) rfl (by kernel_rfl) (by kernel_rfl) (by kernel_rfl) (fun _ _ _ h => h) (Or.inl ⟨by kernel_rfl, ?_⟩) hHeld ?_
            rotate_left
            · intro wz hSw; (try dsimp only at hSw); go_simp; all_goals (try with_reducible rfl)
            (try simp only [List.getElem_toArray]); (try simp only [List.getElem_cons_succ]); (try simp only [List.getElem_cons_zero]); (try simp only [Act.put]); (try simp only [List.setIfInBounds_toArray]); (try simp only [List.set_cons_succ]); (try simp only [List.set_cons_zero])
            refine wpAnyH_take (i := 7) (v := (.int .i64 ((k + 1 : Nat) : Int))) rfl (by kernel_rfl) (by kernel_rfl) (by kernel_rfl) (fun _ _ _ h => h) (Or.inl ⟨by kernel_rfl, ?_⟩) hHeld ?_
            skip
            · intro wz hSw; (try dsimp only at hSw); go_simp; all_goals (try with_reducible rfl); all_goals (first | rw [hwk] | rfl)
            (try simp only [List.getElem_toArray]); (try simp only [List.getElem_cons_succ]); (try simp only [List.getElem_cons_zero]); (try simp only [Act.put]); (try simp only [List.setIfInBounds_toArray]); (try simp only [List.set_cons_succ]); (try simp only [List.set_cons_zero])
            refine wpAnyH_take (i := 8) (v := (.slice (some ⟨g, k + 1, none⟩) (bs.length - (k + 1)) (c - (k + 1)))) rfl (by kernel_rfl) (by kernel_rfl) (by kernel_rfl) (fun _ _ _ h => h) (Or.inl ⟨by kernel_rfl, ?_⟩) hHeld ?_
            skip
            · intro wz hSw; (try dsimp only at hSw); go_simp; all_goals (try with_reducible rfl); all_goals (first | (intro hh; omega) | (repeat (first | rw [if_pos (by omega)] | rw [if_neg (by omega)])))
            (try simp only [List.getElem_toArray]); (try simp only [List.getElem_cons_succ]); (try simp only [List.getElem_cons_zero]); (try simp only [Act.put]); (try simp only [List.setIfInBounds_toArray]); (try simp only [List.set_cons_succ]); (try simp only [List.set_cons_zero])
            refine wpAnyH_ready (rs := [0]) (by kernel_rfl) (by simp) (AllReadyH.cons rfl (fun Kc hKc => ?_) AllReadyH.nil)
            go_simp
            refine hKc.out _ _ trivial (fun hHeld => ?_)
            clear hKc Kc
            (try simp only [List.getElem_toArray]); (try simp only [List.getElem_cons_succ]); (try simp only [List.getElem_cons_zero]); (try simp only [Act.put]); (try simp only [List.setIfInBounds_toArray]); (try simp only [List.set_cons_succ]); (try simp only [List.set_cons_zero])
            refine wpAnyH_ready (rs := [4]) (by kernel_rfl) (by simp) (AllReadyH.cons rfl (fun Kc hKc => ?_) AllReadyH.nil)
            refine step_append_own rfl (.tmp 47) (.tmp 50) 22 rfl Sz 5 i0 (.int .u8 0) 1 1 Tryz.underlying22 hi hz0 hz1 hz2 rfl (by decide) (.slice (some ⟨w2.heap.size, 0, none⟩) 0 0) 0 [] (by simp [Act.eval]) L0.out ⟨g, 0, none⟩ k c (vB (bs.take k)) (by simp [Act.eval]) (by rw [vB_len, List.length_take]; omega) N1.out (vB_one _) (by unfold maxLen; omega) (by omega) HZ.out ?_
            intro v3 w3 hown3 hg3
            have O3 := hidB hown3
            have E3 := hidB (exGrowI E1.out L0.out HS2.out hg3)
            have C3 := hidB (curOwnI C1.out L0.out hcS HROWS.out hg3)
            clear hown3 hg3
            refine hKc.out _ _ trivial (fun hHeld => ?_)
            clear hKc Kc
            (try simp only [List.getElem_toArray]); (try simp only [List.getElem_cons_succ]); (try simp only [List.getElem_cons_zero]); (try simp only [Act.put]); (try simp only [List.setIfInBounds_toArray]); (try simp only [List.set_cons_succ]); (try simp only [List.set_cons_zero])
            have N3 := hidB (N2.out w3 E3.out)
            have HZ3 : Hid (Sz ≤ w3.heap.size) := by show _ ≤ _; have := E3.out.size; have := HSZ.out; omega
            refine wpAnyH_ready (rs := [9]) (by kernel_rfl) (by simp) (AllReadyH.cons rfl (fun Kc hKc => ?_) AllReadyH.nil)
            refine step_append_own rfl (.tmp 51) (.tmp 55) 22 rfl Sz 5 i0 (.int .u8 0) 1 1 Tryz.underlying22 hi hz0 hz1 hz2 rfl (by decide) v3 (0 + k) _ (by simp [Act.eval]) O3.out ⟨g, k + 1, none⟩ (bs.length - (k + 1)) (c - (k + 1)) (vB (bs.drop (k + 1))) (by first | (simp [Act.eval]; done) | (simp [Act.eval]; omega)) (by rw [vB_len, List.length_drop]; omega) N3.out (vB_one _) (by unfold maxLen; omega) (by omega) HZ3.out ?_
            intro v4 w4 hown4 hg4
            have O4 := hidB hown4
            have E4 := hidB (exGrowI E3.out O3.out HS2.out hg4)
            have C4 := hidB (curOwnI C3.out O3.out hcS HROWS.out hg4)
            clear hown4 hg4
            refine hKc.out _ _ trivial (fun hHeld => ?_)
            clear hKc Kc
            (try simp only [List.getElem_toArray]); (try simp only [List.getElem_cons_succ]); (try simp only [List.getElem_cons_zero]); (try simp only [Act.put]); (try simp only [List.setIfInBounds_toArray]); (try simp only [List.set_cons_succ]); (try simp only [List.set_cons_zero])
            refine wpAnyH_take (i := 10) (v := ?_) rfl (by kernel_rfl) (by kernel_rfl) (by kernel_rfl) (fun _ _ _ h => h) (Or.inl ⟨by kernel_rfl, ?_⟩) hHeld ?_
            rotate_left
            · intro wz hSw; (try dsimp only at hSw); go_simp; all_goals (try with_reducible rfl)
            (try simp only [List.getElem_toArray]); (try simp only [List.getElem_cons_succ]); (try simp only [List.getElem_cons_zero]); (try simp only [Act.put]); (try simp only [List.setIfInBounds_toArray]); (try simp only [List.set_cons_succ]); (try simp only [List.set_cons_zero])
            refine wpAnyH_done (by kernel_rfl) ?_ _
            refine NoPanic.normal ?_
            go_wp2
            go_roundw
            case rel => exact ⟨bs.take k ++ bs.drop (k + 1), m - 1, by go_num, by omega, by omega, by rw [List.length_append, List.length_take, List.length_drop]; omega, RdB.own (n := 0 + k + (bs.length - (k + 1))) (by rw [vB_app]; exact O4.out) (by have := HSZ.out; omega), C4.out, hE.out.trans E4.out, mem_appP (mem_takeP HM.out k) (mem_dropP HM.out (k + 1))⟩
            case measure => simp [intOf]; omega
        · obtain ⟨Sz, hSz⟩ : ∃ S, S = w2.heap.size := ⟨_, rfl⟩
          have hcS : cb < Sz := by omega
          have HROWS : Hid (∀ b off, a = some ⟨b, off, none⟩ → 0 < zs.length → b < Sz) := fun b off e1 e2 => by have := HROW.out b off e1 e2; omega
          have HS2 : Hid (w2.heap.size ≤ Sz) := by show _ ≤ _; omega
          have L0 : Hid ((w2.drew.alloc (.cells #[] 5)).ownsRow Sz 5 1 (.slice (some ⟨w2.heap.size, 0, none⟩) 0 0) 0 []) := by
            show World.ownsRow _ _ _ _ _ _ _
            have := World.ownsRow_lit w2.drew (base := Sz) (e := 5) (size := 1) #[] 0 (by simp; omega) (Nat.zero_le _) rfl
            simpa using this
          have E1 := hidB ((Ex.refl cb w2).drew.alloc (.cells #[] 5))
          have C1 := hidB (hC.out.below (((Below.refl _ _).drew).alloc (Nat.le_refl _) (.cells #[] 5)))
          have N1 : Hid (∀ j u, (vB (bs.take k))[j]? = some u → (w2.drew.alloc (.cells #[] 5)).cell? ((⟨g, 0, none⟩ : Addr).add j) = some u) := (hR.out.ex E1.out hlt).news 0 k 0 (.inl rfl) _ (by simp)
          have HZ : Hid (Sz ≤ (w2.drew.alloc (.cells #[] 5)).heap.size) := by show _ ≤ _; simp; omega
          have HSZ := hidB hSz
          clear hSz
          have hwk : IntKind.i64.wrap ((k : Int) + 1) = ((k + 1 : Nat) : Int) := by rw [IntWalk.i64_in _ ⟨by omega, by omega⟩]; rfl
          have N2 : Hid (∀ W, Ex cb w2 W → ∀ j u, (vB (bs.drop k))[j]? = some u → W.cell? ((⟨g, k, none⟩ : Addr).add j) = some u) := fun W hW => (hR.out.ex hW hlt).news k bs.length k (.inl rfl) _ (by rw [List.take_of_length_le (by rw [List.length_drop]; omega)])
          go_upto_region 14 with fail
          refine wp_region_noPanic ?_
          refine wp_region_held_drew (S := fun _ => True) (by kernel_rfl) trivial (fun hHeld => ?_)
          refine wpAnyH_take (i := 1) (v := ?_) rfl (by kernel_rfl) (by kernel_rfl) (by kernel_rfl) (fun _ _ _ h => h) (Or.inl ⟨by kernel_rfl, ?_⟩) hHeld ?_
          rotate_left
          · intro wz hSw; (try dsimp only at hSw); go_simp; all_goals (try with_reducible rfl)
          (try simp only [List.getElem_toArray]); (try simp only [List.getElem_cons_succ]); (try simp only [List.getElem_cons_zero]); (try simp only [Act.put]); (try simp only [List.setIfInBounds_toArray]); (try simp only [List.set_cons_succ]); (try simp only [List.set_cons_zero])
          refine wpAnyH_take (i := 2) (v := ?_) rfl (by kernel_rfl) (by kernel_rfl) (by kernel_rfl) (fun _ _ _ h => h) (Or.inl ⟨by kernel_rfl, ?_⟩) hHeld ?_
          rotate_left
          · intro wz hSw; (try dsimp only at hSw); go_simp; all_goals (try with_reducible rfl)
          (try simp only [List.getElem_toArray]); (try simp only [List.getElem_cons_succ]); (try simp only [List.getElem_cons_zero]); (try simp only [Act.put]); (try simp only [List.setIfInBounds_toArray]); (try simp only [List.set_cons_succ]); (try simp only [List.set_cons_zero])
          refine wpAnyH_take (i := 3) (v := (.slice (some ⟨g, 0, none⟩) k c)) rfl (by kernel_rfl) (by kernel_rfl) (by kernel_rfl) (fun _ _ _ h => h) (Or.inl ⟨by kernel_rfl, ?_⟩) hHeld ?_
          skip
          · intro wz hSw; (try dsimp only at hSw); go_simp; all_goals (try with_reducible rfl); all_goals (first | (intro hh; omega) | (repeat (first | rw [if_pos (by omega)] | rw [if_neg (by omega)])))
          (try simp only [List.getElem_toArray]); (try simp only [List.getElem_cons_succ]); (try simp only [List.getElem_cons_zero]); (try simp only [Act.put]); (try simp only [List.setIfInBounds_toArray]); (try simp only [List.set_cons_succ]); (try simp only [List.set_cons_zero])
          refine wpAnyH_take (i := 5) (v := ?_) rfl (by kernel_rfl) (by kernel_rfl) (by kernel_rfl) (fun _ _ _ h => h) (Or.inl ⟨by kernel_rfl, ?_⟩) hHeld ?_
          rotate_left
          · intro wz hSw; (try dsimp only at hSw); go_simp; all_goals (try with_reducible rfl)
          (try simp only [List.getElem_toArray]); (try simp only [List.getElem_cons_succ]); (try simp only [List.getElem_cons_zero]); (try simp only [Act.put]); (try simp only [List.setIfInBounds_toArray]); (try simp only [List.set_cons_succ]); (try simp only [List.set_cons_zero])
          refine wpAnyH_take (i := 6) (v := ?_) rfl (by kernel_rfl) (by kernel_rfl) (by kernel_rfl) (fun _ _ _ h => h) (Or.inl ⟨by kernel_rfl, ?_⟩) hHeld ?_
          rotate_left
          · intro wz hSw; (try dsimp only at hSw); go_simp; all_goals (try with_reducible rfl)
          (try simp only [List.getElem_toArray]); (try simp only [List.getElem_cons_succ]); (try simp only [List.getElem_cons_zero]); (try simp only [Act.put]); (try simp only [List.setIfInBounds_toArray]); (try simp only [List.set_cons_succ]); (try simp only [List.set_cons_zero])
          refine wpAnyH_take (i := 7) (v := ?_) rfl (by kernel_rfl) (by kernel_rfl) (by kernel_rfl) (fun _ _ _ h => h) (Or.inl ⟨by kernel_rfl, ?_⟩) hHeld ?_
          rotate_left
          · intro wz hSw; (try dsimp only at hSw); go_simp; all_goals (try with_reducible rfl)
          (try simp only [List.getElem_toArray]); (try simp only [List.getElem_cons_succ]); (try simp only [List.getElem_cons_zero]); (try simp only [Act.put]); (try simp only [List.setIfInBounds_toArray]); (try simp only [List.set_cons_succ]); (try simp only [List.set_cons_zero])
          refine wpAnyH_take (i := 8) (v := ?_) rfl (by kernel_rfl) (by kernel_rfl) (by kernel_rfl) (fun _ _ _ h => h) (Or.inl ⟨by kernel_rfl, ?_⟩) hHeld ?_
          rotate_left
          · intro wz hSw; (try dsimp only at hSw); go_simp; all_goals (try with_reducible rfl)
          (try simp only [List.getElem_toArray]); (try simp only [List.getElem_cons_succ]); (try simp only [List.getElem_cons_zero]); (try simp only [Act.put]); (try simp only [List.setIfInBounds_toArray]); (try simp only [List.set_cons_succ]); (try simp only [List.set_cons_zero])
          refine wpAnyH_take (i := 13) (v := ?_) rfl (by kernel_rfl) (by kernel_rfl) (by kernel_rfl) (fun _ _ _ h => h) (Or.inl ⟨by kernel_rfl, ?_⟩) hHeld ?_
          rotate_left
          · intro wz hSw; (try dsimp only at hSw); go_simp; all_goals (try with_reducible rfl)
          (try simp only [List.getElem_toArray]); (try simp only [List.getElem_cons_succ]); (try simp only [List.getElem_cons_zero]); (try simp only [Act.put]); (try simp only [List.setIfInBounds_toArray]); (try simp only [List.set_cons_succ]); (try simp only [List.set_cons_zero])
          refine wpAnyH_take (i := 14) (v := ?_) rfl (by kernel_rfl) (by kernel_rfl) (by kernel_rfl) (fun _ _ _ h => h) (Or.inl ⟨by kernel_rfl, ?_⟩) hHeld ?_
          rotate_left
          · intro wz hSw; (try dsimp only at hSw); go_simp; all_goals (try with_reducible rfl)
          (try simp only [List.getElem_toArray]); (try simp only [List.getElem_cons_succ]); (try simp only [List.getElem_cons_zero]); (try simp only [Act.put]); (try simp only [List.setIfInBounds_toArray]); (try simp only [List.set_cons_succ]); (try simp only [List.set_cons_zero])
          refine wpAnyH_take (i := 15) (v := (.slice (some ⟨g, k, none⟩) (bs.length - k) (c - k))) rfl (by kernel_rfl) (by kernel_rfl) (by kernel_rfl) (fun _ _ _ h => h) (Or.inl ⟨by kernel_rfl, ?_⟩) hHeld ?_
          skip
          · intro wz hSw; (try dsimp only at hSw); go_simp; all_goals (try with_reducible rfl); all_goals (first | (intro hh; omega) | (repeat (first | rw [if_pos (by omega)] | rw [if_neg (by omega)])))
          (try simp only [List.getElem_toArray]); (try simp only [List.getElem_cons_succ]); (try simp only [List.getElem_cons_zero]); (try simp only [Act.put]); (try simp only [List.setIfInBounds_toArray]); (try simp only [List.set_cons_succ]); (try simp only [List.set_cons_zero])
          refine wpAnyH_ready (rs := [0]) (by kernel_rfl) (by simp) (AllReadyH.cons rfl (fun Kc hKc => ?_) AllReadyH.nil)
          go_simp
          refine hKc.out _ _ trivial (fun hHeld => ?_)
          clear hKc Kc
          (try simp only [List.getElem_toArray]); (try simp only [List.getElem_cons_succ]); (try simp only [List.getElem_cons_zero]); (try simp only [Act.put]); (try simp only [List.setIfInBounds_toArray]); (try simp only [List.set_cons_succ]); (try simp only [List.set_cons_zero])
          refine wpAnyH_ready (rs := [4]) (by kernel_rfl) (by simp) (AllReadyH.cons rfl (fun Kc hKc => ?_) AllReadyH.nil)
          refine step_append_own rfl (.tmp 59) (.tmp 62) 22 rfl Sz 5 i0 (.int .u8 0) 1 1 Tryz.underlying22 hi hz0 hz1 hz2 rfl (by decide) (.slice (some ⟨w2.heap.size, 0, none⟩) 0 0) 0 [] (by simp [Act.eval]) L0.out ⟨g, 0, none⟩ k c (vB (bs.take k)) (by simp [Act.eval]) (by rw [vB_len, List.length_take]; omega) N1.out (vB_one _) (by unfold maxLen; omega) (by omega) HZ.out ?_
          intro v3 w3 hown3 hg3
          have O3 := hidB hown3
          have E3 := hidB (exGrowI E1.out L0.out HS2.out hg3)
          have C3 := hidB (curOwnI C1.out L0.out hcS HROWS.out hg3)
          clear hown3 hg3
          refine hKc.out _ _ trivial (fun hHeld => ?_)
          clear hKc Kc
          (try simp only [List.getElem_toArray]); (try simp only [List.getElem_cons_succ]); (try simp only [List.getElem_cons_zero]); (try simp only [Act.put]); (try simp only [List.setIfInBounds_toArray]); (try simp only [List.set_cons_succ]); (try simp only [List.set_cons_zero])
          refine wpAnyH_ready (rs := [9]) (by kernel_rfl) (by simp) (AllReadyH.cons rfl (fun Kc hKc => ?_) AllReadyH.nil)
          go_simp
          (go_at_call 50; refine (below_any cb _ a len cap zs _ C3.out (by omega)).mono ?_)
          rintro e w4 ⟨x3, rfl, hz0', hz1', hC', hE⟩
          obtain ⟨j2, rfl⟩ : ∃ j : Nat, x3 = j := ⟨x3.toNat, by omega⟩
          have hj2 : j2 < sg.size := by omega
          have O4 := hidB (ownExI O3.out hE hcS)
          have C4 := hidB hC'
          have E4 := hidB (E3.out.trans hE)
          clear hC' hE O3 C3 E3
          go_wp2_with fail
          refine hKc.out _ _ trivial (fun hHeld => ?_)
          clear hKc Kc
          (try simp only [List.getElem_toArray]); (try simp only [List.getElem_cons_succ]); (try simp only [List.getElem_cons_zero]); (try simp only [Act.put]); (try simp only [List.setIfInBounds_toArray]); (try simp only [List.set_cons_succ]); (try simp only [List.set_cons_zero])
          refine wpAnyH_take (i := 10) (v := ?_) rfl (by kernel_rfl) (by kernel_rfl) (by kernel_rfl) (fun _ _ _ h => h) (Or.inl ⟨by kernel_rfl, ?_⟩) hHeld ?_
          rotate_left
          · intro wz hSw; (try dsimp only at hSw); go_simp; all_goals (try with_reducible rfl)
          (try simp only [List.getElem_toArray]); (try simp only [List.getElem_cons_succ]); (try simp only [List.getElem_cons_zero]); (try simp only [Act.put]); (try simp only [List.setIfInBounds_toArray]); (try simp only [List.set_cons_succ]); (try simp only [List.set_cons_zero])
          refine wpAnyH_ready (rs := [11]) (by kernel_rfl) (by simp) (AllReadyH.cons rfl (fun Kc hKc => ?_) AllReadyH.nil)
          go_simp
          refine hKc.out _ _ trivial (fun hHeld => ?_)
          clear hKc Kc
          (try simp only [List.getElem_toArray]); (try simp only [List.getElem_cons_succ]); (try simp only [List.getElem_cons_zero]); (try simp only [Act.put]); (try simp only [List.setIfInBounds_toArray]); (try simp only [List.set_cons_succ]); (try simp only [List.set_cons_zero])
          have O5 := hidB (own_below O4.out (b0 w4 (.cells #[.int .u8 (sg[j2].toNat : Int)] 5)))
          have E5 := hidB (E4.out.alloc (.cells #[.int .u8 (sg[j2].toNat : Int)] 5))
          have C5 := hidB (C4.out.below (b0 w4 (.cells #[.int .u8 (sg[j2].toNat : Int)] 5)))
          have HZ5 : Hid (Sz ≤ (w4.alloc (.cells #[.int .u8 (sg[j2].toNat : Int)] 5)).heap.size) := by show _ ≤ _; have := E5.out.size; have := HSZ.out; omega
          refine wpAnyH_ready (rs := [12]) (by kernel_rfl) (by simp) (AllReadyH.cons rfl (fun Kc hKc => ?_) AllReadyH.nil)
          refine step_append_own rfl (.tmp 63) (.tmp 70) 22 rfl Sz 5 i0 (.int .u8 0) 1 1 Tryz.underlying22 hi hz0 hz1 hz2 rfl (by decide) v3 (0 + k) _ (by simp [Act.eval]) O5.out ⟨w4.heap.size, 0, none⟩ 1 1 (vB [sg[j2]]) (by simp [Act.eval]) rfl (fun j u h => cell_one_new w4 _ _ j u h) (vB_one _) (by unfold maxLen; omega) (by omega) HZ5.out ?_
          intro v6 w6 hown6 hg6
          have O6 := hidB hown6
          have E6 := hidB (exGrowI E5.out O5.out HS2.out hg6)
          have C6 := hidB (curOwnI C5.out O5.out hcS HROWS.out hg6)
          clear hown6 hg6 O4 C4 E4 O5 C5
          refine hKc.out _ _ trivial (fun hHeld => ?_)
          clear hKc Kc
          (try simp only [List.getElem_toArray]); (try simp only [List.getElem_cons_succ]); (try simp only [List.getElem_cons_zero]); (try simp only [Act.put]); (try simp only [List.setIfInBounds_toArray]); (try simp only [List.set_cons_succ]); (try simp only [List.set_cons_zero])
          have N3 := hidB (N2.out w6 E6.out)
          have HZ6 : Hid (Sz ≤ w6.heap.size) := by show _ ≤ _; have := E6.out.size; have := HSZ.out; omega
          refine wpAnyH_ready (rs := [16]) (by kernel_rfl) (by simp) (AllReadyH.cons rfl (fun Kc hKc => ?_) AllReadyH.nil)
          refine step_append_own rfl (.tmp 71) (.tmp 74) 22 rfl Sz 5 i0 (.int .u8 0) 1 1 Tryz.underlying22 hi hz0 hz1 hz2 rfl (by decide) v6 (0 + k + 1) _ (by simp [Act.eval]) O6.out ⟨g, k, none⟩ (bs.length - k) (c - k) (vB (bs.drop k)) (by simp [Act.eval]) (by rw [vB_len, List.length_drop]; omega) N3.out (vB_one _) (by unfold maxLen; omega) (by omega) HZ6.out ?_
          intro v7 w7 hown7 hg7
          have O7 := hidB hown7
          have E7 := hidB (exGrowI E6.out O6.out HS2.out hg7)
          have C7 := hidB (curOwnI C6.out O6.out hcS HROWS.out hg7)
          clear hown7 hg7
          refine hKc.out _ _ trivial (fun hHeld => ?_)
          clear hKc Kc
          (try simp only [List.getElem_toArray]); (try simp only [List.getElem_cons_succ]); (try simp only [List.getElem_cons_zero]); (try simp only [Act.put]); (try simp only [List.setIfInBounds_toArray]); (try simp only [List.set_cons_succ]); (try simp only [List.set_cons_zero])
          refine wpAnyH_take (i := 17) (v := ?_) rfl (by kernel_rfl) (by kernel_rfl) (by kernel_rfl) (fun _ _ _ h => h) (Or.inl ⟨by kernel_rfl, ?_⟩) hHeld ?_
          rotate_left
          · intro wz hSw; (try dsimp only at hSw); go_simp; all_goals (try with_reducible rfl)
          (try simp only [List.getElem_toArray]); (try simp only [List.getElem_cons_succ]); (try simp only [List.getElem_cons_zero]); (try simp only [Act.put]); (try simp only [List.setIfInBounds_toArray]); (try simp only [List.set_cons_succ]); (try simp only [List.set_cons_zero])
          refine wpAnyH_done (by kernel_rfl) ?_ _
          refine NoPanic.normal ?_
          go_wp2
          go_roundw
          case rel => exact ⟨bs.take k ++ [sg[j2]] ++ bs.drop k, m - 1, by go_num, by omega, by omega, by rw [List.length_append, List.length_append, List.length_take, List.length_drop, List.length_singleton]; omega, RdB.own (n := 0 + k + 1 + (bs.length - k)) (by rw [vB_app, vB_app]; exact O7.out) (by have := HSZ.out; omega), C7.out, hE.out.trans E7.out, mem_appP (mem_appP (mem_takeP HM.out k) (mem_oneP (.inr (ba_mem sg j2 hj2)))) (mem_dropP HM.out k)⟩
          case measure => simp [intOf]; omega
    · obtain rfl : m = 0 := by omega
      go_wp2
      go_ret
      exact ⟨bs, rfl, by have := HSL.out; omega, (fun b hb => by have h := HM.out b hb; rw [HB0.out] at h; simpa using h), hC.out, hE.out⟩
theorem bend_any (cb : Nat) (a : Option Addr) (len cap : Nat) (zs : List Int) (s sg : ByteArray) (w : World) (hc : Cur w cb a len cap zs) (hs : s.size ≤ 100000) (hsg0 : 0 < sg.size) (hsg1 : sg.size ≤ 200) :
    Calls Tryz.prog 52 #[.pointer (some ⟨cb, 0, none⟩), .string s, .string sg] w fun e w' => ∃ t : List UInt8, e = .returned (.string ⟨t.toArray⟩) ∧ t.length ≤ s.size + 2 ∧ Cur w' cb a len cap zs ∧ Ex cb w w' :=
  (bendX_any cb a len cap zs s sg w hc hs hsg0 hsg1).mono fun _ _ ⟨t, h1, h2, _, h3⟩ => ⟨t, h1, h2, h3⟩
end Go.Proofs.YtnhefbhiemdhoaaGreat

/- A word of a unit, and a unit's text, are drawn: bytes that are no digit above 3, and few of them. -/
namespace Go.Proofs.YtnhefbhiemdhoaaGreat
open Go.RowKit Go.Proofs.YtnhefbhiemdhoaaGreat.RM

theorem hidD1 {p : Prop} (h : p) : Hid p := h
/-- a byte of a drawn unit's text -/
def okY (b : UInt8) : Prop := b.toNat < 128 ∧ (b.toNat < 52 ∨ 57 < b.toNat)
instance (b : UInt8) : Decidable (okY b) := by unfold okY; infer_instance
/-- a drawn unit's text of k bytes at most -/
def DT (k : Nat) (s : ByteArray) : Prop := s.size ≤ k ∧ ∀ b ∈ s.data.toList, okY b
instance (k : Nat) (s : ByteArray) : Decidable (DT k s) := by unfold DT; infer_instance
theorem DT.mono {k m : Nat} {s : ByteArray} (h : DT k s) (hk : k ≤ m) : DT m s := ⟨Nat.le_trans h.1 hk, h.2⟩
theorem DT.app {k m : Nat} {s t : ByteArray} (h : DT k s) (h2 : DT m t) : DT (k + m) (s ++ t) := by
  refine ⟨by rw [ByteArray.size_append]; have := h.1; have := h2.1; omega, fun b hb => ?_⟩
  rw [ByteArray.data_append, Array.toList_append, List.mem_append] at hb
  exact hb.elim (h.2 b) (h2.2 b)
/-- what stands in a row of texts written out -/
theorem lit_txt {w w3 : World} {cb : Nat} (L : Array Value) (T : List ByteArray) (k : Nat) (hL : L.toList = T.map Value.string) (hT : ∀ s ∈ T, DT k s) (hE : Ex cb (w.alloc (.cells L 9)) w3) (hcb : cb < w.heap.size) (j : Nat) (hj : j < T.length) : ∃ s, w3.cell? ⟨w.heap.size, j, none⟩ = some (.string s) ∧ DT k s := by
  refine ⟨T[j], hE.cell ?_ (by omega), hT _ (List.getElem_mem hj)⟩
  have hb : (w.alloc (.cells L 9)).heap[w.heap.size]? = some (.cells L 9) := by
    show (w.heap.push _)[w.heap.size]? = _
    simp
  unfold World.cell?
  rw [hb]
  show L[j]? = _
  rw [← Array.getElem?_toList, hL, List.getElem?_map, List.getElem?_eq_getElem hj]
  rfl
set_option maxRecDepth 100000 in
set_option maxHeartbeats 2000000 in
theorem drawWord5_any (cb : Nat) (a : Option Addr) (len cap : Nat) (zs : List Int) (w : World) (hc : Cur w cb a len cap zs) :
    Calls Tryz.prog 51 #[.pointer (some ⟨cb, 0, none⟩)] w fun e w' => ∃ s, e = .returned (.string s) ∧ DT 4 s ∧ Cur w' cb a len cap zs ∧ Ex cb w w' := by
  have b0 : ∀ (u : World) (o : Obj), Below u.heap.size u (u.alloc o) := fun u o => (Below.refl _ _).alloc (Nat.le_refl _) o
  have hlt := hc.lt
  have E0 := hidD1 (Ex.refl cb w)
  have C0 := hidD1 hc
  clear hc
  go_enter Tryz.func51, Tryz.ntmps51
  go_wp2_with fail
  refine (below_any cb _ a len cap zs _ (C0.out.below (b0 _ _)) (by omega)).mono ?_
  rintro e w3 ⟨x, rfl, hx0, hx1, hC', hE⟩
  obtain ⟨j, rfl⟩ : ∃ j : Nat, x = j := ⟨x.toNat, by omega⟩
  obtain ⟨s, hcell, hs⟩ := lit_txt _ [⟨#[109]⟩, ⟨#[103]⟩, ⟨#[115]⟩, ⟨#[65]⟩, ⟨#[75]⟩, ⟨#[109, 105, 110]⟩, ⟨#[104]⟩, ⟨#[72, 122]⟩, ⟨#[78]⟩, ⟨#[80, 97]⟩, ⟨#[74]⟩, ⟨#[87]⟩, ⟨#[86]⟩, ⟨#[67]⟩, ⟨#[107, 109]⟩, ⟨#[109, 109]⟩, ⟨#[107, 103]⟩, ⟨#[109, 115]⟩, ⟨#[117, 65]⟩, ⟨#[77, 72, 122]⟩, ⟨#[107, 80, 97]⟩, ⟨#[99, 109]⟩, ⟨#[109, 109, 105, 110]⟩, ⟨#[107, 67]⟩, ⟨#[120]⟩, ⟨#[]⟩, ⟨#[105, 110]⟩, ⟨#[109, 105, 110]⟩] 4 rfl (by decide) hE hlt j (by simp; omega)
  have HS := hidD1 hs
  have C1 := hidD1 hC'
  have E1 := hidD1 ((E0.out.alloc _).trans hE)
  clear hC' hE C0 E0 hs
  go_wp2
  go_ret
  exact ⟨_, rfl, HS.out, C1.out, E1.out⟩
end Go.Proofs.YtnhefbhiemdhoaaGreat

/- What a drawn text fulfils, and the minute. -/
namespace Go.Proofs.YtnhefbhiemdhoaaGreat
open Go.RowKit Go.Proofs.YtnhefbhiemdhoaaGreat.RM

theorem DT.small {k : Nat} {s : ByteArray} (h : DT k s) (hk : k ≤ 1048576) : s.size ≤ 1048576 := Nat.le_trans h.1 hk
theorem DT.lt {k : Nat} {s : ByteArray} (h : DT k s) : ∀ b ∈ s.data.toList, b.toNat < 128 := fun b hb => (h.2 b hb).1
theorem DT.okT {k : Nat} {s : ByteArray} (h : DT k s) : okT s.data.toList := fun b hb => (h.2 b hb).2
theorem word_min : wordI [109, 105, 110] = (⟨60, 1, 0, 0, 1, 0, 0⟩, true) := by decide +kernel
theorem thirds_ok : ∀ s ∈ ([⟨#[75]⟩, ⟨#[109, 47, 115]⟩, ⟨#[74]⟩, ⟨#[107, 103, 47, 109, 94, 51]⟩, ⟨#[115]⟩, ⟨#[87]⟩, ⟨#[78]⟩] : List ByteArray), DT 6 s := by decide
end Go.Proofs.YtnhefbhiemdhoaaGreat

/- Blocks of two, three and seven cells, written whole. -/
namespace Go.Proofs.YtnhefbhiemdhoaaGreat
open Go.RowKit

theorem IsB.new2c (W : World) (o : Obj) (vs : Array Value) (t : TypeId) : IsB ((W.alloc o).alloc (.cells vs t)) (W.heap.size + 1) vs t := by
  have := IsB.new (W.alloc o) vs t
  simpa using this
theorem IsB.new3c (W : World) (o p : Obj) (vs : Array Value) (t : TypeId) : IsB (((W.alloc o).alloc p).alloc (.cells vs t)) (W.heap.size + 1 + 1) vs t := by
  have := IsB.new ((W.alloc o).alloc p) vs t
  simpa using this
theorem IsB.set3 {W : World} {B : Nat} {a0 a1 a2 : Value} {t : TypeId} (h : IsB W B #[a0, a1, a2] t) (b0 b1 b2 : Value) : IsB (((W.setCell ⟨B, 0, none⟩ b0).setCell ⟨B, 1, none⟩ b1).setCell ⟨B, 2, none⟩ b2) B #[b0, b1, b2] t :=
  ((h.set 0 b0).set 1 b1).set 2 b2
theorem IsB.set7 {W : World} {B : Nat} {a0 a1 a2 a3 a4 a5 a6 : Value} {t : TypeId} (h : IsB W B #[a0, a1, a2, a3, a4, a5, a6] t) (b0 b1 b2 b3 b4 b5 b6 : Value) : IsB (((((((W.setCell ⟨B, 0, none⟩ b0).setCell ⟨B, 1, none⟩ b1).setCell ⟨B, 2, none⟩ b2).setCell ⟨B, 3, none⟩ b3).setCell ⟨B, 4, none⟩ b4).setCell ⟨B, 5, none⟩ b5).setCell ⟨B, 6, none⟩ b6) B #[b0, b1, b2, b3, b4, b5, b6] t := by
  have h7 := ((((((h.set 0 b0).set 1 b1).set 2 b2).set 3 b3).set 4 b4).set 5 b5).set 6 b6
  simp only [List.setIfInBounds_toArray, List.set_cons_zero, List.set_cons_succ] at h7
  exact h7
theorem below_set3 {K B : Nat} {w W : World} (h : Below K w W) (hB : K ≤ B) (b0 b1 b2 : Value) : Below K w (((W.setCell ⟨B, 0, none⟩ b0).setCell ⟨B, 1, none⟩ b1).setCell ⟨B, 2, none⟩ b2) :=
  ((h.setCell (p := ⟨B, 0, none⟩) hB b0).setCell (p := ⟨B, 1, none⟩) hB b1).setCell (p := ⟨B, 2, none⟩) hB b2
theorem below_set7 {K B : Nat} {w W : World} (h : Below K w W) (hB : K ≤ B) (b0 b1 b2 b3 b4 b5 b6 : Value) : Below K w (((((((W.setCell ⟨B, 0, none⟩ b0).setCell ⟨B, 1, none⟩ b1).setCell ⟨B, 2, none⟩ b2).setCell ⟨B, 3, none⟩ b3).setCell ⟨B, 4, none⟩ b4).setCell ⟨B, 5, none⟩ b5).setCell ⟨B, 6, none⟩ b6) :=
  ((((((h.setCell (p := ⟨B, 0, none⟩) hB b0).setCell (p := ⟨B, 1, none⟩) hB b1).setCell (p := ⟨B, 2, none⟩) hB b2).setCell (p := ⟨B, 3, none⟩) hB b3).setCell (p := ⟨B, 4, none⟩) hB b4).setCell (p := ⟨B, 5, none⟩) hB b5).setCell (p := ⟨B, 6, none⟩) hB b6
theorem IsB.other7 {W : World} {K B : Nat} {vs : Array Value} {t : TypeId} (h : IsB W K vs t) (hne : K ≠ B) (b0 b1 b2 b3 b4 b5 b6 : Value) : IsB (((((((W.setCell ⟨B, 0, none⟩ b0).setCell ⟨B, 1, none⟩ b1).setCell ⟨B, 2, none⟩ b2).setCell ⟨B, 3, none⟩ b3).setCell ⟨B, 4, none⟩ b4).setCell ⟨B, 5, none⟩ b5).setCell ⟨B, 6, none⟩ b6) K vs t :=
  ((((((h.other hne 0 b0).other hne 1 b1).other hne 2 b2).other hne 3 b3).other hne 4 b4).other hne 5 b5).other hne 6 b6
theorem IsB.c3 {W : World} {B : Nat} {a0 a1 a2 : Value} {t : TypeId} (h : IsB W B #[a0, a1, a2] t) : W.cell? ⟨B, 0, none⟩ = some a0 ∧ W.cell? ⟨B, 1, none⟩ = some a1 ∧ W.cell? ⟨B, 2, none⟩ = some a2 :=
  ⟨h.cell 0 rfl, h.cell 1 rfl, h.cell 2 rfl⟩
theorem IsB.c7 {W : World} {B : Nat} {a0 a1 a2 a3 a4 a5 a6 : Value} {t : TypeId} (h : IsB W B #[a0, a1, a2, a3, a4, a5, a6] t) : W.cell? ⟨B, 0, none⟩ = some a0 ∧ W.cell? ⟨B, 1, none⟩ = some a1 ∧ W.cell? ⟨B, 2, none⟩ = some a2 ∧ W.cell? ⟨B, 3, none⟩ = some a3 ∧ W.cell? ⟨B, 4, none⟩ = some a4 ∧ W.cell? ⟨B, 5, none⟩ = some a5 ∧ W.cell? ⟨B, 6, none⟩ = some a6 :=
  ⟨h.cell 0 rfl, h.cell 1 rfl, h.cell 2 rfl, h.cell 3 rfl, h.cell 4 rfl, h.cell 5 rfl, h.cell 6 rfl⟩
theorem IsB.c5 {W : World} {B : Nat} {a0 a1 a2 a3 a4 : Value} {t : TypeId} (h : IsB W B #[a0, a1, a2, a3, a4] t) : W.cell? ⟨B, 0, none⟩ = some a0 ∧ W.cell? ⟨B, 1, none⟩ = some a1 ∧ W.cell? ⟨B, 2, none⟩ = some a2 ∧ W.cell? ⟨B, 3, none⟩ = some a3 ∧ W.cell? ⟨B, 4, none⟩ = some a4 :=
  ⟨h.cell 0 rfl, h.cell 1 rfl, h.cell 2 rfl, h.cell 3 rfl, h.cell 4 rfl⟩
theorem IsB.f3 {W : World} {B : Nat} {vs : Array Value} {t : TypeId} (h : IsB W B vs t) : W.frozen? ⟨B, 0, none⟩ = false ∧ W.frozen? ⟨B, 1, none⟩ = false ∧ W.frozen? ⟨B, 2, none⟩ = false := ⟨h.frozen 0, h.frozen 1, h.frozen 2⟩
theorem IsB.f7 {W : World} {B : Nat} {vs : Array Value} {t : TypeId} (h : IsB W B vs t) : W.frozen? ⟨B, 0, none⟩ = false ∧ W.frozen? ⟨B, 1, none⟩ = false ∧ W.frozen? ⟨B, 2, none⟩ = false ∧ W.frozen? ⟨B, 3, none⟩ = false ∧ W.frozen? ⟨B, 4, none⟩ = false ∧ W.frozen? ⟨B, 5, none⟩ = false ∧ W.frozen? ⟨B, 6, none⟩ = false := ⟨h.frozen 0, h.frozen 1, h.frozen 2, h.frozen 3, h.frozen 4, h.frozen 5, h.frozen 6⟩
end Go.Proofs.YtnhefbhiemdhoaaGreat

/- A unit's two ways: what a number ahead of it is by factor 1, and the other way round; Converted by them, the program's. -/
namespace Go.Proofs.YtnhefbhiemdhoaaGreat
open Go.RowKit Go.MapKept Go.Proofs.YtnhefbhiemdhoaaGreat.RM

def plainQ (v z : Int × Int) (u : UV) : Int × Int × Bool := mulQ (fr (addQ v z)) (u.n, u.d)
def aheadQ (v y : Int × Int) (u : UV) : Int × Int × Bool := subQ (fr (divQ v (u.n, u.d))) y
theorem conv_two (v z y : Int × Int) (f g : UV) : convQ v z f g y = aheadQ (fr (plainQ v z f)) y g := rfl
theorem IsB.set2 {W : World} {B : Nat} {a0 a1 : Value} {t : TypeId} (h : IsB W B #[a0, a1] t) (b0 b1 : Value) : IsB ((W.setCell ⟨B, 0, none⟩ b0).setCell ⟨B, 1, none⟩ b1) B #[b0, b1] t := (h.set 0 b0).set 1 b1
theorem IsB.other2 {W : World} {K B : Nat} {vs : Array Value} {t : TypeId} (h : IsB W K vs t) (hne : K ≠ B) (b0 b1 : Value) : IsB ((W.setCell ⟨B, 0, none⟩ b0).setCell ⟨B, 1, none⟩ b1) K vs t := (h.other hne 0 b0).other hne 1 b1
theorem IsB.c2 {W : World} {B : Nat} {a0 a1 : Value} {t : TypeId} (h : IsB W B #[a0, a1] t) : W.cell? ⟨B, 0, none⟩ = some a0 ∧ W.cell? ⟨B, 1, none⟩ = some a1 := ⟨h.cell 0 rfl, h.cell 1 rfl⟩
theorem IsB.f2 {W : World} {B : Nat} {vs : Array Value} {t : TypeId} (h : IsB W B vs t) : W.frozen? ⟨B, 0, none⟩ = false ∧ W.frozen? ⟨B, 1, none⟩ = false := ⟨h.frozen 0, h.frozen 1⟩
theorem below_set2 {K B : Nat} {w W : World} (h : Below K w W) (hB : K ≤ B) (b0 b1 : Value) : Below K w ((W.setCell ⟨B, 0, none⟩ b0).setCell ⟨B, 1, none⟩ b1) := (h.setCell (p := ⟨B, 0, none⟩) hB b0).setCell (p := ⟨B, 1, none⟩) hB b1

set_option maxRecDepth 100000 in
set_option maxHeartbeats 2000000 in
theorem plain_any (u : UV) (vn vd : Int) (s : ByteArray) (w : World) :
    Calls Tryz.prog 28 #[uVal u, .agg #[.int .i64 vn, .int .i64 vd], .string s] w fun e w' => e = .returned (.tuple #[.agg #[.int .i64 (plainQ (vn, vd) (zer s.data.toList) u).1, .int .i64 (plainQ (vn, vd) (zer s.data.toList) u).2.1], .bool (plainQ (vn, vd) (zer s.data.toList) u).2.2]) ∧ Below w.heap.size w w' := by
  have b0 : ∀ (u : World) (o : Obj), Below u.heap.size u (u.alloc o) := fun u o => (Below.refl _ _).alloc (Nat.le_refl _) o
  have HZ := hidU (fun W => zer_any s W)
  obtain ⟨z, hz⟩ : ∃ z, z = zer s.data.toList := ⟨_, rfl⟩
  rw [← hz] at HZ ⊢
  clear hz
  obtain ⟨zn, zd⟩ := z
  simp only at HZ
  obtain ⟨un, ud, x0, x1, x2, x3, x4⟩ := u
  obtain ⟨R, hR⟩ : ∃ R, R = plainQ (vn, vd) (zn, zd) ⟨un, ud, x0, x1, x2, x3, x4⟩ := ⟨_, rfl⟩
  obtain ⟨⟨mn, md, mo⟩, hM⟩ : ∃ r, r = addQ (vn, vd) (zn, zd) := ⟨_, rfl⟩
  have HC1 : Hid (∀ W : World, Calls Tryz.prog 32 #[.agg #[.int .i64 vn, .int .i64 vd], .agg #[.int .i64 zn, .int .i64 zd]] W fun e w' => e = .returned (.tuple #[.agg #[.int .i64 mn, .int .i64 md], .bool mo]) ∧ Below W.heap.size W w') := fun W => by
    have h := iAdd_any vn vd zn zd W
    have e : (mn, md, mo) = (opN (two vn vd zn zd) (vn * zd + zn * vd) (vd * zd), opD (two vn vd zn zd) (vn * zd + zn * vd) (vd * zd), opOk (two vn vd zn zd) (vn * zd + zn * vd) (vd * zd)) := hM
    injection e with e1 e2
    injection e2 with e2 e3
    rw [e1, e2, e3]
    exact h
  have hR2 : R = mulQ (mn, md) (un, ud) := by rw [hR]; unfold plainQ fr; rw [← hM]
  have HC2 : Hid (∀ W : World, Calls Tryz.prog 34 #[.agg #[.int .i64 mn, .int .i64 md], .agg #[.int .i64 un, .int .i64 ud]] W fun e w' => e = .returned (.tuple #[.agg #[.int .i64 R.1, .int .i64 R.2.1], .bool R.2.2]) ∧ Below W.heap.size W w') := fun W => by rw [hR2]; exact iMul_any mn md un ud W
  rw [← hR]
  clear hR hR2 hM
  obtain ⟨rn, rd, ro⟩ := R
  simp only [uVal] at HC2 ⊢
  have hA : ∀ (A : Nat), A = w.heap.size → IsB (((w.alloc (.cells #[.int .i64 un, .int .i64 ud, .int .i64 x0, .int .i64 x1, .int .i64 x2, .int .i64 x3, .int .i64 x4] 55)).alloc (.cells #[.int .i64 vn, .int .i64 vd] 25)).alloc (.cells #[.int .i64 0, .int .i64 0] 25)) A #[.int .i64 un, .int .i64 ud, .int .i64 x0, .int .i64 x1, .int .i64 x2, .int .i64 x3, .int .i64 x4] 55 ∧ IsB (((w.alloc (.cells #[.int .i64 un, .int .i64 ud, .int .i64 x0, .int .i64 x1, .int .i64 x2, .int .i64 x3, .int .i64 x4] 55)).alloc (.cells #[.int .i64 vn, .int .i64 vd] 25)).alloc (.cells #[.int .i64 0, .int .i64 0] 25)) (A + 1) #[.int .i64 vn, .int .i64 vd] 25 ∧ IsB (((w.alloc (.cells #[.int .i64 un, .int .i64 ud, .int .i64 x0, .int .i64 x1, .int .i64 x2, .int .i64 x3, .int .i64 x4] 55)).alloc (.cells #[.int .i64 vn, .int .i64 vd] 25)).alloc (.cells #[.int .i64 0, .int .i64 0] 25)) (A + 1 + 1) #[.int .i64 0, .int .i64 0] 25 := fun A hA => by
    rw [hA]
    exact ⟨((IsB.new w _ _).below (b0 _ _)).below (b0 _ _), (IsB.new2c w _ _ _).below (b0 _ _), IsB.new3c w _ _ _ _⟩
  go_enter Tryz.func28, Tryz.ntmps28
  go_upto_region 1 with fail
  obtain ⟨A, hAe⟩ : ∃ A, A = w.heap.size := ⟨_, rfl⟩
  obtain ⟨k1, k2, k3⟩ := hA A hAe
  obtain ⟨X, hX⟩ : ∃ X, X = ((w.alloc (.cells #[.int .i64 un, .int .i64 ud, .int .i64 x0, .int .i64 x1, .int .i64 x2, .int .i64 x3, .int .i64 x4] 55)).alloc (.cells #[.int .i64 vn, .int .i64 vd] 25)).alloc (.cells #[.int .i64 0, .int .i64 0] 25) := ⟨_, rfl⟩
  have hB : Below w.heap.size w X := by rw [hX]; exact ((b0 _ _).alloc (by simp) _).alloc (by simp; omega) _
  rw [← hX] at k1 k2 k3
  rw [← hX, ← hAe]
  have hAw : w.heap.size ≤ A := Nat.le_of_eq hAe.symm
  clear hX hA hAe
  obtain ⟨Z, hZ⟩ : ∃ Z, Z = A + 1 + 1 := ⟨_, rfl⟩
  obtain ⟨V, hV⟩ : ∃ V, V = A + 1 := ⟨_, rfl⟩
  rw [← hV] at k2 k3 hZ ⊢
  rw [← hZ] at k3 ⊢
  have HNE := hidU (show w.heap.size ≤ V ∧ w.heap.size ≤ Z ∧ A ≠ V ∧ Z ≠ V ∧ A ≠ Z by omega)
  have K1 := hidU k1
  have K2 := hidU k2
  have K3 := hidU k3
  have HB := hidU hB
  clear k1 k2 k3 hB hAw hZ hV
  refine wp_region_noPanic ?_
  have hb := (Below.refl X.heap.size X).drew
  replace K1 := hidU (K1.out.below hb)
  replace K2 := hidU (K2.out.below hb)
  replace K3 := hidU (K3.out.below hb)
  replace HB := hidU (HB.out.trans (hb.mono HB.out.size))
  clear hb
  refine wp_region_held_drew (S := fun _ => True) (by kernel_rfl) trivial (fun hHeld => ?_)
  obtain ⟨wd, hwd⟩ : ∃ u, u = X.drew := ⟨_, rfl⟩
  rw [← hwd] at K1 K2 K3 HB ⊢
  clear hwd
  refine wpAnyH_take (i := 1) (v := ?_) rfl (by kernel_rfl) (by kernel_rfl) (by kernel_rfl) (fun _ _ _ h => h) (Or.inl ⟨by kernel_rfl, ?_⟩) hHeld ?_
  rotate_left
  · intro wz hSw; (try dsimp only at hSw); go_simp; all_goals (try with_reducible rfl)
  (try simp only [List.getElem_toArray]); (try simp only [List.getElem_cons_succ]); (try simp only [List.getElem_cons_zero]); (try simp only [Act.put]); (try simp only [List.setIfInBounds_toArray]); (try simp only [List.set_cons_succ]); (try simp only [List.set_cons_zero])
  refine wpAnyH_ready (rs := [0, 2]) (by kernel_rfl) (by simp) (AllReadyH.cons rfl (fun Kc hKc => ?_) (AllReadyH.cons rfl (fun Kc hKc => ?_) AllReadyH.nil))
  · have v0 := K2.out.cell (v := .int .i64 vn) 0 rfl
    have v1 := K2.out.cell (v := .int .i64 vd) 1 rfl
    go_simp
    refine hKc.out _ _ trivial (fun hHeld => ?_)
    clear hKc Kc
    (try simp only [List.getElem_toArray]); (try simp only [List.getElem_cons_succ]); (try simp only [List.getElem_cons_zero]); (try simp only [Act.put]); (try simp only [List.setIfInBounds_toArray]); (try simp only [List.set_cons_succ]); (try simp only [List.set_cons_zero])
    clear v0 v1
    refine wpAnyH_ready (rs := [2]) (by kernel_rfl) (by simp) (AllReadyH.cons rfl (fun Kc hKc => ?_) AllReadyH.nil)
    go_simp
    refine (HZ.out _).mono ?_
    rintro e wz0 ⟨rfl, hb⟩
    replace K1 := hidU (K1.out.below hb)
    replace K2 := hidU (K2.out.below hb)
    replace K3 := hidU (K3.out.below hb)
    replace HB := hidU (HB.out.trans (hb.mono HB.out.size))
    clear hb
    go_wp2_with fail
    refine hKc.out _ _ trivial (fun hHeld => ?_)
    clear hKc Kc
    (try simp only [List.getElem_toArray]); (try simp only [List.getElem_cons_succ]); (try simp only [List.getElem_cons_zero]); (try simp only [Act.put]); (try simp only [List.setIfInBounds_toArray]); (try simp only [List.set_cons_succ]); (try simp only [List.set_cons_zero])
    refine wpAnyH_ready (rs := [3]) (by kernel_rfl) (by simp) (AllReadyH.cons rfl (fun Kc hKc => ?_) AllReadyH.nil)
    go_simp
    refine (HC1.out _).mono ?_
    rintro e wy0 ⟨rfl, hb⟩
    replace K1 := hidU (K1.out.below hb)
    replace K2 := hidU (K2.out.below hb)
    replace K3 := hidU (K3.out.below hb)
    replace HB := hidU (HB.out.trans (hb.mono HB.out.size))
    clear hb
    go_wp2_with fail
    refine hKc.out _ _ trivial (fun hHeld => ?_)
    clear hKc Kc
    (try simp only [List.getElem_toArray]); (try simp only [List.getElem_cons_succ]); (try simp only [List.getElem_cons_zero]); (try simp only [Act.put]); (try simp only [List.setIfInBounds_toArray]); (try simp only [List.set_cons_succ]); (try simp only [List.set_cons_zero])
    refine wpAnyH_take (i := 4) (v := ?_) rfl (by kernel_rfl) (by kernel_rfl) (by kernel_rfl) (fun _ _ _ h => h) (Or.inl ⟨by kernel_rfl, ?_⟩) hHeld ?_
    rotate_left
    · intro wz hSw; (try dsimp only at hSw); go_simp; all_goals (try with_reducible rfl)
    (try simp only [List.getElem_toArray]); (try simp only [List.getElem_cons_succ]); (try simp only [List.getElem_cons_zero]); (try simp only [Act.put]); (try simp only [List.setIfInBounds_toArray]); (try simp only [List.set_cons_succ]); (try simp only [List.set_cons_zero])
    refine wpAnyH_take (i := 5) (v := ?_) rfl (by kernel_rfl) (by kernel_rfl) (by kernel_rfl) (fun _ _ _ h => h) (Or.inl ⟨by kernel_rfl, ?_⟩) hHeld ?_
    rotate_left
    · intro wz hSw; (try dsimp only at hSw); go_simp; all_goals (try with_reducible rfl)
    (try simp only [List.getElem_toArray]); (try simp only [List.getElem_cons_succ]); (try simp only [List.getElem_cons_zero]); (try simp only [Act.put]); (try simp only [List.setIfInBounds_toArray]); (try simp only [List.set_cons_succ]); (try simp only [List.set_cons_zero])
    refine wpAnyH_take (i := 6) (v := ?_) rfl (by kernel_rfl) (by kernel_rfl) (by kernel_rfl) (fun _ _ _ h => h) (Or.inl ⟨by kernel_rfl, ?_⟩) hHeld ?_
    rotate_left
    · intro wz hSw; (try dsimp only at hSw); go_simp; all_goals (try with_reducible rfl)
    (try simp only [List.getElem_toArray]); (try simp only [List.getElem_cons_succ]); (try simp only [List.getElem_cons_zero]); (try simp only [Act.put]); (try simp only [List.setIfInBounds_toArray]); (try simp only [List.set_cons_succ]); (try simp only [List.set_cons_zero])
    have v0 := K2.out.cell (v := .int .i64 vn) 0 rfl
    have v1 := K2.out.cell (v := .int .i64 vd) 1 rfl
    have f0 := K2.out.frozen 0
    have f1 := K2.out.frozen 1
    replace K1 := hidU (K1.out.other2 HNE.out.2.2.1 (.int .i64 mn) (.int .i64 md))
    replace K3 := hidU (K3.out.other2 HNE.out.2.2.2.1 (.int .i64 mn) (.int .i64 md))
    have K2b := hidU (K2.out.set2 (.int .i64 mn) (.int .i64 md))
    replace HB := hidU (below_set2 HB.out HNE.out.1 (.int .i64 mn) (.int .i64 md))
    refine wpAnyH_ready (rs := [7]) (by kernel_rfl) (by simp) (AllReadyH.cons rfl (fun Kc hKc => ?_) AllReadyH.nil)
    go_simp
    refine hKc.out _ _ trivial (fun hHeld => ?_)
    clear hKc Kc
    (try simp only [List.getElem_toArray]); (try simp only [List.getElem_cons_succ]); (try simp only [List.getElem_cons_zero]); (try simp only [Act.put]); (try simp only [List.setIfInBounds_toArray]); (try simp only [List.set_cons_succ]); (try simp only [List.set_cons_zero])
    clear v0 v1 f0 f1 K2
    refine wpAnyH_done (by kernel_rfl) ?_ _
    refine NoPanic.normal ?_
    obtain ⟨v0, v1⟩ := K2b.out.c2
    have u0 := K1.out.cell (v := .int .i64 un) 0 rfl
    have u1 := K1.out.cell (v := .int .i64 ud) 1 rfl
    go_wp2_with fail
    refine (HC2.out _).mono ?_
    rintro e we ⟨rfl, hb⟩
    replace K3 := hidU (K3.out.below hb)
    replace HB := hidU (HB.out.trans (hb.mono HB.out.size))
    clear hb v0 v1 u0 u1 K1 K2b
    have z0 := K3.out.cell (v := .int .i64 0) 0 rfl
    have z1 := K3.out.cell (v := .int .i64 0) 1 rfl
    have f0 := K3.out.frozen 0
    have f1 := K3.out.frozen 1
    have KZ := hidU (K3.out.set2 (.int .i64 rn) (.int .i64 rd))
    have HBZ := hidU (below_set2 HB.out HNE.out.2.1 (.int .i64 rn) (.int .i64 rd))
    go_wp2
    obtain ⟨y0, y1⟩ := KZ.out.c2
    exact bodyPost_ret (v := .tuple #[.agg #[.int .i64 rn, .int .i64 rd], .bool ro]) (by simp [results, Tryz.results28, go_sem, y0, y1]) rfl ⟨rfl, HBZ.out⟩
  · go_simp
    refine (HZ.out _).mono ?_
    rintro e wz1 ⟨rfl, hb⟩
    replace K1 := hidU (K1.out.below hb)
    replace K2 := hidU (K2.out.below hb)
    replace K3 := hidU (K3.out.below hb)
    replace HB := hidU (HB.out.trans (hb.mono HB.out.size))
    clear hb
    go_wp2_with fail
    refine hKc.out _ _ trivial (fun hHeld => ?_)
    clear hKc Kc
    (try simp only [List.getElem_toArray]); (try simp only [List.getElem_cons_succ]); (try simp only [List.getElem_cons_zero]); (try simp only [Act.put]); (try simp only [List.setIfInBounds_toArray]); (try simp only [List.set_cons_succ]); (try simp only [List.set_cons_zero])
    refine wpAnyH_ready (rs := [0]) (by kernel_rfl) (by simp) (AllReadyH.cons rfl (fun Kc hKc => ?_) AllReadyH.nil)
    have v0 := K2.out.cell (v := .int .i64 vn) 0 rfl
    have v1 := K2.out.cell (v := .int .i64 vd) 1 rfl
    go_simp
    refine hKc.out _ _ trivial (fun hHeld => ?_)
    clear hKc Kc
    (try simp only [List.getElem_toArray]); (try simp only [List.getElem_cons_succ]); (try simp only [List.getElem_cons_zero]); (try simp only [Act.put]); (try simp only [List.setIfInBounds_toArray]); (try simp only [List.set_cons_succ]); (try simp only [List.set_cons_zero])
    clear v0 v1
    refine wpAnyH_ready (rs := [3]) (by kernel_rfl) (by simp) (AllReadyH.cons rfl (fun Kc hKc => ?_) AllReadyH.nil)
    go_simp
    refine (HC1.out _).mono ?_
    rintro e wy1 ⟨rfl, hb⟩
    replace K1 := hidU (K1.out.below hb)
    replace K2 := hidU (K2.out.below hb)
    replace K3 := hidU (K3.out.below hb)
    replace HB := hidU (HB.out.trans (hb.mono HB.out.size))
    clear hb
    go_wp2_with fail
    refine hKc.out _ _ trivial (fun hHeld => ?_)
    clear hKc Kc
    (try simp only [List.getElem_toArray]); (try simp only [List.getElem_cons_succ]); (try simp only [List.getElem_cons_zero]); (try simp only [Act.put]); (try simp only [List.setIfInBounds_toArray]); (try simp only [List.set_cons_succ]); (try simp only [List.set_cons_zero])
    refine wpAnyH_take (i := 4) (v := ?_) rfl (by kernel_rfl) (by kernel_rfl) (by kernel_rfl) (fun _ _ _ h => h) (Or.inl ⟨by kernel_rfl, ?_⟩) hHeld ?_
    rotate_left
    · intro wz hSw; (try dsimp only at hSw); go_simp; all_goals (try with_reducible rfl)
    (try simp only [List.getElem_toArray]); (try simp only [List.getElem_cons_succ]); (try simp only [List.getElem_cons_zero]); (try simp only [Act.put]); (try simp only [List.setIfInBounds_toArray]); (try simp only [List.set_cons_succ]); (try simp only [List.set_cons_zero])
    refine wpAnyH_take (i := 5) (v := ?_) rfl (by kernel_rfl) (by kernel_rfl) (by kernel_rfl) (fun _ _ _ h => h) (Or.inl ⟨by kernel_rfl, ?_⟩) hHeld ?_
    rotate_left
    · intro wz hSw; (try dsimp only at hSw); go_simp; all_goals (try with_reducible rfl)
    (try simp only [List.getElem_toArray]); (try simp only [List.getElem_cons_succ]); (try simp only [List.getElem_cons_zero]); (try simp only [Act.put]); (try simp only [List.setIfInBounds_toArray]); (try simp only [List.set_cons_succ]); (try simp only [List.set_cons_zero])
    refine wpAnyH_take (i := 6) (v := ?_) rfl (by kernel_rfl) (by kernel_rfl) (by kernel_rfl) (fun _ _ _ h => h) (Or.inl ⟨by kernel_rfl, ?_⟩) hHeld ?_
    rotate_left
    · intro wz hSw; (try dsimp only at hSw); go_simp; all_goals (try with_reducible rfl)
    (try simp only [List.getElem_toArray]); (try simp only [List.getElem_cons_succ]); (try simp only [List.getElem_cons_zero]); (try simp only [Act.put]); (try simp only [List.setIfInBounds_toArray]); (try simp only [List.set_cons_succ]); (try simp only [List.set_cons_zero])
    have v0 := K2.out.cell (v := .int .i64 vn) 0 rfl
    have v1 := K2.out.cell (v := .int .i64 vd) 1 rfl
    have f0 := K2.out.frozen 0
    have f1 := K2.out.frozen 1
    replace K1 := hidU (K1.out.other2 HNE.out.2.2.1 (.int .i64 mn) (.int .i64 md))
    replace K3 := hidU (K3.out.other2 HNE.out.2.2.2.1 (.int .i64 mn) (.int .i64 md))
    have K2b := hidU (K2.out.set2 (.int .i64 mn) (.int .i64 md))
    replace HB := hidU (below_set2 HB.out HNE.out.1 (.int .i64 mn) (.int .i64 md))
    refine wpAnyH_ready (rs := [7]) (by kernel_rfl) (by simp) (AllReadyH.cons rfl (fun Kc hKc => ?_) AllReadyH.nil)
    go_simp
    refine hKc.out _ _ trivial (fun hHeld => ?_)
    clear hKc Kc
    (try simp only [List.getElem_toArray]); (try simp only [List.getElem_cons_succ]); (try simp only [List.getElem_cons_zero]); (try simp only [Act.put]); (try simp only [List.setIfInBounds_toArray]); (try simp only [List.set_cons_succ]); (try simp only [List.set_cons_zero])
    clear v0 v1 f0 f1 K2
    refine wpAnyH_done (by kernel_rfl) ?_ _
    refine NoPanic.normal ?_
    obtain ⟨v0, v1⟩ := K2b.out.c2
    have u0 := K1.out.cell (v := .int .i64 un) 0 rfl
    have u1 := K1.out.cell (v := .int .i64 ud) 1 rfl
    go_wp2_with fail
    refine (HC2.out _).mono ?_
    rintro e we ⟨rfl, hb⟩
    replace K3 := hidU (K3.out.below hb)
    replace HB := hidU (HB.out.trans (hb.mono HB.out.size))
    clear hb v0 v1 u0 u1 K1 K2b
    have z0 := K3.out.cell (v := .int .i64 0) 0 rfl
    have z1 := K3.out.cell (v := .int .i64 0) 1 rfl
    have f0 := K3.out.frozen 0
    have f1 := K3.out.frozen 1
    have KZ := hidU (K3.out.set2 (.int .i64 rn) (.int .i64 rd))
    have HBZ := hidU (below_set2 HB.out HNE.out.2.1 (.int .i64 rn) (.int .i64 rd))
    go_wp2
    obtain ⟨y0, y1⟩ := KZ.out.c2
    exact bodyPost_ret (v := .tuple #[.agg #[.int .i64 rn, .int .i64 rd], .bool ro]) (by simp [results, Tryz.results28, go_sem, y0, y1]) rfl ⟨rfl, HBZ.out⟩

set_option maxRecDepth 100000 in
set_option maxHeartbeats 2000000 in
theorem ahead_any (u : UV) (vn vd : Int) (s : ByteArray) (w : World) :
    Calls Tryz.prog 35 #[uVal u, .agg #[.int .i64 vn, .int .i64 vd], .string s] w fun e w' => e = .returned (.tuple #[.agg #[.int .i64 (aheadQ (vn, vd) (zer s.data.toList) u).1, .int .i64 (aheadQ (vn, vd) (zer s.data.toList) u).2.1], .bool (aheadQ (vn, vd) (zer s.data.toList) u).2.2]) ∧ Below w.heap.size w w' := by
  have b0 : ∀ (u : World) (o : Obj), Below u.heap.size u (u.alloc o) := fun u o => (Below.refl _ _).alloc (Nat.le_refl _) o
  have HZ := hidU (fun W => zer_any s W)
  obtain ⟨z, hz⟩ : ∃ z, z = zer s.data.toList := ⟨_, rfl⟩
  rw [← hz] at HZ ⊢
  clear hz
  obtain ⟨zn, zd⟩ := z
  simp only at HZ
  obtain ⟨un, ud, x0, x1, x2, x3, x4⟩ := u
  obtain ⟨R, hR⟩ : ∃ R, R = aheadQ (vn, vd) (zn, zd) ⟨un, ud, x0, x1, x2, x3, x4⟩ := ⟨_, rfl⟩
  obtain ⟨⟨mn, md, mo⟩, hM⟩ : ∃ r, r = divQ (vn, vd) (un, ud) := ⟨_, rfl⟩
  have HC1 : Hid (∀ W : World, Calls Tryz.prog 67 #[.agg #[.int .i64 vn, .int .i64 vd], .agg #[.int .i64 un, .int .i64 ud]] W fun e w' => e = .returned (.tuple #[.agg #[.int .i64 mn, .int .i64 md], .bool mo]) ∧ Below W.heap.size W w') := fun W => by
    have h := iDiv_any vn vd un ud W
    have e : (mn, md, mo) = (opN (two vn vd un ud) (vn * ud) (vd * un), opD (two vn vd un ud) (vn * ud) (vd * un), opOk (two vn vd un ud) (vn * ud) (vd * un)) := hM
    injection e with e1 e2
    injection e2 with e2 e3
    rw [e1, e2, e3]
    exact h
  have hR2 : R = subQ (mn, md) (zn, zd) := by rw [hR]; unfold aheadQ fr; rw [← hM]
  have HC2 : Hid (∀ W : World, Calls Tryz.prog 68 #[.agg #[.int .i64 mn, .int .i64 md], .agg #[.int .i64 zn, .int .i64 zd]] W fun e w' => e = .returned (.tuple #[.agg #[.int .i64 R.1, .int .i64 R.2.1], .bool R.2.2]) ∧ Below W.heap.size W w') := fun W => by rw [hR2]; exact iSub_any mn md zn zd W
  rw [← hR]
  clear hR hR2 hM
  obtain ⟨rn, rd, ro⟩ := R
  simp only [uVal] at HC2 ⊢
  have hA : ∀ (A : Nat), A = w.heap.size → IsB (((w.alloc (.cells #[.int .i64 un, .int .i64 ud, .int .i64 x0, .int .i64 x1, .int .i64 x2, .int .i64 x3, .int .i64 x4] 55)).alloc (.cells #[.int .i64 vn, .int .i64 vd] 25)).alloc (.cells #[.int .i64 0, .int .i64 0] 25)) A #[.int .i64 un, .int .i64 ud, .int .i64 x0, .int .i64 x1, .int .i64 x2, .int .i64 x3, .int .i64 x4] 55 ∧ IsB (((w.alloc (.cells #[.int .i64 un, .int .i64 ud, .int .i64 x0, .int .i64 x1, .int .i64 x2, .int .i64 x3, .int .i64 x4] 55)).alloc (.cells #[.int .i64 vn, .int .i64 vd] 25)).alloc (.cells #[.int .i64 0, .int .i64 0] 25)) (A + 1) #[.int .i64 vn, .int .i64 vd] 25 ∧ IsB (((w.alloc (.cells #[.int .i64 un, .int .i64 ud, .int .i64 x0, .int .i64 x1, .int .i64 x2, .int .i64 x3, .int .i64 x4] 55)).alloc (.cells #[.int .i64 vn, .int .i64 vd] 25)).alloc (.cells #[.int .i64 0, .int .i64 0] 25)) (A + 1 + 1) #[.int .i64 0, .int .i64 0] 25 := fun A hA => by
    rw [hA]
    exact ⟨((IsB.new w _ _).below (b0 _ _)).below (b0 _ _), (IsB.new2c w _ _ _).below (b0 _ _), IsB.new3c w _ _ _ _⟩
  go_enter Tryz.func35, Tryz.ntmps35
  go_upto_region 1 with fail
  obtain ⟨A, hAe⟩ : ∃ A, A = w.heap.size := ⟨_, rfl⟩
  obtain ⟨k1, k2, k3⟩ := hA A hAe
  obtain ⟨X, hX⟩ : ∃ X, X = ((w.alloc (.cells #[.int .i64 un, .int .i64 ud, .int .i64 x0, .int .i64 x1, .int .i64 x2, .int .i64 x3, .int .i64 x4] 55)).alloc (.cells #[.int .i64 vn, .int .i64 vd] 25)).alloc (.cells #[.int .i64 0, .int .i64 0] 25) := ⟨_, rfl⟩
  have hB : Below w.heap.size w X := by rw [hX]; exact ((b0 _ _).alloc (by simp) _).alloc (by simp; omega) _
  rw [← hX] at k1 k2 k3
  rw [← hX, ← hAe]
  have hAw : w.heap.size ≤ A := Nat.le_of_eq hAe.symm
  clear hX hA hAe
  obtain ⟨Z, hZ⟩ : ∃ Z, Z = A + 1 + 1 := ⟨_, rfl⟩
  obtain ⟨V, hV⟩ : ∃ V, V = A + 1 := ⟨_, rfl⟩
  rw [← hV] at k2 k3 hZ ⊢
  rw [← hZ] at k3 ⊢
  have HNE := hidU (show w.heap.size ≤ V ∧ w.heap.size ≤ Z ∧ A ≠ V ∧ Z ≠ V ∧ A ≠ Z by omega)
  have K1 := hidU k1
  have K2 := hidU k2
  have K3 := hidU k3
  have HB := hidU hB
  clear k1 k2 k3 hB hAw hZ hV
  obtain ⟨v0, v1⟩ := K2.out.c2
  have u0 := K1.out.cell (v := .int .i64 un) 0 rfl
  have u1 := K1.out.cell (v := .int .i64 ud) 1 rfl
  go_wp2_with fail
  refine (HC1.out _).mono ?_
  rintro e we ⟨rfl, hb⟩
  replace K1 := hidU (K1.out.below hb)
  replace K2 := hidU (K2.out.below hb)
  replace K3 := hidU (K3.out.below hb)
  replace HB := hidU (HB.out.trans (hb.mono HB.out.size))
  clear hb v0 v1 u0 u1
  obtain ⟨v0, v1⟩ := K2.out.c2
  obtain ⟨f0, f1⟩ := K2.out.f2
  have K1b := hidU (K1.out.other2 HNE.out.2.2.1 (.int .i64 mn) (.int .i64 md))
  have K3b := hidU (K3.out.other2 HNE.out.2.2.2.1 (.int .i64 mn) (.int .i64 md))
  have K2b := hidU (K2.out.set2 (.int .i64 mn) (.int .i64 md))
  have HBb := hidU (below_set2 HB.out HNE.out.1 (.int .i64 mn) (.int .i64 md))
  go_upto_region 2 with fail
  obtain ⟨Y, hY⟩ : ∃ Y, Y = (we.setCell ⟨V, 0, none⟩ (.int .i64 mn)).setCell ⟨V, 1, none⟩ (.int .i64 md) := ⟨_, rfl⟩
  rw [← hY] at K1b K2b K3b HBb ⊢
  clear hY v0 v1 f0 f1 K1 K2 K3 HB
  have K1 := K1b
  have K2 := K2b
  have K3 := K3b
  have HB := HBb
  clear K1b K2b K3b HBb
  refine wp_region_noPanic ?_
  have hb := (Below.refl Y.heap.size Y).drew
  replace K1 := hidU (K1.out.below hb)
  replace K2 := hidU (K2.out.below hb)
  replace K3 := hidU (K3.out.below hb)
  replace HB := hidU (HB.out.trans (hb.mono HB.out.size))
  clear hb
  refine wp_region_held_drew (S := fun _ => True) (by kernel_rfl) trivial (fun hHeld => ?_)
  obtain ⟨wd, hwd⟩ : ∃ u, u = Y.drew := ⟨_, rfl⟩
  rw [← hwd] at K1 K2 K3 HB ⊢
  clear hwd
  refine wpAnyH_take (i := 1) (v := ?_) rfl (by kernel_rfl) (by kernel_rfl) (by kernel_rfl) (fun _ _ _ h => h) (Or.inl ⟨by kernel_rfl, ?_⟩) hHeld ?_
  rotate_left
  · intro wz hSw; (try dsimp only at hSw); go_simp; all_goals (try with_reducible rfl)
  (try simp only [List.getElem_toArray]); (try simp only [List.getElem_cons_succ]); (try simp only [List.getElem_cons_zero]); (try simp only [Act.put]); (try simp only [List.setIfInBounds_toArray]); (try simp only [List.set_cons_succ]); (try simp only [List.set_cons_zero])
  refine wpAnyH_ready (rs := [0, 2]) (by kernel_rfl) (by simp) (AllReadyH.cons rfl (fun Kc hKc => ?_) (AllReadyH.cons rfl (fun Kc hKc => ?_) AllReadyH.nil))
  · have v0 := K2.out.cell (v := .int .i64 mn) 0 rfl
    have v1 := K2.out.cell (v := .int .i64 md) 1 rfl
    go_simp
    refine hKc.out _ _ trivial (fun hHeld => ?_)
    clear hKc Kc
    (try simp only [List.getElem_toArray]); (try simp only [List.getElem_cons_succ]); (try simp only [List.getElem_cons_zero]); (try simp only [Act.put]); (try simp only [List.setIfInBounds_toArray]); (try simp only [List.set_cons_succ]); (try simp only [List.set_cons_zero])
    clear v0 v1
    refine wpAnyH_ready (rs := [2]) (by kernel_rfl) (by simp) (AllReadyH.cons rfl (fun Kc hKc => ?_) AllReadyH.nil)
    go_simp
    refine (HZ.out _).mono ?_
    rintro e wz0 ⟨rfl, hb⟩
    replace K1 := hidU (K1.out.below hb)
    replace K2 := hidU (K2.out.below hb)
    replace K3 := hidU (K3.out.below hb)
    replace HB := hidU (HB.out.trans (hb.mono HB.out.size))
    clear hb
    go_wp2_with fail
    refine hKc.out _ _ trivial (fun hHeld => ?_)
    clear hKc Kc
    (try simp only [List.getElem_toArray]); (try simp only [List.getElem_cons_succ]); (try simp only [List.getElem_cons_zero]); (try simp only [Act.put]); (try simp only [List.setIfInBounds_toArray]); (try simp only [List.set_cons_succ]); (try simp only [List.set_cons_zero])
    refine wpAnyH_ready (rs := [3]) (by kernel_rfl) (by simp) (AllReadyH.cons rfl (fun Kc hKc => ?_) AllReadyH.nil)
    go_simp
    refine (HC2.out _).mono ?_
    rintro e wy0 ⟨rfl, hb⟩
    replace K1 := hidU (K1.out.below hb)
    replace K2 := hidU (K2.out.below hb)
    replace K3 := hidU (K3.out.below hb)
    replace HB := hidU (HB.out.trans (hb.mono HB.out.size))
    clear hb
    go_wp2_with fail
    refine hKc.out _ _ trivial (fun hHeld => ?_)
    clear hKc Kc
    (try simp only [List.getElem_toArray]); (try simp only [List.getElem_cons_succ]); (try simp only [List.getElem_cons_zero]); (try simp only [Act.put]); (try simp only [List.setIfInBounds_toArray]); (try simp only [List.set_cons_succ]); (try simp only [List.set_cons_zero])
    refine wpAnyH_take (i := 4) (v := ?_) rfl (by kernel_rfl) (by kernel_rfl) (by kernel_rfl) (fun _ _ _ h => h) (Or.inl ⟨by kernel_rfl, ?_⟩) hHeld ?_
    rotate_left
    · intro wz hSw; (try dsimp only at hSw); go_simp; all_goals (try with_reducible rfl)
    (try simp only [List.getElem_toArray]); (try simp only [List.getElem_cons_succ]); (try simp only [List.getElem_cons_zero]); (try simp only [Act.put]); (try simp only [List.setIfInBounds_toArray]); (try simp only [List.set_cons_succ]); (try simp only [List.set_cons_zero])
    refine wpAnyH_take (i := 5) (v := ?_) rfl (by kernel_rfl) (by kernel_rfl) (by kernel_rfl) (fun _ _ _ h => h) (Or.inl ⟨by kernel_rfl, ?_⟩) hHeld ?_
    rotate_left
    · intro wz hSw; (try dsimp only at hSw); go_simp; all_goals (try with_reducible rfl)
    (try simp only [List.getElem_toArray]); (try simp only [List.getElem_cons_succ]); (try simp only [List.getElem_cons_zero]); (try simp only [Act.put]); (try simp only [List.setIfInBounds_toArray]); (try simp only [List.set_cons_succ]); (try simp only [List.set_cons_zero])
    have z0 := K3.out.cell (v := .int .i64 0) 0 rfl
    have z1 := K3.out.cell (v := .int .i64 0) 1 rfl
    have f0 := K3.out.frozen 0
    have f1 := K3.out.frozen 1
    have KZ := hidU (K3.out.set2 (.int .i64 rn) (.int .i64 rd))
    have HBZ := hidU (below_set2 HB.out HNE.out.2.1 (.int .i64 rn) (.int .i64 rd))
    refine wpAnyH_ready (rs := [6]) (by kernel_rfl) (by simp) (AllReadyH.cons rfl (fun Kc hKc => ?_) AllReadyH.nil)
    go_simp
    refine hKc.out _ _ trivial (fun hHeld => ?_)
    clear hKc Kc
    (try simp only [List.getElem_toArray]); (try simp only [List.getElem_cons_succ]); (try simp only [List.getElem_cons_zero]); (try simp only [Act.put]); (try simp only [List.setIfInBounds_toArray]); (try simp only [List.set_cons_succ]); (try simp only [List.set_cons_zero])
    clear z0 z1 f0 f1
    refine wpAnyH_take (i := 7) (v := ?_) rfl (by kernel_rfl) (by kernel_rfl) (by kernel_rfl) (fun _ _ _ h => h) (Or.inl ⟨by kernel_rfl, ?_⟩) hHeld ?_
    rotate_left
    · intro wz hSw; (try dsimp only at hSw); go_simp; all_goals (try with_reducible rfl)
    (try simp only [List.getElem_toArray]); (try simp only [List.getElem_cons_succ]); (try simp only [List.getElem_cons_zero]); (try simp only [Act.put]); (try simp only [List.setIfInBounds_toArray]); (try simp only [List.set_cons_succ]); (try simp only [List.set_cons_zero])
    refine wpAnyH_done (by kernel_rfl) ?_ _
    refine NoPanic.normal ?_
    go_wp2
    obtain ⟨y0, y1⟩ := KZ.out.c2
    exact bodyPost_ret (v := .tuple #[.agg #[.int .i64 rn, .int .i64 rd], .bool ro]) (by simp [results, Tryz.results35, go_sem, y0, y1]) rfl ⟨rfl, HBZ.out⟩
  · go_simp
    refine (HZ.out _).mono ?_
    rintro e wz1 ⟨rfl, hb⟩
    replace K1 := hidU (K1.out.below hb)
    replace K2 := hidU (K2.out.below hb)
    replace K3 := hidU (K3.out.below hb)
    replace HB := hidU (HB.out.trans (hb.mono HB.out.size))
    clear hb
    go_wp2_with fail
    refine hKc.out _ _ trivial (fun hHeld => ?_)
    clear hKc Kc
    (try simp only [List.getElem_toArray]); (try simp only [List.getElem_cons_succ]); (try simp only [List.getElem_cons_zero]); (try simp only [Act.put]); (try simp only [List.setIfInBounds_toArray]); (try simp only [List.set_cons_succ]); (try simp only [List.set_cons_zero])
    refine wpAnyH_ready (rs := [0]) (by kernel_rfl) (by simp) (AllReadyH.cons rfl (fun Kc hKc => ?_) AllReadyH.nil)
    have v0 := K2.out.cell (v := .int .i64 mn) 0 rfl
    have v1 := K2.out.cell (v := .int .i64 md) 1 rfl
    go_simp
    refine hKc.out _ _ trivial (fun hHeld => ?_)
    clear hKc Kc
    (try simp only [List.getElem_toArray]); (try simp only [List.getElem_cons_succ]); (try simp only [List.getElem_cons_zero]); (try simp only [Act.put]); (try simp only [List.setIfInBounds_toArray]); (try simp only [List.set_cons_succ]); (try simp only [List.set_cons_zero])
    clear v0 v1
    refine wpAnyH_ready (rs := [3]) (by kernel_rfl) (by simp) (AllReadyH.cons rfl (fun Kc hKc => ?_) AllReadyH.nil)
    go_simp
    refine (HC2.out _).mono ?_
    rintro e wy1 ⟨rfl, hb⟩
    replace K1 := hidU (K1.out.below hb)
    replace K2 := hidU (K2.out.below hb)
    replace K3 := hidU (K3.out.below hb)
    replace HB := hidU (HB.out.trans (hb.mono HB.out.size))
    clear hb
    go_wp2_with fail
    refine hKc.out _ _ trivial (fun hHeld => ?_)
    clear hKc Kc
    (try simp only [List.getElem_toArray]); (try simp only [List.getElem_cons_succ]); (try simp only [List.getElem_cons_zero]); (try simp only [Act.put]); (try simp only [List.setIfInBounds_toArray]); (try simp only [List.set_cons_succ]); (try simp only [List.set_cons_zero])
    refine wpAnyH_take (i := 4) (v := ?_) rfl (by kernel_rfl) (by kernel_rfl) (by kernel_rfl) (fun _ _ _ h => h) (Or.inl ⟨by kernel_rfl, ?_⟩) hHeld ?_
    rotate_left
    · intro wz hSw; (try dsimp only at hSw); go_simp; all_goals (try with_reducible rfl)
    (try simp only [List.getElem_toArray]); (try simp only [List.getElem_cons_succ]); (try simp only [List.getElem_cons_zero]); (try simp only [Act.put]); (try simp only [List.setIfInBounds_toArray]); (try simp only [List.set_cons_succ]); (try simp only [List.set_cons_zero])
    refine wpAnyH_take (i := 5) (v := ?_) rfl (by kernel_rfl) (by kernel_rfl) (by kernel_rfl) (fun _ _ _ h => h) (Or.inl ⟨by kernel_rfl, ?_⟩) hHeld ?_
    rotate_left
    · intro wz hSw; (try dsimp only at hSw); go_simp; all_goals (try with_reducible rfl)
    (try simp only [List.getElem_toArray]); (try simp only [List.getElem_cons_succ]); (try simp only [List.getElem_cons_zero]); (try simp only [Act.put]); (try simp only [List.setIfInBounds_toArray]); (try simp only [List.set_cons_succ]); (try simp only [List.set_cons_zero])
    have z0 := K3.out.cell (v := .int .i64 0) 0 rfl
    have z1 := K3.out.cell (v := .int .i64 0) 1 rfl
    have f0 := K3.out.frozen 0
    have f1 := K3.out.frozen 1
    have KZ := hidU (K3.out.set2 (.int .i64 rn) (.int .i64 rd))
    have HBZ := hidU (below_set2 HB.out HNE.out.2.1 (.int .i64 rn) (.int .i64 rd))
    refine wpAnyH_ready (rs := [6]) (by kernel_rfl) (by simp) (AllReadyH.cons rfl (fun Kc hKc => ?_) AllReadyH.nil)
    go_simp
    refine hKc.out _ _ trivial (fun hHeld => ?_)
    clear hKc Kc
    (try simp only [List.getElem_toArray]); (try simp only [List.getElem_cons_succ]); (try simp only [List.getElem_cons_zero]); (try simp only [Act.put]); (try simp only [List.setIfInBounds_toArray]); (try simp only [List.set_cons_succ]); (try simp only [List.set_cons_zero])
    clear z0 z1 f0 f1
    refine wpAnyH_take (i := 7) (v := ?_) rfl (by kernel_rfl) (by kernel_rfl) (by kernel_rfl) (fun _ _ _ h => h) (Or.inl ⟨by kernel_rfl, ?_⟩) hHeld ?_
    rotate_left
    · intro wz hSw; (try dsimp only at hSw); go_simp; all_goals (try with_reducible rfl)
    (try simp only [List.getElem_toArray]); (try simp only [List.getElem_cons_succ]); (try simp only [List.getElem_cons_zero]); (try simp only [Act.put]); (try simp only [List.setIfInBounds_toArray]); (try simp only [List.set_cons_succ]); (try simp only [List.set_cons_zero])
    refine wpAnyH_done (by kernel_rfl) ?_ _
    refine NoPanic.normal ?_
    go_wp2
    obtain ⟨y0, y1⟩ := KZ.out.c2
    exact bodyPost_ret (v := .tuple #[.agg #[.int .i64 rn, .int .i64 rd], .bool ro]) (by simp [results, Tryz.results35, go_sem, y0, y1]) rfl ⟨rfl, HBZ.out⟩

end Go.Proofs.YtnhefbhiemdhoaaGreat
