/- Fractions are a field, as far as they go: what is taken or divided comes back. -/
import Derived.Test.YthmdiljcceiedaaOrderMath
namespace Go.Proofs.Ythmdiljcceiedaa.RM
theorem mul_in (x y A B : Int) (h1 : -A ≤ x) (h2 : x ≤ A) (h3 : -B ≤ y) (h4 : y ≤ B) : -(A * B) ≤ x * y ∧ x * y ≤ A * B := by
  have hA : 0 ≤ A := by omega
  have hB : 0 ≤ B := by omega
  have k : (x * y).natAbs ≤ (A * B).natAbs := by
    rw [Int.natAbs_mul, Int.natAbs_mul]; exact Nat.mul_le_mul (by omega) (by omega)
  have hp : 0 ≤ A * B := Int.mul_nonneg hA hB
  generalize x * y = z at *
  generalize A * B = u at *
  omega
/-- what a reduced fraction times its divisor is -/
theorem red_sg {x y : Int} (h : redOk x y = true) : sg x y ≠ 0 ∧ sg x y * redN x y = x ∧ sg x y * redD x y = y := by
  have h' := h
  unfold redOk at h'
  rw [Bool.and_eq_true] at h'
  have hy := (redIn_out h'.1).1
  have e1 : redN x y = x / sg x y := by unfold redN; rw [if_pos h]
  have e2 : redD x y = y / sg x y := by unfold redD; rw [if_pos h]
  rw [e1, e2]
  exact ⟨sg_ne x y hy, Int.mul_ediv_cancel' (sg_dvd_l x y), Int.mul_ediv_cancel' (sg_dvd_r x y)⟩
theorem cancel {k x y : Int} (hk : k ≠ 0) (h : k * x = k * y) : x = y := Int.eq_of_mul_eq_mul_left hk h
theorem add_sub {a b c d : Int} (h1 : okB a b = true) (s : redOk (a * d + c * b) (b * d) = true)
    (t : redOk (redN (a * d + c * b) (b * d) * d - c * redD (a * d + c * b) (b * d)) (redD (a * d + c * b) (b * d) * d) = true) :
    redN (redN (a * d + c * b) (b * d) * d - c * redD (a * d + c * b) (b * d)) (redD (a * d + c * b) (b * d) * d) = a ∧
    redD (redN (a * d + c * b) (b * d) * d - c * redD (a * d + c * b) (b * d)) (redD (a * d + c * b) (b * d) * d) = b := by
  obtain ⟨k1, n1, d1⟩ := red_sg s
  obtain ⟨k2, n2, d2⟩ := red_sg t
  have ht := okB_redN t
  generalize redN (a * d + c * b) (b * d) = N at *
  generalize redD (a * d + c * b) (b * d) = D at *
  generalize sg (a * d + c * b) (b * d) = g at *
  generalize redN (N * d - c * D) (D * d) = X at *
  generalize redD (N * d - c * D) (D * d) = Y at *
  generalize sg (N * d - c * D) (D * d) = k at *
  refine okB_eq ht h1 (cancel (Int.mul_ne_zero k1 k2) ?_)
  have e1 : g * k * (X * b) = g * (N * d - c * D) * b := by rw [← n2]; ac_rfl
  have e2 : g * k * (a * Y) = a * (g * D) * d := by rw [show g * k * (a * Y) = a * g * (k * Y) from by ac_rfl, d2]; ac_rfl
  have e3 : g * (N * d - c * D) * b = (g * N * d - c * (g * D)) * b := by rw [Int.mul_sub]; congr 2 <;> ac_rfl
  rw [e1, e2, e3, n1, d1, Int.add_mul, show c * b * d = c * (b * d) from by ac_rfl, Int.add_sub_cancel]
  ac_rfl
theorem div_mul {a b c d : Int} (h1 : okB a b = true) (s : redOk (a * d) (b * c) = true)
    (t : redOk (redN (a * d) (b * c) * c) (redD (a * d) (b * c) * d) = true) :
    redN (redN (a * d) (b * c) * c) (redD (a * d) (b * c) * d) = a ∧ redD (redN (a * d) (b * c) * c) (redD (a * d) (b * c) * d) = b := by
  obtain ⟨k1, n1, d1⟩ := red_sg s
  obtain ⟨k2, n2, d2⟩ := red_sg t
  have ht := okB_redN t
  generalize redN (a * d) (b * c) = N at *
  generalize redD (a * d) (b * c) = D at *
  generalize sg (a * d) (b * c) = g at *
  generalize redN (N * c) (D * d) = X at *
  generalize redD (N * c) (D * d) = Y at *
  generalize sg (N * c) (D * d) = k at *
  refine okB_eq ht h1 (cancel (Int.mul_ne_zero k1 k2) ?_)
  have e1 : g * k * (X * b) = g * N * c * b := by rw [show g * k * (X * b) = g * (k * X) * b from by ac_rfl, n2]; ac_rfl
  have e2 : g * k * (a * Y) = a * (g * D) * d := by rw [show g * k * (a * Y) = a * g * (k * Y) from by ac_rfl, d2]; ac_rfl
  rw [e1, e2, n1, d1]
  ac_rfl
theorem add_comm2 (a b c d : Int) : c * b + a * d = a * d + c * b ∧ d * b = b * d := ⟨Int.add_comm _ _, Int.mul_comm _ _⟩
/-- of three small right fractions: the product over the sum is the sum of the products, and nothing is too great -/
theorem spread {a b c d p q : Int} (a1 : -6 ≤ a) (a2 : a ≤ 6) (b1 : 1 ≤ b) (b2 : b ≤ 4) (c1 : -6 ≤ c) (c2 : c ≤ 6) (d1 : 1 ≤ d) (d2 : d ≤ 4) (p1 : -6 ≤ p) (p2 : p ≤ 6) (q1 : 1 ≤ q) (q2 : q ≤ 4) :
    ∃ sN sD lN lD mN mD nN nD rN rD : Int,
      (redOk (c * q + p * d) (d * q) = true ∧ redN (c * q + p * d) (d * q) = sN ∧ redD (c * q + p * d) (d * q) = sD ∧ okB sN sD = true) ∧
      (redOk (a * sN) (b * sD) = true ∧ redN (a * sN) (b * sD) = lN ∧ redD (a * sN) (b * sD) = lD) ∧
      (redOk (a * c) (b * d) = true ∧ redN (a * c) (b * d) = mN ∧ redD (a * c) (b * d) = mD ∧ okB mN mD = true) ∧
      (redOk (a * p) (b * q) = true ∧ redN (a * p) (b * q) = nN ∧ redD (a * p) (b * q) = nD ∧ okB nN nD = true) ∧
      (redOk (mN * nD + nN * mD) (mD * nD) = true ∧ redN (mN * nD + nN * mD) (mD * nD) = rN ∧ redD (mN * nD + nN * mD) (mD * nD) = rD) ∧ lN = rN ∧ lD = rD := by
  have pos : ∀ {x y : Int}, 1 ≤ x → 1 ≤ y → 1 ≤ x * y := fun hx hy => Int.mul_pos (by omega) (by omega)
  have u1 := mul_in c q 6 4 c1 c2 (by omega) q2
  have u2 := mul_in p d 6 4 p1 p2 (by omega) d2
  have u3 := mul_in d q 4 4 (by omega) d2 (by omega) q2
  have u3' := pos d1 q1
  obtain ⟨s1, s2, s3, s4, s5, s6⟩ := red_small (x := c * q + p * d) (y := d * q) (m := 48) (by omega) (by omega) (by omega) u3' (by omega)
  obtain ⟨gs, gs1, gs2⟩ := red_sg s1
  have v1 := mul_in a (redN (c * q + p * d) (d * q)) 6 48 a1 a2 s3 s4
  have v2 := mul_in b (redD (c * q + p * d) (d * q)) 4 16 (by omega) b2 (by omega) (by omega)
  have v2' := pos b1 s5
  obtain ⟨l1, l2, l3, l4, l5, l6⟩ := red_small (x := a * redN (c * q + p * d) (d * q)) (y := b * redD (c * q + p * d) (d * q)) (m := 288) (by omega) (by omega) (by omega) v2' (by omega)
  obtain ⟨gl, gl1, gl2⟩ := red_sg l1
  have w1 := mul_in a c 6 6 a1 a2 c1 c2
  have w2 := mul_in b d 4 4 (by omega) b2 (by omega) d2
  have w2' := pos b1 d1
  obtain ⟨m1, m2, m3, m4, m5, m6⟩ := red_small (x := a * c) (y := b * d) (m := 36) (by omega) (by omega) (by omega) w2' (by omega)
  obtain ⟨gm, gm1, gm2⟩ := red_sg m1
  have x1 := mul_in a p 6 6 a1 a2 p1 p2
  have x2 := mul_in b q 4 4 (by omega) b2 (by omega) q2
  have x2' := pos b1 q1
  obtain ⟨n1, n2, n3, n4, n5, n6⟩ := red_small (x := a * p) (y := b * q) (m := 36) (by omega) (by omega) (by omega) x2' (by omega)
  obtain ⟨gn, gn1, gn2⟩ := red_sg n1
  have y1 := mul_in (redN (a * c) (b * d)) (redD (a * p) (b * q)) 36 16 m3 m4 (by omega) (by omega)
  have y2 := mul_in (redN (a * p) (b * q)) (redD (a * c) (b * d)) 36 16 n3 n4 (by omega) (by omega)
  have y3 := mul_in (redD (a * c) (b * d)) (redD (a * p) (b * q)) 16 16 (by omega) (by omega) (by omega) (by omega)
  have y3' := pos m5 n5
  obtain ⟨r1, r2, r3, r4, r5, r6⟩ := red_small (x := redN (a * c) (b * d) * redD (a * p) (b * q) + redN (a * p) (b * q) * redD (a * c) (b * d)) (y := redD (a * c) (b * d) * redD (a * p) (b * q)) (m := 1152) (by omega) (by omega) (by omega) y3' (by omega)
  obtain ⟨gr, gr1, gr2⟩ := red_sg r1
  refine ⟨_, _, _, _, _, _, _, _, _, _, ⟨s1, rfl, rfl, s2⟩, ⟨l1, rfl, rfl⟩, ⟨m1, rfl, rfl, m2⟩, ⟨n1, rfl, rfl, n2⟩, ⟨r1, rfl, rfl⟩, ?_⟩
  refine okB_eq l2 r2 ?_
  clear s1 s2 s3 s4 s5 s6 l1 l2 l3 l4 l5 l6 m1 m2 m3 m4 m5 m6 n1 n2 n3 n4 n5 n6 r1 r2 r3 r4 r5 r6 u1 u2 u3 u3' v1 v2 v2' w1 w2 w2' x1 x2 x2' y1 y2 y3 y3' pos
  generalize redN (c * q + p * d) (d * q) = sN at *
  generalize redD (c * q + p * d) (d * q) = sD at *
  generalize sg (c * q + p * d) (d * q) = ks at *
  generalize redN (a * sN) (b * sD) = lN at *
  generalize redD (a * sN) (b * sD) = lD at *
  generalize sg (a * sN) (b * sD) = kl at *
  generalize redN (a * c) (b * d) = mN at *
  generalize redD (a * c) (b * d) = mD at *
  generalize sg (a * c) (b * d) = km at *
  generalize redN (a * p) (b * q) = nN at *
  generalize redD (a * p) (b * q) = nD at *
  generalize sg (a * p) (b * q) = kn at *
  generalize redN (mN * nD + nN * mD) (mD * nD) = rN at *
  generalize redD (mN * nD + nN * mD) (mD * nD) = rD at *
  generalize sg (mN * nD + nN * mD) (mD * nD) = kr at *
  refine cancel (Int.mul_ne_zero (Int.mul_ne_zero gs gl) (Int.mul_ne_zero gr (Int.mul_ne_zero gm gn))) ?_
  have e1 : ks * kl * (kr * (km * kn)) * (lN * rD) = a * (ks * sN) * ((km * mD) * (kn * nD)) := by
    rw [show ks * kl * (kr * (km * kn)) * (lN * rD) = ks * (kl * lN) * ((km * kn) * (kr * rD)) from by ac_rfl, gl1, gr2]; ac_rfl
  have e2 : ks * kl * (kr * (km * kn)) * (rN * lD) = b * (ks * sD) * ((km * mN) * (kn * nD) + (kn * nN) * (km * mD)) := by
    rw [show ks * kl * (kr * (km * kn)) * (rN * lD) = ks * (kl * lD) * ((km * kn) * (kr * rN)) from by ac_rfl, gl2, gr1, Int.mul_add (km * kn)]
    congr 1
    · ac_rfl
    · congr 1 <;> ac_rfl
  rw [e1, e2, gs1, gs2, gm1, gm2, gn1, gn2, Int.mul_add a, Int.add_mul (a * (c * q)), Int.mul_add (b * (d * q))]
  congr 1 <;> ac_rfl
theorem op_true {t : Bool} {x y : Int} (h : opOk t x y = true) : t = true ∧ redOk x y = true ∧ opN t x y = redN x y ∧ opD t x y = redD x y := by
  unfold opOk at h
  rw [Bool.and_eq_true] at h
  obtain ⟨h1, h2⟩ := h
  subst h1
  exact ⟨rfl, h2, rfl, rfl⟩
theorem sub_back {a b c d N D : Int} (hN : N = opN (two a b c d) (a * d + c * b) (b * d)) (hD : D = opD (two a b c d) (a * d + c * b) (b * d)) (h : opOk (two a b c d) (a * d + c * b) (b * d) = true)
    (k : opOk (two N D c d) (N * d - c * D) (D * d) = true) : a = opN (two N D c d) (N * d - c * D) (D * d) ∧ b = opD (two N D c d) (N * d - c * D) (D * d) := by
  obtain ⟨t1, r1, e1, e2⟩ := op_true h
  obtain ⟨t2, r2, e3, e4⟩ := op_true k
  rw [e3, e4]
  rw [e1] at hN
  rw [e2] at hD
  subst hN hD
  have := add_sub (two_out t1).1 r1 r2
  exact ⟨this.1.symm, this.2.symm⟩
theorem mul_back {a b c d N D : Int} (hN : N = opN (two a b c d) (a * d) (b * c)) (hD : D = opD (two a b c d) (a * d) (b * c)) (h : opOk (two a b c d) (a * d) (b * c) = true)
    (k : opOk (two N D c d) (N * c) (D * d) = true) : a = opN (two N D c d) (N * c) (D * d) ∧ b = opD (two N D c d) (N * c) (D * d) := by
  obtain ⟨t1, r1, e1, e2⟩ := op_true h
  obtain ⟨t2, r2, e3, e4⟩ := op_true k
  rw [e3, e4]
  rw [e1] at hN
  rw [e2] at hD
  subst hN hD
  have := div_mul (two_out t1).1 r1 r2
  exact ⟨this.1.symm, this.2.symm⟩
end Go.Proofs.Ythmdiljcceiedaa.RM
