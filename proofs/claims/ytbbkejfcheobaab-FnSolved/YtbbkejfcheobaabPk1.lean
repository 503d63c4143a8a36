/- Several texts of this proof laid one behind the other: each has its own heading below. -/
import Derived.Test.YtbbkejfcheobaabKerMath
import Derived.Test.YtbbkejfcheobaabRatioMath

/- What Solved answers, in plain lists. -/
namespace Go.Proofs.Ytbbkejfcheobaab
open Go.RowKit Go.Proofs.Ytbbkejfcheobaab.RM

/-- the rows with right's elements behind them -/
def wideT (rows : List (List Fr)) (right : List Fr) : List (List Fr) := (List.range rows.length).map fun i => rw' rows i ++ [fr right i]
theorem wideT_len (rows : List (List Fr)) (right : List Fr) : (wideT rows right).length = rows.length := by simp [wideT]
theorem wideT_at (rows : List (List Fr)) (right : List Fr) (i : Nat) (h : i < rows.length) : rw' (wideT rows right) i = rw' rows i ++ [fr right i] := by simp [wideT, rw', h]
/-- is it as told, right's fractions aside -/
def solC (rows : List (List Fr)) (right : List Fr) : Bool := decide (rows.length ≤ 5) && (tabB rows 6 && (decide ((rw' rows 0).length = rows.length) && decide (right.length = rows.length)))
theorem solC_out {rows : List (List Fr)} {right : List Fr} (h : solC rows right = true) : rows.length ≤ 5 ∧ tabB rows 6 = true ∧ (rw' rows 0).length = rows.length ∧ right.length = rows.length := by
  unfold solC at h
  simpa [Bool.and_eq_true, and_assoc] using h
theorem solC_no {rows : List (List Fr)} {right : List Fr} (h : ¬ (rows.length ≤ 5 ∧ tabB rows 6 = true ∧ (rw' rows 0).length = rows.length ∧ right.length = rows.length)) : solC rows right = false := by
  rw [← Bool.not_eq_true]
  exact fun h2 => h (solC_out h2)
/-- just one free column: right's -/
def solF (n : Nat) (C : List Nat) : Bool := decide (freeC (n + 1) C = [n])
def solO (rows : List (List Fr)) (right : List Fr) : Bool := solC rows right && (echO (wideT rows right) && solF rows.length (echC (wideT rows right)))
def solX (rows : List (List Fr)) (right : List Fr) : List Fr := (List.range rows.length).map fun i => fr (rw' (echR (wideT rows right)) i) rows.length
def solA (rows : List (List Fr)) (right : List Fr) : List Fr := if solO rows right then solX rows right else []
theorem solA_no {rows : List (List Fr)} {right : List Fr} (h : solO rows right = false) : solA rows right = [] := by simp [solA, h]
theorem solA_yes {rows : List (List Fr)} {right : List Fr} (h : solO rows right = true) : solA rows right = solX rows right := by simp [solA, h]
theorem solX_len (rows : List (List Fr)) (right : List Fr) : (solX rows right).length = rows.length := by simp [solX]
theorem solX_at (rows : List (List Fr)) (right : List Fr) (i : Nat) (h : i < rows.length) : fr (solX rows right) i = fr (rw' (echR (wideT rows right)) i) rows.length := by simp [solX, fr, h]
/-- the wide table is one where right's fractions are right -/
theorem wide_tab {rows : List (List Fr)} {right : List Fr} (h : solC rows right = true) : tabB (wideT rows right) 6 = allOk right := by
  obtain ⟨h1, h2, h3, h4⟩ := solC_out h
  obtain ⟨⟨t1, t2, t3, t4⟩, tr⟩ := tabB_out h2
  have h0 : (rw' (wideT rows right) 0).length = rows.length + 1 := by rw [wideT_at _ _ _ (by omega)]; simp [h3]
  cases hr : allOk right with
  | true =>
    refine tabB_yes (by rw [wideT_len, h0]; omega) (fun k hk => ?_)
    rw [wideT_len] at hk
    rw [h0, wideT_at _ _ _ hk]
    refine ⟨by rw [List.length_append, (tr k hk).1, h3]; rfl, ?_⟩
    unfold allOk
    rw [List.all_append]
    have e1 := (tr k hk).2
    unfold allOk at e1
    rw [e1]
    have e2 := allOk_at hr (k := k) (by omega)
    simpa using e2
  | false =>
    have hbad : ∃ k, k < right.length ∧ okB (fr right k).1 (fr right k).2 = false := by
      apply Classical.byContradiction
      intro hn
      have : allOk right = true := allOk_yes (fun k hk => by
        cases e : okB (fr right k).1 (fr right k).2 with
        | true => rfl
        | false => exact absurd ⟨k, hk, e⟩ hn)
      rw [hr] at this; cases this
    obtain ⟨k, hk, hb⟩ := hbad
    refine tabB_row (k := k) (by rw [wideT_len]; omega) (fun hh => ?_)
    have e1 := hh.2
    rw [wideT_at _ _ _ (by omega)] at e1
    unfold allOk at e1
    rw [List.all_append, Bool.and_eq_true] at e1
    have e2 := e1.2
    simp [hb] at e2
theorem atP_run {n : Nat} {C : List Nat} (hr : rises C) (h : ∀ x, x < n → x ∈ C) : ∀ k, k ≤ n → atP C k k ∧ ∀ i, i < k → nt C i = i
  | 0, _ => ⟨atP_zero C, fun i hi => absurd hi (Nat.not_lt_zero _)⟩
  | k + 1, hk => by
    obtain ⟨h1, h2⟩ := atP_run hr h k (by omega)
    have hm := h k (by omega)
    have hc : k < C.length ∧ nt C k = k := by
      apply Classical.byContradiction
      intro hn
      exact (atP_no hr h1 (fun hl e => hn ⟨hl, e⟩)).2 hm
    refine ⟨(atP_yes hr h1 hc.1 hc.2).1, fun i hi => ?_⟩
    by_cases e : i = k
    · subst e; exact hc.2
    · exact h2 i (by omega)
/-- the model's way to say the same -/
theorem solF_model {n : Nat} {C : List Nat} (hn : 1 ≤ n) (hr : rises C) (hl : ∀ c, c ∈ C → c < n + 1) : solF n C = (decide (C.length = n) && decide (nt C (n - 1) = n - 1)) := by
  unfold solF
  rw [Bool.eq_iff_iff, decide_eq_true_eq, Bool.and_eq_true, decide_eq_true_eq, decide_eq_true_eq]
  constructor
  · intro h
    have hin : ∀ x, x < n → x ∈ C := by
      intro x hx
      apply Classical.byContradiction
      intro hn2
      have : x ∈ freeC (n + 1) C := freeC_mem.2 ⟨by omega, hn2⟩
      rw [h] at this
      simp at this
      omega
    have hout : n ∉ C := by
      have : n ∈ freeC (n + 1) C := by rw [h]; simp
      exact (freeC_mem.1 this).2
    obtain ⟨h1, h2⟩ := atP_run hr hin n (Nat.le_refl _)
    have hlen : C.length = n := by
      apply Classical.byContradiction
      intro hne
      have hgt : n < C.length := by have := h1.1; omega
      have h3 := h1.2.2 n (Nat.le_refl _) hgt
      have h4 := hl _ (nt_mem hgt)
      exact hout (by have := nt_mem hgt; rw [show nt C n = n by omega] at this; exact this)
    exact ⟨hlen, h2 (n - 1) (by omega)⟩
  · rintro ⟨h1, h2⟩
    have hle : ∀ k, k < n → nt C (n - 1 - k) ≤ n - 1 - k := by
      intro k
      induction k with
      | zero => intro _; simp [h2]
      | succ k ih =>
        intro hk
        have := ih (by omega)
        have := hr (n - 1 - (k + 1)) (n - 1 - k) (by omega) (by omega)
        omega
    have hge : ∀ k, k < n → k ≤ nt C k := by
      intro k
      induction k with
      | zero => intro _; omega
      | succ k ih =>
        intro hk
        have := ih (by omega)
        have := hr k (k + 1) (by omega) (by omega)
        omega
    have heq : ∀ k, k < n → nt C k = k := by
      intro k hk
      have a := hge k hk
      have b := hle (n - 1 - k) (by omega)
      rw [show n - 1 - (n - 1 - k) = k by omega] at b
      omega
    have hin : ∀ x, x < n → x ∈ C := fun x hx => by have := nt_mem (C := C) (k := x) (by omega); rw [heq x hx] at this; exact this
    have hout : n ∉ C := by
      intro hm
      obtain ⟨i, hi, he⟩ := mem_nt hm
      have := heq i (by omega)
      omega
    have hz : ∀ k, k ≤ n → freeC k C = [] := by
      intro k
      induction k with
      | zero => intro _; rfl
      | succ k ih => intro hk; rw [freeC_in (hin k (by omega))]; exact ih (by omega)
    rw [freeC_out hout, hz n (Nat.le_refl _)]
    rfl
theorem solA_small (rows : List (List Fr)) (right : List Fr) : (solA rows right).length ≤ 1048576 := by
  cases ho : solO rows right with
  | false => rw [solA_no ho]; simp
  | true =>
    have h := ho
    unfold solO at h
    rw [Bool.and_eq_true] at h
    obtain ⟨h1, _⟩ := solC_out h.1
    rw [solA_yes ho, solX_len]
    omega
end Go.Proofs.Ytbbkejfcheobaab

/- The order of fractions: sums keep it, and of two unlike ones one is less. -/
namespace Go.Proofs.Ytbbkejfcheobaab.RM
theorem lt_iff_mul {x y k : Int} (hk : 0 < k) : k * x < k * y ↔ x < y :=
  ⟨fun h => Int.lt_of_mul_lt_mul_left h (Int.le_of_lt hk), fun h => Int.mul_lt_mul_of_pos_left h hk⟩
theorem red_parts {x y : Int} (h : redOk x y = true) (hy : 0 < y) : 0 < gcdi x y ∧ gcdi x y * redN x y = x ∧ gcdi x y * redD x y = y := by
  have hs := sg_pos (n := x) (d := y) (by omega)
  have e1 : redN x y = x / sg x y := by unfold redN; rw [if_pos h]
  have e2 : redD x y = y / sg x y := by unfold redD; rw [if_pos h]
  rw [e1, e2, hs]
  exact ⟨gcdi_pos_r x y (by omega), Int.mul_ediv_cancel' (gcdi_dvd_l x y), Int.mul_ediv_cancel' (gcdi_dvd_r x y)⟩
theorem add_less {a b c d p q : Int} (hb : 0 < b) (hd : 0 < d) (hq : 0 < q) (hab : two a b c d = true) (h1 : redOk (a * q + p * b) (b * q) = true) (h2 : redOk (c * q + p * d) (d * q) = true) :
    lessB (redN (a * q + p * b) (b * q)) (redD (a * q + p * b) (b * q)) (redN (c * q + p * d) (d * q)) (redD (c * q + p * d) (d * q)) = lessB a b c d := by
  have t := two_yes (okB_redN h1) (okB_redN h2)
  obtain ⟨g1, n1, d1⟩ := red_parts h1 (Int.mul_pos hb hq)
  obtain ⟨g2, n2, d2⟩ := red_parts h2 (Int.mul_pos hd hq)
  unfold lessB
  rw [t, hab]
  generalize gcdi (a * q + p * b) (b * q) = k1 at *
  generalize gcdi (c * q + p * d) (d * q) = k2 at *
  generalize redN (a * q + p * b) (b * q) = N1 at *
  generalize redD (a * q + p * b) (b * q) = D1 at *
  generalize redN (c * q + p * d) (d * q) = N2 at *
  generalize redD (c * q + p * d) (d * q) = D2 at *
  have e : (N1 * D2 < N2 * D1) ↔ (a * d < c * b) := by
    rw [← lt_iff_mul (Int.mul_pos g1 g2), ← lt_iff_mul (Int.mul_pos hq hq) (x := a * d)]
    have e1 : k1 * k2 * (N1 * D2) = (a * q + p * b) * (d * q) := by rw [← n1, ← d2]; ac_rfl
    have e2 : k1 * k2 * (N2 * D1) = (c * q + p * d) * (b * q) := by rw [← n2, ← d1]; ac_rfl
    have e3 : (a * q + p * b) * (d * q) = q * q * (a * d) + p * b * d * q := by rw [Int.add_mul]; congr 1 <;> ac_rfl
    have e4 : (c * q + p * d) * (b * q) = q * q * (c * b) + p * b * d * q := by rw [Int.add_mul]; congr 1 <;> ac_rfl
    rw [e1, e2, e3, e4]
    omega
  simp only [e]
theorem less_same (a b : Int) : lessB a b a b = false := by unfold lessB; rw [decide_eq_false (by omega)]; simp
theorem dvd_cop {k m n : Int} (h : Int.gcd k m = 1) (hd : k ∣ m * n) : k ∣ n := by
  rw [← Int.natAbs_dvd_natAbs] at hd ⊢
  rw [Int.natAbs_mul] at hd
  exact Nat.Coprime.dvd_of_dvd_mul_left (by unfold Nat.Coprime; rw [Int.gcd_eq_natAbs_gcd_natAbs] at h; exact h) hd
theorem okB_eq {a b c d : Int} (h1 : okB a b = true) (h2 : okB c d = true) (h : a * d = c * b) : a = c ∧ b = d := by
  have p1 := okB_out h1
  have p2 := okB_out h2
  have g1 : Int.gcd a b = 1 := by have := p1.2.2.2.2; unfold gcdi at this; omega
  have g2 : Int.gcd c d = 1 := by have := p2.2.2.2.2; unfold gcdi at this; omega
  have d1 : b ∣ d := by
    have : b ∣ a * d := ⟨c, by rw [h]; ac_rfl⟩
    exact dvd_cop (by rw [Int.gcd_comm]; exact g1) this
  have d2 : d ∣ b := by
    have : d ∣ c * b := ⟨a, by rw [← h]; ac_rfl⟩
    exact dvd_cop (by rw [Int.gcd_comm]; exact g2) this
  have e : b = d := Int.dvd_antisymm (by omega) (by omega) d1 d2
  subst e
  exact ⟨Int.eq_of_mul_eq_mul_right (by omega) h, rfl⟩
theorem less_flip {a b c d : Int} (h1 : okB a b = true) (h2 : okB c d = true) (hne : ¬ (a = c ∧ b = d)) : lessB c d a b = !lessB a b c d := by
  have k : a * d ≠ c * b := fun h => hne (okB_eq h1 h2 h)
  unfold lessB
  rw [two_yes h1 h2, two_yes h2 h1]
  by_cases h : a * d < c * b
  · rw [decide_eq_true h, decide_eq_false (by omega)]; rfl
  · rw [decide_eq_false h, decide_eq_true (by omega)]; rfl
end Go.Proofs.Ytbbkejfcheobaab.RM

/- Fractions are a field, as far as they go: what is taken or divided comes back. -/
namespace Go.Proofs.Ytbbkejfcheobaab.RM
theorem mul_in (x y A B : Int) (h1 : -A ≤ x) (h2 : x ≤ A) (h3 : -B ≤ y) (h4 : y ≤ B) : -(A * B) ≤ x * y ∧ x * y ≤ A * B := by
  have hA : 0 ≤ A := by omega
  have hB : 0 ≤ B := by omega
  have k : (x * y).natAbs ≤ (A * B).natAbs := by
    rw [Int.natAbs_mul, Int.natAbs_mul]; exact Nat.mul_le_mul (by omega) (by omega)
  have hp : 0 ≤ A * B := Int.mul_nonneg hA hB
  generalize x * y = z at *
  generalize A * B = u at *
  omega
/-- what a reduced fraction times its divisor is -/
theorem red_sg {x y : Int} (h : redOk x y = true) : sg x y ≠ 0 ∧ sg x y * redN x y = x ∧ sg x y * redD x y = y := by
  have h' := h
  unfold redOk at h'
  rw [Bool.and_eq_true] at h'
  have hy := (redIn_out h'.1).1
  have e1 : redN x y = x / sg x y := by unfold redN; rw [if_pos h]
  have e2 : redD x y = y / sg x y := by unfold redD; rw [if_pos h]
  rw [e1, e2]
  exact ⟨sg_ne x y hy, Int.mul_ediv_cancel' (sg_dvd_l x y), Int.mul_ediv_cancel' (sg_dvd_r x y)⟩
theorem cancel {k x y : Int} (hk : k ≠ 0) (h : k * x = k * y) : x = y := Int.eq_of_mul_eq_mul_left hk h
theorem add_sub {a b c d : Int} (h1 : okB a b = true) (s : redOk (a * d + c * b) (b * d) = true)
    (t : redOk (redN (a * d + c * b) (b * d) * d - c * redD (a * d + c * b) (b * d)) (redD (a * d + c * b) (b * d) * d) = true) :
    redN (redN (a * d + c * b) (b * d) * d - c * redD (a * d + c * b) (b * d)) (redD (a * d + c * b) (b * d) * d) = a ∧
    redD (redN (a * d + c * b) (b * d) * d - c * redD (a * d + c * b) (b * d)) (redD (a * d + c * b) (b * d) * d) = b := by
  obtain ⟨k1, n1, d1⟩ := red_sg s
  obtain ⟨k2, n2, d2⟩ := red_sg t
  have ht := okB_redN t
  generalize redN (a * d + c * b) (b * d) = N at *
  generalize redD (a * d + c * b) (b * d) = D at *
  generalize sg (a * d + c * b) (b * d) = g at *
  generalize redN (N * d - c * D) (D * d) = X at *
  generalize redD (N * d - c * D) (D * d) = Y at *
  generalize sg (N * d - c * D) (D * d) = k at *
  refine okB_eq ht h1 (cancel (Int.mul_ne_zero k1 k2) ?_)
  have e1 : g * k * (X * b) = g * (N * d - c * D) * b := by rw [← n2]; ac_rfl
  have e2 : g * k * (a * Y) = a * (g * D) * d := by rw [show g * k * (a * Y) = a * g * (k * Y) from by ac_rfl, d2]; ac_rfl
  have e3 : g * (N * d - c * D) * b = (g * N * d - c * (g * D)) * b := by rw [Int.mul_sub]; congr 2 <;> ac_rfl
  rw [e1, e2, e3, n1, d1, Int.add_mul, show c * b * d = c * (b * d) from by ac_rfl, Int.add_sub_cancel]
  ac_rfl
theorem div_mul {a b c d : Int} (h1 : okB a b = true) (s : redOk (a * d) (b * c) = true)
    (t : redOk (redN (a * d) (b * c) * c) (redD (a * d) (b * c) * d) = true) :
    redN (redN (a * d) (b * c) * c) (redD (a * d) (b * c) * d) = a ∧ redD (redN (a * d) (b * c) * c) (redD (a * d) (b * c) * d) = b := by
  obtain ⟨k1, n1, d1⟩ := red_sg s
  obtain ⟨k2, n2, d2⟩ := red_sg t
  have ht := okB_redN t
  generalize redN (a * d) (b * c) = N at *
  generalize redD (a * d) (b * c) = D at *
  generalize sg (a * d) (b * c) = g at *
  generalize redN (N * c) (D * d) = X at *
  generalize redD (N * c) (D * d) = Y at *
  generalize sg (N * c) (D * d) = k at *
  refine okB_eq ht h1 (cancel (Int.mul_ne_zero k1 k2) ?_)
  have e1 : g * k * (X * b) = g * N * c * b := by rw [show g * k * (X * b) = g * (k * X) * b from by ac_rfl, n2]; ac_rfl
  have e2 : g * k * (a * Y) = a * (g * D) * d := by rw [show g * k * (a * Y) = a * g * (k * Y) from by ac_rfl, d2]; ac_rfl
  rw [e1, e2, n1, d1]
  ac_rfl
theorem add_comm2 (a b c d : Int) : c * b + a * d = a * d + c * b ∧ d * b = b * d := ⟨Int.add_comm _ _, Int.mul_comm _ _⟩
/-- of three small right fractions: the product over the sum is the sum of the products, and nothing is too great -/
theorem spread {a b c d p q : Int} (a1 : -6 ≤ a) (a2 : a ≤ 6) (b1 : 1 ≤ b) (b2 : b ≤ 4) (c1 : -6 ≤ c) (c2 : c ≤ 6) (d1 : 1 ≤ d) (d2 : d ≤ 4) (p1 : -6 ≤ p) (p2 : p ≤ 6) (q1 : 1 ≤ q) (q2 : q ≤ 4) :
    ∃ sN sD lN lD mN mD nN nD rN rD : Int,
      (redOk (c * q + p * d) (d * q) = true ∧ redN (c * q + p * d) (d * q) = sN ∧ redD (c * q + p * d) (d * q) = sD ∧ okB sN sD = true) ∧
      (redOk (a * sN) (b * sD) = true ∧ redN (a * sN) (b * sD) = lN ∧ redD (a * sN) (b * sD) = lD) ∧
      (redOk (a * c) (b * d) = true ∧ redN (a * c) (b * d) = mN ∧ redD (a * c) (b * d) = mD ∧ okB mN mD = true) ∧
      (redOk (a * p) (b * q) = true ∧ redN (a * p) (b * q) = nN ∧ redD (a * p) (b * q) = nD ∧ okB nN nD = true) ∧
      (redOk (mN * nD + nN * mD) (mD * nD) = true ∧ redN (mN * nD + nN * mD) (mD * nD) = rN ∧ redD (mN * nD + nN * mD) (mD * nD) = rD) ∧ lN = rN ∧ lD = rD := by
  have pos : ∀ {x y : Int}, 1 ≤ x → 1 ≤ y → 1 ≤ x * y := fun hx hy => Int.mul_pos (by omega) (by omega)
  have u1 := mul_in c q 6 4 c1 c2 (by omega) q2
  have u2 := mul_in p d 6 4 p1 p2 (by omega) d2
  have u3 := mul_in d q 4 4 (by omega) d2 (by omega) q2
  have u3' := pos d1 q1
  obtain ⟨s1, s2, s3, s4, s5, s6⟩ := red_small (x := c * q + p * d) (y := d * q) (m := 48) (by omega) (by omega) (by omega) u3' (by omega)
  obtain ⟨gs, gs1, gs2⟩ := red_sg s1
  have v1 := mul_in a (redN (c * q + p * d) (d * q)) 6 48 a1 a2 s3 s4
  have v2 := mul_in b (redD (c * q + p * d) (d * q)) 4 16 (by omega) b2 (by omega) (by omega)
  have v2' := pos b1 s5
  obtain ⟨l1, l2, l3, l4, l5, l6⟩ := red_small (x := a * redN (c * q + p * d) (d * q)) (y := b * redD (c * q + p * d) (d * q)) (m := 288) (by omega) (by omega) (by omega) v2' (by omega)
  obtain ⟨gl, gl1, gl2⟩ := red_sg l1
  have w1 := mul_in a c 6 6 a1 a2 c1 c2
  have w2 := mul_in b d 4 4 (by omega) b2 (by omega) d2
  have w2' := pos b1 d1
  obtain ⟨m1, m2, m3, m4, m5, m6⟩ := red_small (x := a * c) (y := b * d) (m := 36) (by omega) (by omega) (by omega) w2' (by omega)
  obtain ⟨gm, gm1, gm2⟩ := red_sg m1
  have x1 := mul_in a p 6 6 a1 a2 p1 p2
  have x2 := mul_in b q 4 4 (by omega) b2 (by omega) q2
  have x2' := pos b1 q1
  obtain ⟨n1, n2, n3, n4, n5, n6⟩ := red_small (x := a * p) (y := b * q) (m := 36) (by omega) (by omega) (by omega) x2' (by omega)
  obtain ⟨gn, gn1, gn2⟩ := red_sg n1
  have y1 := mul_in (redN (a * c) (b * d)) (redD (a * p) (b * q)) 36 16 m3 m4 (by omega) (by omega)
  have y2 := mul_in (redN (a * p) (b * q)) (redD (a * c) (b * d)) 36 16 n3 n4 (by omega) (by omega)
  have y3 := mul_in (redD (a * c) (b * d)) (redD (a * p) (b * q)) 16 16 (by omega) (by omega) (by omega) (by omega)
  have y3' := pos m5 n5
  obtain ⟨r1, r2, r3, r4, r5, r6⟩ := red_small (x := redN (a * c) (b * d) * redD (a * p) (b * q) + redN (a * p) (b * q) * redD (a * c) (b * d)) (y := redD (a * c) (b * d) * redD (a * p) (b * q)) (m := 1152) (by omega) (by omega) (by omega) y3' (by omega)
  obtain ⟨gr, gr1, gr2⟩ := red_sg r1
  refine ⟨_, _, _, _, _, _, _, _, _, _, ⟨s1, rfl, rfl, s2⟩, ⟨l1, rfl, rfl⟩, ⟨m1, rfl, rfl, m2⟩, ⟨n1, rfl, rfl, n2⟩, ⟨r1, rfl, rfl⟩, ?_⟩
  refine okB_eq l2 r2 ?_
  clear s1 s2 s3 s4 s5 s6 l1 l2 l3 l4 l5 l6 m1 m2 m3 m4 m5 m6 n1 n2 n3 n4 n5 n6 r1 r2 r3 r4 r5 r6 u1 u2 u3 u3' v1 v2 v2' w1 w2 w2' x1 x2 x2' y1 y2 y3 y3' pos
  generalize redN (c * q + p * d) (d * q) = sN at *
  generalize redD (c * q + p * d) (d * q) = sD at *
  generalize sg (c * q + p * d) (d * q) = ks at *
  generalize redN (a * sN) (b * sD) = lN at *
  generalize redD (a * sN) (b * sD) = lD at *
  generalize sg (a * sN) (b * sD) = kl at *
  generalize redN (a * c) (b * d) = mN at *
  generalize redD (a * c) (b * d) = mD at *
  generalize sg (a * c) (b * d) = km at *
  generalize redN (a * p) (b * q) = nN at *
  generalize redD (a * p) (b * q) = nD at *
  generalize sg (a * p) (b * q) = kn at *
  generalize redN (mN * nD + nN * mD) (mD * nD) = rN at *
  generalize redD (mN * nD + nN * mD) (mD * nD) = rD at *
  generalize sg (mN * nD + nN * mD) (mD * nD) = kr at *
  refine cancel (Int.mul_ne_zero (Int.mul_ne_zero gs gl) (Int.mul_ne_zero gr (Int.mul_ne_zero gm gn))) ?_
  have e1 : ks * kl * (kr * (km * kn)) * (lN * rD) = a * (ks * sN) * ((km * mD) * (kn * nD)) := by
    rw [show ks * kl * (kr * (km * kn)) * (lN * rD) = ks * (kl * lN) * ((km * kn) * (kr * rD)) from by ac_rfl, gl1, gr2]; ac_rfl
  have e2 : ks * kl * (kr * (km * kn)) * (rN * lD) = b * (ks * sD) * ((km * mN) * (kn * nD) + (kn * nN) * (km * mD)) := by
    rw [show ks * kl * (kr * (km * kn)) * (rN * lD) = ks * (kl * lD) * ((km * kn) * (kr * rN)) from by ac_rfl, gl2, gr1, Int.mul_add (km * kn)]
    congr 1
    · ac_rfl
    · congr 1 <;> ac_rfl
  rw [e1, e2, gs1, gs2, gm1, gm2, gn1, gn2, Int.mul_add a, Int.add_mul (a * (c * q)), Int.mul_add (b * (d * q))]
  congr 1 <;> ac_rfl
theorem op_true {t : Bool} {x y : Int} (h : opOk t x y = true) : t = true ∧ redOk x y = true ∧ opN t x y = redN x y ∧ opD t x y = redD x y := by
  unfold opOk at h
  rw [Bool.and_eq_true] at h
  obtain ⟨h1, h2⟩ := h
  subst h1
  exact ⟨rfl, h2, rfl, rfl⟩
theorem sub_back {a b c d N D : Int} (hN : N = opN (two a b c d) (a * d + c * b) (b * d)) (hD : D = opD (two a b c d) (a * d + c * b) (b * d)) (h : opOk (two a b c d) (a * d + c * b) (b * d) = true)
    (k : opOk (two N D c d) (N * d - c * D) (D * d) = true) : a = opN (two N D c d) (N * d - c * D) (D * d) ∧ b = opD (two N D c d) (N * d - c * D) (D * d) := by
  obtain ⟨t1, r1, e1, e2⟩ := op_true h
  obtain ⟨t2, r2, e3, e4⟩ := op_true k
  rw [e3, e4]
  rw [e1] at hN
  rw [e2] at hD
  subst hN hD
  have := add_sub (two_out t1).1 r1 r2
  exact ⟨this.1.symm, this.2.symm⟩
theorem mul_back {a b c d N D : Int} (hN : N = opN (two a b c d) (a * d) (b * c)) (hD : D = opD (two a b c d) (a * d) (b * c)) (h : opOk (two a b c d) (a * d) (b * c) = true)
    (k : opOk (two N D c d) (N * c) (D * d) = true) : a = opN (two N D c d) (N * c) (D * d) ∧ b = opD (two N D c d) (N * c) (D * d) := by
  obtain ⟨t1, r1, e1, e2⟩ := op_true h
  obtain ⟨t2, r2, e3, e4⟩ := op_true k
  rw [e3, e4]
  rw [e1] at hN
  rw [e2] at hD
  subst hN hD
  have := div_mul (two_out t1).1 r1 r2
  exact ⟨this.1.symm, this.2.symm⟩
end Go.Proofs.Ytbbkejfcheobaab.RM

/- Sums, tables of fractions as numbers, and what a column's step of the echelon keeps: the solutions, the dependence of rows, the units of the chosen columns. -/
namespace Go.Proofs.Ytbbkejfcheobaab
open Go.RowKit Go.Proofs.Ytbbkejfcheobaab.RM

/-- a sum of n -/
def sumN (f : Nat → Rat) : Nat → Rat
  | 0 => 0
  | n + 1 => sumN f n + f n
theorem sumN_congr {f g : Nat → Rat} : ∀ {n : Nat}, (∀ i, i < n → f i = g i) → sumN f n = sumN g n
  | 0, _ => rfl
  | n + 1, h => by
    simp only [sumN]
    rw [sumN_congr (fun i hi => h i (by omega)), h n (by omega)]
theorem sumN_zero {f : Nat → Rat} : ∀ {n : Nat}, (∀ i, i < n → f i = 0) → sumN f n = 0
  | 0, _ => rfl
  | n + 1, h => by
    simp only [sumN]
    rw [sumN_zero (fun i hi => h i (by omega)), h n (by omega)]
    grind
theorem sumN_add (f g : Nat → Rat) : ∀ n, sumN (fun i => f i + g i) n = sumN f n + sumN g n
  | 0 => by simp only [sumN]; grind
  | n + 1 => by simp only [sumN]; rw [sumN_add f g n]; grind
theorem sumN_sub (f g : Nat → Rat) : ∀ n, sumN (fun i => f i - g i) n = sumN f n - sumN g n
  | 0 => by simp only [sumN]; grind
  | n + 1 => by simp only [sumN]; rw [sumN_sub f g n]; grind
theorem sumN_mul (f : Nat → Rat) (c : Rat) : ∀ n, sumN (fun i => f i * c) n = sumN f n * c
  | 0 => by simp only [sumN]; grind
  | n + 1 => by simp only [sumN]; rw [sumN_mul f c n]; grind
theorem sumN_swap (f : Nat → Nat → Rat) (m : Nat) : ∀ n, sumN (fun i => sumN (fun j => f i j) m) n = sumN (fun j => sumN (fun i => f i j) n) m
  | 0 => by
    simp only [sumN]
    rw [sumN_zero (fun _ _ => rfl)]
  | n + 1 => by
    simp only [sumN]
    rw [sumN_swap f m n, ← sumN_add]
/-- one of them turned -/
theorem sumN_turn (f : Nat → Rat) (a : Nat) (c : Rat) : ∀ {n : Nat}, a < n → sumN (fun i => if i = a then c else f i) n = sumN f n - f a + c
  | 0, h => by omega
  | n + 1, h => by
    simp only [sumN]
    by_cases e : a = n
    · subst e
      rw [if_pos rfl, sumN_congr (g := f) (fun i hi => by rw [if_neg (by omega)])]
      grind
    · rw [if_neg (fun h => e h.symm), sumN_turn f a c (by omega)]
      grind
/-- just one is not 0 -/
theorem sumN_one {f : Nat → Rat} {a n : Nat} (ha : a < n) (h : ∀ i, i < n → i ≠ a → f i = 0) : sumN f n = f a := by
  have h1 : sumN f n = sumN (fun i => if i = a then f a else (fun _ => 0) i) n := sumN_congr (fun i hi => by
    by_cases e : i = a
    · rw [if_pos e, e]
    · rw [if_neg e, h i hi e])
  rw [h1, sumN_turn _ _ _ ha, sumN_zero (fun _ _ => rfl)]
  grind
/-- in another order: two were exchanged -/
theorem sumN_exch (f : Nat → Rat) (a b : Nat) {n : Nat} (ha : a < n) (hb : b < n) : sumN (fun i => f (exch a b i)) n = sumN f n := by
  by_cases e : a = b
  · subst e
    apply sumN_congr
    intro i _
    unfold exch
    split
    · rename_i h; rw [h]
    · rfl
  · have h1 : sumN (fun i => f (exch a b i)) n = sumN (fun i => if i = b then f a else (fun i => if i = a then f b else f i) i) n := sumN_congr (fun i hi => by
      unfold exch
      by_cases e1 : b = i
      · rw [if_pos e1, if_pos e1.symm]
      · rw [if_neg e1, if_neg (show ¬ i = b from fun h => e1 h.symm)]
        show _ = if i = a then f b else f i
        by_cases e2 : a = i
        · rw [if_pos e2, if_pos e2.symm]
        · rw [if_neg e2, if_neg (show ¬ i = a from fun h => e2 h.symm)])
    rw [h1, sumN_turn _ _ _ hb, sumN_turn _ _ _ ha, if_neg (fun h => e h.symm)]
    grind
/-- the number that a fraction is -/
def qf (p : Fr) : Rat := Rat.divInt p.1 p.2
theorem qf_red {x y : Int} (h : redOk x y = true) : qf (redN x y, redD x y) = Rat.divInt x y := by
  obtain ⟨h1, h2, h3⟩ := red_sg h
  have hb := okB_out (okB_redN h)
  have hy : y ≠ 0 := by
    intro h0
    have h4 : sg x y * redD x y = 0 := by rw [h3]; exact h0
    rcases Int.mul_eq_zero.1 h4 with k | k
    · exact h1 k
    · omega
  unfold qf
  rw [Rat.divInt_eq_divInt_iff (by show redD x y ≠ 0; omega) hy]
  show redN x y * y = x * redD x y
  obtain ⟨p, hp⟩ : ∃ p, p = redN x y := ⟨_, rfl⟩
  obtain ⟨q, hq⟩ : ∃ q, q = redD x y := ⟨_, rfl⟩
  obtain ⟨s, hs⟩ : ∃ s, s = sg x y := ⟨_, rfl⟩
  rw [← hp, ← hs] at h2
  rw [← hq, ← hs] at h3
  rw [← hp, ← hq]
  clear hp hq hs h1 hb hy h
  grind
theorem okF_ne {p : Fr} (h : okF p = true) : p.2 ≠ 0 := by have := okB_out h; omega
theorem op_parts {p q : Fr} {x y : Int} (h : opOk (two p.1 p.2 q.1 q.2) x y = true) : okF p = true ∧ okF q = true ∧ qf (opN (two p.1 p.2 q.1 q.2) x y, opD (two p.1 p.2 q.1 q.2) x y) = Rat.divInt x y := by
  obtain ⟨t, h2, h3, h4⟩ := op_true h
  obtain ⟨t1, t2⟩ := two_out t
  exact ⟨t1, t2, by rw [h3, h4]; exact qf_red h2⟩
theorem dz {n d : Int} (hd : d ≠ 0) : Rat.divInt n d = 0 ↔ n = 0 := by
  rw [show (0 : Rat) = Rat.divInt 0 1 from rfl, Rat.divInt_eq_divInt_iff hd (by decide)]
  omega
theorem qf_mul {p q : Fr} (h : mulK p q = true) : qf (mulP p q) = qf p * qf q := by
  obtain ⟨h1, h2, h3⟩ := op_parts h
  unfold mulP
  rw [h3]
  unfold qf
  rw [Rat.divInt_mul_divInt]
theorem qf_add {p q : Fr} (h : addK p q = true) : qf (addP p q) = qf p + qf q := by
  obtain ⟨h1, h2, h3⟩ := op_parts h
  unfold addP
  rw [h3]
  unfold qf
  rw [Rat.divInt_add_divInt _ _ (okF_ne h1) (okF_ne h2)]
theorem qf_sub {p q : Fr} (h : subK p q = true) : qf (subP p q) = qf p - qf q := by
  obtain ⟨h1, h2, h3⟩ := op_parts h
  unfold subP
  rw [h3]
  unfold qf
  rw [Rat.divInt_sub_divInt _ _ (okF_ne h1) (okF_ne h2)]
theorem qf_div {p q : Fr} (h : divK p q = true) : qf q ≠ 0 ∧ qf (divP p q) = qf p / qf q := by
  obtain ⟨h1, h2, h3⟩ := op_parts h
  have h4 : opOk (two p.1 p.2 q.1 q.2) (p.1 * q.2) (p.2 * q.1) = true := h
  obtain ⟨-, h5, -, -⟩ := op_true h4
  have hq : q.1 ≠ 0 := by
    intro h0
    unfold redOk at h5
    rw [Bool.and_eq_true] at h5
    have := (redIn_out h5.1).1
    rw [h0] at this
    omega
  unfold divP
  rw [h3]
  unfold qf
  have hz : Rat.divInt q.1 q.2 ≠ 0 := by
    intro h0
    rw [dz (okF_ne h2)] at h0
    exact hq h0
  refine ⟨hz, ?_⟩
  have hm : Rat.divInt (p.1 * q.2) (p.2 * q.1) * Rat.divInt q.1 q.2 = Rat.divInt p.1 p.2 := by
    rw [Rat.divInt_mul_divInt, Rat.divInt_eq_divInt_iff (by
      intro h0
      rcases Int.mul_eq_zero.1 h0 with k | k
      · rcases Int.mul_eq_zero.1 k with k | k
        · exact okF_ne h1 k
        · exact hq k
      · exact okF_ne h2 k) (okF_ne h1)]
    grind
  rw [← hm]
  grind
theorem qf_inj {p q : Fr} (h1 : okF p = true) (h2 : okF q = true) (h : qf p = qf q) : p = q := by
  unfold qf at h
  rw [Rat.divInt_eq_divInt_iff (okF_ne h1) (okF_ne h2)] at h
  obtain ⟨e1, e2⟩ := okB_eq h1 h2 h
  exact Prod.ext e1 e2
theorem qf_zero {p : Fr} (h : okF p = true) : qf p = 0 ↔ p.1 = 0 := by
  unfold qf
  rw [dz (okF_ne h)]
theorem qf_null : qf (0, 1) = 0 := by unfold qf; rfl
theorem qf_one : qf (1, 1) = 1 := by unfold qf; rfl
/-- a table as numbers -/
def mv (rows : List (List Fr)) (i j : Nat) : Rat := qf (fr (rw' rows i) j)
/-- what every column's step of the echelon is, in numbers -/
structure StepQ (m L at' r col : Nat) (M M' : Nat → Nat → Rat) : Prop where
  ha : at' < m
  hr : r < m
  hge : at' ≤ r
  hc : col < L
  f0 : M r col ≠ 0
  top : ∀ j, j < L → M' at' j = M r j / M r col
  oth : ∀ i, i < m → i ≠ at' → ∀ j, j < L → M' i j = M (exch r at' i) j - M (exch r at' i) col * M' at' j
/-- the same solutions -/
theorem StepQ.ker {m L at' r col : Nat} {M M' : Nat → Nat → Rat} (h : StepQ m L at' r col M M') (v : Nat → Rat) : (∀ i, i < m → sumN (fun j => M' i j * v j) L = 0) ↔ (∀ i, i < m → sumN (fun j => M i j * v j) L = 0) := by
  have e1 : sumN (fun j => M' at' j * v j) L = sumN (fun j => M r j * v j) L / M r col := by
    have := h.f0
    rw [show sumN (fun j => M r j * v j) L / M r col = sumN (fun j => M r j * v j) L * (1 / M r col) by grind, ← sumN_mul]
    apply sumN_congr
    intro j hj
    rw [h.top j hj]
    grind
  have e2 : ∀ i, i < m → i ≠ at' → sumN (fun j => M' i j * v j) L = sumN (fun j => M (exch r at' i) j * v j) L - M (exch r at' i) col * sumN (fun j => M' at' j * v j) L := by
    intro i hi hne
    rw [show M (exch r at' i) col * sumN (fun j => M' at' j * v j) L = sumN (fun j => M' at' j * v j) L * M (exch r at' i) col by grind, ← sumN_mul, ← sumN_sub]
    apply sumN_congr
    intro j hj
    rw [h.oth i hi hne j hj]
    grind
  have f0 := h.f0
  constructor
  · intro h0
    have hr0 : sumN (fun j => M r j * v j) L = 0 := by
      have := h0 at' h.ha
      rw [e1] at this
      grind
    intro i hi
    by_cases e : i = r
    · rw [e]; exact hr0
    · have hx : exch r at' (exch r at' i) = i := by
        unfold exch
        split <;> split <;> (try split) <;> omega
      have hne : exch r at' i ≠ at' := by
        unfold exch
        have := h.ha
        split
        · omega
        · split <;> omega
      have := e2 (exch r at' i) (exch_lt h.hr h.ha hi) hne
      rw [hx, h0 _ (exch_lt h.hr h.ha hi), h0 _ h.ha] at this
      grind
  · intro h0
    have ha0 : sumN (fun j => M' at' j * v j) L = 0 := by
      rw [e1, h0 r h.hr]
      grind
    intro i hi
    by_cases e : i = at'
    · rw [e]; exact ha0
    · rw [e2 i hi e, ha0, h0 _ (exch_lt h.hr h.ha hi)]
      grind
/-- rows of which some make up nothing, by the first n columns -/
def Dep (m n : Nat) (M : Nat → Nat → Rat) : Prop := ∃ y : Nat → Rat, (∃ i, i < m ∧ y i ≠ 0) ∧ ∀ j, j < n → sumN (fun i => y i * M i j) m = 0
theorem StepQ.dep {m L at' r col n : Nat} {M M' : Nat → Nat → Rat} (h : StepQ m L at' r col M M') (hn : n ≤ L) (hcn : col < n) (hd : Dep m n M) : Dep m n M' := by
  obtain ⟨y, ⟨k, hk, hy⟩, h0⟩ := hd
  have hx : ∀ i, exch r at' (exch r at' i) = i := by
    intro i
    unfold exch
    split <;> split <;> (try split) <;> omega
  have hsum : ∀ j, j < n → sumN (fun i => y (exch r at' i) * M (exch r at' i) j) m = 0 := by
    intro j hj
    rw [sumN_exch (fun i => y i * M i j) r at' h.hr h.ha]
    exact h0 j hj
  have hat : exch r at' at' = r := by unfold exch; rw [if_pos rfl]
  have f0 := h.f0
  refine ⟨fun i => if i = at' then 0 else y (exch r at' i), ?_, ?_⟩
  · apply Classical.byContradiction
    intro hn0
    have hz : ∀ i, i < m → i ≠ at' → y (exch r at' i) = 0 := by
      intro i hi hne
      apply Classical.byContradiction
      intro h1
      exact hn0 ⟨i, hi, by show (if i = at' then (0 : Rat) else _) ≠ 0; rw [if_neg hne]; exact h1⟩
    have hs := hsum col hcn
    rw [sumN_one h.ha (fun i hi hne => by rw [hz i hi hne]; grind), hat] at hs
    have hyr : y r = 0 := by grind
    apply hy
    by_cases e : k = r
    · rw [e]; exact hyr
    · have := hz (exch r at' k) (exch_lt h.hr h.ha hk) (by
        intro h1
        have h2 : exch r at' (exch r at' k) = exch r at' at' := by rw [h1]
        rw [hx, hat] at h2
        exact e h2)
      rw [hx] at this
      exact this
  · intro j hj
    have he : sumN (fun i => (if i = at' then 0 else y (exch r at' i)) * M' i j) m = sumN (fun i => y (exch r at' i) * M (exch r at' i) j - (y (exch r at' i) * M (exch r at' i) col) * M' at' j) m := by
      apply sumN_congr
      intro i hi
      by_cases e : i = at'
      · rw [if_pos e, e, hat, h.top j (by omega)]
        grind
      · rw [if_neg e, h.oth i hi e j (by omega)]
        grind
    rw [he, sumN_sub, sumN_mul, hsum j hj, hsum col hcn]
    grind
/-- the chosen columns are units -/
def Units (m : Nat) (M : Nat → Nat → Rat) (ch : List Nat) : Prop := ∀ k, k < ch.length → ∀ i, i < m → M i (nt ch k) = if i = k then 1 else 0
theorem nt_app {ch : List Nat} {c k : Nat} (h : k < ch.length) : nt (ch ++ [c]) k = nt ch k := by unfold nt; rw [List.getElem?_append_left h]
theorem nt_last (ch : List Nat) (c : Nat) : nt (ch ++ [c]) ch.length = c := by simp [nt]
theorem StepQ.units {m L r col : Nat} {M M' : Nat → Nat → Rat} {ch : List Nat} (h : StepQ m L ch.length r col M M') (hu : Units m M ch) (hl : ∀ c, c ∈ ch → c < L) : Units m M' (ch ++ [col]) := by
  have f0 := h.f0
  have hge := h.hge
  have hr := h.hr
  have ha := h.ha
  intro k hk i hi
  rw [List.length_append, List.length_singleton] at hk
  by_cases e : k < ch.length
  · rw [nt_app e]
    have hc : nt ch k < L := hl _ (nt_mem e)
    have htop : M' ch.length (nt ch k) = 0 := by
      rw [h.top _ hc, hu k e r h.hr, if_neg (by omega)]
      grind
    by_cases e2 : i = ch.length
    · rw [e2, htop, if_neg (by omega)]
    · rw [h.oth i hi e2 _ hc, htop, hu k e _ (exch_lt h.hr h.ha hi)]
      by_cases e3 : i = k
      · have : exch r ch.length i = i := by unfold exch; rw [if_neg (by omega), if_neg (by omega)]
        rw [this, if_pos e3]
        grind
      · have : exch r ch.length i ≠ k := by unfold exch; split <;> (try split) <;> omega
        rw [if_neg this, if_neg e3]
        grind
  · obtain rfl : k = ch.length := by omega
    rw [nt_last]
    have htop : M' ch.length col = 1 := by rw [h.top _ h.hc]; grind
    by_cases e2 : i = ch.length
    · rw [if_pos e2, e2, htop]
    · rw [if_neg e2, h.oth i hi e2 _ h.hc, htop]
      grind
/-- what every state of the echelon is -/
structure Base (m L : Nat) (rows : List (List Fr)) (ch : List Nat) (col : Nat) : Prop where
  len : rows.length = m
  row : ∀ x, x < m → (rw' rows x).length = L
  ok : ∀ x, x < m → ∀ j, j < L → okF (fr (rw' rows x) j) = true
  cl : ch.length ≤ m
  chs : ∀ c, c ∈ ch → c < col
theorem divR_at {row : List Fr} {f : Fr} {j : Nat} (hj : j < row.length) : fr (divR row f) j = divP (fr row j) f := by simp [divR, fr, hj]
theorem takeR_at {o w : List Fr} {t : Fr} {j : Nat} (hj : j < o.length) : fr (takeR o t w) j = takeE (fr o j) t (fr w j) := by simp [takeR, fr, hj]
theorem divB_at {row : List Fr} {f : Fr} (h : divB row f = true) {j : Nat} (hj : j < row.length) : divK (fr row j) f = true := all_at (p := fun p => divK p f) (d := ((0, 0) : Fr)) h hj
theorem takeB_at {o w : List Fr} {t : Fr} (h : takeB o t w = true) {j : Nat} (hj : j < o.length) : takeK (fr o j) t (fr w j) = true := by
  unfold takeB at h
  rw [List.all_eq_true] at h
  exact h j (by simpa using hj)
theorem qf_take {o t x : Fr} (h : takeK o t x = true) : qf (takeE o t x) = qf o - qf t * qf x ∧ okF (takeE o t x) = true := by
  unfold takeK at h
  have hm : mulK t x = true := by
    rw [← Bool.not_eq_false]
    intro h0
    rw [mul_none h0, sub_zero_r] at h
    cases h
  unfold takeE
  exact ⟨by rw [qf_sub h, qf_mul hm], sub_right h⟩
/-- one column's step, in numbers; the state behind it -/
theorem stepQ {m L r col : Nat} {rows : List (List Fr)} {ch : List Nat} (hB : Base m L rows ch col) (hc : col < L) (h1 : ch.length ≤ r) (h2 : r < m) (hb : stepB rows ch.length r col = true) :
    StepQ m L ch.length r col (mv rows) (mv (stepT rows ch.length r col)) ∧ Base m L (stepT rows ch.length r col) (ch ++ [col]) (col + 1) := by
  have ha : ch.length < m := by omega
  have hb' := hb
  unfold stepB at hb'
  rw [Bool.and_eq_true, List.all_eq_true] at hb'
  obtain ⟨hd, ht⟩ := hb'
  have hlr : (rw' rows r).length = L := hB.row r h2
  have hat : ∀ i, i < m → rw' (stepT rows ch.length r col) i = if i = ch.length then divR (rw' rows r) (fr (rw' rows r) col) else takeR (rw' (swapT rows r ch.length) i) (fr (rw' (swapT rows r ch.length) i) col) (divR (rw' rows r) (fr (rw' rows r) col)) := by
    intro i hi
    have hi2 : i < rows.length := by rw [hB.len]; exact hi
    rw [← stepP_all, stepP_at _ _ _ _ _ _ hi2, if_pos hi2]
  have htop : ∀ j, j < L → fr (rw' (stepT rows ch.length r col) ch.length) j = divP (fr (rw' rows r) j) (fr (rw' rows r) col) := by
    intro j hj
    rw [hat _ ha, if_pos rfl, divR_at (by omega)]
  have hkd : ∀ j, j < L → divK (fr (rw' rows r) j) (fr (rw' rows r) col) = true := fun j hj => divB_at hd (by omega)
  have hoth : ∀ i, i < m → i ≠ ch.length → ∀ j, j < L → fr (rw' (stepT rows ch.length r col) i) j = takeE (fr (rw' rows (exch r ch.length i)) j) (fr (rw' rows (exch r ch.length i)) col) (divP (fr (rw' rows r) j) (fr (rw' rows r) col)) ∧ takeK (fr (rw' rows (exch r ch.length i)) j) (fr (rw' rows (exch r ch.length i)) col) (divP (fr (rw' rows r) j) (fr (rw' rows r) col)) = true := by
    intro i hi hne j hj
    have hl := hB.row _ (exch_lt h2 ha hi)
    have hti := ht i (by simpa [hB.len] using hi)
    rw [rw_exch _ _ _ _ (by rw [hB.len]; exact h2) (by rw [hB.len]; exact ha)] at hti
    have hti2 : takeB (rw' rows (exch r ch.length i)) (fr (rw' rows (exch r ch.length i)) col) (divR (rw' rows r) (fr (rw' rows r) col)) = true := by
      simpa [hne] using hti
    have hk := takeB_at hti2 (j := j) (by omega)
    rw [divR_at (by omega)] at hk
    rw [hat i hi, if_neg hne, rw_exch _ _ _ _ (by rw [hB.len]; exact h2) (by rw [hB.len]; exact ha), takeR_at (by omega), divR_at (by omega)]
    exact ⟨rfl, hk⟩
  refine ⟨⟨ha, h2, h1, hc, (qf_div (hkd col hc)).1, fun j hj => ?_, fun i hi hne j hj => ?_⟩, ⟨by rw [stepT_len]; exact hB.len, fun x hx => ?_, fun x hx j hj => ?_, by simp; omega, fun c hx => ?_⟩⟩
  · show qf _ = _
    rw [htop j hj, (qf_div (hkd j hj)).2]
    rfl
  · obtain ⟨e1, e2⟩ := hoth i hi hne j hj
    show qf _ = _
    rw [e1, (qf_take e2).1]
    show _ = mv rows _ j - mv rows _ col * qf _
    rw [htop j hj]
    rfl
  · exact stepT_row (fun y hy => hB.row y (by rw [← hB.len]; exact hy)) (by rw [hB.len]; exact ha) (by rw [hB.len]; exact h2) x (by rw [stepT_len, hB.len]; exact hx)
  · by_cases e : x = ch.length
    · rw [e, htop j hj]
      exact div_right (hkd j hj)
    · obtain ⟨e1, e2⟩ := hoth x hx e j hj
      rw [e1]
      exact (qf_take e2).2
  · rw [List.mem_append] at hx
    rcases hx with hx | hx
    · have := hB.chs c hx; omega
    · simp at hx; omega
/-- what every step keeps, the whole echelon does -/
theorem ech_ind {m L : Nat} {P : Nat → List (List Fr) → List Nat → Prop}
    (free : ∀ col rows ch, Base m L rows ch col → col < L → (∀ x, ch.length ≤ x → x < m → (fr (rw' rows x) col).1 = 0) → P col rows ch → P (col + 1) rows ch)
    (yes : ∀ col rows ch r, Base m L rows ch col → col < L → ch.length ≤ r → r < m → (fr (rw' rows r) col).1 ≠ 0 → (∀ x, ch.length ≤ x → x < r → (fr (rw' rows x) col).1 = 0) → stepB rows ch.length r col = true → P col rows ch → P (col + 1) (stepT rows ch.length r col) (ch ++ [col])) :
    ∀ n col rows ch R C, col + n ≤ L → Base m L rows ch col → P col rows ch → echF n col rows ch = some (R, C) → P (col + n) R C ∧ Base m L R C (col + n)
  | 0, col, rows, ch, R, C, _, hB, hP, he => by
    simp only [echF] at he
    cases he
    exact ⟨hP, hB⟩
  | n + 1, col, rows, ch, R, C, hl, hB, hP, he => by
    have hp := piv_le (rows := rows) (col := col) (at' := ch.length) (by rw [hB.len]; exact hB.cl)
    by_cases hf : piv rows col ch.length = rows.length
    · rw [echF_free hf] at he
      have hz : ∀ x, ch.length ≤ x → x < m → (fr (rw' rows x) col).1 = 0 := by
        intro x h1 h2
        refine pivF_zero rows col (rows.length - ch.length) ch.length x h1 ?_
        show x < piv rows col ch.length
        rw [hf, hB.len]
        exact h2
      have := ech_ind free yes n (col + 1) rows ch R C (by omega) ⟨hB.len, hB.row, hB.ok, hB.cl, fun c hx => by have := hB.chs c hx; omega⟩ (free col rows ch hB (by omega) hz hP) he
      rw [show col + (n + 1) = col + 1 + n by omega]
      exact this
    · have hlt : piv rows col ch.length < m := by rw [← hB.len]; omega
      by_cases hs : stepB rows ch.length (piv rows col ch.length) col = true
      · rw [echF_yes rfl hf hs] at he
        obtain ⟨-, hB2⟩ := stepQ hB (by omega) hp.1 hlt hs
        have hne : (fr (rw' rows (piv rows col ch.length)) col).1 ≠ 0 := by
          apply pivF_at
          show piv rows col ch.length < _
          have := hB.cl
          rw [hB.len]
          omega
        have hzz : ∀ x, ch.length ≤ x → x < piv rows col ch.length → (fr (rw' rows x) col).1 = 0 := fun x h1 h2 => pivF_zero rows col _ _ x h1 h2
        have := ech_ind free yes n (col + 1) _ _ R C (by omega) hB2 (yes col rows ch _ hB (by omega) hp.1 hlt hne hzz hs hP) he
        rw [show col + (n + 1) = col + 1 + n by omega]
        exact this
      · rw [Bool.not_eq_true] at hs
        rw [echF_no rfl hf hs] at he
        cases he
theorem base_start {rows : List (List Fr)} {L : Nat} (hL : L = (rw' rows 0).length) (h : tabB rows 6 = true) : Base rows.length L rows [] 0 := by
  obtain ⟨-, hr⟩ := tabB_out h
  refine ⟨rfl, fun x hx => by rw [hL]; exact (hr x hx).1, fun x hx j hj => ?_, Nat.zero_le _, fun c hc => absurd hc (by simp)⟩
  exact allOk_at (hr x hx).2 (by rw [(hr x hx).1]; omega)
end Go.Proofs.Ytbbkejfcheobaab

/- What the law of Solved asks, without any program: what is solved solves; a table with two rows alike has no one solution; the rank is full. -/
namespace Go.Proofs.Ytbbkejfcheobaab
open Go.RowKit Go.Proofs.Ytbbkejfcheobaab.RM

theorem solO_out {rows : List (List Fr)} {right : List Fr} (h : solO rows right = true) : solC rows right = true ∧ tabB (wideT rows right) 6 = true ∧ echK (wideT rows right) = true ∧ solF rows.length (echC (wideT rows right)) = true := by
  unfold solO echO at h
  simpa [Bool.and_eq_true, and_assoc] using h
theorem echK_out {rows : List (List Fr)} (h : echK rows = true) : ech rows = some (echR rows, echC rows) := by
  unfold echK at h
  cases he : ech rows with
  | none => rw [he] at h; cases h
  | some p =>
    obtain ⟨R, C⟩ := p
    obtain ⟨-, e1, e2⟩ := ech_yes he
    rw [e1, e2]
/-- solutions, units and dependence at the echelon's end -/
theorem ech_keeps {rows : List (List Fr)} {L : Nat} (hL : L = (rw' rows 0).length) (ht : tabB rows 6 = true) (hk : echK rows = true) :
    ((∀ v : Nat → Rat, (∀ i, i < rows.length → sumN (fun j => mv (echR rows) i j * v j) L = 0) ↔ (∀ i, i < rows.length → sumN (fun j => mv rows i j * v j) L = 0)) ∧ Units rows.length (mv (echR rows)) (echC rows) ∧ ∀ k, k ≤ L → (∀ c, c ∈ echC rows → c < k) → Dep rows.length k (mv rows) → Dep rows.length k (mv (echR rows))) ∧ Base rows.length L (echR rows) (echC rows) L := by
  have he := echK_out hk
  unfold ech at he
  rw [← hL] at he
  have key := ech_ind (m := rows.length) (L := L) (P := fun col R C => (∀ v : Nat → Rat, (∀ i, i < rows.length → sumN (fun j => mv R i j * v j) L = 0) ↔ (∀ i, i < rows.length → sumN (fun j => mv rows i j * v j) L = 0)) ∧ Units rows.length (mv R) C ∧ ∀ k, k ≤ L → (∀ c, c ∈ C → c < k) → Dep rows.length k (mv rows) → Dep rows.length k (mv R))
    (fun col R C hB hc hz hP => hP)
    (fun col R C r hB hc h1 h2 hne hz hb hP => by
      obtain ⟨hs, hB2⟩ := stepQ hB hc h1 h2 hb
      refine ⟨fun v => (hs.ker v).trans (hP.1 v), hs.units hP.2.1 (fun c hx => by have := hB.chs c hx; omega), fun k hk hck hd => ?_⟩
      exact hs.dep hk (hck col (by simp)) (hP.2.2 k hk (fun c hx => hck c (by simp [hx])) hd))
    L 0 rows [] (echR rows) (echC rows) (by omega) (base_start hL ht) ⟨fun v => Iff.rfl, fun k hk => absurd hk (by simp), fun k hk hck hd => hd⟩ he
  rw [Nat.zero_add] at key
  exact key
/-- where it is solved the chosen columns are all but right's -/
theorem sol_cols {rows : List (List Fr)} {right : List Fr} (h : solO rows right = true) : (echC (wideT rows right)).length = rows.length ∧ (∀ i, i < rows.length → nt (echC (wideT rows right)) i = i) ∧ ∀ c, c ∈ echC (wideT rows right) → c < rows.length := by
  obtain ⟨h1, h2, h3, h4⟩ := solO_out h
  obtain ⟨s1, s2, s3, s4⟩ := solC_out h1
  obtain ⟨⟨t1, -⟩, -⟩ := tabB_out s2
  have hr := ech_rises h3
  have hl0 : (rw' (wideT rows right) 0).length = rows.length + 1 := by rw [wideT_at _ _ _ (by omega)]; simp [s3]
  have hB := (ech_keeps (L := rows.length + 1) hl0.symm h2 h3).2
  have hm := h4
  rw [solF_model t1 hr hB.chs, Bool.and_eq_true, decide_eq_true_eq, decide_eq_true_eq] at hm
  have hf := h4
  unfold solF at hf
  rw [decide_eq_true_eq] at hf
  have hin : ∀ x, x < rows.length → x ∈ echC (wideT rows right) := by
    intro x hx
    apply Classical.byContradiction
    intro hn
    have : x ∈ freeC (rows.length + 1) (echC (wideT rows right)) := freeC_mem.2 ⟨by omega, hn⟩
    rw [hf] at this
    simp at this
    omega
  obtain ⟨a1, a2⟩ := atP_run hr hin rows.length (Nat.le_refl _)
  refine ⟨hm.1, a2, fun c hx => ?_⟩
  obtain ⟨i, hi, he⟩ := mem_nt hx
  rw [← he, a2 i (by omega)]
  omega
/-- what is solved solves -/
theorem sol_solves {rows : List (List Fr)} {right : List Fr} (h : solO rows right = true) (i : Nat) (hi : i < rows.length) :
    sumN (fun k => mv rows i k * qf (fr (solX rows right) k)) rows.length = qf (fr right i) := by
  obtain ⟨h1, h2, h3, h4⟩ := solO_out h
  obtain ⟨s1, s2, s3, s4⟩ := solC_out h1
  obtain ⟨-, sr⟩ := tabB_out s2
  obtain ⟨c1, c2, c3⟩ := sol_cols h
  have hl0 : (rw' (wideT rows right) 0).length = rows.length + 1 := by rw [wideT_at _ _ _ (by omega)]; simp [s3]
  obtain ⟨⟨k1, k2, -⟩, hB⟩ := ech_keeps (L := rows.length + 1) hl0.symm h2 h3
  rw [wideT_len] at k1 k2 hB
  have hv := (k1 (fun j => if j = rows.length then -1 else qf (fr (solX rows right) j))).1 (by
    intro x hx
    simp only [sumN]
    rw [if_pos trivial]
    rw [sumN_one (a := x) hx (fun y hy hne => by
      rw [if_neg (by omega)]
      have := k2 y (by omega) x hx
      rw [c2 y hy, if_neg (by omega)] at this
      rw [this]
      grind)]
    rw [if_neg (by omega)]
    have := k2 x (by omega) x hx
    rw [c2 x hx, if_pos rfl] at this
    rw [this, solX_at _ _ _ hx]
    show 1 * mv (echR (wideT rows right)) x rows.length + mv (echR (wideT rows right)) x rows.length * -1 = 0
    grind) i hi
  simp only [sumN] at hv
  rw [if_pos trivial] at hv
  have hw : ∀ j, j < rows.length → mv (wideT rows right) i j = mv rows i j := by
    intro j hj
    unfold mv
    rw [wideT_at _ _ _ hi]
    unfold fr
    rw [List.getElem?_append_left (by rw [(sr i hi).1, s3]; exact hj)]
  have hb : mv (wideT rows right) i rows.length = qf (fr right i) := by
    unfold mv
    rw [wideT_at _ _ _ hi]
    congr 1
    have : (rw' rows i).length = rows.length := by rw [(sr i hi).1, s3]
    unfold fr
    rw [List.getElem?_append_right (by omega), this, Nat.sub_self]
    rfl
  rw [hb, sumN_congr (g := fun k => mv rows i k * qf (fr (solX rows right) k)) (fun j hj => by rw [if_neg (by omega), hw j hj])] at hv
  grind
/-- the table with its second row in the first one's place -/
def twiceT (rows : List (List Fr)) : List (List Fr) := rw' rows 1 :: rows.drop 1
theorem twice_len {rows : List (List Fr)} (h : 2 ≤ rows.length) : (twiceT rows).length = rows.length := by simp [twiceT]; omega
theorem twice_at {rows : List (List Fr)} {i : Nat} (h : i ≠ 0) : rw' (twiceT rows) i = rw' rows i := by
  obtain ⟨k, rfl⟩ : ∃ k, i = k + 1 := ⟨i - 1, by omega⟩
  simp [twiceT, rw']
theorem twice_zero (rows : List (List Fr)) : rw' (twiceT rows) 0 = rw' rows 1 := by simp [twiceT, rw']
theorem sol_twice {rows : List (List Fr)} {right : List Fr} (h2 : 2 ≤ rows.length) : solO (twiceT rows) right = false := by
  rw [← Bool.not_eq_true]
  intro h
  obtain ⟨h1, ht, h3, h4⟩ := solO_out h
  obtain ⟨s1, s2, s3, s4⟩ := solC_out h1
  obtain ⟨-, sr⟩ := tabB_out s2
  obtain ⟨c1, c2, c3⟩ := sol_cols h
  have hl := twice_len h2
  have hl0 : (rw' (wideT (twiceT rows) right) 0).length = (twiceT rows).length + 1 := by rw [wideT_at _ _ _ (by omega)]; simp [s3]
  obtain ⟨⟨k1, k2, k3⟩, hB⟩ := ech_keeps (L := (twiceT rows).length + 1) hl0.symm ht h3
  rw [wideT_len] at k2 k3
  have hsame : ∀ j, j < (twiceT rows).length → mv (wideT (twiceT rows) right) 0 j = mv (wideT (twiceT rows) right) 1 j := by
    intro j hj
    have e0 := (sr 0 (by omega)).1
    have e1 := (sr 1 (by omega)).1
    unfold mv
    rw [wideT_at _ _ _ (by omega), wideT_at _ _ _ (by omega)]
    unfold fr
    rw [List.getElem?_append_left (by omega), List.getElem?_append_left (by omega), twice_zero, twice_at (by decide)]
  have hd := k3 (twiceT rows).length (by omega) c3 ⟨fun i => if i = 0 then 1 else if i = 1 then -1 else 0, ⟨0, by omega, by show (if (0 : Nat) = 0 then (1 : Rat) else if (0 : Nat) = 1 then -1 else 0) ≠ 0; rw [if_pos rfl]; grind⟩, fun j hj => by
    have hs := hsame j hj
    generalize mv (wideT (twiceT rows) right) = M at *
    have e : sumN (fun i => (if i = 0 then (1 : Rat) else if i = 1 then -1 else 0) * M i j) (twiceT rows).length = sumN (fun i => if i = 0 then M 0 j else (fun i => if i = 1 then - M 1 j else (fun _ => 0) i) i) (twiceT rows).length := by
      apply sumN_congr
      intro i _
      by_cases e1 : i = 0
      · subst e1; rw [if_pos rfl, if_pos rfl]; grind
      · rw [if_neg e1, if_neg e1]
        show _ = if i = 1 then _ else _
        by_cases e2 : i = 1
        · subst e2; rw [if_pos rfl, if_pos rfl]; grind
        · rw [if_neg e2, if_neg e2]; grind
    rw [e, sumN_turn _ _ _ (by omega), sumN_turn _ _ _ (by omega), sumN_zero (fun _ _ => rfl), if_neg (by decide), hs]
    grind⟩
  obtain ⟨y, ⟨k, hk, hy⟩, h0⟩ := hd
  apply hy
  have := h0 k hk
  rw [sumN_one hk (fun i hi hne => by
    have hu := k2 k (by omega) i hi
    rw [c2 k hk, if_neg hne] at hu
    rw [hu]
    grind)] at this
  have hu := k2 k (by omega) k hk
  rw [c2 k hk, if_pos rfl] at hu
  rw [hu] at this
  grind
/-- the first L columns of a table are those of another one -/
structure Cut (m L : Nat) (rows wide : List (List Fr)) : Prop where
  l1 : rows.length = m
  l2 : wide.length = m
  r1 : ∀ i, i < m → (rw' rows i).length = L
  r2 : ∀ i, i < m → L ≤ (rw' wide i).length
  same : ∀ i, i < m → ∀ j, j < L → fr (rw' wide i) j = fr (rw' rows i) j
theorem Cut.pivF {m L col : Nat} {rows wide : List (List Fr)} (h : Cut m L rows wide) (hc : col < L) : ∀ n r, r + n ≤ m → pivF wide col n r = pivF rows col n r
  | 0, r, _ => rfl
  | n + 1, r, hr => by
    simp only [Go.Proofs.Ytbbkejfcheobaab.pivF]
    rw [h.same r (by omega) col hc, h.pivF hc n (r + 1) (by omega)]
theorem Cut.stepB {m L col at' r : Nat} {rows wide : List (List Fr)} (h : Cut m L rows wide) (hc : col < L) (ha : at' < m) (hr : r < m) (hb : stepB wide at' r col = true) : stepB rows at' r col = true := by
  unfold Go.Proofs.Ytbbkejfcheobaab.stepB at hb
  rw [Bool.and_eq_true, List.all_eq_true] at hb
  obtain ⟨hd, ht⟩ := hb
  have hd2 : divB (rw' rows r) (fr (rw' rows r) col) = true := by
    apply all_yes (p := fun p => divK p (fr (rw' rows r) col)) (d := ((0, 0) : Fr))
    intro k hk
    rw [h.r1 r hr] at hk
    have := divB_at hd (j := k) (by have := h.r2 r hr; omega)
    rw [h.same r hr k hk, h.same r hr col hc] at this
    exact this
  refine stepB_yes hd2 (fun k hk hne => ?_)
  rw [h.l1] at hk
  have hti := ht k (by simpa [h.l2] using hk)
  rw [rw_exch _ _ _ _ (by rw [h.l2]; exact hr) (by rw [h.l2]; exact ha)] at hti
  have hti2 : takeB (rw' wide (exch r at' k)) (fr (rw' wide (exch r at' k)) col) (divR (rw' wide r) (fr (rw' wide r) col)) = true := by simpa [hne] using hti
  rw [rw_exch _ _ _ _ (by rw [h.l1]; exact hr) (by rw [h.l1]; exact ha)]
  have hx := exch_lt hr ha hk
  unfold takeB
  rw [List.all_eq_true]
  intro j hj
  rw [List.mem_range, h.r1 _ hx] at hj
  have := takeB_at hti2 (j := j) (by have := h.r2 _ hx; omega)
  rw [divR_at (by have := h.r2 r hr; omega), h.same _ hx j hj, h.same _ hx col hc, h.same r hr j hj, h.same r hr col hc] at this
  rw [divR_at (by rw [h.r1 r hr]; exact hj)]
  exact this
theorem Cut.stepT {m L col at' r : Nat} {rows wide : List (List Fr)} (h : Cut m L rows wide) (hc : col < L) (ha : at' < m) (hr : r < m) : Cut m L (stepT rows at' r col) (stepT wide at' r col) := by
  have e1 : ∀ (T : List (List Fr)), T.length = m → ∀ i, i < m → rw' (Go.Proofs.Ytbbkejfcheobaab.stepT T at' r col) i = if i = at' then divR (rw' T r) (fr (rw' T r) col) else takeR (rw' T (exch r at' i)) (fr (rw' T (exch r at' i)) col) (divR (rw' T r) (fr (rw' T r) col)) := by
    intro T hT i hi
    have hi2 : i < T.length := by rw [hT]; exact hi
    rw [← stepP_all, stepP_at _ _ _ _ _ _ hi2, if_pos hi2, rw_exch _ _ _ _ (by rw [hT]; exact hr) (by rw [hT]; exact ha)]
  refine ⟨by rw [stepT_len]; exact h.l1, by rw [stepT_len]; exact h.l2, fun i hi => ?_, fun i hi => ?_, fun i hi j hj => ?_⟩
  · rw [e1 rows h.l1 i hi]
    split
    · rw [divR_len]; exact h.r1 r hr
    · rw [takeR_len]; exact h.r1 _ (exch_lt hr ha hi)
  · rw [e1 wide h.l2 i hi]
    split
    · rw [divR_len]; exact h.r2 r hr
    · rw [takeR_len]; exact h.r2 _ (exch_lt hr ha hi)
  · rw [e1 rows h.l1 i hi, e1 wide h.l2 i hi]
    have hx := exch_lt hr ha hi
    have hr2 := h.r2 r hr
    have hx2 := h.r2 _ hx
    by_cases e : i = at'
    · rw [if_pos e, if_pos e, divR_at (by omega), divR_at (by rw [h.r1 r hr]; exact hj), h.same r hr j hj, h.same r hr col hc]
    · rw [if_neg e, if_neg e, takeR_at (by omega), takeR_at (by rw [h.r1 _ hx]; exact hj), divR_at (by omega), divR_at (by rw [h.r1 r hr]; exact hj), h.same r hr j hj, h.same r hr col hc, h.same _ hx j hj, h.same _ hx col hc]
theorem Cut.ech {m L : Nat} : ∀ n col rows wide ch R C, Cut m L rows wide → col + n ≤ L → ch.length ≤ m → echF n col wide ch = some (R, C) → ∃ R', echF n col rows ch = some (R', C) ∧ Cut m L R' R
  | 0, col, rows, wide, ch, R, C, h, _, _, he => by
    simp only [echF] at he ⊢
    cases he
    exact ⟨rows, rfl, h⟩
  | n + 1, col, rows, wide, ch, R, C, h, hl, hcl, he => by
    have hp : piv wide col ch.length = piv rows col ch.length := by
      unfold piv
      rw [h.l1, h.l2, h.pivF (by omega) _ _ (by omega)]
    have hple := piv_le (rows := rows) (col := col) (at' := ch.length) (by rw [h.l1]; exact hcl)
    by_cases hf : piv rows col ch.length = rows.length
    · rw [echF_free (by rw [hp, hf, h.l1, h.l2])] at he
      rw [echF_free hf]
      exact Cut.ech n (col + 1) rows wide ch R C h (by omega) hcl he
    · have hw : piv wide col ch.length ≠ wide.length := by rw [hp, h.l2, ← h.l1]; exact hf
      have hlt : piv rows col ch.length < m := by rw [← h.l1]; omega
      by_cases hs : Go.Proofs.Ytbbkejfcheobaab.stepB wide ch.length (piv rows col ch.length) col = true
      · rw [echF_yes hp.symm (by rw [← hp]; exact hw) hs] at he
        rw [echF_yes rfl hf (h.stepB (by omega) (by omega) hlt hs)]
        exact Cut.ech n (col + 1) _ _ _ R C (h.stepT (by omega) (by omega) hlt) (by omega) (by simp; omega) he
      · rw [Bool.not_eq_true] at hs
        rw [echF_no hp.symm (by rw [← hp]; exact hw) hs] at he
        cases he
theorem echF_split : ∀ (a b col : Nat) (rows : List (List Fr)) (ch : List Nat) (R : List (List Fr)) (C : List Nat), echF (a + b) col rows ch = some (R, C) → ∃ R1 C1, echF a col rows ch = some (R1, C1) ∧ echF b (col + a) R1 C1 = some (R, C)
  | 0, b, col, rows, ch, R, C, h => ⟨rows, ch, rfl, by rw [Nat.zero_add] at h; exact h⟩
  | a + 1, b, col, rows, ch, R, C, h => by
    rw [show a + 1 + b = (a + b) + 1 by omega] at h
    rw [show col + (a + 1) = col + 1 + a by omega]
    by_cases hf : piv rows col ch.length = rows.length
    · rw [echF_free hf] at h ⊢
      exact echF_split a b (col + 1) rows ch R C h
    · by_cases hs : stepB rows ch.length (piv rows col ch.length) col = true
      · rw [echF_yes rfl hf hs] at h ⊢
        exact echF_split a b (col + 1) _ _ R C h
      · rw [Bool.not_eq_true] at hs
        rw [echF_no rfl hf hs] at h
        cases h
/-- where it is solved, the rank is full -/
theorem sol_rank {rows : List (List Fr)} {right : List Fr} (h : solO rows right = true) : echO rows = true ∧ (echC rows).length = rows.length := by
  obtain ⟨h1, h2, h3, h4⟩ := solO_out h
  obtain ⟨s1, s2, s3, s4⟩ := solC_out h1
  obtain ⟨⟨t1, -⟩, sr⟩ := tabB_out s2
  obtain ⟨c1, c2, c3⟩ := sol_cols h
  have hl0 : (rw' (wideT rows right) 0).length = rows.length + 1 := by rw [wideT_at _ _ _ (by omega)]; simp [s3]
  have he := echK_out h3
  unfold ech at he
  rw [hl0] at he
  obtain ⟨R1, C1, e1, e2⟩ := echF_split rows.length 1 0 _ _ _ _ he
  rw [Nat.zero_add] at e2
  have hC : C1 = echC (wideT rows right) := by
    simp only [echF] at e2
    split at e2
    · cases e2; rfl
    · split at e2
      · exfalso
        have e3 : C1 ++ [rows.length] = echC (wideT rows right) := (Prod.mk.inj (Option.some.inj e2)).2
        have := c3 rows.length (by rw [← e3]; simp)
        omega
      · cases e2
  have hcut : Cut rows.length rows.length rows (wideT rows right) := by
    refine ⟨rfl, wideT_len _ _, fun i hi => by rw [(sr i hi).1, s3], fun i hi => by rw [wideT_at _ _ _ hi, List.length_append, (sr i hi).1, s3]; omega, fun i hi j hj => ?_⟩
    rw [wideT_at _ _ _ hi]
    unfold fr
    rw [List.getElem?_append_left (by rw [(sr i hi).1, s3]; exact hj)]
  obtain ⟨R', e3, -⟩ := Cut.ech _ 0 rows _ [] R1 C1 hcut (by omega) (by simp) e1
  have he2 : ech rows = some (R', C1) := by
    unfold ech
    rw [s3]
    exact e3
  obtain ⟨f1, f2, f3⟩ := ech_yes he2
  refine ⟨by unfold echO; rw [s2, f1]; rfl, ?_⟩
  rw [f3, hC, c1]
/-- is row by solution right, as far as it goes: what the law's loop makes -/
def chkS (row x : List Fr) : Nat → Fr × Bool
  | 0 => ((0, 1), true)
  | k + 1 => (addP (chkS row x k).1 (mulP (fr row k) (fr x k)), (chkS row x k).2 && mulK (fr row k) (fr x k) && addK (chkS row x k).1 (mulP (fr row k) (fr x k)))
theorem chkS_is (row x : List Fr) : ∀ k, (chkS row x k).2 = true → okF (chkS row x k).1 = true ∧ qf (chkS row x k).1 = sumN (fun j => qf (fr row j) * qf (fr x j)) k
  | 0, _ => ⟨by show okF (0, 1) = true; decide, by simp only [chkS, sumN]; exact qf_null⟩
  | k + 1, h => by
    simp only [chkS, Bool.and_eq_true] at h
    obtain ⟨⟨h1, h2⟩, h3⟩ := h
    obtain ⟨i1, i2⟩ := chkS_is row x k h1
    simp only [chkS, sumN]
    exact ⟨add_right h3, by rw [qf_add h3, qf_mul h2, i2]⟩
theorem sol_check {rows : List (List Fr)} {right : List Fr} (h : solO rows right = true) (i : Nat) (hi : i < rows.length) (hg : (chkS (rw' rows i) (solX rows right) rows.length).2 = true) : (chkS (rw' rows i) (solX rows right) rows.length).1 = fr right i := by
  obtain ⟨h1, h2, h3, h4⟩ := solO_out h
  obtain ⟨s1, s2, s3, s4⟩ := solC_out h1
  obtain ⟨e1, e2⟩ := chkS_is _ _ _ hg
  have hr : allOk right = true := by rw [← wide_tab h1]; exact h2
  refine qf_inj e1 (allOk_at hr (by omega)) ?_
  rw [e2]
  exact sol_solves h i hi
end Go.Proofs.Ytbbkejfcheobaab
