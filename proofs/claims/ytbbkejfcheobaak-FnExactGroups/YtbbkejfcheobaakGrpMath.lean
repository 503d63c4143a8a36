/- The least whole numbers of a row of fractions, in plain numbers; groups of dimensions. -/
import Derived.Test.YtbbkejfcheobaakDenMath
namespace Go.Proofs.Ytbbkejfcheobaak
open Go.RowKit Go.Proofs.Ytbbkejfcheobaak.RM

/-- the least common multiple of the first k denominators; the numbers; their common divisor -/
def lcF (ps : List Fr) : Nat → Int
  | 0 => 1
  | k + 1 => lcF ps k * ((fr ps k).2.tdiv (gcdi (lcF ps k) (fr ps k).2))
def nmF (ps : List Fr) (k : Nat) : Int := (lcF ps ps.length).tdiv (fr ps k).2 * (fr ps k).1
def gdF (ps : List Fr) : Nat → Int
  | 0 => 0
  | k + 1 => gcdi (gdF ps k) (nmF ps k)
def nmL (ps : List Fr) : List Int := (List.range ps.length).map (nmF ps)
def lwF (ps : List Fr) : List Int := (List.range ps.length).map (fun k => (nmF ps k).tdiv (gdF ps ps.length))
/-- what a kernel's row is: its denominators divide one small number, and it has a 1 -/
structure Small (ps : List Fr) : Prop where
  den : ∀ k, k < ps.length → 1 ≤ (fr ps k).2
  num : ∀ k, k < ps.length → -1000000000 ≤ (fr ps k).1 ∧ (fr ps k).1 ≤ 1000000000
  one : ∃ k, k < ps.length ∧ (fr ps k).1 ≠ 0
  dvd : ∃ D : Nat, 1 ≤ D ∧ D ≤ 7085880 ∧ ∀ k, k < ps.length → (fr ps k).2 ∣ (D : Int)
theorem tdiv_gcd {a b : Int} (hb : 1 ≤ b) : ∃ q, b = gcdi a b * q ∧ b.tdiv (gcdi a b) = q ∧ 1 ≤ q := by
  obtain ⟨q, hq⟩ := gcdi_dvd_r a b
  have hg : 0 < gcdi a b := gcdi_pos_r a b (by omega)
  obtain ⟨G, hG⟩ : ∃ G, G = gcdi a b := ⟨_, rfl⟩
  rw [← hG] at hq hg ⊢
  clear hG
  refine ⟨q, hq, ?_, ?_⟩
  · rw [hq, Int.mul_tdiv_cancel_left _ (by omega)]
  · apply Classical.byContradiction
    intro hn
    have : G * q ≤ 0 := Int.mul_nonpos_of_nonneg_of_nonpos (by omega) (by omega)
    omega
theorem gcdi_mul {G p q : Int} (h : 0 ≤ G) : gcdi (G * p) (G * q) = G * gcdi p q := by
  unfold gcdi
  rw [Int.gcd_mul_left, Int.natCast_mul, Int.natAbs_of_nonneg h]
theorem lcm_dvd {a b D : Int} (ha : a ∣ D) (hb : b ∣ D) (hb1 : 1 ≤ b) : a * (b.tdiv (gcdi a b)) ∣ D := by
  obtain ⟨q, hq, e, -⟩ := tdiv_gcd (a := a) hb1
  rw [e]
  have hg : gcdi a b ≠ 0 := by have := gcdi_pos_r a b (by omega); omega
  obtain ⟨p, hp⟩ := gcdi_dvd_l a b
  obtain ⟨x, hx⟩ := ha
  obtain ⟨y, hy⟩ := hb
  -- p and q have no common divisor
  have hc : gcdi p q = 1 := by
    have h0 := gcdi_mul (G := gcdi a b) (p := p) (q := q) (gcdi_nonneg a b)
    rw [← hp, ← hq] at h0
    have h1 : gcdi a b = gcdi a b * gcdi p q := h0
    have h2 : gcdi a b * 1 = gcdi a b * gcdi p q := by rw [Int.mul_one]; exact h1
    exact (Int.eq_of_mul_eq_mul_left hg h2).symm
  have h3 : q ∣ p * x := by
    have h4 : gcdi a b * (p * x) = gcdi a b * (q * y) := by
      rw [← Int.mul_assoc, ← Int.mul_assoc, ← hp, ← hq, ← hx, ← hy]
    exact ⟨y, Int.eq_of_mul_eq_mul_left hg h4⟩
  obtain ⟨z, hz⟩ := cop_dvd hc h3
  exact ⟨z, by rw [hx, hz, ← Int.mul_assoc]⟩
theorem lcF_dvd {ps : List Fr} (h : Small ps) {D : Nat} (hD : ∀ k, k < ps.length → (fr ps k).2 ∣ (D : Int)) : ∀ k, k ≤ ps.length → lcF ps k ∣ (D : Int) ∧ 1 ≤ lcF ps k
  | 0, _ => ⟨Int.one_dvd _, by simp [lcF]⟩
  | k + 1, hk => by
    obtain ⟨h1, h2⟩ := lcF_dvd h hD k (by omega)
    have h3 := h.den k (by omega)
    simp only [lcF]
    refine ⟨lcm_dvd h1 (hD k (by omega)) h3, ?_⟩
    obtain ⟨q, -, e, hq⟩ := tdiv_gcd (a := lcF ps k) h3
    rw [e]
    have := Int.mul_le_mul h2 hq (by omega) (by omega)
    omega
theorem lcF_small {ps : List Fr} (h : Small ps) {k : Nat} (hk : k ≤ ps.length) : 1 ≤ lcF ps k ∧ lcF ps k ≤ 7085880 := by
  obtain ⟨D, d1, d2, d3⟩ := h.dvd
  obtain ⟨h1, h2⟩ := lcF_dvd h d3 k hk
  have := Int.le_of_dvd (by omega) h1
  exact ⟨h2, by omega⟩
theorem den_lcF {ps : List Fr} (h : Small ps) : ∀ n k, k < n → n ≤ ps.length → (fr ps k).2 ∣ lcF ps n
  | n + 1, k, hk, hn => by
    simp only [lcF]
    have h3 := h.den n (by omega)
    obtain ⟨q, hq, e, -⟩ := tdiv_gcd (a := lcF ps n) h3
    rw [e]
    by_cases ek : k = n
    · subst ek
      obtain ⟨p, hp⟩ := gcdi_dvd_l (lcF ps k) (fr ps k).2
      exact ⟨p, by conv => lhs; rw [hp]
                   rw [Int.mul_assoc, Int.mul_comm p q, ← Int.mul_assoc, ← hq]⟩
    · obtain ⟨x, hx⟩ := den_lcF h n k (by omega) (by omega)
      exact ⟨x * q, by rw [hx, Int.mul_assoc]⟩
theorem nmF_small {ps : List Fr} (h : Small ps) {k : Nat} (hk : k < ps.length) : -7085880000000000 ≤ nmF ps k ∧ nmF ps k ≤ 7085880000000000 := by
  unfold nmF
  obtain ⟨h1, h2⟩ := lcF_small h (Nat.le_refl ps.length)
  have h3 := h.den k hk
  obtain ⟨h4, h5⟩ := h.num k hk
  obtain ⟨x, hx⟩ := den_lcF h ps.length k hk (Nat.le_refl _)
  have e : (lcF ps ps.length).tdiv (fr ps k).2 = x := by
    rw [hx, Int.mul_tdiv_cancel_left _ (by omega)]
  rw [e]
  have hx1 : 0 ≤ x := by
    apply Classical.byContradiction
    intro hn
    have : (fr ps k).2 * x ≤ 0 := Int.mul_nonpos_of_nonneg_of_nonpos (by omega) (by omega)
    omega
  have hx2 : x ≤ 7085880 := by
    have : 1 * x ≤ (fr ps k).2 * x := Int.mul_le_mul_of_nonneg_right h3 hx1
    omega
  constructor
  · have a1 : x * (-1000000000) ≤ x * (fr ps k).1 := Int.mul_le_mul_of_nonneg_left h4 hx1
    omega
  · have a1 : x * (fr ps k).1 ≤ x * 1000000000 := Int.mul_le_mul_of_nonneg_left h5 hx1
    omega
theorem nmF_ne {ps : List Fr} (h : Small ps) {k : Nat} (hk : k < ps.length) (hn : (fr ps k).1 ≠ 0) : nmF ps k ≠ 0 := by
  unfold nmF
  obtain ⟨h1, h2⟩ := lcF_small h (Nat.le_refl ps.length)
  have h3 := h.den k hk
  obtain ⟨x, hx⟩ := den_lcF h ps.length k hk (Nat.le_refl _)
  have e : (lcF ps ps.length).tdiv (fr ps k).2 = x := by
    rw [hx, Int.mul_tdiv_cancel_left _ (by omega)]
  rw [e]
  intro hz
  rcases Int.mul_eq_zero.1 hz with h6 | h6
  · rw [h6, Int.mul_zero] at hx; omega
  · exact hn h6
theorem gdF_small {ps : List Fr} (h : Small ps) : ∀ k, k ≤ ps.length → 0 ≤ gdF ps k ∧ gdF ps k ≤ 7085880000000000 ∧ ((∃ j, j < k ∧ (fr ps j).1 ≠ 0) → 1 ≤ gdF ps k)
  | 0, _ => ⟨by simp [gdF], by simp [gdF], fun ⟨j, hj, _⟩ => absurd hj (Nat.not_lt_zero _)⟩
  | k + 1, hk => by
    obtain ⟨h1, h2, h3⟩ := gdF_small h k (by omega)
    have h4 := nmF_small h (k := k) (by omega)
    simp only [gdF]
    refine ⟨gcdi_nonneg _ _, ?_, fun ⟨j, hj, hne⟩ => ?_⟩
    · by_cases hz : nmF ps k = 0
      · rw [hz, gcdi_zero_abs]; split <;> omega
      · exact gcdi_le_r _ _ _ hz h4.2 h4.1
    · by_cases hz : nmF ps k = 0
      · rw [hz, gcdi_zero_abs]
        have hjk : j < k := by
          have : j ≠ k := fun e => nmF_ne h (k := k) (by omega) (e ▸ hne) hz
          omega
        have := h3 ⟨j, hjk, hne⟩
        split <;> omega
      · have := gcdi_pos_r (gdF ps k) (nmF ps k) hz; omega
theorem gdF_pos {ps : List Fr} (h : Small ps) : 1 ≤ gdF ps ps.length := (gdF_small h ps.length (Nat.le_refl _)).2.2 h.one
/-- the model's way to the same multiple -/
theorem lcF_model {ps : List Fr} (h : Small ps) {k : Nat} (hk : k < ps.length) : (lcF ps k).tdiv (gcdi (lcF ps k) (fr ps k).2) * (fr ps k).2 = lcF ps (k + 1) := by
  have h3 := h.den k hk
  obtain ⟨q, hq, e, -⟩ := tdiv_gcd (a := lcF ps k) h3
  obtain ⟨p, hp⟩ := gcdi_dvd_l (lcF ps k) (fr ps k).2
  have hg : gcdi (lcF ps k) (fr ps k).2 ≠ 0 := by have := gcdi_pos_r (lcF ps k) (fr ps k).2 (by omega); omega
  simp only [lcF]
  rw [e]
  have e2 : (lcF ps k).tdiv (gcdi (lcF ps k) (fr ps k).2) = p := by
    conv => lhs; arg 1; rw [hp]
    rw [Int.mul_tdiv_cancel_left _ hg]
  rw [e2]
  conv => lhs; rw [hq]
  conv => rhs; rw [hp]
  rw [← Int.mul_assoc, Int.mul_comm p]
theorem nmF_model (ps : List Fr) (k : Nat) : (fr ps k).1 * (lcF ps ps.length).tdiv (fr ps k).2 = nmF ps k := Int.mul_comm _ _
end Go.Proofs.Ytbbkejfcheobaak
