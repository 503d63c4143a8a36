/- Covers of inputs that are alone: small fractions are not too great; what is not below 0; Cauchy. -/
import Derived.Test.YtcafdkmgjfakdaaBudLaw2
namespace Go.Proofs.Ytcafdkmgjfakdaa
open Go.Proofs.Ytcafdkmgjfakdaa.RM

/-- a right fraction within bounds -/
def Sm (p : Fr) (A B : Int) : Prop := okF p = true ∧ -A ≤ p.1 ∧ p.1 ≤ A ∧ 1 ≤ p.2 ∧ p.2 ≤ B
theorem Sm.mul {x y : Fr} {A B C D : Int} (hx : Sm x A B) (hy : Sm y C D) (h1 : A * C ≤ 1000000000) (h3 : B * D ≤ A * C) : mulK x y = true ∧ Sm (mulP x y) (A * C) (B * D) := by
  obtain ⟨a0, a1, a2, a3, a4⟩ := hx
  obtain ⟨b0, b1, b2, b3, b4⟩ := hy
  have u := mul_in x.1 y.1 A C a1 a2 b1 b2
  have v := mul_in x.2 y.2 B D (by omega) a4 (by omega) b4
  have v' : 1 ≤ x.2 * y.2 := Int.mul_pos (by omega) (by omega)
  obtain ⟨r1, r2, r3, r4, r5, r6⟩ := red_small (x := x.1 * y.1) (y := x.2 * y.2) (m := A * C) h1 u.1 u.2 v' (by omega)
  have ht : two x.1 x.2 y.1 y.2 = true := two_yes a0 b0
  unfold mulK mulP Sm okF
  rw [ht, (op_yes _ _).1, (op_yes _ _).2.1, (op_yes _ _).2.2]
  exact ⟨r1, r2, r3, r4, r5, by show redD _ _ ≤ _; omega⟩
theorem Sm.add {x y : Fr} {A B C D : Int} (hx : Sm x A B) (hy : Sm y C D) (h1 : A * D + C * B ≤ 1000000000) (h3 : B * D ≤ A * D + C * B) : addK x y = true ∧ Sm (addP x y) (A * D + C * B) (B * D) := by
  obtain ⟨a0, a1, a2, a3, a4⟩ := hx
  obtain ⟨b0, b1, b2, b3, b4⟩ := hy
  have u := mul_in x.1 y.2 A D a1 a2 (by omega) b4
  have u' := mul_in y.1 x.2 C B b1 b2 (by omega) a4
  have v := mul_in x.2 y.2 B D (by omega) a4 (by omega) b4
  have v' : 1 ≤ x.2 * y.2 := Int.mul_pos (by omega) (by omega)
  obtain ⟨r1, r2, r3, r4, r5, r6⟩ := red_small (x := x.1 * y.2 + y.1 * x.2) (y := x.2 * y.2) (m := A * D + C * B) h1 (by omega) (by omega) v' (by omega)
  have ht : two x.1 x.2 y.1 y.2 = true := two_yes a0 b0
  unfold addK addP Sm okF
  rw [ht, (op_yes _ _).1, (op_yes _ _).2.1, (op_yes _ _).2.2]
  exact ⟨r1, r2, r3, r4, r5, by show redD _ _ ≤ _; omega⟩
theorem Sm.mono {x : Fr} {A B C D : Int} (h : Sm x A B) (h1 : A ≤ C) (h2 : B ≤ D) : Sm x C D := ⟨h.1, by have := h.2; omega, by have := h.2; omega, h.2.2.2.1, by have := h.2; omega⟩
theorem okF_sm {p : Fr} (h : okF p = true) : Sm p 1000000000 1000000000 := by
  have := okB_out h
  exact ⟨h, this.2.2.1, this.2.2.2.1, this.1, this.2.1⟩
theorem null_sm : Sm (0, 1) 0 1 := ⟨okF_null, by decide, by decide, by decide, by decide⟩
theorem mul_nul {a : Fr} (h : okF a = true) : mulK a (0, 1) = true ∧ mulP a (0, 1) = (0, 1) := by
  have hb := okB_out h
  obtain ⟨r1, r2, r3, r4, r5, r6⟩ := red_small (x := a.1 * 0) (y := a.2 * 1) (m := 1000000000) (by omega) (by omega) (by omega) (by omega) (by omega)
  have ht : two a.1 a.2 0 1 = true := two_yes h okF_null
  have hk : mulK a (0, 1) = true := by unfold mulK; show opOk (two a.1 a.2 0 1) _ _ = true; rw [ht, (op_yes _ _).2.2]; exact r1
  refine ⟨hk, qf_inj (mul_right hk) okF_null ?_⟩
  rw [qf_mul hk, qf_null]; grind
theorem nul_mul {a : Fr} (h : okF a = true) : mulK (0, 1) a = true ∧ mulP (0, 1) a = (0, 1) := by
  have hb := okB_out h
  obtain ⟨r1, r2, r3, r4, r5, r6⟩ := red_small (x := 0 * a.1) (y := 1 * a.2) (m := 1000000000) (by omega) (by omega) (by omega) (by omega) (by omega)
  have ht : two 0 1 a.1 a.2 = true := two_yes okF_null h
  have hk : mulK (0, 1) a = true := by unfold mulK; show opOk (two 0 1 a.1 a.2) _ _ = true; rw [ht, (op_yes _ _).2.2]; exact r1
  refine ⟨hk, qf_inj (mul_right hk) okF_null ?_⟩
  rw [qf_mul hk, qf_null]; grind
theorem add_nulr {p : Fr} (h : okF p = true) : addK p (0, 1) = true ∧ addP p (0, 1) = p := by
  have hb := okB_out h
  obtain ⟨r1, r2, r3, r4, r5, r6⟩ := red_small (x := p.1 * 1 + 0 * p.2) (y := p.2 * 1) (m := 1000000000) (by omega) (by omega) (by omega) (by omega) (by omega)
  have ht : two p.1 p.2 0 1 = true := two_yes h okF_null
  have hk : addK p (0, 1) = true := by unfold addK; show opOk (two p.1 p.2 0 1) _ _ = true; rw [ht, (op_yes _ _).2.2]; exact r1
  refine ⟨hk, qf_inj (add_right hk) h ?_⟩
  rw [qf_add hk, qf_null]; grind
/-- a nought in the cover adds nothing -/
theorem stp_nul {s : Fr × Bool} {a b : Fr} (hs : okF s.1 = true) (ha : okF a = true) (hb : okF b = true) : stpV s a (0, 1) b = s := by
  have e1 : p1V a (0, 1) = (0, 1) := by unfold p1V; rw [keepF_yes (mul_nul ha).1]; exact (mul_nul ha).2
  have e2 : p1V (0, 1) b = (0, 1) := by unfold p1V; rw [keepF_yes (nul_mul hb).1]; exact (nul_mul hb).2
  unfold stpV
  rw [e1, e2, (mul_nul ha).1, (nul_mul hb).1, (add_nulr hs).1, keepF_yes rfl, (add_nulr hs).2]
  obtain ⟨s1, s2⟩ := s
  simp
theorem keep_right {o : Bool} {p : Fr} (h : o = true → okF p = true) : okF (keepF o p) = true := by
  cases o with
  | true => rw [keepF_yes rfl]; exact h rfl
  | false => exact okF_null
theorem stp_right (s : Fr × Bool) (a c b : Fr) : okF (stpV s a c b).1 = true := keep_right fun h => add_right h
/-- only what stands on the diagonal -/
def dgV (ps vs bs : List Fr) (bd : Bool) : Nat → Fr × Bool
  | 0 => ((0, 1), bd)
  | k + 1 => stpV (dgV ps vs bs bd k) (fr ps k) (fr vs k) (fr bs k)
theorem dgV_right (ps vs bs : List Fr) (bd : Bool) : ∀ k, okF (dgV ps vs bs bd k).1 = true
  | 0 => okF_null
  | _ + 1 => stp_right _ _ _ _
theorem aloneR_at (vs : List Fr) (n i j : Nat) (hj : j < n) : fr (aloneR vs n i) j = if i = j then fr vs i else (0, 1) := by
  unfold aloneR fr
  rw [List.getElem?_set]
  by_cases e : i = j
  · subst e; rw [if_pos rfl, if_pos rfl, if_pos (by simpa using hj)]; rfl
  · rw [if_neg e, if_neg e, List.getElem?_replicate, if_pos hj]; rfl
theorem aloneT_at (vs : List Fr) (k i : Nat) (h : i < k) : rw' (aloneT vs k) i = aloneR vs vs.length i := by simp [rw', aloneT, h]
theorem aloneT_len (vs : List Fr) (k : Nat) : (aloneT vs k).length = k := by simp [aloneT]
theorem row_alone {vs bs : List Fr} {a : Fr} {s : Fr × Bool} {i n : Nat} (hi : i < n) (ha : okF a = true) (hs : okF s.1 = true) (hb : ∀ j, j < n → okF (fr bs j) = true) :
    ∀ k, k ≤ n → rowV a (aloneR vs n i) bs s k = if i < k then stpV s a (fr vs i) (fr bs i) else s
  | 0, _ => by rw [if_neg (by omega)]; rfl
  | k + 1, hk => by
    show stpV (rowV a (aloneR vs n i) bs s k) a (fr (aloneR vs n i) k) (fr bs k) = _
    rw [row_alone hi ha hs hb k (by omega), aloneR_at vs n i k (by omega)]
    rcases Nat.lt_trichotomy i k with c | c | c
    · rw [if_pos c, if_neg (show ¬ i = k by omega), if_pos (show i < k + 1 by omega)]
      exact stp_nul (stp_right _ _ _ _) ha (hb k (by omega))
    · subst c
      rw [if_neg (show ¬ i < i by omega), if_pos rfl, if_pos (show i < i + 1 by omega)]
    · rw [if_neg (show ¬ i < k by omega), if_neg (show ¬ i = k by omega), if_neg (show ¬ i < k + 1 by omega)]
      exact stp_nul hs ha (hb k (by omega))
theorem sum_alone {ps vs bs : List Fr} {bd : Bool} (hp : ∀ j, j < vs.length → okF (fr ps j) = true) (hb : ∀ j, j < vs.length → okF (fr bs j) = true) :
    ∀ k, k ≤ vs.length → sumV ps (aloneT vs vs.length) bs bd k = dgV ps vs bs bd k
  | 0, _ => rfl
  | k + 1, hk => by
    show rowV (fr ps k) (rw' (aloneT vs vs.length) k) bs (sumV ps (aloneT vs vs.length) bs bd k) (aloneT vs vs.length).length = _
    rw [sum_alone hp hb k (by omega), aloneT_at _ _ _ (by omega), aloneT_len, row_alone (by omega) (hp k (by omega)) (dgV_right _ _ _ _ _) hb vs.length (Nat.le_refl _), if_pos (by omega)]
    rfl
theorem stp_sm {s : Fr} {a c b : Fr} {As Bs Aa Ba Ac Bc Ab Bb : Int} (hs : Sm s As Bs) (ha : Sm a Aa Ba) (hc : Sm c Ac Bc) (hb : Sm b Ab Bb)
    (m1 : Aa * Ac ≤ 1000000000) (m2 : Ba * Bc ≤ Aa * Ac) (m3 : Aa * Ac * Ab ≤ 1000000000) (m4 : Ba * Bc * Bb ≤ Aa * Ac * Ab)
    (m5 : As * (Ba * Bc * Bb) + Aa * Ac * Ab * Bs ≤ 1000000000) (m6 : Bs * (Ba * Bc * Bb) ≤ As * (Ba * Bc * Bb) + Aa * Ac * Ab * Bs) :
    (stpV (s, false) a c b).2 = false ∧ Sm (stpV (s, false) a c b).1 (As * (Ba * Bc * Bb) + Aa * Ac * Ab * Bs) (Bs * (Ba * Bc * Bb)) := by
  obtain ⟨k1, s1⟩ := ha.mul hc m1 m2
  have e1 : p1V a c = mulP a c := by unfold p1V; exact keepF_yes k1
  obtain ⟨k2, s2⟩ := s1.mul hb m3 m4
  have e2 : p1V (mulP a c) b = mulP (mulP a c) b := by unfold p1V; exact keepF_yes k2
  obtain ⟨k3, s3⟩ := hs.add s2 m5 m6
  unfold stpV
  dsimp only
  rw [e1, e2, k1, k2, k3, keepF_yes rfl]
  exact ⟨rfl, s3⟩
end Go.Proofs.Ytcafdkmgjfakdaa
