/- What the law of tables asks of Times, without any program: a product's entries are sums of products, and products are reckoned in either order. -/
import Derived.Test.YtcafdkmgjfakdaaSolLaw
import Derived.Test.YtcafdkmgjfakdaaTimMath
namespace Go.Proofs.Ytcafdkmgjfakdaa
open Go.RowKit Go.Proofs.Ytcafdkmgjfakdaa.RM

theorem sumN_mulL (f : Nat → Rat) (c : Rat) (n : Nat) : sumN (fun i => c * f i) n = c * sumN f n := by
  rw [sumN_congr (g := fun i => f i * c) (fun i _ => by grind), sumN_mul]
  grind
/-- the model's sum, in numbers -/
theorem sdot_is (row : List Fr) (b : List (List Fr)) (j : Nat) : ∀ k, (sdot row b j k).2 = false → okF (sdot row b j k).1 = true ∧ qf (sdot row b j k).1 = sumN (fun i => qf (fr row i) * mv b i j) (k + 1)
  | 0, h => by
    have hm : mulK (fr row 0) (fr (rw' b 0) j) = true := by simpa [sdot] using h
    have e : (sdot row b j 0).1 = mulP (fr row 0) (fr (rw' b 0) j) := by simp only [sdot]; exact keepF_yes hm
    rw [e]
    refine ⟨mul_right hm, ?_⟩
    rw [qf_mul hm]
    simp only [sumN, mv]
    grind
  | k + 1, h => by
    have h1 : (sdot row b j k).2 = false := by
      cases hs : (sdot row b j k).2 with
      | false => rfl
      | true => simp [sdot, hs] at h
    have hm : mulK (fr row (k + 1)) (fr (rw' b (k + 1)) j) = true := by
      cases hs : mulK (fr row (k + 1)) (fr (rw' b (k + 1)) j) with
      | true => rfl
      | false => simp [sdot, hs] at h
    have ha : addK (sdot row b j k).1 (mulP (fr row (k + 1)) (fr (rw' b (k + 1)) j)) = true := by
      cases hs : addK (sdot row b j k).1 (mulP (fr row (k + 1)) (fr (rw' b (k + 1)) j)) with
      | true => rfl
      | false => simp [sdot, hm, keepF_yes, hs] at h
    have e : (sdot row b j (k + 1)).1 = addP (sdot row b j k).1 (mulP (fr row (k + 1)) (fr (rw' b (k + 1)) j)) := by
      simp only [sdot]
      rw [keepF_yes hm, keepF_yes ha]
    obtain ⟨i1, i2⟩ := sdot_is row b j k h1
    rw [e]
    refine ⟨add_right ha, ?_⟩
    rw [qf_add ha, qf_mul hm, i2]
    rfl
theorem timO_out {a b : List (List Fr)} (h : timO a b = true) : timC a b = true ∧ ∀ i j, i < a.length → j < (rw' b 0).length → (timE a b i j).2 = false := by
  constructor
  · cases hc : timC a b with
    | true => rfl
    | false => rw [timO_no hc] at h; cases h
  · intro i j hi hj
    cases hb : (timE a b i j).2 with
    | false => rfl
    | true => rw [timO_bad hi hj hb] at h; cases h
theorem timT_row (a b : List (List Fr)) (k i : Nat) (h : i < k) : rw' (timT a b k) i = timRow a b i (rw' b 0).length := by simp [rw', timT, h]
theorem timRow_at (a b : List (List Fr)) (i L j : Nat) (h : j < L) : fr (timRow a b i L) j = (timE a b i j).1 := by simp [fr, timRow, h]
theorem tim_shape {a b : List (List Fr)} (h : timO a b = true) : (timA a b).length = a.length ∧ ∀ i, i < a.length → (rw' (timA a b) i).length = (rw' b 0).length := by
  rw [timA_yes h]
  exact ⟨timT_len _ _ _, fun i hi => by rw [timT_row _ _ _ _ hi, timRow_len]⟩
theorem tim_at {a b : List (List Fr)} (h : timO a b = true) (hb : 1 ≤ b.length) {i j : Nat} (hi : i < a.length) (hj : j < (rw' b 0).length) :
    okF (fr (rw' (timA a b) i) j) = true ∧ mv (timA a b) i j = sumN (fun k => mv a i k * mv b k j) b.length := by
  obtain ⟨hc, hg⟩ := timO_out h
  have e := sdot_is (rw' a i) b j (b.length - 1) (hg i j hi hj)
  rw [Nat.sub_add_cancel hb] at e
  unfold mv
  rw [timA_yes h, timT_row _ _ _ _ hi, timRow_at _ _ _ _ _ hj]
  exact e
theorem tabs_ext {S T : List (List Fr)} (h1 : S.length = T.length) (h2 : ∀ i, i < S.length → (rw' S i).length = (rw' T i).length) (h3 : ∀ i j, i < S.length → j < (rw' S i).length → fr (rw' S i) j = fr (rw' T i) j) : S = T := by
  refine List.ext_getElem h1 fun i hi hi' => ?_
  have es : rw' S i = S[i] := by simp [rw', hi]
  have et : rw' T i = T[i] := by simp [rw', hi']
  have l := h2 i hi
  rw [es, et] at l
  refine List.ext_getElem l fun j hj hj' => ?_
  have e := h3 i j hi (by rw [es]; exact hj)
  rw [es, et] at e
  simpa [fr, hj, hj'] using e
/-- products in either order -/
theorem tim_assoc {a b c : List (List Fr)} (hab : timO a b = true) (hbc : timO b c = true) (h1 : timO a (timA b c) = true) (h2 : timO (timA a b) c = true) (hb : 1 ≤ b.length) (hc : 1 ≤ c.length) :
    timA a (timA b c) = timA (timA a b) c := by
  obtain ⟨s1, s2⟩ := tim_shape hab
  obtain ⟨s3, s4⟩ := tim_shape hbc
  obtain ⟨s5, s6⟩ := tim_shape h1
  obtain ⟨s7, s8⟩ := tim_shape h2
  have c1 := (timC_out (timO_out hbc).1).2.2
  have hl : (rw' (timA b c) 0).length = (rw' c 0).length := s4 0 (by omega)
  refine tabs_ext (by rw [s5, s7, s1]) (fun i hi => by rw [s6 i (by omega), s8 i (by omega), hl]) fun i j hi hj => ?_
  rw [s5] at hi
  rw [s6 i hi, hl] at hj
  obtain ⟨k1, q1⟩ := tim_at h1 (by omega) hi (by rw [hl]; exact hj)
  obtain ⟨k2, q2⟩ := tim_at h2 hc (by rw [s1]; exact hi) hj
  refine qf_inj k1 k2 ?_
  unfold mv at q1 q2
  rw [q1, q2, s3]
  have e1 : sumN (fun k => qf (fr (rw' a i) k) * qf (fr (rw' (timA b c) k) j)) b.length = sumN (fun k => sumN (fun l => mv a i k * (mv b k l * mv c l j)) c.length) b.length := by
    refine sumN_congr fun k hk => ?_
    have := (tim_at hbc hc (i := k) (j := j) hk hj).2
    unfold mv at this
    rw [this, sumN_mulL]
    rfl
  have e2 : sumN (fun k => qf (fr (rw' (timA a b) i) k) * qf (fr (rw' c k) j)) c.length = sumN (fun l => sumN (fun k => mv a i k * (mv b k l * mv c l j)) b.length) c.length := by
    refine sumN_congr fun l hl' => ?_
    have := (tim_at hab hb (i := i) (j := l) hi (by rw [c1]; exact hl')).2
    unfold mv at this
    rw [this, ← sumN_mul]
    exact sumN_congr fun k _ => by unfold mv; grind
  rw [e1, e2, sumN_swap]
end Go.Proofs.Ytcafdkmgjfakdaa
