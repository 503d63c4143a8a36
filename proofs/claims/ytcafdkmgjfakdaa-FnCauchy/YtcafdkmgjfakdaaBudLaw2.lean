/- What is carried is a cover; carried twice is carried once; small fractions are not too great. -/
import Derived.Test.YtcafdkmgjfakdaaBudLaw
import Derived.Test.YtcafdkmgjfakdaaTabLaw1
namespace Go.Proofs.Ytcafdkmgjfakdaa
open Go.Proofs.Ytcafdkmgjfakdaa.RM

theorem carO_out {S C : List (List Fr)} (h : carO S C = true) : tabB S 6 = true ∧ covB C = true ∧ (rw' S 0).length = C.length ∧ (carV S C S.length).2 = false := by
  unfold carO carC at h
  rw [Bool.and_eq_true, Bool.and_eq_true, Bool.and_eq_true, decide_eq_true_eq, Bool.not_eq_true'] at h
  exact ⟨h.1.1.1, h.1.1.2, h.1.2, h.2⟩
theorem car_shape {S C : List (List Fr)} (h : carO S C = true) : (carA S C).length = S.length ∧ ∀ i, i < S.length → (rw' (carA S C) i).length = S.length ∧ ∀ j, j < S.length → okF (fr (rw' (carA S C) i) j) = true ∧ qf (fr (rw' (carA S C) i) j) = quad (rw' S i) C (rw' S j) C.length := by
  rw [carA_yes h]
  exact ⟨carV_len _ _ _, car_at (carO_out h).2.2.2⟩
theorem allB_mk {ps : List Fr} {n : Nat} (h : ps.length = n) (hk : ∀ k, k < n → okF (fr ps k) = true) : allB ps n = true := by
  unfold allB
  rw [decide_eq_true (.inr (by omega)), Bool.true_and]
  exact allOk_yes fun k hk' => hk k (by omega)
/-- what is carried is a cover -/
theorem car_cov {S C : List (List Fr)} (h : carO S C = true) : covB (carA S C) = true := by
  obtain ⟨h1, h2⟩ := car_shape h
  obtain ⟨t1, t2, t3, t4⟩ := carO_out h
  obtain ⟨⟨u1, u2, _, _⟩, _⟩ := tabB_out t1
  obtain ⟨_, _, v3⟩ := covB_out t2
  unfold covB
  rw [h1, sqB_yes (by omega) (fun k hk => allB_mk (h2 k (by omega)).1 (fun j hj => ((h2 k (by omega)).2 j hj).1)), Bool.true_and]
  refine decide_eq_true fun i hi k hk => ?_
  rw [h1] at hi
  have a := (h2 i hi).2 k (by omega)
  have b := (h2 k (by omega)).2 i hi
  refine qf_inj a.1 b.1 ?_
  rw [a.2, b.2]
  exact quad_turn (symP_any v3)
theorem quad_is (ps bs : List Fr) (rows : List (List Fr)) : quad ps rows bs rows.length = sumN (fun i => sumN (fun j => qf (fr ps i) * mv rows i j * qf (fr bs j)) rows.length) rows.length := by
  unfold quad
  refine sumN_congr fun i hi => ?_
  unfold lin
  rw [Rat.mul_comm, ← sumN_mul]
  exact sumN_congr fun j hj => by unfold mv; grind
/-- CARRIED TWICE IS CARRIED ONCE -/
theorem car_twice {T S C : List (List Fr)} (h : carO S C = true) (h1 : carO T (carA S C) = true) (h2 : timO T S = true) (h3 : carO (timA T S) C = true) : carA T (carA S C) = carA (timA T S) C := by
  obtain ⟨a1, a2⟩ := car_shape h
  obtain ⟨b1, b2⟩ := car_shape h1
  obtain ⟨c1, c2⟩ := car_shape h3
  obtain ⟨d1, d2⟩ := tim_shape h2
  obtain ⟨t1, t2, t3, t4⟩ := carO_out h
  obtain ⟨⟨u1, u2, _, _⟩, _⟩ := tabB_out t1
  have hTS := fun (i j : Nat) (hi : i < T.length) (hj : j < C.length) => (tim_at h2 u1 hi (j := j) (by rw [t3]; exact hj)).2
  refine tabs_ext (by rw [b1, c1, d1]) (fun i hi => by rw [(b2 i (by omega)).1, (c2 i (by omega)).1, d1]) fun i j hi hj => ?_
  rw [b1] at hi
  rw [(b2 i hi).1] at hj
  obtain ⟨k1, q1⟩ := (b2 i hi).2 j hj
  obtain ⟨k2, q2⟩ := (c2 i (by omega)).2 j (by omega)
  refine qf_inj k1 k2 ?_
  rw [q1, q2, quad_is, quad_is, a1]
  -- left: over x, y of T i x * R x y * T j y; R x y is a sum over a, b
  have e1 : sumN (fun x => sumN (fun y => qf (fr (rw' T i) x) * mv (carA S C) x y * qf (fr (rw' T j) y)) S.length) S.length
      = sumN (fun x => sumN (fun y => sumN (fun a => sumN (fun b => mv T i x * mv S x a * mv C a b * mv S y b * mv T j y) C.length) C.length) S.length) S.length := by
    refine sumN_congr fun x hx => sumN_congr fun y hy => ?_
    have := ((a2 x hx).2 y hy).2
    unfold mv
    rw [this, quad_is, Rat.mul_comm (qf (fr (rw' T i) x)), ← sumN_mul, ← sumN_mul]
    refine sumN_congr fun a ha => ?_
    rw [← sumN_mul, ← sumN_mul]
    exact sumN_congr fun b hb => by unfold mv; grind
  have e2 : sumN (fun a => sumN (fun b => qf (fr (rw' (timA T S) i) a) * mv C a b * qf (fr (rw' (timA T S) j) b)) C.length) C.length
      = sumN (fun a => sumN (fun b => sumN (fun x => sumN (fun y => mv T i x * mv S x a * mv C a b * mv S y b * mv T j y) S.length) S.length) C.length) C.length := by
    refine sumN_congr fun a ha => sumN_congr fun b hb => ?_
    have p := hTS i a hi ha
    have q := hTS j b (by omega) hb
    unfold mv at p q ⊢
    rw [p, q, Rat.mul_assoc, ← sumN_mul]
    refine sumN_congr fun x hx => ?_
    rw [← sumN_mulL, ← sumN_mulL]
    exact sumN_congr fun y hy => by grind
  rw [e1, e2]
  -- the order of the sums
  rw [sumN_congr (g := fun x => sumN (fun a => sumN (fun b => sumN (fun y => mv T i x * mv S x a * mv C a b * mv S y b * mv T j y) S.length) C.length) C.length) (fun x hx => by
    rw [sumN_swap (fun y a => sumN (fun b => mv T i x * mv S x a * mv C a b * mv S y b * mv T j y) C.length)]
    exact sumN_congr fun a ha => sumN_swap (fun y b => mv T i x * mv S x a * mv C a b * mv S y b * mv T j y) _ _)]
  rw [sumN_swap (fun x a => sumN (fun b => sumN (fun y => mv T i x * mv S x a * mv C a b * mv S y b * mv T j y) S.length) C.length)]
  refine sumN_congr fun a ha => ?_
  rw [sumN_swap (fun x b => sumN (fun y => mv T i x * mv S x a * mv C a b * mv S y b * mv T j y) S.length)]
/-- carried of one row of shares is the variance -/
theorem car_one {ps : List Fr} {C : List (List Fr)} (h : varO ps C = true) : carO [ps] C = true ∧ carA [ps] C = [[varA ps C]] := by
  have hv := varA_yes h
  have h' := h
  unfold varO at h
  rw [Bool.and_eq_true, Bool.not_eq_true'] at h
  obtain ⟨t1, t2, t3, t4, t5⟩ := toldC_out h.1
  have hc : covB C = true := by
    have := h.1
    unfold toldC at this
    rw [Bool.and_eq_true] at this
    exact this.1
  have ho : carO [ps] C = true := by
    unfold carO carC
    rw [tabB_yes (rows := [ps]) (cols := 6) ⟨by simp, by simp, by show 1 ≤ ps.length; omega, by show (ps.length : Int) ≤ 6; omega⟩ (fun k hk => by
      obtain rfl : k = 0 := by simpa using hk
      exact ⟨rfl, t3⟩), hc, decide_eq_true (show (rw' [ps] 0).length = C.length from t2)]
    simp only [Bool.true_and, Bool.not_eq_true']
    exact h.2
  refine ⟨ho, ?_⟩
  rw [carA_yes ho, hv]
  rfl
end Go.Proofs.Ytcafdkmgjfakdaa
