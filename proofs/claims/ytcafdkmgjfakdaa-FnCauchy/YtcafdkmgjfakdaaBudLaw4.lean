/- What the laws of budgets ask of inputs that are alone: not below 0, and Cauchy. -/
import Derived.Test.YtcafdkmgjfakdaaBudLaw3
namespace Go.Proofs.Ytcafdkmgjfakdaa
open Go.Proofs.Ytcafdkmgjfakdaa.RM

theorem qf_pos {p : Fr} (h : okF p = true) : 0 ≤ qf p ↔ 0 ≤ p.1 := by
  have := okB_out h
  unfold qf
  exact Rat.divInt_nonneg_iff_of_pos_right (by omega)
theorem qf_less {p s : Fr} (h : okF p = true) (k : okF s = true) (hle : qf s ≤ qf p) : lessB p.1 p.2 s.1 s.2 = false := by
  have h1 := okB_out h
  have k1 := okB_out k
  rw [Rat.le_iff_sub_nonneg] at hle
  unfold qf at hle
  rw [Rat.divInt_sub_divInt _ _ (by omega) (by omega), Rat.divInt_nonneg_iff_of_pos_right (Int.mul_pos (by omega) (by omega))] at hle
  unfold lessB
  rw [decide_eq_false (by omega), Bool.and_false]
theorem aloneC_mk {vs : List Fr} (h1 : 1 ≤ vs.length) (h2 : vs.length ≤ 6) (hv : ∀ j, j < vs.length → okF (fr vs j) = true) : aloneC vs = true := by
  unfold aloneC
  rw [decide_eq_true ⟨h1, h2⟩, Bool.true_and]
  exact allB_mk rfl hv
theorem alone_cov {vs : List Fr} (h1 : 1 ≤ vs.length) (h2 : vs.length ≤ 6) (hv : ∀ j, j < vs.length → okF (fr vs j) = true) : aloneA vs = aloneT vs vs.length ∧ covB (aloneT vs vs.length) = true := by
  refine ⟨aloneA_yes (aloneC_mk h1 h2 hv), ?_⟩
  have hl := aloneT_len vs vs.length
  unfold covB
  rw [hl, sqB_yes (by omega) (fun k hk => by
    rw [hl] at hk
    rw [aloneT_at _ _ _ hk]
    refine allB_mk (aloneR_len _ _ _) fun j hj => ?_
    rw [aloneR_at _ _ _ _ hj]
    by_cases e : k = j
    · rw [if_pos e]; exact hv k hk
    · rw [if_neg e]; exact okF_null), Bool.true_and]
  refine decide_eq_true fun i hi k hk => ?_
  rw [hl] at hi
  rw [aloneT_at _ _ _ hi, aloneT_at _ _ _ (by omega), aloneR_at _ _ _ _ (by omega), aloneR_at _ _ _ _ hi, if_neg (by omega), if_neg (by omega)]
theorem dg_is {ps vs bs : List Fr} {bd : Bool} : ∀ {k : Nat}, (dgV ps vs bs bd k).2 = false → okF (dgV ps vs bs bd k).1 = true ∧ qf (dgV ps vs bs bd k).1 = sumN (fun i => qf (fr ps i) * (qf (fr vs i) * qf (fr bs i))) k
  | 0, _ => ⟨okF_null, qf_null⟩
  | k + 1, h => by
    obtain ⟨h1, _, h3, h4⟩ := stp_ok h
    refine ⟨h3, ?_⟩
    show qf (stpV (dgV ps vs bs bd k) (fr ps k) (fr vs k) (fr bs k)).1 = _
    rw [h4, (dg_is h1).2]
    simp only [sumN]
/-- two or three small shares and small variances -/
theorem dg_small {ps vs bs : List Fr} (n : Nat) (hn : n ≤ 3) (hp : ∀ i, i < n → Sm (fr ps i) 6 4) (hv : ∀ i, i < n → Sm (fr vs i) 8 1) (hb : ∀ i, i < n → Sm (fr bs i) 6 4) : (dgV ps vs bs false n).2 = false := by
  have one : ∀ (k : Nat) (s : Fr) (A B : Int), k < n → Sm s A B → A * 16 + 288 * B ≤ 1000000000 → B * 16 ≤ A * 16 + 288 * B → (stpV (s, false) (fr ps k) (fr vs k) (fr bs k)).2 = false ∧ Sm (stpV (s, false) (fr ps k) (fr vs k) (fr bs k)).1 (A * 16 + 288 * B) (B * 16) := by
    intro k s A B hk hs h1 h2
    exact stp_sm hs (hp k hk) (hv k hk) (hb k hk) (by decide) (by decide) (by decide) (by decide) h1 h2
  have pair : ∀ {s : Fr × Bool}, s.2 = false → s = (s.1, false) := fun {s} h => by rw [← h]
  match n, hn with
  | 0, _ => rfl
  | 1, _ => exact (one 0 (0, 1) 0 1 (by omega) null_sm (by decide) (by decide)).1
  | 2, _ =>
    obtain ⟨a1, a2⟩ := one 0 (0, 1) 0 1 (by omega) null_sm (by decide) (by decide)
    obtain ⟨b1, b2⟩ := one 1 _ _ _ (by omega) a2 (by decide) (by decide)
    show (stpV (stpV ((0, 1), false) (fr ps 0) (fr vs 0) (fr bs 0)) (fr ps 1) (fr vs 1) (fr bs 1)).2 = false
    rw [pair a1]
    exact b1
  | 3, _ =>
    obtain ⟨a1, a2⟩ := one 0 (0, 1) 0 1 (by omega) null_sm (by decide) (by decide)
    obtain ⟨b1, b2⟩ := one 1 _ _ _ (by omega) a2 (by decide) (by decide)
    obtain ⟨c1, c2⟩ := one 2 _ _ _ (by omega) b2 (by decide) (by decide)
    show (stpV (stpV (stpV ((0, 1), false) (fr ps 0) (fr vs 0) (fr bs 0)) (fr ps 1) (fr vs 1) (fr bs 1)) (fr ps 2) (fr vs 2) (fr bs 2)).2 = false
    rw [pair a1, pair b1]
    exact c1
theorem sumN_pos {f : Nat → Rat} : ∀ {n : Nat}, (∀ i, i < n → 0 ≤ f i) → 0 ≤ sumN f n
  | 0, _ => Rat.le_refl
  | n + 1, h => Rat.add_nonneg (sumN_pos fun i hi => h i (by omega)) (h n (by omega))
theorem sq_nonneg (x : Rat) : 0 ≤ x * x := by
  rcases Rat.nonneg_total x with h | h
  · exact Rat.mul_nonneg h h
  · have := Rat.mul_nonneg h h
    rwa [show -x * -x = x * x by grind] at this
/-- NO VARIANCE OF ALONE IS BELOW 0 -/
theorem alone_var {ps vs : List Fr} (hl : ps.length = vs.length) (h1 : 1 ≤ vs.length) (h3 : vs.length ≤ 3) (hp : ∀ i, i < vs.length → Sm (fr ps i) 6 4) (hv : ∀ i, i < vs.length → Sm (fr vs i) 8 1) (h0 : ∀ i, i < vs.length → 0 ≤ (fr vs i).1) :
    varO ps (aloneA vs) = true ∧ 0 ≤ (varA ps (aloneA vs)).1 := by
  obtain ⟨e, c⟩ := alone_cov h1 (by omega) (fun j hj => (hv j hj).1)
  have hd := dg_small (ps := ps) (vs := vs) (bs := ps) vs.length h3 hp hv hp
  have hs : varS ps (aloneT vs vs.length) = dgV ps vs ps false vs.length := by
    unfold varS
    rw [aloneT_len]
    exact sum_alone (fun j hj => (hp j hj).1) (fun j hj => (hp j hj).1) _ (Nat.le_refl _)
  rw [e]
  have ho : varO ps (aloneT vs vs.length) = true := by
    unfold varO toldC
    rw [c, hs, hd, aloneT_len, allB_mk hl (fun k hk => (hp k hk).1)]
    rfl
  refine ⟨ho, ?_⟩
  rw [varA_yes ho, hs]
  obtain ⟨d1, d2⟩ := dg_is hd
  rw [← qf_pos d1, d2]
  refine sumN_pos fun i hi => ?_
  rw [show qf (fr ps i) * (qf (fr vs i) * qf (fr ps i)) = qf (fr vs i) * (qf (fr ps i) * qf (fr ps i)) by grind]
  exact Rat.mul_nonneg ((qf_pos (hv i hi).1).2 (h0 i hi)) (sq_nonneg _)
/-- CAUCHY, of three -/
theorem cauchy3 (v x y : Nat → Rat) (h : ∀ i, i < 3 → 0 ≤ v i) :
    sumN (fun i => x i * (v i * y i)) 3 * sumN (fun i => x i * (v i * y i)) 3 ≤ sumN (fun i => x i * (v i * x i)) 3 * sumN (fun i => y i * (v i * y i)) 3 := by
  rw [Rat.le_iff_sub_nonneg]
  have e : sumN (fun i => x i * (v i * x i)) 3 * sumN (fun i => y i * (v i * y i)) 3 - sumN (fun i => x i * (v i * y i)) 3 * sumN (fun i => x i * (v i * y i)) 3
      = v 0 * v 1 * ((x 0 * y 1 - x 1 * y 0) * (x 0 * y 1 - x 1 * y 0)) + v 0 * v 2 * ((x 0 * y 2 - x 2 * y 0) * (x 0 * y 2 - x 2 * y 0)) + v 1 * v 2 * ((x 1 * y 2 - x 2 * y 1) * (x 1 * y 2 - x 2 * y 1)) := by
    simp only [sumN]
    grind
  rw [e]
  have h0 := h 0 (by omega)
  have h1 := h 1 (by omega)
  have h2 := h 2 (by omega)
  exact Rat.add_nonneg (Rat.add_nonneg (Rat.mul_nonneg (Rat.mul_nonneg h0 h1) (sq_nonneg _)) (Rat.mul_nonneg (Rat.mul_nonneg h0 h2) (sq_nonneg _))) (Rat.mul_nonneg (Rat.mul_nonneg h1 h2) (sq_nonneg _))
/-- what two carry of three inputs that are alone -/
theorem cauchy_car {xs ys vs : List Fr} (l1 : xs.length = 3) (l2 : ys.length = 3) (l3 : vs.length = 3) (hx : ∀ i, i < 3 → Sm (fr xs i) 6 4) (hy : ∀ i, i < 3 → Sm (fr ys i) 6 4) (hv : ∀ i, i < 3 → Sm (fr vs i) 8 1) :
    carO [xs, ys] (aloneA vs) = true ∧ carA [xs, ys] (aloneA vs) = [[(dgV xs vs xs false 3).1, (dgV xs vs ys false 3).1], [(dgV ys vs xs false 3).1, (dgV ys vs ys false 3).1]] := by
  obtain ⟨e, c⟩ := alone_cov (vs := vs) (by omega) (by omega) (fun j hj => (hv j (by omega)).1)
  have sm : ∀ ps bs : List Fr, (∀ i, i < 3 → Sm (fr ps i) 6 4) → (∀ i, i < 3 → Sm (fr bs i) 6 4) → sumV ps (aloneT vs vs.length) bs false (aloneT vs vs.length).length = dgV ps vs bs false 3 ∧ (dgV ps vs bs false 3).2 = false := by
    intro ps bs h1 h2
    rw [aloneT_len, sum_alone (fun j hj => (h1 j (by omega)).1) (fun j hj => (h2 j (by omega)).1) _ (Nat.le_refl _), l3]
    exact ⟨rfl, dg_small 3 (Nat.le_refl _) h1 hv h2⟩
  obtain ⟨a1, a2⟩ := sm xs xs hx hx
  obtain ⟨b1, b2⟩ := sm xs ys hx hy
  obtain ⟨c1, c2⟩ := sm ys xs hy hx
  obtain ⟨d1, d2⟩ := sm ys ys hy hy
  have r1 : crsV [xs, ys] (aloneT vs vs.length) 0 false 2 = ([(dgV xs vs xs false 3).1, (dgV xs vs ys false 3).1], false) := by
    show (([] ++ [(sumV xs (aloneT vs vs.length) xs false (aloneT vs vs.length).length).1]) ++ [(sumV xs (aloneT vs vs.length) ys (sumV xs (aloneT vs vs.length) xs false (aloneT vs vs.length).length).2 (aloneT vs vs.length).length).1], (sumV xs (aloneT vs vs.length) ys (sumV xs (aloneT vs vs.length) xs false (aloneT vs vs.length).length).2 (aloneT vs vs.length).length).2) = _
    rw [a1, a2, b1, b2]; rfl
  have r2 : crsV [xs, ys] (aloneT vs vs.length) 1 false 2 = ([(dgV ys vs xs false 3).1, (dgV ys vs ys false 3).1], false) := by
    show (([] ++ [(sumV ys (aloneT vs vs.length) xs false (aloneT vs vs.length).length).1]) ++ [(sumV ys (aloneT vs vs.length) ys (sumV ys (aloneT vs vs.length) xs false (aloneT vs vs.length).length).2 (aloneT vs vs.length).length).1], (sumV ys (aloneT vs vs.length) ys (sumV ys (aloneT vs vs.length) xs false (aloneT vs vs.length).length).2 (aloneT vs vs.length).length).2) = _
    rw [c1, c2, d1, d2]; rfl
  have hc : carV [xs, ys] (aloneT vs vs.length) 2 = ([[(dgV xs vs xs false 3).1, (dgV xs vs ys false 3).1], [(dgV ys vs xs false 3).1, (dgV ys vs ys false 3).1]], false) := by
    show (([] ++ [(crsV [xs, ys] (aloneT vs vs.length) 0 false 2).1]) ++ [(crsV [xs, ys] (aloneT vs vs.length) 1 (crsV [xs, ys] (aloneT vs vs.length) 0 false 2).2 2).1], (crsV [xs, ys] (aloneT vs vs.length) 1 (crsV [xs, ys] (aloneT vs vs.length) 0 false 2).2 2).2) = _
    rw [r1]
    dsimp only
    rw [r2]; rfl
  have ho : carO [xs, ys] (aloneT vs vs.length) = true := by
    unfold carO carC
    rw [tabB_yes (rows := [xs, ys]) (cols := 6) ⟨by simp, by simp, by show 1 ≤ xs.length; omega, by show (xs.length : Int) ≤ 6; omega⟩ (fun k hk => by
      obtain rfl | rfl : k = 0 ∨ k = 1 := by have : k < 2 := hk; omega
      · exact ⟨rfl, allOk_yes fun j hj => (hx j (by rw [← l1]; exact hj)).1⟩
      · exact ⟨by show ys.length = xs.length; omega, allOk_yes fun j hj => (hy j (by rw [← l2]; exact hj)).1⟩), c, decide_eq_true (show (rw' [xs, ys] 0).length = (aloneT vs vs.length).length by rw [aloneT_len]; show xs.length = _; omega), show (carV [xs, ys] (aloneT vs vs.length) [xs, ys].length) = _ from hc]
    rfl
  rw [e]
  refine ⟨ho, ?_⟩
  rw [carA_yes ho, show (carV [xs, ys] (aloneT vs vs.length) [xs, ys].length) = _ from hc]
theorem cauchy_law {xs ys vs : List Fr} (hx : ∀ i, i < 3 → Sm (fr xs i) 6 4) (hy : ∀ i, i < 3 → Sm (fr ys i) 6 4) (hv : ∀ i, i < 3 → Sm (fr vs i) 8 1) (h0 : ∀ i, i < 3 → 0 ≤ (fr vs i).1)
    (k1 : mulK (dgV xs vs ys false 3).1 (dgV xs vs ys false 3).1 = true) (k2 : mulK (dgV xs vs xs false 3).1 (dgV ys vs ys false 3).1 = true) :
    lessB (mulP (dgV xs vs xs false 3).1 (dgV ys vs ys false 3).1).1 (mulP (dgV xs vs xs false 3).1 (dgV ys vs ys false 3).1).2 (mulP (dgV xs vs ys false 3).1 (dgV xs vs ys false 3).1).1 (mulP (dgV xs vs ys false 3).1 (dgV xs vs ys false 3).1).2 = false := by
  refine qf_less (mul_right k2) (mul_right k1) ?_
  rw [qf_mul k1, qf_mul k2, (dg_is (dg_small 3 (Nat.le_refl _) hx hv hy)).2, (dg_is (dg_small 3 (Nat.le_refl _) hx hv hx)).2, (dg_is (dg_small 3 (Nat.le_refl _) hy hv hy)).2]
  exact cauchy3 (fun i => qf (fr vs i)) (fun i => qf (fr xs i)) (fun i => qf (fr ys i)) (fun i hi => (qf_pos (hv i hi).1).2 (h0 i hi))
end Go.Proofs.Ytcafdkmgjfakdaa
