/- The walk of the law of Carried: both answers are the same table, the program's in memory of its own, and the tables that were handed in stay. -/
import Derived.Test.YtkcdpjcfbpjkeanBudP10
import Derived.Test.YtkcdpjcfbpjkeanTabW4
namespace Go.Proofs.Ytkcdpjcfbpjkean
open Go.RowKit Go.Proofs.Ytkcdpjcfbpjkean.RM

theorem carA_small (S rows : List (List Fr)) : (carA S rows).length ≤ 1048576 ∧ ∀ i, i < (carA S rows).length → (rw' (carA S rows) i).length ≤ 1048576 := by
  cases h : carO S rows
  · unfold carA; rw [h]
    exact ⟨by simp, fun i hi => absurd hi (Nat.not_lt_zero _)⟩
  · have hc : carC S rows = true := by
      unfold carO at h
      rw [Bool.and_eq_true] at h
      exact h.1
    have hb : (carV S rows S.length).2 = false := by
      unfold carO at h
      rw [Bool.and_eq_true] at h
      simpa using h.2
    have hS := (carC_out hc).1.2
    have hg : ∀ i, i < S.length → ∀ j, j < S.length → (carE S rows i j).2 = false := by
      intro i
      induction i using Nat.strongRecOn with
      | ind i ihi =>
        intro hi j
        induction j using Nat.strongRecOn with
        | ind j ihj =>
          intro hj
          cases e : (carE S rows i j).2
          · rfl
          · have := carO_bad hi hj (fun x hx y hy => ihi x hx (by omega) y hy) (fun y hy => ihj y hy (by omega)) e
            rw [this] at h; cases h
    unfold carA
    rw [h, if_pos rfl, carV_good S rows S.length hg]
    dsimp only
    rw [List.length_map, List.length_range]
    refine ⟨by omega, fun i hi => ?_⟩
    have : rw' ((List.range S.length).map fun i => carRow S rows i S.length) i = carRow S rows i S.length := by simp [rw', hi]
    rw [this]
    unfold carRow
    rw [List.length_map, List.length_range]; omega

set_option maxRecDepth 100000 in
set_option maxHeartbeats 4000000 in
theorem lawCarried (v0 : Value) (a0 : List (List Fr)) (v1 : Value) (a1 : List (List Fr)) (w : World) (h0 : RdT w v0 a0) (h1 : RdT w v1 a1) :
    Calls Try.prog 7 #[v0, v1] w fun e w' => e = .returned (.bool true) ∧ Below w.heap.size w w' := by
  have H0 : Hid (RdT w v0 a0) := h0
  have H1 : Hid (RdT w v1 a1) := h1
  clear h0 h1
  go_enter Try.func7, Try.ntmps7
  go_wp2_with fail
  refine (szT_any v0 a0 1048576 _ H0.out (by omega) (by omega)).mono ?_
  rintro e w0 ⟨r0, rfl, r01, hcase, hw⟩
  obtain rfl := hw.symm
  clear hw
  rcases hcase with hneg | ⟨r00, la01, la02⟩
  · go_wp2
    go_ret
    exact ⟨rfl, Below.refl _ _⟩
  have LA0 : Hid (a0.length ≤ 1048576 ∧ ∀ i, i < a0.length → (rw' a0 i).length ≤ 1048576) := ⟨la01, la02⟩
  have HT0 : Hid (∀ W : World, Below w.heap.size w W → Calls Try.prog 11 #[v0] W fun e w' => ∃ u us, e = .returned u ∧ Tab w' W.heap.size u us a0 ∧ Below W.heap.size W w') := by
    intro W hW; exact toT_any v0 a0 W (H0.out.below hW) la01 la02
  have b0 : (offN a0 a0.length : Int) ≤ 1099511627776 := by
    have := offN_le la02 a0.length (Nat.le_refl _)
    have : a0.length * 1048576 ≤ 1048576 * 1048576 := Nat.mul_le_mul_right _ la01
    omega
  clear la01 la02
  go_wp2_with fail
  refine (szT_any v1 a1 r0 _ H1.out r00 r01).mono ?_
  rintro e w0 ⟨r1, rfl, r11, hcase, hw⟩
  obtain rfl := hw.symm
  clear hw
  rcases hcase with hneg | ⟨r10, la11, la12⟩
  · go_wp2
    go_ret
    exact ⟨rfl, Below.refl _ _⟩
  have LA1 : Hid (a1.length ≤ 1048576 ∧ ∀ i, i < a1.length → (rw' a1 i).length ≤ 1048576) := ⟨la11, la12⟩
  have HT1 : Hid (∀ W : World, Below w.heap.size w W → Calls Try.prog 11 #[v1] W fun e w' => ∃ u us, e = .returned u ∧ Tab w' W.heap.size u us a1 ∧ Below W.heap.size W w') := by
    intro W hW; exact toT_any v1 a1 W (H1.out.below hW) la11 la12
  have b1 : (offN a1 a1.length : Int) ≤ 1099511627776 := by
    have := offN_le la12 a1.length (Nat.le_refl _)
    have : a1.length * 1048576 ≤ 1048576 * 1048576 := Nat.mul_le_mul_right _ la11
    omega
  clear la11 la12
  obtain ⟨A, hA⟩ : ∃ A, A = carA a0 a1 := ⟨_, rfl⟩
  obtain ⟨q, hq⟩ : ∃ q, q = carO a0 a1 := ⟨_, rfl⟩
  have HS : Hid (∀ (u0 u1 : Value) (W : World), RdT W u0 a0 → RdT W u1 a1 → Calls Try.prog 28 #[u0, u1] W fun e w' => ∃ v us, e = .returned (.tuple #[v, .bool q]) ∧ Tab w' W.heap.size v us A ∧ Below W.heap.size W w') := by
    intro u0 u1 W g0 g1; rw [hq, hA]; exact sCarried_any u0 u1 a0 a1 W g0 g1
  have HI : Hid (∀ (u0 u1 : Value) (W : World), RdT W u0 a0 → RdT W u1 a1 → Calls Try.prog 29 #[u0, u1] W fun e w' => ∃ v us, e = .returned (.tuple #[v, .bool q]) ∧ Tab w' W.heap.size v us A ∧ Below W.heap.size W w') := by
    intro u0 u1 W g0 g1; rw [hq, hA]; exact iCar_any u0 u1 a0 a1 W g0 g1
  have LS : Hid (A.length ≤ 1048576 ∧ ∀ i, i < A.length → (rw' A i).length ≤ 1048576) := by show _ ∧ _; rw [hA]; exact carA_small a0 a1
  have bA : (offN A A.length : Int) ≤ 1099511627776 := by
    have := offN_le LS.out.2 A.length (Nat.le_refl _)
    have : A.length * 1048576 ≤ 1048576 * 1048576 := Nat.mul_le_mul_right _ LS.out.1
    omega
  have e1 : (q != q) = false := by simp
  clear hA hq H0 H1
  go_wp2_with fail
  refine (HT0.out _ (Below.refl _ _)).mono ?_
  rintro e w2 ⟨c0, c0s, rfl, t, hb⟩
  have B1 := hb
  have hz_w2 := hb.size
  clear hb
  have C0 : Hid (Tab w2 w.heap.size c0 c0s a0) := t
  have UC0 : Hid (Under w2.heap.size c0 c0s) := t.under
  clear t
  go_wp2_with fail
  refine (HT1.out _ B1).mono ?_
  rintro e w3 ⟨c1, c1s, rfl, t, hb⟩
  replace B1 := B1.trans (hb.mono B1.size)
  replace C0 : Hid (Tab w3 w.heap.size c0 c0s a0) := Tab.below C0.out hb
  have hz_w3 := hb.size
  clear hb
  have C1 : Hid (Tab w3 w2.heap.size c1 c1s a1) := t
  have UC1 : Hid (Under w3.heap.size c1 c1s) := t.under
  clear t
  go_wp2_with fail
  refine (HS.out c0 c1 _ (Tab.read C0.out) (Tab.read C1.out)).mono ?_
  rintro e w4 ⟨vv, vvs, rfl, t, hb⟩
  replace B1 := B1.trans (hb.mono B1.size)
  replace C0 : Hid (Tab w4 w.heap.size c0 c0s a0) := Tab.below C0.out hb
  replace C1 : Hid (Tab w4 w2.heap.size c1 c1s a1) := Tab.below C1.out hb
  have hz_w4 := hb.size
  clear hb
  have V0 : Hid (Tab w4 w3.heap.size vv vvs A) := t
  have UV0 : Hid (Under w4.heap.size vv vvs) := t.under
  clear t
  clear C0 UC0
  clear C1 UC1
  go_wp2_with fail
  refine (HT0.out _ B1).mono ?_
  rintro e w5 ⟨x0, x0s, rfl, t, hb⟩
  replace B1 := B1.trans (hb.mono B1.size)
  replace V0 : Hid (Tab w5 w3.heap.size vv vvs A) := Tab.below V0.out hb
  have hz_w5 := hb.size
  clear hb
  have X0 : Hid (Tab w5 w4.heap.size x0 x0s a0) := t
  have UX0 : Hid (Under w5.heap.size x0 x0s) := t.under
  clear t
  go_wp2_with fail
  refine (HT1.out _ B1).mono ?_
  rintro e w6 ⟨x1, x1s, rfl, t, hb⟩
  replace B1 := B1.trans (hb.mono B1.size)
  replace V0 : Hid (Tab w6 w3.heap.size vv vvs A) := Tab.below V0.out hb
  replace X0 : Hid (Tab w6 w4.heap.size x0 x0s a0) := Tab.below X0.out hb
  have hz_w6 := hb.size
  clear hb
  have X1 : Hid (Tab w6 w5.heap.size x1 x1s a1) := t
  have UX1 : Hid (Under w6.heap.size x1 x1s) := t.under
  clear t
  go_wp2_with fail
  refine (HI.out x0 x1 _ (Tab.read X0.out) (Tab.read X1.out)).mono ?_
  rintro e w7 ⟨gg, ggs, rfl, t, hb⟩
  replace B1 := B1.trans (hb.mono B1.size)
  replace V0 : Hid (Tab w7 w3.heap.size vv vvs A) := Tab.below V0.out hb
  replace X0 : Hid (Tab w7 w4.heap.size x0 x0s a0) := Tab.below X0.out hb
  replace X1 : Hid (Tab w7 w5.heap.size x1 x1s a1) := Tab.below X1.out hb
  have hz_w7 := hb.size
  clear hb
  have G0 : Hid (Tab w7 w6.heap.size gg ggs A) := t
  have UG0 : Hid (Under w7.heap.size gg ggs) := t.under
  clear t
  go_wp2_with fail
  refine (eqT_any gg vv A _ (Tab.read G0.out) (Tab.read V0.out)).mono ?_
  rintro e w8 ⟨rfl, hb⟩
  replace B1 := B1.trans (hb.mono B1.size)
  replace V0 : Hid (Tab w8 w3.heap.size vv vvs A) := Tab.below V0.out hb
  replace X0 : Hid (Tab w8 w4.heap.size x0 x0s a0) := Tab.below X0.out hb
  replace X1 : Hid (Tab w8 w5.heap.size x1 x1s a1) := Tab.below X1.out hb
  replace G0 : Hid (Tab w8 w6.heap.size gg ggs A) := Tab.below G0.out hb
  have hz_w8 := hb.size
  clear hb
  go_wp2_with fail
  refine (HT0.out _ B1).mono ?_
  rintro e w9 ⟨y0, y0s, rfl, t, hb⟩
  replace B1 := B1.trans (hb.mono B1.size)
  replace V0 : Hid (Tab w9 w3.heap.size vv vvs A) := Tab.below V0.out hb
  replace X0 : Hid (Tab w9 w4.heap.size x0 x0s a0) := Tab.below X0.out hb
  replace X1 : Hid (Tab w9 w5.heap.size x1 x1s a1) := Tab.below X1.out hb
  replace G0 : Hid (Tab w9 w6.heap.size gg ggs A) := Tab.below G0.out hb
  have hz_w9 := hb.size
  clear hb
  have Y0 : Hid (Tab w9 w8.heap.size y0 y0s a0) := t
  have UY0 : Hid (Under w9.heap.size y0 y0s) := t.under
  clear t
  go_wp2_with fail
  refine (eqT_any x0 y0 a0 _ (Tab.read X0.out) (Tab.read Y0.out)).mono ?_
  rintro e w10 ⟨rfl, hb⟩
  replace B1 := B1.trans (hb.mono B1.size)
  replace V0 : Hid (Tab w10 w3.heap.size vv vvs A) := Tab.below V0.out hb
  replace X0 : Hid (Tab w10 w4.heap.size x0 x0s a0) := Tab.below X0.out hb
  replace X1 : Hid (Tab w10 w5.heap.size x1 x1s a1) := Tab.below X1.out hb
  replace G0 : Hid (Tab w10 w6.heap.size gg ggs A) := Tab.below G0.out hb
  replace Y0 : Hid (Tab w10 w8.heap.size y0 y0s a0) := Tab.below Y0.out hb
  have hz_w10 := hb.size
  clear hb
  clear Y0 UY0
  go_wp2_with fail
  refine (HT1.out _ B1).mono ?_
  rintro e w11 ⟨y1, y1s, rfl, t, hb⟩
  replace B1 := B1.trans (hb.mono B1.size)
  replace V0 : Hid (Tab w11 w3.heap.size vv vvs A) := Tab.below V0.out hb
  replace X0 : Hid (Tab w11 w4.heap.size x0 x0s a0) := Tab.below X0.out hb
  replace X1 : Hid (Tab w11 w5.heap.size x1 x1s a1) := Tab.below X1.out hb
  replace G0 : Hid (Tab w11 w6.heap.size gg ggs A) := Tab.below G0.out hb
  have hz_w11 := hb.size
  clear hb
  have Y1 : Hid (Tab w11 w10.heap.size y1 y1s a1) := t
  have UY1 : Hid (Under w11.heap.size y1 y1s) := t.under
  clear t
  go_wp2_with fail
  refine (eqT_any x1 y1 a1 _ (Tab.read X1.out) (Tab.read Y1.out)).mono ?_
  rintro e w12 ⟨rfl, hb⟩
  replace B1 := B1.trans (hb.mono B1.size)
  replace V0 : Hid (Tab w12 w3.heap.size vv vvs A) := Tab.below V0.out hb
  replace X0 : Hid (Tab w12 w4.heap.size x0 x0s a0) := Tab.below X0.out hb
  replace X1 : Hid (Tab w12 w5.heap.size x1 x1s a1) := Tab.below X1.out hb
  replace G0 : Hid (Tab w12 w6.heap.size gg ggs A) := Tab.below G0.out hb
  replace Y1 : Hid (Tab w12 w10.heap.size y1 y1s a1) := Tab.below Y1.out hb
  have hz_w12 := hb.size
  clear hb
  clear Y1 UY1
  go_wp2_with fail
  refine (markT_any x0 x0s a0 w4.heap.size w5.heap.size 1 _ X0.out UX0.out LA0.out.1 LA0.out.2 (by omega) (by omega)).mono ?_
  rintro e w13 ⟨rfl, tm, ho⟩
  replace B1 : Below w.heap.size w w13 := B1.trans ((ho.below (by omega)).mono (by omega))
  have hz_w13 := ho.2.2.2.1
  replace V0 : Hid (Tab w13 w3.heap.size vv vvs A) := Tab.out_lo V0.out ho (UV0.out.le (by omega))
  replace X1 : Hid (Tab w13 w5.heap.size x1 x1s a1) := Tab.out_hi X1.out ho (by omega)
  replace G0 : Hid (Tab w13 w6.heap.size gg ggs A) := Tab.out_hi G0.out ho (by omega)
  clear tm ho
  clear X0 UX0
  obtain ⟨k0, hk0⟩ : ∃ k, k = 1 + 2 * (offN a0 a0.length : Int) := ⟨_, rfl⟩
  have k00 : 0 ≤ k0 := by omega
  have k01 : k0 ≤ 3000000000000 := by omega
  rw [← hk0]
  clear hk0
  go_wp2_with fail
  refine (markT_any x1 x1s a1 w5.heap.size w6.heap.size k0 _ X1.out UX1.out LA1.out.1 LA1.out.2 (by omega) (by omega)).mono ?_
  rintro e w14 ⟨rfl, tm, ho⟩
  replace B1 : Below w.heap.size w w14 := B1.trans ((ho.below (by omega)).mono (by omega))
  have hz_w14 := ho.2.2.2.1
  replace V0 : Hid (Tab w14 w3.heap.size vv vvs A) := Tab.out_lo V0.out ho (UV0.out.le (by omega))
  replace G0 : Hid (Tab w14 w6.heap.size gg ggs A) := Tab.out_hi G0.out ho (by omega)
  clear tm ho
  clear X1 UX1
  obtain ⟨k1, hk1⟩ : ∃ k, k = k0 + 2 * (offN a1 a1.length : Int) := ⟨_, rfl⟩
  have k10 : 0 ≤ k1 := by omega
  have k11 : k1 ≤ 6000000000000 := by omega
  rw [← hk1]
  clear hk1
  go_wp2_with fail
  refine (eqT_any gg vv A _ (Tab.read G0.out) (Tab.read V0.out)).mono ?_
  rintro e w15 ⟨rfl, hb⟩
  replace B1 := B1.trans (hb.mono B1.size)
  replace V0 : Hid (Tab w15 w3.heap.size vv vvs A) := Tab.below V0.out hb
  replace G0 : Hid (Tab w15 w6.heap.size gg ggs A) := Tab.below G0.out hb
  have hz_w15 := hb.size
  clear hb
  go_wp2_with fail
  refine (markT_any gg ggs A w6.heap.size w7.heap.size 1 _ G0.out UG0.out LS.out.1 LS.out.2 (by omega) (by omega)).mono ?_
  rintro e w16 ⟨rfl, tm, ho⟩
  replace B1 : Below w.heap.size w w16 := B1.trans ((ho.below (by omega)).mono (by omega))
  have hz_w16 := ho.2.2.2.1
  replace V0 : Hid (Tab w16 w3.heap.size vv vvs A) := Tab.out_lo V0.out ho (UV0.out.le (by omega))
  replace G0 : Hid (Tab w16 w6.heap.size gg ggs (mkT 1 A A.length)) := tm
  clear tm ho
  have HM0 : Hid (0 ≤ 1 + 2 * (offN A A.length : Int)) := by show _ ≤ _; omega
  go_wp2_with fail
  refine (heldT_any gg A 1 _ (Tab.read G0.out) LS.out.1 LS.out.2 (by omega) (by omega)).mono ?_
  rintro e w17 ⟨rfl, hb⟩
  replace B1 := B1.trans (hb.mono B1.size)
  replace V0 : Hid (Tab w17 w3.heap.size vv vvs A) := Tab.below V0.out hb
  replace G0 : Hid (Tab w17 w6.heap.size gg ggs (mkT 1 A A.length)) := Tab.below G0.out hb
  have hz_w17 := hb.size
  clear hb
  obtain ⟨mm, hmm⟩ : ∃ k, k = 1 + 2 * (offN A A.length : Int) := ⟨_, rfl⟩
  have mm0 : 0 ≤ mm := by omega
  have mm1 : (mm != mm) = false := by simp
  have HMM : Hid (mm = 1 + 2 * (offN A A.length : Int)) := hmm
  rw [← hmm]
  clear hmm
  go_wp2_with fail
  refine (HT0.out _ B1).mono ?_
  rintro e w18 ⟨p0, p0s, rfl, t, hb⟩
  replace B1 := B1.trans (hb.mono B1.size)
  replace V0 : Hid (Tab w18 w3.heap.size vv vvs A) := Tab.below V0.out hb
  replace G0 : Hid (Tab w18 w6.heap.size gg ggs (mkT 1 A A.length)) := Tab.below G0.out hb
  have hz_w18 := hb.size
  clear hb
  have P0 : Hid (Tab w18 w17.heap.size p0 p0s a0) := t
  have UP0 : Hid (Under w18.heap.size p0 p0s) := t.under
  clear t
  go_wp2_with fail
  refine (HT1.out _ B1).mono ?_
  rintro e w19 ⟨p1, p1s, rfl, t, hb⟩
  replace B1 := B1.trans (hb.mono B1.size)
  replace V0 : Hid (Tab w19 w3.heap.size vv vvs A) := Tab.below V0.out hb
  replace G0 : Hid (Tab w19 w6.heap.size gg ggs (mkT 1 A A.length)) := Tab.below G0.out hb
  replace P0 : Hid (Tab w19 w17.heap.size p0 p0s a0) := Tab.below P0.out hb
  have hz_w19 := hb.size
  clear hb
  have P1 : Hid (Tab w19 w18.heap.size p1 p1s a1) := t
  have UP1 : Hid (Under w19.heap.size p1 p1s) := t.under
  clear t
  go_wp2_with fail
  refine (HI.out p0 p1 _ (Tab.read P0.out) (Tab.read P1.out)).mono ?_
  rintro e w20 ⟨hh, hhs, rfl, t, hb⟩
  replace B1 := B1.trans (hb.mono B1.size)
  replace V0 : Hid (Tab w20 w3.heap.size vv vvs A) := Tab.below V0.out hb
  replace G0 : Hid (Tab w20 w6.heap.size gg ggs (mkT 1 A A.length)) := Tab.below G0.out hb
  replace P0 : Hid (Tab w20 w17.heap.size p0 p0s a0) := Tab.below P0.out hb
  replace P1 : Hid (Tab w20 w18.heap.size p1 p1s a1) := Tab.below P1.out hb
  have hz_w20 := hb.size
  clear hb
  have H9 : Hid (Tab w20 w19.heap.size hh hhs A) := t
  have UH9 : Hid (Under w20.heap.size hh hhs) := t.under
  clear t
  clear P0 UP0
  clear P1 UP1
  go_wp2_with fail
  refine (eqT_any hh vv A _ (Tab.read H9.out) (Tab.read V0.out)).mono ?_
  rintro e w21 ⟨rfl, hb⟩
  replace B1 := B1.trans (hb.mono B1.size)
  replace V0 : Hid (Tab w21 w3.heap.size vv vvs A) := Tab.below V0.out hb
  replace G0 : Hid (Tab w21 w6.heap.size gg ggs (mkT 1 A A.length)) := Tab.below G0.out hb
  replace H9 : Hid (Tab w21 w19.heap.size hh hhs A) := Tab.below H9.out hb
  have hz_w21 := hb.size
  clear hb
  clear H9 UH9
  go_wp2_with fail
  refine (heldT_any gg A 1 _ (Tab.read G0.out) LS.out.1 LS.out.2 (by omega) (by omega)).mono ?_
  rintro e w22 ⟨rfl, hb⟩
  replace B1 := B1.trans (hb.mono B1.size)
  replace V0 : Hid (Tab w22 w3.heap.size vv vvs A) := Tab.below V0.out hb
  replace G0 : Hid (Tab w22 w6.heap.size gg ggs (mkT 1 A A.length)) := Tab.below G0.out hb
  have hz_w22 := hb.size
  clear hb
  rw [← HMM.out]
  go_wp2
  go_ret
  exact ⟨rfl, B1⟩
end Go.Proofs.Ytkcdpjcfbpjkean
