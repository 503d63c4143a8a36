/- The walk of the law of Alone: both answers are the same table, the program's in memory of its own, and the list that was handed in stays. -/
import Derived.Test.YtkcdpjcfbpjkeanBudP8
import Derived.Test.YtkcdpjcfbpjkeanTabW4
namespace Go.Proofs.Ytkcdpjcfbpjkean
open Go.RowKit Go.Proofs.Ytkcdpjcfbpjkean.RM

theorem aloneA_small (vs : List Fr) : (aloneA vs).length ≤ 1048576 ∧ ∀ i, i < (aloneA vs).length → (rw' (aloneA vs) i).length ≤ 1048576 := by
  cases h : aloneC vs
  · rw [aloneA_no h]
    exact ⟨by simp, fun i hi => absurd hi (Nat.not_lt_zero _)⟩
  · have h6 : vs.length ≤ 6 := by
      unfold aloneC at h
      rw [Bool.and_eq_true, decide_eq_true_eq] at h
      exact h.1.2
    rw [aloneA_yes h]
    have hl : (aloneT vs vs.length).length = vs.length := by simp [aloneT]
    rw [hl]
    refine ⟨by omega, fun i hi => ?_⟩
    have : rw' (aloneT vs vs.length) i = aloneR vs vs.length i := by simp [rw', aloneT, hi]
    rw [this, aloneR_len]; omega

set_option maxRecDepth 100000 in
set_option maxHeartbeats 4000000 in
theorem lawAlone (v0 : Value) (a0 : List Fr) (w : World) (h0 : RdR w v0 a0) :
    Calls Try.prog 5 #[v0] w fun e w' => e = .returned (.bool true) ∧ Below w.heap.size w w' := by
  have H0 : Hid (RdR w v0 a0) := h0
  clear h0
  go_enter Try.func5, Try.ntmps5
  go_wp2_with fail
  refine (szS_any v0 a0 1048576 _ H0.out (by omega) (by omega)).mono ?_
  rintro e w0 ⟨rfl, hw⟩
  obtain rfl := hw.symm
  clear hw
  by_cases hs0 : 1048576 - (a0.length : Int) < 0
  · rw [if_pos hs0]
    go_wp2
    go_ret
    exact ⟨rfl, Below.refl _ _⟩
  rw [if_neg hs0]
  have lb0 : a0.length ≤ 1048576 := by omega
  obtain ⟨r0, hr0⟩ : ∃ x, x = 1048576 - (a0.length : Int) := ⟨_, rfl⟩
  have r00 : 0 ≤ r0 := by omega
  have r01 : r0 ≤ 1048576 := by omega
  rw [← hr0]
  have HT0 : Hid (∀ W : World, Below w.heap.size w W → Calls Try.prog 16 #[v0] W fun e w' => ∃ u, e = .returned u ∧ w'.ownsRow W.heap.size 32 2 u a0.length (cellsR a0) ∧ Below W.heap.size W w') := by
    intro W hW; exact toS_any v0 a0 W (H0.out.below hW) lb0
  clear hr0 hs0
  obtain ⟨A, hA⟩ : ∃ A, A = aloneA a0 := ⟨_, rfl⟩
  have HS : Hid (∀ (u0 : Value) (W : World), RdR W u0 a0 → Calls Try.prog 20 #[u0] W fun e w' => ∃ v us, e = .returned v ∧ Tab w' W.heap.size v us A ∧ Below W.heap.size W w') := by
    intro u0 W g0; rw [hA]; exact sAlone_any u0 a0 W g0
  have HI : Hid (∀ (u0 : Value) (W : World), RdR W u0 a0 → Calls Try.prog 21 #[u0] W fun e w' => ∃ v us, e = .returned v ∧ Tab w' W.heap.size v us A ∧ Below W.heap.size W w') := by
    intro u0 W g0; rw [hA]; exact iAlone_any u0 a0 W g0
  have LS : Hid (A.length ≤ 1048576 ∧ ∀ i, i < A.length → (rw' A i).length ≤ 1048576) := by show _ ∧ _; rw [hA]; exact aloneA_small a0
  have bA : (offN A A.length : Int) ≤ 1099511627776 := by
    have := offN_le LS.out.2 A.length (Nat.le_refl _)
    have : A.length * 1048576 ≤ 1048576 * 1048576 := Nat.mul_le_mul_right _ LS.out.1
    omega
  clear hA H0
  go_wp2_with fail
  refine (HT0.out _ (Below.refl _ _)).mono ?_
  rintro e w2 ⟨c0, rfl, t, hb⟩
  have B1 := hb
  have hz_w2 := hb.size
  clear hb
  have C0 : Hid (w2.ownsRow w.heap.size 32 2 c0 a0.length (cellsR (a0))) := t
  have UC0 : Hid (∀ b, c0.ownBlock = some b → b < w2.heap.size) := fun b h => (t.lt b h).2
  clear t
  go_wp2_with fail
  refine (HS.out c0 _ (RdR.own C0.out).1).mono ?_
  rintro e w3 ⟨vv, vvs, rfl, t, hb⟩
  replace B1 := B1.trans (hb.mono B1.size)
  replace C0 : Hid (w3.ownsRow w.heap.size 32 2 c0 a0.length (cellsR (a0))) := own_below C0.out hb
  have hz_w3 := hb.size
  clear hb
  have V0 : Hid (Tab w3 w2.heap.size vv vvs A) := t
  have UV0 : Hid (Under w3.heap.size vv vvs) := t.under
  clear t
  clear C0 UC0
  go_wp2_with fail
  refine (HT0.out _ B1).mono ?_
  rintro e w4 ⟨x0, rfl, t, hb⟩
  replace B1 := B1.trans (hb.mono B1.size)
  replace V0 : Hid (Tab w4 w2.heap.size vv vvs A) := Tab.below V0.out hb
  have hz_w4 := hb.size
  clear hb
  have X0 : Hid (w4.ownsRow w3.heap.size 32 2 x0 a0.length (cellsR (a0))) := t
  have UX0 : Hid (∀ b, x0.ownBlock = some b → b < w4.heap.size) := fun b h => (t.lt b h).2
  clear t
  go_wp2_with fail
  refine (HI.out x0 _ (RdR.own X0.out).1).mono ?_
  rintro e w5 ⟨gg, ggs, rfl, t, hb⟩
  replace B1 := B1.trans (hb.mono B1.size)
  replace V0 : Hid (Tab w5 w2.heap.size vv vvs A) := Tab.below V0.out hb
  replace X0 : Hid (w5.ownsRow w3.heap.size 32 2 x0 a0.length (cellsR (a0))) := own_below X0.out hb
  have hz_w5 := hb.size
  clear hb
  have G0 : Hid (Tab w5 w4.heap.size gg ggs A) := t
  have UG0 : Hid (Under w5.heap.size gg ggs) := t.under
  clear t
  go_wp2_with fail
  refine (eqT_any gg vv A _ (Tab.read G0.out) (Tab.read V0.out)).mono ?_
  rintro e w6 ⟨rfl, hb⟩
  replace B1 := B1.trans (hb.mono B1.size)
  replace V0 : Hid (Tab w6 w2.heap.size vv vvs A) := Tab.below V0.out hb
  replace G0 : Hid (Tab w6 w4.heap.size gg ggs A) := Tab.below G0.out hb
  replace X0 : Hid (w6.ownsRow w3.heap.size 32 2 x0 a0.length (cellsR (a0))) := own_below X0.out hb
  have hz_w6 := hb.size
  clear hb
  go_wp2_with fail
  refine (HT0.out _ B1).mono ?_
  rintro e w7 ⟨y0, rfl, t, hb⟩
  replace B1 := B1.trans (hb.mono B1.size)
  replace V0 : Hid (Tab w7 w2.heap.size vv vvs A) := Tab.below V0.out hb
  replace G0 : Hid (Tab w7 w4.heap.size gg ggs A) := Tab.below G0.out hb
  replace X0 : Hid (w7.ownsRow w3.heap.size 32 2 x0 a0.length (cellsR (a0))) := own_below X0.out hb
  have hz_w7 := hb.size
  clear hb
  have Y0 : Hid (w7.ownsRow w6.heap.size 32 2 y0 a0.length (cellsR (a0))) := t
  have UY0 : Hid (∀ b, y0.ownBlock = some b → b < w7.heap.size) := fun b h => (t.lt b h).2
  clear t
  go_wp2_with fail
  refine (eqS_any x0 y0 a0 _ (RdR.own X0.out).1 (RdR.own Y0.out).1).mono ?_
  rintro e w8 ⟨rfl, hb⟩
  replace B1 := B1.trans (hb.mono B1.size)
  replace V0 : Hid (Tab w8 w2.heap.size vv vvs A) := Tab.below V0.out hb
  replace G0 : Hid (Tab w8 w4.heap.size gg ggs A) := Tab.below G0.out hb
  replace X0 : Hid (w8.ownsRow w3.heap.size 32 2 x0 a0.length (cellsR (a0))) := own_below X0.out hb
  replace Y0 : Hid (w8.ownsRow w6.heap.size 32 2 y0 a0.length (cellsR (a0))) := own_below Y0.out hb
  have hz_w8 := hb.size
  clear hb
  clear Y0 UY0
  go_wp2_with fail
  refine (markS_any x0 a0 w3.heap.size 1 _ (by omega) (by omega) (by omega) X0.out).mono ?_
  rintro e w9 ⟨rfl, tm, hg⟩
  have ho : Out w3.heap.size w4.heap.size w8 w9 := Out.of_grown hg (fun b e => ⟨(X0.out.lt b e).1, UX0.out b e⟩)
  clear hg
  replace B1 : Below w.heap.size w w9 := B1.trans ((ho.below (by omega)).mono (by omega))
  have hz_w9 := ho.2.2.2.1
  replace V0 : Hid (Tab w9 w2.heap.size vv vvs A) := Tab.out_lo V0.out ho (UV0.out.le (by omega))
  replace G0 : Hid (Tab w9 w4.heap.size gg ggs A) := Tab.out_hi G0.out ho (by omega)
  clear tm ho
  clear X0 UX0
  obtain ⟨k0, hk0⟩ : ∃ k, k = 1 + 2 * (a0.length : Int) := ⟨_, rfl⟩
  have k00 : 0 ≤ k0 := by omega
  have k01 : k0 ≤ 3000000000000 := by omega
  rw [← hk0]
  clear hk0
  go_wp2_with fail
  refine (eqT_any gg vv A _ (Tab.read G0.out) (Tab.read V0.out)).mono ?_
  rintro e w10 ⟨rfl, hb⟩
  replace B1 := B1.trans (hb.mono B1.size)
  replace V0 : Hid (Tab w10 w2.heap.size vv vvs A) := Tab.below V0.out hb
  replace G0 : Hid (Tab w10 w4.heap.size gg ggs A) := Tab.below G0.out hb
  have hz_w10 := hb.size
  clear hb
  go_wp2_with fail
  refine (markT_any gg ggs A w4.heap.size w5.heap.size 1 _ G0.out UG0.out LS.out.1 LS.out.2 (by omega) (by omega)).mono ?_
  rintro e w11 ⟨rfl, tm, ho⟩
  replace B1 : Below w.heap.size w w11 := B1.trans ((ho.below (by omega)).mono (by omega))
  have hz_w11 := ho.2.2.2.1
  replace V0 : Hid (Tab w11 w2.heap.size vv vvs A) := Tab.out_lo V0.out ho (UV0.out.le (by omega))
  replace G0 : Hid (Tab w11 w4.heap.size gg ggs (mkT 1 A A.length)) := tm
  clear tm ho
  have HM0 : Hid (0 ≤ 1 + 2 * (offN A A.length : Int)) := by show _ ≤ _; omega
  go_wp2_with fail
  refine (heldT_any gg A 1 _ (Tab.read G0.out) LS.out.1 LS.out.2 (by omega) (by omega)).mono ?_
  rintro e w12 ⟨rfl, hb⟩
  replace B1 := B1.trans (hb.mono B1.size)
  replace V0 : Hid (Tab w12 w2.heap.size vv vvs A) := Tab.below V0.out hb
  replace G0 : Hid (Tab w12 w4.heap.size gg ggs (mkT 1 A A.length)) := Tab.below G0.out hb
  have hz_w12 := hb.size
  clear hb
  obtain ⟨mm, hmm⟩ : ∃ k, k = 1 + 2 * (offN A A.length : Int) := ⟨_, rfl⟩
  have mm0 : 0 ≤ mm := by omega
  have mm1 : (mm != mm) = false := by simp
  have HMM : Hid (mm = 1 + 2 * (offN A A.length : Int)) := hmm
  rw [← hmm]
  clear hmm
  go_wp2_with fail
  refine (HT0.out _ B1).mono ?_
  rintro e w13 ⟨p0, rfl, t, hb⟩
  replace B1 := B1.trans (hb.mono B1.size)
  replace V0 : Hid (Tab w13 w2.heap.size vv vvs A) := Tab.below V0.out hb
  replace G0 : Hid (Tab w13 w4.heap.size gg ggs (mkT 1 A A.length)) := Tab.below G0.out hb
  have hz_w13 := hb.size
  clear hb
  have P0 : Hid (w13.ownsRow w12.heap.size 32 2 p0 a0.length (cellsR (a0))) := t
  have UP0 : Hid (∀ b, p0.ownBlock = some b → b < w13.heap.size) := fun b h => (t.lt b h).2
  clear t
  go_wp2_with fail
  refine (HI.out p0 _ (RdR.own P0.out).1).mono ?_
  rintro e w14 ⟨hh, hhs, rfl, t, hb⟩
  replace B1 := B1.trans (hb.mono B1.size)
  replace V0 : Hid (Tab w14 w2.heap.size vv vvs A) := Tab.below V0.out hb
  replace G0 : Hid (Tab w14 w4.heap.size gg ggs (mkT 1 A A.length)) := Tab.below G0.out hb
  replace P0 : Hid (w14.ownsRow w12.heap.size 32 2 p0 a0.length (cellsR (a0))) := own_below P0.out hb
  have hz_w14 := hb.size
  clear hb
  have H9 : Hid (Tab w14 w13.heap.size hh hhs A) := t
  have UH9 : Hid (Under w14.heap.size hh hhs) := t.under
  clear t
  clear P0 UP0
  go_wp2_with fail
  refine (eqT_any hh vv A _ (Tab.read H9.out) (Tab.read V0.out)).mono ?_
  rintro e w15 ⟨rfl, hb⟩
  replace B1 := B1.trans (hb.mono B1.size)
  replace V0 : Hid (Tab w15 w2.heap.size vv vvs A) := Tab.below V0.out hb
  replace G0 : Hid (Tab w15 w4.heap.size gg ggs (mkT 1 A A.length)) := Tab.below G0.out hb
  replace H9 : Hid (Tab w15 w13.heap.size hh hhs A) := Tab.below H9.out hb
  have hz_w15 := hb.size
  clear hb
  clear H9 UH9
  go_wp2_with fail
  refine (heldT_any gg A 1 _ (Tab.read G0.out) LS.out.1 LS.out.2 (by omega) (by omega)).mono ?_
  rintro e w16 ⟨rfl, hb⟩
  replace B1 := B1.trans (hb.mono B1.size)
  replace V0 : Hid (Tab w16 w2.heap.size vv vvs A) := Tab.below V0.out hb
  replace G0 : Hid (Tab w16 w4.heap.size gg ggs (mkT 1 A A.length)) := Tab.below G0.out hb
  have hz_w16 := hb.size
  clear hb
  rw [← HMM.out]
  go_wp2
  go_ret
  exact ⟨rfl, B1⟩
end Go.Proofs.Ytkcdpjcfbpjkean
