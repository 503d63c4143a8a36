/- The walk of the law of Parts: both answers are the same list, the program's in memory of its own, and the lists that were handed in stay. -/
import Derived.Test.YtkcdpjcfbpjkeanBudP9
import Derived.Test.YtkcdpjcfbpjkeanTabW4
namespace Go.Proofs.Ytkcdpjcfbpjkean
open Go.RowKit Go.Proofs.Ytkcdpjcfbpjkean.RM

theorem prtA_small (ps : List Fr) (rows : List (List Fr)) : (prtA ps rows).length ≤ 1048576 := by
  cases h : prtO ps rows
  · rw [prtA_no h]; simp
  · rw [prtA_yes h, prtV_len]
    unfold prtO at h
    rw [Bool.and_eq_true] at h
    have := (toldC_out h.1).1.2
    omega

set_option maxRecDepth 100000 in
set_option maxHeartbeats 4000000 in
theorem lawParts (v0 : Value) (a0 : List Fr) (v1 : Value) (a1 : List (List Fr)) (w : World) (h0 : RdR w v0 a0) (h1 : RdT w v1 a1) :
    Calls Try.prog 6 #[v0, v1] w fun e w' => e = .returned (.bool true) ∧ Below w.heap.size w w' := by
  have H0 : Hid (RdR w v0 a0) := h0
  have H1 : Hid (RdT w v1 a1) := h1
  clear h0 h1
  go_enter Try.func6, Try.ntmps6
  go_wp2_with fail
  refine (szS_any v0 a0 1048576 _ H0.out (by omega) (by omega)).mono ?_
  rintro e w0 ⟨rfl, hw⟩
  obtain rfl := hw.symm
  clear hw
  by_cases hs0 : 1048576 - (a0.length : Int) < 0
  · rw [if_pos hs0]
    go_wp2
    go_ret
    exact ⟨rfl, Below.refl _ _⟩
  rw [if_neg hs0]
  have lb0 : a0.length ≤ 1048576 := by omega
  obtain ⟨r0, hr0⟩ : ∃ x, x = 1048576 - (a0.length : Int) := ⟨_, rfl⟩
  have r00 : 0 ≤ r0 := by omega
  have r01 : r0 ≤ 1048576 := by omega
  rw [← hr0]
  have HT0 : Hid (∀ W : World, Below w.heap.size w W → Calls Try.prog 16 #[v0] W fun e w' => ∃ u, e = .returned u ∧ w'.ownsRow W.heap.size 32 2 u a0.length (cellsR a0) ∧ Below W.heap.size W w') := by
    intro W hW; exact toS_any v0 a0 W (H0.out.below hW) lb0
  clear hr0 hs0
  go_wp2_with fail
  refine (szT_any v1 a1 r0 _ H1.out r00 r01).mono ?_
  rintro e w0 ⟨r1, rfl, r11, hcase, hw⟩
  obtain rfl := hw.symm
  clear hw
  rcases hcase with hneg | ⟨r10, la11, la12⟩
  · go_wp2
    go_ret
    exact ⟨rfl, Below.refl _ _⟩
  have LA1 : Hid (a1.length ≤ 1048576 ∧ ∀ i, i < a1.length → (rw' a1 i).length ≤ 1048576) := ⟨la11, la12⟩
  have HT1 : Hid (∀ W : World, Below w.heap.size w W → Calls Try.prog 11 #[v1] W fun e w' => ∃ u us, e = .returned u ∧ Tab w' W.heap.size u us a1 ∧ Below W.heap.size W w') := by
    intro W hW; exact toT_any v1 a1 W (H1.out.below hW) la11 la12
  have b1 : (offN a1 a1.length : Int) ≤ 1099511627776 := by
    have := offN_le la12 a1.length (Nat.le_refl _)
    have : a1.length * 1048576 ≤ 1048576 * 1048576 := Nat.mul_le_mul_right _ la11
    omega
  clear la11 la12
  obtain ⟨A, hA⟩ : ∃ A, A = prtA a0 a1 := ⟨_, rfl⟩
  obtain ⟨q, hq⟩ : ∃ q, q = prtO a0 a1 := ⟨_, rfl⟩
  have HS : Hid (∀ (u0 u1 : Value) (W : World), RdR W u0 a0 → RdT W u1 a1 → Calls Try.prog 25 #[u0, u1] W fun e w' => ∃ v, e = .returned (.tuple #[v, .bool q]) ∧ w'.ownsRow W.heap.size 32 2 v A.length (cellsR A) ∧ Below W.heap.size W w') := by
    intro u0 u1 W g0 g1; rw [hq, hA]; exact sParts_any u0 u1 a0 a1 W g0 g1
  have HI : Hid (∀ (u0 u1 : Value) (W : World), RdR W u0 a0 → RdT W u1 a1 → Calls Try.prog 26 #[u0, u1] W fun e w' => ∃ v, e = .returned (.tuple #[v, .bool q]) ∧ w'.ownsRow W.heap.size 32 2 v A.length (cellsR A) ∧ Below W.heap.size W w') := by
    intro u0 u1 W g0 g1; rw [hq, hA]; exact iParts_any u0 u1 a0 a1 W g0 g1
  have lA : A.length ≤ 1048576 := by rw [hA]; exact prtA_small a0 a1
  have e1 : (q != q) = false := by simp
  clear hA hq H0 H1
  go_wp2_with fail
  refine (HT0.out _ (Below.refl _ _)).mono ?_
  rintro e w2 ⟨c0, rfl, t, hb⟩
  have B1 := hb
  have hz_w2 := hb.size
  clear hb
  have C0 : Hid (w2.ownsRow w.heap.size 32 2 c0 a0.length (cellsR (a0))) := t
  have UC0 : Hid (∀ b, c0.ownBlock = some b → b < w2.heap.size) := fun b h => (t.lt b h).2
  clear t
  go_wp2_with fail
  refine (HT1.out _ B1).mono ?_
  rintro e w3 ⟨c1, c1s, rfl, t, hb⟩
  replace B1 := B1.trans (hb.mono B1.size)
  replace C0 : Hid (w3.ownsRow w.heap.size 32 2 c0 a0.length (cellsR (a0))) := own_below C0.out hb
  have hz_w3 := hb.size
  clear hb
  have C1 : Hid (Tab w3 w2.heap.size c1 c1s a1) := t
  have UC1 : Hid (Under w3.heap.size c1 c1s) := t.under
  clear t
  go_wp2_with fail
  refine (HS.out c0 c1 _ (RdR.own C0.out).1 (Tab.read C1.out)).mono ?_
  rintro e w4 ⟨vv, rfl, t, hb⟩
  replace B1 := B1.trans (hb.mono B1.size)
  replace C1 : Hid (Tab w4 w2.heap.size c1 c1s a1) := Tab.below C1.out hb
  replace C0 : Hid (w4.ownsRow w.heap.size 32 2 c0 a0.length (cellsR (a0))) := own_below C0.out hb
  have hz_w4 := hb.size
  clear hb
  have V0 : Hid (w4.ownsRow w3.heap.size 32 2 vv A.length (cellsR (A))) := t
  have UV0 : Hid (∀ b, vv.ownBlock = some b → b < w4.heap.size) := fun b h => (t.lt b h).2
  clear t
  clear C0 UC0
  clear C1 UC1
  go_wp2_with fail
  refine (HT0.out _ B1).mono ?_
  rintro e w5 ⟨x0, rfl, t, hb⟩
  replace B1 := B1.trans (hb.mono B1.size)
  replace V0 : Hid (w5.ownsRow w3.heap.size 32 2 vv A.length (cellsR (A))) := own_below V0.out hb
  have hz_w5 := hb.size
  clear hb
  have X0 : Hid (w5.ownsRow w4.heap.size 32 2 x0 a0.length (cellsR (a0))) := t
  have UX0 : Hid (∀ b, x0.ownBlock = some b → b < w5.heap.size) := fun b h => (t.lt b h).2
  clear t
  go_wp2_with fail
  refine (HT1.out _ B1).mono ?_
  rintro e w6 ⟨x1, x1s, rfl, t, hb⟩
  replace B1 := B1.trans (hb.mono B1.size)
  replace V0 : Hid (w6.ownsRow w3.heap.size 32 2 vv A.length (cellsR (A))) := own_below V0.out hb
  replace X0 : Hid (w6.ownsRow w4.heap.size 32 2 x0 a0.length (cellsR (a0))) := own_below X0.out hb
  have hz_w6 := hb.size
  clear hb
  have X1 : Hid (Tab w6 w5.heap.size x1 x1s a1) := t
  have UX1 : Hid (Under w6.heap.size x1 x1s) := t.under
  clear t
  go_wp2_with fail
  refine (HI.out x0 x1 _ (RdR.own X0.out).1 (Tab.read X1.out)).mono ?_
  rintro e w7 ⟨gg, rfl, t, hb⟩
  replace B1 := B1.trans (hb.mono B1.size)
  replace X1 : Hid (Tab w7 w5.heap.size x1 x1s a1) := Tab.below X1.out hb
  replace V0 : Hid (w7.ownsRow w3.heap.size 32 2 vv A.length (cellsR (A))) := own_below V0.out hb
  replace X0 : Hid (w7.ownsRow w4.heap.size 32 2 x0 a0.length (cellsR (a0))) := own_below X0.out hb
  have hz_w7 := hb.size
  clear hb
  have G0 : Hid (w7.ownsRow w6.heap.size 32 2 gg A.length (cellsR (A))) := t
  have UG0 : Hid (∀ b, gg.ownBlock = some b → b < w7.heap.size) := fun b h => (t.lt b h).2
  clear t
  go_wp2_with fail
  refine (eqS_any gg vv A _ (RdR.own G0.out).1 (RdR.own V0.out).1).mono ?_
  rintro e w8 ⟨rfl, hb⟩
  replace B1 := B1.trans (hb.mono B1.size)
  replace X1 : Hid (Tab w8 w5.heap.size x1 x1s a1) := Tab.below X1.out hb
  replace V0 : Hid (w8.ownsRow w3.heap.size 32 2 vv A.length (cellsR (A))) := own_below V0.out hb
  replace X0 : Hid (w8.ownsRow w4.heap.size 32 2 x0 a0.length (cellsR (a0))) := own_below X0.out hb
  replace G0 : Hid (w8.ownsRow w6.heap.size 32 2 gg A.length (cellsR (A))) := own_below G0.out hb
  have hz_w8 := hb.size
  clear hb
  go_wp2_with fail
  refine (HT0.out _ B1).mono ?_
  rintro e w9 ⟨y0, rfl, t, hb⟩
  replace B1 := B1.trans (hb.mono B1.size)
  replace X1 : Hid (Tab w9 w5.heap.size x1 x1s a1) := Tab.below X1.out hb
  replace V0 : Hid (w9.ownsRow w3.heap.size 32 2 vv A.length (cellsR (A))) := own_below V0.out hb
  replace X0 : Hid (w9.ownsRow w4.heap.size 32 2 x0 a0.length (cellsR (a0))) := own_below X0.out hb
  replace G0 : Hid (w9.ownsRow w6.heap.size 32 2 gg A.length (cellsR (A))) := own_below G0.out hb
  have hz_w9 := hb.size
  clear hb
  have Y0 : Hid (w9.ownsRow w8.heap.size 32 2 y0 a0.length (cellsR (a0))) := t
  have UY0 : Hid (∀ b, y0.ownBlock = some b → b < w9.heap.size) := fun b h => (t.lt b h).2
  clear t
  go_wp2_with fail
  refine (eqS_any x0 y0 a0 _ (RdR.own X0.out).1 (RdR.own Y0.out).1).mono ?_
  rintro e w10 ⟨rfl, hb⟩
  replace B1 := B1.trans (hb.mono B1.size)
  replace X1 : Hid (Tab w10 w5.heap.size x1 x1s a1) := Tab.below X1.out hb
  replace V0 : Hid (w10.ownsRow w3.heap.size 32 2 vv A.length (cellsR (A))) := own_below V0.out hb
  replace X0 : Hid (w10.ownsRow w4.heap.size 32 2 x0 a0.length (cellsR (a0))) := own_below X0.out hb
  replace G0 : Hid (w10.ownsRow w6.heap.size 32 2 gg A.length (cellsR (A))) := own_below G0.out hb
  replace Y0 : Hid (w10.ownsRow w8.heap.size 32 2 y0 a0.length (cellsR (a0))) := own_below Y0.out hb
  have hz_w10 := hb.size
  clear hb
  clear Y0 UY0
  go_wp2_with fail
  refine (HT1.out _ B1).mono ?_
  rintro e w11 ⟨y1, y1s, rfl, t, hb⟩
  replace B1 := B1.trans (hb.mono B1.size)
  replace X1 : Hid (Tab w11 w5.heap.size x1 x1s a1) := Tab.below X1.out hb
  replace V0 : Hid (w11.ownsRow w3.heap.size 32 2 vv A.length (cellsR (A))) := own_below V0.out hb
  replace X0 : Hid (w11.ownsRow w4.heap.size 32 2 x0 a0.length (cellsR (a0))) := own_below X0.out hb
  replace G0 : Hid (w11.ownsRow w6.heap.size 32 2 gg A.length (cellsR (A))) := own_below G0.out hb
  have hz_w11 := hb.size
  clear hb
  have Y1 : Hid (Tab w11 w10.heap.size y1 y1s a1) := t
  have UY1 : Hid (Under w11.heap.size y1 y1s) := t.under
  clear t
  go_wp2_with fail
  refine (eqT_any x1 y1 a1 _ (Tab.read X1.out) (Tab.read Y1.out)).mono ?_
  rintro e w12 ⟨rfl, hb⟩
  replace B1 := B1.trans (hb.mono B1.size)
  replace X1 : Hid (Tab w12 w5.heap.size x1 x1s a1) := Tab.below X1.out hb
  replace Y1 : Hid (Tab w12 w10.heap.size y1 y1s a1) := Tab.below Y1.out hb
  replace V0 : Hid (w12.ownsRow w3.heap.size 32 2 vv A.length (cellsR (A))) := own_below V0.out hb
  replace X0 : Hid (w12.ownsRow w4.heap.size 32 2 x0 a0.length (cellsR (a0))) := own_below X0.out hb
  replace G0 : Hid (w12.ownsRow w6.heap.size 32 2 gg A.length (cellsR (A))) := own_below G0.out hb
  have hz_w12 := hb.size
  clear hb
  clear Y1 UY1
  go_wp2_with fail
  refine (markS_any x0 a0 w4.heap.size 1 _ (by omega) (by omega) (by omega) X0.out).mono ?_
  rintro e w13 ⟨rfl, tm, hg⟩
  have ho : Out w4.heap.size w5.heap.size w12 w13 := Out.of_grown hg (fun b e => ⟨(X0.out.lt b e).1, UX0.out b e⟩)
  clear hg
  replace B1 : Below w.heap.size w w13 := B1.trans ((ho.below (by omega)).mono (by omega))
  have hz_w13 := ho.2.2.2.1
  replace V0 : Hid (w13.ownsRow w3.heap.size 32 2 vv A.length (cellsR (A))) := own_out V0.out ho (fun b e => .inl (by have := UV0.out b e; omega))
  replace X1 : Hid (Tab w13 w5.heap.size x1 x1s a1) := Tab.out_hi X1.out ho (by omega)
  replace G0 : Hid (w13.ownsRow w6.heap.size 32 2 gg A.length (cellsR (A))) := own_out G0.out ho (fun b e => .inr (by have := (G0.out.lt b e).1; omega))
  clear tm ho
  clear X0 UX0
  obtain ⟨k0, hk0⟩ : ∃ k, k = 1 + 2 * (a0.length : Int) := ⟨_, rfl⟩
  have k00 : 0 ≤ k0 := by omega
  have k01 : k0 ≤ 3000000000000 := by omega
  rw [← hk0]
  clear hk0
  go_wp2_with fail
  refine (markT_any x1 x1s a1 w5.heap.size w6.heap.size k0 _ X1.out UX1.out LA1.out.1 LA1.out.2 (by omega) (by omega)).mono ?_
  rintro e w14 ⟨rfl, tm, ho⟩
  replace B1 : Below w.heap.size w w14 := B1.trans ((ho.below (by omega)).mono (by omega))
  have hz_w14 := ho.2.2.2.1
  replace V0 : Hid (w14.ownsRow w3.heap.size 32 2 vv A.length (cellsR (A))) := own_out V0.out ho (fun b e => .inl (by have := UV0.out b e; omega))
  replace G0 : Hid (w14.ownsRow w6.heap.size 32 2 gg A.length (cellsR (A))) := own_out G0.out ho (fun b e => .inr (by have := (G0.out.lt b e).1; omega))
  clear tm ho
  clear X1 UX1
  obtain ⟨k1, hk1⟩ : ∃ k, k = k0 + 2 * (offN a1 a1.length : Int) := ⟨_, rfl⟩
  have k10 : 0 ≤ k1 := by omega
  have k11 : k1 ≤ 6000000000000 := by omega
  rw [← hk1]
  clear hk1
  go_wp2_with fail
  refine (eqS_any gg vv A _ (RdR.own G0.out).1 (RdR.own V0.out).1).mono ?_
  rintro e w15 ⟨rfl, hb⟩
  replace B1 := B1.trans (hb.mono B1.size)
  replace V0 : Hid (w15.ownsRow w3.heap.size 32 2 vv A.length (cellsR (A))) := own_below V0.out hb
  replace G0 : Hid (w15.ownsRow w6.heap.size 32 2 gg A.length (cellsR (A))) := own_below G0.out hb
  have hz_w15 := hb.size
  clear hb
  go_wp2_with fail
  refine (markS_any gg A w6.heap.size 1 _ (by omega) (by omega) (by omega) G0.out).mono ?_
  rintro e w16 ⟨rfl, tm, hg⟩
  have ho : Out w6.heap.size w7.heap.size w15 w16 := Out.of_grown hg (fun b e => ⟨(G0.out.lt b e).1, UG0.out b e⟩)
  clear hg
  replace B1 : Below w.heap.size w w16 := B1.trans ((ho.below (by omega)).mono (by omega))
  have hz_w16 := ho.2.2.2.1
  replace V0 : Hid (w16.ownsRow w3.heap.size 32 2 vv A.length (cellsR (A))) := own_out V0.out ho (fun b e => .inl (by have := UV0.out b e; omega))
  replace G0 : Hid (w16.ownsRow w6.heap.size 32 2 gg A.length (cellsR (mkF 1 A A.length))) := tm
  clear tm ho
  have HM0 : Hid (0 ≤ 1 + 2 * (A.length : Int)) := by show _ ≤ _; omega
  go_wp2_with fail
  refine (heldS_any gg A 1 _ lA (by omega) (by omega) (RdR.own G0.out).1).mono ?_
  rintro e w17 ⟨rfl, mdr, hw⟩
  have hb : Below w16.heap.size w16 w17 := by rw [hw]; exact below_drewN (Below.refl _ _) _
  clear hw
  replace B1 := B1.trans (hb.mono B1.size)
  replace V0 : Hid (w17.ownsRow w3.heap.size 32 2 vv A.length (cellsR (A))) := own_below V0.out hb
  replace G0 : Hid (w17.ownsRow w6.heap.size 32 2 gg A.length (cellsR (mkF 1 A A.length))) := own_below G0.out hb
  have hz_w17 := hb.size
  clear hb
  obtain ⟨mm, hmm⟩ : ∃ k, k = 1 + 2 * (A.length : Int) := ⟨_, rfl⟩
  have mm0 : 0 ≤ mm := by omega
  have mm1 : (mm != mm) = false := by simp
  have HMM : Hid (mm = 1 + 2 * (A.length : Int)) := hmm
  rw [← hmm]
  clear hmm
  go_wp2_with fail
  refine (HT0.out _ B1).mono ?_
  rintro e w18 ⟨p0, rfl, t, hb⟩
  replace B1 := B1.trans (hb.mono B1.size)
  replace V0 : Hid (w18.ownsRow w3.heap.size 32 2 vv A.length (cellsR (A))) := own_below V0.out hb
  replace G0 : Hid (w18.ownsRow w6.heap.size 32 2 gg A.length (cellsR (mkF 1 A A.length))) := own_below G0.out hb
  have hz_w18 := hb.size
  clear hb
  have P0 : Hid (w18.ownsRow w17.heap.size 32 2 p0 a0.length (cellsR (a0))) := t
  have UP0 : Hid (∀ b, p0.ownBlock = some b → b < w18.heap.size) := fun b h => (t.lt b h).2
  clear t
  go_wp2_with fail
  refine (HT1.out _ B1).mono ?_
  rintro e w19 ⟨p1, p1s, rfl, t, hb⟩
  replace B1 := B1.trans (hb.mono B1.size)
  replace V0 : Hid (w19.ownsRow w3.heap.size 32 2 vv A.length (cellsR (A))) := own_below V0.out hb
  replace G0 : Hid (w19.ownsRow w6.heap.size 32 2 gg A.length (cellsR (mkF 1 A A.length))) := own_below G0.out hb
  replace P0 : Hid (w19.ownsRow w17.heap.size 32 2 p0 a0.length (cellsR (a0))) := own_below P0.out hb
  have hz_w19 := hb.size
  clear hb
  have P1 : Hid (Tab w19 w18.heap.size p1 p1s a1) := t
  have UP1 : Hid (Under w19.heap.size p1 p1s) := t.under
  clear t
  go_wp2_with fail
  refine (HI.out p0 p1 _ (RdR.own P0.out).1 (Tab.read P1.out)).mono ?_
  rintro e w20 ⟨hh, rfl, t, hb⟩
  replace B1 := B1.trans (hb.mono B1.size)
  replace P1 : Hid (Tab w20 w18.heap.size p1 p1s a1) := Tab.below P1.out hb
  replace V0 : Hid (w20.ownsRow w3.heap.size 32 2 vv A.length (cellsR (A))) := own_below V0.out hb
  replace G0 : Hid (w20.ownsRow w6.heap.size 32 2 gg A.length (cellsR (mkF 1 A A.length))) := own_below G0.out hb
  replace P0 : Hid (w20.ownsRow w17.heap.size 32 2 p0 a0.length (cellsR (a0))) := own_below P0.out hb
  have hz_w20 := hb.size
  clear hb
  have H9 : Hid (w20.ownsRow w19.heap.size 32 2 hh A.length (cellsR (A))) := t
  have UH9 : Hid (∀ b, hh.ownBlock = some b → b < w20.heap.size) := fun b h => (t.lt b h).2
  clear t
  clear P0 UP0
  clear P1 UP1
  go_wp2_with fail
  refine (eqS_any hh vv A _ (RdR.own H9.out).1 (RdR.own V0.out).1).mono ?_
  rintro e w21 ⟨rfl, hb⟩
  replace B1 := B1.trans (hb.mono B1.size)
  replace V0 : Hid (w21.ownsRow w3.heap.size 32 2 vv A.length (cellsR (A))) := own_below V0.out hb
  replace G0 : Hid (w21.ownsRow w6.heap.size 32 2 gg A.length (cellsR (mkF 1 A A.length))) := own_below G0.out hb
  replace H9 : Hid (w21.ownsRow w19.heap.size 32 2 hh A.length (cellsR (A))) := own_below H9.out hb
  have hz_w21 := hb.size
  clear hb
  clear H9 UH9
  go_wp2_with fail
  refine (heldS_any gg A 1 _ lA (by omega) (by omega) (RdR.own G0.out).1).mono ?_
  rintro e w22 ⟨rfl, mdr, hw⟩
  have hb : Below w21.heap.size w21 w22 := by rw [hw]; exact below_drewN (Below.refl _ _) _
  clear hw
  replace B1 := B1.trans (hb.mono B1.size)
  replace V0 : Hid (w22.ownsRow w3.heap.size 32 2 vv A.length (cellsR (A))) := own_below V0.out hb
  replace G0 : Hid (w22.ownsRow w6.heap.size 32 2 gg A.length (cellsR (mkF 1 A A.length))) := own_below G0.out hb
  have hz_w22 := hb.size
  clear hb
  rw [← HMM.out]
  go_wp2
  go_ret
  exact ⟨rfl, B1⟩
end Go.Proofs.Ytkcdpjcfbpjkean
