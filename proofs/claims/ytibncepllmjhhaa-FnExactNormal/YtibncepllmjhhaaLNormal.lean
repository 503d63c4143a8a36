/- The walk of the law of Normal: both answers are the same, the program's in memory of its own, and the lists that were handed in stay. -/
import Derived.Test.YtibncepllmjhhaaFitP7
import Derived.Test.YtibncepllmjhhaaTabW4
import Derived.Test.YtibncepllmjhhaaFitW6
namespace Go.Proofs.Ytibncepllmjhhaa
open Go.RowKit Go.Proofs.Ytibncepllmjhhaa.RM

theorem norA_small (cs : List Fr) (ss : List Sp) : (norA cs ss).length ≤ 1048576 := by
  cases h : norO cs ss
  · rw [norA_no h]; simp
  · rw [norA_yes h, norV_len]
    have hc : crvB cs = true := by
      unfold norO at h
      rw [Bool.and_eq_true] at h
      exact h.1
    have := (crvB_out hc).1
    omega
set_option maxRecDepth 100000 in
set_option maxHeartbeats 4000000 in
theorem lawNormal (v0 : Value) (a0 : List Fr) (v1 : Value) (a1 : List Sp) (w : World) (h0 : RdR w v0 a0) (h1 : RdS w v1 a1) :
    Calls Try.prog 7 #[v0, v1] w fun e w' => e = .returned (.bool true) ∧ Below w.heap.size w w' := by
  have H0 : Hid (RdR w v0 a0) := h0
  have H1 : Hid (RdS w v1 a1) := h1
  clear h0 h1
  have B1 : Below w.heap.size w w := Below.refl _ _
  go_enter Try.func7, Try.ntmps7
  go_wp2_with fail
  refine (szS_any v0 a0 1048576 _ H0.out (by omega) (by omega)).mono ?_
  rintro e w0 ⟨rfl, hw⟩
  obtain rfl := hw.symm
  clear hw
  by_cases hs0 : 1048576 - (a0.length : Int) < 0
  · rw [if_pos hs0]
    go_wp2
    go_ret
    exact ⟨rfl, B1⟩
  rw [if_neg hs0]
  have lb0 : a0.length ≤ 1048576 := by omega
  obtain ⟨r0, hr0⟩ : ∃ x, x = 1048576 - (a0.length : Int) := ⟨_, rfl⟩
  have r00 : 0 ≤ r0 := by omega
  have r01 : r0 ≤ 1048576 := by omega
  rw [← hr0]
  have HT0 : Hid (∀ W : World, Below w.heap.size w W → Calls Try.prog 15 #[v0] W fun e w' => ∃ u, e = .returned u ∧ w'.ownsRow W.heap.size 33 2 u a0.length (cellsR a0) ∧ Below W.heap.size W w') := by
    intro W hW; exact toS_any v0 a0 W (H0.out.below hW) lb0
  clear hr0 hs0
  go_wp2_with fail
  refine (szSp_any v1 a1 r0 _ H1.out r00 r01).mono ?_
  rintro e w0 ⟨rfl, hw⟩
  obtain rfl := hw.symm
  clear hw
  by_cases hs1 : r0 - (a1.length : Int) < 0
  · rw [if_pos hs1]
    go_wp2
    go_ret
    exact ⟨rfl, B1⟩
  rw [if_neg hs1]
  have lb1 : a1.length ≤ 1048576 := by omega
  obtain ⟨r1, hr1⟩ : ∃ x, x = r0 - (a1.length : Int) := ⟨_, rfl⟩
  have r10 : 0 ≤ r1 := by omega
  have r11 : r1 ≤ 1048576 := by omega
  rw [← hr1]
  have HT1 : Hid (∀ W : World, Below w.heap.size w W → Calls Try.prog 10 #[v1] W fun e w' => ∃ u, e = .returned u ∧ w'.ownsRow W.heap.size 51 4 u a1.length (cellsS a1) ∧ Below W.heap.size W w') := by
    intro W hW; exact toSpS_any v1 a1 W (H1.out.below hW) lb1
  clear hr1 hs1
  obtain ⟨A, hA⟩ : ∃ A, A = norA a0 a1 := ⟨_, rfl⟩
  obtain ⟨q, hq⟩ : ∃ q, q = norO a0 a1 := ⟨_, rfl⟩
  have HS : Hid (∀ (u0 u1 : Value) (W : World), RdR W u0 a0 → RdS W u1 a1 → Calls Try.prog 27 #[u0, u1] W fun e w' => ∃ v, e = .returned (.tuple #[v, .bool q]) ∧ w'.ownsRow W.heap.size 33 2 v A.length (cellsR A) ∧ Below W.heap.size W w') := by
    intro u0 u1 W g0 g1; have := sNormal_any u0 u1 a0 a1 W g0 g1; rw [← hA, ← hq] at this; exact this
  have HI : Hid (∀ (u0 u1 : Value) (W : World), RdR W u0 a0 → RdS W u1 a1 → Calls Try.prog 28 #[u0, u1] W fun e w' => ∃ v, e = .returned (.tuple #[v, .bool q]) ∧ w'.ownsRow W.heap.size 33 2 v A.length (cellsR A) ∧ Below W.heap.size W w') := by
    intro u0 u1 W g0 g1; have := iNormal_any u0 u1 a0 a1 W g0 g1; rw [← hA, ← hq] at this; exact this
  have lA : A.length ≤ 1048576 := by rw [hA]; exact norA_small a0 a1
  have e1 : (q != q) = false := by simp
  clear hA hq H0 H1
  go_wp2_with fail
  refine (HT0.out _ B1).mono ?_
  rintro e w2 ⟨c0, rfl, t, hb⟩
  replace B1 := B1.trans (hb.mono B1.size)
  have hz_w2 := hb.size
  clear hb
  have C0 : Hid (w2.ownsRow w.heap.size 33 2 c0 a0.length (cellsR (a0))) := t
  have UC0 : Hid (∀ b, c0.ownBlock = some b → b < w2.heap.size) := fun b h => (t.lt b h).2
  clear t
  go_wp2_with fail
  refine (HT1.out _ B1).mono ?_
  rintro e w3 ⟨c1, rfl, t, hb⟩
  replace B1 := B1.trans (hb.mono B1.size)
  replace C0 : Hid (w3.ownsRow w.heap.size 33 2 c0 a0.length (cellsR (a0))) := own_below C0.out hb
  have hz_w3 := hb.size
  clear hb
  have C1 : Hid (w3.ownsRow w2.heap.size 51 4 c1 a1.length (cellsS (a1))) := t
  have UC1 : Hid (∀ b, c1.ownBlock = some b → b < w3.heap.size) := fun b h => (t.lt b h).2
  clear t
  go_wp2_with fail
  refine (HS.out c0 c1 _ (RdR.own C0.out).1 (RdS.own C1.out).1).mono ?_
  rintro e w4 ⟨vv, rfl, t, hb⟩
  replace B1 := B1.trans (hb.mono B1.size)
  replace C0 : Hid (w4.ownsRow w.heap.size 33 2 c0 a0.length (cellsR (a0))) := own_below C0.out hb
  replace C1 : Hid (w4.ownsRow w2.heap.size 51 4 c1 a1.length (cellsS (a1))) := own_below C1.out hb
  have hz_w4 := hb.size
  clear hb
  have V0 : Hid (w4.ownsRow w3.heap.size 33 2 vv A.length (cellsR (A))) := t
  have UV0 : Hid (∀ b, vv.ownBlock = some b → b < w4.heap.size) := fun b h => (t.lt b h).2
  clear t
  clear C0 UC0
  clear C1 UC1
  go_wp2_with fail
  refine (HT0.out _ B1).mono ?_
  rintro e w5 ⟨xx0, rfl, t, hb⟩
  replace B1 := B1.trans (hb.mono B1.size)
  replace V0 : Hid (w5.ownsRow w3.heap.size 33 2 vv A.length (cellsR (A))) := own_below V0.out hb
  have hz_w5 := hb.size
  clear hb
  have X0 : Hid (w5.ownsRow w4.heap.size 33 2 xx0 a0.length (cellsR (a0))) := t
  have UX0 : Hid (∀ b, xx0.ownBlock = some b → b < w5.heap.size) := fun b h => (t.lt b h).2
  clear t
  go_wp2_with fail
  refine (HT1.out _ B1).mono ?_
  rintro e w6 ⟨xx1, rfl, t, hb⟩
  replace B1 := B1.trans (hb.mono B1.size)
  replace V0 : Hid (w6.ownsRow w3.heap.size 33 2 vv A.length (cellsR (A))) := own_below V0.out hb
  replace X0 : Hid (w6.ownsRow w4.heap.size 33 2 xx0 a0.length (cellsR (a0))) := own_below X0.out hb
  have hz_w6 := hb.size
  clear hb
  have X1 : Hid (w6.ownsRow w5.heap.size 51 4 xx1 a1.length (cellsS (a1))) := t
  have UX1 : Hid (∀ b, xx1.ownBlock = some b → b < w6.heap.size) := fun b h => (t.lt b h).2
  clear t
  go_wp2_with fail
  refine (HI.out xx0 xx1 _ (RdR.own X0.out).1 (RdS.own X1.out).1).mono ?_
  rintro e w7 ⟨gg, rfl, t, hb⟩
  replace B1 := B1.trans (hb.mono B1.size)
  replace V0 : Hid (w7.ownsRow w3.heap.size 33 2 vv A.length (cellsR (A))) := own_below V0.out hb
  replace X0 : Hid (w7.ownsRow w4.heap.size 33 2 xx0 a0.length (cellsR (a0))) := own_below X0.out hb
  replace X1 : Hid (w7.ownsRow w5.heap.size 51 4 xx1 a1.length (cellsS (a1))) := own_below X1.out hb
  have hz_w7 := hb.size
  clear hb
  have G0 : Hid (w7.ownsRow w6.heap.size 33 2 gg A.length (cellsR (A))) := t
  have UG0 : Hid (∀ b, gg.ownBlock = some b → b < w7.heap.size) := fun b h => (t.lt b h).2
  clear t
  go_wp2_with fail
  refine (eqS_any gg vv A _ (RdR.own G0.out).1 (RdR.own V0.out).1).mono ?_
  rintro e w8 ⟨rfl, hb⟩
  replace B1 := B1.trans (hb.mono B1.size)
  replace V0 : Hid (w8.ownsRow w3.heap.size 33 2 vv A.length (cellsR (A))) := own_below V0.out hb
  replace X0 : Hid (w8.ownsRow w4.heap.size 33 2 xx0 a0.length (cellsR (a0))) := own_below X0.out hb
  replace X1 : Hid (w8.ownsRow w5.heap.size 51 4 xx1 a1.length (cellsS (a1))) := own_below X1.out hb
  replace G0 : Hid (w8.ownsRow w6.heap.size 33 2 gg A.length (cellsR (A))) := own_below G0.out hb
  have hz_w8 := hb.size
  clear hb
  go_wp2_with fail
  refine (HT0.out _ B1).mono ?_
  rintro e w9 ⟨yy0, rfl, t, hb⟩
  replace B1 := B1.trans (hb.mono B1.size)
  replace V0 : Hid (w9.ownsRow w3.heap.size 33 2 vv A.length (cellsR (A))) := own_below V0.out hb
  replace X0 : Hid (w9.ownsRow w4.heap.size 33 2 xx0 a0.length (cellsR (a0))) := own_below X0.out hb
  replace X1 : Hid (w9.ownsRow w5.heap.size 51 4 xx1 a1.length (cellsS (a1))) := own_below X1.out hb
  replace G0 : Hid (w9.ownsRow w6.heap.size 33 2 gg A.length (cellsR (A))) := own_below G0.out hb
  have hz_w9 := hb.size
  clear hb
  have Y0 : Hid (w9.ownsRow w8.heap.size 33 2 yy0 a0.length (cellsR (a0))) := t
  have UY0 : Hid (∀ b, yy0.ownBlock = some b → b < w9.heap.size) := fun b h => (t.lt b h).2
  clear t
  go_wp2_with fail
  refine (eqS_any xx0 yy0 a0 _ (RdR.own X0.out).1 (RdR.own Y0.out).1).mono ?_
  rintro e w10 ⟨rfl, hb⟩
  replace B1 := B1.trans (hb.mono B1.size)
  replace V0 : Hid (w10.ownsRow w3.heap.size 33 2 vv A.length (cellsR (A))) := own_below V0.out hb
  replace X0 : Hid (w10.ownsRow w4.heap.size 33 2 xx0 a0.length (cellsR (a0))) := own_below X0.out hb
  replace X1 : Hid (w10.ownsRow w5.heap.size 51 4 xx1 a1.length (cellsS (a1))) := own_below X1.out hb
  replace G0 : Hid (w10.ownsRow w6.heap.size 33 2 gg A.length (cellsR (A))) := own_below G0.out hb
  replace Y0 : Hid (w10.ownsRow w8.heap.size 33 2 yy0 a0.length (cellsR (a0))) := own_below Y0.out hb
  have hz_w10 := hb.size
  clear hb
  clear Y0 UY0
  go_wp2_with fail
  refine (HT1.out _ B1).mono ?_
  rintro e w11 ⟨yy1, rfl, t, hb⟩
  replace B1 := B1.trans (hb.mono B1.size)
  replace V0 : Hid (w11.ownsRow w3.heap.size 33 2 vv A.length (cellsR (A))) := own_below V0.out hb
  replace X0 : Hid (w11.ownsRow w4.heap.size 33 2 xx0 a0.length (cellsR (a0))) := own_below X0.out hb
  replace X1 : Hid (w11.ownsRow w5.heap.size 51 4 xx1 a1.length (cellsS (a1))) := own_below X1.out hb
  replace G0 : Hid (w11.ownsRow w6.heap.size 33 2 gg A.length (cellsR (A))) := own_below G0.out hb
  have hz_w11 := hb.size
  clear hb
  have Y1 : Hid (w11.ownsRow w10.heap.size 51 4 yy1 a1.length (cellsS (a1))) := t
  have UY1 : Hid (∀ b, yy1.ownBlock = some b → b < w11.heap.size) := fun b h => (t.lt b h).2
  clear t
  go_wp2_with fail
  refine (eqSpS_any xx1 yy1 a1 _ (RdS.own X1.out).1 (RdS.own Y1.out).1).mono ?_
  rintro e w12 ⟨rfl, hb⟩
  replace B1 := B1.trans (hb.mono B1.size)
  replace V0 : Hid (w12.ownsRow w3.heap.size 33 2 vv A.length (cellsR (A))) := own_below V0.out hb
  replace X0 : Hid (w12.ownsRow w4.heap.size 33 2 xx0 a0.length (cellsR (a0))) := own_below X0.out hb
  replace X1 : Hid (w12.ownsRow w5.heap.size 51 4 xx1 a1.length (cellsS (a1))) := own_below X1.out hb
  replace G0 : Hid (w12.ownsRow w6.heap.size 33 2 gg A.length (cellsR (A))) := own_below G0.out hb
  replace Y1 : Hid (w12.ownsRow w10.heap.size 51 4 yy1 a1.length (cellsS (a1))) := own_below Y1.out hb
  have hz_w12 := hb.size
  clear hb
  clear Y1 UY1
  go_wp2_with fail
  refine (markS_any xx0 a0 w4.heap.size 1 _ (by omega) (by omega) (by omega) X0.out).mono ?_
  rintro e w13 ⟨rfl, tm, hg⟩
  have ho : Out w4.heap.size w5.heap.size w12 w13 := Out.of_grown hg (fun b e => ⟨(X0.out.lt b e).1, UX0.out b e⟩)
  clear hg
  replace B1 : Below w.heap.size w w13 := B1.trans ((ho.below (by omega)).mono (by omega))
  have hz_w13 := ho.2.2.2.1
  replace V0 : Hid (w13.ownsRow w3.heap.size 33 2 vv A.length (cellsR (A))) := own_out V0.out ho (fun b e => .inl (by have := UV0.out b e; omega))
  replace X1 : Hid (w13.ownsRow w5.heap.size 51 4 xx1 a1.length (cellsS (a1))) := own_out X1.out ho (fun b e => .inr (by have := (X1.out.lt b e).1; omega))
  replace G0 : Hid (w13.ownsRow w6.heap.size 33 2 gg A.length (cellsR (A))) := own_out G0.out ho (fun b e => .inr (by have := (G0.out.lt b e).1; omega))
  clear tm ho
  clear X0 UX0
  obtain ⟨k0, hk0⟩ : ∃ k, k = 1 + 2 * (a0.length : Int) := ⟨_, rfl⟩
  have k00 : 0 ≤ k0 := by omega
  have k01 : k0 ≤ 3000000000000 := by omega
  rw [← hk0]
  clear hk0
  go_wp2_with fail
  refine (markSp_any xx1 a1 w5.heap.size k0 _ (by omega) (by omega) (by omega) X1.out).mono ?_
  rintro e w14 ⟨rfl, tm, hg⟩
  have ho : Out w5.heap.size w6.heap.size w13 w14 := Out.of_grown hg (fun b e => ⟨(X1.out.lt b e).1, UX1.out b e⟩)
  clear hg
  replace B1 : Below w.heap.size w w14 := B1.trans ((ho.below (by omega)).mono (by omega))
  have hz_w14 := ho.2.2.2.1
  replace V0 : Hid (w14.ownsRow w3.heap.size 33 2 vv A.length (cellsR (A))) := own_out V0.out ho (fun b e => .inl (by have := UV0.out b e; omega))
  replace G0 : Hid (w14.ownsRow w6.heap.size 33 2 gg A.length (cellsR (A))) := own_out G0.out ho (fun b e => .inr (by have := (G0.out.lt b e).1; omega))
  clear tm ho
  clear X1 UX1
  obtain ⟨k1, hk1⟩ : ∃ k, k = k0 + 4 * (a1.length : Int) := ⟨_, rfl⟩
  have k10 : 0 ≤ k1 := by omega
  have k11 : k1 ≤ 6000000000000 := by omega
  rw [← hk1]
  clear hk1
  go_wp2_with fail
  refine (eqS_any gg vv A _ (RdR.own G0.out).1 (RdR.own V0.out).1).mono ?_
  rintro e w15 ⟨rfl, hb⟩
  replace B1 := B1.trans (hb.mono B1.size)
  replace V0 : Hid (w15.ownsRow w3.heap.size 33 2 vv A.length (cellsR (A))) := own_below V0.out hb
  replace G0 : Hid (w15.ownsRow w6.heap.size 33 2 gg A.length (cellsR (A))) := own_below G0.out hb
  have hz_w15 := hb.size
  clear hb
  go_wp2_with fail
  refine (markS_any gg A w6.heap.size 1 _ (by omega) (by omega) (by omega) G0.out).mono ?_
  rintro e w16 ⟨rfl, tm, hg⟩
  have ho : Out w6.heap.size w7.heap.size w15 w16 := Out.of_grown hg (fun b e => ⟨(G0.out.lt b e).1, UG0.out b e⟩)
  clear hg
  replace B1 : Below w.heap.size w w16 := B1.trans ((ho.below (by omega)).mono (by omega))
  have hz_w16 := ho.2.2.2.1
  replace V0 : Hid (w16.ownsRow w3.heap.size 33 2 vv A.length (cellsR (A))) := own_out V0.out ho (fun b e => .inl (by have := UV0.out b e; omega))
  replace G0 : Hid (w16.ownsRow w6.heap.size 33 2 gg A.length (cellsR (mkF 1 A A.length))) := tm
  clear tm ho
  have HM0 : Hid (0 ≤ 1 + 2 * (A.length : Int)) := by show _ ≤ _; omega
  go_wp2_with fail
  refine (heldS_any gg A 1 _ lA (by omega) (by omega) (RdR.own G0.out).1).mono ?_
  rintro e w17 ⟨rfl, mdr, hw⟩
  have hb : Below w16.heap.size w16 w17 := by rw [hw]; exact below_drewN (Below.refl _ _) _
  clear hw
  replace B1 := B1.trans (hb.mono B1.size)
  replace V0 : Hid (w17.ownsRow w3.heap.size 33 2 vv A.length (cellsR (A))) := own_below V0.out hb
  replace G0 : Hid (w17.ownsRow w6.heap.size 33 2 gg A.length (cellsR (mkF 1 A A.length))) := own_below G0.out hb
  have hz_w17 := hb.size
  clear hb
  obtain ⟨mm, hmm⟩ : ∃ k, k = 1 + 2 * (A.length : Int) := ⟨_, rfl⟩
  have mm0 : 0 ≤ mm := by omega
  have mm1 : (mm != mm) = false := by simp
  have HMM : Hid (mm = 1 + 2 * (A.length : Int)) := hmm
  rw [← hmm]
  clear hmm
  go_wp2_with fail
  refine (HT0.out _ B1).mono ?_
  rintro e w18 ⟨pp0, rfl, t, hb⟩
  replace B1 := B1.trans (hb.mono B1.size)
  replace V0 : Hid (w18.ownsRow w3.heap.size 33 2 vv A.length (cellsR (A))) := own_below V0.out hb
  replace G0 : Hid (w18.ownsRow w6.heap.size 33 2 gg A.length (cellsR (mkF 1 A A.length))) := own_below G0.out hb
  have hz_w18 := hb.size
  clear hb
  have P0 : Hid (w18.ownsRow w17.heap.size 33 2 pp0 a0.length (cellsR (a0))) := t
  have UP0 : Hid (∀ b, pp0.ownBlock = some b → b < w18.heap.size) := fun b h => (t.lt b h).2
  clear t
  go_wp2_with fail
  refine (HT1.out _ B1).mono ?_
  rintro e w19 ⟨pp1, rfl, t, hb⟩
  replace B1 := B1.trans (hb.mono B1.size)
  replace V0 : Hid (w19.ownsRow w3.heap.size 33 2 vv A.length (cellsR (A))) := own_below V0.out hb
  replace G0 : Hid (w19.ownsRow w6.heap.size 33 2 gg A.length (cellsR (mkF 1 A A.length))) := own_below G0.out hb
  replace P0 : Hid (w19.ownsRow w17.heap.size 33 2 pp0 a0.length (cellsR (a0))) := own_below P0.out hb
  have hz_w19 := hb.size
  clear hb
  have P1 : Hid (w19.ownsRow w18.heap.size 51 4 pp1 a1.length (cellsS (a1))) := t
  have UP1 : Hid (∀ b, pp1.ownBlock = some b → b < w19.heap.size) := fun b h => (t.lt b h).2
  clear t
  go_wp2_with fail
  refine (HI.out pp0 pp1 _ (RdR.own P0.out).1 (RdS.own P1.out).1).mono ?_
  rintro e w20 ⟨hh, rfl, t, hb⟩
  replace B1 := B1.trans (hb.mono B1.size)
  replace V0 : Hid (w20.ownsRow w3.heap.size 33 2 vv A.length (cellsR (A))) := own_below V0.out hb
  replace G0 : Hid (w20.ownsRow w6.heap.size 33 2 gg A.length (cellsR (mkF 1 A A.length))) := own_below G0.out hb
  replace P0 : Hid (w20.ownsRow w17.heap.size 33 2 pp0 a0.length (cellsR (a0))) := own_below P0.out hb
  replace P1 : Hid (w20.ownsRow w18.heap.size 51 4 pp1 a1.length (cellsS (a1))) := own_below P1.out hb
  have hz_w20 := hb.size
  clear hb
  have H9 : Hid (w20.ownsRow w19.heap.size 33 2 hh A.length (cellsR (A))) := t
  have UH9 : Hid (∀ b, hh.ownBlock = some b → b < w20.heap.size) := fun b h => (t.lt b h).2
  clear t
  clear P0 UP0
  clear P1 UP1
  go_wp2_with fail
  refine (eqS_any hh vv A _ (RdR.own H9.out).1 (RdR.own V0.out).1).mono ?_
  rintro e w21 ⟨rfl, hb⟩
  replace B1 := B1.trans (hb.mono B1.size)
  replace V0 : Hid (w21.ownsRow w3.heap.size 33 2 vv A.length (cellsR (A))) := own_below V0.out hb
  replace G0 : Hid (w21.ownsRow w6.heap.size 33 2 gg A.length (cellsR (mkF 1 A A.length))) := own_below G0.out hb
  replace H9 : Hid (w21.ownsRow w19.heap.size 33 2 hh A.length (cellsR (A))) := own_below H9.out hb
  have hz_w21 := hb.size
  clear hb
  clear H9 UH9
  go_wp2_with fail
  refine (heldS_any gg A 1 _ lA (by omega) (by omega) (RdR.own G0.out).1).mono ?_
  rintro e w22 ⟨rfl, mdr, hw⟩
  have hb : Below w21.heap.size w21 w22 := by rw [hw]; exact below_drewN (Below.refl _ _) _
  clear hw
  replace B1 := B1.trans (hb.mono B1.size)
  replace V0 : Hid (w22.ownsRow w3.heap.size 33 2 vv A.length (cellsR (A))) := own_below V0.out hb
  replace G0 : Hid (w22.ownsRow w6.heap.size 33 2 gg A.length (cellsR (mkF 1 A A.length))) := own_below G0.out hb
  have hz_w22 := hb.size
  clear hb
  rw [← HMM.out]
  go_wp2
  go_ret
  exact ⟨rfl, B1⟩
end Go.Proofs.Ytibncepllmjhhaa
