/- The law of lines walked: what is fitted stands upright on its misses, and no other curve of so many numbers misses less. -/
import Derived.Test.YthnlcgilmljliaaPk2
import Derived.Test.YthnlcgilmljliaaPk5
import Derived.Test.YthnlcgilmljliaaPk7
import Derived.Test.YthnlcgilmljliaaPk8
import Derived.Test.YthnlcgilmljliaaFitW8
import Derived.Deep.RegionLaw
namespace Go.Proofs.Ythnlcgilmljliaa
open Go.RowKit Go.Proofs.Ythnlcgilmljliaa.RM

theorem bG (u : World) (o : Obj) : Below u.heap.size u (u.alloc o) := (Below.refl _ _).alloc (Nat.le_refl _) o
theorem sAddG (x1 x2 y1 y2 : Int) (w : World) :
    Calls Try.prog 21 #[.agg #[.int .i64 x1, .int .i64 x2], .agg #[.int .i64 y1, .int .i64 y2]] w fun e w' => e = .returned (.tuple #[.agg #[.int .i64 (addP (x1, x2) (y1, y2)).1, .int .i64 (addP (x1, x2) (y1, y2)).2], .bool (addK (x1, x2) (y1, y2))]) ∧ Below w.heap.size w w' := sAdd_any x1 x2 y1 y2 w
theorem len_fit {ss : List Sp} {n : Int} (h : fitO ss n = true) : ((fitA ss n).length : Int) = n ∧ 1 ≤ n ∧ n ≤ 4 := by
  obtain ⟨h1, h2, _, _⟩ := fit_normal h
  omega
theorem len_nor (cs : List Fr) (ss : List Sp) : (norA cs ss).length ≤ 4 := by
  cases h : norO cs ss
  · rw [norA_no h]; simp
  · rw [norA_yes h, norV_len]
    have hc : crvB cs = true := by unfold norO at h; rw [Bool.and_eq_true] at h; exact h.1
    exact (crvB_out hc).1.2
theorem len_fitA (ss : List Sp) (n : Int) : (fitA ss n).length ≤ 4 := by
  cases h : fitO ss n
  · rw [fitA_no h]; simp
  · have := len_fit h; omega

set_option maxRecDepth 100000 in
set_option maxHeartbeats 16000000 in
theorem lawGauss (a : Option Addr) (len cap : Nat) (zs : List Int) (w : World) (hr : IsRow .u8 w a len cap zs) :
    Calls Try.prog 3 #[.slice a len cap] w fun e w' => e = .returned (.bool true) ∧ Below w.heap.size w w' := by
  obtain ⟨i0, hi, hz0, hz1, hz2⟩ := info_parts infoF
  have HR := hidG hr
  have HBIG := hidG (fun W => big_any a len cap W)
  by_cases hbig : 4096 < (len : Int)
  · have HBG : Hid (decide (4096 < (len : Int)) = true) := decide_eq_true hbig
    rw [HBG.out] at HBIG
    go_enter Try.func3, Try.ntmps3
    go_wp2_with fail
    refine (HBIG.out _).mono ?_
    rintro e w1 ⟨rfl, rfl⟩
    go_wp2
    go_ret
    exact ⟨rfl, Below.refl _ _⟩
  have HBG : Hid (decide (4096 < (len : Int)) = false) := decide_eq_false hbig
  have hlen : len ≤ 4096 := by omega
  rw [HBG.out] at HBIG
  clear hr hbig
  go_enter Try.func3, Try.ntmps3
  go_wp2_with fail
  refine (HBIG.out _).mono ?_
  rintro e w0 ⟨rfl, hw⟩
  have hw2 := hw.symm
  subst hw2
  clear hw HBIG HBG
  have BB : Hid (Below w.heap.size w w) := Below.refl _ _
  go_wp2_with fail
  refine (dFitted_any a len cap zs _ (HR.out.below BB.out)).mono ?_
  rintro e W1 ⟨zl, ss, n, rfl, f1, hb⟩
  have FL := hidG f1
  clear f1
  replace BB := hidG (BB.out.trans (hb.mono BB.out.size))
  clear hb
  have CIF := hidG (fun W (h : RdS W zl ss) => iFitted_any zl ss n W h)
  have CSF := hidG (fun W (h : RdS W zl ss) => sFitted_any zl ss n W h)
  have CIS := hidG (fun W (h : RdS W zl ss) => iSpo_any zl ss W h)
  have CSS := hidG (fun W (h : RdS W zl ss) => sSpo_any zl ss W h)
  have LF := hidG (fun h : fitO ss n = true => len_fit h)
  have NF := hidG (fun h : fitO ss n = false => fitA_no h)
  have LA4 := len_fitA ss n
  have HNG := hidG (fun (h : fitO ss n = true) (h2 : norO (fitA ss n) ss = true) => fit_nought h h2)
  have HLS := hidG (fun (k : Nat) (t : Fr) (h : fitO ss n = true) (hk : k < n.toNat) (hx : addK (fr (fitA ss n) k) t = true) (h1 : misO (fitA ss n) ss = true) (h2 : misO ((fitA ss n).set k (addP (fr (fitA ss n) k) t)) ss = true) => fit_least h hk hx h1 h2)
  obtain ⟨A, hA⟩ : ∃ A, A = fitA ss n := ⟨_, rfl⟩
  obtain ⟨o, ho⟩ : ∃ o, o = fitO ss n := ⟨_, rfl⟩
  obtain ⟨sk, hsk⟩ : ∃ o, o = sptB ss := ⟨_, rfl⟩
  rw [← hA, ← ho] at CIF CSF HNG HLS
  rw [← hA] at LA4
  rw [← ho] at LF
  rw [← hA, ← ho] at NF
  rw [← hsk] at CIS CSS
  rw [← hA] at LF
  clear hA ho hsk
  go_wp2_with fail
  refine (CIF.out _ FL.out).mono ?_
  rintro e W2 ⟨vc, rfl, f1, hb⟩
  have OC := hidG f1
  clear f1
  replace FL := hidG (FL.out.below hb)
  replace BB := hidG (BB.out.trans (hb.mono BB.out.size))
  clear hb
  obtain ⟨pc, cc, rfl⟩ := own_shape OC.out
  go_wp2_with fail
  refine (dMiss_any a len cap zs _ (HR.out.below BB.out)).mono ?_
  rintro e W3 ⟨vq, qs, vz, s2, rfl, f1, f2, hb⟩
  have FQ := hidG f1
  clear f1
  have FZ := hidG f2
  clear f2
  replace FL := hidG (FL.out.below hb)
  replace OC := hidG (own_below OC.out hb)
  replace BB := hidG (BB.out.trans (hb.mono BB.out.size))
  clear hb
  have CIM := hidG (fun W (h : RdR W vq qs) (h2 : RdS W vz s2) => iMiss_any vq vz qs s2 W h h2)
  have CSM := hidG (fun W (h : RdR W vq qs) (h2 : RdS W vz s2) => sMiss_any vq vz qs s2 W h h2)
  have CIN := hidG (fun W (h : RdR W vq qs) (h2 : RdS W vz s2) => iNormal_any vq vz qs s2 W h h2)
  have CSN := hidG (fun W (h : RdR W vq qs) (h2 : RdS W vz s2) => sNormal_any vq vz qs s2 W h h2)
  have HMP := hidG (fun h : misO qs s2 = true => mis_pos h)
  have LN4 := len_nor qs s2
  obtain ⟨mA, hmA⟩ : ∃ m, m = misA qs s2 := ⟨_, rfl⟩
  obtain ⟨mo, hmo⟩ : ∃ m, m = misO qs s2 := ⟨_, rfl⟩
  obtain ⟨nA, hnA⟩ : ∃ m, m = norA qs s2 := ⟨_, rfl⟩
  obtain ⟨no, hno⟩ : ∃ m, m = norO qs s2 := ⟨_, rfl⟩
  rw [← hmA, ← hmo] at CIM CSM HMP
  rw [← hnA, ← hno] at CIN CSN
  rw [← hnA] at LN4
  clear hmA hmo hnA hno
  obtain ⟨m1, m2⟩ := mA
  dsimp only at CIM CSM HMP
  go_wp2_with fail
  refine (CIM.out _ FQ.out FZ.out).mono ?_
  rintro e W4 ⟨rfl, hb⟩
  replace FL := hidG (FL.out.below hb)
  replace OC := hidG (own_below OC.out hb)
  replace FQ := hidG (FQ.out.below hb)
  replace FZ := hidG (FZ.out.below hb)
  replace BB := hidG (BB.out.trans (hb.mono BB.out.size))
  clear hb
  have hb := bG W4 (.cells #[.int .i64 m1, .int .i64 m2] 33)
  obtain ⟨QM9, hQ⟩ : ∃ Q, Q = W4.heap.size := ⟨_, rfl⟩
  have EM9 : Hid (QM9 = W4.heap.size) := hQ
  have M9 : Hid (IsR (W4.alloc (.cells #[.int .i64 m1, .int .i64 m2] 33)) QM9 m1 m2) := by show IsR _ _ _ _; rw [hQ]; exact IsR.new _ _ _
  clear hQ
  replace FL := hidG (FL.out.below hb)
  replace OC := hidG (own_below OC.out hb)
  replace FQ := hidG (FQ.out.below hb)
  replace FZ := hidG (FZ.out.below hb)
  replace BB := hidG (BB.out.trans (hb.mono BB.out.size))
  clear hb
  go_wp2_with fail
  refine (CIN.out _ FQ.out FZ.out).mono ?_
  rintro e W5 ⟨vn, rfl, f1, hb⟩
  have ON := hidG f1
  clear f1
  replace FL := hidG (FL.out.below hb)
  replace OC := hidG (own_below OC.out hb)
  replace FQ := hidG (FQ.out.below hb)
  replace FZ := hidG (FZ.out.below hb)
  replace M9 := hidG (M9.out.below hb)
  replace BB := hidG (BB.out.trans (hb.mono BB.out.size))
  clear hb
  go_wp2_with fail
  refine (dCurveAt_any a len cap zs _ (HR.out.below BB.out)).mono ?_
  rintro e W6 ⟨vg, gs, gp, gq, rfl, f1, hb⟩
  have FG := hidG f1
  clear f1
  replace FL := hidG (FL.out.below hb)
  replace OC := hidG (own_below OC.out hb)
  replace FQ := hidG (FQ.out.below hb)
  replace FZ := hidG (FZ.out.below hb)
  replace M9 := hidG (M9.out.below hb)
  replace ON := hidG (own_below ON.out hb)
  replace BB := hidG (BB.out.trans (hb.mono BB.out.size))
  clear hb
  have CIC := hidG (fun W (h : RdR W vg gs) => iCurveAt_any vg gs (gp, gq) W h)
  have CSC := hidG (fun W (h : RdR W vg gs) => sCurveAt_any vg gs (gp, gq) W h)
  obtain ⟨yA, hyA⟩ : ∃ m, m = crvA gs (gp, gq) := ⟨_, rfl⟩
  obtain ⟨yo, hyo⟩ : ∃ m, m = crvO gs (gp, gq) := ⟨_, rfl⟩
  rw [← hyA, ← hyo] at CIC CSC
  clear hyA hyo
  obtain ⟨y1, y2⟩ := yA
  dsimp only at CIC CSC
  have hb := bG W6 (.cells #[.int .i64 gp, .int .i64 gq] 33)
  obtain ⟨QG14, hQ⟩ : ∃ Q, Q = W6.heap.size := ⟨_, rfl⟩
  have EG14 : Hid (QG14 = W6.heap.size) := hQ
  have G14 : Hid (IsR (W6.alloc (.cells #[.int .i64 gp, .int .i64 gq] 33)) QG14 gp gq) := by show IsR _ _ _ _; rw [hQ]; exact IsR.new _ _ _
  clear hQ
  replace FL := hidG (FL.out.below hb)
  replace OC := hidG (own_below OC.out hb)
  replace FQ := hidG (FQ.out.below hb)
  replace FZ := hidG (FZ.out.below hb)
  replace M9 := hidG (M9.out.below hb)
  replace ON := hidG (own_below ON.out hb)
  replace FG := hidG (FG.out.below hb)
  replace BB := hidG (BB.out.trans (hb.mono BB.out.size))
  clear hb
  have z0 := G14.out.c0
  have z1 := G14.out.c1
  rw [EG14.out] at z0 z1
  go_wp2_with fail
  refine (CIC.out _ FG.out).mono ?_
  rintro e W7 ⟨rfl, hb⟩
  replace FL := hidG (FL.out.below hb)
  replace OC := hidG (own_below OC.out hb)
  replace FQ := hidG (FQ.out.below hb)
  replace FZ := hidG (FZ.out.below hb)
  replace M9 := hidG (M9.out.below hb)
  replace ON := hidG (own_below ON.out hb)
  replace FG := hidG (FG.out.below hb)
  replace G14 := hidG (G14.out.below hb)
  replace BB := hidG (BB.out.trans (hb.mono BB.out.size))
  clear hb
  clear z0 z1
  have hb := bG W7 (.cells #[.int .i64 y1, .int .i64 y2] 33)
  obtain ⟨QY15, hQ⟩ : ∃ Q, Q = W7.heap.size := ⟨_, rfl⟩
  have EY15 : Hid (QY15 = W7.heap.size) := hQ
  have Y15 : Hid (IsR (W7.alloc (.cells #[.int .i64 y1, .int .i64 y2] 33)) QY15 y1 y2) := by show IsR _ _ _ _; rw [hQ]; exact IsR.new _ _ _
  clear hQ
  replace FL := hidG (FL.out.below hb)
  replace OC := hidG (own_below OC.out hb)
  replace FQ := hidG (FQ.out.below hb)
  replace FZ := hidG (FZ.out.below hb)
  replace M9 := hidG (M9.out.below hb)
  replace ON := hidG (own_below ON.out hb)
  replace FG := hidG (FG.out.below hb)
  replace G14 := hidG (G14.out.below hb)
  replace BB := hidG (BB.out.trans (hb.mono BB.out.size))
  clear hb
  go_wp2_with fail
  refine (CSF.out _ FL.out).mono ?_
  rintro e W8 ⟨vx, rfl, f1, hb⟩
  have OX := hidG f1
  clear f1
  replace FL := hidG (FL.out.below hb)
  replace OC := hidG (own_below OC.out hb)
  replace FQ := hidG (FQ.out.below hb)
  replace FZ := hidG (FZ.out.below hb)
  replace M9 := hidG (M9.out.below hb)
  replace ON := hidG (own_below ON.out hb)
  replace FG := hidG (FG.out.below hb)
  replace G14 := hidG (G14.out.below hb)
  replace Y15 := hidG (Y15.out.below hb)
  replace BB := hidG (BB.out.trans (hb.mono BB.out.size))
  clear hb
  have e1 : (o != o) = false := by simp
  have e2 : (sk != sk) = false := by simp
  have e3 : (mo != mo) = false := by simp
  have e4 : (no != no) = false := by simp
  have e5 : (yo != yo) = false := by simp
  go_wp2_with fail
  refine (likeR_same _ _ A A.length _ _ _ rfl (by omega) OC.out OX.out).mono ?_
  rintro e W9 ⟨rfl, hb⟩
  replace FL := hidG (FL.out.below hb)
  replace OC := hidG (own_below OC.out hb)
  replace FQ := hidG (FQ.out.below hb)
  replace FZ := hidG (FZ.out.below hb)
  replace M9 := hidG (M9.out.below hb)
  replace ON := hidG (own_below ON.out hb)
  replace FG := hidG (FG.out.below hb)
  replace G14 := hidG (G14.out.below hb)
  replace Y15 := hidG (Y15.out.below hb)
  replace OX := hidG (own_below OX.out hb)
  replace BB := hidG (BB.out.trans (hb.mono BB.out.size))
  clear hb
  clear OX
  go_wp2_with fail
  refine (CIS.out _ FL.out).mono ?_
  rintro e W10 ⟨rfl, hb⟩
  replace FL := hidG (FL.out.below hb)
  replace OC := hidG (own_below OC.out hb)
  replace FQ := hidG (FQ.out.below hb)
  replace FZ := hidG (FZ.out.below hb)
  replace M9 := hidG (M9.out.below hb)
  replace ON := hidG (own_below ON.out hb)
  replace FG := hidG (FG.out.below hb)
  replace G14 := hidG (G14.out.below hb)
  replace Y15 := hidG (Y15.out.below hb)
  replace BB := hidG (BB.out.trans (hb.mono BB.out.size))
  clear hb
  go_wp2_with fail
  refine (CSS.out _ FL.out).mono ?_
  rintro e W11 ⟨rfl, hb⟩
  replace FL := hidG (FL.out.below hb)
  replace OC := hidG (own_below OC.out hb)
  replace FQ := hidG (FQ.out.below hb)
  replace FZ := hidG (FZ.out.below hb)
  replace M9 := hidG (M9.out.below hb)
  replace ON := hidG (own_below ON.out hb)
  replace FG := hidG (FG.out.below hb)
  replace G14 := hidG (G14.out.below hb)
  replace Y15 := hidG (Y15.out.below hb)
  replace BB := hidG (BB.out.trans (hb.mono BB.out.size))
  clear hb
  go_wp2_with fail
  refine (CSM.out _ FQ.out FZ.out).mono ?_
  rintro e W12 ⟨rfl, hb⟩
  replace FL := hidG (FL.out.below hb)
  replace OC := hidG (own_below OC.out hb)
  replace FQ := hidG (FQ.out.below hb)
  replace FZ := hidG (FZ.out.below hb)
  replace M9 := hidG (M9.out.below hb)
  replace ON := hidG (own_below ON.out hb)
  replace FG := hidG (FG.out.below hb)
  replace G14 := hidG (G14.out.below hb)
  replace Y15 := hidG (Y15.out.below hb)
  replace BB := hidG (BB.out.trans (hb.mono BB.out.size))
  clear hb
  have hb := bG W12 (.cells #[.int .i64 m1, .int .i64 m2] 33)
  obtain ⟨QM19, hQ⟩ : ∃ Q, Q = W12.heap.size := ⟨_, rfl⟩
  have EM19 : Hid (QM19 = W12.heap.size) := hQ
  have M19 : Hid (IsR (W12.alloc (.cells #[.int .i64 m1, .int .i64 m2] 33)) QM19 m1 m2) := by show IsR _ _ _ _; rw [hQ]; exact IsR.new _ _ _
  clear hQ
  replace FL := hidG (FL.out.below hb)
  replace OC := hidG (own_below OC.out hb)
  replace FQ := hidG (FQ.out.below hb)
  replace FZ := hidG (FZ.out.below hb)
  replace M9 := hidG (M9.out.below hb)
  replace ON := hidG (own_below ON.out hb)
  replace FG := hidG (FG.out.below hb)
  replace G14 := hidG (G14.out.below hb)
  replace Y15 := hidG (Y15.out.below hb)
  replace BB := hidG (BB.out.trans (hb.mono BB.out.size))
  clear hb
  have z0 := M9.out.c0
  have z1 := M9.out.c1
  rw [EM9.out] at z0 z1
  have z0a := M19.out.c0
  have z1a := M19.out.c1
  rw [EM19.out] at z0a z1a
  have e6 : (m1 != m1) = false := by simp
  have e7 : (m2 != m2) = false := by simp
  go_wp2_with fail
  refine (CSN.out _ FQ.out FZ.out).mono ?_
  rintro e W13 ⟨vx, rfl, f1, hb⟩
  have OX := hidG f1
  clear f1
  replace FL := hidG (FL.out.below hb)
  replace OC := hidG (own_below OC.out hb)
  replace FQ := hidG (FQ.out.below hb)
  replace FZ := hidG (FZ.out.below hb)
  replace M9 := hidG (M9.out.below hb)
  replace ON := hidG (own_below ON.out hb)
  replace FG := hidG (FG.out.below hb)
  replace G14 := hidG (G14.out.below hb)
  replace Y15 := hidG (Y15.out.below hb)
  replace M19 := hidG (M19.out.below hb)
  replace BB := hidG (BB.out.trans (hb.mono BB.out.size))
  clear hb
  clear z0 z1 z0a z1a M19 EM19
  go_wp2_with fail
  refine (likeR_same _ _ nA nA.length _ _ _ rfl (by omega) ON.out OX.out).mono ?_
  rintro e W14 ⟨rfl, hb⟩
  replace FL := hidG (FL.out.below hb)
  replace OC := hidG (own_below OC.out hb)
  replace FQ := hidG (FQ.out.below hb)
  replace FZ := hidG (FZ.out.below hb)
  replace M9 := hidG (M9.out.below hb)
  replace ON := hidG (own_below ON.out hb)
  replace FG := hidG (FG.out.below hb)
  replace G14 := hidG (G14.out.below hb)
  replace Y15 := hidG (Y15.out.below hb)
  replace OX := hidG (own_below OX.out hb)
  replace BB := hidG (BB.out.trans (hb.mono BB.out.size))
  clear hb
  clear OX ON FQ FZ
  have z0 := G14.out.c0
  have z1 := G14.out.c1
  rw [EG14.out] at z0 z1
  go_wp2_with fail
  refine (CSC.out _ FG.out).mono ?_
  rintro e W15 ⟨rfl, hb⟩
  replace FL := hidG (FL.out.below hb)
  replace OC := hidG (own_below OC.out hb)
  replace M9 := hidG (M9.out.below hb)
  replace FG := hidG (FG.out.below hb)
  replace G14 := hidG (G14.out.below hb)
  replace Y15 := hidG (Y15.out.below hb)
  replace BB := hidG (BB.out.trans (hb.mono BB.out.size))
  clear hb
  clear z0 z1
  have hb := bG W15 (.cells #[.int .i64 y1, .int .i64 y2] 33)
  obtain ⟨QY23, hQ⟩ : ∃ Q, Q = W15.heap.size := ⟨_, rfl⟩
  have EY23 : Hid (QY23 = W15.heap.size) := hQ
  have Y23 : Hid (IsR (W15.alloc (.cells #[.int .i64 y1, .int .i64 y2] 33)) QY23 y1 y2) := by show IsR _ _ _ _; rw [hQ]; exact IsR.new _ _ _
  clear hQ
  replace FL := hidG (FL.out.below hb)
  replace OC := hidG (own_below OC.out hb)
  replace M9 := hidG (M9.out.below hb)
  replace FG := hidG (FG.out.below hb)
  replace G14 := hidG (G14.out.below hb)
  replace Y15 := hidG (Y15.out.below hb)
  replace BB := hidG (BB.out.trans (hb.mono BB.out.size))
  clear hb
  have z0 := Y15.out.c0
  have z1 := Y15.out.c1
  rw [EY15.out] at z0 z1
  have z0a := Y23.out.c0
  have z1a := Y23.out.c1
  rw [EY23.out] at z0a z1a
  have e8 : (y1 != y1) = false := by simp
  have e9 : (y2 != y2) = false := by simp
  go_upto_region 22 with fail
  clear z0 z1 z0a z1a Y15 EY15 Y23 EY23 G14 EG14 FG e8 e9 e1 e2 e3 e4 e5 e6 e7
  obtain ⟨X, hX⟩ : ∃ X, X = W15.alloc (.cells #[.int .i64 y1, .int .i64 y2] 33) := ⟨_, rfl⟩
  rw [← hX] at FL OC M9 BB ⊢
  clear hX
  go_cut [147] (fun s wx => s = .bool false ∧ wx = X)
  case first =>
    have z0 := M9.out.c0
    have z1 := M9.out.c1
    rw [EM9.out] at z0 z1
    cases mo
    · go_wp2_with fail
      go_meet
      case rel => exact ⟨rfl, rfl⟩
    · have hm1 := HMP.out rfl
      have hm2 : ¬ m1 < 0 := by omega
      go_wp2_with fail
      go_meet
      case rel => exact ⟨rfl, rfl⟩
  case rest =>
    obtain ⟨rfl, rfl⟩ := hcut
    clear M9 EM9
    cases o
    · have HAN : Hid (A = []) := NF.out rfl
      have hl0 : A.length = 0 := by rw [HAN.out]; rfl
      rw [hl0] at OC
      go_wp2
      go_ret
      exact ⟨by first | rfl | simp [hl0], BB.out⟩
    have HLN := hidG (LF.out rfl)
    replace HNG := hidG (HNG.out rfl)
    replace HLS := hidG (fun (k : Nat) (t : Fr) => HLS.out k t rfl)
    obtain ⟨N, hN⟩ : ∃ N : Nat, n = (N : Int) := ⟨n.toNat, by have := HLN.out; omega⟩
    subst hN
    have hAN : A.length = N := by have := HLN.out; omega
    have hN1 : 1 ≤ N := by have := HLN.out; omega
    have hN4 : N ≤ 4 := by have := HLN.out; omega
    rw [hAN] at OC ⊢
    have HAL := hidG hAN
    rw [Int.toNat_natCast] at HLS
    obtain ⟨cg, cc', hce⟩ := own_some OC.out (by omega)
    obtain ⟨rfl, hcc⟩ : pc = some ⟨cg, 0, none⟩ ∧ cc = cc' := by injection hce with h1 h2 h3; exact ⟨h1, h3⟩
    clear hce hcc cc' hAN LF NF LA4 CIF CSF CIS CSS
    have RC := hidG (RdR.own OC.out).1
    have CIN2 := hidG (fun W (h : RdR W (.slice (some ⟨cg, 0, none⟩) N cc) A) (h2 : RdS W zl ss) => iNormal_any _ zl A ss W h h2)
    have CIM2 := hidG (fun W (h : RdR W (.slice (some ⟨cg, 0, none⟩) N cc) A) (h2 : RdS W zl ss) => iMiss_any _ zl A ss W h h2)
    have LU4 := len_nor A ss
    have HUL : Hid (norO A ss = true → (norA A ss).length = N) := fun h => by rw [norA_yes h, norV_len, HAL.out]
    obtain ⟨uA, huA⟩ : ∃ m, m = norA A ss := ⟨_, rfl⟩
    obtain ⟨uo, huo⟩ : ∃ m, m = norO A ss := ⟨_, rfl⟩
    rw [← huA, ← huo] at CIN2 HNG HUL
    rw [← huA] at LU4
    clear huA huo
    obtain ⟨lA, hlA⟩ : ∃ m, m = misA A ss := ⟨_, rfl⟩
    obtain ⟨lo, hlo⟩ : ∃ m, m = misO A ss := ⟨_, rfl⟩
    rw [← hlA, ← hlo] at CIM2 HLS
    clear hlA hlo
    obtain ⟨l1, l2⟩ := lA
    dsimp only at CIM2 HLS
    clear CIM CSM CIN CSN HMP LN4 CIC CSC
    go_wp2_with fail
    refine (CIN2.out _ RC.out FL.out).mono ?_
    rintro e W16 ⟨vu, rfl, f1, hb⟩
    have OU := hidG f1
    clear f1
    replace FL := hidG (FL.out.below hb)
    replace OC := hidG (own_below OC.out hb)
    replace RC := hidG (RC.out.below hb)
    replace BB := hidG (BB.out.trans (hb.mono BB.out.size))
    clear hb
    go_upto_region 27 with fail
    go_cut [164] (fun s wx => s = .bool false ∧ Hid (wx.ownsRow W1.heap.size 33 2 (.slice (some ⟨cg, 0, none⟩) N cc) N (cellsR A)) ∧ Hid (RdS wx zl ss) ∧ Hid (Below w.heap.size w wx))
    case first =>
      cases uo
      · go_wp2_with fail
        go_meet
        case rel => exact ⟨rfl, OC.out, FL.out, BB.out⟩
      · have hul := HUL.out rfl
        have HNG2 := hidG (HNG.out rfl)
        have RU := hidG (RdR.own OU.out).1
        go_wp2_with fail
        refine (nought_yes _ uA _ HNG2.out (by omega) (by omega) RU.out).mono ?_
        rintro e WN ⟨rfl, hb⟩
        replace OC := hidG (own_below OC.out hb)
        replace FL := hidG (FL.out.below hb)
        replace BB := hidG (BB.out.trans (hb.mono BB.out.size))
        clear hb
        go_wp2_with fail
        go_meet
        case rel => exact ⟨rfl, OC.out, FL.out, BB.out⟩
    case rest =>
      clear OC FL BB RC OU CIN2 LU4 HUL HNG
      rename_i wc
      obtain ⟨rfl, OC, FL, BB⟩ := hcut
      have RC := hidG (RdR.own OC.out).1
      go_wp2_with fail
      refine (CIM2.out _ RC.out FL.out).mono ?_
      rintro e W17 ⟨rfl, hb⟩
      replace OC := hidG (own_below OC.out hb)
      replace FL := hidG (FL.out.below hb)
      replace RC := hidG (RC.out.below hb)
      replace BB := hidG (BB.out.trans (hb.mono BB.out.size))
      clear hb
      have hb := bG W17 (.cells #[.int .i64 l1, .int .i64 l2] 33)
      obtain ⟨QL27, hQ⟩ : ∃ Q, Q = W17.heap.size := ⟨_, rfl⟩
      have EL27 : Hid (QL27 = W17.heap.size) := hQ
      have L27 : Hid (IsR (W17.alloc (.cells #[.int .i64 l1, .int .i64 l2] 33)) QL27 l1 l2) := by show IsR _ _ _ _; rw [hQ]; exact IsR.new _ _ _
      clear hQ
      replace OC := hidG (own_below OC.out hb)
      replace FL := hidG (FL.out.below hb)
      replace RC := hidG (RC.out.below hb)
      replace BB := hidG (BB.out.trans (hb.mono BB.out.size))
      clear hb
      clear RC CIM2
      have hcg := (OC.out.lt cg rfl).2
      go_wp2
      obtain ⟨X2, hX2⟩ : ∃ X, X = W17.alloc (.cells #[.int .i64 l1, .int .i64 l2] 33) := ⟨_, rfl⟩
      rw [← hX2] at OC FL L27 BB ⊢
      rw [← EL27.out]
      have hQl := L27.out.lt
      clear hX2 hcg EL27
      go_loopw [29] (fun i wr => ∃ j : Nat, j ≤ 4 ∧ i = .int .i64 j ∧ Hid (wr.ownsRow W1.heap.size 33 2 (.slice (some ⟨cg, 0, none⟩) N cc) N (cellsR A)) ∧ Hid (RdS wr zl ss) ∧ Hid (IsR wr QL27 l1 l2) ∧ Hid (Below w.heap.size w wr)) (fun i _ => 4 - (intOf i).toNat)
      case atStart => exact ⟨0, by omega, rfl, OC.out, FL.out, L27.out, BB.out⟩
      case round =>
        clear OC FL L27 BB hQl
        obtain ⟨j, hj, rfl, OC, FL, L27, BB⟩ := hrel
        by_cases hlt : j < 4
        · have hbs := BB.out.size
          have hj4 : (j : Int) < 4 := by omega
          have hc1 : N ≤ cc := by
            rcases OC.out.2 with ⟨h, _⟩ | ⟨g', c', cur, h, _, _, h3, _⟩
            · cases h
            · cases h; exact h3
          have HNW := hidG (news_own OC.out)
          have hsr := L27.out.lt
          have hcl := (OC.out.lt cg rfl).2
          have DN := hidG (news_own (own_below OC.out (bG wr (.cells #[] 33))))
          have NL1 : N + 0 ≤ 900 := by omega
          go_wp2_with (at_builtin; refine wpList_append_own _ rfl _ _ 27 rfl wr.heap.size 33 i0 (.agg #[.int .i64 0, .int .i64 0]) 2 16 Try.underlying27 hi hz0 hz1 hz2 rfl (by decide) _ _ _ rfl (World.ownsRow_lit wr (base := wr.heap.size) (e := 33) (size := 2) #[] 0 (Nat.le_refl _) (Nat.zero_le _) rfl) ⟨cg, 0, none⟩ N cc (cellsR A) rfl (by rw [cellsR_len, HAL.out]) DN.out (cellsR_one _) (by unfold maxLen; omega) (by omega) (by simp) ?_; intro v1 W20 hown1 hgrow1 _)
          replace hown1 : W20.ownsRow wr.heap.size 33 2 v1 N (cellsR A) := (by simpa using hown1)
          have BW := hidG ((bG wr (.cells #[] 33)).grown hgrow1 (by simp) (fun b e => by cases e; exact Nat.le_refl _))
          obtain ⟨dg, dc, rfl⟩ := own_some hown1 (by omega)
          have D := hidG hown1
          have hdg := (hown1.lt dg rfl).1
          have hdl := (hown1.lt dg rfl).2
          clear hown1 hgrow1 DN NL1 HNW
          refine (pick_any a len cap zs (10 + (j : Int)) N _ (HR.out.below (BB.out.trans (BW.out.mono hbs))) hlen (by omega) (by omega) (by omega)).mono ?_
          rintro e W21 ⟨k, rfl, k0, k1, hw⟩
          obtain rfl := hw.symm
          clear hw
          obtain ⟨kn, rfl⟩ : ∃ kn : Nat, k = kn := ⟨k.toNat, by omega⟩
          have hkn : kn < N := by omega
          obtain ⟨x, hx⟩ : ∃ x, x = fr A kn := ⟨_, rfl⟩
          have HX := hidG hx
          obtain ⟨c1, c2⟩ := own_R D.out HAL.out kn hkn
          rw [show A[kn]?.getD (0, 0) = x from hx.symm] at c1 c2
          clear hx
          obtain ⟨x1, x2⟩ := x
          dsimp only at c1 c2
          go_upto_region 35 with fail
          go_cut [32, 33] from 171 to 216 (fun s32 s33 wx => ∃ (T : Nat) (t z : Fr) (zo : Bool), s32 = .pointer (some ⟨T, 0, none⟩) ∧ s33 = .bool zo ∧ T ≠ dg ∧ Hid (z = addP (x1, x2) t ∧ zo = addK (x1, x2) t) ∧ Hid (IsR wx T z.1 z.2) ∧ Hid (wx.ownsRow wr.heap.size 33 2 (.slice (some ⟨dg, 0, none⟩) N dc) N (cellsR A)) ∧ Hid (Below wr.heap.size wr wx))
          case first =>
            refine wp_region_noPanic ?_
            refine wp_region_held_drew (S := (fun w' => w'.cell? ⟨dg, kn * 2, none⟩ = some (.int .i64 x1) ∧ w'.cell? ⟨dg, kn * 2 + 1, none⟩ = some (.int .i64 x2))) (by kernel_rfl) ?_ (fun hHeld => ?_)
            · (try dsimp only)
              refine ⟨?_, ?_⟩ <;> (repeat (with_reducible (first | exact c1 | exact c2 | refine cell_dr ?_ | refine cell_stb ?_ ?_ | refine cell_al _ ?_ | (show _ ≠ _; omega))))
            have hb := (Below.refl W20.heap.size W20).drew
            replace c1 := cell_dr c1
            replace c2 := cell_dr c2
            replace D := hidG (own_below D.out hb)
            replace BW := hidG (BW.out.trans (hb.mono BW.out.size))
            clear hb
            obtain ⟨wd, hwd⟩ : ∃ u, u = W20.drew := ⟨_, rfl⟩
            rw [← hwd] at c1 c2 D BW hHeld ⊢
            clear hwd
            refine wpAnyH_take (i := 0) (v := ?_) rfl (by kernel_rfl) (by kernel_rfl) (by kernel_rfl) (fun _ _ _ h => h) (Or.inl ⟨by kernel_rfl, ?_⟩) hHeld ?_
            rotate_left
            · intro wz hSw; (try dsimp only at hSw); go_simp; all_goals (try with_reducible rfl)
            (try simp only [List.getElem_toArray]); (try simp only [List.getElem_cons_succ]); (try simp only [List.getElem_cons_zero]); (try simp only [Act.put]); (try simp only [List.setIfInBounds_toArray]); (try simp only [List.set_cons_succ]); (try simp only [List.set_cons_zero])
            refine wpAnyH_take (i := 1) (v := ?_) rfl (by kernel_rfl) (by kernel_rfl) (by kernel_rfl) (fun _ _ _ h => h) (Or.inl ⟨by kernel_rfl, ?_⟩) hHeld ?_
            rotate_left
            · intro wz hSw; (try dsimp only at hSw); go_simp; all_goals (try with_reducible rfl)
            (try simp only [List.getElem_toArray]); (try simp only [List.getElem_cons_succ]); (try simp only [List.getElem_cons_zero]); (try simp only [Act.put]); (try simp only [List.setIfInBounds_toArray]); (try simp only [List.set_cons_succ]); (try simp only [List.set_cons_zero])
            refine wpAnyH_take (i := 2) (v := ?_) rfl (by kernel_rfl) (by kernel_rfl) (by kernel_rfl) (fun _ _ _ h => h) (Or.inl ⟨by kernel_rfl, ?_⟩) hHeld ?_
            rotate_left
            · intro wz hSw; (try dsimp only at hSw); go_simp; all_goals (try with_reducible rfl)
            (try simp only [List.getElem_toArray]); (try simp only [List.getElem_cons_succ]); (try simp only [List.getElem_cons_zero]); (try simp only [Act.put]); (try simp only [List.setIfInBounds_toArray]); (try simp only [List.set_cons_succ]); (try simp only [List.set_cons_zero])
            refine wpAnyH_take (i := 3) (v := ?_) rfl (by kernel_rfl) (by kernel_rfl) (by kernel_rfl) (fun _ _ _ h => h) (Or.inl ⟨by kernel_rfl, ?_⟩) hHeld ?_
            rotate_left
            · intro wz hSw; (try dsimp only at hSw); go_simp; all_goals (try with_reducible rfl)
            (try simp only [List.getElem_toArray]); (try simp only [List.getElem_cons_succ]); (try simp only [List.getElem_cons_zero]); (try simp only [Act.put]); (try simp only [List.setIfInBounds_toArray]); (try simp only [List.set_cons_succ]); (try simp only [List.set_cons_zero])
            refine wpAnyH_take (i := 4) (v := ?_) rfl (by kernel_rfl) (by kernel_rfl) (by kernel_rfl) (fun _ _ _ h => h) (Or.inl ⟨by kernel_rfl, ?_⟩) hHeld ?_
            rotate_left
            · intro wz hSw; (try dsimp only at hSw); go_simp; all_goals (try with_reducible rfl)
            (try simp only [List.getElem_toArray]); (try simp only [List.getElem_cons_succ]); (try simp only [List.getElem_cons_zero]); (try simp only [Act.put]); (try simp only [List.setIfInBounds_toArray]); (try simp only [List.set_cons_succ]); (try simp only [List.set_cons_zero])
            refine wpAnyH_take (i := 5) (v := ?_) rfl (by kernel_rfl) (by kernel_rfl) (by kernel_rfl) (fun _ _ _ h => h) (Or.inl ⟨by kernel_rfl, ?_⟩) hHeld ?_
            rotate_left
            · intro wz hSw; (try dsimp only at hSw); go_simp; all_goals (try with_reducible rfl)
            (try simp only [List.getElem_toArray]); (try simp only [List.getElem_cons_succ]); (try simp only [List.getElem_cons_zero]); (try simp only [Act.put]); (try simp only [List.setIfInBounds_toArray]); (try simp only [List.set_cons_succ]); (try simp only [List.set_cons_zero])
            refine wpAnyH_take (i := 6) (v := ?_) rfl (by kernel_rfl) (by kernel_rfl) (by kernel_rfl) (fun _ _ _ h => h) (Or.inl ⟨by kernel_rfl, ?_⟩) hHeld ?_
            rotate_left
            · intro wz hSw; (try dsimp only at hSw); go_simp; all_goals (try with_reducible rfl)
            (try simp only [List.getElem_toArray]); (try simp only [List.getElem_cons_succ]); (try simp only [List.getElem_cons_zero]); (try simp only [Act.put]); (try simp only [List.setIfInBounds_toArray]); (try simp only [List.set_cons_succ]); (try simp only [List.set_cons_zero])
            refine wpAnyH_ready (rs := [7, 12]) (by kernel_rfl) (by simp) (AllReadyH.cons rfl (fun Kc hKc => ?_) (AllReadyH.cons rfl (fun Kc hKc => ?_) AllReadyH.nil))
            ·
              go_simp
              (go_at_call 22; refine (part_any a len cap zs (IntKind.i64.wrap (20 + (j : Int))) _ (HR.out.below (BB.out.trans (BW.out.mono hbs))) hlen (by rw [IntKind.wrap_i64]; omega) (by rw [IntKind.wrap_i64]; omega)).mono ?_; rintro e u1 ⟨t1, t2, rfl, _, _, _, _, _, hb⟩)
              replace c1 := cell_keep hb c1
              replace c2 := cell_keep hb c2
              replace D := hidG (own_below D.out hb)
              replace BW := hidG (BW.out.trans (hb.mono BW.out.size))
              clear hb
              go_wp2_with fail
              refine hKc.out _ _ ?_ (fun hHeld => ?_)
              · (try dsimp only)
                refine ⟨?_, ?_⟩ <;> (repeat (with_reducible (first | exact c1 | exact c2 | refine cell_dr ?_ | refine cell_stb ?_ ?_ | refine cell_al _ ?_ | (show _ ≠ _; omega))))
              clear hKc Kc
              (try simp only [List.getElem_toArray]); (try simp only [List.getElem_cons_succ]); (try simp only [List.getElem_cons_zero]); (try simp only [Act.put]); (try simp only [List.setIfInBounds_toArray]); (try simp only [List.set_cons_succ]); (try simp only [List.set_cons_zero])
              refine wpAnyH_ready (rs := [8, 12]) (by kernel_rfl) (by simp) (AllReadyH.cons rfl (fun Kc hKc => ?_) (AllReadyH.cons rfl (fun Kc hKc => ?_) AllReadyH.nil))
              ·
                have HAD := hidG (fun W => sAddG x1 x2 t1 t2 W)
                obtain ⟨z, hz⟩ : ∃ z, z = addP (x1, x2) (t1, t2) := ⟨_, rfl⟩
                obtain ⟨zo, hzo⟩ : ∃ z, z = addK (x1, x2) (t1, t2) := ⟨_, rfl⟩
                rw [← hz, ← hzo] at HAD
                have HZ := hidG (And.intro hz hzo)
                clear hz hzo
                obtain ⟨z1, z2⟩ := z
                dsimp only at HAD
                go_simp
                (go_at_call 21; refine (HAD.out _).mono ?_; rintro e u2 ⟨rfl, hb⟩)
                replace c1 := cell_keep hb c1
                replace c2 := cell_keep hb c2
                replace D := hidG (own_below D.out hb)
                replace BW := hidG (BW.out.trans (hb.mono BW.out.size))
                clear hb
                go_wp2_with fail
                refine hKc.out _ _ ?_ (fun hHeld => ?_)
                · (try dsimp only)
                  refine ⟨?_, ?_⟩ <;> (repeat (with_reducible (first | exact c1 | exact c2 | refine cell_dr ?_ | refine cell_stb ?_ ?_ | refine cell_al _ ?_ | (show _ ≠ _; omega))))
                clear hKc Kc
                (try simp only [List.getElem_toArray]); (try simp only [List.getElem_cons_succ]); (try simp only [List.getElem_cons_zero]); (try simp only [Act.put]); (try simp only [List.setIfInBounds_toArray]); (try simp only [List.set_cons_succ]); (try simp only [List.set_cons_zero])
                refine wpAnyH_take (i := 9) (v := ?_) rfl (by kernel_rfl) (by kernel_rfl) (by kernel_rfl) (fun _ _ _ h => h) (Or.inl ⟨by kernel_rfl, ?_⟩) hHeld ?_
                rotate_left
                · intro wz hSw; (try dsimp only at hSw); go_simp; all_goals (try with_reducible rfl)
                (try simp only [List.getElem_toArray]); (try simp only [List.getElem_cons_succ]); (try simp only [List.getElem_cons_zero]); (try simp only [Act.put]); (try simp only [List.setIfInBounds_toArray]); (try simp only [List.set_cons_succ]); (try simp only [List.set_cons_zero])
                refine wpAnyH_take (i := 10) (v := ?_) rfl (by kernel_rfl) (by kernel_rfl) (by kernel_rfl) (fun _ _ _ h => h) (Or.inl ⟨by kernel_rfl, ?_⟩) hHeld ?_
                rotate_left
                · intro wz hSw; (try dsimp only at hSw); go_simp; all_goals (try with_reducible rfl)
                (try simp only [List.getElem_toArray]); (try simp only [List.getElem_cons_succ]); (try simp only [List.getElem_cons_zero]); (try simp only [Act.put]); (try simp only [List.setIfInBounds_toArray]); (try simp only [List.set_cons_succ]); (try simp only [List.set_cons_zero])
                refine wpAnyH_take (i := 11) (v := ?_) rfl (by kernel_rfl) (by kernel_rfl) (by kernel_rfl) (fun _ _ _ h => h) (Or.inl ⟨by kernel_rfl, ?_⟩) hHeld ?_
                rotate_left
                · intro wz hSw; (try dsimp only at hSw); go_simp; all_goals (try with_reducible rfl)
                (try simp only [List.getElem_toArray]); (try simp only [List.getElem_cons_succ]); (try simp only [List.getElem_cons_zero]); (try simp only [Act.put]); (try simp only [List.setIfInBounds_toArray]); (try simp only [List.set_cons_succ]); (try simp only [List.set_cons_zero])
                refine wpAnyH_ready (rs := [12]) (by kernel_rfl) (by simp) (AllReadyH.cons rfl (fun Kc hKc => ?_) AllReadyH.nil)
                go_simp
                obtain ⟨Ab, hA'⟩ : ∃ A, A = u2.heap.size := ⟨_, rfl⟩
                obtain ⟨u3, hu⟩ : ∃ u, u = u2.alloc (.cells #[.int .i64 0, .int .i64 0] 33) := ⟨_, rfl⟩
                have hb : Below u2.heap.size u2 u3 := by rw [hu]; exact bG _ _
                have HA : Hid (IsR u3 Ab 0 0) := by show IsR _ _ _ _; rw [hu, hA']; exact IsR.new _ _ _
                have hAw : wr.heap.size ≤ Ab := by rw [hA']; exact BW.out.size
                have hDA := World.block_lt_of_cell? u2 _ c1
                dsimp only at hDA
                rw [← hA'] at hDA
                rw [← hu, ← hA']
                replace c1 := cell_keep hb c1
                replace c2 := cell_keep hb c2
                replace D := hidG (own_below D.out hb)
                replace BW := hidG (BW.out.trans (hb.mono BW.out.size))
                clear hb
                clear hu hA'
                refine hKc.out _ _ ?_ (fun hHeld => ?_)
                · (try dsimp only)
                  refine ⟨?_, ?_⟩ <;> (repeat (with_reducible (first | exact c1 | exact c2 | refine cell_dr ?_ | refine cell_stb ?_ ?_ | refine cell_al _ ?_ | (show _ ≠ _; omega))))
                clear hKc Kc
                (try simp only [List.getElem_toArray]); (try simp only [List.getElem_cons_succ]); (try simp only [List.getElem_cons_zero]); (try simp only [Act.put]); (try simp only [List.setIfInBounds_toArray]); (try simp only [List.set_cons_succ]); (try simp only [List.set_cons_zero])
                have f0 := HA.out.f0
                have f1 := HA.out.f1
                have g0 := HA.out.c0
                have g1 := HA.out.c1
                refine wpAnyH_ready (rs := [13]) (by kernel_rfl) (by simp) (AllReadyH.cons rfl (fun Kc hKc => ?_) AllReadyH.nil)
                go_simp
                refine hKc.out _ _ ?_ (fun hHeld => ?_)
                · (try dsimp only)
                  refine ⟨?_, ?_⟩ <;> (repeat (with_reducible (first | exact c1 | exact c2 | refine cell_dr ?_ | refine cell_stb ?_ ?_ | refine cell_al _ ?_ | (show _ ≠ _; omega))))
                clear hKc Kc
                (try simp only [List.getElem_toArray]); (try simp only [List.getElem_cons_succ]); (try simp only [List.getElem_cons_zero]); (try simp only [Act.put]); (try simp only [List.setIfInBounds_toArray]); (try simp only [List.set_cons_succ]); (try simp only [List.set_cons_zero])
                refine wpAnyH_take (i := 14) (v := ?_) rfl (by kernel_rfl) (by kernel_rfl) (by kernel_rfl) (fun _ _ _ h => h) (Or.inl ⟨by kernel_rfl, ?_⟩) hHeld ?_
                rotate_left
                · intro wz hSw; (try dsimp only at hSw); go_simp; all_goals (try with_reducible rfl)
                (try simp only [List.getElem_toArray]); (try simp only [List.getElem_cons_succ]); (try simp only [List.getElem_cons_zero]); (try simp only [Act.put]); (try simp only [List.setIfInBounds_toArray]); (try simp only [List.set_cons_succ]); (try simp only [List.set_cons_zero])
                refine wpAnyH_done (by kernel_rfl) ?_ _
                refine NoPanic.normal ?_
                go_wp2_with fail
                go_meet
                case rel => exact ⟨Ab, (t1, t2), (z1, z2), zo, rfl, rfl, by omega, HZ.out, (HA.out.set0 z1).set1 z2, own_st (own_st D.out (S := Ab) (fun b e => by cases e; omega) 0 (.int .i64 z1)) (S := Ab) (fun b e => by cases e; omega) 1 (.int .i64 z2), (BW.out.setCell (p := ⟨Ab, 0, none⟩) hAw _).setCell (p := ⟨Ab, 1, none⟩) hAw _⟩
              ·
                go_simp
                obtain ⟨Ab, hA'⟩ : ∃ A, A = u1.heap.size := ⟨_, rfl⟩
                obtain ⟨u4, hu⟩ : ∃ u, u = u1.alloc (.cells #[.int .i64 0, .int .i64 0] 33) := ⟨_, rfl⟩
                have hb : Below u1.heap.size u1 u4 := by rw [hu]; exact bG _ _
                have HA : Hid (IsR u4 Ab 0 0) := by show IsR _ _ _ _; rw [hu, hA']; exact IsR.new _ _ _
                have hAw : wr.heap.size ≤ Ab := by rw [hA']; exact BW.out.size
                have hDA := World.block_lt_of_cell? u1 _ c1
                dsimp only at hDA
                rw [← hA'] at hDA
                rw [← hu, ← hA']
                replace c1 := cell_keep hb c1
                replace c2 := cell_keep hb c2
                replace D := hidG (own_below D.out hb)
                replace BW := hidG (BW.out.trans (hb.mono BW.out.size))
                clear hb
                clear hu hA'
                refine hKc.out _ _ ?_ (fun hHeld => ?_)
                · (try dsimp only)
                  refine ⟨?_, ?_⟩ <;> (repeat (with_reducible (first | exact c1 | exact c2 | refine cell_dr ?_ | refine cell_stb ?_ ?_ | refine cell_al _ ?_ | (show _ ≠ _; omega))))
                clear hKc Kc
                (try simp only [List.getElem_toArray]); (try simp only [List.getElem_cons_succ]); (try simp only [List.getElem_cons_zero]); (try simp only [Act.put]); (try simp only [List.setIfInBounds_toArray]); (try simp only [List.set_cons_succ]); (try simp only [List.set_cons_zero])
                refine wpAnyH_ready (rs := [8]) (by kernel_rfl) (by simp) (AllReadyH.cons rfl (fun Kc hKc => ?_) AllReadyH.nil)
                have HAD := hidG (fun W => sAddG x1 x2 t1 t2 W)
                obtain ⟨z, hz⟩ : ∃ z, z = addP (x1, x2) (t1, t2) := ⟨_, rfl⟩
                obtain ⟨zo, hzo⟩ : ∃ z, z = addK (x1, x2) (t1, t2) := ⟨_, rfl⟩
                rw [← hz, ← hzo] at HAD
                have HZ := hidG (And.intro hz hzo)
                clear hz hzo
                obtain ⟨z1, z2⟩ := z
                dsimp only at HAD
                go_simp
                (go_at_call 21; refine (HAD.out _).mono ?_; rintro e u5 ⟨rfl, hb⟩)
                replace c1 := cell_keep hb c1
                replace c2 := cell_keep hb c2
                replace D := hidG (own_below D.out hb)
                replace HA := hidG (HA.out.below hb)
                replace BW := hidG (BW.out.trans (hb.mono BW.out.size))
                clear hb
                go_wp2_with fail
                refine hKc.out _ _ ?_ (fun hHeld => ?_)
                · (try dsimp only)
                  refine ⟨?_, ?_⟩ <;> (repeat (with_reducible (first | exact c1 | exact c2 | refine cell_dr ?_ | refine cell_stb ?_ ?_ | refine cell_al _ ?_ | (show _ ≠ _; omega))))
                clear hKc Kc
                (try simp only [List.getElem_toArray]); (try simp only [List.getElem_cons_succ]); (try simp only [List.getElem_cons_zero]); (try simp only [Act.put]); (try simp only [List.setIfInBounds_toArray]); (try simp only [List.set_cons_succ]); (try simp only [List.set_cons_zero])
                refine wpAnyH_take (i := 9) (v := ?_) rfl (by kernel_rfl) (by kernel_rfl) (by kernel_rfl) (fun _ _ _ h => h) (Or.inl ⟨by kernel_rfl, ?_⟩) hHeld ?_
                rotate_left
                · intro wz hSw; (try dsimp only at hSw); go_simp; all_goals (try with_reducible rfl)
                (try simp only [List.getElem_toArray]); (try simp only [List.getElem_cons_succ]); (try simp only [List.getElem_cons_zero]); (try simp only [Act.put]); (try simp only [List.setIfInBounds_toArray]); (try simp only [List.set_cons_succ]); (try simp only [List.set_cons_zero])
                refine wpAnyH_take (i := 10) (v := ?_) rfl (by kernel_rfl) (by kernel_rfl) (by kernel_rfl) (fun _ _ _ h => h) (Or.inl ⟨by kernel_rfl, ?_⟩) hHeld ?_
                rotate_left
                · intro wz hSw; (try dsimp only at hSw); go_simp; all_goals (try with_reducible rfl)
                (try simp only [List.getElem_toArray]); (try simp only [List.getElem_cons_succ]); (try simp only [List.getElem_cons_zero]); (try simp only [Act.put]); (try simp only [List.setIfInBounds_toArray]); (try simp only [List.set_cons_succ]); (try simp only [List.set_cons_zero])
                refine wpAnyH_take (i := 11) (v := ?_) rfl (by kernel_rfl) (by kernel_rfl) (by kernel_rfl) (fun _ _ _ h => h) (Or.inl ⟨by kernel_rfl, ?_⟩) hHeld ?_
                rotate_left
                · intro wz hSw; (try dsimp only at hSw); go_simp; all_goals (try with_reducible rfl)
                (try simp only [List.getElem_toArray]); (try simp only [List.getElem_cons_succ]); (try simp only [List.getElem_cons_zero]); (try simp only [Act.put]); (try simp only [List.setIfInBounds_toArray]); (try simp only [List.set_cons_succ]); (try simp only [List.set_cons_zero])
                have f0 := HA.out.f0
                have f1 := HA.out.f1
                have g0 := HA.out.c0
                have g1 := HA.out.c1
                refine wpAnyH_ready (rs := [13]) (by kernel_rfl) (by simp) (AllReadyH.cons rfl (fun Kc hKc => ?_) AllReadyH.nil)
                go_simp
                refine hKc.out _ _ ?_ (fun hHeld => ?_)
                · (try dsimp only)
                  refine ⟨?_, ?_⟩ <;> (repeat (with_reducible (first | exact c1 | exact c2 | refine cell_dr ?_ | refine cell_stb ?_ ?_ | refine cell_al _ ?_ | (show _ ≠ _; omega))))
                clear hKc Kc
                (try simp only [List.getElem_toArray]); (try simp only [List.getElem_cons_succ]); (try simp only [List.getElem_cons_zero]); (try simp only [Act.put]); (try simp only [List.setIfInBounds_toArray]); (try simp only [List.set_cons_succ]); (try simp only [List.set_cons_zero])
                refine wpAnyH_take (i := 14) (v := ?_) rfl (by kernel_rfl) (by kernel_rfl) (by kernel_rfl) (fun _ _ _ h => h) (Or.inl ⟨by kernel_rfl, ?_⟩) hHeld ?_
                rotate_left
                · intro wz hSw; (try dsimp only at hSw); go_simp; all_goals (try with_reducible rfl)
                (try simp only [List.getElem_toArray]); (try simp only [List.getElem_cons_succ]); (try simp only [List.getElem_cons_zero]); (try simp only [Act.put]); (try simp only [List.setIfInBounds_toArray]); (try simp only [List.set_cons_succ]); (try simp only [List.set_cons_zero])
                refine wpAnyH_done (by kernel_rfl) ?_ _
                refine NoPanic.normal ?_
                go_wp2_with fail
                go_meet
                case rel => exact ⟨Ab, (t1, t2), (z1, z2), zo, rfl, rfl, by omega, HZ.out, (HA.out.set0 z1).set1 z2, own_st (own_st D.out (S := Ab) (fun b e => by cases e; omega) 0 (.int .i64 z1)) (S := Ab) (fun b e => by cases e; omega) 1 (.int .i64 z2), (BW.out.setCell (p := ⟨Ab, 0, none⟩) hAw _).setCell (p := ⟨Ab, 1, none⟩) hAw _⟩
            ·
              go_simp
              obtain ⟨Ab, hA'⟩ : ∃ A, A = wd.heap.size := ⟨_, rfl⟩
              obtain ⟨u6, hu⟩ : ∃ u, u = wd.alloc (.cells #[.int .i64 0, .int .i64 0] 33) := ⟨_, rfl⟩
              have hb : Below wd.heap.size wd u6 := by rw [hu]; exact bG _ _
              have HA : Hid (IsR u6 Ab 0 0) := by show IsR _ _ _ _; rw [hu, hA']; exact IsR.new _ _ _
              have hAw : wr.heap.size ≤ Ab := by rw [hA']; exact BW.out.size
              have hDA := World.block_lt_of_cell? wd _ c1
              dsimp only at hDA
              rw [← hA'] at hDA
              rw [← hu, ← hA']
              replace c1 := cell_keep hb c1
              replace c2 := cell_keep hb c2
              replace D := hidG (own_below D.out hb)
              replace BW := hidG (BW.out.trans (hb.mono BW.out.size))
              clear hb
              clear hu hA'
              refine hKc.out _ _ ?_ (fun hHeld => ?_)
              · (try dsimp only)
                refine ⟨?_, ?_⟩ <;> (repeat (with_reducible (first | exact c1 | exact c2 | refine cell_dr ?_ | refine cell_stb ?_ ?_ | refine cell_al _ ?_ | (show _ ≠ _; omega))))
              clear hKc Kc
              (try simp only [List.getElem_toArray]); (try simp only [List.getElem_cons_succ]); (try simp only [List.getElem_cons_zero]); (try simp only [Act.put]); (try simp only [List.setIfInBounds_toArray]); (try simp only [List.set_cons_succ]); (try simp only [List.set_cons_zero])
              refine wpAnyH_ready (rs := [7]) (by kernel_rfl) (by simp) (AllReadyH.cons rfl (fun Kc hKc => ?_) AllReadyH.nil)
              go_simp
              (go_at_call 22; refine (part_any a len cap zs (IntKind.i64.wrap (20 + (j : Int))) _ (HR.out.below (BB.out.trans (BW.out.mono hbs))) hlen (by rw [IntKind.wrap_i64]; omega) (by rw [IntKind.wrap_i64]; omega)).mono ?_; rintro e u7 ⟨t1, t2, rfl, _, _, _, _, _, hb⟩)
              replace c1 := cell_keep hb c1
              replace c2 := cell_keep hb c2
              replace D := hidG (own_below D.out hb)
              replace HA := hidG (HA.out.below hb)
              replace BW := hidG (BW.out.trans (hb.mono BW.out.size))
              clear hb
              go_wp2_with fail
              refine hKc.out _ _ ?_ (fun hHeld => ?_)
              · (try dsimp only)
                refine ⟨?_, ?_⟩ <;> (repeat (with_reducible (first | exact c1 | exact c2 | refine cell_dr ?_ | refine cell_stb ?_ ?_ | refine cell_al _ ?_ | (show _ ≠ _; omega))))
              clear hKc Kc
              (try simp only [List.getElem_toArray]); (try simp only [List.getElem_cons_succ]); (try simp only [List.getElem_cons_zero]); (try simp only [Act.put]); (try simp only [List.setIfInBounds_toArray]); (try simp only [List.set_cons_succ]); (try simp only [List.set_cons_zero])
              refine wpAnyH_ready (rs := [8]) (by kernel_rfl) (by simp) (AllReadyH.cons rfl (fun Kc hKc => ?_) AllReadyH.nil)
              have HAD := hidG (fun W => sAddG x1 x2 t1 t2 W)
              obtain ⟨z, hz⟩ : ∃ z, z = addP (x1, x2) (t1, t2) := ⟨_, rfl⟩
              obtain ⟨zo, hzo⟩ : ∃ z, z = addK (x1, x2) (t1, t2) := ⟨_, rfl⟩
              rw [← hz, ← hzo] at HAD
              have HZ := hidG (And.intro hz hzo)
              clear hz hzo
              obtain ⟨z1, z2⟩ := z
              dsimp only at HAD
              go_simp
              (go_at_call 21; refine (HAD.out _).mono ?_; rintro e u8 ⟨rfl, hb⟩)
              replace c1 := cell_keep hb c1
              replace c2 := cell_keep hb c2
              replace D := hidG (own_below D.out hb)
              replace HA := hidG (HA.out.below hb)
              replace BW := hidG (BW.out.trans (hb.mono BW.out.size))
              clear hb
              go_wp2_with fail
              refine hKc.out _ _ ?_ (fun hHeld => ?_)
              · (try dsimp only)
                refine ⟨?_, ?_⟩ <;> (repeat (with_reducible (first | exact c1 | exact c2 | refine cell_dr ?_ | refine cell_stb ?_ ?_ | refine cell_al _ ?_ | (show _ ≠ _; omega))))
              clear hKc Kc
              (try simp only [List.getElem_toArray]); (try simp only [List.getElem_cons_succ]); (try simp only [List.getElem_cons_zero]); (try simp only [Act.put]); (try simp only [List.setIfInBounds_toArray]); (try simp only [List.set_cons_succ]); (try simp only [List.set_cons_zero])
              refine wpAnyH_take (i := 9) (v := ?_) rfl (by kernel_rfl) (by kernel_rfl) (by kernel_rfl) (fun _ _ _ h => h) (Or.inl ⟨by kernel_rfl, ?_⟩) hHeld ?_
              rotate_left
              · intro wz hSw; (try dsimp only at hSw); go_simp; all_goals (try with_reducible rfl)
              (try simp only [List.getElem_toArray]); (try simp only [List.getElem_cons_succ]); (try simp only [List.getElem_cons_zero]); (try simp only [Act.put]); (try simp only [List.setIfInBounds_toArray]); (try simp only [List.set_cons_succ]); (try simp only [List.set_cons_zero])
              refine wpAnyH_take (i := 10) (v := ?_) rfl (by kernel_rfl) (by kernel_rfl) (by kernel_rfl) (fun _ _ _ h => h) (Or.inl ⟨by kernel_rfl, ?_⟩) hHeld ?_
              rotate_left
              · intro wz hSw; (try dsimp only at hSw); go_simp; all_goals (try with_reducible rfl)
              (try simp only [List.getElem_toArray]); (try simp only [List.getElem_cons_succ]); (try simp only [List.getElem_cons_zero]); (try simp only [Act.put]); (try simp only [List.setIfInBounds_toArray]); (try simp only [List.set_cons_succ]); (try simp only [List.set_cons_zero])
              refine wpAnyH_take (i := 11) (v := ?_) rfl (by kernel_rfl) (by kernel_rfl) (by kernel_rfl) (fun _ _ _ h => h) (Or.inl ⟨by kernel_rfl, ?_⟩) hHeld ?_
              rotate_left
              · intro wz hSw; (try dsimp only at hSw); go_simp; all_goals (try with_reducible rfl)
              (try simp only [List.getElem_toArray]); (try simp only [List.getElem_cons_succ]); (try simp only [List.getElem_cons_zero]); (try simp only [Act.put]); (try simp only [List.setIfInBounds_toArray]); (try simp only [List.set_cons_succ]); (try simp only [List.set_cons_zero])
              have f0 := HA.out.f0
              have f1 := HA.out.f1
              have g0 := HA.out.c0
              have g1 := HA.out.c1
              refine wpAnyH_ready (rs := [13]) (by kernel_rfl) (by simp) (AllReadyH.cons rfl (fun Kc hKc => ?_) AllReadyH.nil)
              go_simp
              refine hKc.out _ _ ?_ (fun hHeld => ?_)
              · (try dsimp only)
                refine ⟨?_, ?_⟩ <;> (repeat (with_reducible (first | exact c1 | exact c2 | refine cell_dr ?_ | refine cell_stb ?_ ?_ | refine cell_al _ ?_ | (show _ ≠ _; omega))))
              clear hKc Kc
              (try simp only [List.getElem_toArray]); (try simp only [List.getElem_cons_succ]); (try simp only [List.getElem_cons_zero]); (try simp only [Act.put]); (try simp only [List.setIfInBounds_toArray]); (try simp only [List.set_cons_succ]); (try simp only [List.set_cons_zero])
              refine wpAnyH_take (i := 14) (v := ?_) rfl (by kernel_rfl) (by kernel_rfl) (by kernel_rfl) (fun _ _ _ h => h) (Or.inl ⟨by kernel_rfl, ?_⟩) hHeld ?_
              rotate_left
              · intro wz hSw; (try dsimp only at hSw); go_simp; all_goals (try with_reducible rfl)
              (try simp only [List.getElem_toArray]); (try simp only [List.getElem_cons_succ]); (try simp only [List.getElem_cons_zero]); (try simp only [Act.put]); (try simp only [List.setIfInBounds_toArray]); (try simp only [List.set_cons_succ]); (try simp only [List.set_cons_zero])
              refine wpAnyH_done (by kernel_rfl) ?_ _
              refine NoPanic.normal ?_
              go_wp2_with fail
              go_meet
              case rel => exact ⟨Ab, (t1, t2), (z1, z2), zo, rfl, rfl, by omega, HZ.out, (HA.out.set0 z1).set1 z2, own_st (own_st D.out (S := Ab) (fun b e => by cases e; omega) 0 (.int .i64 z1)) (S := Ab) (fun b e => by cases e; omega) 1 (.int .i64 z2), (BW.out.setCell (p := ⟨Ab, 0, none⟩) hAw _).setCell (p := ⟨Ab, 1, none⟩) hAw _⟩
          case rest =>
            clear c1 c2 D BW hdl
            rename_i wc2
            obtain ⟨T, t, z, zo, rfl, rfl, hTd, HZ, HT, D, BW⟩ := hcut
            obtain ⟨z1, z2⟩ := z
            dsimp only at HT
            obtain ⟨c1, c2⟩ := own_R D.out HAL.out kn hkn
            generalize (A[kn]?.getD (0, 0)).1 = v1 at c1
            generalize (A[kn]?.getD (0, 0)).2 = v2 at c2
            have f0 := D.out.frozenAt (kn * 2)
            have f1 := D.out.frozenAt (kn * 2 + 1)
            have g0 := HT.out.c0
            have g1 := HT.out.c1
            have D2 := hidG (rowB_set D.out HAL.out kn hkn z1 z2)
            have BW2 := hidG ((BW.out.setCell (p := ⟨dg, kn * 2, none⟩) hdg (.int .i64 z1)).setCell (p := ⟨dg, kn * 2 + 1, none⟩) hdg (.int .i64 z2))
            have CID := hidG (fun W (h : RdR W (.slice (some ⟨dg, 0, none⟩) N dc) (A.set kn (z1, z2))) (h2 : RdS W zl ss) => iMiss_any _ zl _ ss W h h2)
            have HLK : Hid (lo = true → zo = true → misO (A.set kn (z1, z2)) ss = true → lessB (misA (A.set kn (z1, z2)) ss).1 (misA (A.set kn (z1, z2)) ss).2 l1 l2 = false) := by
              intro q1 q2 q3
              have hz := HZ.out.1
              rw [HX.out] at hz
              have hzo := HZ.out.2
              rw [HX.out] at hzo
              rw [hz] at q3 ⊢
              exact HLS.out kn t hkn (by rw [← hzo]; exact q2) q1 q3
            obtain ⟨e1A, he1⟩ : ∃ m, m = misA (A.set kn (z1, z2)) ss := ⟨_, rfl⟩
            obtain ⟨fo, hfo⟩ : ∃ m, m = misO (A.set kn (z1, z2)) ss := ⟨_, rfl⟩
            rw [← he1, ← hfo] at CID HLK
            clear he1 hfo D BW HT HZ
            obtain ⟨e1, e2⟩ := e1A
            dsimp only at CID HLK
            go_wp2_with fail
            refine (CID.out _ (RdR.own D2.out).1 (FL.out.below BW2.out)).mono ?_
            rintro e W23 ⟨rfl, hb⟩
            replace BW2 := hidG (BW2.out.trans (hb.mono BW2.out.size))
            clear hb D2 CID c1 c2 f0 f1 g0 g1
            have hb := bG W23 (.cells #[.int .i64 e1, .int .i64 e2] 33)
            have E34 := hidG (IsR.new W23 e1 e2)
            replace BW2 := hidG (BW2.out.trans (hb.mono BW2.out.size))
            have z0 := E34.out.c0
            have z1' := E34.out.c1
            have z2' := (L27.out.below BW2.out).c0
            have z3' := (L27.out.below BW2.out).c1
            clear hb
            go_upto_region 38 with fail
            go_cut [216] from 171 to 216 (fun s wx => s = .bool false ∧ Hid (Below wr.heap.size wr wx))
            case first =>
              cases lo
              · go_wp2_with fail
                go_meet
                case rel => exact ⟨rfl, BW2.out⟩
              cases zo
              · go_wp2_with fail
                go_meet
                case rel => exact ⟨rfl, BW2.out⟩
              cases fo
              · go_wp2_with fail
                go_meet
                case rel => exact ⟨rfl, BW2.out⟩
              have HLE := hidG (HLK.out rfl rfl rfl)
              have HLL : Hid (∀ W : World, Calls Try.prog 23 #[.agg #[.int .i64 e1, .int .i64 e2], .agg #[.int .i64 l1, .int .i64 l2]] W fun e w' => e = .returned (.bool false) ∧ Below W.heap.size W w') := by
                intro W
                have := iLess_any e1 e2 l1 l2 W
                rw [HLE.out] at this
                exact this
              go_wp2_with fail
              refine (HLL.out _).mono ?_
              rintro e W24 ⟨rfl, hb⟩
              replace BW2 := hidG (BW2.out.trans (hb.mono BW2.out.size))
              clear hb
              go_wp2_with fail
              go_meet
              case rel => exact ⟨rfl, BW2.out⟩
            case rest =>
              clear BW2 E34 z0 z1' z2' z3'
              rename_i wc3
              obtain ⟨rfl, BW3⟩ := hcut
              go_wp2
              go_roundw
              case rel => exact ⟨j + 1, by omega, by go_num, own_below OC.out BW3.out, FL.out.below BW3.out, L27.out.below BW3.out, BB.out.trans (BW3.out.mono hbs)⟩
              case measure => simp [intOf]; omega
        · obtain rfl : j = 4 := by omega
          go_wp2
          go_ret
          exact ⟨by rfl, BB.out⟩
end Go.Proofs.Ythnlcgilmljliaa
