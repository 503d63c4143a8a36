/- The law of joined spreads walked: weights are products, means and variances go with sums, and it is the same both ways. -/
import Derived.Test.YtgboaeokbglgdaaDrawP3
import Derived.Test.YtgboaeokbglgdaaJoinLaw
import Derived.Test.YtgboaeokbglgdaaPtI3
import Derived.Test.YtgboaeokbglgdaaPtI6
import Derived.Test.YtgboaeokbglgdaaPtW6
import Derived.Test.YtgboaeokbglgdaaDrawW4
namespace Go.Proofs.Ytgboaeokbglgdaa
open Go.RowKit Go.Proofs.Ytgboaeokbglgdaa.RM

theorem b0_j (u : World) (o : Obj) : Below u.heap.size u (u.alloc o) := (Below.refl _ _).alloc (Nat.le_refl _) o
theorem sAddJ (x y : Fr) (w : World) :
    Calls Try.prog 17 #[.agg #[.int .i64 x.1, .int .i64 x.2], .agg #[.int .i64 y.1, .int .i64 y.2]] w fun e w' => e = .returned (.tuple #[.agg #[.int .i64 (addP x y).1, .int .i64 (addP x y).2], .bool (addK x y)]) ∧ Below w.heap.size w w' := sAdd_any x.1 x.2 y.1 y.2 w
theorem joi_swap {us vs : List Fr} (h : joiO us vs = true) : joiO vs us = true ∧ joiA vs us = joiA us vs ∧ sprP us ∧ sprP vs ∧ joiA us vs = jnO us vs us.length ∧ sprP (jnO us vs us.length) := by
  have h' := h
  unfold joiO at h'
  simp only [Bool.and_eq_true] at h'
  have ha := sprB_out h'.1
  have hb := sprB_out h'.2.1
  have hc := jn_comm ha hb
  have h2 : joiO vs us = true := by unfold joiO; rw [h'.1, h'.2.1, ← hc, h'.2.2]; rfl
  exact ⟨h2, by rw [joiA_yes h, joiA_yes h2, hc], ha, hb, joiA_yes h, sprB_out h'.2.2⟩
theorem wgt_of {ps : List Fr} (h : sprP ps) : wgtA ps = wtS ps ps.length := if_pos (decide_eq_true h)
theorem rdr_len {W : World} {a : Option Addr} {n c : Nat} {ps : List Fr} (h : RdR W (.slice a n c) ps) : n = ps.length := by
  obtain ⟨_, _, e, _⟩ := h
  cases e; rfl

set_option maxRecDepth 100000 in
set_option maxHeartbeats 16000000 in
theorem lawJoin (a : Option Addr) (len cap : Nat) (zs : List Int) (w : World) (hr : IsRow .u8 w a len cap zs) :
    Calls Try.prog 3 #[.slice a len cap] w fun e w' => e = .returned (.bool true) ∧ Below w.heap.size w w' := by
  have HR := hidW hr
  have HBIG := hidW (fun W => big_any a len cap W)
  by_cases hbig : 4096 < (len : Int)
  · have HBG : Hid (decide (4096 < (len : Int)) = true) := decide_eq_true hbig
    rw [HBG.out] at HBIG
    go_enter Try.func3, Try.ntmps3
    go_wp2_with fail
    refine (HBIG.out _).mono ?_
    rintro e w1 ⟨rfl, rfl⟩
    go_wp2
    go_ret
    exact ⟨rfl, Below.refl _ _⟩
  have HBG : Hid (decide (4096 < (len : Int)) = false) := decide_eq_false hbig
  rw [HBG.out] at HBIG
  clear hr hbig
  go_enter Try.func3, Try.ntmps3
  go_wp2_with fail
  refine (HBIG.out _).mono ?_
  rintro e w0 ⟨rfl, hw⟩
  have hw2 := hw.symm
  subst hw2
  clear hw HBIG HBG
  go_wp2_with fail
  refine (dJoined_any a len cap zs _ HR.out).mono ?_
  rintro e w1 ⟨va, vb, us, vs, rfl, f1, f2, hb⟩
  have BB := hidW hb
  have RU := hidW f1
  have RV := hidW f2
  obtain ⟨pa, na, ca, rfl⟩ : ∃ a n c, va = .slice a n c := by obtain ⟨a, c, rfl, _⟩ := f1; exact ⟨a, _, c, rfl⟩
  obtain ⟨pb, nb, cb, rfl⟩ : ∃ a n c, vb = .slice a n c := by obtain ⟨a, c, rfl, _⟩ := f2; exact ⟨a, _, c, rfl⟩
  clear hb f1 f2 HR
  have CIJ := hidW (fun (W : World) (h1 : RdR W (.slice pa na ca) us) (h2 : RdR W (.slice pb nb cb) vs) => iJoined_any _ _ us vs W h1 h2)
  have CSJ := hidW (fun (W : World) (h1 : RdR W (.slice pa na ca) us) (h2 : RdR W (.slice pb nb cb) vs) => sJoined_any _ _ us vs W h1 h2)
  have CJR := hidW (fun (W : World) (h1 : RdR W (.slice pa na ca) us) (h2 : RdR W (.slice pb nb cb) vs) => iJoined_any _ _ vs us W h2 h1)
  have CIM := hidW (fun (W : World) (h : RdR W (.slice pa na ca) us) => iMean_any _ us W h)
  have CSM := hidW (fun (W : World) (h : RdR W (.slice pa na ca) us) => sMean_any _ us W h)
  have CIV := hidW (fun (W : World) (h : RdR W (.slice pa na ca) us) => iVary_any _ us W h)
  have CSV := hidW (fun (W : World) (h : RdR W (.slice pa na ca) us) => sVary_any _ us W h)
  have CIW := hidW (fun (W : World) (h : RdR W (.slice pa na ca) us) => iWeight_any _ us W h)
  have CSW := hidW (fun (W : World) (h : RdR W (.slice pa na ca) us) => sWgt_any _ us W h)
  have CIS := hidW (fun (W : World) (h : RdR W (.slice pa na ca) us) => iSpr_any _ us W h)
  have CSS := hidW (fun (W : World) (h : RdR W (.slice pa na ca) us) => sSpr_any _ us W h)
  have CBM := hidW (fun (W : World) (h : RdR W (.slice pb nb cb) vs) => iMean_any _ vs W h)
  have CBV := hidW (fun (W : World) (h : RdR W (.slice pb nb cb) vs) => iVary_any _ vs W h)
  have CBW := hidW (fun (W : World) (h : RdR W (.slice pb nb cb) vs) => iWeight_any _ vs W h)
  obtain ⟨J, hJ⟩ : ∃ z, z = joiA us vs := ⟨_, rfl⟩
  obtain ⟨jo, hjo⟩ : ∃ z, z = joiO us vs := ⟨_, rfl⟩
  obtain ⟨⟨m1, m2⟩, hm⟩ : ∃ z, z = menA us := ⟨_, rfl⟩
  obtain ⟨mo, hmo⟩ : ∃ z, z = menO us := ⟨_, rfl⟩
  obtain ⟨⟨v1, v2⟩, hv⟩ : ∃ z, z = vryA us := ⟨_, rfl⟩
  obtain ⟨vo, hvo⟩ : ∃ z, z = vryO us := ⟨_, rfl⟩
  obtain ⟨Ta, hTa⟩ : ∃ z, z = wgtA us := ⟨_, rfl⟩
  obtain ⟨sa, hsa⟩ : ∃ z, z = sprB us := ⟨_, rfl⟩
  have EJ := hidW hJ
  have EJO := hidW hjo
  have EM := hidW hm
  have EMO := hidW hmo
  have EV := hidW hv
  have EVO := hidW hvo
  have ETA := hidW hTa
  rw [← hJ, ← hjo] at CIJ CSJ
  rw [← hm, ← hmo] at CIM CSM
  rw [← hv, ← hvo] at CIV CSV
  rw [← hTa] at CIW CSW
  rw [← hsa] at CIS CSS
  dsimp only at CIM CSM CIV CSV
  have x1 : (jo != jo) = false := by simp
  have x2 : (mo != mo) = false := by simp
  have x3 : (vo != vo) = false := by simp
  have x4 : (Ta != Ta) = false := by simp
  have x5 : (sa != sa) = false := by simp
  clear hJ hjo hm hmo hv hvo hTa hsa
  go_wp2_with fail
  refine (CIJ.out _ RU.out RV.out).mono ?_
  rintro e w2 ⟨vj, rfl, hO, hb⟩
  have RJ := hidW (RdR.ownQ hO).1
  obtain ⟨pj, nj, cj, rfl⟩ : ∃ a n c, vj = .slice a n c := by obtain ⟨a, c, rfl, _⟩ := (RdR.ownQ hO).1; exact ⟨a, _, c, rfl⟩
  clear hO
  replace RU := hidW (RU.out.below hb)
  replace RV := hidW (RV.out.below hb)
  replace BB := hidW (BB.out.trans (hb.mono BB.out.size))
  clear hb
  go_wp2_with fail
  refine (CIM.out _ RU.out).mono ?_
  rintro e w3 ⟨rfl, hb⟩
  replace RU := hidW (RU.out.below hb)
  replace RV := hidW (RV.out.below hb)
  replace RJ := hidW (RJ.out.below hb)
  replace BB := hidW (BB.out.trans (hb.mono BB.out.size))
  clear hb
  have hb := b0_j w3 (.cells #[.int .i64 m1, .int .i64 m2] 30)
  go_upto_region 6 with fail
  obtain ⟨Y3, hY⟩ : ∃ Y, Y = w3.alloc (.cells #[.int .i64 m1, .int .i64 m2] 30) := ⟨_, rfl⟩
  obtain ⟨B7, hF⟩ : ∃ F, F = w3.heap.size := ⟨_, rfl⟩
  have Z7 : Hid (IsR Y3 B7 m1 m2) := by show IsR _ _ _ _; rw [hY, hF]; exact IsR.new _ _ _
  rw [← hY] at hb
  rw [← hY, ← hF]
  clear hY hF
  replace RU := hidW (RU.out.below hb)
  replace RV := hidW (RV.out.below hb)
  replace RJ := hidW (RJ.out.below hb)
  replace BB := hidW (BB.out.trans (hb.mono BB.out.size))
  clear hb
  go_wp2_with fail
  refine (CIV.out _ RU.out).mono ?_
  rintro e w4 ⟨rfl, hb⟩
  replace RU := hidW (RU.out.below hb)
  replace RV := hidW (RV.out.below hb)
  replace RJ := hidW (RJ.out.below hb)
  replace Z7 := hidW (Z7.out.below hb)
  replace BB := hidW (BB.out.trans (hb.mono BB.out.size))
  clear hb
  have hb := b0_j w4 (.cells #[.int .i64 v1, .int .i64 v2] 30)
  go_upto_region 7 with fail
  obtain ⟨Y4, hY⟩ : ∃ Y, Y = w4.alloc (.cells #[.int .i64 v1, .int .i64 v2] 30) := ⟨_, rfl⟩
  obtain ⟨B9, hF⟩ : ∃ F, F = w4.heap.size := ⟨_, rfl⟩
  have Z9 : Hid (IsR Y4 B9 v1 v2) := by show IsR _ _ _ _; rw [hY, hF]; exact IsR.new _ _ _
  rw [← hY] at hb
  rw [← hY, ← hF]
  clear hY hF
  replace RU := hidW (RU.out.below hb)
  replace RV := hidW (RV.out.below hb)
  replace RJ := hidW (RJ.out.below hb)
  replace Z7 := hidW (Z7.out.below hb)
  replace BB := hidW (BB.out.trans (hb.mono BB.out.size))
  clear hb
  go_wp2_with fail
  refine (CSJ.out _ RU.out RV.out).mono ?_
  rintro e w5 ⟨vx, rfl, hO, hb⟩
  have RX := hidW (RdR.ownQ hO).1
  clear hO
  replace RU := hidW (RU.out.below hb)
  replace RV := hidW (RV.out.below hb)
  replace RJ := hidW (RJ.out.below hb)
  replace Z7 := hidW (Z7.out.below hb)
  replace Z9 := hidW (Z9.out.below hb)
  replace BB := hidW (BB.out.trans (hb.mono BB.out.size))
  clear hb
  have CLK := hidW (fun (W : World) (h1 : RdR W (.slice pj nj cj) J) (h2 : RdR W vx J) => likeP_any _ _ J W h1 h2)
  go_wp2_with fail
  refine (CLK.out _ RJ.out RX.out).mono ?_
  rintro e w6 ⟨rfl, hb⟩
  replace RU := hidW (RU.out.below hb)
  replace RV := hidW (RV.out.below hb)
  replace RJ := hidW (RJ.out.below hb)
  replace Z7 := hidW (Z7.out.below hb)
  replace Z9 := hidW (Z9.out.below hb)
  replace RX := hidW (RX.out.below hb)
  replace BB := hidW (BB.out.trans (hb.mono BB.out.size))
  clear hb
  clear RX CLK
  go_wp2_with fail
  refine (CIW.out _ RU.out).mono ?_
  rintro e w7 ⟨rfl, hb⟩
  replace RU := hidW (RU.out.below hb)
  replace RV := hidW (RV.out.below hb)
  replace RJ := hidW (RJ.out.below hb)
  replace Z7 := hidW (Z7.out.below hb)
  replace Z9 := hidW (Z9.out.below hb)
  replace BB := hidW (BB.out.trans (hb.mono BB.out.size))
  clear hb
  go_wp2_with fail
  refine (CSW.out _ RU.out).mono ?_
  rintro e w8 ⟨rfl, hb⟩
  replace RU := hidW (RU.out.below hb)
  replace RV := hidW (RV.out.below hb)
  replace RJ := hidW (RJ.out.below hb)
  replace Z7 := hidW (Z7.out.below hb)
  replace Z9 := hidW (Z9.out.below hb)
  replace BB := hidW (BB.out.trans (hb.mono BB.out.size))
  clear hb
  go_wp2_with fail
  refine (CIS.out _ RU.out).mono ?_
  rintro e w9 ⟨rfl, hb⟩
  replace RU := hidW (RU.out.below hb)
  replace RV := hidW (RV.out.below hb)
  replace RJ := hidW (RJ.out.below hb)
  replace Z7 := hidW (Z7.out.below hb)
  replace Z9 := hidW (Z9.out.below hb)
  replace BB := hidW (BB.out.trans (hb.mono BB.out.size))
  clear hb
  go_wp2_with fail
  refine (CSS.out _ RU.out).mono ?_
  rintro e w10 ⟨rfl, hb⟩
  replace RU := hidW (RU.out.below hb)
  replace RV := hidW (RV.out.below hb)
  replace RJ := hidW (RJ.out.below hb)
  replace Z7 := hidW (Z7.out.below hb)
  replace Z9 := hidW (Z9.out.below hb)
  replace BB := hidW (BB.out.trans (hb.mono BB.out.size))
  clear hb
  go_wp2_with fail
  refine (CSM.out _ RU.out).mono ?_
  rintro e w11 ⟨rfl, hb⟩
  replace RU := hidW (RU.out.below hb)
  replace RV := hidW (RV.out.below hb)
  replace RJ := hidW (RJ.out.below hb)
  replace Z7 := hidW (Z7.out.below hb)
  replace Z9 := hidW (Z9.out.below hb)
  replace BB := hidW (BB.out.trans (hb.mono BB.out.size))
  clear hb
  have hb := b0_j w11 (.cells #[.int .i64 m1, .int .i64 m2] 30)
  go_upto_region 11 with fail
  obtain ⟨Y11, hY⟩ : ∃ Y, Y = w11.alloc (.cells #[.int .i64 m1, .int .i64 m2] 30) := ⟨_, rfl⟩
  obtain ⟨B13, hF⟩ : ∃ F, F = w11.heap.size := ⟨_, rfl⟩
  have Z13 : Hid (IsR Y11 B13 m1 m2) := by show IsR _ _ _ _; rw [hY, hF]; exact IsR.new _ _ _
  rw [← hY] at hb
  rw [← hY, ← hF]
  clear hY hF
  replace RU := hidW (RU.out.below hb)
  replace RV := hidW (RV.out.below hb)
  replace RJ := hidW (RJ.out.below hb)
  replace Z7 := hidW (Z7.out.below hb)
  replace Z9 := hidW (Z9.out.below hb)
  replace BB := hidW (BB.out.trans (hb.mono BB.out.size))
  clear hb
  have z00 := Z7.out.c0
  have z01 := Z7.out.c1
  have z10 := Z13.out.c0
  have z11 := Z13.out.c1
  go_wp2_with fail
  refine (CSV.out _ RU.out).mono ?_
  rintro e w12 ⟨rfl, hb⟩
  replace RU := hidW (RU.out.below hb)
  replace RV := hidW (RV.out.below hb)
  replace RJ := hidW (RJ.out.below hb)
  replace Z7 := hidW (Z7.out.below hb)
  replace Z9 := hidW (Z9.out.below hb)
  replace Z13 := hidW (Z13.out.below hb)
  replace BB := hidW (BB.out.trans (hb.mono BB.out.size))
  clear hb
  clear z00 z01 z10 z11
  clear Z13
  have hb := b0_j w12 (.cells #[.int .i64 v1, .int .i64 v2] 30)
  go_upto_region 14 with fail
  obtain ⟨Y12, hY⟩ : ∃ Y, Y = w12.alloc (.cells #[.int .i64 v1, .int .i64 v2] 30) := ⟨_, rfl⟩
  obtain ⟨B15, hF⟩ : ∃ F, F = w12.heap.size := ⟨_, rfl⟩
  have Z15 : Hid (IsR Y12 B15 v1 v2) := by show IsR _ _ _ _; rw [hY, hF]; exact IsR.new _ _ _
  rw [← hY] at hb
  rw [← hY, ← hF]
  clear hY hF
  replace RU := hidW (RU.out.below hb)
  replace RV := hidW (RV.out.below hb)
  replace RJ := hidW (RJ.out.below hb)
  replace Z7 := hidW (Z7.out.below hb)
  replace Z9 := hidW (Z9.out.below hb)
  replace BB := hidW (BB.out.trans (hb.mono BB.out.size))
  clear hb
  have z00 := Z9.out.c0
  have z01 := Z9.out.c1
  have z10 := Z15.out.c0
  have z11 := Z15.out.c1
  go_upto_region 16 with fail
  clear z00 z01 z10 z11
  clear Z15
  have HVN : Hid (vo = true → 0 ≤ v1) := by intro h; have := vry_nn (by rw [← EVO.out]; exact h); rw [← EV.out] at this; exact this
  have z90 := Z9.out.c0
  have hvn : decide (v1 < 0) = false ∨ vo = false := by
    cases vo
    · exact .inr rfl
    · exact .inl (decide_eq_false (by have := HVN.out rfl; omega))
  have HVC := hidW hvn
  clear hvn
  go_cut [114] (fun s wx => s = .bool false ∧ wx = Y12)
  case first => as_aux_lemma =>
    cases vo
    · go_wp2
      go_meet
      exact ⟨rfl, rfl⟩
    · have d1 : decide (v1 < 0) = false := by rcases HVC.out with h | h; exact h; cases h
      go_wp2
      go_meet
      exact ⟨rfl, rfl⟩
  case rest => as_aux_lemma =>
    obtain ⟨rfl, hwc⟩ := hcut
    subst hwc
    clear z90 HVC
    cases jo
    · have hnj : nj = 0 := by
        have h := rdr_len RJ.out
        rw [EJ.out, joiA_no EJO.out.symm] at h
        exact h
      subst hnj
      go_wp2
      go_ret
      exact ⟨rfl, BB.out⟩
    have hsw := joi_swap EJO.out.symm
    obtain ⟨g1, g2, g3, g4, g5, g6⟩ := hsw
    have GJ : Hid (J = jnO us vs us.length) := by show _ = _; rw [EJ.out, g5]
    have GS : Hid (sprP J) := by show sprP J; rw [GJ.out]; exact g6
    have GB := hidW g1
    have GX : Hid (joiA vs us = J) := by show _ = _; rw [g2, EJ.out]
    have GU := hidW g3
    have GV := hidW g4
    clear g1 g2 g3 g4 g5 g6
    have CJM := hidW (fun (W : World) (h : RdR W (.slice pj nj cj) J) => iMean_any _ J W h)
    have CJV := hidW (fun (W : World) (h : RdR W (.slice pj nj cj) J) => iVary_any _ J W h)
    have CJW := hidW (fun (W : World) (h : RdR W (.slice pj nj cj) J) => iWeight_any _ J W h)
    have CJS := hidW (fun (W : World) (h : RdR W (.slice pj nj cj) J) => iSpr_any _ J W h)
    rw [show sprB J = true from decide_eq_true GS.out] at CJS
    rw [GB.out, GX.out] at CJR
    obtain ⟨⟨n1, n2⟩, hn⟩ : ∃ z, z = menA vs := ⟨_, rfl⟩
    obtain ⟨no, hno⟩ : ∃ z, z = menO vs := ⟨_, rfl⟩
    obtain ⟨⟨u1, u2⟩, hu⟩ : ∃ z, z = vryA vs := ⟨_, rfl⟩
    obtain ⟨uo, huo⟩ : ∃ z, z = vryO vs := ⟨_, rfl⟩
    obtain ⟨⟨j1, j2⟩, hj⟩ : ∃ z, z = menA J := ⟨_, rfl⟩
    obtain ⟨fo, hfo⟩ : ∃ z, z = menO J := ⟨_, rfl⟩
    obtain ⟨⟨k1, k2⟩, hk⟩ : ∃ z, z = vryA J := ⟨_, rfl⟩
    obtain ⟨ko, hko⟩ : ∃ z, z = vryO J := ⟨_, rfl⟩
    obtain ⟨Tb, hTb⟩ : ∃ z, z = wgtA vs := ⟨_, rfl⟩
    obtain ⟨Tj, hTj⟩ : ∃ z, z = wgtA J := ⟨_, rfl⟩
    have CAM := hidW (fun (W : World) => sAddJ (m1, m2) (n1, n2) W)
    have CAV := hidW (fun (W : World) => sAddJ (v1, v2) (u1, u2) W)
    obtain ⟨⟨s1, s2⟩, hs⟩ : ∃ z, z = addP (m1, m2) (n1, n2) := ⟨_, rfl⟩
    obtain ⟨so, hso⟩ : ∃ z, z = addK (m1, m2) (n1, n2) := ⟨_, rfl⟩
    obtain ⟨⟨t1, t2⟩, ht⟩ : ∃ z, z = addP (v1, v2) (u1, u2) := ⟨_, rfl⟩
    obtain ⟨tk, hto⟩ : ∃ z, z = addK (v1, v2) (u1, u2) := ⟨_, rfl⟩
    have HMS : Hid (mo = true → no = true → fo = true → so = true → j1 = s1 ∧ j2 = s2) := by
      intro h1 h2 h3 h4
      have := mean_sum (us := us) (vs := vs) (by rw [← EMO.out]; exact h1) (by rw [← hno]; exact h2) (by rw [← GJ.out, ← hfo]; exact h3) (by rw [← EM.out, ← hn, ← hso]; exact h4)
      rw [← GJ.out, ← hj, ← EM.out, ← hn, ← hs] at this
      cases this; exact ⟨rfl, rfl⟩
    have HVS : Hid (vo = true → uo = true → ko = true → tk = true → k1 = t1 ∧ k2 = t2) := by
      intro h1 h2 h3 h4
      have := vary_sum (us := us) (vs := vs) (by rw [← EVO.out]; exact h1) (by rw [← huo]; exact h2) (by rw [← GJ.out, ← hko]; exact h3) (by rw [← EV.out, ← hu, ← hto]; exact h4)
      rw [← GJ.out, ← hk, ← EV.out, ← hu, ← ht] at this
      cases this; exact ⟨rfl, rfl⟩
    have hTT : Ta * Tb = Tj := by rw [ETA.out, hTb, hTj, wgt_of GU.out, wgt_of GV.out, wgt_of GS.out, GJ.out, jn_wt]
    have hTj6 : 0 ≤ Tj ∧ Tj ≤ 1000000 := by rw [hTj, wgt_of GS.out]; exact ⟨(wtS_in GS.out.2.1).1, GS.out.2.2⟩
    rw [← hn, ← hno] at CBM
    rw [← hu, ← huo] at CBV
    rw [← hj, ← hfo] at CJM
    rw [← hk, ← hko] at CJV
    rw [← hTb] at CBW
    rw [← hTj] at CJW
    rw [← hs, ← hso] at CAM
    rw [← ht, ← hto] at CAV
    dsimp only at CBM CBV CJM CJV CAM CAV
    clear hn hno hu huo hj hfo hk hko hTb hTj hs hso ht hto
    go_wp2_with fail
    refine (CBM.out _ RV.out).mono ?_
    rintro e w13 ⟨rfl, hb⟩
    replace RU := hidW (RU.out.below hb)
    replace RV := hidW (RV.out.below hb)
    replace RJ := hidW (RJ.out.below hb)
    replace Z7 := hidW (Z7.out.below hb)
    replace Z9 := hidW (Z9.out.below hb)
    replace BB := hidW (BB.out.trans (hb.mono BB.out.size))
    clear hb
    have hb := b0_j w13 (.cells #[.int .i64 n1, .int .i64 n2] 30)
    go_upto_region 21 with fail
    obtain ⟨Y13, hY⟩ : ∃ Y, Y = w13.alloc (.cells #[.int .i64 n1, .int .i64 n2] 30) := ⟨_, rfl⟩
    obtain ⟨B17, hF⟩ : ∃ F, F = w13.heap.size := ⟨_, rfl⟩
    have Z17 : Hid (IsR Y13 B17 n1 n2) := by show IsR _ _ _ _; rw [hY, hF]; exact IsR.new _ _ _
    rw [← hY] at hb
    rw [← hY, ← hF]
    clear hY hF
    replace RU := hidW (RU.out.below hb)
    replace RV := hidW (RV.out.below hb)
    replace RJ := hidW (RJ.out.below hb)
    replace Z7 := hidW (Z7.out.below hb)
    replace Z9 := hidW (Z9.out.below hb)
    replace BB := hidW (BB.out.trans (hb.mono BB.out.size))
    clear hb
    go_wp2_with fail
    refine (CBV.out _ RV.out).mono ?_
    rintro e w14 ⟨rfl, hb⟩
    replace RU := hidW (RU.out.below hb)
    replace RV := hidW (RV.out.below hb)
    replace RJ := hidW (RJ.out.below hb)
    replace Z7 := hidW (Z7.out.below hb)
    replace Z9 := hidW (Z9.out.below hb)
    replace Z17 := hidW (Z17.out.below hb)
    replace BB := hidW (BB.out.trans (hb.mono BB.out.size))
    clear hb
    have hb := b0_j w14 (.cells #[.int .i64 u1, .int .i64 u2] 30)
    go_upto_region 22 with fail
    obtain ⟨Y14, hY⟩ : ∃ Y, Y = w14.alloc (.cells #[.int .i64 u1, .int .i64 u2] 30) := ⟨_, rfl⟩
    obtain ⟨B19, hF⟩ : ∃ F, F = w14.heap.size := ⟨_, rfl⟩
    have Z19 : Hid (IsR Y14 B19 u1 u2) := by show IsR _ _ _ _; rw [hY, hF]; exact IsR.new _ _ _
    rw [← hY] at hb
    rw [← hY, ← hF]
    clear hY hF
    replace RU := hidW (RU.out.below hb)
    replace RV := hidW (RV.out.below hb)
    replace RJ := hidW (RJ.out.below hb)
    replace Z7 := hidW (Z7.out.below hb)
    replace Z9 := hidW (Z9.out.below hb)
    replace Z17 := hidW (Z17.out.below hb)
    replace BB := hidW (BB.out.trans (hb.mono BB.out.size))
    clear hb
    go_wp2_with fail
    refine (CJM.out _ RJ.out).mono ?_
    rintro e w15 ⟨rfl, hb⟩
    replace RU := hidW (RU.out.below hb)
    replace RV := hidW (RV.out.below hb)
    replace RJ := hidW (RJ.out.below hb)
    replace Z7 := hidW (Z7.out.below hb)
    replace Z9 := hidW (Z9.out.below hb)
    replace Z17 := hidW (Z17.out.below hb)
    replace Z19 := hidW (Z19.out.below hb)
    replace BB := hidW (BB.out.trans (hb.mono BB.out.size))
    clear hb
    have hb := b0_j w15 (.cells #[.int .i64 j1, .int .i64 j2] 30)
    go_upto_region 23 with fail
    obtain ⟨Y15, hY⟩ : ∃ Y, Y = w15.alloc (.cells #[.int .i64 j1, .int .i64 j2] 30) := ⟨_, rfl⟩
    obtain ⟨B21, hF⟩ : ∃ F, F = w15.heap.size := ⟨_, rfl⟩
    have Z21 : Hid (IsR Y15 B21 j1 j2) := by show IsR _ _ _ _; rw [hY, hF]; exact IsR.new _ _ _
    rw [← hY] at hb
    rw [← hY, ← hF]
    clear hY hF
    replace RU := hidW (RU.out.below hb)
    replace RV := hidW (RV.out.below hb)
    replace RJ := hidW (RJ.out.below hb)
    replace Z7 := hidW (Z7.out.below hb)
    replace Z9 := hidW (Z9.out.below hb)
    replace Z17 := hidW (Z17.out.below hb)
    replace Z19 := hidW (Z19.out.below hb)
    replace BB := hidW (BB.out.trans (hb.mono BB.out.size))
    clear hb
    go_wp2_with fail
    refine (CJV.out _ RJ.out).mono ?_
    rintro e w16 ⟨rfl, hb⟩
    replace RU := hidW (RU.out.below hb)
    replace RV := hidW (RV.out.below hb)
    replace RJ := hidW (RJ.out.below hb)
    replace Z7 := hidW (Z7.out.below hb)
    replace Z9 := hidW (Z9.out.below hb)
    replace Z17 := hidW (Z17.out.below hb)
    replace Z19 := hidW (Z19.out.below hb)
    replace Z21 := hidW (Z21.out.below hb)
    replace BB := hidW (BB.out.trans (hb.mono BB.out.size))
    clear hb
    have hb := b0_j w16 (.cells #[.int .i64 k1, .int .i64 k2] 30)
    go_upto_region 24 with fail
    obtain ⟨Y16, hY⟩ : ∃ Y, Y = w16.alloc (.cells #[.int .i64 k1, .int .i64 k2] 30) := ⟨_, rfl⟩
    obtain ⟨B23, hF⟩ : ∃ F, F = w16.heap.size := ⟨_, rfl⟩
    have Z23 : Hid (IsR Y16 B23 k1 k2) := by show IsR _ _ _ _; rw [hY, hF]; exact IsR.new _ _ _
    rw [← hY] at hb
    rw [← hY, ← hF]
    clear hY hF
    replace RU := hidW (RU.out.below hb)
    replace RV := hidW (RV.out.below hb)
    replace RJ := hidW (RJ.out.below hb)
    replace Z7 := hidW (Z7.out.below hb)
    replace Z9 := hidW (Z9.out.below hb)
    replace Z17 := hidW (Z17.out.below hb)
    replace Z19 := hidW (Z19.out.below hb)
    replace Z21 := hidW (Z21.out.below hb)
    replace BB := hidW (BB.out.trans (hb.mono BB.out.size))
    clear hb
    have z00 := Z7.out.c0
    have z01 := Z7.out.c1
    have z10 := Z17.out.c0
    have z11 := Z17.out.c1
    go_wp2_with fail
    refine (CAM.out _).mono ?_
    rintro e w17 ⟨rfl, hb⟩
    replace RU := hidW (RU.out.below hb)
    replace RV := hidW (RV.out.below hb)
    replace RJ := hidW (RJ.out.below hb)
    replace Z7 := hidW (Z7.out.below hb)
    replace Z9 := hidW (Z9.out.below hb)
    replace Z17 := hidW (Z17.out.below hb)
    replace Z19 := hidW (Z19.out.below hb)
    replace Z21 := hidW (Z21.out.below hb)
    replace Z23 := hidW (Z23.out.below hb)
    replace BB := hidW (BB.out.trans (hb.mono BB.out.size))
    clear hb
    clear z00 z01 z10 z11
    clear Z7 Z17
    have hb := b0_j w17 (.cells #[.int .i64 s1, .int .i64 s2] 30)
    go_upto_region 25 with fail
    obtain ⟨Y17, hY⟩ : ∃ Y, Y = w17.alloc (.cells #[.int .i64 s1, .int .i64 s2] 30) := ⟨_, rfl⟩
    obtain ⟨B25, hF⟩ : ∃ F, F = w17.heap.size := ⟨_, rfl⟩
    have Z25 : Hid (IsR Y17 B25 s1 s2) := by show IsR _ _ _ _; rw [hY, hF]; exact IsR.new _ _ _
    rw [← hY] at hb
    rw [← hY, ← hF]
    clear hY hF
    replace RU := hidW (RU.out.below hb)
    replace RV := hidW (RV.out.below hb)
    replace RJ := hidW (RJ.out.below hb)
    replace Z9 := hidW (Z9.out.below hb)
    replace Z19 := hidW (Z19.out.below hb)
    replace Z21 := hidW (Z21.out.below hb)
    replace Z23 := hidW (Z23.out.below hb)
    replace BB := hidW (BB.out.trans (hb.mono BB.out.size))
    clear hb
    have z00 := Z21.out.c0
    have z01 := Z21.out.c1
    have z10 := Z25.out.c0
    have z11 := Z25.out.c1
    go_cut [160] (fun s wx => s = .bool false ∧ wx = Y17)
    case first => as_aux_lemma =>
      cases mo
      · go_wp2
        go_meet
        exact ⟨rfl, rfl⟩
      cases no
      · go_wp2
        go_meet
        exact ⟨rfl, rfl⟩
      cases fo
      · go_wp2
        go_meet
        exact ⟨rfl, rfl⟩
      cases so
      · go_wp2
        go_meet
        exact ⟨rfl, rfl⟩
      obtain ⟨r1, r2⟩ := HMS.out rfl rfl rfl rfl
      rw [← r1] at z10
      rw [← r2] at z11
      clear r1 r2
      go_wp2
      go_meet
      exact ⟨rfl, rfl⟩
    case rest => as_aux_lemma =>
      obtain ⟨rfl, hwc⟩ := hcut
      subst hwc
      clear z00 z01 z10 z11 Z21 Z25 HMS
      have z00 := Z9.out.c0
      have z01 := Z9.out.c1
      have z10 := Z19.out.c0
      have z11 := Z19.out.c1
      go_wp2_with fail
      refine (CAV.out _).mono ?_
      rintro e w18 ⟨rfl, hb⟩
      replace RU := hidW (RU.out.below hb)
      replace RV := hidW (RV.out.below hb)
      replace RJ := hidW (RJ.out.below hb)
      replace Z9 := hidW (Z9.out.below hb)
      replace Z19 := hidW (Z19.out.below hb)
      replace Z23 := hidW (Z23.out.below hb)
      replace BB := hidW (BB.out.trans (hb.mono BB.out.size))
      clear hb
      clear z00 z01 z10 z11
      clear Z9 Z19
      have hb := b0_j w18 (.cells #[.int .i64 t1, .int .i64 t2] 30)
      go_upto_region 28 with fail
      obtain ⟨Y18, hY⟩ : ∃ Y, Y = w18.alloc (.cells #[.int .i64 t1, .int .i64 t2] 30) := ⟨_, rfl⟩
      obtain ⟨B27, hF⟩ : ∃ F, F = w18.heap.size := ⟨_, rfl⟩
      have Z27 : Hid (IsR Y18 B27 t1 t2) := by show IsR _ _ _ _; rw [hY, hF]; exact IsR.new _ _ _
      rw [← hY] at hb
      rw [← hY, ← hF]
      clear hY hF
      replace RU := hidW (RU.out.below hb)
      replace RV := hidW (RV.out.below hb)
      replace RJ := hidW (RJ.out.below hb)
      replace Z23 := hidW (Z23.out.below hb)
      replace BB := hidW (BB.out.trans (hb.mono BB.out.size))
      clear hb
      have z00 := Z23.out.c0
      have z01 := Z23.out.c1
      have z10 := Z27.out.c0
      have z11 := Z27.out.c1
      go_cut [181] (fun s wx => s = .bool false ∧ wx = Y18)
      case first => as_aux_lemma =>
        cases vo
        · go_wp2
          go_meet
          exact ⟨rfl, rfl⟩
        cases uo
        · go_wp2
          go_meet
          exact ⟨rfl, rfl⟩
        cases ko
        · go_wp2
          go_meet
          exact ⟨rfl, rfl⟩
        cases tk
        · go_wp2
          go_meet
          exact ⟨rfl, rfl⟩
        obtain ⟨r1, r2⟩ := HVS.out rfl rfl rfl rfl
        rw [← r1] at z10
        rw [← r2] at z11
        clear r1 r2
        go_wp2
        go_meet
        exact ⟨rfl, rfl⟩
      case rest => as_aux_lemma =>
        obtain ⟨rfl, hwc⟩ := hcut
        subst hwc
        clear z00 z01 z10 z11 Z23 Z27 HVS
        go_wp2_with fail
        refine (CJR.out _ RU.out RV.out).mono ?_
        rintro e w19 ⟨vy, rfl, hO, hb⟩
        have RY := hidW (RdR.ownQ hO).1
        clear hO
        replace RU := hidW (RU.out.below hb)
        replace RV := hidW (RV.out.below hb)
        replace RJ := hidW (RJ.out.below hb)
        replace BB := hidW (BB.out.trans (hb.mono BB.out.size))
        clear hb
        have CLK := hidW (fun (W : World) (h1 : RdR W vy J) (h2 : RdR W (.slice pj nj cj) J) => likeP_any _ _ J W h1 h2)
        go_wp2_with fail
        refine (CLK.out _ RY.out RJ.out).mono ?_
        rintro e w20 ⟨rfl, hb⟩
        replace RU := hidW (RU.out.below hb)
        replace RV := hidW (RV.out.below hb)
        replace RJ := hidW (RJ.out.below hb)
        replace RY := hidW (RY.out.below hb)
        replace BB := hidW (BB.out.trans (hb.mono BB.out.size))
        clear hb
        clear RY CLK
        go_wp2_with fail
        refine (CJW.out _ RJ.out).mono ?_
        rintro e w21 ⟨rfl, hb⟩
        replace RU := hidW (RU.out.below hb)
        replace RV := hidW (RV.out.below hb)
        replace RJ := hidW (RJ.out.below hb)
        replace BB := hidW (BB.out.trans (hb.mono BB.out.size))
        clear hb
        go_wp2_with fail
        refine (CIW.out _ RU.out).mono ?_
        rintro e w22 ⟨rfl, hb⟩
        replace RU := hidW (RU.out.below hb)
        replace RV := hidW (RV.out.below hb)
        replace RJ := hidW (RJ.out.below hb)
        replace BB := hidW (BB.out.trans (hb.mono BB.out.size))
        clear hb
        go_wp2_with fail
        refine (CBW.out _ RV.out).mono ?_
        rintro e w23 ⟨rfl, hb⟩
        replace RU := hidW (RU.out.below hb)
        replace RV := hidW (RV.out.below hb)
        replace RJ := hidW (RJ.out.below hb)
        replace BB := hidW (BB.out.trans (hb.mono BB.out.size))
        clear hb
        have x6 : (Tj == Tj) = true := by simp
        go_wp2_with fail
        refine (CJS.out _ RJ.out).mono ?_
        rintro e w24 ⟨rfl, hb⟩
        replace RU := hidW (RU.out.below hb)
        replace RV := hidW (RV.out.below hb)
        replace RJ := hidW (RJ.out.below hb)
        replace BB := hidW (BB.out.trans (hb.mono BB.out.size))
        clear hb
        go_wp2
        go_ret
        exact ⟨rfl, BB.out⟩
end Go.Proofs.Ytgboaeokbglgdaa
