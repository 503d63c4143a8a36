/- The law of quantities walked: what is measured is in its unit what it was, sums have one dimension, and products have the product's. -/
import Derived.Test.YtnhefbhiemdhoaaGreatPk3
import Derived.Deep.DeepCutAuto
import Derived.Deep.RegionHeld3
namespace Go.Proofs.YtnhefbhiemdhoaaGreat
open Go.RowKit Go.Proofs.YtnhefbhiemdhoaaGreat.RM

set_option maxRecDepth 100000 in
set_option maxHeartbeats 8000000 in
theorem lawQuantities (a : Option Addr) (len cap : Nat) (zs : List Int) (w : World) (hr : IsRow .u8 w a len cap zs) :
    Calls Tryz.prog 3 #[.slice a len cap] w fun e w' => e = .returned (.bool true) ∧ Below w.heap.size w w' := by
  have HR := hidU hr
  have HBIG := hidU (fun W => big_any a len cap W)
  go_enter Tryz.func3, Tryz.ntmps3
  by_cases hbig : 4096 < (len : Int)
  · have HBG : Hid (decide (4096 < (len : Int)) = true) := decide_eq_true hbig
    rw [HBG.out] at HBIG
    go_wp2_with fail
    refine (HBIG.out _).mono ?_
    rintro e w1 ⟨rfl, rfl⟩
    go_wp2
    go_ret
    exact ⟨rfl, Below.refl _ _⟩
  have HBG : Hid (decide (4096 < (len : Int)) = false) := decide_eq_false hbig
  rw [HBG.out] at HBIG
  clear hr hbig
  go_wp2_with fail
  refine (HBIG.out _).mono ?_
  rintro e w0 ⟨rfl, hw⟩
  have hw2 := hw.symm
  subst hw2
  clear hw
  go_wp2_with fail
  refine (dMeas_any a len cap zs _ HR.out).mono ?_
  rintro e w1 ⟨n, d, s, rfl, hs, hb⟩
  have HB := hidU hb
  have HS := hidU hs
  clear hb hs HBIG HBG
  have HIM := hidU (fun W => iMeasQ n d s W HS.out)
  have HSM := hidU (fun W => sMeasQ n d s W HS.out)
  have HQL := hidU (measI_len (n, d) s.data.toList)
  obtain ⟨⟨q1, q2, qx, q5⟩, hq⟩ : ∃ x, x = measI (n, d) s.data.toList := ⟨_, rfl⟩
  rw [← hq] at HIM HSM HQL
  have HQ := hidU hq.symm
  clear hq
  unfold QuaRd at HIM HSM
  simp only at HIM HSM HQL
  have okq : (q5 != q5) = false := by simp
  have hb := b0_any w1 (.cells #[.int .i64 n, .int .i64 d] 25)
  go_upto_region 4 with fail
  obtain ⟨Y1, hY⟩ : ∃ Y, Y = w1.alloc (.cells #[.int .i64 n, .int .i64 d] 25) := ⟨_, rfl⟩
  obtain ⟨B3, hF⟩ : ∃ F, F = w1.heap.size := ⟨_, rfl⟩
  have K3 : Hid (IsB Y1 B3 #[.int .i64 n, .int .i64 d] 25) := by show IsB _ _ _ _; rw [hY, hF]; exact IsB.new _ _ _
  rw [← hY] at hb
  rw [← hY, ← hF]
  clear hY hF
  replace HB := hidU (HB.out.trans (hb.mono HB.out.size))
  clear hb
  obtain ⟨zz00, zz01⟩ := K3.out.c2
  go_wp2_with fail
  refine (HIM.out _).mono ?_
  rintro e v1 ⟨qva, qvk, qvc, rfl, hv, hb⟩
  clear zz00 zz01
  replace K3 := hidU (K3.out.below hb)
  replace HB := hidU (HB.out.trans (hb.mono HB.out.size))
  clear hb
  have DQ := hidU hv
  clear hv
  have hb := b0_any v1 (.cells #[.int .i64 q1, .int .i64 q2, .slice qva qvk qvc] 30)
  go_upto_region 5 with fail
  obtain ⟨Y2, hY⟩ : ∃ Y, Y = v1.alloc (.cells #[.int .i64 q1, .int .i64 q2, .slice qva qvk qvc] 30) := ⟨_, rfl⟩
  obtain ⟨B5, hF⟩ : ∃ F, F = v1.heap.size := ⟨_, rfl⟩
  have K5 : Hid (IsB Y2 B5 #[.int .i64 q1, .int .i64 q2, .slice qva qvk qvc] 30) := by show IsB _ _ _ _; rw [hY, hF]; exact IsB.new _ _ _
  rw [← hY] at hb
  rw [← hY, ← hF]
  clear hY hF
  replace K3 := hidU (K3.out.below hb)
  replace DQ := hidU (DQ.out.below hb)
  replace HB := hidU (HB.out.trans (hb.mono HB.out.size))
  clear hb
  go_wp2_with fail
  refine (dPlus_any a len cap zs _ (HR.out.below HB.out)).mono ?_
  rintro e v2 ⟨an, ad, bn, bd, av, bv, ax, bx, rfl, hal, hbl, hda, hdb, hb⟩
  replace K3 := hidU (K3.out.below hb)
  replace DQ := hidU (DQ.out.below hb)
  replace K5 := hidU (K5.out.below hb)
  replace HB := hidU (HB.out.trans (hb.mono HB.out.size))
  clear hb
  have DA := hidU hda
  have DB := hidU hdb
  obtain ⟨ava, avc, h1⟩ := hda.shape
  obtain ⟨bva, bvc, h2⟩ := hdb.shape
  obtain ⟨avk, h3⟩ : ∃ k, k = ax.length := ⟨_, rfl⟩
  obtain ⟨bvk, h4⟩ : ∃ k, k = bx.length := ⟨_, rfl⟩
  rw [← h3] at h1
  rw [← h4] at h2
  subst h1 h2
  clear h3 h4 hda hdb hal hbl
  go_upto_region 6 with fail
  have hb := (b0_any v2 (.cells #[.int .i64 an, .int .i64 ad, .slice ava avk avc] 30)).alloc (by simp) (.cells #[.int .i64 bn, .int .i64 bd, .slice bva bvk bvc] 30)
  obtain ⟨Y3, hY⟩ : ∃ Y, Y = (v2.alloc (.cells #[.int .i64 an, .int .i64 ad, .slice ava avk avc] 30)).alloc (.cells #[.int .i64 bn, .int .i64 bd, .slice bva bvk bvc] 30) := ⟨_, rfl⟩
  obtain ⟨B7, hF⟩ : ∃ F, F = v2.heap.size := ⟨_, rfl⟩
  have K7 : Hid (IsB Y3 B7 #[.int .i64 an, .int .i64 ad, .slice ava avk avc] 30) := by show IsB _ _ _ _; rw [hY, hF]; exact (IsB.new _ _ _).below (b0_any _ _)
  have K8 : Hid (IsB Y3 (B7 + 1) #[.int .i64 bn, .int .i64 bd, .slice bva bvk bvc] 30) := by show IsB _ _ _ _; rw [hY, hF]; exact IsB.new2c _ _ _ _
  rw [← hY] at hb
  rw [← hY, ← hF]
  obtain ⟨B8, hG⟩ : ∃ F, F = B7 + 1 := ⟨_, rfl⟩
  rw [← hG] at K8 ⊢
  clear hY hF hG
  replace K3 := hidU (K3.out.below hb)
  replace DQ := hidU (DQ.out.below hb)
  replace K5 := hidU (K5.out.below hb)
  replace DA := hidU (DA.out.below hb)
  replace DB := hidU (DB.out.below hb)
  replace HB := hidU (HB.out.trans (hb.mono HB.out.size))
  clear hb
  have HIP := hidU (fun W h0 h1 => iPlusQ an ad bn bd (.slice ava avk avc) (.slice bva bvk bvc) ax bx W h0 h1)
  have HSP := hidU (fun W h0 h1 => sPlusQ an ad bn bd (.slice ava avk avc) (.slice bva bvk bvc) ax bx W h0 h1)
  have HPL := hidU (plusQ_len an ad ax bn bd bx)
  obtain ⟨⟨s1, s2, sx, s5⟩, hq⟩ : ∃ x, x = plusQ an ad ax bn bd bx := ⟨_, rfl⟩
  rw [← hq] at HIP HSP HPL
  have HQP := hidU hq.symm
  clear hq
  unfold QuaRd at HIP HSP
  simp only at HIP HSP HPL
  have oks : (s5 != s5) = false := by simp
  have HIT := hidU (fun W h0 h1 => iProdQ an ad bn bd (.slice ava avk avc) (.slice bva bvk bvc) ax bx W h0 h1)
  have HST := hidU (fun W h0 h1 => sProdQ an ad bn bd (.slice ava avk avc) (.slice bva bvk bvc) ax bx W h0 h1)
  have HTL := hidU (prodQ_len an ad ax bn bd bx)
  obtain ⟨⟨p1, p2, px, p5⟩, hq⟩ : ∃ x, x = prodQ an ad ax bn bd bx := ⟨_, rfl⟩
  rw [← hq] at HIT HST HTL
  have HQT := hidU hq.symm
  clear hq
  unfold QuaRd at HIT HST
  simp only at HIT HST HTL
  have okp : (p5 != p5) = false := by simp
  obtain ⟨zz00, zz01, zz02⟩ := K7.out.c3
  obtain ⟨zz10, zz11, zz12⟩ := K8.out.c3
  go_wp2_with fail
  refine (HIP.out _ DA.out DB.out).mono ?_
  rintro e v3 ⟨sva, svk, svc, rfl, hv, hb⟩
  clear zz00 zz01 zz02 zz10 zz11 zz12
  replace K3 := hidU (K3.out.below hb)
  replace DQ := hidU (DQ.out.below hb)
  replace K5 := hidU (K5.out.below hb)
  replace DA := hidU (DA.out.below hb)
  replace DB := hidU (DB.out.below hb)
  replace K7 := hidU (K7.out.below hb)
  replace K8 := hidU (K8.out.below hb)
  replace HB := hidU (HB.out.trans (hb.mono HB.out.size))
  clear hb
  have DS := hidU hv
  clear hv
  have hb := b0_any v3 (.cells #[.int .i64 s1, .int .i64 s2, .slice sva svk svc] 30)
  go_upto_region 7 with fail
  obtain ⟨Y4, hY⟩ : ∃ Y, Y = v3.alloc (.cells #[.int .i64 s1, .int .i64 s2, .slice sva svk svc] 30) := ⟨_, rfl⟩
  obtain ⟨B9, hF⟩ : ∃ F, F = v3.heap.size := ⟨_, rfl⟩
  have K9 : Hid (IsB Y4 B9 #[.int .i64 s1, .int .i64 s2, .slice sva svk svc] 30) := by show IsB _ _ _ _; rw [hY, hF]; exact IsB.new _ _ _
  rw [← hY] at hb
  rw [← hY, ← hF]
  clear hY hF
  replace K3 := hidU (K3.out.below hb)
  replace DQ := hidU (DQ.out.below hb)
  replace K5 := hidU (K5.out.below hb)
  replace DA := hidU (DA.out.below hb)
  replace DB := hidU (DB.out.below hb)
  replace K7 := hidU (K7.out.below hb)
  replace K8 := hidU (K8.out.below hb)
  replace DS := hidU (DS.out.below hb)
  replace HB := hidU (HB.out.trans (hb.mono HB.out.size))
  clear hb
  obtain ⟨zz00, zz01, zz02⟩ := K7.out.c3
  obtain ⟨zz10, zz11, zz12⟩ := K8.out.c3
  go_wp2_with fail
  refine (HIT.out _ DA.out DB.out).mono ?_
  rintro e v4 ⟨pva, pvk, pvc, rfl, hv, hb⟩
  clear zz00 zz01 zz02 zz10 zz11 zz12
  replace K3 := hidU (K3.out.below hb)
  replace DQ := hidU (DQ.out.below hb)
  replace K5 := hidU (K5.out.below hb)
  replace DA := hidU (DA.out.below hb)
  replace DB := hidU (DB.out.below hb)
  replace K7 := hidU (K7.out.below hb)
  replace K8 := hidU (K8.out.below hb)
  replace DS := hidU (DS.out.below hb)
  replace K9 := hidU (K9.out.below hb)
  replace HB := hidU (HB.out.trans (hb.mono HB.out.size))
  clear hb
  have DP := hidU hv
  clear hv
  have hb := b0_any v4 (.cells #[.int .i64 p1, .int .i64 p2, .slice pva pvk pvc] 30)
  go_upto_region 8 with fail
  obtain ⟨Y5, hY⟩ : ∃ Y, Y = v4.alloc (.cells #[.int .i64 p1, .int .i64 p2, .slice pva pvk pvc] 30) := ⟨_, rfl⟩
  obtain ⟨B11, hF⟩ : ∃ F, F = v4.heap.size := ⟨_, rfl⟩
  have K11 : Hid (IsB Y5 B11 #[.int .i64 p1, .int .i64 p2, .slice pva pvk pvc] 30) := by show IsB _ _ _ _; rw [hY, hF]; exact IsB.new _ _ _
  rw [← hY] at hb
  rw [← hY, ← hF]
  clear hY hF
  replace K3 := hidU (K3.out.below hb)
  replace DQ := hidU (DQ.out.below hb)
  replace K5 := hidU (K5.out.below hb)
  replace DA := hidU (DA.out.below hb)
  replace DB := hidU (DB.out.below hb)
  replace K7 := hidU (K7.out.below hb)
  replace K8 := hidU (K8.out.below hb)
  replace DS := hidU (DS.out.below hb)
  replace K9 := hidU (K9.out.below hb)
  replace DP := hidU (DP.out.below hb)
  replace HB := hidU (HB.out.trans (hb.mono HB.out.size))
  clear hb
  go_wp2_with fail
  refine (dIn_any a len cap zs _ (HR.out.below HB.out)).mono ?_
  rintro e v5 ⟨cn, cd, cv, cx, t, rfl, hcl, hdc, ht, hb⟩
  replace K3 := hidU (K3.out.below hb)
  replace DQ := hidU (DQ.out.below hb)
  replace K5 := hidU (K5.out.below hb)
  replace DA := hidU (DA.out.below hb)
  replace DB := hidU (DB.out.below hb)
  replace K7 := hidU (K7.out.below hb)
  replace K8 := hidU (K8.out.below hb)
  replace DS := hidU (DS.out.below hb)
  replace K9 := hidU (K9.out.below hb)
  replace DP := hidU (DP.out.below hb)
  replace K11 := hidU (K11.out.below hb)
  replace HB := hidU (HB.out.trans (hb.mono HB.out.size))
  clear hb
  have HT := hidU ht
  have DC := hidU hdc
  obtain ⟨cva, cvc, h1⟩ := hdc.shape
  obtain ⟨cvk, h3⟩ : ∃ k, k = cx.length := ⟨_, rfl⟩
  rw [← h3] at h1
  subst h1
  clear h3 hdc hcl ht
  have HII := hidU (fun W h0 => iIn_any cn cd (.slice cva cvk cvc) cx t W h0 (HT.out.small (by decide)) HT.out.lt)
  have HSI := hidU (fun W h0 => sInL cn cd (.slice cva cvk cvc) cx t W h0 HT.out (by decide))
  obtain ⟨⟨i1, i2, i5⟩, hq⟩ : ∃ x, x = inI (cn, cd) cx t.data.toList := ⟨_, rfl⟩
  rw [← hq] at HII HSI
  clear hq
  simp only at HII HSI
  have oki : (i5 != i5) = false := by simp
  have hb := b0_any v5 (.cells #[.int .i64 cn, .int .i64 cd, .slice cva cvk cvc] 30)
  go_upto_region 9 with fail
  obtain ⟨Y6, hY⟩ : ∃ Y, Y = v5.alloc (.cells #[.int .i64 cn, .int .i64 cd, .slice cva cvk cvc] 30) := ⟨_, rfl⟩
  obtain ⟨B13, hF⟩ : ∃ F, F = v5.heap.size := ⟨_, rfl⟩
  have K13 : Hid (IsB Y6 B13 #[.int .i64 cn, .int .i64 cd, .slice cva cvk cvc] 30) := by show IsB _ _ _ _; rw [hY, hF]; exact IsB.new _ _ _
  rw [← hY] at hb
  rw [← hY, ← hF]
  clear hY hF
  replace K3 := hidU (K3.out.below hb)
  replace DQ := hidU (DQ.out.below hb)
  replace K5 := hidU (K5.out.below hb)
  replace DA := hidU (DA.out.below hb)
  replace DB := hidU (DB.out.below hb)
  replace K7 := hidU (K7.out.below hb)
  replace K8 := hidU (K8.out.below hb)
  replace DS := hidU (DS.out.below hb)
  replace K9 := hidU (K9.out.below hb)
  replace DP := hidU (DP.out.below hb)
  replace K11 := hidU (K11.out.below hb)
  replace DC := hidU (DC.out.below hb)
  replace HB := hidU (HB.out.trans (hb.mono HB.out.size))
  clear hb
  obtain ⟨zz00, zz01, zz02⟩ := K13.out.c3
  go_wp2_with fail
  refine (HII.out _ DC.out).mono ?_
  rintro e v6 ⟨rfl, hb⟩
  clear zz00 zz01 zz02
  replace K3 := hidU (K3.out.below hb)
  replace DQ := hidU (DQ.out.below hb)
  replace K5 := hidU (K5.out.below hb)
  replace DA := hidU (DA.out.below hb)
  replace DB := hidU (DB.out.below hb)
  replace K7 := hidU (K7.out.below hb)
  replace K8 := hidU (K8.out.below hb)
  replace DS := hidU (DS.out.below hb)
  replace K9 := hidU (K9.out.below hb)
  replace DP := hidU (DP.out.below hb)
  replace K11 := hidU (K11.out.below hb)
  replace DC := hidU (DC.out.below hb)
  replace K13 := hidU (K13.out.below hb)
  replace HB := hidU (HB.out.trans (hb.mono HB.out.size))
  clear hb
  have hb := b0_any v6 (.cells #[.int .i64 i1, .int .i64 i2] 25)
  go_upto_region 10 with fail
  obtain ⟨Y7, hY⟩ : ∃ Y, Y = v6.alloc (.cells #[.int .i64 i1, .int .i64 i2] 25) := ⟨_, rfl⟩
  obtain ⟨B15, hF⟩ : ∃ F, F = v6.heap.size := ⟨_, rfl⟩
  have K15 : Hid (IsB Y7 B15 #[.int .i64 i1, .int .i64 i2] 25) := by show IsB _ _ _ _; rw [hY, hF]; exact IsB.new _ _ _
  rw [← hY] at hb
  rw [← hY, ← hF]
  clear hY hF
  replace K3 := hidU (K3.out.below hb)
  replace DQ := hidU (DQ.out.below hb)
  replace K5 := hidU (K5.out.below hb)
  replace DA := hidU (DA.out.below hb)
  replace DB := hidU (DB.out.below hb)
  replace K7 := hidU (K7.out.below hb)
  replace K8 := hidU (K8.out.below hb)
  replace DS := hidU (DS.out.below hb)
  replace K9 := hidU (K9.out.below hb)
  replace DP := hidU (DP.out.below hb)
  replace K11 := hidU (K11.out.below hb)
  replace DC := hidU (DC.out.below hb)
  replace K13 := hidU (K13.out.below hb)
  replace HB := hidU (HB.out.trans (hb.mono HB.out.size))
  clear hb
  obtain ⟨zz00, zz01⟩ := K3.out.c2
  go_wp2_with fail
  refine (HSM.out _).mono ?_
  rintro e v7 ⟨xva, xvk, xvc, rfl, hv, hb⟩
  clear zz00 zz01
  replace K3 := hidU (K3.out.below hb)
  replace DQ := hidU (DQ.out.below hb)
  replace K5 := hidU (K5.out.below hb)
  replace DA := hidU (DA.out.below hb)
  replace DB := hidU (DB.out.below hb)
  replace K7 := hidU (K7.out.below hb)
  replace K8 := hidU (K8.out.below hb)
  replace DS := hidU (DS.out.below hb)
  replace K9 := hidU (K9.out.below hb)
  replace DP := hidU (DP.out.below hb)
  replace K11 := hidU (K11.out.below hb)
  replace DC := hidU (DC.out.below hb)
  replace K13 := hidU (K13.out.below hb)
  replace K15 := hidU (K15.out.below hb)
  replace HB := hidU (HB.out.trans (hb.mono HB.out.size))
  clear hb
  have DX := hidU hv
  clear hv
  have hb := b0_any v7 (.cells #[.int .i64 q1, .int .i64 q2, .slice xva xvk xvc] 30)
  go_upto_region 11 with fail
  obtain ⟨Y8, hY⟩ : ∃ Y, Y = v7.alloc (.cells #[.int .i64 q1, .int .i64 q2, .slice xva xvk xvc] 30) := ⟨_, rfl⟩
  obtain ⟨B17, hF⟩ : ∃ F, F = v7.heap.size := ⟨_, rfl⟩
  have K17 : Hid (IsB Y8 B17 #[.int .i64 q1, .int .i64 q2, .slice xva xvk xvc] 30) := by show IsB _ _ _ _; rw [hY, hF]; exact IsB.new _ _ _
  rw [← hY] at hb
  rw [← hY, ← hF]
  clear hY hF
  replace K3 := hidU (K3.out.below hb)
  replace DQ := hidU (DQ.out.below hb)
  replace K5 := hidU (K5.out.below hb)
  replace DA := hidU (DA.out.below hb)
  replace DB := hidU (DB.out.below hb)
  replace K7 := hidU (K7.out.below hb)
  replace K8 := hidU (K8.out.below hb)
  replace DS := hidU (DS.out.below hb)
  replace K9 := hidU (K9.out.below hb)
  replace DP := hidU (DP.out.below hb)
  replace K11 := hidU (K11.out.below hb)
  replace DC := hidU (DC.out.below hb)
  replace K13 := hidU (K13.out.below hb)
  replace K15 := hidU (K15.out.below hb)
  replace DX := hidU (DX.out.below hb)
  replace HB := hidU (HB.out.trans (hb.mono HB.out.size))
  clear hb
  have HO1 := hidU (fun W h0 => iQuaOk_any an ad (.slice ava avk avc) ax W h0)
  have HO2 := hidU (fun W h0 => sQuaOk_any an ad (.slice ava avk avc) ax W h0)
  obtain ⟨ao, h6⟩ : ∃ x, x = quaB an ad ax := ⟨_, rfl⟩
  rw [← h6] at HO1 HO2
  have oka : (ao != ao) = false := by simp
  clear h6
  have hb := (Below.refl Y8.heap.size Y8).drew
  replace K3 := hidU (K3.out.below hb)
  replace DQ := hidU (DQ.out.below hb)
  replace K5 := hidU (K5.out.below hb)
  replace DA := hidU (DA.out.below hb)
  replace DB := hidU (DB.out.below hb)
  replace K7 := hidU (K7.out.below hb)
  replace K8 := hidU (K8.out.below hb)
  replace DS := hidU (DS.out.below hb)
  replace K9 := hidU (K9.out.below hb)
  replace DP := hidU (DP.out.below hb)
  replace K11 := hidU (K11.out.below hb)
  replace DC := hidU (DC.out.below hb)
  replace K13 := hidU (K13.out.below hb)
  replace K15 := hidU (K15.out.below hb)
  replace DX := hidU (DX.out.below hb)
  replace K17 := hidU (K17.out.below hb)
  replace HB := hidU (HB.out.trans (hb.mono HB.out.size))
  clear hb
  refine wp_region_noPanic ?_
  refine wp_region_held_drew (S := fun W => IsB W B5 #[.int .i64 q1, .int .i64 q2, .slice qva qvk qvc] 30 ∧ IsB W B17 #[.int .i64 q1, .int .i64 q2, .slice xva xvk xvc] 30 ∧ IsB W B7 #[.int .i64 an, .int .i64 ad, .slice ava avk avc] 30) (by kernel_rfl) ⟨K5.out, K17.out, K7.out⟩ (fun hHeld => ?_)
  obtain ⟨wd1, hwd⟩ : ∃ u, u = Y8.drew := ⟨_, rfl⟩
  rw [← hwd] at K3 DQ K5 DA DB K7 K8 DS K9 DP K11 DC K13 K15 DX K17 HB hHeld ⊢
  clear hwd
  refine wpAnyH_take (i := 0) (v := ?_) rfl (by kernel_rfl) (by kernel_rfl) (by kernel_rfl) (fun _ _ _ h => h) (Or.inl ⟨by kernel_rfl, ?_⟩) hHeld ?_
  rotate_left
  · intro wz hSw; obtain ⟨hS0, hS1, hS2⟩ := hSw; obtain ⟨p0_0, p0_1, p0_2⟩ := hS0.c3; obtain ⟨p1_0, p1_1, p1_2⟩ := hS1.c3; obtain ⟨p2_0, p2_1, p2_2⟩ := hS2.c3; clear hS0 hS1 hS2; go_simp; all_goals (try with_reducible rfl)
  (try simp only [List.getElem_toArray]); (try simp only [List.getElem_cons_succ]); (try simp only [List.getElem_cons_zero]); (try simp only [Act.put]); (try simp only [List.setIfInBounds_toArray]); (try simp only [List.set_cons_succ]); (try simp only [List.set_cons_zero])
  refine wpAnyH_take (i := 1) (v := ?_) rfl (by kernel_rfl) (by kernel_rfl) (by kernel_rfl) (fun _ _ _ h => h) (Or.inl ⟨by kernel_rfl, ?_⟩) hHeld ?_
  rotate_left
  · intro wz hSw; obtain ⟨hS0, hS1, hS2⟩ := hSw; obtain ⟨p0_0, p0_1, p0_2⟩ := hS0.c3; obtain ⟨p1_0, p1_1, p1_2⟩ := hS1.c3; obtain ⟨p2_0, p2_1, p2_2⟩ := hS2.c3; clear hS0 hS1 hS2; go_simp; all_goals (try with_reducible rfl)
  (try simp only [List.getElem_toArray]); (try simp only [List.getElem_cons_succ]); (try simp only [List.getElem_cons_zero]); (try simp only [Act.put]); (try simp only [List.setIfInBounds_toArray]); (try simp only [List.set_cons_succ]); (try simp only [List.set_cons_zero])
  refine wpAnyH_take (i := 2) (v := .bool false) rfl (by kernel_rfl) (by kernel_rfl) (by kernel_rfl) (fun _ _ _ h => h) (Or.inl ⟨by kernel_rfl, ?_⟩) hHeld ?_
  skip
  · intro wz hSw; obtain ⟨hS0, hS1, hS2⟩ := hSw; obtain ⟨p0_0, p0_1, p0_2⟩ := hS0.c3; obtain ⟨p1_0, p1_1, p1_2⟩ := hS1.c3; obtain ⟨p2_0, p2_1, p2_2⟩ := hS2.c3; clear hS0 hS1 hS2; go_simp; all_goals (try with_reducible rfl)
  (try simp only [List.getElem_toArray]); (try simp only [List.getElem_cons_succ]); (try simp only [List.getElem_cons_zero]); (try simp only [Act.put]); (try simp only [List.setIfInBounds_toArray]); (try simp only [List.set_cons_succ]); (try simp only [List.set_cons_zero])
  refine wpAnyH_take (i := 3) (v := .bool false) rfl (by kernel_rfl) (by kernel_rfl) (by kernel_rfl) (fun _ _ _ h => h) (Or.inl ⟨by kernel_rfl, ?_⟩) hHeld ?_
  skip
  · intro wz hSw; obtain ⟨hS0, hS1, hS2⟩ := hSw; obtain ⟨p0_0, p0_1, p0_2⟩ := hS0.c3; obtain ⟨p1_0, p1_1, p1_2⟩ := hS1.c3; obtain ⟨p2_0, p2_1, p2_2⟩ := hS2.c3; clear hS0 hS1 hS2; go_simp; all_goals (try with_reducible rfl)
  (try simp only [List.getElem_toArray]); (try simp only [List.getElem_cons_succ]); (try simp only [List.getElem_cons_zero]); (try simp only [Act.put]); (try simp only [List.setIfInBounds_toArray]); (try simp only [List.set_cons_succ]); (try simp only [List.set_cons_zero])
  refine wpAnyH_take (i := 4) (v := ?_) rfl (by kernel_rfl) (by kernel_rfl) (by kernel_rfl) (fun _ _ _ h => h) (Or.inl ⟨by kernel_rfl, ?_⟩) hHeld ?_
  rotate_left
  · intro wz hSw; obtain ⟨hS0, hS1, hS2⟩ := hSw; obtain ⟨p0_0, p0_1, p0_2⟩ := hS0.c3; obtain ⟨p1_0, p1_1, p1_2⟩ := hS1.c3; obtain ⟨p2_0, p2_1, p2_2⟩ := hS2.c3; clear hS0 hS1 hS2; go_simp; all_goals (try with_reducible rfl)
  (try simp only [List.getElem_toArray]); (try simp only [List.getElem_cons_succ]); (try simp only [List.getElem_cons_zero]); (try simp only [Act.put]); (try simp only [List.setIfInBounds_toArray]); (try simp only [List.set_cons_succ]); (try simp only [List.set_cons_zero])
  refine wpAnyH_take (i := 5) (v := ?_) rfl (by kernel_rfl) (by kernel_rfl) (by kernel_rfl) (fun _ _ _ h => h) (Or.inl ⟨by kernel_rfl, ?_⟩) hHeld ?_
  rotate_left
  · intro wz hSw; obtain ⟨hS0, hS1, hS2⟩ := hSw; obtain ⟨p0_0, p0_1, p0_2⟩ := hS0.c3; obtain ⟨p1_0, p1_1, p1_2⟩ := hS1.c3; obtain ⟨p2_0, p2_1, p2_2⟩ := hS2.c3; clear hS0 hS1 hS2; go_simp; all_goals (try with_reducible rfl)
  (try simp only [List.getElem_toArray]); (try simp only [List.getElem_cons_succ]); (try simp only [List.getElem_cons_zero]); (try simp only [Act.put]); (try simp only [List.setIfInBounds_toArray]); (try simp only [List.set_cons_succ]); (try simp only [List.set_cons_zero])
  refine wpAnyH_ready (rs := [6]) (by kernel_rfl) (by simp) (AllReadyH.cons rfl (fun Kc hKc => ?_) AllReadyH.nil)
  go_simp
  refine (likeQua q1 q2 _ _ qx _ HQL.out DQ.out DX.out).mono ?_
  rintro e r6 ⟨rfl, hb⟩
  replace K3 := hidU (K3.out.below hb)
  replace DQ := hidU (DQ.out.below hb)
  replace K5 := hidU (K5.out.below hb)
  replace DA := hidU (DA.out.below hb)
  replace DB := hidU (DB.out.below hb)
  replace K7 := hidU (K7.out.below hb)
  replace K8 := hidU (K8.out.below hb)
  replace DS := hidU (DS.out.below hb)
  replace K9 := hidU (K9.out.below hb)
  replace DP := hidU (DP.out.below hb)
  replace K11 := hidU (K11.out.below hb)
  replace DC := hidU (DC.out.below hb)
  replace K13 := hidU (K13.out.below hb)
  replace K15 := hidU (K15.out.below hb)
  replace DX := hidU (DX.out.below hb)
  replace K17 := hidU (K17.out.below hb)
  replace HB := hidU (HB.out.trans (hb.mono HB.out.size))
  clear hb
  go_wp2_with fail
  refine hKc.out _ _ ⟨K5.out, K17.out, K7.out⟩ (fun hHeld => ?_)
  clear hKc Kc
  (try simp only [List.getElem_toArray]); (try simp only [List.getElem_cons_succ]); (try simp only [List.getElem_cons_zero]); (try simp only [Act.put]); (try simp only [List.setIfInBounds_toArray]); (try simp only [List.set_cons_succ]); (try simp only [List.set_cons_zero])
  refine wpAnyH_take (i := 7) (v := .bool false) rfl (by kernel_rfl) (by kernel_rfl) (by kernel_rfl) (fun _ _ _ h => h) (Or.inl ⟨by kernel_rfl, ?_⟩) hHeld ?_
  skip
  · intro wz hSw; obtain ⟨hS0, hS1, hS2⟩ := hSw; obtain ⟨p0_0, p0_1, p0_2⟩ := hS0.c3; obtain ⟨p1_0, p1_1, p1_2⟩ := hS1.c3; obtain ⟨p2_0, p2_1, p2_2⟩ := hS2.c3; clear hS0 hS1 hS2; go_simp; all_goals (try with_reducible rfl)
  (try simp only [List.getElem_toArray]); (try simp only [List.getElem_cons_succ]); (try simp only [List.getElem_cons_zero]); (try simp only [Act.put]); (try simp only [List.setIfInBounds_toArray]); (try simp only [List.set_cons_succ]); (try simp only [List.set_cons_zero])
  refine wpAnyH_take (i := 8) (v := .bool false) rfl (by kernel_rfl) (by kernel_rfl) (by kernel_rfl) (fun _ _ _ h => h) (Or.inl ⟨by kernel_rfl, ?_⟩) hHeld ?_
  skip
  · intro wz hSw; obtain ⟨hS0, hS1, hS2⟩ := hSw; obtain ⟨p0_0, p0_1, p0_2⟩ := hS0.c3; obtain ⟨p1_0, p1_1, p1_2⟩ := hS1.c3; obtain ⟨p2_0, p2_1, p2_2⟩ := hS2.c3; clear hS0 hS1 hS2; go_simp; all_goals (try with_reducible rfl)
  (try simp only [List.getElem_toArray]); (try simp only [List.getElem_cons_succ]); (try simp only [List.getElem_cons_zero]); (try simp only [Act.put]); (try simp only [List.setIfInBounds_toArray]); (try simp only [List.set_cons_succ]); (try simp only [List.set_cons_zero])
  refine wpAnyH_take (i := 9) (v := .bool false) rfl (by kernel_rfl) (by kernel_rfl) (by kernel_rfl) (fun _ _ _ h => h) (Or.inl ⟨by kernel_rfl, ?_⟩) hHeld ?_
  skip
  · intro wz hSw; obtain ⟨hS0, hS1, hS2⟩ := hSw; obtain ⟨p0_0, p0_1, p0_2⟩ := hS0.c3; obtain ⟨p1_0, p1_1, p1_2⟩ := hS1.c3; obtain ⟨p2_0, p2_1, p2_2⟩ := hS2.c3; clear hS0 hS1 hS2; go_simp; all_goals (try with_reducible rfl)
  (try simp only [List.getElem_toArray]); (try simp only [List.getElem_cons_succ]); (try simp only [List.getElem_cons_zero]); (try simp only [Act.put]); (try simp only [List.setIfInBounds_toArray]); (try simp only [List.set_cons_succ]); (try simp only [List.set_cons_zero])
  refine wpAnyH_take (i := 10) (v := ?_) rfl (by kernel_rfl) (by kernel_rfl) (by kernel_rfl) (fun _ _ _ h => h) (Or.inl ⟨by kernel_rfl, ?_⟩) hHeld ?_
  rotate_left
  · intro wz hSw; obtain ⟨hS0, hS1, hS2⟩ := hSw; obtain ⟨p0_0, p0_1, p0_2⟩ := hS0.c3; obtain ⟨p1_0, p1_1, p1_2⟩ := hS1.c3; obtain ⟨p2_0, p2_1, p2_2⟩ := hS2.c3; clear hS0 hS1 hS2; go_simp; all_goals (try with_reducible rfl)
  (try simp only [List.getElem_toArray]); (try simp only [List.getElem_cons_succ]); (try simp only [List.getElem_cons_zero]); (try simp only [Act.put]); (try simp only [List.setIfInBounds_toArray]); (try simp only [List.set_cons_succ]); (try simp only [List.set_cons_zero])
  refine wpAnyH_take (i := 12) (v := ?_) rfl (by kernel_rfl) (by kernel_rfl) (by kernel_rfl) (fun _ _ _ h => h) (Or.inl ⟨by kernel_rfl, ?_⟩) hHeld ?_
  rotate_left
  · intro wz hSw; obtain ⟨hS0, hS1, hS2⟩ := hSw; obtain ⟨p0_0, p0_1, p0_2⟩ := hS0.c3; obtain ⟨p1_0, p1_1, p1_2⟩ := hS1.c3; obtain ⟨p2_0, p2_1, p2_2⟩ := hS2.c3; clear hS0 hS1 hS2; go_simp; all_goals (try with_reducible rfl)
  (try simp only [List.getElem_toArray]); (try simp only [List.getElem_cons_succ]); (try simp only [List.getElem_cons_zero]); (try simp only [Act.put]); (try simp only [List.setIfInBounds_toArray]); (try simp only [List.set_cons_succ]); (try simp only [List.set_cons_zero])
  refine wpAnyH_ready (rs := [11]) (by kernel_rfl) (by simp) (AllReadyH.cons rfl (fun Kc hKc => ?_) AllReadyH.nil)
  go_simp
  refine (HO1.out _ DA.out).mono ?_
  rintro e r11 ⟨rfl, hb⟩
  replace K3 := hidU (K3.out.below hb)
  replace DQ := hidU (DQ.out.below hb)
  replace K5 := hidU (K5.out.below hb)
  replace DA := hidU (DA.out.below hb)
  replace DB := hidU (DB.out.below hb)
  replace K7 := hidU (K7.out.below hb)
  replace K8 := hidU (K8.out.below hb)
  replace DS := hidU (DS.out.below hb)
  replace K9 := hidU (K9.out.below hb)
  replace DP := hidU (DP.out.below hb)
  replace K11 := hidU (K11.out.below hb)
  replace DC := hidU (DC.out.below hb)
  replace K13 := hidU (K13.out.below hb)
  replace K15 := hidU (K15.out.below hb)
  replace DX := hidU (DX.out.below hb)
  replace K17 := hidU (K17.out.below hb)
  replace HB := hidU (HB.out.trans (hb.mono HB.out.size))
  clear hb
  go_wp2_with fail
  refine hKc.out _ _ ⟨K5.out, K17.out, K7.out⟩ (fun hHeld => ?_)
  clear hKc Kc
  (try simp only [List.getElem_toArray]); (try simp only [List.getElem_cons_succ]); (try simp only [List.getElem_cons_zero]); (try simp only [Act.put]); (try simp only [List.setIfInBounds_toArray]); (try simp only [List.set_cons_succ]); (try simp only [List.set_cons_zero])
  refine wpAnyH_ready (rs := [13]) (by kernel_rfl) (by simp) (AllReadyH.cons rfl (fun Kc hKc => ?_) AllReadyH.nil)
  go_simp
  refine (HO2.out _ DA.out).mono ?_
  rintro e r13 ⟨rfl, hb⟩
  replace K3 := hidU (K3.out.below hb)
  replace DQ := hidU (DQ.out.below hb)
  replace K5 := hidU (K5.out.below hb)
  replace DA := hidU (DA.out.below hb)
  replace DB := hidU (DB.out.below hb)
  replace K7 := hidU (K7.out.below hb)
  replace K8 := hidU (K8.out.below hb)
  replace DS := hidU (DS.out.below hb)
  replace K9 := hidU (K9.out.below hb)
  replace DP := hidU (DP.out.below hb)
  replace K11 := hidU (K11.out.below hb)
  replace DC := hidU (DC.out.below hb)
  replace K13 := hidU (K13.out.below hb)
  replace K15 := hidU (K15.out.below hb)
  replace DX := hidU (DX.out.below hb)
  replace K17 := hidU (K17.out.below hb)
  replace HB := hidU (HB.out.trans (hb.mono HB.out.size))
  clear hb
  go_wp2_with fail
  refine hKc.out _ _ ⟨K5.out, K17.out, K7.out⟩ (fun hHeld => ?_)
  clear hKc Kc
  (try simp only [List.getElem_toArray]); (try simp only [List.getElem_cons_succ]); (try simp only [List.getElem_cons_zero]); (try simp only [Act.put]); (try simp only [List.setIfInBounds_toArray]); (try simp only [List.set_cons_succ]); (try simp only [List.set_cons_zero])
  refine wpAnyH_take (i := 14) (v := .bool false) rfl (by kernel_rfl) (by kernel_rfl) (by kernel_rfl) (fun _ _ _ h => h) (Or.inl ⟨by kernel_rfl, ?_⟩) hHeld ?_
  skip
  · intro wz hSw; obtain ⟨hS0, hS1, hS2⟩ := hSw; obtain ⟨p0_0, p0_1, p0_2⟩ := hS0.c3; obtain ⟨p1_0, p1_1, p1_2⟩ := hS1.c3; obtain ⟨p2_0, p2_1, p2_2⟩ := hS2.c3; clear hS0 hS1 hS2; go_simp; all_goals (try with_reducible rfl)
  (try simp only [List.getElem_toArray]); (try simp only [List.getElem_cons_succ]); (try simp only [List.getElem_cons_zero]); (try simp only [Act.put]); (try simp only [List.setIfInBounds_toArray]); (try simp only [List.set_cons_succ]); (try simp only [List.set_cons_zero])
  refine wpAnyH_take (i := 15) (v := .bool false) rfl (by kernel_rfl) (by kernel_rfl) (by kernel_rfl) (fun _ _ _ h => h) (Or.inl ⟨by kernel_rfl, ?_⟩) hHeld ?_
  skip
  · intro wz hSw; obtain ⟨hS0, hS1, hS2⟩ := hSw; obtain ⟨p0_0, p0_1, p0_2⟩ := hS0.c3; obtain ⟨p1_0, p1_1, p1_2⟩ := hS1.c3; obtain ⟨p2_0, p2_1, p2_2⟩ := hS2.c3; clear hS0 hS1 hS2; go_simp; all_goals (try with_reducible rfl)
  (try simp only [List.getElem_toArray]); (try simp only [List.getElem_cons_succ]); (try simp only [List.getElem_cons_zero]); (try simp only [Act.put]); (try simp only [List.setIfInBounds_toArray]); (try simp only [List.set_cons_succ]); (try simp only [List.set_cons_zero])
  refine wpAnyH_done (by kernel_rfl) ?_ _
  refine NoPanic.normal ?_
  clear hHeld
  clear DX K17
  clear HO1 HO2 HIM HSM oka okq
  obtain ⟨zz00, zz01, zz02⟩ := K7.out.c3
  obtain ⟨zz10, zz11, zz12⟩ := K8.out.c3
  go_wp2_with fail
  refine (HSP.out _ DA.out DB.out).mono ?_
  rintro e v8 ⟨yva, yvk, yvc, rfl, hv, hb⟩
  clear zz00 zz01 zz02 zz10 zz11 zz12
  replace K3 := hidU (K3.out.below hb)
  replace DQ := hidU (DQ.out.below hb)
  replace K5 := hidU (K5.out.below hb)
  replace DA := hidU (DA.out.below hb)
  replace DB := hidU (DB.out.below hb)
  replace K7 := hidU (K7.out.below hb)
  replace K8 := hidU (K8.out.below hb)
  replace DS := hidU (DS.out.below hb)
  replace K9 := hidU (K9.out.below hb)
  replace DP := hidU (DP.out.below hb)
  replace K11 := hidU (K11.out.below hb)
  replace DC := hidU (DC.out.below hb)
  replace K13 := hidU (K13.out.below hb)
  replace K15 := hidU (K15.out.below hb)
  replace HB := hidU (HB.out.trans (hb.mono HB.out.size))
  clear hb
  have DY := hidU hv
  clear hv
  have hb := b0_any v8 (.cells #[.int .i64 s1, .int .i64 s2, .slice yva yvk yvc] 30)
  go_upto_region 14 with fail
  obtain ⟨Y9, hY⟩ : ∃ Y, Y = v8.alloc (.cells #[.int .i64 s1, .int .i64 s2, .slice yva yvk yvc] 30) := ⟨_, rfl⟩
  obtain ⟨B19, hF⟩ : ∃ F, F = v8.heap.size := ⟨_, rfl⟩
  have K19 : Hid (IsB Y9 B19 #[.int .i64 s1, .int .i64 s2, .slice yva yvk yvc] 30) := by show IsB _ _ _ _; rw [hY, hF]; exact IsB.new _ _ _
  rw [← hY] at hb
  rw [← hY, ← hF]
  clear hY hF
  replace K3 := hidU (K3.out.below hb)
  replace DQ := hidU (DQ.out.below hb)
  replace K5 := hidU (K5.out.below hb)
  replace DA := hidU (DA.out.below hb)
  replace DB := hidU (DB.out.below hb)
  replace K7 := hidU (K7.out.below hb)
  replace K8 := hidU (K8.out.below hb)
  replace DS := hidU (DS.out.below hb)
  replace K9 := hidU (K9.out.below hb)
  replace DP := hidU (DP.out.below hb)
  replace K11 := hidU (K11.out.below hb)
  replace DC := hidU (DC.out.below hb)
  replace K13 := hidU (K13.out.below hb)
  replace K15 := hidU (K15.out.below hb)
  replace DY := hidU (DY.out.below hb)
  replace HB := hidU (HB.out.trans (hb.mono HB.out.size))
  clear hb
  obtain ⟨zz00, zz01, zz02⟩ := K9.out.c3
  obtain ⟨zz10, zz11, zz12⟩ := K19.out.c3
  go_wp2_with fail
  refine (likeQua s1 s2 _ _ sx _ HPL.out DS.out DY.out).mono ?_
  rintro e v9 ⟨rfl, hb⟩
  clear zz00 zz01 zz02 zz10 zz11 zz12
  replace K3 := hidU (K3.out.below hb)
  replace DQ := hidU (DQ.out.below hb)
  replace K5 := hidU (K5.out.below hb)
  replace DA := hidU (DA.out.below hb)
  replace DB := hidU (DB.out.below hb)
  replace K7 := hidU (K7.out.below hb)
  replace K8 := hidU (K8.out.below hb)
  replace DS := hidU (DS.out.below hb)
  replace K9 := hidU (K9.out.below hb)
  replace DP := hidU (DP.out.below hb)
  replace K11 := hidU (K11.out.below hb)
  replace DC := hidU (DC.out.below hb)
  replace K13 := hidU (K13.out.below hb)
  replace K15 := hidU (K15.out.below hb)
  replace DY := hidU (DY.out.below hb)
  replace K19 := hidU (K19.out.below hb)
  replace HB := hidU (HB.out.trans (hb.mono HB.out.size))
  clear hb
  clear DY K19
  clear HIP HSP oks
  obtain ⟨zz00, zz01, zz02⟩ := K7.out.c3
  obtain ⟨zz10, zz11, zz12⟩ := K8.out.c3
  go_wp2_with fail
  refine (HST.out _ DA.out DB.out).mono ?_
  rintro e v10 ⟨uva, uvk, uvc, rfl, hv, hb⟩
  clear zz00 zz01 zz02 zz10 zz11 zz12
  replace K3 := hidU (K3.out.below hb)
  replace DQ := hidU (DQ.out.below hb)
  replace K5 := hidU (K5.out.below hb)
  replace DA := hidU (DA.out.below hb)
  replace DB := hidU (DB.out.below hb)
  replace K7 := hidU (K7.out.below hb)
  replace K8 := hidU (K8.out.below hb)
  replace DS := hidU (DS.out.below hb)
  replace K9 := hidU (K9.out.below hb)
  replace DP := hidU (DP.out.below hb)
  replace K11 := hidU (K11.out.below hb)
  replace DC := hidU (DC.out.below hb)
  replace K13 := hidU (K13.out.below hb)
  replace K15 := hidU (K15.out.below hb)
  replace HB := hidU (HB.out.trans (hb.mono HB.out.size))
  clear hb
  have DU := hidU hv
  clear hv
  have hb := b0_any v10 (.cells #[.int .i64 p1, .int .i64 p2, .slice uva uvk uvc] 30)
  go_upto_region 17 with fail
  obtain ⟨Y10, hY⟩ : ∃ Y, Y = v10.alloc (.cells #[.int .i64 p1, .int .i64 p2, .slice uva uvk uvc] 30) := ⟨_, rfl⟩
  obtain ⟨B21, hF⟩ : ∃ F, F = v10.heap.size := ⟨_, rfl⟩
  have K21 : Hid (IsB Y10 B21 #[.int .i64 p1, .int .i64 p2, .slice uva uvk uvc] 30) := by show IsB _ _ _ _; rw [hY, hF]; exact IsB.new _ _ _
  rw [← hY] at hb
  rw [← hY, ← hF]
  clear hY hF
  replace K3 := hidU (K3.out.below hb)
  replace DQ := hidU (DQ.out.below hb)
  replace K5 := hidU (K5.out.below hb)
  replace DA := hidU (DA.out.below hb)
  replace DB := hidU (DB.out.below hb)
  replace K7 := hidU (K7.out.below hb)
  replace K8 := hidU (K8.out.below hb)
  replace DS := hidU (DS.out.below hb)
  replace K9 := hidU (K9.out.below hb)
  replace DP := hidU (DP.out.below hb)
  replace K11 := hidU (K11.out.below hb)
  replace DC := hidU (DC.out.below hb)
  replace K13 := hidU (K13.out.below hb)
  replace K15 := hidU (K15.out.below hb)
  replace DU := hidU (DU.out.below hb)
  replace HB := hidU (HB.out.trans (hb.mono HB.out.size))
  clear hb
  obtain ⟨zz00, zz01, zz02⟩ := K11.out.c3
  obtain ⟨zz10, zz11, zz12⟩ := K21.out.c3
  go_wp2_with fail
  refine (likeQua p1 p2 _ _ px _ HTL.out DP.out DU.out).mono ?_
  rintro e v11 ⟨rfl, hb⟩
  clear zz00 zz01 zz02 zz10 zz11 zz12
  replace K3 := hidU (K3.out.below hb)
  replace DQ := hidU (DQ.out.below hb)
  replace K5 := hidU (K5.out.below hb)
  replace DA := hidU (DA.out.below hb)
  replace DB := hidU (DB.out.below hb)
  replace K7 := hidU (K7.out.below hb)
  replace K8 := hidU (K8.out.below hb)
  replace DS := hidU (DS.out.below hb)
  replace K9 := hidU (K9.out.below hb)
  replace DP := hidU (DP.out.below hb)
  replace K11 := hidU (K11.out.below hb)
  replace DC := hidU (DC.out.below hb)
  replace K13 := hidU (K13.out.below hb)
  replace K15 := hidU (K15.out.below hb)
  replace DU := hidU (DU.out.below hb)
  replace K21 := hidU (K21.out.below hb)
  replace HB := hidU (HB.out.trans (hb.mono HB.out.size))
  clear hb
  clear DU K21
  clear HIT HST okp
  obtain ⟨zz00, zz01, zz02⟩ := K13.out.c3
  go_wp2_with fail
  refine (HSI.out _ DC.out).mono ?_
  rintro e v12 ⟨rfl, hb⟩
  clear zz00 zz01 zz02
  replace K3 := hidU (K3.out.below hb)
  replace DQ := hidU (DQ.out.below hb)
  replace K5 := hidU (K5.out.below hb)
  replace DA := hidU (DA.out.below hb)
  replace DB := hidU (DB.out.below hb)
  replace K7 := hidU (K7.out.below hb)
  replace K8 := hidU (K8.out.below hb)
  replace DS := hidU (DS.out.below hb)
  replace K9 := hidU (K9.out.below hb)
  replace DP := hidU (DP.out.below hb)
  replace K11 := hidU (K11.out.below hb)
  replace DC := hidU (DC.out.below hb)
  replace K13 := hidU (K13.out.below hb)
  replace K15 := hidU (K15.out.below hb)
  replace HB := hidU (HB.out.trans (hb.mono HB.out.size))
  clear hb
  have hb := b0_any v12 (.cells #[.int .i64 i1, .int .i64 i2] 25)
  go_upto_region 20 with fail
  obtain ⟨Y11, hY⟩ : ∃ Y, Y = v12.alloc (.cells #[.int .i64 i1, .int .i64 i2] 25) := ⟨_, rfl⟩
  obtain ⟨B23, hF⟩ : ∃ F, F = v12.heap.size := ⟨_, rfl⟩
  have K23 : Hid (IsB Y11 B23 #[.int .i64 i1, .int .i64 i2] 25) := by show IsB _ _ _ _; rw [hY, hF]; exact IsB.new _ _ _
  rw [← hY] at hb
  rw [← hY, ← hF]
  clear hY hF
  replace K3 := hidU (K3.out.below hb)
  replace DQ := hidU (DQ.out.below hb)
  replace K5 := hidU (K5.out.below hb)
  replace DA := hidU (DA.out.below hb)
  replace DB := hidU (DB.out.below hb)
  replace K7 := hidU (K7.out.below hb)
  replace K8 := hidU (K8.out.below hb)
  replace DS := hidU (DS.out.below hb)
  replace K9 := hidU (K9.out.below hb)
  replace DP := hidU (DP.out.below hb)
  replace K11 := hidU (K11.out.below hb)
  replace DC := hidU (DC.out.below hb)
  replace K13 := hidU (K13.out.below hb)
  replace K15 := hidU (K15.out.below hb)
  replace HB := hidU (HB.out.trans (hb.mono HB.out.size))
  clear hb
  obtain ⟨z0, z1⟩ := K15.out.c2
  obtain ⟨y0, y1⟩ := K23.out.c2
  go_upto_region 22 with fail
  clear z0 z1 y0 y1 HII HSI oki HT
  clear K15 K23 K13 DC
  have HPD : Hid (s5 = true → ax = bx ∧ sx = ax ∧ ax.length = 5) := by
    intro h
    have h2 := plus_dims (n := an) (d := ad) (m := bn) (c := bd) (ys := ax) (zs := bx) (by rw [HQP.out]; exact h)
    rw [HQP.out] at h2
    exact h2
  have HTD : Hid (p5 = true → ansDimTimes ax bx = px) := by
    intro h
    have h2 := prod_dims (n := an) (d := ad) (m := bn) (c := bd) (ys := ax) (zs := bx) (by rw [HQT.out]; exact h)
    rw [HQT.out] at h2
    exact h2
  have HPC := hidU (fun W h0 h1 => iProdQ bn bd an ad (.slice bva bvk bvc) (.slice ava avk avc) bx ax W h1 h0)
  rw [prod_comm, HQT.out] at HPC
  unfold QuaRd at HPC
  simp only at HPC
  cases q5
  · skip
    go_upto_region 26 with fail
    go_cut [173] from 143 to 199 (fun c wx => c = .bool false ∧ Hid (IsB wx B7 #[.int .i64 an, .int .i64 ad, .slice ava avk avc] 30) ∧ Hid (IsB wx B8 #[.int .i64 bn, .int .i64 bd, .slice bva bvk bvc] 30) ∧ Hid (IsB wx B11 #[.int .i64 p1, .int .i64 p2, .slice pva pvk pvc] 30) ∧ Hid (DimIn wx (.slice ava avk avc) ax) ∧ Hid (DimIn wx (.slice bva bvk bvc) bx) ∧ Hid (RdU wx (.slice pva pvk pvc) px) ∧ Hid (Below w.heap.size w wx))
    case first =>
      cases s5
      · go_wp2
        go_meet
        case rel => exact ⟨rfl, K7.out, K8.out, K11.out, DA.out, DB.out, DP.out, HB.out⟩
      have HPD2 := hidU (HPD.out (by first | exact rfl | exact trivial))
      obtain ⟨zz00, zz01, zz02⟩ := K7.out.c3
      obtain ⟨zz10, zz11, zz12⟩ := K8.out.c3
      go_wp2_with fail
      refine (likeSame _ _ ax _ (by rw [HPD2.out.2.2]; exact Nat.le_refl _) (DA.out.rdU HPD2.out.2.2) (by have := DB.out.rdU (by rw [← HPD2.out.1]; exact HPD2.out.2.2); rw [← HPD2.out.1] at this; exact this)).mono ?_
      rintro e g1a ⟨rfl, hb⟩
      clear zz00 zz01 zz02 zz10 zz11 zz12
      replace K3 := hidU (K3.out.below hb)
      replace DQ := hidU (DQ.out.below hb)
      replace K5 := hidU (K5.out.below hb)
      replace DA := hidU (DA.out.below hb)
      replace DB := hidU (DB.out.below hb)
      replace K7 := hidU (K7.out.below hb)
      replace K8 := hidU (K8.out.below hb)
      replace DS := hidU (DS.out.below hb)
      replace K9 := hidU (K9.out.below hb)
      replace DP := hidU (DP.out.below hb)
      replace K11 := hidU (K11.out.below hb)
      replace HB := hidU (HB.out.trans (hb.mono HB.out.size))
      clear hb
      obtain ⟨zz00, zz01, zz02⟩ := K9.out.c3
      obtain ⟨zz10, zz11, zz12⟩ := K7.out.c3
      go_wp2_with fail
      refine (likeSame _ _ ax _ (by rw [HPD2.out.2.2]; exact Nat.le_refl _) (by have := DS.out; rw [HPD2.out.2.1] at this; exact this) (DA.out.rdU HPD2.out.2.2)).mono ?_
      rintro e g2a ⟨rfl, hb⟩
      clear zz00 zz01 zz02 zz10 zz11 zz12
      replace K3 := hidU (K3.out.below hb)
      replace DQ := hidU (DQ.out.below hb)
      replace K5 := hidU (K5.out.below hb)
      replace DA := hidU (DA.out.below hb)
      replace DB := hidU (DB.out.below hb)
      replace K7 := hidU (K7.out.below hb)
      replace K8 := hidU (K8.out.below hb)
      replace DS := hidU (DS.out.below hb)
      replace K9 := hidU (K9.out.below hb)
      replace DP := hidU (DP.out.below hb)
      replace K11 := hidU (K11.out.below hb)
      replace HB := hidU (HB.out.trans (hb.mono HB.out.size))
      clear hb
      go_wp2
      go_meet
      case rel => exact ⟨rfl, K7.out, K8.out, K11.out, DA.out, DB.out, DP.out, HB.out⟩
    case rest =>
      obtain ⟨rfl, K7, K8, K11, DA, DB, DP, HB⟩ := hcut
      go_upto_region 28 with fail
      go_cut [185] from 143 to 199 (fun c wx => c = .bool false ∧ Hid (IsB wx B7 #[.int .i64 an, .int .i64 ad, .slice ava avk avc] 30) ∧ Hid (IsB wx B8 #[.int .i64 bn, .int .i64 bd, .slice bva bvk bvc] 30) ∧ Hid (IsB wx B11 #[.int .i64 p1, .int .i64 p2, .slice pva pvk pvc] 30) ∧ Hid (DimIn wx (.slice ava avk avc) ax) ∧ Hid (DimIn wx (.slice bva bvk bvc) bx) ∧ Hid (RdU wx (.slice pva pvk pvc) px) ∧ Hid (Below w.heap.size w wx))
      case first =>
        cases p5
        · skip
          have hb := (Below.refl wc.heap.size wc).drew
          replace K7 := hidU (K7.out.below hb)
          replace K8 := hidU (K8.out.below hb)
          replace K11 := hidU (K11.out.below hb)
          replace DA := hidU (DA.out.below hb)
          replace DB := hidU (DB.out.below hb)
          replace DP := hidU (DP.out.below hb)
          replace HB := hidU (HB.out.trans (hb.mono HB.out.size))
          clear hb
          refine wp_region_noPanic ?_
          refine wp_region_held_drew (S := fun W => IsB W B11 #[.int .i64 p1, .int .i64 p2, .slice pva pvk pvc] 30 ∧ IsB W B7 #[.int .i64 an, .int .i64 ad, .slice ava avk avc] 30 ∧ IsB W B8 #[.int .i64 bn, .int .i64 bd, .slice bva bvk bvc] 30) (by kernel_rfl) ⟨K11.out, K7.out, K8.out⟩ (fun hHeld => ?_)
          obtain ⟨waa, hwd⟩ : ∃ u, u = wc.drew := ⟨_, rfl⟩
          rw [← hwd] at K7 K8 K11 DA DB DP HB hHeld ⊢
          clear hwd
          refine wpAnyH_take (i := 0) (v := .bool false) rfl (by kernel_rfl) (by kernel_rfl) (by kernel_rfl) (fun _ _ _ h => h) (Or.inl ⟨by kernel_rfl, ?_⟩) hHeld ?_
          skip
          · intro wz hSw; obtain ⟨hS0, hS1, hS2⟩ := hSw; obtain ⟨p0_0, p0_1, p0_2⟩ := hS0.c3; obtain ⟨p1_0, p1_1, p1_2⟩ := hS1.c3; obtain ⟨p2_0, p2_1, p2_2⟩ := hS2.c3; clear hS0 hS1 hS2; go_simp; all_goals (try with_reducible rfl)
          (try simp only [List.getElem_toArray]); (try simp only [List.getElem_cons_succ]); (try simp only [List.getElem_cons_zero]); (try simp only [Act.put]); (try simp only [List.setIfInBounds_toArray]); (try simp only [List.set_cons_succ]); (try simp only [List.set_cons_zero])
          refine wpAnyH_take (i := 1) (v := .bool false) rfl (by kernel_rfl) (by kernel_rfl) (by kernel_rfl) (fun _ _ _ h => h) (Or.inl ⟨by kernel_rfl, ?_⟩) hHeld ?_
          skip
          · intro wz hSw; obtain ⟨hS0, hS1, hS2⟩ := hSw; obtain ⟨p0_0, p0_1, p0_2⟩ := hS0.c3; obtain ⟨p1_0, p1_1, p1_2⟩ := hS1.c3; obtain ⟨p2_0, p2_1, p2_2⟩ := hS2.c3; clear hS0 hS1 hS2; go_simp; all_goals (try with_reducible rfl)
          (try simp only [List.getElem_toArray]); (try simp only [List.getElem_cons_succ]); (try simp only [List.getElem_cons_zero]); (try simp only [Act.put]); (try simp only [List.setIfInBounds_toArray]); (try simp only [List.set_cons_succ]); (try simp only [List.set_cons_zero])
          refine wpAnyH_take (i := 2) (v := undef) rfl (by kernel_rfl) (by kernel_rfl) (by kernel_rfl) (fun _ _ _ h => h) (Or.inr ⟨by kernel_rfl, rfl⟩) hHeld ?_
          (try simp only [List.getElem_toArray]); (try simp only [List.getElem_cons_succ]); (try simp only [List.getElem_cons_zero]); (try simp only [Act.put]); (try simp only [List.setIfInBounds_toArray]); (try simp only [List.set_cons_succ]); (try simp only [List.set_cons_zero])
          refine wpAnyH_take (i := 3) (v := undef) rfl (by kernel_rfl) (by kernel_rfl) (by kernel_rfl) (fun _ _ _ h => h) (Or.inr ⟨by kernel_rfl, rfl⟩) hHeld ?_
          (try simp only [List.getElem_toArray]); (try simp only [List.getElem_cons_succ]); (try simp only [List.getElem_cons_zero]); (try simp only [Act.put]); (try simp only [List.setIfInBounds_toArray]); (try simp only [List.set_cons_succ]); (try simp only [List.set_cons_zero])
          refine wpAnyH_take (i := 4) (v := undef) rfl (by kernel_rfl) (by kernel_rfl) (by kernel_rfl) (fun _ _ _ h => h) (Or.inr ⟨by kernel_rfl, rfl⟩) hHeld ?_
          (try simp only [List.getElem_toArray]); (try simp only [List.getElem_cons_succ]); (try simp only [List.getElem_cons_zero]); (try simp only [Act.put]); (try simp only [List.setIfInBounds_toArray]); (try simp only [List.set_cons_succ]); (try simp only [List.set_cons_zero])
          refine wpAnyH_take (i := 5) (v := undef) rfl (by kernel_rfl) (by kernel_rfl) (by kernel_rfl) (fun _ _ _ h => h) (Or.inr ⟨by kernel_rfl, rfl⟩) hHeld ?_
          (try simp only [List.getElem_toArray]); (try simp only [List.getElem_cons_succ]); (try simp only [List.getElem_cons_zero]); (try simp only [Act.put]); (try simp only [List.setIfInBounds_toArray]); (try simp only [List.set_cons_succ]); (try simp only [List.set_cons_zero])
          refine wpAnyH_take (i := 6) (v := undef) rfl (by kernel_rfl) (by kernel_rfl) (by kernel_rfl) (fun _ _ _ h => h) (Or.inr ⟨by kernel_rfl, rfl⟩) hHeld ?_
          (try simp only [List.getElem_toArray]); (try simp only [List.getElem_cons_succ]); (try simp only [List.getElem_cons_zero]); (try simp only [Act.put]); (try simp only [List.setIfInBounds_toArray]); (try simp only [List.set_cons_succ]); (try simp only [List.set_cons_zero])
          refine wpAnyH_take (i := 7) (v := undef) rfl (by kernel_rfl) (by kernel_rfl) (by kernel_rfl) (fun _ _ _ h => h) (Or.inr ⟨by kernel_rfl, rfl⟩) hHeld ?_
          (try simp only [List.getElem_toArray]); (try simp only [List.getElem_cons_succ]); (try simp only [List.getElem_cons_zero]); (try simp only [Act.put]); (try simp only [List.setIfInBounds_toArray]); (try simp only [List.set_cons_succ]); (try simp only [List.set_cons_zero])
          refine wpAnyH_take (i := 8) (v := undef) rfl (by kernel_rfl) (by kernel_rfl) (by kernel_rfl) (fun _ _ _ h => h) (Or.inr ⟨by kernel_rfl, rfl⟩) hHeld ?_
          (try simp only [List.getElem_toArray]); (try simp only [List.getElem_cons_succ]); (try simp only [List.getElem_cons_zero]); (try simp only [Act.put]); (try simp only [List.setIfInBounds_toArray]); (try simp only [List.set_cons_succ]); (try simp only [List.set_cons_zero])
          refine wpAnyH_take (i := 9) (v := undef) rfl (by kernel_rfl) (by kernel_rfl) (by kernel_rfl) (fun _ _ _ h => h) (Or.inr ⟨by kernel_rfl, rfl⟩) hHeld ?_
          (try simp only [List.getElem_toArray]); (try simp only [List.getElem_cons_succ]); (try simp only [List.getElem_cons_zero]); (try simp only [Act.put]); (try simp only [List.setIfInBounds_toArray]); (try simp only [List.set_cons_succ]); (try simp only [List.set_cons_zero])
          refine wpAnyH_take (i := 10) (v := undef) rfl (by kernel_rfl) (by kernel_rfl) (by kernel_rfl) (fun _ _ _ h => h) (Or.inr ⟨by kernel_rfl, rfl⟩) hHeld ?_
          (try simp only [List.getElem_toArray]); (try simp only [List.getElem_cons_succ]); (try simp only [List.getElem_cons_zero]); (try simp only [Act.put]); (try simp only [List.setIfInBounds_toArray]); (try simp only [List.set_cons_succ]); (try simp only [List.set_cons_zero])
          refine wpAnyH_take (i := 11) (v := .bool false) rfl (by kernel_rfl) (by kernel_rfl) (by kernel_rfl) (fun _ _ _ h => h) (Or.inl ⟨by kernel_rfl, ?_⟩) hHeld ?_
          skip
          · intro wz hSw; obtain ⟨hS0, hS1, hS2⟩ := hSw; obtain ⟨p0_0, p0_1, p0_2⟩ := hS0.c3; obtain ⟨p1_0, p1_1, p1_2⟩ := hS1.c3; obtain ⟨p2_0, p2_1, p2_2⟩ := hS2.c3; clear hS0 hS1 hS2; go_simp; all_goals (try with_reducible rfl)
          (try simp only [List.getElem_toArray]); (try simp only [List.getElem_cons_succ]); (try simp only [List.getElem_cons_zero]); (try simp only [Act.put]); (try simp only [List.setIfInBounds_toArray]); (try simp only [List.set_cons_succ]); (try simp only [List.set_cons_zero])
          refine wpAnyH_done (by kernel_rfl) ?_ _
          refine NoPanic.normal ?_
          clear hHeld
          go_wp2_with fail
          go_meet
          case rel => exact ⟨rfl, K7.out, K8.out, K11.out, DA.out, DB.out, DP.out, HB.out⟩
        have HDT : Hid (∀ W : World, DimIn W (.slice ava avk avc) ax → DimIn W (.slice bva bvk bvc) bx → Calls Tryz.prog 21 #[.slice ava avk avc, .slice bva bvk bvc] W fun e w' => ∃ v, e = .returned v ∧ RdU w' v px ∧ Below W.heap.size W w') := by
          intro W h0 h1
          refine (sDimTimes_in _ _ ax bx W h0 h1).mono ?_
          rintro e w' ⟨v, et, rfl, ho, hb⟩
          rw [HTD.out (by first | exact rfl | exact trivial)] at ho
          exact ⟨v, rfl, rdU_own ho, hb⟩
        have hb := (Below.refl wc.heap.size wc).drew
        replace K7 := hidU (K7.out.below hb)
        replace K8 := hidU (K8.out.below hb)
        replace K11 := hidU (K11.out.below hb)
        replace DA := hidU (DA.out.below hb)
        replace DB := hidU (DB.out.below hb)
        replace DP := hidU (DP.out.below hb)
        replace HB := hidU (HB.out.trans (hb.mono HB.out.size))
        clear hb
        refine wp_region_noPanic ?_
        refine wp_region_held_drew (S := fun W => IsB W B11 #[.int .i64 p1, .int .i64 p2, .slice pva pvk pvc] 30 ∧ IsB W B7 #[.int .i64 an, .int .i64 ad, .slice ava avk avc] 30 ∧ IsB W B8 #[.int .i64 bn, .int .i64 bd, .slice bva bvk bvc] 30) (by kernel_rfl) ⟨K11.out, K7.out, K8.out⟩ (fun hHeld => ?_)
        obtain ⟨wba, hwd⟩ : ∃ u, u = wc.drew := ⟨_, rfl⟩
        rw [← hwd] at K7 K8 K11 DA DB DP HB hHeld ⊢
        clear hwd
        refine wpAnyH_take (i := 0) (v := .bool true) rfl (by kernel_rfl) (by kernel_rfl) (by kernel_rfl) (fun _ _ _ h => h) (Or.inl ⟨by kernel_rfl, ?_⟩) hHeld ?_
        skip
        · intro wz hSw; obtain ⟨hS0, hS1, hS2⟩ := hSw; obtain ⟨p0_0, p0_1, p0_2⟩ := hS0.c3; obtain ⟨p1_0, p1_1, p1_2⟩ := hS1.c3; obtain ⟨p2_0, p2_1, p2_2⟩ := hS2.c3; clear hS0 hS1 hS2; go_simp; all_goals (try with_reducible rfl)
        (try simp only [List.getElem_toArray]); (try simp only [List.getElem_cons_succ]); (try simp only [List.getElem_cons_zero]); (try simp only [Act.put]); (try simp only [List.setIfInBounds_toArray]); (try simp only [List.set_cons_succ]); (try simp only [List.set_cons_zero])
        refine wpAnyH_take (i := 1) (v := .bool true) rfl (by kernel_rfl) (by kernel_rfl) (by kernel_rfl) (fun _ _ _ h => h) (Or.inl ⟨by kernel_rfl, ?_⟩) hHeld ?_
        skip
        · intro wz hSw; obtain ⟨hS0, hS1, hS2⟩ := hSw; obtain ⟨p0_0, p0_1, p0_2⟩ := hS0.c3; obtain ⟨p1_0, p1_1, p1_2⟩ := hS1.c3; obtain ⟨p2_0, p2_1, p2_2⟩ := hS2.c3; clear hS0 hS1 hS2; go_simp; all_goals (try with_reducible rfl)
        (try simp only [List.getElem_toArray]); (try simp only [List.getElem_cons_succ]); (try simp only [List.getElem_cons_zero]); (try simp only [Act.put]); (try simp only [List.setIfInBounds_toArray]); (try simp only [List.set_cons_succ]); (try simp only [List.set_cons_zero])
        refine wpAnyH_take (i := 2) (v := ?_) rfl (by kernel_rfl) (by kernel_rfl) (by kernel_rfl) (fun _ _ _ h => h) (Or.inl ⟨by kernel_rfl, ?_⟩) hHeld ?_
        rotate_left
        · intro wz hSw; obtain ⟨hS0, hS1, hS2⟩ := hSw; obtain ⟨p0_0, p0_1, p0_2⟩ := hS0.c3; obtain ⟨p1_0, p1_1, p1_2⟩ := hS1.c3; obtain ⟨p2_0, p2_1, p2_2⟩ := hS2.c3; clear hS0 hS1 hS2; go_simp; all_goals (try with_reducible rfl)
        (try simp only [List.getElem_toArray]); (try simp only [List.getElem_cons_succ]); (try simp only [List.getElem_cons_zero]); (try simp only [Act.put]); (try simp only [List.setIfInBounds_toArray]); (try simp only [List.set_cons_succ]); (try simp only [List.set_cons_zero])
        refine wpAnyH_take (i := 3) (v := ?_) rfl (by kernel_rfl) (by kernel_rfl) (by kernel_rfl) (fun _ _ _ h => h) (Or.inl ⟨by kernel_rfl, ?_⟩) hHeld ?_
        rotate_left
        · intro wz hSw; obtain ⟨hS0, hS1, hS2⟩ := hSw; obtain ⟨p0_0, p0_1, p0_2⟩ := hS0.c3; obtain ⟨p1_0, p1_1, p1_2⟩ := hS1.c3; obtain ⟨p2_0, p2_1, p2_2⟩ := hS2.c3; clear hS0 hS1 hS2; go_simp; all_goals (try with_reducible rfl)
        (try simp only [List.getElem_toArray]); (try simp only [List.getElem_cons_succ]); (try simp only [List.getElem_cons_zero]); (try simp only [Act.put]); (try simp only [List.setIfInBounds_toArray]); (try simp only [List.set_cons_succ]); (try simp only [List.set_cons_zero])
        refine wpAnyH_take (i := 4) (v := ?_) rfl (by kernel_rfl) (by kernel_rfl) (by kernel_rfl) (fun _ _ _ h => h) (Or.inl ⟨by kernel_rfl, ?_⟩) hHeld ?_
        rotate_left
        · intro wz hSw; obtain ⟨hS0, hS1, hS2⟩ := hSw; obtain ⟨p0_0, p0_1, p0_2⟩ := hS0.c3; obtain ⟨p1_0, p1_1, p1_2⟩ := hS1.c3; obtain ⟨p2_0, p2_1, p2_2⟩ := hS2.c3; clear hS0 hS1 hS2; go_simp; all_goals (try with_reducible rfl)
        (try simp only [List.getElem_toArray]); (try simp only [List.getElem_cons_succ]); (try simp only [List.getElem_cons_zero]); (try simp only [Act.put]); (try simp only [List.setIfInBounds_toArray]); (try simp only [List.set_cons_succ]); (try simp only [List.set_cons_zero])
        refine wpAnyH_take (i := 5) (v := ?_) rfl (by kernel_rfl) (by kernel_rfl) (by kernel_rfl) (fun _ _ _ h => h) (Or.inl ⟨by kernel_rfl, ?_⟩) hHeld ?_
        rotate_left
        · intro wz hSw; obtain ⟨hS0, hS1, hS2⟩ := hSw; obtain ⟨p0_0, p0_1, p0_2⟩ := hS0.c3; obtain ⟨p1_0, p1_1, p1_2⟩ := hS1.c3; obtain ⟨p2_0, p2_1, p2_2⟩ := hS2.c3; clear hS0 hS1 hS2; go_simp; all_goals (try with_reducible rfl)
        (try simp only [List.getElem_toArray]); (try simp only [List.getElem_cons_succ]); (try simp only [List.getElem_cons_zero]); (try simp only [Act.put]); (try simp only [List.setIfInBounds_toArray]); (try simp only [List.set_cons_succ]); (try simp only [List.set_cons_zero])
        refine wpAnyH_take (i := 6) (v := ?_) rfl (by kernel_rfl) (by kernel_rfl) (by kernel_rfl) (fun _ _ _ h => h) (Or.inl ⟨by kernel_rfl, ?_⟩) hHeld ?_
        rotate_left
        · intro wz hSw; obtain ⟨hS0, hS1, hS2⟩ := hSw; obtain ⟨p0_0, p0_1, p0_2⟩ := hS0.c3; obtain ⟨p1_0, p1_1, p1_2⟩ := hS1.c3; obtain ⟨p2_0, p2_1, p2_2⟩ := hS2.c3; clear hS0 hS1 hS2; go_simp; all_goals (try with_reducible rfl)
        (try simp only [List.getElem_toArray]); (try simp only [List.getElem_cons_succ]); (try simp only [List.getElem_cons_zero]); (try simp only [Act.put]); (try simp only [List.setIfInBounds_toArray]); (try simp only [List.set_cons_succ]); (try simp only [List.set_cons_zero])
        refine wpAnyH_take (i := 7) (v := ?_) rfl (by kernel_rfl) (by kernel_rfl) (by kernel_rfl) (fun _ _ _ h => h) (Or.inl ⟨by kernel_rfl, ?_⟩) hHeld ?_
        rotate_left
        · intro wz hSw; obtain ⟨hS0, hS1, hS2⟩ := hSw; obtain ⟨p0_0, p0_1, p0_2⟩ := hS0.c3; obtain ⟨p1_0, p1_1, p1_2⟩ := hS1.c3; obtain ⟨p2_0, p2_1, p2_2⟩ := hS2.c3; clear hS0 hS1 hS2; go_simp; all_goals (try with_reducible rfl)
        (try simp only [List.getElem_toArray]); (try simp only [List.getElem_cons_succ]); (try simp only [List.getElem_cons_zero]); (try simp only [Act.put]); (try simp only [List.setIfInBounds_toArray]); (try simp only [List.set_cons_succ]); (try simp only [List.set_cons_zero])
        refine wpAnyH_ready (rs := [8]) (by kernel_rfl) (by simp) (AllReadyH.cons rfl (fun Kc hKc => ?_) AllReadyH.nil)
        go_simp
        refine (HDT.out _ DA.out DB.out).mono ?_
        rintro e g3a ⟨tv, rfl, hv, hb⟩
        replace K7 := hidU (K7.out.below hb)
        replace K8 := hidU (K8.out.below hb)
        replace K11 := hidU (K11.out.below hb)
        replace DA := hidU (DA.out.below hb)
        replace DB := hidU (DB.out.below hb)
        replace DP := hidU (DP.out.below hb)
        replace HB := hidU (HB.out.trans (hb.mono HB.out.size))
        clear hb
        have DT9 := hidU hv
        clear hv
        go_wp2_with fail
        refine hKc.out _ _ ⟨K11.out, K7.out, K8.out⟩ (fun hHeld => ?_)
        clear hKc Kc
        (try simp only [List.getElem_toArray]); (try simp only [List.getElem_cons_succ]); (try simp only [List.getElem_cons_zero]); (try simp only [Act.put]); (try simp only [List.setIfInBounds_toArray]); (try simp only [List.set_cons_succ]); (try simp only [List.set_cons_zero])
        refine wpAnyH_ready (rs := [9]) (by kernel_rfl) (by simp) (AllReadyH.cons rfl (fun Kc hKc => ?_) AllReadyH.nil)
        go_simp
        refine (likeSame _ _ px _ HTL.out DP.out DT9.out).mono ?_
        rintro e g4a ⟨rfl, hb⟩
        replace K7 := hidU (K7.out.below hb)
        replace K8 := hidU (K8.out.below hb)
        replace K11 := hidU (K11.out.below hb)
        replace DA := hidU (DA.out.below hb)
        replace DB := hidU (DB.out.below hb)
        replace DP := hidU (DP.out.below hb)
        replace DT9 := hidU (DT9.out.below hb)
        replace HB := hidU (HB.out.trans (hb.mono HB.out.size))
        clear hb
        go_wp2_with fail
        refine hKc.out _ _ ⟨K11.out, K7.out, K8.out⟩ (fun hHeld => ?_)
        clear hKc Kc
        (try simp only [List.getElem_toArray]); (try simp only [List.getElem_cons_succ]); (try simp only [List.getElem_cons_zero]); (try simp only [Act.put]); (try simp only [List.setIfInBounds_toArray]); (try simp only [List.set_cons_succ]); (try simp only [List.set_cons_zero])
        refine wpAnyH_take (i := 10) (v := .bool false) rfl (by kernel_rfl) (by kernel_rfl) (by kernel_rfl) (fun _ _ _ h => h) (Or.inl ⟨by kernel_rfl, ?_⟩) hHeld ?_
        skip
        · intro wz hSw; obtain ⟨hS0, hS1, hS2⟩ := hSw; obtain ⟨p0_0, p0_1, p0_2⟩ := hS0.c3; obtain ⟨p1_0, p1_1, p1_2⟩ := hS1.c3; obtain ⟨p2_0, p2_1, p2_2⟩ := hS2.c3; clear hS0 hS1 hS2; go_simp; all_goals (try with_reducible rfl)
        (try simp only [List.getElem_toArray]); (try simp only [List.getElem_cons_succ]); (try simp only [List.getElem_cons_zero]); (try simp only [Act.put]); (try simp only [List.setIfInBounds_toArray]); (try simp only [List.set_cons_succ]); (try simp only [List.set_cons_zero])
        refine wpAnyH_take (i := 11) (v := .bool false) rfl (by kernel_rfl) (by kernel_rfl) (by kernel_rfl) (fun _ _ _ h => h) (Or.inl ⟨by kernel_rfl, ?_⟩) hHeld ?_
        skip
        · intro wz hSw; obtain ⟨hS0, hS1, hS2⟩ := hSw; obtain ⟨p0_0, p0_1, p0_2⟩ := hS0.c3; obtain ⟨p1_0, p1_1, p1_2⟩ := hS1.c3; obtain ⟨p2_0, p2_1, p2_2⟩ := hS2.c3; clear hS0 hS1 hS2; go_simp; all_goals (try with_reducible rfl)
        (try simp only [List.getElem_toArray]); (try simp only [List.getElem_cons_succ]); (try simp only [List.getElem_cons_zero]); (try simp only [Act.put]); (try simp only [List.setIfInBounds_toArray]); (try simp only [List.set_cons_succ]); (try simp only [List.set_cons_zero])
        refine wpAnyH_done (by kernel_rfl) ?_ _
        refine NoPanic.normal ?_
        clear hHeld
        go_wp2_with fail
        go_meet
        case rel => exact ⟨rfl, K7.out, K8.out, K11.out, DA.out, DB.out, DP.out, HB.out⟩
      case rest =>
        obtain ⟨rfl, K7, K8, K11, DA, DB, DP, HB⟩ := hcut
        obtain ⟨zz00, zz01, zz02⟩ := K8.out.c3
        obtain ⟨zz10, zz11, zz12⟩ := K7.out.c3
        go_wp2_with fail
        refine (HPC.out _ DA.out DB.out).mono ?_
        rintro e h1a ⟨ova, ovk, ovc, rfl, hv, hb⟩
        clear zz00 zz01 zz02 zz10 zz11 zz12
        replace K7 := hidU (K7.out.below hb)
        replace K8 := hidU (K8.out.below hb)
        replace K11 := hidU (K11.out.below hb)
        replace DA := hidU (DA.out.below hb)
        replace DB := hidU (DB.out.below hb)
        replace DP := hidU (DP.out.below hb)
        replace HB := hidU (HB.out.trans (hb.mono HB.out.size))
        clear hb
        have DO := hidU hv
        clear hv
        have hb := b0_any h1a (.cells #[.int .i64 p1, .int .i64 p2, .slice ova ovk ovc] 30)
        go_upto_region 31 with fail
        obtain ⟨h2a, hY⟩ : ∃ Y, Y = h1a.alloc (.cells #[.int .i64 p1, .int .i64 p2, .slice ova ovk ovc] 30) := ⟨_, rfl⟩
        obtain ⟨B27, hF⟩ : ∃ F, F = h1a.heap.size := ⟨_, rfl⟩
        have K27 : Hid (IsB h2a B27 #[.int .i64 p1, .int .i64 p2, .slice ova ovk ovc] 30) := by show IsB _ _ _ _; rw [hY, hF]; exact IsB.new _ _ _
        rw [← hY] at hb
        rw [← hY, ← hF]
        clear hY hF
        replace K7 := hidU (K7.out.below hb)
        replace K8 := hidU (K8.out.below hb)
        replace K11 := hidU (K11.out.below hb)
        replace DA := hidU (DA.out.below hb)
        replace DB := hidU (DB.out.below hb)
        replace DP := hidU (DP.out.below hb)
        replace DO := hidU (DO.out.below hb)
        replace HB := hidU (HB.out.trans (hb.mono HB.out.size))
        clear hb
        have okp2 : (p5 == p5) = true := by simp
        obtain ⟨zz00, zz01, zz02⟩ := K27.out.c3
        obtain ⟨zz10, zz11, zz12⟩ := K11.out.c3
        go_wp2_with fail
        refine (likeQua p1 p2 _ _ px _ HTL.out DO.out DP.out).mono ?_
        rintro e h3a ⟨rfl, hb⟩
        clear zz00 zz01 zz02 zz10 zz11 zz12
        replace K7 := hidU (K7.out.below hb)
        replace K8 := hidU (K8.out.below hb)
        replace K11 := hidU (K11.out.below hb)
        replace DA := hidU (DA.out.below hb)
        replace DB := hidU (DB.out.below hb)
        replace DP := hidU (DP.out.below hb)
        replace DO := hidU (DO.out.below hb)
        replace K27 := hidU (K27.out.below hb)
        replace HB := hidU (HB.out.trans (hb.mono HB.out.size))
        clear hb
        go_wp2
        go_ret
        exact ⟨rfl, HB.out⟩
  have HJ := hidU (fun W h0 => iIn_rd q1 q2 (.slice qva qvk qvc) qx s W h0 (HS.out.small (by decide)) HS.out.lt)
  have HJE : Hid ((inI (q1, q2) qx s.data.toList).2.2 = true → (inI (q1, q2) qx s.data.toList).1 = n ∧ (inI (q1, q2) qx s.data.toList).2.1 = d) := by
    intro h
    have h2 := in_meas (v := (n, d)) (l := s.data.toList) (by rw [HQ.out]) (by rw [HQ.out]; exact h)
    rw [HQ.out] at h2
    exact h2
  have HSD := hidU (fun W => sDimsL s W HS.out (by decide))
  have HDE := hidU (measI_dims (v := (n, d)) (l := s.data.toList) (by rw [HQ.out]))
  rw [← HDE.out, HQ.out] at HSD
  simp only at HSD
  obtain ⟨⟨j1, j2, j5⟩, hj⟩ : ∃ x, x = inI (q1, q2) qx s.data.toList := ⟨_, rfl⟩
  rw [← hj] at HJ HJE
  simp only at HJ HJE
  clear hj HDE
  obtain ⟨zz00, zz01, zz02⟩ := K5.out.c3
  go_wp2_with fail
  refine (HJ.out _ DQ.out).mono ?_
  rintro e v13 ⟨rfl, hb⟩
  clear zz00 zz01 zz02
  replace K3 := hidU (K3.out.below hb)
  replace DQ := hidU (DQ.out.below hb)
  replace K5 := hidU (K5.out.below hb)
  replace DA := hidU (DA.out.below hb)
  replace DB := hidU (DB.out.below hb)
  replace K7 := hidU (K7.out.below hb)
  replace K8 := hidU (K8.out.below hb)
  replace DS := hidU (DS.out.below hb)
  replace K9 := hidU (K9.out.below hb)
  replace DP := hidU (DP.out.below hb)
  replace K11 := hidU (K11.out.below hb)
  replace HB := hidU (HB.out.trans (hb.mono HB.out.size))
  clear hb
  have hb := b0_any v13 (.cells #[.int .i64 j1, .int .i64 j2] 25)
  go_upto_region 24 with fail
  obtain ⟨Y12, hY⟩ : ∃ Y, Y = v13.alloc (.cells #[.int .i64 j1, .int .i64 j2] 25) := ⟨_, rfl⟩
  obtain ⟨B25, hF⟩ : ∃ F, F = v13.heap.size := ⟨_, rfl⟩
  have K25 : Hid (IsB Y12 B25 #[.int .i64 j1, .int .i64 j2] 25) := by show IsB _ _ _ _; rw [hY, hF]; exact IsB.new _ _ _
  rw [← hY] at hb
  rw [← hY, ← hF]
  clear hY hF
  replace K3 := hidU (K3.out.below hb)
  replace DQ := hidU (DQ.out.below hb)
  replace K5 := hidU (K5.out.below hb)
  replace DA := hidU (DA.out.below hb)
  replace DB := hidU (DB.out.below hb)
  replace K7 := hidU (K7.out.below hb)
  replace K8 := hidU (K8.out.below hb)
  replace DS := hidU (DS.out.below hb)
  replace K9 := hidU (K9.out.below hb)
  replace DP := hidU (DP.out.below hb)
  replace K11 := hidU (K11.out.below hb)
  replace HB := hidU (HB.out.trans (hb.mono HB.out.size))
  clear hb
  go_cut [156] from 143 to 199 (fun c wx => c = .bool false ∧ Hid (IsB wx B7 #[.int .i64 an, .int .i64 ad, .slice ava avk avc] 30) ∧ Hid (IsB wx B8 #[.int .i64 bn, .int .i64 bd, .slice bva bvk bvc] 30) ∧ Hid (IsB wx B9 #[.int .i64 s1, .int .i64 s2, .slice sva svk svc] 30) ∧ Hid (IsB wx B11 #[.int .i64 p1, .int .i64 p2, .slice pva pvk pvc] 30) ∧ Hid (DimIn wx (.slice ava avk avc) ax) ∧ Hid (DimIn wx (.slice bva bvk bvc) bx) ∧ Hid (RdU wx (.slice sva svk svc) sx) ∧ Hid (RdU wx (.slice pva pvk pvc) px) ∧ Hid (Below w.heap.size w wx))
  case first =>
    cases j5
    · skip
      have hb := (Below.refl Y12.heap.size Y12).drew
      replace K3 := hidU (K3.out.below hb)
      replace DQ := hidU (DQ.out.below hb)
      replace K5 := hidU (K5.out.below hb)
      replace DA := hidU (DA.out.below hb)
      replace DB := hidU (DB.out.below hb)
      replace K7 := hidU (K7.out.below hb)
      replace K8 := hidU (K8.out.below hb)
      replace DS := hidU (DS.out.below hb)
      replace K9 := hidU (K9.out.below hb)
      replace DP := hidU (DP.out.below hb)
      replace K11 := hidU (K11.out.below hb)
      replace K25 := hidU (K25.out.below hb)
      replace HB := hidU (HB.out.trans (hb.mono HB.out.size))
      clear hb
      refine wp_region_noPanic ?_
      refine wp_region_held_drew (S := fun W => IsB W B25 #[.int .i64 j1, .int .i64 j2] 25 ∧ IsB W B3 #[.int .i64 n, .int .i64 d] 25 ∧ IsB W B5 #[.int .i64 q1, .int .i64 q2, .slice qva qvk qvc] 30) (by kernel_rfl) ⟨K25.out, K3.out, K5.out⟩ (fun hHeld => ?_)
      obtain ⟨wc1, hwd⟩ : ∃ u, u = Y12.drew := ⟨_, rfl⟩
      rw [← hwd] at K3 DQ K5 DA DB K7 K8 DS K9 DP K11 K25 HB hHeld ⊢
      clear hwd
      refine wpAnyH_take (i := 0) (v := .bool false) rfl (by kernel_rfl) (by kernel_rfl) (by kernel_rfl) (fun _ _ _ h => h) (Or.inl ⟨by kernel_rfl, ?_⟩) hHeld ?_
      skip
      · intro wz hSw; obtain ⟨hS0, hS1, hS2⟩ := hSw; obtain ⟨p0_0, p0_1⟩ := hS0.c2; obtain ⟨p1_0, p1_1⟩ := hS1.c2; obtain ⟨p2_0, p2_1, p2_2⟩ := hS2.c3; clear hS0 hS1 hS2; go_simp; all_goals (try with_reducible rfl)
      (try simp only [List.getElem_toArray]); (try simp only [List.getElem_cons_succ]); (try simp only [List.getElem_cons_zero]); (try simp only [Act.put]); (try simp only [List.setIfInBounds_toArray]); (try simp only [List.set_cons_succ]); (try simp only [List.set_cons_zero])
      refine wpAnyH_take (i := 1) (v := .bool false) rfl (by kernel_rfl) (by kernel_rfl) (by kernel_rfl) (fun _ _ _ h => h) (Or.inl ⟨by kernel_rfl, ?_⟩) hHeld ?_
      skip
      · intro wz hSw; obtain ⟨hS0, hS1, hS2⟩ := hSw; obtain ⟨p0_0, p0_1⟩ := hS0.c2; obtain ⟨p1_0, p1_1⟩ := hS1.c2; obtain ⟨p2_0, p2_1, p2_2⟩ := hS2.c3; clear hS0 hS1 hS2; go_simp; all_goals (try with_reducible rfl)
      (try simp only [List.getElem_toArray]); (try simp only [List.getElem_cons_succ]); (try simp only [List.getElem_cons_zero]); (try simp only [Act.put]); (try simp only [List.setIfInBounds_toArray]); (try simp only [List.set_cons_succ]); (try simp only [List.set_cons_zero])
      refine wpAnyH_take (i := 2) (v := undef) rfl (by kernel_rfl) (by kernel_rfl) (by kernel_rfl) (fun _ _ _ h => h) (Or.inr ⟨by kernel_rfl, rfl⟩) hHeld ?_
      (try simp only [List.getElem_toArray]); (try simp only [List.getElem_cons_succ]); (try simp only [List.getElem_cons_zero]); (try simp only [Act.put]); (try simp only [List.setIfInBounds_toArray]); (try simp only [List.set_cons_succ]); (try simp only [List.set_cons_zero])
      refine wpAnyH_take (i := 3) (v := undef) rfl (by kernel_rfl) (by kernel_rfl) (by kernel_rfl) (fun _ _ _ h => h) (Or.inr ⟨by kernel_rfl, rfl⟩) hHeld ?_
      (try simp only [List.getElem_toArray]); (try simp only [List.getElem_cons_succ]); (try simp only [List.getElem_cons_zero]); (try simp only [Act.put]); (try simp only [List.setIfInBounds_toArray]); (try simp only [List.set_cons_succ]); (try simp only [List.set_cons_zero])
      refine wpAnyH_take (i := 4) (v := undef) rfl (by kernel_rfl) (by kernel_rfl) (by kernel_rfl) (fun _ _ _ h => h) (Or.inr ⟨by kernel_rfl, rfl⟩) hHeld ?_
      (try simp only [List.getElem_toArray]); (try simp only [List.getElem_cons_succ]); (try simp only [List.getElem_cons_zero]); (try simp only [Act.put]); (try simp only [List.setIfInBounds_toArray]); (try simp only [List.set_cons_succ]); (try simp only [List.set_cons_zero])
      refine wpAnyH_take (i := 5) (v := .bool false) rfl (by kernel_rfl) (by kernel_rfl) (by kernel_rfl) (fun _ _ _ h => h) (Or.inl ⟨by kernel_rfl, ?_⟩) hHeld ?_
      skip
      · intro wz hSw; obtain ⟨hS0, hS1, hS2⟩ := hSw; obtain ⟨p0_0, p0_1⟩ := hS0.c2; obtain ⟨p1_0, p1_1⟩ := hS1.c2; obtain ⟨p2_0, p2_1, p2_2⟩ := hS2.c3; clear hS0 hS1 hS2; go_simp; all_goals (try with_reducible rfl)
      (try simp only [List.getElem_toArray]); (try simp only [List.getElem_cons_succ]); (try simp only [List.getElem_cons_zero]); (try simp only [Act.put]); (try simp only [List.setIfInBounds_toArray]); (try simp only [List.set_cons_succ]); (try simp only [List.set_cons_zero])
      refine wpAnyH_take (i := 6) (v := .bool false) rfl (by kernel_rfl) (by kernel_rfl) (by kernel_rfl) (fun _ _ _ h => h) (Or.inl ⟨by kernel_rfl, ?_⟩) hHeld ?_
      skip
      · intro wz hSw; obtain ⟨hS0, hS1, hS2⟩ := hSw; obtain ⟨p0_0, p0_1⟩ := hS0.c2; obtain ⟨p1_0, p1_1⟩ := hS1.c2; obtain ⟨p2_0, p2_1, p2_2⟩ := hS2.c3; clear hS0 hS1 hS2; go_simp; all_goals (try with_reducible rfl)
      (try simp only [List.getElem_toArray]); (try simp only [List.getElem_cons_succ]); (try simp only [List.getElem_cons_zero]); (try simp only [Act.put]); (try simp only [List.setIfInBounds_toArray]); (try simp only [List.set_cons_succ]); (try simp only [List.set_cons_zero])
      refine wpAnyH_take (i := 7) (v := ?_) rfl (by kernel_rfl) (by kernel_rfl) (by kernel_rfl) (fun _ _ _ h => h) (Or.inl ⟨by kernel_rfl, ?_⟩) hHeld ?_
      rotate_left
      · intro wz hSw; obtain ⟨hS0, hS1, hS2⟩ := hSw; obtain ⟨p0_0, p0_1⟩ := hS0.c2; obtain ⟨p1_0, p1_1⟩ := hS1.c2; obtain ⟨p2_0, p2_1, p2_2⟩ := hS2.c3; clear hS0 hS1 hS2; go_simp; all_goals (try with_reducible rfl)
      (try simp only [List.getElem_toArray]); (try simp only [List.getElem_cons_succ]); (try simp only [List.getElem_cons_zero]); (try simp only [Act.put]); (try simp only [List.setIfInBounds_toArray]); (try simp only [List.set_cons_succ]); (try simp only [List.set_cons_zero])
      refine wpAnyH_take (i := 8) (v := ?_) rfl (by kernel_rfl) (by kernel_rfl) (by kernel_rfl) (fun _ _ _ h => h) (Or.inl ⟨by kernel_rfl, ?_⟩) hHeld ?_
      rotate_left
      · intro wz hSw; obtain ⟨hS0, hS1, hS2⟩ := hSw; obtain ⟨p0_0, p0_1⟩ := hS0.c2; obtain ⟨p1_0, p1_1⟩ := hS1.c2; obtain ⟨p2_0, p2_1, p2_2⟩ := hS2.c3; clear hS0 hS1 hS2; go_simp; all_goals (try with_reducible rfl)
      (try simp only [List.getElem_toArray]); (try simp only [List.getElem_cons_succ]); (try simp only [List.getElem_cons_zero]); (try simp only [Act.put]); (try simp only [List.setIfInBounds_toArray]); (try simp only [List.set_cons_succ]); (try simp only [List.set_cons_zero])
      refine wpAnyH_take (i := 9) (v := ?_) rfl (by kernel_rfl) (by kernel_rfl) (by kernel_rfl) (fun _ _ _ h => h) (Or.inl ⟨by kernel_rfl, ?_⟩) hHeld ?_
      rotate_left
      · intro wz hSw; obtain ⟨hS0, hS1, hS2⟩ := hSw; obtain ⟨p0_0, p0_1⟩ := hS0.c2; obtain ⟨p1_0, p1_1⟩ := hS1.c2; obtain ⟨p2_0, p2_1, p2_2⟩ := hS2.c3; clear hS0 hS1 hS2; go_simp; all_goals (try with_reducible rfl)
      (try simp only [List.getElem_toArray]); (try simp only [List.getElem_cons_succ]); (try simp only [List.getElem_cons_zero]); (try simp only [Act.put]); (try simp only [List.setIfInBounds_toArray]); (try simp only [List.set_cons_succ]); (try simp only [List.set_cons_zero])
      refine wpAnyH_ready (rs := [10]) (by kernel_rfl) (by simp) (AllReadyH.cons rfl (fun Kc hKc => ?_) AllReadyH.nil)
      go_simp
      refine (HSD.out _).mono ?_
      rintro e k1a ⟨dv, rfl, hv, hb⟩
      replace K3 := hidU (K3.out.below hb)
      replace DQ := hidU (DQ.out.below hb)
      replace K5 := hidU (K5.out.below hb)
      replace DA := hidU (DA.out.below hb)
      replace DB := hidU (DB.out.below hb)
      replace K7 := hidU (K7.out.below hb)
      replace K8 := hidU (K8.out.below hb)
      replace DS := hidU (DS.out.below hb)
      replace K9 := hidU (K9.out.below hb)
      replace DP := hidU (DP.out.below hb)
      replace K11 := hidU (K11.out.below hb)
      replace K25 := hidU (K25.out.below hb)
      replace HB := hidU (HB.out.trans (hb.mono HB.out.size))
      clear hb
      have DD := hidU hv
      clear hv
      go_wp2_with fail
      refine hKc.out _ _ ⟨K25.out, K3.out, K5.out⟩ (fun hHeld => ?_)
      clear hKc Kc
      (try simp only [List.getElem_toArray]); (try simp only [List.getElem_cons_succ]); (try simp only [List.getElem_cons_zero]); (try simp only [Act.put]); (try simp only [List.setIfInBounds_toArray]); (try simp only [List.set_cons_succ]); (try simp only [List.set_cons_zero])
      refine wpAnyH_ready (rs := [11]) (by kernel_rfl) (by simp) (AllReadyH.cons rfl (fun Kc hKc => ?_) AllReadyH.nil)
      go_simp
      refine (likeSame _ _ qx _ HQL.out DQ.out DD.out).mono ?_
      rintro e k2a ⟨rfl, hb⟩
      replace K3 := hidU (K3.out.below hb)
      replace DQ := hidU (DQ.out.below hb)
      replace K5 := hidU (K5.out.below hb)
      replace DA := hidU (DA.out.below hb)
      replace DB := hidU (DB.out.below hb)
      replace K7 := hidU (K7.out.below hb)
      replace K8 := hidU (K8.out.below hb)
      replace DS := hidU (DS.out.below hb)
      replace K9 := hidU (K9.out.below hb)
      replace DP := hidU (DP.out.below hb)
      replace K11 := hidU (K11.out.below hb)
      replace K25 := hidU (K25.out.below hb)
      replace DD := hidU (DD.out.below hb)
      replace HB := hidU (HB.out.trans (hb.mono HB.out.size))
      clear hb
      go_wp2_with fail
      refine hKc.out _ _ ⟨K25.out, K3.out, K5.out⟩ (fun hHeld => ?_)
      clear hKc Kc
      (try simp only [List.getElem_toArray]); (try simp only [List.getElem_cons_succ]); (try simp only [List.getElem_cons_zero]); (try simp only [Act.put]); (try simp only [List.setIfInBounds_toArray]); (try simp only [List.set_cons_succ]); (try simp only [List.set_cons_zero])
      refine wpAnyH_take (i := 12) (v := .bool false) rfl (by kernel_rfl) (by kernel_rfl) (by kernel_rfl) (fun _ _ _ h => h) (Or.inl ⟨by kernel_rfl, ?_⟩) hHeld ?_
      skip
      · intro wz hSw; obtain ⟨hS0, hS1, hS2⟩ := hSw; obtain ⟨p0_0, p0_1⟩ := hS0.c2; obtain ⟨p1_0, p1_1⟩ := hS1.c2; obtain ⟨p2_0, p2_1, p2_2⟩ := hS2.c3; clear hS0 hS1 hS2; go_simp; all_goals (try with_reducible rfl)
      (try simp only [List.getElem_toArray]); (try simp only [List.getElem_cons_succ]); (try simp only [List.getElem_cons_zero]); (try simp only [Act.put]); (try simp only [List.setIfInBounds_toArray]); (try simp only [List.set_cons_succ]); (try simp only [List.set_cons_zero])
      refine wpAnyH_take (i := 13) (v := .bool false) rfl (by kernel_rfl) (by kernel_rfl) (by kernel_rfl) (fun _ _ _ h => h) (Or.inl ⟨by kernel_rfl, ?_⟩) hHeld ?_
      skip
      · intro wz hSw; obtain ⟨hS0, hS1, hS2⟩ := hSw; obtain ⟨p0_0, p0_1⟩ := hS0.c2; obtain ⟨p1_0, p1_1⟩ := hS1.c2; obtain ⟨p2_0, p2_1, p2_2⟩ := hS2.c3; clear hS0 hS1 hS2; go_simp; all_goals (try with_reducible rfl)
      (try simp only [List.getElem_toArray]); (try simp only [List.getElem_cons_succ]); (try simp only [List.getElem_cons_zero]); (try simp only [Act.put]); (try simp only [List.setIfInBounds_toArray]); (try simp only [List.set_cons_succ]); (try simp only [List.set_cons_zero])
      refine wpAnyH_done (by kernel_rfl) ?_ _
      refine NoPanic.normal ?_
      clear hHeld
      go_wp2_with fail
      go_meet
      case rel => exact ⟨rfl, K7.out, K8.out, K9.out, K11.out, DA.out, DB.out, DS.out, DP.out, HB.out⟩
    obtain ⟨rfl, rfl⟩ := HJE.out (by first | exact rfl | exact trivial)
    have hb := (Below.refl Y12.heap.size Y12).drew
    replace K3 := hidU (K3.out.below hb)
    replace DQ := hidU (DQ.out.below hb)
    replace K5 := hidU (K5.out.below hb)
    replace DA := hidU (DA.out.below hb)
    replace DB := hidU (DB.out.below hb)
    replace K7 := hidU (K7.out.below hb)
    replace K8 := hidU (K8.out.below hb)
    replace DS := hidU (DS.out.below hb)
    replace K9 := hidU (K9.out.below hb)
    replace DP := hidU (DP.out.below hb)
    replace K11 := hidU (K11.out.below hb)
    replace K25 := hidU (K25.out.below hb)
    replace HB := hidU (HB.out.trans (hb.mono HB.out.size))
    clear hb
    refine wp_region_noPanic ?_
    refine wp_region_held_drew (S := fun W => IsB W B25 #[.int .i64 j1, .int .i64 j2] 25 ∧ IsB W B3 #[.int .i64 j1, .int .i64 j2] 25 ∧ IsB W B5 #[.int .i64 q1, .int .i64 q2, .slice qva qvk qvc] 30) (by kernel_rfl) ⟨K25.out, K3.out, K5.out⟩ (fun hHeld => ?_)
    obtain ⟨wc2, hwd⟩ : ∃ u, u = Y12.drew := ⟨_, rfl⟩
    rw [← hwd] at K3 DQ K5 DA DB K7 K8 DS K9 DP K11 K25 HB hHeld ⊢
    clear hwd
    refine wpAnyH_take (i := 0) (v := .bool true) rfl (by kernel_rfl) (by kernel_rfl) (by kernel_rfl) (fun _ _ _ h => h) (Or.inl ⟨by kernel_rfl, ?_⟩) hHeld ?_
    skip
    · intro wz hSw; obtain ⟨hS0, hS1, hS2⟩ := hSw; obtain ⟨p0_0, p0_1⟩ := hS0.c2; obtain ⟨p1_0, p1_1⟩ := hS1.c2; obtain ⟨p2_0, p2_1, p2_2⟩ := hS2.c3; clear hS0 hS1 hS2; go_simp; all_goals (try with_reducible rfl)
    (try simp only [List.getElem_toArray]); (try simp only [List.getElem_cons_succ]); (try simp only [List.getElem_cons_zero]); (try simp only [Act.put]); (try simp only [List.setIfInBounds_toArray]); (try simp only [List.set_cons_succ]); (try simp only [List.set_cons_zero])
    refine wpAnyH_take (i := 1) (v := .bool true) rfl (by kernel_rfl) (by kernel_rfl) (by kernel_rfl) (fun _ _ _ h => h) (Or.inl ⟨by kernel_rfl, ?_⟩) hHeld ?_
    skip
    · intro wz hSw; obtain ⟨hS0, hS1, hS2⟩ := hSw; obtain ⟨p0_0, p0_1⟩ := hS0.c2; obtain ⟨p1_0, p1_1⟩ := hS1.c2; obtain ⟨p2_0, p2_1, p2_2⟩ := hS2.c3; clear hS0 hS1 hS2; go_simp; all_goals (try with_reducible rfl)
    (try simp only [List.getElem_toArray]); (try simp only [List.getElem_cons_succ]); (try simp only [List.getElem_cons_zero]); (try simp only [Act.put]); (try simp only [List.setIfInBounds_toArray]); (try simp only [List.set_cons_succ]); (try simp only [List.set_cons_zero])
    refine wpAnyH_take (i := 2) (v := ?_) rfl (by kernel_rfl) (by kernel_rfl) (by kernel_rfl) (fun _ _ _ h => h) (Or.inl ⟨by kernel_rfl, ?_⟩) hHeld ?_
    rotate_left
    · intro wz hSw; obtain ⟨hS0, hS1, hS2⟩ := hSw; obtain ⟨p0_0, p0_1⟩ := hS0.c2; obtain ⟨p1_0, p1_1⟩ := hS1.c2; obtain ⟨p2_0, p2_1, p2_2⟩ := hS2.c3; clear hS0 hS1 hS2; go_simp; all_goals (try with_reducible rfl)
    (try simp only [List.getElem_toArray]); (try simp only [List.getElem_cons_succ]); (try simp only [List.getElem_cons_zero]); (try simp only [Act.put]); (try simp only [List.setIfInBounds_toArray]); (try simp only [List.set_cons_succ]); (try simp only [List.set_cons_zero])
    refine wpAnyH_take (i := 3) (v := ?_) rfl (by kernel_rfl) (by kernel_rfl) (by kernel_rfl) (fun _ _ _ h => h) (Or.inl ⟨by kernel_rfl, ?_⟩) hHeld ?_
    rotate_left
    · intro wz hSw; obtain ⟨hS0, hS1, hS2⟩ := hSw; obtain ⟨p0_0, p0_1⟩ := hS0.c2; obtain ⟨p1_0, p1_1⟩ := hS1.c2; obtain ⟨p2_0, p2_1, p2_2⟩ := hS2.c3; clear hS0 hS1 hS2; go_simp; all_goals (try with_reducible rfl)
    (try simp only [List.getElem_toArray]); (try simp only [List.getElem_cons_succ]); (try simp only [List.getElem_cons_zero]); (try simp only [Act.put]); (try simp only [List.setIfInBounds_toArray]); (try simp only [List.set_cons_succ]); (try simp only [List.set_cons_zero])
    refine wpAnyH_take (i := 4) (v := .bool false) rfl (by kernel_rfl) (by kernel_rfl) (by kernel_rfl) (fun _ _ _ h => h) (Or.inl ⟨by kernel_rfl, ?_⟩) hHeld ?_
    skip
    · intro wz hSw; obtain ⟨hS0, hS1, hS2⟩ := hSw; obtain ⟨p0_0, p0_1⟩ := hS0.c2; obtain ⟨p1_0, p1_1⟩ := hS1.c2; obtain ⟨p2_0, p2_1, p2_2⟩ := hS2.c3; clear hS0 hS1 hS2; go_simp; all_goals (try with_reducible rfl)
    (try simp only [List.getElem_toArray]); (try simp only [List.getElem_cons_succ]); (try simp only [List.getElem_cons_zero]); (try simp only [Act.put]); (try simp only [List.setIfInBounds_toArray]); (try simp only [List.set_cons_succ]); (try simp only [List.set_cons_zero])
    refine wpAnyH_take (i := 5) (v := .bool false) rfl (by kernel_rfl) (by kernel_rfl) (by kernel_rfl) (fun _ _ _ h => h) (Or.inl ⟨by kernel_rfl, ?_⟩) hHeld ?_
    skip
    · intro wz hSw; obtain ⟨hS0, hS1, hS2⟩ := hSw; obtain ⟨p0_0, p0_1⟩ := hS0.c2; obtain ⟨p1_0, p1_1⟩ := hS1.c2; obtain ⟨p2_0, p2_1, p2_2⟩ := hS2.c3; clear hS0 hS1 hS2; go_simp; all_goals (try with_reducible rfl)
    (try simp only [List.getElem_toArray]); (try simp only [List.getElem_cons_succ]); (try simp only [List.getElem_cons_zero]); (try simp only [Act.put]); (try simp only [List.setIfInBounds_toArray]); (try simp only [List.set_cons_succ]); (try simp only [List.set_cons_zero])
    refine wpAnyH_take (i := 6) (v := .bool false) rfl (by kernel_rfl) (by kernel_rfl) (by kernel_rfl) (fun _ _ _ h => h) (Or.inl ⟨by kernel_rfl, ?_⟩) hHeld ?_
    skip
    · intro wz hSw; obtain ⟨hS0, hS1, hS2⟩ := hSw; obtain ⟨p0_0, p0_1⟩ := hS0.c2; obtain ⟨p1_0, p1_1⟩ := hS1.c2; obtain ⟨p2_0, p2_1, p2_2⟩ := hS2.c3; clear hS0 hS1 hS2; go_simp; all_goals (try with_reducible rfl)
    (try simp only [List.getElem_toArray]); (try simp only [List.getElem_cons_succ]); (try simp only [List.getElem_cons_zero]); (try simp only [Act.put]); (try simp only [List.setIfInBounds_toArray]); (try simp only [List.set_cons_succ]); (try simp only [List.set_cons_zero])
    refine wpAnyH_take (i := 7) (v := ?_) rfl (by kernel_rfl) (by kernel_rfl) (by kernel_rfl) (fun _ _ _ h => h) (Or.inl ⟨by kernel_rfl, ?_⟩) hHeld ?_
    rotate_left
    · intro wz hSw; obtain ⟨hS0, hS1, hS2⟩ := hSw; obtain ⟨p0_0, p0_1⟩ := hS0.c2; obtain ⟨p1_0, p1_1⟩ := hS1.c2; obtain ⟨p2_0, p2_1, p2_2⟩ := hS2.c3; clear hS0 hS1 hS2; go_simp; all_goals (try with_reducible rfl)
    (try simp only [List.getElem_toArray]); (try simp only [List.getElem_cons_succ]); (try simp only [List.getElem_cons_zero]); (try simp only [Act.put]); (try simp only [List.setIfInBounds_toArray]); (try simp only [List.set_cons_succ]); (try simp only [List.set_cons_zero])
    refine wpAnyH_take (i := 8) (v := ?_) rfl (by kernel_rfl) (by kernel_rfl) (by kernel_rfl) (fun _ _ _ h => h) (Or.inl ⟨by kernel_rfl, ?_⟩) hHeld ?_
    rotate_left
    · intro wz hSw; obtain ⟨hS0, hS1, hS2⟩ := hSw; obtain ⟨p0_0, p0_1⟩ := hS0.c2; obtain ⟨p1_0, p1_1⟩ := hS1.c2; obtain ⟨p2_0, p2_1, p2_2⟩ := hS2.c3; clear hS0 hS1 hS2; go_simp; all_goals (try with_reducible rfl)
    (try simp only [List.getElem_toArray]); (try simp only [List.getElem_cons_succ]); (try simp only [List.getElem_cons_zero]); (try simp only [Act.put]); (try simp only [List.setIfInBounds_toArray]); (try simp only [List.set_cons_succ]); (try simp only [List.set_cons_zero])
    refine wpAnyH_take (i := 9) (v := ?_) rfl (by kernel_rfl) (by kernel_rfl) (by kernel_rfl) (fun _ _ _ h => h) (Or.inl ⟨by kernel_rfl, ?_⟩) hHeld ?_
    rotate_left
    · intro wz hSw; obtain ⟨hS0, hS1, hS2⟩ := hSw; obtain ⟨p0_0, p0_1⟩ := hS0.c2; obtain ⟨p1_0, p1_1⟩ := hS1.c2; obtain ⟨p2_0, p2_1, p2_2⟩ := hS2.c3; clear hS0 hS1 hS2; go_simp; all_goals (try with_reducible rfl)
    (try simp only [List.getElem_toArray]); (try simp only [List.getElem_cons_succ]); (try simp only [List.getElem_cons_zero]); (try simp only [Act.put]); (try simp only [List.setIfInBounds_toArray]); (try simp only [List.set_cons_succ]); (try simp only [List.set_cons_zero])
    refine wpAnyH_ready (rs := [10]) (by kernel_rfl) (by simp) (AllReadyH.cons rfl (fun Kc hKc => ?_) AllReadyH.nil)
    go_simp
    refine (HSD.out _).mono ?_
    rintro e k1b ⟨dv, rfl, hv, hb⟩
    replace K3 := hidU (K3.out.below hb)
    replace DQ := hidU (DQ.out.below hb)
    replace K5 := hidU (K5.out.below hb)
    replace DA := hidU (DA.out.below hb)
    replace DB := hidU (DB.out.below hb)
    replace K7 := hidU (K7.out.below hb)
    replace K8 := hidU (K8.out.below hb)
    replace DS := hidU (DS.out.below hb)
    replace K9 := hidU (K9.out.below hb)
    replace DP := hidU (DP.out.below hb)
    replace K11 := hidU (K11.out.below hb)
    replace K25 := hidU (K25.out.below hb)
    replace HB := hidU (HB.out.trans (hb.mono HB.out.size))
    clear hb
    have DD := hidU hv
    clear hv
    go_wp2_with fail
    refine hKc.out _ _ ⟨K25.out, K3.out, K5.out⟩ (fun hHeld => ?_)
    clear hKc Kc
    (try simp only [List.getElem_toArray]); (try simp only [List.getElem_cons_succ]); (try simp only [List.getElem_cons_zero]); (try simp only [Act.put]); (try simp only [List.setIfInBounds_toArray]); (try simp only [List.set_cons_succ]); (try simp only [List.set_cons_zero])
    refine wpAnyH_ready (rs := [11]) (by kernel_rfl) (by simp) (AllReadyH.cons rfl (fun Kc hKc => ?_) AllReadyH.nil)
    go_simp
    refine (likeSame _ _ qx _ HQL.out DQ.out DD.out).mono ?_
    rintro e k2b ⟨rfl, hb⟩
    replace K3 := hidU (K3.out.below hb)
    replace DQ := hidU (DQ.out.below hb)
    replace K5 := hidU (K5.out.below hb)
    replace DA := hidU (DA.out.below hb)
    replace DB := hidU (DB.out.below hb)
    replace K7 := hidU (K7.out.below hb)
    replace K8 := hidU (K8.out.below hb)
    replace DS := hidU (DS.out.below hb)
    replace K9 := hidU (K9.out.below hb)
    replace DP := hidU (DP.out.below hb)
    replace K11 := hidU (K11.out.below hb)
    replace K25 := hidU (K25.out.below hb)
    replace DD := hidU (DD.out.below hb)
    replace HB := hidU (HB.out.trans (hb.mono HB.out.size))
    clear hb
    go_wp2_with fail
    refine hKc.out _ _ ⟨K25.out, K3.out, K5.out⟩ (fun hHeld => ?_)
    clear hKc Kc
    (try simp only [List.getElem_toArray]); (try simp only [List.getElem_cons_succ]); (try simp only [List.getElem_cons_zero]); (try simp only [Act.put]); (try simp only [List.setIfInBounds_toArray]); (try simp only [List.set_cons_succ]); (try simp only [List.set_cons_zero])
    refine wpAnyH_take (i := 12) (v := .bool false) rfl (by kernel_rfl) (by kernel_rfl) (by kernel_rfl) (fun _ _ _ h => h) (Or.inl ⟨by kernel_rfl, ?_⟩) hHeld ?_
    skip
    · intro wz hSw; obtain ⟨hS0, hS1, hS2⟩ := hSw; obtain ⟨p0_0, p0_1⟩ := hS0.c2; obtain ⟨p1_0, p1_1⟩ := hS1.c2; obtain ⟨p2_0, p2_1, p2_2⟩ := hS2.c3; clear hS0 hS1 hS2; go_simp; all_goals (try with_reducible rfl)
    (try simp only [List.getElem_toArray]); (try simp only [List.getElem_cons_succ]); (try simp only [List.getElem_cons_zero]); (try simp only [Act.put]); (try simp only [List.setIfInBounds_toArray]); (try simp only [List.set_cons_succ]); (try simp only [List.set_cons_zero])
    refine wpAnyH_take (i := 13) (v := .bool false) rfl (by kernel_rfl) (by kernel_rfl) (by kernel_rfl) (fun _ _ _ h => h) (Or.inl ⟨by kernel_rfl, ?_⟩) hHeld ?_
    skip
    · intro wz hSw; obtain ⟨hS0, hS1, hS2⟩ := hSw; obtain ⟨p0_0, p0_1⟩ := hS0.c2; obtain ⟨p1_0, p1_1⟩ := hS1.c2; obtain ⟨p2_0, p2_1, p2_2⟩ := hS2.c3; clear hS0 hS1 hS2; go_simp; all_goals (try with_reducible rfl)
    (try simp only [List.getElem_toArray]); (try simp only [List.getElem_cons_succ]); (try simp only [List.getElem_cons_zero]); (try simp only [Act.put]); (try simp only [List.setIfInBounds_toArray]); (try simp only [List.set_cons_succ]); (try simp only [List.set_cons_zero])
    refine wpAnyH_done (by kernel_rfl) ?_ _
    refine NoPanic.normal ?_
    clear hHeld
    go_wp2_with fail
    go_meet
    case rel => exact ⟨rfl, K7.out, K8.out, K9.out, K11.out, DA.out, DB.out, DS.out, DP.out, HB.out⟩
  case rest =>
    obtain ⟨rfl, K7, K8, K9, K11, DA, DB, DS, DP, HB⟩ := hcut
    go_upto_region 26 with fail
    go_cut [173] from 143 to 199 (fun c wx => c = .bool false ∧ Hid (IsB wx B7 #[.int .i64 an, .int .i64 ad, .slice ava avk avc] 30) ∧ Hid (IsB wx B8 #[.int .i64 bn, .int .i64 bd, .slice bva bvk bvc] 30) ∧ Hid (IsB wx B11 #[.int .i64 p1, .int .i64 p2, .slice pva pvk pvc] 30) ∧ Hid (DimIn wx (.slice ava avk avc) ax) ∧ Hid (DimIn wx (.slice bva bvk bvc) bx) ∧ Hid (RdU wx (.slice pva pvk pvc) px) ∧ Hid (Below w.heap.size w wx))
    case first =>
      cases s5
      · go_wp2
        go_meet
        case rel => exact ⟨rfl, K7.out, K8.out, K11.out, DA.out, DB.out, DP.out, HB.out⟩
      have HPD2 := hidU (HPD.out (by first | exact rfl | exact trivial))
      obtain ⟨zz00, zz01, zz02⟩ := K7.out.c3
      obtain ⟨zz10, zz11, zz12⟩ := K8.out.c3
      go_wp2_with fail
      refine (likeSame _ _ ax _ (by rw [HPD2.out.2.2]; exact Nat.le_refl _) (DA.out.rdU HPD2.out.2.2) (by have := DB.out.rdU (by rw [← HPD2.out.1]; exact HPD2.out.2.2); rw [← HPD2.out.1] at this; exact this)).mono ?_
      rintro e g1b ⟨rfl, hb⟩
      clear zz00 zz01 zz02 zz10 zz11 zz12
      replace K7 := hidU (K7.out.below hb)
      replace K8 := hidU (K8.out.below hb)
      replace K9 := hidU (K9.out.below hb)
      replace K11 := hidU (K11.out.below hb)
      replace DA := hidU (DA.out.below hb)
      replace DB := hidU (DB.out.below hb)
      replace DS := hidU (DS.out.below hb)
      replace DP := hidU (DP.out.below hb)
      replace HB := hidU (HB.out.trans (hb.mono HB.out.size))
      clear hb
      obtain ⟨zz00, zz01, zz02⟩ := K9.out.c3
      obtain ⟨zz10, zz11, zz12⟩ := K7.out.c3
      go_wp2_with fail
      refine (likeSame _ _ ax _ (by rw [HPD2.out.2.2]; exact Nat.le_refl _) (by have := DS.out; rw [HPD2.out.2.1] at this; exact this) (DA.out.rdU HPD2.out.2.2)).mono ?_
      rintro e g2b ⟨rfl, hb⟩
      clear zz00 zz01 zz02 zz10 zz11 zz12
      replace K7 := hidU (K7.out.below hb)
      replace K8 := hidU (K8.out.below hb)
      replace K9 := hidU (K9.out.below hb)
      replace K11 := hidU (K11.out.below hb)
      replace DA := hidU (DA.out.below hb)
      replace DB := hidU (DB.out.below hb)
      replace DS := hidU (DS.out.below hb)
      replace DP := hidU (DP.out.below hb)
      replace HB := hidU (HB.out.trans (hb.mono HB.out.size))
      clear hb
      go_wp2
      go_meet
      case rel => exact ⟨rfl, K7.out, K8.out, K11.out, DA.out, DB.out, DP.out, HB.out⟩
    case rest =>
      obtain ⟨rfl, K7, K8, K11, DA, DB, DP, HB⟩ := hcut
      go_upto_region 28 with fail
      go_cut [185] from 143 to 199 (fun c wx => c = .bool false ∧ Hid (IsB wx B7 #[.int .i64 an, .int .i64 ad, .slice ava avk avc] 30) ∧ Hid (IsB wx B8 #[.int .i64 bn, .int .i64 bd, .slice bva bvk bvc] 30) ∧ Hid (IsB wx B11 #[.int .i64 p1, .int .i64 p2, .slice pva pvk pvc] 30) ∧ Hid (DimIn wx (.slice ava avk avc) ax) ∧ Hid (DimIn wx (.slice bva bvk bvc) bx) ∧ Hid (RdU wx (.slice pva pvk pvc) px) ∧ Hid (Below w.heap.size w wx))
      case first =>
        cases p5
        · skip
          have hb := (Below.refl wc.heap.size wc).drew
          replace K7 := hidU (K7.out.below hb)
          replace K8 := hidU (K8.out.below hb)
          replace K11 := hidU (K11.out.below hb)
          replace DA := hidU (DA.out.below hb)
          replace DB := hidU (DB.out.below hb)
          replace DP := hidU (DP.out.below hb)
          replace HB := hidU (HB.out.trans (hb.mono HB.out.size))
          clear hb
          refine wp_region_noPanic ?_
          refine wp_region_held_drew (S := fun W => IsB W B11 #[.int .i64 p1, .int .i64 p2, .slice pva pvk pvc] 30 ∧ IsB W B7 #[.int .i64 an, .int .i64 ad, .slice ava avk avc] 30 ∧ IsB W B8 #[.int .i64 bn, .int .i64 bd, .slice bva bvk bvc] 30) (by kernel_rfl) ⟨K11.out, K7.out, K8.out⟩ (fun hHeld => ?_)
          obtain ⟨wab, hwd⟩ : ∃ u, u = wc.drew := ⟨_, rfl⟩
          rw [← hwd] at K7 K8 K11 DA DB DP HB hHeld ⊢
          clear hwd
          refine wpAnyH_take (i := 0) (v := .bool false) rfl (by kernel_rfl) (by kernel_rfl) (by kernel_rfl) (fun _ _ _ h => h) (Or.inl ⟨by kernel_rfl, ?_⟩) hHeld ?_
          skip
          · intro wz hSw; obtain ⟨hS0, hS1, hS2⟩ := hSw; obtain ⟨p0_0, p0_1, p0_2⟩ := hS0.c3; obtain ⟨p1_0, p1_1, p1_2⟩ := hS1.c3; obtain ⟨p2_0, p2_1, p2_2⟩ := hS2.c3; clear hS0 hS1 hS2; go_simp; all_goals (try with_reducible rfl)
          (try simp only [List.getElem_toArray]); (try simp only [List.getElem_cons_succ]); (try simp only [List.getElem_cons_zero]); (try simp only [Act.put]); (try simp only [List.setIfInBounds_toArray]); (try simp only [List.set_cons_succ]); (try simp only [List.set_cons_zero])
          refine wpAnyH_take (i := 1) (v := .bool false) rfl (by kernel_rfl) (by kernel_rfl) (by kernel_rfl) (fun _ _ _ h => h) (Or.inl ⟨by kernel_rfl, ?_⟩) hHeld ?_
          skip
          · intro wz hSw; obtain ⟨hS0, hS1, hS2⟩ := hSw; obtain ⟨p0_0, p0_1, p0_2⟩ := hS0.c3; obtain ⟨p1_0, p1_1, p1_2⟩ := hS1.c3; obtain ⟨p2_0, p2_1, p2_2⟩ := hS2.c3; clear hS0 hS1 hS2; go_simp; all_goals (try with_reducible rfl)
          (try simp only [List.getElem_toArray]); (try simp only [List.getElem_cons_succ]); (try simp only [List.getElem_cons_zero]); (try simp only [Act.put]); (try simp only [List.setIfInBounds_toArray]); (try simp only [List.set_cons_succ]); (try simp only [List.set_cons_zero])
          refine wpAnyH_take (i := 2) (v := undef) rfl (by kernel_rfl) (by kernel_rfl) (by kernel_rfl) (fun _ _ _ h => h) (Or.inr ⟨by kernel_rfl, rfl⟩) hHeld ?_
          (try simp only [List.getElem_toArray]); (try simp only [List.getElem_cons_succ]); (try simp only [List.getElem_cons_zero]); (try simp only [Act.put]); (try simp only [List.setIfInBounds_toArray]); (try simp only [List.set_cons_succ]); (try simp only [List.set_cons_zero])
          refine wpAnyH_take (i := 3) (v := undef) rfl (by kernel_rfl) (by kernel_rfl) (by kernel_rfl) (fun _ _ _ h => h) (Or.inr ⟨by kernel_rfl, rfl⟩) hHeld ?_
          (try simp only [List.getElem_toArray]); (try simp only [List.getElem_cons_succ]); (try simp only [List.getElem_cons_zero]); (try simp only [Act.put]); (try simp only [List.setIfInBounds_toArray]); (try simp only [List.set_cons_succ]); (try simp only [List.set_cons_zero])
          refine wpAnyH_take (i := 4) (v := undef) rfl (by kernel_rfl) (by kernel_rfl) (by kernel_rfl) (fun _ _ _ h => h) (Or.inr ⟨by kernel_rfl, rfl⟩) hHeld ?_
          (try simp only [List.getElem_toArray]); (try simp only [List.getElem_cons_succ]); (try simp only [List.getElem_cons_zero]); (try simp only [Act.put]); (try simp only [List.setIfInBounds_toArray]); (try simp only [List.set_cons_succ]); (try simp only [List.set_cons_zero])
          refine wpAnyH_take (i := 5) (v := undef) rfl (by kernel_rfl) (by kernel_rfl) (by kernel_rfl) (fun _ _ _ h => h) (Or.inr ⟨by kernel_rfl, rfl⟩) hHeld ?_
          (try simp only [List.getElem_toArray]); (try simp only [List.getElem_cons_succ]); (try simp only [List.getElem_cons_zero]); (try simp only [Act.put]); (try simp only [List.setIfInBounds_toArray]); (try simp only [List.set_cons_succ]); (try simp only [List.set_cons_zero])
          refine wpAnyH_take (i := 6) (v := undef) rfl (by kernel_rfl) (by kernel_rfl) (by kernel_rfl) (fun _ _ _ h => h) (Or.inr ⟨by kernel_rfl, rfl⟩) hHeld ?_
          (try simp only [List.getElem_toArray]); (try simp only [List.getElem_cons_succ]); (try simp only [List.getElem_cons_zero]); (try simp only [Act.put]); (try simp only [List.setIfInBounds_toArray]); (try simp only [List.set_cons_succ]); (try simp only [List.set_cons_zero])
          refine wpAnyH_take (i := 7) (v := undef) rfl (by kernel_rfl) (by kernel_rfl) (by kernel_rfl) (fun _ _ _ h => h) (Or.inr ⟨by kernel_rfl, rfl⟩) hHeld ?_
          (try simp only [List.getElem_toArray]); (try simp only [List.getElem_cons_succ]); (try simp only [List.getElem_cons_zero]); (try simp only [Act.put]); (try simp only [List.setIfInBounds_toArray]); (try simp only [List.set_cons_succ]); (try simp only [List.set_cons_zero])
          refine wpAnyH_take (i := 8) (v := undef) rfl (by kernel_rfl) (by kernel_rfl) (by kernel_rfl) (fun _ _ _ h => h) (Or.inr ⟨by kernel_rfl, rfl⟩) hHeld ?_
          (try simp only [List.getElem_toArray]); (try simp only [List.getElem_cons_succ]); (try simp only [List.getElem_cons_zero]); (try simp only [Act.put]); (try simp only [List.setIfInBounds_toArray]); (try simp only [List.set_cons_succ]); (try simp only [List.set_cons_zero])
          refine wpAnyH_take (i := 9) (v := undef) rfl (by kernel_rfl) (by kernel_rfl) (by kernel_rfl) (fun _ _ _ h => h) (Or.inr ⟨by kernel_rfl, rfl⟩) hHeld ?_
          (try simp only [List.getElem_toArray]); (try simp only [List.getElem_cons_succ]); (try simp only [List.getElem_cons_zero]); (try simp only [Act.put]); (try simp only [List.setIfInBounds_toArray]); (try simp only [List.set_cons_succ]); (try simp only [List.set_cons_zero])
          refine wpAnyH_take (i := 10) (v := undef) rfl (by kernel_rfl) (by kernel_rfl) (by kernel_rfl) (fun _ _ _ h => h) (Or.inr ⟨by kernel_rfl, rfl⟩) hHeld ?_
          (try simp only [List.getElem_toArray]); (try simp only [List.getElem_cons_succ]); (try simp only [List.getElem_cons_zero]); (try simp only [Act.put]); (try simp only [List.setIfInBounds_toArray]); (try simp only [List.set_cons_succ]); (try simp only [List.set_cons_zero])
          refine wpAnyH_take (i := 11) (v := .bool false) rfl (by kernel_rfl) (by kernel_rfl) (by kernel_rfl) (fun _ _ _ h => h) (Or.inl ⟨by kernel_rfl, ?_⟩) hHeld ?_
          skip
          · intro wz hSw; obtain ⟨hS0, hS1, hS2⟩ := hSw; obtain ⟨p0_0, p0_1, p0_2⟩ := hS0.c3; obtain ⟨p1_0, p1_1, p1_2⟩ := hS1.c3; obtain ⟨p2_0, p2_1, p2_2⟩ := hS2.c3; clear hS0 hS1 hS2; go_simp; all_goals (try with_reducible rfl)
          (try simp only [List.getElem_toArray]); (try simp only [List.getElem_cons_succ]); (try simp only [List.getElem_cons_zero]); (try simp only [Act.put]); (try simp only [List.setIfInBounds_toArray]); (try simp only [List.set_cons_succ]); (try simp only [List.set_cons_zero])
          refine wpAnyH_done (by kernel_rfl) ?_ _
          refine NoPanic.normal ?_
          clear hHeld
          go_wp2_with fail
          go_meet
          case rel => exact ⟨rfl, K7.out, K8.out, K11.out, DA.out, DB.out, DP.out, HB.out⟩
        have HDT : Hid (∀ W : World, DimIn W (.slice ava avk avc) ax → DimIn W (.slice bva bvk bvc) bx → Calls Tryz.prog 21 #[.slice ava avk avc, .slice bva bvk bvc] W fun e w' => ∃ v, e = .returned v ∧ RdU w' v px ∧ Below W.heap.size W w') := by
          intro W h0 h1
          refine (sDimTimes_in _ _ ax bx W h0 h1).mono ?_
          rintro e w' ⟨v, et, rfl, ho, hb⟩
          rw [HTD.out (by first | exact rfl | exact trivial)] at ho
          exact ⟨v, rfl, rdU_own ho, hb⟩
        have hb := (Below.refl wc.heap.size wc).drew
        replace K7 := hidU (K7.out.below hb)
        replace K8 := hidU (K8.out.below hb)
        replace K11 := hidU (K11.out.below hb)
        replace DA := hidU (DA.out.below hb)
        replace DB := hidU (DB.out.below hb)
        replace DP := hidU (DP.out.below hb)
        replace HB := hidU (HB.out.trans (hb.mono HB.out.size))
        clear hb
        refine wp_region_noPanic ?_
        refine wp_region_held_drew (S := fun W => IsB W B11 #[.int .i64 p1, .int .i64 p2, .slice pva pvk pvc] 30 ∧ IsB W B7 #[.int .i64 an, .int .i64 ad, .slice ava avk avc] 30 ∧ IsB W B8 #[.int .i64 bn, .int .i64 bd, .slice bva bvk bvc] 30) (by kernel_rfl) ⟨K11.out, K7.out, K8.out⟩ (fun hHeld => ?_)
        obtain ⟨wbb, hwd⟩ : ∃ u, u = wc.drew := ⟨_, rfl⟩
        rw [← hwd] at K7 K8 K11 DA DB DP HB hHeld ⊢
        clear hwd
        refine wpAnyH_take (i := 0) (v := .bool true) rfl (by kernel_rfl) (by kernel_rfl) (by kernel_rfl) (fun _ _ _ h => h) (Or.inl ⟨by kernel_rfl, ?_⟩) hHeld ?_
        skip
        · intro wz hSw; obtain ⟨hS0, hS1, hS2⟩ := hSw; obtain ⟨p0_0, p0_1, p0_2⟩ := hS0.c3; obtain ⟨p1_0, p1_1, p1_2⟩ := hS1.c3; obtain ⟨p2_0, p2_1, p2_2⟩ := hS2.c3; clear hS0 hS1 hS2; go_simp; all_goals (try with_reducible rfl)
        (try simp only [List.getElem_toArray]); (try simp only [List.getElem_cons_succ]); (try simp only [List.getElem_cons_zero]); (try simp only [Act.put]); (try simp only [List.setIfInBounds_toArray]); (try simp only [List.set_cons_succ]); (try simp only [List.set_cons_zero])
        refine wpAnyH_take (i := 1) (v := .bool true) rfl (by kernel_rfl) (by kernel_rfl) (by kernel_rfl) (fun _ _ _ h => h) (Or.inl ⟨by kernel_rfl, ?_⟩) hHeld ?_
        skip
        · intro wz hSw; obtain ⟨hS0, hS1, hS2⟩ := hSw; obtain ⟨p0_0, p0_1, p0_2⟩ := hS0.c3; obtain ⟨p1_0, p1_1, p1_2⟩ := hS1.c3; obtain ⟨p2_0, p2_1, p2_2⟩ := hS2.c3; clear hS0 hS1 hS2; go_simp; all_goals (try with_reducible rfl)
        (try simp only [List.getElem_toArray]); (try simp only [List.getElem_cons_succ]); (try simp only [List.getElem_cons_zero]); (try simp only [Act.put]); (try simp only [List.setIfInBounds_toArray]); (try simp only [List.set_cons_succ]); (try simp only [List.set_cons_zero])
        refine wpAnyH_take (i := 2) (v := ?_) rfl (by kernel_rfl) (by kernel_rfl) (by kernel_rfl) (fun _ _ _ h => h) (Or.inl ⟨by kernel_rfl, ?_⟩) hHeld ?_
        rotate_left
        · intro wz hSw; obtain ⟨hS0, hS1, hS2⟩ := hSw; obtain ⟨p0_0, p0_1, p0_2⟩ := hS0.c3; obtain ⟨p1_0, p1_1, p1_2⟩ := hS1.c3; obtain ⟨p2_0, p2_1, p2_2⟩ := hS2.c3; clear hS0 hS1 hS2; go_simp; all_goals (try with_reducible rfl)
        (try simp only [List.getElem_toArray]); (try simp only [List.getElem_cons_succ]); (try simp only [List.getElem_cons_zero]); (try simp only [Act.put]); (try simp only [List.setIfInBounds_toArray]); (try simp only [List.set_cons_succ]); (try simp only [List.set_cons_zero])
        refine wpAnyH_take (i := 3) (v := ?_) rfl (by kernel_rfl) (by kernel_rfl) (by kernel_rfl) (fun _ _ _ h => h) (Or.inl ⟨by kernel_rfl, ?_⟩) hHeld ?_
        rotate_left
        · intro wz hSw; obtain ⟨hS0, hS1, hS2⟩ := hSw; obtain ⟨p0_0, p0_1, p0_2⟩ := hS0.c3; obtain ⟨p1_0, p1_1, p1_2⟩ := hS1.c3; obtain ⟨p2_0, p2_1, p2_2⟩ := hS2.c3; clear hS0 hS1 hS2; go_simp; all_goals (try with_reducible rfl)
        (try simp only [List.getElem_toArray]); (try simp only [List.getElem_cons_succ]); (try simp only [List.getElem_cons_zero]); (try simp only [Act.put]); (try simp only [List.setIfInBounds_toArray]); (try simp only [List.set_cons_succ]); (try simp only [List.set_cons_zero])
        refine wpAnyH_take (i := 4) (v := ?_) rfl (by kernel_rfl) (by kernel_rfl) (by kernel_rfl) (fun _ _ _ h => h) (Or.inl ⟨by kernel_rfl, ?_⟩) hHeld ?_
        rotate_left
        · intro wz hSw; obtain ⟨hS0, hS1, hS2⟩ := hSw; obtain ⟨p0_0, p0_1, p0_2⟩ := hS0.c3; obtain ⟨p1_0, p1_1, p1_2⟩ := hS1.c3; obtain ⟨p2_0, p2_1, p2_2⟩ := hS2.c3; clear hS0 hS1 hS2; go_simp; all_goals (try with_reducible rfl)
        (try simp only [List.getElem_toArray]); (try simp only [List.getElem_cons_succ]); (try simp only [List.getElem_cons_zero]); (try simp only [Act.put]); (try simp only [List.setIfInBounds_toArray]); (try simp only [List.set_cons_succ]); (try simp only [List.set_cons_zero])
        refine wpAnyH_take (i := 5) (v := ?_) rfl (by kernel_rfl) (by kernel_rfl) (by kernel_rfl) (fun _ _ _ h => h) (Or.inl ⟨by kernel_rfl, ?_⟩) hHeld ?_
        rotate_left
        · intro wz hSw; obtain ⟨hS0, hS1, hS2⟩ := hSw; obtain ⟨p0_0, p0_1, p0_2⟩ := hS0.c3; obtain ⟨p1_0, p1_1, p1_2⟩ := hS1.c3; obtain ⟨p2_0, p2_1, p2_2⟩ := hS2.c3; clear hS0 hS1 hS2; go_simp; all_goals (try with_reducible rfl)
        (try simp only [List.getElem_toArray]); (try simp only [List.getElem_cons_succ]); (try simp only [List.getElem_cons_zero]); (try simp only [Act.put]); (try simp only [List.setIfInBounds_toArray]); (try simp only [List.set_cons_succ]); (try simp only [List.set_cons_zero])
        refine wpAnyH_take (i := 6) (v := ?_) rfl (by kernel_rfl) (by kernel_rfl) (by kernel_rfl) (fun _ _ _ h => h) (Or.inl ⟨by kernel_rfl, ?_⟩) hHeld ?_
        rotate_left
        · intro wz hSw; obtain ⟨hS0, hS1, hS2⟩ := hSw; obtain ⟨p0_0, p0_1, p0_2⟩ := hS0.c3; obtain ⟨p1_0, p1_1, p1_2⟩ := hS1.c3; obtain ⟨p2_0, p2_1, p2_2⟩ := hS2.c3; clear hS0 hS1 hS2; go_simp; all_goals (try with_reducible rfl)
        (try simp only [List.getElem_toArray]); (try simp only [List.getElem_cons_succ]); (try simp only [List.getElem_cons_zero]); (try simp only [Act.put]); (try simp only [List.setIfInBounds_toArray]); (try simp only [List.set_cons_succ]); (try simp only [List.set_cons_zero])
        refine wpAnyH_take (i := 7) (v := ?_) rfl (by kernel_rfl) (by kernel_rfl) (by kernel_rfl) (fun _ _ _ h => h) (Or.inl ⟨by kernel_rfl, ?_⟩) hHeld ?_
        rotate_left
        · intro wz hSw; obtain ⟨hS0, hS1, hS2⟩ := hSw; obtain ⟨p0_0, p0_1, p0_2⟩ := hS0.c3; obtain ⟨p1_0, p1_1, p1_2⟩ := hS1.c3; obtain ⟨p2_0, p2_1, p2_2⟩ := hS2.c3; clear hS0 hS1 hS2; go_simp; all_goals (try with_reducible rfl)
        (try simp only [List.getElem_toArray]); (try simp only [List.getElem_cons_succ]); (try simp only [List.getElem_cons_zero]); (try simp only [Act.put]); (try simp only [List.setIfInBounds_toArray]); (try simp only [List.set_cons_succ]); (try simp only [List.set_cons_zero])
        refine wpAnyH_ready (rs := [8]) (by kernel_rfl) (by simp) (AllReadyH.cons rfl (fun Kc hKc => ?_) AllReadyH.nil)
        go_simp
        refine (HDT.out _ DA.out DB.out).mono ?_
        rintro e g3b ⟨tv, rfl, hv, hb⟩
        replace K7 := hidU (K7.out.below hb)
        replace K8 := hidU (K8.out.below hb)
        replace K11 := hidU (K11.out.below hb)
        replace DA := hidU (DA.out.below hb)
        replace DB := hidU (DB.out.below hb)
        replace DP := hidU (DP.out.below hb)
        replace HB := hidU (HB.out.trans (hb.mono HB.out.size))
        clear hb
        have DT9 := hidU hv
        clear hv
        go_wp2_with fail
        refine hKc.out _ _ ⟨K11.out, K7.out, K8.out⟩ (fun hHeld => ?_)
        clear hKc Kc
        (try simp only [List.getElem_toArray]); (try simp only [List.getElem_cons_succ]); (try simp only [List.getElem_cons_zero]); (try simp only [Act.put]); (try simp only [List.setIfInBounds_toArray]); (try simp only [List.set_cons_succ]); (try simp only [List.set_cons_zero])
        refine wpAnyH_ready (rs := [9]) (by kernel_rfl) (by simp) (AllReadyH.cons rfl (fun Kc hKc => ?_) AllReadyH.nil)
        go_simp
        refine (likeSame _ _ px _ HTL.out DP.out DT9.out).mono ?_
        rintro e g4b ⟨rfl, hb⟩
        replace K7 := hidU (K7.out.below hb)
        replace K8 := hidU (K8.out.below hb)
        replace K11 := hidU (K11.out.below hb)
        replace DA := hidU (DA.out.below hb)
        replace DB := hidU (DB.out.below hb)
        replace DP := hidU (DP.out.below hb)
        replace DT9 := hidU (DT9.out.below hb)
        replace HB := hidU (HB.out.trans (hb.mono HB.out.size))
        clear hb
        go_wp2_with fail
        refine hKc.out _ _ ⟨K11.out, K7.out, K8.out⟩ (fun hHeld => ?_)
        clear hKc Kc
        (try simp only [List.getElem_toArray]); (try simp only [List.getElem_cons_succ]); (try simp only [List.getElem_cons_zero]); (try simp only [Act.put]); (try simp only [List.setIfInBounds_toArray]); (try simp only [List.set_cons_succ]); (try simp only [List.set_cons_zero])
        refine wpAnyH_take (i := 10) (v := .bool false) rfl (by kernel_rfl) (by kernel_rfl) (by kernel_rfl) (fun _ _ _ h => h) (Or.inl ⟨by kernel_rfl, ?_⟩) hHeld ?_
        skip
        · intro wz hSw; obtain ⟨hS0, hS1, hS2⟩ := hSw; obtain ⟨p0_0, p0_1, p0_2⟩ := hS0.c3; obtain ⟨p1_0, p1_1, p1_2⟩ := hS1.c3; obtain ⟨p2_0, p2_1, p2_2⟩ := hS2.c3; clear hS0 hS1 hS2; go_simp; all_goals (try with_reducible rfl)
        (try simp only [List.getElem_toArray]); (try simp only [List.getElem_cons_succ]); (try simp only [List.getElem_cons_zero]); (try simp only [Act.put]); (try simp only [List.setIfInBounds_toArray]); (try simp only [List.set_cons_succ]); (try simp only [List.set_cons_zero])
        refine wpAnyH_take (i := 11) (v := .bool false) rfl (by kernel_rfl) (by kernel_rfl) (by kernel_rfl) (fun _ _ _ h => h) (Or.inl ⟨by kernel_rfl, ?_⟩) hHeld ?_
        skip
        · intro wz hSw; obtain ⟨hS0, hS1, hS2⟩ := hSw; obtain ⟨p0_0, p0_1, p0_2⟩ := hS0.c3; obtain ⟨p1_0, p1_1, p1_2⟩ := hS1.c3; obtain ⟨p2_0, p2_1, p2_2⟩ := hS2.c3; clear hS0 hS1 hS2; go_simp; all_goals (try with_reducible rfl)
        (try simp only [List.getElem_toArray]); (try simp only [List.getElem_cons_succ]); (try simp only [List.getElem_cons_zero]); (try simp only [Act.put]); (try simp only [List.setIfInBounds_toArray]); (try simp only [List.set_cons_succ]); (try simp only [List.set_cons_zero])
        refine wpAnyH_done (by kernel_rfl) ?_ _
        refine NoPanic.normal ?_
        clear hHeld
        go_wp2_with fail
        go_meet
        case rel => exact ⟨rfl, K7.out, K8.out, K11.out, DA.out, DB.out, DP.out, HB.out⟩
      case rest =>
        obtain ⟨rfl, K7, K8, K11, DA, DB, DP, HB⟩ := hcut
        obtain ⟨zz00, zz01, zz02⟩ := K8.out.c3
        obtain ⟨zz10, zz11, zz12⟩ := K7.out.c3
        go_wp2_with fail
        refine (HPC.out _ DA.out DB.out).mono ?_
        rintro e h1b ⟨ova, ovk, ovc, rfl, hv, hb⟩
        clear zz00 zz01 zz02 zz10 zz11 zz12
        replace K7 := hidU (K7.out.below hb)
        replace K8 := hidU (K8.out.below hb)
        replace K11 := hidU (K11.out.below hb)
        replace DA := hidU (DA.out.below hb)
        replace DB := hidU (DB.out.below hb)
        replace DP := hidU (DP.out.below hb)
        replace HB := hidU (HB.out.trans (hb.mono HB.out.size))
        clear hb
        have DO := hidU hv
        clear hv
        have hb := b0_any h1b (.cells #[.int .i64 p1, .int .i64 p2, .slice ova ovk ovc] 30)
        go_upto_region 31 with fail
        obtain ⟨h2b, hY⟩ : ∃ Y, Y = h1b.alloc (.cells #[.int .i64 p1, .int .i64 p2, .slice ova ovk ovc] 30) := ⟨_, rfl⟩
        obtain ⟨B27, hF⟩ : ∃ F, F = h1b.heap.size := ⟨_, rfl⟩
        have K27 : Hid (IsB h2b B27 #[.int .i64 p1, .int .i64 p2, .slice ova ovk ovc] 30) := by show IsB _ _ _ _; rw [hY, hF]; exact IsB.new _ _ _
        rw [← hY] at hb
        rw [← hY, ← hF]
        clear hY hF
        replace K7 := hidU (K7.out.below hb)
        replace K8 := hidU (K8.out.below hb)
        replace K11 := hidU (K11.out.below hb)
        replace DA := hidU (DA.out.below hb)
        replace DB := hidU (DB.out.below hb)
        replace DP := hidU (DP.out.below hb)
        replace DO := hidU (DO.out.below hb)
        replace HB := hidU (HB.out.trans (hb.mono HB.out.size))
        clear hb
        have okp2 : (p5 == p5) = true := by simp
        obtain ⟨zz00, zz01, zz02⟩ := K27.out.c3
        obtain ⟨zz10, zz11, zz12⟩ := K11.out.c3
        go_wp2_with fail
        refine (likeQua p1 p2 _ _ px _ HTL.out DO.out DP.out).mono ?_
        rintro e h3b ⟨rfl, hb⟩
        clear zz00 zz01 zz02 zz10 zz11 zz12
        replace K7 := hidU (K7.out.below hb)
        replace K8 := hidU (K8.out.below hb)
        replace K11 := hidU (K11.out.below hb)
        replace DA := hidU (DA.out.below hb)
        replace DB := hidU (DB.out.below hb)
        replace DP := hidU (DP.out.below hb)
        replace DO := hidU (DO.out.below hb)
        replace K27 := hidU (K27.out.below hb)
        replace HB := hidU (HB.out.trans (hb.mono HB.out.size))
        clear hb
        go_wp2
        go_ret
        exact ⟨rfl, HB.out⟩
end Go.Proofs.YtnhefbhiemdhoaaGreat
