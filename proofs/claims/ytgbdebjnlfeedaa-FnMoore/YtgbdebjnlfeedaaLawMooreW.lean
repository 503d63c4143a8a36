/- The law of Moore walked: sums and products of what lies within two ranges lie within their sum and product, and what is in both meets. -/
import Derived.Test.YtgbdebjnlfeedaaDrawR
import Derived.Test.YtgbdebjnlfeedaaMooreMath
namespace Go.Proofs.Ytgbdebjnlfeedaa
open Go.RowKit Go.Proofs.Ytgbdebjnlfeedaa.RM

theorem sAddF (a b c d : Int) (w : World) :
    Calls Try.prog 20 #[.agg #[.int .i64 a, .int .i64 b], .agg #[.int .i64 c, .int .i64 d]] w fun e w' => e = .returned (.tuple #[.agg #[.int .i64 (addF (a, b) (c, d)).1, .int .i64 (addF (a, b) (c, d)).2], .bool (addG (a, b) (c, d))]) ∧ Below w.heap.size w w' := sAdd_any a b c d w
theorem sMulF (a b c d : Int) (w : World) :
    Calls Try.prog 21 #[.agg #[.int .i64 a, .int .i64 b], .agg #[.int .i64 c, .int .i64 d]] w fun e w' => e = .returned (.tuple #[.agg #[.int .i64 (mulF (a, b) (c, d)).1, .int .i64 (mulF (a, b) (c, d)).2], .bool (mulG (a, b) (c, d))]) ∧ Below w.heap.size w w' := sMul_any a b c d w
theorem a7_eta (r : A7) : r = ((r.1.1, r.1.2), (r.2.1.1, r.2.1.2), r.2.2) := rfl
set_option maxRecDepth 100000 in
set_option maxHeartbeats 8000000 in
theorem lawMoore (a : Option Addr) (len cap : Nat) (zs : List Int) (w : World) (hr : IsRow .u8 w a len cap zs) :
    Calls Try.prog 3 #[.slice a len cap] w fun e w' => e = .returned (.bool true) ∧ Below w.heap.size w w' := by
  have HR := hidU hr
  have HBIG := hidU (fun W => big_any a len cap W)
  go_enter Try.func3, Try.ntmps3
  by_cases hbig : 4096 < (len : Int)
  · have HBG : Hid (decide (4096 < (len : Int)) = true) := decide_eq_true hbig
    rw [HBG.out] at HBIG
    go_wp2_with fail
    refine (HBIG.out _).mono ?_
    rintro e w1 ⟨rfl, rfl⟩
    go_wp2
    go_ret
    exact ⟨rfl, Below.refl _ _⟩
  have HBG : Hid (decide (4096 < (len : Int)) = false) := decide_eq_false hbig
  have HLEN : Hid (len ≤ 4096) := by show _ ≤ _; omega
  rw [HBG.out] at HBIG
  clear hr hbig
  go_wp2_with fail
  refine (HBIG.out _).mono ?_
  rintro e w0 ⟨rfl, hw⟩
  have hw2 := hw.symm
  subst hw2
  clear hw
  go_wp2_with fail
  refine (dRangeMul_any a len cap zs _ HR.out).mono ?_
  rintro e w1 ⟨a1, a2, a3, a4, b1, b2, b3, b4, rfl, hb⟩
  have HB := hidU hb
  clear hb HBIG HBG
  go_upto_region 4 with fail
  have hb := (b0_any w1 (.cells #[.int .i64 a1, .int .i64 a2, .int .i64 a3, .int .i64 a4] 27)).alloc (by simp) (.cells #[.int .i64 b1, .int .i64 b2, .int .i64 b3, .int .i64 b4] 27)
  obtain ⟨Y1, hY⟩ : ∃ Y, Y = (w1.alloc (.cells #[.int .i64 a1, .int .i64 a2, .int .i64 a3, .int .i64 a4] 27)).alloc (.cells #[.int .i64 b1, .int .i64 b2, .int .i64 b3, .int .i64 b4] 27) := ⟨_, rfl⟩
  obtain ⟨BA, hF⟩ : ∃ F, F = w1.heap.size := ⟨_, rfl⟩
  have KA : Hid (IsB Y1 BA #[.int .i64 a1, .int .i64 a2, .int .i64 a3, .int .i64 a4] 27) := by show IsB _ _ _ _; rw [hY, hF]; exact (IsB.new _ _ _).below (b0_any _ _)
  have KB : Hid (IsB Y1 (BA + 1) #[.int .i64 b1, .int .i64 b2, .int .i64 b3, .int .i64 b4] 27) := by show IsB _ _ _ _; rw [hY, hF]; exact IsB.new2c _ _ _ _
  rw [← hY] at hb
  rw [← hY, ← hF]
  obtain ⟨BB, hG⟩ : ∃ F, F = BA + 1 := ⟨_, rfl⟩
  rw [← hG] at KB ⊢
  clear hY hF hG
  replace HB := hidU (HB.out.trans (hb.mono HB.out.size))
  clear hb
  have HIS := hidU (fun W => iRadd_any a1 a2 a3 a4 b1 b2 b3 b4 W)
  have HSS := hidU (fun W => sRadd_any a1 a2 a3 a4 b1 b2 b3 b4 W)
  obtain ⟨rs, hs⟩ : ∃ x, x = radd (a1, a2) (a3, a4) (b1, b2) (b3, b4) := ⟨_, rfl⟩
  rw [← hs] at HIS HSS
  have HES := hidU hs.symm
  obtain ⟨⟨s1, s2⟩, ⟨s3, s4⟩, s5⟩ := rs
  have oks : (s5 != s5) = false := by simp
  clear hs
  simp only at HIS HSS
  have HIP := hidU (fun W => iRmul_any a1 a2 a3 a4 b1 b2 b3 b4 W)
  have HSP := hidU (fun W => sRmul_any a1 a2 a3 a4 b1 b2 b3 b4 W)
  obtain ⟨rp, hp⟩ : ∃ x, x = rmul (a1, a2) (a3, a4) (b1, b2) (b3, b4) := ⟨_, rfl⟩
  rw [← hp] at HIP HSP
  have HEP := hidU hp.symm
  obtain ⟨⟨p1, p2⟩, ⟨p3, p4⟩, p5⟩ := rp
  have okp : (p5 != p5) = false := by simp
  clear hp
  simp only at HIP HSP
  have HIM := hidU (fun W => iMeet_any a1 a2 a3 a4 b1 b2 b3 b4 W)
  have HSM := hidU (fun W => sMeet_any a1 a2 a3 a4 b1 b2 b3 b4 W)
  obtain ⟨rm, hm⟩ : ∃ x, x = rmeet (a1, a2) (a3, a4) (b1, b2) (b3, b4) := ⟨_, rfl⟩
  rw [← hm] at HIM HSM
  have HEM := hidU hm.symm
  obtain ⟨⟨m1, m2⟩, ⟨m3, m4⟩, m5⟩ := rm
  have okm : (m5 != m5) = false := by simp
  clear hm
  simp only at HIM HSM
  have HIW := hidU (fun W => iWidth_any a1 a2 a3 a4 W)
  have HSW := hidU (fun W => sWidth_any a1 a2 a3 a4 W)
  obtain ⟨w5, h5⟩ : ∃ x, x = (rng7 (a1, a2) (a3, a4) && subG (a3, a4) (a1, a2)) := ⟨_, rfl⟩
  obtain ⟨u1, h1⟩ : ∃ x, x = (if rng7 (a1, a2) (a3, a4) = true then (subF (a3, a4) (a1, a2)).1 else 0) := ⟨_, rfl⟩
  obtain ⟨u2, h2⟩ : ∃ x, x = (if rng7 (a1, a2) (a3, a4) = true then (subF (a3, a4) (a1, a2)).2 else 0) := ⟨_, rfl⟩
  rw [← h5, ← h1, ← h2] at HIW HSW
  have okw : (w5 != w5) = false := by simp
  clear h5 h1 h2
  obtain ⟨z0, z1, z2, z3⟩ := KA.out.c4
  obtain ⟨y0, y1, y2, y3⟩ := KB.out.c4
  go_wp2_with fail
  refine (HIS.out _).mono ?_
  rintro e v1 ⟨rfl, hb⟩
  clear z0 z1 z2 z3 y0 y1 y2 y3
  replace KA := hidU (KA.out.below hb)
  replace KB := hidU (KB.out.below hb)
  replace HB := hidU (HB.out.trans (hb.mono HB.out.size))
  clear hb
  have hb := b0_any v1 (.cells #[.int .i64 s1, .int .i64 s2, .int .i64 s3, .int .i64 s4] 27)
  go_upto_region 5 with fail
  obtain ⟨Y2, hY⟩ : ∃ Y, Y = v1.alloc (.cells #[.int .i64 s1, .int .i64 s2, .int .i64 s3, .int .i64 s4] 27) := ⟨_, rfl⟩
  obtain ⟨BS, hF⟩ : ∃ F, F = v1.heap.size := ⟨_, rfl⟩
  have KS : Hid (IsB Y2 BS #[.int .i64 s1, .int .i64 s2, .int .i64 s3, .int .i64 s4] 27) := by show IsB _ _ _ _; rw [hY, hF]; exact IsB.new _ _ _
  rw [← hY] at hb
  rw [← hY, ← hF]
  clear hY hF
  replace KA := hidU (KA.out.below hb)
  replace KB := hidU (KB.out.below hb)
  replace HB := hidU (HB.out.trans (hb.mono HB.out.size))
  clear hb
  obtain ⟨z0, z1, z2, z3⟩ := KA.out.c4
  obtain ⟨y0, y1, y2, y3⟩ := KB.out.c4
  go_wp2_with fail
  refine (HIP.out _).mono ?_
  rintro e v2 ⟨rfl, hb⟩
  clear z0 z1 z2 z3 y0 y1 y2 y3
  replace KA := hidU (KA.out.below hb)
  replace KB := hidU (KB.out.below hb)
  replace KS := hidU (KS.out.below hb)
  replace HB := hidU (HB.out.trans (hb.mono HB.out.size))
  clear hb
  have hb := b0_any v2 (.cells #[.int .i64 p1, .int .i64 p2, .int .i64 p3, .int .i64 p4] 27)
  go_upto_region 6 with fail
  obtain ⟨Y3, hY⟩ : ∃ Y, Y = v2.alloc (.cells #[.int .i64 p1, .int .i64 p2, .int .i64 p3, .int .i64 p4] 27) := ⟨_, rfl⟩
  obtain ⟨BP, hF⟩ : ∃ F, F = v2.heap.size := ⟨_, rfl⟩
  have KP : Hid (IsB Y3 BP #[.int .i64 p1, .int .i64 p2, .int .i64 p3, .int .i64 p4] 27) := by show IsB _ _ _ _; rw [hY, hF]; exact IsB.new _ _ _
  rw [← hY] at hb
  rw [← hY, ← hF]
  clear hY hF
  replace KA := hidU (KA.out.below hb)
  replace KB := hidU (KB.out.below hb)
  replace KS := hidU (KS.out.below hb)
  replace HB := hidU (HB.out.trans (hb.mono HB.out.size))
  clear hb
  obtain ⟨z0, z1, z2, z3⟩ := KA.out.c4
  obtain ⟨y0, y1, y2, y3⟩ := KB.out.c4
  go_wp2_with fail
  refine (HIM.out _).mono ?_
  rintro e v3 ⟨rfl, hb⟩
  clear z0 z1 z2 z3 y0 y1 y2 y3
  replace KA := hidU (KA.out.below hb)
  replace KB := hidU (KB.out.below hb)
  replace KS := hidU (KS.out.below hb)
  replace KP := hidU (KP.out.below hb)
  replace HB := hidU (HB.out.trans (hb.mono HB.out.size))
  clear hb
  have hb := b0_any v3 (.cells #[.int .i64 m1, .int .i64 m2, .int .i64 m3, .int .i64 m4] 27)
  go_upto_region 7 with fail
  obtain ⟨Y4, hY⟩ : ∃ Y, Y = v3.alloc (.cells #[.int .i64 m1, .int .i64 m2, .int .i64 m3, .int .i64 m4] 27) := ⟨_, rfl⟩
  obtain ⟨BM, hF⟩ : ∃ F, F = v3.heap.size := ⟨_, rfl⟩
  have KM : Hid (IsB Y4 BM #[.int .i64 m1, .int .i64 m2, .int .i64 m3, .int .i64 m4] 27) := by show IsB _ _ _ _; rw [hY, hF]; exact IsB.new _ _ _
  rw [← hY] at hb
  rw [← hY, ← hF]
  clear hY hF
  replace KA := hidU (KA.out.below hb)
  replace KB := hidU (KB.out.below hb)
  replace KS := hidU (KS.out.below hb)
  replace KP := hidU (KP.out.below hb)
  replace HB := hidU (HB.out.trans (hb.mono HB.out.size))
  clear hb
  go_wp2_with fail
  refine (dWithin_any a len cap zs _ (HR.out.below HB.out)).mono ?_
  rintro e v4 ⟨r1, r2, r3, r4, v1n, v1d, rfl, hb⟩
  replace KA := hidU (KA.out.below hb)
  replace KB := hidU (KB.out.below hb)
  replace KS := hidU (KS.out.below hb)
  replace KP := hidU (KP.out.below hb)
  replace KM := hidU (KM.out.below hb)
  replace HB := hidU (HB.out.trans (hb.mono HB.out.size))
  clear hb
  go_upto_region 8 with fail
  have hb := (b0_any v4 (.cells #[.int .i64 r1, .int .i64 r2, .int .i64 r3, .int .i64 r4] 27)).alloc (by simp) (.cells #[.int .i64 v1n, .int .i64 v1d] 25)
  obtain ⟨Y5, hY⟩ : ∃ Y, Y = (v4.alloc (.cells #[.int .i64 r1, .int .i64 r2, .int .i64 r3, .int .i64 r4] 27)).alloc (.cells #[.int .i64 v1n, .int .i64 v1d] 25) := ⟨_, rfl⟩
  obtain ⟨BR, hF⟩ : ∃ F, F = v4.heap.size := ⟨_, rfl⟩
  have KR : Hid (IsB Y5 BR #[.int .i64 r1, .int .i64 r2, .int .i64 r3, .int .i64 r4] 27) := by show IsB _ _ _ _; rw [hY, hF]; exact (IsB.new _ _ _).below (b0_any _ _)
  have KV : Hid (IsB Y5 (BR + 1) #[.int .i64 v1n, .int .i64 v1d] 25) := by show IsB _ _ _ _; rw [hY, hF]; exact IsB.new2c _ _ _ _
  rw [← hY] at hb
  rw [← hY, ← hF]
  obtain ⟨BV, hG⟩ : ∃ F, F = BR + 1 := ⟨_, rfl⟩
  rw [← hG] at KV ⊢
  clear hY hF hG
  replace KA := hidU (KA.out.below hb)
  replace KB := hidU (KB.out.below hb)
  replace KS := hidU (KS.out.below hb)
  replace KP := hidU (KP.out.below hb)
  replace KM := hidU (KM.out.below hb)
  replace HB := hidU (HB.out.trans (hb.mono HB.out.size))
  clear hb
  obtain ⟨z0, z1, z2, z3⟩ := KA.out.c4
  go_wp2_with fail
  refine (HIW.out _).mono ?_
  rintro e v5 ⟨rfl, hb⟩
  clear z0 z1 z2 z3
  replace KA := hidU (KA.out.below hb)
  replace KB := hidU (KB.out.below hb)
  replace KS := hidU (KS.out.below hb)
  replace KP := hidU (KP.out.below hb)
  replace KM := hidU (KM.out.below hb)
  replace KR := hidU (KR.out.below hb)
  replace KV := hidU (KV.out.below hb)
  replace HB := hidU (HB.out.trans (hb.mono HB.out.size))
  clear hb
  have hb := b0_any v5 (.cells #[.int .i64 u1, .int .i64 u2] 25)
  go_upto_region 9 with fail
  obtain ⟨Y6, hY⟩ : ∃ Y, Y = v5.alloc (.cells #[.int .i64 u1, .int .i64 u2] 25) := ⟨_, rfl⟩
  obtain ⟨BW, hF⟩ : ∃ F, F = v5.heap.size := ⟨_, rfl⟩
  have KW : Hid (IsB Y6 BW #[.int .i64 u1, .int .i64 u2] 25) := by show IsB _ _ _ _; rw [hY, hF]; exact IsB.new _ _ _
  rw [← hY] at hb
  rw [← hY, ← hF]
  clear hY hF
  replace KA := hidU (KA.out.below hb)
  replace KB := hidU (KB.out.below hb)
  replace KS := hidU (KS.out.below hb)
  replace KP := hidU (KP.out.below hb)
  replace KM := hidU (KM.out.below hb)
  replace KR := hidU (KR.out.below hb)
  replace KV := hidU (KV.out.below hb)
  replace HB := hidU (HB.out.trans (hb.mono HB.out.size))
  clear hb
  obtain ⟨z0, z1, z2, z3⟩ := KA.out.c4
  obtain ⟨y0, y1, y2, y3⟩ := KB.out.c4
  go_wp2_with fail
  refine (HSS.out _).mono ?_
  rintro e v6 ⟨rfl, hb⟩
  clear z0 z1 z2 z3 y0 y1 y2 y3
  replace KA := hidU (KA.out.below hb)
  replace KB := hidU (KB.out.below hb)
  replace KS := hidU (KS.out.below hb)
  replace KP := hidU (KP.out.below hb)
  replace KM := hidU (KM.out.below hb)
  replace KR := hidU (KR.out.below hb)
  replace KV := hidU (KV.out.below hb)
  replace KW := hidU (KW.out.below hb)
  replace HB := hidU (HB.out.trans (hb.mono HB.out.size))
  clear hb
  have hb := b0_any v6 (.cells #[.int .i64 s1, .int .i64 s2, .int .i64 s3, .int .i64 s4] 27)
  go_upto_region 10 with fail
  obtain ⟨Y7, hY⟩ : ∃ Y, Y = v6.alloc (.cells #[.int .i64 s1, .int .i64 s2, .int .i64 s3, .int .i64 s4] 27) := ⟨_, rfl⟩
  obtain ⟨BX, hF⟩ : ∃ F, F = v6.heap.size := ⟨_, rfl⟩
  have KX : Hid (IsB Y7 BX #[.int .i64 s1, .int .i64 s2, .int .i64 s3, .int .i64 s4] 27) := by show IsB _ _ _ _; rw [hY, hF]; exact IsB.new _ _ _
  rw [← hY] at hb
  rw [← hY, ← hF]
  clear hY hF
  replace KA := hidU (KA.out.below hb)
  replace KB := hidU (KB.out.below hb)
  replace KS := hidU (KS.out.below hb)
  replace KP := hidU (KP.out.below hb)
  replace KM := hidU (KM.out.below hb)
  replace KR := hidU (KR.out.below hb)
  replace KV := hidU (KV.out.below hb)
  replace KW := hidU (KW.out.below hb)
  replace HB := hidU (HB.out.trans (hb.mono HB.out.size))
  clear hb
  have HW1 := hidU (fun W => iWithin_any r1 r2 r3 r4 v1n v1d W)
  have HW2 := hidU (fun W => sWithin_any r1 r2 r3 r4 v1n v1d W)
  obtain ⟨rw5, h5⟩ : ∃ x, x = within7 (r1, r2) (r3, r4) (v1n, v1d) := ⟨_, rfl⟩
  rw [← h5] at HW1 HW2
  have HO1 := hidU (fun W => iRng_any a1 a2 a3 a4 W)
  have HO2 := hidU (fun W => sRng_any a1 a2 a3 a4 W)
  obtain ⟨ao5, h6⟩ : ∃ x, x = rng7 (a1, a2) (a3, a4) := ⟨_, rfl⟩
  rw [← h6] at HO1 HO2
  have okr : (rw5 != rw5) = false := by simp
  have oka : (ao5 != ao5) = false := by simp
  clear h5 h6
  have hb := (Below.refl Y7.heap.size Y7).drew
  replace KA := hidU (KA.out.below hb)
  replace KB := hidU (KB.out.below hb)
  replace KS := hidU (KS.out.below hb)
  replace KP := hidU (KP.out.below hb)
  replace KM := hidU (KM.out.below hb)
  replace KR := hidU (KR.out.below hb)
  replace KV := hidU (KV.out.below hb)
  replace KW := hidU (KW.out.below hb)
  replace KX := hidU (KX.out.below hb)
  replace HB := hidU (HB.out.trans (hb.mono HB.out.size))
  clear hb
  refine wp_region_noPanic ?_
  refine wp_region_held_drew (S := fun W => IsB W BS #[.int .i64 s1, .int .i64 s2, .int .i64 s3, .int .i64 s4] 27 ∧ IsB W BX #[.int .i64 s1, .int .i64 s2, .int .i64 s3, .int .i64 s4] 27 ∧ IsB W BR #[.int .i64 r1, .int .i64 r2, .int .i64 r3, .int .i64 r4] 27 ∧ IsB W BV #[.int .i64 v1n, .int .i64 v1d] 25 ∧ IsB W BA #[.int .i64 a1, .int .i64 a2, .int .i64 a3, .int .i64 a4] 27) (by kernel_rfl) ⟨KS.out, KX.out, KR.out, KV.out, KA.out⟩ (fun hHeld => ?_)
  obtain ⟨wd, hwd⟩ : ∃ u, u = Y7.drew := ⟨_, rfl⟩
  rw [← hwd] at KA KB KS KP KM KR KV KW KX HB hHeld ⊢
  clear hwd
  refine wpAnyH_take (i := 0) (v := ?_) rfl (by kernel_rfl) (by kernel_rfl) (by kernel_rfl) (fun _ _ _ h => h) (Or.inl ⟨by kernel_rfl, ?_⟩) hHeld ?_
  rotate_left
  · intro wz hSw; obtain ⟨hS0, hS1, hS2, hS3, hS4⟩ := hSw; obtain ⟨p0_0, p0_1, p0_2, p0_3⟩ := hS0.c4; obtain ⟨p1_0, p1_1, p1_2, p1_3⟩ := hS1.c4; obtain ⟨p2_0, p2_1, p2_2, p2_3⟩ := hS2.c4; obtain ⟨p3_0, p3_1⟩ := hS3.c2; obtain ⟨p4_0, p4_1, p4_2, p4_3⟩ := hS4.c4; clear hS0 hS1 hS2 hS3 hS4; go_simp; all_goals (try with_reducible rfl)
  (try simp only [List.getElem_toArray]); (try simp only [List.getElem_cons_succ]); (try simp only [List.getElem_cons_zero]); (try simp only [Act.put]); (try simp only [List.setIfInBounds_toArray]); (try simp only [List.set_cons_succ]); (try simp only [List.set_cons_zero])
  refine wpAnyH_take (i := 1) (v := ?_) rfl (by kernel_rfl) (by kernel_rfl) (by kernel_rfl) (fun _ _ _ h => h) (Or.inl ⟨by kernel_rfl, ?_⟩) hHeld ?_
  rotate_left
  · intro wz hSw; obtain ⟨hS0, hS1, hS2, hS3, hS4⟩ := hSw; obtain ⟨p0_0, p0_1, p0_2, p0_3⟩ := hS0.c4; obtain ⟨p1_0, p1_1, p1_2, p1_3⟩ := hS1.c4; obtain ⟨p2_0, p2_1, p2_2, p2_3⟩ := hS2.c4; obtain ⟨p3_0, p3_1⟩ := hS3.c2; obtain ⟨p4_0, p4_1, p4_2, p4_3⟩ := hS4.c4; clear hS0 hS1 hS2 hS3 hS4; go_simp; all_goals (try with_reducible rfl)
  (try simp only [List.getElem_toArray]); (try simp only [List.getElem_cons_succ]); (try simp only [List.getElem_cons_zero]); (try simp only [Act.put]); (try simp only [List.setIfInBounds_toArray]); (try simp only [List.set_cons_succ]); (try simp only [List.set_cons_zero])
  refine wpAnyH_take (i := 2) (v := .bool false) rfl (by kernel_rfl) (by kernel_rfl) (by kernel_rfl) (fun _ _ _ h => h) (Or.inl ⟨by kernel_rfl, ?_⟩) hHeld ?_
  skip
  · intro wz hSw; obtain ⟨hS0, hS1, hS2, hS3, hS4⟩ := hSw; obtain ⟨p0_0, p0_1, p0_2, p0_3⟩ := hS0.c4; obtain ⟨p1_0, p1_1, p1_2, p1_3⟩ := hS1.c4; obtain ⟨p2_0, p2_1, p2_2, p2_3⟩ := hS2.c4; obtain ⟨p3_0, p3_1⟩ := hS3.c2; obtain ⟨p4_0, p4_1, p4_2, p4_3⟩ := hS4.c4; clear hS0 hS1 hS2 hS3 hS4; go_simp; all_goals (try with_reducible rfl)
  (try simp only [List.getElem_toArray]); (try simp only [List.getElem_cons_succ]); (try simp only [List.getElem_cons_zero]); (try simp only [Act.put]); (try simp only [List.setIfInBounds_toArray]); (try simp only [List.set_cons_succ]); (try simp only [List.set_cons_zero])
  refine wpAnyH_take (i := 3) (v := .bool false) rfl (by kernel_rfl) (by kernel_rfl) (by kernel_rfl) (fun _ _ _ h => h) (Or.inl ⟨by kernel_rfl, ?_⟩) hHeld ?_
  skip
  · intro wz hSw; obtain ⟨hS0, hS1, hS2, hS3, hS4⟩ := hSw; obtain ⟨p0_0, p0_1, p0_2, p0_3⟩ := hS0.c4; obtain ⟨p1_0, p1_1, p1_2, p1_3⟩ := hS1.c4; obtain ⟨p2_0, p2_1, p2_2, p2_3⟩ := hS2.c4; obtain ⟨p3_0, p3_1⟩ := hS3.c2; obtain ⟨p4_0, p4_1, p4_2, p4_3⟩ := hS4.c4; clear hS0 hS1 hS2 hS3 hS4; go_simp; all_goals (try with_reducible rfl)
  (try simp only [List.getElem_toArray]); (try simp only [List.getElem_cons_succ]); (try simp only [List.getElem_cons_zero]); (try simp only [Act.put]); (try simp only [List.setIfInBounds_toArray]); (try simp only [List.set_cons_succ]); (try simp only [List.set_cons_zero])
  refine wpAnyH_take (i := 4) (v := ?_) rfl (by kernel_rfl) (by kernel_rfl) (by kernel_rfl) (fun _ _ _ h => h) (Or.inl ⟨by kernel_rfl, ?_⟩) hHeld ?_
  rotate_left
  · intro wz hSw; obtain ⟨hS0, hS1, hS2, hS3, hS4⟩ := hSw; obtain ⟨p0_0, p0_1, p0_2, p0_3⟩ := hS0.c4; obtain ⟨p1_0, p1_1, p1_2, p1_3⟩ := hS1.c4; obtain ⟨p2_0, p2_1, p2_2, p2_3⟩ := hS2.c4; obtain ⟨p3_0, p3_1⟩ := hS3.c2; obtain ⟨p4_0, p4_1, p4_2, p4_3⟩ := hS4.c4; clear hS0 hS1 hS2 hS3 hS4; go_simp; all_goals (try with_reducible rfl)
  (try simp only [List.getElem_toArray]); (try simp only [List.getElem_cons_succ]); (try simp only [List.getElem_cons_zero]); (try simp only [Act.put]); (try simp only [List.setIfInBounds_toArray]); (try simp only [List.set_cons_succ]); (try simp only [List.set_cons_zero])
  refine wpAnyH_take (i := 5) (v := ?_) rfl (by kernel_rfl) (by kernel_rfl) (by kernel_rfl) (fun _ _ _ h => h) (Or.inl ⟨by kernel_rfl, ?_⟩) hHeld ?_
  rotate_left
  · intro wz hSw; obtain ⟨hS0, hS1, hS2, hS3, hS4⟩ := hSw; obtain ⟨p0_0, p0_1, p0_2, p0_3⟩ := hS0.c4; obtain ⟨p1_0, p1_1, p1_2, p1_3⟩ := hS1.c4; obtain ⟨p2_0, p2_1, p2_2, p2_3⟩ := hS2.c4; obtain ⟨p3_0, p3_1⟩ := hS3.c2; obtain ⟨p4_0, p4_1, p4_2, p4_3⟩ := hS4.c4; clear hS0 hS1 hS2 hS3 hS4; go_simp; all_goals (try with_reducible rfl)
  (try simp only [List.getElem_toArray]); (try simp only [List.getElem_cons_succ]); (try simp only [List.getElem_cons_zero]); (try simp only [Act.put]); (try simp only [List.setIfInBounds_toArray]); (try simp only [List.set_cons_succ]); (try simp only [List.set_cons_zero])
  refine wpAnyH_take (i := 6) (v := .bool false) rfl (by kernel_rfl) (by kernel_rfl) (by kernel_rfl) (fun _ _ _ h => h) (Or.inl ⟨by kernel_rfl, ?_⟩) hHeld ?_
  skip
  · intro wz hSw; obtain ⟨hS0, hS1, hS2, hS3, hS4⟩ := hSw; obtain ⟨p0_0, p0_1, p0_2, p0_3⟩ := hS0.c4; obtain ⟨p1_0, p1_1, p1_2, p1_3⟩ := hS1.c4; obtain ⟨p2_0, p2_1, p2_2, p2_3⟩ := hS2.c4; obtain ⟨p3_0, p3_1⟩ := hS3.c2; obtain ⟨p4_0, p4_1, p4_2, p4_3⟩ := hS4.c4; clear hS0 hS1 hS2 hS3 hS4; go_simp; all_goals (try with_reducible rfl)
  (try simp only [List.getElem_toArray]); (try simp only [List.getElem_cons_succ]); (try simp only [List.getElem_cons_zero]); (try simp only [Act.put]); (try simp only [List.setIfInBounds_toArray]); (try simp only [List.set_cons_succ]); (try simp only [List.set_cons_zero])
  refine wpAnyH_take (i := 7) (v := .bool false) rfl (by kernel_rfl) (by kernel_rfl) (by kernel_rfl) (fun _ _ _ h => h) (Or.inl ⟨by kernel_rfl, ?_⟩) hHeld ?_
  skip
  · intro wz hSw; obtain ⟨hS0, hS1, hS2, hS3, hS4⟩ := hSw; obtain ⟨p0_0, p0_1, p0_2, p0_3⟩ := hS0.c4; obtain ⟨p1_0, p1_1, p1_2, p1_3⟩ := hS1.c4; obtain ⟨p2_0, p2_1, p2_2, p2_3⟩ := hS2.c4; obtain ⟨p3_0, p3_1⟩ := hS3.c2; obtain ⟨p4_0, p4_1, p4_2, p4_3⟩ := hS4.c4; clear hS0 hS1 hS2 hS3 hS4; go_simp; all_goals (try with_reducible rfl)
  (try simp only [List.getElem_toArray]); (try simp only [List.getElem_cons_succ]); (try simp only [List.getElem_cons_zero]); (try simp only [Act.put]); (try simp only [List.setIfInBounds_toArray]); (try simp only [List.set_cons_succ]); (try simp only [List.set_cons_zero])
  refine wpAnyH_take (i := 8) (v := .bool false) rfl (by kernel_rfl) (by kernel_rfl) (by kernel_rfl) (fun _ _ _ h => h) (Or.inl ⟨by kernel_rfl, ?_⟩) hHeld ?_
  skip
  · intro wz hSw; obtain ⟨hS0, hS1, hS2, hS3, hS4⟩ := hSw; obtain ⟨p0_0, p0_1, p0_2, p0_3⟩ := hS0.c4; obtain ⟨p1_0, p1_1, p1_2, p1_3⟩ := hS1.c4; obtain ⟨p2_0, p2_1, p2_2, p2_3⟩ := hS2.c4; obtain ⟨p3_0, p3_1⟩ := hS3.c2; obtain ⟨p4_0, p4_1, p4_2, p4_3⟩ := hS4.c4; clear hS0 hS1 hS2 hS3 hS4; go_simp; all_goals (try with_reducible rfl)
  (try simp only [List.getElem_toArray]); (try simp only [List.getElem_cons_succ]); (try simp only [List.getElem_cons_zero]); (try simp only [Act.put]); (try simp only [List.setIfInBounds_toArray]); (try simp only [List.set_cons_succ]); (try simp only [List.set_cons_zero])
  refine wpAnyH_take (i := 9) (v := ?_) rfl (by kernel_rfl) (by kernel_rfl) (by kernel_rfl) (fun _ _ _ h => h) (Or.inl ⟨by kernel_rfl, ?_⟩) hHeld ?_
  rotate_left
  · intro wz hSw; obtain ⟨hS0, hS1, hS2, hS3, hS4⟩ := hSw; obtain ⟨p0_0, p0_1, p0_2, p0_3⟩ := hS0.c4; obtain ⟨p1_0, p1_1, p1_2, p1_3⟩ := hS1.c4; obtain ⟨p2_0, p2_1, p2_2, p2_3⟩ := hS2.c4; obtain ⟨p3_0, p3_1⟩ := hS3.c2; obtain ⟨p4_0, p4_1, p4_2, p4_3⟩ := hS4.c4; clear hS0 hS1 hS2 hS3 hS4; go_simp; all_goals (try with_reducible rfl)
  (try simp only [List.getElem_toArray]); (try simp only [List.getElem_cons_succ]); (try simp only [List.getElem_cons_zero]); (try simp only [Act.put]); (try simp only [List.setIfInBounds_toArray]); (try simp only [List.set_cons_succ]); (try simp only [List.set_cons_zero])
  refine wpAnyH_take (i := 10) (v := ?_) rfl (by kernel_rfl) (by kernel_rfl) (by kernel_rfl) (fun _ _ _ h => h) (Or.inl ⟨by kernel_rfl, ?_⟩) hHeld ?_
  rotate_left
  · intro wz hSw; obtain ⟨hS0, hS1, hS2, hS3, hS4⟩ := hSw; obtain ⟨p0_0, p0_1, p0_2, p0_3⟩ := hS0.c4; obtain ⟨p1_0, p1_1, p1_2, p1_3⟩ := hS1.c4; obtain ⟨p2_0, p2_1, p2_2, p2_3⟩ := hS2.c4; obtain ⟨p3_0, p3_1⟩ := hS3.c2; obtain ⟨p4_0, p4_1, p4_2, p4_3⟩ := hS4.c4; clear hS0 hS1 hS2 hS3 hS4; go_simp; all_goals (try with_reducible rfl)
  (try simp only [List.getElem_toArray]); (try simp only [List.getElem_cons_succ]); (try simp only [List.getElem_cons_zero]); (try simp only [Act.put]); (try simp only [List.setIfInBounds_toArray]); (try simp only [List.set_cons_succ]); (try simp only [List.set_cons_zero])
  refine wpAnyH_take (i := 12) (v := ?_) rfl (by kernel_rfl) (by kernel_rfl) (by kernel_rfl) (fun _ _ _ h => h) (Or.inl ⟨by kernel_rfl, ?_⟩) hHeld ?_
  rotate_left
  · intro wz hSw; obtain ⟨hS0, hS1, hS2, hS3, hS4⟩ := hSw; obtain ⟨p0_0, p0_1, p0_2, p0_3⟩ := hS0.c4; obtain ⟨p1_0, p1_1, p1_2, p1_3⟩ := hS1.c4; obtain ⟨p2_0, p2_1, p2_2, p2_3⟩ := hS2.c4; obtain ⟨p3_0, p3_1⟩ := hS3.c2; obtain ⟨p4_0, p4_1, p4_2, p4_3⟩ := hS4.c4; clear hS0 hS1 hS2 hS3 hS4; go_simp; all_goals (try with_reducible rfl)
  (try simp only [List.getElem_toArray]); (try simp only [List.getElem_cons_succ]); (try simp only [List.getElem_cons_zero]); (try simp only [Act.put]); (try simp only [List.setIfInBounds_toArray]); (try simp only [List.set_cons_succ]); (try simp only [List.set_cons_zero])
  refine wpAnyH_take (i := 13) (v := ?_) rfl (by kernel_rfl) (by kernel_rfl) (by kernel_rfl) (fun _ _ _ h => h) (Or.inl ⟨by kernel_rfl, ?_⟩) hHeld ?_
  rotate_left
  · intro wz hSw; obtain ⟨hS0, hS1, hS2, hS3, hS4⟩ := hSw; obtain ⟨p0_0, p0_1, p0_2, p0_3⟩ := hS0.c4; obtain ⟨p1_0, p1_1, p1_2, p1_3⟩ := hS1.c4; obtain ⟨p2_0, p2_1, p2_2, p2_3⟩ := hS2.c4; obtain ⟨p3_0, p3_1⟩ := hS3.c2; obtain ⟨p4_0, p4_1, p4_2, p4_3⟩ := hS4.c4; clear hS0 hS1 hS2 hS3 hS4; go_simp; all_goals (try with_reducible rfl)
  (try simp only [List.getElem_toArray]); (try simp only [List.getElem_cons_succ]); (try simp only [List.getElem_cons_zero]); (try simp only [Act.put]); (try simp only [List.setIfInBounds_toArray]); (try simp only [List.set_cons_succ]); (try simp only [List.set_cons_zero])
  refine wpAnyH_ready (rs := [11]) (by kernel_rfl) (by simp) (AllReadyH.cons rfl (fun Kc hKc => ?_) AllReadyH.nil)
  go_simp
  refine (HW1.out _).mono ?_
  rintro e r11 ⟨rfl, hb⟩
  replace KA := hidU (KA.out.below hb)
  replace KB := hidU (KB.out.below hb)
  replace KS := hidU (KS.out.below hb)
  replace KP := hidU (KP.out.below hb)
  replace KM := hidU (KM.out.below hb)
  replace KR := hidU (KR.out.below hb)
  replace KV := hidU (KV.out.below hb)
  replace KW := hidU (KW.out.below hb)
  replace KX := hidU (KX.out.below hb)
  replace HB := hidU (HB.out.trans (hb.mono HB.out.size))
  clear hb
  go_wp2_with fail
  refine hKc.out _ _ ⟨KS.out, KX.out, KR.out, KV.out, KA.out⟩ (fun hHeld => ?_)
  clear hKc Kc
  (try simp only [List.getElem_toArray]); (try simp only [List.getElem_cons_succ]); (try simp only [List.getElem_cons_zero]); (try simp only [Act.put]); (try simp only [List.setIfInBounds_toArray]); (try simp only [List.set_cons_succ]); (try simp only [List.set_cons_zero])
  refine wpAnyH_ready (rs := [14]) (by kernel_rfl) (by simp) (AllReadyH.cons rfl (fun Kc hKc => ?_) AllReadyH.nil)
  go_simp
  refine (HW2.out _).mono ?_
  rintro e r14 ⟨rfl, hb⟩
  replace KA := hidU (KA.out.below hb)
  replace KB := hidU (KB.out.below hb)
  replace KS := hidU (KS.out.below hb)
  replace KP := hidU (KP.out.below hb)
  replace KM := hidU (KM.out.below hb)
  replace KR := hidU (KR.out.below hb)
  replace KV := hidU (KV.out.below hb)
  replace KW := hidU (KW.out.below hb)
  replace KX := hidU (KX.out.below hb)
  replace HB := hidU (HB.out.trans (hb.mono HB.out.size))
  clear hb
  go_wp2_with fail
  refine hKc.out _ _ ⟨KS.out, KX.out, KR.out, KV.out, KA.out⟩ (fun hHeld => ?_)
  clear hKc Kc
  (try simp only [List.getElem_toArray]); (try simp only [List.getElem_cons_succ]); (try simp only [List.getElem_cons_zero]); (try simp only [Act.put]); (try simp only [List.setIfInBounds_toArray]); (try simp only [List.set_cons_succ]); (try simp only [List.set_cons_zero])
  refine wpAnyH_take (i := 15) (v := .bool false) rfl (by kernel_rfl) (by kernel_rfl) (by kernel_rfl) (fun _ _ _ h => h) (Or.inl ⟨by kernel_rfl, ?_⟩) hHeld ?_
  skip
  · intro wz hSw; obtain ⟨hS0, hS1, hS2, hS3, hS4⟩ := hSw; obtain ⟨p0_0, p0_1, p0_2, p0_3⟩ := hS0.c4; obtain ⟨p1_0, p1_1, p1_2, p1_3⟩ := hS1.c4; obtain ⟨p2_0, p2_1, p2_2, p2_3⟩ := hS2.c4; obtain ⟨p3_0, p3_1⟩ := hS3.c2; obtain ⟨p4_0, p4_1, p4_2, p4_3⟩ := hS4.c4; clear hS0 hS1 hS2 hS3 hS4; go_simp; all_goals (try with_reducible rfl)
  (try simp only [List.getElem_toArray]); (try simp only [List.getElem_cons_succ]); (try simp only [List.getElem_cons_zero]); (try simp only [Act.put]); (try simp only [List.setIfInBounds_toArray]); (try simp only [List.set_cons_succ]); (try simp only [List.set_cons_zero])
  refine wpAnyH_take (i := 16) (v := .bool false) rfl (by kernel_rfl) (by kernel_rfl) (by kernel_rfl) (fun _ _ _ h => h) (Or.inl ⟨by kernel_rfl, ?_⟩) hHeld ?_
  skip
  · intro wz hSw; obtain ⟨hS0, hS1, hS2, hS3, hS4⟩ := hSw; obtain ⟨p0_0, p0_1, p0_2, p0_3⟩ := hS0.c4; obtain ⟨p1_0, p1_1, p1_2, p1_3⟩ := hS1.c4; obtain ⟨p2_0, p2_1, p2_2, p2_3⟩ := hS2.c4; obtain ⟨p3_0, p3_1⟩ := hS3.c2; obtain ⟨p4_0, p4_1, p4_2, p4_3⟩ := hS4.c4; clear hS0 hS1 hS2 hS3 hS4; go_simp; all_goals (try with_reducible rfl)
  (try simp only [List.getElem_toArray]); (try simp only [List.getElem_cons_succ]); (try simp only [List.getElem_cons_zero]); (try simp only [Act.put]); (try simp only [List.setIfInBounds_toArray]); (try simp only [List.set_cons_succ]); (try simp only [List.set_cons_zero])
  refine wpAnyH_take (i := 17) (v := .bool false) rfl (by kernel_rfl) (by kernel_rfl) (by kernel_rfl) (fun _ _ _ h => h) (Or.inl ⟨by kernel_rfl, ?_⟩) hHeld ?_
  skip
  · intro wz hSw; obtain ⟨hS0, hS1, hS2, hS3, hS4⟩ := hSw; obtain ⟨p0_0, p0_1, p0_2, p0_3⟩ := hS0.c4; obtain ⟨p1_0, p1_1, p1_2, p1_3⟩ := hS1.c4; obtain ⟨p2_0, p2_1, p2_2, p2_3⟩ := hS2.c4; obtain ⟨p3_0, p3_1⟩ := hS3.c2; obtain ⟨p4_0, p4_1, p4_2, p4_3⟩ := hS4.c4; clear hS0 hS1 hS2 hS3 hS4; go_simp; all_goals (try with_reducible rfl)
  (try simp only [List.getElem_toArray]); (try simp only [List.getElem_cons_succ]); (try simp only [List.getElem_cons_zero]); (try simp only [Act.put]); (try simp only [List.setIfInBounds_toArray]); (try simp only [List.set_cons_succ]); (try simp only [List.set_cons_zero])
  refine wpAnyH_take (i := 18) (v := ?_) rfl (by kernel_rfl) (by kernel_rfl) (by kernel_rfl) (fun _ _ _ h => h) (Or.inl ⟨by kernel_rfl, ?_⟩) hHeld ?_
  rotate_left
  · intro wz hSw; obtain ⟨hS0, hS1, hS2, hS3, hS4⟩ := hSw; obtain ⟨p0_0, p0_1, p0_2, p0_3⟩ := hS0.c4; obtain ⟨p1_0, p1_1, p1_2, p1_3⟩ := hS1.c4; obtain ⟨p2_0, p2_1, p2_2, p2_3⟩ := hS2.c4; obtain ⟨p3_0, p3_1⟩ := hS3.c2; obtain ⟨p4_0, p4_1, p4_2, p4_3⟩ := hS4.c4; clear hS0 hS1 hS2 hS3 hS4; go_simp; all_goals (try with_reducible rfl)
  (try simp only [List.getElem_toArray]); (try simp only [List.getElem_cons_succ]); (try simp only [List.getElem_cons_zero]); (try simp only [Act.put]); (try simp only [List.setIfInBounds_toArray]); (try simp only [List.set_cons_succ]); (try simp only [List.set_cons_zero])
  refine wpAnyH_take (i := 20) (v := ?_) rfl (by kernel_rfl) (by kernel_rfl) (by kernel_rfl) (fun _ _ _ h => h) (Or.inl ⟨by kernel_rfl, ?_⟩) hHeld ?_
  rotate_left
  · intro wz hSw; obtain ⟨hS0, hS1, hS2, hS3, hS4⟩ := hSw; obtain ⟨p0_0, p0_1, p0_2, p0_3⟩ := hS0.c4; obtain ⟨p1_0, p1_1, p1_2, p1_3⟩ := hS1.c4; obtain ⟨p2_0, p2_1, p2_2, p2_3⟩ := hS2.c4; obtain ⟨p3_0, p3_1⟩ := hS3.c2; obtain ⟨p4_0, p4_1, p4_2, p4_3⟩ := hS4.c4; clear hS0 hS1 hS2 hS3 hS4; go_simp; all_goals (try with_reducible rfl)
  (try simp only [List.getElem_toArray]); (try simp only [List.getElem_cons_succ]); (try simp only [List.getElem_cons_zero]); (try simp only [Act.put]); (try simp only [List.setIfInBounds_toArray]); (try simp only [List.set_cons_succ]); (try simp only [List.set_cons_zero])
  refine wpAnyH_ready (rs := [19]) (by kernel_rfl) (by simp) (AllReadyH.cons rfl (fun Kc hKc => ?_) AllReadyH.nil)
  go_simp
  refine (HO1.out _).mono ?_
  rintro e r19 ⟨rfl, hb⟩
  replace KA := hidU (KA.out.below hb)
  replace KB := hidU (KB.out.below hb)
  replace KS := hidU (KS.out.below hb)
  replace KP := hidU (KP.out.below hb)
  replace KM := hidU (KM.out.below hb)
  replace KR := hidU (KR.out.below hb)
  replace KV := hidU (KV.out.below hb)
  replace KW := hidU (KW.out.below hb)
  replace KX := hidU (KX.out.below hb)
  replace HB := hidU (HB.out.trans (hb.mono HB.out.size))
  clear hb
  go_wp2_with fail
  refine hKc.out _ _ ⟨KS.out, KX.out, KR.out, KV.out, KA.out⟩ (fun hHeld => ?_)
  clear hKc Kc
  (try simp only [List.getElem_toArray]); (try simp only [List.getElem_cons_succ]); (try simp only [List.getElem_cons_zero]); (try simp only [Act.put]); (try simp only [List.setIfInBounds_toArray]); (try simp only [List.set_cons_succ]); (try simp only [List.set_cons_zero])
  refine wpAnyH_ready (rs := [21]) (by kernel_rfl) (by simp) (AllReadyH.cons rfl (fun Kc hKc => ?_) AllReadyH.nil)
  go_simp
  refine (HO2.out _).mono ?_
  rintro e r21 ⟨rfl, hb⟩
  replace KA := hidU (KA.out.below hb)
  replace KB := hidU (KB.out.below hb)
  replace KS := hidU (KS.out.below hb)
  replace KP := hidU (KP.out.below hb)
  replace KM := hidU (KM.out.below hb)
  replace KR := hidU (KR.out.below hb)
  replace KV := hidU (KV.out.below hb)
  replace KW := hidU (KW.out.below hb)
  replace KX := hidU (KX.out.below hb)
  replace HB := hidU (HB.out.trans (hb.mono HB.out.size))
  clear hb
  go_wp2_with fail
  refine hKc.out _ _ ⟨KS.out, KX.out, KR.out, KV.out, KA.out⟩ (fun hHeld => ?_)
  clear hKc Kc
  (try simp only [List.getElem_toArray]); (try simp only [List.getElem_cons_succ]); (try simp only [List.getElem_cons_zero]); (try simp only [Act.put]); (try simp only [List.setIfInBounds_toArray]); (try simp only [List.set_cons_succ]); (try simp only [List.set_cons_zero])
  refine wpAnyH_take (i := 22) (v := .bool false) rfl (by kernel_rfl) (by kernel_rfl) (by kernel_rfl) (fun _ _ _ h => h) (Or.inl ⟨by kernel_rfl, ?_⟩) hHeld ?_
  skip
  · intro wz hSw; obtain ⟨hS0, hS1, hS2, hS3, hS4⟩ := hSw; obtain ⟨p0_0, p0_1, p0_2, p0_3⟩ := hS0.c4; obtain ⟨p1_0, p1_1, p1_2, p1_3⟩ := hS1.c4; obtain ⟨p2_0, p2_1, p2_2, p2_3⟩ := hS2.c4; obtain ⟨p3_0, p3_1⟩ := hS3.c2; obtain ⟨p4_0, p4_1, p4_2, p4_3⟩ := hS4.c4; clear hS0 hS1 hS2 hS3 hS4; go_simp; all_goals (try with_reducible rfl)
  (try simp only [List.getElem_toArray]); (try simp only [List.getElem_cons_succ]); (try simp only [List.getElem_cons_zero]); (try simp only [Act.put]); (try simp only [List.setIfInBounds_toArray]); (try simp only [List.set_cons_succ]); (try simp only [List.set_cons_zero])
  refine wpAnyH_take (i := 23) (v := .bool false) rfl (by kernel_rfl) (by kernel_rfl) (by kernel_rfl) (fun _ _ _ h => h) (Or.inl ⟨by kernel_rfl, ?_⟩) hHeld ?_
  skip
  · intro wz hSw; obtain ⟨hS0, hS1, hS2, hS3, hS4⟩ := hSw; obtain ⟨p0_0, p0_1, p0_2, p0_3⟩ := hS0.c4; obtain ⟨p1_0, p1_1, p1_2, p1_3⟩ := hS1.c4; obtain ⟨p2_0, p2_1, p2_2, p2_3⟩ := hS2.c4; obtain ⟨p3_0, p3_1⟩ := hS3.c2; obtain ⟨p4_0, p4_1, p4_2, p4_3⟩ := hS4.c4; clear hS0 hS1 hS2 hS3 hS4; go_simp; all_goals (try with_reducible rfl)
  (try simp only [List.getElem_toArray]); (try simp only [List.getElem_cons_succ]); (try simp only [List.getElem_cons_zero]); (try simp only [Act.put]); (try simp only [List.setIfInBounds_toArray]); (try simp only [List.set_cons_succ]); (try simp only [List.set_cons_zero])
  refine wpAnyH_done (by kernel_rfl) ?_ _
  refine NoPanic.normal ?_
  clear hHeld HW1 HW2 HO1 HO2
  obtain ⟨z0, z1, z2, z3⟩ := KA.out.c4
  obtain ⟨y0, y1, y2, y3⟩ := KB.out.c4
  go_wp2_with fail
  refine (HSP.out _).mono ?_
  rintro e v8 ⟨rfl, hb⟩
  clear z0 z1 z2 z3 y0 y1 y2 y3
  replace KA := hidU (KA.out.below hb)
  replace KB := hidU (KB.out.below hb)
  replace KS := hidU (KS.out.below hb)
  replace KP := hidU (KP.out.below hb)
  replace KM := hidU (KM.out.below hb)
  replace KR := hidU (KR.out.below hb)
  replace KV := hidU (KV.out.below hb)
  replace KW := hidU (KW.out.below hb)
  replace KX := hidU (KX.out.below hb)
  replace HB := hidU (HB.out.trans (hb.mono HB.out.size))
  clear hb
  have hb := b0_any v8 (.cells #[.int .i64 p1, .int .i64 p2, .int .i64 p3, .int .i64 p4] 27)
  go_upto_region 13 with fail
  obtain ⟨Y8, hY⟩ : ∃ Y, Y = v8.alloc (.cells #[.int .i64 p1, .int .i64 p2, .int .i64 p3, .int .i64 p4] 27) := ⟨_, rfl⟩
  obtain ⟨BX2, hF⟩ : ∃ F, F = v8.heap.size := ⟨_, rfl⟩
  have KX2 : Hid (IsB Y8 BX2 #[.int .i64 p1, .int .i64 p2, .int .i64 p3, .int .i64 p4] 27) := by show IsB _ _ _ _; rw [hY, hF]; exact IsB.new _ _ _
  rw [← hY] at hb
  rw [← hY, ← hF]
  clear hY hF
  replace KA := hidU (KA.out.below hb)
  replace KB := hidU (KB.out.below hb)
  replace KS := hidU (KS.out.below hb)
  replace KP := hidU (KP.out.below hb)
  replace KM := hidU (KM.out.below hb)
  replace KR := hidU (KR.out.below hb)
  replace KV := hidU (KV.out.below hb)
  replace KW := hidU (KW.out.below hb)
  replace KX := hidU (KX.out.below hb)
  replace HB := hidU (HB.out.trans (hb.mono HB.out.size))
  clear hb
  obtain ⟨z0, z1, z2, z3⟩ := KA.out.c4
  obtain ⟨y0, y1, y2, y3⟩ := KB.out.c4
  obtain ⟨x0, x1, x2, x3⟩ := KP.out.c4
  obtain ⟨t0, t1, t2, t3⟩ := KX2.out.c4
  go_wp2_with fail
  refine (HSM.out _).mono ?_
  rintro e v9 ⟨rfl, hb⟩
  clear z0 z1 z2 z3 y0 y1 y2 y3 x0 x1 x2 x3 t0 t1 t2 t3
  replace KA := hidU (KA.out.below hb)
  replace KB := hidU (KB.out.below hb)
  replace KS := hidU (KS.out.below hb)
  replace KP := hidU (KP.out.below hb)
  replace KM := hidU (KM.out.below hb)
  replace KR := hidU (KR.out.below hb)
  replace KV := hidU (KV.out.below hb)
  replace KW := hidU (KW.out.below hb)
  replace KX := hidU (KX.out.below hb)
  replace KX2 := hidU (KX2.out.below hb)
  replace HB := hidU (HB.out.trans (hb.mono HB.out.size))
  clear hb
  have hb := b0_any v9 (.cells #[.int .i64 m1, .int .i64 m2, .int .i64 m3, .int .i64 m4] 27)
  go_upto_region 16 with fail
  obtain ⟨Y9, hY⟩ : ∃ Y, Y = v9.alloc (.cells #[.int .i64 m1, .int .i64 m2, .int .i64 m3, .int .i64 m4] 27) := ⟨_, rfl⟩
  obtain ⟨BX3, hF⟩ : ∃ F, F = v9.heap.size := ⟨_, rfl⟩
  have KX3 : Hid (IsB Y9 BX3 #[.int .i64 m1, .int .i64 m2, .int .i64 m3, .int .i64 m4] 27) := by show IsB _ _ _ _; rw [hY, hF]; exact IsB.new _ _ _
  rw [← hY] at hb
  rw [← hY, ← hF]
  clear hY hF
  replace KA := hidU (KA.out.below hb)
  replace KB := hidU (KB.out.below hb)
  replace KS := hidU (KS.out.below hb)
  replace KP := hidU (KP.out.below hb)
  replace KM := hidU (KM.out.below hb)
  replace KR := hidU (KR.out.below hb)
  replace KV := hidU (KV.out.below hb)
  replace KW := hidU (KW.out.below hb)
  replace KX := hidU (KX.out.below hb)
  replace KX2 := hidU (KX2.out.below hb)
  replace HB := hidU (HB.out.trans (hb.mono HB.out.size))
  clear hb
  obtain ⟨z0, z1, z2, z3⟩ := KA.out.c4
  obtain ⟨x0, x1, x2, x3⟩ := KM.out.c4
  obtain ⟨t0, t1, t2, t3⟩ := KX3.out.c4
  go_wp2_with fail
  refine (HSW.out _).mono ?_
  rintro e v10 ⟨rfl, hb⟩
  clear z0 z1 z2 z3 x0 x1 x2 x3 t0 t1 t2 t3
  replace KA := hidU (KA.out.below hb)
  replace KB := hidU (KB.out.below hb)
  replace KS := hidU (KS.out.below hb)
  replace KP := hidU (KP.out.below hb)
  replace KM := hidU (KM.out.below hb)
  replace KR := hidU (KR.out.below hb)
  replace KV := hidU (KV.out.below hb)
  replace KW := hidU (KW.out.below hb)
  replace KX := hidU (KX.out.below hb)
  replace KX2 := hidU (KX2.out.below hb)
  replace KX3 := hidU (KX3.out.below hb)
  replace HB := hidU (HB.out.trans (hb.mono HB.out.size))
  clear hb
  have hb := b0_any v10 (.cells #[.int .i64 u1, .int .i64 u2] 25)
  go_upto_region 19 with fail
  obtain ⟨Y10, hY⟩ : ∃ Y, Y = v10.alloc (.cells #[.int .i64 u1, .int .i64 u2] 25) := ⟨_, rfl⟩
  obtain ⟨BX4, hF⟩ : ∃ F, F = v10.heap.size := ⟨_, rfl⟩
  have KX4 : Hid (IsB Y10 BX4 #[.int .i64 u1, .int .i64 u2] 25) := by show IsB _ _ _ _; rw [hY, hF]; exact IsB.new _ _ _
  rw [← hY] at hb
  rw [← hY, ← hF]
  clear hY hF
  replace KA := hidU (KA.out.below hb)
  replace KB := hidU (KB.out.below hb)
  replace KS := hidU (KS.out.below hb)
  replace KP := hidU (KP.out.below hb)
  replace KM := hidU (KM.out.below hb)
  replace KR := hidU (KR.out.below hb)
  replace KV := hidU (KV.out.below hb)
  replace KW := hidU (KW.out.below hb)
  replace KX := hidU (KX.out.below hb)
  replace KX2 := hidU (KX2.out.below hb)
  replace KX3 := hidU (KX3.out.below hb)
  replace HB := hidU (HB.out.trans (hb.mono HB.out.size))
  clear hb
  obtain ⟨z0, z1⟩ := KW.out.c2
  obtain ⟨y0, y1⟩ := KX4.out.c2
  go_upto_region 21 with fail
  clear z0 z1 y0 y1 KW KX KX2 KX3 KX4 KR KV HIS HSS HIP HSP HIM HSM HIW HSW okw okm okp oks oka okr
  go_wp2
  go_loopw [23] (fun i wr => ∃ k : Nat, k ≤ 9 ∧ i = .int .i64 k ∧ Hid (IsB wr BA #[.int .i64 a1, .int .i64 a2, .int .i64 a3, .int .i64 a4] 27) ∧ Hid (IsB wr BB #[.int .i64 b1, .int .i64 b2, .int .i64 b3, .int .i64 b4] 27) ∧ Hid (IsB wr BS #[.int .i64 s1, .int .i64 s2, .int .i64 s3, .int .i64 s4] 27) ∧ Hid (IsB wr BP #[.int .i64 p1, .int .i64 p2, .int .i64 p3, .int .i64 p4] 27) ∧ Hid (IsB wr BM #[.int .i64 m1, .int .i64 m2, .int .i64 m3, .int .i64 m4] 27) ∧ Hid (Below w.heap.size w wr)) (fun i _ => 9 - (intOf i).toNat)
  case atStart => exact ⟨0, Nat.zero_le _, rfl, KA.out, KB.out, KS.out, KP.out, KM.out, HB.out⟩
  case round =>
    clear KA KB KS KP KM HB
    obtain ⟨k, hk, rfl, KA , KB , KS , KP , KM, HB⟩ := hrel
    by_cases hlt : k < 9
    · skip
      go_wp2_with fail
      refine (part_any a len cap zs _ _ (HR.out.below HB.out) HLEN.out (by omega) (by omega)).mono ?_
      rintro e t1 ⟨x1, x2, rfl, -, -, -, -, -, hb⟩
      replace KA := hidU (KA.out.below hb)
      replace KB := hidU (KB.out.below hb)
      replace KS := hidU (KS.out.below hb)
      replace KP := hidU (KP.out.below hb)
      replace KM := hidU (KM.out.below hb)
      replace HB := hidU (HB.out.trans (hb.mono HB.out.size))
      clear hb
      have hb := b0_any t1 (.cells #[.int .i64 x1, .int .i64 x2] 25)
      go_upto_region 25 with fail
      obtain ⟨Z1, hY⟩ : ∃ Y, Y = t1.alloc (.cells #[.int .i64 x1, .int .i64 x2] 25) := ⟨_, rfl⟩
      obtain ⟨BX, hF⟩ : ∃ F, F = t1.heap.size := ⟨_, rfl⟩
      have KX : Hid (IsB Z1 BX #[.int .i64 x1, .int .i64 x2] 25) := by show IsB _ _ _ _; rw [hY, hF]; exact IsB.new _ _ _
      have GEKX : Hid (w.heap.size ≤ BX) := by show _ ≤ _; rw [hF]; exact HB.out.size
      have NEKX : Hid (BA ≠ BX ∧ BB ≠ BX ∧ BS ≠ BX ∧ BP ≠ BX ∧ BM ≠ BX) := by show BA ≠ BX ∧ BB ≠ BX ∧ BS ≠ BX ∧ BP ≠ BX ∧ BM ≠ BX; rw [hF]; exact ⟨Nat.ne_of_lt KA.out.lt, Nat.ne_of_lt KB.out.lt, Nat.ne_of_lt KS.out.lt, Nat.ne_of_lt KP.out.lt, Nat.ne_of_lt KM.out.lt⟩
      rw [← hY] at hb
      rw [← hY, ← hF]
      clear hY hF
      replace KA := hidU (KA.out.below hb)
      replace KB := hidU (KB.out.below hb)
      replace KS := hidU (KS.out.below hb)
      replace KP := hidU (KP.out.below hb)
      replace KM := hidU (KM.out.below hb)
      replace HB := hidU (HB.out.trans (hb.mono HB.out.size))
      clear hb
      go_wp2_with fail
      refine (part_any a len cap zs _ _ (HR.out.below HB.out) HLEN.out (by omega) (by omega)).mono ?_
      rintro e t2 ⟨y1, y2, rfl, -, -, -, -, -, hb⟩
      replace KA := hidU (KA.out.below hb)
      replace KB := hidU (KB.out.below hb)
      replace KS := hidU (KS.out.below hb)
      replace KP := hidU (KP.out.below hb)
      replace KM := hidU (KM.out.below hb)
      replace KX := hidU (KX.out.below hb)
      replace HB := hidU (HB.out.trans (hb.mono HB.out.size))
      clear hb
      have hb := b0_any t2 (.cells #[.int .i64 y1, .int .i64 y2] 25)
      go_upto_region 26 with fail
      obtain ⟨Z2, hY⟩ : ∃ Y, Y = t2.alloc (.cells #[.int .i64 y1, .int .i64 y2] 25) := ⟨_, rfl⟩
      obtain ⟨BY, hF⟩ : ∃ F, F = t2.heap.size := ⟨_, rfl⟩
      have KY : Hid (IsB Z2 BY #[.int .i64 y1, .int .i64 y2] 25) := by show IsB _ _ _ _; rw [hY, hF]; exact IsB.new _ _ _
      have GEKY : Hid (w.heap.size ≤ BY) := by show _ ≤ _; rw [hF]; exact HB.out.size
      have NEKY : Hid (BA ≠ BY ∧ BB ≠ BY ∧ BS ≠ BY ∧ BP ≠ BY ∧ BM ≠ BY ∧ BX ≠ BY) := by show BA ≠ BY ∧ BB ≠ BY ∧ BS ≠ BY ∧ BP ≠ BY ∧ BM ≠ BY ∧ BX ≠ BY; rw [hF]; exact ⟨Nat.ne_of_lt KA.out.lt, Nat.ne_of_lt KB.out.lt, Nat.ne_of_lt KS.out.lt, Nat.ne_of_lt KP.out.lt, Nat.ne_of_lt KM.out.lt, Nat.ne_of_lt KX.out.lt⟩
      rw [← hY] at hb
      rw [← hY, ← hF]
      clear hY hF
      replace KA := hidU (KA.out.below hb)
      replace KB := hidU (KB.out.below hb)
      replace KS := hidU (KS.out.below hb)
      replace KP := hidU (KP.out.below hb)
      replace KM := hidU (KM.out.below hb)
      replace KX := hidU (KX.out.below hb)
      replace HB := hidU (HB.out.trans (hb.mono HB.out.size))
      clear hb
      by_cases h2 : k < 2
      · skip
        obtain ⟨z0, z1, z2, z3⟩ := KA.out.c4
        obtain ⟨y0, yy1⟩ := KX.out.c2
        obtain ⟨f0, f1⟩ := KX.out.f2
        go_upto_region 28 with fail
        clear z0 z1 z2 z3 y0 yy1 f0 f1
        replace KA := hidU (KA.out.other2 NEKX.out.1 (.int .i64 a1) (.int .i64 a2))
        replace KB := hidU (KB.out.other2 NEKX.out.2.1 (.int .i64 a1) (.int .i64 a2))
        replace KS := hidU (KS.out.other2 NEKX.out.2.2.1 (.int .i64 a1) (.int .i64 a2))
        replace KP := hidU (KP.out.other2 NEKX.out.2.2.2.1 (.int .i64 a1) (.int .i64 a2))
        replace KM := hidU (KM.out.other2 NEKX.out.2.2.2.2 (.int .i64 a1) (.int .i64 a2))
        replace KX := hidU (KX.out.set2 (.int .i64 a1) (.int .i64 a2))
        replace KY := hidU (KY.out.other2 NEKY.out.2.2.2.2.2.symm (.int .i64 a1) (.int .i64 a2))
        replace HB := hidU (below_set2 HB.out GEKX.out (.int .i64 a1) (.int .i64 a2))
        obtain ⟨Z3, hw⟩ : ∃ Y, Y = (Z2.setCell ⟨BX, 0, none⟩ (.int .i64 a1)).setCell ⟨BX, 1, none⟩ (.int .i64 a2) := ⟨_, rfl⟩
        rw [← hw] at KA KB KS KP KM KX KY HB ⊢
        clear hw
        obtain ⟨z0, z1, z2, z3⟩ := KB.out.c4
        obtain ⟨y0, yy1⟩ := KY.out.c2
        obtain ⟨f0, f1⟩ := KY.out.f2
        go_upto_region 29 with fail
        clear z0 z1 z2 z3 y0 yy1 f0 f1
        replace KA := hidU (KA.out.other2 NEKY.out.1 (.int .i64 b3) (.int .i64 b4))
        replace KB := hidU (KB.out.other2 NEKY.out.2.1 (.int .i64 b3) (.int .i64 b4))
        replace KS := hidU (KS.out.other2 NEKY.out.2.2.1 (.int .i64 b3) (.int .i64 b4))
        replace KP := hidU (KP.out.other2 NEKY.out.2.2.2.1 (.int .i64 b3) (.int .i64 b4))
        replace KM := hidU (KM.out.other2 NEKY.out.2.2.2.2.1 (.int .i64 b3) (.int .i64 b4))
        replace KX := hidU (KX.out.other2 NEKY.out.2.2.2.2.2 (.int .i64 b3) (.int .i64 b4))
        replace KY := hidU (KY.out.set2 (.int .i64 b3) (.int .i64 b4))
        replace HB := hidU (below_set2 HB.out GEKY.out (.int .i64 b3) (.int .i64 b4))
        obtain ⟨Z4, hw⟩ : ∃ Y, Y = (Z3.setCell ⟨BY, 0, none⟩ (.int .i64 b3)).setCell ⟨BY, 1, none⟩ (.int .i64 b4) := ⟨_, rfl⟩
        rw [← hw] at KA KB KS KP KM KX KY HB ⊢
        clear hw
        have HAx := hidU (fun W => iWithin_any a1 a2 a3 a4 a1 a2 W)
        obtain ⟨q1, hq⟩ : ∃ x, x = within7 (a1, a2) (a3, a4) (a1, a2) := ⟨_, rfl⟩
        rw [← hq] at HAx
        have HQq1 := hidU hq.symm
        clear hq
        have HBx := hidU (fun W => iWithin_any b1 b2 b3 b4 a1 a2 W)
        obtain ⟨q2, hq⟩ : ∃ x, x = within7 (b1, b2) (b3, b4) (a1, a2) := ⟨_, rfl⟩
        rw [← hq] at HBx
        have HQq2 := hidU hq.symm
        clear hq
        have HMx := hidU (fun W => iWithin_any m1 m2 m3 m4 a1 a2 W)
        obtain ⟨q3, hq⟩ : ∃ x, x = within7 (m1, m2) (m3, m4) (a1, a2) := ⟨_, rfl⟩
        rw [← hq] at HMx
        have HQq3 := hidU hq.symm
        clear hq
        have HBy := hidU (fun W => iWithin_any b1 b2 b3 b4 b3 b4 W)
        obtain ⟨q4, hq⟩ : ∃ x, x = within7 (b1, b2) (b3, b4) (b3, b4) := ⟨_, rfl⟩
        rw [← hq] at HBy
        have HQq4 := hidU hq.symm
        clear hq
        have HM1 : Hid (q1 = true → q2 = (m5 && q3)) := by
          intro h
          have h2 := moore_meet (c := (b1, b2)) (d := (b3, b4)) (HQq1.out.trans h)
          rw [HEM.out, HQq2.out, HQq3.out] at h2
          exact h2
        go_cut [168] from 136 to 212 (fun c wx => c = .bool false ∧ Hid (IsB wx BA #[.int .i64 a1, .int .i64 a2, .int .i64 a3, .int .i64 a4] 27) ∧ Hid (IsB wx BB #[.int .i64 b1, .int .i64 b2, .int .i64 b3, .int .i64 b4] 27) ∧ Hid (IsB wx BS #[.int .i64 s1, .int .i64 s2, .int .i64 s3, .int .i64 s4] 27) ∧ Hid (IsB wx BP #[.int .i64 p1, .int .i64 p2, .int .i64 p3, .int .i64 p4] 27) ∧ Hid (IsB wx BM #[.int .i64 m1, .int .i64 m2, .int .i64 m3, .int .i64 m4] 27) ∧ Hid (IsB wx BX #[.int .i64 a1, .int .i64 a2] 25) ∧ Hid (IsB wx BY #[.int .i64 b3, .int .i64 b4] 25) ∧ Hid (Below w.heap.size w wx))
        case first =>
          obtain ⟨z0, z1, z2, z3⟩ := KA.out.c4
          obtain ⟨y0, y1⟩ := KX.out.c2
          go_wp2_with fail
          refine (HAx.out _).mono ?_
          rintro e c1 ⟨rfl, hb⟩
          clear z0 z1 z2 z3 y0 y1
          replace KA := hidU (KA.out.below hb)
          replace KB := hidU (KB.out.below hb)
          replace KS := hidU (KS.out.below hb)
          replace KP := hidU (KP.out.below hb)
          replace KM := hidU (KM.out.below hb)
          replace KX := hidU (KX.out.below hb)
          replace KY := hidU (KY.out.below hb)
          replace HB := hidU (HB.out.trans (hb.mono HB.out.size))
          clear hb
          cases q1
          · go_wp2
            go_meet
            case rel => exact ⟨rfl, KA.out, KB.out, KS.out, KP.out, KM.out, KX.out, KY.out, HB.out⟩
          obtain ⟨z0, z1, z2, z3⟩ := KB.out.c4
          obtain ⟨y0, y1⟩ := KX.out.c2
          go_wp2_with fail
          refine (HBx.out _).mono ?_
          rintro e c2 ⟨rfl, hb⟩
          clear z0 z1 z2 z3 y0 y1
          replace KA := hidU (KA.out.below hb)
          replace KB := hidU (KB.out.below hb)
          replace KS := hidU (KS.out.below hb)
          replace KP := hidU (KP.out.below hb)
          replace KM := hidU (KM.out.below hb)
          replace KX := hidU (KX.out.below hb)
          replace KY := hidU (KY.out.below hb)
          replace HB := hidU (HB.out.trans (hb.mono HB.out.size))
          clear hb
          cases m5
          · obtain rfl : q2 = false := by simpa using HM1.out (by first | exact rfl | exact trivial)
            go_wp2
            go_meet
            case rel => exact ⟨rfl, KA.out, KB.out, KS.out, KP.out, KM.out, KX.out, KY.out, HB.out⟩
          obtain rfl : q2 = q3 := by simpa using HM1.out (by first | exact rfl | exact trivial)
          obtain ⟨z0, z1, z2, z3⟩ := KM.out.c4
          obtain ⟨y0, y1⟩ := KX.out.c2
          go_wp2_with fail
          refine (HMx.out _).mono ?_
          rintro e c3 ⟨rfl, hb⟩
          clear z0 z1 z2 z3 y0 y1
          replace KA := hidU (KA.out.below hb)
          replace KB := hidU (KB.out.below hb)
          replace KS := hidU (KS.out.below hb)
          replace KP := hidU (KP.out.below hb)
          replace KM := hidU (KM.out.below hb)
          replace KX := hidU (KX.out.below hb)
          replace KY := hidU (KY.out.below hb)
          replace HB := hidU (HB.out.trans (hb.mono HB.out.size))
          clear hb
          have ok3 : (q2 != q2) = false := by simp
          go_wp2
          go_meet
          case rel => exact ⟨rfl, KA.out, KB.out, KS.out, KP.out, KM.out, KX.out, KY.out, HB.out⟩
        case rest =>
          obtain ⟨rfl, KA, KB, KS, KP, KM, KX, KY, HB⟩ := hcut
          obtain ⟨z0, z1, z2, z3⟩ := KA.out.c4
          obtain ⟨y0, y1⟩ := KX.out.c2
          go_wp2_with fail
          refine (HAx.out _).mono ?_
          rintro e c4 ⟨rfl, hb⟩
          clear z0 z1 z2 z3 y0 y1
          replace KA := hidU (KA.out.below hb)
          replace KB := hidU (KB.out.below hb)
          replace KS := hidU (KS.out.below hb)
          replace KP := hidU (KP.out.below hb)
          replace KM := hidU (KM.out.below hb)
          replace KX := hidU (KX.out.below hb)
          replace KY := hidU (KY.out.below hb)
          replace HB := hidU (HB.out.trans (hb.mono HB.out.size))
          clear hb
          cases q1
          · go_wp2
            go_roundw
            case rel => exact ⟨k + 1, by omega, by go_num, KA.out, KB.out, KS.out, KP.out, KM.out, HB.out⟩
            case measure => simp [intOf]; omega
          obtain ⟨z0, z1, z2, z3⟩ := KB.out.c4
          obtain ⟨y0, y1⟩ := KY.out.c2
          go_wp2_with fail
          refine (HBy.out _).mono ?_
          rintro e c5 ⟨rfl, hb⟩
          clear z0 z1 z2 z3 y0 y1
          replace KA := hidU (KA.out.below hb)
          replace KB := hidU (KB.out.below hb)
          replace KS := hidU (KS.out.below hb)
          replace KP := hidU (KP.out.below hb)
          replace KM := hidU (KM.out.below hb)
          replace KX := hidU (KX.out.below hb)
          replace KY := hidU (KY.out.below hb)
          replace HB := hidU (HB.out.trans (hb.mono HB.out.size))
          clear hb
          cases q4
          · go_wp2
            go_roundw
            case rel => exact ⟨k + 1, by omega, by go_num, KA.out, KB.out, KS.out, KP.out, KM.out, HB.out⟩
            case measure => simp [intOf]; omega
          have HADD := hidU (fun W => sAddF a1 a2 b3 b4 W)
          have HMUL := hidU (fun W => sMulF a1 a2 b3 b4 W)
          obtain ⟨g1, hg1⟩ : ∃ x, x = addG (a1, a2) (b3, b4) := ⟨_, rfl⟩
          obtain ⟨g2, hg2⟩ : ∃ x, x = mulG (a1, a2) (b3, b4) := ⟨_, rfl⟩
          obtain ⟨⟨d1, d2⟩, hd⟩ : ∃ x, x = addF (a1, a2) (b3, b4) := ⟨_, rfl⟩
          obtain ⟨⟨f1, f2⟩, hf⟩ : ∃ x, x = mulF (a1, a2) (b3, b4) := ⟨_, rfl⟩
          rw [← hg1, ← hd] at HADD
          rw [← hg2, ← hf] at HMUL
          simp only at HADD HMUL
          have HWS : Hid (s5 = true → g1 = true → within7 (s1, s2) (s3, s4) (d1, d2) = true) := by
            intro h1 h2
            have h3 := moore_add (by rw [HES.out]; exact h1) HQq1.out HQq4.out (hg1.symm.trans h2)
            rw [HES.out, ← hd] at h3
            exact h3
          have HWP : Hid (p5 = true → g2 = true → within7 (p1, p2) (p3, p4) (f1, f2) = true) := by
            intro h1 h2
            have h3 := moore_mul (by rw [HEP.out]; exact h1) HQq1.out HQq4.out (hg2.symm.trans h2)
            rw [HEP.out, ← hf] at h3
            exact h3
          have HCS := hidU (fun W => iWithin_any s1 s2 s3 s4 d1 d2 W)
          have HCP := hidU (fun W => iWithin_any p1 p2 p3 p4 f1 f2 W)
          obtain ⟨q5, hq5⟩ : ∃ x, x = within7 (s1, s2) (s3, s4) (d1, d2) := ⟨_, rfl⟩
          obtain ⟨q6, hq6⟩ : ∃ x, x = within7 (p1, p2) (p3, p4) (f1, f2) := ⟨_, rfl⟩
          rw [← hq5] at HCS HWS
          rw [← hq6] at HCP HWP
          clear hg1 hg2 hd hf hq5 hq6
          obtain ⟨z0, z1⟩ := KX.out.c2
          obtain ⟨y0, y1⟩ := KY.out.c2
          go_wp2_with fail
          refine (HADD.out _).mono ?_
          rintro e c6 ⟨rfl, hb⟩
          clear z0 z1 y0 y1
          replace KA := hidU (KA.out.below hb)
          replace KB := hidU (KB.out.below hb)
          replace KS := hidU (KS.out.below hb)
          replace KP := hidU (KP.out.below hb)
          replace KM := hidU (KM.out.below hb)
          replace KX := hidU (KX.out.below hb)
          replace KY := hidU (KY.out.below hb)
          replace HB := hidU (HB.out.trans (hb.mono HB.out.size))
          clear hb
          have hb := b0_any c6 (.cells #[.int .i64 d1, .int .i64 d2] 25)
          go_upto_region 33 with fail
          obtain ⟨E1, hY⟩ : ∃ Y, Y = c6.alloc (.cells #[.int .i64 d1, .int .i64 d2] 25) := ⟨_, rfl⟩
          obtain ⟨BD, hF⟩ : ∃ F, F = c6.heap.size := ⟨_, rfl⟩
          have KD : Hid (IsB E1 BD #[.int .i64 d1, .int .i64 d2] 25) := by show IsB _ _ _ _; rw [hY, hF]; exact IsB.new _ _ _
          have GEKD : Hid (w.heap.size ≤ BD) := by show _ ≤ _; rw [hF]; exact HB.out.size
          have NEKD : Hid (BA ≠ BD ∧ BB ≠ BD ∧ BS ≠ BD ∧ BP ≠ BD ∧ BM ≠ BD ∧ BX ≠ BD ∧ BY ≠ BD) := by show BA ≠ BD ∧ BB ≠ BD ∧ BS ≠ BD ∧ BP ≠ BD ∧ BM ≠ BD ∧ BX ≠ BD ∧ BY ≠ BD; rw [hF]; exact ⟨Nat.ne_of_lt KA.out.lt, Nat.ne_of_lt KB.out.lt, Nat.ne_of_lt KS.out.lt, Nat.ne_of_lt KP.out.lt, Nat.ne_of_lt KM.out.lt, Nat.ne_of_lt KX.out.lt, Nat.ne_of_lt KY.out.lt⟩
          rw [← hY] at hb
          rw [← hY, ← hF]
          clear hY hF
          replace KA := hidU (KA.out.below hb)
          replace KB := hidU (KB.out.below hb)
          replace KS := hidU (KS.out.below hb)
          replace KP := hidU (KP.out.below hb)
          replace KM := hidU (KM.out.below hb)
          replace KX := hidU (KX.out.below hb)
          replace KY := hidU (KY.out.below hb)
          replace HB := hidU (HB.out.trans (hb.mono HB.out.size))
          clear hb
          obtain ⟨z0, z1⟩ := KX.out.c2
          obtain ⟨y0, y1⟩ := KY.out.c2
          go_wp2_with fail
          refine (HMUL.out _).mono ?_
          rintro e c7 ⟨rfl, hb⟩
          clear z0 z1 y0 y1
          replace KA := hidU (KA.out.below hb)
          replace KB := hidU (KB.out.below hb)
          replace KS := hidU (KS.out.below hb)
          replace KP := hidU (KP.out.below hb)
          replace KM := hidU (KM.out.below hb)
          replace KX := hidU (KX.out.below hb)
          replace KY := hidU (KY.out.below hb)
          replace KD := hidU (KD.out.below hb)
          replace HB := hidU (HB.out.trans (hb.mono HB.out.size))
          clear hb
          have hb := b0_any c7 (.cells #[.int .i64 f1, .int .i64 f2] 25)
          go_upto_region 34 with fail
          obtain ⟨E2, hY⟩ : ∃ Y, Y = c7.alloc (.cells #[.int .i64 f1, .int .i64 f2] 25) := ⟨_, rfl⟩
          obtain ⟨BF, hF⟩ : ∃ F, F = c7.heap.size := ⟨_, rfl⟩
          have KF : Hid (IsB E2 BF #[.int .i64 f1, .int .i64 f2] 25) := by show IsB _ _ _ _; rw [hY, hF]; exact IsB.new _ _ _
          have GEKF : Hid (w.heap.size ≤ BF) := by show _ ≤ _; rw [hF]; exact HB.out.size
          have NEKF : Hid (BA ≠ BF ∧ BB ≠ BF ∧ BS ≠ BF ∧ BP ≠ BF ∧ BM ≠ BF ∧ BX ≠ BF ∧ BY ≠ BF ∧ BD ≠ BF) := by show BA ≠ BF ∧ BB ≠ BF ∧ BS ≠ BF ∧ BP ≠ BF ∧ BM ≠ BF ∧ BX ≠ BF ∧ BY ≠ BF ∧ BD ≠ BF; rw [hF]; exact ⟨Nat.ne_of_lt KA.out.lt, Nat.ne_of_lt KB.out.lt, Nat.ne_of_lt KS.out.lt, Nat.ne_of_lt KP.out.lt, Nat.ne_of_lt KM.out.lt, Nat.ne_of_lt KX.out.lt, Nat.ne_of_lt KY.out.lt, Nat.ne_of_lt KD.out.lt⟩
          rw [← hY] at hb
          rw [← hY, ← hF]
          clear hY hF
          replace KA := hidU (KA.out.below hb)
          replace KB := hidU (KB.out.below hb)
          replace KS := hidU (KS.out.below hb)
          replace KP := hidU (KP.out.below hb)
          replace KM := hidU (KM.out.below hb)
          replace KX := hidU (KX.out.below hb)
          replace KY := hidU (KY.out.below hb)
          replace KD := hidU (KD.out.below hb)
          replace HB := hidU (HB.out.trans (hb.mono HB.out.size))
          clear hb
          go_cut [212] from 136 to 212 (fun c wx => c = .bool false ∧ Hid (IsB wx BA #[.int .i64 a1, .int .i64 a2, .int .i64 a3, .int .i64 a4] 27) ∧ Hid (IsB wx BB #[.int .i64 b1, .int .i64 b2, .int .i64 b3, .int .i64 b4] 27) ∧ Hid (IsB wx BS #[.int .i64 s1, .int .i64 s2, .int .i64 s3, .int .i64 s4] 27) ∧ Hid (IsB wx BP #[.int .i64 p1, .int .i64 p2, .int .i64 p3, .int .i64 p4] 27) ∧ Hid (IsB wx BM #[.int .i64 m1, .int .i64 m2, .int .i64 m3, .int .i64 m4] 27) ∧ Hid (Below w.heap.size w wx))
          case first =>
            cases s5
            · skip
              cases p5
              · go_wp2
                go_meet
                case rel => exact ⟨rfl, KA.out, KB.out, KS.out, KP.out, KM.out, HB.out⟩
              cases g2
              · go_wp2
                go_meet
                case rel => exact ⟨rfl, KA.out, KB.out, KS.out, KP.out, KM.out, HB.out⟩
              obtain rfl := HWP.out rfl rfl
              obtain ⟨z0, z1, z2, z3⟩ := KP.out.c4
              obtain ⟨y0, y1⟩ := KF.out.c2
              go_wp2_with fail
              refine (HCP.out _).mono ?_
              rintro e e1 ⟨rfl, hb⟩
              clear z0 z1 z2 z3 y0 y1
              replace KA := hidU (KA.out.below hb)
              replace KB := hidU (KB.out.below hb)
              replace KS := hidU (KS.out.below hb)
              replace KP := hidU (KP.out.below hb)
              replace KM := hidU (KM.out.below hb)
              replace KX := hidU (KX.out.below hb)
              replace KY := hidU (KY.out.below hb)
              replace KD := hidU (KD.out.below hb)
              replace KF := hidU (KF.out.below hb)
              replace HB := hidU (HB.out.trans (hb.mono HB.out.size))
              clear hb
              go_wp2
              go_meet
              case rel => exact ⟨rfl, KA.out, KB.out, KS.out, KP.out, KM.out, HB.out⟩
            cases g1
            · skip
              cases p5
              · go_wp2
                go_meet
                case rel => exact ⟨rfl, KA.out, KB.out, KS.out, KP.out, KM.out, HB.out⟩
              cases g2
              · go_wp2
                go_meet
                case rel => exact ⟨rfl, KA.out, KB.out, KS.out, KP.out, KM.out, HB.out⟩
              obtain rfl := HWP.out rfl rfl
              obtain ⟨z0, z1, z2, z3⟩ := KP.out.c4
              obtain ⟨y0, y1⟩ := KF.out.c2
              go_wp2_with fail
              refine (HCP.out _).mono ?_
              rintro e e2 ⟨rfl, hb⟩
              clear z0 z1 z2 z3 y0 y1
              replace KA := hidU (KA.out.below hb)
              replace KB := hidU (KB.out.below hb)
              replace KS := hidU (KS.out.below hb)
              replace KP := hidU (KP.out.below hb)
              replace KM := hidU (KM.out.below hb)
              replace KX := hidU (KX.out.below hb)
              replace KY := hidU (KY.out.below hb)
              replace KD := hidU (KD.out.below hb)
              replace KF := hidU (KF.out.below hb)
              replace HB := hidU (HB.out.trans (hb.mono HB.out.size))
              clear hb
              go_wp2
              go_meet
              case rel => exact ⟨rfl, KA.out, KB.out, KS.out, KP.out, KM.out, HB.out⟩
            obtain rfl := HWS.out rfl rfl
            obtain ⟨z0, z1, z2, z3⟩ := KS.out.c4
            obtain ⟨y0, y1⟩ := KD.out.c2
            go_wp2_with fail
            refine (HCS.out _).mono ?_
            rintro e e0 ⟨rfl, hb⟩
            clear z0 z1 z2 z3 y0 y1
            replace KA := hidU (KA.out.below hb)
            replace KB := hidU (KB.out.below hb)
            replace KS := hidU (KS.out.below hb)
            replace KP := hidU (KP.out.below hb)
            replace KM := hidU (KM.out.below hb)
            replace KX := hidU (KX.out.below hb)
            replace KY := hidU (KY.out.below hb)
            replace KD := hidU (KD.out.below hb)
            replace KF := hidU (KF.out.below hb)
            replace HB := hidU (HB.out.trans (hb.mono HB.out.size))
            clear hb
            cases p5
            · go_wp2
              go_meet
              case rel => exact ⟨rfl, KA.out, KB.out, KS.out, KP.out, KM.out, HB.out⟩
            cases g2
            · go_wp2
              go_meet
              case rel => exact ⟨rfl, KA.out, KB.out, KS.out, KP.out, KM.out, HB.out⟩
            obtain rfl := HWP.out rfl rfl
            obtain ⟨z0, z1, z2, z3⟩ := KP.out.c4
            obtain ⟨y0, y1⟩ := KF.out.c2
            go_wp2_with fail
            refine (HCP.out _).mono ?_
            rintro e e3 ⟨rfl, hb⟩
            clear z0 z1 z2 z3 y0 y1
            replace KA := hidU (KA.out.below hb)
            replace KB := hidU (KB.out.below hb)
            replace KS := hidU (KS.out.below hb)
            replace KP := hidU (KP.out.below hb)
            replace KM := hidU (KM.out.below hb)
            replace KX := hidU (KX.out.below hb)
            replace KY := hidU (KY.out.below hb)
            replace KD := hidU (KD.out.below hb)
            replace KF := hidU (KF.out.below hb)
            replace HB := hidU (HB.out.trans (hb.mono HB.out.size))
            clear hb
            go_wp2
            go_meet
            case rel => exact ⟨rfl, KA.out, KB.out, KS.out, KP.out, KM.out, HB.out⟩
          case rest =>
            obtain ⟨rfl, KA, KB, KS, KP, KM, HB⟩ := hcut
            go_wp2
            go_roundw
            case rel => exact ⟨k + 1, by omega, by go_num, KA.out, KB.out, KS.out, KP.out, KM.out, HB.out⟩
            case measure => simp [intOf]; omega
      · go_upto_region 29 with fail
        have HAx := hidU (fun W => iWithin_any a1 a2 a3 a4 x1 x2 W)
        obtain ⟨q1, hq⟩ : ∃ x, x = within7 (a1, a2) (a3, a4) (x1, x2) := ⟨_, rfl⟩
        rw [← hq] at HAx
        have HQq1 := hidU hq.symm
        clear hq
        have HBx := hidU (fun W => iWithin_any b1 b2 b3 b4 x1 x2 W)
        obtain ⟨q2, hq⟩ : ∃ x, x = within7 (b1, b2) (b3, b4) (x1, x2) := ⟨_, rfl⟩
        rw [← hq] at HBx
        have HQq2 := hidU hq.symm
        clear hq
        have HMx := hidU (fun W => iWithin_any m1 m2 m3 m4 x1 x2 W)
        obtain ⟨q3, hq⟩ : ∃ x, x = within7 (m1, m2) (m3, m4) (x1, x2) := ⟨_, rfl⟩
        rw [← hq] at HMx
        have HQq3 := hidU hq.symm
        clear hq
        have HBy := hidU (fun W => iWithin_any b1 b2 b3 b4 y1 y2 W)
        obtain ⟨q4, hq⟩ : ∃ x, x = within7 (b1, b2) (b3, b4) (y1, y2) := ⟨_, rfl⟩
        rw [← hq] at HBy
        have HQq4 := hidU hq.symm
        clear hq
        have HM1 : Hid (q1 = true → q2 = (m5 && q3)) := by
          intro h
          have h2 := moore_meet (c := (b1, b2)) (d := (b3, b4)) (HQq1.out.trans h)
          rw [HEM.out, HQq2.out, HQq3.out] at h2
          exact h2
        go_cut [168] from 136 to 212 (fun c wx => c = .bool false ∧ Hid (IsB wx BA #[.int .i64 a1, .int .i64 a2, .int .i64 a3, .int .i64 a4] 27) ∧ Hid (IsB wx BB #[.int .i64 b1, .int .i64 b2, .int .i64 b3, .int .i64 b4] 27) ∧ Hid (IsB wx BS #[.int .i64 s1, .int .i64 s2, .int .i64 s3, .int .i64 s4] 27) ∧ Hid (IsB wx BP #[.int .i64 p1, .int .i64 p2, .int .i64 p3, .int .i64 p4] 27) ∧ Hid (IsB wx BM #[.int .i64 m1, .int .i64 m2, .int .i64 m3, .int .i64 m4] 27) ∧ Hid (IsB wx BX #[.int .i64 x1, .int .i64 x2] 25) ∧ Hid (IsB wx BY #[.int .i64 y1, .int .i64 y2] 25) ∧ Hid (Below w.heap.size w wx))
        case first =>
          obtain ⟨z0, z1, z2, z3⟩ := KA.out.c4
          obtain ⟨y0, y1⟩ := KX.out.c2
          go_wp2_with fail
          refine (HAx.out _).mono ?_
          rintro e c1 ⟨rfl, hb⟩
          clear z0 z1 z2 z3 y0 y1
          replace KA := hidU (KA.out.below hb)
          replace KB := hidU (KB.out.below hb)
          replace KS := hidU (KS.out.below hb)
          replace KP := hidU (KP.out.below hb)
          replace KM := hidU (KM.out.below hb)
          replace KX := hidU (KX.out.below hb)
          replace KY := hidU (KY.out.below hb)
          replace HB := hidU (HB.out.trans (hb.mono HB.out.size))
          clear hb
          cases q1
          · go_wp2
            go_meet
            case rel => exact ⟨rfl, KA.out, KB.out, KS.out, KP.out, KM.out, KX.out, KY.out, HB.out⟩
          obtain ⟨z0, z1, z2, z3⟩ := KB.out.c4
          obtain ⟨y0, y1⟩ := KX.out.c2
          go_wp2_with fail
          refine (HBx.out _).mono ?_
          rintro e c2 ⟨rfl, hb⟩
          clear z0 z1 z2 z3 y0 y1
          replace KA := hidU (KA.out.below hb)
          replace KB := hidU (KB.out.below hb)
          replace KS := hidU (KS.out.below hb)
          replace KP := hidU (KP.out.below hb)
          replace KM := hidU (KM.out.below hb)
          replace KX := hidU (KX.out.below hb)
          replace KY := hidU (KY.out.below hb)
          replace HB := hidU (HB.out.trans (hb.mono HB.out.size))
          clear hb
          cases m5
          · obtain rfl : q2 = false := by simpa using HM1.out (by first | exact rfl | exact trivial)
            go_wp2
            go_meet
            case rel => exact ⟨rfl, KA.out, KB.out, KS.out, KP.out, KM.out, KX.out, KY.out, HB.out⟩
          obtain rfl : q2 = q3 := by simpa using HM1.out (by first | exact rfl | exact trivial)
          obtain ⟨z0, z1, z2, z3⟩ := KM.out.c4
          obtain ⟨y0, y1⟩ := KX.out.c2
          go_wp2_with fail
          refine (HMx.out _).mono ?_
          rintro e c3 ⟨rfl, hb⟩
          clear z0 z1 z2 z3 y0 y1
          replace KA := hidU (KA.out.below hb)
          replace KB := hidU (KB.out.below hb)
          replace KS := hidU (KS.out.below hb)
          replace KP := hidU (KP.out.below hb)
          replace KM := hidU (KM.out.below hb)
          replace KX := hidU (KX.out.below hb)
          replace KY := hidU (KY.out.below hb)
          replace HB := hidU (HB.out.trans (hb.mono HB.out.size))
          clear hb
          have ok3 : (q2 != q2) = false := by simp
          go_wp2
          go_meet
          case rel => exact ⟨rfl, KA.out, KB.out, KS.out, KP.out, KM.out, KX.out, KY.out, HB.out⟩
        case rest =>
          obtain ⟨rfl, KA, KB, KS, KP, KM, KX, KY, HB⟩ := hcut
          obtain ⟨z0, z1, z2, z3⟩ := KA.out.c4
          obtain ⟨y0, y1⟩ := KX.out.c2
          go_wp2_with fail
          refine (HAx.out _).mono ?_
          rintro e c4 ⟨rfl, hb⟩
          clear z0 z1 z2 z3 y0 y1
          replace KA := hidU (KA.out.below hb)
          replace KB := hidU (KB.out.below hb)
          replace KS := hidU (KS.out.below hb)
          replace KP := hidU (KP.out.below hb)
          replace KM := hidU (KM.out.below hb)
          replace KX := hidU (KX.out.below hb)
          replace KY := hidU (KY.out.below hb)
          replace HB := hidU (HB.out.trans (hb.mono HB.out.size))
          clear hb
          cases q1
          · go_wp2
            go_roundw
            case rel => exact ⟨k + 1, by omega, by go_num, KA.out, KB.out, KS.out, KP.out, KM.out, HB.out⟩
            case measure => simp [intOf]; omega
          obtain ⟨z0, z1, z2, z3⟩ := KB.out.c4
          obtain ⟨y0, y1⟩ := KY.out.c2
          go_wp2_with fail
          refine (HBy.out _).mono ?_
          rintro e c5 ⟨rfl, hb⟩
          clear z0 z1 z2 z3 y0 y1
          replace KA := hidU (KA.out.below hb)
          replace KB := hidU (KB.out.below hb)
          replace KS := hidU (KS.out.below hb)
          replace KP := hidU (KP.out.below hb)
          replace KM := hidU (KM.out.below hb)
          replace KX := hidU (KX.out.below hb)
          replace KY := hidU (KY.out.below hb)
          replace HB := hidU (HB.out.trans (hb.mono HB.out.size))
          clear hb
          cases q4
          · go_wp2
            go_roundw
            case rel => exact ⟨k + 1, by omega, by go_num, KA.out, KB.out, KS.out, KP.out, KM.out, HB.out⟩
            case measure => simp [intOf]; omega
          have HADD := hidU (fun W => sAddF x1 x2 y1 y2 W)
          have HMUL := hidU (fun W => sMulF x1 x2 y1 y2 W)
          obtain ⟨g1, hg1⟩ : ∃ x, x = addG (x1, x2) (y1, y2) := ⟨_, rfl⟩
          obtain ⟨g2, hg2⟩ : ∃ x, x = mulG (x1, x2) (y1, y2) := ⟨_, rfl⟩
          obtain ⟨⟨d1, d2⟩, hd⟩ : ∃ x, x = addF (x1, x2) (y1, y2) := ⟨_, rfl⟩
          obtain ⟨⟨f1, f2⟩, hf⟩ : ∃ x, x = mulF (x1, x2) (y1, y2) := ⟨_, rfl⟩
          rw [← hg1, ← hd] at HADD
          rw [← hg2, ← hf] at HMUL
          simp only at HADD HMUL
          have HWS : Hid (s5 = true → g1 = true → within7 (s1, s2) (s3, s4) (d1, d2) = true) := by
            intro h1 h2
            have h3 := moore_add (by rw [HES.out]; exact h1) HQq1.out HQq4.out (hg1.symm.trans h2)
            rw [HES.out, ← hd] at h3
            exact h3
          have HWP : Hid (p5 = true → g2 = true → within7 (p1, p2) (p3, p4) (f1, f2) = true) := by
            intro h1 h2
            have h3 := moore_mul (by rw [HEP.out]; exact h1) HQq1.out HQq4.out (hg2.symm.trans h2)
            rw [HEP.out, ← hf] at h3
            exact h3
          have HCS := hidU (fun W => iWithin_any s1 s2 s3 s4 d1 d2 W)
          have HCP := hidU (fun W => iWithin_any p1 p2 p3 p4 f1 f2 W)
          obtain ⟨q5, hq5⟩ : ∃ x, x = within7 (s1, s2) (s3, s4) (d1, d2) := ⟨_, rfl⟩
          obtain ⟨q6, hq6⟩ : ∃ x, x = within7 (p1, p2) (p3, p4) (f1, f2) := ⟨_, rfl⟩
          rw [← hq5] at HCS HWS
          rw [← hq6] at HCP HWP
          clear hg1 hg2 hd hf hq5 hq6
          obtain ⟨z0, z1⟩ := KX.out.c2
          obtain ⟨y0, y1⟩ := KY.out.c2
          go_wp2_with fail
          refine (HADD.out _).mono ?_
          rintro e c6 ⟨rfl, hb⟩
          clear z0 z1 y0 y1
          replace KA := hidU (KA.out.below hb)
          replace KB := hidU (KB.out.below hb)
          replace KS := hidU (KS.out.below hb)
          replace KP := hidU (KP.out.below hb)
          replace KM := hidU (KM.out.below hb)
          replace KX := hidU (KX.out.below hb)
          replace KY := hidU (KY.out.below hb)
          replace HB := hidU (HB.out.trans (hb.mono HB.out.size))
          clear hb
          have hb := b0_any c6 (.cells #[.int .i64 d1, .int .i64 d2] 25)
          go_upto_region 33 with fail
          obtain ⟨E1, hY⟩ : ∃ Y, Y = c6.alloc (.cells #[.int .i64 d1, .int .i64 d2] 25) := ⟨_, rfl⟩
          obtain ⟨BD, hF⟩ : ∃ F, F = c6.heap.size := ⟨_, rfl⟩
          have KD : Hid (IsB E1 BD #[.int .i64 d1, .int .i64 d2] 25) := by show IsB _ _ _ _; rw [hY, hF]; exact IsB.new _ _ _
          have GEKD : Hid (w.heap.size ≤ BD) := by show _ ≤ _; rw [hF]; exact HB.out.size
          have NEKD : Hid (BA ≠ BD ∧ BB ≠ BD ∧ BS ≠ BD ∧ BP ≠ BD ∧ BM ≠ BD ∧ BX ≠ BD ∧ BY ≠ BD) := by show BA ≠ BD ∧ BB ≠ BD ∧ BS ≠ BD ∧ BP ≠ BD ∧ BM ≠ BD ∧ BX ≠ BD ∧ BY ≠ BD; rw [hF]; exact ⟨Nat.ne_of_lt KA.out.lt, Nat.ne_of_lt KB.out.lt, Nat.ne_of_lt KS.out.lt, Nat.ne_of_lt KP.out.lt, Nat.ne_of_lt KM.out.lt, Nat.ne_of_lt KX.out.lt, Nat.ne_of_lt KY.out.lt⟩
          rw [← hY] at hb
          rw [← hY, ← hF]
          clear hY hF
          replace KA := hidU (KA.out.below hb)
          replace KB := hidU (KB.out.below hb)
          replace KS := hidU (KS.out.below hb)
          replace KP := hidU (KP.out.below hb)
          replace KM := hidU (KM.out.below hb)
          replace KX := hidU (KX.out.below hb)
          replace KY := hidU (KY.out.below hb)
          replace HB := hidU (HB.out.trans (hb.mono HB.out.size))
          clear hb
          obtain ⟨z0, z1⟩ := KX.out.c2
          obtain ⟨y0, y1⟩ := KY.out.c2
          go_wp2_with fail
          refine (HMUL.out _).mono ?_
          rintro e c7 ⟨rfl, hb⟩
          clear z0 z1 y0 y1
          replace KA := hidU (KA.out.below hb)
          replace KB := hidU (KB.out.below hb)
          replace KS := hidU (KS.out.below hb)
          replace KP := hidU (KP.out.below hb)
          replace KM := hidU (KM.out.below hb)
          replace KX := hidU (KX.out.below hb)
          replace KY := hidU (KY.out.below hb)
          replace KD := hidU (KD.out.below hb)
          replace HB := hidU (HB.out.trans (hb.mono HB.out.size))
          clear hb
          have hb := b0_any c7 (.cells #[.int .i64 f1, .int .i64 f2] 25)
          go_upto_region 34 with fail
          obtain ⟨E2, hY⟩ : ∃ Y, Y = c7.alloc (.cells #[.int .i64 f1, .int .i64 f2] 25) := ⟨_, rfl⟩
          obtain ⟨BF, hF⟩ : ∃ F, F = c7.heap.size := ⟨_, rfl⟩
          have KF : Hid (IsB E2 BF #[.int .i64 f1, .int .i64 f2] 25) := by show IsB _ _ _ _; rw [hY, hF]; exact IsB.new _ _ _
          have GEKF : Hid (w.heap.size ≤ BF) := by show _ ≤ _; rw [hF]; exact HB.out.size
          have NEKF : Hid (BA ≠ BF ∧ BB ≠ BF ∧ BS ≠ BF ∧ BP ≠ BF ∧ BM ≠ BF ∧ BX ≠ BF ∧ BY ≠ BF ∧ BD ≠ BF) := by show BA ≠ BF ∧ BB ≠ BF ∧ BS ≠ BF ∧ BP ≠ BF ∧ BM ≠ BF ∧ BX ≠ BF ∧ BY ≠ BF ∧ BD ≠ BF; rw [hF]; exact ⟨Nat.ne_of_lt KA.out.lt, Nat.ne_of_lt KB.out.lt, Nat.ne_of_lt KS.out.lt, Nat.ne_of_lt KP.out.lt, Nat.ne_of_lt KM.out.lt, Nat.ne_of_lt KX.out.lt, Nat.ne_of_lt KY.out.lt, Nat.ne_of_lt KD.out.lt⟩
          rw [← hY] at hb
          rw [← hY, ← hF]
          clear hY hF
          replace KA := hidU (KA.out.below hb)
          replace KB := hidU (KB.out.below hb)
          replace KS := hidU (KS.out.below hb)
          replace KP := hidU (KP.out.below hb)
          replace KM := hidU (KM.out.below hb)
          replace KX := hidU (KX.out.below hb)
          replace KY := hidU (KY.out.below hb)
          replace KD := hidU (KD.out.below hb)
          replace HB := hidU (HB.out.trans (hb.mono HB.out.size))
          clear hb
          go_cut [212] from 136 to 212 (fun c wx => c = .bool false ∧ Hid (IsB wx BA #[.int .i64 a1, .int .i64 a2, .int .i64 a3, .int .i64 a4] 27) ∧ Hid (IsB wx BB #[.int .i64 b1, .int .i64 b2, .int .i64 b3, .int .i64 b4] 27) ∧ Hid (IsB wx BS #[.int .i64 s1, .int .i64 s2, .int .i64 s3, .int .i64 s4] 27) ∧ Hid (IsB wx BP #[.int .i64 p1, .int .i64 p2, .int .i64 p3, .int .i64 p4] 27) ∧ Hid (IsB wx BM #[.int .i64 m1, .int .i64 m2, .int .i64 m3, .int .i64 m4] 27) ∧ Hid (Below w.heap.size w wx))
          case first =>
            cases s5
            · skip
              cases p5
              · go_wp2
                go_meet
                case rel => exact ⟨rfl, KA.out, KB.out, KS.out, KP.out, KM.out, HB.out⟩
              cases g2
              · go_wp2
                go_meet
                case rel => exact ⟨rfl, KA.out, KB.out, KS.out, KP.out, KM.out, HB.out⟩
              obtain rfl := HWP.out rfl rfl
              obtain ⟨z0, z1, z2, z3⟩ := KP.out.c4
              obtain ⟨y0, y1⟩ := KF.out.c2
              go_wp2_with fail
              refine (HCP.out _).mono ?_
              rintro e e1 ⟨rfl, hb⟩
              clear z0 z1 z2 z3 y0 y1
              replace KA := hidU (KA.out.below hb)
              replace KB := hidU (KB.out.below hb)
              replace KS := hidU (KS.out.below hb)
              replace KP := hidU (KP.out.below hb)
              replace KM := hidU (KM.out.below hb)
              replace KX := hidU (KX.out.below hb)
              replace KY := hidU (KY.out.below hb)
              replace KD := hidU (KD.out.below hb)
              replace KF := hidU (KF.out.below hb)
              replace HB := hidU (HB.out.trans (hb.mono HB.out.size))
              clear hb
              go_wp2
              go_meet
              case rel => exact ⟨rfl, KA.out, KB.out, KS.out, KP.out, KM.out, HB.out⟩
            cases g1
            · skip
              cases p5
              · go_wp2
                go_meet
                case rel => exact ⟨rfl, KA.out, KB.out, KS.out, KP.out, KM.out, HB.out⟩
              cases g2
              · go_wp2
                go_meet
                case rel => exact ⟨rfl, KA.out, KB.out, KS.out, KP.out, KM.out, HB.out⟩
              obtain rfl := HWP.out rfl rfl
              obtain ⟨z0, z1, z2, z3⟩ := KP.out.c4
              obtain ⟨y0, y1⟩ := KF.out.c2
              go_wp2_with fail
              refine (HCP.out _).mono ?_
              rintro e e2 ⟨rfl, hb⟩
              clear z0 z1 z2 z3 y0 y1
              replace KA := hidU (KA.out.below hb)
              replace KB := hidU (KB.out.below hb)
              replace KS := hidU (KS.out.below hb)
              replace KP := hidU (KP.out.below hb)
              replace KM := hidU (KM.out.below hb)
              replace KX := hidU (KX.out.below hb)
              replace KY := hidU (KY.out.below hb)
              replace KD := hidU (KD.out.below hb)
              replace KF := hidU (KF.out.below hb)
              replace HB := hidU (HB.out.trans (hb.mono HB.out.size))
              clear hb
              go_wp2
              go_meet
              case rel => exact ⟨rfl, KA.out, KB.out, KS.out, KP.out, KM.out, HB.out⟩
            obtain rfl := HWS.out rfl rfl
            obtain ⟨z0, z1, z2, z3⟩ := KS.out.c4
            obtain ⟨y0, y1⟩ := KD.out.c2
            go_wp2_with fail
            refine (HCS.out _).mono ?_
            rintro e e0 ⟨rfl, hb⟩
            clear z0 z1 z2 z3 y0 y1
            replace KA := hidU (KA.out.below hb)
            replace KB := hidU (KB.out.below hb)
            replace KS := hidU (KS.out.below hb)
            replace KP := hidU (KP.out.below hb)
            replace KM := hidU (KM.out.below hb)
            replace KX := hidU (KX.out.below hb)
            replace KY := hidU (KY.out.below hb)
            replace KD := hidU (KD.out.below hb)
            replace KF := hidU (KF.out.below hb)
            replace HB := hidU (HB.out.trans (hb.mono HB.out.size))
            clear hb
            cases p5
            · go_wp2
              go_meet
              case rel => exact ⟨rfl, KA.out, KB.out, KS.out, KP.out, KM.out, HB.out⟩
            cases g2
            · go_wp2
              go_meet
              case rel => exact ⟨rfl, KA.out, KB.out, KS.out, KP.out, KM.out, HB.out⟩
            obtain rfl := HWP.out rfl rfl
            obtain ⟨z0, z1, z2, z3⟩ := KP.out.c4
            obtain ⟨y0, y1⟩ := KF.out.c2
            go_wp2_with fail
            refine (HCP.out _).mono ?_
            rintro e e3 ⟨rfl, hb⟩
            clear z0 z1 z2 z3 y0 y1
            replace KA := hidU (KA.out.below hb)
            replace KB := hidU (KB.out.below hb)
            replace KS := hidU (KS.out.below hb)
            replace KP := hidU (KP.out.below hb)
            replace KM := hidU (KM.out.below hb)
            replace KX := hidU (KX.out.below hb)
            replace KY := hidU (KY.out.below hb)
            replace KD := hidU (KD.out.below hb)
            replace KF := hidU (KF.out.below hb)
            replace HB := hidU (HB.out.trans (hb.mono HB.out.size))
            clear hb
            go_wp2
            go_meet
            case rel => exact ⟨rfl, KA.out, KB.out, KS.out, KP.out, KM.out, HB.out⟩
          case rest =>
            obtain ⟨rfl, KA, KB, KS, KP, KM, HB⟩ := hcut
            go_wp2
            go_roundw
            case rel => exact ⟨k + 1, by omega, by go_num, KA.out, KB.out, KS.out, KP.out, KM.out, HB.out⟩
            case measure => simp [intOf]; omega
    · have HK := hidU (show k = 9 by omega)
      cases p5
      · go_wp2
        go_ret
        exact ⟨rfl, HB.out⟩
      have HOK := hidU (moore_ok (a := (a1, a2)) (b := (a3, a4)) (c := (b1, b2)) (d := (b3, b4)) (by rw [HEP.out]))
      rw [HEP.out] at HOK
      have HO := hidU (fun W => iRng_any p1 p2 p3 p4 W)
      rw [HOK.out] at HO
      obtain ⟨z0, z1, z2, z3⟩ := KP.out.c4
      go_wp2_with fail
      refine (HO.out _).mono ?_
      rintro e w9 ⟨rfl, hb⟩
      replace HB := hidU (HB.out.trans (hb.mono HB.out.size))
      clear hb z0 z1 z2 z3
      go_wp2
      go_ret
      exact ⟨rfl, HB.out⟩
end Go.Proofs.Ytgbdebjnlfeedaa
