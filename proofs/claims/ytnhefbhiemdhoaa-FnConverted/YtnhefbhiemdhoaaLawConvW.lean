/- The law of conversion walked: what is converted comes back, goes by a third unit, too, and a word that is a unit is it though a prefix would do. -/
import Derived.Test.YtnhefbhiemdhoaaPk3
import Derived.Deep.DeepCutAuto
import Derived.Deep.RegionHeld3
namespace Go.Proofs.Ytnhefbhiemdhoaa
open Go.RowKit Go.Proofs.Ytnhefbhiemdhoaa.RM

set_option maxRecDepth 100000 in
set_option maxHeartbeats 8000000 in
theorem lawConverted (a : Option Addr) (len cap : Nat) (zs : List Int) (w : World) (hr : IsRow .u8 w a len cap zs) :
    Calls Try.prog 3 #[.slice a len cap] w fun e w' => e = .returned (.bool true) ∧ Below w.heap.size w w' := by
  have HR := hidU hr
  have HBIG := hidU (fun W => big_any a len cap W)
  go_enter Try.func3, Try.ntmps3
  by_cases hbig : 4096 < (len : Int)
  · have HBG : Hid (decide (4096 < (len : Int)) = true) := decide_eq_true hbig
    rw [HBG.out] at HBIG
    go_wp2_with fail
    refine (HBIG.out _).mono ?_
    rintro e w1 ⟨rfl, rfl⟩
    go_wp2
    go_ret
    exact ⟨rfl, Below.refl _ _⟩
  have HBG : Hid (decide (4096 < (len : Int)) = false) := decide_eq_false hbig
  rw [HBG.out] at HBIG
  clear hr hbig
  go_wp2_with fail
  refine (HBIG.out _).mono ?_
  rintro e w0 ⟨rfl, hw⟩
  have hw2 := hw.symm
  subst hw2
  clear hw
  go_wp2_with fail
  refine (dConv_any a len cap zs _ HR.out).mono ?_
  rintro e w1 ⟨n, d, s, t, rfl, hs, ht, hb⟩
  have HB := hidU hb
  have HDs := hidU hs
  have HDt := hidU ht
  clear hb hs ht HBIG HBG
  have HIC := hidU (fun W => iConvL n d s t W HDs.out HDt.out (by decide) (by decide))
  have HSC := hidU (fun W => sConvL n d s t W HDs.out HDt.out (by decide) (by decide))
  obtain ⟨⟨x1, x2, x5⟩, hx⟩ : ∃ x, x = convI (n, d) s.data.toList t.data.toList := ⟨_, rfl⟩
  rw [← hx] at HIC HSC
  have HX := hidU hx.symm
  simp only at HIC HSC
  clear hx
  have okx : (x5 != x5) = false := by simp
  have hb := b0_any w1 (.cells #[.int .i64 n, .int .i64 d] 25)
  go_upto_region 4 with fail
  obtain ⟨Y1, hY⟩ : ∃ Y, Y = w1.alloc (.cells #[.int .i64 n, .int .i64 d] 25) := ⟨_, rfl⟩
  obtain ⟨B3, hF⟩ : ∃ F, F = w1.heap.size := ⟨_, rfl⟩
  have K3 : Hid (IsB Y1 B3 #[.int .i64 n, .int .i64 d] 25) := by show IsB _ _ _ _; rw [hY, hF]; exact IsB.new _ _ _
  rw [← hY] at hb
  rw [← hY, ← hF]
  clear hY hF
  replace HB := hidU (HB.out.trans (hb.mono HB.out.size))
  clear hb
  obtain ⟨zz00, zz01⟩ := K3.out.c2
  go_wp2_with fail
  refine (HIC.out _).mono ?_
  rintro e v1 ⟨rfl, hb⟩
  clear zz00 zz01
  replace K3 := hidU (K3.out.below hb)
  replace HB := hidU (HB.out.trans (hb.mono HB.out.size))
  clear hb
  have hb := b0_any v1 (.cells #[.int .i64 x1, .int .i64 x2] 25)
  go_upto_region 5 with fail
  obtain ⟨Y2, hY⟩ : ∃ Y, Y = v1.alloc (.cells #[.int .i64 x1, .int .i64 x2] 25) := ⟨_, rfl⟩
  obtain ⟨B6, hF⟩ : ∃ F, F = v1.heap.size := ⟨_, rfl⟩
  have K6 : Hid (IsB Y2 B6 #[.int .i64 x1, .int .i64 x2] 25) := by show IsB _ _ _ _; rw [hY, hF]; exact IsB.new _ _ _
  rw [← hY] at hb
  rw [← hY, ← hF]
  clear hY hF
  replace K3 := hidU (K3.out.below hb)
  replace HB := hidU (HB.out.trans (hb.mono HB.out.size))
  clear hb
  go_wp2_with fail
  refine (dWord_any a len cap zs _ (HR.out.below HB.out)).mono ?_
  rintro e v2 ⟨wd, rfl, hwd, hb⟩
  replace K3 := hidU (K3.out.below hb)
  replace K6 := hidU (K6.out.below hb)
  replace HB := hidU (HB.out.trans (hb.mono HB.out.size))
  clear hb
  have HDw := hidU hwd
  clear hwd
  have HIW := hidU (fun W => iWordL wd W HDw.out (by decide))
  have HSW := hidU (fun W => sWordL wd W)
  have HIB := hidU (fun W => iBothL wd W HDw.out (by decide))
  have HSB := hidU (fun W => sBothL wd W)
  obtain ⟨bo, hbo⟩ : ∃ x, x = bothL wd.data.toList := ⟨_, rfl⟩
  rw [← hbo] at HIB HSB
  have okb : (bo != bo) = false := by simp
  have HFL := hidU (wordS_len wd.data.toList)
  obtain ⟨⟨f1, f2, fd, f5⟩, hf⟩ : ∃ x, x = wordS wd.data.toList := ⟨_, rfl⟩
  rw [← hf] at HIW HSW HFL
  simp only at HIW HSW HFL
  have okf : (f5 != f5) = false := by simp
  clear hbo hf HDw
  go_wp2_with fail
  refine (HIW.out _).mono ?_
  rintro e v3 ⟨dv, rfl, hd, hb⟩
  replace K3 := hidU (K3.out.below hb)
  replace K6 := hidU (K6.out.below hb)
  replace HB := hidU (HB.out.trans (hb.mono HB.out.size))
  clear hb
  have D10 := hidU hd
  clear hd
  have hb := b0_any v3 (.cells #[.int .i64 f1, .int .i64 f2] 25)
  go_upto_region 7 with fail
  obtain ⟨Y3, hY⟩ : ∃ Y, Y = v3.alloc (.cells #[.int .i64 f1, .int .i64 f2] 25) := ⟨_, rfl⟩
  obtain ⟨B9, hF⟩ : ∃ F, F = v3.heap.size := ⟨_, rfl⟩
  have K9 : Hid (IsB Y3 B9 #[.int .i64 f1, .int .i64 f2] 25) := by show IsB _ _ _ _; rw [hY, hF]; exact IsB.new _ _ _
  rw [← hY] at hb
  rw [← hY, ← hF]
  clear hY hF
  replace K3 := hidU (K3.out.below hb)
  replace K6 := hidU (K6.out.below hb)
  replace D10 := hidU (D10.out.below hb)
  replace HB := hidU (HB.out.trans (hb.mono HB.out.size))
  clear hb
  go_wp2_with fail
  refine (dUnit_any a len cap zs _ (HR.out.below HB.out)).mono ?_
  rintro e v4 ⟨u, rfl, hu, hb⟩
  replace K3 := hidU (K3.out.below hb)
  replace K6 := hidU (K6.out.below hb)
  replace D10 := hidU (D10.out.below hb)
  replace K9 := hidU (K9.out.below hb)
  replace HB := hidU (HB.out.trans (hb.mono HB.out.size))
  clear hb
  have HDu := hidU hu
  clear hu
  have HIU := hidU (fun W => iUnitL u W HDu.out (by decide))
  have HSU := hidU (fun W => sUnitL u W HDu.out (by decide))
  have HID := hidU (fun W => iDimsL u W HDu.out (by decide))
  have HSD := hidU (fun W => sDimsL u W HDu.out (by decide))
  have HGL := hidU (unitT_len5 u.data.toList)
  obtain ⟨⟨g1, g2, gd, g5⟩, hg⟩ : ∃ x, x = unitT u.data.toList := ⟨_, rfl⟩
  rw [← hg] at HIU HSU HID HSD HGL
  simp only at HIU HSU HID HSD HGL
  have okg : (g5 != g5) = false := by simp
  clear hg HDu
  go_wp2_with fail
  refine (HIU.out _).mono ?_
  rintro e v5 ⟨ev, rfl, hd, hb⟩
  replace K3 := hidU (K3.out.below hb)
  replace K6 := hidU (K6.out.below hb)
  replace D10 := hidU (D10.out.below hb)
  replace K9 := hidU (K9.out.below hb)
  replace HB := hidU (HB.out.trans (hb.mono HB.out.size))
  clear hb
  have D14 := hidU hd
  clear hd
  have hb := b0_any v5 (.cells #[.int .i64 g1, .int .i64 g2] 25)
  go_upto_region 9 with fail
  obtain ⟨Y4, hY⟩ : ∃ Y, Y = v5.alloc (.cells #[.int .i64 g1, .int .i64 g2] 25) := ⟨_, rfl⟩
  obtain ⟨B13, hF⟩ : ∃ F, F = v5.heap.size := ⟨_, rfl⟩
  have K13 : Hid (IsB Y4 B13 #[.int .i64 g1, .int .i64 g2] 25) := by show IsB _ _ _ _; rw [hY, hF]; exact IsB.new _ _ _
  rw [← hY] at hb
  rw [← hY, ← hF]
  clear hY hF
  replace K3 := hidU (K3.out.below hb)
  replace K6 := hidU (K6.out.below hb)
  replace D10 := hidU (D10.out.below hb)
  replace K9 := hidU (K9.out.below hb)
  replace D14 := hidU (D14.out.below hb)
  replace HB := hidU (HB.out.trans (hb.mono HB.out.size))
  clear hb
  obtain ⟨zz00, zz01⟩ := K3.out.c2
  go_wp2_with fail
  refine (HSC.out _).mono ?_
  rintro e v6 ⟨rfl, hb⟩
  clear zz00 zz01
  replace K3 := hidU (K3.out.below hb)
  replace K6 := hidU (K6.out.below hb)
  replace D10 := hidU (D10.out.below hb)
  replace K9 := hidU (K9.out.below hb)
  replace D14 := hidU (D14.out.below hb)
  replace K13 := hidU (K13.out.below hb)
  replace HB := hidU (HB.out.trans (hb.mono HB.out.size))
  clear hb
  have hb := b0_any v6 (.cells #[.int .i64 x1, .int .i64 x2] 25)
  go_upto_region 10 with fail
  obtain ⟨Y5, hY⟩ : ∃ Y, Y = v6.alloc (.cells #[.int .i64 x1, .int .i64 x2] 25) := ⟨_, rfl⟩
  obtain ⟨B16, hF⟩ : ∃ F, F = v6.heap.size := ⟨_, rfl⟩
  have K16 : Hid (IsB Y5 B16 #[.int .i64 x1, .int .i64 x2] 25) := by show IsB _ _ _ _; rw [hY, hF]; exact IsB.new _ _ _
  rw [← hY] at hb
  rw [← hY, ← hF]
  clear hY hF
  replace K3 := hidU (K3.out.below hb)
  replace K6 := hidU (K6.out.below hb)
  replace D10 := hidU (D10.out.below hb)
  replace K9 := hidU (K9.out.below hb)
  replace D14 := hidU (D14.out.below hb)
  replace K13 := hidU (K13.out.below hb)
  replace HB := hidU (HB.out.trans (hb.mono HB.out.size))
  clear hb
  obtain ⟨zz00, zz01⟩ := K6.out.c2
  obtain ⟨zz10, zz11⟩ := K16.out.c2
  go_wp2_with fail
  refine (HIB.out _).mono ?_
  rintro e v7 ⟨rfl, hb⟩
  clear zz00 zz01 zz10 zz11
  replace K3 := hidU (K3.out.below hb)
  replace K6 := hidU (K6.out.below hb)
  replace D10 := hidU (D10.out.below hb)
  replace K9 := hidU (K9.out.below hb)
  replace D14 := hidU (D14.out.below hb)
  replace K13 := hidU (K13.out.below hb)
  replace K16 := hidU (K16.out.below hb)
  replace HB := hidU (HB.out.trans (hb.mono HB.out.size))
  clear hb
  go_wp2_with fail
  refine (HSB.out _).mono ?_
  rintro e v8 ⟨rfl, hb⟩
  replace K3 := hidU (K3.out.below hb)
  replace K6 := hidU (K6.out.below hb)
  replace D10 := hidU (D10.out.below hb)
  replace K9 := hidU (K9.out.below hb)
  replace D14 := hidU (D14.out.below hb)
  replace K13 := hidU (K13.out.below hb)
  replace K16 := hidU (K16.out.below hb)
  replace HB := hidU (HB.out.trans (hb.mono HB.out.size))
  clear hb
  go_wp2_with fail
  refine (HID.out _).mono ?_
  rintro e v9 ⟨q1, rfl, hd, hb⟩
  replace K3 := hidU (K3.out.below hb)
  replace K6 := hidU (K6.out.below hb)
  replace D10 := hidU (D10.out.below hb)
  replace K9 := hidU (K9.out.below hb)
  replace D14 := hidU (D14.out.below hb)
  replace K13 := hidU (K13.out.below hb)
  replace K16 := hidU (K16.out.below hb)
  replace HB := hidU (HB.out.trans (hb.mono HB.out.size))
  clear hb
  have Q1 := hidU hd
  clear hd
  go_wp2_with fail
  refine (HSD.out _).mono ?_
  rintro e v10 ⟨q2, rfl, hd, hb⟩
  replace K3 := hidU (K3.out.below hb)
  replace K6 := hidU (K6.out.below hb)
  replace D10 := hidU (D10.out.below hb)
  replace K9 := hidU (K9.out.below hb)
  replace D14 := hidU (D14.out.below hb)
  replace K13 := hidU (K13.out.below hb)
  replace K16 := hidU (K16.out.below hb)
  replace Q1 := hidU (Q1.out.below hb)
  replace HB := hidU (HB.out.trans (hb.mono HB.out.size))
  clear hb
  have Q2 := hidU hd
  clear hd
  go_wp2_with fail
  refine (likeSame _ _ gd _ HGL.out Q1.out Q2.out).mono ?_
  rintro e v11 ⟨rfl, hb⟩
  replace K3 := hidU (K3.out.below hb)
  replace K6 := hidU (K6.out.below hb)
  replace D10 := hidU (D10.out.below hb)
  replace K9 := hidU (K9.out.below hb)
  replace D14 := hidU (D14.out.below hb)
  replace K13 := hidU (K13.out.below hb)
  replace K16 := hidU (K16.out.below hb)
  replace Q1 := hidU (Q1.out.below hb)
  replace Q2 := hidU (Q2.out.below hb)
  replace HB := hidU (HB.out.trans (hb.mono HB.out.size))
  clear hb
  clear Q1 Q2 HSD HIB HSB K16 okb
  go_wp2_with fail
  refine (HSW.out _).mono ?_
  rintro e v12 ⟨q3, rfl, hd, hb⟩
  replace K3 := hidU (K3.out.below hb)
  replace K6 := hidU (K6.out.below hb)
  replace D10 := hidU (D10.out.below hb)
  replace K9 := hidU (K9.out.below hb)
  replace D14 := hidU (D14.out.below hb)
  replace K13 := hidU (K13.out.below hb)
  replace HB := hidU (HB.out.trans (hb.mono HB.out.size))
  clear hb
  have Q3 := hidU hd
  clear hd
  have hb := b0_any v12 (.cells #[.int .i64 f1, .int .i64 f2] 25)
  go_upto_region 13 with fail
  obtain ⟨Y6, hY⟩ : ∃ Y, Y = v12.alloc (.cells #[.int .i64 f1, .int .i64 f2] 25) := ⟨_, rfl⟩
  obtain ⟨B18, hF⟩ : ∃ F, F = v12.heap.size := ⟨_, rfl⟩
  have K18 : Hid (IsB Y6 B18 #[.int .i64 f1, .int .i64 f2] 25) := by show IsB _ _ _ _; rw [hY, hF]; exact IsB.new _ _ _
  rw [← hY] at hb
  rw [← hY, ← hF]
  clear hY hF
  replace K3 := hidU (K3.out.below hb)
  replace K6 := hidU (K6.out.below hb)
  replace D10 := hidU (D10.out.below hb)
  replace K9 := hidU (K9.out.below hb)
  replace D14 := hidU (D14.out.below hb)
  replace K13 := hidU (K13.out.below hb)
  replace Q3 := hidU (Q3.out.below hb)
  replace HB := hidU (HB.out.trans (hb.mono HB.out.size))
  clear hb
  obtain ⟨zz00, zz01⟩ := K9.out.c2
  obtain ⟨zz10, zz11⟩ := K18.out.c2
  go_wp2_with fail
  refine (likeSame _ _ fd _ HFL.out D10.out Q3.out).mono ?_
  rintro e v13 ⟨rfl, hb⟩
  clear zz00 zz01 zz10 zz11
  replace K3 := hidU (K3.out.below hb)
  replace K6 := hidU (K6.out.below hb)
  replace D10 := hidU (D10.out.below hb)
  replace K9 := hidU (K9.out.below hb)
  replace D14 := hidU (D14.out.below hb)
  replace K13 := hidU (K13.out.below hb)
  replace Q3 := hidU (Q3.out.below hb)
  replace K18 := hidU (K18.out.below hb)
  replace HB := hidU (HB.out.trans (hb.mono HB.out.size))
  clear hb
  clear Q3 K9 K18 D10 HIW HSW HFL okf
  go_wp2_with fail
  refine (HSU.out _).mono ?_
  rintro e v14 ⟨q4, rfl, hd, hb⟩
  replace K3 := hidU (K3.out.below hb)
  replace K6 := hidU (K6.out.below hb)
  replace D14 := hidU (D14.out.below hb)
  replace K13 := hidU (K13.out.below hb)
  replace HB := hidU (HB.out.trans (hb.mono HB.out.size))
  clear hb
  have Q4 := hidU hd
  clear hd
  have hb := b0_any v14 (.cells #[.int .i64 g1, .int .i64 g2] 25)
  go_upto_region 16 with fail
  obtain ⟨Y7, hY⟩ : ∃ Y, Y = v14.alloc (.cells #[.int .i64 g1, .int .i64 g2] 25) := ⟨_, rfl⟩
  obtain ⟨B21, hF⟩ : ∃ F, F = v14.heap.size := ⟨_, rfl⟩
  have K21 : Hid (IsB Y7 B21 #[.int .i64 g1, .int .i64 g2] 25) := by show IsB _ _ _ _; rw [hY, hF]; exact IsB.new _ _ _
  rw [← hY] at hb
  rw [← hY, ← hF]
  clear hY hF
  replace K3 := hidU (K3.out.below hb)
  replace K6 := hidU (K6.out.below hb)
  replace D14 := hidU (D14.out.below hb)
  replace K13 := hidU (K13.out.below hb)
  replace Q4 := hidU (Q4.out.below hb)
  replace HB := hidU (HB.out.trans (hb.mono HB.out.size))
  clear hb
  obtain ⟨zz00, zz01⟩ := K13.out.c2
  obtain ⟨zz10, zz11⟩ := K21.out.c2
  go_wp2_with fail
  refine (likeSame _ _ gd _ HGL.out D14.out Q4.out).mono ?_
  rintro e v15 ⟨rfl, hb⟩
  clear zz00 zz01 zz10 zz11
  replace K3 := hidU (K3.out.below hb)
  replace K6 := hidU (K6.out.below hb)
  replace D14 := hidU (D14.out.below hb)
  replace K13 := hidU (K13.out.below hb)
  replace Q4 := hidU (Q4.out.below hb)
  replace K21 := hidU (K21.out.below hb)
  replace HB := hidU (HB.out.trans (hb.mono HB.out.size))
  clear hb
  go_wp2_with fail
  refine (HID.out _).mono ?_
  rintro e v16 ⟨q5, rfl, hd, hb⟩
  replace K3 := hidU (K3.out.below hb)
  replace K6 := hidU (K6.out.below hb)
  replace D14 := hidU (D14.out.below hb)
  replace K13 := hidU (K13.out.below hb)
  replace Q4 := hidU (Q4.out.below hb)
  replace K21 := hidU (K21.out.below hb)
  replace HB := hidU (HB.out.trans (hb.mono HB.out.size))
  clear hb
  have Q5 := hidU hd
  clear hd
  go_wp2_with fail
  refine (likeSame _ _ gd _ HGL.out Q5.out D14.out).mono ?_
  rintro e v17 ⟨rfl, hb⟩
  replace K3 := hidU (K3.out.below hb)
  replace K6 := hidU (K6.out.below hb)
  replace D14 := hidU (D14.out.below hb)
  replace K13 := hidU (K13.out.below hb)
  replace Q4 := hidU (Q4.out.below hb)
  replace K21 := hidU (K21.out.below hb)
  replace Q5 := hidU (Q5.out.below hb)
  replace HB := hidU (HB.out.trans (hb.mono HB.out.size))
  clear hb
  clear Q4 Q5 K13 K21 D14 HID HIU HSU HGL okg
  have HWM := hidU (fun W => iWordL ⟨#[109, 105, 110]⟩ W DT_min (by decide))
  rw [show (⟨#[109, 105, 110]⟩ : ByteArray).data.toList = [109, 105, 110] from rfl, wordS_min] at HWM
  have HBM := hidU (fun W => iBothL ⟨#[109, 105, 110]⟩ W DT_min (by decide))
  rw [show (⟨#[109, 105, 110]⟩ : ByteArray).data.toList = [109, 105, 110] from rfl, bothL_min] at HBM
  go_wp2_with fail
  refine (HWM.out _).mono ?_
  rintro e v18 ⟨mv, rfl, hd, hb⟩
  replace K3 := hidU (K3.out.below hb)
  replace K6 := hidU (K6.out.below hb)
  replace HB := hidU (HB.out.trans (hb.mono HB.out.size))
  clear hb
  have D25 := hidU hd
  clear hd
  have hb := b0_any v18 (.cells #[.int .i64 60, .int .i64 1] 25)
  go_upto_region 19 with fail
  obtain ⟨Y8, hY⟩ : ∃ Y, Y = v18.alloc (.cells #[.int .i64 60, .int .i64 1] 25) := ⟨_, rfl⟩
  obtain ⟨B24, hF⟩ : ∃ F, F = v18.heap.size := ⟨_, rfl⟩
  have K24 : Hid (IsB Y8 B24 #[.int .i64 60, .int .i64 1] 25) := by show IsB _ _ _ _; rw [hY, hF]; exact IsB.new _ _ _
  rw [← hY] at hb
  rw [← hY, ← hF]
  clear hY hF
  replace K3 := hidU (K3.out.below hb)
  replace K6 := hidU (K6.out.below hb)
  replace D25 := hidU (D25.out.below hb)
  replace HB := hidU (HB.out.trans (hb.mono HB.out.size))
  clear hb
  have hb := (Below.refl Y8.heap.size Y8).drew
  replace K3 := hidU (K3.out.below hb)
  replace K6 := hidU (K6.out.below hb)
  replace D25 := hidU (D25.out.below hb)
  replace K24 := hidU (K24.out.below hb)
  replace HB := hidU (HB.out.trans (hb.mono HB.out.size))
  clear hb
  refine wp_region_noPanic ?_
  refine wp_region_held_drew (S := fun W => IsB W B24 #[.int .i64 60, .int .i64 1] 25) (by kernel_rfl) K24.out (fun hHeld => ?_)
  obtain ⟨wd2, hwd⟩ : ∃ u, u = Y8.drew := ⟨_, rfl⟩
  rw [← hwd] at K3 K6 D25 K24 HB hHeld ⊢
  clear hwd
  refine wpAnyH_take (i := 0) (v := .bool true) rfl (by kernel_rfl) (by kernel_rfl) (by kernel_rfl) (fun _ _ _ h => h) (Or.inl ⟨by kernel_rfl, ?_⟩) hHeld ?_
  skip
  · intro wz hSw; obtain ⟨p0, p1⟩ := IsB.c2 hSw; clear hSw; go_simp; all_goals (try with_reducible rfl)
  (try simp only [List.getElem_toArray]); (try simp only [List.getElem_cons_succ]); (try simp only [List.getElem_cons_zero]); (try simp only [Act.put]); (try simp only [List.setIfInBounds_toArray]); (try simp only [List.set_cons_succ]); (try simp only [List.set_cons_zero])
  refine wpAnyH_take (i := 1) (v := .bool false) rfl (by kernel_rfl) (by kernel_rfl) (by kernel_rfl) (fun _ _ _ h => h) (Or.inl ⟨by kernel_rfl, ?_⟩) hHeld ?_
  skip
  · intro wz hSw; obtain ⟨p0, p1⟩ := IsB.c2 hSw; clear hSw; go_simp; all_goals (try with_reducible rfl)
  (try simp only [List.getElem_toArray]); (try simp only [List.getElem_cons_succ]); (try simp only [List.getElem_cons_zero]); (try simp only [Act.put]); (try simp only [List.setIfInBounds_toArray]); (try simp only [List.set_cons_succ]); (try simp only [List.set_cons_zero])
  refine wpAnyH_take (i := 2) (v := .bool false) rfl (by kernel_rfl) (by kernel_rfl) (by kernel_rfl) (fun _ _ _ h => h) (Or.inl ⟨by kernel_rfl, ?_⟩) hHeld ?_
  skip
  · intro wz hSw; obtain ⟨p0, p1⟩ := IsB.c2 hSw; clear hSw; go_simp; all_goals (try with_reducible rfl)
  (try simp only [List.getElem_toArray]); (try simp only [List.getElem_cons_succ]); (try simp only [List.getElem_cons_zero]); (try simp only [Act.put]); (try simp only [List.setIfInBounds_toArray]); (try simp only [List.set_cons_succ]); (try simp only [List.set_cons_zero])
  refine wpAnyH_take (i := 3) (v := ?_) rfl (by kernel_rfl) (by kernel_rfl) (by kernel_rfl) (fun _ _ _ h => h) (Or.inl ⟨by kernel_rfl, ?_⟩) hHeld ?_
  rotate_left
  · intro wz hSw; obtain ⟨p0, p1⟩ := IsB.c2 hSw; clear hSw; go_simp; all_goals (try with_reducible rfl)
  (try simp only [List.getElem_toArray]); (try simp only [List.getElem_cons_succ]); (try simp only [List.getElem_cons_zero]); (try simp only [Act.put]); (try simp only [List.setIfInBounds_toArray]); (try simp only [List.set_cons_succ]); (try simp only [List.set_cons_zero])
  refine wpAnyH_ready (rs := [4]) (by kernel_rfl) (by simp) (AllReadyH.cons rfl (fun Kc hKc => ?_) AllReadyH.nil)
  go_simp
  refine (whole_any 60 _).mono ?_
  rintro e r4 ⟨rfl, hw⟩
  have hb : Below wd2.heap.size wd2 r4 := by rw [hw]; exact b0_any _ _
  clear hw
  replace K3 := hidU (K3.out.below hb)
  replace K6 := hidU (K6.out.below hb)
  replace D25 := hidU (D25.out.below hb)
  replace K24 := hidU (K24.out.below hb)
  replace HB := hidU (HB.out.trans (hb.mono HB.out.size))
  clear hb
  go_wp2_with fail
  refine hKc.out _ _ K24.out (fun hHeld => ?_)
  clear hKc Kc
  (try simp only [List.getElem_toArray]); (try simp only [List.getElem_cons_succ]); (try simp only [List.getElem_cons_zero]); (try simp only [Act.put]); (try simp only [List.setIfInBounds_toArray]); (try simp only [List.set_cons_succ]); (try simp only [List.set_cons_zero])
  refine wpAnyH_take (i := 5) (v := .bool false) rfl (by kernel_rfl) (by kernel_rfl) (by kernel_rfl) (fun _ _ _ h => h) (Or.inl ⟨by kernel_rfl, ?_⟩) hHeld ?_
  skip
  · intro wz hSw; obtain ⟨p0, p1⟩ := IsB.c2 hSw; clear hSw; go_simp; all_goals (try with_reducible rfl)
  (try simp only [List.getElem_toArray]); (try simp only [List.getElem_cons_succ]); (try simp only [List.getElem_cons_zero]); (try simp only [Act.put]); (try simp only [List.setIfInBounds_toArray]); (try simp only [List.set_cons_succ]); (try simp only [List.set_cons_zero])
  refine wpAnyH_take (i := 6) (v := .bool false) rfl (by kernel_rfl) (by kernel_rfl) (by kernel_rfl) (fun _ _ _ h => h) (Or.inl ⟨by kernel_rfl, ?_⟩) hHeld ?_
  skip
  · intro wz hSw; obtain ⟨p0, p1⟩ := IsB.c2 hSw; clear hSw; go_simp; all_goals (try with_reducible rfl)
  (try simp only [List.getElem_toArray]); (try simp only [List.getElem_cons_succ]); (try simp only [List.getElem_cons_zero]); (try simp only [Act.put]); (try simp only [List.setIfInBounds_toArray]); (try simp only [List.set_cons_succ]); (try simp only [List.set_cons_zero])
  refine wpAnyH_take (i := 7) (v := .bool false) rfl (by kernel_rfl) (by kernel_rfl) (by kernel_rfl) (fun _ _ _ h => h) (Or.inl ⟨by kernel_rfl, ?_⟩) hHeld ?_
  skip
  · intro wz hSw; obtain ⟨p0, p1⟩ := IsB.c2 hSw; clear hSw; go_simp; all_goals (try with_reducible rfl)
  (try simp only [List.getElem_toArray]); (try simp only [List.getElem_cons_succ]); (try simp only [List.getElem_cons_zero]); (try simp only [Act.put]); (try simp only [List.setIfInBounds_toArray]); (try simp only [List.set_cons_succ]); (try simp only [List.set_cons_zero])
  refine wpAnyH_take (i := 8) (v := ?_) rfl (by kernel_rfl) (by kernel_rfl) (by kernel_rfl) (fun _ _ _ h => h) (Or.inl ⟨by kernel_rfl, ?_⟩) hHeld ?_
  rotate_left
  · intro wz hSw; obtain ⟨p0, p1⟩ := IsB.c2 hSw; clear hSw; go_simp; all_goals (try with_reducible rfl)
  (try simp only [List.getElem_toArray]); (try simp only [List.getElem_cons_succ]); (try simp only [List.getElem_cons_zero]); (try simp only [Act.put]); (try simp only [List.setIfInBounds_toArray]); (try simp only [List.set_cons_succ]); (try simp only [List.set_cons_zero])
  refine wpAnyH_ready (rs := [9]) (by kernel_rfl) (by simp) (AllReadyH.cons rfl (fun Kc hKc => ?_) AllReadyH.nil)
  go_simp
  obtain ⟨G, hG⟩ : ∃ G, G = r4.heap.size := ⟨_, rfl⟩
  obtain ⟨r9, hw⟩ : ∃ Y, Y = r4.alloc (.cells #[.int .i64 0, .int .i64 0, .int .i64 1, .int .i64 0, .int .i64 0] 2) := ⟨_, rfl⟩
  have hb : Below r4.heap.size r4 r9 := by rw [hw]; exact b0_any _ _
  have KG : IsB r9 G #[.int .i64 0, .int .i64 0, .int .i64 1, .int .i64 0, .int .i64 0] 2 := by rw [hw, hG]; exact IsB.new _ _ _
  have DG : Hid (RdU r9 (.slice (some ⟨G, 0, none⟩) 5 5) [0, 0, 1, 0, 0]) := ⟨_, _, rfl, fiveC7 KG⟩
  rw [← hw, ← hG]
  clear hw hG KG
  replace K3 := hidU (K3.out.below hb)
  replace K6 := hidU (K6.out.below hb)
  replace D25 := hidU (D25.out.below hb)
  replace K24 := hidU (K24.out.below hb)
  replace HB := hidU (HB.out.trans (hb.mono HB.out.size))
  clear hb
  refine hKc.out _ _ K24.out (fun hHeld => ?_)
  clear hKc Kc
  (try simp only [List.getElem_toArray]); (try simp only [List.getElem_cons_succ]); (try simp only [List.getElem_cons_zero]); (try simp only [Act.put]); (try simp only [List.setIfInBounds_toArray]); (try simp only [List.set_cons_succ]); (try simp only [List.set_cons_zero])
  refine wpAnyH_ready (rs := [10]) (by kernel_rfl) (by simp) (AllReadyH.cons rfl (fun Kc hKc => ?_) AllReadyH.nil)
  go_simp
  refine (likeSame _ _ [0, 0, 1, 0, 0] _ (by decide) D25.out DG.out).mono ?_
  rintro e r10 ⟨rfl, hb⟩
  replace K3 := hidU (K3.out.below hb)
  replace K6 := hidU (K6.out.below hb)
  replace D25 := hidU (D25.out.below hb)
  replace K24 := hidU (K24.out.below hb)
  replace DG := hidU (DG.out.below hb)
  replace HB := hidU (HB.out.trans (hb.mono HB.out.size))
  clear hb
  go_wp2_with fail
  refine hKc.out _ _ K24.out (fun hHeld => ?_)
  clear hKc Kc
  (try simp only [List.getElem_toArray]); (try simp only [List.getElem_cons_succ]); (try simp only [List.getElem_cons_zero]); (try simp only [Act.put]); (try simp only [List.setIfInBounds_toArray]); (try simp only [List.set_cons_succ]); (try simp only [List.set_cons_zero])
  refine wpAnyH_take (i := 11) (v := .bool false) rfl (by kernel_rfl) (by kernel_rfl) (by kernel_rfl) (fun _ _ _ h => h) (Or.inl ⟨by kernel_rfl, ?_⟩) hHeld ?_
  skip
  · intro wz hSw; obtain ⟨p0, p1⟩ := IsB.c2 hSw; clear hSw; go_simp; all_goals (try with_reducible rfl)
  (try simp only [List.getElem_toArray]); (try simp only [List.getElem_cons_succ]); (try simp only [List.getElem_cons_zero]); (try simp only [Act.put]); (try simp only [List.setIfInBounds_toArray]); (try simp only [List.set_cons_succ]); (try simp only [List.set_cons_zero])
  refine wpAnyH_take (i := 12) (v := .bool false) rfl (by kernel_rfl) (by kernel_rfl) (by kernel_rfl) (fun _ _ _ h => h) (Or.inl ⟨by kernel_rfl, ?_⟩) hHeld ?_
  skip
  · intro wz hSw; obtain ⟨p0, p1⟩ := IsB.c2 hSw; clear hSw; go_simp; all_goals (try with_reducible rfl)
  (try simp only [List.getElem_toArray]); (try simp only [List.getElem_cons_succ]); (try simp only [List.getElem_cons_zero]); (try simp only [Act.put]); (try simp only [List.setIfInBounds_toArray]); (try simp only [List.set_cons_succ]); (try simp only [List.set_cons_zero])
  refine wpAnyH_take (i := 13) (v := .bool false) rfl (by kernel_rfl) (by kernel_rfl) (by kernel_rfl) (fun _ _ _ h => h) (Or.inl ⟨by kernel_rfl, ?_⟩) hHeld ?_
  skip
  · intro wz hSw; obtain ⟨p0, p1⟩ := IsB.c2 hSw; clear hSw; go_simp; all_goals (try with_reducible rfl)
  (try simp only [List.getElem_toArray]); (try simp only [List.getElem_cons_succ]); (try simp only [List.getElem_cons_zero]); (try simp only [Act.put]); (try simp only [List.setIfInBounds_toArray]); (try simp only [List.set_cons_succ]); (try simp only [List.set_cons_zero])
  refine wpAnyH_ready (rs := [14]) (by kernel_rfl) (by simp) (AllReadyH.cons rfl (fun Kc hKc => ?_) AllReadyH.nil)
  go_simp
  refine (HBM.out _).mono ?_
  rintro e r14 ⟨rfl, hb⟩
  replace K3 := hidU (K3.out.below hb)
  replace K6 := hidU (K6.out.below hb)
  replace D25 := hidU (D25.out.below hb)
  replace K24 := hidU (K24.out.below hb)
  replace DG := hidU (DG.out.below hb)
  replace HB := hidU (HB.out.trans (hb.mono HB.out.size))
  clear hb
  go_wp2_with fail
  refine hKc.out _ _ K24.out (fun hHeld => ?_)
  clear hKc Kc
  (try simp only [List.getElem_toArray]); (try simp only [List.getElem_cons_succ]); (try simp only [List.getElem_cons_zero]); (try simp only [Act.put]); (try simp only [List.setIfInBounds_toArray]); (try simp only [List.set_cons_succ]); (try simp only [List.set_cons_zero])
  refine wpAnyH_take (i := 15) (v := .bool false) rfl (by kernel_rfl) (by kernel_rfl) (by kernel_rfl) (fun _ _ _ h => h) (Or.inl ⟨by kernel_rfl, ?_⟩) hHeld ?_
  skip
  · intro wz hSw; obtain ⟨p0, p1⟩ := IsB.c2 hSw; clear hSw; go_simp; all_goals (try with_reducible rfl)
  (try simp only [List.getElem_toArray]); (try simp only [List.getElem_cons_succ]); (try simp only [List.getElem_cons_zero]); (try simp only [Act.put]); (try simp only [List.setIfInBounds_toArray]); (try simp only [List.set_cons_succ]); (try simp only [List.set_cons_zero])
  refine wpAnyH_take (i := 16) (v := .bool false) rfl (by kernel_rfl) (by kernel_rfl) (by kernel_rfl) (fun _ _ _ h => h) (Or.inl ⟨by kernel_rfl, ?_⟩) hHeld ?_
  skip
  · intro wz hSw; obtain ⟨p0, p1⟩ := IsB.c2 hSw; clear hSw; go_simp; all_goals (try with_reducible rfl)
  (try simp only [List.getElem_toArray]); (try simp only [List.getElem_cons_succ]); (try simp only [List.getElem_cons_zero]); (try simp only [Act.put]); (try simp only [List.setIfInBounds_toArray]); (try simp only [List.set_cons_succ]); (try simp only [List.set_cons_zero])
  refine wpAnyH_done (by kernel_rfl) ?_ _
  refine NoPanic.normal ?_
  clear hHeld DG D25 K24 HWM HBM
  obtain ⟨z0, z1⟩ := K6.out.c2
  cases x5
  · have hn := convI_no (v := (n, d)) (s := s.data.toList) (t := t.data.toList) (by rw [HX.out])
    rw [HX.out] at hn
    obtain ⟨rfl, rfl⟩ : x1 = 0 ∧ x2 = 0 := by injection hn with h1 h2; injection h2 with h2 h3; exact ⟨h1, h2⟩
    clear hn
    go_wp2
    go_ret
    exact ⟨rfl, HB.out⟩
  have HC2 := hidU (fun W => iConvL x1 x2 t s W HDt.out HDs.out (by decide) (by decide))
  have HE2 : Hid ((convI (x1, x2) t.data.toList s.data.toList).2.2 = true → (convI (x1, x2) t.data.toList s.data.toList).1 = n ∧ (convI (x1, x2) t.data.toList s.data.toList).2.1 = d) := by
    intro h
    have h2 := convI_back (v := (n, d)) (s := s.data.toList) (t := t.data.toList) (by rw [HX.out]) (by rw [HX.out]; exact h)
    rw [HX.out] at h2
    exact ⟨congrArg Prod.fst h2, congrArg Prod.snd h2⟩
  obtain ⟨⟨y1, y2, y5⟩, hy⟩ : ∃ x, x = convI (x1, x2) t.data.toList s.data.toList := ⟨_, rfl⟩
  rw [← hy] at HC2 HE2
  simp only at HC2 HE2
  clear hy z0 z1
  obtain ⟨zz00, zz01⟩ := K6.out.c2
  go_wp2_with fail
  refine (HC2.out _).mono ?_
  rintro e c1 ⟨rfl, hb⟩
  clear zz00 zz01
  replace K3 := hidU (K3.out.below hb)
  replace K6 := hidU (K6.out.below hb)
  replace HB := hidU (HB.out.trans (hb.mono HB.out.size))
  clear hb
  have hb := b0_any c1 (.cells #[.int .i64 y1, .int .i64 y2] 25)
  go_upto_region 24 with fail
  obtain ⟨Y9, hY⟩ : ∃ Y, Y = c1.alloc (.cells #[.int .i64 y1, .int .i64 y2] 25) := ⟨_, rfl⟩
  obtain ⟨B27, hF⟩ : ∃ F, F = c1.heap.size := ⟨_, rfl⟩
  have K27 : Hid (IsB Y9 B27 #[.int .i64 y1, .int .i64 y2] 25) := by show IsB _ _ _ _; rw [hY, hF]; exact IsB.new _ _ _
  rw [← hY] at hb
  rw [← hY, ← hF]
  clear hY hF
  replace K3 := hidU (K3.out.below hb)
  replace K6 := hidU (K6.out.below hb)
  replace HB := hidU (HB.out.trans (hb.mono HB.out.size))
  clear hb
  obtain ⟨z0, z1⟩ := K27.out.c2
  obtain ⟨t0, t1⟩ := K3.out.c2
  have HDA := hidU (fun W => iDimsL s W HDs.out (by decide))
  have HDB := hidU (fun W => iDimsL t W HDt.out (by decide))
  have HDD := hidU (conv_dims (v := (n, d)) (s := s.data.toList) (t := t.data.toList) (by rw [HX.out]))
  rw [HDD.out] at HDB
  have HDL := hidU (unitT_len5 s.data.toList)
  obtain ⟨dd, hdd⟩ : ∃ x, x = (unitT s.data.toList).2.2.1 := ⟨_, rfl⟩
  rw [← hdd] at HDA HDB HDL
  clear hdd HDD
  go_cut [185] from 174 to 207 (fun c wx => c = .bool false ∧ Hid (IsB wx B3 #[.int .i64 n, .int .i64 d] 25) ∧ Hid (IsB wx B6 #[.int .i64 x1, .int .i64 x2] 25) ∧ Hid (Below w.heap.size w wx))
  case first =>
    cases y5
    · go_wp2
      go_meet
      case rel => exact ⟨rfl, K3.out, K6.out, HB.out⟩
    · obtain ⟨rfl, rfl⟩ := HE2.out (by first | exact rfl | exact trivial)
      go_wp2
      go_meet
      case rel => exact ⟨rfl, K3.out, K6.out, HB.out⟩
  case rest =>
    obtain ⟨rfl, K3, K6, HB⟩ := hcut
    go_wp2_with fail
    refine (HDA.out _).mono ?_
    rintro e c2 ⟨q6, rfl, hd, hb⟩
    replace K3 := hidU (K3.out.below hb)
    replace K6 := hidU (K6.out.below hb)
    replace HB := hidU (HB.out.trans (hb.mono HB.out.size))
    clear hb
    have Q6 := hidU hd
    clear hd
    go_wp2_with fail
    refine (HDB.out _).mono ?_
    rintro e c3 ⟨q7, rfl, hd, hb⟩
    replace K3 := hidU (K3.out.below hb)
    replace K6 := hidU (K6.out.below hb)
    replace Q6 := hidU (Q6.out.below hb)
    replace HB := hidU (HB.out.trans (hb.mono HB.out.size))
    clear hb
    have Q7 := hidU hd
    clear hd
    go_wp2_with fail
    refine (likeSame _ _ dd _ HDL.out Q6.out Q7.out).mono ?_
    rintro e c4 ⟨rfl, hb⟩
    replace K3 := hidU (K3.out.below hb)
    replace K6 := hidU (K6.out.below hb)
    replace Q6 := hidU (Q6.out.below hb)
    replace Q7 := hidU (Q7.out.below hb)
    replace HB := hidU (HB.out.trans (hb.mono HB.out.size))
    clear hb
    clear Q6 Q7 HDA HDB HDL
    have HC3 := hidU (fun W => iConvL n d s s W HDs.out HDs.out (by decide) (by decide))
    rw [convI_self (v := (n, d)) (s := s.data.toList) (t := t.data.toList) (by rw [HX.out])] at HC3
    simp only at HC3
    obtain ⟨zz00, zz01⟩ := K3.out.c2
    go_wp2_with fail
    refine (HC3.out _).mono ?_
    rintro e c5 ⟨rfl, hb⟩
    clear zz00 zz01
    replace K3 := hidU (K3.out.below hb)
    replace K6 := hidU (K6.out.below hb)
    replace HB := hidU (HB.out.trans (hb.mono HB.out.size))
    clear hb
    have hb := b0_any c5 (.cells #[.int .i64 n, .int .i64 d] 25)
    go_upto_region 30 with fail
    obtain ⟨Y10, hY⟩ : ∃ Y, Y = c5.alloc (.cells #[.int .i64 n, .int .i64 d] 25) := ⟨_, rfl⟩
    obtain ⟨B30, hF⟩ : ∃ F, F = c5.heap.size := ⟨_, rfl⟩
    have K30 : Hid (IsB Y10 B30 #[.int .i64 n, .int .i64 d] 25) := by show IsB _ _ _ _; rw [hY, hF]; exact IsB.new _ _ _
    rw [← hY] at hb
    rw [← hY, ← hF]
    clear hY hF
    replace K3 := hidU (K3.out.below hb)
    replace K6 := hidU (K6.out.below hb)
    replace HB := hidU (HB.out.trans (hb.mono HB.out.size))
    clear hb
    obtain ⟨z0, z1⟩ := K30.out.c2
    obtain ⟨t0, t1⟩ := K3.out.c2
    go_upto_region 32 with fail
    clear z0 z1 t0 t1 HC3 K30
    have hb := b0_any Y10 (.cells #[.string ⟨#[75]⟩, .string ⟨#[109, 47, 115]⟩, .string ⟨#[74]⟩, .string ⟨#[107, 103, 47, 109, 94, 51]⟩, .string ⟨#[115]⟩, .string ⟨#[87]⟩, .string ⟨#[78]⟩] 9)
    go_upto_region 33 with fail
    obtain ⟨Y11, hY⟩ : ∃ Y, Y = Y10.alloc (.cells #[.string ⟨#[75]⟩, .string ⟨#[109, 47, 115]⟩, .string ⟨#[74]⟩, .string ⟨#[107, 103, 47, 109, 94, 51]⟩, .string ⟨#[115]⟩, .string ⟨#[87]⟩, .string ⟨#[78]⟩] 9) := ⟨_, rfl⟩
    obtain ⟨B32, hF⟩ : ∃ F, F = Y10.heap.size := ⟨_, rfl⟩
    have K32 : Hid (IsB Y11 B32 #[.string ⟨#[75]⟩, .string ⟨#[109, 47, 115]⟩, .string ⟨#[74]⟩, .string ⟨#[107, 103, 47, 109, 94, 51]⟩, .string ⟨#[115]⟩, .string ⟨#[87]⟩, .string ⟨#[78]⟩] 9) := by show IsB _ _ _ _; rw [hY, hF]; exact IsB.new _ _ _
    rw [← hY] at hb
    rw [← hY, ← hF]
    clear hY hF
    replace K3 := hidU (K3.out.below hb)
    replace K6 := hidU (K6.out.below hb)
    replace HB := hidU (HB.out.trans (hb.mono HB.out.size))
    clear hb
    go_wp2
    go_loopw [33] (fun i wr => ∃ k : Nat, k ≤ 7 ∧ i = .int .i64 k ∧ Hid (IsB wr B3 #[.int .i64 n, .int .i64 d] 25) ∧ Hid (IsB wr B6 #[.int .i64 x1, .int .i64 x2] 25) ∧ Hid (IsB wr B32 #[.string ⟨#[75]⟩, .string ⟨#[109, 47, 115]⟩, .string ⟨#[74]⟩, .string ⟨#[107, 103, 47, 109, 94, 51]⟩, .string ⟨#[115]⟩, .string ⟨#[87]⟩, .string ⟨#[78]⟩] 9) ∧ Hid (Below w.heap.size w wr)) (fun i _ => 7 - (intOf i).toNat)
    case atStart => exact ⟨0, Nat.zero_le _, rfl, K3.out, K6.out, K32.out, HB.out⟩
    case round =>
      clear K3 K6 K32 HB
      obtain ⟨k, hk, rfl, K3, K6, K32, HB⟩ := hrel
      by_cases hlt : k < 7
      · have HT := hidU (fun (W : World) (h : IsB W B32 #[.string ⟨#[75]⟩, .string ⟨#[109, 47, 115]⟩, .string ⟨#[74]⟩, .string ⟨#[107, 103, 47, 109, 94, 51]⟩, .string ⟨#[115]⟩, .string ⟨#[87]⟩, .string ⟨#[78]⟩] 9) => thT_cell h hlt)
        have HDk := hidU (thT_ok hlt)
        obtain ⟨m, hm⟩ : ∃ m, m = thT k := ⟨_, rfl⟩
        rw [← hm] at HT HDk
        clear hm
        have H1 := hidU (fun W => iConvL n d s m W HDs.out HDk.out (by decide) (by decide))
        obtain ⟨⟨y1, y2, y5⟩, hy⟩ : ∃ x, x = convI (n, d) s.data.toList m.data.toList := ⟨_, rfl⟩
        rw [← hy] at H1
        have HY := hidU hy.symm
        have H2 := hidU (fun W => iConvL y1 y2 m t W HDk.out HDt.out (by decide) (by decide))
        obtain ⟨⟨z1, z2, z5⟩, hz⟩ : ∃ x, x = convI (y1, y2) m.data.toList t.data.toList := ⟨_, rfl⟩
        rw [← hz] at H2
        have HZ : Hid (y5 = true → z5 = true → z1 = x1 ∧ z2 = x2) := by
          intro h1 h2
          have h3 := convI_third (v := (n, d)) (s := s.data.toList) (t := t.data.toList) (k := m.data.toList) (by rw [HX.out]) (by rw [HY.out]; exact h1) (by rw [HY.out]; show (convI (y1, y2) m.data.toList t.data.toList).2.2 = true; rw [← hz]; exact h2)
          rw [HY.out, HX.out] at h3
          have h4 : fr (convI (y1, y2) m.data.toList t.data.toList) = (x1, x2) := h3
          rw [← hz] at h4
          exact ⟨congrArg Prod.fst h4, congrArg Prod.snd h4⟩
        simp only at H1 H2
        clear hy hz
        go_upto_region 36 with fail
        go_cut [34, 35] from 208 to 242 (fun s34 s35 wx => ∃ (T : Nat), s34 = .pointer (some ⟨T, 0, none⟩) ∧ s35 = .bool y5 ∧ Hid (IsB wx T #[.int .i64 y1, .int .i64 y2] 25) ∧ Hid (IsB wx B3 #[.int .i64 n, .int .i64 d] 25) ∧ Hid (IsB wx B6 #[.int .i64 x1, .int .i64 x2] 25) ∧ Hid (IsB wx B32 #[.string ⟨#[75]⟩, .string ⟨#[109, 47, 115]⟩, .string ⟨#[74]⟩, .string ⟨#[107, 103, 47, 109, 94, 51]⟩, .string ⟨#[115]⟩, .string ⟨#[87]⟩, .string ⟨#[78]⟩] 9) ∧ Hid (Below w.heap.size w wx))
        case first =>
          have hb := (Below.refl wr.heap.size wr).drew
          replace K3 := hidU (K3.out.below hb)
          replace K6 := hidU (K6.out.below hb)
          replace K32 := hidU (K32.out.below hb)
          replace HB := hidU (HB.out.trans (hb.mono HB.out.size))
          clear hb
          refine wp_region_noPanic ?_
          refine wp_region_held_drew (S := fun W => IsB W B3 #[.int .i64 n, .int .i64 d] 25 ∧ IsB W B32 #[.string ⟨#[75]⟩, .string ⟨#[109, 47, 115]⟩, .string ⟨#[74]⟩, .string ⟨#[107, 103, 47, 109, 94, 51]⟩, .string ⟨#[115]⟩, .string ⟨#[87]⟩, .string ⟨#[78]⟩] 9) (by kernel_rfl) ⟨K3.out, K32.out⟩ (fun hHeld => ?_)
          obtain ⟨wd, hwd⟩ : ∃ u, u = wr.drew := ⟨_, rfl⟩
          rw [← hwd] at K3 K6 K32 HB hHeld ⊢
          clear hwd
          refine wpAnyH_take (i := 0) (v := ?_) rfl (by kernel_rfl) (by kernel_rfl) (by kernel_rfl) (fun _ _ _ h => h) (Or.inl ⟨by kernel_rfl, ?_⟩) hHeld ?_
          rotate_left
          · intro wz hSw; obtain ⟨hS0, hS1⟩ := hSw; obtain ⟨p0, p1⟩ := hS0.c2; have pT := HT.out wz hS1; clear hS0 hS1; go_simp; all_goals (try with_reducible rfl)
          (try simp only [List.getElem_toArray]); (try simp only [List.getElem_cons_succ]); (try simp only [List.getElem_cons_zero]); (try simp only [Act.put]); (try simp only [List.setIfInBounds_toArray]); (try simp only [List.set_cons_succ]); (try simp only [List.set_cons_zero])
          refine wpAnyH_take (i := 1) (v := ?_) rfl (by kernel_rfl) (by kernel_rfl) (by kernel_rfl) (fun _ _ _ h => h) (Or.inl ⟨by kernel_rfl, ?_⟩) hHeld ?_
          rotate_left
          · intro wz hSw; obtain ⟨hS0, hS1⟩ := hSw; obtain ⟨p0, p1⟩ := hS0.c2; have pT := HT.out wz hS1; clear hS0 hS1; go_simp; all_goals (try with_reducible rfl)
          (try simp only [List.getElem_toArray]); (try simp only [List.getElem_cons_succ]); (try simp only [List.getElem_cons_zero]); (try simp only [Act.put]); (try simp only [List.setIfInBounds_toArray]); (try simp only [List.set_cons_succ]); (try simp only [List.set_cons_zero])
          refine wpAnyH_take (i := 2) (v := ?_) rfl (by kernel_rfl) (by kernel_rfl) (by kernel_rfl) (fun _ _ _ h => h) (Or.inl ⟨by kernel_rfl, ?_⟩) hHeld ?_
          rotate_left
          · intro wz hSw; obtain ⟨hS0, hS1⟩ := hSw; obtain ⟨p0, p1⟩ := hS0.c2; have pT := HT.out wz hS1; clear hS0 hS1; go_simp; all_goals (try with_reducible rfl)
          (try simp only [List.getElem_toArray]); (try simp only [List.getElem_cons_succ]); (try simp only [List.getElem_cons_zero]); (try simp only [Act.put]); (try simp only [List.setIfInBounds_toArray]); (try simp only [List.set_cons_succ]); (try simp only [List.set_cons_zero])
          refine wpAnyH_take (i := 3) (v := ?_) rfl (by kernel_rfl) (by kernel_rfl) (by kernel_rfl) (fun _ _ _ h => h) (Or.inl ⟨by kernel_rfl, ?_⟩) hHeld ?_
          rotate_left
          · intro wz hSw; obtain ⟨hS0, hS1⟩ := hSw; obtain ⟨p0, p1⟩ := hS0.c2; have pT := HT.out wz hS1; clear hS0 hS1; go_simp; all_goals (try with_reducible rfl)
          (try simp only [List.getElem_toArray]); (try simp only [List.getElem_cons_succ]); (try simp only [List.getElem_cons_zero]); (try simp only [Act.put]); (try simp only [List.setIfInBounds_toArray]); (try simp only [List.set_cons_succ]); (try simp only [List.set_cons_zero])
          refine wpAnyH_take (i := 4) (v := ?_) rfl (by kernel_rfl) (by kernel_rfl) (by kernel_rfl) (fun _ _ _ h => h) (Or.inl ⟨by kernel_rfl, ?_⟩) hHeld ?_
          rotate_left
          · intro wz hSw; obtain ⟨hS0, hS1⟩ := hSw; obtain ⟨p0, p1⟩ := hS0.c2; have pT := HT.out wz hS1; clear hS0 hS1; go_simp; all_goals (try with_reducible rfl)
          (try simp only [List.getElem_toArray]); (try simp only [List.getElem_cons_succ]); (try simp only [List.getElem_cons_zero]); (try simp only [Act.put]); (try simp only [List.setIfInBounds_toArray]); (try simp only [List.set_cons_succ]); (try simp only [List.set_cons_zero])
          refine wpAnyH_take (i := 5) (v := ?_) rfl (by kernel_rfl) (by kernel_rfl) (by kernel_rfl) (fun _ _ _ h => h) (Or.inl ⟨by kernel_rfl, ?_⟩) hHeld ?_
          rotate_left
          · intro wz hSw; obtain ⟨hS0, hS1⟩ := hSw; obtain ⟨p0, p1⟩ := hS0.c2; have pT := HT.out wz hS1; clear hS0 hS1; go_simp; all_goals (try with_reducible rfl)
          (try simp only [List.getElem_toArray]); (try simp only [List.getElem_cons_succ]); (try simp only [List.getElem_cons_zero]); (try simp only [Act.put]); (try simp only [List.setIfInBounds_toArray]); (try simp only [List.set_cons_succ]); (try simp only [List.set_cons_zero])
          refine wpAnyH_ready (rs := [6, 10]) (by kernel_rfl) (by simp) (AllReadyH.cons rfl (fun Kc hKc => ?_) (AllReadyH.cons rfl (fun Kc hKc => ?_) AllReadyH.nil))
          · go_simp
            refine (H1.out _).mono ?_
            rintro e u1 ⟨rfl, hb⟩
            replace K3 := hidU (K3.out.below hb)
            replace K6 := hidU (K6.out.below hb)
            replace K32 := hidU (K32.out.below hb)
            replace HB := hidU (HB.out.trans (hb.mono HB.out.size))
            clear hb
            go_wp2_with fail
            refine hKc.out _ _ ⟨K3.out, K32.out⟩ (fun hHeld => ?_)
            clear hKc Kc
            (try simp only [List.getElem_toArray]); (try simp only [List.getElem_cons_succ]); (try simp only [List.getElem_cons_zero]); (try simp only [Act.put]); (try simp only [List.setIfInBounds_toArray]); (try simp only [List.set_cons_succ]); (try simp only [List.set_cons_zero])
            refine wpAnyH_take (i := 7) (v := ?_) rfl (by kernel_rfl) (by kernel_rfl) (by kernel_rfl) (fun _ _ _ h => h) (Or.inl ⟨by kernel_rfl, ?_⟩) hHeld ?_
            rotate_left
            · intro wz hSw; obtain ⟨hS0, hS1⟩ := hSw; obtain ⟨p0, p1⟩ := hS0.c2; have pT := HT.out wz hS1; clear hS0 hS1; go_simp; all_goals (try with_reducible rfl)
            (try simp only [List.getElem_toArray]); (try simp only [List.getElem_cons_succ]); (try simp only [List.getElem_cons_zero]); (try simp only [Act.put]); (try simp only [List.setIfInBounds_toArray]); (try simp only [List.set_cons_succ]); (try simp only [List.set_cons_zero])
            refine wpAnyH_take (i := 8) (v := ?_) rfl (by kernel_rfl) (by kernel_rfl) (by kernel_rfl) (fun _ _ _ h => h) (Or.inl ⟨by kernel_rfl, ?_⟩) hHeld ?_
            rotate_left
            · intro wz hSw; obtain ⟨hS0, hS1⟩ := hSw; obtain ⟨p0, p1⟩ := hS0.c2; have pT := HT.out wz hS1; clear hS0 hS1; go_simp; all_goals (try with_reducible rfl)
            (try simp only [List.getElem_toArray]); (try simp only [List.getElem_cons_succ]); (try simp only [List.getElem_cons_zero]); (try simp only [Act.put]); (try simp only [List.setIfInBounds_toArray]); (try simp only [List.set_cons_succ]); (try simp only [List.set_cons_zero])
            refine wpAnyH_take (i := 9) (v := ?_) rfl (by kernel_rfl) (by kernel_rfl) (by kernel_rfl) (fun _ _ _ h => h) (Or.inl ⟨by kernel_rfl, ?_⟩) hHeld ?_
            rotate_left
            · intro wz hSw; obtain ⟨hS0, hS1⟩ := hSw; obtain ⟨p0, p1⟩ := hS0.c2; have pT := HT.out wz hS1; clear hS0 hS1; go_simp; all_goals (try with_reducible rfl)
            (try simp only [List.getElem_toArray]); (try simp only [List.getElem_cons_succ]); (try simp only [List.getElem_cons_zero]); (try simp only [Act.put]); (try simp only [List.setIfInBounds_toArray]); (try simp only [List.set_cons_succ]); (try simp only [List.set_cons_zero])
            refine wpAnyH_ready (rs := [10]) (by kernel_rfl) (by simp) (AllReadyH.cons rfl (fun Kc hKc => ?_) AllReadyH.nil)
            go_simp
            obtain ⟨A, hA⟩ : ∃ A, A = u1.heap.size := ⟨_, rfl⟩
            obtain ⟨u2, hu⟩ : ∃ u, u = u1.alloc (.cells #[.int .i64 0, .int .i64 0] 25) := ⟨_, rfl⟩
            have hb : Below u1.heap.size u1 u2 := by rw [hu]; exact b0_any _ _
            have KA : Hid (IsB u2 A #[.int .i64 0, .int .i64 0] 25) := by show IsB _ _ _ _; rw [hu, hA]; exact IsB.new _ _ _
            have HAw : Hid (w.heap.size ≤ A) := by show _ ≤ _; rw [hA]; exact HB.out.size
            have HNEK3 : Hid (B3 ≠ A) := by show _ ≠ _; have := K3.out.lt; rw [hA]; omega
            have HNEK6 : Hid (B6 ≠ A) := by show _ ≠ _; have := K6.out.lt; rw [hA]; omega
            have HNEK32 : Hid (B32 ≠ A) := by show _ ≠ _; have := K32.out.lt; rw [hA]; omega
            rw [← hu, ← hA]
            clear hu hA
            replace K3 := hidU (K3.out.below hb)
            replace K6 := hidU (K6.out.below hb)
            replace K32 := hidU (K32.out.below hb)
            replace HB := hidU (HB.out.trans (hb.mono HB.out.size))
            clear hb
            refine hKc.out _ _ ⟨K3.out, K32.out⟩ (fun hHeld => ?_)
            clear hKc Kc
            (try simp only [List.getElem_toArray]); (try simp only [List.getElem_cons_succ]); (try simp only [List.getElem_cons_zero]); (try simp only [Act.put]); (try simp only [List.setIfInBounds_toArray]); (try simp only [List.set_cons_succ]); (try simp only [List.set_cons_zero])
            obtain ⟨zc0, zc1⟩ := KA.out.c2
            obtain ⟨fc0, fc1⟩ := KA.out.f2
            have KA2 := hidU (KA.out.set2 (.int .i64 y1) (.int .i64 y2))
            have K3b := hidU (K3.out.other2 (show B3 ≠ A from HNEK3.out) (.int .i64 y1) (.int .i64 y2))
            have K6b := hidU (K6.out.other2 (show B6 ≠ A from HNEK6.out) (.int .i64 y1) (.int .i64 y2))
            have K32b := hidU (K32.out.other2 (show B32 ≠ A from HNEK32.out) (.int .i64 y1) (.int .i64 y2))
            have HB2 := hidU (below_set2 HB.out HAw.out (.int .i64 y1) (.int .i64 y2))
            refine wpAnyH_ready (rs := [11]) (by kernel_rfl) (by simp) (AllReadyH.cons rfl (fun Kc hKc => ?_) AllReadyH.nil)
            go_simp
            refine hKc.out _ _ ⟨K3b.out, K32b.out⟩ (fun hHeld => ?_)
            clear hKc Kc
            (try simp only [List.getElem_toArray]); (try simp only [List.getElem_cons_succ]); (try simp only [List.getElem_cons_zero]); (try simp only [Act.put]); (try simp only [List.setIfInBounds_toArray]); (try simp only [List.set_cons_succ]); (try simp only [List.set_cons_zero])
            clear zc0 fc0 zc1 fc1
            refine wpAnyH_take (i := 12) (v := ?_) rfl (by kernel_rfl) (by kernel_rfl) (by kernel_rfl) (fun _ _ _ h => h) (Or.inl ⟨by kernel_rfl, ?_⟩) hHeld ?_
            rotate_left
            · intro wz hSw; obtain ⟨hS0, hS1⟩ := hSw; obtain ⟨p0, p1⟩ := hS0.c2; have pT := HT.out wz hS1; clear hS0 hS1; go_simp; all_goals (try with_reducible rfl)
            (try simp only [List.getElem_toArray]); (try simp only [List.getElem_cons_succ]); (try simp only [List.getElem_cons_zero]); (try simp only [Act.put]); (try simp only [List.setIfInBounds_toArray]); (try simp only [List.set_cons_succ]); (try simp only [List.set_cons_zero])
            refine wpAnyH_done (by kernel_rfl) ?_ _
            refine NoPanic.normal ?_
            go_wp2_with fail
            go_meet
            case rel => exact ⟨_, rfl, rfl, KA2.out, K3b.out, K6b.out, K32b.out, HB2.out⟩
          · go_simp
            obtain ⟨A, hA⟩ : ∃ A, A = wd.heap.size := ⟨_, rfl⟩
            obtain ⟨u3, hu⟩ : ∃ u, u = wd.alloc (.cells #[.int .i64 0, .int .i64 0] 25) := ⟨_, rfl⟩
            have hb : Below wd.heap.size wd u3 := by rw [hu]; exact b0_any _ _
            have KA : Hid (IsB u3 A #[.int .i64 0, .int .i64 0] 25) := by show IsB _ _ _ _; rw [hu, hA]; exact IsB.new _ _ _
            have HAw : Hid (w.heap.size ≤ A) := by show _ ≤ _; rw [hA]; exact HB.out.size
            have HNEK3 : Hid (B3 ≠ A) := by show _ ≠ _; have := K3.out.lt; rw [hA]; omega
            have HNEK6 : Hid (B6 ≠ A) := by show _ ≠ _; have := K6.out.lt; rw [hA]; omega
            have HNEK32 : Hid (B32 ≠ A) := by show _ ≠ _; have := K32.out.lt; rw [hA]; omega
            rw [← hu, ← hA]
            clear hu hA
            replace K3 := hidU (K3.out.below hb)
            replace K6 := hidU (K6.out.below hb)
            replace K32 := hidU (K32.out.below hb)
            replace HB := hidU (HB.out.trans (hb.mono HB.out.size))
            clear hb
            refine hKc.out _ _ ⟨K3.out, K32.out⟩ (fun hHeld => ?_)
            clear hKc Kc
            (try simp only [List.getElem_toArray]); (try simp only [List.getElem_cons_succ]); (try simp only [List.getElem_cons_zero]); (try simp only [Act.put]); (try simp only [List.setIfInBounds_toArray]); (try simp only [List.set_cons_succ]); (try simp only [List.set_cons_zero])
            refine wpAnyH_ready (rs := [6]) (by kernel_rfl) (by simp) (AllReadyH.cons rfl (fun Kc hKc => ?_) AllReadyH.nil)
            go_simp
            refine (H1.out _).mono ?_
            rintro e u4 ⟨rfl, hb⟩
            replace K3 := hidU (K3.out.below hb)
            replace K6 := hidU (K6.out.below hb)
            replace K32 := hidU (K32.out.below hb)
            replace KA := hidU (KA.out.below hb)
            replace HB := hidU (HB.out.trans (hb.mono HB.out.size))
            clear hb
            go_wp2_with fail
            refine hKc.out _ _ ⟨K3.out, K32.out⟩ (fun hHeld => ?_)
            clear hKc Kc
            (try simp only [List.getElem_toArray]); (try simp only [List.getElem_cons_succ]); (try simp only [List.getElem_cons_zero]); (try simp only [Act.put]); (try simp only [List.setIfInBounds_toArray]); (try simp only [List.set_cons_succ]); (try simp only [List.set_cons_zero])
            refine wpAnyH_take (i := 7) (v := ?_) rfl (by kernel_rfl) (by kernel_rfl) (by kernel_rfl) (fun _ _ _ h => h) (Or.inl ⟨by kernel_rfl, ?_⟩) hHeld ?_
            rotate_left
            · intro wz hSw; obtain ⟨hS0, hS1⟩ := hSw; obtain ⟨p0, p1⟩ := hS0.c2; have pT := HT.out wz hS1; clear hS0 hS1; go_simp; all_goals (try with_reducible rfl)
            (try simp only [List.getElem_toArray]); (try simp only [List.getElem_cons_succ]); (try simp only [List.getElem_cons_zero]); (try simp only [Act.put]); (try simp only [List.setIfInBounds_toArray]); (try simp only [List.set_cons_succ]); (try simp only [List.set_cons_zero])
            refine wpAnyH_take (i := 8) (v := ?_) rfl (by kernel_rfl) (by kernel_rfl) (by kernel_rfl) (fun _ _ _ h => h) (Or.inl ⟨by kernel_rfl, ?_⟩) hHeld ?_
            rotate_left
            · intro wz hSw; obtain ⟨hS0, hS1⟩ := hSw; obtain ⟨p0, p1⟩ := hS0.c2; have pT := HT.out wz hS1; clear hS0 hS1; go_simp; all_goals (try with_reducible rfl)
            (try simp only [List.getElem_toArray]); (try simp only [List.getElem_cons_succ]); (try simp only [List.getElem_cons_zero]); (try simp only [Act.put]); (try simp only [List.setIfInBounds_toArray]); (try simp only [List.set_cons_succ]); (try simp only [List.set_cons_zero])
            refine wpAnyH_take (i := 9) (v := ?_) rfl (by kernel_rfl) (by kernel_rfl) (by kernel_rfl) (fun _ _ _ h => h) (Or.inl ⟨by kernel_rfl, ?_⟩) hHeld ?_
            rotate_left
            · intro wz hSw; obtain ⟨hS0, hS1⟩ := hSw; obtain ⟨p0, p1⟩ := hS0.c2; have pT := HT.out wz hS1; clear hS0 hS1; go_simp; all_goals (try with_reducible rfl)
            (try simp only [List.getElem_toArray]); (try simp only [List.getElem_cons_succ]); (try simp only [List.getElem_cons_zero]); (try simp only [Act.put]); (try simp only [List.setIfInBounds_toArray]); (try simp only [List.set_cons_succ]); (try simp only [List.set_cons_zero])
            obtain ⟨zc0, zc1⟩ := KA.out.c2
            obtain ⟨fc0, fc1⟩ := KA.out.f2
            have KA2 := hidU (KA.out.set2 (.int .i64 y1) (.int .i64 y2))
            have K3b := hidU (K3.out.other2 (show B3 ≠ A from HNEK3.out) (.int .i64 y1) (.int .i64 y2))
            have K6b := hidU (K6.out.other2 (show B6 ≠ A from HNEK6.out) (.int .i64 y1) (.int .i64 y2))
            have K32b := hidU (K32.out.other2 (show B32 ≠ A from HNEK32.out) (.int .i64 y1) (.int .i64 y2))
            have HB2 := hidU (below_set2 HB.out HAw.out (.int .i64 y1) (.int .i64 y2))
            refine wpAnyH_ready (rs := [11]) (by kernel_rfl) (by simp) (AllReadyH.cons rfl (fun Kc hKc => ?_) AllReadyH.nil)
            go_simp
            refine hKc.out _ _ ⟨K3b.out, K32b.out⟩ (fun hHeld => ?_)
            clear hKc Kc
            (try simp only [List.getElem_toArray]); (try simp only [List.getElem_cons_succ]); (try simp only [List.getElem_cons_zero]); (try simp only [Act.put]); (try simp only [List.setIfInBounds_toArray]); (try simp only [List.set_cons_succ]); (try simp only [List.set_cons_zero])
            clear zc0 fc0 zc1 fc1
            refine wpAnyH_take (i := 12) (v := ?_) rfl (by kernel_rfl) (by kernel_rfl) (by kernel_rfl) (fun _ _ _ h => h) (Or.inl ⟨by kernel_rfl, ?_⟩) hHeld ?_
            rotate_left
            · intro wz hSw; obtain ⟨hS0, hS1⟩ := hSw; obtain ⟨p0, p1⟩ := hS0.c2; have pT := HT.out wz hS1; clear hS0 hS1; go_simp; all_goals (try with_reducible rfl)
            (try simp only [List.getElem_toArray]); (try simp only [List.getElem_cons_succ]); (try simp only [List.getElem_cons_zero]); (try simp only [Act.put]); (try simp only [List.setIfInBounds_toArray]); (try simp only [List.set_cons_succ]); (try simp only [List.set_cons_zero])
            refine wpAnyH_done (by kernel_rfl) ?_ _
            refine NoPanic.normal ?_
            go_wp2_with fail
            go_meet
            case rel => exact ⟨_, rfl, rfl, KA2.out, K3b.out, K6b.out, K32b.out, HB2.out⟩
        case rest =>
          obtain ⟨T, rfl, rfl, KT, K3, K6, K32, HB⟩ := hcut
          clear H1
          go_upto_region 37 with fail
          go_cut [36, 37] from 208 to 242 (fun s36 s37 wx => ∃ (U : Nat), s36 = .pointer (some ⟨U, 0, none⟩) ∧ s37 = .bool z5 ∧ Hid (IsB wx U #[.int .i64 z1, .int .i64 z2] 25) ∧ Hid (IsB wx T #[.int .i64 y1, .int .i64 y2] 25) ∧ Hid (IsB wx B3 #[.int .i64 n, .int .i64 d] 25) ∧ Hid (IsB wx B6 #[.int .i64 x1, .int .i64 x2] 25) ∧ Hid (IsB wx B32 #[.string ⟨#[75]⟩, .string ⟨#[109, 47, 115]⟩, .string ⟨#[74]⟩, .string ⟨#[107, 103, 47, 109, 94, 51]⟩, .string ⟨#[115]⟩, .string ⟨#[87]⟩, .string ⟨#[78]⟩] 9) ∧ Hid (Below w.heap.size w wx))
          case first =>
            have hb := (Below.refl wc.heap.size wc).drew
            replace KT := hidU (KT.out.below hb)
            replace K3 := hidU (K3.out.below hb)
            replace K6 := hidU (K6.out.below hb)
            replace K32 := hidU (K32.out.below hb)
            replace HB := hidU (HB.out.trans (hb.mono HB.out.size))
            clear hb
            refine wp_region_noPanic ?_
            refine wp_region_held_drew (S := fun W => IsB W T #[.int .i64 y1, .int .i64 y2] 25 ∧ IsB W B32 #[.string ⟨#[75]⟩, .string ⟨#[109, 47, 115]⟩, .string ⟨#[74]⟩, .string ⟨#[107, 103, 47, 109, 94, 51]⟩, .string ⟨#[115]⟩, .string ⟨#[87]⟩, .string ⟨#[78]⟩] 9) (by kernel_rfl) ⟨KT.out, K32.out⟩ (fun hHeld => ?_)
            obtain ⟨wd, hwd⟩ : ∃ u, u = wc.drew := ⟨_, rfl⟩
            rw [← hwd] at KT K3 K6 K32 HB hHeld ⊢
            clear hwd
            refine wpAnyH_take (i := 0) (v := ?_) rfl (by kernel_rfl) (by kernel_rfl) (by kernel_rfl) (fun _ _ _ h => h) (Or.inl ⟨by kernel_rfl, ?_⟩) hHeld ?_
            rotate_left
            · intro wz hSw; obtain ⟨hS0, hS1⟩ := hSw; obtain ⟨p0, p1⟩ := hS0.c2; have pT := HT.out wz hS1; clear hS0 hS1; go_simp; all_goals (try with_reducible rfl)
            (try simp only [List.getElem_toArray]); (try simp only [List.getElem_cons_succ]); (try simp only [List.getElem_cons_zero]); (try simp only [Act.put]); (try simp only [List.setIfInBounds_toArray]); (try simp only [List.set_cons_succ]); (try simp only [List.set_cons_zero])
            refine wpAnyH_take (i := 1) (v := ?_) rfl (by kernel_rfl) (by kernel_rfl) (by kernel_rfl) (fun _ _ _ h => h) (Or.inl ⟨by kernel_rfl, ?_⟩) hHeld ?_
            rotate_left
            · intro wz hSw; obtain ⟨hS0, hS1⟩ := hSw; obtain ⟨p0, p1⟩ := hS0.c2; have pT := HT.out wz hS1; clear hS0 hS1; go_simp; all_goals (try with_reducible rfl)
            (try simp only [List.getElem_toArray]); (try simp only [List.getElem_cons_succ]); (try simp only [List.getElem_cons_zero]); (try simp only [Act.put]); (try simp only [List.setIfInBounds_toArray]); (try simp only [List.set_cons_succ]); (try simp only [List.set_cons_zero])
            refine wpAnyH_take (i := 2) (v := ?_) rfl (by kernel_rfl) (by kernel_rfl) (by kernel_rfl) (fun _ _ _ h => h) (Or.inl ⟨by kernel_rfl, ?_⟩) hHeld ?_
            rotate_left
            · intro wz hSw; obtain ⟨hS0, hS1⟩ := hSw; obtain ⟨p0, p1⟩ := hS0.c2; have pT := HT.out wz hS1; clear hS0 hS1; go_simp; all_goals (try with_reducible rfl)
            (try simp only [List.getElem_toArray]); (try simp only [List.getElem_cons_succ]); (try simp only [List.getElem_cons_zero]); (try simp only [Act.put]); (try simp only [List.setIfInBounds_toArray]); (try simp only [List.set_cons_succ]); (try simp only [List.set_cons_zero])
            refine wpAnyH_take (i := 3) (v := ?_) rfl (by kernel_rfl) (by kernel_rfl) (by kernel_rfl) (fun _ _ _ h => h) (Or.inl ⟨by kernel_rfl, ?_⟩) hHeld ?_
            rotate_left
            · intro wz hSw; obtain ⟨hS0, hS1⟩ := hSw; obtain ⟨p0, p1⟩ := hS0.c2; have pT := HT.out wz hS1; clear hS0 hS1; go_simp; all_goals (try with_reducible rfl)
            (try simp only [List.getElem_toArray]); (try simp only [List.getElem_cons_succ]); (try simp only [List.getElem_cons_zero]); (try simp only [Act.put]); (try simp only [List.setIfInBounds_toArray]); (try simp only [List.set_cons_succ]); (try simp only [List.set_cons_zero])
            refine wpAnyH_take (i := 4) (v := ?_) rfl (by kernel_rfl) (by kernel_rfl) (by kernel_rfl) (fun _ _ _ h => h) (Or.inl ⟨by kernel_rfl, ?_⟩) hHeld ?_
            rotate_left
            · intro wz hSw; obtain ⟨hS0, hS1⟩ := hSw; obtain ⟨p0, p1⟩ := hS0.c2; have pT := HT.out wz hS1; clear hS0 hS1; go_simp; all_goals (try with_reducible rfl)
            (try simp only [List.getElem_toArray]); (try simp only [List.getElem_cons_succ]); (try simp only [List.getElem_cons_zero]); (try simp only [Act.put]); (try simp only [List.setIfInBounds_toArray]); (try simp only [List.set_cons_succ]); (try simp only [List.set_cons_zero])
            refine wpAnyH_take (i := 5) (v := ?_) rfl (by kernel_rfl) (by kernel_rfl) (by kernel_rfl) (fun _ _ _ h => h) (Or.inl ⟨by kernel_rfl, ?_⟩) hHeld ?_
            rotate_left
            · intro wz hSw; obtain ⟨hS0, hS1⟩ := hSw; obtain ⟨p0, p1⟩ := hS0.c2; have pT := HT.out wz hS1; clear hS0 hS1; go_simp; all_goals (try with_reducible rfl)
            (try simp only [List.getElem_toArray]); (try simp only [List.getElem_cons_succ]); (try simp only [List.getElem_cons_zero]); (try simp only [Act.put]); (try simp only [List.setIfInBounds_toArray]); (try simp only [List.set_cons_succ]); (try simp only [List.set_cons_zero])
            refine wpAnyH_ready (rs := [6, 10]) (by kernel_rfl) (by simp) (AllReadyH.cons rfl (fun Kc hKc => ?_) (AllReadyH.cons rfl (fun Kc hKc => ?_) AllReadyH.nil))
            · go_simp
              refine (H2.out _).mono ?_
              rintro e u1 ⟨rfl, hb⟩
              replace KT := hidU (KT.out.below hb)
              replace K3 := hidU (K3.out.below hb)
              replace K6 := hidU (K6.out.below hb)
              replace K32 := hidU (K32.out.below hb)
              replace HB := hidU (HB.out.trans (hb.mono HB.out.size))
              clear hb
              go_wp2_with fail
              refine hKc.out _ _ ⟨KT.out, K32.out⟩ (fun hHeld => ?_)
              clear hKc Kc
              (try simp only [List.getElem_toArray]); (try simp only [List.getElem_cons_succ]); (try simp only [List.getElem_cons_zero]); (try simp only [Act.put]); (try simp only [List.setIfInBounds_toArray]); (try simp only [List.set_cons_succ]); (try simp only [List.set_cons_zero])
              refine wpAnyH_take (i := 7) (v := ?_) rfl (by kernel_rfl) (by kernel_rfl) (by kernel_rfl) (fun _ _ _ h => h) (Or.inl ⟨by kernel_rfl, ?_⟩) hHeld ?_
              rotate_left
              · intro wz hSw; obtain ⟨hS0, hS1⟩ := hSw; obtain ⟨p0, p1⟩ := hS0.c2; have pT := HT.out wz hS1; clear hS0 hS1; go_simp; all_goals (try with_reducible rfl)
              (try simp only [List.getElem_toArray]); (try simp only [List.getElem_cons_succ]); (try simp only [List.getElem_cons_zero]); (try simp only [Act.put]); (try simp only [List.setIfInBounds_toArray]); (try simp only [List.set_cons_succ]); (try simp only [List.set_cons_zero])
              refine wpAnyH_take (i := 8) (v := ?_) rfl (by kernel_rfl) (by kernel_rfl) (by kernel_rfl) (fun _ _ _ h => h) (Or.inl ⟨by kernel_rfl, ?_⟩) hHeld ?_
              rotate_left
              · intro wz hSw; obtain ⟨hS0, hS1⟩ := hSw; obtain ⟨p0, p1⟩ := hS0.c2; have pT := HT.out wz hS1; clear hS0 hS1; go_simp; all_goals (try with_reducible rfl)
              (try simp only [List.getElem_toArray]); (try simp only [List.getElem_cons_succ]); (try simp only [List.getElem_cons_zero]); (try simp only [Act.put]); (try simp only [List.setIfInBounds_toArray]); (try simp only [List.set_cons_succ]); (try simp only [List.set_cons_zero])
              refine wpAnyH_take (i := 9) (v := ?_) rfl (by kernel_rfl) (by kernel_rfl) (by kernel_rfl) (fun _ _ _ h => h) (Or.inl ⟨by kernel_rfl, ?_⟩) hHeld ?_
              rotate_left
              · intro wz hSw; obtain ⟨hS0, hS1⟩ := hSw; obtain ⟨p0, p1⟩ := hS0.c2; have pT := HT.out wz hS1; clear hS0 hS1; go_simp; all_goals (try with_reducible rfl)
              (try simp only [List.getElem_toArray]); (try simp only [List.getElem_cons_succ]); (try simp only [List.getElem_cons_zero]); (try simp only [Act.put]); (try simp only [List.setIfInBounds_toArray]); (try simp only [List.set_cons_succ]); (try simp only [List.set_cons_zero])
              refine wpAnyH_ready (rs := [10]) (by kernel_rfl) (by simp) (AllReadyH.cons rfl (fun Kc hKc => ?_) AllReadyH.nil)
              go_simp
              obtain ⟨A, hA⟩ : ∃ A, A = u1.heap.size := ⟨_, rfl⟩
              obtain ⟨u2, hu⟩ : ∃ u, u = u1.alloc (.cells #[.int .i64 0, .int .i64 0] 25) := ⟨_, rfl⟩
              have hb : Below u1.heap.size u1 u2 := by rw [hu]; exact b0_any _ _
              have KA : Hid (IsB u2 A #[.int .i64 0, .int .i64 0] 25) := by show IsB _ _ _ _; rw [hu, hA]; exact IsB.new _ _ _
              have HAw : Hid (w.heap.size ≤ A) := by show _ ≤ _; rw [hA]; exact HB.out.size
              have HNEKT : Hid (T ≠ A) := by show _ ≠ _; have := KT.out.lt; rw [hA]; omega
              have HNEK3 : Hid (B3 ≠ A) := by show _ ≠ _; have := K3.out.lt; rw [hA]; omega
              have HNEK6 : Hid (B6 ≠ A) := by show _ ≠ _; have := K6.out.lt; rw [hA]; omega
              have HNEK32 : Hid (B32 ≠ A) := by show _ ≠ _; have := K32.out.lt; rw [hA]; omega
              rw [← hu, ← hA]
              clear hu hA
              replace KT := hidU (KT.out.below hb)
              replace K3 := hidU (K3.out.below hb)
              replace K6 := hidU (K6.out.below hb)
              replace K32 := hidU (K32.out.below hb)
              replace HB := hidU (HB.out.trans (hb.mono HB.out.size))
              clear hb
              refine hKc.out _ _ ⟨KT.out, K32.out⟩ (fun hHeld => ?_)
              clear hKc Kc
              (try simp only [List.getElem_toArray]); (try simp only [List.getElem_cons_succ]); (try simp only [List.getElem_cons_zero]); (try simp only [Act.put]); (try simp only [List.setIfInBounds_toArray]); (try simp only [List.set_cons_succ]); (try simp only [List.set_cons_zero])
              obtain ⟨zc0, zc1⟩ := KA.out.c2
              obtain ⟨fc0, fc1⟩ := KA.out.f2
              have KA2 := hidU (KA.out.set2 (.int .i64 z1) (.int .i64 z2))
              have KTb := hidU (KT.out.other2 (show T ≠ A from HNEKT.out) (.int .i64 z1) (.int .i64 z2))
              have K3b := hidU (K3.out.other2 (show B3 ≠ A from HNEK3.out) (.int .i64 z1) (.int .i64 z2))
              have K6b := hidU (K6.out.other2 (show B6 ≠ A from HNEK6.out) (.int .i64 z1) (.int .i64 z2))
              have K32b := hidU (K32.out.other2 (show B32 ≠ A from HNEK32.out) (.int .i64 z1) (.int .i64 z2))
              have HB2 := hidU (below_set2 HB.out HAw.out (.int .i64 z1) (.int .i64 z2))
              refine wpAnyH_ready (rs := [11]) (by kernel_rfl) (by simp) (AllReadyH.cons rfl (fun Kc hKc => ?_) AllReadyH.nil)
              go_simp
              refine hKc.out _ _ ⟨KTb.out, K32b.out⟩ (fun hHeld => ?_)
              clear hKc Kc
              (try simp only [List.getElem_toArray]); (try simp only [List.getElem_cons_succ]); (try simp only [List.getElem_cons_zero]); (try simp only [Act.put]); (try simp only [List.setIfInBounds_toArray]); (try simp only [List.set_cons_succ]); (try simp only [List.set_cons_zero])
              clear zc0 fc0 zc1 fc1
              refine wpAnyH_take (i := 12) (v := ?_) rfl (by kernel_rfl) (by kernel_rfl) (by kernel_rfl) (fun _ _ _ h => h) (Or.inl ⟨by kernel_rfl, ?_⟩) hHeld ?_
              rotate_left
              · intro wz hSw; obtain ⟨hS0, hS1⟩ := hSw; obtain ⟨p0, p1⟩ := hS0.c2; have pT := HT.out wz hS1; clear hS0 hS1; go_simp; all_goals (try with_reducible rfl)
              (try simp only [List.getElem_toArray]); (try simp only [List.getElem_cons_succ]); (try simp only [List.getElem_cons_zero]); (try simp only [Act.put]); (try simp only [List.setIfInBounds_toArray]); (try simp only [List.set_cons_succ]); (try simp only [List.set_cons_zero])
              refine wpAnyH_done (by kernel_rfl) ?_ _
              refine NoPanic.normal ?_
              go_wp2_with fail
              go_meet
              case rel => exact ⟨_, rfl, rfl, KA2.out, KTb.out, K3b.out, K6b.out, K32b.out, HB2.out⟩
            · go_simp
              obtain ⟨A, hA⟩ : ∃ A, A = wd.heap.size := ⟨_, rfl⟩
              obtain ⟨u3, hu⟩ : ∃ u, u = wd.alloc (.cells #[.int .i64 0, .int .i64 0] 25) := ⟨_, rfl⟩
              have hb : Below wd.heap.size wd u3 := by rw [hu]; exact b0_any _ _
              have KA : Hid (IsB u3 A #[.int .i64 0, .int .i64 0] 25) := by show IsB _ _ _ _; rw [hu, hA]; exact IsB.new _ _ _
              have HAw : Hid (w.heap.size ≤ A) := by show _ ≤ _; rw [hA]; exact HB.out.size
              have HNEKT : Hid (T ≠ A) := by show _ ≠ _; have := KT.out.lt; rw [hA]; omega
              have HNEK3 : Hid (B3 ≠ A) := by show _ ≠ _; have := K3.out.lt; rw [hA]; omega
              have HNEK6 : Hid (B6 ≠ A) := by show _ ≠ _; have := K6.out.lt; rw [hA]; omega
              have HNEK32 : Hid (B32 ≠ A) := by show _ ≠ _; have := K32.out.lt; rw [hA]; omega
              rw [← hu, ← hA]
              clear hu hA
              replace KT := hidU (KT.out.below hb)
              replace K3 := hidU (K3.out.below hb)
              replace K6 := hidU (K6.out.below hb)
              replace K32 := hidU (K32.out.below hb)
              replace HB := hidU (HB.out.trans (hb.mono HB.out.size))
              clear hb
              refine hKc.out _ _ ⟨KT.out, K32.out⟩ (fun hHeld => ?_)
              clear hKc Kc
              (try simp only [List.getElem_toArray]); (try simp only [List.getElem_cons_succ]); (try simp only [List.getElem_cons_zero]); (try simp only [Act.put]); (try simp only [List.setIfInBounds_toArray]); (try simp only [List.set_cons_succ]); (try simp only [List.set_cons_zero])
              refine wpAnyH_ready (rs := [6]) (by kernel_rfl) (by simp) (AllReadyH.cons rfl (fun Kc hKc => ?_) AllReadyH.nil)
              go_simp
              refine (H2.out _).mono ?_
              rintro e u4 ⟨rfl, hb⟩
              replace KT := hidU (KT.out.below hb)
              replace K3 := hidU (K3.out.below hb)
              replace K6 := hidU (K6.out.below hb)
              replace K32 := hidU (K32.out.below hb)
              replace KA := hidU (KA.out.below hb)
              replace HB := hidU (HB.out.trans (hb.mono HB.out.size))
              clear hb
              go_wp2_with fail
              refine hKc.out _ _ ⟨KT.out, K32.out⟩ (fun hHeld => ?_)
              clear hKc Kc
              (try simp only [List.getElem_toArray]); (try simp only [List.getElem_cons_succ]); (try simp only [List.getElem_cons_zero]); (try simp only [Act.put]); (try simp only [List.setIfInBounds_toArray]); (try simp only [List.set_cons_succ]); (try simp only [List.set_cons_zero])
              refine wpAnyH_take (i := 7) (v := ?_) rfl (by kernel_rfl) (by kernel_rfl) (by kernel_rfl) (fun _ _ _ h => h) (Or.inl ⟨by kernel_rfl, ?_⟩) hHeld ?_
              rotate_left
              · intro wz hSw; obtain ⟨hS0, hS1⟩ := hSw; obtain ⟨p0, p1⟩ := hS0.c2; have pT := HT.out wz hS1; clear hS0 hS1; go_simp; all_goals (try with_reducible rfl)
              (try simp only [List.getElem_toArray]); (try simp only [List.getElem_cons_succ]); (try simp only [List.getElem_cons_zero]); (try simp only [Act.put]); (try simp only [List.setIfInBounds_toArray]); (try simp only [List.set_cons_succ]); (try simp only [List.set_cons_zero])
              refine wpAnyH_take (i := 8) (v := ?_) rfl (by kernel_rfl) (by kernel_rfl) (by kernel_rfl) (fun _ _ _ h => h) (Or.inl ⟨by kernel_rfl, ?_⟩) hHeld ?_
              rotate_left
              · intro wz hSw; obtain ⟨hS0, hS1⟩ := hSw; obtain ⟨p0, p1⟩ := hS0.c2; have pT := HT.out wz hS1; clear hS0 hS1; go_simp; all_goals (try with_reducible rfl)
              (try simp only [List.getElem_toArray]); (try simp only [List.getElem_cons_succ]); (try simp only [List.getElem_cons_zero]); (try simp only [Act.put]); (try simp only [List.setIfInBounds_toArray]); (try simp only [List.set_cons_succ]); (try simp only [List.set_cons_zero])
              refine wpAnyH_take (i := 9) (v := ?_) rfl (by kernel_rfl) (by kernel_rfl) (by kernel_rfl) (fun _ _ _ h => h) (Or.inl ⟨by kernel_rfl, ?_⟩) hHeld ?_
              rotate_left
              · intro wz hSw; obtain ⟨hS0, hS1⟩ := hSw; obtain ⟨p0, p1⟩ := hS0.c2; have pT := HT.out wz hS1; clear hS0 hS1; go_simp; all_goals (try with_reducible rfl)
              (try simp only [List.getElem_toArray]); (try simp only [List.getElem_cons_succ]); (try simp only [List.getElem_cons_zero]); (try simp only [Act.put]); (try simp only [List.setIfInBounds_toArray]); (try simp only [List.set_cons_succ]); (try simp only [List.set_cons_zero])
              obtain ⟨zc0, zc1⟩ := KA.out.c2
              obtain ⟨fc0, fc1⟩ := KA.out.f2
              have KA2 := hidU (KA.out.set2 (.int .i64 z1) (.int .i64 z2))
              have KTb := hidU (KT.out.other2 (show T ≠ A from HNEKT.out) (.int .i64 z1) (.int .i64 z2))
              have K3b := hidU (K3.out.other2 (show B3 ≠ A from HNEK3.out) (.int .i64 z1) (.int .i64 z2))
              have K6b := hidU (K6.out.other2 (show B6 ≠ A from HNEK6.out) (.int .i64 z1) (.int .i64 z2))
              have K32b := hidU (K32.out.other2 (show B32 ≠ A from HNEK32.out) (.int .i64 z1) (.int .i64 z2))
              have HB2 := hidU (below_set2 HB.out HAw.out (.int .i64 z1) (.int .i64 z2))
              refine wpAnyH_ready (rs := [11]) (by kernel_rfl) (by simp) (AllReadyH.cons rfl (fun Kc hKc => ?_) AllReadyH.nil)
              go_simp
              refine hKc.out _ _ ⟨KTb.out, K32b.out⟩ (fun hHeld => ?_)
              clear hKc Kc
              (try simp only [List.getElem_toArray]); (try simp only [List.getElem_cons_succ]); (try simp only [List.getElem_cons_zero]); (try simp only [Act.put]); (try simp only [List.setIfInBounds_toArray]); (try simp only [List.set_cons_succ]); (try simp only [List.set_cons_zero])
              clear zc0 fc0 zc1 fc1
              refine wpAnyH_take (i := 12) (v := ?_) rfl (by kernel_rfl) (by kernel_rfl) (by kernel_rfl) (fun _ _ _ h => h) (Or.inl ⟨by kernel_rfl, ?_⟩) hHeld ?_
              rotate_left
              · intro wz hSw; obtain ⟨hS0, hS1⟩ := hSw; obtain ⟨p0, p1⟩ := hS0.c2; have pT := HT.out wz hS1; clear hS0 hS1; go_simp; all_goals (try with_reducible rfl)
              (try simp only [List.getElem_toArray]); (try simp only [List.getElem_cons_succ]); (try simp only [List.getElem_cons_zero]); (try simp only [Act.put]); (try simp only [List.setIfInBounds_toArray]); (try simp only [List.set_cons_succ]); (try simp only [List.set_cons_zero])
              refine wpAnyH_done (by kernel_rfl) ?_ _
              refine NoPanic.normal ?_
              go_wp2_with fail
              go_meet
              case rel => exact ⟨_, rfl, rfl, KA2.out, KTb.out, K3b.out, K6b.out, K32b.out, HB2.out⟩
          case rest =>
            obtain ⟨U, rfl, rfl, KU, KT, K3, K6, K32, HB⟩ := hcut
            clear H2
            obtain ⟨e0, e1⟩ := KU.out.c2
            obtain ⟨g0, g1⟩ := K6.out.c2
            cases y5
            · go_wp2
              go_roundw
              case rel => exact ⟨k + 1, by omega, by go_num, K3.out, K6.out, K32.out, HB.out⟩
              case measure => simp [intOf]; omega
            cases z5
            · go_wp2
              go_roundw
              case rel => exact ⟨k + 1, by omega, by go_num, K3.out, K6.out, K32.out, HB.out⟩
              case measure => simp [intOf]; omega
            obtain ⟨rfl, rfl⟩ := HZ.out (by first | exact rfl | exact trivial) (by first | exact rfl | exact trivial)
            go_wp2
            go_roundw
            case rel => exact ⟨k + 1, by omega, by go_num, K3.out, K6.out, K32.out, HB.out⟩
            case measure => simp [intOf]; omega
      · have HK := hidU (show k = 7 by omega)
        go_wp2
        go_ret
        exact ⟨rfl, HB.out⟩
end Go.Proofs.Ytnhefbhiemdhoaa
