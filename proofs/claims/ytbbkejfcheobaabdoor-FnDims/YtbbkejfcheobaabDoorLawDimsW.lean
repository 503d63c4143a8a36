/- The walk of the law FnDims. -/
import Derived.Test.YtbbkejfcheobaabDoorDrawI2
import Derived.Test.YtbbkejfcheobaabDoorPickI
import Derived.Test.YtbbkejfcheobaabDoorDimLaw
import Derived.Test.YtbbkejfcheobaabDoorDimS2
import Derived.Deep.Cut
import Derived.Deep.CutRange
namespace Go.Proofs.YtbbkejfcheobaabDoor
open Go.RowKit Go.Proofs.YtbbkejfcheobaabDoor.RM

theorem ba_inj {a b : ByteArray} (h : a.toList = b.toList) : a = b := by
  rw [ByteArray.toList_eq, ByteArray.toList_eq] at h
  obtain ⟨a⟩ := a
  obtain ⟨b⟩ := b
  have h2 : a = b := Array.toList_inj.1 h
  subst h2
  rfl

set_option maxRecDepth 100000 in
set_option maxHeartbeats 4000000 in
theorem lawDimsF (a0 : Option Addr) (len cap : Nat) (zs : List Int) (w : World) (hr : IsRow .u8 w a0 len cap zs) (hP : PowD w.heap.size w) :
    Calls Tryd.prog 3 #[.slice a0 len cap] w fun e w' => e = .returned (.bool true) ∧ Below w.heap.size w w' := by
  by_cases hl : 4096 < (len : Int)
  · have hbig : decide (4096 < (len : Int)) = true := decide_eq_true hl
    clear hl hr
    go_enter Tryd.func3, Tryd.ntmps3
    go_wp2_with fail
    refine (bigD_any _ _ _ _).mono ?_
    rintro e w1 ⟨rfl, hw⟩
    obtain rfl := hw.symm
    go_wp2
    go_ret
    exact ⟨rfl, Below.refl _ _⟩
  have hbig : decide (4096 < (len : Int)) = false := decide_eq_false hl
  have hlen : len ≤ 4096 := by omega
  have HR := hidI hr
  have HP := hidI hP
  clear hl hr hP
  go_enter Tryd.func3, Tryd.ntmps3
  go_wp2_with fail
  refine (bigD_any _ _ _ _).mono ?_
  rintro e w0 ⟨rfl, hw⟩
  obtain rfl := hw.symm
  clear hw
  have HB : Hid (Below w.heap.size w w) := Below.refl _ _
  go_wp2_with fail
  refine (dDimTimes2_any a0 len cap zs _ HR.out).mono ?_
  rintro e w2 ⟨va, vb, A, B, rfl, hA, hB, hAl, hBl, hb⟩
  have HA := hidI hA
  have HV := hidI hB
  replace HR := hidI (HR.out.below hb)
  replace HB := hidI (HB.out.trans (hb.mono HB.out.size))
  clear hb
  clear hA hB hbig
  obtain ⟨T, hT⟩ : ∃ T, T = ansDimTimes A B := ⟨_, rfl⟩
  have ET := hidI hT
  have hTl : T.length ≤ 1000000000 := by rw [hT]; exact ansDimTimes_len A B
  clear hT
  go_wp2_with fail
  refine (iDimTimes_in va vb A B _ HA.out HV.out).mono ?_
  rintro e w3 ⟨vt, et, rfl, ht, hb⟩
  have HT := hidI (show World.ownsRow _ _ et 1 vt T.length (T.map (Value.int .i64)) from by rw [ET.out]; exact ht)
  replace HA := hidI (DimIn.below HA.out hb)
  replace HV := hidI (DimIn.below HV.out hb)
  replace HR := hidI (HR.out.below hb)
  replace HB := hidI (HB.out.trans (hb.mono HB.out.size))
  clear hb
  clear ht
  go_wp2_with fail
  refine (dDimPower2_any a0 len cap zs _ HR.out).mono ?_
  rintro e w4 ⟨vd, D, n, rfl, hD, hDl, hb⟩
  have HD := hidI hD
  replace HA := hidI (DimIn.below HA.out hb)
  replace HV := hidI (DimIn.below HV.out hb)
  replace HT := hidI (own_below HT.out hb)
  replace HR := hidI (HR.out.below hb)
  replace HB := hidI (HB.out.trans (hb.mono HB.out.size))
  clear hb
  clear hD
  obtain ⟨Q, hQ⟩ : ∃ T, T = ansDimPower D n := ⟨_, rfl⟩
  have EQ := hidI hQ
  have hQl : Q.length ≤ 1000000000 := by rw [hQ]; exact ansDimPower_len D n
  clear hQ
  go_wp2_with fail
  refine (iDimPower_in vd D n _ HD.out).mono ?_
  rintro e w5 ⟨vq, eq, rfl, ht, hb⟩
  have HQ := hidI (show World.ownsRow _ _ eq 1 vq Q.length (Q.map (Value.int .i64)) from by rw [EQ.out]; exact ht)
  replace HA := hidI (DimIn.below HA.out hb)
  replace HV := hidI (DimIn.below HV.out hb)
  replace HT := hidI (own_below HT.out hb)
  replace HD := hidI (DimIn.below HD.out hb)
  replace HR := hidI (HR.out.below hb)
  replace HB := hidI (HB.out.trans (hb.mono HB.out.size))
  clear hb
  clear ht
  go_wp2_with fail
  refine (dShowDim_any a0 len cap zs _ HR.out).mono ?_
  rintro e w6 ⟨vs, S, rfl, hS, hSl, hb⟩
  have HS := hidI hS
  replace HA := hidI (DimIn.below HA.out hb)
  replace HV := hidI (DimIn.below HV.out hb)
  replace HT := hidI (own_below HT.out hb)
  replace HD := hidI (DimIn.below HD.out hb)
  replace HQ := hidI (own_below HQ.out hb)
  replace HR := hidI (HR.out.below hb)
  replace HB := hidI (HB.out.trans (hb.mono HB.out.size))
  clear hb
  clear hS
  go_wp2_with fail
  refine (sDimTimes_in va vb A B _ HA.out HV.out).mono ?_
  rintro e w7 ⟨vx, ex, rfl, ht, hb⟩
  have HX := hidI (show World.ownsRow _ _ ex 1 vx T.length (T.map (Value.int .i64)) from by rw [ET.out]; exact ht)
  replace HA := hidI (DimIn.below HA.out hb)
  replace HV := hidI (DimIn.below HV.out hb)
  replace HT := hidI (own_below HT.out hb)
  replace HD := hidI (DimIn.below HD.out hb)
  replace HQ := hidI (own_below HQ.out hb)
  replace HS := hidI (DimIn.below HS.out hb)
  replace HR := hidI (HR.out.below hb)
  replace HB := hidI (HB.out.trans (hb.mono HB.out.size))
  clear hb
  clear ht
  go_wp2_with fail
  refine (likeI_eq vt vx T _ _ _ _ _ hTl HT.out HX.out).mono ?_
  rintro e w8 ⟨rfl, hb⟩
  replace HA := hidI (DimIn.below HA.out hb)
  replace HV := hidI (DimIn.below HV.out hb)
  replace HT := hidI (own_below HT.out hb)
  replace HD := hidI (DimIn.below HD.out hb)
  replace HQ := hidI (own_below HQ.out hb)
  replace HS := hidI (DimIn.below HS.out hb)
  replace HX := hidI (own_below HX.out hb)
  replace HR := hidI (HR.out.below hb)
  replace HB := hidI (HB.out.trans (hb.mono HB.out.size))
  clear hb
  clear HX
  go_wp2_with fail
  refine (sDimPower_in vd D n _ HD.out).mono ?_
  rintro e w9 ⟨vx, ex, rfl, ht, hb⟩
  have HX := hidI (show World.ownsRow _ _ ex 1 vx Q.length (Q.map (Value.int .i64)) from by rw [EQ.out]; exact ht)
  replace HA := hidI (DimIn.below HA.out hb)
  replace HV := hidI (DimIn.below HV.out hb)
  replace HT := hidI (own_below HT.out hb)
  replace HD := hidI (DimIn.below HD.out hb)
  replace HQ := hidI (own_below HQ.out hb)
  replace HS := hidI (DimIn.below HS.out hb)
  replace HR := hidI (HR.out.below hb)
  replace HB := hidI (HB.out.trans (hb.mono HB.out.size))
  clear hb
  clear ht
  go_wp2_with fail
  refine (likeI_eq vq vx Q _ _ _ _ _ hQl HQ.out HX.out).mono ?_
  rintro e w10 ⟨rfl, hb⟩
  replace HA := hidI (DimIn.below HA.out hb)
  replace HV := hidI (DimIn.below HV.out hb)
  replace HT := hidI (own_below HT.out hb)
  replace HD := hidI (DimIn.below HD.out hb)
  replace HQ := hidI (own_below HQ.out hb)
  replace HS := hidI (DimIn.below HS.out hb)
  replace HX := hidI (own_below HX.out hb)
  replace HR := hidI (HR.out.below hb)
  replace HB := hidI (HB.out.trans (hb.mono HB.out.size))
  clear hb
  clear HX
  clear HQ
  have CS : Hid (∀ W : World, Below w.heap.size w W → DimIn W vs S → Calls Tryd.prog 13 #[vs] W fun e w' => e = .returned (.string ⟨(showD S).toArray⟩) ∧ Below W.heap.size W w') := fun W h1 h2 => iShowD_in vs S w.heap.size W h2 (HP.out.below h1) h1.size
  obtain ⟨s, hs⟩ : ∃ s : ByteArray, s = ⟨(showD S).toArray⟩ := ⟨_, rfl⟩
  have CS2 : Hid (∀ W : World, DimIn W vs S → Calls Tryd.prog 14 #[vs] W fun e w' => e = .returned (.string s) ∧ Below W.heap.size W w') := by intro W h2; rw [hs]; exact sShowD_in vs S W h2
  rw [← hs] at CS
  clear hs
  obtain ⟨q, hq⟩ : ∃ q, q = dimB S := ⟨_, rfl⟩
  have hqq : (q != q) = false := by simp
  have CO : Hid (∀ W : World, DimIn W vs S → Calls Tryd.prog 15 #[vs] W fun e w' => e = .returned (.bool q) ∧ Below W.heap.size W w') := by intro W h2; rw [hq]; exact iDimOk_in vs S W h2
  have CO2 : Hid (∀ W : World, DimIn W vs S → Calls Tryd.prog 16 #[vs] W fun e w' => e = .returned (.bool q) ∧ Below W.heap.size W w') := by
    intro W h2
    rw [hq]
    refine (sDimOk_in vs S W h2).mono ?_
    rintro e w' ⟨rfl, m, rfl⟩
    exact ⟨rfl, below_drewN (Below.refl _ _) _⟩
  clear hq
  go_wp2_with fail
  refine (CS.out _ HB.out HS.out).mono ?_
  rintro e w11 ⟨rfl, hb⟩
  replace HA := hidI (DimIn.below HA.out hb)
  replace HV := hidI (DimIn.below HV.out hb)
  replace HT := hidI (own_below HT.out hb)
  replace HD := hidI (DimIn.below HD.out hb)
  replace HS := hidI (DimIn.below HS.out hb)
  replace HR := hidI (HR.out.below hb)
  replace HB := hidI (HB.out.trans (hb.mono HB.out.size))
  clear hb
  go_wp2_with fail
  refine (CS2.out _ HS.out).mono ?_
  rintro e w12 ⟨rfl, hb⟩
  replace HA := hidI (DimIn.below HA.out hb)
  replace HV := hidI (DimIn.below HV.out hb)
  replace HT := hidI (own_below HT.out hb)
  replace HD := hidI (DimIn.below HD.out hb)
  replace HS := hidI (DimIn.below HS.out hb)
  replace HR := hidI (HR.out.below hb)
  replace HB := hidI (HB.out.trans (hb.mono HB.out.size))
  clear hb
  go_wp2_with fail
  refine (CO.out _ HS.out).mono ?_
  rintro e w13 ⟨rfl, hb⟩
  replace HA := hidI (DimIn.below HA.out hb)
  replace HV := hidI (DimIn.below HV.out hb)
  replace HT := hidI (own_below HT.out hb)
  replace HD := hidI (DimIn.below HD.out hb)
  replace HS := hidI (DimIn.below HS.out hb)
  replace HR := hidI (HR.out.below hb)
  replace HB := hidI (HB.out.trans (hb.mono HB.out.size))
  clear hb
  go_wp2_with fail
  refine (CO2.out _ HS.out).mono ?_
  rintro e w14 ⟨rfl, hb⟩
  replace HA := hidI (DimIn.below HA.out hb)
  replace HV := hidI (DimIn.below HV.out hb)
  replace HT := hidI (own_below HT.out hb)
  replace HD := hidI (DimIn.below HD.out hb)
  replace HS := hidI (DimIn.below HS.out hb)
  replace HR := hidI (HR.out.below hb)
  replace HB := hidI (HB.out.trans (hb.mono HB.out.size))
  clear hb
  clear HS
  clear CS CS2 CO CO2
  go_wp2_with fail
  refine (iDimTimes_in vb va B A _ HV.out HA.out).mono ?_
  rintro e w15 ⟨vx, ex, rfl, ht, hb⟩
  have HX := hidI (show World.ownsRow _ _ ex 1 vx T.length (T.map (Value.int .i64)) from by rw [ET.out, ← ansT_comm]; exact ht)
  replace HA := hidI (DimIn.below HA.out hb)
  replace HV := hidI (DimIn.below HV.out hb)
  replace HT := hidI (own_below HT.out hb)
  replace HD := hidI (DimIn.below HD.out hb)
  replace HR := hidI (HR.out.below hb)
  replace HB := hidI (HB.out.trans (hb.mono HB.out.size))
  clear hb
  clear ht
  go_wp2_with fail
  refine (likeI_eq vx vt T _ _ _ _ _ hTl HX.out HT.out).mono ?_
  rintro e w16 ⟨rfl, hb⟩
  replace HA := hidI (DimIn.below HA.out hb)
  replace HV := hidI (DimIn.below HV.out hb)
  replace HT := hidI (own_below HT.out hb)
  replace HD := hidI (DimIn.below HD.out hb)
  replace HX := hidI (own_below HX.out hb)
  replace HR := hidI (HR.out.below hb)
  replace HB := hidI (HB.out.trans (hb.mono HB.out.size))
  clear hb
  clear HX
  obtain ⟨tn, htn⟩ : ∃ n, n = T.length := ⟨_, rfl⟩
  obtain ⟨ta, tc, rfl⟩ := own_shape HT.out
  go_upto_region 10 with fail
  go_cut [85] from 69 to 85 (fun x wx => x = .bool false ∧ Hid (Below w16.heap.size w16 wx))
  case first => as_aux_lemma =>
    by_cases hT0 : T = []
    · subst hT0
      simp only [List.length_nil]
      go_wp2
      go_meet
      case rel => exact ⟨rfl, Below.refl _ _⟩
    · obtain ⟨bk1, bk2⟩ := dim_back ET.out hT0
      obtain ⟨i1, -, -, -⟩ := ansT_is ET.out hT0
      have hT1 : ¬ ((T.length : Nat) : Int) ≤ 0 := by
        intro h
        exact hT0 (List.eq_nil_of_length_eq_zero (by omega))
      have hT2 : (0 : Int) < ((T.length : Nat) : Int) := by omega
      obtain ⟨Bm, hBm⟩ : ∃ x, x = ansDimPower B (-1) := ⟨_, rfl⟩
      rw [← hBm] at bk2
      have EB := hidI hBm
      have BK := hidI bk2
      have CD : Hid (∀ W : World, DimIn W (.slice ta T.length tc) T → Calls Tryd.prog 15 #[.slice ta T.length tc] W fun e w' => e = .returned (.bool true) ∧ Below W.heap.size W w') := by
        intro W h2
        have := iDimOk_in (.slice ta T.length tc) T W h2
        rw [bk1] at this
        exact this
      have hA5 : A.length = 5 := by
        have := i1
        unfold dimB at this
        rw [Bool.and_eq_true, decide_eq_true_eq] at this
        exact this.1
      clear hBm bk1 bk2 i1
      have HB0 : Hid (Below w16.heap.size w16 w16) := Below.refl _ _
      go_wp2_with fail
      refine (CD.out _ (DimIn.of HT.out)).mono ?_
      rintro e x1 ⟨rfl, hb⟩
      replace HT := hidI (own_below HT.out hb)
      replace HA := hidI (HA.out.below hb)
      replace HV := hidI (HV.out.below hb)
      replace HB0 := hidI (HB0.out.trans (hb.mono HB0.out.size))
      clear hb CD
      go_wp2_with fail
      refine (iDimPower_in vb B (-1) _ HV.out).mono ?_
      rintro e x2 ⟨vm, em, rfl, ht, hb⟩
      rw [← EB.out] at ht
      have HM := hidI ht
      replace HT := hidI (own_below HT.out hb)
      replace HA := hidI (HA.out.below hb)
      replace HB0 := hidI (HB0.out.trans (hb.mono HB0.out.size))
      clear hb ht
      go_wp2_with fail
      refine (iDimTimes_in _ vm T Bm _ (DimIn.of HT.out) (DimIn.of HM.out)).mono ?_
      rintro e x3 ⟨vn, en, rfl, ht, hb⟩
      rw [BK.out] at ht
      have HN := hidI ht
      replace HA := hidI (HA.out.below hb)
      replace HB0 := hidI (HB0.out.trans (hb.mono HB0.out.size))
      clear hb ht HM
      obtain ⟨ba, ea, oa⟩ := HA.out.five hA5
      have OA := hidI oa
      clear oa
      go_wp2_with fail
      refine (likeI_eq vn va A _ _ _ _ _ (by omega) HN.out OA.out).mono ?_
      rintro e x4 ⟨rfl, hb⟩
      replace HB0 := hidI (HB0.out.trans (hb.mono HB0.out.size))
      clear hb
      go_wp2
      go_meet
      case rel => exact ⟨rfl, HB0.out⟩
  case rest => as_aux_lemma =>
    obtain ⟨rfl, hcb⟩ := hcut
    have hb := hcb.out
    clear hcb
    replace HD := hidI (HD.out.below hb)
    replace HR := hidI (HR.out.below hb)
    replace HB := hidI (HB.out.trans (hb.mono HB.out.size))
    clear hb HT HA HV ET EQ
    go_wp2_with fail
    refine (pickD_any a0 len cap zs _ _ _ HR.out hlen (by omega) (by omega) (by omega)).mono ?_
    rintro e w31 ⟨m, rfl, hm0, hm1, hw⟩
    obtain rfl := hw.symm
    clear hw
    obtain ⟨X, hX⟩ : ∃ T, T = ansDimPower D m := ⟨_, rfl⟩
    obtain ⟨Y, hY⟩ : ∃ T, T = ansDimPower D (m + 1) := ⟨_, rfl⟩
    have EX := hidI hX
    have EY := hidI hY
    have hXl : X.length ≤ 1000000000 := by rw [hX]; exact ansDimPower_len D m
    have hYl : Y.length ≤ 1000000000 := by rw [hY]; exact ansDimPower_len D (m + 1)
    clear hX hY
    go_wp2_with fail
    refine (iDimPower_in vd D m _ HD.out).mono ?_
    rintro e w32 ⟨vx, ex, rfl, ht, hb⟩
    rw [← EX.out] at ht
    have HX := hidI ht
    replace HD := hidI (HD.out.below hb)
    replace HB := hidI (HB.out.trans (hb.mono HB.out.size))
    clear hb ht
    go_wp2_with fail
    refine (iDimPower_in vd D (m + 1) _ HD.out).mono ?_
    rintro e w33 ⟨vy, ey, rfl, ht, hb⟩
    rw [← EY.out] at ht
    have HY := hidI ht
    replace HX := hidI (own_below HX.out hb)
    replace HD := hidI (HD.out.below hb)
    replace HB := hidI (HB.out.trans (hb.mono HB.out.size))
    clear hb ht
    obtain ⟨ya, yc, rfl⟩ := own_shape HY.out
    by_cases hY0 : Y = []
    · subst hY0
      simp only [List.length_nil]
      go_wp2
      go_ret
      exact ⟨rfl, HB.out⟩
    · obtain ⟨n1, n2, n3⟩ := dim_next hm0 (by omega) EY.out hY0
      rw [← EX.out] at n1 n3
      have hYn : ¬ ((Y.length : Nat) : Int) = 0 := by
        intro h
        exact hY0 (List.eq_nil_of_length_eq_zero (by omega))
      have hYb : (((Y.length : Nat) : Int) == 0) = false := by simpa using hYn
      have N1 := hidI n1
      have NB := hidI (And.intro n2 n3)
      clear n1 n2 n3
      go_wp2_with fail
      refine (iDimTimes_in vx vd X D _ (DimIn.of HX.out) HD.out).mono ?_
      rintro e w34 ⟨vz, ez, rfl, ht, hb⟩
      rw [N1.out] at ht
      have HZ := hidI ht
      replace HX := hidI (own_below HX.out hb)
      replace HY := hidI (own_below HY.out hb)
      replace HB := hidI (HB.out.trans (hb.mono HB.out.size))
      clear hb ht
      go_wp2_with fail
      refine (likeI_eq vz _ Y _ _ _ _ _ hYl HZ.out HY.out).mono ?_
      rintro e w35 ⟨rfl, hb⟩
      replace HX := hidI (own_below HX.out hb)
      replace HY := hidI (own_below HY.out hb)
      replace HB := hidI (HB.out.trans (hb.mono HB.out.size))
      clear hb HZ
      obtain ⟨sx, hsx⟩ : ∃ s : ByteArray, s = ⟨(showD X).toArray⟩ := ⟨_, rfl⟩
      obtain ⟨sy, hsy⟩ : ∃ s : ByteArray, s = ⟨(showD Y).toArray⟩ := ⟨_, rfl⟩
      have HXY : Hid (sx = sy ↔ X = Y) := by
        constructor
        · intro h
          rw [hsx, hsy] at h
          injection h with h
          exact showD_inj NB.out.2 NB.out.1 (List.toArray_inj h)
        · intro h
          rw [hsx, hsy, h]
      have CX : Hid (∀ W : World, Below w.heap.size w W → DimIn W vx X → Calls Tryd.prog 13 #[vx] W fun e w' => e = .returned (.string sx) ∧ Below W.heap.size W w') := by
        intro W h1 h2; rw [hsx]; exact iShowD_in vx X w.heap.size W h2 (HP.out.below h1) h1.size
      have CY : Hid (∀ W : World, Below w.heap.size w W → DimIn W (.slice ya Y.length yc) Y → Calls Tryd.prog 13 #[.slice ya Y.length yc] W fun e w' => e = .returned (.string sy) ∧ Below W.heap.size W w') := by
        intro W h1 h2; rw [hsy]; exact iShowD_in _ Y w.heap.size W h2 (HP.out.below h1) h1.size
      clear hsx hsy
      go_wp2_with fail
      refine (CX.out _ HB.out (DimIn.of HX.out)).mono ?_
      rintro e w36 ⟨rfl, hb⟩
      replace HX := hidI (own_below HX.out hb)
      replace HY := hidI (own_below HY.out hb)
      replace HB := hidI (HB.out.trans (hb.mono HB.out.size))
      clear hb
      go_wp2_with fail
      refine (CY.out _ HB.out (DimIn.of HY.out)).mono ?_
      rintro e w37 ⟨rfl, hb⟩
      replace HX := hidI (own_below HX.out hb)
      replace HY := hidI (own_below HY.out hb)
      replace HB := hidI (HB.out.trans (hb.mono HB.out.size))
      clear hb
      go_wp2_with fail
      refine (likeI_any vx _ X Y _ _ _ _ _ hXl hYl HX.out HY.out).mono ?_
      rintro e w38 ⟨rfl, hb⟩
      replace HB := hidI (HB.out.trans (hb.mono HB.out.size))
      clear hb
      by_cases hXY : X = Y
      · have h1 : sx = sy := HXY.out.2 hXY
        have h2 : decide (X = Y) = true := decide_eq_true hXY
        rw [h2]
        subst h1
        go_wp2
        go_ret
        exact ⟨rfl, HB.out⟩
      · have h1 : ¬ sx = sy := fun h => hXY (HXY.out.1 h)
        have h3 : (sx.toList == sy.toList) = false := by rw [beq_eq_false_iff_ne]; exact fun h => h1 (ba_inj h)
        have h2 : decide (X = Y) = false := decide_eq_false hXY
        rw [h2]
        go_wp2
        go_ret
        exact ⟨rfl, HB.out⟩
end Go.Proofs.YtbbkejfcheobaabDoor
