/- The law of Chebyshev walked: what lies inside is split, a cover has its part and no shorter stretch has, and no more weight lies far off than the variance allows. -/
import Derived.Test.YtaaefebjjjfgbaaDrawP2
import Derived.Test.YtaaefebjjjfgbaaChebMath3
import Derived.Test.YtaaefebjjjfgbaaPtQ
import Derived.Deep.RegionLaw
import Derived.BigQuiet
namespace Go.Proofs.Ytaaefebjjjfgbaa
open Go.RowKit Go.Proofs.Ytaaefebjjjfgbaa.RM

theorem b0_c (u : World) (o : Obj) : Below u.heap.size u (u.alloc o) := (Below.refl _ _).alloc (Nat.le_refl _) o
theorem sprB_of {ps : List Fr} (h : sprP ps) : sprB ps = true := decide_eq_true h
theorem sWeight_any' (ps : List Fr) (T : Int) (hT : wgtA ps = T) (v : Value) (w : World) (h : RdR w v ps) :
    Calls Try.prog 12 #[v] w fun e w' => e = .returned (.int .i64 T) ∧ Below w.heap.size w w' := by
  rw [← hT]; exact sWgt_any v ps w h
theorem sWgtQ_c (ps : List Fr) (T : Int) (hT : wgtA ps = T) (v : Value) (n : Nat) (w : World) (h : RdR w v ps) :
    Calls Try.prog 12 #[v] (w.drewN n) fun e w' => e = .returned (.int .i64 T) ∧ ∃ m, w' = w.drewN m := by
  rw [← hT]; exact Calls.quiet_of (sWgtD_any v ps (w.drewN n) (h.dq ⟨n, rfl⟩))
theorem sInsQ_c (ps : List Fr) (J : Int → Int → Int) (hJ : ∀ x y, insA ps x y = J x y) (v : Value) (x y : Int) (n : Nat) (w : World) (h : RdR w v ps) :
    Calls Try.prog 10 #[v, .int .i64 x, .int .i64 y] (w.drewN n) fun e w' => e = .returned (.int .i64 (J x y)) ∧ ∃ m, w' = w.drewN m := by
  rw [← hJ]; exact Calls.quiet_of (sInsideD_any v ps x y (w.drewN n) (h.dq ⟨n, rfl⟩))

set_option maxRecDepth 100000 in
set_option maxHeartbeats 16000000 in
theorem lawCheb (a : Option Addr) (len cap : Nat) (zs : List Int) (w : World) (hr : IsRow .u8 w a len cap zs) :
    Calls Try.prog 3 #[.slice a len cap] w fun e w' => e = .returned (.bool true) ∧ Below w.heap.size w w' := by
  have HR := hidW hr
  have HBIG := hidW (fun W => big_any a len cap W)
  by_cases hbig : 4096 < (len : Int)
  · have HBG : Hid (decide (4096 < (len : Int)) = true) := decide_eq_true hbig
    rw [HBG.out] at HBIG
    go_enter Try.func3, Try.ntmps3
    go_wp2_with fail
    refine (HBIG.out _).mono ?_
    rintro e w1 ⟨rfl, rfl⟩
    go_wp2
    go_ret
    exact ⟨rfl, Below.refl _ _⟩
  have HBG : Hid (decide (4096 < (len : Int)) = false) := decide_eq_false hbig
  rw [HBG.out] at HBIG
  clear hr hbig
  go_enter Try.func3, Try.ntmps3
  go_wp2_with fail
  refine (HBIG.out _).mono ?_
  rintro e w0 ⟨rfl, hw⟩
  have hw2 := hw.symm
  subst hw2
  clear hw HBIG HBG
  go_wp2_with fail
  refine (dInside_any a len cap zs _ HR.out).mono ?_
  rintro e w1 ⟨vl, ps, lo, hi, rfl, f1, pl, lo0, lo1, hi0, hi1, hb⟩
  have BB := hidW hb
  have RL := hidW f1
  obtain ⟨pa, na, ca, rfl⟩ : ∃ a n c, vl = .slice a n c := by obtain ⟨a, c, rfl, _⟩ := f1; exact ⟨a, _, c, rfl⟩
  clear hb f1
  have CII := hidW (fun (lo hi : Int) (W : World) (h : RdR W (.slice pa na ca) ps) => iInside_any _ ps lo hi W h)
  have CSI := hidW (fun (lo hi : Int) (W : World) (h : RdR W (.slice pa na ca) ps) => sInside_any _ ps lo hi W h)
  have CIW := hidW (fun (W : World) (h : RdR W (.slice pa na ca) ps) => iWeight_any _ ps W h)
  obtain ⟨I, hI⟩ : ∃ I, I = insA ps := ⟨_, rfl⟩
  have EI := hidW hI
  rw [← hI] at CII CSI
  obtain ⟨T, hT⟩ : ∃ T, T = wgtA ps := ⟨_, rfl⟩
  have ET := hidW hT
  rw [← hT] at CIW
  clear hI hT
  go_wp2_with fail
  refine (CII.out lo hi _ RL.out).mono ?_
  rintro e w2 ⟨rfl, hb⟩
  replace RL := hidW (RL.out.below hb)
  replace BB := hidW (BB.out.trans (hb.mono BB.out.size))
  clear hb
  obtain ⟨N, hN⟩ : ∃ N, N = I lo hi := ⟨_, rfl⟩
  have EN := hidW hN
  rw [← hN]
  clear hN
  go_wp2_with fail
  refine (dCover_any a len cap zs _ (HR.out.below BB.out)).mono ?_
  rintro e w3 ⟨vs, qs, q1, q2, rfl, f2, ql, hb⟩
  have RS := hidW f2
  obtain ⟨qa, nb, cq, rfl⟩ : ∃ a n c, vs = .slice a n c := by obtain ⟨a, c, rfl, _⟩ := f2; exact ⟨a, _, c, rfl⟩
  clear f2
  replace RL := hidW (RL.out.below hb)
  replace BB := hidW (BB.out.trans (hb.mono BB.out.size))
  clear hb
  have hb := b0_c w3 (.cells #[.int .i64 q1, .int .i64 q2] 29)
  go_upto_region 6 with fail
  obtain ⟨Y3, hY⟩ : ∃ Y, Y = w3.alloc (.cells #[.int .i64 q1, .int .i64 q2] 29) := ⟨_, rfl⟩
  obtain ⟨Q, hF⟩ : ∃ F, F = w3.heap.size := ⟨_, rfl⟩
  have ZQ : Hid (IsR Y3 Q q1 q2) := by show IsR _ _ _ _; rw [hY, hF]; exact IsR.new _ _ _
  rw [← hY] at hb
  rw [← hY, ← hF]
  clear hY hF
  replace RL := hidW (RL.out.below hb)
  replace RS := hidW (RS.out.below hb)
  replace BB := hidW (BB.out.trans (hb.mono BB.out.size))
  clear hb
  have CIC := hidW (fun (W : World) (h : RdR W (.slice qa nb cq) qs) => iCover_any _ qs q1 q2 W h)
  have CSC := hidW (fun (W : World) (h : RdR W (.slice qa nb cq) qs) => sCover_any _ qs q1 q2 W h)
  obtain ⟨ca', hca⟩ : ∃ z, z = covL qs (q1, q2) := ⟨_, rfl⟩
  obtain ⟨cb', hcb⟩ : ∃ z, z = covH qs (q1, q2) := ⟨_, rfl⟩
  obtain ⟨is, his⟩ : ∃ z, z = covC qs (q1, q2) := ⟨_, rfl⟩
  have ECA := hidW hca
  have ECB := hidW hcb
  have EIS := hidW his
  rw [← hca, ← hcb, ← his] at CIC CSC
  clear hca hcb his
  have x1 : (is != is) = false := by simp
  have x2 : (ca' != ca') = false := by simp
  have x3 : (cb' != cb') = false := by simp
  have x4 : (N != N) = false := by simp
  have z0 := ZQ.out.c0
  have z1 := ZQ.out.c1
  go_wp2_with fail
  refine (CIC.out _ RS.out).mono ?_
  rintro e w4 ⟨rfl, hb⟩
  replace RL := hidW (RL.out.below hb)
  replace RS := hidW (RS.out.below hb)
  replace ZQ := hidW (ZQ.out.below hb)
  replace BB := hidW (BB.out.trans (hb.mono BB.out.size))
  clear hb
  clear z0 z1
  have z0 := ZQ.out.c0
  have z1 := ZQ.out.c1
  go_wp2_with fail
  refine (CSC.out _ RS.out).mono ?_
  rintro e w5 ⟨rfl, hb⟩
  replace RL := hidW (RL.out.below hb)
  replace RS := hidW (RS.out.below hb)
  replace ZQ := hidW (ZQ.out.below hb)
  replace BB := hidW (BB.out.trans (hb.mono BB.out.size))
  clear hb
  clear z0 z1 CIC CSC
  go_wp2_with fail
  refine (CSI.out lo hi _ RL.out).mono ?_
  rintro e w6 ⟨rfl, hb⟩
  replace RL := hidW (RL.out.below hb)
  replace RS := hidW (RS.out.below hb)
  replace ZQ := hidW (ZQ.out.below hb)
  replace BB := hidW (BB.out.trans (hb.mono BB.out.size))
  clear hb
  rw [← EN.out]
  have HIN : Hid (0 ≤ N → ps.length ≤ 40 ∧ sprB ps = true) := by
    intro h
    have e : N = insA ps lo hi := by rw [EN.out, EI.out]
    by_cases hs : sprB ps = true
    · exact ⟨(sprB_out hs).1.2, hs⟩
    · unfold insA at e
      rw [if_neg hs] at e
      omega
  go_upto_region 10 with fail
  go_cut [117] (fun s wx => s = .bool false ∧ Hid (RdR wx (.slice pa na ca) ps) ∧ Hid (RdR wx (.slice qa nb cq) qs) ∧ Hid (IsR wx Q q1 q2) ∧ Hid (Below w.heap.size w wx))
  case first => as_aux_lemma =>
    by_cases hn : 0 ≤ N
    case neg =>
      have d1 : decide (0 ≤ N) = false := decide_eq_false hn
      go_wp2
      go_meet
      case rel => exact ⟨rfl, RL.out, RS.out, ZQ.out, BB.out⟩
    have d1 : decide (0 ≤ N) = true := decide_eq_true hn
    obtain ⟨hl40, hsb⟩ := HIN.out hn
    have hsp := sprB_out hsb
    have hT : T = wtS ps ps.length := by rw [ET.out]; exact if_pos hsb
    have hI : ∀ x y, I x y = insS ps x y ps.length := by intro x y; rw [EI.out]; exact if_pos hsb
    have hNT : N ≤ T := by rw [EN.out, hI, hT]; exact (insS_in hsp.2.1).2
    have hT6 : T ≤ 1000000 := by rw [hT]; exact hsp.2.2
    have hb1 : ∀ x y, 0 ≤ I x y ∧ I x y ≤ 1000000 := by intro x y; rw [hI]; have := insS_in (lo := x) (hi := y) hsp.2.1; rw [← hT] at this; omega
    have HB1 := hidW hb1
    have HNE : Hid (hi < lo → N = 0) := by intro h; rw [EN.out, hI]; exact ins_none h _
    have HSP : Hid (lo ≤ hi → I lo hi + I (hi + 1) 2000 + I (-2000) (lo - 1) = T) := by intro h; rw [hI, hI, hI, hT]; exact ins_split h _ hsp.2.1
    have d2 : decide (T < N) = false := decide_eq_false (by omega)
    clear hsp hT hI hsb hNT hb1
    go_wp2_with fail
    refine (CIW.out _ RL.out).mono ?_
    rintro e w7 ⟨rfl, hb⟩
    replace RL := hidW (RL.out.below hb)
    replace RS := hidW (RS.out.below hb)
    replace ZQ := hidW (ZQ.out.below hb)
    replace BB := hidW (BB.out.trans (hb.mono BB.out.size))
    clear hb
    by_cases hlh : lo ≤ hi
    · have d3 : decide (hi < lo) = false := decide_eq_false (by omega)
      have d4 : decide (lo ≤ hi) = true := decide_eq_true hlh
      go_wp2_with fail
      refine (CII.out lo hi _ RL.out).mono ?_
      rintro e w8 ⟨rfl, hb⟩
      obtain ⟨n1, hn1⟩ : ∃ N, N = I lo hi := ⟨_, rfl⟩
      have En1 := hidW hn1
      have bn1 := HB1.out lo hi
      rw [← hn1] at bn1 ⊢
      clear hn1
      replace RL := hidW (RL.out.below hb)
      replace RS := hidW (RS.out.below hb)
      replace ZQ := hidW (ZQ.out.below hb)
      replace BB := hidW (BB.out.trans (hb.mono BB.out.size))
      clear hb
      go_wp2_with fail
      refine (CII.out (hi + 1) 2000 _ RL.out).mono ?_
      rintro e w9 ⟨rfl, hb⟩
      obtain ⟨n2, hn2⟩ : ∃ N, N = I (hi + 1) 2000 := ⟨_, rfl⟩
      have En2 := hidW hn2
      have bn2 := HB1.out (hi + 1) 2000
      rw [← hn2] at bn2 ⊢
      clear hn2
      replace RL := hidW (RL.out.below hb)
      replace RS := hidW (RS.out.below hb)
      replace ZQ := hidW (ZQ.out.below hb)
      replace BB := hidW (BB.out.trans (hb.mono BB.out.size))
      clear hb
      go_wp2_with fail
      refine (CII.out (-2000) (lo - 1) _ RL.out).mono ?_
      rintro e w10 ⟨rfl, hb⟩
      obtain ⟨n3, hn3⟩ : ∃ N, N = I (-2000) (lo - 1) := ⟨_, rfl⟩
      have En3 := hidW hn3
      have bn3 := HB1.out (-2000) (lo - 1)
      rw [← hn3] at bn3 ⊢
      clear hn3
      replace RL := hidW (RL.out.below hb)
      replace RS := hidW (RS.out.below hb)
      replace ZQ := hidW (ZQ.out.below hb)
      replace BB := hidW (BB.out.trans (hb.mono BB.out.size))
      clear hb
      go_wp2_with fail
      refine (CIW.out _ RL.out).mono ?_
      rintro e w11 ⟨rfl, hb⟩
      replace RL := hidW (RL.out.below hb)
      replace RS := hidW (RS.out.below hb)
      replace ZQ := hidW (ZQ.out.below hb)
      replace BB := hidW (BB.out.trans (hb.mono BB.out.size))
      clear hb
      have e5 := HSP.out hlh
      rw [← En1.out, ← En2.out, ← En3.out] at e5
      have d6 : (n1 + n2 + n3 != T) = false := by rw [e5]; simp
      go_wp2
      all_goals (go_meet; exact ⟨rfl, RL.out, RS.out, ZQ.out, BB.out⟩)
    · have d3 : decide (hi < lo) = true := decide_eq_true (by omega)
      have d4 : decide (lo ≤ hi) = false := decide_eq_false hlh
      have d5 : (N != 0) = false := by rw [HNE.out (by omega)]; rfl
      go_wp2_with fail
      refine (CII.out lo hi _ RL.out).mono ?_
      rintro e w8 ⟨rfl, hb⟩
      obtain ⟨n1, hn1⟩ : ∃ N, N = I lo hi := ⟨_, rfl⟩
      have En1 := hidW hn1
      have bn1 := HB1.out lo hi
      rw [← hn1] at bn1 ⊢
      clear hn1
      replace RL := hidW (RL.out.below hb)
      replace RS := hidW (RS.out.below hb)
      replace ZQ := hidW (ZQ.out.below hb)
      replace BB := hidW (BB.out.trans (hb.mono BB.out.size))
      clear hb
      go_wp2_with fail
      refine (CII.out (hi + 1) 2000 _ RL.out).mono ?_
      rintro e w9 ⟨rfl, hb⟩
      obtain ⟨n2, hn2⟩ : ∃ N, N = I (hi + 1) 2000 := ⟨_, rfl⟩
      have En2 := hidW hn2
      have bn2 := HB1.out (hi + 1) 2000
      rw [← hn2] at bn2 ⊢
      clear hn2
      replace RL := hidW (RL.out.below hb)
      replace RS := hidW (RS.out.below hb)
      replace ZQ := hidW (ZQ.out.below hb)
      replace BB := hidW (BB.out.trans (hb.mono BB.out.size))
      clear hb
      go_wp2_with fail
      refine (CII.out (-2000) (lo - 1) _ RL.out).mono ?_
      rintro e w10 ⟨rfl, hb⟩
      obtain ⟨n3, hn3⟩ : ∃ N, N = I (-2000) (lo - 1) := ⟨_, rfl⟩
      have En3 := hidW hn3
      have bn3 := HB1.out (-2000) (lo - 1)
      rw [← hn3] at bn3 ⊢
      clear hn3
      replace RL := hidW (RL.out.below hb)
      replace RS := hidW (RS.out.below hb)
      replace ZQ := hidW (ZQ.out.below hb)
      replace BB := hidW (BB.out.trans (hb.mono BB.out.size))
      clear hb
      go_wp2_with fail
      refine (CIW.out _ RL.out).mono ?_
      rintro e w11 ⟨rfl, hb⟩
      replace RL := hidW (RL.out.below hb)
      replace RS := hidW (RS.out.below hb)
      replace ZQ := hidW (ZQ.out.below hb)
      replace BB := hidW (BB.out.trans (hb.mono BB.out.size))
      clear hb
      go_wp2
      all_goals (go_meet; exact ⟨rfl, RL.out, RS.out, ZQ.out, BB.out⟩)
  case rest =>
    clear RL RS ZQ BB CII CSI CIW HIN x1 x2 x3 x4
    obtain ⟨rfl, RL, RS, ZQ, BB⟩ := hcut
    obtain ⟨w20, hw20⟩ : ∃ u, u = wc := ⟨_, rfl⟩
    rw [← hw20] at RL RS ZQ BB ⊢
    clear hw20
    go_upto_if 118 with fail
    go_cut [15, 16] (fun _ _ wx => Hid (RdR wx (.slice pa na ca) ps) ∧ Hid (RdR wx (.slice qa nb cq) qs) ∧ Hid (IsR wx Q q1 q2) ∧ Hid (Below w.heap.size w wx))
    case first => as_aux_lemma =>
      cases is
      · go_wp2
        go_meet
        case rel => exact ⟨RL.out.below (Below.refl _ _), RS.out.below (Below.refl _ _), ZQ.out.below (Below.refl _ _), BB.out.trans ((Below.refl _ _).mono BB.out.size)⟩
      have hcl := cov_law EIS.out.symm
      have hci := cov_in EIS.out.symm
      rw [← ECA.out, ← ECB.out] at hcl hci
      obtain ⟨⟨⟨l1, l2⟩, hP, hw6⟩, hok, ⟨a0, a1⟩, b0', b1'⟩ := hci
      obtain ⟨hab, hpart, hshort⟩ := hcl
      obtain ⟨k1, k2, k3, k4, -⟩ := okB_out hok
      dsimp only at k1 k2 k3 k4 hpart hshort
      have hw0 := (wtS_in hP).1
      have HWT : Hid (wgtA qs = wtS qs qs.length) := if_pos (sprB_of ⟨⟨l1, l2⟩, hP, hw6⟩)
      have HIA : Hid (∀ x y, insA qs x y = insS qs x y qs.length) := fun x y => if_pos (sprB_of ⟨⟨l1, l2⟩, hP, hw6⟩)
      have HII : Hid (∀ x y, 0 ≤ insS qs x y qs.length ∧ insS qs x y qs.length ≤ wtS qs qs.length) := fun x y => insS_in hP
      have HAT : Hid (∀ i, i < qs.length → -1000 ≤ (fr qs i).1 ∧ (fr qs i).1 ≤ 1000) := fun i hi => (hP i hi).1
      obtain ⟨J, hJ⟩ : ∃ J, J = fun x y => insS qs x y qs.length := ⟨_, rfl⟩
      have HJ : Hid (∀ x y, insS qs x y qs.length = J x y) := by intro x y; rw [hJ]
      obtain ⟨T2, hT2⟩ : ∃ z, z = wtS qs qs.length := ⟨_, rfl⟩
      have HJB : Hid (∀ x y, 0 ≤ J x y ∧ J x y ≤ 1000000) := by intro x y; have := HII.out x y; rw [HJ.out] at this; omega
      have HSH : Hid (∀ i, i < qs.length → ca' < cb' → J (fr qs i).1 ((fr qs i).1 + cb' - ca' - 1) * q2 < T2 * q1) := by intro i hi hl; have := hshort i hi hl; rw [HJ.out, ← hT2] at this; exact this
      rw [HJ.out, ← hT2] at hpart
      rw [← hT2] at HWT hw0 hw6
      have CSW := hidW (fun (W : World) (h : RdR W (.slice qa nb cq) qs) => sWeight_any' qs T2 HWT.out (.slice qa nb cq) W h)
      have CQ := hidW (fun (x y : Int) (n : Nat) (W : World) (h : RdR W (.slice qa nb cq) qs) => sInsQ_c qs J (fun x y => (HIA.out x y).trans (HJ.out x y)) (.slice qa nb cq) x y n W h)
      have hTq := mul_in (a := T2) (b := q1) (A := 1000000) (B := 1000000000) (by omega) (by omega) (by omega) (by omega)
      obtain ⟨TQ, hTQ⟩ : ∃ z, z = T2 * q1 := ⟨_, rfl⟩
      have hTQ' : T2 * q1 = TQ := hTQ.symm
      rw [hTQ'] at hpart hTq HSH
      obtain ⟨n4, hn4⟩ : ∃ z, z = J ca' cb' := ⟨_, rfl⟩
      have hn4b := HJB.out ca' cb'
      have EN4 := hidW hn4
      rw [← hn4] at hpart hn4b
      have hnq := mul_in (a := n4) (b := q2) (A := 1000000) (B := 1000000000) (by omega) (by omega) (by omega) (by omega)
      obtain ⟨NQ, hNQ⟩ : ∃ z, z = n4 * q2 := ⟨_, rfl⟩
      have hNQ' : n4 * q2 = NQ := hNQ.symm
      rw [hNQ'] at hpart hnq
      have d1 : decide (NQ < TQ) = false := decide_eq_false (by omega)
      have d2 : decide (cb' < ca') = false := decide_eq_false (by omega)
      clear hT2 hJ hP hok hshort hTQ hn4 hNQ HII HIA HJ
      go_wp2_with fail
      refine (CSW.out _ RS.out).mono ?_
      rintro e w21 ⟨rfl, hb⟩
      replace RL := hidW (RL.out.below hb)
      replace RS := hidW (RS.out.below hb)
      replace ZQ := hidW (ZQ.out.below hb)
      replace BB := hidW (BB.out.trans (hb.mono BB.out.size))
      clear hb
      go_upto_region 14 with fail
      have z0 := ZQ.out.c0
      have z1 := ZQ.out.c1
      have CQ1 := hidW (fun n => CQ.out ca' cb' n _ RS.out)
      rw [← EN4.out] at CQ1
      go_quiet (with_reducible exact CQ1.out _)
      clear CQ1 z0 z1
      have R0 := hidW (RL.out.below (below_drewN (Below.refl _ _) nq))
      have R1 := hidW (RS.out.below (below_drewN (Below.refl _ _) nq))
      have R2 := hidW (ZQ.out.below (below_drewN (Below.refl _ _) nq))
      have R3 := hidW (below_drewN BB.out nq)
      clear RL RS ZQ BB
      have hqlen : Hid (nb = qs.length) := by obtain ⟨_, _, e, _⟩ := R1.out; cases e; rfl
      have HQL := hqlen
      have hq40 : nb ≤ 40 := by rw [hqlen.out]; exact l2
      go_wp2
      go_loopw [16] (fun i wr => ∃ k : Nat, k ≤ nb ∧ i = .int .i64 k ∧ Hid (RdR wr (.slice pa na ca) ps) ∧ Hid (RdR wr (.slice qa nb cq) qs) ∧ Hid (IsR wr Q q1 q2) ∧ Hid (Below w.heap.size w wr)) (fun i _ => nb - (intOf i).toNat)
      case atStart => exact ⟨0, Nat.zero_le _, rfl, R0.out, R1.out, R2.out, R3.out⟩
      case round =>
        clear R0 R1 R2 R3
        obtain ⟨k, hk, rfl, RL, RS, ZQ, BB⟩ := hrel
        by_cases hlt : k < nb
        · have hlt2 : k < qs.length := by rw [← HQL.out]; exact hlt
          by_cases hc : ca' < cb'
          case neg =>
            have d3 : decide (ca' < cb') = false := decide_eq_false hc
            go_upto_region 19 with fail
            go_quiet (fail)
            go_wp2
            go_roundw
            case rel => exact ⟨k + 1, by omega, by go_num, RL.out.below (below_drewN (Below.refl _ _) _), RS.out.below (below_drewN (Below.refl _ _) _), ZQ.out.below (below_drewN (Below.refl _ _) _), below_drewN BB.out _⟩
            case measure => simp [intOf]; omega
          have d3 : decide (ca' < cb') = true := decide_eq_true hc
          have z0 := ZQ.out.c0
          have z1 := ZQ.out.c1
          have hsh := HSH.out k hlt2 hc
          have hat := HAT.out k hlt2
          have hrd := RS.out
          obtain ⟨a9, c9, e9, -, -, -, h9⟩ := hrd
          obtain ⟨b9, o9, rfl, c1, -⟩ := h9 k hlt2
          cases e9
          clear h9
          obtain ⟨x, hx⟩ : ∃ x, x = (fr qs k).1 := ⟨_, rfl⟩
          rw [← hx] at hsh hat c1
          obtain ⟨n5, hn5⟩ : ∃ z, z = J x (x + cb' - ca' - 1) := ⟨_, rfl⟩
          have hn5b := HJB.out x (x + cb' - ca' - 1)
          have CQ1 := hidW (fun n => CQ.out x (x + cb' - ca' - 1) n _ RS.out)
          rw [← hn5] at hsh hn5b CQ1
          have hnq5 := mul_in (a := n5) (b := q2) (A := 1000000) (B := 1000000000) (by omega) (by omega) (by omega) (by omega)
          obtain ⟨NQ5, hNQ5⟩ : ∃ z, z = n5 * q2 := ⟨_, rfl⟩
          have hNQ5' : n5 * q2 = NQ5 := hNQ5.symm
          rw [hNQ5'] at hsh hnq5
          have d5 : decide (TQ ≤ NQ5) = false := decide_eq_false (by omega)
          clear hx hn5 hNQ5
          go_upto_region 19 with fail
          go_quiet (with_reducible exact CQ1.out _)
          go_wp2
          go_roundw
          case rel => exact ⟨k + 1, by omega, by go_num, RL.out.below (below_drewN (Below.refl _ _) _), RS.out.below (below_drewN (Below.refl _ _) _), ZQ.out.below (below_drewN (Below.refl _ _) _), below_drewN BB.out _⟩
          case measure => simp [intOf]; omega
        · obtain rfl : k = nb := by omega
          go_wp2
          go_meet
          case rel => exact ⟨RL.out, RS.out, ZQ.out, BB.out⟩
    case rest =>
      clear RL RS ZQ BB EIS ECA ECB EN
      obtain ⟨RL, -, -, BB⟩ := hcut
      obtain ⟨w30, hw30⟩ : ∃ u, u = wc := ⟨_, rfl⟩
      rw [← hw30] at RL BB ⊢
      clear hw30
      have CSM := hidW (fun (W : World) (h : RdR W (.slice pa na ca) ps) => sMean_any _ ps W h)
      have CSV := hidW (fun (W : World) (h : RdR W (.slice pa na ca) ps) => sVary_any _ ps W h)
      obtain ⟨⟨m1, m2⟩, hm⟩ : ∃ z, z = menA ps := ⟨_, rfl⟩
      obtain ⟨one, hone⟩ : ∃ z, z = menO ps := ⟨_, rfl⟩
      obtain ⟨⟨v1, v2⟩, hv⟩ : ∃ z, z = vryA ps := ⟨_, rfl⟩
      obtain ⟨two, htwo⟩ : ∃ z, z = vryO ps := ⟨_, rfl⟩
      rw [← hm, ← hone] at CSM
      rw [← hv, ← htwo] at CSV
      dsimp only at CSM CSV
      have EM := hidW hm
      have EO := hidW hone
      have EV := hidW hv
      have EW := hidW htwo
      clear hm hone hv htwo
      go_wp2_with fail
      refine (CSM.out _ RL.out).mono ?_
      rintro e w31 ⟨rfl, hb⟩
      replace RL := hidW (RL.out.below hb)
      replace BB := hidW (BB.out.trans (hb.mono BB.out.size))
      clear hb
      have hb := b0_c w31 (.cells #[.int .i64 m1, .int .i64 m2] 29)
      go_upto_region 22 with fail
      obtain ⟨Y31, hY⟩ : ∃ Y, Y = w31.alloc (.cells #[.int .i64 m1, .int .i64 m2] 29) := ⟨_, rfl⟩
      obtain ⟨Mb, hF⟩ : ∃ F, F = w31.heap.size := ⟨_, rfl⟩
      have ZM : Hid (IsR Y31 Mb m1 m2) := by show IsR _ _ _ _; rw [hY, hF]; exact IsR.new _ _ _
      rw [← hY] at hb
      rw [← hY, ← hF]
      clear hY hF
      replace RL := hidW (RL.out.below hb)
      replace BB := hidW (BB.out.trans (hb.mono BB.out.size))
      clear hb
      go_wp2_with fail
      refine (CSV.out _ RL.out).mono ?_
      rintro e w32 ⟨rfl, hb⟩
      replace RL := hidW (RL.out.below hb)
      replace ZM := hidW (ZM.out.below hb)
      replace BB := hidW (BB.out.trans (hb.mono BB.out.size))
      clear hb
      have hb := b0_c w32 (.cells #[.int .i64 v1, .int .i64 v2] 29)
      go_upto_region 23 with fail
      obtain ⟨Y32, hY⟩ : ∃ Y, Y = w32.alloc (.cells #[.int .i64 v1, .int .i64 v2] 29) := ⟨_, rfl⟩
      obtain ⟨Vb, hF⟩ : ∃ F, F = w32.heap.size := ⟨_, rfl⟩
      have ZV : Hid (IsR Y32 Vb v1 v2) := by show IsR _ _ _ _; rw [hY, hF]; exact IsR.new _ _ _
      rw [← hY] at hb
      rw [← hY, ← hF]
      clear hY hF
      replace RL := hidW (RL.out.below hb)
      replace ZM := hidW (ZM.out.below hb)
      replace BB := hidW (BB.out.trans (hb.mono BB.out.size))
      clear hb
      have z0 := ZV.out.c0
      have z1 := ZV.out.c1
      have HRET : Hid (∀ (b c : Bool), (b || c) = (b || c)) := fun _ _ => rfl
      clear HRET
      cases one
      · go_wp2
        go_ret
        exact ⟨rfl, BB.out⟩
      cases two
      · go_wp2
        go_ret
        exact ⟨rfl, BB.out⟩
      have hmr := men_right EO.out.symm
      have hvr := vry_right EW.out.symm
      obtain ⟨⟨⟨l1, l2⟩, hP, hw6⟩, hok⟩ := hmr
      rw [← EM.out] at hok
      rw [← EV.out] at hvr
      obtain ⟨k1, k2, k3, k4, -⟩ := okB_out hok
      obtain ⟨k5, k6, k7, k8, -⟩ := okB_out hvr
      dsimp only at k1 k2 k3 k4 k5 k6 k7 k8
      have HWT : Hid (wgtA ps = wtS ps ps.length) := if_pos (sprB_of ⟨⟨l1, l2⟩, hP, hw6⟩)
      have HCH : Hid (∀ t : Int, 0 ≤ t → farS ps (offP ps m1 m2 t) ps.length * t * t * v2 ≤ wtS ps ps.length * v1) := by
        intro t ht
        have := cheb_told EO.out.symm EW.out.symm ht
        rw [← EM.out, ← EV.out] at this
        exact this
      have HP := hidW hP
      obtain ⟨W, hW⟩ : ∃ z, z = wtS ps ps.length := ⟨_, rfl⟩
      have hw0 := (wtS_in hP).1
      have HFB : Hid (∀ t : Int, 0 ≤ farS ps (offP ps m1 m2 t) ps.length ∧ farS ps (offP ps m1 m2 t) ps.length ≤ W) := by intro t; rw [hW]; exact farS_in hP
      have HFK : Hid (∀ (t : Int) (k : Nat), k ≤ ps.length → 0 ≤ farS ps (offP ps m1 m2 t) k ∧ farS ps (offP ps m1 m2 t) k ≤ W) := by
        intro t k hk
        have h1 := farS_in (c := offP ps m1 m2 t) (k := k) (fun j hj => hP j (by omega))
        have h2 := wtS_mono (n := ps.length) hP hk
        rw [hW]; omega
      rw [← hW] at HWT hw0 hw6 HCH
      have CSW := hidW (fun (u : World) (h : RdR u (.slice pa na ca) ps) => sWeight_any' ps W HWT.out (.slice pa na ca) u h)
      have CQW := hidW (fun (n : Nat) (u : World) (h : RdR u (.slice pa na ca) ps) => sWgtQ_c ps W HWT.out (.slice pa na ca) n u h)
      clear hP hok hvr hW CSM CSV EM EO EV EW z0 z1
      go_wp2_with fail
      refine (CSW.out _ RL.out).mono ?_
      rintro e w33 ⟨rfl, hb⟩
      replace RL := hidW (RL.out.below hb)
      replace ZM := hidW (ZM.out.below hb)
      replace ZV := hidW (ZV.out.below hb)
      replace BB := hidW (BB.out.trans (hb.mono BB.out.size))
      clear hb
      have z0 := ZV.out.c0
      have z1 := ZV.out.c1
      by_cases g1 : 5000 < W
      · have d1 : decide (5000 < W) = true := decide_eq_true g1
        go_wp2
        go_ret
        exact ⟨rfl, BB.out⟩
      have d1 : decide (5000 < W) = false := decide_eq_false g1
      by_cases g2 : 100000000 < v2
      · have d2 : decide (100000000 < v2) = true := decide_eq_true g2
        go_wp2
        go_ret
        exact ⟨rfl, BB.out⟩
      have d2 : decide (100000000 < v2) = false := decide_eq_false g2
      by_cases g3 : 100000000 < v1
      · have d3 : decide (100000000 < v1) = true := decide_eq_true g3
        go_wp2
        go_ret
        exact ⟨rfl, BB.out⟩
      have d3 : decide (100000000 < v1) = false := decide_eq_false g3
      have R0 := RL
      have R1 := ZM
      have R2 := ZV
      have R3 := BB
      clear RL ZM ZV BB
      have hqlen : Hid (na = ps.length) := by obtain ⟨_, _, e, _⟩ := R0.out; cases e; rfl
      have HQL := hqlen
      have hq40 : na ≤ 40 := by rw [hqlen.out]; exact l2
      have hWv := mul_in (a := W) (b := v1) (A := 5000) (B := 1000000000) (by omega) (by omega) (by omega) (by omega)
      obtain ⟨WV, hWV⟩ : ∃ z, z = W * v1 := ⟨_, rfl⟩
      have hWV' : W * v1 = WV := hWV.symm
      rw [hWV'] at hWv HCH
      clear hWV hqlen
      go_wp2
      clear z0 z1
      go_loopw [21] (fun t wr => ∃ k : Nat, 1 ≤ k ∧ k ≤ 13 ∧ t = .int .i64 k ∧ Hid (RdR wr (.slice pa na ca) ps) ∧ Hid (IsR wr Mb m1 m2) ∧ Hid (IsR wr Vb v1 v2) ∧ Hid (Below w.heap.size w wr)) (fun t _ => 13 - (intOf t).toNat)
      case atStart => exact ⟨1, by omega, by omega, rfl, R0.out, R1.out, R2.out, R3.out⟩
      case round =>
        clear R0 R1 R2 R3
        obtain ⟨t, ht1, ht2, rfl, RL, ZM, ZV, BB⟩ := hrel
        by_cases hlt : t < 13
        · have ht12 : (t : Int) ≤ 12 := by omega
          have d4 : decide ((t : Int) ≤ 12) = true := decide_eq_true ht12
          obtain ⟨F, hF⟩ : ∃ F, F = farS ps (offP ps m1 m2 t) := ⟨_, rfl⟩
          have HF0 : Hid (F 0 = 0) := by show _ = _; rw [hF]; rfl
          have HFY : Hid (∀ k, offP ps m1 m2 t k → F (k + 1) = F k + (fr ps k).2) := by intro k h; rw [hF]; exact if_pos h
          have HFN : Hid (∀ k, ¬ offP ps m1 m2 t k → F (k + 1) = F k) := by intro k h; rw [hF]; exact if_neg h
          have HFC : Hid (F na * t * t * v2 ≤ WV) := by show _ ≤ _; rw [hF, HQL.out]; exact HCH.out t (by omega)
          have HFI : Hid (∀ k, k ≤ na → 0 ≤ F k ∧ F k ≤ W) := by intro k hk; rw [hF]; exact HFK.out t k (by rw [← HQL.out]; exact hk)
          have htm := mul_in (a := (t : Int)) (b := m2) (A := 12) (B := 1000000000) (by omega) (by omega) (by omega) (by omega)
          obtain ⟨TM, hTM⟩ : ∃ z, z = (t : Int) * m2 := ⟨_, rfl⟩
          have hTM' : (t : Int) * m2 = TM := hTM.symm
          rw [hTM'] at htm
          clear hF hTM
          have S0 := RL
          have S1 := ZM
          have S2 := ZV
          have S3 := BB
          clear RL ZM ZV BB
          go_wp2
          go_loopw [22, 23] (fun f i wr => ∃ k : Nat, k ≤ na ∧ i = .int .i64 k ∧ f = .int .i64 (F k) ∧ Hid (RdR wr (.slice pa na ca) ps) ∧ Hid (IsR wr Mb m1 m2) ∧ Hid (IsR wr Vb v1 v2) ∧ Hid (Below w.heap.size w wr)) (fun _ i _ => na - (intOf i).toNat)
          case atStart => exact ⟨0, Nat.zero_le _, rfl, by rw [HF0.out], S0.out, S1.out, S2.out, S3.out⟩
          case round =>
            clear S0 S1 S2 S3
            obtain ⟨k, hk, rfl, rfl, RL, ZM, ZV, BB⟩ := hrel
            have hfi := HFI.out k hk
            by_cases hlk : k < na
            · have hlk2 : k < ps.length := by rw [← HQL.out]; exact hlk
              have hp1 := (HP.out k hlk2).1
              have hp2 := (HP.out k hlk2).2.1
              have hfj := HFI.out (k + 1) (by omega)
              have hrd := RL.out
              obtain ⟨a9, c9, e9, -, -, -, h9⟩ := hrd
              obtain ⟨b9, o9, rfl, c1, c2⟩ := h9 k hlk2
              cases e9
              clear h9
              obtain ⟨p, hp⟩ : ∃ p, p = fr ps k := ⟨_, rfl⟩
              have HQ := hidW hp
              rw [← hp] at c1 c2 hp1 hp2
              obtain ⟨x, y⟩ := p
              dsimp only at c1 c2 hp1 hp2
              have hxm := mul_in (a := x) (b := m2) (A := 1000) (B := 1000000000) (by omega) (by omega) (by omega) (by omega)
              obtain ⟨XM, hXM⟩ : ∃ z, z = x * m2 := ⟨_, rfl⟩
              have hXM' : x * m2 = XM := hXM.symm
              rw [hXM'] at hxm
              have HOF : Hid (offP ps m1 m2 t k ↔ (TM ≤ XM - m1 ∨ TM ≤ m1 - XM)) := by
                unfold offP
                rw [← HQ.out]
                show (((t : Int) * m2 ≤ x * m2 - m1 ∨ (t : Int) * m2 ≤ m1 - x * m2) ↔ _)
                rw [hXM', hTM']
              obtain ⟨f, hf⟩ : ∃ z, z = F k := ⟨_, rfl⟩
              have HFF := hidW hf
              rw [← hf] at hfi ⊢
              have z0 := ZM.out.c0
              have z1 := ZM.out.c1
              have B0 := BB
              clear hp hXM hf
              go_upto_region 32 with fail
              go_quiet (fail)
              clear z0 z1 c1
              obtain ⟨wz, hwz⟩ : ∃ u, u = wr.drewN nq := ⟨_, rfl⟩
              have hb : Below wr.heap.size wr wz := by rw [hwz]; exact below_drewN (Below.refl _ _) _
              rw [← hwz]
              replace c2 := cell_keep hb c2
              replace RL := hidW (RL.out.below hb)
              replace ZM := hidW (ZM.out.below hb)
              replace ZV := hidW (ZV.out.below hb)
              replace BB := hidW (BB.out.trans (hb.mono BB.out.size))
              have z1 := ZM.out.c1
              clear hb hwz B0
              by_cases gd : XM - m1 < 0
              · have e1 : decide (XM - m1 < 0) = true := decide_eq_true gd
                by_cases go : TM ≤ m1 - XM
                · have e2 : decide (TM ≤ m1 - XM) = true := decide_eq_true go
                  have e3 : decide (TM ≤ -(XM - m1)) = true := decide_eq_true (by omega)
                  have HN : Hid (F (k + 1) = f + y) := by show _ = _; rw [HFY.out k (HOF.out.2 (.inr go)), ← HFF.out, ← HQ.out]
                  have hn2 : f + y ≤ 5000 := by rw [HN.out] at hfj; omega
                  go_wp2
                  go_roundw
                  case rel => exact ⟨k + 1, by omega, by go_num, by rw [HN.out], RL.out, ZM.out, ZV.out, BB.out⟩
                  case measure => simp [intOf]; omega
                · have e2 : decide (TM ≤ m1 - XM) = false := decide_eq_false go
                  have e3 : decide (TM ≤ -(XM - m1)) = false := decide_eq_false (by omega)
                  have HN : Hid (F (k + 1) = f) := by show _ = _; rw [HFN.out k (fun z => by rcases HOF.out.1 z with z | z <;> omega), ← HFF.out]
                  go_wp2
                  go_roundw
                  case rel => exact ⟨k + 1, by omega, by go_num, by rw [HN.out], RL.out, ZM.out, ZV.out, BB.out⟩
                  case measure => simp [intOf]; omega
              · have e1 : decide (XM - m1 < 0) = false := decide_eq_false gd
                by_cases go : TM ≤ XM - m1
                · have e2 : decide (TM ≤ XM - m1) = true := decide_eq_true go
                  have HN : Hid (F (k + 1) = f + y) := by show _ = _; rw [HFY.out k (HOF.out.2 (.inl go)), ← HFF.out, ← HQ.out]
                  have hn2 : f + y ≤ 5000 := by rw [HN.out] at hfj; omega
                  go_wp2
                  go_roundw
                  case rel => exact ⟨k + 1, by omega, by go_num, by rw [HN.out], RL.out, ZM.out, ZV.out, BB.out⟩
                  case measure => simp [intOf]; omega
                · have e2 : decide (TM ≤ XM - m1) = false := decide_eq_false go
                  have HN : Hid (F (k + 1) = f) := by show _ = _; rw [HFN.out k (fun z => by rcases HOF.out.1 z with z | z <;> omega), ← HFF.out]
                  go_wp2
                  go_roundw
                  case rel => exact ⟨k + 1, by omega, by go_num, by rw [HN.out], RL.out, ZM.out, ZV.out, BB.out⟩
                  case measure => simp [intOf]; omega
            · obtain rfl : k = na := by omega
              have hfc := HFC.out
              obtain ⟨f, hf⟩ : ∃ z, z = F k := ⟨_, rfl⟩
              rw [← hf] at hfi hfc ⊢
              have p1 := mul_in (a := f) (b := (t : Int)) (A := 5000) (B := 12) (by omega) (by omega) (by omega) (by omega)
              obtain ⟨A1, hA1⟩ : ∃ z, z = f * (t : Int) := ⟨_, rfl⟩
              have hA1' : f * (t : Int) = A1 := hA1.symm
              rw [hA1'] at hfc p1
              have p2 := mul_in (a := A1) (b := (t : Int)) (A := 60000) (B := 12) (by omega) (by omega) (by omega) (by omega)
              obtain ⟨A2, hA2⟩ : ∃ z, z = A1 * (t : Int) := ⟨_, rfl⟩
              have hA2' : A1 * (t : Int) = A2 := hA2.symm
              rw [hA2'] at hfc p2
              have p3 := mul_in (a := A2) (b := v2) (A := 720000) (B := 100000000) (by omega) (by omega) (by omega) (by omega)
              obtain ⟨A3, hA3⟩ : ∃ z, z = A2 * v2 := ⟨_, rfl⟩
              have hA3' : A2 * v2 = A3 := hA3.symm
              rw [hA3'] at hfc p3
              have e1 : decide (WV < A3) = false := decide_eq_false (by omega)
              have z0 := ZV.out.c0
              have z1 := ZV.out.c1
              have CQ1 := hidW (fun n => CQW.out n _ RL.out)
              clear hf hA1 hA2 hA3
              go_upto_region 37 with fail
              go_quiet (with_reducible exact CQ1.out _)
              go_wp2
              go_roundw
              case rel => exact ⟨t + 1, by omega, by omega, by go_num, RL.out.below (below_drewN (Below.refl _ _) _), ZM.out.below (below_drewN (Below.refl _ _) _), ZV.out.below (below_drewN (Below.refl _ _) _), below_drewN BB.out _⟩
              case measure => simp [intOf]; omega
        · obtain rfl : t = 13 := by omega
          go_wp2
          go_ret
          exact ⟨rfl, BB.out⟩
end Go.Proofs.Ytaaefebjjjfgbaa
