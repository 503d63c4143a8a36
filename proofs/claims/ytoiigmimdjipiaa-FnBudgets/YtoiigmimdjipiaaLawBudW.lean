/- The law of budgets walked: parts make the variance, what is carried is a cover, carried twice is carried once, and no variance of alone inputs is below 0. -/
import Derived.Test.YtoiigmimdjipiaaPk2
import Derived.Deep.RegionLaw
import Derived.BigQuiet
namespace Go.Proofs.Ytoiigmimdjipiaa
open Go.RowKit Go.Proofs.Ytoiigmimdjipiaa.RM

theorem b0_any' (u : World) (o : Obj) : Below u.heap.size u (u.alloc o) := (Below.refl _ _).alloc (Nat.le_refl _) o
theorem aloneA_smallB (vs : List Fr) : (aloneA vs).length ≤ 1048576 ∧ ∀ i, i < (aloneA vs).length → (rw' (aloneA vs) i).length ≤ 1048576 := by
  cases h : aloneC vs
  · rw [aloneA_no h]
    exact ⟨by simp, fun i hi => absurd hi (Nat.not_lt_zero _)⟩
  · have h6 : vs.length ≤ 6 := by
      unfold aloneC at h
      rw [Bool.and_eq_true, decide_eq_true_eq] at h
      exact h.1.2
    rw [aloneA_yes h]
    have hl : (aloneT vs vs.length).length = vs.length := by simp [aloneT]
    rw [hl]
    refine ⟨by omega, fun i hi => ?_⟩
    have : rw' (aloneT vs vs.length) i = aloneR vs vs.length i := by simp [rw', aloneT, hi]
    rw [this, aloneR_len]; omega
theorem sAddB (x y : Fr) (w : World) :
    Calls Try.prog 21 #[.agg #[.int .i64 x.1, .int .i64 x.2], .agg #[.int .i64 y.1, .int .i64 y.2]] w fun e w' => e = .returned (.tuple #[.agg #[.int .i64 (addP x y).1, .int .i64 (addP x y).2], .bool (addK x y)]) ∧ Below w.heap.size w w' := sAdd_any x.1 x.2 y.1 y.2 w
theorem rdR_two {W : World} {a b c d : Int} : RdR (W.alloc (.cells #[.int .i64 a, .int .i64 b, .int .i64 c, .int .i64 d] 29)) (.slice (some ⟨W.heap.size, 0, none⟩) 2 2) [(a, b), (c, d)] := by
  refine ⟨some ⟨W.heap.size, 0, none⟩, 2, rfl, by unfold maxLen; simp, by simp, by unfold maxLen; omega, ?_⟩
  intro i hi
  have hi2 : i < 2 := hi
  obtain rfl | rfl : i = 0 ∨ i = 1 := by omega
  · exact ⟨_, 0, rfl, by simp [go_sem, fr], by simp [go_sem, fr]⟩
  · exact ⟨_, 0, rfl, by simp [go_sem, fr], by simp [go_sem, fr]⟩
theorem tab11 {W : World} {B : Nat} {v : Value} {us : List Value} {a : Fr} (h : Tab W B v us [[a]]) : ∃ g cc g0 c0, v = .slice (some ⟨g, 0, none⟩) 1 cc ∧ W.cell? ⟨g, 0, none⟩ = some (.slice (some ⟨g0, 0, none⟩) 1 c0) ∧ W.cell? ⟨g0, 0, none⟩ = some (.int .i64 a.1) ∧ W.cell? ⟨g0, 1, none⟩ = some (.int .i64 a.2) := by
  have hl : us.length = 1 := h.len
  have h0 := h.outer
  rw [hl] at h0
  obtain ⟨g, cc, rfl, _⟩ := World.ownsRow.form h0 (by omega)
  have i0 := h.inner 0 (by omega)
  obtain ⟨g0, c0, e0, _⟩ := World.ownsRow.form i0 (by show 0 < 1; omega)
  have k0 := h0.cellAt 0 (by omega)
  rw [List.getElem?_eq_getElem (by omega), show us[0]'(by omega) = vl us 0 by simp [vl, List.getElem?_eq_getElem (show 0 < us.length by omega)], e0] at k0
  rw [e0] at i0
  exact ⟨g, cc, g0, c0, rfl, k0, i0.cellAt 0 (by show 0 < 1 * 2; omega), i0.cellAt 1 (by show 1 < 1 * 2; omega)⟩
theorem part_sm {n d : Int} (h : okB n d = true) (h0 : -6 ≤ n) (h1 : n ≤ 6) (h2 : 1 ≤ d) (h3 : d ≤ 4) : Sm (n, d) 6 4 := ⟨h, h0, h1, h2, h3⟩
theorem two_sm {A B : Int} {x y : Fr} (hx : Sm x A B) (hy : Sm y A B) : ∀ i, i < 2 → Sm (fr [x, y] i) A B := by
  intro i hi
  obtain rfl | rfl : i = 0 ∨ i = 1 := by omega
  · exact hx
  · exact hy
theorem whole_smB {n : Int} (h0 : 0 ≤ n) (h1 : n ≤ 8) : Sm (n, 1) 8 1 := ⟨okB_whole (by omega) (by omega), by show -8 ≤ n; omega, h1, by show (1 : Int) ≤ 1; omega, by show (1 : Int) ≤ 1; omega⟩

set_option maxRecDepth 100000 in
set_option maxHeartbeats 16000000 in
theorem lawBud (a : Option Addr) (len cap : Nat) (zs : List Int) (w : World) (hr : IsRow .u8 w a len cap zs) :
    Calls Try.prog 3 #[.slice a len cap] w fun e w' => e = .returned (.bool true) ∧ Below w.heap.size w w' := by
  obtain ⟨i0, hi, hz0, hz1, hz2⟩ := info_parts infoF
  obtain ⟨t0, hti, htz0, htz1, htz2⟩ := info_parts infoT
  have HR := hidW8 hr
  have HBIG := hidW8 (fun W => big_any a len cap W)
  by_cases hbig : 4096 < (len : Int)
  · have HBG : Hid (decide (4096 < (len : Int)) = true) := decide_eq_true hbig
    rw [HBG.out] at HBIG
    go_enter Try.func3, Try.ntmps3
    go_wp2_with fail
    refine (HBIG.out _).mono ?_
    rintro e w1 ⟨rfl, rfl⟩
    go_wp2
    go_ret
    exact ⟨rfl, Below.refl _ _⟩
  have HBG : Hid (decide (4096 < (len : Int)) = false) := decide_eq_false hbig
  have hlen : len ≤ 4096 := by omega
  rw [HBG.out] at HBIG
  have HPK : Hid (∀ (s n : Int) (W : World), 0 ≤ s → s ≤ 1000 → 0 < n → Below w.heap.size w W → Calls Try.prog 23 #[.slice a len cap, .int .i64 s, .int .i64 n] W fun e w' => e = .returned (.int .i64 (pickV len zs s n)) ∧ Below W.heap.size W w') := fun s n W h0 h1 h2 hW => pickV_any a len cap zs s n W (HR.out.below hW) hlen h0 h1 h2
  have HPT : Hid (∀ (s : Int) (W : World), 0 ≤ s → s ≤ 900 → Below w.heap.size w W → Calls Try.prog 22 #[.slice a len cap, .int .i64 s] W fun e w' => ∃ n d : Int, e = .returned (.agg #[.int .i64 n, .int .i64 d]) ∧ okB n d = true ∧ -6 ≤ n ∧ n ≤ 6 ∧ 1 ≤ d ∧ d ≤ 4 ∧ Below W.heap.size W w') := fun s W h0 h1 hW => part_any a len cap zs s W (HR.out.below hW) hlen h0 h1
  clear hr hbig
  go_enter Try.func3, Try.ntmps3
  go_wp2_with fail
  refine (HBIG.out _).mono ?_
  rintro e w0 ⟨rfl, hw⟩
  have hw2 := hw.symm
  subst hw2
  clear hw HBIG HBG
  go_wp2_with fail
  refine (dVar_any a len cap zs _ HR.out).mono ?_
  rintro e w1 ⟨va, vm, ps, rows, rfl, f1, f2, lp, lr, hb⟩
  have BB := hidW8 hb
  have RA := hidW8 f1
  have RM := hidW8 f2
  obtain ⟨pa, na, ca, rfl⟩ : ∃ a n c, va = .slice a n c := by obtain ⟨a, c, rfl, _⟩ := f1; exact ⟨a, _, c, rfl⟩
  obtain ⟨pm, nm, cm, rfl⟩ : ∃ a n c, vm = .slice a n c := by obtain ⟨a, c, rfl, _⟩ := f2; exact ⟨a, _, c, rfl⟩
  clear hb f1 f2
  have CIV := hidW8 (fun (W : World) (h1 : RdR W (.slice pa na ca) ps) (h2 : RdT W (.slice pm nm cm) rows) => iVar_any _ _ ps rows W h1 h2)
  have CSV := hidW8 (fun (W : World) (h1 : RdR W (.slice pa na ca) ps) (h2 : RdT W (.slice pm nm cm) rows) => sVar_any _ _ ps rows W h1 h2)
  have CIP := hidW8 (fun (W : World) (h1 : RdR W (.slice pa na ca) ps) (h2 : RdT W (.slice pm nm cm) rows) => iParts_any _ _ ps rows W h1 h2)
  have CSP := hidW8 (fun (W : World) (h1 : RdR W (.slice pa na ca) ps) (h2 : RdT W (.slice pm nm cm) rows) => sParts_any _ _ ps rows W h1 h2)
  have CIC := hidW8 (fun (W : World) (h2 : RdT W (.slice pm nm cm) rows) => iCov_any _ rows W h2)
  have CSC := hidW8 (fun (W : World) (h2 : RdT W (.slice pm nm cm) rows) => sCov_any _ rows W h2)
  obtain ⟨⟨v1, v2⟩, hv⟩ : ∃ z, z = varA ps rows := ⟨_, rfl⟩
  obtain ⟨is, his⟩ : ∃ z, z = varO ps rows := ⟨_, rfl⟩
  obtain ⟨P, hP⟩ : ∃ z, z = prtA ps rows := ⟨_, rfl⟩
  obtain ⟨po, hpo⟩ : ∃ z, z = prtO ps rows := ⟨_, rfl⟩
  obtain ⟨cq, hcq⟩ : ∃ z, z = covB rows := ⟨_, rfl⟩
  have EV := hidW8 hv
  have EI := hidW8 his
  have EP := hidW8 hP
  have EO := hidW8 hpo
  have HPL : Hid (P.length ≤ 1000) := by
    show _ ≤ _
    rw [hP]
    cases h : prtO ps rows
    · rw [prtA_no h]; simp
    · rw [prtA_yes h, prtV_len]; omega
  rw [← hv, ← his] at CIV CSV
  rw [← hP, ← hpo] at CIP CSP
  rw [← hcq] at CIC CSC
  dsimp only at CIV CSV
  clear hv his hP hpo hcq
  have x1 : (is != is) = false := by simp
  have x2 : (v1 != v1) = false := by simp
  have x3 : (v2 != v2) = false := by simp
  have x4 : (cq != cq) = false := by simp
  have x5 : (po != po) = false := by simp
  go_wp2_with fail
  refine (CIV.out _ RA.out RM.out).mono ?_
  rintro e w2 ⟨rfl, hb⟩
  replace RA := hidW8 (RA.out.below hb)
  replace RM := hidW8 (RM.out.below hb)
  replace BB := hidW8 (BB.out.trans (hb.mono BB.out.size))
  clear hb
  have hb := b0_any' w2 (.cells #[.int .i64 v1, .int .i64 v2] 29)
  go_upto_region 5 with fail
  obtain ⟨Y2, hY⟩ : ∃ Y, Y = w2.alloc (.cells #[.int .i64 v1, .int .i64 v2] 29) := ⟨_, rfl⟩
  obtain ⟨Vb, hF⟩ : ∃ F, F = w2.heap.size := ⟨_, rfl⟩
  have VB : Hid (IsR Y2 Vb v1 v2) := by show IsR _ _ _ _; rw [hY, hF]; exact IsR.new _ _ _
  rw [← hY] at hb
  rw [← hY, ← hF]
  clear hY hF
  replace RA := hidW8 (RA.out.below hb)
  replace RM := hidW8 (RM.out.below hb)
  replace BB := hidW8 (BB.out.trans (hb.mono BB.out.size))
  clear hb
  go_wp2_with fail
  refine (CIP.out _ RA.out RM.out).mono ?_
  rintro e w3 ⟨vp, rfl, f1, hb⟩
  replace RA := hidW8 (RA.out.below hb)
  replace RM := hidW8 (RM.out.below hb)
  replace VB := hidW8 (VB.out.below hb)
  replace BB := hidW8 (BB.out.trans (hb.mono BB.out.size))
  clear hb
  obtain ⟨pp, cp, rfl⟩ := own_shape f1
  have RP := hidW8 (RdR.own f1).1
  clear f1 CIP CIV
  go_wp2_with fail
  refine (dCarr_any a len cap zs _ (HR.out.below BB.out)).mono ?_
  rintro e w4 ⟨vs, vc, S, C, rfl, f1, f2, lS, lC, hb⟩
  replace RA := hidW8 (RA.out.below hb)
  replace RM := hidW8 (RM.out.below hb)
  replace VB := hidW8 (VB.out.below hb)
  replace RP := hidW8 (RP.out.below hb)
  replace BB := hidW8 (BB.out.trans (hb.mono BB.out.size))
  clear hb
  have RS := hidW8 f1
  have RC := hidW8 f2
  obtain ⟨qs, cs, rfl⟩ : ∃ a c, vs = .slice a S.length c := by obtain ⟨a, c, rfl, _⟩ := f1; exact ⟨a, c, rfl⟩
  clear f1 f2
  obtain ⟨T, hT⟩ : ∃ z, z = carA S C := ⟨_, rfl⟩
  obtain ⟨co, hco⟩ : ∃ z, z = carO S C := ⟨_, rfl⟩
  have ET := hidW8 hT
  have EC := hidW8 hco
  have CIA := hidW8 (fun (W : World) (h1 : RdT W (.slice qs S.length cs) S) (h2 : RdT W vc C) => iCar_any _ vc S C W h1 h2)
  have CSA := hidW8 (fun (W : World) (h1 : RdT W (.slice qs S.length cs) S) (h2 : RdT W vc C) => sCarried_any _ vc S C W h1 h2)
  rw [← hT, ← hco] at CIA CSA
  have HTS : Hid (T.length ≤ 1000 ∧ ∀ i, i < T.length → (rw' T i).length ≤ 1000) := by
    show _ ∧ _
    rw [hT]
    cases h : carO S C
    · rw [carA_no h]; exact ⟨by simp, fun i hi => absurd hi (Nat.not_lt_zero _)⟩
    · obtain ⟨l1, l2⟩ := car_shape h
      exact ⟨by omega, fun i hi => by rw [(l2 i (by omega)).1]; omega⟩
  have x6 : (co != co) = false := by simp
  clear hT hco
  go_wp2_with fail
  refine (CIA.out _ RS.out RC.out).mono ?_
  rintro e w5 ⟨vr, ur, rfl, f1, hb⟩
  replace RA := hidW8 (RA.out.below hb)
  replace RM := hidW8 (RM.out.below hb)
  replace VB := hidW8 (VB.out.below hb)
  replace RP := hidW8 (RP.out.below hb)
  replace RS := hidW8 (RS.out.below hb)
  replace RC := hidW8 (RC.out.below hb)
  replace BB := hidW8 (BB.out.trans (hb.mono BB.out.size))
  clear hb
  have RR := hidW8 f1.read
  clear f1 CIA
  go_wp2_with fail
  refine (dAlo_any a len cap zs _ (HR.out.below BB.out)).mono ?_
  rintro e w6 ⟨vq, lq, rfl, f1, ll, hb⟩
  replace RA := hidW8 (RA.out.below hb)
  replace RM := hidW8 (RM.out.below hb)
  replace VB := hidW8 (VB.out.below hb)
  replace RP := hidW8 (RP.out.below hb)
  replace RS := hidW8 (RS.out.below hb)
  replace RC := hidW8 (RC.out.below hb)
  replace RR := hidW8 (RR.out.below hb)
  replace BB := hidW8 (BB.out.trans (hb.mono BB.out.size))
  clear hb
  have RL := hidW8 f1
  clear f1
  go_wp2_with fail
  refine (CSV.out _ RA.out RM.out).mono ?_
  rintro e w7 ⟨rfl, hb⟩
  replace RA := hidW8 (RA.out.below hb)
  replace RM := hidW8 (RM.out.below hb)
  replace VB := hidW8 (VB.out.below hb)
  replace RP := hidW8 (RP.out.below hb)
  replace RS := hidW8 (RS.out.below hb)
  replace RC := hidW8 (RC.out.below hb)
  replace RR := hidW8 (RR.out.below hb)
  replace RL := hidW8 (RL.out.below hb)
  replace BB := hidW8 (BB.out.trans (hb.mono BB.out.size))
  clear hb
  have hb := b0_any' w7 (.cells #[.int .i64 v1, .int .i64 v2] 29)
  go_upto_region 10 with fail
  obtain ⟨Y7, hY⟩ : ∃ Y, Y = w7.alloc (.cells #[.int .i64 v1, .int .i64 v2] 29) := ⟨_, rfl⟩
  obtain ⟨Xb, hF⟩ : ∃ F, F = w7.heap.size := ⟨_, rfl⟩
  have XB : Hid (IsR Y7 Xb v1 v2) := by show IsR _ _ _ _; rw [hY, hF]; exact IsR.new _ _ _
  rw [← hY] at hb
  rw [← hY, ← hF]
  clear hY hF
  replace RA := hidW8 (RA.out.below hb)
  replace RM := hidW8 (RM.out.below hb)
  replace VB := hidW8 (VB.out.below hb)
  replace RP := hidW8 (RP.out.below hb)
  replace RS := hidW8 (RS.out.below hb)
  replace RC := hidW8 (RC.out.below hb)
  replace RR := hidW8 (RR.out.below hb)
  replace RL := hidW8 (RL.out.below hb)
  replace BB := hidW8 (BB.out.trans (hb.mono BB.out.size))
  clear hb
  have z0 := VB.out.c0
  have z1 := VB.out.c1
  have y0 := XB.out.c0
  have y1 := XB.out.c1
  go_wp2_with fail
  refine (CIC.out _ RM.out).mono ?_
  rintro e w8 ⟨rfl, hb⟩
  clear z0 z1 y0 y1
  replace RA := hidW8 (RA.out.below hb)
  replace RM := hidW8 (RM.out.below hb)
  replace VB := hidW8 (VB.out.below hb)
  replace RP := hidW8 (RP.out.below hb)
  replace RS := hidW8 (RS.out.below hb)
  replace RC := hidW8 (RC.out.below hb)
  replace RR := hidW8 (RR.out.below hb)
  replace RL := hidW8 (RL.out.below hb)
  replace XB := hidW8 (XB.out.below hb)
  replace BB := hidW8 (BB.out.trans (hb.mono BB.out.size))
  clear hb
  clear XB CSV
  go_wp2_with fail
  refine (CSC.out _ RM.out).mono ?_
  rintro e w9 ⟨rfl, hb⟩
  replace RA := hidW8 (RA.out.below hb)
  replace RM := hidW8 (RM.out.below hb)
  replace VB := hidW8 (VB.out.below hb)
  replace RP := hidW8 (RP.out.below hb)
  replace RS := hidW8 (RS.out.below hb)
  replace RC := hidW8 (RC.out.below hb)
  replace RR := hidW8 (RR.out.below hb)
  replace RL := hidW8 (RL.out.below hb)
  replace BB := hidW8 (BB.out.trans (hb.mono BB.out.size))
  clear hb
  clear CIC CSC
  go_wp2_with fail
  refine (iAlone_any vq lq _ RL.out).mono ?_
  rintro e w10 ⟨vn, un, rfl, f1, hb⟩
  replace RA := hidW8 (RA.out.below hb)
  replace RM := hidW8 (RM.out.below hb)
  replace VB := hidW8 (VB.out.below hb)
  replace RP := hidW8 (RP.out.below hb)
  replace RS := hidW8 (RS.out.below hb)
  replace RC := hidW8 (RC.out.below hb)
  replace RR := hidW8 (RR.out.below hb)
  replace RL := hidW8 (RL.out.below hb)
  replace BB := hidW8 (BB.out.trans (hb.mono BB.out.size))
  clear hb
  have T1 := hidW8 f1
  clear f1
  go_wp2_with fail
  refine (sAlone_any vq lq _ RL.out).mono ?_
  rintro e w11 ⟨vk, uk, rfl, f1, hb⟩
  replace RA := hidW8 (RA.out.below hb)
  replace RM := hidW8 (RM.out.below hb)
  replace VB := hidW8 (VB.out.below hb)
  replace RP := hidW8 (RP.out.below hb)
  replace RS := hidW8 (RS.out.below hb)
  replace RC := hidW8 (RC.out.below hb)
  replace RR := hidW8 (RR.out.below hb)
  replace RL := hidW8 (RL.out.below hb)
  replace T1 := hidW8 (T1.out.below hb)
  replace BB := hidW8 (BB.out.trans (hb.mono BB.out.size))
  clear hb
  have HAS := hidW8 (aloneA_smallB lq)
  have H4 := hidW8 (likeRows_rd vn vk (aloneA lq) w11 (by have := HAS.out.1; omega) (fun i hi => by have := HAS.out.2 i hi; omega) T1.out.read f1.read)
  clear f1
  go_wp2_with fail
  refine (H4.out).mono ?_
  rintro e w12 ⟨rfl, hb⟩
  replace RA := hidW8 (RA.out.below hb)
  replace RM := hidW8 (RM.out.below hb)
  replace VB := hidW8 (VB.out.below hb)
  replace RP := hidW8 (RP.out.below hb)
  replace RS := hidW8 (RS.out.below hb)
  replace RC := hidW8 (RC.out.below hb)
  replace RR := hidW8 (RR.out.below hb)
  replace RL := hidW8 (RL.out.below hb)
  replace T1 := hidW8 (T1.out.below hb)
  replace BB := hidW8 (BB.out.trans (hb.mono BB.out.size))
  clear hb
  clear T1 H4 HAS RL
  go_wp2_with fail
  refine (CSP.out _ RA.out RM.out).mono ?_
  rintro e w13 ⟨vp2, rfl, f1, hb⟩
  replace RA := hidW8 (RA.out.below hb)
  replace RM := hidW8 (RM.out.below hb)
  replace VB := hidW8 (VB.out.below hb)
  replace RP := hidW8 (RP.out.below hb)
  replace RS := hidW8 (RS.out.below hb)
  replace RC := hidW8 (RC.out.below hb)
  replace RR := hidW8 (RR.out.below hb)
  replace BB := hidW8 (BB.out.trans (hb.mono BB.out.size))
  clear hb
  have H5 := hidW8 (likeRow_rd _ vp2 P w13 (by have := HPL.out; omega) RP.out (RdR.own f1).1)
  clear f1 CSP
  go_wp2_with fail
  refine (H5.out).mono ?_
  rintro e w14 ⟨rfl, hb⟩
  replace RA := hidW8 (RA.out.below hb)
  replace RM := hidW8 (RM.out.below hb)
  replace VB := hidW8 (VB.out.below hb)
  replace RP := hidW8 (RP.out.below hb)
  replace RS := hidW8 (RS.out.below hb)
  replace RC := hidW8 (RC.out.below hb)
  replace RR := hidW8 (RR.out.below hb)
  replace BB := hidW8 (BB.out.trans (hb.mono BB.out.size))
  clear hb
  clear H5
  go_wp2_with fail
  refine (CSA.out _ RS.out RC.out).mono ?_
  rintro e w15 ⟨vr2, ur2, rfl, f1, hb⟩
  replace RA := hidW8 (RA.out.below hb)
  replace RM := hidW8 (RM.out.below hb)
  replace VB := hidW8 (VB.out.below hb)
  replace RP := hidW8 (RP.out.below hb)
  replace RS := hidW8 (RS.out.below hb)
  replace RC := hidW8 (RC.out.below hb)
  replace RR := hidW8 (RR.out.below hb)
  replace BB := hidW8 (BB.out.trans (hb.mono BB.out.size))
  clear hb
  have H6 := hidW8 (likeRows_rd vr vr2 T w15 (by have := HTS.out.1; omega) (fun i hi => by have := HTS.out.2 i hi; omega) RR.out f1.read)
  clear f1 CSA
  go_wp2_with fail
  refine (H6.out).mono ?_
  rintro e w20 ⟨rfl, hb⟩
  replace RA := hidW8 (RA.out.below hb)
  replace RM := hidW8 (RM.out.below hb)
  replace VB := hidW8 (VB.out.below hb)
  replace RP := hidW8 (RP.out.below hb)
  replace RS := hidW8 (RS.out.below hb)
  replace RC := hidW8 (RC.out.below hb)
  replace RR := hidW8 (RR.out.below hb)
  replace BB := hidW8 (BB.out.trans (hb.mono BB.out.size))
  clear hb
  clear H6 x1 x4 x5 x6
  go_upto_region 18 with fail
  go_cut [135] (fun s wx => s = .bool (is && po) ∧ wx = w20)
  case first =>
    cases is <;> cases po <;> (go_wp2; go_meet; exact ⟨rfl, rfl⟩)
  case rest =>
    obtain ⟨rfl, rfl⟩ := hcut
    obtain ⟨w20, hw20⟩ : ∃ u, u = wc := ⟨_, rfl⟩
    rw [← hw20] at RA RM VB RP RS RC RR BB ⊢
    clear hw20
    obtain ⟨bp, hbp⟩ : ∃ b, b = (is && po) := ⟨_, rfl⟩
    have HBP := hidW8 hbp
    rw [← hbp]
    clear hbp
    go_upto_if 135 with fail
    go_cut [20, 21, 22, 23, 24] (fun _ _ _ _ _ wx => Hid (RdR wx (.slice pa na ca) ps) ∧ Hid (RdT wx (.slice pm nm cm) rows) ∧ Hid (IsR wx Vb v1 v2) ∧ Hid (RdT wx (.slice qs S.length cs) S) ∧ Hid (RdT wx vc C) ∧ Hid (RdT wx vr T) ∧ Hid (Below w.heap.size w wx))
    case first => as_aux_lemma =>
      cases bp
      · go_wp2
        go_meet
        case rel => exact ⟨RA.out.below (Below.refl _ _), RM.out.below (Below.refl _ _), VB.out.below (Below.refl _ _), RS.out.below (Below.refl _ _), RC.out.below (Below.refl _ _), RR.out.below (Below.refl _ _), BB.out.trans ((Below.refl _ _).mono BB.out.size)⟩
      have HI : Hid (is = true ∧ po = true) := by have := HBP.out.symm; rw [Bool.and_eq_true] at this; exact this
      obtain ⟨rfl, rfl⟩ := HI.out
      go_wp2_with fail
      refine (wholeB_any 0 _).mono ?_
      rintro e w21 ⟨rfl, hb⟩
      have BZ := hb
      clear hb
      go_wp2
      obtain ⟨Sb, hSb⟩ : ∃ F, F = w21.heap.size := ⟨_, rfl⟩
      obtain ⟨Y, hY⟩ : ∃ Y, Y = w21.alloc (.cells #[.int .i64 0, .int .i64 1] 29) := ⟨_, rfl⟩
      obtain ⟨G, hG⟩ : ∃ G, G = addV P := ⟨_, rfl⟩
      have G0 : Hid (G 0 = ((0, 1), true)) := by show _ = _; rw [hG]; rfl
      have GS : Hid (∀ k, G (k + 1) = (addP (G k).1 (fr P k), (G k).2 && addK (G k).1 (fr P k))) := by intro k; rw [hG]; rfl
      have HG := hidW8 hG
      have S0 : IsR Y Sb (G 0).1.1 (G 0).1.2 := by rw [G0.out, hY, hSb]; exact IsR.new _ _ _
      have B0 : Below w20.heap.size w20 Y := by rw [hY]; exact BZ.trans ((b0_any' _ _).mono BZ.size)
      have hSw : w20.heap.size ≤ Sb := by rw [hSb]; exact BZ.size
      have HRP : Hid (∀ j, j < P.length → ∃ b off, pp = some ⟨b, off, none⟩ ∧ w20.cell? ⟨b, off + j * 2, none⟩ = some (.int .i64 (fr P j).1) ∧ w20.cell? ⟨b, off + j * 2 + 1, none⟩ = some (.int .i64 (fr P j).2)) := by
        obtain ⟨a', c', e, _, _, _, h5⟩ := RP.out
        cases e
        exact h5
      rw [← hY, ← hSb]
      clear hY hSb hG BZ
      go_loopw [21, 22] (fun q i wr => ∃ k : Nat, k ≤ P.length ∧ i = .int .i64 k ∧ q = .bool (G k).2 ∧ Hid (IsR wr Sb (G k).1.1 (G k).1.2) ∧ Hid (Below w20.heap.size w20 wr)) (fun _ i _ => P.length - (intOf i).toNat)
      case atStart => exact ⟨0, Nat.zero_le _, rfl, by rw [G0.out], S0, B0⟩
      case round =>
        clear S0 B0
        obtain ⟨k, hk, rfl, rfl, hS, hB⟩ := hrel
        by_cases hlt : k < P.length
        · obtain ⟨pb, pf, rfl, c1, c2⟩ := HRP.out k hlt
          have hpl := HPL.out
          have hlP := World.block_lt_of_cell? w20 _ c1
          dsimp only at hlP
          replace c1 := cell_keep hB.out c1
          replace c2 := cell_keep hB.out c2
          obtain ⟨s, hs⟩ : ∃ z, z = G k := ⟨_, rfl⟩
          obtain ⟨r, hrr⟩ : ∃ z, z = G (k + 1) := ⟨_, rfl⟩
          have HQ : Hid (G (k + 1) = r) := hrr.symm
          obtain ⟨y, hy⟩ : ∃ z, z = fr P k := ⟨_, rfl⟩
          rw [GS.out k, ← hs, ← hy] at hrr
          rw [← hs] at hS
          rw [← hy] at c1 c2
          have HSK := hidW8 hs
          have hso : (G k).2 = s.2 := by rw [hs]
          obtain ⟨⟨s1, s2⟩, so⟩ := s
          obtain ⟨y1, y2⟩ := y
          have HM := hidW8 (fun W => sAddB (s1, s2) (y1, y2) W)
          obtain ⟨⟨q1, q2⟩, hq⟩ : ∃ z, z = addP (s1, s2) (y1, y2) := ⟨_, rfl⟩
          obtain ⟨ao, hao⟩ : ∃ z, z = addK (s1, s2) (y1, y2) := ⟨_, rfl⟩
          rw [← hq, ← hao] at HM
          dsimp only at hrr
          rw [← hq, ← hao] at hrr
          have HRR := hidW8 hrr
          dsimp only at c1 c2 HM hso
          have SQ : IsR wr Sb s1 s2 := hS.out
          have BB2 : Below w20.heap.size w20 wr := hB.out
          clear hs hrr hy hq hao hS hB
          go_upto_region 24 with fail
          obtain ⟨Xr, hXr⟩ : ∃ u, u = wr := ⟨_, rfl⟩
          rw [← hXr] at c1 c2 SQ BB2 ⊢
          clear hXr
          have c3 := SQ.c0
          have c4 := SQ.c1
          have hXs := BB2.size
          have hlS := SQ.lt
          have hlX : pb < Xr.heap.size := by omega
          refine wp_region_noPanic ?_
          refine wp_region_held_drew (S := (fun w' => w'.cell? ⟨pb, pf + k * 2, none⟩ = some (.int .i64 y1) ∧ w'.cell? ⟨pb, pf + k * 2 + 1, none⟩ = some (.int .i64 y2) ∧ w'.cell? ⟨Sb, 0, none⟩ = some (.int .i64 s1) ∧ w'.cell? ⟨Sb, 1, none⟩ = some (.int .i64 s2))) (by kernel_rfl) ?_ (fun hHeld => ?_)
          · (try dsimp only)
            refine ⟨?_, ?_, ?_, ?_⟩ <;> (repeat (with_reducible (first | exact c1 | exact c2 | exact c3 | exact c4 | refine cell_dr ?_ | refine cell_al _ ?_ | refine cell_stb ?_ ?_ | (show _ ≠ _; omega))))
          refine wpAnyH_take (i := 0) (v := ?_) rfl (by kernel_rfl) (by kernel_rfl) (by kernel_rfl) (fun _ _ _ h => h) (Or.inl ⟨by kernel_rfl, ?_⟩) hHeld ?_
          rotate_left
          · intro wz hSw; (try dsimp only at hSw); go_simp; all_goals (try with_reducible rfl)
          (try simp only [List.getElem_toArray]); (try simp only [List.getElem_cons_succ]); (try simp only [List.getElem_cons_zero]); (try simp only [Act.put]); (try simp only [List.setIfInBounds_toArray]); (try simp only [List.set_cons_succ]); (try simp only [List.set_cons_zero])
          refine wpAnyH_take (i := 1) (v := ?_) rfl (by kernel_rfl) (by kernel_rfl) (by kernel_rfl) (fun _ _ _ h => h) (Or.inl ⟨by kernel_rfl, ?_⟩) hHeld ?_
          rotate_left
          · intro wz hSw; (try dsimp only at hSw); go_simp; all_goals (try with_reducible rfl)
          (try simp only [List.getElem_toArray]); (try simp only [List.getElem_cons_succ]); (try simp only [List.getElem_cons_zero]); (try simp only [Act.put]); (try simp only [List.setIfInBounds_toArray]); (try simp only [List.set_cons_succ]); (try simp only [List.set_cons_zero])
          refine wpAnyH_take (i := 2) (v := ?_) rfl (by kernel_rfl) (by kernel_rfl) (by kernel_rfl) (fun _ _ _ h => h) (Or.inl ⟨by kernel_rfl, ?_⟩) hHeld ?_
          rotate_left
          · intro wz hSw; (try dsimp only at hSw); go_simp; all_goals (try with_reducible rfl)
          (try simp only [List.getElem_toArray]); (try simp only [List.getElem_cons_succ]); (try simp only [List.getElem_cons_zero]); (try simp only [Act.put]); (try simp only [List.setIfInBounds_toArray]); (try simp only [List.set_cons_succ]); (try simp only [List.set_cons_zero])
          refine wpAnyH_take (i := 3) (v := ?_) rfl (by kernel_rfl) (by kernel_rfl) (by kernel_rfl) (fun _ _ _ h => h) (Or.inl ⟨by kernel_rfl, ?_⟩) hHeld ?_
          rotate_left
          · intro wz hSw; (try dsimp only at hSw); go_simp; all_goals (try with_reducible rfl)
          (try simp only [List.getElem_toArray]); (try simp only [List.getElem_cons_succ]); (try simp only [List.getElem_cons_zero]); (try simp only [Act.put]); (try simp only [List.setIfInBounds_toArray]); (try simp only [List.set_cons_succ]); (try simp only [List.set_cons_zero])
          refine wpAnyH_take (i := 4) (v := ?_) rfl (by kernel_rfl) (by kernel_rfl) (by kernel_rfl) (fun _ _ _ h => h) (Or.inl ⟨by kernel_rfl, ?_⟩) hHeld ?_
          rotate_left
          · intro wz hSw; (try dsimp only at hSw); go_simp; all_goals (try with_reducible rfl)
          (try simp only [List.getElem_toArray]); (try simp only [List.getElem_cons_succ]); (try simp only [List.getElem_cons_zero]); (try simp only [Act.put]); (try simp only [List.setIfInBounds_toArray]); (try simp only [List.set_cons_succ]); (try simp only [List.set_cons_zero])
          refine wpAnyH_ready (rs := [5, 9]) (by kernel_rfl) (by simp) (AllReadyH.cons rfl (fun Kc hKc => ?_) (AllReadyH.cons rfl (fun Kc hKc => ?_) AllReadyH.nil))
          · go_simp
            (go_at_call 21; refine (HM.out _).mono ?_; rintro e w2 ⟨rfl, hb2⟩)
            have hbd : Below Xr.heap.size Xr w2 := ((Below.refl _ _).drew).trans (hb2.mono (by simp))
            have c1 := cell_keep hbd c1
            have c2 := cell_keep hbd c2
            have c3 := cell_keep hbd c3
            have c4 := cell_keep hbd c4
            have S9 := SQ.below hbd
            have B9 := BB2.trans (hbd.mono BB2.size)
            have hsw := hbd.size
            clear hb2
            go_wp2_with fail
            refine hKc.out _ _ ?_ (fun hHeld => ?_)
            · (try dsimp only)
              refine ⟨?_, ?_, ?_, ?_⟩ <;> (repeat (with_reducible (first | exact c1 | exact c2 | exact c3 | exact c4 | refine cell_dr ?_ | refine cell_al _ ?_ | refine cell_stb ?_ ?_ | (show _ ≠ _; omega))))
            clear hKc Kc
            (try simp only [List.getElem_toArray]); (try simp only [List.getElem_cons_succ]); (try simp only [List.getElem_cons_zero]); (try simp only [Act.put]); (try simp only [List.setIfInBounds_toArray]); (try simp only [List.set_cons_succ]); (try simp only [List.set_cons_zero])
            refine wpAnyH_take (i := 6) (v := ?_) rfl (by kernel_rfl) (by kernel_rfl) (by kernel_rfl) (fun _ _ _ h => h) (Or.inl ⟨by kernel_rfl, ?_⟩) hHeld ?_
            rotate_left
            · intro wz hSw; (try dsimp only at hSw); go_simp; all_goals (try with_reducible rfl)
            (try simp only [List.getElem_toArray]); (try simp only [List.getElem_cons_succ]); (try simp only [List.getElem_cons_zero]); (try simp only [Act.put]); (try simp only [List.setIfInBounds_toArray]); (try simp only [List.set_cons_succ]); (try simp only [List.set_cons_zero])
            refine wpAnyH_take (i := 7) (v := ?_) rfl (by kernel_rfl) (by kernel_rfl) (by kernel_rfl) (fun _ _ _ h => h) (Or.inl ⟨by kernel_rfl, ?_⟩) hHeld ?_
            rotate_left
            · intro wz hSw; (try dsimp only at hSw); go_simp; all_goals (try with_reducible rfl)
            (try simp only [List.getElem_toArray]); (try simp only [List.getElem_cons_succ]); (try simp only [List.getElem_cons_zero]); (try simp only [Act.put]); (try simp only [List.setIfInBounds_toArray]); (try simp only [List.set_cons_succ]); (try simp only [List.set_cons_zero])
            refine wpAnyH_take (i := 8) (v := ?_) rfl (by kernel_rfl) (by kernel_rfl) (by kernel_rfl) (fun _ _ _ h => h) (Or.inl ⟨by kernel_rfl, ?_⟩) hHeld ?_
            rotate_left
            · intro wz hSw; (try dsimp only at hSw); go_simp; all_goals (try with_reducible rfl)
            (try simp only [List.getElem_toArray]); (try simp only [List.getElem_cons_succ]); (try simp only [List.getElem_cons_zero]); (try simp only [Act.put]); (try simp only [List.setIfInBounds_toArray]); (try simp only [List.set_cons_succ]); (try simp only [List.set_cons_zero])
            refine wpAnyH_ready (rs := [9]) (by kernel_rfl) (by simp) (AllReadyH.cons rfl (fun Kc hKc => ?_) AllReadyH.nil)
            go_simp
            refine hKc.out _ _ ?_ (fun hHeld => ?_)
            · (try dsimp only)
              refine ⟨?_, ?_, ?_, ?_⟩ <;> (repeat (with_reducible (first | exact c1 | exact c2 | exact c3 | exact c4 | refine cell_dr ?_ | refine cell_al _ ?_ | refine cell_stb ?_ ?_ | (show _ ≠ _; omega))))
            clear hKc Kc
            (try simp only [List.getElem_toArray]); (try simp only [List.getElem_cons_succ]); (try simp only [List.getElem_cons_zero]); (try simp only [Act.put]); (try simp only [List.setIfInBounds_toArray]); (try simp only [List.set_cons_succ]); (try simp only [List.set_cons_zero])
            refine wpAnyH_ready (rs := [10]) (by kernel_rfl) (by simp) (AllReadyH.cons rfl (fun Kc hKc => ?_) AllReadyH.nil)
            go_simp
            refine hKc.out _ _ ?_ (fun hHeld => ?_)
            · (try dsimp only)
              refine ⟨?_, ?_, ?_, ?_⟩ <;> (repeat (with_reducible (first | exact c1 | exact c2 | exact c3 | exact c4 | refine cell_dr ?_ | refine cell_al _ ?_ | refine cell_stb ?_ ?_ | (show _ ≠ _; omega))))
            clear hKc Kc
            (try simp only [List.getElem_toArray]); (try simp only [List.getElem_cons_succ]); (try simp only [List.getElem_cons_zero]); (try simp only [Act.put]); (try simp only [List.setIfInBounds_toArray]); (try simp only [List.set_cons_succ]); (try simp only [List.set_cons_zero])
            refine wpAnyH_take (i := 11) (v := ?_) rfl (by kernel_rfl) (by kernel_rfl) (by kernel_rfl) (fun _ _ _ h => h) (Or.inl ⟨by kernel_rfl, ?_⟩) hHeld ?_
            rotate_left
            · intro wz hSw; (try dsimp only at hSw); go_simp; all_goals (try with_reducible rfl)
            (try simp only [List.getElem_toArray]); (try simp only [List.getElem_cons_succ]); (try simp only [List.getElem_cons_zero]); (try simp only [Act.put]); (try simp only [List.setIfInBounds_toArray]); (try simp only [List.set_cons_succ]); (try simp only [List.set_cons_zero])
            refine wpAnyH_done (by kernel_rfl) ?_ _
            refine NoPanic.normal ?_
            have SX := S9.below (b0_any' w2 (.cells #[.int .i64 q1, .int .i64 q2] 29))
            have PX := IsR.new w2 q1 q2
            have BX := B9.trans ((b0_any' w2 (.cells #[.int .i64 q1, .int .i64 q2] 29)).mono B9.size)
            have hne : w2.heap.size ≠ Sb := by omega
            have m0 := SX.c0
            have m1 := SX.c1
            have m2 := SX.f0
            have m3 := SX.f1
            have n0 := PX.c0
            have n1 := PX.c1
            cases so
            all_goals go_wp2
            all_goals
              go_roundw
              case rel =>
                refine ⟨k + 1, by omega, by go_num, by rw [HQ.out, HRR.out]; rfl, ?_, (BX.setCell (p := ⟨Sb, 0, none⟩) hSw _).setCell (p := ⟨Sb, 1, none⟩) hSw _⟩
                show IsR _ _ _ _
                rw [HQ.out, HRR.out]
                exact (SX.set0 _).set1 _
              case measure => simp [intOf]; omega
          · go_simp
            refine hKc.out _ _ ?_ (fun hHeld => ?_)
            · (try dsimp only)
              refine ⟨?_, ?_, ?_, ?_⟩ <;> (repeat (with_reducible (first | exact c1 | exact c2 | exact c3 | exact c4 | refine cell_dr ?_ | refine cell_al _ ?_ | refine cell_stb ?_ ?_ | (show _ ≠ _; omega))))
            clear hKc Kc
            (try simp only [List.getElem_toArray]); (try simp only [List.getElem_cons_succ]); (try simp only [List.getElem_cons_zero]); (try simp only [Act.put]); (try simp only [List.setIfInBounds_toArray]); (try simp only [List.set_cons_succ]); (try simp only [List.set_cons_zero])
            refine wpAnyH_ready (rs := [5]) (by kernel_rfl) (by simp) (AllReadyH.cons rfl (fun Kc hKc => ?_) AllReadyH.nil)
            go_simp
            (go_at_call 21; refine (HM.out _).mono ?_; rintro e w2 ⟨rfl, hb2⟩)
            have hbd : Below Xr.heap.size Xr w2 := (((Below.refl _ _).drew).alloc (by simp) _).trans (hb2.mono (by simp))
            have pP : IsR w2 Xr.heap.size 0 0 := (show IsR (Xr.drew.alloc (.cells #[.int .i64 0, .int .i64 0] 29)) Xr.heap.size 0 0 from by simpa using IsR.new Xr.drew 0 0).below hb2
            have p0 := pP.c0
            have p1' := pP.c1
            have p2' := pP.f0
            have p3' := pP.f1
            have c1 := cell_keep hbd c1
            have c2 := cell_keep hbd c2
            have c3 := cell_keep hbd c3
            have c4 := cell_keep hbd c4
            have S9 := SQ.below hbd
            have B9 := BB2.trans (hbd.mono BB2.size)
            have hsw := hbd.size
            clear hb2
            go_wp2_with fail
            refine hKc.out _ _ ?_ (fun hHeld => ?_)
            · (try dsimp only)
              refine ⟨?_, ?_, ?_, ?_⟩ <;> (repeat (with_reducible (first | exact c1 | exact c2 | exact c3 | exact c4 | refine cell_dr ?_ | refine cell_al _ ?_ | refine cell_stb ?_ ?_ | (show _ ≠ _; omega))))
            clear hKc Kc
            (try simp only [List.getElem_toArray]); (try simp only [List.getElem_cons_succ]); (try simp only [List.getElem_cons_zero]); (try simp only [Act.put]); (try simp only [List.setIfInBounds_toArray]); (try simp only [List.set_cons_succ]); (try simp only [List.set_cons_zero])
            refine wpAnyH_take (i := 6) (v := ?_) rfl (by kernel_rfl) (by kernel_rfl) (by kernel_rfl) (fun _ _ _ h => h) (Or.inl ⟨by kernel_rfl, ?_⟩) hHeld ?_
            rotate_left
            · intro wz hSw; (try dsimp only at hSw); go_simp; all_goals (try with_reducible rfl)
            (try simp only [List.getElem_toArray]); (try simp only [List.getElem_cons_succ]); (try simp only [List.getElem_cons_zero]); (try simp only [Act.put]); (try simp only [List.setIfInBounds_toArray]); (try simp only [List.set_cons_succ]); (try simp only [List.set_cons_zero])
            refine wpAnyH_take (i := 7) (v := ?_) rfl (by kernel_rfl) (by kernel_rfl) (by kernel_rfl) (fun _ _ _ h => h) (Or.inl ⟨by kernel_rfl, ?_⟩) hHeld ?_
            rotate_left
            · intro wz hSw; (try dsimp only at hSw); go_simp; all_goals (try with_reducible rfl)
            (try simp only [List.getElem_toArray]); (try simp only [List.getElem_cons_succ]); (try simp only [List.getElem_cons_zero]); (try simp only [Act.put]); (try simp only [List.setIfInBounds_toArray]); (try simp only [List.set_cons_succ]); (try simp only [List.set_cons_zero])
            refine wpAnyH_take (i := 8) (v := ?_) rfl (by kernel_rfl) (by kernel_rfl) (by kernel_rfl) (fun _ _ _ h => h) (Or.inl ⟨by kernel_rfl, ?_⟩) hHeld ?_
            rotate_left
            · intro wz hSw; (try dsimp only at hSw); go_simp; all_goals (try with_reducible rfl)
            (try simp only [List.getElem_toArray]); (try simp only [List.getElem_cons_succ]); (try simp only [List.getElem_cons_zero]); (try simp only [Act.put]); (try simp only [List.setIfInBounds_toArray]); (try simp only [List.set_cons_succ]); (try simp only [List.set_cons_zero])
            refine wpAnyH_ready (rs := [10]) (by kernel_rfl) (by simp) (AllReadyH.cons rfl (fun Kc hKc => ?_) AllReadyH.nil)
            go_simp
            refine hKc.out _ _ ?_ (fun hHeld => ?_)
            · (try dsimp only)
              refine ⟨?_, ?_, ?_, ?_⟩ <;> (repeat (with_reducible (first | exact c1 | exact c2 | exact c3 | exact c4 | refine cell_dr ?_ | refine cell_al _ ?_ | refine cell_stb ?_ ?_ | (show _ ≠ _; omega))))
            clear hKc Kc
            (try simp only [List.getElem_toArray]); (try simp only [List.getElem_cons_succ]); (try simp only [List.getElem_cons_zero]); (try simp only [Act.put]); (try simp only [List.setIfInBounds_toArray]); (try simp only [List.set_cons_succ]); (try simp only [List.set_cons_zero])
            refine wpAnyH_take (i := 11) (v := ?_) rfl (by kernel_rfl) (by kernel_rfl) (by kernel_rfl) (fun _ _ _ h => h) (Or.inl ⟨by kernel_rfl, ?_⟩) hHeld ?_
            rotate_left
            · intro wz hSw; (try dsimp only at hSw); go_simp; all_goals (try with_reducible rfl)
            (try simp only [List.getElem_toArray]); (try simp only [List.getElem_cons_succ]); (try simp only [List.getElem_cons_zero]); (try simp only [Act.put]); (try simp only [List.setIfInBounds_toArray]); (try simp only [List.set_cons_succ]); (try simp only [List.set_cons_zero])
            refine wpAnyH_done (by kernel_rfl) ?_ _
            refine NoPanic.normal ?_
            have SX := (S9.other (show Sb ≠ Xr.heap.size by omega) 0 (.int .i64 q1)).other (show Sb ≠ Xr.heap.size by omega) 1 (.int .i64 q2)
            have PX := (pP.set0 q1).set1 q2
            have BX := (B9.setCell (p := ⟨Xr.heap.size, 0, none⟩) hXs (.int .i64 q1)).setCell (p := ⟨Xr.heap.size, 1, none⟩) hXs (.int .i64 q2)
            have hne : Xr.heap.size ≠ Sb := by omega
            have m0 := SX.c0
            have m1 := SX.c1
            have m2 := SX.f0
            have m3 := SX.f1
            have n0 := PX.c0
            have n1 := PX.c1
            cases so
            all_goals go_wp2
            all_goals
              go_roundw
              case rel =>
                refine ⟨k + 1, by omega, by go_num, by rw [HQ.out, HRR.out]; rfl, ?_, (BX.setCell (p := ⟨Sb, 0, none⟩) hSw _).setCell (p := ⟨Sb, 1, none⟩) hSw _⟩
                show IsR _ _ _ _
                rw [HQ.out, HRR.out]
                exact (SX.set0 _).set1 _
              case measure => simp [intOf]; omega
        · obtain rfl : k = P.length := by omega
          have BX : Below w20.heap.size w20 wr := hB.out
          have z0 := hS.out.c0
          have z1 := hS.out.c1
          have VX := VB.out.below BX
          have y0 := VX.c0
          have y1 := VX.c1
          obtain ⟨⟨⟨s1, s2⟩, so⟩, hs⟩ : ∃ z, z = G P.length := ⟨_, rfl⟩
          rw [← hs] at z0 z1 ⊢
          have HSP : Hid (so = true → (s1, s2) = (v1, v2)) := by
            intro h
            have h3 : (addV (prtA ps rows) (prtA ps rows).length).2 = true := by rw [← EP.out, ← HG.out, ← hs]; exact h
            have := parts_make EI.out.symm EO.out.symm h3
            rw [← EP.out, ← HG.out, ← hs, ← EV.out] at this
            exact this
          clear hs hS hB VX
          cases so
          · go_wp2
            go_meet
            case rel => exact ⟨RA.out.below (BX), RM.out.below (BX), VB.out.below (BX), RS.out.below (BX), RC.out.below (BX), RR.out.below (BX), BB.out.trans ((BX).mono BB.out.size)⟩
          have e := HSP.out rfl
          cases e
          go_wp2
          go_meet
          case rel => exact ⟨RA.out.below (BX), RM.out.below (BX), VB.out.below (BX), RS.out.below (BX), RC.out.below (BX), RR.out.below (BX), BB.out.trans ((BX).mono BB.out.size)⟩
    case rest =>
      clear RA RM VB RS RC RR BB RP HBP
      obtain ⟨RA, RM, VB, RS, RC, RR, BB⟩ := hcut
      obtain ⟨w30, hw30⟩ : ∃ u, u = wc := ⟨_, rfl⟩
      rw [← hw30] at RA RM VB RS RC RR BB ⊢
      clear hw30
      go_upto_if 163 with fail
      go_cut [25, 26] (fun _ _ wx => Hid (RdR wx (.slice pa na ca) ps) ∧ Hid (RdT wx (.slice pm nm cm) rows) ∧ Hid (IsR wx Vb v1 v2) ∧ Hid (RdT wx (.slice qs S.length cs) S) ∧ Hid (RdT wx vc C) ∧ Hid (RdT wx vr T) ∧ Hid (Below w.heap.size w wx))
      case first => as_aux_lemma =>
        cases is
        · go_wp2
          go_meet
          case rel => exact ⟨RA.out.below (Below.refl _ _), RM.out.below (Below.refl _ _), VB.out.below (Below.refl _ _), RS.out.below (Below.refl _ _), RC.out.below (Below.refl _ _), RR.out.below (Below.refl _ _), BB.out.trans ((Below.refl _ _).mono BB.out.size)⟩
        have ho := car_one EI.out.symm
        rw [← EV.out] at ho
        have HO1 := hidW8 ho
        clear ho
        go_wp2_with fail
        have hb := b0_any' w30 (.cells #[.slice pa na ca] 24)
        obtain ⟨Y, hY⟩ : ∃ Y, Y = w30.alloc (.cells #[.slice pa na ca] 24) := ⟨_, rfl⟩
        obtain ⟨N, hN⟩ : ∃ F, F = w30.heap.size := ⟨_, rfl⟩
        have d0 : Y.cell? ⟨N, 0, none⟩ = some (.slice pa na ca) := by rw [hY, hN]; simp [go_sem]
        rw [← hY] at hb
        rw [← hY, ← hN]
        clear hY hN
        have H7 := iCar_any (.slice (some ⟨N, 0, none⟩) 1 1) _ [ps] rows Y (RdT.one d0 (RA.out.below hb)) (RM.out.below hb)
        rw [HO1.out.1, HO1.out.2] at H7
        have H7 := hidW8 H7
        have BY := hb
        clear hb d0
        refine H7.out.mono ?_
        rintro e w31 ⟨vx, ux, rfl, T2, hb⟩
        have BX := BY.trans (hb.mono BY.size)
        obtain ⟨g, cc, g0, c0, rfl, y0, y1, y2⟩ := tab11 T2
        have VX := VB.out.below BX
        have z0 := VX.c0
        have z1 := VX.c1
        clear hb BY H7 T2 VX
        dsimp only at y1 y2
        go_wp2
        go_quiet (fail)
        go_wp2
        go_meet
        case rel => exact ⟨RA.out.below (below_drewN BX _), RM.out.below (below_drewN BX _), VB.out.below (below_drewN BX _), RS.out.below (below_drewN BX _), RC.out.below (below_drewN BX _), RR.out.below (below_drewN BX _), BB.out.trans ((below_drewN BX _).mono BB.out.size)⟩
      case rest =>
        clear RA RM VB RS RC RR BB EV EI EP EO HPL x2 x3
        obtain ⟨_, _, _, RS, RC, RR, BB⟩ := hcut
        obtain ⟨w40, hw40⟩ : ∃ u, u = wc := ⟨_, rfl⟩
        rw [← hw40] at RS RC RR BB ⊢
        clear hw40
        go_upto_region 33 with fail
        cases co
        · clear RS RC RR
          as_aux_lemma =>
            go_wp2_with fail
            refine (HPT.out 1 _ (by omega) (by omega) BB.out).mono ?_
            rintro e w41 ⟨n1, d1, rfl, g1, g2, g3, g4, g5, hb⟩
            replace BB := hidW8 (BB.out.trans (hb.mono BB.out.size))
            clear hb
            go_wp2_with fail
            refine (HPT.out 2 _ (by omega) (by omega) BB.out).mono ?_
            rintro e w42 ⟨n2, d2, rfl, g6, g7, g8, g9, g10, hb⟩
            replace BB := hidW8 (BB.out.trans (hb.mono BB.out.size))
            clear hb
            have SM := hidW8 (two_sm (part_sm g1 g2 g3 g4 g5) (part_sm g6 g7 g8 g9 g10))
            clear g1 g2 g3 g4 g5 g6 g7 g8 g9 g10
            obtain ⟨e1, he1⟩ : ∃ z, z = pickV len zs 3 9 := ⟨_, rfl⟩
            obtain ⟨e2, he2⟩ : ∃ z, z = pickV len zs 4 9 := ⟨_, rfl⟩
            have K1 := pickV_in len zs 3 (n := 9) (by omega)
            have K2 := pickV_in len zs 4 (n := 9) (by omega)
            rw [← he1] at K1
            rw [← he2] at K2
            have P1 : Hid (∀ W : World, Below w.heap.size w W → Calls Try.prog 23 #[.slice a len cap, .int .i64 3, .int .i64 9] W fun e w' => e = .returned (.int .i64 e1) ∧ Below W.heap.size W w') := by
              intro W hW; rw [he1]; exact HPK.out _ _ W (by omega) (by omega) (by omega) hW
            have P2 : Hid (∀ W : World, Below w.heap.size w W → Calls Try.prog 23 #[.slice a len cap, .int .i64 4, .int .i64 9] W fun e w' => e = .returned (.int .i64 e2) ∧ Below W.heap.size W w') := by
              intro W hW; rw [he2]; exact HPK.out _ _ W (by omega) (by omega) (by omega) hW
            have VM := hidW8 (two_sm (whole_smB K1.1 (by omega)) (whole_smB K2.1 (by omega)))
            have VP : Hid (∀ i, i < 2 → 0 ≤ (fr [(e1, 1), (e2, 1)] i).1) := by
              intro i hi
              obtain rfl | rfl : i = 0 ∨ i = 1 := by omega
              · exact K1.1
              · exact K2.1
            clear he1 he2 K1 K2
            go_upto_region 36 with fail
            have hb := b0_any' w42 (.cells #[.int .i64 n1, .int .i64 d1, .int .i64 n2, .int .i64 d2] 29)
            have RT := rdR_two (W := w42) (a := n1) (b := d1) (c := n2) (d := d2)
            obtain ⟨Y4, hY⟩ : ∃ Y, Y = w42.alloc (.cells #[.int .i64 n1, .int .i64 d1, .int .i64 n2, .int .i64 d2] 29) := ⟨_, rfl⟩
            obtain ⟨N4, hN⟩ : ∃ F, F = w42.heap.size := ⟨_, rfl⟩
            rw [← hY] at hb
            rw [← hY, ← hN] at RT ⊢
            replace RT := hidW8 RT
            clear hY hN
            replace BB := hidW8 (BB.out.trans (hb.mono BB.out.size))
            clear hb
            go_wp2_with fail
            refine (P1.out _ BB.out).mono ?_
            rintro e w43 ⟨rfl, hb⟩
            replace RT := hidW8 (RT.out.below hb)
            replace BB := hidW8 (BB.out.trans (hb.mono BB.out.size))
            clear hb
            go_wp2_with fail
            refine (wholeB_any e1 _).mono ?_
            rintro e w44 ⟨rfl, hb⟩
            replace RT := hidW8 (RT.out.below hb)
            replace BB := hidW8 (BB.out.trans (hb.mono BB.out.size))
            clear hb
            go_wp2_with fail
            refine (P2.out _ BB.out).mono ?_
            rintro e w45 ⟨rfl, hb⟩
            replace RT := hidW8 (RT.out.below hb)
            replace BB := hidW8 (BB.out.trans (hb.mono BB.out.size))
            clear hb
            go_wp2_with fail
            refine (wholeB_any e2 _).mono ?_
            rintro e w46 ⟨rfl, hb⟩
            replace RT := hidW8 (RT.out.below hb)
            replace BB := hidW8 (BB.out.trans (hb.mono BB.out.size))
            clear hb
            clear P1 P2
            go_upto_region 37 with fail
            have hb := b0_any' w46 (.cells #[.int .i64 e1, .int .i64 1, .int .i64 e2, .int .i64 1] 29)
            have RV := rdR_two (W := w46) (a := e1) (b := 1) (c := e2) (d := 1)
            obtain ⟨Y5, hY⟩ : ∃ Y, Y = w46.alloc (.cells #[.int .i64 e1, .int .i64 1, .int .i64 e2, .int .i64 1] 29) := ⟨_, rfl⟩
            obtain ⟨N5, hN⟩ : ∃ F, F = w46.heap.size := ⟨_, rfl⟩
            rw [← hY] at hb
            rw [← hY, ← hN] at RV ⊢
            replace RV := hidW8 RV
            clear hY hN
            replace RT := hidW8 (RT.out.below hb)
            replace BB := hidW8 (BB.out.trans (hb.mono BB.out.size))
            clear hb
            go_wp2_with fail
            refine (sAlone_any _ _ _ RV.out).mono ?_
            rintro e w47 ⟨vk, uk, rfl, f1, hb⟩
            replace RT := hidW8 (RT.out.below hb)
            replace RV := hidW8 (RV.out.below hb)
            replace BB := hidW8 (BB.out.trans (hb.mono BB.out.size))
            clear hb
            have hav := alone_var (ps := [(n1, d1), (n2, d2)]) (vs := [(e1, 1), (e2, 1)]) rfl (by simp) (by simp) SM.out VM.out VP.out
            have H8 := iVar_any _ vk [(n1, d1), (n2, d2)] (aloneA [(e1, 1), (e2, 1)]) w47 RT.out f1.read
            rw [hav.1] at H8
            obtain ⟨⟨u1, u2⟩, hu⟩ : ∃ z, z = varA [(n1, d1), (n2, d2)] (aloneA [(e1, 1), (e2, 1)]) := ⟨_, rfl⟩
            have hu0 := hav.2
            rw [← hu] at hu0 H8
            dsimp only at hu0 H8
            have H8 := hidW8 H8
            have hu1 : decide (u1 < 0) = false := decide_eq_false (by omega)
            clear f1 hav hu RT RV SM VM VP
            go_wp2_with fail
            refine (H8.out).mono ?_
            rintro e w48 ⟨rfl, hb⟩
            replace BB := hidW8 (BB.out.trans (hb.mono BB.out.size))
            clear hb
            clear H8
            have hb := b0_any' w48 (.cells #[.int .i64 u1, .int .i64 u2] 29)
            go_upto_region 38 with fail
            obtain ⟨Y6, hY⟩ : ∃ Y, Y = w48.alloc (.cells #[.int .i64 u1, .int .i64 u2] 29) := ⟨_, rfl⟩
            obtain ⟨Ub, hF⟩ : ∃ F, F = w48.heap.size := ⟨_, rfl⟩
            have UB : IsR Y6 Ub u1 u2 := by rw [hY, hF]; exact IsR.new _ _ _
            rw [← hY] at hb
            rw [← hY, ← hF]
            clear hY hF
            replace BB := hidW8 (BB.out.trans (hb.mono BB.out.size))
            clear hb
            have z0 := UB.c0
            clear UB
            go_wp2
            go_ret
            exact ⟨rfl, BB.out⟩
        have H9 := hidW8 (car_cov EC.out.symm)
        rw [← ET.out] at H9
        have H10 := hidW8 (fun (W : World) (h : RdT W vr T) => iCov_any vr T W h)
        rw [H9.out] at H10
        go_wp2_with fail
        refine (H10.out _ RR.out).mono ?_
        rintro e w49 ⟨rfl, hb⟩
        replace RS := hidW8 (RS.out.below hb)
        replace RC := hidW8 (RC.out.below hb)
        replace RR := hidW8 (RR.out.below hb)
        replace BB := hidW8 (BB.out.trans (hb.mono BB.out.size))
        clear hb
        clear H9 H10
        go_wp2_with fail
        refine (HPT.out 1 _ (by omega) (by omega) BB.out).mono ?_
        rintro e w41 ⟨n1, d1, rfl, g1, g2, g3, g4, g5, hb⟩
        replace RS := hidW8 (RS.out.below hb)
        replace RC := hidW8 (RC.out.below hb)
        replace RR := hidW8 (RR.out.below hb)
        replace BB := hidW8 (BB.out.trans (hb.mono BB.out.size))
        clear hb
        go_wp2_with fail
        refine (HPT.out 2 _ (by omega) (by omega) BB.out).mono ?_
        rintro e w42 ⟨n2, d2, rfl, g6, g7, g8, g9, g10, hb⟩
        replace RS := hidW8 (RS.out.below hb)
        replace RC := hidW8 (RC.out.below hb)
        replace RR := hidW8 (RR.out.below hb)
        replace BB := hidW8 (BB.out.trans (hb.mono BB.out.size))
        clear hb
        have SM := hidW8 (two_sm (part_sm g1 g2 g3 g4 g5) (part_sm g6 g7 g8 g9 g10))
        clear g1 g2 g3 g4 g5 g6 g7 g8 g9 g10
        obtain ⟨e1, he1⟩ : ∃ z, z = pickV len zs 3 9 := ⟨_, rfl⟩
        obtain ⟨e2, he2⟩ : ∃ z, z = pickV len zs 4 9 := ⟨_, rfl⟩
        have K1 := pickV_in len zs 3 (n := 9) (by omega)
        have K2 := pickV_in len zs 4 (n := 9) (by omega)
        rw [← he1] at K1
        rw [← he2] at K2
        have P1 : Hid (∀ W : World, Below w.heap.size w W → Calls Try.prog 23 #[.slice a len cap, .int .i64 3, .int .i64 9] W fun e w' => e = .returned (.int .i64 e1) ∧ Below W.heap.size W w') := by
          intro W hW; rw [he1]; exact HPK.out _ _ W (by omega) (by omega) (by omega) hW
        have P2 : Hid (∀ W : World, Below w.heap.size w W → Calls Try.prog 23 #[.slice a len cap, .int .i64 4, .int .i64 9] W fun e w' => e = .returned (.int .i64 e2) ∧ Below W.heap.size W w') := by
          intro W hW; rw [he2]; exact HPK.out _ _ W (by omega) (by omega) (by omega) hW
        have VM := hidW8 (two_sm (whole_smB K1.1 (by omega)) (whole_smB K2.1 (by omega)))
        have VP : Hid (∀ i, i < 2 → 0 ≤ (fr [(e1, 1), (e2, 1)] i).1) := by
          intro i hi
          obtain rfl | rfl : i = 0 ∨ i = 1 := by omega
          · exact K1.1
          · exact K2.1
        clear he1 he2 K1 K2
        go_upto_region 36 with fail
        have hb := b0_any' w42 (.cells #[.int .i64 n1, .int .i64 d1, .int .i64 n2, .int .i64 d2] 29)
        have RT := rdR_two (W := w42) (a := n1) (b := d1) (c := n2) (d := d2)
        obtain ⟨Y4, hY⟩ : ∃ Y, Y = w42.alloc (.cells #[.int .i64 n1, .int .i64 d1, .int .i64 n2, .int .i64 d2] 29) := ⟨_, rfl⟩
        obtain ⟨N4, hN⟩ : ∃ F, F = w42.heap.size := ⟨_, rfl⟩
        rw [← hY] at hb
        rw [← hY, ← hN] at RT ⊢
        replace RT := hidW8 RT
        clear hY hN
        replace RS := hidW8 (RS.out.below hb)
        replace RC := hidW8 (RC.out.below hb)
        replace RR := hidW8 (RR.out.below hb)
        replace BB := hidW8 (BB.out.trans (hb.mono BB.out.size))
        clear hb
        go_wp2_with fail
        refine (P1.out _ BB.out).mono ?_
        rintro e w43 ⟨rfl, hb⟩
        replace RS := hidW8 (RS.out.below hb)
        replace RC := hidW8 (RC.out.below hb)
        replace RR := hidW8 (RR.out.below hb)
        replace RT := hidW8 (RT.out.below hb)
        replace BB := hidW8 (BB.out.trans (hb.mono BB.out.size))
        clear hb
        go_wp2_with fail
        refine (wholeB_any e1 _).mono ?_
        rintro e w44 ⟨rfl, hb⟩
        replace RS := hidW8 (RS.out.below hb)
        replace RC := hidW8 (RC.out.below hb)
        replace RR := hidW8 (RR.out.below hb)
        replace RT := hidW8 (RT.out.below hb)
        replace BB := hidW8 (BB.out.trans (hb.mono BB.out.size))
        clear hb
        go_wp2_with fail
        refine (P2.out _ BB.out).mono ?_
        rintro e w45 ⟨rfl, hb⟩
        replace RS := hidW8 (RS.out.below hb)
        replace RC := hidW8 (RC.out.below hb)
        replace RR := hidW8 (RR.out.below hb)
        replace RT := hidW8 (RT.out.below hb)
        replace BB := hidW8 (BB.out.trans (hb.mono BB.out.size))
        clear hb
        go_wp2_with fail
        refine (wholeB_any e2 _).mono ?_
        rintro e w46 ⟨rfl, hb⟩
        replace RS := hidW8 (RS.out.below hb)
        replace RC := hidW8 (RC.out.below hb)
        replace RR := hidW8 (RR.out.below hb)
        replace RT := hidW8 (RT.out.below hb)
        replace BB := hidW8 (BB.out.trans (hb.mono BB.out.size))
        clear hb
        clear P1 P2
        go_upto_region 37 with fail
        have hb := b0_any' w46 (.cells #[.int .i64 e1, .int .i64 1, .int .i64 e2, .int .i64 1] 29)
        have RV := rdR_two (W := w46) (a := e1) (b := 1) (c := e2) (d := 1)
        obtain ⟨Y5, hY⟩ : ∃ Y, Y = w46.alloc (.cells #[.int .i64 e1, .int .i64 1, .int .i64 e2, .int .i64 1] 29) := ⟨_, rfl⟩
        obtain ⟨N5, hN⟩ : ∃ F, F = w46.heap.size := ⟨_, rfl⟩
        rw [← hY] at hb
        rw [← hY, ← hN] at RV ⊢
        replace RV := hidW8 RV
        clear hY hN
        replace RS := hidW8 (RS.out.below hb)
        replace RC := hidW8 (RC.out.below hb)
        replace RR := hidW8 (RR.out.below hb)
        replace RT := hidW8 (RT.out.below hb)
        replace BB := hidW8 (BB.out.trans (hb.mono BB.out.size))
        clear hb
        go_wp2_with fail
        refine (sAlone_any _ _ _ RV.out).mono ?_
        rintro e w47 ⟨vk, uk, rfl, f1, hb⟩
        replace RS := hidW8 (RS.out.below hb)
        replace RC := hidW8 (RC.out.below hb)
        replace RR := hidW8 (RR.out.below hb)
        replace RT := hidW8 (RT.out.below hb)
        replace RV := hidW8 (RV.out.below hb)
        replace BB := hidW8 (BB.out.trans (hb.mono BB.out.size))
        clear hb
        have hav := alone_var (ps := [(n1, d1), (n2, d2)]) (vs := [(e1, 1), (e2, 1)]) rfl (by simp) (by simp) SM.out VM.out VP.out
        have H8 := iVar_any _ vk [(n1, d1), (n2, d2)] (aloneA [(e1, 1), (e2, 1)]) w47 RT.out f1.read
        rw [hav.1] at H8
        obtain ⟨⟨u1, u2⟩, hu⟩ : ∃ z, z = varA [(n1, d1), (n2, d2)] (aloneA [(e1, 1), (e2, 1)]) := ⟨_, rfl⟩
        have hu0 := hav.2
        rw [← hu] at hu0 H8
        dsimp only at hu0 H8
        have H8 := hidW8 H8
        have hu1 : decide (u1 < 0) = false := decide_eq_false (by omega)
        clear f1 hav hu RT RV SM VM VP
        go_wp2_with fail
        refine (H8.out).mono ?_
        rintro e w48 ⟨rfl, hb⟩
        replace RS := hidW8 (RS.out.below hb)
        replace RC := hidW8 (RC.out.below hb)
        replace RR := hidW8 (RR.out.below hb)
        replace BB := hidW8 (BB.out.trans (hb.mono BB.out.size))
        clear hb
        clear H8
        have hb := b0_any' w48 (.cells #[.int .i64 u1, .int .i64 u2] 29)
        go_upto_region 38 with fail
        obtain ⟨Y6, hY⟩ : ∃ Y, Y = w48.alloc (.cells #[.int .i64 u1, .int .i64 u2] 29) := ⟨_, rfl⟩
        obtain ⟨Ub, hF⟩ : ∃ F, F = w48.heap.size := ⟨_, rfl⟩
        have UB : IsR Y6 Ub u1 u2 := by rw [hY, hF]; exact IsR.new _ _ _
        rw [← hY] at hb
        rw [← hY, ← hF]
        clear hY hF
        replace RS := hidW8 (RS.out.below hb)
        replace RC := hidW8 (RC.out.below hb)
        replace RR := hidW8 (RR.out.below hb)
        replace BB := hidW8 (BB.out.trans (hb.mono BB.out.size))
        clear hb
        have z0 := UB.c0
        clear UB
        as_aux_lemma =>
          have HS6 : S.length ≤ 6 := by
            have h := carO_out EC.out.symm
            exact (tabB_out h.1).1.2.1
          go_wp2
          obtain ⟨K, hK⟩ : ∃ K, K = Y6.heap.size := ⟨_, rfl⟩
          obtain ⟨Y, hY⟩ : ∃ Y, Y = Y6.alloc (.cells #[] 24) := ⟨_, rfl⟩
          have o0 : Tab Y K (.slice (some ⟨K, 0, none⟩) 0 0) [] [] := by
            rw [hY, hK]; exact Tab.lit (Nat.le_refl _)
          have B0 : Below Y6.heap.size Y6 Y := by rw [hY]; exact b0_any' _ _
          rw [← hY, ← hK]
          have HK := hidW8 hK
          clear hY hK z0
          go_loopw [31, 32] (fun q i wr => ∃ (o : Value) (k : Nat) (us : List Value) (TT : List (List Fr)), k ≤ 2 ∧ i = .int .i64 k ∧ o = q ∧ us.length = k ∧ TT.length = k ∧ Hid (Tab wr K o us TT) ∧ Hid (Below Y6.heap.size Y6 wr)) (fun _ i _ => 2 - (intOf i).toNat)
          case atStart => exact ⟨_, 0, [], [], Nat.zero_le _, rfl, rfl, rfl, rfl, o0, B0⟩
          case round =>
            clear o0 B0
            obtain ⟨o, k, us, TT, hk, rfl, rfl, hus, hTT, hT, hB⟩ := hrel
            by_cases hlt : k < 2
            · have hki : (k : Int) < 2 := by omega
              obtain ⟨Sk, hSk⟩ : ∃ S, S = wr.heap.size := ⟨_, rfl⟩
              have HU : Hid (Under Sk o us) := by show Under _ _ _; rw [hSk]; exact hT.out.under
              have hKS : K ≤ Sk := by rw [HK.out, hSk]; exact hB.out.size
              have BW0 := BB.out.trans (hB.out.mono BB.out.size)
              obtain ⟨V, hV⟩ : ∃ V, V = wr.alloc (.cells #[] 29) := ⟨_, rfl⟩
              have r0 : V.ownsRow Sk 29 2 (.slice (some ⟨Sk, 0, none⟩) 0 0) 0 (cellsR []) := by
                rw [hV, hSk]; exact litB wr wr.heap.size (Nat.le_refl _)
              have C0 : Below Sk wr V := by rw [hV, hSk]; exact b0_any' _ _
              have hs0 : Sk ≤ V.heap.size := by rw [hV, hSk]; simp
              have BWS : Hid (Below w.heap.size w wr) := BW0
              have hwS : w.heap.size ≤ Sk := by rw [hSk]; exact BW0.size
              go_wp2
              rw [← hV, ← hSk]
              have HSk := hidW8 hSk
              clear hV hSk BW0
              obtain ⟨Wo, hWo⟩ : ∃ u, u = wr := ⟨_, rfl⟩
              rw [← hWo] at hT hB BWS HSk C0
              clear hWo
              go_loopw [33, 34] (fun q i wz => ∃ (rv : Value) (m : Nat) (l : List Fr), m ≤ S.length ∧ i = .int .i64 m ∧ rv = q ∧ l.length = m ∧ Hid (wz.ownsRow Sk 29 2 rv m (cellsR l)) ∧ Hid (Below Sk Wo wz) ∧ Sk ≤ wz.heap.size) (fun _ i _ => S.length - (intOf i).toNat)
              case atStart => exact ⟨_, 0, [], Nat.zero_le _, rfl, rfl, rfl, r0, C0, hs0⟩
              case round =>
                clear r0 C0 hs0
                obtain ⟨rv, m, l, hm, rfl, rfl, hl, hO, hZ, hs0⟩ := hrel
                have BWZ : Below w.heap.size w wr := BWS.out.trans (hZ.out.mono hwS)
                by_cases hml : m < S.length
                · go_wp2_with fail
                  refine (HPT.out (10 * (k : Int) + (m : Int) + 5) _ (by omega) (by omega) BWZ).mono ?_
                  rintro e w60 ⟨n, d, rfl, -, -, -, -, -, hb⟩
                  have O4 := own_below hO.out hb
                  have hs4 : Sk ≤ w60.heap.size := Nat.le_trans hs0 hb.size
                  have B4 : Below Sk Wo w60 := hZ.out.trans (hb.mono hs0)
                  clear hb hO hZ BWZ
                  go_wp2_with (at_builtin; refine wpList_append_own _ rfl _ _ 24 rfl Sk 29 i0 (.agg #[.int .i64 0, .int .i64 0]) 2 16 Try.underlying24 hi hz0 hz1 hz2 rfl (by decide) _ _ _ rfl (O4.alloc _) ⟨w60.heap.size, 0, none⟩ 1 1 [.int .i64 n, .int .i64 d] rfl rfl (cell_twoF _ _ _ _) (by intro u hu; simp at hu; rcases hu with rfl | rfl <;> rfl) (by unfold maxLen; omega) (by omega) (by simp; omega) ?_; intro v' w5 hown' hgrow _)
                  go_roundw
                  case rel =>
                    refine ⟨v', m + 1, l ++ [(n, d)], by omega, by go_num, rfl, by rw [len_snoc, hl], ?_, B4.trans (below_appended O4 hs4 hgrow), by have := hgrow.size; simp at this; omega⟩
                    show World.ownsRow _ _ _ _ _ _ _
                    rw [cells_snoc]
                    exact hown'
                  case measure => simp [intOf]; omega
                · obtain rfl : m = S.length := by omega
                  obtain ⟨pr', cr', rfl⟩ := own_shape hO.out
                  have TZ := TabB_low hT.out HU.out hZ.out
                  obtain ⟨ao', co', rfl⟩ := own_shape TZ.outer
                  have hou := hidW8 TZ.outer
                  have HTZ := hidW8 TZ
                  have hKw : K ≤ wr.heap.size := Nat.le_trans hKS hs0
                  have HO := hidW8 hO.out
                  have BZ : Below Y6.heap.size Y6 wr := hB.out.trans (hZ.out.mono (by rw [HSk.out]; exact hB.out.size))
                  clear TZ hO hT hB BWZ
                  go_wp2_with (at_builtin; refine wpList_append_own _ rfl _ _ 25 rfl K 24 t0 (.slice none 0 0) 1 24 Try.underlying25 hti htz0 htz1 htz2 rfl (by decide) _ _ _ rfl (hou.out.alloc _) ⟨wr.heap.size, 0, none⟩ 1 1 [.slice pr' S.length cr'] rfl rfl (cell_one_new _ _ _) (by simp [Value.oneCell']) (by unfold maxLen; omega) (by omega) (by simp; omega) ?_; intro v' w5 hown' hgrow _)
                  go_roundw
                  case rel =>
                    have T5 := HTZ.out.append (ps := l) (u := .slice pr' S.length cr') (own_le (by rw [hl]; exact HO.out) hKS) (fun i hi b' e h2 => by
                      have h1 := HU.out.2 i hi b' e
                      have h3 := (World.ownsRow.lt HO.out b' h2).1
                      omega) hown' hgrow
                    refine ⟨v', k + 1, us ++ [Value.slice pr' S.length cr'], TT ++ [l], by omega, by go_num, rfl, by simp [hus], by simp [hTT], (show Tab w5 K v' (us ++ [Value.slice pr' S.length cr']) (TT ++ [l]) from T5), BZ.trans ((below_appended hou.out hKw hgrow).mono (by rw [HK.out]; exact Nat.le_refl _))⟩
                  case measure => simp [intOf]; omega
            · obtain rfl : k = 2 := by omega
              replace RS := hidW8 (RS.out.below hB.out)
              replace RC := hidW8 (RC.out.below hB.out)
              replace RR := hidW8 (RR.out.below hB.out)
              replace BB := hidW8 (BB.out.trans (hB.out.mono BB.out.size))
              have RT := hidW8 hT.out.read
              clear hT hB
              go_wp2_with fail
              refine (iCar_any o vr TT T _ RT.out RR.out).mono ?_
              rintro e w70 ⟨v7, us7, rfl, f1, hb⟩
              replace RS := hidW8 (RS.out.below hb)
              replace RC := hidW8 (RC.out.below hb)
              replace RR := hidW8 (RR.out.below hb)
              replace RT := hidW8 (RT.out.below hb)
              replace BB := hidW8 (BB.out.trans (hb.mono BB.out.size))
              clear hb
              have R7 := hidW8 f1.read
              clear f1
              go_wp2_with fail
              refine (sTimes_any o _ TT S _ RT.out RS.out).mono ?_
              rintro e w71 ⟨v8, us8, rfl, f1, hb⟩
              replace RS := hidW8 (RS.out.below hb)
              replace RC := hidW8 (RC.out.below hb)
              replace RR := hidW8 (RR.out.below hb)
              replace RT := hidW8 (RT.out.below hb)
              replace R7 := hidW8 (R7.out.below hb)
              replace BB := hidW8 (BB.out.trans (hb.mono BB.out.size))
              clear hb
              have R8 := hidW8 f1.read
              clear f1
              go_wp2_with fail
              refine (iCar_any v8 vc (timA TT S) C _ R8.out RC.out).mono ?_
              rintro e w72 ⟨v9, us9, rfl, f1, hb⟩
              replace RS := hidW8 (RS.out.below hb)
              replace RC := hidW8 (RC.out.below hb)
              replace RR := hidW8 (RR.out.below hb)
              replace RT := hidW8 (RT.out.below hb)
              replace R7 := hidW8 (R7.out.below hb)
              replace R8 := hidW8 (R8.out.below hb)
              replace BB := hidW8 (BB.out.trans (hb.mono BB.out.size))
              clear hb
              have R9 := hidW8 f1.read
              clear f1
              obtain ⟨c1, h1⟩ : ∃ z, z = carO TT T := ⟨_, rfl⟩
              obtain ⟨c2, h2⟩ : ∃ z, z = timO TT S := ⟨_, rfl⟩
              obtain ⟨c3, h3⟩ : ∃ z, z = carO (timA TT S) C := ⟨_, rfl⟩
              rw [← h1, ← h2, ← h3]
              have E1 := hidW8 h1
              have E2 := hidW8 h2
              have E3 := hidW8 h3
              clear h1 h2 h3
              cases c1
              · go_wp2
                go_ret
                exact ⟨rfl, BB.out⟩
              cases c2
              · go_wp2
                go_ret
                exact ⟨rfl, BB.out⟩
              cases c3
              · go_wp2
                go_ret
                exact ⟨rfl, BB.out⟩
              have htw : carA TT T = carA (timA TT S) C := by
                have h1 := E1.out.symm
                rw [ET.out] at h1 ⊢
                exact car_twice EC.out.symm h1 E2.out.symm E3.out.symm
              obtain ⟨l1, l2⟩ := car_shape E1.out.symm
              have R9' := R9.out
              rw [← htw] at R9'
              have H11 := hidW8 (likeRows_rd v7 v9 (carA TT T) w72 (by omega) (fun i hi => by rw [(l2 i (by omega)).1]; omega) R7.out R9')
              clear R9' R9 htw l1 l2
              go_wp2_with fail
              refine H11.out.mono ?_
              rintro e w73 ⟨rfl, hb⟩
              go_wp2
              go_ret
              exact ⟨rfl, BB.out.trans (hb.mono BB.out.size)⟩
      end Go.Proofs.Ytoiigmimdjipiaa
