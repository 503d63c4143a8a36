/- The walk of the law FnTables. -/
import Derived.Test.YtbbkejfcheobaabDrawW13
import Derived.Test.YtbbkejfcheobaabDrawW4
import Derived.Test.YtbbkejfcheobaabPk1
import Derived.Test.YtbbkejfcheobaabTimW2
import Derived.Test.YtbbkejfcheobaabTimW3
import Derived.Test.YtbbkejfcheobaabEchW11
import Derived.Test.YtbbkejfcheobaabPk2
import Derived.BigQuiet
import Derived.Deep.RegionWith
import Derived.Deep.RegionLaw
import Derived.Deep.Cut
import Derived.Deep.CutRange
namespace Go.Proofs.Ytbbkejfcheobaab
open Go.RowKit Go.Proofs.Ytbbkejfcheobaab.RM

theorem tim_bound (A B : List (List Fr)) (h : A.length ≤ 200) : (timA A B).length ≤ 1000000000 ∧ ∀ i, i < (timA A B).length → (rw' (timA A B) i).length ≤ 1000000000 := by
  cases hq : timO A B with
  | false => rw [timA_no hq]; exact ⟨by simp, fun i hi => absurd hi (by simp)⟩
  | true =>
    obtain ⟨s1, s2⟩ := tim_shape hq
    have c := (timC_out (timO_out hq).1).2.1
    have t := (tabB_out c).1
    exact ⟨by omega, fun i hi => by rw [s2 i (by omega)]; omega⟩
theorem ech_bound (M : List (List Fr)) : (echA M).length ≤ 1000000000 ∧ ∀ i, i < (echA M).length → (rw' (echA M) i).length ≤ 1000000000 := by
  cases hq : echO M with
  | false => rw [(echO_no hq).1]; exact ⟨by simp, fun i hi => absurd hi (by simp)⟩
  | true =>
    rw [(echO_yes hq).1]
    have h' := hq
    unfold echO at h'
    rw [Bool.and_eq_true] at h'
    have hB := (ech_keeps rfl h'.1 h'.2).2
    have t := (tabB_out h'.1).1
    have hl := hB.len
    exact ⟨by omega, fun i hi => by rw [hB.row i (by omega)]; omega⟩
set_option maxRecDepth 100000 in
set_option maxHeartbeats 4000000 in
theorem lawTabF (a0 : Option Addr) (len cap : Nat) (zs : List Int) (w : World) (hr : IsRow .u8 w a0 len cap zs) :
    Calls Try.prog 4 #[.slice a0 len cap] w fun e w' => e = .returned (.bool true) ∧ Below w.heap.size w w' := by
  obtain ⟨t0, hti, htz0, htz1, htz2⟩ := info_parts infoT
  have b0 : ∀ (u : World) (o : Obj), Below u.heap.size u (u.alloc o) := fun u o => (Below.refl _ _).alloc (Nat.le_refl _) o
  by_cases hl : 4096 < (len : Int)
  · have hbig : decide (4096 < (len : Int)) = true := decide_eq_true hl
    clear hl hr
    go_enter Try.func4, Try.ntmps4
    go_wp2_with fail
    refine (big_any _ _ _ _).mono ?_
    rintro e w1 ⟨rfl, hw⟩
    obtain rfl := hw.symm
    go_wp2
    go_ret
    exact ⟨rfl, Below.refl _ _⟩
  have hbig : decide (4096 < (len : Int)) = false := decide_eq_false hl
  have hlen : len ≤ 4096 := by omega
  have HR : Hid (IsRow .u8 w a0 len cap zs) := hr
  clear hl hr
  go_enter Try.func4, Try.ntmps4
  go_wp2_with fail
  refine (big_any _ _ _ _).mono ?_
  rintro e w0 ⟨rfl, hw⟩
  obtain rfl := hw.symm
  clear hw
  have HB : Hid (Below w.heap.size w w) := Below.refl _ _
  go_wp2_with fail
  refine (dTimes_any a0 len cap zs _ HR.out).mono ?_
  rintro e w2 ⟨va, vb, A, B, rfl, hA, hB, hAl, hBl, hb⟩
  have HA := hidL hA
  have HV := hidL hB
  replace HR := hidL (HR.out.below hb)
  replace HB := hidL (HB.out.trans (hb.mono HB.out.size))
  clear hb
  clear hA hB hbig
  obtain ⟨q, eq'⟩ : ∃ x, x = timO A B := ⟨_, rfl⟩
  have Eq : Hid (q = timO A B) := eq'
  obtain ⟨P, eP'⟩ : ∃ x, x = timA A B := ⟨_, rfl⟩
  have EP : Hid (P = timA A B) := eP'
  have CT : Hid (∀ W : World, RdT W va A → RdT W vb B → Calls Try.prog 16 #[va, vb] W fun e w' => ∃ v us, e = .returned (.tuple #[v, .bool q]) ∧ Tab w' W.heap.size v us P ∧ Below W.heap.size W w') := by intro W h1 h2; rw [eq', eP']; exact iTimes_any va vb A B W h1 h2
  have CT2 : Hid (∀ W : World, RdT W va A → RdT W vb B → Calls Try.prog 21 #[va, vb] W fun e w' => ∃ v us, e = .returned (.tuple #[v, .bool q]) ∧ Tab w' W.heap.size v us P ∧ Below W.heap.size W w') := by intro W h1 h2; rw [eq', eP']; exact sTimes_any va vb A B W h1 h2
  clear eq' eP'
  go_wp2_with fail
  refine (CT.out _ HA.out HV.out).mono ?_
  rintro e w3 ⟨vp, us, rfl, ht, hb⟩
  replace HA := hidL (HA.out.below hb)
  replace HV := hidL (HV.out.below hb)
  replace HR := hidL (HR.out.below hb)
  replace HB := hidL (HB.out.trans (hb.mono HB.out.size))
  clear hb
  have HP := hidL (Tab.read ht)
  clear ht
  go_wp2_with fail
  refine (dKer_any a0 len cap zs _ HR.out).mono ?_
  rintro e w4 ⟨vm, M, rfl, hM, hMl, hb⟩
  replace HA := hidL (HA.out.below hb)
  replace HV := hidL (HV.out.below hb)
  replace HP := hidL (HP.out.below hb)
  replace HR := hidL (HR.out.below hb)
  replace HB := hidL (HB.out.trans (hb.mono HB.out.size))
  clear hb
  have HM := hidL hM
  clear hM
  obtain ⟨f, ef'⟩ : ∃ x, x = echO M := ⟨_, rfl⟩
  have Ef : Hid (f = echO M) := ef'
  obtain ⟨E, eE'⟩ : ∃ x, x = echA M := ⟨_, rfl⟩
  have EE : Hid (E = echA M) := eE'
  obtain ⟨K, eK'⟩ : ∃ x, x = kerA M := ⟨_, rfl⟩
  have EK : Hid (K = kerA M) := eK'
  obtain ⟨r, er'⟩ : ∃ x, x = rkI M := ⟨_, rfl⟩
  have Er : Hid (r = rkI M) := er'
  obtain ⟨tk, etk'⟩ : ∃ x, x = tabB M 6 := ⟨_, rfl⟩
  have Etk : Hid (tk = tabB M 6) := etk'
  have IE : Hid (∀ W : World, RdT W vm M → Calls Try.prog 18 #[vm] W fun e w' => ∃ v us, e = .returned (.tuple #[v, .bool f]) ∧ Tab w' W.heap.size v us E ∧ Below W.heap.size W w') := by intro W h1; rw [ef', eE']; exact iEchel_any vm M W h1
  have IK : Hid (∀ W : World, RdT W vm M → Calls Try.prog 19 #[vm] W fun e w' => ∃ v us, e = .returned v ∧ Tab w' W.heap.size v us K ∧ Below W.heap.size W w') := by intro W h1; rw [eK']; exact iKernel_any vm M W h1
  have IR : Hid (∀ W : World, RdT W vm M → Calls Try.prog 20 #[vm] W fun e w' => e = .returned (.int .i64 r) ∧ Below W.heap.size W w') := by intro W h1; rw [er']; exact iRank_any vm M W h1
  have IT : Hid (∀ W : World, RdT W vm M → Calls Try.prog 23 #[vm] W fun e w' => e = .returned (.bool tk) ∧ Below W.heap.size W w') := by intro W h1; rw [etk']; exact iTab_any vm M W h1
  have SEc : Hid (∀ W : World, RdT W vm M → Calls Try.prog 25 #[vm] W fun e w' => ∃ v us, e = .returned (.tuple #[v, .bool f]) ∧ Tab w' W.heap.size v us E ∧ Below W.heap.size W w') := by intro W h1; rw [ef', eE']; exact sEchel_any vm M W h1
  have SKc : Hid (∀ W : World, RdT W vm M → Calls Try.prog 26 #[vm] W fun e w' => ∃ v us, e = .returned v ∧ Tab w' W.heap.size v us K ∧ Below W.heap.size W w') := by intro W h1; rw [eK']; exact sKernel_any vm M W h1
  have SRc : Hid (∀ W : World, RdT W vm M → Calls Try.prog 27 #[vm] W fun e w' => e = .returned (.int .i64 r) ∧ Below W.heap.size W w') := by intro W h1; rw [er']; exact sRank_any vm M W h1
  have STc : Hid (∀ W : World, RdT W vm M → Calls Try.prog 24 #[vm] W fun e w' => e = .returned (.bool tk) ∧ Below W.heap.size W w') := by intro W h1; rw [etk']; exact sTab_any vm M W h1
  clear ef' eE' eK' er' etk'
  go_wp2_with fail
  refine (IE.out _ HM.out).mono ?_
  rintro e w5 ⟨ve, us, rfl, ht, hb⟩
  replace HA := hidL (HA.out.below hb)
  replace HV := hidL (HV.out.below hb)
  replace HP := hidL (HP.out.below hb)
  replace HM := hidL (HM.out.below hb)
  replace HR := hidL (HR.out.below hb)
  replace HB := hidL (HB.out.trans (hb.mono HB.out.size))
  clear hb
  have HE := hidL (Tab.read ht)
  clear ht
  go_wp2_with fail
  refine (IK.out _ HM.out).mono ?_
  rintro e w6 ⟨vk, us, rfl, ht, hb⟩
  replace HA := hidL (HA.out.below hb)
  replace HV := hidL (HV.out.below hb)
  replace HP := hidL (HP.out.below hb)
  replace HM := hidL (HM.out.below hb)
  replace HE := hidL (HE.out.below hb)
  replace HR := hidL (HR.out.below hb)
  replace HB := hidL (HB.out.trans (hb.mono HB.out.size))
  clear hb
  have HK := hidL (Tab.read ht)
  clear ht
  go_wp2_with fail
  refine (IR.out _ HM.out).mono ?_
  rintro e w7 ⟨rfl, hb⟩
  replace HA := hidL (HA.out.below hb)
  replace HV := hidL (HV.out.below hb)
  replace HP := hidL (HP.out.below hb)
  replace HM := hidL (HM.out.below hb)
  replace HE := hidL (HE.out.below hb)
  replace HK := hidL (HK.out.below hb)
  replace HR := hidL (HR.out.below hb)
  replace HB := hidL (HB.out.trans (hb.mono HB.out.size))
  clear hb
  go_wp2_with fail
  refine (CT2.out _ HA.out HV.out).mono ?_
  rintro e w8 ⟨vx, us, rfl, ht, hb⟩
  replace HA := hidL (HA.out.below hb)
  replace HV := hidL (HV.out.below hb)
  replace HP := hidL (HP.out.below hb)
  replace HM := hidL (HM.out.below hb)
  replace HE := hidL (HE.out.below hb)
  replace HK := hidL (HK.out.below hb)
  replace HR := hidL (HR.out.below hb)
  replace HB := hidL (HB.out.trans (hb.mono HB.out.size))
  clear hb
  have HX := hidL (Tab.read ht)
  clear ht
  have hqq : (q != q) = false := by simp
  have htt : (tk != tk) = false := by simp
  have hff : (f != f) = false := by simp
  have hrr : (r != r) = false := by simp
  have SP : Hid (P.length ≤ 1000000000 ∧ ∀ i, i < P.length → (rw' P i).length ≤ 1000000000) := by show _ ∧ _; rw [EP.out]; exact tim_bound A B hAl
  have SE : Hid (E.length ≤ 1000000000 ∧ ∀ i, i < E.length → (rw' E i).length ≤ 1000000000) := by show _ ∧ _; rw [EE.out]; exact ech_bound M
  have SK : Hid (K.length ≤ 1000000000 ∧ ∀ i, i < K.length → (rw' K i).length ≤ 1000000000) := by show _ ∧ _; rw [EK.out]; exact ⟨by have := (kerA_small M).1; omega, fun i hi => by have := (kerA_small M).2 i hi; omega⟩
  go_wp2_with fail
  refine (likeRows_rd vp vx P _ (SP.out).1 (SP.out).2 HP.out HX.out).mono ?_
  rintro e w9 ⟨rfl, hb⟩
  replace HA := hidL (HA.out.below hb)
  replace HV := hidL (HV.out.below hb)
  replace HP := hidL (HP.out.below hb)
  replace HM := hidL (HM.out.below hb)
  replace HE := hidL (HE.out.below hb)
  replace HK := hidL (HK.out.below hb)
  replace HX := hidL (HX.out.below hb)
  replace HR := hidL (HR.out.below hb)
  replace HB := hidL (HB.out.trans (hb.mono HB.out.size))
  clear hb
  go_wp2_with fail
  refine (IT.out _ HM.out).mono ?_
  rintro e w10 ⟨rfl, hb⟩
  replace HA := hidL (HA.out.below hb)
  replace HV := hidL (HV.out.below hb)
  replace HP := hidL (HP.out.below hb)
  replace HM := hidL (HM.out.below hb)
  replace HE := hidL (HE.out.below hb)
  replace HK := hidL (HK.out.below hb)
  replace HX := hidL (HX.out.below hb)
  replace HR := hidL (HR.out.below hb)
  replace HB := hidL (HB.out.trans (hb.mono HB.out.size))
  clear hb
  go_wp2_with fail
  refine (STc.out _ HM.out).mono ?_
  rintro e w11 ⟨rfl, hb⟩
  replace HA := hidL (HA.out.below hb)
  replace HV := hidL (HV.out.below hb)
  replace HP := hidL (HP.out.below hb)
  replace HM := hidL (HM.out.below hb)
  replace HE := hidL (HE.out.below hb)
  replace HK := hidL (HK.out.below hb)
  replace HX := hidL (HX.out.below hb)
  replace HR := hidL (HR.out.below hb)
  replace HB := hidL (HB.out.trans (hb.mono HB.out.size))
  clear hb
  go_wp2_with fail
  refine (SEc.out _ HM.out).mono ?_
  rintro e w12 ⟨vy, us, rfl, ht, hb⟩
  replace HA := hidL (HA.out.below hb)
  replace HV := hidL (HV.out.below hb)
  replace HP := hidL (HP.out.below hb)
  replace HM := hidL (HM.out.below hb)
  replace HE := hidL (HE.out.below hb)
  replace HK := hidL (HK.out.below hb)
  replace HX := hidL (HX.out.below hb)
  replace HR := hidL (HR.out.below hb)
  replace HB := hidL (HB.out.trans (hb.mono HB.out.size))
  clear hb
  have HY := hidL (Tab.read ht)
  clear ht
  go_wp2_with fail
  refine (likeRows_rd ve vy E _ (SE.out).1 (SE.out).2 HE.out HY.out).mono ?_
  rintro e w13 ⟨rfl, hb⟩
  replace HA := hidL (HA.out.below hb)
  replace HV := hidL (HV.out.below hb)
  replace HP := hidL (HP.out.below hb)
  replace HM := hidL (HM.out.below hb)
  replace HE := hidL (HE.out.below hb)
  replace HK := hidL (HK.out.below hb)
  replace HX := hidL (HX.out.below hb)
  replace HY := hidL (HY.out.below hb)
  replace HR := hidL (HR.out.below hb)
  replace HB := hidL (HB.out.trans (hb.mono HB.out.size))
  clear hb
  go_wp2_with fail
  refine (SKc.out _ HM.out).mono ?_
  rintro e w14 ⟨vz, us, rfl, ht, hb⟩
  replace HA := hidL (HA.out.below hb)
  replace HV := hidL (HV.out.below hb)
  replace HP := hidL (HP.out.below hb)
  replace HM := hidL (HM.out.below hb)
  replace HE := hidL (HE.out.below hb)
  replace HK := hidL (HK.out.below hb)
  replace HX := hidL (HX.out.below hb)
  replace HY := hidL (HY.out.below hb)
  replace HR := hidL (HR.out.below hb)
  replace HB := hidL (HB.out.trans (hb.mono HB.out.size))
  clear hb
  have HZ := hidL (Tab.read ht)
  clear ht
  go_wp2_with fail
  refine (likeRows_rd vk vz K _ (SK.out).1 (SK.out).2 HK.out HZ.out).mono ?_
  rintro e w15 ⟨rfl, hb⟩
  replace HA := hidL (HA.out.below hb)
  replace HV := hidL (HV.out.below hb)
  replace HP := hidL (HP.out.below hb)
  replace HM := hidL (HM.out.below hb)
  replace HE := hidL (HE.out.below hb)
  replace HK := hidL (HK.out.below hb)
  replace HX := hidL (HX.out.below hb)
  replace HY := hidL (HY.out.below hb)
  replace HZ := hidL (HZ.out.below hb)
  replace HR := hidL (HR.out.below hb)
  replace HB := hidL (HB.out.trans (hb.mono HB.out.size))
  clear hb
  go_wp2_with fail
  refine (SRc.out _ HM.out).mono ?_
  rintro e w16 ⟨rfl, hb⟩
  replace HA := hidL (HA.out.below hb)
  replace HV := hidL (HV.out.below hb)
  replace HP := hidL (HP.out.below hb)
  replace HM := hidL (HM.out.below hb)
  replace HE := hidL (HE.out.below hb)
  replace HK := hidL (HK.out.below hb)
  replace HX := hidL (HX.out.below hb)
  replace HY := hidL (HY.out.below hb)
  replace HZ := hidL (HZ.out.below hb)
  replace HR := hidL (HR.out.below hb)
  replace HB := hidL (HB.out.trans (hb.mono HB.out.size))
  clear hb
  go_upto_if 108 with fail
  go_cut [16, 17, 18, 19, 20, 21, 22, 23] from 109 to 159 (fun s16 s17 s18 s19 s20 s21 s22 s23 wx => Hid (Below w16.heap.size w16 wx))
  case first => as_aux_lemma =>
    cases q with
    | false =>
      go_wp2
      go_meet
      case rel => exact Below.refl _ _
    | true =>
      obtain ⟨hc, hent⟩ := timO_out Eq.out.symm
      obtain ⟨-, tbB, hAB⟩ := timC_out hc
      obtain ⟨⟨tb1, tb2, tb3, tb4⟩, -⟩ := tabB_out tbB
      have HAB : Hid (timO A B = true) := Eq.out.symm
      obtain ⟨L, hL⟩ : ∃ L, L = (rw' B 0).length := ⟨_, rfl⟩
      rw [← hL] at tb3 tb4
      obtain ⟨av, cv, rfl, -, -, -, hV5⟩ := HV.out
      obtain ⟨bb, ob, u0, rfl, cb0, ⟨pb0, cb0', rfl, -, -, -, -⟩⟩ := hV5 0 (by omega)
      rw [Nat.add_zero, ← hL] at cb0
      have HVL : Hid (L = (rw' B 0).length) := hL
      clear hV5 hent hc tbB hL
      go_upto_region 17 with fail
      obtain ⟨S, hS⟩ : ∃ S, S = w16.heap.size := ⟨_, rfl⟩
      obtain ⟨X, hX⟩ : ∃ X, X = w16.alloc (.cells #[] 44) := ⟨_, rfl⟩
      have o0 : Tab X S (.slice (some ⟨S, 0, none⟩) 0 0) [] [] := by
        have := Tab.lit (W := w16) (base := S) (by omega)
        rw [hX]; simpa [hS] using this
      have HX0 : Hid (Below w16.heap.size w16 X) := by show Below _ _ _; rw [hX]; exact b0 _ _
      rw [← hX, ← hS]
      have hS2 := hS
      clear hX hS
      go_wp2
      go_loopw [16, 17] (fun c i wr => ∃ (o : Value) (k : Nat) (us : List Value) (C : List (List Fr)), k ≤ L ∧ i = .int .i64 k ∧ o = c ∧ us.length = k ∧ Hid (Tab wr S o us C) ∧ Hid (∀ x, x < C.length → (rw' C x).length = 2) ∧ Hid (Under wr.heap.size o us) ∧ Hid (Below w16.heap.size w16 wr)) (fun _ i _ => L - (intOf i).toNat)
      case atStart => exact ⟨_, 0, [], [], Nat.zero_le _, rfl, rfl, rfl, o0, fun x hx => absurd hx (by simp), o0.under, HX0.out⟩
      case round =>
        clear o0 HX0
        obtain ⟨o, k, us, C, hk, rfl, rfl, hus, hT, hC2, hU, hB⟩ := hrel
        have hsz := hB.out.size
        have d0 := cell_keep hB.out cb0
        by_cases hlt : k < L
        · have HR2 : Hid (IsRow .u8 wr a0 len cap zs) := HR.out.below hB.out
          go_wp2_with fail
          refine (part_any a0 len cap zs _ _ HR2.out hlen (by omega) (by omega)).mono ?_
          rintro e x1 ⟨n1, e1, rfl, -, -, -, -, -, hb⟩
          replace HR2 := hidL (HR2.out.below hb)
          replace hT := hidL (hT.out.below hb)
          replace hB := hidL (hB.out.trans (hb.mono (by have := hB.out.size; omega)))
          have hz1 := hb.size
          clear hb d0
          go_wp2_with fail
          refine (part_any a0 len cap zs _ _ HR2.out hlen (by omega) (by omega)).mono ?_
          rintro e x2 ⟨n2, e2, rfl, -, -, -, -, -, hb⟩
          replace hT := hidL (hT.out.below hb)
          replace hB := hidL (hB.out.trans (hb.mono (by have := hB.out.size; omega)))
          have hz2 := hb.size
          clear hb HR2
          have hTl := hT.out.len
          have hjm : us.length + 1 ≤ maxLen := by unfold maxLen; omega
          obtain ⟨RO, hRO⟩ : ∃ O, O = Obj.cells #[.int .i64 n1, .int .i64 e1, .int .i64 n2, .int .i64 e2] 25 := ⟨_, rfl⟩
          have NW : ∀ j u, [Value.slice (some ⟨x2.heap.size, 0, none⟩) 2 2][j]? = some u → ((x2.alloc (.cells #[.int .i64 n1, .int .i64 e1, .int .i64 n2, .int .i64 e2] 25)).alloc (.cells #[.slice (some ⟨x2.heap.size, 0, none⟩) 2 2] 44)).cell? ((⟨x2.heap.size + 1, 0, none⟩ : Addr).add j) = some u := by
            have := cell_one_new (x2.alloc (.cells #[.int .i64 n1, .int .i64 e1, .int .i64 n2, .int .i64 e2] 25)) (.slice (some ⟨x2.heap.size, 0, none⟩) 2 2) 44
            simpa using this
          have T2 := hT.out.below (b0 x2 (.cells #[.int .i64 n1, .int .i64 e1, .int .i64 n2, .int .i64 e2] 25))
          have hSx : S ≤ x2.heap.size := by omega
          have OW : (x2.alloc (.cells #[.int .i64 n1, .int .i64 e1, .int .i64 n2, .int .i64 e2] 25)).ownsRow S 25 2 (.slice (some ⟨x2.heap.size, 0, none⟩) 2 2) [(n1, e1), (n2, e2)].length (cellsR [(n1, e1), (n2, e2)]) :=
            ⟨by simp [cellsR], .inr ⟨x2.heap.size, 2, #[.int .i64 n1, .int .i64 e1, .int .i64 n2, .int .i64 e2], rfl, hSx, by first | exact heap_alloc_new _ _ | (simp [World.alloc]), by simp, by unfold maxLen; omega, rfl, rfl⟩⟩
          clear hRO RO
          go_wp2_with (at_builtin; refine wpList_append_own _ rfl _ _ 33 rfl S 44 t0 (.slice none 0 0) 1 24 Try.underlying33 hti htz0 htz1 htz2 rfl (by decide) _ _ _ rfl (T2.outer.alloc _) ⟨x2.heap.size + 1, 0, none⟩ 1 1 [.slice (some ⟨x2.heap.size, 0, none⟩) 2 2] rfl rfl NW (by simp [Value.oneCell']) (by omega) (by omega) (by simp; omega) ?_; intro v' w5 hown' hgrow _)
          go_roundw
          case rel =>
            subst hS2
            have T5 := T2.append (ps := [(n1, e1), (n2, e2)]) (u := .slice (some ⟨x2.heap.size, 0, none⟩) 2 2) OW (fun i hi b' e h2 => by
              have h1 := hU.out.2 i hi b' e
              simp [Value.ownBlock] at h2
              omega) hown' hgrow
            refine ⟨_, _, _, _, _, _, _, _, _, _, _, _, _, _, _, _, _, _, _, _, _, ?_, rfl⟩
            refine ⟨v', k + 1, us ++ [.slice (some ⟨x2.heap.size, 0, none⟩) 2 2], C ++ [[(n1, e1), (n2, e2)]], by omega, by go_num, rfl, by simp [hus], hidL T5, ?_, hidL T5.under, ?_⟩
            · intro x hx
              rw [List.length_append, List.length_singleton] at hx
              rw [rw_app _ _ _ hx]
              split
              · exact hC2.out x (by omega)
              · rfl
            · have hba := below_appended T2.outer (by simp; omega) hgrow
              have := (hB.out.trans ((b0 x2 _).mono (by omega))).trans (hba.mono (by omega))
              exact this
          case measure => simp [intOf]; omega
        · obtain rfl : k = L := by omega
          have hCl : C.length = k := by rw [← hT.out.len]; exact hus
          have HC := hidL (Tab.read hT.out)
          have HAr := hidL (HA.out.below hB.out)
          have HVr := hidL (HV.out.below hB.out)
          have HPr := hidL (HP.out.below hB.out)
          obtain ⟨one, e1⟩ : ∃ x, x = timO B C := ⟨_, rfl⟩
          obtain ⟨BC, e2⟩ : ∃ x, x = timA B C := ⟨_, rfl⟩
          obtain ⟨two, e3⟩ : ∃ x, x = timO A BC := ⟨_, rfl⟩
          obtain ⟨Lf, e4⟩ : ∃ x, x = timA A BC := ⟨_, rfl⟩
          obtain ⟨three, e5⟩ : ∃ x, x = timO P C := ⟨_, rfl⟩
          obtain ⟨Rt, e6⟩ : ∃ x, x = timA P C := ⟨_, rfl⟩
          have HAS : Hid (one = true → two = true → three = true → Lf = Rt) := by
            intro q1 q2 q3
            have eP := EP.out
            rw [e1] at q1
            rw [e3, e2] at q2
            rw [e5, eP] at q3
            rw [e4, e6, e2, eP]
            exact tim_assoc HAB.out q1 q2 q3 tb1 (by omega)
          have SL : Hid (Lf.length ≤ 1000000000 ∧ ∀ i, i < Lf.length → (rw' Lf i).length ≤ 1000000000) := by show _ ∧ _; rw [e4]; exact tim_bound A BC hAl
          have C1 : Hid (∀ W : World, RdT W (.slice (some ⟨bb, ob, none⟩) B.length cv) B → RdT W o C → Calls Try.prog 16 #[.slice (some ⟨bb, ob, none⟩) B.length cv, o] W fun e w' => ∃ v us, e = .returned (.tuple #[v, .bool one]) ∧ Tab w' W.heap.size v us BC ∧ Below W.heap.size W w') := by intro W h1 h2; rw [e1, e2]; exact iTimes_any _ o B C W h1 h2
          have C2 : Hid (∀ (W : World) (u : Value), RdT W va A → RdT W u BC → Calls Try.prog 16 #[va, u] W fun e w' => ∃ v us, e = .returned (.tuple #[v, .bool two]) ∧ Tab w' W.heap.size v us Lf ∧ Below W.heap.size W w') := by intro W u h1 h2; rw [e3, e4]; exact iTimes_any va u A BC W h1 h2
          have C3 : Hid (∀ W : World, RdT W vp P → RdT W o C → Calls Try.prog 16 #[vp, o] W fun e w' => ∃ v us, e = .returned (.tuple #[v, .bool three]) ∧ Tab w' W.heap.size v us Rt ∧ Below W.heap.size W w') := by intro W h1 h2; rw [e5, e6]; exact iTimes_any vp o P C W h1 h2
          clear e1 e2 e3 e4 e5 e6 hT hU hC2 cb0 hS2 HA HV HP HE HK HX HY HZ HM HVL HAB
          go_wp2_with fail
          refine (C1.out _ HVr.out HC.out).mono ?_
          rintro e x1 ⟨vbc, us1, rfl, ht, hb⟩
          have HBC := hidL (Tab.read ht)
          replace HC := hidL (HC.out.below hb)
          replace HAr := hidL (HAr.out.below hb)
          replace HPr := hidL (HPr.out.below hb)
          replace hB := hidL (hB.out.trans (hb.mono hB.out.size))
          clear hb ht HVr C1
          go_wp2_with fail
          refine (C2.out _ _ HAr.out HBC.out).mono ?_
          rintro e x2 ⟨vl', us2, rfl, ht, hb⟩
          have HLf := hidL (Tab.read ht)
          replace HC := hidL (HC.out.below hb)
          replace HPr := hidL (HPr.out.below hb)
          replace hB := hidL (hB.out.trans (hb.mono hB.out.size))
          clear hb ht HAr HBC C2
          go_wp2_with fail
          refine (C3.out _ HPr.out HC.out).mono ?_
          rintro e x3 ⟨vr', us3, rfl, ht, hb⟩
          have HRt := hidL (Tab.read ht)
          replace HLf := hidL (HLf.out.below hb)
          replace hB := hidL (hB.out.trans (hb.mono hB.out.size))
          clear hb ht HPr HC C3
          cases one
          · go_wp2_with fail
            go_meet
            case rel => exact hB.out
          · cases two
            · go_wp2_with fail
              go_meet
              case rel => exact hB.out
            · cases three
              · go_wp2_with fail
                go_meet
                case rel => exact hB.out
              · obtain rfl : Lf = Rt := HAS.out rfl rfl rfl
                go_wp2_with fail
                refine (likeRows_rd vl' vr' Lf _ SL.out.1 SL.out.2 HLf.out HRt.out).mono ?_
                rintro e x4 ⟨rfl, hb⟩
                replace hB := hidL (hB.out.trans (hb.mono hB.out.size))
                clear hb
                go_wp2_with fail
                go_meet
                case rel => exact hB.out
  case rest => as_aux_lemma =>
    have hb := hcut.out
    clear hcut CT CT2 HA HV HP HX HY HZ
    replace HM := hidL (HM.out.below hb)
    replace HE := hidL (HE.out.below hb)
    replace HK := hidL (HK.out.below hb)
    replace HR := hidL (HR.out.below hb)
    replace HB := hidL (HB.out.trans (hb.mono HB.out.size))
    clear hb
    obtain ⟨wq, hwq⟩ : ∃ x, x = wc := ⟨_, rfl⟩
    subst hwq
    cases f with
    | false =>
      have hr1 : r = -1 := by rw [Er.out]; unfold rkI; rw [if_neg (by rw [← Ef.out]; simp)]
      have hK0 : K = [] := by rw [EK.out]; exact kerA_no Ef.out.symm
      subst hr1
      subst hK0
      obtain ⟨ak, ck, rfl, -, -, -, -⟩ := HK.out
      rw [List.length_nil]
      have hz0 : ((0 : Nat) : Int) = 0 := rfl
      go_wp2
      go_ret
      exact ⟨rfl, HB.out⟩
    | true =>
      have hE : echO M = true := Ef.out.symm
      have h' := hE
      unfold echO at h'
      rw [Bool.and_eq_true] at h'
      obtain ⟨⟨t1, t2, t3, t4⟩, tr⟩ := tabB_out h'.1
      obtain ⟨n, hn⟩ : ∃ n, n = M.length := ⟨_, rfl⟩
      obtain ⟨L, hL⟩ : ∃ L, L = (rw' M 0).length := ⟨_, rfl⟩
      obtain ⟨kn, hkn⟩ : ∃ kn, kn = K.length := ⟨_, rfl⟩
      obtain ⟨rk, hrk⟩ : ∃ x, x = (echC M).length := ⟨_, rfl⟩
      have hr1 : r = (rk : Int) := by rw [Er.out, hrk]; unfold rkI; rw [if_pos hE]
      have hsum : rk + kn = L := by rw [hrk, hkn, hL, EK.out]; exact rank_ker hE
      subst hr1
      have KF : Hid (∀ i, i < kn → (rw' K i).length = L ∧ (∀ j, j < n → (chkS (rw' M j) (rw' K i) L).2 = true → (chkS (rw' M j) (rw' K i) L).1 = (0, 1)) ∧ ∃ c, c < L ∧ fr (rw' K i) c ≠ (0, 1)) := by
        intro i hi
        rw [hL, hn, EK.out]
        exact ker_facts hE i (by rw [← EK.out, ← hkn]; exact hi)
      have MF : Hid (∀ j, j < n → (rw' M j).length = L) := fun j hj => by rw [hL]; exact (tr j (by omega)).1
      have IE2 : Hid (∀ W : World, RdT W ve E → Calls Try.prog 18 #[ve] W fun e w' => ∃ v us, e = .returned (.tuple #[v, .bool true]) ∧ Tab w' W.heap.size v us E ∧ Below W.heap.size W w') := by
        intro W h1
        have h2 := iEchel_any ve E W h1
        have h3 : E = echR M := by rw [EE.out]; exact (echO_yes hE).1
        obtain ⟨a1, a2⟩ := ech_again hE
        rw [← h3] at a1 a2
        rw [a1, (echO_yes a1).1, a2] at h2
        exact h2
      rw [← hL] at t3 t4
      rw [← hn] at t1 t2
      obtain ⟨bm, om, cm, us, rfl, hm1, hm2, hus, hmc⟩ := rdt_vals HM.out (by omega)
      rw [← hn] at hm1 hus hmc ⊢
      obtain ⟨ak, ck, rfl, hk1, hk2, hk3, hk5⟩ := HK.out
      rw [← hkn] at hk1 hk2 hk5 ⊢
      have HMC := hidL hmc
      have HK5 := hidL hk5
      clear h' hE tr hrk hkn hmc hk5 hn hL HK HM EK EE Er Ef Etk Eq EP SP SK IE IK IR IT SEc SKc SRc STc hqq htt hff hrr HR
      go_wp2
      go_loopw [24] (fun i wr => ∃ k : Nat, i = .int .i64 k ∧ k ≤ kn ∧ Hid (Below wq.heap.size wq wr)) (fun i _ => kn - (intOf i).toNat)
      case atStart => exact ⟨0, rfl, by omega, Below.refl _ _⟩
      case round =>
        obtain ⟨k, rfl, hk, hB⟩ := hrel
        have hszr := hB.out.size
        by_cases hkk : k < kn
        · have hki : ((k : Nat) : Int) < (kn : Int) := by omega
          obtain ⟨bk, ok, u, e0, ck0, hrk⟩ := HK5.out k hkk
          subst e0
          obtain ⟨hl1, hKC, hNO⟩ := KF.out k hkk
          obtain ⟨bi, oi, li, ek, hic⟩ := rdr_vals hrk (by omega)
          rw [hl1] at ek hic
          subst ek
          have HKC := hidL hKC
          have HIC := hidL hic
          have HNO := hidL hNO
          have CK := hidL ck0
          have HKR : Hid (RdR wq (.slice (some ⟨bi, oi, none⟩) L li) (rw' K k)) := hrk
          have HLK := hidL hl1
          clear hKC hNO hic ck0 hrk hl1
          go_wp2
          go_loopw [25] (fun j wr => ∃ x : Nat, j = .int .i64 x ∧ x ≤ n ∧ Hid (Below wq.heap.size wq wr)) (fun j _ => n - (intOf j).toNat)
          case atStart => exact ⟨0, rfl, by omega, hB.out⟩
          case round =>
            clear hB hszr
            obtain ⟨j, rfl, hj, hB⟩ := hrel
            have hszr := hB.out.size
            by_cases hjn : j < n
            · have hji : ((j : Nat) : Int) < (n : Int) := by omega
              obtain ⟨cj, hrj⟩ := HMC.out j hjn
              obtain ⟨bj, oj, lj, ej, hjc⟩ := rdr_vals hrj (by rw [MF.out j hjn]; omega)
              rw [MF.out j hjn] at ej hjc
              rw [ej] at cj
              have HJC := hidL hjc
              have CJ := hidL cj
              clear hjc cj ej hrj
              go_wp2_with fail
              refine (whole_any _ _).mono ?_
              rintro e w5 ⟨rfl, hw⟩
              obtain ⟨Z, hZ⟩ : ∃ g, g = w5.heap.size := ⟨_, rfl⟩
              obtain ⟨Y, hY⟩ : ∃ X, X = w5.alloc (.cells #[.int .i64 0, .int .i64 1] 25) := ⟨_, rfl⟩
              have h5 : Below wr.heap.size wr w5 := by rw [hw]; exact b0 _ _
              have BY : Below wq.heap.size wq Y := by rw [hY]; exact hB.out.trans ((h5.trans ((b0 _ _).mono h5.size)).mono hszr)
              have rS : IsR Y Z 0 1 := by rw [hY, hZ]; exact IsR.new w5 0 1
              have hZ4 : wq.heap.size ≤ Z := by rw [hZ]; have := h5.size; omega
              have BY2 := hidL BY
              have RS2 := hidL rS
              clear hw h5 hB hszr BY rS
              go_wp2_with fail
              rw [← hY, ← hZ]
              clear hY hZ
              go_loopw [27, 28] (fun g j' wr => ∃ (r : Fr × Bool) (m : Nat), g = .bool r.2 ∧ j' = .int .i64 m ∧ m ≤ L ∧ Hid (r = chkS (rw' M j) (rw' K k) m) ∧ Hid (IsR wr Z r.1.1 r.1.2) ∧ Hid (Below wq.heap.size wq wr)) (fun _ j' _ => L - (intOf j').toNat)
              case atStart => exact ⟨((0, 1), true), 0, rfl, rfl, by omega, rfl, RS2.out, BY2.out⟩
              case round =>
                clear RS2 BY2
                obtain ⟨⟨⟨r1, r2⟩, g⟩, m, rfl, rfl, hm, HRR, hS, hB⟩ := hrel
                have hszr := hB.out.size
                have c2 := cell_keep hB.out CK.out
                by_cases hmn : m < L
                · have hmi : ((m : Nat) : Int) < (L : Int) := by omega
                  have c1 := cell_keep hB.out CJ.out
                  obtain ⟨y1, y2⟩ := HJC.out m hmn
                  replace y1 := cell_keep hB.out y1
                  replace y2 := cell_keep hB.out y2
                  obtain ⟨x1, x2⟩ := HIC.out m hmn
                  replace x1 := cell_keep hB.out x1
                  replace x2 := cell_keep hB.out x2
                  obtain ⟨p, hp⟩ : ∃ p, p = fr (rw' M j) m := ⟨_, rfl⟩
                  obtain ⟨s, hs⟩ : ∃ p, p = fr (rw' K k) m := ⟨_, rfl⟩
                  have HPS : Hid (p = fr (rw' M j) m ∧ s = fr (rw' K k) m) := ⟨hp, hs⟩
                  rw [← hp] at y1 y2
                  rw [← hs] at x1 x2
                  obtain ⟨p1, p2⟩ := p
                  obtain ⟨s1, s2⟩ := s
                  dsimp only at y1 y2 x1 x2
                  have l1 := lt_cell c1
                  have l2 := lt_cell y1
                  have l3 := lt_cell x1
                  have l4 := lt_cell c2
                  obtain ⟨q, hq⟩ : ∃ q, q = mulP (p1, p2) (s1, s2) := ⟨_, rfl⟩
                  obtain ⟨qo, hqo⟩ : ∃ q, q = mulK (p1, p2) (s1, s2) := ⟨_, rfl⟩
                  have HQQ : Hid (q = mulP (p1, p2) (s1, s2) ∧ qo = mulK (p1, p2) (s1, s2)) := ⟨hq, hqo⟩
                  obtain ⟨q1, q2⟩ := q
                  have HMu : Hid (∀ u : World, Calls Try.prog 30 #[.agg #[.int .i64 p1, .int .i64 p2], .agg #[.int .i64 s1, .int .i64 s2]] u fun e w' => e = .returned (.tuple #[.agg #[.int .i64 q1, .int .i64 q2], .bool qo]) ∧ Below u.heap.size u w') := by
                    intro u
                    have h9 := sMul_any p1 p2 s1 s2 u
                    rw [hqo, show q1 = (mulP (p1, p2) (s1, s2)).1 by rw [← hq], show q2 = (mulP (p1, p2) (s1, s2)).2 by rw [← hq]]
                    exact h9
                  have hZl := hS.out.lt
                  clear hp hs hq hqo
                  go_upto_region 39 with fail
                  go_cut [29, 30] from 182 to 222 (fun x13 x14 wx => ∃ P, x13 = .pointer (some ⟨P, 0, none⟩) ∧ x14 = .bool qo ∧ wr.heap.size ≤ P ∧ Hid (IsR wx P q1 q2) ∧ Hid (Below wr.heap.size wr wx))
                  case first =>
                    refine wp_region_noPanic ?_
                    refine wp_region_held_drew (S := (fun w' => w'.cell? ⟨bm, om + j, none⟩ = some (.slice (some ⟨bj, oj, none⟩) L lj) ∧ w'.cell? ⟨bj, oj + m * 2, none⟩ = some (.int .i64 p1) ∧ w'.cell? ⟨bj, oj + m * 2 + 1, none⟩ = some (.int .i64 p2) ∧ w'.cell? ⟨bk, ok + k, none⟩ = some (.slice (some ⟨bi, oi, none⟩) L li) ∧ w'.cell? ⟨bi, oi + m * 2, none⟩ = some (.int .i64 s1) ∧ w'.cell? ⟨bi, oi + m * 2 + 1, none⟩ = some (.int .i64 s2))) (by kernel_rfl) ?_ (fun hHeld => ?_)
                    · (try dsimp only)
                      refine ⟨?_, ?_, ?_, ?_, ?_, ?_⟩ <;> (repeat (with_reducible (first | exact c1 | exact y1 | exact y2 | exact c2 | exact x1 | exact x2 | refine cell_dr ?_ | refine cell_al _ ?_ | refine cell_stb ?_ ?_ | (show _ ≠ _; omega))))
                    refine wpAnyH_take (i := 0) (v := ?_) rfl (by kernel_rfl) (by kernel_rfl) (by kernel_rfl) (fun _ _ _ h => h) (Or.inl ⟨by kernel_rfl, ?_⟩) hHeld ?_
                    rotate_left
                    · intro wz hSw; (try dsimp only at hSw); go_simp; all_goals (try with_reducible rfl)
                    (try simp only [List.getElem_toArray]); (try simp only [List.getElem_cons_succ]); (try simp only [List.getElem_cons_zero]); (try simp only [Act.put]); (try simp only [List.setIfInBounds_toArray]); (try simp only [List.set_cons_succ]); (try simp only [List.set_cons_zero])
                    refine wpAnyH_take (i := 1) (v := ?_) rfl (by kernel_rfl) (by kernel_rfl) (by kernel_rfl) (fun _ _ _ h => h) (Or.inl ⟨by kernel_rfl, ?_⟩) hHeld ?_
                    rotate_left
                    · intro wz hSw; (try dsimp only at hSw); go_simp; all_goals (try with_reducible rfl)
                    (try simp only [List.getElem_toArray]); (try simp only [List.getElem_cons_succ]); (try simp only [List.getElem_cons_zero]); (try simp only [Act.put]); (try simp only [List.setIfInBounds_toArray]); (try simp only [List.set_cons_succ]); (try simp only [List.set_cons_zero])
                    refine wpAnyH_take (i := 2) (v := ?_) rfl (by kernel_rfl) (by kernel_rfl) (by kernel_rfl) (fun _ _ _ h => h) (Or.inl ⟨by kernel_rfl, ?_⟩) hHeld ?_
                    rotate_left
                    · intro wz hSw; (try dsimp only at hSw); go_simp; all_goals (try with_reducible rfl)
                    (try simp only [List.getElem_toArray]); (try simp only [List.getElem_cons_succ]); (try simp only [List.getElem_cons_zero]); (try simp only [Act.put]); (try simp only [List.setIfInBounds_toArray]); (try simp only [List.set_cons_succ]); (try simp only [List.set_cons_zero])
                    refine wpAnyH_take (i := 3) (v := ?_) rfl (by kernel_rfl) (by kernel_rfl) (by kernel_rfl) (fun _ _ _ h => h) (Or.inl ⟨by kernel_rfl, ?_⟩) hHeld ?_
                    rotate_left
                    · intro wz hSw; (try dsimp only at hSw); go_simp; all_goals (try with_reducible rfl)
                    (try simp only [List.getElem_toArray]); (try simp only [List.getElem_cons_succ]); (try simp only [List.getElem_cons_zero]); (try simp only [Act.put]); (try simp only [List.setIfInBounds_toArray]); (try simp only [List.set_cons_succ]); (try simp only [List.set_cons_zero])
                    refine wpAnyH_take (i := 4) (v := ?_) rfl (by kernel_rfl) (by kernel_rfl) (by kernel_rfl) (fun _ _ _ h => h) (Or.inl ⟨by kernel_rfl, ?_⟩) hHeld ?_
                    rotate_left
                    · intro wz hSw; (try dsimp only at hSw); go_simp; all_goals (try with_reducible rfl)
                    (try simp only [List.getElem_toArray]); (try simp only [List.getElem_cons_succ]); (try simp only [List.getElem_cons_zero]); (try simp only [Act.put]); (try simp only [List.setIfInBounds_toArray]); (try simp only [List.set_cons_succ]); (try simp only [List.set_cons_zero])
                    refine wpAnyH_take (i := 5) (v := ?_) rfl (by kernel_rfl) (by kernel_rfl) (by kernel_rfl) (fun _ _ _ h => h) (Or.inl ⟨by kernel_rfl, ?_⟩) hHeld ?_
                    rotate_left
                    · intro wz hSw; (try dsimp only at hSw); go_simp; all_goals (try with_reducible rfl)
                    (try simp only [List.getElem_toArray]); (try simp only [List.getElem_cons_succ]); (try simp only [List.getElem_cons_zero]); (try simp only [Act.put]); (try simp only [List.setIfInBounds_toArray]); (try simp only [List.set_cons_succ]); (try simp only [List.set_cons_zero])
                    refine wpAnyH_take (i := 6) (v := ?_) rfl (by kernel_rfl) (by kernel_rfl) (by kernel_rfl) (fun _ _ _ h => h) (Or.inl ⟨by kernel_rfl, ?_⟩) hHeld ?_
                    rotate_left
                    · intro wz hSw; (try dsimp only at hSw); go_simp; all_goals (try with_reducible rfl)
                    (try simp only [List.getElem_toArray]); (try simp only [List.getElem_cons_succ]); (try simp only [List.getElem_cons_zero]); (try simp only [Act.put]); (try simp only [List.setIfInBounds_toArray]); (try simp only [List.set_cons_succ]); (try simp only [List.set_cons_zero])
                    refine wpAnyH_take (i := 7) (v := ?_) rfl (by kernel_rfl) (by kernel_rfl) (by kernel_rfl) (fun _ _ _ h => h) (Or.inl ⟨by kernel_rfl, ?_⟩) hHeld ?_
                    rotate_left
                    · intro wz hSw; (try dsimp only at hSw); go_simp; all_goals (try with_reducible rfl)
                    (try simp only [List.getElem_toArray]); (try simp only [List.getElem_cons_succ]); (try simp only [List.getElem_cons_zero]); (try simp only [Act.put]); (try simp only [List.setIfInBounds_toArray]); (try simp only [List.set_cons_succ]); (try simp only [List.set_cons_zero])
                    refine wpAnyH_take (i := 8) (v := ?_) rfl (by kernel_rfl) (by kernel_rfl) (by kernel_rfl) (fun _ _ _ h => h) (Or.inl ⟨by kernel_rfl, ?_⟩) hHeld ?_
                    rotate_left
                    · intro wz hSw; (try dsimp only at hSw); go_simp; all_goals (try with_reducible rfl)
                    (try simp only [List.getElem_toArray]); (try simp only [List.getElem_cons_succ]); (try simp only [List.getElem_cons_zero]); (try simp only [Act.put]); (try simp only [List.setIfInBounds_toArray]); (try simp only [List.set_cons_succ]); (try simp only [List.set_cons_zero])
                    refine wpAnyH_take (i := 9) (v := ?_) rfl (by kernel_rfl) (by kernel_rfl) (by kernel_rfl) (fun _ _ _ h => h) (Or.inl ⟨by kernel_rfl, ?_⟩) hHeld ?_
                    rotate_left
                    · intro wz hSw; (try dsimp only at hSw); go_simp; all_goals (try with_reducible rfl)
                    (try simp only [List.getElem_toArray]); (try simp only [List.getElem_cons_succ]); (try simp only [List.getElem_cons_zero]); (try simp only [Act.put]); (try simp only [List.setIfInBounds_toArray]); (try simp only [List.set_cons_succ]); (try simp only [List.set_cons_zero])
                    refine wpAnyH_take (i := 10) (v := ?_) rfl (by kernel_rfl) (by kernel_rfl) (by kernel_rfl) (fun _ _ _ h => h) (Or.inl ⟨by kernel_rfl, ?_⟩) hHeld ?_
                    rotate_left
                    · intro wz hSw; (try dsimp only at hSw); go_simp; all_goals (try with_reducible rfl)
                    (try simp only [List.getElem_toArray]); (try simp only [List.getElem_cons_succ]); (try simp only [List.getElem_cons_zero]); (try simp only [Act.put]); (try simp only [List.setIfInBounds_toArray]); (try simp only [List.set_cons_succ]); (try simp only [List.set_cons_zero])
                    refine wpAnyH_take (i := 11) (v := ?_) rfl (by kernel_rfl) (by kernel_rfl) (by kernel_rfl) (fun _ _ _ h => h) (Or.inl ⟨by kernel_rfl, ?_⟩) hHeld ?_
                    rotate_left
                    · intro wz hSw; (try dsimp only at hSw); go_simp; all_goals (try with_reducible rfl)
                    (try simp only [List.getElem_toArray]); (try simp only [List.getElem_cons_succ]); (try simp only [List.getElem_cons_zero]); (try simp only [Act.put]); (try simp only [List.setIfInBounds_toArray]); (try simp only [List.set_cons_succ]); (try simp only [List.set_cons_zero])
                    refine wpAnyH_take (i := 12) (v := ?_) rfl (by kernel_rfl) (by kernel_rfl) (by kernel_rfl) (fun _ _ _ h => h) (Or.inl ⟨by kernel_rfl, ?_⟩) hHeld ?_
                    rotate_left
                    · intro wz hSw; (try dsimp only at hSw); go_simp; all_goals (try with_reducible rfl)
                    (try simp only [List.getElem_toArray]); (try simp only [List.getElem_cons_succ]); (try simp only [List.getElem_cons_zero]); (try simp only [Act.put]); (try simp only [List.setIfInBounds_toArray]); (try simp only [List.set_cons_succ]); (try simp only [List.set_cons_zero])
                    refine wpAnyH_take (i := 13) (v := ?_) rfl (by kernel_rfl) (by kernel_rfl) (by kernel_rfl) (fun _ _ _ h => h) (Or.inl ⟨by kernel_rfl, ?_⟩) hHeld ?_
                    rotate_left
                    · intro wz hSw; (try dsimp only at hSw); go_simp; all_goals (try with_reducible rfl)
                    (try simp only [List.getElem_toArray]); (try simp only [List.getElem_cons_succ]); (try simp only [List.getElem_cons_zero]); (try simp only [Act.put]); (try simp only [List.setIfInBounds_toArray]); (try simp only [List.set_cons_succ]); (try simp only [List.set_cons_zero])
                    refine wpAnyH_ready (rs := [14, 18]) (by kernel_rfl) (by simp) (AllReadyH.cons rfl (fun Kc hKc => ?_) (AllReadyH.cons rfl (fun Kc hKc => ?_) AllReadyH.nil))
                    · go_simp
                      (go_at_call 30; refine (HMu.out _).mono ?_; rintro e w2 ⟨rfl, hb2⟩)
                      have hbd : Below wr.heap.size wr w2 := ((Below.refl _ _).drew).trans (hb2.mono (by simp))
                      have c1 := cell_keep hbd c1
                      have y1 := cell_keep hbd y1
                      have y2 := cell_keep hbd y2
                      have c2 := cell_keep hbd c2
                      have x1 := cell_keep hbd x1
                      have x2 := cell_keep hbd x2
                      have hsw := hbd.size
                      clear hb2
                      go_wp2_with fail
                      refine hKc.out _ _ ?_ (fun hHeld => ?_)
                      · (try dsimp only)
                        refine ⟨?_, ?_, ?_, ?_, ?_, ?_⟩ <;> (repeat (with_reducible (first | exact c1 | exact y1 | exact y2 | exact c2 | exact x1 | exact x2 | refine cell_dr ?_ | refine cell_al _ ?_ | refine cell_stb ?_ ?_ | (show _ ≠ _; omega))))
                      clear hKc Kc
                      (try simp only [List.getElem_toArray]); (try simp only [List.getElem_cons_succ]); (try simp only [List.getElem_cons_zero]); (try simp only [Act.put]); (try simp only [List.setIfInBounds_toArray]); (try simp only [List.set_cons_succ]); (try simp only [List.set_cons_zero])
                      refine wpAnyH_take (i := 15) (v := ?_) rfl (by kernel_rfl) (by kernel_rfl) (by kernel_rfl) (fun _ _ _ h => h) (Or.inl ⟨by kernel_rfl, ?_⟩) hHeld ?_
                      rotate_left
                      · intro wz hSw; (try dsimp only at hSw); go_simp; all_goals (try with_reducible rfl)
                      (try simp only [List.getElem_toArray]); (try simp only [List.getElem_cons_succ]); (try simp only [List.getElem_cons_zero]); (try simp only [Act.put]); (try simp only [List.setIfInBounds_toArray]); (try simp only [List.set_cons_succ]); (try simp only [List.set_cons_zero])
                      refine wpAnyH_take (i := 16) (v := ?_) rfl (by kernel_rfl) (by kernel_rfl) (by kernel_rfl) (fun _ _ _ h => h) (Or.inl ⟨by kernel_rfl, ?_⟩) hHeld ?_
                      rotate_left
                      · intro wz hSw; (try dsimp only at hSw); go_simp; all_goals (try with_reducible rfl)
                      (try simp only [List.getElem_toArray]); (try simp only [List.getElem_cons_succ]); (try simp only [List.getElem_cons_zero]); (try simp only [Act.put]); (try simp only [List.setIfInBounds_toArray]); (try simp only [List.set_cons_succ]); (try simp only [List.set_cons_zero])
                      refine wpAnyH_take (i := 17) (v := ?_) rfl (by kernel_rfl) (by kernel_rfl) (by kernel_rfl) (fun _ _ _ h => h) (Or.inl ⟨by kernel_rfl, ?_⟩) hHeld ?_
                      rotate_left
                      · intro wz hSw; (try dsimp only at hSw); go_simp; all_goals (try with_reducible rfl)
                      (try simp only [List.getElem_toArray]); (try simp only [List.getElem_cons_succ]); (try simp only [List.getElem_cons_zero]); (try simp only [Act.put]); (try simp only [List.setIfInBounds_toArray]); (try simp only [List.set_cons_succ]); (try simp only [List.set_cons_zero])
                      refine wpAnyH_ready (rs := [18]) (by kernel_rfl) (by simp) (AllReadyH.cons rfl (fun Kc hKc => ?_) AllReadyH.nil)
                      go_simp
                      refine hKc.out _ _ ?_ (fun hHeld => ?_)
                      · (try dsimp only)
                        refine ⟨?_, ?_, ?_, ?_, ?_, ?_⟩ <;> (repeat (with_reducible (first | exact c1 | exact y1 | exact y2 | exact c2 | exact x1 | exact x2 | refine cell_dr ?_ | refine cell_al _ ?_ | refine cell_stb ?_ ?_ | (show _ ≠ _; omega))))
                      clear hKc Kc
                      (try simp only [List.getElem_toArray]); (try simp only [List.getElem_cons_succ]); (try simp only [List.getElem_cons_zero]); (try simp only [Act.put]); (try simp only [List.setIfInBounds_toArray]); (try simp only [List.set_cons_succ]); (try simp only [List.set_cons_zero])
                      refine wpAnyH_ready (rs := [19]) (by kernel_rfl) (by simp) (AllReadyH.cons rfl (fun Kc hKc => ?_) AllReadyH.nil)
                      go_simp
                      refine hKc.out _ _ ?_ (fun hHeld => ?_)
                      · (try dsimp only)
                        refine ⟨?_, ?_, ?_, ?_, ?_, ?_⟩ <;> (repeat (with_reducible (first | exact c1 | exact y1 | exact y2 | exact c2 | exact x1 | exact x2 | refine cell_dr ?_ | refine cell_al _ ?_ | refine cell_stb ?_ ?_ | (show _ ≠ _; omega))))
                      clear hKc Kc
                      (try simp only [List.getElem_toArray]); (try simp only [List.getElem_cons_succ]); (try simp only [List.getElem_cons_zero]); (try simp only [Act.put]); (try simp only [List.setIfInBounds_toArray]); (try simp only [List.set_cons_succ]); (try simp only [List.set_cons_zero])
                      refine wpAnyH_take (i := 20) (v := ?_) rfl (by kernel_rfl) (by kernel_rfl) (by kernel_rfl) (fun _ _ _ h => h) (Or.inl ⟨by kernel_rfl, ?_⟩) hHeld ?_
                      rotate_left
                      · intro wz hSw; (try dsimp only at hSw); go_simp; all_goals (try with_reducible rfl)
                      (try simp only [List.getElem_toArray]); (try simp only [List.getElem_cons_succ]); (try simp only [List.getElem_cons_zero]); (try simp only [Act.put]); (try simp only [List.setIfInBounds_toArray]); (try simp only [List.set_cons_succ]); (try simp only [List.set_cons_zero])
                      refine wpAnyH_done (by kernel_rfl) ?_ _
                      refine NoPanic.normal ?_
                      go_wp2
                      go_meet
                      case rel => exact ⟨w2.heap.size, rfl, rfl, by omega, IsR.new w2 q1 q2, hbd.alloc hsw _⟩
                    · go_simp
                      refine hKc.out _ _ ?_ (fun hHeld => ?_)
                      · (try dsimp only)
                        refine ⟨?_, ?_, ?_, ?_, ?_, ?_⟩ <;> (repeat (with_reducible (first | exact c1 | exact y1 | exact y2 | exact c2 | exact x1 | exact x2 | refine cell_dr ?_ | refine cell_al _ ?_ | refine cell_stb ?_ ?_ | (show _ ≠ _; omega))))
                      clear hKc Kc
                      (try simp only [List.getElem_toArray]); (try simp only [List.getElem_cons_succ]); (try simp only [List.getElem_cons_zero]); (try simp only [Act.put]); (try simp only [List.setIfInBounds_toArray]); (try simp only [List.set_cons_succ]); (try simp only [List.set_cons_zero])
                      refine wpAnyH_ready (rs := [14]) (by kernel_rfl) (by simp) (AllReadyH.cons rfl (fun Kc hKc => ?_) AllReadyH.nil)
                      go_simp
                      (go_at_call 30; refine (HMu.out _).mono ?_; rintro e w2 ⟨rfl, hb2⟩)
                      have hbd : Below wr.heap.size wr w2 := (((Below.refl _ _).drew).alloc (by simp) _).trans (hb2.mono (by simp))
                      have pP : IsR w2 wr.heap.size 0 0 := (show IsR (wr.drew.alloc (.cells #[.int .i64 0, .int .i64 0] 25)) wr.heap.size 0 0 from by simpa using IsR.new wr.drew 0 0).below hb2
                      have z0 := pP.c0
                      have z1 := pP.c1
                      have z2 := pP.f0
                      have z3 := pP.f1
                      have c1 := cell_keep hbd c1
                      have y1 := cell_keep hbd y1
                      have y2 := cell_keep hbd y2
                      have c2 := cell_keep hbd c2
                      have x1 := cell_keep hbd x1
                      have x2 := cell_keep hbd x2
                      have hsw := hbd.size
                      clear hb2
                      go_wp2_with fail
                      refine hKc.out _ _ ?_ (fun hHeld => ?_)
                      · (try dsimp only)
                        refine ⟨?_, ?_, ?_, ?_, ?_, ?_⟩ <;> (repeat (with_reducible (first | exact c1 | exact y1 | exact y2 | exact c2 | exact x1 | exact x2 | refine cell_dr ?_ | refine cell_al _ ?_ | refine cell_stb ?_ ?_ | (show _ ≠ _; omega))))
                      clear hKc Kc
                      (try simp only [List.getElem_toArray]); (try simp only [List.getElem_cons_succ]); (try simp only [List.getElem_cons_zero]); (try simp only [Act.put]); (try simp only [List.setIfInBounds_toArray]); (try simp only [List.set_cons_succ]); (try simp only [List.set_cons_zero])
                      refine wpAnyH_take (i := 15) (v := ?_) rfl (by kernel_rfl) (by kernel_rfl) (by kernel_rfl) (fun _ _ _ h => h) (Or.inl ⟨by kernel_rfl, ?_⟩) hHeld ?_
                      rotate_left
                      · intro wz hSw; (try dsimp only at hSw); go_simp; all_goals (try with_reducible rfl)
                      (try simp only [List.getElem_toArray]); (try simp only [List.getElem_cons_succ]); (try simp only [List.getElem_cons_zero]); (try simp only [Act.put]); (try simp only [List.setIfInBounds_toArray]); (try simp only [List.set_cons_succ]); (try simp only [List.set_cons_zero])
                      refine wpAnyH_take (i := 16) (v := ?_) rfl (by kernel_rfl) (by kernel_rfl) (by kernel_rfl) (fun _ _ _ h => h) (Or.inl ⟨by kernel_rfl, ?_⟩) hHeld ?_
                      rotate_left
                      · intro wz hSw; (try dsimp only at hSw); go_simp; all_goals (try with_reducible rfl)
                      (try simp only [List.getElem_toArray]); (try simp only [List.getElem_cons_succ]); (try simp only [List.getElem_cons_zero]); (try simp only [Act.put]); (try simp only [List.setIfInBounds_toArray]); (try simp only [List.set_cons_succ]); (try simp only [List.set_cons_zero])
                      refine wpAnyH_take (i := 17) (v := ?_) rfl (by kernel_rfl) (by kernel_rfl) (by kernel_rfl) (fun _ _ _ h => h) (Or.inl ⟨by kernel_rfl, ?_⟩) hHeld ?_
                      rotate_left
                      · intro wz hSw; (try dsimp only at hSw); go_simp; all_goals (try with_reducible rfl)
                      (try simp only [List.getElem_toArray]); (try simp only [List.getElem_cons_succ]); (try simp only [List.getElem_cons_zero]); (try simp only [Act.put]); (try simp only [List.setIfInBounds_toArray]); (try simp only [List.set_cons_succ]); (try simp only [List.set_cons_zero])
                      refine wpAnyH_ready (rs := [19]) (by kernel_rfl) (by simp) (AllReadyH.cons rfl (fun Kc hKc => ?_) AllReadyH.nil)
                      go_simp
                      refine hKc.out _ _ ?_ (fun hHeld => ?_)
                      · (try dsimp only)
                        refine ⟨?_, ?_, ?_, ?_, ?_, ?_⟩ <;> (repeat (with_reducible (first | exact c1 | exact y1 | exact y2 | exact c2 | exact x1 | exact x2 | refine cell_dr ?_ | refine cell_al _ ?_ | refine cell_stb ?_ ?_ | (show _ ≠ _; omega))))
                      clear hKc Kc
                      (try simp only [List.getElem_toArray]); (try simp only [List.getElem_cons_succ]); (try simp only [List.getElem_cons_zero]); (try simp only [Act.put]); (try simp only [List.setIfInBounds_toArray]); (try simp only [List.set_cons_succ]); (try simp only [List.set_cons_zero])
                      refine wpAnyH_take (i := 20) (v := ?_) rfl (by kernel_rfl) (by kernel_rfl) (by kernel_rfl) (fun _ _ _ h => h) (Or.inl ⟨by kernel_rfl, ?_⟩) hHeld ?_
                      rotate_left
                      · intro wz hSw; (try dsimp only at hSw); go_simp; all_goals (try with_reducible rfl)
                      (try simp only [List.getElem_toArray]); (try simp only [List.getElem_cons_succ]); (try simp only [List.getElem_cons_zero]); (try simp only [Act.put]); (try simp only [List.setIfInBounds_toArray]); (try simp only [List.set_cons_succ]); (try simp only [List.set_cons_zero])
                      refine wpAnyH_done (by kernel_rfl) ?_ _
                      refine NoPanic.normal ?_
                      go_wp2
                      go_meet
                      case rel => exact ⟨wr.heap.size, rfl, rfl, by omega, (pP.set0 q1).set1 q2, (hbd.setCell (p := ⟨wr.heap.size, 0, none⟩) (Nat.le_refl _) _).setCell (p := ⟨wr.heap.size, 1, none⟩) (Nat.le_refl _) _⟩
                  case rest =>
                  clear c1 y1 y2 x1 x2 l1 l2 l3
                  obtain ⟨P, rfl, rfl, hP, hPR, hBx⟩ := hcut
                  have S5 := hidW (hS.out.below hBx.out)
                  have B5 := hidW (hB.out.trans (hBx.out.mono hszr))
                  have hPZ : Z ≠ P := by omega
                  obtain ⟨t, ht⟩ : ∃ q, q = addP (r1, r2) (q1, q2) := ⟨_, rfl⟩
                  obtain ⟨tk, htk⟩ : ∃ q, q = addK (r1, r2) (q1, q2) := ⟨_, rfl⟩
                  have HCK : Hid (chkS (rw' M j) (rw' K k) (m + 1) = (t, g && qo && tk)) := by
                    show _ = _
                    have e1 : chkS (rw' M j) (rw' K k) m = ((r1, r2), g) := HRR.out.symm
                    simp only [chkS]
                    rw [e1, ← HPS.out.1, ← HPS.out.2, ← HQQ.out.1, ← HQQ.out.2, ht, htk]
                  obtain ⟨t1, t2⟩ := t
                  have HA : Hid (∀ u : World, Calls Try.prog 31 #[.agg #[.int .i64 r1, .int .i64 r2], .agg #[.int .i64 q1, .int .i64 q2]] u fun e w' => e = .returned (.tuple #[.agg #[.int .i64 t1, .int .i64 t2], .bool tk]) ∧ Below u.heap.size u w') := by
                    intro u
                    have h9 := sAdd_any r1 r2 q1 q2 u
                    rw [htk, show t1 = (addP (r1, r2) (q1, q2)).1 by rw [← ht], show t2 = (addP (r1, r2) (q1, q2)).2 by rw [← ht]]
                    exact h9
                  have n0 := hPR.out.c0
                  have n1 := hPR.out.c1
                  have m0 := S5.out.c0
                  have m1 := S5.out.c1
                  clear ht htk hS hB hBx hPR HMu HPS HQQ HRR hZl
                  go_wp2_with fail
                  refine (HA.out _).mono ?_
                  rintro e w7 ⟨rfl, hb7⟩
                  have S7 := hidW (S5.out.below hb7)
                  have B7 := hidW (B5.out.trans (hb7.mono B5.out.size))
                  have u0 := S7.out.c0
                  have u1 := S7.out.c1
                  have u2 := S7.out.f0
                  have u3 := S7.out.f1
                  have u4 := S7.out.lt
                  clear S5 B5 hb7 n0 n1 m0 m1 HA
                  have fin : ∀ W : World, W = ((w7.alloc (.cells #[.int .i64 t1, .int .i64 t2] 25)).setCell ⟨Z, 0, none⟩ (.int .i64 t1)).setCell ⟨Z, 1, none⟩ (.int .i64 t2) ∨ W = ((w7.setCell ⟨Z, 0, none⟩ (.int .i64 t1)).setCell ⟨Z, 1, none⟩ (.int .i64 t2)).alloc (.cells #[.int .i64 t1, .int .i64 t2] 25) → Hid (IsR W Z t1 t2) ∧ Hid (Below wq.heap.size wq W) := by
                    intro W hW
                    have hz := B7.out.size
                    rcases hW with rfl | rfl
                    · exact ⟨((S7.out.below (b0 _ _)).set0 t1).set1 t2, ((B7.out.alloc hz _).setCell (p := ⟨Z, 0, none⟩) hZ4 _).setCell (p := ⟨Z, 1, none⟩) hZ4 _⟩
                    · exact ⟨((S7.out.set0 t1).set1 t2).below (b0 _ _), ((B7.out.setCell (p := ⟨Z, 0, none⟩) hZ4 _).setCell (p := ⟨Z, 1, none⟩) hZ4 _).alloc (by simpa using hz) _⟩
                  have FIN := hidW fin
                  clear fin
                  cases g <;> cases qo <;> cases tk
                  all_goals go_wp2
                  all_goals go_roundw
                  all_goals
                    first
                    | (case rel => exact ⟨((t1, t2), _), m + 1, rfl, by go_num, by omega, HCK.out.symm, (FIN.out _ (by first | exact Or.inl rfl | exact Or.inr rfl)).1, (FIN.out _ (by first | exact Or.inl rfl | exact Or.inr rfl)).2⟩)
                    | (case measure => simp [intOf]; omega)
                · obtain rfl : m = L := by omega
                  have l1 := lt_cell c2
                  have m0 := hS.out.c0
                  have m1 := hS.out.c1
                  have HGD : Hid (g = true → r1 = 0 ∧ r2 = 1) := by
                    intro hg
                    have e1 : chkS (rw' M j) (rw' K k) m = ((r1, r2), g) := HRR.out.symm
                    have e2 := HKC.out j hjn
                    rw [e1] at e2
                    have e3 := e2 hg
                    exact ⟨congrArg Prod.fst e3, congrArg Prod.snd e3⟩
                  cases g
                  · clear m0 m1 HGD
                    go_wp2
                    go_quiet (fail)
                    go_wp2
                    go_roundw
                    case rel => exact ⟨j + 1, by go_num, by omega, below_drewN hB.out _⟩
                    case measure => simp [intOf]; omega
                  · obtain ⟨e1, e2⟩ := HGD.out rfl
                    subst e1
                    subst e2
                    have e3 : ((0 : Int) != 0) = false := by simp
                    have e4 : ((1 : Int) != 1) = false := by simp
                    go_wp2
                    go_region_with (go_at_call 29; refine (whole_any _ _).mono ?_; rintro e w6 ⟨rfl, hw6⟩; have hb6 : Below wr.heap.size wr w6 := by { rw [hw6]; first | exact b0 _ _ | exact (Below.refl _ _).drew.trans ((b0 _ _).mono (by simp)) }; have k0 := cell_keep hb6 m0; have k1 := cell_keep hb6 m1; clear hw6)
                    all_goals go_wp2
                    all_goals
                      go_roundw
                      case rel => exact ⟨j + 1, by go_num, by omega, hB.out.trans (hb6.mono hszr)⟩
                      case measure => simp [intOf]; omega
            · obtain rfl : j = n := by omega
              have c2 := cell_keep hB.out CK.out
              have l1 := lt_cell c2
              obtain ⟨c, hc1, hc2⟩ := HNO.out
              have HNOU : Hid (∀ W : World, Below wq.heap.size wq W → Calls Try.prog 32 #[.slice (some ⟨bi, oi, none⟩) L li] W fun e w' => e = .returned (.bool false) ∧ Below W.heap.size W w') := by
                intro W hW
                exact nought_no _ (rw' K k) c W (by rw [HLK.out]; exact hc1) hc2 (by rw [HLK.out]; omega) (HKR.out.below hW)
              clear hc1 hc2
              go_wp2_with fail
              refine (HNOU.out _ hB.out).mono ?_
              rintro e w8 ⟨rfl, hb⟩
              have hB8 := hidL (hB.out.trans (hb.mono hszr))
              clear hb
              go_wp2
              go_roundw
              case rel => exact ⟨k + 1, by go_num, by omega, hB8.out⟩
              case measure => simp [intOf]; omega
        · obtain rfl : k = kn := by omega
          obtain ⟨cm0, hrm⟩ := HMC.out 0 (by omega)
          obtain ⟨bj, oj, lj, ej, -⟩ := rdr_vals hrm (by rw [MF.out 0 (by omega)]; omega)
          rw [MF.out 0 (by omega)] at ej
          rw [ej] at cm0
          rw [Nat.add_zero] at cm0
          have CM0 := hidL (cell_keep hB.out cm0)
          have HBf := hidL (HB.out.trans (hB.out.mono HB.out.size))
          have HEr := hidL (HE.out.below hB.out)
          have hsum' : ((rk : Int) + (k : Int)) = (L : Int) := by omega
          have hLL : (((L : Nat) : Int) == (L : Int)) = true := by simp
          clear cm0 hrm ej
          go_wp2_with fail
          refine (IE2.out _ HEr.out).mono ?_
          rintro e w8 ⟨v8, us8, rfl, ht, hb⟩
          have HT8 := hidL (Tab.read ht)
          have HE8 := hidL (HEr.out.below hb)
          have cm8 := cell_keep hb CM0.out
          have l8 := lt_cell cm8
          have HB8 := hidL (HBf.out.trans (hb.mono HBf.out.size))
          clear hb ht
          go_wp2_with fail
          refine (likeRows_rd v8 ve E _ SE.out.1 SE.out.2 HT8.out HE8.out).mono ?_
          rintro e w9 ⟨rfl, hb⟩
          go_wp2
          go_ret
          exact ⟨rfl, HB8.out.trans (hb.mono HB8.out.size)⟩
end Go.Proofs.Ytbbkejfcheobaab
