/- The walk of the law of Product: both answer the same, the program's answer lies in memory of its own, and what was handed in stays. -/
import Derived.Test.YtijdggcfjkfgcalQuaW6
import Derived.Deep.DeepCutAuto
import Derived.Outline
namespace Go.Proofs.Ytijdggcfjkfgcal
open Go.RowKit Go.Proofs.Ytijdggcfjkfgcal.RM

set_option maxRecDepth 100000 in
set_option maxHeartbeats 8000000 in
theorem lawProduct (n0 d0 : Int) (a0 : Option Addr) (len0 cap0 : Nat) (zs0 : List Int) (n1 d1 : Int) (a1 : Option Addr) (len1 cap1 : Nat) (zs1 : List Int) (w : World) (hr0 : IsRow .i64 w a0 len0 cap0 zs0) (hr1 : IsRow .i64 w a1 len1 cap1 zs1) :
    Calls Try.prog 7 #[.agg #[.int .i64 n0, .int .i64 d0, .slice a0 len0 cap0], .agg #[.int .i64 n1, .int .i64 d1, .slice a1 len1 cap1]] w fun e w' => e = .returned (.bool true) ∧ Below w.heap.size w w' := by
  have b0 : ∀ (u : World) (o : Obj), Below u.heap.size u (u.alloc o) := fun u o => (Below.refl _ _).alloc (Nat.le_refl _) o
  have HR0 := hidU hr0
  have HZ0 := hidU (fun (left : Int) (W : World) (h0 : 0 ≤ left) (h1 : left ≤ 1048576) => szQ_any n0 d0 a0 len0 cap0 left W h0 h1 (row_len hr0))
  obtain ⟨ys0, hys0⟩ : ∃ ys, ys = zs0.take len0 := ⟨_, rfl⟩
  have HL0 : Hid (ys0.length = len0) := by show _ = _; rw [hys0]; exact row_take hr0
  have HT0 := hidU (fun (hl : len0 ≤ 1048576) (W : World) (hW : Below w.heap.size w W) => toQ_any n0 d0 a0 len0 cap0 zs0 W (hr0.below hW) hl)
  rw [← hys0] at HT0
  have HR1 := hidU hr1
  have HZ1 := hidU (fun (left : Int) (W : World) (h0 : 0 ≤ left) (h1 : left ≤ 1048576) => szQ_any n1 d1 a1 len1 cap1 left W h0 h1 (row_len hr1))
  obtain ⟨ys1, hys1⟩ : ∃ ys, ys = zs1.take len1 := ⟨_, rfl⟩
  have HL1 : Hid (ys1.length = len1) := by show _ = _; rw [hys1]; exact row_take hr1
  have HT1 := hidU (fun (hl : len1 ≤ 1048576) (W : World) (hW : Below w.heap.size w W) => toQ_any n1 d1 a1 len1 cap1 zs1 W (hr1.below hW) hl)
  rw [← hys1] at HT1
  clear hr0 hys0 hr1 hys1
  have HS := hidU (fun (W : World) (v u : Value) (h0 : DimIn W v ys0) (h1 : DimIn W u ys1) => sQProd_any n0 d0 n1 d1 v u ys0 ys1 W h0 h1)
  have HI := hidU (fun (W : World) (v u : Value) (h0 : DimIn W v ys0) (h1 : DimIn W u ys1) => iQProd_any n0 d0 n1 d1 v u ys0 ys1 W h0 h1)
  obtain ⟨RR, hRR⟩ : ∃ r, r = prodQ n0 d0 ys0 n1 d1 ys1 := ⟨_, rfl⟩
  have hRL : RR.2.2.1.length ≤ 5 := by rw [hRR]; exact prodQ_len _ _ _ _ _ _
  rw [← hRR] at HS HI
  clear hRR
  obtain ⟨rn, rd, xs, ro⟩ := RR
  unfold QuaP at HS HI
  simp only at HS HI hRL
  obtain ⟨m, hm⟩ : ∃ m, m = xs.length := ⟨_, rfl⟩
  rw [← hm] at hRL
  have HM := hidU hm.symm
  have hoo : (ro != ro) = false := by simp
  clear hm
  go_enter Try.func7, Try.ntmps7
  go_wp2_with fail
  refine (HZ0.out _ _ (by omega) (by omega)).mono ?_
  rintro e w1 ⟨rfl, hb⟩
  obtain ⟨P, hP⟩ : ∃ P, P = w.heap.size := ⟨_, rfl⟩
  have hPw : w.heap.size ≤ P := Nat.le_of_eq hP.symm
  have k0 : IsB w1 P #[.int .i64 n0, .int .i64 d0, .slice a0 len0 cap0] 30 := by rw [hP]; exact ((IsB.new w _ _).below (b0 _ _)).below hb
  have k1 : IsB w1 (P + 1) #[.int .i64 n1, .int .i64 d1, .slice a1 len1 cap1] 30 := by rw [hP]; exact (IsB.new2c w _ _ _).below hb
  have hB : Below w.heap.size w w1 := ((b0 _ _).alloc (by simp) _).trans (hb.mono (by simp; omega))
  rw [← hP]
  obtain ⟨Q, hQ⟩ : ∃ Q, Q = P + 1 := ⟨_, rfl⟩
  have hQw : w.heap.size ≤ Q := by omega
  rw [← hQ] at k1 ⊢
  clear hb hP hQ
  have HPw := hidU hPw
  have HQw := hidU hQw
  have K0 := hidU k0
  have K1 := hidU k1
  have HB := hidU hB
  clear hPw hQw k0 k1 hB
  by_cases hz0 : (1048576 : Int) < len0
  · rw [if_pos hz0]
    clear hz0
    go_wp2
    go_ret
    exact ⟨rfl, HB.out⟩
  rw [if_neg hz0]
  obtain ⟨lf, hlf⟩ : ∃ l : Int, l = 1048576 - (len0 : Int) := ⟨_, rfl⟩
  have hlf0 : 0 ≤ lf := by omega
  have hlf1 : lf ≤ 1048576 := by omega
  have HL00 := hidU (show len0 ≤ 1048576 by omega)
  have HLF := hidU (show 0 ≤ lf ∧ lf ≤ 1048576 from ⟨hlf0, hlf1⟩)
  rw [← hlf]
  clear hlf hz0
  obtain ⟨y0, y1, y2⟩ := K1.out.c3
  go_wp2_with fail
  refine (HZ1.out _ _ hlf0 hlf1).mono ?_
  rintro e w2 ⟨rfl, hb⟩
  replace K0 := hidU (K0.out.below hb)
  replace K1 := hidU (K1.out.below hb)
  replace HB := hidU (HB.out.trans (hb.mono HB.out.size))
  clear hb y0 y1 y2
  by_cases hz1 : (lf : Int) < len1
  · rw [if_pos hz1]
    clear hz1
    go_wp2
    go_ret
    exact ⟨rfl, HB.out⟩
  rw [if_neg hz1]
  have hl0 := HL00.out
  have hl1 : len1 ≤ 1048576 := by omega
  have HT0b := hidU (fun W hW => HT0.out hl0 W hW)
  have HT1b := hidU (fun W hW => HT1.out hl1 W hW)
  have HLL := hidU (show len0 ≤ 1048576 ∧ len1 ≤ 1048576 from ⟨hl0, hl1⟩)
  obtain ⟨lg, hlg⟩ : ∃ l : Int, l = lf - (len1 : Int) := ⟨_, rfl⟩
  have hlg0 : 0 ≤ lg := by omega
  rw [← hlg]
  clear hlf0 hlf1 hz1 hl0 hl1 hlg HT0 HT1 HZ0 HZ1 HL00 HLF
  go_upto_region 8 with fail
  go_cut [6, 7] (fun s6 s7 wx => ∃ (T : Nat) (o0 : Option Addr) (oc : Nat), s6 = .pointer (some ⟨T, 0, none⟩) ∧ s7 = .bool ro ∧ T < wx.heap.size ∧ Hid (IsB wx T #[.int .i64 rn, .int .i64 rd, .slice o0 m oc] 35) ∧ Hid (RowM wx w.heap.size wx.heap.size (.slice o0 m oc) xs) ∧ Hid (IsB wx P #[.int .i64 n0, .int .i64 d0, .slice a0 len0 cap0] 30) ∧ Hid (IsB wx Q #[.int .i64 n1, .int .i64 d1, .slice a1 len1 cap1] 30) ∧ Hid (Below w.heap.size w wx))
  case first =>
    have hb := (Below.refl w2.heap.size w2).drew
    replace K0 := hidU (K0.out.below hb)
    replace K1 := hidU (K1.out.below hb)
    replace HB := hidU (HB.out.trans (hb.mono HB.out.size))
    clear hb
    refine wp_region_noPanic ?_
    refine wp_region_held_drew (S := fun W => IsB W P #[.int .i64 n0, .int .i64 d0, .slice a0 len0 cap0] 30 ∧ IsB W Q #[.int .i64 n1, .int .i64 d1, .slice a1 len1 cap1] 30) (by kernel_rfl) ⟨K0.out, K1.out⟩ (fun hHeld => ?_)
    obtain ⟨wd, hwd⟩ : ∃ u, u = w2.drew := ⟨_, rfl⟩
    rw [← hwd] at K0 K1 HB hHeld ⊢
    clear hwd
    refine wpAnyH_take (i := 0) (v := ?_) rfl (by kernel_rfl) (by kernel_rfl) (by kernel_rfl) (fun _ _ _ h => h) (Or.inl ⟨by kernel_rfl, ?_⟩) hHeld ?_
    rotate_left
    · intro wz hSw; obtain ⟨hS1, hS2⟩ := hSw; obtain ⟨p0, p1, p2⟩ := hS1.c3; obtain ⟨q0, q1, q2⟩ := hS2.c3; clear hS1 hS2; go_simp; all_goals (try with_reducible rfl)
    (try simp only [List.getElem_toArray]); (try simp only [List.getElem_cons_succ]); (try simp only [List.getElem_cons_zero]); (try simp only [Act.put]); (try simp only [List.setIfInBounds_toArray]); (try simp only [List.set_cons_succ]); (try simp only [List.set_cons_zero])
    refine wpAnyH_take (i := 2) (v := ?_) rfl (by kernel_rfl) (by kernel_rfl) (by kernel_rfl) (fun _ _ _ h => h) (Or.inl ⟨by kernel_rfl, ?_⟩) hHeld ?_
    rotate_left
    · intro wz hSw; obtain ⟨hS1, hS2⟩ := hSw; obtain ⟨p0, p1, p2⟩ := hS1.c3; obtain ⟨q0, q1, q2⟩ := hS2.c3; clear hS1 hS2; go_simp; all_goals (try with_reducible rfl)
    (try simp only [List.getElem_toArray]); (try simp only [List.getElem_cons_succ]); (try simp only [List.getElem_cons_zero]); (try simp only [Act.put]); (try simp only [List.setIfInBounds_toArray]); (try simp only [List.set_cons_succ]); (try simp only [List.set_cons_zero])
    refine wpAnyH_ready (rs := [1, 8]) (by kernel_rfl) (by simp) (AllReadyH.cons rfl (fun Kc hKc => ?_) (AllReadyH.cons rfl (fun Kc hKc => ?_) AllReadyH.nil))
    · go_simp
      refine (HT0b.out _ HB.out).mono ?_
      rintro e u1 ⟨v0, rfl, o5, hb⟩
      have O0 := hidU o5
      clear o5
      replace K0 := hidU (K0.out.below hb)
      replace K1 := hidU (K1.out.below hb)
      replace HB := hidU (HB.out.trans (hb.mono HB.out.size))
      clear hb
      go_wp2_with fail
      refine hKc.out _ _ ⟨K0.out, K1.out⟩ (fun hHeld => ?_)
      clear hKc Kc
      (try simp only [List.getElem_toArray]); (try simp only [List.getElem_cons_succ]); (try simp only [List.getElem_cons_zero]); (try simp only [Act.put]); (try simp only [List.setIfInBounds_toArray]); (try simp only [List.set_cons_succ]); (try simp only [List.set_cons_zero])
      refine wpAnyH_ready (rs := [3, 8]) (by kernel_rfl) (by simp) (AllReadyH.cons rfl (fun Kc hKc => ?_) (AllReadyH.cons rfl (fun Kc hKc => ?_) AllReadyH.nil))
      · go_simp
        refine (HT1b.out _ HB.out).mono ?_
        rintro e u2 ⟨v1, rfl, o6, hb⟩
        have O1 := hidU o6
        clear o6
        replace K0 := hidU (K0.out.below hb)
        replace K1 := hidU (K1.out.below hb)
        replace HB := hidU (HB.out.trans (hb.mono HB.out.size))
        replace O0 := hidU (own_below O0.out hb)
        clear hb
        go_wp2_with fail
        refine hKc.out _ _ ⟨K0.out, K1.out⟩ (fun hHeld => ?_)
        clear hKc Kc
        (try simp only [List.getElem_toArray]); (try simp only [List.getElem_cons_succ]); (try simp only [List.getElem_cons_zero]); (try simp only [Act.put]); (try simp only [List.setIfInBounds_toArray]); (try simp only [List.set_cons_succ]); (try simp only [List.set_cons_zero])
        refine wpAnyH_ready (rs := [4, 8]) (by kernel_rfl) (by simp) (AllReadyH.cons rfl (fun Kc hKc => ?_) (AllReadyH.cons rfl (fun Kc hKc => ?_) AllReadyH.nil))
        · go_simp
          refine (HS.out _ _ _ (DimIn.of (by rw [HL0.out]; exact O0.out)) (DimIn.of (by rw [HL1.out]; exact O1.out))).mono ?_
          rintro e u3 ⟨v, rfl, hv, hb⟩
          obtain ⟨o0, oc, he⟩ := hv.shape
          rw [HM.out] at he
          subst he
          obtain ⟨ul, hul⟩ : ∃ l, l = u2.heap.size := ⟨_, rfl⟩
          obtain ⟨ur, hur⟩ : ∃ l, l = u3.heap.size := ⟨_, rfl⟩
          have HUR : Hid (ur ≤ u3.heap.size) := Nat.le_of_eq hur
          have HUL : Hid (w.heap.size ≤ ul) := by show _ ≤ _; rw [hul]; exact HB.out.size
          rw [← hul, ← hur] at hv
          have HVT := hidU hv
          clear hv hul hur
          replace K0 := hidU (K0.out.below hb)
          replace K1 := hidU (K1.out.below hb)
          replace HB := hidU (HB.out.trans (hb.mono HB.out.size))
          clear hb O0 O1
          go_wp2_with fail
          refine hKc.out _ _ ⟨K0.out, K1.out⟩ (fun hHeld => ?_)
          clear hKc Kc
          (try simp only [List.getElem_toArray]); (try simp only [List.getElem_cons_succ]); (try simp only [List.getElem_cons_zero]); (try simp only [Act.put]); (try simp only [List.setIfInBounds_toArray]); (try simp only [List.set_cons_succ]); (try simp only [List.set_cons_zero])
          refine wpAnyH_take (i := 5) (v := ?_) rfl (by kernel_rfl) (by kernel_rfl) (by kernel_rfl) (fun _ _ _ h => h) (Or.inl ⟨by kernel_rfl, ?_⟩) hHeld ?_
          rotate_left
          · intro wz hSw; obtain ⟨hS1, hS2⟩ := hSw; obtain ⟨p0, p1, p2⟩ := hS1.c3; obtain ⟨q0, q1, q2⟩ := hS2.c3; clear hS1 hS2; go_simp; all_goals (try with_reducible rfl)
          (try simp only [List.getElem_toArray]); (try simp only [List.getElem_cons_succ]); (try simp only [List.getElem_cons_zero]); (try simp only [Act.put]); (try simp only [List.setIfInBounds_toArray]); (try simp only [List.set_cons_succ]); (try simp only [List.set_cons_zero])
          refine wpAnyH_take (i := 6) (v := ?_) rfl (by kernel_rfl) (by kernel_rfl) (by kernel_rfl) (fun _ _ _ h => h) (Or.inl ⟨by kernel_rfl, ?_⟩) hHeld ?_
          rotate_left
          · intro wz hSw; obtain ⟨hS1, hS2⟩ := hSw; obtain ⟨p0, p1, p2⟩ := hS1.c3; obtain ⟨q0, q1, q2⟩ := hS2.c3; clear hS1 hS2; go_simp; all_goals (try with_reducible rfl)
          (try simp only [List.getElem_toArray]); (try simp only [List.getElem_cons_succ]); (try simp only [List.getElem_cons_zero]); (try simp only [Act.put]); (try simp only [List.setIfInBounds_toArray]); (try simp only [List.set_cons_succ]); (try simp only [List.set_cons_zero])
          refine wpAnyH_take (i := 7) (v := ?_) rfl (by kernel_rfl) (by kernel_rfl) (by kernel_rfl) (fun _ _ _ h => h) (Or.inl ⟨by kernel_rfl, ?_⟩) hHeld ?_
          rotate_left
          · intro wz hSw; obtain ⟨hS1, hS2⟩ := hSw; obtain ⟨p0, p1, p2⟩ := hS1.c3; obtain ⟨q0, q1, q2⟩ := hS2.c3; clear hS1 hS2; go_simp; all_goals (try with_reducible rfl)
          (try simp only [List.getElem_toArray]); (try simp only [List.getElem_cons_succ]); (try simp only [List.getElem_cons_zero]); (try simp only [Act.put]); (try simp only [List.setIfInBounds_toArray]); (try simp only [List.set_cons_succ]); (try simp only [List.set_cons_zero])
          refine wpAnyH_ready (rs := [8]) (by kernel_rfl) (by simp) (AllReadyH.cons rfl (fun Kc hKc => ?_) AllReadyH.nil)
          go_simp
          obtain ⟨A, hA⟩ : ∃ A, A = u3.heap.size := ⟨_, rfl⟩
          obtain ⟨u4, hu⟩ : ∃ u, u = u3.alloc (.cells #[.int .i64 0, .int .i64 0, .slice none 0 0] 35) := ⟨_, rfl⟩
          have hb : Below u3.heap.size u3 u4 := by rw [hu]; exact b0 _ _
          have KA : Hid (IsB u4 A #[.int .i64 0, .int .i64 0, .slice none 0 0] 35) := by show IsB _ _ _ _; rw [hu, hA]; exact IsB.new _ _ _
          have HAw : Hid (w.heap.size ≤ A) := by show _ ≤ _; rw [hA]; exact HB.out.size
          have HNEK0 : Hid (P ≠ A) := by show _ ≠ _; have := K0.out.lt; rw [hA]; omega
          have HNEK1 : Hid (Q ≠ A) := by show _ ≠ _; have := K1.out.lt; rw [hA]; omega
          have HAR : Hid (ur ≤ A ∨ A < ul) := by left; rw [hA]; exact HUR.out
          have HUR2 : Hid (ur ≤ u4.heap.size) := Nat.le_trans HUR.out hb.size
          replace HUR := HUR2
          clear HUR2
          rw [← hu, ← hA]
          clear hu hA
          replace K0 := hidU (K0.out.below hb)
          replace K1 := hidU (K1.out.below hb)
          replace HB := hidU (HB.out.trans (hb.mono HB.out.size))
          replace HVT := hidU (HVT.out.below hb)
          clear hb
          refine hKc.out _ _ ⟨K0.out, K1.out⟩ (fun hHeld => ?_)
          clear hKc Kc
          (try simp only [List.getElem_toArray]); (try simp only [List.getElem_cons_succ]); (try simp only [List.getElem_cons_zero]); (try simp only [Act.put]); (try simp only [List.setIfInBounds_toArray]); (try simp only [List.set_cons_succ]); (try simp only [List.set_cons_zero])
          obtain ⟨z0, z1, z2⟩ := KA.out.c3
          obtain ⟨f0, f1, f2⟩ := KA.out.f3
          have h9 : Kp A (A + 1) u4 (((u4.setCell ⟨A, 0, none⟩ (.int .i64 rn)).setCell ⟨A, 1, none⟩ (.int .i64 rd)).setCell ⟨A, 2, none⟩ (.slice o0 m oc)) := ((Kp.set _ _ (Nat.le_refl _) (Nat.lt_succ_self _)).trans (Kp.set _ _ (Nat.le_refl _) (Nat.lt_succ_self _))).trans (Kp.set _ _ (Nat.le_refl _) (Nat.lt_succ_self _))
          have HV2 := hidU ((HVT.out.kp h9 (by have := HAR.out; omega)).mono (show w.heap.size ≤ ul from HUL.out) (Nat.le_trans HUR.out h9.size))
          have KA2 := hidU (KA.out.set3 (.int .i64 rn) (.int .i64 rd) (.slice o0 m oc))
          have K0b := hidU (K0.out.other3 (show P ≠ A from HNEK0.out) (.int .i64 rn) (.int .i64 rd) (.slice o0 m oc))
          have K1b := hidU (K1.out.other3 (show Q ≠ A from HNEK1.out) (.int .i64 rn) (.int .i64 rd) (.slice o0 m oc))
          have HB2 := hidU (below_set3 HB.out HAw.out (.int .i64 rn) (.int .i64 rd) (.slice o0 m oc))
          have HA2 := KA2.out.lt
          refine wpAnyH_ready (rs := [9]) (by kernel_rfl) (by simp) (AllReadyH.cons rfl (fun Kc hKc => ?_) AllReadyH.nil)
          go_simp
          refine hKc.out _ _ ⟨K0b.out, K1b.out⟩ (fun hHeld => ?_)
          clear hKc Kc z0 z1 z2 f0 f1 f2
          (try simp only [List.getElem_toArray]); (try simp only [List.getElem_cons_succ]); (try simp only [List.getElem_cons_zero]); (try simp only [Act.put]); (try simp only [List.setIfInBounds_toArray]); (try simp only [List.set_cons_succ]); (try simp only [List.set_cons_zero])
          refine wpAnyH_take (i := 10) (v := ?_) rfl (by kernel_rfl) (by kernel_rfl) (by kernel_rfl) (fun _ _ _ h => h) (Or.inl ⟨by kernel_rfl, ?_⟩) hHeld ?_
          rotate_left
          · intro wz hSw; obtain ⟨hS1, hS2⟩ := hSw; obtain ⟨p0, p1, p2⟩ := hS1.c3; obtain ⟨q0, q1, q2⟩ := hS2.c3; clear hS1 hS2; go_simp; all_goals (try with_reducible rfl)
          (try simp only [List.getElem_toArray]); (try simp only [List.getElem_cons_succ]); (try simp only [List.getElem_cons_zero]); (try simp only [Act.put]); (try simp only [List.setIfInBounds_toArray]); (try simp only [List.set_cons_succ]); (try simp only [List.set_cons_zero])
          refine wpAnyH_done (by kernel_rfl) ?_ _
          refine NoPanic.normal ?_
          go_wp2_with fail
          go_meet
          case rel => exact ⟨_, _, _, rfl, rfl, HA2, KA2.out, HV2.out, K0b.out, K1b.out, HB2.out⟩
        · go_simp
          obtain ⟨A, hA⟩ : ∃ A, A = u2.heap.size := ⟨_, rfl⟩
          obtain ⟨u5, hu⟩ : ∃ u, u = u2.alloc (.cells #[.int .i64 0, .int .i64 0, .slice none 0 0] 35) := ⟨_, rfl⟩
          have hb : Below u2.heap.size u2 u5 := by rw [hu]; exact b0 _ _
          have KA : Hid (IsB u5 A #[.int .i64 0, .int .i64 0, .slice none 0 0] 35) := by show IsB _ _ _ _; rw [hu, hA]; exact IsB.new _ _ _
          have HAw : Hid (w.heap.size ≤ A) := by show _ ≤ _; rw [hA]; exact HB.out.size
          have HNEK0 : Hid (P ≠ A) := by show _ ≠ _; have := K0.out.lt; rw [hA]; omega
          have HNEK1 : Hid (Q ≠ A) := by show _ ≠ _; have := K1.out.lt; rw [hA]; omega
          rw [← hu, ← hA]
          clear hu hA
          replace K0 := hidU (K0.out.below hb)
          replace K1 := hidU (K1.out.below hb)
          replace HB := hidU (HB.out.trans (hb.mono HB.out.size))
          replace O0 := hidU (own_below O0.out hb)
          replace O1 := hidU (own_below O1.out hb)
          clear hb
          refine hKc.out _ _ ⟨K0.out, K1.out⟩ (fun hHeld => ?_)
          clear hKc Kc
          (try simp only [List.getElem_toArray]); (try simp only [List.getElem_cons_succ]); (try simp only [List.getElem_cons_zero]); (try simp only [Act.put]); (try simp only [List.setIfInBounds_toArray]); (try simp only [List.set_cons_succ]); (try simp only [List.set_cons_zero])
          refine wpAnyH_ready (rs := [4]) (by kernel_rfl) (by simp) (AllReadyH.cons rfl (fun Kc hKc => ?_) AllReadyH.nil)
          go_simp
          refine (HS.out _ _ _ (DimIn.of (by rw [HL0.out]; exact O0.out)) (DimIn.of (by rw [HL1.out]; exact O1.out))).mono ?_
          rintro e u6 ⟨v, rfl, hv, hb⟩
          obtain ⟨o0, oc, he⟩ := hv.shape
          rw [HM.out] at he
          subst he
          obtain ⟨ul, hul⟩ : ∃ l, l = u5.heap.size := ⟨_, rfl⟩
          obtain ⟨ur, hur⟩ : ∃ l, l = u6.heap.size := ⟨_, rfl⟩
          have HUR : Hid (ur ≤ u6.heap.size) := Nat.le_of_eq hur
          have HUL : Hid (w.heap.size ≤ ul) := by show _ ≤ _; rw [hul]; exact HB.out.size
          have HAR : Hid (ur ≤ A ∨ A < ul) := by right; rw [hul]; exact KA.out.lt
          rw [← hul, ← hur] at hv
          have HVT := hidU hv
          clear hv hul hur
          replace K0 := hidU (K0.out.below hb)
          replace K1 := hidU (K1.out.below hb)
          replace KA := hidU (KA.out.below hb)
          replace HB := hidU (HB.out.trans (hb.mono HB.out.size))
          clear hb O0 O1
          go_wp2_with fail
          refine hKc.out _ _ ⟨K0.out, K1.out⟩ (fun hHeld => ?_)
          clear hKc Kc
          (try simp only [List.getElem_toArray]); (try simp only [List.getElem_cons_succ]); (try simp only [List.getElem_cons_zero]); (try simp only [Act.put]); (try simp only [List.setIfInBounds_toArray]); (try simp only [List.set_cons_succ]); (try simp only [List.set_cons_zero])
          refine wpAnyH_take (i := 5) (v := ?_) rfl (by kernel_rfl) (by kernel_rfl) (by kernel_rfl) (fun _ _ _ h => h) (Or.inl ⟨by kernel_rfl, ?_⟩) hHeld ?_
          rotate_left
          · intro wz hSw; obtain ⟨hS1, hS2⟩ := hSw; obtain ⟨p0, p1, p2⟩ := hS1.c3; obtain ⟨q0, q1, q2⟩ := hS2.c3; clear hS1 hS2; go_simp; all_goals (try with_reducible rfl)
          (try simp only [List.getElem_toArray]); (try simp only [List.getElem_cons_succ]); (try simp only [List.getElem_cons_zero]); (try simp only [Act.put]); (try simp only [List.setIfInBounds_toArray]); (try simp only [List.set_cons_succ]); (try simp only [List.set_cons_zero])
          refine wpAnyH_take (i := 6) (v := ?_) rfl (by kernel_rfl) (by kernel_rfl) (by kernel_rfl) (fun _ _ _ h => h) (Or.inl ⟨by kernel_rfl, ?_⟩) hHeld ?_
          rotate_left
          · intro wz hSw; obtain ⟨hS1, hS2⟩ := hSw; obtain ⟨p0, p1, p2⟩ := hS1.c3; obtain ⟨q0, q1, q2⟩ := hS2.c3; clear hS1 hS2; go_simp; all_goals (try with_reducible rfl)
          (try simp only [List.getElem_toArray]); (try simp only [List.getElem_cons_succ]); (try simp only [List.getElem_cons_zero]); (try simp only [Act.put]); (try simp only [List.setIfInBounds_toArray]); (try simp only [List.set_cons_succ]); (try simp only [List.set_cons_zero])
          refine wpAnyH_take (i := 7) (v := ?_) rfl (by kernel_rfl) (by kernel_rfl) (by kernel_rfl) (fun _ _ _ h => h) (Or.inl ⟨by kernel_rfl, ?_⟩) hHeld ?_
          rotate_left
          · intro wz hSw; obtain ⟨hS1, hS2⟩ := hSw; obtain ⟨p0, p1, p2⟩ := hS1.c3; obtain ⟨q0, q1, q2⟩ := hS2.c3; clear hS1 hS2; go_simp; all_goals (try with_reducible rfl)
          (try simp only [List.getElem_toArray]); (try simp only [List.getElem_cons_succ]); (try simp only [List.getElem_cons_zero]); (try simp only [Act.put]); (try simp only [List.setIfInBounds_toArray]); (try simp only [List.set_cons_succ]); (try simp only [List.set_cons_zero])
          obtain ⟨z0, z1, z2⟩ := KA.out.c3
          obtain ⟨f0, f1, f2⟩ := KA.out.f3
          have h9 : Kp A (A + 1) u6 (((u6.setCell ⟨A, 0, none⟩ (.int .i64 rn)).setCell ⟨A, 1, none⟩ (.int .i64 rd)).setCell ⟨A, 2, none⟩ (.slice o0 m oc)) := ((Kp.set _ _ (Nat.le_refl _) (Nat.lt_succ_self _)).trans (Kp.set _ _ (Nat.le_refl _) (Nat.lt_succ_self _))).trans (Kp.set _ _ (Nat.le_refl _) (Nat.lt_succ_self _))
          have HV2 := hidU ((HVT.out.kp h9 (by have := HAR.out; omega)).mono (show w.heap.size ≤ ul from HUL.out) (Nat.le_trans HUR.out h9.size))
          have KA2 := hidU (KA.out.set3 (.int .i64 rn) (.int .i64 rd) (.slice o0 m oc))
          have K0b := hidU (K0.out.other3 (show P ≠ A from HNEK0.out) (.int .i64 rn) (.int .i64 rd) (.slice o0 m oc))
          have K1b := hidU (K1.out.other3 (show Q ≠ A from HNEK1.out) (.int .i64 rn) (.int .i64 rd) (.slice o0 m oc))
          have HB2 := hidU (below_set3 HB.out HAw.out (.int .i64 rn) (.int .i64 rd) (.slice o0 m oc))
          have HA2 := KA2.out.lt
          refine wpAnyH_ready (rs := [9]) (by kernel_rfl) (by simp) (AllReadyH.cons rfl (fun Kc hKc => ?_) AllReadyH.nil)
          go_simp
          refine hKc.out _ _ ⟨K0b.out, K1b.out⟩ (fun hHeld => ?_)
          clear hKc Kc z0 z1 z2 f0 f1 f2
          (try simp only [List.getElem_toArray]); (try simp only [List.getElem_cons_succ]); (try simp only [List.getElem_cons_zero]); (try simp only [Act.put]); (try simp only [List.setIfInBounds_toArray]); (try simp only [List.set_cons_succ]); (try simp only [List.set_cons_zero])
          refine wpAnyH_take (i := 10) (v := ?_) rfl (by kernel_rfl) (by kernel_rfl) (by kernel_rfl) (fun _ _ _ h => h) (Or.inl ⟨by kernel_rfl, ?_⟩) hHeld ?_
          rotate_left
          · intro wz hSw; obtain ⟨hS1, hS2⟩ := hSw; obtain ⟨p0, p1, p2⟩ := hS1.c3; obtain ⟨q0, q1, q2⟩ := hS2.c3; clear hS1 hS2; go_simp; all_goals (try with_reducible rfl)
          (try simp only [List.getElem_toArray]); (try simp only [List.getElem_cons_succ]); (try simp only [List.getElem_cons_zero]); (try simp only [Act.put]); (try simp only [List.setIfInBounds_toArray]); (try simp only [List.set_cons_succ]); (try simp only [List.set_cons_zero])
          refine wpAnyH_done (by kernel_rfl) ?_ _
          refine NoPanic.normal ?_
          go_wp2_with fail
          go_meet
          case rel => exact ⟨_, _, _, rfl, rfl, HA2, KA2.out, HV2.out, K0b.out, K1b.out, HB2.out⟩
      · go_simp
        obtain ⟨A, hA⟩ : ∃ A, A = u1.heap.size := ⟨_, rfl⟩
        obtain ⟨u7, hu⟩ : ∃ u, u = u1.alloc (.cells #[.int .i64 0, .int .i64 0, .slice none 0 0] 35) := ⟨_, rfl⟩
        have hb : Below u1.heap.size u1 u7 := by rw [hu]; exact b0 _ _
        have KA : Hid (IsB u7 A #[.int .i64 0, .int .i64 0, .slice none 0 0] 35) := by show IsB _ _ _ _; rw [hu, hA]; exact IsB.new _ _ _
        have HAw : Hid (w.heap.size ≤ A) := by show _ ≤ _; rw [hA]; exact HB.out.size
        have HNEK0 : Hid (P ≠ A) := by show _ ≠ _; have := K0.out.lt; rw [hA]; omega
        have HNEK1 : Hid (Q ≠ A) := by show _ ≠ _; have := K1.out.lt; rw [hA]; omega
        rw [← hu, ← hA]
        clear hu hA
        replace K0 := hidU (K0.out.below hb)
        replace K1 := hidU (K1.out.below hb)
        replace HB := hidU (HB.out.trans (hb.mono HB.out.size))
        replace O0 := hidU (own_below O0.out hb)
        clear hb
        refine hKc.out _ _ ⟨K0.out, K1.out⟩ (fun hHeld => ?_)
        clear hKc Kc
        (try simp only [List.getElem_toArray]); (try simp only [List.getElem_cons_succ]); (try simp only [List.getElem_cons_zero]); (try simp only [Act.put]); (try simp only [List.setIfInBounds_toArray]); (try simp only [List.set_cons_succ]); (try simp only [List.set_cons_zero])
        refine wpAnyH_ready (rs := [3]) (by kernel_rfl) (by simp) (AllReadyH.cons rfl (fun Kc hKc => ?_) AllReadyH.nil)
        go_simp
        refine (HT1b.out _ HB.out).mono ?_
        rintro e u8 ⟨v1, rfl, o6, hb⟩
        have O1 := hidU o6
        clear o6
        replace K0 := hidU (K0.out.below hb)
        replace K1 := hidU (K1.out.below hb)
        replace KA := hidU (KA.out.below hb)
        replace HB := hidU (HB.out.trans (hb.mono HB.out.size))
        replace O0 := hidU (own_below O0.out hb)
        clear hb
        go_wp2_with fail
        refine hKc.out _ _ ⟨K0.out, K1.out⟩ (fun hHeld => ?_)
        clear hKc Kc
        (try simp only [List.getElem_toArray]); (try simp only [List.getElem_cons_succ]); (try simp only [List.getElem_cons_zero]); (try simp only [Act.put]); (try simp only [List.setIfInBounds_toArray]); (try simp only [List.set_cons_succ]); (try simp only [List.set_cons_zero])
        refine wpAnyH_ready (rs := [4]) (by kernel_rfl) (by simp) (AllReadyH.cons rfl (fun Kc hKc => ?_) AllReadyH.nil)
        go_simp
        refine (HS.out _ _ _ (DimIn.of (by rw [HL0.out]; exact O0.out)) (DimIn.of (by rw [HL1.out]; exact O1.out))).mono ?_
        rintro e u9 ⟨v, rfl, hv, hb⟩
        obtain ⟨o0, oc, he⟩ := hv.shape
        rw [HM.out] at he
        subst he
        obtain ⟨ul, hul⟩ : ∃ l, l = u8.heap.size := ⟨_, rfl⟩
        obtain ⟨ur, hur⟩ : ∃ l, l = u9.heap.size := ⟨_, rfl⟩
        have HUR : Hid (ur ≤ u9.heap.size) := Nat.le_of_eq hur
        have HUL : Hid (w.heap.size ≤ ul) := by show _ ≤ _; rw [hul]; exact HB.out.size
        have HAR : Hid (ur ≤ A ∨ A < ul) := by right; rw [hul]; exact KA.out.lt
        rw [← hul, ← hur] at hv
        have HVT := hidU hv
        clear hv hul hur
        replace K0 := hidU (K0.out.below hb)
        replace K1 := hidU (K1.out.below hb)
        replace KA := hidU (KA.out.below hb)
        replace HB := hidU (HB.out.trans (hb.mono HB.out.size))
        clear hb O0 O1
        go_wp2_with fail
        refine hKc.out _ _ ⟨K0.out, K1.out⟩ (fun hHeld => ?_)
        clear hKc Kc
        (try simp only [List.getElem_toArray]); (try simp only [List.getElem_cons_succ]); (try simp only [List.getElem_cons_zero]); (try simp only [Act.put]); (try simp only [List.setIfInBounds_toArray]); (try simp only [List.set_cons_succ]); (try simp only [List.set_cons_zero])
        refine wpAnyH_take (i := 5) (v := ?_) rfl (by kernel_rfl) (by kernel_rfl) (by kernel_rfl) (fun _ _ _ h => h) (Or.inl ⟨by kernel_rfl, ?_⟩) hHeld ?_
        rotate_left
        · intro wz hSw; obtain ⟨hS1, hS2⟩ := hSw; obtain ⟨p0, p1, p2⟩ := hS1.c3; obtain ⟨q0, q1, q2⟩ := hS2.c3; clear hS1 hS2; go_simp; all_goals (try with_reducible rfl)
        (try simp only [List.getElem_toArray]); (try simp only [List.getElem_cons_succ]); (try simp only [List.getElem_cons_zero]); (try simp only [Act.put]); (try simp only [List.setIfInBounds_toArray]); (try simp only [List.set_cons_succ]); (try simp only [List.set_cons_zero])
        refine wpAnyH_take (i := 6) (v := ?_) rfl (by kernel_rfl) (by kernel_rfl) (by kernel_rfl) (fun _ _ _ h => h) (Or.inl ⟨by kernel_rfl, ?_⟩) hHeld ?_
        rotate_left
        · intro wz hSw; obtain ⟨hS1, hS2⟩ := hSw; obtain ⟨p0, p1, p2⟩ := hS1.c3; obtain ⟨q0, q1, q2⟩ := hS2.c3; clear hS1 hS2; go_simp; all_goals (try with_reducible rfl)
        (try simp only [List.getElem_toArray]); (try simp only [List.getElem_cons_succ]); (try simp only [List.getElem_cons_zero]); (try simp only [Act.put]); (try simp only [List.setIfInBounds_toArray]); (try simp only [List.set_cons_succ]); (try simp only [List.set_cons_zero])
        refine wpAnyH_take (i := 7) (v := ?_) rfl (by kernel_rfl) (by kernel_rfl) (by kernel_rfl) (fun _ _ _ h => h) (Or.inl ⟨by kernel_rfl, ?_⟩) hHeld ?_
        rotate_left
        · intro wz hSw; obtain ⟨hS1, hS2⟩ := hSw; obtain ⟨p0, p1, p2⟩ := hS1.c3; obtain ⟨q0, q1, q2⟩ := hS2.c3; clear hS1 hS2; go_simp; all_goals (try with_reducible rfl)
        (try simp only [List.getElem_toArray]); (try simp only [List.getElem_cons_succ]); (try simp only [List.getElem_cons_zero]); (try simp only [Act.put]); (try simp only [List.setIfInBounds_toArray]); (try simp only [List.set_cons_succ]); (try simp only [List.set_cons_zero])
        obtain ⟨z0, z1, z2⟩ := KA.out.c3
        obtain ⟨f0, f1, f2⟩ := KA.out.f3
        have h9 : Kp A (A + 1) u9 (((u9.setCell ⟨A, 0, none⟩ (.int .i64 rn)).setCell ⟨A, 1, none⟩ (.int .i64 rd)).setCell ⟨A, 2, none⟩ (.slice o0 m oc)) := ((Kp.set _ _ (Nat.le_refl _) (Nat.lt_succ_self _)).trans (Kp.set _ _ (Nat.le_refl _) (Nat.lt_succ_self _))).trans (Kp.set _ _ (Nat.le_refl _) (Nat.lt_succ_self _))
        have HV2 := hidU ((HVT.out.kp h9 (by have := HAR.out; omega)).mono (show w.heap.size ≤ ul from HUL.out) (Nat.le_trans HUR.out h9.size))
        have KA2 := hidU (KA.out.set3 (.int .i64 rn) (.int .i64 rd) (.slice o0 m oc))
        have K0b := hidU (K0.out.other3 (show P ≠ A from HNEK0.out) (.int .i64 rn) (.int .i64 rd) (.slice o0 m oc))
        have K1b := hidU (K1.out.other3 (show Q ≠ A from HNEK1.out) (.int .i64 rn) (.int .i64 rd) (.slice o0 m oc))
        have HB2 := hidU (below_set3 HB.out HAw.out (.int .i64 rn) (.int .i64 rd) (.slice o0 m oc))
        have HA2 := KA2.out.lt
        refine wpAnyH_ready (rs := [9]) (by kernel_rfl) (by simp) (AllReadyH.cons rfl (fun Kc hKc => ?_) AllReadyH.nil)
        go_simp
        refine hKc.out _ _ ⟨K0b.out, K1b.out⟩ (fun hHeld => ?_)
        clear hKc Kc z0 z1 z2 f0 f1 f2
        (try simp only [List.getElem_toArray]); (try simp only [List.getElem_cons_succ]); (try simp only [List.getElem_cons_zero]); (try simp only [Act.put]); (try simp only [List.setIfInBounds_toArray]); (try simp only [List.set_cons_succ]); (try simp only [List.set_cons_zero])
        refine wpAnyH_take (i := 10) (v := ?_) rfl (by kernel_rfl) (by kernel_rfl) (by kernel_rfl) (fun _ _ _ h => h) (Or.inl ⟨by kernel_rfl, ?_⟩) hHeld ?_
        rotate_left
        · intro wz hSw; obtain ⟨hS1, hS2⟩ := hSw; obtain ⟨p0, p1, p2⟩ := hS1.c3; obtain ⟨q0, q1, q2⟩ := hS2.c3; clear hS1 hS2; go_simp; all_goals (try with_reducible rfl)
        (try simp only [List.getElem_toArray]); (try simp only [List.getElem_cons_succ]); (try simp only [List.getElem_cons_zero]); (try simp only [Act.put]); (try simp only [List.setIfInBounds_toArray]); (try simp only [List.set_cons_succ]); (try simp only [List.set_cons_zero])
        refine wpAnyH_done (by kernel_rfl) ?_ _
        refine NoPanic.normal ?_
        go_wp2_with fail
        go_meet
        case rel => exact ⟨_, _, _, rfl, rfl, HA2, KA2.out, HV2.out, K0b.out, K1b.out, HB2.out⟩
    · go_simp
      obtain ⟨A, hA⟩ : ∃ A, A = wd.heap.size := ⟨_, rfl⟩
      obtain ⟨u10, hu⟩ : ∃ u, u = wd.alloc (.cells #[.int .i64 0, .int .i64 0, .slice none 0 0] 35) := ⟨_, rfl⟩
      have hb : Below wd.heap.size wd u10 := by rw [hu]; exact b0 _ _
      have KA : Hid (IsB u10 A #[.int .i64 0, .int .i64 0, .slice none 0 0] 35) := by show IsB _ _ _ _; rw [hu, hA]; exact IsB.new _ _ _
      have HAw : Hid (w.heap.size ≤ A) := by show _ ≤ _; rw [hA]; exact HB.out.size
      have HNEK0 : Hid (P ≠ A) := by show _ ≠ _; have := K0.out.lt; rw [hA]; omega
      have HNEK1 : Hid (Q ≠ A) := by show _ ≠ _; have := K1.out.lt; rw [hA]; omega
      rw [← hu, ← hA]
      clear hu hA
      replace K0 := hidU (K0.out.below hb)
      replace K1 := hidU (K1.out.below hb)
      replace HB := hidU (HB.out.trans (hb.mono HB.out.size))
      clear hb
      refine hKc.out _ _ ⟨K0.out, K1.out⟩ (fun hHeld => ?_)
      clear hKc Kc
      (try simp only [List.getElem_toArray]); (try simp only [List.getElem_cons_succ]); (try simp only [List.getElem_cons_zero]); (try simp only [Act.put]); (try simp only [List.setIfInBounds_toArray]); (try simp only [List.set_cons_succ]); (try simp only [List.set_cons_zero])
      refine wpAnyH_ready (rs := [1]) (by kernel_rfl) (by simp) (AllReadyH.cons rfl (fun Kc hKc => ?_) AllReadyH.nil)
      go_simp
      refine (HT0b.out _ HB.out).mono ?_
      rintro e u11 ⟨v0, rfl, o5, hb⟩
      have O0 := hidU o5
      clear o5
      replace K0 := hidU (K0.out.below hb)
      replace K1 := hidU (K1.out.below hb)
      replace KA := hidU (KA.out.below hb)
      replace HB := hidU (HB.out.trans (hb.mono HB.out.size))
      clear hb
      go_wp2_with fail
      refine hKc.out _ _ ⟨K0.out, K1.out⟩ (fun hHeld => ?_)
      clear hKc Kc
      (try simp only [List.getElem_toArray]); (try simp only [List.getElem_cons_succ]); (try simp only [List.getElem_cons_zero]); (try simp only [Act.put]); (try simp only [List.setIfInBounds_toArray]); (try simp only [List.set_cons_succ]); (try simp only [List.set_cons_zero])
      refine wpAnyH_ready (rs := [3]) (by kernel_rfl) (by simp) (AllReadyH.cons rfl (fun Kc hKc => ?_) AllReadyH.nil)
      go_simp
      refine (HT1b.out _ HB.out).mono ?_
      rintro e u12 ⟨v1, rfl, o6, hb⟩
      have O1 := hidU o6
      clear o6
      replace K0 := hidU (K0.out.below hb)
      replace K1 := hidU (K1.out.below hb)
      replace KA := hidU (KA.out.below hb)
      replace HB := hidU (HB.out.trans (hb.mono HB.out.size))
      replace O0 := hidU (own_below O0.out hb)
      clear hb
      go_wp2_with fail
      refine hKc.out _ _ ⟨K0.out, K1.out⟩ (fun hHeld => ?_)
      clear hKc Kc
      (try simp only [List.getElem_toArray]); (try simp only [List.getElem_cons_succ]); (try simp only [List.getElem_cons_zero]); (try simp only [Act.put]); (try simp only [List.setIfInBounds_toArray]); (try simp only [List.set_cons_succ]); (try simp only [List.set_cons_zero])
      refine wpAnyH_ready (rs := [4]) (by kernel_rfl) (by simp) (AllReadyH.cons rfl (fun Kc hKc => ?_) AllReadyH.nil)
      go_simp
      refine (HS.out _ _ _ (DimIn.of (by rw [HL0.out]; exact O0.out)) (DimIn.of (by rw [HL1.out]; exact O1.out))).mono ?_
      rintro e u13 ⟨v, rfl, hv, hb⟩
      obtain ⟨o0, oc, he⟩ := hv.shape
      rw [HM.out] at he
      subst he
      obtain ⟨ul, hul⟩ : ∃ l, l = u12.heap.size := ⟨_, rfl⟩
      obtain ⟨ur, hur⟩ : ∃ l, l = u13.heap.size := ⟨_, rfl⟩
      have HUR : Hid (ur ≤ u13.heap.size) := Nat.le_of_eq hur
      have HUL : Hid (w.heap.size ≤ ul) := by show _ ≤ _; rw [hul]; exact HB.out.size
      have HAR : Hid (ur ≤ A ∨ A < ul) := by right; rw [hul]; exact KA.out.lt
      rw [← hul, ← hur] at hv
      have HVT := hidU hv
      clear hv hul hur
      replace K0 := hidU (K0.out.below hb)
      replace K1 := hidU (K1.out.below hb)
      replace KA := hidU (KA.out.below hb)
      replace HB := hidU (HB.out.trans (hb.mono HB.out.size))
      clear hb O0 O1
      go_wp2_with fail
      refine hKc.out _ _ ⟨K0.out, K1.out⟩ (fun hHeld => ?_)
      clear hKc Kc
      (try simp only [List.getElem_toArray]); (try simp only [List.getElem_cons_succ]); (try simp only [List.getElem_cons_zero]); (try simp only [Act.put]); (try simp only [List.setIfInBounds_toArray]); (try simp only [List.set_cons_succ]); (try simp only [List.set_cons_zero])
      refine wpAnyH_take (i := 5) (v := ?_) rfl (by kernel_rfl) (by kernel_rfl) (by kernel_rfl) (fun _ _ _ h => h) (Or.inl ⟨by kernel_rfl, ?_⟩) hHeld ?_
      rotate_left
      · intro wz hSw; obtain ⟨hS1, hS2⟩ := hSw; obtain ⟨p0, p1, p2⟩ := hS1.c3; obtain ⟨q0, q1, q2⟩ := hS2.c3; clear hS1 hS2; go_simp; all_goals (try with_reducible rfl)
      (try simp only [List.getElem_toArray]); (try simp only [List.getElem_cons_succ]); (try simp only [List.getElem_cons_zero]); (try simp only [Act.put]); (try simp only [List.setIfInBounds_toArray]); (try simp only [List.set_cons_succ]); (try simp only [List.set_cons_zero])
      refine wpAnyH_take (i := 6) (v := ?_) rfl (by kernel_rfl) (by kernel_rfl) (by kernel_rfl) (fun _ _ _ h => h) (Or.inl ⟨by kernel_rfl, ?_⟩) hHeld ?_
      rotate_left
      · intro wz hSw; obtain ⟨hS1, hS2⟩ := hSw; obtain ⟨p0, p1, p2⟩ := hS1.c3; obtain ⟨q0, q1, q2⟩ := hS2.c3; clear hS1 hS2; go_simp; all_goals (try with_reducible rfl)
      (try simp only [List.getElem_toArray]); (try simp only [List.getElem_cons_succ]); (try simp only [List.getElem_cons_zero]); (try simp only [Act.put]); (try simp only [List.setIfInBounds_toArray]); (try simp only [List.set_cons_succ]); (try simp only [List.set_cons_zero])
      refine wpAnyH_take (i := 7) (v := ?_) rfl (by kernel_rfl) (by kernel_rfl) (by kernel_rfl) (fun _ _ _ h => h) (Or.inl ⟨by kernel_rfl, ?_⟩) hHeld ?_
      rotate_left
      · intro wz hSw; obtain ⟨hS1, hS2⟩ := hSw; obtain ⟨p0, p1, p2⟩ := hS1.c3; obtain ⟨q0, q1, q2⟩ := hS2.c3; clear hS1 hS2; go_simp; all_goals (try with_reducible rfl)
      (try simp only [List.getElem_toArray]); (try simp only [List.getElem_cons_succ]); (try simp only [List.getElem_cons_zero]); (try simp only [Act.put]); (try simp only [List.setIfInBounds_toArray]); (try simp only [List.set_cons_succ]); (try simp only [List.set_cons_zero])
      obtain ⟨z0, z1, z2⟩ := KA.out.c3
      obtain ⟨f0, f1, f2⟩ := KA.out.f3
      have h9 : Kp A (A + 1) u13 (((u13.setCell ⟨A, 0, none⟩ (.int .i64 rn)).setCell ⟨A, 1, none⟩ (.int .i64 rd)).setCell ⟨A, 2, none⟩ (.slice o0 m oc)) := ((Kp.set _ _ (Nat.le_refl _) (Nat.lt_succ_self _)).trans (Kp.set _ _ (Nat.le_refl _) (Nat.lt_succ_self _))).trans (Kp.set _ _ (Nat.le_refl _) (Nat.lt_succ_self _))
      have HV2 := hidU ((HVT.out.kp h9 (by have := HAR.out; omega)).mono (show w.heap.size ≤ ul from HUL.out) (Nat.le_trans HUR.out h9.size))
      have KA2 := hidU (KA.out.set3 (.int .i64 rn) (.int .i64 rd) (.slice o0 m oc))
      have K0b := hidU (K0.out.other3 (show P ≠ A from HNEK0.out) (.int .i64 rn) (.int .i64 rd) (.slice o0 m oc))
      have K1b := hidU (K1.out.other3 (show Q ≠ A from HNEK1.out) (.int .i64 rn) (.int .i64 rd) (.slice o0 m oc))
      have HB2 := hidU (below_set3 HB.out HAw.out (.int .i64 rn) (.int .i64 rd) (.slice o0 m oc))
      have HA2 := KA2.out.lt
      refine wpAnyH_ready (rs := [9]) (by kernel_rfl) (by simp) (AllReadyH.cons rfl (fun Kc hKc => ?_) AllReadyH.nil)
      go_simp
      refine hKc.out _ _ ⟨K0b.out, K1b.out⟩ (fun hHeld => ?_)
      clear hKc Kc z0 z1 z2 f0 f1 f2
      (try simp only [List.getElem_toArray]); (try simp only [List.getElem_cons_succ]); (try simp only [List.getElem_cons_zero]); (try simp only [Act.put]); (try simp only [List.setIfInBounds_toArray]); (try simp only [List.set_cons_succ]); (try simp only [List.set_cons_zero])
      refine wpAnyH_take (i := 10) (v := ?_) rfl (by kernel_rfl) (by kernel_rfl) (by kernel_rfl) (fun _ _ _ h => h) (Or.inl ⟨by kernel_rfl, ?_⟩) hHeld ?_
      rotate_left
      · intro wz hSw; obtain ⟨hS1, hS2⟩ := hSw; obtain ⟨p0, p1, p2⟩ := hS1.c3; obtain ⟨q0, q1, q2⟩ := hS2.c3; clear hS1 hS2; go_simp; all_goals (try with_reducible rfl)
      (try simp only [List.getElem_toArray]); (try simp only [List.getElem_cons_succ]); (try simp only [List.getElem_cons_zero]); (try simp only [Act.put]); (try simp only [List.setIfInBounds_toArray]); (try simp only [List.set_cons_succ]); (try simp only [List.set_cons_zero])
      refine wpAnyH_done (by kernel_rfl) ?_ _
      refine NoPanic.normal ?_
      go_wp2_with fail
      go_meet
      case rel => exact ⟨_, _, _, rfl, rfl, HA2, KA2.out, HV2.out, K0b.out, K1b.out, HB2.out⟩
  case rest =>
    obtain ⟨T, o0, oc, rfl, rfl, hTx, KT, HV, K0, K1, HB⟩ := hcut
    obtain ⟨s0, hs0⟩ : ∃ s, s = wc.heap.size := ⟨_, rfl⟩
    have HTs : Hid (T < s0) := by show _ < _; rw [hs0]; exact hTx
    have HWs : Hid (w.heap.size ≤ s0) := by show _ ≤ _; rw [hs0]; exact HB.out.size
    rw [← hs0] at HV
    have HS0 : Hid (s0 ≤ wc.heap.size) := Nat.le_of_eq hs0
    have HPs : Hid (P < s0 ∧ Q < s0) := by show _ ∧ _; rw [hs0]; exact ⟨K0.out.lt, K1.out.lt⟩
    clear hs0 hTx HS
    obtain ⟨x00, x01, x02⟩ := K0.out.c3
    go_wp2_with fail
    refine (HT0b.out _ HB.out).mono ?_
    rintro e g1 ⟨v0, rfl, o5, hb⟩
    obtain ⟨av0, cv0, rfl⟩ := own_shape o5
    clear x00 x01 x02
    obtain ⟨s1, hs⟩ : ∃ s, s = g1.heap.size := ⟨_, rfl⟩
    obtain ⟨l1, hl⟩ : ∃ s, s = wc.heap.size := ⟨_, rfl⟩
    have HC1 : Hid (s0 ≤ l1 ∧ l1 ≤ s1) := by show _ ∧ _; rw [hs, hl]; exact ⟨HS0.out, hb.size⟩
    have hrm := RowM.own o5
    rw [← hs, ← hl] at hrm
    replace K0 := hidU (K0.out.below hb)
    replace K1 := hidU (K1.out.below hb)
    replace KT := hidU (KT.out.below hb)
    replace HV := hidU (HV.out.below hb)
    replace HB := hidU (HB.out.trans (hb.mono HB.out.size))
    have HRX := hidU hrm
    have HO0 := hidU o5
    clear hrm o5
    have hb2 := b0 g1 (.cells #[.int .i64 n0, .int .i64 d0, .slice av0 len0 cv0] 35)
    go_upto_region 10 with fail
    obtain ⟨yg1, hX⟩ : ∃ Y, Y = g1.alloc (.cells #[.int .i64 n0, .int .i64 d0, .slice av0 len0 cv0] 35) := ⟨_, rfl⟩
    obtain ⟨X, hT⟩ : ∃ F, F = g1.heap.size := ⟨_, rfl⟩
    have HNX : Hid (s1 ≤ X) := by show _ ≤ _; rw [hs, hT]; exact Nat.le_refl _
    rw [← hX] at hb2
    clear hb
    have hb := hb2
    clear hb2
    replace K0 := hidU (K0.out.below hb)
    replace K1 := hidU (K1.out.below hb)
    replace KT := hidU (KT.out.below hb)
    replace HV := hidU (HV.out.below hb)
    replace HRX := hidU (HRX.out.below hb)
    replace HO0 := hidU (own_below HO0.out hb)
    replace HB := hidU (HB.out.trans (hb.mono HB.out.size))
    have KX : Hid (IsB yg1 X #[.int .i64 n0, .int .i64 d0, .slice av0 len0 cv0] 35) := by show IsB _ _ _ _; rw [hX, hT]; exact IsB.new _ _ _
    have HS1 : Hid (s1 ≤ yg1.heap.size) := by show _ ≤ _; rw [hs]; exact hb.size
    rw [← hX, ← hT]
    clear hb hX hT hs hl
    obtain ⟨x00, x01, x02⟩ := K1.out.c3
    go_wp2_with fail
    refine (HT1b.out _ HB.out).mono ?_
    rintro e g2 ⟨v1, rfl, o5, hb⟩
    obtain ⟨av1, cv1, rfl⟩ := own_shape o5
    clear x00 x01 x02
    obtain ⟨s2, hs⟩ : ∃ s, s = g2.heap.size := ⟨_, rfl⟩
    obtain ⟨l2, hl⟩ : ∃ s, s = yg1.heap.size := ⟨_, rfl⟩
    have HC2 : Hid (s1 ≤ l2 ∧ l2 ≤ s2) := by show _ ∧ _; rw [hs, hl]; exact ⟨HS1.out, hb.size⟩
    have HX2 : Hid (X < l2) := by show _ < _; rw [hl]; exact KX.out.lt
    have hrm := RowM.own o5
    rw [← hs, ← hl] at hrm
    replace K0 := hidU (K0.out.below hb)
    replace K1 := hidU (K1.out.below hb)
    replace KT := hidU (KT.out.below hb)
    replace KX := hidU (KX.out.below hb)
    replace HV := hidU (HV.out.below hb)
    replace HRX := hidU (HRX.out.below hb)
    replace HO0 := hidU (own_below HO0.out hb)
    replace HB := hidU (HB.out.trans (hb.mono HB.out.size))
    have HRY := hidU hrm
    have HO1 := hidU o5
    clear hrm o5
    have hb2 := b0 g2 (.cells #[.int .i64 n1, .int .i64 d1, .slice av1 len1 cv1] 35)
    go_upto_region 11 with fail
    obtain ⟨yg2, hX⟩ : ∃ Y, Y = g2.alloc (.cells #[.int .i64 n1, .int .i64 d1, .slice av1 len1 cv1] 35) := ⟨_, rfl⟩
    obtain ⟨Y, hT⟩ : ∃ F, F = g2.heap.size := ⟨_, rfl⟩
    have HNY : Hid (s2 ≤ Y) := by show _ ≤ _; rw [hs, hT]; exact Nat.le_refl _
    rw [← hX] at hb2
    clear hb
    have hb := hb2
    clear hb2
    replace K0 := hidU (K0.out.below hb)
    replace K1 := hidU (K1.out.below hb)
    replace KT := hidU (KT.out.below hb)
    replace KX := hidU (KX.out.below hb)
    replace HV := hidU (HV.out.below hb)
    replace HRX := hidU (HRX.out.below hb)
    replace HRY := hidU (HRY.out.below hb)
    replace HO0 := hidU (own_below HO0.out hb)
    replace HO1 := hidU (own_below HO1.out hb)
    replace HB := hidU (HB.out.trans (hb.mono HB.out.size))
    have KY : Hid (IsB yg2 Y #[.int .i64 n1, .int .i64 d1, .slice av1 len1 cv1] 35) := by show IsB _ _ _ _; rw [hX, hT]; exact IsB.new _ _ _
    have HS2 : Hid (s2 ≤ yg2.heap.size) := by show _ ≤ _; rw [hs]; exact hb.size
    rw [← hX, ← hT]
    clear hb hX hT hs hl
    obtain ⟨x00, x01, x02⟩ := KX.out.c3
    obtain ⟨x10, x11, x12⟩ := KY.out.c3
    go_wp2_with fail
    refine (HI.out _ _ _ (DimIn.of (by rw [HL0.out]; exact HO0.out)) (DimIn.of (by rw [HL1.out]; exact HO1.out))).mono ?_
    rintro e g3 ⟨v, rfl, hv, hb⟩
    obtain ⟨og, gc, he⟩ := hv.shape
    rw [HM.out] at he
    subst he
    clear x00 x01 x02 x10 x11 x12 HO0 HO1
    obtain ⟨s3, hs⟩ : ∃ s, s = g3.heap.size := ⟨_, rfl⟩
    obtain ⟨l3, hl⟩ : ∃ s, s = yg2.heap.size := ⟨_, rfl⟩
    have HC3 : Hid (s2 ≤ l3 ∧ l3 ≤ s3) := by show _ ∧ _; rw [hs, hl]; exact ⟨HS2.out, hb.size⟩
    have HX3 : Hid (Y < l3) := by show _ < _; rw [hl]; exact KY.out.lt
    rw [← hs, ← hl] at hv
    replace K0 := hidU (K0.out.below hb)
    replace K1 := hidU (K1.out.below hb)
    replace KT := hidU (KT.out.below hb)
    replace KX := hidU (KX.out.below hb)
    replace KY := hidU (KY.out.below hb)
    replace HV := hidU (HV.out.below hb)
    replace HRX := hidU (HRX.out.below hb)
    replace HRY := hidU (HRY.out.below hb)
    replace HB := hidU (HB.out.trans (hb.mono HB.out.size))
    have HRG := hidU hv
    clear hv
    have hb2 := b0 g3 (.cells #[.int .i64 rn, .int .i64 rd, .slice og m gc] 35)
    go_upto_region 12 with fail
    obtain ⟨yg3, hX⟩ : ∃ Y, Y = g3.alloc (.cells #[.int .i64 rn, .int .i64 rd, .slice og m gc] 35) := ⟨_, rfl⟩
    obtain ⟨G, hT⟩ : ∃ F, F = g3.heap.size := ⟨_, rfl⟩
    have HNG : Hid (s3 ≤ G) := by show _ ≤ _; rw [hs, hT]; exact Nat.le_refl _
    rw [← hX] at hb2
    clear hb
    have hb := hb2
    clear hb2
    replace K0 := hidU (K0.out.below hb)
    replace K1 := hidU (K1.out.below hb)
    replace KT := hidU (KT.out.below hb)
    replace KX := hidU (KX.out.below hb)
    replace KY := hidU (KY.out.below hb)
    replace HV := hidU (HV.out.below hb)
    replace HRX := hidU (HRX.out.below hb)
    replace HRY := hidU (HRY.out.below hb)
    replace HRG := hidU (HRG.out.below hb)
    replace HB := hidU (HB.out.trans (hb.mono HB.out.size))
    have KG : Hid (IsB yg3 G #[.int .i64 rn, .int .i64 rd, .slice og m gc] 35) := by show IsB _ _ _ _; rw [hX, hT]; exact IsB.new _ _ _
    have HS3 : Hid (s3 ≤ yg3.heap.size) := by show _ ≤ _; rw [hs]; exact hb.size
    rw [← hX, ← hT]
    clear hb hX hT hs hl
    have hmm : m ≤ 1000000000 := by omega
    have HMM := hidU hmm
    clear hmm
    obtain ⟨x00, x01, x02⟩ := KG.out.c3
    obtain ⟨x10, x11, x12⟩ := KT.out.c3
    go_wp2_with fail
    refine (eqQ_any rn rd _ _ xs _ _ _ _ _ (by rw [HM.out]; exact HMM.out) HRG.out HV.out).mono ?_
    rintro e g4 ⟨rfl, hb⟩
    replace K0 := hidU (K0.out.below hb)
    replace K1 := hidU (K1.out.below hb)
    replace KT := hidU (KT.out.below hb)
    replace KX := hidU (KX.out.below hb)
    replace KY := hidU (KY.out.below hb)
    replace KG := hidU (KG.out.below hb)
    replace HV := hidU (HV.out.below hb)
    replace HRX := hidU (HRX.out.below hb)
    replace HRY := hidU (HRY.out.below hb)
    replace HRG := hidU (HRG.out.below hb)
    replace HB := hidU (HB.out.trans (hb.mono HB.out.size))
    clear hb x00 x01 x02 x10 x11 x12
    go_upto_region 14 with fail
    have hb := (Below.refl g4.heap.size g4).drew
    replace K0 := hidU (K0.out.below hb)
    replace K1 := hidU (K1.out.below hb)
    replace KT := hidU (KT.out.below hb)
    replace KX := hidU (KX.out.below hb)
    replace KY := hidU (KY.out.below hb)
    replace KG := hidU (KG.out.below hb)
    replace HV := hidU (HV.out.below hb)
    replace HRX := hidU (HRX.out.below hb)
    replace HRY := hidU (HRY.out.below hb)
    replace HRG := hidU (HRG.out.below hb)
    replace HB := hidU (HB.out.trans (hb.mono HB.out.size))
    clear hb
    refine wp_region_noPanic ?_
    refine wp_region_held_drew (S := fun W => IsB W X #[.int .i64 n0, .int .i64 d0, .slice av0 len0 cv0] 35 ∧ IsB W P #[.int .i64 n0, .int .i64 d0, .slice a0 len0 cap0] 30) (by kernel_rfl) ⟨KX.out, K0.out⟩ (fun hHeld => ?_)
    refine wpAnyH_take (i := 0) (v := ?_) rfl (by kernel_rfl) (by kernel_rfl) (by kernel_rfl) (fun _ _ _ h => h) (Or.inl ⟨by kernel_rfl, ?_⟩) hHeld ?_
    rotate_left
    · intro wz hSw; obtain ⟨hS1, hS2⟩ := hSw; obtain ⟨p0, p1, p2⟩ := hS1.c3; obtain ⟨q0, q1, q2⟩ := hS2.c3; clear hS1 hS2; go_simp; all_goals (try with_reducible rfl)
    (try simp only [List.getElem_toArray]); (try simp only [List.getElem_cons_succ]); (try simp only [List.getElem_cons_zero]); (try simp only [Act.put]); (try simp only [List.setIfInBounds_toArray]); (try simp only [List.set_cons_succ]); (try simp only [List.set_cons_zero])
    refine wpAnyH_take (i := 1) (v := ?_) rfl (by kernel_rfl) (by kernel_rfl) (by kernel_rfl) (fun _ _ _ h => h) (Or.inl ⟨by kernel_rfl, ?_⟩) hHeld ?_
    rotate_left
    · intro wz hSw; obtain ⟨hS1, hS2⟩ := hSw; obtain ⟨p0, p1, p2⟩ := hS1.c3; obtain ⟨q0, q1, q2⟩ := hS2.c3; clear hS1 hS2; go_simp; all_goals (try with_reducible rfl)
    (try simp only [List.getElem_toArray]); (try simp only [List.getElem_cons_succ]); (try simp only [List.getElem_cons_zero]); (try simp only [Act.put]); (try simp only [List.setIfInBounds_toArray]); (try simp only [List.set_cons_succ]); (try simp only [List.set_cons_zero])
    refine wpAnyH_ready (rs := [2]) (by kernel_rfl) (by simp) (AllReadyH.cons rfl (fun Kc hKc => ?_) AllReadyH.nil)
    go_simp
    refine (HT0b.out _ HB.out).mono ?_
    rintro e g5 ⟨v, rfl, ov, hb⟩
    replace K0 := hidU (K0.out.below hb)
    replace K1 := hidU (K1.out.below hb)
    replace KT := hidU (KT.out.below hb)
    replace KX := hidU (KX.out.below hb)
    replace KY := hidU (KY.out.below hb)
    replace KG := hidU (KG.out.below hb)
    replace HV := hidU (HV.out.below hb)
    replace HRX := hidU (HRX.out.below hb)
    replace HRY := hidU (HRY.out.below hb)
    replace HRG := hidU (HRG.out.below hb)
    replace HB := hidU (HB.out.trans (hb.mono HB.out.size))
    clear hb
    go_wp2_with fail
    refine hKc.out _ _ ⟨KX.out, K0.out⟩ (fun hHeld => ?_)
    clear hKc Kc
    (try simp only [List.getElem_toArray]); (try simp only [List.getElem_cons_succ]); (try simp only [List.getElem_cons_zero]); (try simp only [Act.put]); (try simp only [List.setIfInBounds_toArray]); (try simp only [List.set_cons_succ]); (try simp only [List.set_cons_zero])
    refine wpAnyH_ready (rs := [3]) (by kernel_rfl) (by simp) (AllReadyH.cons rfl (fun Kc hKc => ?_) AllReadyH.nil)
    go_simp
    refine (eqQ_any n0 d0 _ _ ys0 _ _ _ _ _ (by rw [HL0.out]; have := HLL.out; omega) HRX.out (RowM.own ov)).mono ?_
    rintro e g6 ⟨rfl, hb⟩
    replace K0 := hidU (K0.out.below hb)
    replace K1 := hidU (K1.out.below hb)
    replace KT := hidU (KT.out.below hb)
    replace KX := hidU (KX.out.below hb)
    replace KY := hidU (KY.out.below hb)
    replace KG := hidU (KG.out.below hb)
    replace HV := hidU (HV.out.below hb)
    replace HRX := hidU (HRX.out.below hb)
    replace HRY := hidU (HRY.out.below hb)
    replace HRG := hidU (HRG.out.below hb)
    replace HB := hidU (HB.out.trans (hb.mono HB.out.size))
    clear hb ov
    go_wp2_with fail
    refine hKc.out _ _ ⟨KX.out, K0.out⟩ (fun hHeld => ?_)
    clear hKc Kc
    (try simp only [List.getElem_toArray]); (try simp only [List.getElem_cons_succ]); (try simp only [List.getElem_cons_zero]); (try simp only [Act.put]); (try simp only [List.setIfInBounds_toArray]); (try simp only [List.set_cons_succ]); (try simp only [List.set_cons_zero])
    refine wpAnyH_take (i := 4) (v := ?_) rfl (by kernel_rfl) (by kernel_rfl) (by kernel_rfl) (fun _ _ _ h => h) (Or.inl ⟨by kernel_rfl, ?_⟩) hHeld ?_
    rotate_left
    · intro wz hSw; obtain ⟨hS1, hS2⟩ := hSw; obtain ⟨p0, p1, p2⟩ := hS1.c3; obtain ⟨q0, q1, q2⟩ := hS2.c3; clear hS1 hS2; go_simp; all_goals (try with_reducible rfl)
    (try simp only [List.getElem_toArray]); (try simp only [List.getElem_cons_succ]); (try simp only [List.getElem_cons_zero]); (try simp only [Act.put]); (try simp only [List.setIfInBounds_toArray]); (try simp only [List.set_cons_succ]); (try simp only [List.set_cons_zero])
    refine wpAnyH_done (by kernel_rfl) ?_ _
    refine NoPanic.normal ?_
    go_upto_region 16 with fail
    have hb := (Below.refl g6.heap.size g6).drew
    replace K0 := hidU (K0.out.below hb)
    replace K1 := hidU (K1.out.below hb)
    replace KT := hidU (KT.out.below hb)
    replace KX := hidU (KX.out.below hb)
    replace KY := hidU (KY.out.below hb)
    replace KG := hidU (KG.out.below hb)
    replace HV := hidU (HV.out.below hb)
    replace HRX := hidU (HRX.out.below hb)
    replace HRY := hidU (HRY.out.below hb)
    replace HRG := hidU (HRG.out.below hb)
    replace HB := hidU (HB.out.trans (hb.mono HB.out.size))
    clear hb
    refine wp_region_noPanic ?_
    refine wp_region_held_drew (S := fun W => IsB W Y #[.int .i64 n1, .int .i64 d1, .slice av1 len1 cv1] 35 ∧ IsB W Q #[.int .i64 n1, .int .i64 d1, .slice a1 len1 cap1] 30) (by kernel_rfl) ⟨KY.out, K1.out⟩ (fun hHeld => ?_)
    refine wpAnyH_take (i := 0) (v := ?_) rfl (by kernel_rfl) (by kernel_rfl) (by kernel_rfl) (fun _ _ _ h => h) (Or.inl ⟨by kernel_rfl, ?_⟩) hHeld ?_
    rotate_left
    · intro wz hSw; obtain ⟨hS1, hS2⟩ := hSw; obtain ⟨p0, p1, p2⟩ := hS1.c3; obtain ⟨q0, q1, q2⟩ := hS2.c3; clear hS1 hS2; go_simp; all_goals (try with_reducible rfl)
    (try simp only [List.getElem_toArray]); (try simp only [List.getElem_cons_succ]); (try simp only [List.getElem_cons_zero]); (try simp only [Act.put]); (try simp only [List.setIfInBounds_toArray]); (try simp only [List.set_cons_succ]); (try simp only [List.set_cons_zero])
    refine wpAnyH_take (i := 1) (v := ?_) rfl (by kernel_rfl) (by kernel_rfl) (by kernel_rfl) (fun _ _ _ h => h) (Or.inl ⟨by kernel_rfl, ?_⟩) hHeld ?_
    rotate_left
    · intro wz hSw; obtain ⟨hS1, hS2⟩ := hSw; obtain ⟨p0, p1, p2⟩ := hS1.c3; obtain ⟨q0, q1, q2⟩ := hS2.c3; clear hS1 hS2; go_simp; all_goals (try with_reducible rfl)
    (try simp only [List.getElem_toArray]); (try simp only [List.getElem_cons_succ]); (try simp only [List.getElem_cons_zero]); (try simp only [Act.put]); (try simp only [List.setIfInBounds_toArray]); (try simp only [List.set_cons_succ]); (try simp only [List.set_cons_zero])
    refine wpAnyH_ready (rs := [2]) (by kernel_rfl) (by simp) (AllReadyH.cons rfl (fun Kc hKc => ?_) AllReadyH.nil)
    go_simp
    refine (HT1b.out _ HB.out).mono ?_
    rintro e g7 ⟨v, rfl, ov, hb⟩
    replace K0 := hidU (K0.out.below hb)
    replace K1 := hidU (K1.out.below hb)
    replace KT := hidU (KT.out.below hb)
    replace KX := hidU (KX.out.below hb)
    replace KY := hidU (KY.out.below hb)
    replace KG := hidU (KG.out.below hb)
    replace HV := hidU (HV.out.below hb)
    replace HRX := hidU (HRX.out.below hb)
    replace HRY := hidU (HRY.out.below hb)
    replace HRG := hidU (HRG.out.below hb)
    replace HB := hidU (HB.out.trans (hb.mono HB.out.size))
    clear hb
    go_wp2_with fail
    refine hKc.out _ _ ⟨KY.out, K1.out⟩ (fun hHeld => ?_)
    clear hKc Kc
    (try simp only [List.getElem_toArray]); (try simp only [List.getElem_cons_succ]); (try simp only [List.getElem_cons_zero]); (try simp only [Act.put]); (try simp only [List.setIfInBounds_toArray]); (try simp only [List.set_cons_succ]); (try simp only [List.set_cons_zero])
    refine wpAnyH_ready (rs := [3]) (by kernel_rfl) (by simp) (AllReadyH.cons rfl (fun Kc hKc => ?_) AllReadyH.nil)
    go_simp
    refine (eqQ_any n1 d1 _ _ ys1 _ _ _ _ _ (by rw [HL1.out]; have := HLL.out; omega) HRY.out (RowM.own ov)).mono ?_
    rintro e g8 ⟨rfl, hb⟩
    replace K0 := hidU (K0.out.below hb)
    replace K1 := hidU (K1.out.below hb)
    replace KT := hidU (KT.out.below hb)
    replace KX := hidU (KX.out.below hb)
    replace KY := hidU (KY.out.below hb)
    replace KG := hidU (KG.out.below hb)
    replace HV := hidU (HV.out.below hb)
    replace HRX := hidU (HRX.out.below hb)
    replace HRY := hidU (HRY.out.below hb)
    replace HRG := hidU (HRG.out.below hb)
    replace HB := hidU (HB.out.trans (hb.mono HB.out.size))
    clear hb ov
    go_wp2_with fail
    refine hKc.out _ _ ⟨KY.out, K1.out⟩ (fun hHeld => ?_)
    clear hKc Kc
    (try simp only [List.getElem_toArray]); (try simp only [List.getElem_cons_succ]); (try simp only [List.getElem_cons_zero]); (try simp only [Act.put]); (try simp only [List.setIfInBounds_toArray]); (try simp only [List.set_cons_succ]); (try simp only [List.set_cons_zero])
    refine wpAnyH_take (i := 4) (v := ?_) rfl (by kernel_rfl) (by kernel_rfl) (by kernel_rfl) (fun _ _ _ h => h) (Or.inl ⟨by kernel_rfl, ?_⟩) hHeld ?_
    rotate_left
    · intro wz hSw; obtain ⟨hS1, hS2⟩ := hSw; obtain ⟨p0, p1, p2⟩ := hS1.c3; obtain ⟨q0, q1, q2⟩ := hS2.c3; clear hS1 hS2; go_simp; all_goals (try with_reducible rfl)
    (try simp only [List.getElem_toArray]); (try simp only [List.getElem_cons_succ]); (try simp only [List.getElem_cons_zero]); (try simp only [Act.put]); (try simp only [List.setIfInBounds_toArray]); (try simp only [List.set_cons_succ]); (try simp only [List.set_cons_zero])
    refine wpAnyH_done (by kernel_rfl) ?_ _
    refine NoPanic.normal ?_
    obtain ⟨x00, x01, x02⟩ := KX.out.c3
    go_wp2_with fail
    refine (markQ_any n0 d0 _ ys0 len0 _ _ (1) _ HL0.out (by have := HLL.out; omega) (by omega) (by omega) HRX.out).mono ?_
    rintro e g9 ⟨rfl, hr, hk⟩
    clear x00 x01 x02
    replace K0 := hidU (K0.out.kp hk (by have h1 := HC1.out; have h2 := HC2.out; have h3 := HC3.out; have h4 := HNX.out; have h5 := HNY.out; have h6 := HNG.out; have h7 := HTs.out; have h8 := HWs.out; have h9 := HPs.out; have h10 := HX2.out; have h11 := HX3.out; omega))
    replace K1 := hidU (K1.out.kp hk (by have h1 := HC1.out; have h2 := HC2.out; have h3 := HC3.out; have h4 := HNX.out; have h5 := HNY.out; have h6 := HNG.out; have h7 := HTs.out; have h8 := HWs.out; have h9 := HPs.out; have h10 := HX2.out; have h11 := HX3.out; omega))
    replace KT := hidU (KT.out.kp hk (by have h1 := HC1.out; have h2 := HC2.out; have h3 := HC3.out; have h4 := HNX.out; have h5 := HNY.out; have h6 := HNG.out; have h7 := HTs.out; have h8 := HWs.out; have h9 := HPs.out; have h10 := HX2.out; have h11 := HX3.out; omega))
    replace KX := hidU (KX.out.kp hk (by have h1 := HC1.out; have h2 := HC2.out; have h3 := HC3.out; have h4 := HNX.out; have h5 := HNY.out; have h6 := HNG.out; have h7 := HTs.out; have h8 := HWs.out; have h9 := HPs.out; have h10 := HX2.out; have h11 := HX3.out; omega))
    replace KY := hidU (KY.out.kp hk (by have h1 := HC1.out; have h2 := HC2.out; have h3 := HC3.out; have h4 := HNX.out; have h5 := HNY.out; have h6 := HNG.out; have h7 := HTs.out; have h8 := HWs.out; have h9 := HPs.out; have h10 := HX2.out; have h11 := HX3.out; omega))
    replace KG := hidU (KG.out.kp hk (by have h1 := HC1.out; have h2 := HC2.out; have h3 := HC3.out; have h4 := HNX.out; have h5 := HNY.out; have h6 := HNG.out; have h7 := HTs.out; have h8 := HWs.out; have h9 := HPs.out; have h10 := HX2.out; have h11 := HX3.out; omega))
    replace HV := hidU (HV.out.kp hk (by have h1 := HC1.out; have h2 := HC2.out; have h3 := HC3.out; have h4 := HNX.out; have h5 := HNY.out; have h6 := HNG.out; have h7 := HTs.out; have h8 := HWs.out; have h9 := HPs.out; have h10 := HX2.out; have h11 := HX3.out; omega))
    replace HRY := hidU (HRY.out.kp hk (by have h1 := HC1.out; have h2 := HC2.out; have h3 := HC3.out; have h4 := HNX.out; have h5 := HNY.out; have h6 := HNG.out; have h7 := HTs.out; have h8 := HWs.out; have h9 := HPs.out; have h10 := HX2.out; have h11 := HX3.out; omega))
    replace HRG := hidU (HRG.out.kp hk (by have h1 := HC1.out; have h2 := HC2.out; have h3 := HC3.out; have h4 := HNX.out; have h5 := HNY.out; have h6 := HNG.out; have h7 := HTs.out; have h8 := HWs.out; have h9 := HPs.out; have h10 := HX2.out; have h11 := HX3.out; omega))
    replace HRX := hidU hr
    replace HB := hidU (HB.out.trans (hk.below (by have h1 := HC1.out; have h2 := HC2.out; have h3 := HC3.out; have h4 := HNX.out; have h5 := HNY.out; have h6 := HNG.out; have h7 := HTs.out; have h8 := HWs.out; have h9 := HPs.out; have h10 := HX2.out; have h11 := HX3.out; omega) HB.out.size))
    clear hk hr
    obtain ⟨mk, hmk⟩ : ∃ k : Int, k = 1 + (len0 : Int) := ⟨_, rfl⟩
    have HMK : Hid (0 ≤ mk ∧ mk ≤ 1048577) := by have := HLL.out; show _ ∧ _; omega
    rw [← hmk]
    clear hmk
    obtain ⟨x00, x01, x02⟩ := KY.out.c3
    go_wp2_with fail
    refine (markQ_any n1 d1 _ ys1 len1 _ _ (mk) _ HL1.out (by have := HLL.out; omega) (by exact HMK.out.1) (by have := HMK.out; omega) HRY.out).mono ?_
    rintro e g10 ⟨rfl, hr, hk⟩
    clear x00 x01 x02
    replace K0 := hidU (K0.out.kp hk (by have h1 := HC1.out; have h2 := HC2.out; have h3 := HC3.out; have h4 := HNX.out; have h5 := HNY.out; have h6 := HNG.out; have h7 := HTs.out; have h8 := HWs.out; have h9 := HPs.out; have h10 := HX2.out; have h11 := HX3.out; omega))
    replace K1 := hidU (K1.out.kp hk (by have h1 := HC1.out; have h2 := HC2.out; have h3 := HC3.out; have h4 := HNX.out; have h5 := HNY.out; have h6 := HNG.out; have h7 := HTs.out; have h8 := HWs.out; have h9 := HPs.out; have h10 := HX2.out; have h11 := HX3.out; omega))
    replace KT := hidU (KT.out.kp hk (by have h1 := HC1.out; have h2 := HC2.out; have h3 := HC3.out; have h4 := HNX.out; have h5 := HNY.out; have h6 := HNG.out; have h7 := HTs.out; have h8 := HWs.out; have h9 := HPs.out; have h10 := HX2.out; have h11 := HX3.out; omega))
    replace KX := hidU (KX.out.kp hk (by have h1 := HC1.out; have h2 := HC2.out; have h3 := HC3.out; have h4 := HNX.out; have h5 := HNY.out; have h6 := HNG.out; have h7 := HTs.out; have h8 := HWs.out; have h9 := HPs.out; have h10 := HX2.out; have h11 := HX3.out; omega))
    replace KY := hidU (KY.out.kp hk (by have h1 := HC1.out; have h2 := HC2.out; have h3 := HC3.out; have h4 := HNX.out; have h5 := HNY.out; have h6 := HNG.out; have h7 := HTs.out; have h8 := HWs.out; have h9 := HPs.out; have h10 := HX2.out; have h11 := HX3.out; omega))
    replace KG := hidU (KG.out.kp hk (by have h1 := HC1.out; have h2 := HC2.out; have h3 := HC3.out; have h4 := HNX.out; have h5 := HNY.out; have h6 := HNG.out; have h7 := HTs.out; have h8 := HWs.out; have h9 := HPs.out; have h10 := HX2.out; have h11 := HX3.out; omega))
    replace HV := hidU (HV.out.kp hk (by have h1 := HC1.out; have h2 := HC2.out; have h3 := HC3.out; have h4 := HNX.out; have h5 := HNY.out; have h6 := HNG.out; have h7 := HTs.out; have h8 := HWs.out; have h9 := HPs.out; have h10 := HX2.out; have h11 := HX3.out; omega))
    replace HRX := hidU (HRX.out.kp hk (by have h1 := HC1.out; have h2 := HC2.out; have h3 := HC3.out; have h4 := HNX.out; have h5 := HNY.out; have h6 := HNG.out; have h7 := HTs.out; have h8 := HWs.out; have h9 := HPs.out; have h10 := HX2.out; have h11 := HX3.out; omega))
    replace HRG := hidU (HRG.out.kp hk (by have h1 := HC1.out; have h2 := HC2.out; have h3 := HC3.out; have h4 := HNX.out; have h5 := HNY.out; have h6 := HNG.out; have h7 := HTs.out; have h8 := HWs.out; have h9 := HPs.out; have h10 := HX2.out; have h11 := HX3.out; omega))
    replace HRY := hidU hr
    replace HB := hidU (HB.out.trans (hk.below (by have h1 := HC1.out; have h2 := HC2.out; have h3 := HC3.out; have h4 := HNX.out; have h5 := HNY.out; have h6 := HNG.out; have h7 := HTs.out; have h8 := HWs.out; have h9 := HPs.out; have h10 := HX2.out; have h11 := HX3.out; omega) HB.out.size))
    clear hk hr
    obtain ⟨mj, hmj⟩ : ∃ k : Int, k = mk + (len1 : Int) := ⟨_, rfl⟩
    have hmj0 : 0 ≤ mj := by have := HMK.out; omega
    rw [← hmj]
    clear hmj
    clear KX KY HRX HRY
    obtain ⟨x00, x01, x02⟩ := KG.out.c3
    obtain ⟨x10, x11, x12⟩ := KT.out.c3
    go_wp2_with fail
    refine (eqQ_any rn rd _ _ xs _ _ _ _ _ (by rw [HM.out]; exact HMM.out) HRG.out HV.out).mono ?_
    rintro e g11 ⟨rfl, hb⟩
    replace K0 := hidU (K0.out.below hb)
    replace K1 := hidU (K1.out.below hb)
    replace KT := hidU (KT.out.below hb)
    replace KG := hidU (KG.out.below hb)
    replace HV := hidU (HV.out.below hb)
    replace HRG := hidU (HRG.out.below hb)
    replace HB := hidU (HB.out.trans (hb.mono HB.out.size))
    clear hb x00 x01 x02 x10 x11 x12
    obtain ⟨x00, x01, x02⟩ := KG.out.c3
    go_wp2_with fail
    refine (markQ_any rn rd _ xs m _ _ (1) _ HM.out HMM.out (by omega) (by omega) HRG.out).mono ?_
    rintro e g12 ⟨rfl, hr, hk⟩
    clear x00 x01 x02
    replace K0 := hidU (K0.out.kp hk (by have h1 := HC1.out; have h2 := HC2.out; have h3 := HC3.out; have h4 := HNX.out; have h5 := HNY.out; have h6 := HNG.out; have h7 := HTs.out; have h8 := HWs.out; have h9 := HPs.out; have h10 := HX2.out; have h11 := HX3.out; omega))
    replace K1 := hidU (K1.out.kp hk (by have h1 := HC1.out; have h2 := HC2.out; have h3 := HC3.out; have h4 := HNX.out; have h5 := HNY.out; have h6 := HNG.out; have h7 := HTs.out; have h8 := HWs.out; have h9 := HPs.out; have h10 := HX2.out; have h11 := HX3.out; omega))
    replace KT := hidU (KT.out.kp hk (by have h1 := HC1.out; have h2 := HC2.out; have h3 := HC3.out; have h4 := HNX.out; have h5 := HNY.out; have h6 := HNG.out; have h7 := HTs.out; have h8 := HWs.out; have h9 := HPs.out; have h10 := HX2.out; have h11 := HX3.out; omega))
    replace KG := hidU (KG.out.kp hk (by have h1 := HC1.out; have h2 := HC2.out; have h3 := HC3.out; have h4 := HNX.out; have h5 := HNY.out; have h6 := HNG.out; have h7 := HTs.out; have h8 := HWs.out; have h9 := HPs.out; have h10 := HX2.out; have h11 := HX3.out; omega))
    replace HV := hidU (HV.out.kp hk (by have h1 := HC1.out; have h2 := HC2.out; have h3 := HC3.out; have h4 := HNX.out; have h5 := HNY.out; have h6 := HNG.out; have h7 := HTs.out; have h8 := HWs.out; have h9 := HPs.out; have h10 := HX2.out; have h11 := HX3.out; omega))
    replace HRG := hidU hr
    replace HB := hidU (HB.out.trans (hk.below (by have h1 := HC1.out; have h2 := HC2.out; have h3 := HC3.out; have h4 := HNX.out; have h5 := HNY.out; have h6 := HNG.out; have h7 := HTs.out; have h8 := HWs.out; have h9 := HPs.out; have h10 := HX2.out; have h11 := HX3.out; omega) HB.out.size))
    clear hk hr
    have hne : ((1 + (m : Int)) != (1 + (m : Int))) = false := by simp
    have hm0 : (0 : Int) ≤ 1 + (m : Int) := by omega
    obtain ⟨x00, x01, x02⟩ := KG.out.c3
    go_wp2_with fail
    refine (heldQ_any rn rd _ xs m _ _ 1 _ HM.out HMM.out (by omega) (by omega) HRG.out).mono ?_
    rintro e g13 ⟨rfl, hb⟩
    replace K0 := hidU (K0.out.below hb)
    replace K1 := hidU (K1.out.below hb)
    replace KT := hidU (KT.out.below hb)
    replace KG := hidU (KG.out.below hb)
    replace HV := hidU (HV.out.below hb)
    replace HRG := hidU (HRG.out.below hb)
    replace HB := hidU (HB.out.trans (hb.mono HB.out.size))
    clear hb x00 x01 x02
    have HSR : Hid (s3 ≤ g13.heap.size) := by have := KG.out.lt; have := HNG.out; show _ ≤ _; omega
    have HS03 : Hid (s0 ≤ s3) := by have h1 := HC1.out; have h2 := HC2.out; have h3 := HC3.out; have h4 := HX2.out; have h5 := HX3.out; have h6 := HNX.out; have h7 := HNY.out; show _ ≤ _; omega
    go_upto_region 31 with fail
    go_cut [15, 16] (fun s15 s16 wx => ∃ (H : Nat) (o1 : Option Addr) (oc1 : Nat), s15 = .pointer (some ⟨H, 0, none⟩) ∧ s16 = .bool ro ∧ H < wx.heap.size ∧ Hid (IsB wx H #[.int .i64 rn, .int .i64 rd, .slice o1 m oc1] 35) ∧ Hid (RowM wx w.heap.size wx.heap.size (.slice o1 m oc1) xs) ∧ Hid (IsB wx P #[.int .i64 n0, .int .i64 d0, .slice a0 len0 cap0] 30) ∧ Hid (IsB wx Q #[.int .i64 n1, .int .i64 d1, .slice a1 len1 cap1] 30) ∧ Hid (Below w.heap.size w wx) ∧ Hid (IsB wx T #[.int .i64 rn, .int .i64 rd, .slice o0 m oc] 35) ∧ Hid (IsB wx G #[.int .i64 rn, .int .i64 rd, .slice og m gc] 35) ∧ Hid (RowM wx l3 s3 (.slice og m gc) (mrk 1 xs m)) ∧ Hid (RowM wx w.heap.size s0 (.slice o0 m oc) xs))
    case first =>
      have hb := (Below.refl g13.heap.size g13).drew
      replace K0 := hidU (K0.out.below hb)
      replace K1 := hidU (K1.out.below hb)
      replace KT := hidU (KT.out.below hb)
      replace KG := hidU (KG.out.below hb)
      replace HRG := hidU (HRG.out.below hb)
      replace HV := hidU (HV.out.below hb)
      replace HB := hidU (HB.out.trans (hb.mono HB.out.size))
      replace HSR := hidU (Nat.le_trans HSR.out hb.size)
      clear hb
      refine wp_region_noPanic ?_
      refine wp_region_held_drew (S := fun W => IsB W P #[.int .i64 n0, .int .i64 d0, .slice a0 len0 cap0] 30 ∧ IsB W Q #[.int .i64 n1, .int .i64 d1, .slice a1 len1 cap1] 30) (by kernel_rfl) ⟨K0.out, K1.out⟩ (fun hHeld => ?_)
      obtain ⟨wd, hwd⟩ : ∃ u, u = g13.drew := ⟨_, rfl⟩
      rw [← hwd] at K0 K1 KT KG HRG HV HB hHeld HSR ⊢
      clear hwd
      refine wpAnyH_take (i := 0) (v := ?_) rfl (by kernel_rfl) (by kernel_rfl) (by kernel_rfl) (fun _ _ _ h => h) (Or.inl ⟨by kernel_rfl, ?_⟩) hHeld ?_
      rotate_left
      · intro wz hSw; obtain ⟨hS1, hS2⟩ := hSw; obtain ⟨p0, p1, p2⟩ := hS1.c3; obtain ⟨q0, q1, q2⟩ := hS2.c3; clear hS1 hS2; go_simp; all_goals (try with_reducible rfl)
      (try simp only [List.getElem_toArray]); (try simp only [List.getElem_cons_succ]); (try simp only [List.getElem_cons_zero]); (try simp only [Act.put]); (try simp only [List.setIfInBounds_toArray]); (try simp only [List.set_cons_succ]); (try simp only [List.set_cons_zero])
      refine wpAnyH_take (i := 2) (v := ?_) rfl (by kernel_rfl) (by kernel_rfl) (by kernel_rfl) (fun _ _ _ h => h) (Or.inl ⟨by kernel_rfl, ?_⟩) hHeld ?_
      rotate_left
      · intro wz hSw; obtain ⟨hS1, hS2⟩ := hSw; obtain ⟨p0, p1, p2⟩ := hS1.c3; obtain ⟨q0, q1, q2⟩ := hS2.c3; clear hS1 hS2; go_simp; all_goals (try with_reducible rfl)
      (try simp only [List.getElem_toArray]); (try simp only [List.getElem_cons_succ]); (try simp only [List.getElem_cons_zero]); (try simp only [Act.put]); (try simp only [List.setIfInBounds_toArray]); (try simp only [List.set_cons_succ]); (try simp only [List.set_cons_zero])
      refine wpAnyH_ready (rs := [1, 8]) (by kernel_rfl) (by simp) (AllReadyH.cons rfl (fun Kc hKc => ?_) (AllReadyH.cons rfl (fun Kc hKc => ?_) AllReadyH.nil))
      · go_simp
        refine (HT0b.out _ HB.out).mono ?_
        rintro e u1 ⟨v0, rfl, o5, hb⟩
        have O0 := hidU o5
        clear o5
        replace K0 := hidU (K0.out.below hb)
        replace K1 := hidU (K1.out.below hb)
        replace KT := hidU (KT.out.below hb)
        replace KG := hidU (KG.out.below hb)
        replace HRG := hidU (HRG.out.below hb)
        replace HV := hidU (HV.out.below hb)
        replace HB := hidU (HB.out.trans (hb.mono HB.out.size))
        replace HSR := hidU (Nat.le_trans HSR.out hb.size)
        clear hb
        go_wp2_with fail
        refine hKc.out _ _ ⟨K0.out, K1.out⟩ (fun hHeld => ?_)
        clear hKc Kc
        (try simp only [List.getElem_toArray]); (try simp only [List.getElem_cons_succ]); (try simp only [List.getElem_cons_zero]); (try simp only [Act.put]); (try simp only [List.setIfInBounds_toArray]); (try simp only [List.set_cons_succ]); (try simp only [List.set_cons_zero])
        refine wpAnyH_ready (rs := [3, 8]) (by kernel_rfl) (by simp) (AllReadyH.cons rfl (fun Kc hKc => ?_) (AllReadyH.cons rfl (fun Kc hKc => ?_) AllReadyH.nil))
        · go_simp
          refine (HT1b.out _ HB.out).mono ?_
          rintro e u2 ⟨v1, rfl, o6, hb⟩
          have O1 := hidU o6
          clear o6
          replace K0 := hidU (K0.out.below hb)
          replace K1 := hidU (K1.out.below hb)
          replace KT := hidU (KT.out.below hb)
          replace KG := hidU (KG.out.below hb)
          replace HRG := hidU (HRG.out.below hb)
          replace HV := hidU (HV.out.below hb)
          replace HB := hidU (HB.out.trans (hb.mono HB.out.size))
          replace HSR := hidU (Nat.le_trans HSR.out hb.size)
          replace O0 := hidU (own_below O0.out hb)
          clear hb
          go_wp2_with fail
          refine hKc.out _ _ ⟨K0.out, K1.out⟩ (fun hHeld => ?_)
          clear hKc Kc
          (try simp only [List.getElem_toArray]); (try simp only [List.getElem_cons_succ]); (try simp only [List.getElem_cons_zero]); (try simp only [Act.put]); (try simp only [List.setIfInBounds_toArray]); (try simp only [List.set_cons_succ]); (try simp only [List.set_cons_zero])
          refine wpAnyH_ready (rs := [4, 8]) (by kernel_rfl) (by simp) (AllReadyH.cons rfl (fun Kc hKc => ?_) (AllReadyH.cons rfl (fun Kc hKc => ?_) AllReadyH.nil))
          · go_simp
            refine (HI.out _ _ _ (DimIn.of (by rw [HL0.out]; exact O0.out)) (DimIn.of (by rw [HL1.out]; exact O1.out))).mono ?_
            rintro e u3 ⟨v, rfl, hv, hb⟩
            obtain ⟨o1, oc1, he⟩ := hv.shape
            rw [HM.out] at he
            subst he
            obtain ⟨ul, hul⟩ : ∃ l, l = u2.heap.size := ⟨_, rfl⟩
            obtain ⟨ur, hur⟩ : ∃ l, l = u3.heap.size := ⟨_, rfl⟩
            have HUR : Hid (ur ≤ u3.heap.size) := Nat.le_of_eq hur
            have HUL : Hid (w.heap.size ≤ ul) := by show _ ≤ _; rw [hul]; exact HB.out.size
            rw [← hul, ← hur] at hv
            have HVT := hidU hv
            clear hv hul hur
            replace K0 := hidU (K0.out.below hb)
            replace K1 := hidU (K1.out.below hb)
            replace KT := hidU (KT.out.below hb)
            replace KG := hidU (KG.out.below hb)
            replace HRG := hidU (HRG.out.below hb)
            replace HV := hidU (HV.out.below hb)
            replace HB := hidU (HB.out.trans (hb.mono HB.out.size))
            replace HSR := hidU (Nat.le_trans HSR.out hb.size)
            clear hb O0 O1
            go_wp2_with fail
            refine hKc.out _ _ ⟨K0.out, K1.out⟩ (fun hHeld => ?_)
            clear hKc Kc
            (try simp only [List.getElem_toArray]); (try simp only [List.getElem_cons_succ]); (try simp only [List.getElem_cons_zero]); (try simp only [Act.put]); (try simp only [List.setIfInBounds_toArray]); (try simp only [List.set_cons_succ]); (try simp only [List.set_cons_zero])
            refine wpAnyH_take (i := 5) (v := ?_) rfl (by kernel_rfl) (by kernel_rfl) (by kernel_rfl) (fun _ _ _ h => h) (Or.inl ⟨by kernel_rfl, ?_⟩) hHeld ?_
            rotate_left
            · intro wz hSw; obtain ⟨hS1, hS2⟩ := hSw; obtain ⟨p0, p1, p2⟩ := hS1.c3; obtain ⟨q0, q1, q2⟩ := hS2.c3; clear hS1 hS2; go_simp; all_goals (try with_reducible rfl)
            (try simp only [List.getElem_toArray]); (try simp only [List.getElem_cons_succ]); (try simp only [List.getElem_cons_zero]); (try simp only [Act.put]); (try simp only [List.setIfInBounds_toArray]); (try simp only [List.set_cons_succ]); (try simp only [List.set_cons_zero])
            refine wpAnyH_take (i := 6) (v := ?_) rfl (by kernel_rfl) (by kernel_rfl) (by kernel_rfl) (fun _ _ _ h => h) (Or.inl ⟨by kernel_rfl, ?_⟩) hHeld ?_
            rotate_left
            · intro wz hSw; obtain ⟨hS1, hS2⟩ := hSw; obtain ⟨p0, p1, p2⟩ := hS1.c3; obtain ⟨q0, q1, q2⟩ := hS2.c3; clear hS1 hS2; go_simp; all_goals (try with_reducible rfl)
            (try simp only [List.getElem_toArray]); (try simp only [List.getElem_cons_succ]); (try simp only [List.getElem_cons_zero]); (try simp only [Act.put]); (try simp only [List.setIfInBounds_toArray]); (try simp only [List.set_cons_succ]); (try simp only [List.set_cons_zero])
            refine wpAnyH_take (i := 7) (v := ?_) rfl (by kernel_rfl) (by kernel_rfl) (by kernel_rfl) (fun _ _ _ h => h) (Or.inl ⟨by kernel_rfl, ?_⟩) hHeld ?_
            rotate_left
            · intro wz hSw; obtain ⟨hS1, hS2⟩ := hSw; obtain ⟨p0, p1, p2⟩ := hS1.c3; obtain ⟨q0, q1, q2⟩ := hS2.c3; clear hS1 hS2; go_simp; all_goals (try with_reducible rfl)
            (try simp only [List.getElem_toArray]); (try simp only [List.getElem_cons_succ]); (try simp only [List.getElem_cons_zero]); (try simp only [Act.put]); (try simp only [List.setIfInBounds_toArray]); (try simp only [List.set_cons_succ]); (try simp only [List.set_cons_zero])
            refine wpAnyH_ready (rs := [8]) (by kernel_rfl) (by simp) (AllReadyH.cons rfl (fun Kc hKc => ?_) AllReadyH.nil)
            go_simp
            obtain ⟨A, hA⟩ : ∃ A, A = u3.heap.size := ⟨_, rfl⟩
            obtain ⟨u4, hu⟩ : ∃ u, u = u3.alloc (.cells #[.int .i64 0, .int .i64 0, .slice none 0 0] 35) := ⟨_, rfl⟩
            have hb : Below u3.heap.size u3 u4 := by rw [hu]; exact b0 _ _
            have KA : Hid (IsB u4 A #[.int .i64 0, .int .i64 0, .slice none 0 0] 35) := by show IsB _ _ _ _; rw [hu, hA]; exact IsB.new _ _ _
            have HAw : Hid (w.heap.size ≤ A) := by show _ ≤ _; rw [hA]; exact HB.out.size
            have HNEK0 : Hid (P ≠ A) := by show _ ≠ _; have := K0.out.lt; rw [hA]; omega
            have HNEK1 : Hid (Q ≠ A) := by show _ ≠ _; have := K1.out.lt; rw [hA]; omega
            have HNEKT : Hid (T ≠ A) := by show _ ≠ _; have := KT.out.lt; rw [hA]; omega
            have HNEKG : Hid (G ≠ A) := by show _ ≠ _; have := KG.out.lt; rw [hA]; omega
            have HNEHRG : Hid (s3 ≤ A) := by show _ ≤ _; rw [hA]; exact Nat.le_trans (Nat.le_refl _) HSR.out
            have HNEHV : Hid (s0 ≤ A) := by show _ ≤ _; rw [hA]; exact Nat.le_trans (HS03.out) HSR.out
            have HAR : Hid (ur ≤ A ∨ A < ul) := by left; rw [hA]; exact HUR.out
            have HUR2 : Hid (ur ≤ u4.heap.size) := Nat.le_trans HUR.out hb.size
            replace HUR := HUR2
            clear HUR2
            rw [← hu, ← hA]
            clear hu hA
            replace K0 := hidU (K0.out.below hb)
            replace K1 := hidU (K1.out.below hb)
            replace KT := hidU (KT.out.below hb)
            replace KG := hidU (KG.out.below hb)
            replace HRG := hidU (HRG.out.below hb)
            replace HV := hidU (HV.out.below hb)
            replace HB := hidU (HB.out.trans (hb.mono HB.out.size))
            replace HSR := hidU (Nat.le_trans HSR.out hb.size)
            replace HVT := hidU (HVT.out.below hb)
            clear hb
            refine hKc.out _ _ ⟨K0.out, K1.out⟩ (fun hHeld => ?_)
            clear hKc Kc
            (try simp only [List.getElem_toArray]); (try simp only [List.getElem_cons_succ]); (try simp only [List.getElem_cons_zero]); (try simp only [Act.put]); (try simp only [List.setIfInBounds_toArray]); (try simp only [List.set_cons_succ]); (try simp only [List.set_cons_zero])
            obtain ⟨z0, z1, z2⟩ := KA.out.c3
            obtain ⟨f0, f1, f2⟩ := KA.out.f3
            have h9 : Kp A (A + 1) u4 (((u4.setCell ⟨A, 0, none⟩ (.int .i64 rn)).setCell ⟨A, 1, none⟩ (.int .i64 rd)).setCell ⟨A, 2, none⟩ (.slice o1 m oc1)) := ((Kp.set _ _ (Nat.le_refl _) (Nat.lt_succ_self _)).trans (Kp.set _ _ (Nat.le_refl _) (Nat.lt_succ_self _))).trans (Kp.set _ _ (Nat.le_refl _) (Nat.lt_succ_self _))
            have HV2 := hidU ((HVT.out.kp h9 (by have := HAR.out; omega)).mono (show w.heap.size ≤ ul from HUL.out) (Nat.le_trans HUR.out h9.size))
            have KA2 := hidU (KA.out.set3 (.int .i64 rn) (.int .i64 rd) (.slice o1 m oc1))
            have K0b := hidU (K0.out.other3 (show P ≠ A from HNEK0.out) (.int .i64 rn) (.int .i64 rd) (.slice o1 m oc1))
            have K1b := hidU (K1.out.other3 (show Q ≠ A from HNEK1.out) (.int .i64 rn) (.int .i64 rd) (.slice o1 m oc1))
            have KTb := hidU (KT.out.other3 (show T ≠ A from HNEKT.out) (.int .i64 rn) (.int .i64 rd) (.slice o1 m oc1))
            have KGb := hidU (KG.out.other3 (show G ≠ A from HNEKG.out) (.int .i64 rn) (.int .i64 rd) (.slice o1 m oc1))
            have HRGb := hidU (HRG.out.kp h9 (.inl HNEHRG.out))
            have HVb := hidU (HV.out.kp h9 (.inl HNEHV.out))
            have HB2 := hidU (below_set3 HB.out HAw.out (.int .i64 rn) (.int .i64 rd) (.slice o1 m oc1))
            have HA2 := KA2.out.lt
            refine wpAnyH_ready (rs := [9]) (by kernel_rfl) (by simp) (AllReadyH.cons rfl (fun Kc hKc => ?_) AllReadyH.nil)
            go_simp
            refine hKc.out _ _ ⟨K0b.out, K1b.out⟩ (fun hHeld => ?_)
            clear hKc Kc z0 z1 z2 f0 f1 f2
            (try simp only [List.getElem_toArray]); (try simp only [List.getElem_cons_succ]); (try simp only [List.getElem_cons_zero]); (try simp only [Act.put]); (try simp only [List.setIfInBounds_toArray]); (try simp only [List.set_cons_succ]); (try simp only [List.set_cons_zero])
            refine wpAnyH_take (i := 10) (v := ?_) rfl (by kernel_rfl) (by kernel_rfl) (by kernel_rfl) (fun _ _ _ h => h) (Or.inl ⟨by kernel_rfl, ?_⟩) hHeld ?_
            rotate_left
            · intro wz hSw; obtain ⟨hS1, hS2⟩ := hSw; obtain ⟨p0, p1, p2⟩ := hS1.c3; obtain ⟨q0, q1, q2⟩ := hS2.c3; clear hS1 hS2; go_simp; all_goals (try with_reducible rfl)
            (try simp only [List.getElem_toArray]); (try simp only [List.getElem_cons_succ]); (try simp only [List.getElem_cons_zero]); (try simp only [Act.put]); (try simp only [List.setIfInBounds_toArray]); (try simp only [List.set_cons_succ]); (try simp only [List.set_cons_zero])
            refine wpAnyH_done (by kernel_rfl) ?_ _
            refine NoPanic.normal ?_
            go_wp2_with fail
            go_meet
            case rel => exact ⟨_, _, _, rfl, rfl, HA2, KA2.out, HV2.out, K0b.out, K1b.out, HB2.out, KTb.out, KGb.out, HRGb.out, HVb.out⟩
          · go_simp
            obtain ⟨A, hA⟩ : ∃ A, A = u2.heap.size := ⟨_, rfl⟩
            obtain ⟨u5, hu⟩ : ∃ u, u = u2.alloc (.cells #[.int .i64 0, .int .i64 0, .slice none 0 0] 35) := ⟨_, rfl⟩
            have hb : Below u2.heap.size u2 u5 := by rw [hu]; exact b0 _ _
            have KA : Hid (IsB u5 A #[.int .i64 0, .int .i64 0, .slice none 0 0] 35) := by show IsB _ _ _ _; rw [hu, hA]; exact IsB.new _ _ _
            have HAw : Hid (w.heap.size ≤ A) := by show _ ≤ _; rw [hA]; exact HB.out.size
            have HNEK0 : Hid (P ≠ A) := by show _ ≠ _; have := K0.out.lt; rw [hA]; omega
            have HNEK1 : Hid (Q ≠ A) := by show _ ≠ _; have := K1.out.lt; rw [hA]; omega
            have HNEKT : Hid (T ≠ A) := by show _ ≠ _; have := KT.out.lt; rw [hA]; omega
            have HNEKG : Hid (G ≠ A) := by show _ ≠ _; have := KG.out.lt; rw [hA]; omega
            have HNEHRG : Hid (s3 ≤ A) := by show _ ≤ _; rw [hA]; exact Nat.le_trans (Nat.le_refl _) HSR.out
            have HNEHV : Hid (s0 ≤ A) := by show _ ≤ _; rw [hA]; exact Nat.le_trans (HS03.out) HSR.out
            rw [← hu, ← hA]
            clear hu hA
            replace K0 := hidU (K0.out.below hb)
            replace K1 := hidU (K1.out.below hb)
            replace KT := hidU (KT.out.below hb)
            replace KG := hidU (KG.out.below hb)
            replace HRG := hidU (HRG.out.below hb)
            replace HV := hidU (HV.out.below hb)
            replace HB := hidU (HB.out.trans (hb.mono HB.out.size))
            replace HSR := hidU (Nat.le_trans HSR.out hb.size)
            replace O0 := hidU (own_below O0.out hb)
            replace O1 := hidU (own_below O1.out hb)
            clear hb
            refine hKc.out _ _ ⟨K0.out, K1.out⟩ (fun hHeld => ?_)
            clear hKc Kc
            (try simp only [List.getElem_toArray]); (try simp only [List.getElem_cons_succ]); (try simp only [List.getElem_cons_zero]); (try simp only [Act.put]); (try simp only [List.setIfInBounds_toArray]); (try simp only [List.set_cons_succ]); (try simp only [List.set_cons_zero])
            refine wpAnyH_ready (rs := [4]) (by kernel_rfl) (by simp) (AllReadyH.cons rfl (fun Kc hKc => ?_) AllReadyH.nil)
            go_simp
            refine (HI.out _ _ _ (DimIn.of (by rw [HL0.out]; exact O0.out)) (DimIn.of (by rw [HL1.out]; exact O1.out))).mono ?_
            rintro e u6 ⟨v, rfl, hv, hb⟩
            obtain ⟨o1, oc1, he⟩ := hv.shape
            rw [HM.out] at he
            subst he
            obtain ⟨ul, hul⟩ : ∃ l, l = u5.heap.size := ⟨_, rfl⟩
            obtain ⟨ur, hur⟩ : ∃ l, l = u6.heap.size := ⟨_, rfl⟩
            have HUR : Hid (ur ≤ u6.heap.size) := Nat.le_of_eq hur
            have HUL : Hid (w.heap.size ≤ ul) := by show _ ≤ _; rw [hul]; exact HB.out.size
            have HAR : Hid (ur ≤ A ∨ A < ul) := by right; rw [hul]; exact KA.out.lt
            rw [← hul, ← hur] at hv
            have HVT := hidU hv
            clear hv hul hur
            replace K0 := hidU (K0.out.below hb)
            replace K1 := hidU (K1.out.below hb)
            replace KT := hidU (KT.out.below hb)
            replace KG := hidU (KG.out.below hb)
            replace KA := hidU (KA.out.below hb)
            replace HRG := hidU (HRG.out.below hb)
            replace HV := hidU (HV.out.below hb)
            replace HB := hidU (HB.out.trans (hb.mono HB.out.size))
            replace HSR := hidU (Nat.le_trans HSR.out hb.size)
            clear hb O0 O1
            go_wp2_with fail
            refine hKc.out _ _ ⟨K0.out, K1.out⟩ (fun hHeld => ?_)
            clear hKc Kc
            (try simp only [List.getElem_toArray]); (try simp only [List.getElem_cons_succ]); (try simp only [List.getElem_cons_zero]); (try simp only [Act.put]); (try simp only [List.setIfInBounds_toArray]); (try simp only [List.set_cons_succ]); (try simp only [List.set_cons_zero])
            refine wpAnyH_take (i := 5) (v := ?_) rfl (by kernel_rfl) (by kernel_rfl) (by kernel_rfl) (fun _ _ _ h => h) (Or.inl ⟨by kernel_rfl, ?_⟩) hHeld ?_
            rotate_left
            · intro wz hSw; obtain ⟨hS1, hS2⟩ := hSw; obtain ⟨p0, p1, p2⟩ := hS1.c3; obtain ⟨q0, q1, q2⟩ := hS2.c3; clear hS1 hS2; go_simp; all_goals (try with_reducible rfl)
            (try simp only [List.getElem_toArray]); (try simp only [List.getElem_cons_succ]); (try simp only [List.getElem_cons_zero]); (try simp only [Act.put]); (try simp only [List.setIfInBounds_toArray]); (try simp only [List.set_cons_succ]); (try simp only [List.set_cons_zero])
            refine wpAnyH_take (i := 6) (v := ?_) rfl (by kernel_rfl) (by kernel_rfl) (by kernel_rfl) (fun _ _ _ h => h) (Or.inl ⟨by kernel_rfl, ?_⟩) hHeld ?_
            rotate_left
            · intro wz hSw; obtain ⟨hS1, hS2⟩ := hSw; obtain ⟨p0, p1, p2⟩ := hS1.c3; obtain ⟨q0, q1, q2⟩ := hS2.c3; clear hS1 hS2; go_simp; all_goals (try with_reducible rfl)
            (try simp only [List.getElem_toArray]); (try simp only [List.getElem_cons_succ]); (try simp only [List.getElem_cons_zero]); (try simp only [Act.put]); (try simp only [List.setIfInBounds_toArray]); (try simp only [List.set_cons_succ]); (try simp only [List.set_cons_zero])
            refine wpAnyH_take (i := 7) (v := ?_) rfl (by kernel_rfl) (by kernel_rfl) (by kernel_rfl) (fun _ _ _ h => h) (Or.inl ⟨by kernel_rfl, ?_⟩) hHeld ?_
            rotate_left
            · intro wz hSw; obtain ⟨hS1, hS2⟩ := hSw; obtain ⟨p0, p1, p2⟩ := hS1.c3; obtain ⟨q0, q1, q2⟩ := hS2.c3; clear hS1 hS2; go_simp; all_goals (try with_reducible rfl)
            (try simp only [List.getElem_toArray]); (try simp only [List.getElem_cons_succ]); (try simp only [List.getElem_cons_zero]); (try simp only [Act.put]); (try simp only [List.setIfInBounds_toArray]); (try simp only [List.set_cons_succ]); (try simp only [List.set_cons_zero])
            obtain ⟨z0, z1, z2⟩ := KA.out.c3
            obtain ⟨f0, f1, f2⟩ := KA.out.f3
            have h9 : Kp A (A + 1) u6 (((u6.setCell ⟨A, 0, none⟩ (.int .i64 rn)).setCell ⟨A, 1, none⟩ (.int .i64 rd)).setCell ⟨A, 2, none⟩ (.slice o1 m oc1)) := ((Kp.set _ _ (Nat.le_refl _) (Nat.lt_succ_self _)).trans (Kp.set _ _ (Nat.le_refl _) (Nat.lt_succ_self _))).trans (Kp.set _ _ (Nat.le_refl _) (Nat.lt_succ_self _))
            have HV2 := hidU ((HVT.out.kp h9 (by have := HAR.out; omega)).mono (show w.heap.size ≤ ul from HUL.out) (Nat.le_trans HUR.out h9.size))
            have KA2 := hidU (KA.out.set3 (.int .i64 rn) (.int .i64 rd) (.slice o1 m oc1))
            have K0b := hidU (K0.out.other3 (show P ≠ A from HNEK0.out) (.int .i64 rn) (.int .i64 rd) (.slice o1 m oc1))
            have K1b := hidU (K1.out.other3 (show Q ≠ A from HNEK1.out) (.int .i64 rn) (.int .i64 rd) (.slice o1 m oc1))
            have KTb := hidU (KT.out.other3 (show T ≠ A from HNEKT.out) (.int .i64 rn) (.int .i64 rd) (.slice o1 m oc1))
            have KGb := hidU (KG.out.other3 (show G ≠ A from HNEKG.out) (.int .i64 rn) (.int .i64 rd) (.slice o1 m oc1))
            have HRGb := hidU (HRG.out.kp h9 (.inl HNEHRG.out))
            have HVb := hidU (HV.out.kp h9 (.inl HNEHV.out))
            have HB2 := hidU (below_set3 HB.out HAw.out (.int .i64 rn) (.int .i64 rd) (.slice o1 m oc1))
            have HA2 := KA2.out.lt
            refine wpAnyH_ready (rs := [9]) (by kernel_rfl) (by simp) (AllReadyH.cons rfl (fun Kc hKc => ?_) AllReadyH.nil)
            go_simp
            refine hKc.out _ _ ⟨K0b.out, K1b.out⟩ (fun hHeld => ?_)
            clear hKc Kc z0 z1 z2 f0 f1 f2
            (try simp only [List.getElem_toArray]); (try simp only [List.getElem_cons_succ]); (try simp only [List.getElem_cons_zero]); (try simp only [Act.put]); (try simp only [List.setIfInBounds_toArray]); (try simp only [List.set_cons_succ]); (try simp only [List.set_cons_zero])
            refine wpAnyH_take (i := 10) (v := ?_) rfl (by kernel_rfl) (by kernel_rfl) (by kernel_rfl) (fun _ _ _ h => h) (Or.inl ⟨by kernel_rfl, ?_⟩) hHeld ?_
            rotate_left
            · intro wz hSw; obtain ⟨hS1, hS2⟩ := hSw; obtain ⟨p0, p1, p2⟩ := hS1.c3; obtain ⟨q0, q1, q2⟩ := hS2.c3; clear hS1 hS2; go_simp; all_goals (try with_reducible rfl)
            (try simp only [List.getElem_toArray]); (try simp only [List.getElem_cons_succ]); (try simp only [List.getElem_cons_zero]); (try simp only [Act.put]); (try simp only [List.setIfInBounds_toArray]); (try simp only [List.set_cons_succ]); (try simp only [List.set_cons_zero])
            refine wpAnyH_done (by kernel_rfl) ?_ _
            refine NoPanic.normal ?_
            go_wp2_with fail
            go_meet
            case rel => exact ⟨_, _, _, rfl, rfl, HA2, KA2.out, HV2.out, K0b.out, K1b.out, HB2.out, KTb.out, KGb.out, HRGb.out, HVb.out⟩
        · go_simp
          obtain ⟨A, hA⟩ : ∃ A, A = u1.heap.size := ⟨_, rfl⟩
          obtain ⟨u7, hu⟩ : ∃ u, u = u1.alloc (.cells #[.int .i64 0, .int .i64 0, .slice none 0 0] 35) := ⟨_, rfl⟩
          have hb : Below u1.heap.size u1 u7 := by rw [hu]; exact b0 _ _
          have KA : Hid (IsB u7 A #[.int .i64 0, .int .i64 0, .slice none 0 0] 35) := by show IsB _ _ _ _; rw [hu, hA]; exact IsB.new _ _ _
          have HAw : Hid (w.heap.size ≤ A) := by show _ ≤ _; rw [hA]; exact HB.out.size
          have HNEK0 : Hid (P ≠ A) := by show _ ≠ _; have := K0.out.lt; rw [hA]; omega
          have HNEK1 : Hid (Q ≠ A) := by show _ ≠ _; have := K1.out.lt; rw [hA]; omega
          have HNEKT : Hid (T ≠ A) := by show _ ≠ _; have := KT.out.lt; rw [hA]; omega
          have HNEKG : Hid (G ≠ A) := by show _ ≠ _; have := KG.out.lt; rw [hA]; omega
          have HNEHRG : Hid (s3 ≤ A) := by show _ ≤ _; rw [hA]; exact Nat.le_trans (Nat.le_refl _) HSR.out
          have HNEHV : Hid (s0 ≤ A) := by show _ ≤ _; rw [hA]; exact Nat.le_trans (HS03.out) HSR.out
          rw [← hu, ← hA]
          clear hu hA
          replace K0 := hidU (K0.out.below hb)
          replace K1 := hidU (K1.out.below hb)
          replace KT := hidU (KT.out.below hb)
          replace KG := hidU (KG.out.below hb)
          replace HRG := hidU (HRG.out.below hb)
          replace HV := hidU (HV.out.below hb)
          replace HB := hidU (HB.out.trans (hb.mono HB.out.size))
          replace HSR := hidU (Nat.le_trans HSR.out hb.size)
          replace O0 := hidU (own_below O0.out hb)
          clear hb
          refine hKc.out _ _ ⟨K0.out, K1.out⟩ (fun hHeld => ?_)
          clear hKc Kc
          (try simp only [List.getElem_toArray]); (try simp only [List.getElem_cons_succ]); (try simp only [List.getElem_cons_zero]); (try simp only [Act.put]); (try simp only [List.setIfInBounds_toArray]); (try simp only [List.set_cons_succ]); (try simp only [List.set_cons_zero])
          refine wpAnyH_ready (rs := [3]) (by kernel_rfl) (by simp) (AllReadyH.cons rfl (fun Kc hKc => ?_) AllReadyH.nil)
          go_simp
          refine (HT1b.out _ HB.out).mono ?_
          rintro e u8 ⟨v1, rfl, o6, hb⟩
          have O1 := hidU o6
          clear o6
          replace K0 := hidU (K0.out.below hb)
          replace K1 := hidU (K1.out.below hb)
          replace KT := hidU (KT.out.below hb)
          replace KG := hidU (KG.out.below hb)
          replace KA := hidU (KA.out.below hb)
          replace HRG := hidU (HRG.out.below hb)
          replace HV := hidU (HV.out.below hb)
          replace HB := hidU (HB.out.trans (hb.mono HB.out.size))
          replace HSR := hidU (Nat.le_trans HSR.out hb.size)
          replace O0 := hidU (own_below O0.out hb)
          clear hb
          go_wp2_with fail
          refine hKc.out _ _ ⟨K0.out, K1.out⟩ (fun hHeld => ?_)
          clear hKc Kc
          (try simp only [List.getElem_toArray]); (try simp only [List.getElem_cons_succ]); (try simp only [List.getElem_cons_zero]); (try simp only [Act.put]); (try simp only [List.setIfInBounds_toArray]); (try simp only [List.set_cons_succ]); (try simp only [List.set_cons_zero])
          refine wpAnyH_ready (rs := [4]) (by kernel_rfl) (by simp) (AllReadyH.cons rfl (fun Kc hKc => ?_) AllReadyH.nil)
          go_simp
          refine (HI.out _ _ _ (DimIn.of (by rw [HL0.out]; exact O0.out)) (DimIn.of (by rw [HL1.out]; exact O1.out))).mono ?_
          rintro e u9 ⟨v, rfl, hv, hb⟩
          obtain ⟨o1, oc1, he⟩ := hv.shape
          rw [HM.out] at he
          subst he
          obtain ⟨ul, hul⟩ : ∃ l, l = u8.heap.size := ⟨_, rfl⟩
          obtain ⟨ur, hur⟩ : ∃ l, l = u9.heap.size := ⟨_, rfl⟩
          have HUR : Hid (ur ≤ u9.heap.size) := Nat.le_of_eq hur
          have HUL : Hid (w.heap.size ≤ ul) := by show _ ≤ _; rw [hul]; exact HB.out.size
          have HAR : Hid (ur ≤ A ∨ A < ul) := by right; rw [hul]; exact KA.out.lt
          rw [← hul, ← hur] at hv
          have HVT := hidU hv
          clear hv hul hur
          replace K0 := hidU (K0.out.below hb)
          replace K1 := hidU (K1.out.below hb)
          replace KT := hidU (KT.out.below hb)
          replace KG := hidU (KG.out.below hb)
          replace KA := hidU (KA.out.below hb)
          replace HRG := hidU (HRG.out.below hb)
          replace HV := hidU (HV.out.below hb)
          replace HB := hidU (HB.out.trans (hb.mono HB.out.size))
          replace HSR := hidU (Nat.le_trans HSR.out hb.size)
          clear hb O0 O1
          go_wp2_with fail
          refine hKc.out _ _ ⟨K0.out, K1.out⟩ (fun hHeld => ?_)
          clear hKc Kc
          (try simp only [List.getElem_toArray]); (try simp only [List.getElem_cons_succ]); (try simp only [List.getElem_cons_zero]); (try simp only [Act.put]); (try simp only [List.setIfInBounds_toArray]); (try simp only [List.set_cons_succ]); (try simp only [List.set_cons_zero])
          refine wpAnyH_take (i := 5) (v := ?_) rfl (by kernel_rfl) (by kernel_rfl) (by kernel_rfl) (fun _ _ _ h => h) (Or.inl ⟨by kernel_rfl, ?_⟩) hHeld ?_
          rotate_left
          · intro wz hSw; obtain ⟨hS1, hS2⟩ := hSw; obtain ⟨p0, p1, p2⟩ := hS1.c3; obtain ⟨q0, q1, q2⟩ := hS2.c3; clear hS1 hS2; go_simp; all_goals (try with_reducible rfl)
          (try simp only [List.getElem_toArray]); (try simp only [List.getElem_cons_succ]); (try simp only [List.getElem_cons_zero]); (try simp only [Act.put]); (try simp only [List.setIfInBounds_toArray]); (try simp only [List.set_cons_succ]); (try simp only [List.set_cons_zero])
          refine wpAnyH_take (i := 6) (v := ?_) rfl (by kernel_rfl) (by kernel_rfl) (by kernel_rfl) (fun _ _ _ h => h) (Or.inl ⟨by kernel_rfl, ?_⟩) hHeld ?_
          rotate_left
          · intro wz hSw; obtain ⟨hS1, hS2⟩ := hSw; obtain ⟨p0, p1, p2⟩ := hS1.c3; obtain ⟨q0, q1, q2⟩ := hS2.c3; clear hS1 hS2; go_simp; all_goals (try with_reducible rfl)
          (try simp only [List.getElem_toArray]); (try simp only [List.getElem_cons_succ]); (try simp only [List.getElem_cons_zero]); (try simp only [Act.put]); (try simp only [List.setIfInBounds_toArray]); (try simp only [List.set_cons_succ]); (try simp only [List.set_cons_zero])
          refine wpAnyH_take (i := 7) (v := ?_) rfl (by kernel_rfl) (by kernel_rfl) (by kernel_rfl) (fun _ _ _ h => h) (Or.inl ⟨by kernel_rfl, ?_⟩) hHeld ?_
          rotate_left
          · intro wz hSw; obtain ⟨hS1, hS2⟩ := hSw; obtain ⟨p0, p1, p2⟩ := hS1.c3; obtain ⟨q0, q1, q2⟩ := hS2.c3; clear hS1 hS2; go_simp; all_goals (try with_reducible rfl)
          (try simp only [List.getElem_toArray]); (try simp only [List.getElem_cons_succ]); (try simp only [List.getElem_cons_zero]); (try simp only [Act.put]); (try simp only [List.setIfInBounds_toArray]); (try simp only [List.set_cons_succ]); (try simp only [List.set_cons_zero])
          obtain ⟨z0, z1, z2⟩ := KA.out.c3
          obtain ⟨f0, f1, f2⟩ := KA.out.f3
          have h9 : Kp A (A + 1) u9 (((u9.setCell ⟨A, 0, none⟩ (.int .i64 rn)).setCell ⟨A, 1, none⟩ (.int .i64 rd)).setCell ⟨A, 2, none⟩ (.slice o1 m oc1)) := ((Kp.set _ _ (Nat.le_refl _) (Nat.lt_succ_self _)).trans (Kp.set _ _ (Nat.le_refl _) (Nat.lt_succ_self _))).trans (Kp.set _ _ (Nat.le_refl _) (Nat.lt_succ_self _))
          have HV2 := hidU ((HVT.out.kp h9 (by have := HAR.out; omega)).mono (show w.heap.size ≤ ul from HUL.out) (Nat.le_trans HUR.out h9.size))
          have KA2 := hidU (KA.out.set3 (.int .i64 rn) (.int .i64 rd) (.slice o1 m oc1))
          have K0b := hidU (K0.out.other3 (show P ≠ A from HNEK0.out) (.int .i64 rn) (.int .i64 rd) (.slice o1 m oc1))
          have K1b := hidU (K1.out.other3 (show Q ≠ A from HNEK1.out) (.int .i64 rn) (.int .i64 rd) (.slice o1 m oc1))
          have KTb := hidU (KT.out.other3 (show T ≠ A from HNEKT.out) (.int .i64 rn) (.int .i64 rd) (.slice o1 m oc1))
          have KGb := hidU (KG.out.other3 (show G ≠ A from HNEKG.out) (.int .i64 rn) (.int .i64 rd) (.slice o1 m oc1))
          have HRGb := hidU (HRG.out.kp h9 (.inl HNEHRG.out))
          have HVb := hidU (HV.out.kp h9 (.inl HNEHV.out))
          have HB2 := hidU (below_set3 HB.out HAw.out (.int .i64 rn) (.int .i64 rd) (.slice o1 m oc1))
          have HA2 := KA2.out.lt
          refine wpAnyH_ready (rs := [9]) (by kernel_rfl) (by simp) (AllReadyH.cons rfl (fun Kc hKc => ?_) AllReadyH.nil)
          go_simp
          refine hKc.out _ _ ⟨K0b.out, K1b.out⟩ (fun hHeld => ?_)
          clear hKc Kc z0 z1 z2 f0 f1 f2
          (try simp only [List.getElem_toArray]); (try simp only [List.getElem_cons_succ]); (try simp only [List.getElem_cons_zero]); (try simp only [Act.put]); (try simp only [List.setIfInBounds_toArray]); (try simp only [List.set_cons_succ]); (try simp only [List.set_cons_zero])
          refine wpAnyH_take (i := 10) (v := ?_) rfl (by kernel_rfl) (by kernel_rfl) (by kernel_rfl) (fun _ _ _ h => h) (Or.inl ⟨by kernel_rfl, ?_⟩) hHeld ?_
          rotate_left
          · intro wz hSw; obtain ⟨hS1, hS2⟩ := hSw; obtain ⟨p0, p1, p2⟩ := hS1.c3; obtain ⟨q0, q1, q2⟩ := hS2.c3; clear hS1 hS2; go_simp; all_goals (try with_reducible rfl)
          (try simp only [List.getElem_toArray]); (try simp only [List.getElem_cons_succ]); (try simp only [List.getElem_cons_zero]); (try simp only [Act.put]); (try simp only [List.setIfInBounds_toArray]); (try simp only [List.set_cons_succ]); (try simp only [List.set_cons_zero])
          refine wpAnyH_done (by kernel_rfl) ?_ _
          refine NoPanic.normal ?_
          go_wp2_with fail
          go_meet
          case rel => exact ⟨_, _, _, rfl, rfl, HA2, KA2.out, HV2.out, K0b.out, K1b.out, HB2.out, KTb.out, KGb.out, HRGb.out, HVb.out⟩
      · go_simp
        obtain ⟨A, hA⟩ : ∃ A, A = wd.heap.size := ⟨_, rfl⟩
        obtain ⟨u10, hu⟩ : ∃ u, u = wd.alloc (.cells #[.int .i64 0, .int .i64 0, .slice none 0 0] 35) := ⟨_, rfl⟩
        have hb : Below wd.heap.size wd u10 := by rw [hu]; exact b0 _ _
        have KA : Hid (IsB u10 A #[.int .i64 0, .int .i64 0, .slice none 0 0] 35) := by show IsB _ _ _ _; rw [hu, hA]; exact IsB.new _ _ _
        have HAw : Hid (w.heap.size ≤ A) := by show _ ≤ _; rw [hA]; exact HB.out.size
        have HNEK0 : Hid (P ≠ A) := by show _ ≠ _; have := K0.out.lt; rw [hA]; omega
        have HNEK1 : Hid (Q ≠ A) := by show _ ≠ _; have := K1.out.lt; rw [hA]; omega
        have HNEKT : Hid (T ≠ A) := by show _ ≠ _; have := KT.out.lt; rw [hA]; omega
        have HNEKG : Hid (G ≠ A) := by show _ ≠ _; have := KG.out.lt; rw [hA]; omega
        have HNEHRG : Hid (s3 ≤ A) := by show _ ≤ _; rw [hA]; exact Nat.le_trans (Nat.le_refl _) HSR.out
        have HNEHV : Hid (s0 ≤ A) := by show _ ≤ _; rw [hA]; exact Nat.le_trans (HS03.out) HSR.out
        rw [← hu, ← hA]
        clear hu hA
        replace K0 := hidU (K0.out.below hb)
        replace K1 := hidU (K1.out.below hb)
        replace KT := hidU (KT.out.below hb)
        replace KG := hidU (KG.out.below hb)
        replace HRG := hidU (HRG.out.below hb)
        replace HV := hidU (HV.out.below hb)
        replace HB := hidU (HB.out.trans (hb.mono HB.out.size))
        replace HSR := hidU (Nat.le_trans HSR.out hb.size)
        clear hb
        refine hKc.out _ _ ⟨K0.out, K1.out⟩ (fun hHeld => ?_)
        clear hKc Kc
        (try simp only [List.getElem_toArray]); (try simp only [List.getElem_cons_succ]); (try simp only [List.getElem_cons_zero]); (try simp only [Act.put]); (try simp only [List.setIfInBounds_toArray]); (try simp only [List.set_cons_succ]); (try simp only [List.set_cons_zero])
        refine wpAnyH_ready (rs := [1]) (by kernel_rfl) (by simp) (AllReadyH.cons rfl (fun Kc hKc => ?_) AllReadyH.nil)
        go_simp
        refine (HT0b.out _ HB.out).mono ?_
        rintro e u11 ⟨v0, rfl, o5, hb⟩
        have O0 := hidU o5
        clear o5
        replace K0 := hidU (K0.out.below hb)
        replace K1 := hidU (K1.out.below hb)
        replace KT := hidU (KT.out.below hb)
        replace KG := hidU (KG.out.below hb)
        replace KA := hidU (KA.out.below hb)
        replace HRG := hidU (HRG.out.below hb)
        replace HV := hidU (HV.out.below hb)
        replace HB := hidU (HB.out.trans (hb.mono HB.out.size))
        replace HSR := hidU (Nat.le_trans HSR.out hb.size)
        clear hb
        go_wp2_with fail
        refine hKc.out _ _ ⟨K0.out, K1.out⟩ (fun hHeld => ?_)
        clear hKc Kc
        (try simp only [List.getElem_toArray]); (try simp only [List.getElem_cons_succ]); (try simp only [List.getElem_cons_zero]); (try simp only [Act.put]); (try simp only [List.setIfInBounds_toArray]); (try simp only [List.set_cons_succ]); (try simp only [List.set_cons_zero])
        refine wpAnyH_ready (rs := [3]) (by kernel_rfl) (by simp) (AllReadyH.cons rfl (fun Kc hKc => ?_) AllReadyH.nil)
        go_simp
        refine (HT1b.out _ HB.out).mono ?_
        rintro e u12 ⟨v1, rfl, o6, hb⟩
        have O1 := hidU o6
        clear o6
        replace K0 := hidU (K0.out.below hb)
        replace K1 := hidU (K1.out.below hb)
        replace KT := hidU (KT.out.below hb)
        replace KG := hidU (KG.out.below hb)
        replace KA := hidU (KA.out.below hb)
        replace HRG := hidU (HRG.out.below hb)
        replace HV := hidU (HV.out.below hb)
        replace HB := hidU (HB.out.trans (hb.mono HB.out.size))
        replace HSR := hidU (Nat.le_trans HSR.out hb.size)
        replace O0 := hidU (own_below O0.out hb)
        clear hb
        go_wp2_with fail
        refine hKc.out _ _ ⟨K0.out, K1.out⟩ (fun hHeld => ?_)
        clear hKc Kc
        (try simp only [List.getElem_toArray]); (try simp only [List.getElem_cons_succ]); (try simp only [List.getElem_cons_zero]); (try simp only [Act.put]); (try simp only [List.setIfInBounds_toArray]); (try simp only [List.set_cons_succ]); (try simp only [List.set_cons_zero])
        refine wpAnyH_ready (rs := [4]) (by kernel_rfl) (by simp) (AllReadyH.cons rfl (fun Kc hKc => ?_) AllReadyH.nil)
        go_simp
        refine (HI.out _ _ _ (DimIn.of (by rw [HL0.out]; exact O0.out)) (DimIn.of (by rw [HL1.out]; exact O1.out))).mono ?_
        rintro e u13 ⟨v, rfl, hv, hb⟩
        obtain ⟨o1, oc1, he⟩ := hv.shape
        rw [HM.out] at he
        subst he
        obtain ⟨ul, hul⟩ : ∃ l, l = u12.heap.size := ⟨_, rfl⟩
        obtain ⟨ur, hur⟩ : ∃ l, l = u13.heap.size := ⟨_, rfl⟩
        have HUR : Hid (ur ≤ u13.heap.size) := Nat.le_of_eq hur
        have HUL : Hid (w.heap.size ≤ ul) := by show _ ≤ _; rw [hul]; exact HB.out.size
        have HAR : Hid (ur ≤ A ∨ A < ul) := by right; rw [hul]; exact KA.out.lt
        rw [← hul, ← hur] at hv
        have HVT := hidU hv
        clear hv hul hur
        replace K0 := hidU (K0.out.below hb)
        replace K1 := hidU (K1.out.below hb)
        replace KT := hidU (KT.out.below hb)
        replace KG := hidU (KG.out.below hb)
        replace KA := hidU (KA.out.below hb)
        replace HRG := hidU (HRG.out.below hb)
        replace HV := hidU (HV.out.below hb)
        replace HB := hidU (HB.out.trans (hb.mono HB.out.size))
        replace HSR := hidU (Nat.le_trans HSR.out hb.size)
        clear hb O0 O1
        go_wp2_with fail
        refine hKc.out _ _ ⟨K0.out, K1.out⟩ (fun hHeld => ?_)
        clear hKc Kc
        (try simp only [List.getElem_toArray]); (try simp only [List.getElem_cons_succ]); (try simp only [List.getElem_cons_zero]); (try simp only [Act.put]); (try simp only [List.setIfInBounds_toArray]); (try simp only [List.set_cons_succ]); (try simp only [List.set_cons_zero])
        refine wpAnyH_take (i := 5) (v := ?_) rfl (by kernel_rfl) (by kernel_rfl) (by kernel_rfl) (fun _ _ _ h => h) (Or.inl ⟨by kernel_rfl, ?_⟩) hHeld ?_
        rotate_left
        · intro wz hSw; obtain ⟨hS1, hS2⟩ := hSw; obtain ⟨p0, p1, p2⟩ := hS1.c3; obtain ⟨q0, q1, q2⟩ := hS2.c3; clear hS1 hS2; go_simp; all_goals (try with_reducible rfl)
        (try simp only [List.getElem_toArray]); (try simp only [List.getElem_cons_succ]); (try simp only [List.getElem_cons_zero]); (try simp only [Act.put]); (try simp only [List.setIfInBounds_toArray]); (try simp only [List.set_cons_succ]); (try simp only [List.set_cons_zero])
        refine wpAnyH_take (i := 6) (v := ?_) rfl (by kernel_rfl) (by kernel_rfl) (by kernel_rfl) (fun _ _ _ h => h) (Or.inl ⟨by kernel_rfl, ?_⟩) hHeld ?_
        rotate_left
        · intro wz hSw; obtain ⟨hS1, hS2⟩ := hSw; obtain ⟨p0, p1, p2⟩ := hS1.c3; obtain ⟨q0, q1, q2⟩ := hS2.c3; clear hS1 hS2; go_simp; all_goals (try with_reducible rfl)
        (try simp only [List.getElem_toArray]); (try simp only [List.getElem_cons_succ]); (try simp only [List.getElem_cons_zero]); (try simp only [Act.put]); (try simp only [List.setIfInBounds_toArray]); (try simp only [List.set_cons_succ]); (try simp only [List.set_cons_zero])
        refine wpAnyH_take (i := 7) (v := ?_) rfl (by kernel_rfl) (by kernel_rfl) (by kernel_rfl) (fun _ _ _ h => h) (Or.inl ⟨by kernel_rfl, ?_⟩) hHeld ?_
        rotate_left
        · intro wz hSw; obtain ⟨hS1, hS2⟩ := hSw; obtain ⟨p0, p1, p2⟩ := hS1.c3; obtain ⟨q0, q1, q2⟩ := hS2.c3; clear hS1 hS2; go_simp; all_goals (try with_reducible rfl)
        (try simp only [List.getElem_toArray]); (try simp only [List.getElem_cons_succ]); (try simp only [List.getElem_cons_zero]); (try simp only [Act.put]); (try simp only [List.setIfInBounds_toArray]); (try simp only [List.set_cons_succ]); (try simp only [List.set_cons_zero])
        obtain ⟨z0, z1, z2⟩ := KA.out.c3
        obtain ⟨f0, f1, f2⟩ := KA.out.f3
        have h9 : Kp A (A + 1) u13 (((u13.setCell ⟨A, 0, none⟩ (.int .i64 rn)).setCell ⟨A, 1, none⟩ (.int .i64 rd)).setCell ⟨A, 2, none⟩ (.slice o1 m oc1)) := ((Kp.set _ _ (Nat.le_refl _) (Nat.lt_succ_self _)).trans (Kp.set _ _ (Nat.le_refl _) (Nat.lt_succ_self _))).trans (Kp.set _ _ (Nat.le_refl _) (Nat.lt_succ_self _))
        have HV2 := hidU ((HVT.out.kp h9 (by have := HAR.out; omega)).mono (show w.heap.size ≤ ul from HUL.out) (Nat.le_trans HUR.out h9.size))
        have KA2 := hidU (KA.out.set3 (.int .i64 rn) (.int .i64 rd) (.slice o1 m oc1))
        have K0b := hidU (K0.out.other3 (show P ≠ A from HNEK0.out) (.int .i64 rn) (.int .i64 rd) (.slice o1 m oc1))
        have K1b := hidU (K1.out.other3 (show Q ≠ A from HNEK1.out) (.int .i64 rn) (.int .i64 rd) (.slice o1 m oc1))
        have KTb := hidU (KT.out.other3 (show T ≠ A from HNEKT.out) (.int .i64 rn) (.int .i64 rd) (.slice o1 m oc1))
        have KGb := hidU (KG.out.other3 (show G ≠ A from HNEKG.out) (.int .i64 rn) (.int .i64 rd) (.slice o1 m oc1))
        have HRGb := hidU (HRG.out.kp h9 (.inl HNEHRG.out))
        have HVb := hidU (HV.out.kp h9 (.inl HNEHV.out))
        have HB2 := hidU (below_set3 HB.out HAw.out (.int .i64 rn) (.int .i64 rd) (.slice o1 m oc1))
        have HA2 := KA2.out.lt
        refine wpAnyH_ready (rs := [9]) (by kernel_rfl) (by simp) (AllReadyH.cons rfl (fun Kc hKc => ?_) AllReadyH.nil)
        go_simp
        refine hKc.out _ _ ⟨K0b.out, K1b.out⟩ (fun hHeld => ?_)
        clear hKc Kc z0 z1 z2 f0 f1 f2
        (try simp only [List.getElem_toArray]); (try simp only [List.getElem_cons_succ]); (try simp only [List.getElem_cons_zero]); (try simp only [Act.put]); (try simp only [List.setIfInBounds_toArray]); (try simp only [List.set_cons_succ]); (try simp only [List.set_cons_zero])
        refine wpAnyH_take (i := 10) (v := ?_) rfl (by kernel_rfl) (by kernel_rfl) (by kernel_rfl) (fun _ _ _ h => h) (Or.inl ⟨by kernel_rfl, ?_⟩) hHeld ?_
        rotate_left
        · intro wz hSw; obtain ⟨hS1, hS2⟩ := hSw; obtain ⟨p0, p1, p2⟩ := hS1.c3; obtain ⟨q0, q1, q2⟩ := hS2.c3; clear hS1 hS2; go_simp; all_goals (try with_reducible rfl)
        (try simp only [List.getElem_toArray]); (try simp only [List.getElem_cons_succ]); (try simp only [List.getElem_cons_zero]); (try simp only [Act.put]); (try simp only [List.setIfInBounds_toArray]); (try simp only [List.set_cons_succ]); (try simp only [List.set_cons_zero])
        refine wpAnyH_done (by kernel_rfl) ?_ _
        refine NoPanic.normal ?_
        go_wp2_with fail
        go_meet
        case rel => exact ⟨_, _, _, rfl, rfl, HA2, KA2.out, HV2.out, K0b.out, K1b.out, HB2.out, KTb.out, KGb.out, HRGb.out, HVb.out⟩
    case rest =>
      clear K0 K1 HB KT KG HRG HV HSR
      obtain ⟨H, oh, ohc, rfl, rfl, hTx, KH, HVH, K0, K1, HB, KT, KG, HRG, HV⟩ := hcut
      clear hTx K0 K1
      obtain ⟨x00, x01, x02⟩ := KH.out.c3
      obtain ⟨x10, x11, x12⟩ := KT.out.c3
      go_wp2_with fail
      refine (eqQ_any rn rd _ _ xs _ _ _ _ _ (by rw [HM.out]; exact HMM.out) HVH.out HV.out).mono ?_
      rintro e g14 ⟨rfl, hb⟩
      replace KT := hidU (KT.out.below hb)
      replace KG := hidU (KG.out.below hb)
      replace KH := hidU (KH.out.below hb)
      replace HRG := hidU (HRG.out.below hb)
      replace HV := hidU (HV.out.below hb)
      replace HVH := hidU (HVH.out.below hb)
      replace HB := hidU (HB.out.trans (hb.mono HB.out.size))
      clear hb x00 x01 x02 x10 x11 x12
      obtain ⟨x00, x01, x02⟩ := KG.out.c3
      go_wp2_with fail
      refine (heldQ_any rn rd _ xs m _ _ 1 _ HM.out HMM.out (by omega) (by omega) HRG.out).mono ?_
      rintro e g15 ⟨rfl, hb⟩
      replace KT := hidU (KT.out.below hb)
      replace KG := hidU (KG.out.below hb)
      replace KH := hidU (KH.out.below hb)
      replace HRG := hidU (HRG.out.below hb)
      replace HV := hidU (HV.out.below hb)
      replace HVH := hidU (HVH.out.below hb)
      replace HB := hidU (HB.out.trans (hb.mono HB.out.size))
      clear hb x00 x01 x02
      go_wp2
      go_ret
      exact ⟨rfl, HB.out⟩
end Go.Proofs.Ytijdggcfjkfgcal
