/- The walk of the law of Meet: both answer the same. -/
import Derived.Test.YtjpjnpdmkfgjgaaRngL0
namespace Go.Proofs.Ytjpjnpdmkfgjgaa
open Go.RowKit Go.Proofs.Ytjpjnpdmkfgjgaa.RM

set_option maxRecDepth 100000 in
set_option maxHeartbeats 4000000 in
theorem lawMeet (a b c d a' b' c' d' : Int) (w : World) :
    Calls Try.prog 7 #[.agg #[.int .i64 a, .int .i64 b, .int .i64 c, .int .i64 d], .agg #[.int .i64 a', .int .i64 b', .int .i64 c', .int .i64 d']] w fun e w' => e = .returned (.bool true) ∧ Below w.heap.size w w' := by
  have HS := hidU (fun W => sMeet_any a b c d a' b' c' d' W)
  have HI := hidU (fun W => iMeet_any a b c d a' b' c' d' W)
  have HT0 := hidU (fun W => toRng_any a b c d W)
  have HT1 := hidU (fun W => toRng_any a' b' c' d' W)
  obtain ⟨r, hr⟩ : ∃ x, x = rmeet (a, b) (c, d) (a', b') (c', d') := ⟨_, rfl⟩
  rw [← hr] at HS HI
  clear hr
  obtain ⟨⟨r1, r2⟩, ⟨r3, r4⟩, r5⟩ := r
  simp only at HS HI
  have HE := hidU (fun W => eqRng_same r1 r2 r3 r4 W)
  have hok : (r5 != r5) = false := by simp
  go_enter Try.func7, Try.ntmps7
  go_upto_region 1 with fail
  obtain ⟨W0, hW⟩ : ∃ Y, Y = (w.alloc (.cells #[.int .i64 a, .int .i64 b, .int .i64 c, .int .i64 d] 25)).alloc (.cells #[.int .i64 a', .int .i64 b', .int .i64 c', .int .i64 d'] 25) := ⟨_, rfl⟩
  obtain ⟨P, hP⟩ : ∃ P, P = w.heap.size := ⟨_, rfl⟩
  have K0 : Hid (IsB W0 P #[.int .i64 a, .int .i64 b, .int .i64 c, .int .i64 d] 25) := by show IsB _ _ _ _; rw [hW, hP]; exact (IsB.new w _ _).below (b0_any _ _)
  have K1 : Hid (IsB W0 (P + 1) #[.int .i64 a', .int .i64 b', .int .i64 c', .int .i64 d'] 25) := by show IsB _ _ _ _; rw [hW, hP]; exact IsB.new2c w _ _ _
  have HB : Hid (Below w.heap.size w W0) := by show Below _ _ _; rw [hW]; exact (b0_any w _).alloc (by simp) _
  rw [← hW, ← hP]
  clear hW
  obtain ⟨Q, hQ⟩ : ∃ Q, Q = P + 1 := ⟨_, rfl⟩
  rw [← hQ] at K1 ⊢
  clear hP hQ
  go_upto_region 1 with fail
  go_cut [5, 6] (fun s5 s6 wx => ∃ (T : Nat), s5 = .pointer (some ⟨T, 0, none⟩) ∧ s6 = .bool r5 ∧ Hid (IsB wx T #[.int .i64 r1, .int .i64 r2, .int .i64 r3, .int .i64 r4] 29) ∧ Hid (IsB wx P #[.int .i64 a, .int .i64 b, .int .i64 c, .int .i64 d] 25) ∧ Hid (IsB wx Q #[.int .i64 a', .int .i64 b', .int .i64 c', .int .i64 d'] 25) ∧ Hid (Below w.heap.size w wx))
  case first =>
    have hb := (Below.refl W0.heap.size W0).drew
    replace K0 := hidU (K0.out.below hb)
    replace K1 := hidU (K1.out.below hb)
    replace HB := hidU (HB.out.trans (hb.mono HB.out.size))
    clear hb
    refine wp_region_noPanic ?_
    refine wp_region_held_drew (S := fun W => IsB W P #[.int .i64 a, .int .i64 b, .int .i64 c, .int .i64 d] 25 ∧ IsB W Q #[.int .i64 a', .int .i64 b', .int .i64 c', .int .i64 d'] 25) (by kernel_rfl) ⟨K0.out, K1.out⟩ (fun hHeld => ?_)
    obtain ⟨wd, hwd⟩ : ∃ u, u = W0.drew := ⟨_, rfl⟩
    rw [← hwd] at K0 K1 HB hHeld ⊢
    clear hwd
    refine wpAnyH_take (i := 0) (v := ?_) rfl (by kernel_rfl) (by kernel_rfl) (by kernel_rfl) (fun _ _ _ h => h) (Or.inl ⟨by kernel_rfl, ?_⟩) hHeld ?_
    rotate_left
    · intro wz hSw; obtain ⟨hS0, hS1⟩ := hSw; obtain ⟨p0_0, p0_1, p0_2, p0_3⟩ := hS0.c4; obtain ⟨p1_0, p1_1, p1_2, p1_3⟩ := hS1.c4; clear hS0 hS1; go_simp; all_goals (try with_reducible rfl)
    (try simp only [List.getElem_toArray]); (try simp only [List.getElem_cons_succ]); (try simp only [List.getElem_cons_zero]); (try simp only [Act.put]); (try simp only [List.setIfInBounds_toArray]); (try simp only [List.set_cons_succ]); (try simp only [List.set_cons_zero])
    refine wpAnyH_take (i := 2) (v := ?_) rfl (by kernel_rfl) (by kernel_rfl) (by kernel_rfl) (fun _ _ _ h => h) (Or.inl ⟨by kernel_rfl, ?_⟩) hHeld ?_
    rotate_left
    · intro wz hSw; obtain ⟨hS0, hS1⟩ := hSw; obtain ⟨p0_0, p0_1, p0_2, p0_3⟩ := hS0.c4; obtain ⟨p1_0, p1_1, p1_2, p1_3⟩ := hS1.c4; clear hS0 hS1; go_simp; all_goals (try with_reducible rfl)
    (try simp only [List.getElem_toArray]); (try simp only [List.getElem_cons_succ]); (try simp only [List.getElem_cons_zero]); (try simp only [Act.put]); (try simp only [List.setIfInBounds_toArray]); (try simp only [List.set_cons_succ]); (try simp only [List.set_cons_zero])
    refine wpAnyH_ready (rs := [1, 8]) (by kernel_rfl) (by simp) (AllReadyH.cons rfl (fun Kc hKc => ?_) (AllReadyH.cons rfl (fun Kc hKc => ?_) AllReadyH.nil))
    · go_simp
      refine (HT0.out _).mono ?_
      rintro e u1 ⟨rfl, hb⟩
      replace K0 := hidU (K0.out.below hb)
      replace K1 := hidU (K1.out.below hb)
      replace HB := hidU (HB.out.trans (hb.mono HB.out.size))
      clear hb
      go_wp2_with fail
      refine hKc.out _ _ ⟨K0.out, K1.out⟩ (fun hHeld => ?_)
      clear hKc Kc
      (try simp only [List.getElem_toArray]); (try simp only [List.getElem_cons_succ]); (try simp only [List.getElem_cons_zero]); (try simp only [Act.put]); (try simp only [List.setIfInBounds_toArray]); (try simp only [List.set_cons_succ]); (try simp only [List.set_cons_zero])
      refine wpAnyH_ready (rs := [3, 8]) (by kernel_rfl) (by simp) (AllReadyH.cons rfl (fun Kc hKc => ?_) (AllReadyH.cons rfl (fun Kc hKc => ?_) AllReadyH.nil))
      · go_simp
        refine (HT1.out _).mono ?_
        rintro e u2 ⟨rfl, hb⟩
        replace K0 := hidU (K0.out.below hb)
        replace K1 := hidU (K1.out.below hb)
        replace HB := hidU (HB.out.trans (hb.mono HB.out.size))
        clear hb
        go_wp2_with fail
        refine hKc.out _ _ ⟨K0.out, K1.out⟩ (fun hHeld => ?_)
        clear hKc Kc
        (try simp only [List.getElem_toArray]); (try simp only [List.getElem_cons_succ]); (try simp only [List.getElem_cons_zero]); (try simp only [Act.put]); (try simp only [List.setIfInBounds_toArray]); (try simp only [List.set_cons_succ]); (try simp only [List.set_cons_zero])
        refine wpAnyH_ready (rs := [4, 8]) (by kernel_rfl) (by simp) (AllReadyH.cons rfl (fun Kc hKc => ?_) (AllReadyH.cons rfl (fun Kc hKc => ?_) AllReadyH.nil))
        · go_simp
          refine (HS.out _).mono ?_
          rintro e u3 ⟨rfl, hb⟩
          replace K0 := hidU (K0.out.below hb)
          replace K1 := hidU (K1.out.below hb)
          replace HB := hidU (HB.out.trans (hb.mono HB.out.size))
          clear hb
          go_wp2_with fail
          refine hKc.out _ _ ⟨K0.out, K1.out⟩ (fun hHeld => ?_)
          clear hKc Kc
          (try simp only [List.getElem_toArray]); (try simp only [List.getElem_cons_succ]); (try simp only [List.getElem_cons_zero]); (try simp only [Act.put]); (try simp only [List.setIfInBounds_toArray]); (try simp only [List.set_cons_succ]); (try simp only [List.set_cons_zero])
          refine wpAnyH_take (i := 5) (v := ?_) rfl (by kernel_rfl) (by kernel_rfl) (by kernel_rfl) (fun _ _ _ h => h) (Or.inl ⟨by kernel_rfl, ?_⟩) hHeld ?_
          rotate_left
          · intro wz hSw; obtain ⟨hS0, hS1⟩ := hSw; obtain ⟨p0_0, p0_1, p0_2, p0_3⟩ := hS0.c4; obtain ⟨p1_0, p1_1, p1_2, p1_3⟩ := hS1.c4; clear hS0 hS1; go_simp; all_goals (try with_reducible rfl)
          (try simp only [List.getElem_toArray]); (try simp only [List.getElem_cons_succ]); (try simp only [List.getElem_cons_zero]); (try simp only [Act.put]); (try simp only [List.setIfInBounds_toArray]); (try simp only [List.set_cons_succ]); (try simp only [List.set_cons_zero])
          refine wpAnyH_take (i := 6) (v := ?_) rfl (by kernel_rfl) (by kernel_rfl) (by kernel_rfl) (fun _ _ _ h => h) (Or.inl ⟨by kernel_rfl, ?_⟩) hHeld ?_
          rotate_left
          · intro wz hSw; obtain ⟨hS0, hS1⟩ := hSw; obtain ⟨p0_0, p0_1, p0_2, p0_3⟩ := hS0.c4; obtain ⟨p1_0, p1_1, p1_2, p1_3⟩ := hS1.c4; clear hS0 hS1; go_simp; all_goals (try with_reducible rfl)
          (try simp only [List.getElem_toArray]); (try simp only [List.getElem_cons_succ]); (try simp only [List.getElem_cons_zero]); (try simp only [Act.put]); (try simp only [List.setIfInBounds_toArray]); (try simp only [List.set_cons_succ]); (try simp only [List.set_cons_zero])
          refine wpAnyH_take (i := 7) (v := ?_) rfl (by kernel_rfl) (by kernel_rfl) (by kernel_rfl) (fun _ _ _ h => h) (Or.inl ⟨by kernel_rfl, ?_⟩) hHeld ?_
          rotate_left
          · intro wz hSw; obtain ⟨hS0, hS1⟩ := hSw; obtain ⟨p0_0, p0_1, p0_2, p0_3⟩ := hS0.c4; obtain ⟨p1_0, p1_1, p1_2, p1_3⟩ := hS1.c4; clear hS0 hS1; go_simp; all_goals (try with_reducible rfl)
          (try simp only [List.getElem_toArray]); (try simp only [List.getElem_cons_succ]); (try simp only [List.getElem_cons_zero]); (try simp only [Act.put]); (try simp only [List.setIfInBounds_toArray]); (try simp only [List.set_cons_succ]); (try simp only [List.set_cons_zero])
          refine wpAnyH_ready (rs := [8]) (by kernel_rfl) (by simp) (AllReadyH.cons rfl (fun Kc hKc => ?_) AllReadyH.nil)
          go_simp
          obtain ⟨A, hA⟩ : ∃ A, A = u3.heap.size := ⟨_, rfl⟩
          obtain ⟨u4, hu⟩ : ∃ u, u = u3.alloc (.cells #[.int .i64 0, .int .i64 0, .int .i64 0, .int .i64 0] 29) := ⟨_, rfl⟩
          have hb : Below u3.heap.size u3 u4 := by rw [hu]; exact b0_any _ _
          have KA : Hid (IsB u4 A #[.int .i64 0, .int .i64 0, .int .i64 0, .int .i64 0] 29) := by show IsB _ _ _ _; rw [hu, hA]; exact IsB.new _ _ _
          have HAw : Hid (w.heap.size ≤ A) := by show _ ≤ _; rw [hA]; exact HB.out.size
          have HNEK0 : Hid (P ≠ A) := by show _ ≠ _; have := K0.out.lt; rw [hA]; omega
          have HNEK1 : Hid (Q ≠ A) := by show _ ≠ _; have := K1.out.lt; rw [hA]; omega
          rw [← hu, ← hA]
          clear hu hA
          replace K0 := hidU (K0.out.below hb)
          replace K1 := hidU (K1.out.below hb)
          replace HB := hidU (HB.out.trans (hb.mono HB.out.size))
          clear hb
          refine hKc.out _ _ ⟨K0.out, K1.out⟩ (fun hHeld => ?_)
          clear hKc Kc
          (try simp only [List.getElem_toArray]); (try simp only [List.getElem_cons_succ]); (try simp only [List.getElem_cons_zero]); (try simp only [Act.put]); (try simp only [List.setIfInBounds_toArray]); (try simp only [List.set_cons_succ]); (try simp only [List.set_cons_zero])
          obtain ⟨z0, z1, z2, z3⟩ := KA.out.c4
          obtain ⟨f0, f1, f2, f3⟩ := KA.out.f4
          have KA2 := hidU (KA.out.set4 (.int .i64 r1) (.int .i64 r2) (.int .i64 r3) (.int .i64 r4))
          have K0b := hidU (K0.out.other4 (show P ≠ A from HNEK0.out) (.int .i64 r1) (.int .i64 r2) (.int .i64 r3) (.int .i64 r4))
          have K1b := hidU (K1.out.other4 (show Q ≠ A from HNEK1.out) (.int .i64 r1) (.int .i64 r2) (.int .i64 r3) (.int .i64 r4))
          have HB2 := hidU (below_set4 HB.out HAw.out (.int .i64 r1) (.int .i64 r2) (.int .i64 r3) (.int .i64 r4))
          refine wpAnyH_ready (rs := [9]) (by kernel_rfl) (by simp) (AllReadyH.cons rfl (fun Kc hKc => ?_) AllReadyH.nil)
          go_simp
          refine hKc.out _ _ ⟨K0b.out, K1b.out⟩ (fun hHeld => ?_)
          clear hKc Kc
          (try simp only [List.getElem_toArray]); (try simp only [List.getElem_cons_succ]); (try simp only [List.getElem_cons_zero]); (try simp only [Act.put]); (try simp only [List.setIfInBounds_toArray]); (try simp only [List.set_cons_succ]); (try simp only [List.set_cons_zero])
          clear z0 f0 z1 f1 z2 f2 z3 f3
          refine wpAnyH_take (i := 10) (v := ?_) rfl (by kernel_rfl) (by kernel_rfl) (by kernel_rfl) (fun _ _ _ h => h) (Or.inl ⟨by kernel_rfl, ?_⟩) hHeld ?_
          rotate_left
          · intro wz hSw; obtain ⟨hS0, hS1⟩ := hSw; obtain ⟨p0_0, p0_1, p0_2, p0_3⟩ := hS0.c4; obtain ⟨p1_0, p1_1, p1_2, p1_3⟩ := hS1.c4; clear hS0 hS1; go_simp; all_goals (try with_reducible rfl)
          (try simp only [List.getElem_toArray]); (try simp only [List.getElem_cons_succ]); (try simp only [List.getElem_cons_zero]); (try simp only [Act.put]); (try simp only [List.setIfInBounds_toArray]); (try simp only [List.set_cons_succ]); (try simp only [List.set_cons_zero])
          refine wpAnyH_done (by kernel_rfl) ?_ _
          refine NoPanic.normal ?_
          go_wp2_with fail
          go_meet
          case rel => exact ⟨_, rfl, rfl, KA2.out, K0b.out, K1b.out, HB2.out⟩
        · go_simp
          obtain ⟨A, hA⟩ : ∃ A, A = u2.heap.size := ⟨_, rfl⟩
          obtain ⟨u5, hu⟩ : ∃ u, u = u2.alloc (.cells #[.int .i64 0, .int .i64 0, .int .i64 0, .int .i64 0] 29) := ⟨_, rfl⟩
          have hb : Below u2.heap.size u2 u5 := by rw [hu]; exact b0_any _ _
          have KA : Hid (IsB u5 A #[.int .i64 0, .int .i64 0, .int .i64 0, .int .i64 0] 29) := by show IsB _ _ _ _; rw [hu, hA]; exact IsB.new _ _ _
          have HAw : Hid (w.heap.size ≤ A) := by show _ ≤ _; rw [hA]; exact HB.out.size
          have HNEK0 : Hid (P ≠ A) := by show _ ≠ _; have := K0.out.lt; rw [hA]; omega
          have HNEK1 : Hid (Q ≠ A) := by show _ ≠ _; have := K1.out.lt; rw [hA]; omega
          rw [← hu, ← hA]
          clear hu hA
          replace K0 := hidU (K0.out.below hb)
          replace K1 := hidU (K1.out.below hb)
          replace HB := hidU (HB.out.trans (hb.mono HB.out.size))
          clear hb
          refine hKc.out _ _ ⟨K0.out, K1.out⟩ (fun hHeld => ?_)
          clear hKc Kc
          (try simp only [List.getElem_toArray]); (try simp only [List.getElem_cons_succ]); (try simp only [List.getElem_cons_zero]); (try simp only [Act.put]); (try simp only [List.setIfInBounds_toArray]); (try simp only [List.set_cons_succ]); (try simp only [List.set_cons_zero])
          refine wpAnyH_ready (rs := [4]) (by kernel_rfl) (by simp) (AllReadyH.cons rfl (fun Kc hKc => ?_) AllReadyH.nil)
          go_simp
          refine (HS.out _).mono ?_
          rintro e u6 ⟨rfl, hb⟩
          replace K0 := hidU (K0.out.below hb)
          replace K1 := hidU (K1.out.below hb)
          replace KA := hidU (KA.out.below hb)
          replace HB := hidU (HB.out.trans (hb.mono HB.out.size))
          clear hb
          go_wp2_with fail
          refine hKc.out _ _ ⟨K0.out, K1.out⟩ (fun hHeld => ?_)
          clear hKc Kc
          (try simp only [List.getElem_toArray]); (try simp only [List.getElem_cons_succ]); (try simp only [List.getElem_cons_zero]); (try simp only [Act.put]); (try simp only [List.setIfInBounds_toArray]); (try simp only [List.set_cons_succ]); (try simp only [List.set_cons_zero])
          refine wpAnyH_take (i := 5) (v := ?_) rfl (by kernel_rfl) (by kernel_rfl) (by kernel_rfl) (fun _ _ _ h => h) (Or.inl ⟨by kernel_rfl, ?_⟩) hHeld ?_
          rotate_left
          · intro wz hSw; obtain ⟨hS0, hS1⟩ := hSw; obtain ⟨p0_0, p0_1, p0_2, p0_3⟩ := hS0.c4; obtain ⟨p1_0, p1_1, p1_2, p1_3⟩ := hS1.c4; clear hS0 hS1; go_simp; all_goals (try with_reducible rfl)
          (try simp only [List.getElem_toArray]); (try simp only [List.getElem_cons_succ]); (try simp only [List.getElem_cons_zero]); (try simp only [Act.put]); (try simp only [List.setIfInBounds_toArray]); (try simp only [List.set_cons_succ]); (try simp only [List.set_cons_zero])
          refine wpAnyH_take (i := 6) (v := ?_) rfl (by kernel_rfl) (by kernel_rfl) (by kernel_rfl) (fun _ _ _ h => h) (Or.inl ⟨by kernel_rfl, ?_⟩) hHeld ?_
          rotate_left
          · intro wz hSw; obtain ⟨hS0, hS1⟩ := hSw; obtain ⟨p0_0, p0_1, p0_2, p0_3⟩ := hS0.c4; obtain ⟨p1_0, p1_1, p1_2, p1_3⟩ := hS1.c4; clear hS0 hS1; go_simp; all_goals (try with_reducible rfl)
          (try simp only [List.getElem_toArray]); (try simp only [List.getElem_cons_succ]); (try simp only [List.getElem_cons_zero]); (try simp only [Act.put]); (try simp only [List.setIfInBounds_toArray]); (try simp only [List.set_cons_succ]); (try simp only [List.set_cons_zero])
          refine wpAnyH_take (i := 7) (v := ?_) rfl (by kernel_rfl) (by kernel_rfl) (by kernel_rfl) (fun _ _ _ h => h) (Or.inl ⟨by kernel_rfl, ?_⟩) hHeld ?_
          rotate_left
          · intro wz hSw; obtain ⟨hS0, hS1⟩ := hSw; obtain ⟨p0_0, p0_1, p0_2, p0_3⟩ := hS0.c4; obtain ⟨p1_0, p1_1, p1_2, p1_3⟩ := hS1.c4; clear hS0 hS1; go_simp; all_goals (try with_reducible rfl)
          (try simp only [List.getElem_toArray]); (try simp only [List.getElem_cons_succ]); (try simp only [List.getElem_cons_zero]); (try simp only [Act.put]); (try simp only [List.setIfInBounds_toArray]); (try simp only [List.set_cons_succ]); (try simp only [List.set_cons_zero])
          obtain ⟨z0, z1, z2, z3⟩ := KA.out.c4
          obtain ⟨f0, f1, f2, f3⟩ := KA.out.f4
          have KA2 := hidU (KA.out.set4 (.int .i64 r1) (.int .i64 r2) (.int .i64 r3) (.int .i64 r4))
          have K0b := hidU (K0.out.other4 (show P ≠ A from HNEK0.out) (.int .i64 r1) (.int .i64 r2) (.int .i64 r3) (.int .i64 r4))
          have K1b := hidU (K1.out.other4 (show Q ≠ A from HNEK1.out) (.int .i64 r1) (.int .i64 r2) (.int .i64 r3) (.int .i64 r4))
          have HB2 := hidU (below_set4 HB.out HAw.out (.int .i64 r1) (.int .i64 r2) (.int .i64 r3) (.int .i64 r4))
          refine wpAnyH_ready (rs := [9]) (by kernel_rfl) (by simp) (AllReadyH.cons rfl (fun Kc hKc => ?_) AllReadyH.nil)
          go_simp
          refine hKc.out _ _ ⟨K0b.out, K1b.out⟩ (fun hHeld => ?_)
          clear hKc Kc
          (try simp only [List.getElem_toArray]); (try simp only [List.getElem_cons_succ]); (try simp only [List.getElem_cons_zero]); (try simp only [Act.put]); (try simp only [List.setIfInBounds_toArray]); (try simp only [List.set_cons_succ]); (try simp only [List.set_cons_zero])
          clear z0 f0 z1 f1 z2 f2 z3 f3
          refine wpAnyH_take (i := 10) (v := ?_) rfl (by kernel_rfl) (by kernel_rfl) (by kernel_rfl) (fun _ _ _ h => h) (Or.inl ⟨by kernel_rfl, ?_⟩) hHeld ?_
          rotate_left
          · intro wz hSw; obtain ⟨hS0, hS1⟩ := hSw; obtain ⟨p0_0, p0_1, p0_2, p0_3⟩ := hS0.c4; obtain ⟨p1_0, p1_1, p1_2, p1_3⟩ := hS1.c4; clear hS0 hS1; go_simp; all_goals (try with_reducible rfl)
          (try simp only [List.getElem_toArray]); (try simp only [List.getElem_cons_succ]); (try simp only [List.getElem_cons_zero]); (try simp only [Act.put]); (try simp only [List.setIfInBounds_toArray]); (try simp only [List.set_cons_succ]); (try simp only [List.set_cons_zero])
          refine wpAnyH_done (by kernel_rfl) ?_ _
          refine NoPanic.normal ?_
          go_wp2_with fail
          go_meet
          case rel => exact ⟨_, rfl, rfl, KA2.out, K0b.out, K1b.out, HB2.out⟩
      · go_simp
        obtain ⟨A, hA⟩ : ∃ A, A = u1.heap.size := ⟨_, rfl⟩
        obtain ⟨u7, hu⟩ : ∃ u, u = u1.alloc (.cells #[.int .i64 0, .int .i64 0, .int .i64 0, .int .i64 0] 29) := ⟨_, rfl⟩
        have hb : Below u1.heap.size u1 u7 := by rw [hu]; exact b0_any _ _
        have KA : Hid (IsB u7 A #[.int .i64 0, .int .i64 0, .int .i64 0, .int .i64 0] 29) := by show IsB _ _ _ _; rw [hu, hA]; exact IsB.new _ _ _
        have HAw : Hid (w.heap.size ≤ A) := by show _ ≤ _; rw [hA]; exact HB.out.size
        have HNEK0 : Hid (P ≠ A) := by show _ ≠ _; have := K0.out.lt; rw [hA]; omega
        have HNEK1 : Hid (Q ≠ A) := by show _ ≠ _; have := K1.out.lt; rw [hA]; omega
        rw [← hu, ← hA]
        clear hu hA
        replace K0 := hidU (K0.out.below hb)
        replace K1 := hidU (K1.out.below hb)
        replace HB := hidU (HB.out.trans (hb.mono HB.out.size))
        clear hb
        refine hKc.out _ _ ⟨K0.out, K1.out⟩ (fun hHeld => ?_)
        clear hKc Kc
        (try simp only [List.getElem_toArray]); (try simp only [List.getElem_cons_succ]); (try simp only [List.getElem_cons_zero]); (try simp only [Act.put]); (try simp only [List.setIfInBounds_toArray]); (try simp only [List.set_cons_succ]); (try simp only [List.set_cons_zero])
        refine wpAnyH_ready (rs := [3]) (by kernel_rfl) (by simp) (AllReadyH.cons rfl (fun Kc hKc => ?_) AllReadyH.nil)
        go_simp
        refine (HT1.out _).mono ?_
        rintro e u8 ⟨rfl, hb⟩
        replace K0 := hidU (K0.out.below hb)
        replace K1 := hidU (K1.out.below hb)
        replace KA := hidU (KA.out.below hb)
        replace HB := hidU (HB.out.trans (hb.mono HB.out.size))
        clear hb
        go_wp2_with fail
        refine hKc.out _ _ ⟨K0.out, K1.out⟩ (fun hHeld => ?_)
        clear hKc Kc
        (try simp only [List.getElem_toArray]); (try simp only [List.getElem_cons_succ]); (try simp only [List.getElem_cons_zero]); (try simp only [Act.put]); (try simp only [List.setIfInBounds_toArray]); (try simp only [List.set_cons_succ]); (try simp only [List.set_cons_zero])
        refine wpAnyH_ready (rs := [4]) (by kernel_rfl) (by simp) (AllReadyH.cons rfl (fun Kc hKc => ?_) AllReadyH.nil)
        go_simp
        refine (HS.out _).mono ?_
        rintro e u9 ⟨rfl, hb⟩
        replace K0 := hidU (K0.out.below hb)
        replace K1 := hidU (K1.out.below hb)
        replace KA := hidU (KA.out.below hb)
        replace HB := hidU (HB.out.trans (hb.mono HB.out.size))
        clear hb
        go_wp2_with fail
        refine hKc.out _ _ ⟨K0.out, K1.out⟩ (fun hHeld => ?_)
        clear hKc Kc
        (try simp only [List.getElem_toArray]); (try simp only [List.getElem_cons_succ]); (try simp only [List.getElem_cons_zero]); (try simp only [Act.put]); (try simp only [List.setIfInBounds_toArray]); (try simp only [List.set_cons_succ]); (try simp only [List.set_cons_zero])
        refine wpAnyH_take (i := 5) (v := ?_) rfl (by kernel_rfl) (by kernel_rfl) (by kernel_rfl) (fun _ _ _ h => h) (Or.inl ⟨by kernel_rfl, ?_⟩) hHeld ?_
        rotate_left
        · intro wz hSw; obtain ⟨hS0, hS1⟩ := hSw; obtain ⟨p0_0, p0_1, p0_2, p0_3⟩ := hS0.c4; obtain ⟨p1_0, p1_1, p1_2, p1_3⟩ := hS1.c4; clear hS0 hS1; go_simp; all_goals (try with_reducible rfl)
        (try simp only [List.getElem_toArray]); (try simp only [List.getElem_cons_succ]); (try simp only [List.getElem_cons_zero]); (try simp only [Act.put]); (try simp only [List.setIfInBounds_toArray]); (try simp only [List.set_cons_succ]); (try simp only [List.set_cons_zero])
        refine wpAnyH_take (i := 6) (v := ?_) rfl (by kernel_rfl) (by kernel_rfl) (by kernel_rfl) (fun _ _ _ h => h) (Or.inl ⟨by kernel_rfl, ?_⟩) hHeld ?_
        rotate_left
        · intro wz hSw; obtain ⟨hS0, hS1⟩ := hSw; obtain ⟨p0_0, p0_1, p0_2, p0_3⟩ := hS0.c4; obtain ⟨p1_0, p1_1, p1_2, p1_3⟩ := hS1.c4; clear hS0 hS1; go_simp; all_goals (try with_reducible rfl)
        (try simp only [List.getElem_toArray]); (try simp only [List.getElem_cons_succ]); (try simp only [List.getElem_cons_zero]); (try simp only [Act.put]); (try simp only [List.setIfInBounds_toArray]); (try simp only [List.set_cons_succ]); (try simp only [List.set_cons_zero])
        refine wpAnyH_take (i := 7) (v := ?_) rfl (by kernel_rfl) (by kernel_rfl) (by kernel_rfl) (fun _ _ _ h => h) (Or.inl ⟨by kernel_rfl, ?_⟩) hHeld ?_
        rotate_left
        · intro wz hSw; obtain ⟨hS0, hS1⟩ := hSw; obtain ⟨p0_0, p0_1, p0_2, p0_3⟩ := hS0.c4; obtain ⟨p1_0, p1_1, p1_2, p1_3⟩ := hS1.c4; clear hS0 hS1; go_simp; all_goals (try with_reducible rfl)
        (try simp only [List.getElem_toArray]); (try simp only [List.getElem_cons_succ]); (try simp only [List.getElem_cons_zero]); (try simp only [Act.put]); (try simp only [List.setIfInBounds_toArray]); (try simp only [List.set_cons_succ]); (try simp only [List.set_cons_zero])
        obtain ⟨z0, z1, z2, z3⟩ := KA.out.c4
        obtain ⟨f0, f1, f2, f3⟩ := KA.out.f4
        have KA2 := hidU (KA.out.set4 (.int .i64 r1) (.int .i64 r2) (.int .i64 r3) (.int .i64 r4))
        have K0b := hidU (K0.out.other4 (show P ≠ A from HNEK0.out) (.int .i64 r1) (.int .i64 r2) (.int .i64 r3) (.int .i64 r4))
        have K1b := hidU (K1.out.other4 (show Q ≠ A from HNEK1.out) (.int .i64 r1) (.int .i64 r2) (.int .i64 r3) (.int .i64 r4))
        have HB2 := hidU (below_set4 HB.out HAw.out (.int .i64 r1) (.int .i64 r2) (.int .i64 r3) (.int .i64 r4))
        refine wpAnyH_ready (rs := [9]) (by kernel_rfl) (by simp) (AllReadyH.cons rfl (fun Kc hKc => ?_) AllReadyH.nil)
        go_simp
        refine hKc.out _ _ ⟨K0b.out, K1b.out⟩ (fun hHeld => ?_)
        clear hKc Kc
        (try simp only [List.getElem_toArray]); (try simp only [List.getElem_cons_succ]); (try simp only [List.getElem_cons_zero]); (try simp only [Act.put]); (try simp only [List.setIfInBounds_toArray]); (try simp only [List.set_cons_succ]); (try simp only [List.set_cons_zero])
        clear z0 f0 z1 f1 z2 f2 z3 f3
        refine wpAnyH_take (i := 10) (v := ?_) rfl (by kernel_rfl) (by kernel_rfl) (by kernel_rfl) (fun _ _ _ h => h) (Or.inl ⟨by kernel_rfl, ?_⟩) hHeld ?_
        rotate_left
        · intro wz hSw; obtain ⟨hS0, hS1⟩ := hSw; obtain ⟨p0_0, p0_1, p0_2, p0_3⟩ := hS0.c4; obtain ⟨p1_0, p1_1, p1_2, p1_3⟩ := hS1.c4; clear hS0 hS1; go_simp; all_goals (try with_reducible rfl)
        (try simp only [List.getElem_toArray]); (try simp only [List.getElem_cons_succ]); (try simp only [List.getElem_cons_zero]); (try simp only [Act.put]); (try simp only [List.setIfInBounds_toArray]); (try simp only [List.set_cons_succ]); (try simp only [List.set_cons_zero])
        refine wpAnyH_done (by kernel_rfl) ?_ _
        refine NoPanic.normal ?_
        go_wp2_with fail
        go_meet
        case rel => exact ⟨_, rfl, rfl, KA2.out, K0b.out, K1b.out, HB2.out⟩
    · go_simp
      obtain ⟨A, hA⟩ : ∃ A, A = wd.heap.size := ⟨_, rfl⟩
      obtain ⟨u10, hu⟩ : ∃ u, u = wd.alloc (.cells #[.int .i64 0, .int .i64 0, .int .i64 0, .int .i64 0] 29) := ⟨_, rfl⟩
      have hb : Below wd.heap.size wd u10 := by rw [hu]; exact b0_any _ _
      have KA : Hid (IsB u10 A #[.int .i64 0, .int .i64 0, .int .i64 0, .int .i64 0] 29) := by show IsB _ _ _ _; rw [hu, hA]; exact IsB.new _ _ _
      have HAw : Hid (w.heap.size ≤ A) := by show _ ≤ _; rw [hA]; exact HB.out.size
      have HNEK0 : Hid (P ≠ A) := by show _ ≠ _; have := K0.out.lt; rw [hA]; omega
      have HNEK1 : Hid (Q ≠ A) := by show _ ≠ _; have := K1.out.lt; rw [hA]; omega
      rw [← hu, ← hA]
      clear hu hA
      replace K0 := hidU (K0.out.below hb)
      replace K1 := hidU (K1.out.below hb)
      replace HB := hidU (HB.out.trans (hb.mono HB.out.size))
      clear hb
      refine hKc.out _ _ ⟨K0.out, K1.out⟩ (fun hHeld => ?_)
      clear hKc Kc
      (try simp only [List.getElem_toArray]); (try simp only [List.getElem_cons_succ]); (try simp only [List.getElem_cons_zero]); (try simp only [Act.put]); (try simp only [List.setIfInBounds_toArray]); (try simp only [List.set_cons_succ]); (try simp only [List.set_cons_zero])
      refine wpAnyH_ready (rs := [1]) (by kernel_rfl) (by simp) (AllReadyH.cons rfl (fun Kc hKc => ?_) AllReadyH.nil)
      go_simp
      refine (HT0.out _).mono ?_
      rintro e u11 ⟨rfl, hb⟩
      replace K0 := hidU (K0.out.below hb)
      replace K1 := hidU (K1.out.below hb)
      replace KA := hidU (KA.out.below hb)
      replace HB := hidU (HB.out.trans (hb.mono HB.out.size))
      clear hb
      go_wp2_with fail
      refine hKc.out _ _ ⟨K0.out, K1.out⟩ (fun hHeld => ?_)
      clear hKc Kc
      (try simp only [List.getElem_toArray]); (try simp only [List.getElem_cons_succ]); (try simp only [List.getElem_cons_zero]); (try simp only [Act.put]); (try simp only [List.setIfInBounds_toArray]); (try simp only [List.set_cons_succ]); (try simp only [List.set_cons_zero])
      refine wpAnyH_ready (rs := [3]) (by kernel_rfl) (by simp) (AllReadyH.cons rfl (fun Kc hKc => ?_) AllReadyH.nil)
      go_simp
      refine (HT1.out _).mono ?_
      rintro e u12 ⟨rfl, hb⟩
      replace K0 := hidU (K0.out.below hb)
      replace K1 := hidU (K1.out.below hb)
      replace KA := hidU (KA.out.below hb)
      replace HB := hidU (HB.out.trans (hb.mono HB.out.size))
      clear hb
      go_wp2_with fail
      refine hKc.out _ _ ⟨K0.out, K1.out⟩ (fun hHeld => ?_)
      clear hKc Kc
      (try simp only [List.getElem_toArray]); (try simp only [List.getElem_cons_succ]); (try simp only [List.getElem_cons_zero]); (try simp only [Act.put]); (try simp only [List.setIfInBounds_toArray]); (try simp only [List.set_cons_succ]); (try simp only [List.set_cons_zero])
      refine wpAnyH_ready (rs := [4]) (by kernel_rfl) (by simp) (AllReadyH.cons rfl (fun Kc hKc => ?_) AllReadyH.nil)
      go_simp
      refine (HS.out _).mono ?_
      rintro e u13 ⟨rfl, hb⟩
      replace K0 := hidU (K0.out.below hb)
      replace K1 := hidU (K1.out.below hb)
      replace KA := hidU (KA.out.below hb)
      replace HB := hidU (HB.out.trans (hb.mono HB.out.size))
      clear hb
      go_wp2_with fail
      refine hKc.out _ _ ⟨K0.out, K1.out⟩ (fun hHeld => ?_)
      clear hKc Kc
      (try simp only [List.getElem_toArray]); (try simp only [List.getElem_cons_succ]); (try simp only [List.getElem_cons_zero]); (try simp only [Act.put]); (try simp only [List.setIfInBounds_toArray]); (try simp only [List.set_cons_succ]); (try simp only [List.set_cons_zero])
      refine wpAnyH_take (i := 5) (v := ?_) rfl (by kernel_rfl) (by kernel_rfl) (by kernel_rfl) (fun _ _ _ h => h) (Or.inl ⟨by kernel_rfl, ?_⟩) hHeld ?_
      rotate_left
      · intro wz hSw; obtain ⟨hS0, hS1⟩ := hSw; obtain ⟨p0_0, p0_1, p0_2, p0_3⟩ := hS0.c4; obtain ⟨p1_0, p1_1, p1_2, p1_3⟩ := hS1.c4; clear hS0 hS1; go_simp; all_goals (try with_reducible rfl)
      (try simp only [List.getElem_toArray]); (try simp only [List.getElem_cons_succ]); (try simp only [List.getElem_cons_zero]); (try simp only [Act.put]); (try simp only [List.setIfInBounds_toArray]); (try simp only [List.set_cons_succ]); (try simp only [List.set_cons_zero])
      refine wpAnyH_take (i := 6) (v := ?_) rfl (by kernel_rfl) (by kernel_rfl) (by kernel_rfl) (fun _ _ _ h => h) (Or.inl ⟨by kernel_rfl, ?_⟩) hHeld ?_
      rotate_left
      · intro wz hSw; obtain ⟨hS0, hS1⟩ := hSw; obtain ⟨p0_0, p0_1, p0_2, p0_3⟩ := hS0.c4; obtain ⟨p1_0, p1_1, p1_2, p1_3⟩ := hS1.c4; clear hS0 hS1; go_simp; all_goals (try with_reducible rfl)
      (try simp only [List.getElem_toArray]); (try simp only [List.getElem_cons_succ]); (try simp only [List.getElem_cons_zero]); (try simp only [Act.put]); (try simp only [List.setIfInBounds_toArray]); (try simp only [List.set_cons_succ]); (try simp only [List.set_cons_zero])
      refine wpAnyH_take (i := 7) (v := ?_) rfl (by kernel_rfl) (by kernel_rfl) (by kernel_rfl) (fun _ _ _ h => h) (Or.inl ⟨by kernel_rfl, ?_⟩) hHeld ?_
      rotate_left
      · intro wz hSw; obtain ⟨hS0, hS1⟩ := hSw; obtain ⟨p0_0, p0_1, p0_2, p0_3⟩ := hS0.c4; obtain ⟨p1_0, p1_1, p1_2, p1_3⟩ := hS1.c4; clear hS0 hS1; go_simp; all_goals (try with_reducible rfl)
      (try simp only [List.getElem_toArray]); (try simp only [List.getElem_cons_succ]); (try simp only [List.getElem_cons_zero]); (try simp only [Act.put]); (try simp only [List.setIfInBounds_toArray]); (try simp only [List.set_cons_succ]); (try simp only [List.set_cons_zero])
      obtain ⟨z0, z1, z2, z3⟩ := KA.out.c4
      obtain ⟨f0, f1, f2, f3⟩ := KA.out.f4
      have KA2 := hidU (KA.out.set4 (.int .i64 r1) (.int .i64 r2) (.int .i64 r3) (.int .i64 r4))
      have K0b := hidU (K0.out.other4 (show P ≠ A from HNEK0.out) (.int .i64 r1) (.int .i64 r2) (.int .i64 r3) (.int .i64 r4))
      have K1b := hidU (K1.out.other4 (show Q ≠ A from HNEK1.out) (.int .i64 r1) (.int .i64 r2) (.int .i64 r3) (.int .i64 r4))
      have HB2 := hidU (below_set4 HB.out HAw.out (.int .i64 r1) (.int .i64 r2) (.int .i64 r3) (.int .i64 r4))
      refine wpAnyH_ready (rs := [9]) (by kernel_rfl) (by simp) (AllReadyH.cons rfl (fun Kc hKc => ?_) AllReadyH.nil)
      go_simp
      refine hKc.out _ _ ⟨K0b.out, K1b.out⟩ (fun hHeld => ?_)
      clear hKc Kc
      (try simp only [List.getElem_toArray]); (try simp only [List.getElem_cons_succ]); (try simp only [List.getElem_cons_zero]); (try simp only [Act.put]); (try simp only [List.setIfInBounds_toArray]); (try simp only [List.set_cons_succ]); (try simp only [List.set_cons_zero])
      clear z0 f0 z1 f1 z2 f2 z3 f3
      refine wpAnyH_take (i := 10) (v := ?_) rfl (by kernel_rfl) (by kernel_rfl) (by kernel_rfl) (fun _ _ _ h => h) (Or.inl ⟨by kernel_rfl, ?_⟩) hHeld ?_
      rotate_left
      · intro wz hSw; obtain ⟨hS0, hS1⟩ := hSw; obtain ⟨p0_0, p0_1, p0_2, p0_3⟩ := hS0.c4; obtain ⟨p1_0, p1_1, p1_2, p1_3⟩ := hS1.c4; clear hS0 hS1; go_simp; all_goals (try with_reducible rfl)
      (try simp only [List.getElem_toArray]); (try simp only [List.getElem_cons_succ]); (try simp only [List.getElem_cons_zero]); (try simp only [Act.put]); (try simp only [List.setIfInBounds_toArray]); (try simp only [List.set_cons_succ]); (try simp only [List.set_cons_zero])
      refine wpAnyH_done (by kernel_rfl) ?_ _
      refine NoPanic.normal ?_
      go_wp2_with fail
      go_meet
      case rel => exact ⟨_, rfl, rfl, KA2.out, K0b.out, K1b.out, HB2.out⟩
  case rest =>
    obtain ⟨T, rfl, rfl, KT, K0, K1, HB⟩ := hcut
    clear HS
    go_upto_region 2 with fail
    go_cut [7, 8] (fun s7 s8 wx => ∃ (U : Nat), s7 = .pointer (some ⟨U, 0, none⟩) ∧ s8 = .bool r5 ∧ Hid (IsB wx U #[.int .i64 r1, .int .i64 r2, .int .i64 r3, .int .i64 r4] 29) ∧ Hid (IsB wx T #[.int .i64 r1, .int .i64 r2, .int .i64 r3, .int .i64 r4] 29) ∧ Hid (IsB wx P #[.int .i64 a, .int .i64 b, .int .i64 c, .int .i64 d] 25) ∧ Hid (IsB wx Q #[.int .i64 a', .int .i64 b', .int .i64 c', .int .i64 d'] 25) ∧ Hid (Below w.heap.size w wx))
    case first =>
      have hb := (Below.refl wc.heap.size wc).drew
      replace KT := hidU (KT.out.below hb)
      replace K0 := hidU (K0.out.below hb)
      replace K1 := hidU (K1.out.below hb)
      replace HB := hidU (HB.out.trans (hb.mono HB.out.size))
      clear hb
      refine wp_region_noPanic ?_
      refine wp_region_held_drew (S := fun W => IsB W P #[.int .i64 a, .int .i64 b, .int .i64 c, .int .i64 d] 25 ∧ IsB W Q #[.int .i64 a', .int .i64 b', .int .i64 c', .int .i64 d'] 25) (by kernel_rfl) ⟨K0.out, K1.out⟩ (fun hHeld => ?_)
      obtain ⟨wd, hwd⟩ : ∃ u, u = wc.drew := ⟨_, rfl⟩
      rw [← hwd] at KT K0 K1 HB hHeld ⊢
      clear hwd
      refine wpAnyH_take (i := 0) (v := ?_) rfl (by kernel_rfl) (by kernel_rfl) (by kernel_rfl) (fun _ _ _ h => h) (Or.inl ⟨by kernel_rfl, ?_⟩) hHeld ?_
      rotate_left
      · intro wz hSw; obtain ⟨hS0, hS1⟩ := hSw; obtain ⟨p0_0, p0_1, p0_2, p0_3⟩ := hS0.c4; obtain ⟨p1_0, p1_1, p1_2, p1_3⟩ := hS1.c4; clear hS0 hS1; go_simp; all_goals (try with_reducible rfl)
      (try simp only [List.getElem_toArray]); (try simp only [List.getElem_cons_succ]); (try simp only [List.getElem_cons_zero]); (try simp only [Act.put]); (try simp only [List.setIfInBounds_toArray]); (try simp only [List.set_cons_succ]); (try simp only [List.set_cons_zero])
      refine wpAnyH_take (i := 2) (v := ?_) rfl (by kernel_rfl) (by kernel_rfl) (by kernel_rfl) (fun _ _ _ h => h) (Or.inl ⟨by kernel_rfl, ?_⟩) hHeld ?_
      rotate_left
      · intro wz hSw; obtain ⟨hS0, hS1⟩ := hSw; obtain ⟨p0_0, p0_1, p0_2, p0_3⟩ := hS0.c4; obtain ⟨p1_0, p1_1, p1_2, p1_3⟩ := hS1.c4; clear hS0 hS1; go_simp; all_goals (try with_reducible rfl)
      (try simp only [List.getElem_toArray]); (try simp only [List.getElem_cons_succ]); (try simp only [List.getElem_cons_zero]); (try simp only [Act.put]); (try simp only [List.setIfInBounds_toArray]); (try simp only [List.set_cons_succ]); (try simp only [List.set_cons_zero])
      refine wpAnyH_ready (rs := [1, 8]) (by kernel_rfl) (by simp) (AllReadyH.cons rfl (fun Kc hKc => ?_) (AllReadyH.cons rfl (fun Kc hKc => ?_) AllReadyH.nil))
      · go_simp
        refine (HT0.out _).mono ?_
        rintro e u1 ⟨rfl, hb⟩
        replace KT := hidU (KT.out.below hb)
        replace K0 := hidU (K0.out.below hb)
        replace K1 := hidU (K1.out.below hb)
        replace HB := hidU (HB.out.trans (hb.mono HB.out.size))
        clear hb
        go_wp2_with fail
        refine hKc.out _ _ ⟨K0.out, K1.out⟩ (fun hHeld => ?_)
        clear hKc Kc
        (try simp only [List.getElem_toArray]); (try simp only [List.getElem_cons_succ]); (try simp only [List.getElem_cons_zero]); (try simp only [Act.put]); (try simp only [List.setIfInBounds_toArray]); (try simp only [List.set_cons_succ]); (try simp only [List.set_cons_zero])
        refine wpAnyH_ready (rs := [3, 8]) (by kernel_rfl) (by simp) (AllReadyH.cons rfl (fun Kc hKc => ?_) (AllReadyH.cons rfl (fun Kc hKc => ?_) AllReadyH.nil))
        · go_simp
          refine (HT1.out _).mono ?_
          rintro e u2 ⟨rfl, hb⟩
          replace KT := hidU (KT.out.below hb)
          replace K0 := hidU (K0.out.below hb)
          replace K1 := hidU (K1.out.below hb)
          replace HB := hidU (HB.out.trans (hb.mono HB.out.size))
          clear hb
          go_wp2_with fail
          refine hKc.out _ _ ⟨K0.out, K1.out⟩ (fun hHeld => ?_)
          clear hKc Kc
          (try simp only [List.getElem_toArray]); (try simp only [List.getElem_cons_succ]); (try simp only [List.getElem_cons_zero]); (try simp only [Act.put]); (try simp only [List.setIfInBounds_toArray]); (try simp only [List.set_cons_succ]); (try simp only [List.set_cons_zero])
          refine wpAnyH_ready (rs := [4, 8]) (by kernel_rfl) (by simp) (AllReadyH.cons rfl (fun Kc hKc => ?_) (AllReadyH.cons rfl (fun Kc hKc => ?_) AllReadyH.nil))
          · go_simp
            refine (HI.out _).mono ?_
            rintro e u3 ⟨rfl, hb⟩
            replace KT := hidU (KT.out.below hb)
            replace K0 := hidU (K0.out.below hb)
            replace K1 := hidU (K1.out.below hb)
            replace HB := hidU (HB.out.trans (hb.mono HB.out.size))
            clear hb
            go_wp2_with fail
            refine hKc.out _ _ ⟨K0.out, K1.out⟩ (fun hHeld => ?_)
            clear hKc Kc
            (try simp only [List.getElem_toArray]); (try simp only [List.getElem_cons_succ]); (try simp only [List.getElem_cons_zero]); (try simp only [Act.put]); (try simp only [List.setIfInBounds_toArray]); (try simp only [List.set_cons_succ]); (try simp only [List.set_cons_zero])
            refine wpAnyH_take (i := 5) (v := ?_) rfl (by kernel_rfl) (by kernel_rfl) (by kernel_rfl) (fun _ _ _ h => h) (Or.inl ⟨by kernel_rfl, ?_⟩) hHeld ?_
            rotate_left
            · intro wz hSw; obtain ⟨hS0, hS1⟩ := hSw; obtain ⟨p0_0, p0_1, p0_2, p0_3⟩ := hS0.c4; obtain ⟨p1_0, p1_1, p1_2, p1_3⟩ := hS1.c4; clear hS0 hS1; go_simp; all_goals (try with_reducible rfl)
            (try simp only [List.getElem_toArray]); (try simp only [List.getElem_cons_succ]); (try simp only [List.getElem_cons_zero]); (try simp only [Act.put]); (try simp only [List.setIfInBounds_toArray]); (try simp only [List.set_cons_succ]); (try simp only [List.set_cons_zero])
            refine wpAnyH_take (i := 6) (v := ?_) rfl (by kernel_rfl) (by kernel_rfl) (by kernel_rfl) (fun _ _ _ h => h) (Or.inl ⟨by kernel_rfl, ?_⟩) hHeld ?_
            rotate_left
            · intro wz hSw; obtain ⟨hS0, hS1⟩ := hSw; obtain ⟨p0_0, p0_1, p0_2, p0_3⟩ := hS0.c4; obtain ⟨p1_0, p1_1, p1_2, p1_3⟩ := hS1.c4; clear hS0 hS1; go_simp; all_goals (try with_reducible rfl)
            (try simp only [List.getElem_toArray]); (try simp only [List.getElem_cons_succ]); (try simp only [List.getElem_cons_zero]); (try simp only [Act.put]); (try simp only [List.setIfInBounds_toArray]); (try simp only [List.set_cons_succ]); (try simp only [List.set_cons_zero])
            refine wpAnyH_take (i := 7) (v := ?_) rfl (by kernel_rfl) (by kernel_rfl) (by kernel_rfl) (fun _ _ _ h => h) (Or.inl ⟨by kernel_rfl, ?_⟩) hHeld ?_
            rotate_left
            · intro wz hSw; obtain ⟨hS0, hS1⟩ := hSw; obtain ⟨p0_0, p0_1, p0_2, p0_3⟩ := hS0.c4; obtain ⟨p1_0, p1_1, p1_2, p1_3⟩ := hS1.c4; clear hS0 hS1; go_simp; all_goals (try with_reducible rfl)
            (try simp only [List.getElem_toArray]); (try simp only [List.getElem_cons_succ]); (try simp only [List.getElem_cons_zero]); (try simp only [Act.put]); (try simp only [List.setIfInBounds_toArray]); (try simp only [List.set_cons_succ]); (try simp only [List.set_cons_zero])
            refine wpAnyH_ready (rs := [8]) (by kernel_rfl) (by simp) (AllReadyH.cons rfl (fun Kc hKc => ?_) AllReadyH.nil)
            go_simp
            obtain ⟨A, hA⟩ : ∃ A, A = u3.heap.size := ⟨_, rfl⟩
            obtain ⟨u4, hu⟩ : ∃ u, u = u3.alloc (.cells #[.int .i64 0, .int .i64 0, .int .i64 0, .int .i64 0] 29) := ⟨_, rfl⟩
            have hb : Below u3.heap.size u3 u4 := by rw [hu]; exact b0_any _ _
            have KA : Hid (IsB u4 A #[.int .i64 0, .int .i64 0, .int .i64 0, .int .i64 0] 29) := by show IsB _ _ _ _; rw [hu, hA]; exact IsB.new _ _ _
            have HAw : Hid (w.heap.size ≤ A) := by show _ ≤ _; rw [hA]; exact HB.out.size
            have HNEKT : Hid (T ≠ A) := by show _ ≠ _; have := KT.out.lt; rw [hA]; omega
            have HNEK0 : Hid (P ≠ A) := by show _ ≠ _; have := K0.out.lt; rw [hA]; omega
            have HNEK1 : Hid (Q ≠ A) := by show _ ≠ _; have := K1.out.lt; rw [hA]; omega
            rw [← hu, ← hA]
            clear hu hA
            replace KT := hidU (KT.out.below hb)
            replace K0 := hidU (K0.out.below hb)
            replace K1 := hidU (K1.out.below hb)
            replace HB := hidU (HB.out.trans (hb.mono HB.out.size))
            clear hb
            refine hKc.out _ _ ⟨K0.out, K1.out⟩ (fun hHeld => ?_)
            clear hKc Kc
            (try simp only [List.getElem_toArray]); (try simp only [List.getElem_cons_succ]); (try simp only [List.getElem_cons_zero]); (try simp only [Act.put]); (try simp only [List.setIfInBounds_toArray]); (try simp only [List.set_cons_succ]); (try simp only [List.set_cons_zero])
            obtain ⟨z0, z1, z2, z3⟩ := KA.out.c4
            obtain ⟨f0, f1, f2, f3⟩ := KA.out.f4
            have KA2 := hidU (KA.out.set4 (.int .i64 r1) (.int .i64 r2) (.int .i64 r3) (.int .i64 r4))
            have KTb := hidU (KT.out.other4 (show T ≠ A from HNEKT.out) (.int .i64 r1) (.int .i64 r2) (.int .i64 r3) (.int .i64 r4))
            have K0b := hidU (K0.out.other4 (show P ≠ A from HNEK0.out) (.int .i64 r1) (.int .i64 r2) (.int .i64 r3) (.int .i64 r4))
            have K1b := hidU (K1.out.other4 (show Q ≠ A from HNEK1.out) (.int .i64 r1) (.int .i64 r2) (.int .i64 r3) (.int .i64 r4))
            have HB2 := hidU (below_set4 HB.out HAw.out (.int .i64 r1) (.int .i64 r2) (.int .i64 r3) (.int .i64 r4))
            refine wpAnyH_ready (rs := [9]) (by kernel_rfl) (by simp) (AllReadyH.cons rfl (fun Kc hKc => ?_) AllReadyH.nil)
            go_simp
            refine hKc.out _ _ ⟨K0b.out, K1b.out⟩ (fun hHeld => ?_)
            clear hKc Kc
            (try simp only [List.getElem_toArray]); (try simp only [List.getElem_cons_succ]); (try simp only [List.getElem_cons_zero]); (try simp only [Act.put]); (try simp only [List.setIfInBounds_toArray]); (try simp only [List.set_cons_succ]); (try simp only [List.set_cons_zero])
            clear z0 f0 z1 f1 z2 f2 z3 f3
            refine wpAnyH_take (i := 10) (v := ?_) rfl (by kernel_rfl) (by kernel_rfl) (by kernel_rfl) (fun _ _ _ h => h) (Or.inl ⟨by kernel_rfl, ?_⟩) hHeld ?_
            rotate_left
            · intro wz hSw; obtain ⟨hS0, hS1⟩ := hSw; obtain ⟨p0_0, p0_1, p0_2, p0_3⟩ := hS0.c4; obtain ⟨p1_0, p1_1, p1_2, p1_3⟩ := hS1.c4; clear hS0 hS1; go_simp; all_goals (try with_reducible rfl)
            (try simp only [List.getElem_toArray]); (try simp only [List.getElem_cons_succ]); (try simp only [List.getElem_cons_zero]); (try simp only [Act.put]); (try simp only [List.setIfInBounds_toArray]); (try simp only [List.set_cons_succ]); (try simp only [List.set_cons_zero])
            refine wpAnyH_done (by kernel_rfl) ?_ _
            refine NoPanic.normal ?_
            go_wp2_with fail
            go_meet
            case rel => exact ⟨_, rfl, rfl, KA2.out, KTb.out, K0b.out, K1b.out, HB2.out⟩
          · go_simp
            obtain ⟨A, hA⟩ : ∃ A, A = u2.heap.size := ⟨_, rfl⟩
            obtain ⟨u5, hu⟩ : ∃ u, u = u2.alloc (.cells #[.int .i64 0, .int .i64 0, .int .i64 0, .int .i64 0] 29) := ⟨_, rfl⟩
            have hb : Below u2.heap.size u2 u5 := by rw [hu]; exact b0_any _ _
            have KA : Hid (IsB u5 A #[.int .i64 0, .int .i64 0, .int .i64 0, .int .i64 0] 29) := by show IsB _ _ _ _; rw [hu, hA]; exact IsB.new _ _ _
            have HAw : Hid (w.heap.size ≤ A) := by show _ ≤ _; rw [hA]; exact HB.out.size
            have HNEKT : Hid (T ≠ A) := by show _ ≠ _; have := KT.out.lt; rw [hA]; omega
            have HNEK0 : Hid (P ≠ A) := by show _ ≠ _; have := K0.out.lt; rw [hA]; omega
            have HNEK1 : Hid (Q ≠ A) := by show _ ≠ _; have := K1.out.lt; rw [hA]; omega
            rw [← hu, ← hA]
            clear hu hA
            replace KT := hidU (KT.out.below hb)
            replace K0 := hidU (K0.out.below hb)
            replace K1 := hidU (K1.out.below hb)
            replace HB := hidU (HB.out.trans (hb.mono HB.out.size))
            clear hb
            refine hKc.out _ _ ⟨K0.out, K1.out⟩ (fun hHeld => ?_)
            clear hKc Kc
            (try simp only [List.getElem_toArray]); (try simp only [List.getElem_cons_succ]); (try simp only [List.getElem_cons_zero]); (try simp only [Act.put]); (try simp only [List.setIfInBounds_toArray]); (try simp only [List.set_cons_succ]); (try simp only [List.set_cons_zero])
            refine wpAnyH_ready (rs := [4]) (by kernel_rfl) (by simp) (AllReadyH.cons rfl (fun Kc hKc => ?_) AllReadyH.nil)
            go_simp
            refine (HI.out _).mono ?_
            rintro e u6 ⟨rfl, hb⟩
            replace KT := hidU (KT.out.below hb)
            replace K0 := hidU (K0.out.below hb)
            replace K1 := hidU (K1.out.below hb)
            replace KA := hidU (KA.out.below hb)
            replace HB := hidU (HB.out.trans (hb.mono HB.out.size))
            clear hb
            go_wp2_with fail
            refine hKc.out _ _ ⟨K0.out, K1.out⟩ (fun hHeld => ?_)
            clear hKc Kc
            (try simp only [List.getElem_toArray]); (try simp only [List.getElem_cons_succ]); (try simp only [List.getElem_cons_zero]); (try simp only [Act.put]); (try simp only [List.setIfInBounds_toArray]); (try simp only [List.set_cons_succ]); (try simp only [List.set_cons_zero])
            refine wpAnyH_take (i := 5) (v := ?_) rfl (by kernel_rfl) (by kernel_rfl) (by kernel_rfl) (fun _ _ _ h => h) (Or.inl ⟨by kernel_rfl, ?_⟩) hHeld ?_
            rotate_left
            · intro wz hSw; obtain ⟨hS0, hS1⟩ := hSw; obtain ⟨p0_0, p0_1, p0_2, p0_3⟩ := hS0.c4; obtain ⟨p1_0, p1_1, p1_2, p1_3⟩ := hS1.c4; clear hS0 hS1; go_simp; all_goals (try with_reducible rfl)
            (try simp only [List.getElem_toArray]); (try simp only [List.getElem_cons_succ]); (try simp only [List.getElem_cons_zero]); (try simp only [Act.put]); (try simp only [List.setIfInBounds_toArray]); (try simp only [List.set_cons_succ]); (try simp only [List.set_cons_zero])
            refine wpAnyH_take (i := 6) (v := ?_) rfl (by kernel_rfl) (by kernel_rfl) (by kernel_rfl) (fun _ _ _ h => h) (Or.inl ⟨by kernel_rfl, ?_⟩) hHeld ?_
            rotate_left
            · intro wz hSw; obtain ⟨hS0, hS1⟩ := hSw; obtain ⟨p0_0, p0_1, p0_2, p0_3⟩ := hS0.c4; obtain ⟨p1_0, p1_1, p1_2, p1_3⟩ := hS1.c4; clear hS0 hS1; go_simp; all_goals (try with_reducible rfl)
            (try simp only [List.getElem_toArray]); (try simp only [List.getElem_cons_succ]); (try simp only [List.getElem_cons_zero]); (try simp only [Act.put]); (try simp only [List.setIfInBounds_toArray]); (try simp only [List.set_cons_succ]); (try simp only [List.set_cons_zero])
            refine wpAnyH_take (i := 7) (v := ?_) rfl (by kernel_rfl) (by kernel_rfl) (by kernel_rfl) (fun _ _ _ h => h) (Or.inl ⟨by kernel_rfl, ?_⟩) hHeld ?_
            rotate_left
            · intro wz hSw; obtain ⟨hS0, hS1⟩ := hSw; obtain ⟨p0_0, p0_1, p0_2, p0_3⟩ := hS0.c4; obtain ⟨p1_0, p1_1, p1_2, p1_3⟩ := hS1.c4; clear hS0 hS1; go_simp; all_goals (try with_reducible rfl)
            (try simp only [List.getElem_toArray]); (try simp only [List.getElem_cons_succ]); (try simp only [List.getElem_cons_zero]); (try simp only [Act.put]); (try simp only [List.setIfInBounds_toArray]); (try simp only [List.set_cons_succ]); (try simp only [List.set_cons_zero])
            obtain ⟨z0, z1, z2, z3⟩ := KA.out.c4
            obtain ⟨f0, f1, f2, f3⟩ := KA.out.f4
            have KA2 := hidU (KA.out.set4 (.int .i64 r1) (.int .i64 r2) (.int .i64 r3) (.int .i64 r4))
            have KTb := hidU (KT.out.other4 (show T ≠ A from HNEKT.out) (.int .i64 r1) (.int .i64 r2) (.int .i64 r3) (.int .i64 r4))
            have K0b := hidU (K0.out.other4 (show P ≠ A from HNEK0.out) (.int .i64 r1) (.int .i64 r2) (.int .i64 r3) (.int .i64 r4))
            have K1b := hidU (K1.out.other4 (show Q ≠ A from HNEK1.out) (.int .i64 r1) (.int .i64 r2) (.int .i64 r3) (.int .i64 r4))
            have HB2 := hidU (below_set4 HB.out HAw.out (.int .i64 r1) (.int .i64 r2) (.int .i64 r3) (.int .i64 r4))
            refine wpAnyH_ready (rs := [9]) (by kernel_rfl) (by simp) (AllReadyH.cons rfl (fun Kc hKc => ?_) AllReadyH.nil)
            go_simp
            refine hKc.out _ _ ⟨K0b.out, K1b.out⟩ (fun hHeld => ?_)
            clear hKc Kc
            (try simp only [List.getElem_toArray]); (try simp only [List.getElem_cons_succ]); (try simp only [List.getElem_cons_zero]); (try simp only [Act.put]); (try simp only [List.setIfInBounds_toArray]); (try simp only [List.set_cons_succ]); (try simp only [List.set_cons_zero])
            clear z0 f0 z1 f1 z2 f2 z3 f3
            refine wpAnyH_take (i := 10) (v := ?_) rfl (by kernel_rfl) (by kernel_rfl) (by kernel_rfl) (fun _ _ _ h => h) (Or.inl ⟨by kernel_rfl, ?_⟩) hHeld ?_
            rotate_left
            · intro wz hSw; obtain ⟨hS0, hS1⟩ := hSw; obtain ⟨p0_0, p0_1, p0_2, p0_3⟩ := hS0.c4; obtain ⟨p1_0, p1_1, p1_2, p1_3⟩ := hS1.c4; clear hS0 hS1; go_simp; all_goals (try with_reducible rfl)
            (try simp only [List.getElem_toArray]); (try simp only [List.getElem_cons_succ]); (try simp only [List.getElem_cons_zero]); (try simp only [Act.put]); (try simp only [List.setIfInBounds_toArray]); (try simp only [List.set_cons_succ]); (try simp only [List.set_cons_zero])
            refine wpAnyH_done (by kernel_rfl) ?_ _
            refine NoPanic.normal ?_
            go_wp2_with fail
            go_meet
            case rel => exact ⟨_, rfl, rfl, KA2.out, KTb.out, K0b.out, K1b.out, HB2.out⟩
        · go_simp
          obtain ⟨A, hA⟩ : ∃ A, A = u1.heap.size := ⟨_, rfl⟩
          obtain ⟨u7, hu⟩ : ∃ u, u = u1.alloc (.cells #[.int .i64 0, .int .i64 0, .int .i64 0, .int .i64 0] 29) := ⟨_, rfl⟩
          have hb : Below u1.heap.size u1 u7 := by rw [hu]; exact b0_any _ _
          have KA : Hid (IsB u7 A #[.int .i64 0, .int .i64 0, .int .i64 0, .int .i64 0] 29) := by show IsB _ _ _ _; rw [hu, hA]; exact IsB.new _ _ _
          have HAw : Hid (w.heap.size ≤ A) := by show _ ≤ _; rw [hA]; exact HB.out.size
          have HNEKT : Hid (T ≠ A) := by show _ ≠ _; have := KT.out.lt; rw [hA]; omega
          have HNEK0 : Hid (P ≠ A) := by show _ ≠ _; have := K0.out.lt; rw [hA]; omega
          have HNEK1 : Hid (Q ≠ A) := by show _ ≠ _; have := K1.out.lt; rw [hA]; omega
          rw [← hu, ← hA]
          clear hu hA
          replace KT := hidU (KT.out.below hb)
          replace K0 := hidU (K0.out.below hb)
          replace K1 := hidU (K1.out.below hb)
          replace HB := hidU (HB.out.trans (hb.mono HB.out.size))
          clear hb
          refine hKc.out _ _ ⟨K0.out, K1.out⟩ (fun hHeld => ?_)
          clear hKc Kc
          (try simp only [List.getElem_toArray]); (try simp only [List.getElem_cons_succ]); (try simp only [List.getElem_cons_zero]); (try simp only [Act.put]); (try simp only [List.setIfInBounds_toArray]); (try simp only [List.set_cons_succ]); (try simp only [List.set_cons_zero])
          refine wpAnyH_ready (rs := [3]) (by kernel_rfl) (by simp) (AllReadyH.cons rfl (fun Kc hKc => ?_) AllReadyH.nil)
          go_simp
          refine (HT1.out _).mono ?_
          rintro e u8 ⟨rfl, hb⟩
          replace KT := hidU (KT.out.below hb)
          replace K0 := hidU (K0.out.below hb)
          replace K1 := hidU (K1.out.below hb)
          replace KA := hidU (KA.out.below hb)
          replace HB := hidU (HB.out.trans (hb.mono HB.out.size))
          clear hb
          go_wp2_with fail
          refine hKc.out _ _ ⟨K0.out, K1.out⟩ (fun hHeld => ?_)
          clear hKc Kc
          (try simp only [List.getElem_toArray]); (try simp only [List.getElem_cons_succ]); (try simp only [List.getElem_cons_zero]); (try simp only [Act.put]); (try simp only [List.setIfInBounds_toArray]); (try simp only [List.set_cons_succ]); (try simp only [List.set_cons_zero])
          refine wpAnyH_ready (rs := [4]) (by kernel_rfl) (by simp) (AllReadyH.cons rfl (fun Kc hKc => ?_) AllReadyH.nil)
          go_simp
          refine (HI.out _).mono ?_
          rintro e u9 ⟨rfl, hb⟩
          replace KT := hidU (KT.out.below hb)
          replace K0 := hidU (K0.out.below hb)
          replace K1 := hidU (K1.out.below hb)
          replace KA := hidU (KA.out.below hb)
          replace HB := hidU (HB.out.trans (hb.mono HB.out.size))
          clear hb
          go_wp2_with fail
          refine hKc.out _ _ ⟨K0.out, K1.out⟩ (fun hHeld => ?_)
          clear hKc Kc
          (try simp only [List.getElem_toArray]); (try simp only [List.getElem_cons_succ]); (try simp only [List.getElem_cons_zero]); (try simp only [Act.put]); (try simp only [List.setIfInBounds_toArray]); (try simp only [List.set_cons_succ]); (try simp only [List.set_cons_zero])
          refine wpAnyH_take (i := 5) (v := ?_) rfl (by kernel_rfl) (by kernel_rfl) (by kernel_rfl) (fun _ _ _ h => h) (Or.inl ⟨by kernel_rfl, ?_⟩) hHeld ?_
          rotate_left
          · intro wz hSw; obtain ⟨hS0, hS1⟩ := hSw; obtain ⟨p0_0, p0_1, p0_2, p0_3⟩ := hS0.c4; obtain ⟨p1_0, p1_1, p1_2, p1_3⟩ := hS1.c4; clear hS0 hS1; go_simp; all_goals (try with_reducible rfl)
          (try simp only [List.getElem_toArray]); (try simp only [List.getElem_cons_succ]); (try simp only [List.getElem_cons_zero]); (try simp only [Act.put]); (try simp only [List.setIfInBounds_toArray]); (try simp only [List.set_cons_succ]); (try simp only [List.set_cons_zero])
          refine wpAnyH_take (i := 6) (v := ?_) rfl (by kernel_rfl) (by kernel_rfl) (by kernel_rfl) (fun _ _ _ h => h) (Or.inl ⟨by kernel_rfl, ?_⟩) hHeld ?_
          rotate_left
          · intro wz hSw; obtain ⟨hS0, hS1⟩ := hSw; obtain ⟨p0_0, p0_1, p0_2, p0_3⟩ := hS0.c4; obtain ⟨p1_0, p1_1, p1_2, p1_3⟩ := hS1.c4; clear hS0 hS1; go_simp; all_goals (try with_reducible rfl)
          (try simp only [List.getElem_toArray]); (try simp only [List.getElem_cons_succ]); (try simp only [List.getElem_cons_zero]); (try simp only [Act.put]); (try simp only [List.setIfInBounds_toArray]); (try simp only [List.set_cons_succ]); (try simp only [List.set_cons_zero])
          refine wpAnyH_take (i := 7) (v := ?_) rfl (by kernel_rfl) (by kernel_rfl) (by kernel_rfl) (fun _ _ _ h => h) (Or.inl ⟨by kernel_rfl, ?_⟩) hHeld ?_
          rotate_left
          · intro wz hSw; obtain ⟨hS0, hS1⟩ := hSw; obtain ⟨p0_0, p0_1, p0_2, p0_3⟩ := hS0.c4; obtain ⟨p1_0, p1_1, p1_2, p1_3⟩ := hS1.c4; clear hS0 hS1; go_simp; all_goals (try with_reducible rfl)
          (try simp only [List.getElem_toArray]); (try simp only [List.getElem_cons_succ]); (try simp only [List.getElem_cons_zero]); (try simp only [Act.put]); (try simp only [List.setIfInBounds_toArray]); (try simp only [List.set_cons_succ]); (try simp only [List.set_cons_zero])
          obtain ⟨z0, z1, z2, z3⟩ := KA.out.c4
          obtain ⟨f0, f1, f2, f3⟩ := KA.out.f4
          have KA2 := hidU (KA.out.set4 (.int .i64 r1) (.int .i64 r2) (.int .i64 r3) (.int .i64 r4))
          have KTb := hidU (KT.out.other4 (show T ≠ A from HNEKT.out) (.int .i64 r1) (.int .i64 r2) (.int .i64 r3) (.int .i64 r4))
          have K0b := hidU (K0.out.other4 (show P ≠ A from HNEK0.out) (.int .i64 r1) (.int .i64 r2) (.int .i64 r3) (.int .i64 r4))
          have K1b := hidU (K1.out.other4 (show Q ≠ A from HNEK1.out) (.int .i64 r1) (.int .i64 r2) (.int .i64 r3) (.int .i64 r4))
          have HB2 := hidU (below_set4 HB.out HAw.out (.int .i64 r1) (.int .i64 r2) (.int .i64 r3) (.int .i64 r4))
          refine wpAnyH_ready (rs := [9]) (by kernel_rfl) (by simp) (AllReadyH.cons rfl (fun Kc hKc => ?_) AllReadyH.nil)
          go_simp
          refine hKc.out _ _ ⟨K0b.out, K1b.out⟩ (fun hHeld => ?_)
          clear hKc Kc
          (try simp only [List.getElem_toArray]); (try simp only [List.getElem_cons_succ]); (try simp only [List.getElem_cons_zero]); (try simp only [Act.put]); (try simp only [List.setIfInBounds_toArray]); (try simp only [List.set_cons_succ]); (try simp only [List.set_cons_zero])
          clear z0 f0 z1 f1 z2 f2 z3 f3
          refine wpAnyH_take (i := 10) (v := ?_) rfl (by kernel_rfl) (by kernel_rfl) (by kernel_rfl) (fun _ _ _ h => h) (Or.inl ⟨by kernel_rfl, ?_⟩) hHeld ?_
          rotate_left
          · intro wz hSw; obtain ⟨hS0, hS1⟩ := hSw; obtain ⟨p0_0, p0_1, p0_2, p0_3⟩ := hS0.c4; obtain ⟨p1_0, p1_1, p1_2, p1_3⟩ := hS1.c4; clear hS0 hS1; go_simp; all_goals (try with_reducible rfl)
          (try simp only [List.getElem_toArray]); (try simp only [List.getElem_cons_succ]); (try simp only [List.getElem_cons_zero]); (try simp only [Act.put]); (try simp only [List.setIfInBounds_toArray]); (try simp only [List.set_cons_succ]); (try simp only [List.set_cons_zero])
          refine wpAnyH_done (by kernel_rfl) ?_ _
          refine NoPanic.normal ?_
          go_wp2_with fail
          go_meet
          case rel => exact ⟨_, rfl, rfl, KA2.out, KTb.out, K0b.out, K1b.out, HB2.out⟩
      · go_simp
        obtain ⟨A, hA⟩ : ∃ A, A = wd.heap.size := ⟨_, rfl⟩
        obtain ⟨u10, hu⟩ : ∃ u, u = wd.alloc (.cells #[.int .i64 0, .int .i64 0, .int .i64 0, .int .i64 0] 29) := ⟨_, rfl⟩
        have hb : Below wd.heap.size wd u10 := by rw [hu]; exact b0_any _ _
        have KA : Hid (IsB u10 A #[.int .i64 0, .int .i64 0, .int .i64 0, .int .i64 0] 29) := by show IsB _ _ _ _; rw [hu, hA]; exact IsB.new _ _ _
        have HAw : Hid (w.heap.size ≤ A) := by show _ ≤ _; rw [hA]; exact HB.out.size
        have HNEKT : Hid (T ≠ A) := by show _ ≠ _; have := KT.out.lt; rw [hA]; omega
        have HNEK0 : Hid (P ≠ A) := by show _ ≠ _; have := K0.out.lt; rw [hA]; omega
        have HNEK1 : Hid (Q ≠ A) := by show _ ≠ _; have := K1.out.lt; rw [hA]; omega
        rw [← hu, ← hA]
        clear hu hA
        replace KT := hidU (KT.out.below hb)
        replace K0 := hidU (K0.out.below hb)
        replace K1 := hidU (K1.out.below hb)
        replace HB := hidU (HB.out.trans (hb.mono HB.out.size))
        clear hb
        refine hKc.out _ _ ⟨K0.out, K1.out⟩ (fun hHeld => ?_)
        clear hKc Kc
        (try simp only [List.getElem_toArray]); (try simp only [List.getElem_cons_succ]); (try simp only [List.getElem_cons_zero]); (try simp only [Act.put]); (try simp only [List.setIfInBounds_toArray]); (try simp only [List.set_cons_succ]); (try simp only [List.set_cons_zero])
        refine wpAnyH_ready (rs := [1]) (by kernel_rfl) (by simp) (AllReadyH.cons rfl (fun Kc hKc => ?_) AllReadyH.nil)
        go_simp
        refine (HT0.out _).mono ?_
        rintro e u11 ⟨rfl, hb⟩
        replace KT := hidU (KT.out.below hb)
        replace K0 := hidU (K0.out.below hb)
        replace K1 := hidU (K1.out.below hb)
        replace KA := hidU (KA.out.below hb)
        replace HB := hidU (HB.out.trans (hb.mono HB.out.size))
        clear hb
        go_wp2_with fail
        refine hKc.out _ _ ⟨K0.out, K1.out⟩ (fun hHeld => ?_)
        clear hKc Kc
        (try simp only [List.getElem_toArray]); (try simp only [List.getElem_cons_succ]); (try simp only [List.getElem_cons_zero]); (try simp only [Act.put]); (try simp only [List.setIfInBounds_toArray]); (try simp only [List.set_cons_succ]); (try simp only [List.set_cons_zero])
        refine wpAnyH_ready (rs := [3]) (by kernel_rfl) (by simp) (AllReadyH.cons rfl (fun Kc hKc => ?_) AllReadyH.nil)
        go_simp
        refine (HT1.out _).mono ?_
        rintro e u12 ⟨rfl, hb⟩
        replace KT := hidU (KT.out.below hb)
        replace K0 := hidU (K0.out.below hb)
        replace K1 := hidU (K1.out.below hb)
        replace KA := hidU (KA.out.below hb)
        replace HB := hidU (HB.out.trans (hb.mono HB.out.size))
        clear hb
        go_wp2_with fail
        refine hKc.out _ _ ⟨K0.out, K1.out⟩ (fun hHeld => ?_)
        clear hKc Kc
        (try simp only [List.getElem_toArray]); (try simp only [List.getElem_cons_succ]); (try simp only [List.getElem_cons_zero]); (try simp only [Act.put]); (try simp only [List.setIfInBounds_toArray]); (try simp only [List.set_cons_succ]); (try simp only [List.set_cons_zero])
        refine wpAnyH_ready (rs := [4]) (by kernel_rfl) (by simp) (AllReadyH.cons rfl (fun Kc hKc => ?_) AllReadyH.nil)
        go_simp
        refine (HI.out _).mono ?_
        rintro e u13 ⟨rfl, hb⟩
        replace KT := hidU (KT.out.below hb)
        replace K0 := hidU (K0.out.below hb)
        replace K1 := hidU (K1.out.below hb)
        replace KA := hidU (KA.out.below hb)
        replace HB := hidU (HB.out.trans (hb.mono HB.out.size))
        clear hb
        go_wp2_with fail
        refine hKc.out _ _ ⟨K0.out, K1.out⟩ (fun hHeld => ?_)
        clear hKc Kc
        (try simp only [List.getElem_toArray]); (try simp only [List.getElem_cons_succ]); (try simp only [List.getElem_cons_zero]); (try simp only [Act.put]); (try simp only [List.setIfInBounds_toArray]); (try simp only [List.set_cons_succ]); (try simp only [List.set_cons_zero])
        refine wpAnyH_take (i := 5) (v := ?_) rfl (by kernel_rfl) (by kernel_rfl) (by kernel_rfl) (fun _ _ _ h => h) (Or.inl ⟨by kernel_rfl, ?_⟩) hHeld ?_
        rotate_left
        · intro wz hSw; obtain ⟨hS0, hS1⟩ := hSw; obtain ⟨p0_0, p0_1, p0_2, p0_3⟩ := hS0.c4; obtain ⟨p1_0, p1_1, p1_2, p1_3⟩ := hS1.c4; clear hS0 hS1; go_simp; all_goals (try with_reducible rfl)
        (try simp only [List.getElem_toArray]); (try simp only [List.getElem_cons_succ]); (try simp only [List.getElem_cons_zero]); (try simp only [Act.put]); (try simp only [List.setIfInBounds_toArray]); (try simp only [List.set_cons_succ]); (try simp only [List.set_cons_zero])
        refine wpAnyH_take (i := 6) (v := ?_) rfl (by kernel_rfl) (by kernel_rfl) (by kernel_rfl) (fun _ _ _ h => h) (Or.inl ⟨by kernel_rfl, ?_⟩) hHeld ?_
        rotate_left
        · intro wz hSw; obtain ⟨hS0, hS1⟩ := hSw; obtain ⟨p0_0, p0_1, p0_2, p0_3⟩ := hS0.c4; obtain ⟨p1_0, p1_1, p1_2, p1_3⟩ := hS1.c4; clear hS0 hS1; go_simp; all_goals (try with_reducible rfl)
        (try simp only [List.getElem_toArray]); (try simp only [List.getElem_cons_succ]); (try simp only [List.getElem_cons_zero]); (try simp only [Act.put]); (try simp only [List.setIfInBounds_toArray]); (try simp only [List.set_cons_succ]); (try simp only [List.set_cons_zero])
        refine wpAnyH_take (i := 7) (v := ?_) rfl (by kernel_rfl) (by kernel_rfl) (by kernel_rfl) (fun _ _ _ h => h) (Or.inl ⟨by kernel_rfl, ?_⟩) hHeld ?_
        rotate_left
        · intro wz hSw; obtain ⟨hS0, hS1⟩ := hSw; obtain ⟨p0_0, p0_1, p0_2, p0_3⟩ := hS0.c4; obtain ⟨p1_0, p1_1, p1_2, p1_3⟩ := hS1.c4; clear hS0 hS1; go_simp; all_goals (try with_reducible rfl)
        (try simp only [List.getElem_toArray]); (try simp only [List.getElem_cons_succ]); (try simp only [List.getElem_cons_zero]); (try simp only [Act.put]); (try simp only [List.setIfInBounds_toArray]); (try simp only [List.set_cons_succ]); (try simp only [List.set_cons_zero])
        obtain ⟨z0, z1, z2, z3⟩ := KA.out.c4
        obtain ⟨f0, f1, f2, f3⟩ := KA.out.f4
        have KA2 := hidU (KA.out.set4 (.int .i64 r1) (.int .i64 r2) (.int .i64 r3) (.int .i64 r4))
        have KTb := hidU (KT.out.other4 (show T ≠ A from HNEKT.out) (.int .i64 r1) (.int .i64 r2) (.int .i64 r3) (.int .i64 r4))
        have K0b := hidU (K0.out.other4 (show P ≠ A from HNEK0.out) (.int .i64 r1) (.int .i64 r2) (.int .i64 r3) (.int .i64 r4))
        have K1b := hidU (K1.out.other4 (show Q ≠ A from HNEK1.out) (.int .i64 r1) (.int .i64 r2) (.int .i64 r3) (.int .i64 r4))
        have HB2 := hidU (below_set4 HB.out HAw.out (.int .i64 r1) (.int .i64 r2) (.int .i64 r3) (.int .i64 r4))
        refine wpAnyH_ready (rs := [9]) (by kernel_rfl) (by simp) (AllReadyH.cons rfl (fun Kc hKc => ?_) AllReadyH.nil)
        go_simp
        refine hKc.out _ _ ⟨K0b.out, K1b.out⟩ (fun hHeld => ?_)
        clear hKc Kc
        (try simp only [List.getElem_toArray]); (try simp only [List.getElem_cons_succ]); (try simp only [List.getElem_cons_zero]); (try simp only [Act.put]); (try simp only [List.setIfInBounds_toArray]); (try simp only [List.set_cons_succ]); (try simp only [List.set_cons_zero])
        clear z0 f0 z1 f1 z2 f2 z3 f3
        refine wpAnyH_take (i := 10) (v := ?_) rfl (by kernel_rfl) (by kernel_rfl) (by kernel_rfl) (fun _ _ _ h => h) (Or.inl ⟨by kernel_rfl, ?_⟩) hHeld ?_
        rotate_left
        · intro wz hSw; obtain ⟨hS0, hS1⟩ := hSw; obtain ⟨p0_0, p0_1, p0_2, p0_3⟩ := hS0.c4; obtain ⟨p1_0, p1_1, p1_2, p1_3⟩ := hS1.c4; clear hS0 hS1; go_simp; all_goals (try with_reducible rfl)
        (try simp only [List.getElem_toArray]); (try simp only [List.getElem_cons_succ]); (try simp only [List.getElem_cons_zero]); (try simp only [Act.put]); (try simp only [List.setIfInBounds_toArray]); (try simp only [List.set_cons_succ]); (try simp only [List.set_cons_zero])
        refine wpAnyH_done (by kernel_rfl) ?_ _
        refine NoPanic.normal ?_
        go_wp2_with fail
        go_meet
        case rel => exact ⟨_, rfl, rfl, KA2.out, KTb.out, K0b.out, K1b.out, HB2.out⟩
    case rest =>
      obtain ⟨U, rfl, rfl, KU, KT, K0, K1, HB⟩ := hcut
      clear K0 K1 HT0 HT1 HI
      obtain ⟨z0, z1, z2, z3⟩ := KU.out.c4
      obtain ⟨y0, y1, y2, y3⟩ := KT.out.c4
      go_wp2_with fail
      refine (HE.out _).mono ?_
      rintro e v9 ⟨rfl, hb⟩
      replace HB := hidU (HB.out.trans (hb.mono HB.out.size))
      clear hb z0 z1 z2 z3 y0 y1 y2 y3
      go_wp2
      go_ret
      exact ⟨rfl, HB.out⟩
end Go.Proofs.Ytjpjnpdmkfgjgaa
