/- The walk of the model's own search between two fractions. -/
import Derived.Test.YtmlnabgmibhfhabBetwW1
import Derived.Test.YtmlnabgmibhfhabFloorW
import Derived.Test.YtmlnabgmibhfhabNearMath
namespace Go.Proofs.Ytmlnabgmibhfhab
open Go.RowKit Go.Proofs.Ytmlnabgmibhfhab.RM

theorem guard_is {W c d : Int} (hd : 1 ≤ d) (h : W + 1 < c.tdiv d) : (W + 1) * d < c := by
  have h1 := Int.emod_add_mul_ediv c d
  have h2 := Int.emod_nonneg c (show d ≠ 0 by omega)
  rw [tdiv_form c d (by omega)] at h
  rw [Int.mul_comm d] at h1
  by_cases g : 0 ≤ c ∨ c % d = 0
  · rw [if_pos g] at h
    have h3 : (W + 1) * d < (c / d) * d := Int.mul_lt_mul_of_pos_right h (by omega)
    omega
  · rw [if_neg g] at h
    have h3 : (W + 1) * d ≤ (c / d) * d := Int.mul_le_mul_of_nonneg_right (by omega) (by omega)
    have : c % d ≠ 0 := fun e => g (.inr e)
    omega
theorem gcdi_less (w c d : Int) : gcdi d (c - w * d) = gcdi c d := by
  unfold gcdi
  rw [Int.gcd_comm c d]
  simp

set_option maxRecDepth 100000 in
set_option maxHeartbeats 2000000 in
theorem sBetw2_any : ∀ (k : Nat) (a b c d x y : Int), okB a b = true → okB c d = true → a * d < c * b → b + d ≤ k → Best a b c d x y → ∀ w : World,
    Calls Try.prog 22 #[.agg #[.int .i64 a, .int .i64 b], .agg #[.int .i64 c, .int .i64 d]] w fun e w' => e = .returned (.agg #[.int .i64 x, .int .i64 y]) ∧ Below w.heap.size w w'
  | 0, a, b, c, d, x, y, h1, h2, hl, hk, hB, w => by have := okB_out h1; have := okB_out h2; omega
  | k + 1, a, b, c, d, x, y, o1, o2, hl, hk, hB, w => by
    obtain ⟨b1, b9, a8, a9, ag⟩ := okB_out o1
    obtain ⟨d1, d9, c8, c9, cg⟩ := okB_out o2
    have h : Dom a b c d := ⟨b1, by omega, hl⟩
    have hf := flo_ok o1
    obtain ⟨W8, W9⟩ := flo_bd o1
    obtain ⟨W, hW⟩ : ∃ W, W = a / b := ⟨_, rfl⟩
    have hWr : a / b = W := hW.symm
    rw [hf, hWr] at W8 W9
    have hdz : ¬ d = 0 := by omega
    obtain ⟨T, hT⟩ : ∃ T, T = c.tdiv d := ⟨_, rfl⟩
    obtain ⟨T8, T9⟩ := tdiv_bd c d 1000000000 c8 c9
    rw [← hT] at T8 T9
    have hTr : c.tdiv d = T := hT.symm
    obtain ⟨p1, p2⟩ := mul_bd W d W8 W9 (by omega) d9
    have p3 : (W + 1) * d = W * d + d := by rw [Int.add_mul, Int.one_mul]
    have p4 : -1000000001000000000 ≤ (W + 1) * d := by omega
    have p5 : (W + 1) * d ≤ 1000000001000000000 := by omega
    have HF : Hid (∀ u : World, Calls Try.prog 9 #[.agg #[.int .i64 a, .int .i64 b]] u fun e w' => e = .returned (.int .i64 W) ∧ Below u.heap.size u w') := by
      intro u; have := sFloor_any a b u; rw [hf, hWr] at this; exact this
    by_cases hn : (W + 1) * d < c
    · obtain ⟨rfl, rfl⟩ := hB.first h (by rw [hWr]; exact hn)
      have hdec : decide ((W + 1) * d < c) = true := decide_eq_true hn
      rw [hWr]
      clear hB hW h hf o1 o2 hl hT p3 ag cg hWr
      by_cases hg : W + 1 < T
      all_goals
        go_enter Try.func22, Try.ntmps22
        go_wp2_with fail
        refine (HF.out _).mono ?_
        rintro e w1 ⟨rfl, hb⟩
        obtain ⟨R, hR⟩ : ∃ R, R = w.heap.size + 1 + 1 := ⟨_, rfl⟩
        have hwR : w.heap.size ≤ R := by omega
        have B1 : Below w.heap.size w w1 := (below_alR _ (below_alR _ (below_alR _ (Below.refl _ _)))).trans (hb.mono (by simp; omega))
        have r1 : IsR w1 (w.heap.size + 1) c d := by simpa using ((IsR.new (w.alloc (.cells #[.int .i64 a, .int .i64 b] 25)) c d).below (below_alR (.cells #[.int .i64 0, .int .i64 0] 25) (Below.refl _ _))).below hb
        have r2 : IsR w1 R 0 0 := by
          rw [hR]
          simpa using (IsR.new ((w.alloc (.cells #[.int .i64 a, .int .i64 b] 25)).alloc (.cells #[.int .i64 c, .int .i64 d] 25)) 0 0).below hb
        have q0 := r1.c0
        have q1 := r1.c1
        have k0 := r2.c0
        have k1 := r2.c1
        have k2 := r2.f0
        have k3 := r2.f1
        rw [← hR]
        clear hb hR
        go_wp2
        exact bodyPost_ret (v := .agg #[.int .i64 (W + 1), .int .i64 1]) (by simp [results, Try.results22, go_sem, k0, k1]) rfl ⟨rfl, (B1.setCell (p := ⟨R, 0, none⟩) hwR _).setCell (p := ⟨R, 1, none⟩) hwR _⟩
    · have hn' : ¬ (a / b + 1) * d < c := by rw [hWr]; exact hn
      have hg : ¬ W + 1 < T := fun g => hn (guard_is d1 (by rw [hTr]; exact g))
      obtain ⟨hd, _, n1, n2, n3⟩ := h.next hn'
      obtain ⟨x', y', hB', ex, ey⟩ := hB.step h hn'
      obtain ⟨s1, s2, s3⟩ := hB.size h
      have y1 := hB.y1
      have y1' := hB'.y1
      rw [hWr] at hd n1 n2 n3 hB' ex s2 s3
      have e1 := hd.b1
      subst ey
      have ex' : y' = x - W * y := by omega
      have i0 : W * b ≤ a := by omega
      obtain ⟨p6, p7⟩ := mul_bd W b W8 W9 (by omega) b9
      have hdec : decide ((W + 1) * d < c) = false := decide_eq_false hn
      have j2 : y' ≤ 2000000000 := by omega
      have m12 : -2000000000000000000 ≤ W * y ∧ W * y ≤ 2000000000000000000 := by
        by_cases hs : 0 ≤ W
        · have := mul_in hs W9 (show 0 ≤ y by omega) (show y ≤ 2000000000 by omega); omega
        · have := mul_in (show 0 ≤ -W by omega) (show -W ≤ 1000000000 by omega) (show 0 ≤ y by omega) (show y ≤ 2000000000 by omega)
          rw [Int.neg_mul] at this; omega
      obtain ⟨m1, m2⟩ := m12
      subst ex
      obtain ⟨M, hM⟩ : ∃ M, M = a - W * b := ⟨_, rfl⟩
      obtain ⟨E, hE⟩ : ∃ E, E = c - W * d := ⟨_, rfl⟩
      have hMr : a - W * b = M := hM.symm
      have hEr : c - W * d = E := hE.symm
      rw [hMr, hEr] at hd hB'
      rw [hMr] at n2 n3 s3
      rw [hEr] at n1 e1 s3
      by_cases hz : M = 0
      · obtain ⟨f1, f2⟩ := hB'.first hd (by rw [hz]; omega)
        subst f2
        obtain ⟨V, hV⟩ : ∃ V, V = d / E := ⟨_, rfl⟩
        have hVr : d / E = V := hV.symm
        rw [hVr] at f1
        have V0 : 0 ≤ V := by rw [hV]; exact Int.ediv_nonneg (by omega) (by omega)
        have V9 : V ≤ 1000000000 := by rw [hV]; have := Int.ediv_le_self E (show 0 ≤ d by omega); omega
        have hEz : ¬ E = 0 := by omega
        subst f1
        have d0 : 0 ≤ d := by omega
        clear hB' hd hB hW h hf o1 o2 hl hT p3 ag cg hWr hM hE hV hn' ex' s1 s2 s3 y1 y1'
        subst hz
        go_enter Try.func22, Try.ntmps22
        go_wp2_with fail
        refine (HF.out _).mono ?_
        rintro e w1 ⟨rfl, hb⟩
        obtain ⟨R, hR⟩ : ∃ R, R = w.heap.size + 1 + 1 := ⟨_, rfl⟩
        have hwR : w.heap.size ≤ R := by omega
        have B1 : Below w.heap.size w w1 := (below_alR _ (below_alR _ (below_alR _ (Below.refl _ _)))).trans (hb.mono (by simp; omega))
        have r0 : IsR w1 w.heap.size a b := ((IsR.new w a b).below (below_alR (.cells #[.int .i64 0, .int .i64 0] 25) (below_alR (.cells #[.int .i64 c, .int .i64 d] 25) (Below.refl _ _)))).below hb
        have r1 : IsR w1 (w.heap.size + 1) c d := by simpa using ((IsR.new (w.alloc (.cells #[.int .i64 a, .int .i64 b] 25)) c d).below (below_alR (.cells #[.int .i64 0, .int .i64 0] 25) (Below.refl _ _))).below hb
        have r2 : IsR w1 R 0 0 := by
          rw [hR]
          simpa using (IsR.new ((w.alloc (.cells #[.int .i64 a, .int .i64 b] 25)).alloc (.cells #[.int .i64 c, .int .i64 d] 25)) 0 0).below hb
        have u0 := r0.c0
        have u1 := r0.c1
        have q0 := r1.c0
        have q1 := r1.c1
        have k0 := r2.c0
        have k1 := r2.c1
        have k2 := r2.f0
        have k3 := r2.f1
        have hl0 := r0.lt
        have hl1 := r1.lt
        have hl2 := r2.lt
        rw [← hR]
        clear hb hR r0 r1
        go_wp2
        exact bodyPost_ret (v := .agg #[.int .i64 (W * (V + 1) + 1), .int .i64 (V + 1)]) (by simp [results, Try.results22, go_sem, k0, k1, hl2]) rfl ⟨rfl, by first | exact (((B1.alloc B1.size _).alloc (by have := B1.size; simp; omega) _).setCell (p := ⟨R, 0, none⟩) hwR _).setCell (p := ⟨R, 1, none⟩) hwR _ | exact (((B1.setCell (p := ⟨R, 0, none⟩) hwR _).setCell (p := ⟨R, 1, none⟩) hwR _).alloc (by have := B1.size; simp; omega) _).alloc (by have := B1.size; simp; omega) _⟩
      · have HI : Hid (∀ u : World, Calls Try.prog 22 #[.agg #[.int .i64 d, .int .i64 E], .agg #[.int .i64 b, .int .i64 M]] u fun e w' => e = .returned (.agg #[.int .i64 y, .int .i64 y']) ∧ Below u.heap.size u w') := by
          intro u
          refine sBetw2_any k _ _ _ _ _ _ (okB_mk ⟨by omega, by omega, by omega, by omega, ?_⟩) (okB_mk ⟨by omega, by omega, by omega, by omega, ?_⟩) hd.lt (by omega) hB' u
          · rw [hE, gcdi_less]; exact cg
          · rw [hM, gcdi_less]; exact ag
        have hMf : (M == 0) = false := by simp [hz]
        have j1 : 1 ≤ y' := y1'
        clear hB' hd hB hW h hf o1 o2 hl hT p3 ag cg hWr hM hE hn' ex' s1 s2 s3 y1'
        go_enter Try.func22, Try.ntmps22
        go_wp2_with fail
        refine (HF.out _).mono ?_
        rintro e w1 ⟨rfl, hb⟩
        obtain ⟨R, hR⟩ : ∃ R, R = w.heap.size + 1 + 1 := ⟨_, rfl⟩
        have hwR : w.heap.size ≤ R := by omega
        have B1 : Below w.heap.size w w1 := (below_alR _ (below_alR _ (below_alR _ (Below.refl _ _)))).trans (hb.mono (by simp; omega))
        have r0 : IsR w1 w.heap.size a b := ((IsR.new w a b).below (below_alR (.cells #[.int .i64 0, .int .i64 0] 25) (below_alR (.cells #[.int .i64 c, .int .i64 d] 25) (Below.refl _ _)))).below hb
        have r1 : IsR w1 (w.heap.size + 1) c d := by simpa using ((IsR.new (w.alloc (.cells #[.int .i64 a, .int .i64 b] 25)) c d).below (below_alR (.cells #[.int .i64 0, .int .i64 0] 25) (Below.refl _ _))).below hb
        have r2 : IsR w1 R 0 0 := by
          rw [hR]
          simpa using (IsR.new ((w.alloc (.cells #[.int .i64 a, .int .i64 b] 25)).alloc (.cells #[.int .i64 c, .int .i64 d] 25)) 0 0).below hb
        have u0 := r0.c0
        have u1 := r0.c1
        have q0 := r1.c0
        have q1 := r1.c1
        have k0 := r2.c0
        have k1 := r2.c1
        have k2 := r2.f0
        have k3 := r2.f1
        have hl0 := r0.lt
        have hl1 := r1.lt
        have hl2 := r2.lt
        rw [← hR]
        clear hb hR r0 r1
        go_wp2_with fail
        refine (HI.out _).mono ?_
        rintro e w2 ⟨rfl, hb⟩
        have B2 : Below w.heap.size w w2 := ((B1.alloc B1.size _).alloc (by have := B1.size; simp; omega) _).trans (hb.mono (by have := B1.size; simp; omega))
        have r3 : IsR w2 R 0 0 := (r2.below (below_alR (.cells #[.int .i64 E, .int .i64 d] 25) (below_alR (.cells #[.int .i64 M, .int .i64 b] 25) (Below.refl _ _)))).below hb
        clear hb k0 k1 k2 k3 r2 u0 u1 q0 q1 hl0 hl1 hl2
        have k0 := r3.c0
        have k1 := r3.c1
        have k2 := r3.f0
        have k3 := r3.f1
        have hl2 := r3.lt
        go_wp2
        exact bodyPost_ret (v := .agg #[.int .i64 (W * y + y'), .int .i64 y]) (by simp [results, Try.results22, go_sem, k0, k1, hl2]) rfl ⟨rfl, by first | exact ((B2.alloc B2.size _).setCell (p := ⟨R, 0, none⟩) hwR _).setCell (p := ⟨R, 1, none⟩) hwR _ | exact ((B2.setCell (p := ⟨R, 0, none⟩) hwR _).setCell (p := ⟨R, 1, none⟩) hwR _).alloc (by have := B2.size; simp; omega) _⟩
end Go.Proofs.Ytmlnabgmibhfhab
