/- The walk of the model's Between. -/
import Derived.Test.YtmlnabgmibhfhabBetwW2
import Derived.Test.YtmlnabgmibhfhabBetwFin
import Derived.Test.YtmlnabgmibhfhabRatioW5
namespace Go.Proofs.Ytmlnabgmibhfhab
open Go.RowKit Go.Proofs.Ytmlnabgmibhfhab.RM

theorem ret_bt {a b c d n m : Int} {o : Bool} (h : btB a b c d = o ∧ btN a b c d = n ∧ btD a b c d = m) : Ending.returned (.tuple #[.agg #[.int .i64 n, .int .i64 m], .bool o]) = .returned (.tuple #[.agg #[.int .i64 (btN a b c d), .int .i64 (btD a b c d)], .bool (btB a b c d)]) := by rw [h.1, h.2.1, h.2.2]
theorem zero_bt (w : World) :
    Calls Try.prog 21 #[] w fun e w' => e = .returned (.agg #[.int .i64 0, .int .i64 1]) ∧ Below w.heap.size w w' := by
  go_enter Try.func21, Try.ntmps21
  go_wp2
  exact bodyPost_ret (v := .agg #[.int .i64 0, .int .i64 1]) (by simp [results, Try.results21, go_sem]) rfl ⟨rfl, (Below.refl _ _).alloc (Nat.le_refl _) _⟩
theorem lessB_out {a b c d : Int} (h : lessB a b c d = true) : okB a b = true ∧ okB c d = true ∧ a * d < c * b := by
  unfold lessB at h
  rw [Bool.and_eq_true] at h
  exact ⟨(two_out h.1).1, (two_out h.1).2, of_decide_eq_true h.2⟩
theorem okB_neg {c d : Int} (h : okB c d = true) : okB (-c) d = true := by
  obtain ⟨h1, h2, h3, h4, h5⟩ := okB_out h
  exact okB_mk ⟨h1, h2, by omega, by omega, by rw [gcdi_neg_l]; exact h5⟩

set_option maxRecDepth 100000 in
set_option maxHeartbeats 4000000 in
theorem sBetw_any (a b c d : Int) (w : World) :
    Calls Try.prog 7 #[.agg #[.int .i64 a, .int .i64 b], .agg #[.int .i64 c, .int .i64 d]] w fun e w' => e = .returned (.tuple #[.agg #[.int .i64 (btN a b c d), .int .i64 (btD a b c d)], .bool (btB a b c d)]) ∧ Below w.heap.size w w' := by
  by_cases hls : lessB a b c d = true
  · obtain ⟨o1, o2, hlt⟩ := lessB_out hls
    obtain ⟨b1, b9, a8, a9, ag⟩ := okB_out o1
    obtain ⟨d1, d9, c8, c9, cg⟩ := okB_out o2
    have h : Dom a b c d := ⟨b1, by omega, hlt⟩
    obtain ⟨W8, W9⟩ := flo_bd o1
    obtain ⟨V8, V9⟩ := flo_bd (okB_neg o2)
    rw [flo_ok o1] at W8 W9
    rw [flo_ok (okB_neg o2)] at V8 V9
    obtain ⟨W, hW⟩ : ∃ W, W = a / b := ⟨_, rfl⟩
    obtain ⟨V, hV⟩ : ∃ V, V = -c / d := ⟨_, rfl⟩
    rw [← hW] at W8 W9
    rw [← hV] at V8 V9
    have eL : loI a b = W + 1 := by unfold loI; rw [hW]
    have eH : hiI c d = -V - 1 := by unfold hiI; rw [hV]
    have HF : Hid (∀ u : World, Calls Try.prog 9 #[.agg #[.int .i64 a, .int .i64 b]] u fun e w' => e = .returned (.int .i64 W) ∧ Below u.heap.size u w') := by
      intro u; have := sFloor_any a b u; rw [flo_ok o1, ← hW] at this; exact this
    have HG : Hid (∀ u : World, Calls Try.prog 9 #[.agg #[.int .i64 (-c), .int .i64 d]] u fun e w' => e = .returned (.int .i64 V) ∧ Below u.heap.size u w') := by
      intro u; have := sFloor_any (-c) d u; rw [flo_ok (okB_neg o2), ← hV] at this; exact this
    have HM : Hid (∀ u : World, Calls Try.prog 20 #[.agg #[.int .i64 c, .int .i64 d]] u fun e w' => e = .returned (.agg #[.int .i64 (-c), .int .i64 d]) ∧ Below u.heap.size u w') := fun u => sMinus_any c d u (by omega) (by omega)
    by_cases g : W + 1 ≤ -V - 1
    · have dg : decide (W + 1 ≤ -V - 1) = true := decide_eq_true g
      by_cases g1 : 0 < W + 1
      · have g2 : ¬ W + 1 ≤ 0 := by omega
        have HR : Hid (btB a b c d = true ∧ btN a b c d = W + 1 ∧ btD a b c d = 1) := by
          have e : btA a b c d = (W + 1, 1) := by unfold btA; rw [eL, eH, if_pos g, if_neg (by omega), if_pos g1]
          have := bt_yes hls e
          rw [okB_whole (n := W + 1) (by omega) (by omega)] at this; exact this
        clear eL eH hW hV h hlt o1 o2 ag cg
        go_enter Try.func7, Try.ntmps7
        go_wp2_with fail
        refine (sLess_any a b c d _).mono ?_
        rintro e w1 ⟨rfl, hb⟩
        rw [hls]
        obtain ⟨R, hR⟩ : ∃ R, R = w.heap.size + 1 + 1 := ⟨_, rfl⟩
        have hwR : w.heap.size ≤ R := by omega
        have B1 : Below w.heap.size w w1 := (below_alR _ (below_alR _ (below_alR _ (Below.refl _ _)))).trans (hb.mono (by simp; omega))
        have r0 : IsR w1 w.heap.size a b := ((IsR.new w a b).below (below_alR (.cells #[.int .i64 0, .int .i64 0] 25) (below_alR (.cells #[.int .i64 c, .int .i64 d] 25) (Below.refl _ _)))).below hb
        have r1 : IsR w1 (w.heap.size + 1) c d := by simpa using ((IsR.new (w.alloc (.cells #[.int .i64 a, .int .i64 b] 25)) c d).below (below_alR (.cells #[.int .i64 0, .int .i64 0] 25) (Below.refl _ _))).below hb
        have r2 : IsR w1 R 0 0 := by
          rw [hR]
          simpa using (IsR.new ((w.alloc (.cells #[.int .i64 a, .int .i64 b] 25)).alloc (.cells #[.int .i64 c, .int .i64 d] 25)) 0 0).below hb
        have u0 := r0.c0
        have u1 := r0.c1
        have q0 := r1.c0
        have q1 := r1.c1
        have k0 := r2.c0
        have k1 := r2.c1
        have k2 := r2.f0
        have k3 := r2.f1
        rw [← hR]
        clear hb hR
        go_wp2_with fail
        refine (HF.out _).mono ?_
        rintro e w2 ⟨rfl, hb⟩
        replace B1 : Below w.heap.size w w2 := B1.trans (hb.mono B1.size)
        replace r0 := r0.below hb
        replace r1 := r1.below hb
        replace r2 := r2.below hb
        replace u0 := r0.c0
        replace u1 := r0.c1
        replace q0 := r1.c0
        replace q1 := r1.c1
        replace k0 := r2.c0
        replace k1 := r2.c1
        replace k2 := r2.f0
        replace k3 := r2.f1
        clear hb
        go_wp2_with fail
        refine (HM.out _).mono ?_
        rintro e w3 ⟨rfl, hb⟩
        replace B1 : Below w.heap.size w w3 := B1.trans (hb.mono B1.size)
        replace r0 := r0.below hb
        replace r1 := r1.below hb
        replace r2 := r2.below hb
        replace u0 := r0.c0
        replace u1 := r0.c1
        replace q0 := r1.c0
        replace q1 := r1.c1
        replace k0 := r2.c0
        replace k1 := r2.c1
        replace k2 := r2.f0
        replace k3 := r2.f1
        clear hb
        go_wp2_with fail
        refine (HG.out _).mono ?_
        rintro e w4 ⟨rfl, hb⟩
        replace B1 : Below w.heap.size w w4 := B1.trans (hb.mono B1.size)
        replace r0 := r0.below hb
        replace r1 := r1.below hb
        replace r2 := r2.below hb
        replace u0 := r0.c0
        replace u1 := r0.c1
        replace q0 := r1.c0
        replace q1 := r1.c1
        replace k0 := r2.c0
        replace k1 := r2.c1
        replace k2 := r2.f0
        replace k3 := r2.f1
        clear hb
        go_wp2
        exact bodyPost_ret (v := .tuple #[.agg #[.int .i64 (W + 1), .int .i64 1], .bool true]) (by simp [results, Try.results7, go_sem, k0, k1]) rfl ⟨ret_bt HR.out, by first | exact (B1.setCell (p := ⟨R, 0, none⟩) hwR _).setCell (p := ⟨R, 1, none⟩) hwR _ | exact B1⟩
      · by_cases g2 : 0 ≤ -V - 1
        · have g3 : W + 1 ≤ 0 := by omega
          have HR : Hid (btB a b c d = true ∧ btN a b c d = 0 ∧ btD a b c d = 1) := by
            have e : btA a b c d = (0, 1) := by unfold btA; rw [eL, eH, if_pos g, if_pos ⟨g3, g2⟩]
            have := bt_yes hls e
            rw [okB_whole (n := 0) (by omega) (by omega)] at this; exact this
          clear eL eH hW hV h hlt o1 o2 ag cg
          go_enter Try.func7, Try.ntmps7
          go_wp2_with fail
          refine (sLess_any a b c d _).mono ?_
          rintro e w1 ⟨rfl, hb⟩
          rw [hls]
          obtain ⟨R, hR⟩ : ∃ R, R = w.heap.size + 1 + 1 := ⟨_, rfl⟩
          have hwR : w.heap.size ≤ R := by omega
          have B1 : Below w.heap.size w w1 := (below_alR _ (below_alR _ (below_alR _ (Below.refl _ _)))).trans (hb.mono (by simp; omega))
          have r0 : IsR w1 w.heap.size a b := ((IsR.new w a b).below (below_alR (.cells #[.int .i64 0, .int .i64 0] 25) (below_alR (.cells #[.int .i64 c, .int .i64 d] 25) (Below.refl _ _)))).below hb
          have r1 : IsR w1 (w.heap.size + 1) c d := by simpa using ((IsR.new (w.alloc (.cells #[.int .i64 a, .int .i64 b] 25)) c d).below (below_alR (.cells #[.int .i64 0, .int .i64 0] 25) (Below.refl _ _))).below hb
          have r2 : IsR w1 R 0 0 := by
            rw [hR]
            simpa using (IsR.new ((w.alloc (.cells #[.int .i64 a, .int .i64 b] 25)).alloc (.cells #[.int .i64 c, .int .i64 d] 25)) 0 0).below hb
          have u0 := r0.c0
          have u1 := r0.c1
          have q0 := r1.c0
          have q1 := r1.c1
          have k0 := r2.c0
          have k1 := r2.c1
          have k2 := r2.f0
          have k3 := r2.f1
          rw [← hR]
          clear hb hR
          go_wp2_with fail
          refine (HF.out _).mono ?_
          rintro e w2 ⟨rfl, hb⟩
          replace B1 : Below w.heap.size w w2 := B1.trans (hb.mono B1.size)
          replace r0 := r0.below hb
          replace r1 := r1.below hb
          replace r2 := r2.below hb
          replace u0 := r0.c0
          replace u1 := r0.c1
          replace q0 := r1.c0
          replace q1 := r1.c1
          replace k0 := r2.c0
          replace k1 := r2.c1
          replace k2 := r2.f0
          replace k3 := r2.f1
          clear hb
          go_wp2_with fail
          refine (HM.out _).mono ?_
          rintro e w3 ⟨rfl, hb⟩
          replace B1 : Below w.heap.size w w3 := B1.trans (hb.mono B1.size)
          replace r0 := r0.below hb
          replace r1 := r1.below hb
          replace r2 := r2.below hb
          replace u0 := r0.c0
          replace u1 := r0.c1
          replace q0 := r1.c0
          replace q1 := r1.c1
          replace k0 := r2.c0
          replace k1 := r2.c1
          replace k2 := r2.f0
          replace k3 := r2.f1
          clear hb
          go_wp2_with fail
          refine (HG.out _).mono ?_
          rintro e w4 ⟨rfl, hb⟩
          replace B1 : Below w.heap.size w w4 := B1.trans (hb.mono B1.size)
          replace r0 := r0.below hb
          replace r1 := r1.below hb
          replace r2 := r2.below hb
          replace u0 := r0.c0
          replace u1 := r0.c1
          replace q0 := r1.c0
          replace q1 := r1.c1
          replace k0 := r2.c0
          replace k1 := r2.c1
          replace k2 := r2.f0
          replace k3 := r2.f1
          clear hb
          go_wp2_with fail
          refine (zero_bt _).mono ?_
          rintro e w5 ⟨rfl, hb⟩
          replace B1 : Below w.heap.size w w5 := B1.trans (hb.mono B1.size)
          replace r0 := r0.below hb
          replace r1 := r1.below hb
          replace r2 := r2.below hb
          replace u0 := r0.c0
          replace u1 := r0.c1
          replace q0 := r1.c0
          replace q1 := r1.c1
          replace k0 := r2.c0
          replace k1 := r2.c1
          replace k2 := r2.f0
          replace k3 := r2.f1
          clear hb
          go_wp2
          exact bodyPost_ret (v := .tuple #[.agg #[.int .i64 0, .int .i64 1], .bool true]) (by simp [results, Try.results7, go_sem, k0, k1]) rfl ⟨ret_bt HR.out, by first | exact (B1.setCell (p := ⟨R, 0, none⟩) hwR _).setCell (p := ⟨R, 1, none⟩) hwR _ | exact B1⟩
        · have g3 : W + 1 ≤ 0 := by omega
          have HR : Hid (btB a b c d = true ∧ btN a b c d = -V - 1 ∧ btD a b c d = 1) := by
            have e : btA a b c d = (-V - 1, 1) := by unfold btA; rw [eL, eH, if_pos g, if_neg (by omega), if_neg (by omega)]
            have := bt_yes hls e
            rw [okB_whole (n := -V - 1) (by omega) (by omega)] at this; exact this
          clear eL eH hW hV h hlt o1 o2 ag cg
          go_enter Try.func7, Try.ntmps7
          go_wp2_with fail
          refine (sLess_any a b c d _).mono ?_
          rintro e w1 ⟨rfl, hb⟩
          rw [hls]
          obtain ⟨R, hR⟩ : ∃ R, R = w.heap.size + 1 + 1 := ⟨_, rfl⟩
          have hwR : w.heap.size ≤ R := by omega
          have B1 : Below w.heap.size w w1 := (below_alR _ (below_alR _ (below_alR _ (Below.refl _ _)))).trans (hb.mono (by simp; omega))
          have r0 : IsR w1 w.heap.size a b := ((IsR.new w a b).below (below_alR (.cells #[.int .i64 0, .int .i64 0] 25) (below_alR (.cells #[.int .i64 c, .int .i64 d] 25) (Below.refl _ _)))).below hb
          have r1 : IsR w1 (w.heap.size + 1) c d := by simpa using ((IsR.new (w.alloc (.cells #[.int .i64 a, .int .i64 b] 25)) c d).below (below_alR (.cells #[.int .i64 0, .int .i64 0] 25) (Below.refl _ _))).below hb
          have r2 : IsR w1 R 0 0 := by
            rw [hR]
            simpa using (IsR.new ((w.alloc (.cells #[.int .i64 a, .int .i64 b] 25)).alloc (.cells #[.int .i64 c, .int .i64 d] 25)) 0 0).below hb
          have u0 := r0.c0
          have u1 := r0.c1
          have q0 := r1.c0
          have q1 := r1.c1
          have k0 := r2.c0
          have k1 := r2.c1
          have k2 := r2.f0
          have k3 := r2.f1
          rw [← hR]
          clear hb hR
          go_wp2_with fail
          refine (HF.out _).mono ?_
          rintro e w2 ⟨rfl, hb⟩
          replace B1 : Below w.heap.size w w2 := B1.trans (hb.mono B1.size)
          replace r0 := r0.below hb
          replace r1 := r1.below hb
          replace r2 := r2.below hb
          replace u0 := r0.c0
          replace u1 := r0.c1
          replace q0 := r1.c0
          replace q1 := r1.c1
          replace k0 := r2.c0
          replace k1 := r2.c1
          replace k2 := r2.f0
          replace k3 := r2.f1
          clear hb
          go_wp2_with fail
          refine (HM.out _).mono ?_
          rintro e w3 ⟨rfl, hb⟩
          replace B1 : Below w.heap.size w w3 := B1.trans (hb.mono B1.size)
          replace r0 := r0.below hb
          replace r1 := r1.below hb
          replace r2 := r2.below hb
          replace u0 := r0.c0
          replace u1 := r0.c1
          replace q0 := r1.c0
          replace q1 := r1.c1
          replace k0 := r2.c0
          replace k1 := r2.c1
          replace k2 := r2.f0
          replace k3 := r2.f1
          clear hb
          go_wp2_with fail
          refine (HG.out _).mono ?_
          rintro e w4 ⟨rfl, hb⟩
          replace B1 : Below w.heap.size w w4 := B1.trans (hb.mono B1.size)
          replace r0 := r0.below hb
          replace r1 := r1.below hb
          replace r2 := r2.below hb
          replace u0 := r0.c0
          replace u1 := r0.c1
          replace q0 := r1.c0
          replace q1 := r1.c1
          replace k0 := r2.c0
          replace k1 := r2.c1
          replace k2 := r2.f0
          replace k3 := r2.f1
          clear hb
          go_wp2
          exact bodyPost_ret (v := .tuple #[.agg #[.int .i64 (-V - 1), .int .i64 1], .bool true]) (by simp [results, Try.results7, go_sem, k0, k1]) rfl ⟨ret_bt HR.out, by first | exact (B1.setCell (p := ⟨R, 0, none⟩) hwR _).setCell (p := ⟨R, 1, none⟩) hwR _ | exact B1⟩
    · have dg : decide (W + 1 ≤ -V - 1) = false := decide_eq_false g
      obtain ⟨x, y, hB⟩ := best_is h
      have e : btA a b c d = (x, y) := by unfold btA; rw [eL, eH, if_neg g]; exact bt_is hB
      have HR : Hid (btB a b c d = okB x y ∧ btN a b c d = (if okB x y = true then x else 0) ∧ btD a b c d = (if okB x y = true then y else 0)) := bt_yes hls e
      have HX : Hid (∀ u : World, Calls Try.prog 22 #[.agg #[.int .i64 a, .int .i64 b], .agg #[.int .i64 c, .int .i64 d]] u fun e w' => e = .returned (.agg #[.int .i64 x, .int .i64 y]) ∧ Below u.heap.size u w') := fun u => sBetw2_any (b + d).toNat a b c d x y o1 o2 hlt (by omega) hB u
      clear eL eH hW hV h hlt o1 o2 ag cg e hB
      go_enter Try.func7, Try.ntmps7
      go_wp2_with fail
      refine (sLess_any a b c d _).mono ?_
      rintro e w1 ⟨rfl, hb⟩
      rw [hls]
      obtain ⟨R, hR⟩ : ∃ R, R = w.heap.size + 1 + 1 := ⟨_, rfl⟩
      have hwR : w.heap.size ≤ R := by omega
      have B1 : Below w.heap.size w w1 := (below_alR _ (below_alR _ (below_alR _ (Below.refl _ _)))).trans (hb.mono (by simp; omega))
      have r0 : IsR w1 w.heap.size a b := ((IsR.new w a b).below (below_alR (.cells #[.int .i64 0, .int .i64 0] 25) (below_alR (.cells #[.int .i64 c, .int .i64 d] 25) (Below.refl _ _)))).below hb
      have r1 : IsR w1 (w.heap.size + 1) c d := by simpa using ((IsR.new (w.alloc (.cells #[.int .i64 a, .int .i64 b] 25)) c d).below (below_alR (.cells #[.int .i64 0, .int .i64 0] 25) (Below.refl _ _))).below hb
      have r2 : IsR w1 R 0 0 := by
        rw [hR]
        simpa using (IsR.new ((w.alloc (.cells #[.int .i64 a, .int .i64 b] 25)).alloc (.cells #[.int .i64 c, .int .i64 d] 25)) 0 0).below hb
      have u0 := r0.c0
      have u1 := r0.c1
      have q0 := r1.c0
      have q1 := r1.c1
      have k0 := r2.c0
      have k1 := r2.c1
      have k2 := r2.f0
      have k3 := r2.f1
      rw [← hR]
      clear hb hR
      go_wp2_with fail
      refine (HF.out _).mono ?_
      rintro e w2 ⟨rfl, hb⟩
      replace B1 : Below w.heap.size w w2 := B1.trans (hb.mono B1.size)
      replace r0 := r0.below hb
      replace r1 := r1.below hb
      replace r2 := r2.below hb
      replace u0 := r0.c0
      replace u1 := r0.c1
      replace q0 := r1.c0
      replace q1 := r1.c1
      replace k0 := r2.c0
      replace k1 := r2.c1
      replace k2 := r2.f0
      replace k3 := r2.f1
      clear hb
      go_wp2_with fail
      refine (HM.out _).mono ?_
      rintro e w3 ⟨rfl, hb⟩
      replace B1 : Below w.heap.size w w3 := B1.trans (hb.mono B1.size)
      replace r0 := r0.below hb
      replace r1 := r1.below hb
      replace r2 := r2.below hb
      replace u0 := r0.c0
      replace u1 := r0.c1
      replace q0 := r1.c0
      replace q1 := r1.c1
      replace k0 := r2.c0
      replace k1 := r2.c1
      replace k2 := r2.f0
      replace k3 := r2.f1
      clear hb
      go_wp2_with fail
      refine (HG.out _).mono ?_
      rintro e w4 ⟨rfl, hb⟩
      replace B1 : Below w.heap.size w w4 := B1.trans (hb.mono B1.size)
      replace r0 := r0.below hb
      replace r1 := r1.below hb
      replace r2 := r2.below hb
      replace u0 := r0.c0
      replace u1 := r0.c1
      replace q0 := r1.c0
      replace q1 := r1.c1
      replace k0 := r2.c0
      replace k1 := r2.c1
      replace k2 := r2.f0
      replace k3 := r2.f1
      clear hb
      go_wp2_with fail
      refine (HX.out _).mono ?_
      rintro e w5 ⟨rfl, hb⟩
      replace B1 : Below w.heap.size w w5 := B1.trans (hb.mono B1.size)
      replace r0 := r0.below hb
      replace r1 := r1.below hb
      replace r2 := r2.below hb
      replace u0 := r0.c0
      replace u1 := r0.c1
      replace q0 := r1.c0
      replace q1 := r1.c1
      replace k0 := r2.c0
      replace k1 := r2.c1
      replace k2 := r2.f0
      replace k3 := r2.f1
      clear hb
      obtain ⟨Z, hZ⟩ : ∃ Z, Z = w5.heap.size := ⟨_, rfl⟩
      have rz := IsR.new w5 x y
      rw [← hZ] at rz
      have hl2 := r2.lt
      have hw5 := B1.size
      have r2' := r2.below (below_alR (.cells #[.int .i64 x, .int .i64 y] 25) (Below.refl _ _))
      go_wp2_with fail
      refine (sOk_any x y _).mono ?_
      rintro e w6 ⟨rfl, hb⟩
      replace B1 : Below w.heap.size w w6 := (B1.alloc B1.size _).trans (hb.mono (by simp; omega))
      replace r2 := r2'.below hb
      replace rz := rz.below hb
      replace k0 := r2.c0
      replace k1 := r2.c1
      replace k2 := r2.f0
      replace k3 := r2.f1
      have z0 := rz.c0
      have z1 := rz.c1
      rw [← hZ]
      clear hb u0 u1 q0 q1 r0 r1 r2' hZ
      by_cases hk : okB x y = true
      · rw [hk]
        have HR' : Hid (btB a b c d = true ∧ btN a b c d = x ∧ btD a b c d = y) := by have := HR.out; rw [hk] at this; exact this
        go_wp2
        exact bodyPost_ret (v := .tuple #[.agg #[.int .i64 x, .int .i64 y], .bool true]) (by simp [results, Try.results7, go_sem, k0, k1]) rfl ⟨ret_bt HR'.out, by first | exact (B1.setCell (p := ⟨R, 0, none⟩) hwR _).setCell (p := ⟨R, 1, none⟩) hwR _ | exact B1⟩
      · rw [Bool.not_eq_true] at hk
        rw [hk]
        have HR' : Hid (btB a b c d = false ∧ btN a b c d = 0 ∧ btD a b c d = 0) := by have := HR.out; rw [hk] at this; exact this
        go_wp2
        exact bodyPost_ret (v := .tuple #[.agg #[.int .i64 0, .int .i64 0], .bool false]) (by simp [results, Try.results7, go_sem, k0, k1]) rfl ⟨ret_bt HR'.out, by first | exact (B1.setCell (p := ⟨R, 0, none⟩) hwR _).setCell (p := ⟨R, 1, none⟩) hwR _ | exact B1⟩
  · rw [Bool.not_eq_true] at hls
    have HR : Hid (btB a b c d = false ∧ btN a b c d = 0 ∧ btD a b c d = 0) := bt_no hls
    go_enter Try.func7, Try.ntmps7
    go_wp2_with fail
    refine (sLess_any a b c d _).mono ?_
    rintro e w1 ⟨rfl, hb⟩
    rw [hls]
    obtain ⟨R, hR⟩ : ∃ R, R = w.heap.size + 1 + 1 := ⟨_, rfl⟩
    have hwR : w.heap.size ≤ R := by omega
    have B1 : Below w.heap.size w w1 := (below_alR _ (below_alR _ (below_alR _ (Below.refl _ _)))).trans (hb.mono (by simp; omega))
    have r0 : IsR w1 w.heap.size a b := ((IsR.new w a b).below (below_alR (.cells #[.int .i64 0, .int .i64 0] 25) (below_alR (.cells #[.int .i64 c, .int .i64 d] 25) (Below.refl _ _)))).below hb
    have r1 : IsR w1 (w.heap.size + 1) c d := by simpa using ((IsR.new (w.alloc (.cells #[.int .i64 a, .int .i64 b] 25)) c d).below (below_alR (.cells #[.int .i64 0, .int .i64 0] 25) (Below.refl _ _))).below hb
    have r2 : IsR w1 R 0 0 := by
      rw [hR]
      simpa using (IsR.new ((w.alloc (.cells #[.int .i64 a, .int .i64 b] 25)).alloc (.cells #[.int .i64 c, .int .i64 d] 25)) 0 0).below hb
    have u0 := r0.c0
    have u1 := r0.c1
    have q0 := r1.c0
    have q1 := r1.c1
    have k0 := r2.c0
    have k1 := r2.c1
    have k2 := r2.f0
    have k3 := r2.f1
    rw [← hR]
    clear hb hR
    go_wp2
    exact bodyPost_ret (v := .tuple #[.agg #[.int .i64 0, .int .i64 0], .bool false]) (by simp [results, Try.results7, go_sem, k0, k1]) rfl ⟨ret_bt HR.out, by first | exact (B1.setCell (p := ⟨R, 0, none⟩) hwR _).setCell (p := ⟨R, 1, none⟩) hwR _ | exact B1⟩
end Go.Proofs.Ytmlnabgmibhfhab
