/- The walk of the program's Between. -/
import Derived.Test.YtmlnabgmibhfhabBetwW3
import Derived.Deep.RegionHeld3
namespace Go.Proofs.Ytmlnabgmibhfhab
open Go.RowKit Go.Proofs.Ytmlnabgmibhfhab.RM

theorem mirr_wide (n d : Int) (w : World) (h1 : -4611686018427387904 ≤ n) (h2 : n ≤ 4611686018427387904) :
    Calls Try.prog 18 #[.agg #[.int .i64 n, .int .i64 d]] w fun e w' => e = .returned (.agg #[.int .i64 (-n), .int .i64 d]) ∧ Below w.heap.size w w' := by
  go_enter Try.func18, Try.ntmps18
  go_wp2
  exact bodyPost_ret (v := .agg #[.int .i64 (-n), .int .i64 d]) (by simp [results, Try.results18, go_sem]) rfl ⟨rfl, below_alR _ (below_alR _ (Below.refl _ _))⟩

theorem IsR.other' {W : World} {R b : Nat} {n d : Int} (h : IsR W R n d) (hne : R ≠ b) (o : Nat) (v : Value) : IsR (W.setCell ⟨b, o, none⟩ v) R n d := (Below.heap_setCell W ⟨b, o, none⟩ v R hne).trans h

set_option maxRecDepth 100000 in
set_option maxHeartbeats 4000000 in
theorem iBetw_any (a b c d : Int) (w : World) :
    Calls Try.prog 6 #[.agg #[.int .i64 a, .int .i64 b], .agg #[.int .i64 c, .int .i64 d]] w fun e w' => e = .returned (.tuple #[.agg #[.int .i64 (btN a b c d), .int .i64 (btD a b c d)], .bool (btB a b c d)]) ∧ Below w.heap.size w w' := by
  by_cases hls : lessB a b c d = true
  · obtain ⟨o1, o2, hlt⟩ := lessB_out hls
    obtain ⟨b1, b9, a8, a9, ag⟩ := okB_out o1
    obtain ⟨d1, d9, c8, c9, cg⟩ := okB_out o2
    have h : Dom a b c d := ⟨b1, by omega, hlt⟩
    by_cases ha : 0 ≤ a
    · have da : decide (0 ≤ a) = true := decide_eq_true ha
      obtain ⟨x, y, hB⟩ := best_is h
      obtain ⟨W8, W9⟩ := flo_bd o1
      rw [flo_ok o1] at W8 W9
      obtain ⟨y9, x8, x9⟩ := hB.wide h a8 a9 b9 c9 c8 d9 W8 W9
      have hrc := red_cop hB.cop hB.y1 (by omega) (by omega) (by omega)
      have HR : Hid (btB a b c d = redOk x y ∧ btN a b c d = redN x y ∧ btD a b c d = redD x y) := by
        have := bt_yes hls (btA_up h d1 ha hB)
        rw [hrc.1, hrc.2.1, hrc.2.2]; exact this
      have HX : Hid (∀ u : World, Calls Try.prog 17 #[.agg #[.int .i64 a, .int .i64 b], .agg #[.int .i64 c, .int .i64 d]] u fun e w' => e = .returned (.agg #[.int .i64 x, .int .i64 y]) ∧ Below u.heap.size u w') := fun u => simp_any (b + d).toNat a b c d x y h (by omega) ha a9 b9 c9 d9 hB u
      clear hrc hB h o1 o2 ag cg W8 W9
      go_enter Try.func6, Try.ntmps6
      go_wp2_with fail
      refine (iLess_any a b c d _).mono ?_
      rintro e w1 ⟨rfl, hb⟩
      rw [hls]
      obtain ⟨R, hR⟩ : ∃ R, R = w.heap.size + 1 + 1 := ⟨_, rfl⟩
      have hwR : w.heap.size ≤ R := by omega
      have B1 : Below w.heap.size w w1 := (below_alR _ (below_alR _ (below_alR _ (Below.refl _ _)))).trans (hb.mono (by simp; omega))
      have r0 : IsR w1 w.heap.size a b := ((IsR.new w a b).below (below_alR (.cells #[.int .i64 0, .int .i64 0] 25) (below_alR (.cells #[.int .i64 c, .int .i64 d] 25) (Below.refl _ _)))).below hb
      have r1 : IsR w1 (w.heap.size + 1) c d := by simpa using ((IsR.new (w.alloc (.cells #[.int .i64 a, .int .i64 b] 25)) c d).below (below_alR (.cells #[.int .i64 0, .int .i64 0] 25) (Below.refl _ _))).below hb
      have r2 : IsR w1 R 0 0 := by
        rw [hR]
        simpa using (IsR.new ((w.alloc (.cells #[.int .i64 a, .int .i64 b] 25)).alloc (.cells #[.int .i64 c, .int .i64 d] 25)) 0 0).below hb
      have hl0 := r0.lt
      have hl1 := r1.lt
      have hl2 := r2.lt
      have u0 := r0.c0
      have u1 := r0.c1
      have q0 := r1.c0
      have q1 := r1.c1
      have k0 := r2.c0
      have k1 := r2.c1
      have k2 := r2.f0
      have k3 := r2.f1
      rw [← hR]
      clear hb hR
      go_wp2_with fail
      obtain ⟨Z, hZ⟩ : ∃ Z, Z = w1.heap.size := ⟨_, rfl⟩
      obtain ⟨X, hX⟩ : ∃ X, X = w1.alloc (.cells #[.int .i64 0, .int .i64 1] 25) := ⟨_, rfl⟩
      have hbx : Below w1.heap.size w1 X := by rw [hX]; exact below_alR _ (Below.refl _ _)
      have rz : IsR X Z 0 1 := by rw [hX, hZ]; exact IsR.new w1 0 1
      replace B1 : Below w.heap.size w X := B1.trans (hbx.mono B1.size)
      have hRZ : R < Z := by rw [hZ]; exact r2.lt
      have hAZ : w.heap.size + 1 < Z := by rw [hZ]; exact r1.lt
      have hwZ : w.heap.size ≤ Z := by omega
      replace r0 := r0.below hbx
      replace r1 := r1.below hbx
      replace r2 := r2.below hbx
      clear hbx u0 u1 q0 q1 k0 k1 k2 k3 hl0 hl1 hl2
      have u0 := r0.c0
      have u1 := r0.c1
      have q0 := r1.c0
      have q1 := r1.c1
      have k0 := r2.c0
      have k1 := r2.c1
      have k2 := r2.f0
      have k3 := r2.f1
      have z0 := rz.c0
      have z1 := rz.c1
      have z2 := rz.f0
      have z3 := rz.f1
      have hl0 := r0.lt
      have hl1 := r1.lt
      have hl2 := r2.lt
      have hlz := rz.lt
      have hsB := B1.size
      rw [← hZ, ← hX]
      clear hZ hX
      refine (HX.out _).mono ?_
      rintro e w4 ⟨rfl, hb⟩
      replace B1 : Below w.heap.size w w4 := B1.trans (hb.mono B1.size)
      replace r0 := r0.below hb
      replace r1 := r1.below hb
      replace r2 := r2.below hb
      replace rz := rz.below hb
      clear u0 u1 q0 q1 k0 k1 k2 k3 z0 z1 z2 z3 hl0 hl1 hl2 hlz hsB
      clear hb
      have u0 := r0.c0
      have u1 := r0.c1
      have q0 := r1.c0
      have q1 := r1.c1
      have k0 := r2.c0
      have k1 := r2.c1
      have k2 := r2.f0
      have k3 := r2.f1
      have z0 := rz.c0
      have z1 := rz.c1
      have z2 := rz.f0
      have z3 := rz.f1
      have hl0 := r0.lt
      have hl1 := r1.lt
      have hl2 := r2.lt
      have hlz := rz.lt
      have hsB := B1.size
      go_wp2_with fail
      have hbs : Below w.heap.size w ((w4.setCell ⟨Z, 0, none⟩ (.int .i64 x)).setCell ⟨Z, 1, none⟩ (.int .i64 y)) := (B1.setCell (p := ⟨Z, 0, none⟩) hwZ _).setCell (p := ⟨Z, 1, none⟩) hwZ _
      have rs : IsR ((w4.setCell ⟨Z, 0, none⟩ (.int .i64 x)).setCell ⟨Z, 1, none⟩ (.int .i64 y)) R 0 0 := (r2.other' (by omega) 0 _).other' (by omega) 1 _
      have rt : IsR ((w4.setCell ⟨Z, 0, none⟩ (.int .i64 x)).setCell ⟨Z, 1, none⟩ (.int .i64 y)) Z x y := (rz.set0 _).set1 _
      obtain ⟨Y, hY⟩ : ∃ Y, Y = ((w4.setCell ⟨Z, 0, none⟩ (.int .i64 x)).setCell ⟨Z, 1, none⟩ (.int .i64 y)) := ⟨_, rfl⟩
      rw [← hY] at hbs rs rt ⊢
      clear hY rz u0 u1 q0 q1 k0 k1 k2 k3 z0 z1 z2 z3 hl0 hl1 hl2 hlz hsB
      replace B1 := hbs
      replace r2 := rs
      refine (iRed_any _ _ _).mono ?_
      rintro e w9 ⟨rfl, hb⟩
      replace B1 : Below w.heap.size w w9 := B1.trans (hb.mono B1.size)
      replace r2 := r2.below hb
      have k0 := r2.c0
      have k1 := r2.c1
      have k2 := r2.f0
      have k3 := r2.f1
      clear hb
      go_wp2
      exact bodyPost_ret (v := .tuple #[.agg #[.int .i64 (redN x y), .int .i64 (redD x y)], .bool (redOk x y)]) (by simp [results, Try.results6, go_sem, k0, k1]) rfl ⟨ret_bt HR.out, (B1.setCell (p := ⟨R, 0, none⟩) hwR _).setCell (p := ⟨R, 1, none⟩) hwR _⟩
    · have da : decide (0 ≤ a) = false := decide_eq_false ha
      by_cases hc : c ≤ 0
      · have dc : decide (c ≤ 0) = true := decide_eq_true hc
        have hh : Dom (-c) d (-a) b := ⟨d1, by omega, by rw [Int.neg_mul, Int.neg_mul]; omega⟩
        obtain ⟨x, y, hB⟩ := best_is hh
        obtain ⟨W8, W9⟩ := flo_bd (okB_neg o2)
        rw [flo_ok (okB_neg o2)] at W8 W9
        obtain ⟨y9, x8, x9⟩ := hB.wide hh (by omega) (by omega) d9 (by omega) (by omega) b9 W8 W9
        have hrc := red_cop (x := -x) (y := y) (by rw [gcdi_neg_l]; exact hB.cop) hB.y1 (by omega) (by omega) (by omega)
        have HR : Hid (btB a b c d = redOk (-x) y ∧ btN a b c d = redN (-x) y ∧ btD a b c d = redD (-x) y) := by
          have := bt_yes hls (btA_down h d1 hc hB)
          rw [hrc.1, hrc.2.1, hrc.2.2]; exact this
        have HX : Hid (∀ u : World, Calls Try.prog 17 #[.agg #[.int .i64 (-c), .int .i64 d], .agg #[.int .i64 (-a), .int .i64 b]] u fun e w' => e = .returned (.agg #[.int .i64 x, .int .i64 y]) ∧ Below u.heap.size u w') := fun u => simp_any (d + b).toNat (-c) d (-a) b x y hh (by omega) (by omega) (by omega) d9 (by omega) b9 hB u
        have HM1 : Hid (∀ u : World, Calls Try.prog 18 #[.agg #[.int .i64 c, .int .i64 d]] u fun e w' => e = .returned (.agg #[.int .i64 (-c), .int .i64 d]) ∧ Below u.heap.size u w') := fun u => mirr_wide c d u (by omega) (by omega)
        have HM2 : Hid (∀ u : World, Calls Try.prog 18 #[.agg #[.int .i64 a, .int .i64 b]] u fun e w' => e = .returned (.agg #[.int .i64 (-a), .int .i64 b]) ∧ Below u.heap.size u w') := fun u => mirr_wide a b u (by omega) (by omega)
        have HM3 : Hid (∀ u : World, Calls Try.prog 18 #[.agg #[.int .i64 x, .int .i64 y]] u fun e w' => e = .returned (.agg #[.int .i64 (-x), .int .i64 y]) ∧ Below u.heap.size u w') := fun u => mirr_wide x y u (by omega) (by omega)
        clear hrc hB h hh o1 o2 ag cg W8 W9
        go_enter Try.func6, Try.ntmps6
        go_wp2_with fail
        refine (iLess_any a b c d _).mono ?_
        rintro e w1 ⟨rfl, hb⟩
        rw [hls]
        obtain ⟨R, hR⟩ : ∃ R, R = w.heap.size + 1 + 1 := ⟨_, rfl⟩
        have hwR : w.heap.size ≤ R := by omega
        have B1 : Below w.heap.size w w1 := (below_alR _ (below_alR _ (below_alR _ (Below.refl _ _)))).trans (hb.mono (by simp; omega))
        have r0 : IsR w1 w.heap.size a b := ((IsR.new w a b).below (below_alR (.cells #[.int .i64 0, .int .i64 0] 25) (below_alR (.cells #[.int .i64 c, .int .i64 d] 25) (Below.refl _ _)))).below hb
        have r1 : IsR w1 (w.heap.size + 1) c d := by simpa using ((IsR.new (w.alloc (.cells #[.int .i64 a, .int .i64 b] 25)) c d).below (below_alR (.cells #[.int .i64 0, .int .i64 0] 25) (Below.refl _ _))).below hb
        have r2 : IsR w1 R 0 0 := by
          rw [hR]
          simpa using (IsR.new ((w.alloc (.cells #[.int .i64 a, .int .i64 b] 25)).alloc (.cells #[.int .i64 c, .int .i64 d] 25)) 0 0).below hb
        have hl0 := r0.lt
        have hl1 := r1.lt
        have hl2 := r2.lt
        have u0 := r0.c0
        have u1 := r0.c1
        have q0 := r1.c0
        have q1 := r1.c1
        have k0 := r2.c0
        have k1 := r2.c1
        have k2 := r2.f0
        have k3 := r2.f1
        rw [← hR]
        clear hb hR
        go_wp2
        obtain ⟨Z, hZ⟩ : ∃ Z, Z = w1.heap.size := ⟨_, rfl⟩
        obtain ⟨X, hX⟩ : ∃ X, X = w1.alloc (.cells #[.int .i64 0, .int .i64 1] 25) := ⟨_, rfl⟩
        have hbx : Below w1.heap.size w1 X := by rw [hX]; exact below_alR _ (Below.refl _ _)
        have rz : IsR X Z 0 1 := by rw [hX, hZ]; exact IsR.new w1 0 1
        replace B1 : Below w.heap.size w X := B1.trans (hbx.mono B1.size)
        have hRZ : R < Z := by rw [hZ]; exact r2.lt
        have hAZ : w.heap.size + 1 < Z := by rw [hZ]; exact r1.lt
        have hwZ : w.heap.size ≤ Z := by omega
        replace r0 := r0.below hbx
        replace r1 := r1.below hbx
        replace r2 := r2.below hbx
        clear hbx u0 u1 q0 q1 k0 k1 k2 k3 hl0 hl1 hl2
        have u0 := r0.c0
        have u1 := r0.c1
        have q0 := r1.c0
        have q1 := r1.c1
        have k0 := r2.c0
        have k1 := r2.c1
        have k2 := r2.f0
        have k3 := r2.f1
        have z0 := rz.c0
        have z1 := rz.c1
        have z2 := rz.f0
        have z3 := rz.f1
        have hl0 := r0.lt
        have hl1 := r1.lt
        have hl2 := r2.lt
        have hlz := rz.lt
        have hsB := B1.size
        rw [← hZ, ← hX]
        clear hZ hX
        refine wp_region_noPanic ?_
        refine wp_region_held_drew (S := (fun w' => w'.cell? ⟨w.heap.size, 0, none⟩ = some (.int .i64 a) ∧ w'.cell? ⟨w.heap.size, 1, none⟩ = some (.int .i64 b) ∧ w'.cell? ⟨w.heap.size + 1, 0, none⟩ = some (.int .i64 c) ∧ w'.cell? ⟨w.heap.size + 1, 1, none⟩ = some (.int .i64 d))) (by kernel_rfl) ?_ (fun hHeld => ?_)
        · (try dsimp only)
          refine ⟨?_, ?_, ?_, ?_⟩ <;> (repeat (with_reducible (first | refine cell_dr ?_ | refine cell_al _ ?_ | exact u0 | exact u1 | exact q0 | exact q1)))
        obtain ⟨X', hX'⟩ : ∃ X', X' = X.drew := ⟨_, rfl⟩
        replace r0 : IsR X' w.heap.size a b := by rw [hX']; exact r0
        replace r1 : IsR X' (w.heap.size + 1) c d := by rw [hX']; exact r1
        replace r2 : IsR X' R 0 0 := by rw [hX']; exact r2
        replace rz : IsR X' Z 0 1 := by rw [hX']; exact rz
        replace B1 : Below w.heap.size w X' := by rw [hX']; exact B1.drew
        rw [← hX'] at hHeld ⊢
        clear hX' 
        clear u0 u1 q0 q1 k0 k1 k2 k3 z0 z1 z2 z3 hl0 hl1 hl2 hlz hsB
        have u0 := r0.c0
        have u1 := r0.c1
        have q0 := r1.c0
        have q1 := r1.c1
        have k0 := r2.c0
        have k1 := r2.c1
        have k2 := r2.f0
        have k3 := r2.f1
        have z0 := rz.c0
        have z1 := rz.c1
        have z2 := rz.f0
        have z3 := rz.f1
        have hl0 := r0.lt
        have hl1 := r1.lt
        have hl2 := r2.lt
        have hlz := rz.lt
        have hsB := B1.size
        refine wpAnyH_take (i := 0) (v := ?_) rfl (by kernel_rfl) (by kernel_rfl) (by kernel_rfl) (fun _ _ _ h => h) (Or.inl ⟨by kernel_rfl, ?_⟩) hHeld ?_
        rotate_left
        · intro wz hSw; (try dsimp only at hSw); go_simp; all_goals (try with_reducible rfl)
        (try simp only [List.getElem_toArray]); (try simp only [List.getElem_cons_succ]); (try simp only [List.getElem_cons_zero]); (try simp only [Act.put]); (try simp only [List.setIfInBounds_toArray]); (try simp only [List.set_cons_succ]); (try simp only [List.set_cons_zero])
        refine wpAnyH_take (i := 2) (v := ?_) rfl (by kernel_rfl) (by kernel_rfl) (by kernel_rfl) (fun _ _ _ h => h) (Or.inl ⟨by kernel_rfl, ?_⟩) hHeld ?_
        rotate_left
        · intro wz hSw; (try dsimp only at hSw); go_simp; all_goals (try with_reducible rfl)
        (try simp only [List.getElem_toArray]); (try simp only [List.getElem_cons_succ]); (try simp only [List.getElem_cons_zero]); (try simp only [Act.put]); (try simp only [List.setIfInBounds_toArray]); (try simp only [List.set_cons_succ]); (try simp only [List.set_cons_zero])
        refine wpAnyH_ready (rs := [1]) (by kernel_rfl) (by simp) (AllReadyH.cons rfl (fun Kc hKc => ?_) AllReadyH.nil)
        go_simp
        (go_at_call 18; refine (HM1.out _).mono ?_; rintro e w4 ⟨rfl, hb⟩)
        replace B1 : Below w.heap.size w w4 := B1.trans (hb.mono B1.size)
        replace r0 := r0.below hb
        replace r1 := r1.below hb
        replace r2 := r2.below hb
        replace rz := rz.below hb
        clear u0 u1 q0 q1 k0 k1 k2 k3 z0 z1 z2 z3 hl0 hl1 hl2 hlz hsB
        clear hb
        have u0 := r0.c0
        have u1 := r0.c1
        have q0 := r1.c0
        have q1 := r1.c1
        have k0 := r2.c0
        have k1 := r2.c1
        have k2 := r2.f0
        have k3 := r2.f1
        have z0 := rz.c0
        have z1 := rz.c1
        have z2 := rz.f0
        have z3 := rz.f1
        have hl0 := r0.lt
        have hl1 := r1.lt
        have hl2 := r2.lt
        have hlz := rz.lt
        have hsB := B1.size
        go_wp2_with fail
        refine hKc.out _ _ ?_ (fun hHeld => ?_)
        · (try dsimp only)
          refine ⟨?_, ?_, ?_, ?_⟩ <;> (repeat (with_reducible (first | refine cell_dr ?_ | refine cell_al _ ?_ | exact u0 | exact u1 | exact q0 | exact q1)))
        clear hKc Kc
        (try simp only [List.getElem_toArray]); (try simp only [List.getElem_cons_succ]); (try simp only [List.getElem_cons_zero]); (try simp only [Act.put]); (try simp only [List.setIfInBounds_toArray]); (try simp only [List.set_cons_succ]); (try simp only [List.set_cons_zero])
        refine wpAnyH_ready (rs := [3]) (by kernel_rfl) (by simp) (AllReadyH.cons rfl (fun Kc hKc => ?_) AllReadyH.nil)
        go_simp
        (go_at_call 18; refine (HM2.out _).mono ?_; rintro e w5 ⟨rfl, hb⟩)
        replace B1 : Below w.heap.size w w5 := B1.trans (hb.mono B1.size)
        replace r0 := r0.below hb
        replace r1 := r1.below hb
        replace r2 := r2.below hb
        replace rz := rz.below hb
        clear u0 u1 q0 q1 k0 k1 k2 k3 z0 z1 z2 z3 hl0 hl1 hl2 hlz hsB
        clear hb
        have u0 := r0.c0
        have u1 := r0.c1
        have q0 := r1.c0
        have q1 := r1.c1
        have k0 := r2.c0
        have k1 := r2.c1
        have k2 := r2.f0
        have k3 := r2.f1
        have z0 := rz.c0
        have z1 := rz.c1
        have z2 := rz.f0
        have z3 := rz.f1
        have hl0 := r0.lt
        have hl1 := r1.lt
        have hl2 := r2.lt
        have hlz := rz.lt
        have hsB := B1.size
        go_wp2_with fail
        refine hKc.out _ _ ?_ (fun hHeld => ?_)
        · (try dsimp only)
          refine ⟨?_, ?_, ?_, ?_⟩ <;> (repeat (with_reducible (first | refine cell_dr ?_ | refine cell_al _ ?_ | exact u0 | exact u1 | exact q0 | exact q1)))
        clear hKc Kc
        (try simp only [List.getElem_toArray]); (try simp only [List.getElem_cons_succ]); (try simp only [List.getElem_cons_zero]); (try simp only [Act.put]); (try simp only [List.setIfInBounds_toArray]); (try simp only [List.set_cons_succ]); (try simp only [List.set_cons_zero])
        refine wpAnyH_ready (rs := [4]) (by kernel_rfl) (by simp) (AllReadyH.cons rfl (fun Kc hKc => ?_) AllReadyH.nil)
        go_simp
        (go_at_call 17; refine (HX.out _).mono ?_; rintro e w6 ⟨rfl, hb⟩)
        replace B1 : Below w.heap.size w w6 := B1.trans (hb.mono B1.size)
        replace r0 := r0.below hb
        replace r1 := r1.below hb
        replace r2 := r2.below hb
        replace rz := rz.below hb
        clear u0 u1 q0 q1 k0 k1 k2 k3 z0 z1 z2 z3 hl0 hl1 hl2 hlz hsB
        clear hb
        have u0 := r0.c0
        have u1 := r0.c1
        have q0 := r1.c0
        have q1 := r1.c1
        have k0 := r2.c0
        have k1 := r2.c1
        have k2 := r2.f0
        have k3 := r2.f1
        have z0 := rz.c0
        have z1 := rz.c1
        have z2 := rz.f0
        have z3 := rz.f1
        have hl0 := r0.lt
        have hl1 := r1.lt
        have hl2 := r2.lt
        have hlz := rz.lt
        have hsB := B1.size
        go_wp2_with fail
        refine hKc.out _ _ ?_ (fun hHeld => ?_)
        · (try dsimp only)
          refine ⟨?_, ?_, ?_, ?_⟩ <;> (repeat (with_reducible (first | refine cell_dr ?_ | refine cell_al _ ?_ | exact u0 | exact u1 | exact q0 | exact q1)))
        clear hKc Kc
        (try simp only [List.getElem_toArray]); (try simp only [List.getElem_cons_succ]); (try simp only [List.getElem_cons_zero]); (try simp only [Act.put]); (try simp only [List.setIfInBounds_toArray]); (try simp only [List.set_cons_succ]); (try simp only [List.set_cons_zero])
        refine wpAnyH_ready (rs := [5]) (by kernel_rfl) (by simp) (AllReadyH.cons rfl (fun Kc hKc => ?_) AllReadyH.nil)
        go_simp
        (go_at_call 18; refine (HM3.out _).mono ?_; rintro e w7 ⟨rfl, hb⟩)
        replace B1 : Below w.heap.size w w7 := B1.trans (hb.mono B1.size)
        replace r0 := r0.below hb
        replace r1 := r1.below hb
        replace r2 := r2.below hb
        replace rz := rz.below hb
        clear u0 u1 q0 q1 k0 k1 k2 k3 z0 z1 z2 z3 hl0 hl1 hl2 hlz hsB
        clear hb
        have u0 := r0.c0
        have u1 := r0.c1
        have q0 := r1.c0
        have q1 := r1.c1
        have k0 := r2.c0
        have k1 := r2.c1
        have k2 := r2.f0
        have k3 := r2.f1
        have z0 := rz.c0
        have z1 := rz.c1
        have z2 := rz.f0
        have z3 := rz.f1
        have hl0 := r0.lt
        have hl1 := r1.lt
        have hl2 := r2.lt
        have hlz := rz.lt
        have hsB := B1.size
        go_wp2_with fail
        refine hKc.out _ _ ?_ (fun hHeld => ?_)
        · (try dsimp only)
          refine ⟨?_, ?_, ?_, ?_⟩ <;> (repeat (with_reducible (first | refine cell_dr ?_ | refine cell_al _ ?_ | exact u0 | exact u1 | exact q0 | exact q1)))
        clear hKc Kc
        (try simp only [List.getElem_toArray]); (try simp only [List.getElem_cons_succ]); (try simp only [List.getElem_cons_zero]); (try simp only [Act.put]); (try simp only [List.setIfInBounds_toArray]); (try simp only [List.set_cons_succ]); (try simp only [List.set_cons_zero])
        refine wpAnyH_ready (rs := [6]) (by kernel_rfl) (by simp) (AllReadyH.cons rfl (fun Kc hKc => ?_) AllReadyH.nil)
        go_simp
        have v0 := ((r0.other' (b := Z) (by omega) 0 (.int .i64 (-x))).other' (b := Z) (by omega) 1 (.int .i64 y)).c0
        have v1 := ((r0.other' (b := Z) (by omega) 0 (.int .i64 (-x))).other' (b := Z) (by omega) 1 (.int .i64 y)).c1
        have s0 := ((r1.other' (b := Z) (by omega) 0 (.int .i64 (-x))).other' (b := Z) (by omega) 1 (.int .i64 y)).c0
        have s1 := ((r1.other' (b := Z) (by omega) 0 (.int .i64 (-x))).other' (b := Z) (by omega) 1 (.int .i64 y)).c1
        refine hKc.out _ _ ?_ (fun hHeld => ?_)
        · (try dsimp only)
          refine ⟨?_, ?_, ?_, ?_⟩ <;> (with_reducible (first | exact v0 | exact v1 | exact s0 | exact s1))
        clear hKc Kc
        (try simp only [List.getElem_toArray]); (try simp only [List.getElem_cons_succ]); (try simp only [List.getElem_cons_zero]); (try simp only [Act.put]); (try simp only [List.setIfInBounds_toArray]); (try simp only [List.set_cons_succ]); (try simp only [List.set_cons_zero])
        clear v0 v1 s0 s1
        refine wpAnyH_done (by kernel_rfl) ?_ _
        refine NoPanic.normal ?_
        clear hHeld
        have hbs : Below w.heap.size w ((w7.setCell ⟨Z, 0, none⟩ (.int .i64 (-x))).setCell ⟨Z, 1, none⟩ (.int .i64 y)) := (B1.setCell (p := ⟨Z, 0, none⟩) hwZ _).setCell (p := ⟨Z, 1, none⟩) hwZ _
        have rs : IsR ((w7.setCell ⟨Z, 0, none⟩ (.int .i64 (-x))).setCell ⟨Z, 1, none⟩ (.int .i64 y)) R 0 0 := (r2.other' (by omega) 0 _).other' (by omega) 1 _
        have rt : IsR ((w7.setCell ⟨Z, 0, none⟩ (.int .i64 (-x))).setCell ⟨Z, 1, none⟩ (.int .i64 y)) Z (-x) y := (rz.set0 _).set1 _
        obtain ⟨Y, hY⟩ : ∃ Y, Y = ((w7.setCell ⟨Z, 0, none⟩ (.int .i64 (-x))).setCell ⟨Z, 1, none⟩ (.int .i64 y)) := ⟨_, rfl⟩
        rw [← hY] at hbs rs rt ⊢
        clear hY rz u0 u1 q0 q1 k0 k1 k2 k3 z0 z1 z2 z3 hl0 hl1 hl2 hlz hsB
        replace B1 := hbs
        replace r2 := rs
        have z0 := rt.c0
        have z1 := rt.c1
        have hl2 := r2.lt
        have hlz := rt.lt
        go_wp2_with fail
        refine (iRed_any _ _ _).mono ?_
        rintro e w9 ⟨rfl, hb⟩
        replace B1 : Below w.heap.size w w9 := B1.trans (hb.mono B1.size)
        replace r2 := r2.below hb
        have k0 := r2.c0
        have k1 := r2.c1
        have k2 := r2.f0
        have k3 := r2.f1
        clear hb
        go_wp2
        exact bodyPost_ret (v := .tuple #[.agg #[.int .i64 (redN (-x) y), .int .i64 (redD (-x) y)], .bool (redOk (-x) y)]) (by simp [results, Try.results6, go_sem, k0, k1]) rfl ⟨ret_bt HR.out, (B1.setCell (p := ⟨R, 0, none⟩) hwR _).setCell (p := ⟨R, 1, none⟩) hwR _⟩
      · have dc : decide (c ≤ 0) = false := decide_eq_false hc
        obtain ⟨y, hy⟩ : ∃ y : Int, y = 1 := ⟨_, rfl⟩
        have hrc := red_cop (x := 0) (y := 1) (gcdi_one 0) (by omega) (by omega) (by omega) (by omega)
        have HR : Hid (btB a b c d = redOk 0 1 ∧ btN a b c d = redN 0 1 ∧ btD a b c d = redD 0 1) := by
          have := bt_yes hls (btA_mid b1 d1 (by omega) (by omega))
          rw [hrc.1, hrc.2.1, hrc.2.2]; exact this
        clear hrc h o1 o2 ag cg hy
        go_enter Try.func6, Try.ntmps6
        go_wp2_with fail
        refine (iLess_any a b c d _).mono ?_
        rintro e w1 ⟨rfl, hb⟩
        rw [hls]
        obtain ⟨R, hR⟩ : ∃ R, R = w.heap.size + 1 + 1 := ⟨_, rfl⟩
        have hwR : w.heap.size ≤ R := by omega
        have B1 : Below w.heap.size w w1 := (below_alR _ (below_alR _ (below_alR _ (Below.refl _ _)))).trans (hb.mono (by simp; omega))
        have r0 : IsR w1 w.heap.size a b := ((IsR.new w a b).below (below_alR (.cells #[.int .i64 0, .int .i64 0] 25) (below_alR (.cells #[.int .i64 c, .int .i64 d] 25) (Below.refl _ _)))).below hb
        have r1 : IsR w1 (w.heap.size + 1) c d := by simpa using ((IsR.new (w.alloc (.cells #[.int .i64 a, .int .i64 b] 25)) c d).below (below_alR (.cells #[.int .i64 0, .int .i64 0] 25) (Below.refl _ _))).below hb
        have r2 : IsR w1 R 0 0 := by
          rw [hR]
          simpa using (IsR.new ((w.alloc (.cells #[.int .i64 a, .int .i64 b] 25)).alloc (.cells #[.int .i64 c, .int .i64 d] 25)) 0 0).below hb
        have hl0 := r0.lt
        have hl1 := r1.lt
        have hl2 := r2.lt
        have u0 := r0.c0
        have u1 := r0.c1
        have q0 := r1.c0
        have q1 := r1.c1
        have k0 := r2.c0
        have k1 := r2.c1
        have k2 := r2.f0
        have k3 := r2.f1
        rw [← hR]
        clear hb hR
        go_wp2_with fail
        obtain ⟨Z, hZ⟩ : ∃ Z, Z = w1.heap.size := ⟨_, rfl⟩
        obtain ⟨X, hX⟩ : ∃ X, X = w1.alloc (.cells #[.int .i64 0, .int .i64 1] 25) := ⟨_, rfl⟩
        have hbx : Below w1.heap.size w1 X := by rw [hX]; exact below_alR _ (Below.refl _ _)
        have rz : IsR X Z 0 1 := by rw [hX, hZ]; exact IsR.new w1 0 1
        replace B1 : Below w.heap.size w X := B1.trans (hbx.mono B1.size)
        have hRZ : R < Z := by rw [hZ]; exact r2.lt
        have hAZ : w.heap.size + 1 < Z := by rw [hZ]; exact r1.lt
        have hwZ : w.heap.size ≤ Z := by omega
        replace r0 := r0.below hbx
        replace r1 := r1.below hbx
        replace r2 := r2.below hbx
        clear hbx u0 u1 q0 q1 k0 k1 k2 k3 hl0 hl1 hl2
        have u0 := r0.c0
        have u1 := r0.c1
        have q0 := r1.c0
        have q1 := r1.c1
        have k0 := r2.c0
        have k1 := r2.c1
        have k2 := r2.f0
        have k3 := r2.f1
        have z0 := rz.c0
        have z1 := rz.c1
        have z2 := rz.f0
        have z3 := rz.f1
        have hl0 := r0.lt
        have hl1 := r1.lt
        have hl2 := r2.lt
        have hlz := rz.lt
        have hsB := B1.size
        rw [← hZ, ← hX]
        clear hZ hX
        refine (iRed_any _ _ _).mono ?_
        rintro e w9 ⟨rfl, hb⟩
        replace B1 : Below w.heap.size w w9 := B1.trans (hb.mono B1.size)
        replace r2 := r2.below hb
        have k0 := r2.c0
        have k1 := r2.c1
        have k2 := r2.f0
        have k3 := r2.f1
        clear hb
        go_wp2
        exact bodyPost_ret (v := .tuple #[.agg #[.int .i64 (redN 0 1), .int .i64 (redD 0 1)], .bool (redOk 0 1)]) (by simp [results, Try.results6, go_sem, k0, k1]) rfl ⟨ret_bt HR.out, (B1.setCell (p := ⟨R, 0, none⟩) hwR _).setCell (p := ⟨R, 1, none⟩) hwR _⟩
  · rw [Bool.not_eq_true] at hls
    have HR : Hid (btB a b c d = false ∧ btN a b c d = 0 ∧ btD a b c d = 0) := bt_no hls
    go_enter Try.func6, Try.ntmps6
    go_wp2_with fail
    refine (iLess_any a b c d _).mono ?_
    rintro e w1 ⟨rfl, hb⟩
    rw [hls]
    obtain ⟨R, hR⟩ : ∃ R, R = w.heap.size + 1 + 1 := ⟨_, rfl⟩
    have hwR : w.heap.size ≤ R := by omega
    have B1 : Below w.heap.size w w1 := (below_alR _ (below_alR _ (below_alR _ (Below.refl _ _)))).trans (hb.mono (by simp; omega))
    have r0 : IsR w1 w.heap.size a b := ((IsR.new w a b).below (below_alR (.cells #[.int .i64 0, .int .i64 0] 25) (below_alR (.cells #[.int .i64 c, .int .i64 d] 25) (Below.refl _ _)))).below hb
    have r1 : IsR w1 (w.heap.size + 1) c d := by simpa using ((IsR.new (w.alloc (.cells #[.int .i64 a, .int .i64 b] 25)) c d).below (below_alR (.cells #[.int .i64 0, .int .i64 0] 25) (Below.refl _ _))).below hb
    have r2 : IsR w1 R 0 0 := by
      rw [hR]
      simpa using (IsR.new ((w.alloc (.cells #[.int .i64 a, .int .i64 b] 25)).alloc (.cells #[.int .i64 c, .int .i64 d] 25)) 0 0).below hb
    have hl0 := r0.lt
    have hl1 := r1.lt
    have hl2 := r2.lt
    have u0 := r0.c0
    have u1 := r0.c1
    have q0 := r1.c0
    have q1 := r1.c1
    have k0 := r2.c0
    have k1 := r2.c1
    have k2 := r2.f0
    have k3 := r2.f1
    rw [← hR]
    clear hb hR
    go_wp2
    exact bodyPost_ret (v := .tuple #[.agg #[.int .i64 0, .int .i64 0], .bool false]) (by simp [results, Try.results6, go_sem, k0, k1]) rfl ⟨ret_bt HR.out, by first | exact (B1.setCell (p := ⟨R, 0, none⟩) hwR _).setCell (p := ⟨R, 1, none⟩) hwR _ | exact B1⟩
end Go.Proofs.Ytmlnabgmibhfhab
