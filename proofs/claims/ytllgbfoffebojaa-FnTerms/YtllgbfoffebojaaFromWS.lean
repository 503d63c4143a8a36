/- The walk of the model's FromTerms: the way back, and the tests ahead of it. -/
import Derived.Test.YtllgbfoffebojaaCalcW
import Derived.Test.YtllgbfoffebojaaRowsW
import Derived.Deep.RegionWith
import Derived.Deep.CutRange
namespace Go.Proofs.Ytllgbfoffebojaa
open Go.RowKit Go.Proofs.Ytllgbfoffebojaa.RM

theorem ret3 {a b : Int} {c : Bool} {r : Int × Int × Bool} (h : r = (a, b, c)) : Ending.returned (.tuple #[.agg #[.int .i64 a, .int .i64 b], .bool c]) = .returned (.tuple #[.agg #[.int .i64 r.1, .int .i64 r.2.1], .bool r.2.2]) := by rw [h]

set_option maxRecDepth 100000 in
set_option maxHeartbeats 2000000 in
theorem sFrom_any (v : Value) (zs : List Int) (n base : Nat) (w : World) (hn : zs.length = n) (hn2 : n ≤ 1000000000) (hr : w.ownsRow base 2 1 v n (zs.map (Value.int .i64))) :
    Calls Try.prog 35 #[v] w fun e w' => e = .returned (.tuple #[.agg #[.int .i64 (fromT zs).1, .int .i64 (fromT zs).2.1], .bool (fromT zs).2.2]) ∧ Below w.heap.size w w' := by
  have HN : Hid (zs.length = n) := hn
  by_cases h0 : n < 1
  · obtain ⟨a, c, rfl⟩ := own_shape hr
    have hz : Hid (fromT zs = (0, 0, false)) := fromT_no (l := zs) (by omega)
    clear hr hn HN
    obtain rfl : n = 0 := by omega
    go_enter Try.func35, Try.ntmps35
    go_wp2
    exact bodyPost_ret (v := .tuple #[.agg #[.int .i64 0, .int .i64 0], .bool false]) (by simp [results, Try.results35, go_sem]) rfl ⟨ret3 hz.out, (Below.refl _ _).alloc (Nat.le_refl _) _⟩
  by_cases h1 : 60 < n
  · obtain ⟨a, c, rfl⟩ := own_shape hr
    have hz : Hid (fromT zs = (0, 0, false)) := fromT_no (l := zs) (by omega)
    clear hr hn HN
    go_enter Try.func35, Try.ntmps35
    go_wp2
    exact bodyPost_ret (v := .tuple #[.agg #[.int .i64 0, .int .i64 0], .bool false]) (by simp [results, Try.results35, go_sem]) rfl ⟨ret3 hz.out, (Below.refl _ _).alloc (Nat.le_refl _) _⟩
  obtain ⟨g, c, rfl⟩ := own_some hr (by omega)
  have hg : g < w.heap.size := (hr.lt g rfl).2
  have HC : Hid (∀ j, j < n → w.cell? ⟨g, j, none⟩ = some (.int .i64 (zs[j]?.getD 0))) := fun j hj => own_int hr hn j hj
  clear hr hn
  go_enter Try.func35, Try.ntmps35
  go_wp2
  go_loop [5] (fun i => ∃ k : Nat, k ≤ n ∧ i = .int .i64 k ∧ Hid (∀ j, j < k → ¬ badT zs j)) (fun i => n - (intOf i).toNat)
  case atStart => exact ⟨0, Nat.zero_le _, rfl, fun j hj => absurd hj (Nat.not_lt_zero _)⟩
  case round =>
    obtain ⟨k, hk, rfl, HB⟩ := hrel
    by_cases hlt : k < n
    · have c1 := HC.out k hlt
      obtain ⟨x, hx⟩ : ∃ x, x = zs[k]?.getD 0 := ⟨_, rfl⟩
      rw [← hx] at c1
      by_cases b1 : 0 < k ∧ x < 1
      · obtain ⟨b1, b2⟩ := b1
        have hz : Hid (fromT zs = (0, 0, false)) := fromT_bad (k := k) (by rw [HN.out]; exact hlt) (.inl ⟨b1, by rw [← hx]; exact b2⟩)
        clear hx HN HB
        go_wp2
        exact bodyPost_ret (v := .tuple #[.agg #[.int .i64 0, .int .i64 0], .bool false]) (by simp [results, Try.results35, go_sem]) rfl ⟨ret3 hz.out, (Below.refl _ _).alloc (Nat.le_refl _) _⟩
      · by_cases b2 : inR x
        · have hi := inB_yes b2.1 b2.2
          have HB' : Hid (∀ j, j < k + 1 → ¬ badT zs j) := by
            intro j hj
            by_cases e : j = k
            · subst e
              rintro (⟨h, h'⟩ | h)
              · exact b1 ⟨h, by rw [hx]; exact h'⟩
              · exact h (by rw [← hx]; exact b2)
            · exact HB.out j (by omega)
          clear hx HN HB
          by_cases k0 : 0 < k
          all_goals
            go_wp2_with (go_at_call 58; refine (in_any _ _ _ _).mono ?_; rintro e w' ⟨rfl, rfl⟩)
            go_round
            case rel => exact ⟨k + 1, by omega, by go_num, HB'⟩
            case measure => simp [intOf]; omega
        · have hi : inB x (-1000000000) 1000000000 = false := inB_no b2
          have hz : Hid (fromT zs = (0, 0, false)) := fromT_bad (k := k) (by rw [HN.out]; exact hlt) (.inr (by rw [← hx]; exact b2))
          clear hx HN HB b2
          by_cases k0 : 0 < k
          all_goals
            go_wp2_with (go_at_call 58; refine (in_any _ _ _ _).mono ?_; rintro e w' ⟨rfl, rfl⟩)
            exact bodyPost_ret (v := .tuple #[.agg #[.int .i64 0, .int .i64 0], .bool false]) (by simp [results, Try.results35, go_sem]) rfl ⟨ret3 hz.out, (Below.refl _ _).alloc (Nat.le_refl _) _⟩
    · obtain rfl : k = n := by omega
      have hm := from_model (l := zs) (by rw [HN.out]; omega) (by rw [HN.out]; omega) (by rw [HN.out]; exact HB.out)
      have HM : Hid _ := hm
      have c1 := HC.out (k - 1) (by omega)
      clear hm HB
      go_wp2
      obtain ⟨R, hR⟩ : ∃ R, R = w.heap.size + 1 + 1 := ⟨_, rfl⟩
      obtain ⟨K, hK⟩ : ∃ K, K = w.heap.size + 1 := ⟨_, rfl⟩
      obtain ⟨A, hA⟩ : ∃ A, A = w.heap.size := ⟨_, rfl⟩
      obtain ⟨x, hx⟩ : ∃ x, x = zs[k - 1]?.getD 0 := ⟨_, rfl⟩
      obtain ⟨W, hW⟩ : ∃ W, W = ((w.alloc (.cells #[.int .i64 0, .int .i64 0] 25)).alloc (.cells #[.bool false] 73)).alloc (.cells #[.int .i64 x, .int .i64 1] 25) := ⟨_, rfl⟩
      have rA : IsR W A 0 0 := by
        have := ((IsR.new w 0 0).below ((Below.refl _ _).alloc (Nat.le_refl _) (.cells #[.bool false] 73))).below ((Below.refl _ _).alloc (Nat.le_refl _) (.cells #[.int .i64 x, .int .i64 1] 25))
        rw [hW, hA]; exact this
      have rK : IsK W K false := by
        have := (IsK.new (w.alloc (.cells #[.int .i64 0, .int .i64 0] 25)) false).below ((Below.refl _ _).alloc (Nat.le_refl _) (.cells #[.int .i64 x, .int .i64 1] 25))
        rw [hW, hK]; simpa using this
      have rR : IsR W R x 1 := by
        have := IsR.new ((w.alloc (.cells #[.int .i64 0, .int .i64 0] 25)).alloc (.cells #[.bool false] 73)) x 1
        rw [hW, hR]; simpa using this
      have rB : Below w.heap.size w W := by
        rw [hW]; exact (((Below.refl _ _).alloc (Nat.le_refl _) _).alloc (by simp) _).alloc (by simp <;> omega) _
      have hAK : A ≠ K := by omega
      have hAR : A ≠ R := by omega
      have hRK : R ≠ K := by omega
      have hwK : w.heap.size ≤ K := by omega
      have hwR : w.heap.size ≤ R := by omega
      have HG : Hid (g < w.heap.size) := hg
      have e0 : spL (zs.drop (k - 1)) = (x, 1, false) := by
        rw [last_drop zs (k - 1) (by rw [HN.out]; omega), hx]; rfl
      have r0 : IsR W R (spL (zs.drop (k - 1))).1 (spL (zs.drop (k - 1))).2.1 := by rw [e0]; exact rR
      have k0 : IsK W K (spL (zs.drop (k - 1))).2.2 := by rw [e0]; exact rK
      rw [← hx, ← hW, ← hR, ← hK, ← hA]
      have hwA : w.heap.size ≤ A := by omega
      clear hx hW hR hK hA e0 rR rK c1 hg
      go_loopw [8] (fun i wr => ∃ (j : Nat) (i0 : Int), j + 1 ≤ k ∧ i0 + 1 = j ∧ i = .int .i64 i0 ∧ Hid (IsR wr R (spL (zs.drop j)).1 (spL (zs.drop j)).2.1) ∧ Hid (IsK wr K (spL (zs.drop j)).2.2) ∧ Hid (IsR wr A 0 0) ∧ Hid (Below w.heap.size w wr)) (fun i _ => (intOf i + 1).toNat)
      case atStart => exact ⟨k - 1, (k : Int) - 2, by omega, by omega, rfl, r0, k0, rA, rB⟩
      case round =>
        clear r0 k0 rA rB
        obtain ⟨j, i0, hj, hi0, rfl, hR, hK, hA', hB⟩ := hrel
        by_cases j0 : j = 0
        · subst j0
          obtain rfl : i0 = -1 := by omega
          rw [List.drop_zero] at hR hK
          have hf0 := hA'.out.f0
          have hf1 := hA'.out.f1
          rcases HM.out with ⟨m1, m2⟩ | ⟨m1, m2, m3⟩
          · rw [m1] at hK
            have hk0 := hK.out.cell
            have M2 : Hid (fromT zs = (0, 0, false)) := m2
            have hc0 := hA'.out.c0
            have hc1 := hA'.out.c1
            clear m1 m2 hj hi0
            go_wp2
            exact bodyPost_ret (v := .tuple #[.agg #[.int .i64 0, .int .i64 0], .bool false]) (by simp [results, Try.results35, go_sem, hc0, hc1]) rfl ⟨ret3 M2.out, by first | exact (hB.out.setCell (p := ⟨A, 0, none⟩) hwA _).setCell (p := ⟨A, 1, none⟩) hwA _ | exact hB.out⟩
          · rw [m1] at hK
            have hk0 := hK.out.cell
            generalize spL zs = r at *
            obtain ⟨a, d, bd⟩ := r
            have M2 : Hid (fromT zs = (a, d, true)) := m2
            have M3 : Hid (okB a d = true) := m3
            have R1 : Hid (IsR wr R a d) := hR
            have hc0 := R1.out.c0
            have hc1 := R1.out.c1
            clear m1 m2 m3 hR hj hi0
            go_wp2_with fail
            refine (sOk_any _ _ _).mono ?_
            rintro e w1 ⟨rfl, hb⟩
            rw [M3.out]
            have r1 := R1.out.below hb
            have a1 := hA'.out.below hb
            have B1 := hB.out.trans (hb.mono hB.out.size)
            have d0 := r1.c0
            have d1 := r1.c1
            have e0 := a1.f0
            have e1 := a1.f1
            have e2 := a1.c0
            have e3 := a1.c1
            clear hb hc0 hc1 hk0 hf0 hf1
            go_wp2
            exact bodyPost_ret (v := .tuple #[.agg #[.int .i64 a, .int .i64 d], .bool true]) (by simp [results, Try.results35, go_sem, e2, e3]) rfl ⟨ret3 M2.out, (B1.setCell (p := ⟨A, 0, none⟩) hwA _).setCell (p := ⟨A, 1, none⟩) hwA _⟩
        · obtain ⟨m, rfl⟩ : ∃ m, j = m + 1 := ⟨j - 1, by omega⟩
          obtain rfl : i0 = (m : Int) := by omega
          clear j0 hi0
          have es := spL_drop zs m (by rw [HN.out]; omega)
          have c2 := (hB.out.cell (p := ⟨g, m, none⟩) HG.out).trans (HC.out m (by omega))
          obtain ⟨y, hy⟩ : ∃ y, y = zs[m]?.getD 0 := ⟨_, rfl⟩
          rw [← hy] at c2 es
          generalize spL (zs.drop (m + 1)) = r at *
          obtain ⟨a, d, bd⟩ := r
          obtain ⟨pn, hpn⟩ : ∃ z, z = kN (divO a d) (divN a d) := ⟨_, rfl⟩
          obtain ⟨pd, hpd⟩ : ∃ z, z = kD (divO a d) (divD a d) := ⟨_, rfl⟩
          obtain ⟨b1, hb1⟩ : ∃ z, z = (bd || !divO a d) := ⟨_, rfl⟩
          have HD : Hid (∀ u : World, IsK u K bd → Calls Try.prog 66 #[.pointer (some ⟨K, 0, none⟩), .agg #[.int .i64 1, .int .i64 1], .agg #[.int .i64 a, .int .i64 d]] u fun e u' => e = .returned (.agg #[.int .i64 pn, .int .i64 pd]) ∧ IsK u' K b1 ∧ u.grownBy u' (some K)) := by
            intro u hu; rw [hpn, hpd, hb1]; exact cDiv_any K bd 1 1 a d u hu
          obtain ⟨sn, hsn⟩ : ∃ z, z = kN (addO y pn pd) (addN y pn pd) := ⟨_, rfl⟩
          obtain ⟨sd, hsd⟩ : ∃ z, z = kD (addO y pn pd) (addD y pn pd) := ⟨_, rfl⟩
          obtain ⟨b2, hb2⟩ : ∃ z, z = (b1 || !addO y pn pd) := ⟨_, rfl⟩
          have HA : Hid (∀ u : World, IsK u K b1 → Calls Try.prog 68 #[.pointer (some ⟨K, 0, none⟩), .agg #[.int .i64 y, .int .i64 1], .agg #[.int .i64 pn, .int .i64 pd]] u fun e u' => e = .returned (.agg #[.int .i64 sn, .int .i64 sd]) ∧ IsK u' K b2 ∧ u.grownBy u' (some K)) := by
            intro u hu; rw [hsn, hsd, hb2]; exact cAdd_any K b1 y 1 pn pd u hu
          have ES : Hid (spL (zs.drop m) = (sn, sd, b2)) := by
            show _ = _
            rw [es, hsn, hsd, hb2, hb1, hpn, hpd]; rfl
          clear es hpn hpd hb1 hsn hsd hb2
          have hR1 : Hid (IsR wr R a d) := hR
          have hK1 : Hid (IsK wr K bd) := hK
          have hc0 := hR1.out.c0
          have hc1 := hR1.out.c1
          have HY : Hid (w.cell? ⟨g, m, none⟩ = some (.int .i64 y)) := by show _ = _; rw [hy]; exact HC.out m (by omega)
          clear hR hK hy
          go_upto_region 14 with fail
          go_cut [] from 51 to 66 (fun wx => Hid (IsR wx R pn pd) ∧ Hid (IsK wx K b1) ∧ Hid (IsR wx A 0 0) ∧ Hid (Below w.heap.size w wx))
          case first =>
            go_region_with (first | (go_at_call 67; refine (one_any _).mono ?_; rintro e w1 ⟨rfl, hb⟩; have r1 : IsR w1 R a d := IsR.below (by exact hR1.out) hb; have q1 : IsK w1 K bd := IsK.below (by exact hK1.out) hb; have a1 : IsR w1 A 0 0 := IsR.below (by exact hA'.out) hb; have b1 : Below w.heap.size w w1 := Below.trans (by first | exact hB.out | exact hB.out.drew | exact below_drewN hB.out _) (hb.mono (by simpa using hB.out.size)); have d0 := r1.c0; have d1 := r1.c1) | (go_at_call 66; refine (HD.out _ (by exact q1)).mono ?_; rintro e w2 ⟨rfl, q2, g2⟩; have r2 : IsR w2 R a d := IsR.grown (by exact r1) g2 hRK; have a2 : IsR w2 A 0 0 := IsR.grown (by exact a1) g2 hAK; have b2' : Below w.heap.size w w2 := Below.trans (by first | exact b1 | exact b1.drew | exact below_drewN b1 _) (below_grownK g2 hwK (by simpa using b1.size)); have e0 := r2.c0; have e1 := r2.c1; have e2 := r2.f0; have e3 := r2.f1))
            all_goals (go_wp2_with fail)
            all_goals
              go_meet
              case rel => exact ⟨(r2.set0 pn).set1 pd, (q2.other hRK.symm 0 _).other hRK.symm 1 _, (a2.other hAR 0 _).other hAR 1 _, (b2'.setCell (p := ⟨R, 0, none⟩) hwR _).setCell (p := ⟨R, 1, none⟩) hwR _⟩
          case rest =>
            clear hR1 hK1 hA' hB hc0 hc1 c2
            obtain ⟨hR1, hK1, hA', hB⟩ := hcut
            have hc0 := hR1.out.c0
            have hc1 := hR1.out.c1
            have c2 := (hB.out.cell (p := ⟨g, m, none⟩) HG.out).trans HY.out
            go_upto_region 15 with fail
            go_region_with (first | (go_at_call 68; refine (HA.out _ (by exact hK1.out)).mono ?_; rintro e w2 ⟨rfl, q2, g2⟩; have r2 : IsR w2 R pn pd := IsR.grown (by exact hR1.out) g2 hRK; have a2 : IsR w2 A 0 0 := IsR.grown (by exact hA'.out) g2 hAK; have b2' : Below w.heap.size w w2 := Below.trans (by first | exact hB.out | exact hB.out.drew | exact below_drewN hB.out _) (below_grownK g2 hwK (by simpa using hB.out.size)); have e0 := r2.c0; have e1 := r2.c1; have e2 := r2.f0; have e3 := r2.f1))
            all_goals go_wp2
            all_goals
              go_roundw
              case rel => exact ⟨m, (m : Int) - 1, by omega, by omega, rfl, by rw [ES.out]; exact (r2.set0 sn).set1 sd, by rw [ES.out]; exact (q2.other hRK.symm 0 _).other hRK.symm 1 _, (a2.other hAR 0 _).other hAR 1 _, (b2'.setCell (p := ⟨R, 0, none⟩) hwR _).setCell (p := ⟨R, 1, none⟩) hwR _⟩
              case measure => simp [intOf] <;> omega
end Go.Proofs.Ytllgbfoffebojaa
