/- The walk of the program's takeFromRow. -/
import Derived.Test.YtkcdpjcfbpjkeaiEchW1
import Derived.Test.YtkcdpjcfbpjkeaiTimW3
namespace Go.Proofs.Ytkcdpjcfbpjkeai
open Go.RowKit Go.Proofs.Ytkcdpjcfbpjkeai.RM

set_option maxRecDepth 100000 in
set_option maxHeartbeats 2000000 in
theorem takeRow_any (vo vw : Value) (other what : List Fr) (t1 t2 : Int) (base baseW : Nat) (w : World) (hl : what.length = other.length) (hn2 : other.length ≤ 1000) (ho : w.ownsRow base 24 2 vo other.length (cellsR other)) (hw : w.ownsRow baseW 24 2 vw what.length (cellsR what)) (hne : ∀ b, vo.ownBlock = some b → vw.ownBlock ≠ some b) :
    Calls Try.prog 87 #[vo, .agg #[.int .i64 t1, .int .i64 t2], vw] w fun e w' => e = .returned (.bool (takeB other (t1, t2) what)) ∧ (takeB other (t1, t2) what = true → w'.ownsRow base 24 2 vo other.length (cellsR (takeR other (t1, t2) what))) ∧ w.grownBy w' vo.ownBlock := by
  have b0 : ∀ {u : World} (o : Obj), Below u.heap.size u (u.alloc o) := fun o => (Below.refl _ _).alloc (Nat.le_refl _) o
  obtain ⟨n, hn⟩ : ∃ n, other.length = n := ⟨_, rfl⟩
  rw [hn] at hl
  rw [hl] at hw
  rw [hn] at ho hn2 ⊢
  by_cases h0 : n = 0
  · subst h0
    obtain rfl : other = [] := List.eq_nil_of_length_eq_zero hn
    obtain ⟨a, c, rfl⟩ := own_shape ho
    obtain ⟨a', c', rfl⟩ := own_shape hw
    have H1 : Hid (w.ownsRow base 24 2 (.slice a 0 c) 0 []) := ho
    clear ho hw hn hne hl
    go_enter Try.func87, Try.ntmps87
    go_wp2
    go_loop [15] (fun i => i = .int .i64 0) (fun _ => 0)
    case atStart => exact rfl
    case round =>
      subst hrel
      go_wp2
      go_ret
      exact ⟨rfl, fun _ => own_below H1.out (b0 _), grown_new (b0 _)⟩
  · obtain ⟨g, c, rfl⟩ := own_some ho (by omega)
    obtain ⟨gw, cw, rfl⟩ := own_some hw (by omega)
    have hg : g < w.heap.size := (World.ownsRow.lt ho g rfl).2
    have hgw : gw < w.heap.size := (World.ownsRow.lt hw gw rfl).2
    have hgg : gw ≠ g := by have := hne g rfl; simpa [Value.ownBlock] using this
    have HN : Hid (other.length = n) := hn
    have HL : Hid (what.length = n) := hl
    have H1 : Hid (w.ownsRow base 24 2 (.slice (some ⟨g, 0, none⟩) n c) n (cellsR other)) := ho
    have H2 : Hid (w.ownsRow baseW 24 2 (.slice (some ⟨gw, 0, none⟩) n cw) n (cellsR what)) := hw
    clear ho hw hn h0 hl hne
    go_enter Try.func87, Try.ntmps87
    go_wp2
    obtain ⟨F, hF⟩ : ∃ F, F = w.heap.size := ⟨_, rfl⟩
    obtain ⟨X, hX⟩ : ∃ X, X = w.alloc (.cells #[.int .i64 t1, .int .i64 t2] 24) := ⟨_, rfl⟩
    have rF : IsR X F t1 t2 := by rw [hX, hF]; exact IsR.new w t1 t2
    have o0 : X.ownsRow base 24 2 (.slice (some ⟨g, 0, none⟩) n c) n (cellsR (parF (fun i => takeE (fr other i) (t1, t2) (fr what i)) other 0)) := by
      rw [parF_zero, hX]; exact own_below H1.out (b0 _)
    have q0 : X.ownsRow baseW 24 2 (.slice (some ⟨gw, 0, none⟩) n cw) n (cellsR what) := by rw [hX]; exact own_below H2.out (b0 _)
    have g0 : w.grownBy X (some g) := by rw [hX]; exact grown_new (b0 _)
    have hFg : F ≠ g := by omega
    have hwF : w.heap.size ≤ F := by omega
    rw [← hX, ← hF]
    clear hX hF H1 H2
    go_loopw [15] (fun i wr => ∃ k : Nat, k ≤ n ∧ i = .int .i64 k ∧ Hid (IsR wr F t1 t2) ∧ Hid (wr.ownsRow base 24 2 (.slice (some ⟨g, 0, none⟩) n c) n (cellsR (parF (fun i => takeE (fr other i) (t1, t2) (fr what i)) other k))) ∧ Hid (wr.ownsRow baseW 24 2 (.slice (some ⟨gw, 0, none⟩) n cw) n (cellsR what)) ∧ Hid (w.grownBy wr (some g)) ∧ Hid (∀ i, i < k → takeK (fr other i) (t1, t2) (fr what i) = true)) (fun i _ => n - (intOf i).toNat)
    case atStart => exact ⟨0, Nat.zero_le _, rfl, rF, o0, q0, g0, fun i hi => absurd hi (Nat.not_lt_zero _)⟩
    case round =>
      clear rF o0 g0 q0
      obtain ⟨k, hk, rfl, rF, hO, hW, hG, HP⟩ := hrel
      by_cases hlt : k < n
      · obtain ⟨c1, c2⟩ := own_R hW.out HL.out k hlt
        obtain ⟨c3, c4⟩ := own_R hO.out (by rw [parF_len]; exact HN.out) k hlt
        rw [parF_at _ _ _ (by rw [HN.out]; exact hlt)] at c3 c4
        obtain ⟨x, hx⟩ : ∃ x, x = fr what k := ⟨_, rfl⟩
        obtain ⟨y, hy⟩ : ∃ y, y = fr other k := ⟨_, rfl⟩
        rw [show what[k]?.getD (0, 0) = fr what k from rfl, ← hx] at c1 c2
        rw [← hy] at c3 c4
        obtain ⟨x1, x2⟩ := x
        obtain ⟨y1, y2⟩ := y
        obtain ⟨m, hm⟩ : ∃ q, q = mulP (t1, t2) (x1, x2) := ⟨_, rfl⟩
        obtain ⟨mo, hmo⟩ : ∃ q, q = mulK (t1, t2) (x1, x2) := ⟨_, rfl⟩
        have HM : Hid (∀ u : World, Calls Try.prog 73 #[.agg #[.int .i64 t1, .int .i64 t2], .agg #[.int .i64 x1, .int .i64 x2]] u fun e w' => e = .returned (.tuple #[.agg #[.int .i64 m.1, .int .i64 m.2], .bool mo]) ∧ Below u.heap.size u w') := by
          intro u; rw [hm, hmo]; exact mulC t1 t2 x1 x2 u
        obtain ⟨s, hs⟩ : ∃ q, q = takeE (y1, y2) (t1, t2) (x1, x2) := ⟨_, rfl⟩
        obtain ⟨so, hso⟩ : ∃ q, q = takeK (y1, y2) (t1, t2) (x1, x2) := ⟨_, rfl⟩
        have HS : Hid (s = takeE (fr other k) (t1, t2) (fr what k)) := by show _ = _; rw [← hx, ← hy]; exact hs
        have HSO : Hid (so = takeK (fr other k) (t1, t2) (fr what k)) := by show _ = _; rw [← hx, ← hy]; exact hso
        unfold takeE at hs
        unfold takeK at hso
        rw [← hm] at hs hso
        obtain ⟨m1, m2⟩ := m
        have HD : Hid (∀ u : World, Calls Try.prog 89 #[.agg #[.int .i64 y1, .int .i64 y2], .agg #[.int .i64 m1, .int .i64 m2]] u fun e w' => e = .returned (.tuple #[.agg #[.int .i64 s.1, .int .i64 s.2], .bool so]) ∧ Below u.heap.size u w') := by
          intro u; rw [hs, hso]; exact subC y1 y2 m1 m2 u
        obtain ⟨s1, s2⟩ := s
        dsimp only at c1 c2 c3 c4 HM HD
        have hgwl : gw < wr.heap.size := (World.ownsRow.lt hW.out gw rfl).2
        have rFx := rF.out.below (b0 (.cells #[.int .i64 x1, .int .i64 x2] 24))
        have rF0 := rFx.c0
        have rF1 := rFx.c1
        clear hx hy hm hmo hs hso rFx
        go_wp2_with fail
        refine (HM.out _).mono ?_
        rintro e w2 ⟨rfl, hb⟩
        obtain ⟨N, hN⟩ : ∃ N, N = w2.heap.size := ⟨_, rfl⟩
        obtain ⟨Xr, hXr⟩ : ∃ X, X = w2.alloc (.cells #[.int .i64 m1, .int .i64 m2] 24) := ⟨_, rfl⟩
        have hbx : Below wr.heap.size wr Xr := by rw [hXr]; exact ((b0 _).trans (hb.mono (by simp))).alloc (by have := hb.size; simp at this; omega) _
        have rN : IsR Xr N m1 m2 := by rw [hXr, hN]; exact IsR.new w2 m1 m2
        have r0 := rN.c0
        have r1 := rN.c1
        have hNx : N < Xr.heap.size := rN.lt
        replace c3 := cell_keep hbx c3
        replace c4 := cell_keep hbx c4
        have hgN : g < N := by rw [hN]; have := (World.ownsRow.lt hO.out g rfl).2; have := hb.size; simp at this; omega
        replace hO := own_below hO.out hbx
        replace hW := own_below hW.out hbx
        replace rF := rF.out.below hbx
        replace hG := g_below hG.out hbx
        clear hb hbx rF0 rF1 c1 c2 hgwl
        go_upto_region 5 with fail
        rw [← hXr, ← hN]
        clear hXr hN
        have hFX := rF.lt
        have hgX : g < Xr.heap.size := by omega
        have hgwX : gw < Xr.heap.size := (World.ownsRow.lt hW gw rfl).2
        have hwX : w.heap.size ≤ Xr.heap.size := by omega
        go_cut [11, 12] from 16 to 41 (fun x11 x12 wx => ∃ P, x11 = .pointer (some ⟨P, 0, none⟩) ∧ x12 = .bool so ∧ Hid (IsR wx P s1 s2) ∧ Hid (IsR wx F t1 t2) ∧ Hid (wx.ownsRow base 24 2 (.slice (some ⟨g, 0, none⟩) n c) n (cellsR (parF (fun i => takeE (fr other i) (t1, t2) (fr what i)) other k))) ∧ Hid (wx.ownsRow baseW 24 2 (.slice (some ⟨gw, 0, none⟩) n cw) n (cellsR what)) ∧ Hid (w.grownBy wx (some g)))
        case first =>
          refine wp_region_noPanic ?_
          refine wp_region_held_drew (S := (fun w' => w'.cell? ⟨N, 0, none⟩ = some (.int .i64 m1) ∧ w'.cell? ⟨N, 1, none⟩ = some (.int .i64 m2) ∧ w'.cell? ⟨g, k * 2, none⟩ = some (.int .i64 y1) ∧ w'.cell? ⟨g, k * 2 + 1, none⟩ = some (.int .i64 y2))) (by kernel_rfl) ?_ (fun hHeld => ?_)
          · (try dsimp only)
            refine ⟨?_, ?_, ?_, ?_⟩ <;> (repeat (with_reducible (first | exact r0 | exact r1 | exact c3 | exact c4 | refine cell_dr ?_ | refine cell_al _ ?_ | refine cell_stb ?_ ?_ | (show _ ≠ _; omega))))
          refine wpAnyH_take (i := 0) (v := ?_) rfl (by kernel_rfl) (by kernel_rfl) (by kernel_rfl) (fun _ _ _ h => h) (Or.inl ⟨by kernel_rfl, ?_⟩) hHeld ?_
          rotate_left
          · intro wz hSw; (try dsimp only at hSw); go_simp; all_goals (try with_reducible rfl)
          (try simp only [List.getElem_toArray]); (try simp only [List.getElem_cons_succ]); (try simp only [List.getElem_cons_zero]); (try simp only [Act.put]); (try simp only [List.setIfInBounds_toArray]); (try simp only [List.set_cons_succ]); (try simp only [List.set_cons_zero])
          refine wpAnyH_take (i := 1) (v := ?_) rfl (by kernel_rfl) (by kernel_rfl) (by kernel_rfl) (fun _ _ _ h => h) (Or.inl ⟨by kernel_rfl, ?_⟩) hHeld ?_
          rotate_left
          · intro wz hSw; (try dsimp only at hSw); go_simp; all_goals (try with_reducible rfl)
          (try simp only [List.getElem_toArray]); (try simp only [List.getElem_cons_succ]); (try simp only [List.getElem_cons_zero]); (try simp only [Act.put]); (try simp only [List.setIfInBounds_toArray]); (try simp only [List.set_cons_succ]); (try simp only [List.set_cons_zero])
          refine wpAnyH_take (i := 2) (v := ?_) rfl (by kernel_rfl) (by kernel_rfl) (by kernel_rfl) (fun _ _ _ h => h) (Or.inl ⟨by kernel_rfl, ?_⟩) hHeld ?_
          rotate_left
          · intro wz hSw; (try dsimp only at hSw); go_simp; all_goals (try with_reducible rfl)
          (try simp only [List.getElem_toArray]); (try simp only [List.getElem_cons_succ]); (try simp only [List.getElem_cons_zero]); (try simp only [Act.put]); (try simp only [List.setIfInBounds_toArray]); (try simp only [List.set_cons_succ]); (try simp only [List.set_cons_zero])
          refine wpAnyH_take (i := 3) (v := ?_) rfl (by kernel_rfl) (by kernel_rfl) (by kernel_rfl) (fun _ _ _ h => h) (Or.inl ⟨by kernel_rfl, ?_⟩) hHeld ?_
          rotate_left
          · intro wz hSw; (try dsimp only at hSw); go_simp; all_goals (try with_reducible rfl)
          (try simp only [List.getElem_toArray]); (try simp only [List.getElem_cons_succ]); (try simp only [List.getElem_cons_zero]); (try simp only [Act.put]); (try simp only [List.setIfInBounds_toArray]); (try simp only [List.set_cons_succ]); (try simp only [List.set_cons_zero])
          refine wpAnyH_take (i := 4) (v := ?_) rfl (by kernel_rfl) (by kernel_rfl) (by kernel_rfl) (fun _ _ _ h => h) (Or.inl ⟨by kernel_rfl, ?_⟩) hHeld ?_
          rotate_left
          · intro wz hSw; (try dsimp only at hSw); go_simp; all_goals (try with_reducible rfl)
          (try simp only [List.getElem_toArray]); (try simp only [List.getElem_cons_succ]); (try simp only [List.getElem_cons_zero]); (try simp only [Act.put]); (try simp only [List.setIfInBounds_toArray]); (try simp only [List.set_cons_succ]); (try simp only [List.set_cons_zero])
          refine wpAnyH_ready (rs := [5, 9]) (by kernel_rfl) (by simp) (AllReadyH.cons rfl (fun Kc hKc => ?_) (AllReadyH.cons rfl (fun Kc hKc => ?_) AllReadyH.nil))
          · go_simp
            (go_at_call 89; refine (HD.out _).mono ?_; rintro e w3 ⟨rfl, hb2⟩)
            have hbd : Below Xr.heap.size Xr w3 := ((Below.refl _ _).drew).trans (hb2.mono (by simp))
            have c3 := cell_keep hbd c3
            have c4 := cell_keep hbd c4
            have r0 := cell_keep hbd r0
            have r1 := cell_keep hbd r1
            have q0 := rF.below hbd
            have q1 := own_below hO hbd
            have q2 := own_below hW hbd
            have q3 := g_below hG hbd
            have hsw := hbd.size
            clear hb2
            go_wp2_with fail
            refine hKc.out _ _ ?_ (fun hHeld => ?_)
            · (try dsimp only)
              refine ⟨?_, ?_, ?_, ?_⟩ <;> (repeat (with_reducible (first | exact r0 | exact r1 | exact c3 | exact c4 | refine cell_dr ?_ | refine cell_al _ ?_ | refine cell_stb ?_ ?_ | (show _ ≠ _; omega))))
            clear hKc Kc
            (try simp only [List.getElem_toArray]); (try simp only [List.getElem_cons_succ]); (try simp only [List.getElem_cons_zero]); (try simp only [Act.put]); (try simp only [List.setIfInBounds_toArray]); (try simp only [List.set_cons_succ]); (try simp only [List.set_cons_zero])
            refine wpAnyH_take (i := 6) (v := ?_) rfl (by kernel_rfl) (by kernel_rfl) (by kernel_rfl) (fun _ _ _ h => h) (Or.inl ⟨by kernel_rfl, ?_⟩) hHeld ?_
            rotate_left
            · intro wz hSw; (try dsimp only at hSw); go_simp; all_goals (try with_reducible rfl)
            (try simp only [List.getElem_toArray]); (try simp only [List.getElem_cons_succ]); (try simp only [List.getElem_cons_zero]); (try simp only [Act.put]); (try simp only [List.setIfInBounds_toArray]); (try simp only [List.set_cons_succ]); (try simp only [List.set_cons_zero])
            refine wpAnyH_take (i := 7) (v := ?_) rfl (by kernel_rfl) (by kernel_rfl) (by kernel_rfl) (fun _ _ _ h => h) (Or.inl ⟨by kernel_rfl, ?_⟩) hHeld ?_
            rotate_left
            · intro wz hSw; (try dsimp only at hSw); go_simp; all_goals (try with_reducible rfl)
            (try simp only [List.getElem_toArray]); (try simp only [List.getElem_cons_succ]); (try simp only [List.getElem_cons_zero]); (try simp only [Act.put]); (try simp only [List.setIfInBounds_toArray]); (try simp only [List.set_cons_succ]); (try simp only [List.set_cons_zero])
            refine wpAnyH_take (i := 8) (v := ?_) rfl (by kernel_rfl) (by kernel_rfl) (by kernel_rfl) (fun _ _ _ h => h) (Or.inl ⟨by kernel_rfl, ?_⟩) hHeld ?_
            rotate_left
            · intro wz hSw; (try dsimp only at hSw); go_simp; all_goals (try with_reducible rfl)
            (try simp only [List.getElem_toArray]); (try simp only [List.getElem_cons_succ]); (try simp only [List.getElem_cons_zero]); (try simp only [Act.put]); (try simp only [List.setIfInBounds_toArray]); (try simp only [List.set_cons_succ]); (try simp only [List.set_cons_zero])
            refine wpAnyH_ready (rs := [9]) (by kernel_rfl) (by simp) (AllReadyH.cons rfl (fun Kc hKc => ?_) AllReadyH.nil)
            go_simp
            refine hKc.out _ _ ?_ (fun hHeld => ?_)
            · (try dsimp only)
              refine ⟨?_, ?_, ?_, ?_⟩ <;> (repeat (with_reducible (first | exact r0 | exact r1 | exact c3 | exact c4 | refine cell_dr ?_ | refine cell_al _ ?_ | refine cell_stb ?_ ?_ | (show _ ≠ _; omega))))
            clear hKc Kc
            (try simp only [List.getElem_toArray]); (try simp only [List.getElem_cons_succ]); (try simp only [List.getElem_cons_zero]); (try simp only [Act.put]); (try simp only [List.setIfInBounds_toArray]); (try simp only [List.set_cons_succ]); (try simp only [List.set_cons_zero])
            refine wpAnyH_ready (rs := [10]) (by kernel_rfl) (by simp) (AllReadyH.cons rfl (fun Kc hKc => ?_) AllReadyH.nil)
            go_simp
            refine hKc.out _ _ ?_ (fun hHeld => ?_)
            · (try dsimp only)
              refine ⟨?_, ?_, ?_, ?_⟩ <;> (repeat (with_reducible (first | exact r0 | exact r1 | exact c3 | exact c4 | refine cell_dr ?_ | refine cell_al _ ?_ | refine cell_stb ?_ ?_ | (show _ ≠ _; omega))))
            clear hKc Kc
            (try simp only [List.getElem_toArray]); (try simp only [List.getElem_cons_succ]); (try simp only [List.getElem_cons_zero]); (try simp only [Act.put]); (try simp only [List.setIfInBounds_toArray]); (try simp only [List.set_cons_succ]); (try simp only [List.set_cons_zero])
            refine wpAnyH_take (i := 11) (v := ?_) rfl (by kernel_rfl) (by kernel_rfl) (by kernel_rfl) (fun _ _ _ h => h) (Or.inl ⟨by kernel_rfl, ?_⟩) hHeld ?_
            rotate_left
            · intro wz hSw; (try dsimp only at hSw); go_simp; all_goals (try with_reducible rfl)
            (try simp only [List.getElem_toArray]); (try simp only [List.getElem_cons_succ]); (try simp only [List.getElem_cons_zero]); (try simp only [Act.put]); (try simp only [List.setIfInBounds_toArray]); (try simp only [List.set_cons_succ]); (try simp only [List.set_cons_zero])
            refine wpAnyH_done (by kernel_rfl) ?_ _
            refine NoPanic.normal ?_
            go_wp2
            go_meet
            case rel => exact ⟨w3.heap.size, rfl, rfl, IsR.new w3 s1 s2, q0.below (b0 _), own_below q1 (b0 _), own_below q2 (b0 _), g_below q3 (b0 _)⟩
          · go_simp
            refine hKc.out _ _ ?_ (fun hHeld => ?_)
            · (try dsimp only)
              refine ⟨?_, ?_, ?_, ?_⟩ <;> (repeat (with_reducible (first | exact r0 | exact r1 | exact c3 | exact c4 | refine cell_dr ?_ | refine cell_al _ ?_ | refine cell_stb ?_ ?_ | (show _ ≠ _; omega))))
            clear hKc Kc
            (try simp only [List.getElem_toArray]); (try simp only [List.getElem_cons_succ]); (try simp only [List.getElem_cons_zero]); (try simp only [Act.put]); (try simp only [List.setIfInBounds_toArray]); (try simp only [List.set_cons_succ]); (try simp only [List.set_cons_zero])
            refine wpAnyH_ready (rs := [5]) (by kernel_rfl) (by simp) (AllReadyH.cons rfl (fun Kc hKc => ?_) AllReadyH.nil)
            go_simp
            (go_at_call 89; refine (HD.out _).mono ?_; rintro e w3 ⟨rfl, hb2⟩)
            have hbd : Below Xr.heap.size Xr w3 := (((Below.refl _ _).drew).alloc (by simp) _).trans (hb2.mono (by simp))
            have pP : IsR w3 Xr.heap.size 0 0 := (show IsR (Xr.drew.alloc (.cells #[.int .i64 0, .int .i64 0] 24)) Xr.heap.size 0 0 from by simpa using IsR.new Xr.drew 0 0).below hb2
            have p0 := pP.c0
            have p1' := pP.c1
            have p2' := pP.f0
            have p3' := pP.f1
            have c3 := cell_keep hbd c3
            have c4 := cell_keep hbd c4
            have r0 := cell_keep hbd r0
            have r1 := cell_keep hbd r1
            have q0 := rF.below hbd
            have q1 := own_below hO hbd
            have q2 := own_below hW hbd
            have q3 := g_below hG hbd
            have hsw := hbd.size
            clear hb2
            go_wp2_with fail
            refine hKc.out _ _ ?_ (fun hHeld => ?_)
            · (try dsimp only)
              refine ⟨?_, ?_, ?_, ?_⟩ <;> (repeat (with_reducible (first | exact r0 | exact r1 | exact c3 | exact c4 | refine cell_dr ?_ | refine cell_al _ ?_ | refine cell_stb ?_ ?_ | (show _ ≠ _; omega))))
            clear hKc Kc
            (try simp only [List.getElem_toArray]); (try simp only [List.getElem_cons_succ]); (try simp only [List.getElem_cons_zero]); (try simp only [Act.put]); (try simp only [List.setIfInBounds_toArray]); (try simp only [List.set_cons_succ]); (try simp only [List.set_cons_zero])
            refine wpAnyH_take (i := 6) (v := ?_) rfl (by kernel_rfl) (by kernel_rfl) (by kernel_rfl) (fun _ _ _ h => h) (Or.inl ⟨by kernel_rfl, ?_⟩) hHeld ?_
            rotate_left
            · intro wz hSw; (try dsimp only at hSw); go_simp; all_goals (try with_reducible rfl)
            (try simp only [List.getElem_toArray]); (try simp only [List.getElem_cons_succ]); (try simp only [List.getElem_cons_zero]); (try simp only [Act.put]); (try simp only [List.setIfInBounds_toArray]); (try simp only [List.set_cons_succ]); (try simp only [List.set_cons_zero])
            refine wpAnyH_take (i := 7) (v := ?_) rfl (by kernel_rfl) (by kernel_rfl) (by kernel_rfl) (fun _ _ _ h => h) (Or.inl ⟨by kernel_rfl, ?_⟩) hHeld ?_
            rotate_left
            · intro wz hSw; (try dsimp only at hSw); go_simp; all_goals (try with_reducible rfl)
            (try simp only [List.getElem_toArray]); (try simp only [List.getElem_cons_succ]); (try simp only [List.getElem_cons_zero]); (try simp only [Act.put]); (try simp only [List.setIfInBounds_toArray]); (try simp only [List.set_cons_succ]); (try simp only [List.set_cons_zero])
            refine wpAnyH_take (i := 8) (v := ?_) rfl (by kernel_rfl) (by kernel_rfl) (by kernel_rfl) (fun _ _ _ h => h) (Or.inl ⟨by kernel_rfl, ?_⟩) hHeld ?_
            rotate_left
            · intro wz hSw; (try dsimp only at hSw); go_simp; all_goals (try with_reducible rfl)
            (try simp only [List.getElem_toArray]); (try simp only [List.getElem_cons_succ]); (try simp only [List.getElem_cons_zero]); (try simp only [Act.put]); (try simp only [List.setIfInBounds_toArray]); (try simp only [List.set_cons_succ]); (try simp only [List.set_cons_zero])
            refine wpAnyH_ready (rs := [10]) (by kernel_rfl) (by simp) (AllReadyH.cons rfl (fun Kc hKc => ?_) AllReadyH.nil)
            go_simp
            refine hKc.out _ _ ?_ (fun hHeld => ?_)
            · (try dsimp only)
              refine ⟨?_, ?_, ?_, ?_⟩ <;> (repeat (with_reducible (first | exact r0 | exact r1 | exact c3 | exact c4 | refine cell_dr ?_ | refine cell_al _ ?_ | refine cell_stb ?_ ?_ | (show _ ≠ _; omega))))
            clear hKc Kc
            (try simp only [List.getElem_toArray]); (try simp only [List.getElem_cons_succ]); (try simp only [List.getElem_cons_zero]); (try simp only [Act.put]); (try simp only [List.setIfInBounds_toArray]); (try simp only [List.set_cons_succ]); (try simp only [List.set_cons_zero])
            refine wpAnyH_take (i := 11) (v := ?_) rfl (by kernel_rfl) (by kernel_rfl) (by kernel_rfl) (fun _ _ _ h => h) (Or.inl ⟨by kernel_rfl, ?_⟩) hHeld ?_
            rotate_left
            · intro wz hSw; (try dsimp only at hSw); go_simp; all_goals (try with_reducible rfl)
            (try simp only [List.getElem_toArray]); (try simp only [List.getElem_cons_succ]); (try simp only [List.getElem_cons_zero]); (try simp only [Act.put]); (try simp only [List.setIfInBounds_toArray]); (try simp only [List.set_cons_succ]); (try simp only [List.set_cons_zero])
            refine wpAnyH_done (by kernel_rfl) ?_ _
            refine NoPanic.normal ?_
            go_wp2
            go_meet
            case rel => exact ⟨Xr.heap.size, rfl, rfl, (pP.set0 s1).set1 s2, (q0.other (by omega) 0 _).other (by omega) 1 _, own_st (own_st q1 (fun b e => by cases e; exact hgX) 0 _) (fun b e => by cases e; exact hgX) 1 _, own_st (own_st q2 (fun b e => by cases e; exact hgwX) 0 _) (fun b e => by cases e; exact hgwX) 1 _, g_set (g_set q3 (.inl hwX) 0 _) (.inl hwX) 1 _⟩
        case rest =>
          clear hO hW rF hG c3 c4 r0 r1 rN hNx hgN hgX hgwX hFX hwX
          obtain ⟨P, rfl, rfl, hP, rF, hO, hW, hG⟩ := hcut
          have n0 := hP.out.c0
          have n1 := hP.out.c1
          obtain ⟨d1, d2⟩ := own_R hO.out (by rw [parF_len]; exact HN.out) k hlt
          have e1 := hO.out.frozenAt (k * 2)
          have e2 := hO.out.frozenAt (k * 2 + 1)
          generalize ((parF (fun i => takeE (fr other i) (t1, t2) (fr what i)) other k)[k]?.getD (0, 0)).1 = z1 at d1
          generalize ((parF (fun i => takeE (fr other i) (t1, t2) (fr what i)) other k)[k]?.getD (0, 0)).2 = z2 at d2
          cases so
          · have HB : Hid (takeB other (t1, t2) what = false) := takeB_no (by rw [HN.out]; exact hlt) HSO.out.symm
            go_wp2
            go_ret
            exact ⟨ret_b HB.out.symm, fun h => by rw [HB.out] at h; exact absurd h (by simp), hG.out⟩
          · go_wp2
            go_roundw
            case rel =>
              obtain ⟨p1, p2⟩ := hO.out.stored (k * 2) (.int .i64 s1)
              obtain ⟨p3, p4⟩ := p1.stored (k * 2 + 1) (.int .i64 s2)
              rw [cellsR_set _ _ _ _ (by rw [parF_len, HN.out]; exact hlt), show ((s1, s2) : Fr) = takeE (fr other k) (t1, t2) (fr what k) from HS.out, parF_set (fun i => takeE (fr other i) (t1, t2) (fr what i))] at p3
              have hwk : ∀ {W : World} {r : Nat} (o : Nat) (v : Value), W.ownsRow baseW 24 2 (.slice (some ⟨gw, 0, none⟩) n cw) n (cellsR what) → r ≠ gw → (W.setCell ⟨r, o, none⟩ v).ownsRow baseW 24 2 (.slice (some ⟨gw, 0, none⟩) n cw) n (cellsR what) := fun o v h hr => h.kept (grown_set _ _ o v) (.inr (by simp [Value.ownBlock]; omega))
              refine ⟨k + 1, by omega, by go_num, (rF.out.other hFg (k * 2) (.int .i64 s1)).other hFg (k * 2 + 1) (.int .i64 s2), p3, hwk _ _ (hwk _ _ hW.out hgg.symm) hgg.symm, (hG.out.trans p2).trans p4, fun i hi => ?_⟩
              by_cases e : i = k
              · subst e; exact HSO.out.symm
              · exact HP.out i (by omega)
            case measure => simp [intOf]; omega
      · obtain rfl : k = n := by omega
        have HB : Hid (takeB other (t1, t2) what = true) := takeB_yes (fun i hi => HP.out i (by rw [← HN.out]; exact hi))
        go_wp2
        go_ret
        refine ⟨ret_b HB.out.symm, fun _ => ?_, hG.out⟩
        have := hO.out
        rw [← HN.out, parF_take, HN.out] at this
        exact this
end Go.Proofs.Ytkcdpjcfbpjkeai
