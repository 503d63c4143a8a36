/- The walk of the law of CurveAt: both answers are the same, and the list that was handed in stays. -/
import Derived.Test.YtibncepllmjhhaaFitP3
import Derived.Test.YtibncepllmjhhaaFitW4
import Derived.Test.YtibncepllmjhhaaTabW4
import Derived.Test.YtibncepllmjhhaaRatioW4
import Derived.Deep.RegionHeld3
namespace Go.Proofs.Ytibncepllmjhhaa
open Go.RowKit Go.Proofs.Ytibncepllmjhhaa.RM

theorem stayCv {w w' : World} {x : Nat} {a b : Int} (hb : Below w.heap.size w w') (h : w.cell? ⟨x, 0, none⟩ = some (.int .i64 a) ∧ w.cell? ⟨x, 1, none⟩ = some (.int .i64 b)) : w'.cell? ⟨x, 0, none⟩ = some (.int .i64 a) ∧ w'.cell? ⟨x, 1, none⟩ = some (.int .i64 b) :=
  ⟨(hb.cell (p := ⟨x, 0, none⟩) (World.block_lt_of_cell? w _ h.1)).trans h.1, (hb.cell (p := ⟨x, 1, none⟩) (World.block_lt_of_cell? w _ h.2)).trans h.2⟩
theorem hidCv {p : Prop} (h : p) : Hid p := h
theorem bAl (u : World) (o : Obj) : Below u.heap.size u (u.alloc o) := (Below.refl _ _).alloc (Nat.le_refl _) o
set_option maxRecDepth 100000 in
set_option maxHeartbeats 4000000 in
theorem lawCurveAt (v0 : Value) (a0 : List Fr) (x1 y1 : Int) (w : World) (h0 : RdR w v0 a0) :
    Calls Try.prog 4 #[v0, .agg #[.int .i64 x1, .int .i64 y1]] w fun e w' => e = .returned (.bool true) ∧ Below w.heap.size w w' := by
  have H0 : Hid (RdR w v0 a0) := h0
  clear h0
  obtain ⟨X0, hX0⟩ : ∃ X, X = w.alloc (.cells #[.int .i64 x1, .int .i64 y1] 31) := ⟨_, rfl⟩
  have B1 : Below w.heap.size w X0 := by rw [hX0]; exact bAl _ _
  have KP : X0.cell? ⟨w.heap.size, 0, none⟩ = some (.int .i64 x1) ∧ X0.cell? ⟨w.heap.size, 1, none⟩ = some (.int .i64 y1) := by rw [hX0]; simp [go_sem]
  go_enter Try.func4, Try.ntmps4
  go_wp2_with fail
  rw [← hX0]
  clear hX0
  refine (szS_any v0 a0 1048576 _ (H0.out.below B1) (by omega) (by omega)).mono ?_
  rintro e w0 ⟨rfl, hw⟩
  obtain rfl := hw.symm
  clear hw
  by_cases hs0 : 1048576 - (a0.length : Int) < 0
  · rw [if_pos hs0]
    go_wp2
    go_ret
    exact ⟨rfl, B1⟩
  rw [if_neg hs0]
  have lb0 : a0.length ≤ 1048576 := by omega
  obtain ⟨r0, hr0⟩ : ∃ x, x = 1048576 - (a0.length : Int) := ⟨_, rfl⟩
  have r00 : 0 ≤ r0 := by omega
  have r01 : r0 ≤ 1048576 := by omega
  rw [← hr0]
  have HT : Hid (∀ W : World, Below w.heap.size w W → Calls Try.prog 15 #[v0] W fun e w' => ∃ u, e = .returned u ∧ w'.ownsRow W.heap.size 33 2 u a0.length (cellsR a0) ∧ Below W.heap.size W w') := by
    intro W hW; exact toS_any v0 a0 W (H0.out.below hW) lb0
  clear hr0 hs0
  obtain ⟨A, hA⟩ : ∃ A, A = crvA a0 (x1, y1) := ⟨_, rfl⟩
  obtain ⟨q, hq⟩ : ∃ q, q = crvO a0 (x1, y1) := ⟨_, rfl⟩
  obtain ⟨f1, f2⟩ := A
  have HS : Hid (∀ (u0 : Value) (W : World), RdR W u0 a0 → Calls Try.prog 14 #[u0, .agg #[.int .i64 x1, .int .i64 y1]] W fun e w' => e = .returned (.tuple #[.agg #[.int .i64 f1, .int .i64 f2], .bool q]) ∧ Below W.heap.size W w') := by
    intro u0 W g0; have := sCurveAt_any u0 a0 (x1, y1) W g0; rw [← hA, ← hq] at this; exact this
  have HI : Hid (∀ (u0 : Value) (W : World), RdR W u0 a0 → Calls Try.prog 17 #[u0, .agg #[.int .i64 x1, .int .i64 y1]] W fun e w' => e = .returned (.tuple #[.agg #[.int .i64 f1, .int .i64 f2], .bool q]) ∧ Below W.heap.size W w') := by
    intro u0 W g0; have := iCurveAt_any u0 a0 (x1, y1) W g0; rw [← hA, ← hq] at this; exact this
  have e1 : (q != q) = false := by simp
  clear hA hq H0
  obtain ⟨Kx, hKx⟩ : ∃ K, K = w.heap.size := ⟨_, rfl⟩
  rw [← hKx] at KP
  have hwK : w.heap.size ≤ Kx := by omega
  have HB := hidCv B1
  have HK := hidCv KP
  go_upto_region 5 with fail
  rw [← hKx]
  clear B1 KP hKx
  go_cut [6, 7] (fun s6 s7 wx => ∃ T : Nat, s6 = .pointer (some ⟨T, 0, none⟩) ∧ s7 = .bool q ∧ Hid (IsR wx T f1 f2) ∧ Hid (wx.cell? ⟨Kx, 0, none⟩ = some (.int .i64 x1) ∧ wx.cell? ⟨Kx, 1, none⟩ = some (.int .i64 y1)) ∧ Hid (Below w.heap.size w wx))
  case first =>
    obtain ⟨c1, c2⟩ := HK.out
    have hb := (Below.refl X0.heap.size X0).drew
    refine wp_region_noPanic ?_
    refine wp_region_held_drew (S := (fun w' => w'.cell? ⟨Kx, 0, none⟩ = some (.int .i64 x1) ∧ w'.cell? ⟨Kx, 1, none⟩ = some (.int .i64 y1))) (by kernel_rfl) ?_ (fun hHeld => ?_)
    · (try dsimp only)
      refine ⟨?_, ?_⟩ <;> (repeat (with_reducible (first | exact c1 | exact c2 | refine cell_dr ?_ | refine cell_stb ?_ ?_ | refine cell_al _ ?_ | (show _ ≠ _; omega))))
    replace c1 := cell_dr c1
    replace c2 := cell_dr c2
    replace HB := hidCv (HB.out.trans (hb.mono HB.out.size))
    clear hb HK
    obtain ⟨wd, hwd⟩ : ∃ u, u = X0.drew := ⟨_, rfl⟩
    rw [← hwd] at HB c1 c2 hHeld ⊢
    clear hwd
    refine wpAnyH_take (i := 0) (v := ?_) rfl (by kernel_rfl) (by kernel_rfl) (by kernel_rfl) (fun _ _ _ h => h) (Or.inl ⟨by kernel_rfl, ?_⟩) hHeld ?_
    rotate_left
    · intro wz hSw; (try dsimp only at hSw); go_simp; all_goals (try with_reducible rfl)
    (try simp only [List.getElem_toArray]); (try simp only [List.getElem_cons_succ]); (try simp only [List.getElem_cons_zero]); (try simp only [Act.put]); (try simp only [List.setIfInBounds_toArray]); (try simp only [List.set_cons_succ]); (try simp only [List.set_cons_zero])
    refine wpAnyH_take (i := 2) (v := ?_) rfl (by kernel_rfl) (by kernel_rfl) (by kernel_rfl) (fun _ _ _ h => h) (Or.inl ⟨by kernel_rfl, ?_⟩) hHeld ?_
    rotate_left
    · intro wz hSw; (try dsimp only at hSw); go_simp; all_goals (try with_reducible rfl)
    (try simp only [List.getElem_toArray]); (try simp only [List.getElem_cons_succ]); (try simp only [List.getElem_cons_zero]); (try simp only [Act.put]); (try simp only [List.setIfInBounds_toArray]); (try simp only [List.set_cons_succ]); (try simp only [List.set_cons_zero])
    refine wpAnyH_ready (rs := [1, 8]) (by kernel_rfl) (by simp) (AllReadyH.cons rfl (fun Kc hKc => ?_) (AllReadyH.cons rfl (fun Kc hKc => ?_) AllReadyH.nil))
    ·
      go_simp
      (go_at_call 15; refine (HT.out _ HB.out).mono ?_; rintro e u1 ⟨c0, rfl, t, hb⟩)
      have C0 := hidCv t
      clear t
      replace c1 := cell_keep hb c1
      replace c2 := cell_keep hb c2
      replace HB := hidCv (HB.out.trans (hb.mono HB.out.size))
      clear hb
      go_wp2_with fail
      refine hKc.out _ _ ?_ (fun hHeld => ?_)
      · (try dsimp only)
        refine ⟨?_, ?_⟩ <;> (repeat (with_reducible (first | exact c1 | exact c2 | refine cell_dr ?_ | refine cell_stb ?_ ?_ | refine cell_al _ ?_ | (show _ ≠ _; omega))))
      clear hKc Kc
      (try simp only [List.getElem_toArray]); (try simp only [List.getElem_cons_succ]); (try simp only [List.getElem_cons_zero]); (try simp only [Act.put]); (try simp only [List.setIfInBounds_toArray]); (try simp only [List.set_cons_succ]); (try simp only [List.set_cons_zero])
      refine wpAnyH_ready (rs := [3, 8]) (by kernel_rfl) (by simp) (AllReadyH.cons rfl (fun Kc hKc => ?_) (AllReadyH.cons rfl (fun Kc hKc => ?_) AllReadyH.nil))
      ·
        go_simp
        (go_at_call 16; refine (to_any x1 y1 _).mono ?_; rintro e u2 ⟨rfl, hb⟩)
        replace c1 := cell_keep hb c1
        replace c2 := cell_keep hb c2
        replace C0 := hidCv (own_below C0.out hb)
        replace HB := hidCv (HB.out.trans (hb.mono HB.out.size))
        clear hb
        go_wp2_with fail
        refine hKc.out _ _ ?_ (fun hHeld => ?_)
        · (try dsimp only)
          refine ⟨?_, ?_⟩ <;> (repeat (with_reducible (first | exact c1 | exact c2 | refine cell_dr ?_ | refine cell_stb ?_ ?_ | refine cell_al _ ?_ | (show _ ≠ _; omega))))
        clear hKc Kc
        (try simp only [List.getElem_toArray]); (try simp only [List.getElem_cons_succ]); (try simp only [List.getElem_cons_zero]); (try simp only [Act.put]); (try simp only [List.setIfInBounds_toArray]); (try simp only [List.set_cons_succ]); (try simp only [List.set_cons_zero])
        refine wpAnyH_ready (rs := [4, 8]) (by kernel_rfl) (by simp) (AllReadyH.cons rfl (fun Kc hKc => ?_) (AllReadyH.cons rfl (fun Kc hKc => ?_) AllReadyH.nil))
        ·
          go_simp
          (go_at_call 14; refine (HS.out c0 _ (RdR.own C0.out).1).mono ?_; rintro e u3 ⟨rfl, hb⟩)
          replace c1 := cell_keep hb c1
          replace c2 := cell_keep hb c2
          replace C0 := hidCv (own_below C0.out hb)
          replace HB := hidCv (HB.out.trans (hb.mono HB.out.size))
          clear hb
          go_wp2_with fail
          refine hKc.out _ _ ?_ (fun hHeld => ?_)
          · (try dsimp only)
            refine ⟨?_, ?_⟩ <;> (repeat (with_reducible (first | exact c1 | exact c2 | refine cell_dr ?_ | refine cell_stb ?_ ?_ | refine cell_al _ ?_ | (show _ ≠ _; omega))))
          clear hKc Kc
          (try simp only [List.getElem_toArray]); (try simp only [List.getElem_cons_succ]); (try simp only [List.getElem_cons_zero]); (try simp only [Act.put]); (try simp only [List.setIfInBounds_toArray]); (try simp only [List.set_cons_succ]); (try simp only [List.set_cons_zero])
          refine wpAnyH_take (i := 5) (v := ?_) rfl (by kernel_rfl) (by kernel_rfl) (by kernel_rfl) (fun _ _ _ h => h) (Or.inl ⟨by kernel_rfl, ?_⟩) hHeld ?_
          rotate_left
          · intro wz hSw; (try dsimp only at hSw); go_simp; all_goals (try with_reducible rfl)
          (try simp only [List.getElem_toArray]); (try simp only [List.getElem_cons_succ]); (try simp only [List.getElem_cons_zero]); (try simp only [Act.put]); (try simp only [List.setIfInBounds_toArray]); (try simp only [List.set_cons_succ]); (try simp only [List.set_cons_zero])
          refine wpAnyH_take (i := 6) (v := ?_) rfl (by kernel_rfl) (by kernel_rfl) (by kernel_rfl) (fun _ _ _ h => h) (Or.inl ⟨by kernel_rfl, ?_⟩) hHeld ?_
          rotate_left
          · intro wz hSw; (try dsimp only at hSw); go_simp; all_goals (try with_reducible rfl)
          (try simp only [List.getElem_toArray]); (try simp only [List.getElem_cons_succ]); (try simp only [List.getElem_cons_zero]); (try simp only [Act.put]); (try simp only [List.setIfInBounds_toArray]); (try simp only [List.set_cons_succ]); (try simp only [List.set_cons_zero])
          refine wpAnyH_take (i := 7) (v := ?_) rfl (by kernel_rfl) (by kernel_rfl) (by kernel_rfl) (fun _ _ _ h => h) (Or.inl ⟨by kernel_rfl, ?_⟩) hHeld ?_
          rotate_left
          · intro wz hSw; (try dsimp only at hSw); go_simp; all_goals (try with_reducible rfl)
          (try simp only [List.getElem_toArray]); (try simp only [List.getElem_cons_succ]); (try simp only [List.getElem_cons_zero]); (try simp only [Act.put]); (try simp only [List.setIfInBounds_toArray]); (try simp only [List.set_cons_succ]); (try simp only [List.set_cons_zero])
          refine wpAnyH_ready (rs := [8]) (by kernel_rfl) (by simp) (AllReadyH.cons rfl (fun Kc hKc => ?_) AllReadyH.nil)
          go_simp
          obtain ⟨Ab, hA'⟩ : ∃ A, A = u3.heap.size := ⟨_, rfl⟩
          obtain ⟨u4, hu⟩ : ∃ u, u = u3.alloc (.cells #[.int .i64 0, .int .i64 0] 33) := ⟨_, rfl⟩
          have hb : Below u3.heap.size u3 u4 := by rw [hu]; exact bAl _ _
          have HA : Hid (IsR u4 Ab 0 0) := by show IsR _ _ _ _; rw [hu, hA']; exact IsR.new _ _ _
          have hAw : w.heap.size ≤ Ab := by rw [hA']; exact HB.out.size
          have hKA := World.block_lt_of_cell? u3 _ c1
          dsimp only at hKA
          rw [← hA'] at hKA
          rw [← hu, ← hA']
          replace c1 := cell_keep hb c1
          replace c2 := cell_keep hb c2
          replace C0 := hidCv (own_below C0.out hb)
          replace HB := hidCv (HB.out.trans (hb.mono HB.out.size))
          clear hb
          clear hu hA'
          refine hKc.out _ _ ?_ (fun hHeld => ?_)
          · (try dsimp only)
            refine ⟨?_, ?_⟩ <;> (repeat (with_reducible (first | exact c1 | exact c2 | refine cell_dr ?_ | refine cell_stb ?_ ?_ | refine cell_al _ ?_ | (show _ ≠ _; omega))))
          clear hKc Kc
          (try simp only [List.getElem_toArray]); (try simp only [List.getElem_cons_succ]); (try simp only [List.getElem_cons_zero]); (try simp only [Act.put]); (try simp only [List.setIfInBounds_toArray]); (try simp only [List.set_cons_succ]); (try simp only [List.set_cons_zero])
          have f0 := HA.out.f0
          have f1' := HA.out.f1
          have g0 := HA.out.c0
          have g1 := HA.out.c1
          refine wpAnyH_ready (rs := [9]) (by kernel_rfl) (by simp) (AllReadyH.cons rfl (fun Kc hKc => ?_) AllReadyH.nil)
          go_simp
          refine hKc.out _ _ ?_ (fun hHeld => ?_)
          · (try dsimp only)
            refine ⟨?_, ?_⟩ <;> (repeat (with_reducible (first | exact c1 | exact c2 | refine cell_dr ?_ | refine cell_stb ?_ ?_ | refine cell_al _ ?_ | (show _ ≠ _; omega))))
          clear hKc Kc
          (try simp only [List.getElem_toArray]); (try simp only [List.getElem_cons_succ]); (try simp only [List.getElem_cons_zero]); (try simp only [Act.put]); (try simp only [List.setIfInBounds_toArray]); (try simp only [List.set_cons_succ]); (try simp only [List.set_cons_zero])
          refine wpAnyH_take (i := 10) (v := ?_) rfl (by kernel_rfl) (by kernel_rfl) (by kernel_rfl) (fun _ _ _ h => h) (Or.inl ⟨by kernel_rfl, ?_⟩) hHeld ?_
          rotate_left
          · intro wz hSw; (try dsimp only at hSw); go_simp; all_goals (try with_reducible rfl)
          (try simp only [List.getElem_toArray]); (try simp only [List.getElem_cons_succ]); (try simp only [List.getElem_cons_zero]); (try simp only [Act.put]); (try simp only [List.setIfInBounds_toArray]); (try simp only [List.set_cons_succ]); (try simp only [List.set_cons_zero])
          refine wpAnyH_done (by kernel_rfl) ?_ _
          refine NoPanic.normal ?_
          go_wp2_with fail
          go_meet
          case rel =>
            refine ⟨Ab, rfl, rfl, (HA.out.set0 f1).set1 f2, ⟨?_, ?_⟩, (HB.out.setCell (p := ⟨Ab, 0, none⟩) hAw _).setCell (p := ⟨Ab, 1, none⟩) hAw _⟩ <;> (repeat (with_reducible (first | exact c1 | exact c2 | refine cell_stb ?_ ?_ | (show _ ≠ _; omega))))
        ·
          go_simp
          obtain ⟨Ab, hA'⟩ : ∃ A, A = u2.heap.size := ⟨_, rfl⟩
          obtain ⟨u5, hu⟩ : ∃ u, u = u2.alloc (.cells #[.int .i64 0, .int .i64 0] 33) := ⟨_, rfl⟩
          have hb : Below u2.heap.size u2 u5 := by rw [hu]; exact bAl _ _
          have HA : Hid (IsR u5 Ab 0 0) := by show IsR _ _ _ _; rw [hu, hA']; exact IsR.new _ _ _
          have hAw : w.heap.size ≤ Ab := by rw [hA']; exact HB.out.size
          have hKA := World.block_lt_of_cell? u2 _ c1
          dsimp only at hKA
          rw [← hA'] at hKA
          rw [← hu, ← hA']
          replace c1 := cell_keep hb c1
          replace c2 := cell_keep hb c2
          replace C0 := hidCv (own_below C0.out hb)
          replace HB := hidCv (HB.out.trans (hb.mono HB.out.size))
          clear hb
          clear hu hA'
          refine hKc.out _ _ ?_ (fun hHeld => ?_)
          · (try dsimp only)
            refine ⟨?_, ?_⟩ <;> (repeat (with_reducible (first | exact c1 | exact c2 | refine cell_dr ?_ | refine cell_stb ?_ ?_ | refine cell_al _ ?_ | (show _ ≠ _; omega))))
          clear hKc Kc
          (try simp only [List.getElem_toArray]); (try simp only [List.getElem_cons_succ]); (try simp only [List.getElem_cons_zero]); (try simp only [Act.put]); (try simp only [List.setIfInBounds_toArray]); (try simp only [List.set_cons_succ]); (try simp only [List.set_cons_zero])
          refine wpAnyH_ready (rs := [4]) (by kernel_rfl) (by simp) (AllReadyH.cons rfl (fun Kc hKc => ?_) AllReadyH.nil)
          go_simp
          (go_at_call 14; refine (HS.out c0 _ (RdR.own C0.out).1).mono ?_; rintro e u6 ⟨rfl, hb⟩)
          replace c1 := cell_keep hb c1
          replace c2 := cell_keep hb c2
          replace C0 := hidCv (own_below C0.out hb)
          replace HA := hidCv (HA.out.below hb)
          replace HB := hidCv (HB.out.trans (hb.mono HB.out.size))
          clear hb
          go_wp2_with fail
          refine hKc.out _ _ ?_ (fun hHeld => ?_)
          · (try dsimp only)
            refine ⟨?_, ?_⟩ <;> (repeat (with_reducible (first | exact c1 | exact c2 | refine cell_dr ?_ | refine cell_stb ?_ ?_ | refine cell_al _ ?_ | (show _ ≠ _; omega))))
          clear hKc Kc
          (try simp only [List.getElem_toArray]); (try simp only [List.getElem_cons_succ]); (try simp only [List.getElem_cons_zero]); (try simp only [Act.put]); (try simp only [List.setIfInBounds_toArray]); (try simp only [List.set_cons_succ]); (try simp only [List.set_cons_zero])
          refine wpAnyH_take (i := 5) (v := ?_) rfl (by kernel_rfl) (by kernel_rfl) (by kernel_rfl) (fun _ _ _ h => h) (Or.inl ⟨by kernel_rfl, ?_⟩) hHeld ?_
          rotate_left
          · intro wz hSw; (try dsimp only at hSw); go_simp; all_goals (try with_reducible rfl)
          (try simp only [List.getElem_toArray]); (try simp only [List.getElem_cons_succ]); (try simp only [List.getElem_cons_zero]); (try simp only [Act.put]); (try simp only [List.setIfInBounds_toArray]); (try simp only [List.set_cons_succ]); (try simp only [List.set_cons_zero])
          refine wpAnyH_take (i := 6) (v := ?_) rfl (by kernel_rfl) (by kernel_rfl) (by kernel_rfl) (fun _ _ _ h => h) (Or.inl ⟨by kernel_rfl, ?_⟩) hHeld ?_
          rotate_left
          · intro wz hSw; (try dsimp only at hSw); go_simp; all_goals (try with_reducible rfl)
          (try simp only [List.getElem_toArray]); (try simp only [List.getElem_cons_succ]); (try simp only [List.getElem_cons_zero]); (try simp only [Act.put]); (try simp only [List.setIfInBounds_toArray]); (try simp only [List.set_cons_succ]); (try simp only [List.set_cons_zero])
          refine wpAnyH_take (i := 7) (v := ?_) rfl (by kernel_rfl) (by kernel_rfl) (by kernel_rfl) (fun _ _ _ h => h) (Or.inl ⟨by kernel_rfl, ?_⟩) hHeld ?_
          rotate_left
          · intro wz hSw; (try dsimp only at hSw); go_simp; all_goals (try with_reducible rfl)
          (try simp only [List.getElem_toArray]); (try simp only [List.getElem_cons_succ]); (try simp only [List.getElem_cons_zero]); (try simp only [Act.put]); (try simp only [List.setIfInBounds_toArray]); (try simp only [List.set_cons_succ]); (try simp only [List.set_cons_zero])
          have f0 := HA.out.f0
          have f1' := HA.out.f1
          have g0 := HA.out.c0
          have g1 := HA.out.c1
          refine wpAnyH_ready (rs := [9]) (by kernel_rfl) (by simp) (AllReadyH.cons rfl (fun Kc hKc => ?_) AllReadyH.nil)
          go_simp
          refine hKc.out _ _ ?_ (fun hHeld => ?_)
          · (try dsimp only)
            refine ⟨?_, ?_⟩ <;> (repeat (with_reducible (first | exact c1 | exact c2 | refine cell_dr ?_ | refine cell_stb ?_ ?_ | refine cell_al _ ?_ | (show _ ≠ _; omega))))
          clear hKc Kc
          (try simp only [List.getElem_toArray]); (try simp only [List.getElem_cons_succ]); (try simp only [List.getElem_cons_zero]); (try simp only [Act.put]); (try simp only [List.setIfInBounds_toArray]); (try simp only [List.set_cons_succ]); (try simp only [List.set_cons_zero])
          refine wpAnyH_take (i := 10) (v := ?_) rfl (by kernel_rfl) (by kernel_rfl) (by kernel_rfl) (fun _ _ _ h => h) (Or.inl ⟨by kernel_rfl, ?_⟩) hHeld ?_
          rotate_left
          · intro wz hSw; (try dsimp only at hSw); go_simp; all_goals (try with_reducible rfl)
          (try simp only [List.getElem_toArray]); (try simp only [List.getElem_cons_succ]); (try simp only [List.getElem_cons_zero]); (try simp only [Act.put]); (try simp only [List.setIfInBounds_toArray]); (try simp only [List.set_cons_succ]); (try simp only [List.set_cons_zero])
          refine wpAnyH_done (by kernel_rfl) ?_ _
          refine NoPanic.normal ?_
          go_wp2_with fail
          go_meet
          case rel =>
            refine ⟨Ab, rfl, rfl, (HA.out.set0 f1).set1 f2, ⟨?_, ?_⟩, (HB.out.setCell (p := ⟨Ab, 0, none⟩) hAw _).setCell (p := ⟨Ab, 1, none⟩) hAw _⟩ <;> (repeat (with_reducible (first | exact c1 | exact c2 | refine cell_stb ?_ ?_ | (show _ ≠ _; omega))))
      ·
        go_simp
        obtain ⟨Ab, hA'⟩ : ∃ A, A = u1.heap.size := ⟨_, rfl⟩
        obtain ⟨u7, hu⟩ : ∃ u, u = u1.alloc (.cells #[.int .i64 0, .int .i64 0] 33) := ⟨_, rfl⟩
        have hb : Below u1.heap.size u1 u7 := by rw [hu]; exact bAl _ _
        have HA : Hid (IsR u7 Ab 0 0) := by show IsR _ _ _ _; rw [hu, hA']; exact IsR.new _ _ _
        have hAw : w.heap.size ≤ Ab := by rw [hA']; exact HB.out.size
        have hKA := World.block_lt_of_cell? u1 _ c1
        dsimp only at hKA
        rw [← hA'] at hKA
        rw [← hu, ← hA']
        replace c1 := cell_keep hb c1
        replace c2 := cell_keep hb c2
        replace C0 := hidCv (own_below C0.out hb)
        replace HB := hidCv (HB.out.trans (hb.mono HB.out.size))
        clear hb
        clear hu hA'
        refine hKc.out _ _ ?_ (fun hHeld => ?_)
        · (try dsimp only)
          refine ⟨?_, ?_⟩ <;> (repeat (with_reducible (first | exact c1 | exact c2 | refine cell_dr ?_ | refine cell_stb ?_ ?_ | refine cell_al _ ?_ | (show _ ≠ _; omega))))
        clear hKc Kc
        (try simp only [List.getElem_toArray]); (try simp only [List.getElem_cons_succ]); (try simp only [List.getElem_cons_zero]); (try simp only [Act.put]); (try simp only [List.setIfInBounds_toArray]); (try simp only [List.set_cons_succ]); (try simp only [List.set_cons_zero])
        refine wpAnyH_ready (rs := [3]) (by kernel_rfl) (by simp) (AllReadyH.cons rfl (fun Kc hKc => ?_) AllReadyH.nil)
        go_simp
        (go_at_call 16; refine (to_any x1 y1 _).mono ?_; rintro e u8 ⟨rfl, hb⟩)
        replace c1 := cell_keep hb c1
        replace c2 := cell_keep hb c2
        replace C0 := hidCv (own_below C0.out hb)
        replace HA := hidCv (HA.out.below hb)
        replace HB := hidCv (HB.out.trans (hb.mono HB.out.size))
        clear hb
        go_wp2_with fail
        refine hKc.out _ _ ?_ (fun hHeld => ?_)
        · (try dsimp only)
          refine ⟨?_, ?_⟩ <;> (repeat (with_reducible (first | exact c1 | exact c2 | refine cell_dr ?_ | refine cell_stb ?_ ?_ | refine cell_al _ ?_ | (show _ ≠ _; omega))))
        clear hKc Kc
        (try simp only [List.getElem_toArray]); (try simp only [List.getElem_cons_succ]); (try simp only [List.getElem_cons_zero]); (try simp only [Act.put]); (try simp only [List.setIfInBounds_toArray]); (try simp only [List.set_cons_succ]); (try simp only [List.set_cons_zero])
        refine wpAnyH_ready (rs := [4]) (by kernel_rfl) (by simp) (AllReadyH.cons rfl (fun Kc hKc => ?_) AllReadyH.nil)
        go_simp
        (go_at_call 14; refine (HS.out c0 _ (RdR.own C0.out).1).mono ?_; rintro e u9 ⟨rfl, hb⟩)
        replace c1 := cell_keep hb c1
        replace c2 := cell_keep hb c2
        replace C0 := hidCv (own_below C0.out hb)
        replace HA := hidCv (HA.out.below hb)
        replace HB := hidCv (HB.out.trans (hb.mono HB.out.size))
        clear hb
        go_wp2_with fail
        refine hKc.out _ _ ?_ (fun hHeld => ?_)
        · (try dsimp only)
          refine ⟨?_, ?_⟩ <;> (repeat (with_reducible (first | exact c1 | exact c2 | refine cell_dr ?_ | refine cell_stb ?_ ?_ | refine cell_al _ ?_ | (show _ ≠ _; omega))))
        clear hKc Kc
        (try simp only [List.getElem_toArray]); (try simp only [List.getElem_cons_succ]); (try simp only [List.getElem_cons_zero]); (try simp only [Act.put]); (try simp only [List.setIfInBounds_toArray]); (try simp only [List.set_cons_succ]); (try simp only [List.set_cons_zero])
        refine wpAnyH_take (i := 5) (v := ?_) rfl (by kernel_rfl) (by kernel_rfl) (by kernel_rfl) (fun _ _ _ h => h) (Or.inl ⟨by kernel_rfl, ?_⟩) hHeld ?_
        rotate_left
        · intro wz hSw; (try dsimp only at hSw); go_simp; all_goals (try with_reducible rfl)
        (try simp only [List.getElem_toArray]); (try simp only [List.getElem_cons_succ]); (try simp only [List.getElem_cons_zero]); (try simp only [Act.put]); (try simp only [List.setIfInBounds_toArray]); (try simp only [List.set_cons_succ]); (try simp only [List.set_cons_zero])
        refine wpAnyH_take (i := 6) (v := ?_) rfl (by kernel_rfl) (by kernel_rfl) (by kernel_rfl) (fun _ _ _ h => h) (Or.inl ⟨by kernel_rfl, ?_⟩) hHeld ?_
        rotate_left
        · intro wz hSw; (try dsimp only at hSw); go_simp; all_goals (try with_reducible rfl)
        (try simp only [List.getElem_toArray]); (try simp only [List.getElem_cons_succ]); (try simp only [List.getElem_cons_zero]); (try simp only [Act.put]); (try simp only [List.setIfInBounds_toArray]); (try simp only [List.set_cons_succ]); (try simp only [List.set_cons_zero])
        refine wpAnyH_take (i := 7) (v := ?_) rfl (by kernel_rfl) (by kernel_rfl) (by kernel_rfl) (fun _ _ _ h => h) (Or.inl ⟨by kernel_rfl, ?_⟩) hHeld ?_
        rotate_left
        · intro wz hSw; (try dsimp only at hSw); go_simp; all_goals (try with_reducible rfl)
        (try simp only [List.getElem_toArray]); (try simp only [List.getElem_cons_succ]); (try simp only [List.getElem_cons_zero]); (try simp only [Act.put]); (try simp only [List.setIfInBounds_toArray]); (try simp only [List.set_cons_succ]); (try simp only [List.set_cons_zero])
        have f0 := HA.out.f0
        have f1' := HA.out.f1
        have g0 := HA.out.c0
        have g1 := HA.out.c1
        refine wpAnyH_ready (rs := [9]) (by kernel_rfl) (by simp) (AllReadyH.cons rfl (fun Kc hKc => ?_) AllReadyH.nil)
        go_simp
        refine hKc.out _ _ ?_ (fun hHeld => ?_)
        · (try dsimp only)
          refine ⟨?_, ?_⟩ <;> (repeat (with_reducible (first | exact c1 | exact c2 | refine cell_dr ?_ | refine cell_stb ?_ ?_ | refine cell_al _ ?_ | (show _ ≠ _; omega))))
        clear hKc Kc
        (try simp only [List.getElem_toArray]); (try simp only [List.getElem_cons_succ]); (try simp only [List.getElem_cons_zero]); (try simp only [Act.put]); (try simp only [List.setIfInBounds_toArray]); (try simp only [List.set_cons_succ]); (try simp only [List.set_cons_zero])
        refine wpAnyH_take (i := 10) (v := ?_) rfl (by kernel_rfl) (by kernel_rfl) (by kernel_rfl) (fun _ _ _ h => h) (Or.inl ⟨by kernel_rfl, ?_⟩) hHeld ?_
        rotate_left
        · intro wz hSw; (try dsimp only at hSw); go_simp; all_goals (try with_reducible rfl)
        (try simp only [List.getElem_toArray]); (try simp only [List.getElem_cons_succ]); (try simp only [List.getElem_cons_zero]); (try simp only [Act.put]); (try simp only [List.setIfInBounds_toArray]); (try simp only [List.set_cons_succ]); (try simp only [List.set_cons_zero])
        refine wpAnyH_done (by kernel_rfl) ?_ _
        refine NoPanic.normal ?_
        go_wp2_with fail
        go_meet
        case rel =>
          refine ⟨Ab, rfl, rfl, (HA.out.set0 f1).set1 f2, ⟨?_, ?_⟩, (HB.out.setCell (p := ⟨Ab, 0, none⟩) hAw _).setCell (p := ⟨Ab, 1, none⟩) hAw _⟩ <;> (repeat (with_reducible (first | exact c1 | exact c2 | refine cell_stb ?_ ?_ | (show _ ≠ _; omega))))
    ·
      go_simp
      obtain ⟨Ab, hA'⟩ : ∃ A, A = wd.heap.size := ⟨_, rfl⟩
      obtain ⟨u10, hu⟩ : ∃ u, u = wd.alloc (.cells #[.int .i64 0, .int .i64 0] 33) := ⟨_, rfl⟩
      have hb : Below wd.heap.size wd u10 := by rw [hu]; exact bAl _ _
      have HA : Hid (IsR u10 Ab 0 0) := by show IsR _ _ _ _; rw [hu, hA']; exact IsR.new _ _ _
      have hAw : w.heap.size ≤ Ab := by rw [hA']; exact HB.out.size
      have hKA := World.block_lt_of_cell? wd _ c1
      dsimp only at hKA
      rw [← hA'] at hKA
      rw [← hu, ← hA']
      replace c1 := cell_keep hb c1
      replace c2 := cell_keep hb c2
      replace HB := hidCv (HB.out.trans (hb.mono HB.out.size))
      clear hb
      clear hu hA'
      refine hKc.out _ _ ?_ (fun hHeld => ?_)
      · (try dsimp only)
        refine ⟨?_, ?_⟩ <;> (repeat (with_reducible (first | exact c1 | exact c2 | refine cell_dr ?_ | refine cell_stb ?_ ?_ | refine cell_al _ ?_ | (show _ ≠ _; omega))))
      clear hKc Kc
      (try simp only [List.getElem_toArray]); (try simp only [List.getElem_cons_succ]); (try simp only [List.getElem_cons_zero]); (try simp only [Act.put]); (try simp only [List.setIfInBounds_toArray]); (try simp only [List.set_cons_succ]); (try simp only [List.set_cons_zero])
      refine wpAnyH_ready (rs := [1]) (by kernel_rfl) (by simp) (AllReadyH.cons rfl (fun Kc hKc => ?_) AllReadyH.nil)
      go_simp
      (go_at_call 15; refine (HT.out _ HB.out).mono ?_; rintro e u11 ⟨c0, rfl, t, hb⟩)
      have C0 := hidCv t
      clear t
      replace c1 := cell_keep hb c1
      replace c2 := cell_keep hb c2
      replace HA := hidCv (HA.out.below hb)
      replace HB := hidCv (HB.out.trans (hb.mono HB.out.size))
      clear hb
      go_wp2_with fail
      refine hKc.out _ _ ?_ (fun hHeld => ?_)
      · (try dsimp only)
        refine ⟨?_, ?_⟩ <;> (repeat (with_reducible (first | exact c1 | exact c2 | refine cell_dr ?_ | refine cell_stb ?_ ?_ | refine cell_al _ ?_ | (show _ ≠ _; omega))))
      clear hKc Kc
      (try simp only [List.getElem_toArray]); (try simp only [List.getElem_cons_succ]); (try simp only [List.getElem_cons_zero]); (try simp only [Act.put]); (try simp only [List.setIfInBounds_toArray]); (try simp only [List.set_cons_succ]); (try simp only [List.set_cons_zero])
      refine wpAnyH_ready (rs := [3]) (by kernel_rfl) (by simp) (AllReadyH.cons rfl (fun Kc hKc => ?_) AllReadyH.nil)
      go_simp
      (go_at_call 16; refine (to_any x1 y1 _).mono ?_; rintro e u12 ⟨rfl, hb⟩)
      replace c1 := cell_keep hb c1
      replace c2 := cell_keep hb c2
      replace C0 := hidCv (own_below C0.out hb)
      replace HA := hidCv (HA.out.below hb)
      replace HB := hidCv (HB.out.trans (hb.mono HB.out.size))
      clear hb
      go_wp2_with fail
      refine hKc.out _ _ ?_ (fun hHeld => ?_)
      · (try dsimp only)
        refine ⟨?_, ?_⟩ <;> (repeat (with_reducible (first | exact c1 | exact c2 | refine cell_dr ?_ | refine cell_stb ?_ ?_ | refine cell_al _ ?_ | (show _ ≠ _; omega))))
      clear hKc Kc
      (try simp only [List.getElem_toArray]); (try simp only [List.getElem_cons_succ]); (try simp only [List.getElem_cons_zero]); (try simp only [Act.put]); (try simp only [List.setIfInBounds_toArray]); (try simp only [List.set_cons_succ]); (try simp only [List.set_cons_zero])
      refine wpAnyH_ready (rs := [4]) (by kernel_rfl) (by simp) (AllReadyH.cons rfl (fun Kc hKc => ?_) AllReadyH.nil)
      go_simp
      (go_at_call 14; refine (HS.out c0 _ (RdR.own C0.out).1).mono ?_; rintro e u13 ⟨rfl, hb⟩)
      replace c1 := cell_keep hb c1
      replace c2 := cell_keep hb c2
      replace C0 := hidCv (own_below C0.out hb)
      replace HA := hidCv (HA.out.below hb)
      replace HB := hidCv (HB.out.trans (hb.mono HB.out.size))
      clear hb
      go_wp2_with fail
      refine hKc.out _ _ ?_ (fun hHeld => ?_)
      · (try dsimp only)
        refine ⟨?_, ?_⟩ <;> (repeat (with_reducible (first | exact c1 | exact c2 | refine cell_dr ?_ | refine cell_stb ?_ ?_ | refine cell_al _ ?_ | (show _ ≠ _; omega))))
      clear hKc Kc
      (try simp only [List.getElem_toArray]); (try simp only [List.getElem_cons_succ]); (try simp only [List.getElem_cons_zero]); (try simp only [Act.put]); (try simp only [List.setIfInBounds_toArray]); (try simp only [List.set_cons_succ]); (try simp only [List.set_cons_zero])
      refine wpAnyH_take (i := 5) (v := ?_) rfl (by kernel_rfl) (by kernel_rfl) (by kernel_rfl) (fun _ _ _ h => h) (Or.inl ⟨by kernel_rfl, ?_⟩) hHeld ?_
      rotate_left
      · intro wz hSw; (try dsimp only at hSw); go_simp; all_goals (try with_reducible rfl)
      (try simp only [List.getElem_toArray]); (try simp only [List.getElem_cons_succ]); (try simp only [List.getElem_cons_zero]); (try simp only [Act.put]); (try simp only [List.setIfInBounds_toArray]); (try simp only [List.set_cons_succ]); (try simp only [List.set_cons_zero])
      refine wpAnyH_take (i := 6) (v := ?_) rfl (by kernel_rfl) (by kernel_rfl) (by kernel_rfl) (fun _ _ _ h => h) (Or.inl ⟨by kernel_rfl, ?_⟩) hHeld ?_
      rotate_left
      · intro wz hSw; (try dsimp only at hSw); go_simp; all_goals (try with_reducible rfl)
      (try simp only [List.getElem_toArray]); (try simp only [List.getElem_cons_succ]); (try simp only [List.getElem_cons_zero]); (try simp only [Act.put]); (try simp only [List.setIfInBounds_toArray]); (try simp only [List.set_cons_succ]); (try simp only [List.set_cons_zero])
      refine wpAnyH_take (i := 7) (v := ?_) rfl (by kernel_rfl) (by kernel_rfl) (by kernel_rfl) (fun _ _ _ h => h) (Or.inl ⟨by kernel_rfl, ?_⟩) hHeld ?_
      rotate_left
      · intro wz hSw; (try dsimp only at hSw); go_simp; all_goals (try with_reducible rfl)
      (try simp only [List.getElem_toArray]); (try simp only [List.getElem_cons_succ]); (try simp only [List.getElem_cons_zero]); (try simp only [Act.put]); (try simp only [List.setIfInBounds_toArray]); (try simp only [List.set_cons_succ]); (try simp only [List.set_cons_zero])
      have f0 := HA.out.f0
      have f1' := HA.out.f1
      have g0 := HA.out.c0
      have g1 := HA.out.c1
      refine wpAnyH_ready (rs := [9]) (by kernel_rfl) (by simp) (AllReadyH.cons rfl (fun Kc hKc => ?_) AllReadyH.nil)
      go_simp
      refine hKc.out _ _ ?_ (fun hHeld => ?_)
      · (try dsimp only)
        refine ⟨?_, ?_⟩ <;> (repeat (with_reducible (first | exact c1 | exact c2 | refine cell_dr ?_ | refine cell_stb ?_ ?_ | refine cell_al _ ?_ | (show _ ≠ _; omega))))
      clear hKc Kc
      (try simp only [List.getElem_toArray]); (try simp only [List.getElem_cons_succ]); (try simp only [List.getElem_cons_zero]); (try simp only [Act.put]); (try simp only [List.setIfInBounds_toArray]); (try simp only [List.set_cons_succ]); (try simp only [List.set_cons_zero])
      refine wpAnyH_take (i := 10) (v := ?_) rfl (by kernel_rfl) (by kernel_rfl) (by kernel_rfl) (fun _ _ _ h => h) (Or.inl ⟨by kernel_rfl, ?_⟩) hHeld ?_
      rotate_left
      · intro wz hSw; (try dsimp only at hSw); go_simp; all_goals (try with_reducible rfl)
      (try simp only [List.getElem_toArray]); (try simp only [List.getElem_cons_succ]); (try simp only [List.getElem_cons_zero]); (try simp only [Act.put]); (try simp only [List.setIfInBounds_toArray]); (try simp only [List.set_cons_succ]); (try simp only [List.set_cons_zero])
      refine wpAnyH_done (by kernel_rfl) ?_ _
      refine NoPanic.normal ?_
      go_wp2_with fail
      go_meet
      case rel =>
        refine ⟨Ab, rfl, rfl, (HA.out.set0 f1).set1 f2, ⟨?_, ?_⟩, (HB.out.setCell (p := ⟨Ab, 0, none⟩) hAw _).setCell (p := ⟨Ab, 1, none⟩) hAw _⟩ <;> (repeat (with_reducible (first | exact c1 | exact c2 | refine cell_stb ?_ ?_ | (show _ ≠ _; omega))))
  case rest =>
    clear HB HK
    rename_i wc
    obtain ⟨T, rfl, rfl, V0, HK, HB⟩ := hcut
    have B1 := HB.out
    have KP := HK.out
    clear HB HK
    go_wp2_with fail
    refine (HT.out _ B1).mono ?_
    rintro e w2 ⟨c0, rfl, t, hb⟩
    have C0 := hidCv t
    replace B1 := B1.trans (hb.mono B1.size)
    replace V0 := hidCv (V0.out.below hb)
    replace KP := stayCv hb KP
    clear hb t
    have z0 := KP.1
    have z1 := KP.2
    go_wp2_with fail
    refine (to_any x1 y1 _).mono ?_
    rintro e w3 ⟨rfl, hb⟩
    replace B1 := B1.trans (hb.mono B1.size)
    replace V0 := hidCv (V0.out.below hb)
    replace C0 := hidCv (own_below C0.out hb)
    clear hb z0 z1 KP
    go_wp2_with fail
    refine (HI.out c0 _ (RdR.own C0.out).1).mono ?_
    rintro e w4 ⟨rfl, hb⟩
    replace B1 := B1.trans (hb.mono B1.size)
    replace V0 := hidCv (V0.out.below hb)
    replace C0 := hidCv (own_below C0.out hb)
    clear hb
    have hb := bAl w4 (.cells #[.int .i64 f1, .int .i64 f2] 33)
    have G0 := hidCv (IsR.new w4 f1 f2)
    obtain ⟨Q, hQ⟩ : ∃ Q, Q = w4.heap.size := ⟨_, rfl⟩
    have z0 := (V0.out.below hb).c0
    have z1 := (V0.out.below hb).c1
    have z2 := G0.out.c0
    have z3 := G0.out.c1
    go_wp2_with fail
    refine (eq_same f1 f2 _).mono ?_
    rintro e w5 ⟨rfl, hb5⟩
    replace B1 := (B1.trans (hb.mono B1.size)).trans (hb5.mono (by have := B1.size; simp; omega))
    replace C0 := hidCv (own_below (own_below C0.out hb) hb5)
    clear hb hb5 z0 z1 z2 z3 V0 G0 hQ
    go_wp2_with fail
    refine (HT.out _ B1).mono ?_
    rintro e w6 ⟨y0, rfl, t, hb⟩
    have Y0 := hidCv t
    replace B1 := B1.trans (hb.mono B1.size)
    replace C0 := hidCv (own_below C0.out hb)
    clear hb t
    go_wp2_with fail
    refine (eqS_any c0 y0 a0 _ (RdR.own C0.out).1 (RdR.own Y0.out).1).mono ?_
    rintro e w7 ⟨rfl, hb⟩
    replace B1 := B1.trans (hb.mono B1.size)
    clear hb
    go_wp2
    go_ret
    exact ⟨rfl, B1⟩
end Go.Proofs.Ytibncepllmjhhaa
