/- The walk of the law of Deep: both answers are the same, and the list that was handed in stays. -/
import Derived.Test.YthdogphpjflklaaAgrP1
import Derived.Test.YthdogphpjflklaaRgW0
import Derived.Test.YthdogphpjflklaaRatioW4
import Derived.Deep.RegionHeld3
namespace Go.Proofs.Ythdogphpjflklaa
open Go.RowKit Go.Proofs.Ythdogphpjflklaa.RM

theorem stayDp {w w' : World} {x : Nat} {a b : Int} (hb : Below w.heap.size w w') (h : w.cell? ⟨x, 0, none⟩ = some (.int .i64 a) ∧ w.cell? ⟨x, 1, none⟩ = some (.int .i64 b)) : w'.cell? ⟨x, 0, none⟩ = some (.int .i64 a) ∧ w'.cell? ⟨x, 1, none⟩ = some (.int .i64 b) :=
  ⟨(hb.cell (p := ⟨x, 0, none⟩) (World.block_lt_of_cell? w _ h.1)).trans h.1, (hb.cell (p := ⟨x, 1, none⟩) (World.block_lt_of_cell? w _ h.2)).trans h.2⟩
set_option maxRecDepth 100000 in
set_option maxHeartbeats 4000000 in
theorem lawDeep (v0 : Value) (a0 : List Sp) (x1 y1 : Int) (w : World) (h0 : RdS w v0 a0) :
    Calls Try.prog 3 #[v0, .agg #[.int .i64 x1, .int .i64 y1]] w fun e w' => e = .returned (.bool true) ∧ Below w.heap.size w w' := by
  have H0 : Hid (RdS w v0 a0) := h0
  clear h0
  obtain ⟨X0, hX0⟩ : ∃ X, X = w.alloc (.cells #[.int .i64 x1, .int .i64 y1] 24) := ⟨_, rfl⟩
  have B1 : Below w.heap.size w X0 := by rw [hX0]; exact b0S _ _
  have KP : X0.cell? ⟨w.heap.size, 0, none⟩ = some (.int .i64 x1) ∧ X0.cell? ⟨w.heap.size, 1, none⟩ = some (.int .i64 y1) := by rw [hX0]; simp [go_sem]
  go_enter Try.func3, Try.ntmps3
  go_wp2_with fail
  rw [← hX0]
  clear hX0
  refine (szRg_any v0 a0 1048576 _ (H0.out.below B1) (by omega) (by omega)).mono ?_
  rintro e w0 ⟨rfl, hw⟩
  obtain rfl := hw.symm
  clear hw
  by_cases hs0 : 1048576 - (a0.length : Int) < 0
  · rw [if_pos hs0]
    go_wp2
    go_ret
    exact ⟨rfl, B1⟩
  rw [if_neg hs0]
  have lb0 : a0.length ≤ 1048576 := by omega
  obtain ⟨r0, hr0⟩ : ∃ x, x = 1048576 - (a0.length : Int) := ⟨_, rfl⟩
  have r00 : 0 ≤ r0 := by omega
  have r01 : r0 ≤ 1048576 := by omega
  rw [← hr0]
  have HT : Hid (∀ W : World, Below w.heap.size w W → Calls Try.prog 10 #[v0] W fun e w' => ∃ u, e = .returned u ∧ w'.ownsRow W.heap.size 34 4 u a0.length (cellsS a0) ∧ Below W.heap.size W w') := by
    intro W hW; exact toRgS_any v0 a0 W (H0.out.below hW) lb0
  clear hr0 hs0
  obtain ⟨q, hq⟩ : ∃ q, q = deeA a0 (x1, y1) := ⟨_, rfl⟩
  have HS : Hid (∀ (u0 : Value) (W : World), RdS W u0 a0 → Calls Try.prog 9 #[u0, .agg #[.int .i64 x1, .int .i64 y1]] W fun e w' => e = .returned (.int .i64 q) ∧ Below W.heap.size W w') := by
    intro u0 W g0; have := sDeep_any u0 a0 (x1, y1) W g0; rw [← hq] at this; exact this
  have HI : Hid (∀ (u0 : Value) (W : World), RdS W u0 a0 → Calls Try.prog 12 #[u0, .agg #[.int .i64 x1, .int .i64 y1]] W fun e w' => e = .returned (.int .i64 q) ∧ Below W.heap.size W w') := by
    intro u0 W g0; have := iDeep_any u0 a0 (x1, y1) W g0; rw [← hq] at this; exact this
  have e1 : (q != q) = false := by simp
  clear hq H0
  obtain ⟨Kx, hKx⟩ : ∃ K, K = w.heap.size := ⟨_, rfl⟩
  rw [← hKx] at KP
  have HB := hidA B1
  have HK := hidA KP
  go_upto_region 5 with fail
  rw [← hKx]
  clear B1 KP hKx
  obtain ⟨c1, c2⟩ := HK.out
  have hb := (Below.refl X0.heap.size X0).drew
  refine wp_region_noPanic ?_
  refine wp_region_held_drew (S := (fun w' => w'.cell? ⟨Kx, 0, none⟩ = some (.int .i64 x1) ∧ w'.cell? ⟨Kx, 1, none⟩ = some (.int .i64 y1))) (by kernel_rfl) ?_ (fun hHeld => ?_)
  · (try dsimp only)
    refine ⟨?_, ?_⟩ <;> (repeat (with_reducible (first | exact c1 | exact c2 | refine cell_dr ?_)))
  replace c1 := cell_dr c1
  replace c2 := cell_dr c2
  replace HB := hidA (HB.out.trans (hb.mono HB.out.size))
  clear hb HK
  obtain ⟨wd, hwd⟩ : ∃ u, u = X0.drew := ⟨_, rfl⟩
  rw [← hwd] at HB c1 c2 hHeld ⊢
  clear hwd
  refine wpAnyH_take (i := 0) (v := ?_) rfl (by kernel_rfl) (by kernel_rfl) (by kernel_rfl) (fun _ _ _ h => h) (Or.inl ⟨by kernel_rfl, ?_⟩) hHeld ?_
  rotate_left
  · intro wz hSw; (try dsimp only at hSw); go_simp; all_goals (try with_reducible rfl)
  (try simp only [List.getElem_toArray]); (try simp only [List.getElem_cons_succ]); (try simp only [List.getElem_cons_zero]); (try simp only [Act.put]); (try simp only [List.setIfInBounds_toArray]); (try simp only [List.set_cons_succ]); (try simp only [List.set_cons_zero])
  refine wpAnyH_take (i := 2) (v := ?_) rfl (by kernel_rfl) (by kernel_rfl) (by kernel_rfl) (fun _ _ _ h => h) (Or.inl ⟨by kernel_rfl, ?_⟩) hHeld ?_
  rotate_left
  · intro wz hSw; (try dsimp only at hSw); go_simp; all_goals (try with_reducible rfl)
  (try simp only [List.getElem_toArray]); (try simp only [List.getElem_cons_succ]); (try simp only [List.getElem_cons_zero]); (try simp only [Act.put]); (try simp only [List.setIfInBounds_toArray]); (try simp only [List.set_cons_succ]); (try simp only [List.set_cons_zero])
  refine wpAnyH_ready (rs := [1]) (by kernel_rfl) (by simp) (AllReadyH.cons rfl (fun Kc hKc => ?_) AllReadyH.nil)
  go_simp
  (go_at_call 10; refine (HT.out _ HB.out).mono ?_; rintro e u1 ⟨c0, rfl, t, hb⟩)
  have C0 := hidA t
  clear t
  replace c1 := cell_keep hb c1
  replace c2 := cell_keep hb c2
  replace HB := hidA (HB.out.trans (hb.mono HB.out.size))
  clear hb
  go_wp2_with fail
  refine hKc.out _ _ ?_ (fun hHeld => ?_)
  · (try dsimp only)
    refine ⟨?_, ?_⟩ <;> (repeat (with_reducible (first | exact c1 | exact c2 | refine cell_dr ?_)))
  clear hKc Kc
  (try simp only [List.getElem_toArray]); (try simp only [List.getElem_cons_succ]); (try simp only [List.getElem_cons_zero]); (try simp only [Act.put]); (try simp only [List.setIfInBounds_toArray]); (try simp only [List.set_cons_succ]); (try simp only [List.set_cons_zero])
  refine wpAnyH_ready (rs := [3]) (by kernel_rfl) (by simp) (AllReadyH.cons rfl (fun Kc hKc => ?_) AllReadyH.nil)
  go_simp
  (go_at_call 11; refine (to_any x1 y1 _).mono ?_; rintro e u2 ⟨rfl, hb⟩)
  replace c1 := cell_keep hb c1
  replace c2 := cell_keep hb c2
  replace C0 := hidA (own_below C0.out hb)
  replace HB := hidA (HB.out.trans (hb.mono HB.out.size))
  clear hb
  go_wp2_with fail
  refine hKc.out _ _ ?_ (fun hHeld => ?_)
  · (try dsimp only)
    refine ⟨?_, ?_⟩ <;> (repeat (with_reducible (first | exact c1 | exact c2 | refine cell_dr ?_)))
  clear hKc Kc
  (try simp only [List.getElem_toArray]); (try simp only [List.getElem_cons_succ]); (try simp only [List.getElem_cons_zero]); (try simp only [Act.put]); (try simp only [List.setIfInBounds_toArray]); (try simp only [List.set_cons_succ]); (try simp only [List.set_cons_zero])
  refine wpAnyH_ready (rs := [4]) (by kernel_rfl) (by simp) (AllReadyH.cons rfl (fun Kc hKc => ?_) AllReadyH.nil)
  go_simp
  (go_at_call 9; refine (HS.out c0 _ (RdS.ownRg C0.out).1).mono ?_; rintro e u3 ⟨rfl, hb⟩)
  replace c1 := cell_keep hb c1
  replace c2 := cell_keep hb c2
  replace C0 := hidA (own_below C0.out hb)
  replace HB := hidA (HB.out.trans (hb.mono HB.out.size))
  clear hb
  go_wp2_with fail
  refine hKc.out _ _ ?_ (fun hHeld => ?_)
  · (try dsimp only)
    refine ⟨?_, ?_⟩ <;> (repeat (with_reducible (first | exact c1 | exact c2 | refine cell_dr ?_)))
  clear hKc Kc
  (try simp only [List.getElem_toArray]); (try simp only [List.getElem_cons_succ]); (try simp only [List.getElem_cons_zero]); (try simp only [Act.put]); (try simp only [List.setIfInBounds_toArray]); (try simp only [List.set_cons_succ]); (try simp only [List.set_cons_zero])
  refine wpAnyH_take (i := 5) (v := ?_) rfl (by kernel_rfl) (by kernel_rfl) (by kernel_rfl) (fun _ _ _ h => h) (Or.inl ⟨by kernel_rfl, ?_⟩) hHeld ?_
  rotate_left
  · intro wz hSw; (try dsimp only at hSw); go_simp; all_goals (try with_reducible rfl)
  (try simp only [List.getElem_toArray]); (try simp only [List.getElem_cons_succ]); (try simp only [List.getElem_cons_zero]); (try simp only [Act.put]); (try simp only [List.setIfInBounds_toArray]); (try simp only [List.set_cons_succ]); (try simp only [List.set_cons_zero])
  refine wpAnyH_done (by kernel_rfl) ?_ _
  refine NoPanic.normal ?_
  clear C0 hHeld
  have B1 := HB.out
  have KP := And.intro c1 c2
  clear HB c1 c2
  go_wp2_with fail
  refine (HT.out _ B1).mono ?_
  rintro e w2 ⟨c0, rfl, t, hb⟩
  have C0 := hidA t
  replace B1 := B1.trans (hb.mono B1.size)
  replace KP := stayDp hb KP
  clear hb t
  have z0 := KP.1
  have z1 := KP.2
  go_wp2_with fail
  refine (to_any x1 y1 _).mono ?_
  rintro e w3 ⟨rfl, hb⟩
  replace B1 := B1.trans (hb.mono B1.size)
  replace C0 := hidA (own_below C0.out hb)
  clear hb z0 z1 KP
  go_wp2_with fail
  refine (HI.out c0 _ (RdS.ownRg C0.out).1).mono ?_
  rintro e w4 ⟨rfl, hb⟩
  replace B1 := B1.trans (hb.mono B1.size)
  replace C0 := hidA (own_below C0.out hb)
  clear hb
  go_wp2_with fail
  refine (HT.out _ B1).mono ?_
  rintro e w6 ⟨y0, rfl, t, hb⟩
  have Y0 := hidA t
  replace B1 := B1.trans (hb.mono B1.size)
  replace C0 := hidA (own_below C0.out hb)
  clear hb t
  go_wp2_with fail
  refine (eqRgS_any c0 y0 a0 _ (RdS.ownRg C0.out).1 (RdS.ownRg Y0.out).1).mono ?_
  rintro e w7 ⟨rfl, hb⟩
  replace B1 := B1.trans (hb.mono B1.size)
  clear hb
  go_wp2
  go_ret
  exact ⟨rfl, B1⟩
end Go.Proofs.Ythdogphpjflklaa
