/- The walk of the law of Cover: both answers are the same, and the list that was handed in stays. -/
import Derived.Test.YtiiiaenahghobaaPtI4
import Derived.Deep.RegionHeld3
namespace Go.Proofs.Ytiiiaenahghobaa
open Go.RowKit Go.Proofs.Ytiiiaenahghobaa.RM

theorem stayCover {w w' : World} {x : Nat} {a b : Int} (hb : Below w.heap.size w w') (h : w.cell? ⟨x, 0, none⟩ = some (.int .i64 a) ∧ w.cell? ⟨x, 1, none⟩ = some (.int .i64 b)) : w'.cell? ⟨x, 0, none⟩ = some (.int .i64 a) ∧ w'.cell? ⟨x, 1, none⟩ = some (.int .i64 b) :=
  ⟨(hb.cell (p := ⟨x, 0, none⟩) (World.block_lt_of_cell? w _ h.1)).trans h.1, (hb.cell (p := ⟨x, 1, none⟩) (World.block_lt_of_cell? w _ h.2)).trans h.2⟩
set_option maxRecDepth 100000 in
set_option maxHeartbeats 4000000 in
theorem lawCover (v0 : Value) (a0 : List Fr) (x1 y1 : Int) (w : World) (h0 : RdR w v0 a0) :
    Calls Try.prog 8 #[v0, .agg #[.int .i64 x1, .int .i64 y1]] w fun e w' => e = .returned (.bool true) ∧ Below w.heap.size w w' := by
  have H0 : Hid (RdR w v0 a0) := h0
  clear h0
  have B1 : Below w.heap.size w (w.alloc (.cells #[.int .i64 x1, .int .i64 y1] 37)) := (Below.refl _ _).alloc (Nat.le_refl _) _
  have KP : (w.alloc (.cells #[.int .i64 x1, .int .i64 y1] 37)).cell? ⟨w.heap.size, 0, none⟩ = some (.int .i64 x1) ∧ (w.alloc (.cells #[.int .i64 x1, .int .i64 y1] 37)).cell? ⟨w.heap.size, 1, none⟩ = some (.int .i64 y1) := by simp [go_sem]
  obtain ⟨X0, hX0⟩ : ∃ X, X = w.alloc (.cells #[.int .i64 x1, .int .i64 y1] 37) := ⟨_, rfl⟩
  rw [← hX0] at B1 KP
  go_enter Try.func8, Try.ntmps8
  go_wp2_with fail
  rw [← hX0]
  clear hX0
  refine (szQ_any v0 a0 1048576 _ (H0.out.below B1) (by omega) (by omega)).mono ?_
  rintro e w0 ⟨rfl, hw⟩
  obtain rfl := hw.symm
  clear hw
  by_cases hs0 : 1048576 - (a0.length : Int) < 0
  · rw [if_pos hs0]
    go_wp2
    go_ret
    exact ⟨rfl, B1⟩
  rw [if_neg hs0]
  have lb0 : a0.length ≤ 1048576 := by omega
  obtain ⟨r0, hr0⟩ : ∃ x, x = 1048576 - (a0.length : Int) := ⟨_, rfl⟩
  have r00 : 0 ≤ r0 := by omega
  have r01 : r0 ≤ 1048576 := by omega
  rw [← hr0]
  have HT0 : Hid (∀ W : World, Below w.heap.size w W → Calls Try.prog 11 #[v0] W fun e w' => ∃ u, e = .returned u ∧ w'.ownsRow W.heap.size 44 2 u a0.length (cellsR a0) ∧ Below W.heap.size W w') := by
    intro W hW; exact toQ_any v0 a0 W (H0.out.below hW) lb0
  clear hr0 hs0
  obtain ⟨q, hq⟩ : ∃ q, q = covC a0 (x1, y1) := ⟨_, rfl⟩
  obtain ⟨f1, hf1⟩ : ∃ A, A = covL a0 (x1, y1) := ⟨_, rfl⟩
  obtain ⟨f2, hf2⟩ : ∃ A, A = covH a0 (x1, y1) := ⟨_, rfl⟩
  have HS : Hid (∀ (u0 : Value) (W : World), RdR W u0 a0 → Calls Try.prog 23 #[u0, .agg #[.int .i64 x1, .int .i64 y1]] W fun e w' => e = .returned (.tuple #[.int .i64 f1, .int .i64 f2, .bool q]) ∧ Below W.heap.size W w') := by
    intro u0 W g0; have := sCover_any u0 a0 x1 y1 W g0; rw [← hf1, ← hf2, ← hq] at this; exact this
  have HI : Hid (∀ (u0 : Value) (W : World), RdR W u0 a0 → Calls Try.prog 25 #[u0, .agg #[.int .i64 x1, .int .i64 y1]] W fun e w' => e = .returned (.tuple #[.int .i64 f1, .int .i64 f2, .bool q]) ∧ Below W.heap.size W w') := by
    intro u0 W g0; have := iCover_any u0 a0 x1 y1 W g0; rw [← hf1, ← hf2, ← hq] at this; exact this
  have e1 : (q != q) = false := by simp
  have e2 : (f1 != f1) = false := by simp
  have e3 : (f2 != f2) = false := by simp
  clear hf1 hf2 hq H0
  go_wp2_with fail
  have hb : Below X0.heap.size X0 X0.drew := (Below.refl _ _).drew
  replace B1 := B1.trans (hb.mono B1.size)
  replace KP := stayCover hb KP
  clear hb
  refine wp_region_noPanic ?_
  refine wp_region_held_drew (S := fun W => W.cell? ⟨w.heap.size, 0, none⟩ = some (.int .i64 x1) ∧ W.cell? ⟨w.heap.size, 1, none⟩ = some (.int .i64 y1)) (by kernel_rfl) KP (fun hHeld => ?_)
  obtain ⟨wd, hwd⟩ : ∃ u, u = X0.drew := ⟨_, rfl⟩
  rw [← hwd] at B1 KP hHeld ⊢
  clear hwd
  refine wpAnyH_take (i := 0) (v := ?_) rfl (by kernel_rfl) (by kernel_rfl) (by kernel_rfl) (fun _ _ _ h => h) (Or.inl ⟨by kernel_rfl, ?_⟩) hHeld ?_
  rotate_left
  · intro wz hSw; (try dsimp only at hSw); obtain ⟨s0, s1⟩ := hSw; go_simp; all_goals (try with_reducible rfl)
  (try simp only [List.getElem_toArray]); (try simp only [List.getElem_cons_succ]); (try simp only [List.getElem_cons_zero]); (try simp only [Act.put]); (try simp only [List.setIfInBounds_toArray]); (try simp only [List.set_cons_succ]); (try simp only [List.set_cons_zero])
  refine wpAnyH_take (i := 2) (v := ?_) rfl (by kernel_rfl) (by kernel_rfl) (by kernel_rfl) (fun _ _ _ h => h) (Or.inl ⟨by kernel_rfl, ?_⟩) hHeld ?_
  rotate_left
  · intro wz hSw; (try dsimp only at hSw); obtain ⟨s0, s1⟩ := hSw; go_simp; all_goals (try with_reducible rfl)
  (try simp only [List.getElem_toArray]); (try simp only [List.getElem_cons_succ]); (try simp only [List.getElem_cons_zero]); (try simp only [Act.put]); (try simp only [List.setIfInBounds_toArray]); (try simp only [List.set_cons_succ]); (try simp only [List.set_cons_zero])
  refine wpAnyH_ready (rs := [1]) (by kernel_rfl) (by simp) (AllReadyH.cons rfl (fun Kc hKc => ?_) AllReadyH.nil)
  go_simp
  refine (HT0.out _ B1).mono ?_
  rintro e w2 ⟨c0, rfl, t, hb⟩
  replace B1 := B1.trans (hb.mono B1.size)
  replace KP := stayCover hb KP
  have hz_w2 := hb.size
  clear hb
  have C0 : Hid (w2.ownsRow wd.heap.size 44 2 c0 a0.length (cellsR (a0))) := t
  have UC0 : Hid (∀ b, c0.ownBlock = some b → b < w2.heap.size) := fun b h => (t.lt b h).2
  clear t
  go_wp2_with fail
  refine hKc.out _ _ KP (fun hHeld => ?_)
  clear hKc Kc
  (try simp only [List.getElem_toArray]); (try simp only [List.getElem_cons_succ]); (try simp only [List.getElem_cons_zero]); (try simp only [Act.put]); (try simp only [List.setIfInBounds_toArray]); (try simp only [List.set_cons_succ]); (try simp only [List.set_cons_zero])
  refine wpAnyH_ready (rs := [3]) (by kernel_rfl) (by simp) (AllReadyH.cons rfl (fun Kc hKc => ?_) AllReadyH.nil)
  go_simp
  refine (to_any x1 y1 _).mono ?_
  rintro e w3 ⟨rfl, hb⟩
  replace B1 := B1.trans (hb.mono B1.size)
  replace C0 : Hid (w3.ownsRow wd.heap.size 44 2 c0 a0.length (cellsR (a0))) := own_below C0.out hb
  replace KP := stayCover hb KP
  have hz_w3 := hb.size
  clear hb
  go_wp2_with fail
  refine hKc.out _ _ KP (fun hHeld => ?_)
  clear hKc Kc
  (try simp only [List.getElem_toArray]); (try simp only [List.getElem_cons_succ]); (try simp only [List.getElem_cons_zero]); (try simp only [Act.put]); (try simp only [List.setIfInBounds_toArray]); (try simp only [List.set_cons_succ]); (try simp only [List.set_cons_zero])
  refine wpAnyH_ready (rs := [4]) (by kernel_rfl) (by simp) (AllReadyH.cons rfl (fun Kc hKc => ?_) AllReadyH.nil)
  go_simp
  refine (HS.out c0 _ (RdR.ownQ C0.out).1).mono ?_
  rintro e w4 ⟨rfl, hb⟩
  replace B1 := B1.trans (hb.mono B1.size)
  replace C0 : Hid (w4.ownsRow wd.heap.size 44 2 c0 a0.length (cellsR (a0))) := own_below C0.out hb
  replace KP := stayCover hb KP
  have hz_w4 := hb.size
  clear hb
  clear C0 UC0
  go_wp2_with fail
  refine hKc.out _ _ KP (fun hHeld => ?_)
  clear hKc Kc
  (try simp only [List.getElem_toArray]); (try simp only [List.getElem_cons_succ]); (try simp only [List.getElem_cons_zero]); (try simp only [Act.put]); (try simp only [List.setIfInBounds_toArray]); (try simp only [List.set_cons_succ]); (try simp only [List.set_cons_zero])
  refine wpAnyH_take (i := 5) (v := ?_) rfl (by kernel_rfl) (by kernel_rfl) (by kernel_rfl) (fun _ _ _ h => h) (Or.inl ⟨by kernel_rfl, ?_⟩) hHeld ?_
  rotate_left
  · intro wz hSw; (try dsimp only at hSw); obtain ⟨s0, s1⟩ := hSw; go_simp; all_goals (try with_reducible rfl)
  (try simp only [List.getElem_toArray]); (try simp only [List.getElem_cons_succ]); (try simp only [List.getElem_cons_zero]); (try simp only [Act.put]); (try simp only [List.setIfInBounds_toArray]); (try simp only [List.set_cons_succ]); (try simp only [List.set_cons_zero])
  refine wpAnyH_take (i := 6) (v := ?_) rfl (by kernel_rfl) (by kernel_rfl) (by kernel_rfl) (fun _ _ _ h => h) (Or.inl ⟨by kernel_rfl, ?_⟩) hHeld ?_
  rotate_left
  · intro wz hSw; (try dsimp only at hSw); obtain ⟨s0, s1⟩ := hSw; go_simp; all_goals (try with_reducible rfl)
  (try simp only [List.getElem_toArray]); (try simp only [List.getElem_cons_succ]); (try simp only [List.getElem_cons_zero]); (try simp only [Act.put]); (try simp only [List.setIfInBounds_toArray]); (try simp only [List.set_cons_succ]); (try simp only [List.set_cons_zero])
  refine wpAnyH_take (i := 7) (v := ?_) rfl (by kernel_rfl) (by kernel_rfl) (by kernel_rfl) (fun _ _ _ h => h) (Or.inl ⟨by kernel_rfl, ?_⟩) hHeld ?_
  rotate_left
  · intro wz hSw; (try dsimp only at hSw); obtain ⟨s0, s1⟩ := hSw; go_simp; all_goals (try with_reducible rfl)
  (try simp only [List.getElem_toArray]); (try simp only [List.getElem_cons_succ]); (try simp only [List.getElem_cons_zero]); (try simp only [Act.put]); (try simp only [List.setIfInBounds_toArray]); (try simp only [List.set_cons_succ]); (try simp only [List.set_cons_zero])
  refine wpAnyH_take (i := 8) (v := ?_) rfl (by kernel_rfl) (by kernel_rfl) (by kernel_rfl) (fun _ _ _ h => h) (Or.inl ⟨by kernel_rfl, ?_⟩) hHeld ?_
  rotate_left
  · intro wz hSw; (try dsimp only at hSw); obtain ⟨s0, s1⟩ := hSw; go_simp; all_goals (try with_reducible rfl)
  (try simp only [List.getElem_toArray]); (try simp only [List.getElem_cons_succ]); (try simp only [List.getElem_cons_zero]); (try simp only [Act.put]); (try simp only [List.setIfInBounds_toArray]); (try simp only [List.set_cons_succ]); (try simp only [List.set_cons_zero])
  refine wpAnyH_take (i := 9) (v := ?_) rfl (by kernel_rfl) (by kernel_rfl) (by kernel_rfl) (fun _ _ _ h => h) (Or.inl ⟨by kernel_rfl, ?_⟩) hHeld ?_
  rotate_left
  · intro wz hSw; (try dsimp only at hSw); obtain ⟨s0, s1⟩ := hSw; go_simp; all_goals (try with_reducible rfl)
  (try simp only [List.getElem_toArray]); (try simp only [List.getElem_cons_succ]); (try simp only [List.getElem_cons_zero]); (try simp only [Act.put]); (try simp only [List.setIfInBounds_toArray]); (try simp only [List.set_cons_succ]); (try simp only [List.set_cons_zero])
  refine wpAnyH_take (i := 10) (v := ?_) rfl (by kernel_rfl) (by kernel_rfl) (by kernel_rfl) (fun _ _ _ h => h) (Or.inl ⟨by kernel_rfl, ?_⟩) hHeld ?_
  rotate_left
  · intro wz hSw; (try dsimp only at hSw); obtain ⟨s0, s1⟩ := hSw; go_simp; all_goals (try with_reducible rfl)
  (try simp only [List.getElem_toArray]); (try simp only [List.getElem_cons_succ]); (try simp only [List.getElem_cons_zero]); (try simp only [Act.put]); (try simp only [List.setIfInBounds_toArray]); (try simp only [List.set_cons_succ]); (try simp only [List.set_cons_zero])
  refine wpAnyH_take (i := 11) (v := ?_) rfl (by kernel_rfl) (by kernel_rfl) (by kernel_rfl) (fun _ _ _ h => h) (Or.inl ⟨by kernel_rfl, ?_⟩) hHeld ?_
  rotate_left
  · intro wz hSw; (try dsimp only at hSw); obtain ⟨s0, s1⟩ := hSw; go_simp; all_goals (try with_reducible rfl)
  (try simp only [List.getElem_toArray]); (try simp only [List.getElem_cons_succ]); (try simp only [List.getElem_cons_zero]); (try simp only [Act.put]); (try simp only [List.setIfInBounds_toArray]); (try simp only [List.set_cons_succ]); (try simp only [List.set_cons_zero])
  refine wpAnyH_done (by kernel_rfl) ?_ _
  refine NoPanic.normal ?_
  go_wp2_with fail
  refine (HT0.out _ B1).mono ?_
  rintro e w5 ⟨xx0, rfl, t, hb⟩
  replace B1 := B1.trans (hb.mono B1.size)
  replace KP := stayCover hb KP
  have hz_w5 := hb.size
  clear hb
  have X0 : Hid (w5.ownsRow w4.heap.size 44 2 xx0 a0.length (cellsR (a0))) := t
  have UX0 : Hid (∀ b, xx0.ownBlock = some b → b < w5.heap.size) := fun b h => (t.lt b h).2
  clear t
  have z0 := KP.1
  have z1 := KP.2
  go_wp2_with fail
  refine (to_any x1 y1 _).mono ?_
  rintro e w6 ⟨rfl, hb⟩
  clear z0 z1
  replace B1 := B1.trans (hb.mono B1.size)
  replace X0 : Hid (w6.ownsRow w4.heap.size 44 2 xx0 a0.length (cellsR (a0))) := own_below X0.out hb
  replace KP := stayCover hb KP
  have hz_w6 := hb.size
  clear hb
  go_wp2_with fail
  refine (HI.out xx0 _ (RdR.ownQ X0.out).1).mono ?_
  rintro e w7 ⟨rfl, hb⟩
  replace B1 := B1.trans (hb.mono B1.size)
  replace X0 : Hid (w7.ownsRow w4.heap.size 44 2 xx0 a0.length (cellsR (a0))) := own_below X0.out hb
  replace KP := stayCover hb KP
  have hz_w7 := hb.size
  clear hb
  go_wp2_with fail
  refine (HT0.out _ B1).mono ?_
  rintro e w8 ⟨yy0, rfl, t, hb⟩
  replace B1 := B1.trans (hb.mono B1.size)
  replace X0 : Hid (w8.ownsRow w4.heap.size 44 2 xx0 a0.length (cellsR (a0))) := own_below X0.out hb
  replace KP := stayCover hb KP
  have hz_w8 := hb.size
  clear hb
  have Y0 : Hid (w8.ownsRow w7.heap.size 44 2 yy0 a0.length (cellsR (a0))) := t
  have UY0 : Hid (∀ b, yy0.ownBlock = some b → b < w8.heap.size) := fun b h => (t.lt b h).2
  clear t
  go_wp2_with fail
  refine (eqQ_any xx0 yy0 a0 _ (RdR.ownQ X0.out).1 (RdR.ownQ Y0.out).1).mono ?_
  rintro e w9 ⟨rfl, hb⟩
  replace B1 := B1.trans (hb.mono B1.size)
  replace X0 : Hid (w9.ownsRow w4.heap.size 44 2 xx0 a0.length (cellsR (a0))) := own_below X0.out hb
  replace Y0 : Hid (w9.ownsRow w7.heap.size 44 2 yy0 a0.length (cellsR (a0))) := own_below Y0.out hb
  replace KP := stayCover hb KP
  have hz_w9 := hb.size
  clear hb
  clear Y0 UY0
  go_wp2
  go_ret
  exact ⟨rfl, B1⟩
end Go.Proofs.Ytiiiaenahghobaa
