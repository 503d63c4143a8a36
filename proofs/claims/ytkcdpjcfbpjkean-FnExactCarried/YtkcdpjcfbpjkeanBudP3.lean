/- The walks of the program's function values. -/
import Derived.Test.YtkcdpjcfbpjkeanBudP2
namespace Go.Proofs.Ytkcdpjcfbpjkean
open Go.RowKit Go.Proofs.Ytkcdpjcfbpjkean.RM

set_option maxRecDepth 100000 in
set_option maxHeartbeats 4000000 in
theorem parF_any (Bs Bi Br : Nat) (vs vr : Value) (ps row : List Fr) (i k : Nat) (w : World) (h1 : w.cell? ⟨Bs, 0, none⟩ = some vs) (h2 : w.cell? ⟨Bi, 0, none⟩ = some (.int .i64 i)) (h3 : w.cell? ⟨Br, 0, none⟩ = some vr)
    (hs : RdR w vs ps) (hr : RdR w vr row) (hi : i < ps.length) (hk : k < ps.length) (hkr : k < row.length) :
    Calls Try.prog 48 #[.int .i64 k, .pointer (some ⟨Bs, 0, none⟩), .pointer (some ⟨Bi, 0, none⟩), .pointer (some ⟨Br, 0, none⟩)] w fun e w' =>
      e = .returned (.agg #[.int .i64 (tbP (fr ps i) (fr row k) (fr ps k)).1, .int .i64 (tbP (fr ps i) (fr row k) (fr ps k)).2]) ∧ Below w.heap.size w w' := by
  have b0 : ∀ {u : World} (o : Obj), Below u.heap.size u (u.alloc o) := fun o => (Below.refl _ _).alloc (Nat.le_refl _) o
  obtain ⟨a, sc, rfl, m1, _, _, s5⟩ := hs
  obtain ⟨b, rc, rfl, m2, _, _, r5⟩ := hr
  obtain ⟨sb, so, rfl, c4, c5⟩ := s5 i hi
  obtain ⟨sb', so', e, c8, c9⟩ := s5 k hk
  cases e
  obtain ⟨rb, ro, rfl, c6, c7⟩ := r5 k hkr
  unfold maxLen at m1 m2
  clear s5 r5
  obtain ⟨x, hx⟩ : ∃ x, x = fr ps i := ⟨_, rfl⟩
  obtain ⟨y, hy⟩ : ∃ x, x = fr row k := ⟨_, rfl⟩
  obtain ⟨z, hz⟩ : ∃ x, x = fr ps k := ⟨_, rfl⟩
  rw [← hx] at c4 c5
  rw [← hy] at c6 c7
  rw [← hz] at c8 c9
  rw [← hx, ← hy, ← hz]
  clear hx hy hz
  obtain ⟨a1, a2⟩ := x
  obtain ⟨x1, x2⟩ := y
  obtain ⟨y1, y2⟩ := z
  have HT := hidW8 (fun W => tb_any a1 a2 x1 x2 y1 y2 W)
  obtain ⟨r, hr⟩ : ∃ r, r = tbP (a1, a2) (x1, x2) (y1, y2) := ⟨_, rfl⟩
  rw [← hr] at HT ⊢
  clear hr
  obtain ⟨r1, r2⟩ := r
  dsimp only at c4 c5 c6 c7 c8 c9
  have c1 := h1
  have c2 := h2
  have c3 := h3
  have l1 := World.block_lt_of_cell? w _ c1
  have l2 := World.block_lt_of_cell? w _ c2
  have l3 := World.block_lt_of_cell? w _ c3
  have l4 := World.block_lt_of_cell? w _ c4
  have l6 := World.block_lt_of_cell? w _ c6
  dsimp only at l1 l2 l3 l4 l6
  clear h1 h2 h3
  have hki : (k : Int) < (ps.length : Int) := by omega
  have hii : (i : Int) < (ps.length : Int) := by omega
  have hkri : (k : Int) < (row.length : Int) := by omega
  go_enter Try.func48, Try.ntmps48
  go_upto_region 1 with fail
  obtain ⟨N, hN⟩ : ∃ N, N = w.heap.size := ⟨_, rfl⟩
  obtain ⟨X, hX⟩ : ∃ X, X = w.alloc (.cells #[.int .i64 0, .int .i64 0] 32) := ⟨_, rfl⟩
  have Z0 : IsR X N 0 0 := by rw [hX, hN]; exact IsR.new w 0 0
  have B0 : Below w.heap.size w X := by rw [hX]; exact b0 _
  replace c1 := cell_keep B0 c1
  replace c2 := cell_keep B0 c2
  replace c3 := cell_keep B0 c3
  replace c4 := cell_keep B0 c4
  replace c5 := cell_keep B0 c5
  replace c6 := cell_keep B0 c6
  replace c7 := cell_keep B0 c7
  replace c8 := cell_keep B0 c8
  replace c9 := cell_keep B0 c9
  have hwN : w.heap.size ≤ N := by omega
  rw [← hX, ← hN]
  rw [← hN] at l1 l2 l3 l4 l6
  clear hX hN
  refine wp_region_noPanic ?_
  refine wp_region_held_drew (S := (fun w' => w'.cell? ⟨Bs, 0, none⟩ = some (.slice (some ⟨sb, so, none⟩) ps.length sc) ∧ w'.cell? ⟨Bi, 0, none⟩ = some (.int .i64 i) ∧ w'.cell? ⟨Br, 0, none⟩ = some (.slice (some ⟨rb, ro, none⟩) row.length rc) ∧ w'.cell? ⟨sb, so + i * 2, none⟩ = some (.int .i64 a1) ∧ w'.cell? ⟨sb, so + i * 2 + 1, none⟩ = some (.int .i64 a2) ∧ w'.cell? ⟨rb, ro + k * 2, none⟩ = some (.int .i64 x1) ∧ w'.cell? ⟨rb, ro + k * 2 + 1, none⟩ = some (.int .i64 x2) ∧ w'.cell? ⟨sb, so + k * 2, none⟩ = some (.int .i64 y1) ∧ w'.cell? ⟨sb, so + k * 2 + 1, none⟩ = some (.int .i64 y2))) (by kernel_rfl) ?_ (fun hHeld => ?_)
  · (try dsimp only)
    refine ⟨?_, ?_, ?_, ?_, ?_, ?_, ?_, ?_, ?_⟩ <;> (repeat (with_reducible (first | exact c1 | exact c2 | exact c3 | exact c4 | exact c5 | exact c6 | exact c7 | exact c8 | exact c9 | refine cell_dr ?_ | refine cell_stb ?_ ?_ | (show _ ≠ _; omega))))
  refine wpAnyH_take (i := 0) (v := ?_) rfl (by kernel_rfl) (by kernel_rfl) (by kernel_rfl) (fun _ _ _ h => h) (Or.inl ⟨by kernel_rfl, ?_⟩) hHeld ?_
  rotate_left
  · intro wz hSw; (try dsimp only at hSw); go_simp; all_goals (try with_reducible rfl)
  (try simp only [List.getElem_toArray]); (try simp only [List.getElem_cons_succ]); (try simp only [List.getElem_cons_zero]); (try simp only [Act.put]); (try simp only [List.setIfInBounds_toArray]); (try simp only [List.set_cons_succ]); (try simp only [List.set_cons_zero])
  refine wpAnyH_take (i := 1) (v := ?_) rfl (by kernel_rfl) (by kernel_rfl) (by kernel_rfl) (fun _ _ _ h => h) (Or.inl ⟨by kernel_rfl, ?_⟩) hHeld ?_
  rotate_left
  · intro wz hSw; (try dsimp only at hSw); go_simp; all_goals (try with_reducible rfl)
  (try simp only [List.getElem_toArray]); (try simp only [List.getElem_cons_succ]); (try simp only [List.getElem_cons_zero]); (try simp only [Act.put]); (try simp only [List.setIfInBounds_toArray]); (try simp only [List.set_cons_succ]); (try simp only [List.set_cons_zero])
  refine wpAnyH_take (i := 2) (v := ?_) rfl (by kernel_rfl) (by kernel_rfl) (by kernel_rfl) (fun _ _ _ h => h) (Or.inl ⟨by kernel_rfl, ?_⟩) hHeld ?_
  rotate_left
  · intro wz hSw; (try dsimp only at hSw); go_simp; all_goals (try with_reducible rfl)
  (try simp only [List.getElem_toArray]); (try simp only [List.getElem_cons_succ]); (try simp only [List.getElem_cons_zero]); (try simp only [Act.put]); (try simp only [List.setIfInBounds_toArray]); (try simp only [List.set_cons_succ]); (try simp only [List.set_cons_zero])
  refine wpAnyH_take (i := 3) (v := ?_) rfl (by kernel_rfl) (by kernel_rfl) (by kernel_rfl) (fun _ _ _ h => h) (Or.inl ⟨by kernel_rfl, ?_⟩) hHeld ?_
  rotate_left
  · intro wz hSw; (try dsimp only at hSw); go_simp; all_goals (try with_reducible rfl)
  (try simp only [List.getElem_toArray]); (try simp only [List.getElem_cons_succ]); (try simp only [List.getElem_cons_zero]); (try simp only [Act.put]); (try simp only [List.setIfInBounds_toArray]); (try simp only [List.set_cons_succ]); (try simp only [List.set_cons_zero])
  refine wpAnyH_take (i := 4) (v := ?_) rfl (by kernel_rfl) (by kernel_rfl) (by kernel_rfl) (fun _ _ _ h => h) (Or.inl ⟨by kernel_rfl, ?_⟩) hHeld ?_
  rotate_left
  · intro wz hSw; (try dsimp only at hSw); go_simp; all_goals (try with_reducible rfl)
  (try simp only [List.getElem_toArray]); (try simp only [List.getElem_cons_succ]); (try simp only [List.getElem_cons_zero]); (try simp only [Act.put]); (try simp only [List.setIfInBounds_toArray]); (try simp only [List.set_cons_succ]); (try simp only [List.set_cons_zero])
  refine wpAnyH_take (i := 5) (v := ?_) rfl (by kernel_rfl) (by kernel_rfl) (by kernel_rfl) (fun _ _ _ h => h) (Or.inl ⟨by kernel_rfl, ?_⟩) hHeld ?_
  rotate_left
  · intro wz hSw; (try dsimp only at hSw); go_simp; all_goals (try with_reducible rfl)
  (try simp only [List.getElem_toArray]); (try simp only [List.getElem_cons_succ]); (try simp only [List.getElem_cons_zero]); (try simp only [Act.put]); (try simp only [List.setIfInBounds_toArray]); (try simp only [List.set_cons_succ]); (try simp only [List.set_cons_zero])
  refine wpAnyH_take (i := 6) (v := ?_) rfl (by kernel_rfl) (by kernel_rfl) (by kernel_rfl) (fun _ _ _ h => h) (Or.inl ⟨by kernel_rfl, ?_⟩) hHeld ?_
  rotate_left
  · intro wz hSw; (try dsimp only at hSw); go_simp; all_goals (try with_reducible rfl)
  (try simp only [List.getElem_toArray]); (try simp only [List.getElem_cons_succ]); (try simp only [List.getElem_cons_zero]); (try simp only [Act.put]); (try simp only [List.setIfInBounds_toArray]); (try simp only [List.set_cons_succ]); (try simp only [List.set_cons_zero])
  refine wpAnyH_take (i := 7) (v := ?_) rfl (by kernel_rfl) (by kernel_rfl) (by kernel_rfl) (fun _ _ _ h => h) (Or.inl ⟨by kernel_rfl, ?_⟩) hHeld ?_
  rotate_left
  · intro wz hSw; (try dsimp only at hSw); go_simp; all_goals (try with_reducible rfl)
  (try simp only [List.getElem_toArray]); (try simp only [List.getElem_cons_succ]); (try simp only [List.getElem_cons_zero]); (try simp only [Act.put]); (try simp only [List.setIfInBounds_toArray]); (try simp only [List.set_cons_succ]); (try simp only [List.set_cons_zero])
  refine wpAnyH_take (i := 8) (v := ?_) rfl (by kernel_rfl) (by kernel_rfl) (by kernel_rfl) (fun _ _ _ h => h) (Or.inl ⟨by kernel_rfl, ?_⟩) hHeld ?_
  rotate_left
  · intro wz hSw; (try dsimp only at hSw); go_simp; all_goals (try with_reducible rfl)
  (try simp only [List.getElem_toArray]); (try simp only [List.getElem_cons_succ]); (try simp only [List.getElem_cons_zero]); (try simp only [Act.put]); (try simp only [List.setIfInBounds_toArray]); (try simp only [List.set_cons_succ]); (try simp only [List.set_cons_zero])
  refine wpAnyH_take (i := 9) (v := ?_) rfl (by kernel_rfl) (by kernel_rfl) (by kernel_rfl) (fun _ _ _ h => h) (Or.inl ⟨by kernel_rfl, ?_⟩) hHeld ?_
  rotate_left
  · intro wz hSw; (try dsimp only at hSw); go_simp; all_goals (try with_reducible rfl)
  (try simp only [List.getElem_toArray]); (try simp only [List.getElem_cons_succ]); (try simp only [List.getElem_cons_zero]); (try simp only [Act.put]); (try simp only [List.setIfInBounds_toArray]); (try simp only [List.set_cons_succ]); (try simp only [List.set_cons_zero])
  refine wpAnyH_take (i := 10) (v := ?_) rfl (by kernel_rfl) (by kernel_rfl) (by kernel_rfl) (fun _ _ _ h => h) (Or.inl ⟨by kernel_rfl, ?_⟩) hHeld ?_
  rotate_left
  · intro wz hSw; (try dsimp only at hSw); go_simp; all_goals (try with_reducible rfl)
  (try simp only [List.getElem_toArray]); (try simp only [List.getElem_cons_succ]); (try simp only [List.getElem_cons_zero]); (try simp only [Act.put]); (try simp only [List.setIfInBounds_toArray]); (try simp only [List.set_cons_succ]); (try simp only [List.set_cons_zero])
  refine wpAnyH_take (i := 11) (v := ?_) rfl (by kernel_rfl) (by kernel_rfl) (by kernel_rfl) (fun _ _ _ h => h) (Or.inl ⟨by kernel_rfl, ?_⟩) hHeld ?_
  rotate_left
  · intro wz hSw; (try dsimp only at hSw); go_simp; all_goals (try with_reducible rfl)
  (try simp only [List.getElem_toArray]); (try simp only [List.getElem_cons_succ]); (try simp only [List.getElem_cons_zero]); (try simp only [Act.put]); (try simp only [List.setIfInBounds_toArray]); (try simp only [List.set_cons_succ]); (try simp only [List.set_cons_zero])
  refine wpAnyH_ready (rs := [12]) (by kernel_rfl) (by simp) (AllReadyH.cons rfl (fun Kc hKc => ?_) AllReadyH.nil)
  go_simp
  (go_at_call 49; refine (HT.out _).mono ?_; rintro e w2 ⟨rfl, hb2⟩)
  have hbd : Below X.heap.size X w2 := ((Below.refl _ _).drew).trans (hb2.mono (by simp))
  have c1 := cell_keep hbd c1
  have c2 := cell_keep hbd c2
  have c3 := cell_keep hbd c3
  have c4 := cell_keep hbd c4
  have c5 := cell_keep hbd c5
  have c6 := cell_keep hbd c6
  have c7 := cell_keep hbd c7
  have c8 := cell_keep hbd c8
  have c9 := cell_keep hbd c9
  have Z2 := Z0.below hbd
  have B2 := B0.trans (hbd.mono B0.size)
  have z0 := Z2.c0
  have z1 := Z2.c1
  have z2 := Z2.f0
  have z3 := Z2.f1
  clear hb2 hbd
  go_wp2_with fail
  refine hKc.out _ _ ?_ (fun hHeld => ?_)
  · (try dsimp only)
    refine ⟨?_, ?_, ?_, ?_, ?_, ?_, ?_, ?_, ?_⟩ <;> (repeat (with_reducible (first | exact c1 | exact c2 | exact c3 | exact c4 | exact c5 | exact c6 | exact c7 | exact c8 | exact c9 | refine cell_dr ?_ | refine cell_stb ?_ ?_ | (show _ ≠ _; omega))))
  clear hKc Kc
  (try simp only [List.getElem_toArray]); (try simp only [List.getElem_cons_succ]); (try simp only [List.getElem_cons_zero]); (try simp only [Act.put]); (try simp only [List.setIfInBounds_toArray]); (try simp only [List.set_cons_succ]); (try simp only [List.set_cons_zero])
  refine wpAnyH_ready (rs := [13]) (by kernel_rfl) (by simp) (AllReadyH.cons rfl (fun Kc hKc => ?_) AllReadyH.nil)
  go_simp
  refine hKc.out _ _ ?_ (fun hHeld => ?_)
  · (try dsimp only)
    refine ⟨?_, ?_, ?_, ?_, ?_, ?_, ?_, ?_, ?_⟩ <;> (repeat (with_reducible (first | exact c1 | exact c2 | exact c3 | exact c4 | exact c5 | exact c6 | exact c7 | exact c8 | exact c9 | refine cell_dr ?_ | refine cell_stb ?_ ?_ | (show _ ≠ _; omega))))
  clear hKc Kc
  (try simp only [List.getElem_toArray]); (try simp only [List.getElem_cons_succ]); (try simp only [List.getElem_cons_zero]); (try simp only [Act.put]); (try simp only [List.setIfInBounds_toArray]); (try simp only [List.set_cons_succ]); (try simp only [List.set_cons_zero])
  refine wpAnyH_done (by kernel_rfl) ?_ _
  refine NoPanic.normal ?_
  go_wp2
  exact bodyPost_ret (v := .agg #[.int .i64 r1, .int .i64 r2]) (by simp [results, Try.results48, go_sem, z0, z1]) rfl ⟨rfl, (B2.setCell (p := ⟨N, 0, none⟩) hwN _).setCell (p := ⟨N, 1, none⟩) hwN _⟩

set_option maxRecDepth 100000 in
set_option maxHeartbeats 4000000 in
theorem plcF_any (B1 B2 B3 : Nat) (va vt vb : Value) (ps bs : List Fr) (rows : List (List Fr)) (i k : Nat) (w : World) (h1 : w.cell? ⟨B1, 0, none⟩ = some va) (h2 : w.cell? ⟨B2, 0, none⟩ = some vt) (h3 : w.cell? ⟨B3, 0, none⟩ = some vb)
    (ha : RdR w va ps) (ht : RdT w vt rows) (hb : RdR w vb bs) (hi : i < ps.length) (hir : i < rows.length) (hkr : k < (rw' rows i).length) (hk : k < bs.length) :
    Calls Try.prog 56 #[.agg #[.int .i64 i, .int .i64 k], .pointer (some ⟨B1, 0, none⟩), .pointer (some ⟨B2, 0, none⟩), .pointer (some ⟨B3, 0, none⟩)] w fun e w' =>
      e = .returned (.agg #[.int .i64 (tbP (fr ps i) (fr (rw' rows i) k) (fr bs k)).1, .int .i64 (tbP (fr ps i) (fr (rw' rows i) k) (fr bs k)).2]) ∧ Below w.heap.size w w' := by
  have b0 : ∀ {u : World} (o : Obj), Below u.heap.size u (u.alloc o) := fun o => (Below.refl _ _).alloc (Nat.le_refl _) o
  obtain ⟨a, ac, rfl, m1, _, _, a5⟩ := ha
  obtain ⟨t, tc, rfl, m2, _, _, t5⟩ := ht
  obtain ⟨b, bc, rfl, m3, _, _, b5⟩ := hb
  obtain ⟨ab, ao, rfl, c4, c5⟩ := a5 i hi
  obtain ⟨tb, to', u, rfl, c6, r, rc, rfl, m4, _, _, r5⟩ := t5 i hir
  obtain ⟨rb, ro, rfl, c7, c8⟩ := r5 k hkr
  obtain ⟨bb, bo, rfl, c9, c10⟩ := b5 k hk
  unfold maxLen at m1 m2 m3 m4
  clear a5 b5 t5 r5
  obtain ⟨x, hx⟩ : ∃ x, x = fr ps i := ⟨_, rfl⟩
  obtain ⟨y, hy⟩ : ∃ x, x = fr (rw' rows i) k := ⟨_, rfl⟩
  obtain ⟨z, hz⟩ : ∃ x, x = fr bs k := ⟨_, rfl⟩
  rw [← hx] at c4 c5
  rw [← hy] at c7 c8
  rw [← hz] at c9 c10
  rw [← hx, ← hy, ← hz]
  clear hx hy hz
  obtain ⟨a1, a2⟩ := x
  obtain ⟨x1, x2⟩ := y
  obtain ⟨y1, y2⟩ := z
  have HT := hidW8 (fun W => tb_any a1 a2 x1 x2 y1 y2 W)
  obtain ⟨r, hr⟩ : ∃ r, r = tbP (a1, a2) (x1, x2) (y1, y2) := ⟨_, rfl⟩
  rw [← hr] at HT ⊢
  clear hr
  obtain ⟨r1, r2⟩ := r
  dsimp only at c4 c5 c7 c8 c9 c10
  have c1 := h1
  have c2 := h2
  have c3 := h3
  have l1 := World.block_lt_of_cell? w _ c1
  have l2 := World.block_lt_of_cell? w _ c2
  have l3 := World.block_lt_of_cell? w _ c3
  have l4 := World.block_lt_of_cell? w _ c4
  have l6 := World.block_lt_of_cell? w _ c6
  have l7 := World.block_lt_of_cell? w _ c7
  have l9 := World.block_lt_of_cell? w _ c9
  dsimp only at l1 l2 l3 l4 l6 l7 l9
  clear h1 h2 h3
  have hii : (i : Int) < (ps.length : Int) := by omega
  have hiri : (i : Int) < (rows.length : Int) := by omega
  have hkri : (k : Int) < ((rw' rows i).length : Int) := by omega
  have hki : (k : Int) < (bs.length : Int) := by omega
  go_enter Try.func56, Try.ntmps56
  go_upto_region 1 with fail
  obtain ⟨Q, hQ⟩ : ∃ N, N = w.heap.size := ⟨_, rfl⟩
  obtain ⟨N, hN⟩ : ∃ N, N = w.heap.size + 1 := ⟨_, rfl⟩
  obtain ⟨X, hX⟩ : ∃ X, X = (w.alloc (.cells #[.int .i64 i, .int .i64 k] 86)).alloc (.cells #[.int .i64 0, .int .i64 0] 32) := ⟨_, rfl⟩
  have Z0 : IsR X N 0 0 := by rw [hX, hN]; simpa using IsR.new (w.alloc (.cells #[.int .i64 i, .int .i64 k] 86)) 0 0
  have B0 : Below w.heap.size w X := by rw [hX]; exact ((Below.refl _ _).alloc (Nat.le_refl _) _).alloc (by simp) _
  have c11 : X.cell? ⟨Q, 0, none⟩ = some (.int .i64 i) := by rw [hX, hQ]; simp [go_sem]
  have c12 : X.cell? ⟨Q, 1, none⟩ = some (.int .i64 k) := by rw [hX, hQ]; simp [go_sem]
  replace c1 := cell_keep B0 c1
  replace c2 := cell_keep B0 c2
  replace c3 := cell_keep B0 c3
  replace c4 := cell_keep B0 c4
  replace c5 := cell_keep B0 c5
  replace c6 := cell_keep B0 c6
  replace c7 := cell_keep B0 c7
  replace c8 := cell_keep B0 c8
  replace c9 := cell_keep B0 c9
  replace c10 := cell_keep B0 c10
  have hwN : w.heap.size ≤ N := by omega
  have hQN : Q < N := by omega
  rw [← hX, ← hN, ← hQ]
  have e1 : l1 = l1 := rfl
  replace l1 : B1 < N := by omega
  replace l2 : B2 < N := by omega
  replace l3 : B3 < N := by omega
  replace l4 : ab < N := by omega
  replace l6 : tb < N := by omega
  replace l7 : rb < N := by omega
  replace l9 : bb < N := by omega
  clear hX hN hQ e1
  refine wp_region_noPanic ?_
  refine wp_region_held_drew (S := (fun w' => w'.cell? ⟨B1, 0, none⟩ = some (.slice (some ⟨ab, ao, none⟩) ps.length ac) ∧ w'.cell? ⟨B2, 0, none⟩ = some (.slice (some ⟨tb, to', none⟩) rows.length tc) ∧ w'.cell? ⟨B3, 0, none⟩ = some (.slice (some ⟨bb, bo, none⟩) bs.length bc) ∧ w'.cell? ⟨ab, ao + i * 2, none⟩ = some (.int .i64 a1) ∧ w'.cell? ⟨ab, ao + i * 2 + 1, none⟩ = some (.int .i64 a2) ∧ w'.cell? ⟨tb, to' + i, none⟩ = some (.slice (some ⟨rb, ro, none⟩) (rw' rows i).length rc) ∧ w'.cell? ⟨rb, ro + k * 2, none⟩ = some (.int .i64 x1) ∧ w'.cell? ⟨rb, ro + k * 2 + 1, none⟩ = some (.int .i64 x2) ∧ w'.cell? ⟨bb, bo + k * 2, none⟩ = some (.int .i64 y1) ∧ w'.cell? ⟨bb, bo + k * 2 + 1, none⟩ = some (.int .i64 y2) ∧ w'.cell? ⟨Q, 0, none⟩ = some (.int .i64 i) ∧ w'.cell? ⟨Q, 1, none⟩ = some (.int .i64 k))) (by kernel_rfl) ?_ (fun hHeld => ?_)
  · (try dsimp only)
    refine ⟨?_, ?_, ?_, ?_, ?_, ?_, ?_, ?_, ?_, ?_, ?_, ?_⟩ <;> (repeat (with_reducible (first | exact c1 | exact c2 | exact c3 | exact c4 | exact c5 | exact c6 | exact c7 | exact c8 | exact c9 | exact c10 | exact c11 | exact c12 | refine cell_dr ?_ | refine cell_stb ?_ ?_ | (show _ ≠ _; omega))))
  refine wpAnyH_take (i := 0) (v := ?_) rfl (by kernel_rfl) (by kernel_rfl) (by kernel_rfl) (fun _ _ _ h => h) (Or.inl ⟨by kernel_rfl, ?_⟩) hHeld ?_
  rotate_left
  · intro wz hSw; (try dsimp only at hSw); go_simp; all_goals (try with_reducible rfl)
  (try simp only [List.getElem_toArray]); (try simp only [List.getElem_cons_succ]); (try simp only [List.getElem_cons_zero]); (try simp only [Act.put]); (try simp only [List.setIfInBounds_toArray]); (try simp only [List.set_cons_succ]); (try simp only [List.set_cons_zero])
  refine wpAnyH_take (i := 1) (v := ?_) rfl (by kernel_rfl) (by kernel_rfl) (by kernel_rfl) (fun _ _ _ h => h) (Or.inl ⟨by kernel_rfl, ?_⟩) hHeld ?_
  rotate_left
  · intro wz hSw; (try dsimp only at hSw); go_simp; all_goals (try with_reducible rfl)
  (try simp only [List.getElem_toArray]); (try simp only [List.getElem_cons_succ]); (try simp only [List.getElem_cons_zero]); (try simp only [Act.put]); (try simp only [List.setIfInBounds_toArray]); (try simp only [List.set_cons_succ]); (try simp only [List.set_cons_zero])
  refine wpAnyH_take (i := 2) (v := ?_) rfl (by kernel_rfl) (by kernel_rfl) (by kernel_rfl) (fun _ _ _ h => h) (Or.inl ⟨by kernel_rfl, ?_⟩) hHeld ?_
  rotate_left
  · intro wz hSw; (try dsimp only at hSw); go_simp; all_goals (try with_reducible rfl)
  (try simp only [List.getElem_toArray]); (try simp only [List.getElem_cons_succ]); (try simp only [List.getElem_cons_zero]); (try simp only [Act.put]); (try simp only [List.setIfInBounds_toArray]); (try simp only [List.set_cons_succ]); (try simp only [List.set_cons_zero])
  refine wpAnyH_take (i := 3) (v := ?_) rfl (by kernel_rfl) (by kernel_rfl) (by kernel_rfl) (fun _ _ _ h => h) (Or.inl ⟨by kernel_rfl, ?_⟩) hHeld ?_
  rotate_left
  · intro wz hSw; (try dsimp only at hSw); go_simp; all_goals (try with_reducible rfl)
  (try simp only [List.getElem_toArray]); (try simp only [List.getElem_cons_succ]); (try simp only [List.getElem_cons_zero]); (try simp only [Act.put]); (try simp only [List.setIfInBounds_toArray]); (try simp only [List.set_cons_succ]); (try simp only [List.set_cons_zero])
  refine wpAnyH_take (i := 4) (v := ?_) rfl (by kernel_rfl) (by kernel_rfl) (by kernel_rfl) (fun _ _ _ h => h) (Or.inl ⟨by kernel_rfl, ?_⟩) hHeld ?_
  rotate_left
  · intro wz hSw; (try dsimp only at hSw); go_simp; all_goals (try with_reducible rfl)
  (try simp only [List.getElem_toArray]); (try simp only [List.getElem_cons_succ]); (try simp only [List.getElem_cons_zero]); (try simp only [Act.put]); (try simp only [List.setIfInBounds_toArray]); (try simp only [List.set_cons_succ]); (try simp only [List.set_cons_zero])
  refine wpAnyH_take (i := 5) (v := ?_) rfl (by kernel_rfl) (by kernel_rfl) (by kernel_rfl) (fun _ _ _ h => h) (Or.inl ⟨by kernel_rfl, ?_⟩) hHeld ?_
  rotate_left
  · intro wz hSw; (try dsimp only at hSw); go_simp; all_goals (try with_reducible rfl)
  (try simp only [List.getElem_toArray]); (try simp only [List.getElem_cons_succ]); (try simp only [List.getElem_cons_zero]); (try simp only [Act.put]); (try simp only [List.setIfInBounds_toArray]); (try simp only [List.set_cons_succ]); (try simp only [List.set_cons_zero])
  refine wpAnyH_take (i := 6) (v := ?_) rfl (by kernel_rfl) (by kernel_rfl) (by kernel_rfl) (fun _ _ _ h => h) (Or.inl ⟨by kernel_rfl, ?_⟩) hHeld ?_
  rotate_left
  · intro wz hSw; (try dsimp only at hSw); go_simp; all_goals (try with_reducible rfl)
  (try simp only [List.getElem_toArray]); (try simp only [List.getElem_cons_succ]); (try simp only [List.getElem_cons_zero]); (try simp only [Act.put]); (try simp only [List.setIfInBounds_toArray]); (try simp only [List.set_cons_succ]); (try simp only [List.set_cons_zero])
  refine wpAnyH_take (i := 7) (v := ?_) rfl (by kernel_rfl) (by kernel_rfl) (by kernel_rfl) (fun _ _ _ h => h) (Or.inl ⟨by kernel_rfl, ?_⟩) hHeld ?_
  rotate_left
  · intro wz hSw; (try dsimp only at hSw); go_simp; all_goals (try with_reducible rfl)
  (try simp only [List.getElem_toArray]); (try simp only [List.getElem_cons_succ]); (try simp only [List.getElem_cons_zero]); (try simp only [Act.put]); (try simp only [List.setIfInBounds_toArray]); (try simp only [List.set_cons_succ]); (try simp only [List.set_cons_zero])
  refine wpAnyH_take (i := 8) (v := ?_) rfl (by kernel_rfl) (by kernel_rfl) (by kernel_rfl) (fun _ _ _ h => h) (Or.inl ⟨by kernel_rfl, ?_⟩) hHeld ?_
  rotate_left
  · intro wz hSw; (try dsimp only at hSw); go_simp; all_goals (try with_reducible rfl)
  (try simp only [List.getElem_toArray]); (try simp only [List.getElem_cons_succ]); (try simp only [List.getElem_cons_zero]); (try simp only [Act.put]); (try simp only [List.setIfInBounds_toArray]); (try simp only [List.set_cons_succ]); (try simp only [List.set_cons_zero])
  refine wpAnyH_take (i := 9) (v := ?_) rfl (by kernel_rfl) (by kernel_rfl) (by kernel_rfl) (fun _ _ _ h => h) (Or.inl ⟨by kernel_rfl, ?_⟩) hHeld ?_
  rotate_left
  · intro wz hSw; (try dsimp only at hSw); go_simp; all_goals (try with_reducible rfl)
  (try simp only [List.getElem_toArray]); (try simp only [List.getElem_cons_succ]); (try simp only [List.getElem_cons_zero]); (try simp only [Act.put]); (try simp only [List.setIfInBounds_toArray]); (try simp only [List.set_cons_succ]); (try simp only [List.set_cons_zero])
  refine wpAnyH_take (i := 10) (v := ?_) rfl (by kernel_rfl) (by kernel_rfl) (by kernel_rfl) (fun _ _ _ h => h) (Or.inl ⟨by kernel_rfl, ?_⟩) hHeld ?_
  rotate_left
  · intro wz hSw; (try dsimp only at hSw); go_simp; all_goals (try with_reducible rfl)
  (try simp only [List.getElem_toArray]); (try simp only [List.getElem_cons_succ]); (try simp only [List.getElem_cons_zero]); (try simp only [Act.put]); (try simp only [List.setIfInBounds_toArray]); (try simp only [List.set_cons_succ]); (try simp only [List.set_cons_zero])
  refine wpAnyH_take (i := 11) (v := ?_) rfl (by kernel_rfl) (by kernel_rfl) (by kernel_rfl) (fun _ _ _ h => h) (Or.inl ⟨by kernel_rfl, ?_⟩) hHeld ?_
  rotate_left
  · intro wz hSw; (try dsimp only at hSw); go_simp; all_goals (try with_reducible rfl)
  (try simp only [List.getElem_toArray]); (try simp only [List.getElem_cons_succ]); (try simp only [List.getElem_cons_zero]); (try simp only [Act.put]); (try simp only [List.setIfInBounds_toArray]); (try simp only [List.set_cons_succ]); (try simp only [List.set_cons_zero])
  refine wpAnyH_take (i := 12) (v := ?_) rfl (by kernel_rfl) (by kernel_rfl) (by kernel_rfl) (fun _ _ _ h => h) (Or.inl ⟨by kernel_rfl, ?_⟩) hHeld ?_
  rotate_left
  · intro wz hSw; (try dsimp only at hSw); go_simp; all_goals (try with_reducible rfl)
  (try simp only [List.getElem_toArray]); (try simp only [List.getElem_cons_succ]); (try simp only [List.getElem_cons_zero]); (try simp only [Act.put]); (try simp only [List.setIfInBounds_toArray]); (try simp only [List.set_cons_succ]); (try simp only [List.set_cons_zero])
  refine wpAnyH_take (i := 13) (v := ?_) rfl (by kernel_rfl) (by kernel_rfl) (by kernel_rfl) (fun _ _ _ h => h) (Or.inl ⟨by kernel_rfl, ?_⟩) hHeld ?_
  rotate_left
  · intro wz hSw; (try dsimp only at hSw); go_simp; all_goals (try with_reducible rfl)
  (try simp only [List.getElem_toArray]); (try simp only [List.getElem_cons_succ]); (try simp only [List.getElem_cons_zero]); (try simp only [Act.put]); (try simp only [List.setIfInBounds_toArray]); (try simp only [List.set_cons_succ]); (try simp only [List.set_cons_zero])
  refine wpAnyH_take (i := 14) (v := ?_) rfl (by kernel_rfl) (by kernel_rfl) (by kernel_rfl) (fun _ _ _ h => h) (Or.inl ⟨by kernel_rfl, ?_⟩) hHeld ?_
  rotate_left
  · intro wz hSw; (try dsimp only at hSw); go_simp; all_goals (try with_reducible rfl)
  (try simp only [List.getElem_toArray]); (try simp only [List.getElem_cons_succ]); (try simp only [List.getElem_cons_zero]); (try simp only [Act.put]); (try simp only [List.setIfInBounds_toArray]); (try simp only [List.set_cons_succ]); (try simp only [List.set_cons_zero])
  refine wpAnyH_take (i := 15) (v := ?_) rfl (by kernel_rfl) (by kernel_rfl) (by kernel_rfl) (fun _ _ _ h => h) (Or.inl ⟨by kernel_rfl, ?_⟩) hHeld ?_
  rotate_left
  · intro wz hSw; (try dsimp only at hSw); go_simp; all_goals (try with_reducible rfl)
  (try simp only [List.getElem_toArray]); (try simp only [List.getElem_cons_succ]); (try simp only [List.getElem_cons_zero]); (try simp only [Act.put]); (try simp only [List.setIfInBounds_toArray]); (try simp only [List.set_cons_succ]); (try simp only [List.set_cons_zero])
  refine wpAnyH_take (i := 16) (v := ?_) rfl (by kernel_rfl) (by kernel_rfl) (by kernel_rfl) (fun _ _ _ h => h) (Or.inl ⟨by kernel_rfl, ?_⟩) hHeld ?_
  rotate_left
  · intro wz hSw; (try dsimp only at hSw); go_simp; all_goals (try with_reducible rfl)
  (try simp only [List.getElem_toArray]); (try simp only [List.getElem_cons_succ]); (try simp only [List.getElem_cons_zero]); (try simp only [Act.put]); (try simp only [List.setIfInBounds_toArray]); (try simp only [List.set_cons_succ]); (try simp only [List.set_cons_zero])
  refine wpAnyH_take (i := 17) (v := ?_) rfl (by kernel_rfl) (by kernel_rfl) (by kernel_rfl) (fun _ _ _ h => h) (Or.inl ⟨by kernel_rfl, ?_⟩) hHeld ?_
  rotate_left
  · intro wz hSw; (try dsimp only at hSw); go_simp; all_goals (try with_reducible rfl)
  (try simp only [List.getElem_toArray]); (try simp only [List.getElem_cons_succ]); (try simp only [List.getElem_cons_zero]); (try simp only [Act.put]); (try simp only [List.setIfInBounds_toArray]); (try simp only [List.set_cons_succ]); (try simp only [List.set_cons_zero])
  refine wpAnyH_take (i := 18) (v := ?_) rfl (by kernel_rfl) (by kernel_rfl) (by kernel_rfl) (fun _ _ _ h => h) (Or.inl ⟨by kernel_rfl, ?_⟩) hHeld ?_
  rotate_left
  · intro wz hSw; (try dsimp only at hSw); go_simp; all_goals (try with_reducible rfl)
  (try simp only [List.getElem_toArray]); (try simp only [List.getElem_cons_succ]); (try simp only [List.getElem_cons_zero]); (try simp only [Act.put]); (try simp only [List.setIfInBounds_toArray]); (try simp only [List.set_cons_succ]); (try simp only [List.set_cons_zero])
  refine wpAnyH_ready (rs := [19]) (by kernel_rfl) (by simp) (AllReadyH.cons rfl (fun Kc hKc => ?_) AllReadyH.nil)
  go_simp
  (go_at_call 49; refine (HT.out _).mono ?_; rintro e w2 ⟨rfl, hb2⟩)
  have hbd : Below X.heap.size X w2 := ((Below.refl _ _).drew).trans (hb2.mono (by simp))
  have c1 := cell_keep hbd c1
  have c2 := cell_keep hbd c2
  have c3 := cell_keep hbd c3
  have c4 := cell_keep hbd c4
  have c5 := cell_keep hbd c5
  have c6 := cell_keep hbd c6
  have c7 := cell_keep hbd c7
  have c8 := cell_keep hbd c8
  have c9 := cell_keep hbd c9
  have c10 := cell_keep hbd c10
  have c11 := cell_keep hbd c11
  have c12 := cell_keep hbd c12
  have Z2 := Z0.below hbd
  have B2 := B0.trans (hbd.mono B0.size)
  have z0 := Z2.c0
  have z1 := Z2.c1
  have z2 := Z2.f0
  have z3 := Z2.f1
  clear hb2 hbd
  go_wp2_with fail
  refine hKc.out _ _ ?_ (fun hHeld => ?_)
  · (try dsimp only)
    refine ⟨?_, ?_, ?_, ?_, ?_, ?_, ?_, ?_, ?_, ?_, ?_, ?_⟩ <;> (repeat (with_reducible (first | exact c1 | exact c2 | exact c3 | exact c4 | exact c5 | exact c6 | exact c7 | exact c8 | exact c9 | exact c10 | exact c11 | exact c12 | refine cell_dr ?_ | refine cell_stb ?_ ?_ | (show _ ≠ _; omega))))
  clear hKc Kc
  (try simp only [List.getElem_toArray]); (try simp only [List.getElem_cons_succ]); (try simp only [List.getElem_cons_zero]); (try simp only [Act.put]); (try simp only [List.setIfInBounds_toArray]); (try simp only [List.set_cons_succ]); (try simp only [List.set_cons_zero])
  refine wpAnyH_ready (rs := [20]) (by kernel_rfl) (by simp) (AllReadyH.cons rfl (fun Kc hKc => ?_) AllReadyH.nil)
  go_simp
  refine hKc.out _ _ ?_ (fun hHeld => ?_)
  · (try dsimp only)
    refine ⟨?_, ?_, ?_, ?_, ?_, ?_, ?_, ?_, ?_, ?_, ?_, ?_⟩ <;> (repeat (with_reducible (first | exact c1 | exact c2 | exact c3 | exact c4 | exact c5 | exact c6 | exact c7 | exact c8 | exact c9 | exact c10 | exact c11 | exact c12 | refine cell_dr ?_ | refine cell_stb ?_ ?_ | (show _ ≠ _; omega))))
  clear hKc Kc
  (try simp only [List.getElem_toArray]); (try simp only [List.getElem_cons_succ]); (try simp only [List.getElem_cons_zero]); (try simp only [Act.put]); (try simp only [List.setIfInBounds_toArray]); (try simp only [List.set_cons_succ]); (try simp only [List.set_cons_zero])
  refine wpAnyH_done (by kernel_rfl) ?_ _
  refine NoPanic.normal ?_
  go_wp2
  exact bodyPost_ret (v := .agg #[.int .i64 r1, .int .i64 r2]) (by simp [results, Try.results56, go_sem, z0, z1]) rfl ⟨rfl, (B2.setCell (p := ⟨N, 0, none⟩) hwN _).setCell (p := ⟨N, 1, none⟩) hwN _⟩
end Go.Proofs.Ytkcdpjcfbpjkean
