/- The walk of the program's row by column. -/
import Derived.Test.YtkcdpjcfbpjkeaiTabW4
import Derived.Test.YtkcdpjcfbpjkeaiTimMath
import Derived.Test.YtkcdpjcfbpjkeaiRatioW5
import Derived.Deep.RegionWith
import Derived.Deep.RegionHeld3
import Derived.Deep.DeepCutAuto
import Derived.Deep.CutRange
namespace Go.Proofs.Ytkcdpjcfbpjkeai
open Go.RowKit Go.Proofs.Ytkcdpjcfbpjkeai.RM

theorem mulC (x1 x2 y1 y2 : Int) (w : World) :
    Calls Try.prog 73 #[.agg #[.int .i64 x1, .int .i64 x2], .agg #[.int .i64 y1, .int .i64 y2]] w fun e w' => e = .returned (.tuple #[.agg #[.int .i64 (mulP (x1, x2) (y1, y2)).1, .int .i64 (mulP (x1, x2) (y1, y2)).2], .bool (mulK (x1, x2) (y1, y2))]) ∧ Below w.heap.size w w' := iMul_any x1 x2 y1 y2 w
theorem addC (x1 x2 y1 y2 : Int) (w : World) :
    Calls Try.prog 74 #[.agg #[.int .i64 x1, .int .i64 x2], .agg #[.int .i64 y1, .int .i64 y2]] w fun e w' => e = .returned (.tuple #[.agg #[.int .i64 (addP (x1, x2) (y1, y2)).1, .int .i64 (addP (x1, x2) (y1, y2)).2], .bool (addK (x1, x2) (y1, y2))]) ∧ Below w.heap.size w w' := iAdd_any x1 x2 y1 y2 w
theorem ret_fb {n d n' d' : Int} {o o' : Bool} (h1 : n = n') (h2 : d = d') (h3 : o = o') : Ending.returned (.tuple #[.agg #[.int .i64 n, .int .i64 d], .bool o]) = .returned (.tuple #[.agg #[.int .i64 n', .int .i64 d'], .bool o']) := by rw [h1, h2, h3]

set_option maxRecDepth 100000 in
set_option maxHeartbeats 2000000 in
theorem iDot_any (v vb : Value) (row : List Fr) (b : List (List Fr)) (j : Nat) (w : World) (h : RdR w v row) (hb : RdT w vb b) (hl : row.length ≤ b.length) (hj : ∀ k, k < b.length → j < (rw' b k).length) :
    Calls Try.prog 52 #[v, vb, .int .i64 j] w fun e w' => e = .returned (.tuple #[.agg #[.int .i64 (pdot row b j row.length).1.1, .int .i64 (pdot row b j row.length).1.2], .bool (pdot row b j row.length).2]) ∧ Below w.heap.size w w' := by
  have b0 : ∀ {u : World} (o : Obj), Below u.heap.size u (u.alloc o) := fun o => (Below.refl _ _).alloc (Nat.le_refl _) o
  obtain ⟨a, c, rfl, h2, _, _, h5⟩ := h
  obtain ⟨ab, cb, rfl, g2, _, _, g5⟩ := hb
  have H5 : Hid (∀ k, k < row.length → ∃ bl off, a = some ⟨bl, off, none⟩ ∧ w.cell? ⟨bl, off + k * 2, none⟩ = some (.int .i64 (fr row k).1) ∧ w.cell? ⟨bl, off + k * 2 + 1, none⟩ = some (.int .i64 (fr row k).2)) := h5
  have G5 : Hid (∀ k, k < row.length → ∃ bl off a2 len2 c2 b2 off2, ab = some ⟨bl, off, none⟩ ∧ w.cell? ⟨bl, off + k, none⟩ = some (.slice a2 len2 c2) ∧ a2 = some ⟨b2, off2, none⟩ ∧ j < len2 ∧ len2 ≤ maxLen ∧ w.cell? ⟨b2, off2 + j * 2, none⟩ = some (.int .i64 (fr (rw' b k) j).1) ∧ w.cell? ⟨b2, off2 + j * 2 + 1, none⟩ = some (.int .i64 (fr (rw' b k) j).2)) := by
    intro k hk
    obtain ⟨bl, off, u, e1, e2, ⟨a2, c2, rfl, m2, _, _, m5⟩⟩ := g5 k (by omega)
    obtain ⟨b2, off2, q1, q2, q3⟩ := m5 j (hj k (by omega))
    exact ⟨bl, off, a2, _, c2, b2, off2, e1, e2, q1, hj k (by omega), m2, q2, q3⟩
  unfold maxLen at h2 g2
  have hle : (row.length : Int) ≤ b.length := by omega
  clear h5 g5 hj
  go_enter Try.func52, Try.ntmps52
  go_wp2
  obtain ⟨R, hR⟩ : ∃ R, R = w.heap.size := ⟨_, rfl⟩
  obtain ⟨X, hX⟩ : ∃ X, X = (w.alloc (.cells #[.int .i64 0, .int .i64 0] 24)).alloc (.cells #[.int .i64 0, .int .i64 1] 24) := ⟨_, rfl⟩
  have rR : IsR X R 0 0 := by rw [hX, hR]; exact (IsR.new w 0 0).below (b0 _)
  have rS : IsR X (R + 1) 0 1 := by rw [hX, hR]; simpa using IsR.new (w.alloc (.cells #[.int .i64 0, .int .i64 0] 24)) 0 1
  have B0 : Below w.heap.size w X := by rw [hX]; exact ((Below.refl _ _).alloc (Nat.le_refl _) _).alloc (by simp) _
  have hwR : w.heap.size ≤ R := by omega
  rw [← hX, ← hR]
  clear hX hR
  go_loopw [9, 17] (fun o i wr => ∃ k : Nat, k ≤ row.length ∧ i = .int .i64 k ∧ o = .bool (pdot row b j k).2 ∧ Hid (IsR wr (R + 1) (pdot row b j k).1.1 (pdot row b j k).1.2) ∧ Hid (IsR wr R 0 0) ∧ Hid (Below w.heap.size w wr)) (fun _ i _ => row.length - (intOf i).toNat)
  case atStart => exact ⟨0, Nat.zero_le _, rfl, rfl, rS, rR, B0⟩
  case round =>
    clear rS rR B0
    obtain ⟨k, hk, rfl, rfl, hS, hR, hB⟩ := hrel
    by_cases hlt : k < row.length
    · obtain ⟨bl, off, rfl, c1, c2⟩ := H5.out k hlt
      obtain ⟨bl', off', a2, len2, cc2, b2, off2, rfl, d0, rfl, hjl, hm2, d1, d2⟩ := G5.out k hlt
      unfold maxLen at hm2
      replace c1 := cell_keep hB.out c1
      replace c2 := cell_keep hB.out c2
      replace d0 := cell_keep hB.out d0
      replace d1 := cell_keep hB.out d1
      replace d2 := cell_keep hB.out d2
      obtain ⟨q, hq⟩ : ∃ q, q = pdot row b j (k + 1) := ⟨_, rfl⟩
      have HQ : Hid (q = pdot row b j (k + 1)) := hq
      rw [show pdot row b j (k + 1) = (addP (pdot row b j k).1 (mulP (fr row k) (fr (rw' b k) j)), addK (pdot row b j k).1 (mulP (fr row k) (fr (rw' b k) j))) from rfl] at hq
      generalize pdot row b j k = s at *
      generalize fr row k = x at *
      generalize fr (rw' b k) j = y at *
      obtain ⟨⟨s1, s2⟩, so⟩ := s
      obtain ⟨x1, x2⟩ := x
      obtain ⟨y1, y2⟩ := y
      have HM : Hid (∀ W : World, Calls Try.prog 73 #[.agg #[.int .i64 x1, .int .i64 x2], .agg #[.int .i64 y1, .int .i64 y2]] W fun e w' => e = .returned (.tuple #[.agg #[.int .i64 (mulP (x1, x2) (y1, y2)).1, .int .i64 (mulP (x1, x2) (y1, y2)).2], .bool (mulK (x1, x2) (y1, y2))]) ∧ Below W.heap.size W w') := fun W => mulC x1 x2 y1 y2 W
      generalize mulP (x1, x2) (y1, y2) = p at *
      generalize mulK (x1, x2) (y1, y2) = po at *
      obtain ⟨p1, p2⟩ := p
      have HA : Hid (∀ W : World, Calls Try.prog 74 #[.agg #[.int .i64 s1, .int .i64 s2], .agg #[.int .i64 p1, .int .i64 p2]] W fun e w' => e = .returned (.tuple #[.agg #[.int .i64 q.1.1, .int .i64 q.1.2], .bool q.2]) ∧ Below W.heap.size W w') := by
        intro W; rw [hq]; exact addC s1 s2 p1 p2 W
      obtain ⟨⟨q1, q2⟩, qo⟩ := q
      dsimp only at c1 c2 d1 d2 HM HA hS
      have hsz := hB.out.size
      have hl1 := World.block_lt_of_cell? wr _ d0
      have hl2 := World.block_lt_of_cell? wr _ d1
      dsimp only at hl1 hl2
      have hsR := hR.out.lt
      have hsS := hS.out.lt
      clear hq
      go_upto_region 5 with fail
      obtain ⟨Xr, hXr⟩ : ∃ X, X = wr.alloc (.cells #[.int .i64 x1, .int .i64 x2] 24) := ⟨_, rfl⟩
      obtain ⟨N, hN⟩ : ∃ N, N = wr.heap.size := ⟨_, rfl⟩
      have hbx : Below wr.heap.size wr Xr := by rw [hXr]; exact b0 _
      have rN : IsR Xr N x1 x2 := by rw [hXr, hN]; exact IsR.new wr x1 x2
      have r0 := rN.c0
      have r1 := rN.c1
      replace d0 := cell_keep hbx d0
      replace d1 := cell_keep hbx d1
      replace d2 := cell_keep hbx d2
      replace hS := hS.out.below hbx
      replace hR := hR.out.below hbx
      replace hB := hB.out.trans (hbx.mono hsz)
      have hsx : Xr.heap.size = N + 1 := by rw [hXr, hN]; simp
      have hR1N : R + 1 < N := by omega
      have hkb : k < b.length := by omega
      have hNx : N < Xr.heap.size := by omega
      have hl1' : bl' < N := by omega
      have hl2' : b2 < N := by omega
      rw [← hXr, ← hN]
      clear hXr hN hbx hsz hl1 hl2 c1 c2 hsR hsS hsx
      go_cut [12, 13] from 18 to 40 (fun x12 _ wx => ∃ P, x12 = .pointer (some ⟨P, 0, none⟩) ∧ R + 1 < P ∧ Hid (IsR wx P p1 p2) ∧ Hid (IsR wx (R + 1) s1 s2) ∧ Hid (IsR wx R 0 0) ∧ Hid (Below w.heap.size w wx))
      case first =>
        --REG5
        refine wp_region_noPanic ?_
        refine wp_region_held_drew (S := (fun w' => w'.cell? ⟨N, 0, none⟩ = some (.int .i64 x1) ∧ w'.cell? ⟨N, 1, none⟩ = some (.int .i64 x2) ∧ w'.cell? ⟨bl', off' + k, none⟩ = some (.slice (some ⟨b2, off2, none⟩) len2 cc2) ∧ w'.cell? ⟨b2, off2 + j * 2, none⟩ = some (.int .i64 y1) ∧ w'.cell? ⟨b2, off2 + j * 2 + 1, none⟩ = some (.int .i64 y2))) (by kernel_rfl) ?_ (fun hHeld => ?_)
        · (try dsimp only)
          refine ⟨?_, ?_, ?_, ?_, ?_⟩ <;> (repeat (with_reducible (first | exact r0 | exact r1 | exact d0 | exact d1 | exact d2 | refine cell_dr ?_ | refine cell_al _ ?_ | refine cell_stb ?_ ?_ | (show _ ≠ _; omega))))
        refine wpAnyH_take (i := 0) (v := ?_) rfl (by kernel_rfl) (by kernel_rfl) (by kernel_rfl) (fun _ _ _ h => h) (Or.inl ⟨by kernel_rfl, ?_⟩) hHeld ?_
        rotate_left
        · intro wz hSw; (try dsimp only at hSw); go_simp; all_goals (try with_reducible rfl)
        (try simp only [List.getElem_toArray]); (try simp only [List.getElem_cons_succ]); (try simp only [List.getElem_cons_zero]); (try simp only [Act.put]); (try simp only [List.setIfInBounds_toArray]); (try simp only [List.set_cons_succ]); (try simp only [List.set_cons_zero])
        refine wpAnyH_take (i := 1) (v := ?_) rfl (by kernel_rfl) (by kernel_rfl) (by kernel_rfl) (fun _ _ _ h => h) (Or.inl ⟨by kernel_rfl, ?_⟩) hHeld ?_
        rotate_left
        · intro wz hSw; (try dsimp only at hSw); go_simp; all_goals (try with_reducible rfl)
        (try simp only [List.getElem_toArray]); (try simp only [List.getElem_cons_succ]); (try simp only [List.getElem_cons_zero]); (try simp only [Act.put]); (try simp only [List.setIfInBounds_toArray]); (try simp only [List.set_cons_succ]); (try simp only [List.set_cons_zero])
        refine wpAnyH_take (i := 2) (v := ?_) rfl (by kernel_rfl) (by kernel_rfl) (by kernel_rfl) (fun _ _ _ h => h) (Or.inl ⟨by kernel_rfl, ?_⟩) hHeld ?_
        rotate_left
        · intro wz hSw; (try dsimp only at hSw); go_simp; all_goals (try with_reducible rfl)
        (try simp only [List.getElem_toArray]); (try simp only [List.getElem_cons_succ]); (try simp only [List.getElem_cons_zero]); (try simp only [Act.put]); (try simp only [List.setIfInBounds_toArray]); (try simp only [List.set_cons_succ]); (try simp only [List.set_cons_zero])
        refine wpAnyH_take (i := 3) (v := ?_) rfl (by kernel_rfl) (by kernel_rfl) (by kernel_rfl) (fun _ _ _ h => h) (Or.inl ⟨by kernel_rfl, ?_⟩) hHeld ?_
        rotate_left
        · intro wz hSw; (try dsimp only at hSw); go_simp; all_goals (try with_reducible rfl)
        (try simp only [List.getElem_toArray]); (try simp only [List.getElem_cons_succ]); (try simp only [List.getElem_cons_zero]); (try simp only [Act.put]); (try simp only [List.setIfInBounds_toArray]); (try simp only [List.set_cons_succ]); (try simp only [List.set_cons_zero])
        refine wpAnyH_take (i := 4) (v := ?_) rfl (by kernel_rfl) (by kernel_rfl) (by kernel_rfl) (fun _ _ _ h => h) (Or.inl ⟨by kernel_rfl, ?_⟩) hHeld ?_
        rotate_left
        · intro wz hSw; (try dsimp only at hSw); go_simp; all_goals (try with_reducible rfl)
        (try simp only [List.getElem_toArray]); (try simp only [List.getElem_cons_succ]); (try simp only [List.getElem_cons_zero]); (try simp only [Act.put]); (try simp only [List.setIfInBounds_toArray]); (try simp only [List.set_cons_succ]); (try simp only [List.set_cons_zero])
        refine wpAnyH_take (i := 5) (v := ?_) rfl (by kernel_rfl) (by kernel_rfl) (by kernel_rfl) (fun _ _ _ h => h) (Or.inl ⟨by kernel_rfl, ?_⟩) hHeld ?_
        rotate_left
        · intro wz hSw; (try dsimp only at hSw); go_simp; all_goals (try with_reducible rfl)
        (try simp only [List.getElem_toArray]); (try simp only [List.getElem_cons_succ]); (try simp only [List.getElem_cons_zero]); (try simp only [Act.put]); (try simp only [List.setIfInBounds_toArray]); (try simp only [List.set_cons_succ]); (try simp only [List.set_cons_zero])
        refine wpAnyH_take (i := 6) (v := ?_) rfl (by kernel_rfl) (by kernel_rfl) (by kernel_rfl) (fun _ _ _ h => h) (Or.inl ⟨by kernel_rfl, ?_⟩) hHeld ?_
        rotate_left
        · intro wz hSw; (try dsimp only at hSw); go_simp; all_goals (try with_reducible rfl)
        (try simp only [List.getElem_toArray]); (try simp only [List.getElem_cons_succ]); (try simp only [List.getElem_cons_zero]); (try simp only [Act.put]); (try simp only [List.setIfInBounds_toArray]); (try simp only [List.set_cons_succ]); (try simp only [List.set_cons_zero])
        refine wpAnyH_take (i := 7) (v := ?_) rfl (by kernel_rfl) (by kernel_rfl) (by kernel_rfl) (fun _ _ _ h => h) (Or.inl ⟨by kernel_rfl, ?_⟩) hHeld ?_
        rotate_left
        · intro wz hSw; (try dsimp only at hSw); go_simp; all_goals (try with_reducible rfl)
        (try simp only [List.getElem_toArray]); (try simp only [List.getElem_cons_succ]); (try simp only [List.getElem_cons_zero]); (try simp only [Act.put]); (try simp only [List.setIfInBounds_toArray]); (try simp only [List.set_cons_succ]); (try simp only [List.set_cons_zero])
        refine wpAnyH_ready (rs := [8, 12]) (by kernel_rfl) (by simp) (AllReadyH.cons rfl (fun Kc hKc => ?_) (AllReadyH.cons rfl (fun Kc hKc => ?_) AllReadyH.nil))
        · go_simp
          (go_at_call 73; refine (HM.out _).mono ?_; rintro e w2 ⟨rfl, hb2⟩)
          have hbd : Below Xr.heap.size Xr w2 := ((Below.refl _ _).drew).trans (hb2.mono (by simp))
          have d0 := cell_keep hbd d0
          have d1 := cell_keep hbd d1
          have d2 := cell_keep hbd d2
          have r0 := cell_keep hbd r0
          have r1 := cell_keep hbd r1
          have q0 := hS.below hbd
          have q1 := hR.below hbd
          have q2 := hB.trans (hbd.mono hB.size)
          have hsw := hbd.size
          clear hb2
          go_wp2_with fail
          refine hKc.out _ _ ?_ (fun hHeld => ?_)
          · (try dsimp only)
            refine ⟨?_, ?_, ?_, ?_, ?_⟩ <;> (repeat (with_reducible (first | exact r0 | exact r1 | exact d0 | exact d1 | exact d2 | refine cell_dr ?_ | refine cell_al _ ?_ | refine cell_stb ?_ ?_ | (show _ ≠ _; omega))))
          clear hKc Kc
          (try simp only [List.getElem_toArray]); (try simp only [List.getElem_cons_succ]); (try simp only [List.getElem_cons_zero]); (try simp only [Act.put]); (try simp only [List.setIfInBounds_toArray]); (try simp only [List.set_cons_succ]); (try simp only [List.set_cons_zero])
          refine wpAnyH_take (i := 9) (v := ?_) rfl (by kernel_rfl) (by kernel_rfl) (by kernel_rfl) (fun _ _ _ h => h) (Or.inl ⟨by kernel_rfl, ?_⟩) hHeld ?_
          rotate_left
          · intro wz hSw; (try dsimp only at hSw); go_simp; all_goals (try with_reducible rfl)
          (try simp only [List.getElem_toArray]); (try simp only [List.getElem_cons_succ]); (try simp only [List.getElem_cons_zero]); (try simp only [Act.put]); (try simp only [List.setIfInBounds_toArray]); (try simp only [List.set_cons_succ]); (try simp only [List.set_cons_zero])
          refine wpAnyH_take (i := 10) (v := ?_) rfl (by kernel_rfl) (by kernel_rfl) (by kernel_rfl) (fun _ _ _ h => h) (Or.inl ⟨by kernel_rfl, ?_⟩) hHeld ?_
          rotate_left
          · intro wz hSw; (try dsimp only at hSw); go_simp; all_goals (try with_reducible rfl)
          (try simp only [List.getElem_toArray]); (try simp only [List.getElem_cons_succ]); (try simp only [List.getElem_cons_zero]); (try simp only [Act.put]); (try simp only [List.setIfInBounds_toArray]); (try simp only [List.set_cons_succ]); (try simp only [List.set_cons_zero])
          refine wpAnyH_take (i := 11) (v := ?_) rfl (by kernel_rfl) (by kernel_rfl) (by kernel_rfl) (fun _ _ _ h => h) (Or.inl ⟨by kernel_rfl, ?_⟩) hHeld ?_
          rotate_left
          · intro wz hSw; (try dsimp only at hSw); go_simp; all_goals (try with_reducible rfl)
          (try simp only [List.getElem_toArray]); (try simp only [List.getElem_cons_succ]); (try simp only [List.getElem_cons_zero]); (try simp only [Act.put]); (try simp only [List.setIfInBounds_toArray]); (try simp only [List.set_cons_succ]); (try simp only [List.set_cons_zero])
          refine wpAnyH_ready (rs := [12]) (by kernel_rfl) (by simp) (AllReadyH.cons rfl (fun Kc hKc => ?_) AllReadyH.nil)
          go_simp
          refine hKc.out _ _ ?_ (fun hHeld => ?_)
          · (try dsimp only)
            refine ⟨?_, ?_, ?_, ?_, ?_⟩ <;> (repeat (with_reducible (first | exact r0 | exact r1 | exact d0 | exact d1 | exact d2 | refine cell_dr ?_ | refine cell_al _ ?_ | refine cell_stb ?_ ?_ | (show _ ≠ _; omega))))
          clear hKc Kc
          (try simp only [List.getElem_toArray]); (try simp only [List.getElem_cons_succ]); (try simp only [List.getElem_cons_zero]); (try simp only [Act.put]); (try simp only [List.setIfInBounds_toArray]); (try simp only [List.set_cons_succ]); (try simp only [List.set_cons_zero])
          refine wpAnyH_ready (rs := [13]) (by kernel_rfl) (by simp) (AllReadyH.cons rfl (fun Kc hKc => ?_) AllReadyH.nil)
          go_simp
          refine hKc.out _ _ ?_ (fun hHeld => ?_)
          · (try dsimp only)
            refine ⟨?_, ?_, ?_, ?_, ?_⟩ <;> (repeat (with_reducible (first | exact r0 | exact r1 | exact d0 | exact d1 | exact d2 | refine cell_dr ?_ | refine cell_al _ ?_ | refine cell_stb ?_ ?_ | (show _ ≠ _; omega))))
          clear hKc Kc
          (try simp only [List.getElem_toArray]); (try simp only [List.getElem_cons_succ]); (try simp only [List.getElem_cons_zero]); (try simp only [Act.put]); (try simp only [List.setIfInBounds_toArray]); (try simp only [List.set_cons_succ]); (try simp only [List.set_cons_zero])
          refine wpAnyH_take (i := 14) (v := ?_) rfl (by kernel_rfl) (by kernel_rfl) (by kernel_rfl) (fun _ _ _ h => h) (Or.inl ⟨by kernel_rfl, ?_⟩) hHeld ?_
          rotate_left
          · intro wz hSw; (try dsimp only at hSw); go_simp; all_goals (try with_reducible rfl)
          (try simp only [List.getElem_toArray]); (try simp only [List.getElem_cons_succ]); (try simp only [List.getElem_cons_zero]); (try simp only [Act.put]); (try simp only [List.setIfInBounds_toArray]); (try simp only [List.set_cons_succ]); (try simp only [List.set_cons_zero])
          refine wpAnyH_done (by kernel_rfl) ?_ _
          refine NoPanic.normal ?_
          go_wp2
          go_meet
          case rel => exact ⟨w2.heap.size, rfl, by have := q0.lt; omega, IsR.new w2 p1 p2, q0.below (b0 _), q1.below (b0 _), q2.alloc q2.size _⟩
        · go_simp
          refine hKc.out _ _ ?_ (fun hHeld => ?_)
          · (try dsimp only)
            refine ⟨?_, ?_, ?_, ?_, ?_⟩ <;> (repeat (with_reducible (first | exact r0 | exact r1 | exact d0 | exact d1 | exact d2 | refine cell_dr ?_ | refine cell_al _ ?_ | refine cell_stb ?_ ?_ | (show _ ≠ _; omega))))
          clear hKc Kc
          (try simp only [List.getElem_toArray]); (try simp only [List.getElem_cons_succ]); (try simp only [List.getElem_cons_zero]); (try simp only [Act.put]); (try simp only [List.setIfInBounds_toArray]); (try simp only [List.set_cons_succ]); (try simp only [List.set_cons_zero])
          refine wpAnyH_ready (rs := [8]) (by kernel_rfl) (by simp) (AllReadyH.cons rfl (fun Kc hKc => ?_) AllReadyH.nil)
          go_simp
          (go_at_call 73; refine (HM.out _).mono ?_; rintro e w2 ⟨rfl, hb2⟩)
          have hbd : Below Xr.heap.size Xr w2 := (((Below.refl _ _).drew).alloc (by simp) _).trans (hb2.mono (by simp))
          have pP : IsR w2 Xr.heap.size 0 0 := (show IsR (Xr.drew.alloc (.cells #[.int .i64 0, .int .i64 0] 24)) Xr.heap.size 0 0 from by simpa using IsR.new Xr.drew 0 0).below hb2
          have p0 := pP.c0
          have p1' := pP.c1
          have p2' := pP.f0
          have p3' := pP.f1
          have d0 := cell_keep hbd d0
          have d1 := cell_keep hbd d1
          have d2 := cell_keep hbd d2
          have r0 := cell_keep hbd r0
          have r1 := cell_keep hbd r1
          have q0 := hS.below hbd
          have q1 := hR.below hbd
          have q2 := hB.trans (hbd.mono hB.size)
          have hsw := hbd.size
          clear hb2
          go_wp2_with fail
          refine hKc.out _ _ ?_ (fun hHeld => ?_)
          · (try dsimp only)
            refine ⟨?_, ?_, ?_, ?_, ?_⟩ <;> (repeat (with_reducible (first | exact r0 | exact r1 | exact d0 | exact d1 | exact d2 | refine cell_dr ?_ | refine cell_al _ ?_ | refine cell_stb ?_ ?_ | (show _ ≠ _; omega))))
          clear hKc Kc
          (try simp only [List.getElem_toArray]); (try simp only [List.getElem_cons_succ]); (try simp only [List.getElem_cons_zero]); (try simp only [Act.put]); (try simp only [List.setIfInBounds_toArray]); (try simp only [List.set_cons_succ]); (try simp only [List.set_cons_zero])
          refine wpAnyH_take (i := 9) (v := ?_) rfl (by kernel_rfl) (by kernel_rfl) (by kernel_rfl) (fun _ _ _ h => h) (Or.inl ⟨by kernel_rfl, ?_⟩) hHeld ?_
          rotate_left
          · intro wz hSw; (try dsimp only at hSw); go_simp; all_goals (try with_reducible rfl)
          (try simp only [List.getElem_toArray]); (try simp only [List.getElem_cons_succ]); (try simp only [List.getElem_cons_zero]); (try simp only [Act.put]); (try simp only [List.setIfInBounds_toArray]); (try simp only [List.set_cons_succ]); (try simp only [List.set_cons_zero])
          refine wpAnyH_take (i := 10) (v := ?_) rfl (by kernel_rfl) (by kernel_rfl) (by kernel_rfl) (fun _ _ _ h => h) (Or.inl ⟨by kernel_rfl, ?_⟩) hHeld ?_
          rotate_left
          · intro wz hSw; (try dsimp only at hSw); go_simp; all_goals (try with_reducible rfl)
          (try simp only [List.getElem_toArray]); (try simp only [List.getElem_cons_succ]); (try simp only [List.getElem_cons_zero]); (try simp only [Act.put]); (try simp only [List.setIfInBounds_toArray]); (try simp only [List.set_cons_succ]); (try simp only [List.set_cons_zero])
          refine wpAnyH_take (i := 11) (v := ?_) rfl (by kernel_rfl) (by kernel_rfl) (by kernel_rfl) (fun _ _ _ h => h) (Or.inl ⟨by kernel_rfl, ?_⟩) hHeld ?_
          rotate_left
          · intro wz hSw; (try dsimp only at hSw); go_simp; all_goals (try with_reducible rfl)
          (try simp only [List.getElem_toArray]); (try simp only [List.getElem_cons_succ]); (try simp only [List.getElem_cons_zero]); (try simp only [Act.put]); (try simp only [List.setIfInBounds_toArray]); (try simp only [List.set_cons_succ]); (try simp only [List.set_cons_zero])
          refine wpAnyH_ready (rs := [13]) (by kernel_rfl) (by simp) (AllReadyH.cons rfl (fun Kc hKc => ?_) AllReadyH.nil)
          go_simp
          refine hKc.out _ _ ?_ (fun hHeld => ?_)
          · (try dsimp only)
            refine ⟨?_, ?_, ?_, ?_, ?_⟩ <;> (repeat (with_reducible (first | exact r0 | exact r1 | exact d0 | exact d1 | exact d2 | refine cell_dr ?_ | refine cell_al _ ?_ | refine cell_stb ?_ ?_ | (show _ ≠ _; omega))))
          clear hKc Kc
          (try simp only [List.getElem_toArray]); (try simp only [List.getElem_cons_succ]); (try simp only [List.getElem_cons_zero]); (try simp only [Act.put]); (try simp only [List.setIfInBounds_toArray]); (try simp only [List.set_cons_succ]); (try simp only [List.set_cons_zero])
          refine wpAnyH_take (i := 14) (v := ?_) rfl (by kernel_rfl) (by kernel_rfl) (by kernel_rfl) (fun _ _ _ h => h) (Or.inl ⟨by kernel_rfl, ?_⟩) hHeld ?_
          rotate_left
          · intro wz hSw; (try dsimp only at hSw); go_simp; all_goals (try with_reducible rfl)
          (try simp only [List.getElem_toArray]); (try simp only [List.getElem_cons_succ]); (try simp only [List.getElem_cons_zero]); (try simp only [Act.put]); (try simp only [List.setIfInBounds_toArray]); (try simp only [List.set_cons_succ]); (try simp only [List.set_cons_zero])
          refine wpAnyH_done (by kernel_rfl) ?_ _
          refine NoPanic.normal ?_
          go_wp2
          go_meet
          case rel => exact ⟨Xr.heap.size, rfl, by omega, (pP.set0 p1).set1 p2, (q0.other (by omega) 0 _).other (by omega) 1 _, (q1.other (by omega) 0 _).other (by omega) 1 _, (q2.setCell (p := ⟨Xr.heap.size, 0, none⟩) hB.size _).setCell (p := ⟨Xr.heap.size, 1, none⟩) hB.size _⟩
      case rest =>
        clear hS hR hB d0 d1 d2 r0 r1 rN hNx hR1N hl1' hl2'
        obtain ⟨P, rfl, hRP, hP, hS, hR, hB⟩ := hcut
        have n0 := hP.out.c0
        have n1 := hP.out.c1
        have n2 := hS.out.c0
        have n3 := hS.out.c1
        have hsz := hB.out.size
        go_wp2_with (go_at_call 74; refine (HA.out _).mono ?_; rintro e w3 ⟨rfl, hb3⟩; have hS3 := hS.out.below hb3; have hR3 := hR.out.below hb3; have hB3 := hB.out.trans (hb3.mono hsz); have m0 := hS3.c0; have m1 := hS3.c1; have m2 := hS3.f0; have m3 := hS3.f1)
        go_roundw
        case rel =>
          refine ⟨k + 1, by omega, by go_num, by rw [← HQ.out], ?_, hR3.other (by omega) 0 _ |>.other (by omega) 1 _, (hB3.setCell (p := ⟨R + 1, 0, none⟩) (by show _ ≤ R + 1; omega) _).setCell (p := ⟨R + 1, 1, none⟩) (by show _ ≤ R + 1; omega) _⟩
          show IsR _ _ _ _
          rw [← HQ.out]
          exact (hS3.set0 _).set1 _
        case measure => simp [intOf]; omega
    · obtain rfl : k = row.length := by omega
      have hS0 := hS.out.c0
      have hS1 := hS.out.c1
      have hR0 := hR.out.f0
      have hR1 := hR.out.f1
      have hR2 := hR.out.c0
      have hR3 := hR.out.c1
      go_wp2
      exact bodyPost_ret (v := .tuple #[.agg #[.int .i64 (pdot row b j row.length).1.1, .int .i64 (pdot row b j row.length).1.2], .bool (pdot row b j row.length).2]) (by simp [results, Try.results52, go_sem, hR2, hR3]) rfl ⟨rfl, (hB.out.setCell (p := ⟨R, 0, none⟩) hwR _).setCell (p := ⟨R, 1, none⟩) hwR _⟩
end Go.Proofs.Ytkcdpjcfbpjkeai
