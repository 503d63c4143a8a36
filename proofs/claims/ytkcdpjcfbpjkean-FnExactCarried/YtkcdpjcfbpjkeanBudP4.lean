/- The walks of the program's generic sum, over numbers and over places. -/
import Derived.Test.YtkcdpjcfbpjkeanBudP3
namespace Go.Proofs.Ytkcdpjcfbpjkean
open Go.RowKit Go.Proofs.Ytkcdpjcfbpjkean.RM

set_option maxRecDepth 100000 in
set_option maxHeartbeats 4000000 in
theorem totI_any (f : Nat → Fr) (g n c : Nat) (xs : List Value) (hx : ∀ j, j < n → xs[j]? = some (.int .i64 j)) (p1 p2 p3 : Value) (base : Nat) (w : World) (hn : n ≤ 36) (hO : w.ownsRow base 3 1 (.slice (some ⟨g, 0, none⟩) n c) n (xs))
    (hf : ∀ k, k < n → ∀ W : World, Below w.heap.size w W → Calls Try.prog 48 #[.int .i64 k, p1, p2, p3] W fun e w' => e = .returned (.agg #[.int .i64 (f k).1, .int .i64 (f k).2]) ∧ Below W.heap.size W w') :
    Calls Try.prog 50 #[.agg #[.slice (some ⟨g, 0, none⟩) n c, .func (.func 48) #[] #[p1, p2, p3]]] w fun e w' =>
      e = .returned (.tuple #[.agg #[.int .i64 (pfold f n).1.1, .int .i64 (pfold f n).1.2], .bool (pfold f n).2]) ∧ Below w.heap.size w w' := by
  have b0 : ∀ {u : World} (o : Obj), Below u.heap.size u (u.alloc o) := fun o => (Below.refl _ _).alloc (Nat.le_refl _) o
  have HF := hidW8 hf
  have HO := hidW8 hO
  have HE : Hid (∀ k, k < n → w.cell? ⟨g, k, none⟩ = some (.int .i64 k)) := by
    intro k hk
    exact (HO.out.cellAt k (by omega)).trans (hx k hk)
  have HG : g < w.heap.size := (World.ownsRow.lt hO g rfl).2
  obtain ⟨G, hG⟩ : ∃ G, G = pfold f := ⟨_, rfl⟩
  have HG0 : Hid (G 0 = ((0, 1), true)) := by show _ = _; rw [hG]; rfl
  have HGS : Hid (∀ k, G (k + 1) = (addP (G k).1 (f k), addK (G k).1 (f k))) := by intro k; rw [hG]; rfl
  rw [← hG]
  clear hf hO hG
  go_enter Try.func50, Try.ntmps50
  go_wp2
  obtain ⟨Xb, hXb⟩ : ∃ N, N = w.heap.size := ⟨_, rfl⟩
  obtain ⟨Rb, hRb⟩ : ∃ N, N = w.heap.size + 1 := ⟨_, rfl⟩
  obtain ⟨Sb, hSb⟩ : ∃ N, N = w.heap.size + 2 := ⟨_, rfl⟩
  obtain ⟨X, hX⟩ : ∃ X, X = ((w.alloc (.cells #[.slice (some ⟨g, 0, none⟩) n c, .func (.func 48) #[] #[p1, p2, p3]] 75)).alloc (.cells #[.int .i64 0, .int .i64 0] 32)).alloc (.cells #[.int .i64 0, .int .i64 1] 32) := ⟨_, rfl⟩
  have Z0 : IsR X Rb 0 0 := by
    rw [hX, hRb]
    have := (IsR.new (w.alloc (.cells #[.slice (some ⟨g, 0, none⟩) n c, .func (.func 48) #[] #[p1, p2, p3]] 75)) 0 0).below (b0 (.cells #[.int .i64 0, .int .i64 1] 32))
    simpa using this
  have S0 : IsR X Sb (G 0).1.1 (G 0).1.2 := by
    rw [hX, hSb, HG0.out]
    have := IsR.new ((w.alloc (.cells #[.slice (some ⟨g, 0, none⟩) n c, .func (.func 48) #[] #[p1, p2, p3]] 75)).alloc (.cells #[.int .i64 0, .int .i64 0] 32)) 0 1
    simpa using this
  have B0 : Below w.heap.size w X := by rw [hX]; exact (((Below.refl _ _).alloc (Nat.le_refl _) _).alloc (by simp) _).alloc (by simp; omega) _
  have X0 : X.cell? ⟨Xb, 0, none⟩ = some (.slice (some ⟨g, 0, none⟩) n c) := by rw [hX, hXb]; simp [go_sem]
  have X1 : X.cell? ⟨Xb, 1, none⟩ = some (.func (.func 48) #[] #[p1, p2, p3]) := by rw [hX, hXb]; simp [go_sem]
  have hwS : w.heap.size ≤ Sb := by omega
  have hwR : w.heap.size ≤ Rb := by omega
  have hXS : Xb < Sb := by omega
  have hXR : Xb ≠ Rb := by omega
  have hRS : Rb < Sb := by omega
  rw [← hX, ← hXb, show Xb + 1 = Rb by omega, show Rb + 1 = Sb by omega]
  clear hX hXb hRb hSb
  go_loopw [5, 12] (fun q i wr => ∃ k : Nat, k ≤ n ∧ i = .int .i64 k ∧ q = .bool (G k).2 ∧ Hid (IsR wr Sb (G k).1.1 (G k).1.2) ∧ Hid (IsR wr Rb 0 0) ∧ Hid (Below w.heap.size w wr) ∧ Hid (wr.cell? ⟨Xb, 0, none⟩ = some (.slice (some ⟨g, 0, none⟩) n c) ∧ wr.cell? ⟨Xb, 1, none⟩ = some (.func (.func 48) #[] #[p1, p2, p3]))) (fun _ i _ => n - (intOf i).toNat)
  case atStart => exact ⟨0, Nat.zero_le _, rfl, by rw [HG0.out], S0, Z0, B0, X0, X1⟩
  case round =>
    clear S0 Z0 B0 X0 X1
    obtain ⟨k, hk, rfl, rfl, hS, hZ, hB, hX⟩ := hrel
    by_cases hlt : k < n
    · obtain ⟨c1, c2⟩ := hX.out
      have d1 := cell_keep hB.out (HE.out k hlt)
      obtain ⟨s, hs⟩ : ∃ z, z = G k := ⟨_, rfl⟩
      obtain ⟨r, hr⟩ : ∃ z, z = G (k + 1) := ⟨_, rfl⟩
      have HQ : Hid (G (k + 1) = r) := hr.symm
      obtain ⟨y, hy⟩ : ∃ z, z = f k := ⟨_, rfl⟩
      have HC := hidW8 (HF.out k hlt)
      rw [HGS.out k, ← hs, ← hy] at hr
      rw [← hs] at hS
      rw [← hy] at HC
      obtain ⟨⟨s1, s2⟩, so⟩ := s
      obtain ⟨y1, y2⟩ := y
      have HA : Hid (∀ W : World, Calls Try.prog 64 #[.agg #[.int .i64 s1, .int .i64 s2], .agg #[.int .i64 y1, .int .i64 y2]] W fun e w' => e = .returned (.tuple #[.agg #[.int .i64 r.1.1, .int .i64 r.1.2], .bool r.2]) ∧ Below W.heap.size W w') := by
        intro W; rw [hr]; exact addC s1 s2 y1 y2 W
      clear hs hr hy
      obtain ⟨⟨r1, r2⟩, ro⟩ := r
      have S0 : IsR wr Sb s1 s2 := hS.out
      have Z0 : IsR wr Rb 0 0 := hZ.out
      have B0 : Below w.heap.size w wr := hB.out
      have hsz := B0.size
      have hlS := S0.lt
      clear hX hS hZ hB
      go_upto_region 5 with fail
      obtain ⟨X, hX⟩ : ∃ X, X = wr := ⟨_, rfl⟩
      rw [← hX] at S0 Z0 B0 c1 c2 ⊢
      clear hX d1
      refine wp_region_noPanic ?_
      refine wp_region_held_drew (S := (fun w' => w'.cell? ⟨Xb, 0, none⟩ = some (.slice (some ⟨g, 0, none⟩) n c) ∧ w'.cell? ⟨Xb, 1, none⟩ = some (.func (.func 48) #[] #[p1, p2, p3]))) (by kernel_rfl) ?_ (fun hHeld => ?_)
      · (try dsimp only)
        refine ⟨?_, ?_⟩ <;> (repeat (with_reducible (first | exact c1 | exact c2 | refine cell_dr ?_ | refine cell_stb ?_ ?_ | (show _ ≠ _; omega))))
      refine wpAnyH_take (i := 1) (v := ?_) rfl (by kernel_rfl) (by kernel_rfl) (by kernel_rfl) (fun _ _ _ h => h) (Or.inl ⟨by kernel_rfl, ?_⟩) hHeld ?_
      rotate_left
      · intro wz hSw; (try dsimp only at hSw); go_simp; all_goals (try with_reducible rfl)
      (try simp only [List.getElem_toArray]); (try simp only [List.getElem_cons_succ]); (try simp only [List.getElem_cons_zero]); (try simp only [Act.put]); (try simp only [List.setIfInBounds_toArray]); (try simp only [List.set_cons_succ]); (try simp only [List.set_cons_zero])
      refine wpAnyH_take (i := 2) (v := ?_) rfl (by kernel_rfl) (by kernel_rfl) (by kernel_rfl) (fun _ _ _ h => h) (Or.inl ⟨by kernel_rfl, ?_⟩) hHeld ?_
      rotate_left
      · intro wz hSw; (try dsimp only at hSw); go_simp; all_goals (try with_reducible rfl)
      (try simp only [List.getElem_toArray]); (try simp only [List.getElem_cons_succ]); (try simp only [List.getElem_cons_zero]); (try simp only [Act.put]); (try simp only [List.setIfInBounds_toArray]); (try simp only [List.set_cons_succ]); (try simp only [List.set_cons_zero])
      refine wpAnyH_take (i := 3) (v := ?_) rfl (by kernel_rfl) (by kernel_rfl) (by kernel_rfl) (fun _ _ _ h => h) (Or.inl ⟨by kernel_rfl, ?_⟩) hHeld ?_
      rotate_left
      · intro wz hSw; (try dsimp only at hSw); go_simp; all_goals (try with_reducible rfl)
      (try simp only [List.getElem_toArray]); (try simp only [List.getElem_cons_succ]); (try simp only [List.getElem_cons_zero]); (try simp only [Act.put]); (try simp only [List.setIfInBounds_toArray]); (try simp only [List.set_cons_succ]); (try simp only [List.set_cons_zero])
      have s0 := S0.c0
      have s1' := S0.c1
      refine wpAnyH_ready (rs := [0, 4]) (by kernel_rfl) (by simp) (AllReadyH.cons rfl (fun Kc hKc => ?_) (AllReadyH.cons rfl (fun Kc hKc => ?_) AllReadyH.nil))
      · go_simp
        refine hKc.out _ _ ?_ (fun hHeld => ?_)
        · (try dsimp only)
          refine ⟨?_, ?_⟩ <;> (repeat (with_reducible (first | exact c1 | exact c2 | refine cell_dr ?_ | refine cell_stb ?_ ?_ | (show _ ≠ _; omega))))
        clear hKc Kc
        (try simp only [List.getElem_toArray]); (try simp only [List.getElem_cons_succ]); (try simp only [List.getElem_cons_zero]); (try simp only [Act.put]); (try simp only [List.setIfInBounds_toArray]); (try simp only [List.set_cons_succ]); (try simp only [List.set_cons_zero])
        refine wpAnyH_ready (rs := [4]) (by kernel_rfl) (by simp) (AllReadyH.cons rfl (fun Kc hKc => ?_) AllReadyH.nil)
        go_simp
        (go_at_call 48; refine (HC.out _ (B0.trans (((Below.refl _ _).drew).mono B0.size))).mono ?_; rintro e w2 ⟨rfl, hb2⟩)
        have hbd : Below X.heap.size X w2 := ((Below.refl _ _).drew).trans (hb2.mono (by simp))
        have c1 := cell_keep hbd c1
        have c2 := cell_keep hbd c2
        have S2 := S0.below hbd
        have Z2 := Z0.below hbd
        have B2 := B0.trans (hbd.mono B0.size)
        have s0 := S2.c0
        have s1' := S2.c1
        clear hb2 hbd
        go_wp2_with fail
        refine hKc.out _ _ ?_ (fun hHeld => ?_)
        · (try dsimp only)
          refine ⟨?_, ?_⟩ <;> (repeat (with_reducible (first | exact c1 | exact c2 | refine cell_dr ?_ | refine cell_stb ?_ ?_ | (show _ ≠ _; omega))))
        clear hKc Kc
        (try simp only [List.getElem_toArray]); (try simp only [List.getElem_cons_succ]); (try simp only [List.getElem_cons_zero]); (try simp only [Act.put]); (try simp only [List.setIfInBounds_toArray]); (try simp only [List.set_cons_succ]); (try simp only [List.set_cons_zero])
        refine wpAnyH_ready (rs := [5]) (by kernel_rfl) (by simp) (AllReadyH.cons rfl (fun Kc hKc => ?_) AllReadyH.nil)
        go_simp
        (go_at_call 64; refine (HA.out _).mono ?_; rintro e w3 ⟨rfl, hb3⟩)
        have c1 := cell_keep hb3 c1
        have c2 := cell_keep hb3 c2
        have S3 := S2.below hb3
        have Z3 := Z2.below hb3
        have B3 := B2.trans (hb3.mono B2.size)
        have s0 := S3.c0
        have s1' := S3.c1
        have s2' := S3.f0
        have s3' := S3.f1
        clear hb3
        go_wp2_with fail
        refine hKc.out _ _ ?_ (fun hHeld => ?_)
        · (try dsimp only)
          refine ⟨?_, ?_⟩ <;> (repeat (with_reducible (first | exact c1 | exact c2 | refine cell_dr ?_ | refine cell_stb ?_ ?_ | (show _ ≠ _; omega))))
        clear hKc Kc
        (try simp only [List.getElem_toArray]); (try simp only [List.getElem_cons_succ]); (try simp only [List.getElem_cons_zero]); (try simp only [Act.put]); (try simp only [List.setIfInBounds_toArray]); (try simp only [List.set_cons_succ]); (try simp only [List.set_cons_zero])
        refine wpAnyH_take (i := 6) (v := ?_) rfl (by kernel_rfl) (by kernel_rfl) (by kernel_rfl) (fun _ _ _ h => h) (Or.inl ⟨by kernel_rfl, ?_⟩) hHeld ?_
        rotate_left
        · intro wz hSw; (try dsimp only at hSw); go_simp; all_goals (try with_reducible rfl)
        (try simp only [List.getElem_toArray]); (try simp only [List.getElem_cons_succ]); (try simp only [List.getElem_cons_zero]); (try simp only [Act.put]); (try simp only [List.setIfInBounds_toArray]); (try simp only [List.set_cons_succ]); (try simp only [List.set_cons_zero])
        refine wpAnyH_take (i := 7) (v := ?_) rfl (by kernel_rfl) (by kernel_rfl) (by kernel_rfl) (fun _ _ _ h => h) (Or.inl ⟨by kernel_rfl, ?_⟩) hHeld ?_
        rotate_left
        · intro wz hSw; (try dsimp only at hSw); go_simp; all_goals (try with_reducible rfl)
        (try simp only [List.getElem_toArray]); (try simp only [List.getElem_cons_succ]); (try simp only [List.getElem_cons_zero]); (try simp only [Act.put]); (try simp only [List.setIfInBounds_toArray]); (try simp only [List.set_cons_succ]); (try simp only [List.set_cons_zero])
        refine wpAnyH_take (i := 8) (v := ?_) rfl (by kernel_rfl) (by kernel_rfl) (by kernel_rfl) (fun _ _ _ h => h) (Or.inl ⟨by kernel_rfl, ?_⟩) hHeld ?_
        rotate_left
        · intro wz hSw; (try dsimp only at hSw); go_simp; all_goals (try with_reducible rfl)
        (try simp only [List.getElem_toArray]); (try simp only [List.getElem_cons_succ]); (try simp only [List.getElem_cons_zero]); (try simp only [Act.put]); (try simp only [List.setIfInBounds_toArray]); (try simp only [List.set_cons_succ]); (try simp only [List.set_cons_zero])
        refine wpAnyH_ready (rs := [9]) (by kernel_rfl) (by simp) (AllReadyH.cons rfl (fun Kc hKc => ?_) AllReadyH.nil)
        go_simp
        refine hKc.out _ _ ?_ (fun hHeld => ?_)
        · (try dsimp only)
          refine ⟨?_, ?_⟩ <;> (repeat (with_reducible (first | exact c1 | exact c2 | refine cell_dr ?_ | refine cell_stb ?_ ?_ | (show _ ≠ _; omega))))
        clear hKc Kc
        (try simp only [List.getElem_toArray]); (try simp only [List.getElem_cons_succ]); (try simp only [List.getElem_cons_zero]); (try simp only [Act.put]); (try simp only [List.setIfInBounds_toArray]); (try simp only [List.set_cons_succ]); (try simp only [List.set_cons_zero])
        refine wpAnyH_take (i := 10) (v := ?_) rfl (by kernel_rfl) (by kernel_rfl) (by kernel_rfl) (fun _ _ _ h => h) (Or.inl ⟨by kernel_rfl, ?_⟩) hHeld ?_
        rotate_left
        · intro wz hSw; (try dsimp only at hSw); go_simp; all_goals (try with_reducible rfl)
        (try simp only [List.getElem_toArray]); (try simp only [List.getElem_cons_succ]); (try simp only [List.getElem_cons_zero]); (try simp only [Act.put]); (try simp only [List.setIfInBounds_toArray]); (try simp only [List.set_cons_succ]); (try simp only [List.set_cons_zero])
        refine wpAnyH_done (by kernel_rfl) ?_ _
        refine NoPanic.normal ?_
        go_wp2
        go_roundw
        case rel =>
          refine ⟨k + 1, by omega, by go_num, by rw [HQ.out], ?_, (Z3.other (by omega) 0 _).other (by omega) 1 _, (B3.setCell (p := ⟨Sb, 0, none⟩) hwS _).setCell (p := ⟨Sb, 1, none⟩) hwS _, ?_⟩
          · show IsR _ _ _ _
            rw [HQ.out]
            exact (S3.set0 _).set1 _
          · refine ⟨?_, ?_⟩ <;> (repeat (with_reducible (first | exact c1 | exact c2 | refine cell_stb ?_ ?_ | (show _ ≠ _; omega))))
        case measure => simp [intOf]; omega
      · go_simp
        (go_at_call 48; refine (HC.out _ (B0.trans (((Below.refl _ _).drew).mono B0.size))).mono ?_; rintro e w2 ⟨rfl, hb2⟩)
        have hbd : Below X.heap.size X w2 := ((Below.refl _ _).drew).trans (hb2.mono (by simp))
        have c1 := cell_keep hbd c1
        have c2 := cell_keep hbd c2
        have S2 := S0.below hbd
        have Z2 := Z0.below hbd
        have B2 := B0.trans (hbd.mono B0.size)
        have s0 := S2.c0
        have s1' := S2.c1
        clear hb2 hbd
        go_wp2_with fail
        refine hKc.out _ _ ?_ (fun hHeld => ?_)
        · (try dsimp only)
          refine ⟨?_, ?_⟩ <;> (repeat (with_reducible (first | exact c1 | exact c2 | refine cell_dr ?_ | refine cell_stb ?_ ?_ | (show _ ≠ _; omega))))
        clear hKc Kc
        (try simp only [List.getElem_toArray]); (try simp only [List.getElem_cons_succ]); (try simp only [List.getElem_cons_zero]); (try simp only [Act.put]); (try simp only [List.setIfInBounds_toArray]); (try simp only [List.set_cons_succ]); (try simp only [List.set_cons_zero])
        refine wpAnyH_ready (rs := [0]) (by kernel_rfl) (by simp) (AllReadyH.cons rfl (fun Kc hKc => ?_) AllReadyH.nil)
        go_simp
        refine hKc.out _ _ ?_ (fun hHeld => ?_)
        · (try dsimp only)
          refine ⟨?_, ?_⟩ <;> (repeat (with_reducible (first | exact c1 | exact c2 | refine cell_dr ?_ | refine cell_stb ?_ ?_ | (show _ ≠ _; omega))))
        clear hKc Kc
        (try simp only [List.getElem_toArray]); (try simp only [List.getElem_cons_succ]); (try simp only [List.getElem_cons_zero]); (try simp only [Act.put]); (try simp only [List.setIfInBounds_toArray]); (try simp only [List.set_cons_succ]); (try simp only [List.set_cons_zero])
        refine wpAnyH_ready (rs := [5]) (by kernel_rfl) (by simp) (AllReadyH.cons rfl (fun Kc hKc => ?_) AllReadyH.nil)
        go_simp
        (go_at_call 64; refine (HA.out _).mono ?_; rintro e w3 ⟨rfl, hb3⟩)
        have c1 := cell_keep hb3 c1
        have c2 := cell_keep hb3 c2
        have S3 := S2.below hb3
        have Z3 := Z2.below hb3
        have B3 := B2.trans (hb3.mono B2.size)
        have s0 := S3.c0
        have s1' := S3.c1
        have s2' := S3.f0
        have s3' := S3.f1
        clear hb3
        go_wp2_with fail
        refine hKc.out _ _ ?_ (fun hHeld => ?_)
        · (try dsimp only)
          refine ⟨?_, ?_⟩ <;> (repeat (with_reducible (first | exact c1 | exact c2 | refine cell_dr ?_ | refine cell_stb ?_ ?_ | (show _ ≠ _; omega))))
        clear hKc Kc
        (try simp only [List.getElem_toArray]); (try simp only [List.getElem_cons_succ]); (try simp only [List.getElem_cons_zero]); (try simp only [Act.put]); (try simp only [List.setIfInBounds_toArray]); (try simp only [List.set_cons_succ]); (try simp only [List.set_cons_zero])
        refine wpAnyH_take (i := 6) (v := ?_) rfl (by kernel_rfl) (by kernel_rfl) (by kernel_rfl) (fun _ _ _ h => h) (Or.inl ⟨by kernel_rfl, ?_⟩) hHeld ?_
        rotate_left
        · intro wz hSw; (try dsimp only at hSw); go_simp; all_goals (try with_reducible rfl)
        (try simp only [List.getElem_toArray]); (try simp only [List.getElem_cons_succ]); (try simp only [List.getElem_cons_zero]); (try simp only [Act.put]); (try simp only [List.setIfInBounds_toArray]); (try simp only [List.set_cons_succ]); (try simp only [List.set_cons_zero])
        refine wpAnyH_take (i := 7) (v := ?_) rfl (by kernel_rfl) (by kernel_rfl) (by kernel_rfl) (fun _ _ _ h => h) (Or.inl ⟨by kernel_rfl, ?_⟩) hHeld ?_
        rotate_left
        · intro wz hSw; (try dsimp only at hSw); go_simp; all_goals (try with_reducible rfl)
        (try simp only [List.getElem_toArray]); (try simp only [List.getElem_cons_succ]); (try simp only [List.getElem_cons_zero]); (try simp only [Act.put]); (try simp only [List.setIfInBounds_toArray]); (try simp only [List.set_cons_succ]); (try simp only [List.set_cons_zero])
        refine wpAnyH_take (i := 8) (v := ?_) rfl (by kernel_rfl) (by kernel_rfl) (by kernel_rfl) (fun _ _ _ h => h) (Or.inl ⟨by kernel_rfl, ?_⟩) hHeld ?_
        rotate_left
        · intro wz hSw; (try dsimp only at hSw); go_simp; all_goals (try with_reducible rfl)
        (try simp only [List.getElem_toArray]); (try simp only [List.getElem_cons_succ]); (try simp only [List.getElem_cons_zero]); (try simp only [Act.put]); (try simp only [List.setIfInBounds_toArray]); (try simp only [List.set_cons_succ]); (try simp only [List.set_cons_zero])
        refine wpAnyH_ready (rs := [9]) (by kernel_rfl) (by simp) (AllReadyH.cons rfl (fun Kc hKc => ?_) AllReadyH.nil)
        go_simp
        refine hKc.out _ _ ?_ (fun hHeld => ?_)
        · (try dsimp only)
          refine ⟨?_, ?_⟩ <;> (repeat (with_reducible (first | exact c1 | exact c2 | refine cell_dr ?_ | refine cell_stb ?_ ?_ | (show _ ≠ _; omega))))
        clear hKc Kc
        (try simp only [List.getElem_toArray]); (try simp only [List.getElem_cons_succ]); (try simp only [List.getElem_cons_zero]); (try simp only [Act.put]); (try simp only [List.setIfInBounds_toArray]); (try simp only [List.set_cons_succ]); (try simp only [List.set_cons_zero])
        refine wpAnyH_take (i := 10) (v := ?_) rfl (by kernel_rfl) (by kernel_rfl) (by kernel_rfl) (fun _ _ _ h => h) (Or.inl ⟨by kernel_rfl, ?_⟩) hHeld ?_
        rotate_left
        · intro wz hSw; (try dsimp only at hSw); go_simp; all_goals (try with_reducible rfl)
        (try simp only [List.getElem_toArray]); (try simp only [List.getElem_cons_succ]); (try simp only [List.getElem_cons_zero]); (try simp only [Act.put]); (try simp only [List.setIfInBounds_toArray]); (try simp only [List.set_cons_succ]); (try simp only [List.set_cons_zero])
        refine wpAnyH_done (by kernel_rfl) ?_ _
        refine NoPanic.normal ?_
        go_wp2
        go_roundw
        case rel =>
          refine ⟨k + 1, by omega, by go_num, by rw [HQ.out], ?_, (Z3.other (by omega) 0 _).other (by omega) 1 _, (B3.setCell (p := ⟨Sb, 0, none⟩) hwS _).setCell (p := ⟨Sb, 1, none⟩) hwS _, ?_⟩
          · show IsR _ _ _ _
            rw [HQ.out]
            exact (S3.set0 _).set1 _
          · refine ⟨?_, ?_⟩ <;> (repeat (with_reducible (first | exact c1 | exact c2 | refine cell_stb ?_ ?_ | (show _ ≠ _; omega))))
        case measure => simp [intOf]; omega
    · obtain rfl : k = n := by omega
      have B1 : Below w.heap.size w wr := hB.out
      have s0 := hS.out.c0
      have s1' := hS.out.c1
      have z0 := hZ.out.c0
      have z1 := hZ.out.c1
      have z2 := hZ.out.f0
      have z3 := hZ.out.f1
      clear hS hZ hB hX
      obtain ⟨⟨⟨s1, s2⟩, so⟩, hs⟩ : ∃ z, z = G k := ⟨_, rfl⟩
      rw [← hs] at s0 s1' ⊢
      have HSS := hidW8 hs
      clear hs
      go_wp2
      exact bodyPost_ret (v := .tuple #[.agg #[.int .i64 s1, .int .i64 s2], .bool so]) (by simp [results, Try.results50, go_sem, z0, z1]) rfl ⟨by rw [← HSS.out], (B1.setCell (p := ⟨Rb, 0, none⟩) hwR _).setCell (p := ⟨Rb, 1, none⟩) hwR _⟩

set_option maxRecDepth 100000 in
set_option maxHeartbeats 4000000 in
theorem totP_any (f : Nat → Fr) (g n c : Nat) (P : List Fr) (hP : P.length = n) (p1 p2 p3 : Value) (base : Nat) (w : World) (hn : n ≤ 36) (hO : w.ownsRow base 86 2 (.slice (some ⟨g, 0, none⟩) n c) n (cellsR P))
    (hf : ∀ k, k < n → ∀ W : World, Below w.heap.size w W → Calls Try.prog 56 #[.agg #[.int .i64 (fr P k).1, .int .i64 (fr P k).2], p1, p2, p3] W fun e w' => e = .returned (.agg #[.int .i64 (f k).1, .int .i64 (f k).2]) ∧ Below W.heap.size W w') :
    Calls Try.prog 57 #[.agg #[.slice (some ⟨g, 0, none⟩) n c, .func (.func 56) #[] #[p1, p2, p3]]] w fun e w' =>
      e = .returned (.tuple #[.agg #[.int .i64 (pfold f n).1.1, .int .i64 (pfold f n).1.2], .bool (pfold f n).2]) ∧ Below w.heap.size w w' := by
  have b0 : ∀ {u : World} (o : Obj), Below u.heap.size u (u.alloc o) := fun o => (Below.refl _ _).alloc (Nat.le_refl _) o
  have HF := hidW8 hf
  have HO := hidW8 hO
  have HE : Hid (∀ k, k < n → w.cell? ⟨g, k * 2, none⟩ = some (.int .i64 (fr P k).1) ∧ w.cell? ⟨g, k * 2 + 1, none⟩ = some (.int .i64 (fr P k).2)) := by
    intro k hk
    obtain ⟨q1, q2⟩ := cellsR_at P k (by omega)
    exact ⟨(HO.out.cellAt (k * 2) (by omega)).trans q1, (HO.out.cellAt (k * 2 + 1) (by omega)).trans q2⟩
  have HG : g < w.heap.size := (World.ownsRow.lt hO g rfl).2
  obtain ⟨G, hG⟩ : ∃ G, G = pfold f := ⟨_, rfl⟩
  have HG0 : Hid (G 0 = ((0, 1), true)) := by show _ = _; rw [hG]; rfl
  have HGS : Hid (∀ k, G (k + 1) = (addP (G k).1 (f k), addK (G k).1 (f k))) := by intro k; rw [hG]; rfl
  rw [← hG]
  clear hf hO hG
  go_enter Try.func57, Try.ntmps57
  go_wp2
  obtain ⟨Xb, hXb⟩ : ∃ N, N = w.heap.size := ⟨_, rfl⟩
  obtain ⟨Rb, hRb⟩ : ∃ N, N = w.heap.size + 1 := ⟨_, rfl⟩
  obtain ⟨Sb, hSb⟩ : ∃ N, N = w.heap.size + 2 := ⟨_, rfl⟩
  obtain ⟨X, hX⟩ : ∃ X, X = ((w.alloc (.cells #[.slice (some ⟨g, 0, none⟩) n c, .func (.func 56) #[] #[p1, p2, p3]] 89)).alloc (.cells #[.int .i64 0, .int .i64 0] 32)).alloc (.cells #[.int .i64 0, .int .i64 1] 32) := ⟨_, rfl⟩
  have Z0 : IsR X Rb 0 0 := by
    rw [hX, hRb]
    have := (IsR.new (w.alloc (.cells #[.slice (some ⟨g, 0, none⟩) n c, .func (.func 56) #[] #[p1, p2, p3]] 89)) 0 0).below (b0 (.cells #[.int .i64 0, .int .i64 1] 32))
    simpa using this
  have S0 : IsR X Sb (G 0).1.1 (G 0).1.2 := by
    rw [hX, hSb, HG0.out]
    have := IsR.new ((w.alloc (.cells #[.slice (some ⟨g, 0, none⟩) n c, .func (.func 56) #[] #[p1, p2, p3]] 89)).alloc (.cells #[.int .i64 0, .int .i64 0] 32)) 0 1
    simpa using this
  have B0 : Below w.heap.size w X := by rw [hX]; exact (((Below.refl _ _).alloc (Nat.le_refl _) _).alloc (by simp) _).alloc (by simp; omega) _
  have X0 : X.cell? ⟨Xb, 0, none⟩ = some (.slice (some ⟨g, 0, none⟩) n c) := by rw [hX, hXb]; simp [go_sem]
  have X1 : X.cell? ⟨Xb, 1, none⟩ = some (.func (.func 56) #[] #[p1, p2, p3]) := by rw [hX, hXb]; simp [go_sem]
  have hwS : w.heap.size ≤ Sb := by omega
  have hwR : w.heap.size ≤ Rb := by omega
  have hXS : Xb < Sb := by omega
  have hXR : Xb ≠ Rb := by omega
  have hRS : Rb < Sb := by omega
  rw [← hX, ← hXb, show Xb + 1 = Rb by omega, show Rb + 1 = Sb by omega]
  clear hX hXb hRb hSb
  go_loopw [5, 12] (fun q i wr => ∃ k : Nat, k ≤ n ∧ i = .int .i64 k ∧ q = .bool (G k).2 ∧ Hid (IsR wr Sb (G k).1.1 (G k).1.2) ∧ Hid (IsR wr Rb 0 0) ∧ Hid (Below w.heap.size w wr) ∧ Hid (wr.cell? ⟨Xb, 0, none⟩ = some (.slice (some ⟨g, 0, none⟩) n c) ∧ wr.cell? ⟨Xb, 1, none⟩ = some (.func (.func 56) #[] #[p1, p2, p3]))) (fun _ i _ => n - (intOf i).toNat)
  case atStart => exact ⟨0, Nat.zero_le _, rfl, by rw [HG0.out], S0, Z0, B0, X0, X1⟩
  case round =>
    clear S0 Z0 B0 X0 X1
    obtain ⟨k, hk, rfl, rfl, hS, hZ, hB, hX⟩ := hrel
    by_cases hlt : k < n
    · obtain ⟨c1, c2⟩ := hX.out
      obtain ⟨d1, d2⟩ := HE.out k hlt
      replace d1 := cell_keep hB.out d1
      replace d2 := cell_keep hB.out d2
      obtain ⟨s, hs⟩ : ∃ z, z = G k := ⟨_, rfl⟩
      obtain ⟨r, hr⟩ : ∃ z, z = G (k + 1) := ⟨_, rfl⟩
      have HQ : Hid (G (k + 1) = r) := hr.symm
      obtain ⟨y, hy⟩ : ∃ z, z = f k := ⟨_, rfl⟩
      have HC := hidW8 (HF.out k hlt)
      rw [HGS.out k, ← hs, ← hy] at hr
      rw [← hs] at hS
      rw [← hy] at HC
      obtain ⟨pt, hpt⟩ : ∃ z, z = fr P k := ⟨_, rfl⟩
      rw [← hpt] at d1 d2 HC
      clear hpt
      obtain ⟨t1, t2⟩ := pt
      dsimp only at d1 d2 HC
      obtain ⟨⟨s1, s2⟩, so⟩ := s
      obtain ⟨y1, y2⟩ := y
      have HA : Hid (∀ W : World, Calls Try.prog 64 #[.agg #[.int .i64 s1, .int .i64 s2], .agg #[.int .i64 y1, .int .i64 y2]] W fun e w' => e = .returned (.tuple #[.agg #[.int .i64 r.1.1, .int .i64 r.1.2], .bool r.2]) ∧ Below W.heap.size W w') := by
        intro W; rw [hr]; exact addC s1 s2 y1 y2 W
      clear hs hr hy
      obtain ⟨⟨r1, r2⟩, ro⟩ := r
      have S0 : IsR wr Sb s1 s2 := hS.out
      have Z0 : IsR wr Rb 0 0 := hZ.out
      have B0 : Below w.heap.size w wr := hB.out
      have hsz := B0.size
      have hlS := S0.lt
      clear hX hS hZ hB
      go_upto_region 5 with fail
      obtain ⟨N, hN⟩ : ∃ N, N = wr.heap.size := ⟨_, rfl⟩
      obtain ⟨X, hX⟩ : ∃ X, X = wr.alloc (.cells #[.int .i64 t1, .int .i64 t2] 86) := ⟨_, rfl⟩
      have hbx : Below wr.heap.size wr X := by rw [hX]; exact b0 _
      have c3 : X.cell? ⟨N, 0, none⟩ = some (.int .i64 t1) := by rw [hX, hN]; simp [go_sem]
      have c4 : X.cell? ⟨N, 1, none⟩ = some (.int .i64 t2) := by rw [hX, hN]; simp [go_sem]
      replace c1 := cell_keep hbx c1
      replace c2 := cell_keep hbx c2
      replace S0 := S0.below hbx
      replace Z0 := Z0.below hbx
      replace B0 := B0.trans (hbx.mono hsz)
      have hNS : N ≠ Sb := by omega
      rw [← hX, ← hN]
      clear hX hN hbx d1 d2
      refine wp_region_noPanic ?_
      refine wp_region_held_drew (S := (fun w' => w'.cell? ⟨Xb, 0, none⟩ = some (.slice (some ⟨g, 0, none⟩) n c) ∧ w'.cell? ⟨Xb, 1, none⟩ = some (.func (.func 56) #[] #[p1, p2, p3]) ∧ w'.cell? ⟨N, 0, none⟩ = some (.int .i64 t1) ∧ w'.cell? ⟨N, 1, none⟩ = some (.int .i64 t2))) (by kernel_rfl) ?_ (fun hHeld => ?_)
      · (try dsimp only)
        refine ⟨?_, ?_, ?_, ?_⟩ <;> (repeat (with_reducible (first | exact c1 | exact c2 | exact c3 | exact c4 | refine cell_dr ?_ | refine cell_stb ?_ ?_ | (show _ ≠ _; omega))))
      refine wpAnyH_take (i := 1) (v := ?_) rfl (by kernel_rfl) (by kernel_rfl) (by kernel_rfl) (fun _ _ _ h => h) (Or.inl ⟨by kernel_rfl, ?_⟩) hHeld ?_
      rotate_left
      · intro wz hSw; (try dsimp only at hSw); go_simp; all_goals (try with_reducible rfl)
      (try simp only [List.getElem_toArray]); (try simp only [List.getElem_cons_succ]); (try simp only [List.getElem_cons_zero]); (try simp only [Act.put]); (try simp only [List.setIfInBounds_toArray]); (try simp only [List.set_cons_succ]); (try simp only [List.set_cons_zero])
      refine wpAnyH_take (i := 2) (v := ?_) rfl (by kernel_rfl) (by kernel_rfl) (by kernel_rfl) (fun _ _ _ h => h) (Or.inl ⟨by kernel_rfl, ?_⟩) hHeld ?_
      rotate_left
      · intro wz hSw; (try dsimp only at hSw); go_simp; all_goals (try with_reducible rfl)
      (try simp only [List.getElem_toArray]); (try simp only [List.getElem_cons_succ]); (try simp only [List.getElem_cons_zero]); (try simp only [Act.put]); (try simp only [List.setIfInBounds_toArray]); (try simp only [List.set_cons_succ]); (try simp only [List.set_cons_zero])
      refine wpAnyH_take (i := 3) (v := ?_) rfl (by kernel_rfl) (by kernel_rfl) (by kernel_rfl) (fun _ _ _ h => h) (Or.inl ⟨by kernel_rfl, ?_⟩) hHeld ?_
      rotate_left
      · intro wz hSw; (try dsimp only at hSw); go_simp; all_goals (try with_reducible rfl)
      (try simp only [List.getElem_toArray]); (try simp only [List.getElem_cons_succ]); (try simp only [List.getElem_cons_zero]); (try simp only [Act.put]); (try simp only [List.setIfInBounds_toArray]); (try simp only [List.set_cons_succ]); (try simp only [List.set_cons_zero])
      have s0 := S0.c0
      have s1' := S0.c1
      refine wpAnyH_ready (rs := [0, 4]) (by kernel_rfl) (by simp) (AllReadyH.cons rfl (fun Kc hKc => ?_) (AllReadyH.cons rfl (fun Kc hKc => ?_) AllReadyH.nil))
      · go_simp
        refine hKc.out _ _ ?_ (fun hHeld => ?_)
        · (try dsimp only)
          refine ⟨?_, ?_, ?_, ?_⟩ <;> (repeat (with_reducible (first | exact c1 | exact c2 | exact c3 | exact c4 | refine cell_dr ?_ | refine cell_stb ?_ ?_ | (show _ ≠ _; omega))))
        clear hKc Kc
        (try simp only [List.getElem_toArray]); (try simp only [List.getElem_cons_succ]); (try simp only [List.getElem_cons_zero]); (try simp only [Act.put]); (try simp only [List.setIfInBounds_toArray]); (try simp only [List.set_cons_succ]); (try simp only [List.set_cons_zero])
        refine wpAnyH_ready (rs := [4]) (by kernel_rfl) (by simp) (AllReadyH.cons rfl (fun Kc hKc => ?_) AllReadyH.nil)
        go_simp
        (go_at_call 56; refine (HC.out _ (B0.trans (((Below.refl _ _).drew).mono B0.size))).mono ?_; rintro e w2 ⟨rfl, hb2⟩)
        have hbd : Below X.heap.size X w2 := ((Below.refl _ _).drew).trans (hb2.mono (by simp))
        have c1 := cell_keep hbd c1
        have c2 := cell_keep hbd c2
        have c3 := cell_keep hbd c3
        have c4 := cell_keep hbd c4
        have S2 := S0.below hbd
        have Z2 := Z0.below hbd
        have B2 := B0.trans (hbd.mono B0.size)
        have s0 := S2.c0
        have s1' := S2.c1
        clear hb2 hbd
        go_wp2_with fail
        refine hKc.out _ _ ?_ (fun hHeld => ?_)
        · (try dsimp only)
          refine ⟨?_, ?_, ?_, ?_⟩ <;> (repeat (with_reducible (first | exact c1 | exact c2 | exact c3 | exact c4 | refine cell_dr ?_ | refine cell_stb ?_ ?_ | (show _ ≠ _; omega))))
        clear hKc Kc
        (try simp only [List.getElem_toArray]); (try simp only [List.getElem_cons_succ]); (try simp only [List.getElem_cons_zero]); (try simp only [Act.put]); (try simp only [List.setIfInBounds_toArray]); (try simp only [List.set_cons_succ]); (try simp only [List.set_cons_zero])
        refine wpAnyH_ready (rs := [5]) (by kernel_rfl) (by simp) (AllReadyH.cons rfl (fun Kc hKc => ?_) AllReadyH.nil)
        go_simp
        (go_at_call 64; refine (HA.out _).mono ?_; rintro e w3 ⟨rfl, hb3⟩)
        have c1 := cell_keep hb3 c1
        have c2 := cell_keep hb3 c2
        have c3 := cell_keep hb3 c3
        have c4 := cell_keep hb3 c4
        have S3 := S2.below hb3
        have Z3 := Z2.below hb3
        have B3 := B2.trans (hb3.mono B2.size)
        have s0 := S3.c0
        have s1' := S3.c1
        have s2' := S3.f0
        have s3' := S3.f1
        clear hb3
        go_wp2_with fail
        refine hKc.out _ _ ?_ (fun hHeld => ?_)
        · (try dsimp only)
          refine ⟨?_, ?_, ?_, ?_⟩ <;> (repeat (with_reducible (first | exact c1 | exact c2 | exact c3 | exact c4 | refine cell_dr ?_ | refine cell_stb ?_ ?_ | (show _ ≠ _; omega))))
        clear hKc Kc
        (try simp only [List.getElem_toArray]); (try simp only [List.getElem_cons_succ]); (try simp only [List.getElem_cons_zero]); (try simp only [Act.put]); (try simp only [List.setIfInBounds_toArray]); (try simp only [List.set_cons_succ]); (try simp only [List.set_cons_zero])
        refine wpAnyH_take (i := 6) (v := ?_) rfl (by kernel_rfl) (by kernel_rfl) (by kernel_rfl) (fun _ _ _ h => h) (Or.inl ⟨by kernel_rfl, ?_⟩) hHeld ?_
        rotate_left
        · intro wz hSw; (try dsimp only at hSw); go_simp; all_goals (try with_reducible rfl)
        (try simp only [List.getElem_toArray]); (try simp only [List.getElem_cons_succ]); (try simp only [List.getElem_cons_zero]); (try simp only [Act.put]); (try simp only [List.setIfInBounds_toArray]); (try simp only [List.set_cons_succ]); (try simp only [List.set_cons_zero])
        refine wpAnyH_take (i := 7) (v := ?_) rfl (by kernel_rfl) (by kernel_rfl) (by kernel_rfl) (fun _ _ _ h => h) (Or.inl ⟨by kernel_rfl, ?_⟩) hHeld ?_
        rotate_left
        · intro wz hSw; (try dsimp only at hSw); go_simp; all_goals (try with_reducible rfl)
        (try simp only [List.getElem_toArray]); (try simp only [List.getElem_cons_succ]); (try simp only [List.getElem_cons_zero]); (try simp only [Act.put]); (try simp only [List.setIfInBounds_toArray]); (try simp only [List.set_cons_succ]); (try simp only [List.set_cons_zero])
        refine wpAnyH_take (i := 8) (v := ?_) rfl (by kernel_rfl) (by kernel_rfl) (by kernel_rfl) (fun _ _ _ h => h) (Or.inl ⟨by kernel_rfl, ?_⟩) hHeld ?_
        rotate_left
        · intro wz hSw; (try dsimp only at hSw); go_simp; all_goals (try with_reducible rfl)
        (try simp only [List.getElem_toArray]); (try simp only [List.getElem_cons_succ]); (try simp only [List.getElem_cons_zero]); (try simp only [Act.put]); (try simp only [List.setIfInBounds_toArray]); (try simp only [List.set_cons_succ]); (try simp only [List.set_cons_zero])
        refine wpAnyH_ready (rs := [9]) (by kernel_rfl) (by simp) (AllReadyH.cons rfl (fun Kc hKc => ?_) AllReadyH.nil)
        go_simp
        refine hKc.out _ _ ?_ (fun hHeld => ?_)
        · (try dsimp only)
          refine ⟨?_, ?_, ?_, ?_⟩ <;> (repeat (with_reducible (first | exact c1 | exact c2 | exact c3 | exact c4 | refine cell_dr ?_ | refine cell_stb ?_ ?_ | (show _ ≠ _; omega))))
        clear hKc Kc
        (try simp only [List.getElem_toArray]); (try simp only [List.getElem_cons_succ]); (try simp only [List.getElem_cons_zero]); (try simp only [Act.put]); (try simp only [List.setIfInBounds_toArray]); (try simp only [List.set_cons_succ]); (try simp only [List.set_cons_zero])
        refine wpAnyH_take (i := 10) (v := ?_) rfl (by kernel_rfl) (by kernel_rfl) (by kernel_rfl) (fun _ _ _ h => h) (Or.inl ⟨by kernel_rfl, ?_⟩) hHeld ?_
        rotate_left
        · intro wz hSw; (try dsimp only at hSw); go_simp; all_goals (try with_reducible rfl)
        (try simp only [List.getElem_toArray]); (try simp only [List.getElem_cons_succ]); (try simp only [List.getElem_cons_zero]); (try simp only [Act.put]); (try simp only [List.setIfInBounds_toArray]); (try simp only [List.set_cons_succ]); (try simp only [List.set_cons_zero])
        refine wpAnyH_done (by kernel_rfl) ?_ _
        refine NoPanic.normal ?_
        go_wp2
        go_roundw
        case rel =>
          refine ⟨k + 1, by omega, by go_num, by rw [HQ.out], ?_, (Z3.other (by omega) 0 _).other (by omega) 1 _, (B3.setCell (p := ⟨Sb, 0, none⟩) hwS _).setCell (p := ⟨Sb, 1, none⟩) hwS _, ?_⟩
          · show IsR _ _ _ _
            rw [HQ.out]
            exact (S3.set0 _).set1 _
          · refine ⟨?_, ?_⟩ <;> (repeat (with_reducible (first | exact c1 | exact c2 | refine cell_stb ?_ ?_ | (show _ ≠ _; omega))))
        case measure => simp [intOf]; omega
      · go_simp
        (go_at_call 56; refine (HC.out _ (B0.trans (((Below.refl _ _).drew).mono B0.size))).mono ?_; rintro e w2 ⟨rfl, hb2⟩)
        have hbd : Below X.heap.size X w2 := ((Below.refl _ _).drew).trans (hb2.mono (by simp))
        have c1 := cell_keep hbd c1
        have c2 := cell_keep hbd c2
        have c3 := cell_keep hbd c3
        have c4 := cell_keep hbd c4
        have S2 := S0.below hbd
        have Z2 := Z0.below hbd
        have B2 := B0.trans (hbd.mono B0.size)
        have s0 := S2.c0
        have s1' := S2.c1
        clear hb2 hbd
        go_wp2_with fail
        refine hKc.out _ _ ?_ (fun hHeld => ?_)
        · (try dsimp only)
          refine ⟨?_, ?_, ?_, ?_⟩ <;> (repeat (with_reducible (first | exact c1 | exact c2 | exact c3 | exact c4 | refine cell_dr ?_ | refine cell_stb ?_ ?_ | (show _ ≠ _; omega))))
        clear hKc Kc
        (try simp only [List.getElem_toArray]); (try simp only [List.getElem_cons_succ]); (try simp only [List.getElem_cons_zero]); (try simp only [Act.put]); (try simp only [List.setIfInBounds_toArray]); (try simp only [List.set_cons_succ]); (try simp only [List.set_cons_zero])
        refine wpAnyH_ready (rs := [0]) (by kernel_rfl) (by simp) (AllReadyH.cons rfl (fun Kc hKc => ?_) AllReadyH.nil)
        go_simp
        refine hKc.out _ _ ?_ (fun hHeld => ?_)
        · (try dsimp only)
          refine ⟨?_, ?_, ?_, ?_⟩ <;> (repeat (with_reducible (first | exact c1 | exact c2 | exact c3 | exact c4 | refine cell_dr ?_ | refine cell_stb ?_ ?_ | (show _ ≠ _; omega))))
        clear hKc Kc
        (try simp only [List.getElem_toArray]); (try simp only [List.getElem_cons_succ]); (try simp only [List.getElem_cons_zero]); (try simp only [Act.put]); (try simp only [List.setIfInBounds_toArray]); (try simp only [List.set_cons_succ]); (try simp only [List.set_cons_zero])
        refine wpAnyH_ready (rs := [5]) (by kernel_rfl) (by simp) (AllReadyH.cons rfl (fun Kc hKc => ?_) AllReadyH.nil)
        go_simp
        (go_at_call 64; refine (HA.out _).mono ?_; rintro e w3 ⟨rfl, hb3⟩)
        have c1 := cell_keep hb3 c1
        have c2 := cell_keep hb3 c2
        have c3 := cell_keep hb3 c3
        have c4 := cell_keep hb3 c4
        have S3 := S2.below hb3
        have Z3 := Z2.below hb3
        have B3 := B2.trans (hb3.mono B2.size)
        have s0 := S3.c0
        have s1' := S3.c1
        have s2' := S3.f0
        have s3' := S3.f1
        clear hb3
        go_wp2_with fail
        refine hKc.out _ _ ?_ (fun hHeld => ?_)
        · (try dsimp only)
          refine ⟨?_, ?_, ?_, ?_⟩ <;> (repeat (with_reducible (first | exact c1 | exact c2 | exact c3 | exact c4 | refine cell_dr ?_ | refine cell_stb ?_ ?_ | (show _ ≠ _; omega))))
        clear hKc Kc
        (try simp only [List.getElem_toArray]); (try simp only [List.getElem_cons_succ]); (try simp only [List.getElem_cons_zero]); (try simp only [Act.put]); (try simp only [List.setIfInBounds_toArray]); (try simp only [List.set_cons_succ]); (try simp only [List.set_cons_zero])
        refine wpAnyH_take (i := 6) (v := ?_) rfl (by kernel_rfl) (by kernel_rfl) (by kernel_rfl) (fun _ _ _ h => h) (Or.inl ⟨by kernel_rfl, ?_⟩) hHeld ?_
        rotate_left
        · intro wz hSw; (try dsimp only at hSw); go_simp; all_goals (try with_reducible rfl)
        (try simp only [List.getElem_toArray]); (try simp only [List.getElem_cons_succ]); (try simp only [List.getElem_cons_zero]); (try simp only [Act.put]); (try simp only [List.setIfInBounds_toArray]); (try simp only [List.set_cons_succ]); (try simp only [List.set_cons_zero])
        refine wpAnyH_take (i := 7) (v := ?_) rfl (by kernel_rfl) (by kernel_rfl) (by kernel_rfl) (fun _ _ _ h => h) (Or.inl ⟨by kernel_rfl, ?_⟩) hHeld ?_
        rotate_left
        · intro wz hSw; (try dsimp only at hSw); go_simp; all_goals (try with_reducible rfl)
        (try simp only [List.getElem_toArray]); (try simp only [List.getElem_cons_succ]); (try simp only [List.getElem_cons_zero]); (try simp only [Act.put]); (try simp only [List.setIfInBounds_toArray]); (try simp only [List.set_cons_succ]); (try simp only [List.set_cons_zero])
        refine wpAnyH_take (i := 8) (v := ?_) rfl (by kernel_rfl) (by kernel_rfl) (by kernel_rfl) (fun _ _ _ h => h) (Or.inl ⟨by kernel_rfl, ?_⟩) hHeld ?_
        rotate_left
        · intro wz hSw; (try dsimp only at hSw); go_simp; all_goals (try with_reducible rfl)
        (try simp only [List.getElem_toArray]); (try simp only [List.getElem_cons_succ]); (try simp only [List.getElem_cons_zero]); (try simp only [Act.put]); (try simp only [List.setIfInBounds_toArray]); (try simp only [List.set_cons_succ]); (try simp only [List.set_cons_zero])
        refine wpAnyH_ready (rs := [9]) (by kernel_rfl) (by simp) (AllReadyH.cons rfl (fun Kc hKc => ?_) AllReadyH.nil)
        go_simp
        refine hKc.out _ _ ?_ (fun hHeld => ?_)
        · (try dsimp only)
          refine ⟨?_, ?_, ?_, ?_⟩ <;> (repeat (with_reducible (first | exact c1 | exact c2 | exact c3 | exact c4 | refine cell_dr ?_ | refine cell_stb ?_ ?_ | (show _ ≠ _; omega))))
        clear hKc Kc
        (try simp only [List.getElem_toArray]); (try simp only [List.getElem_cons_succ]); (try simp only [List.getElem_cons_zero]); (try simp only [Act.put]); (try simp only [List.setIfInBounds_toArray]); (try simp only [List.set_cons_succ]); (try simp only [List.set_cons_zero])
        refine wpAnyH_take (i := 10) (v := ?_) rfl (by kernel_rfl) (by kernel_rfl) (by kernel_rfl) (fun _ _ _ h => h) (Or.inl ⟨by kernel_rfl, ?_⟩) hHeld ?_
        rotate_left
        · intro wz hSw; (try dsimp only at hSw); go_simp; all_goals (try with_reducible rfl)
        (try simp only [List.getElem_toArray]); (try simp only [List.getElem_cons_succ]); (try simp only [List.getElem_cons_zero]); (try simp only [Act.put]); (try simp only [List.setIfInBounds_toArray]); (try simp only [List.set_cons_succ]); (try simp only [List.set_cons_zero])
        refine wpAnyH_done (by kernel_rfl) ?_ _
        refine NoPanic.normal ?_
        go_wp2
        go_roundw
        case rel =>
          refine ⟨k + 1, by omega, by go_num, by rw [HQ.out], ?_, (Z3.other (by omega) 0 _).other (by omega) 1 _, (B3.setCell (p := ⟨Sb, 0, none⟩) hwS _).setCell (p := ⟨Sb, 1, none⟩) hwS _, ?_⟩
          · show IsR _ _ _ _
            rw [HQ.out]
            exact (S3.set0 _).set1 _
          · refine ⟨?_, ?_⟩ <;> (repeat (with_reducible (first | exact c1 | exact c2 | refine cell_stb ?_ ?_ | (show _ ≠ _; omega))))
        case measure => simp [intOf]; omega
    · obtain rfl : k = n := by omega
      have B1 : Below w.heap.size w wr := hB.out
      have s0 := hS.out.c0
      have s1' := hS.out.c1
      have z0 := hZ.out.c0
      have z1 := hZ.out.c1
      have z2 := hZ.out.f0
      have z3 := hZ.out.f1
      clear hS hZ hB hX
      obtain ⟨⟨⟨s1, s2⟩, so⟩, hs⟩ : ∃ z, z = G k := ⟨_, rfl⟩
      rw [← hs] at s0 s1' ⊢
      have HSS := hidW8 hs
      clear hs
      go_wp2
      exact bodyPost_ret (v := .tuple #[.agg #[.int .i64 s1, .int .i64 s2], .bool so]) (by simp [results, Try.results57, go_sem, z0, z1]) rfl ⟨by rw [← HSS.out], (B1.setCell (p := ⟨Rb, 0, none⟩) hwR _).setCell (p := ⟨Rb, 1, none⟩) hwR _⟩
end Go.Proofs.Ytkcdpjcfbpjkean
