/- The walk of the model's l10At. -/
import Derived.Test.YthnlcgilmljliaaFitW2
namespace Go.Proofs.Ythnlcgilmljliaa
open Go.RowKit Go.Proofs.Ythnlcgilmljliaa.RM

set_option maxRecDepth 100000 in
set_option maxHeartbeats 4000000 in
theorem sAt_any (K : Nat) (bd : Bool) (v : Value) (cs : List Fr) (x : Fr) (w w0 : World) (h : RdR w v cs) (hc1 : 1 ≤ cs.length) (hc4 : cs.length ≤ 4) (hB : Below w.heap.size w w0) (hwK : w.heap.size ≤ K) (hK : IsK w0 K bd) :
    Calls Try.prog 52 #[.pointer (some ⟨K, 0, none⟩), v, .agg #[.int .i64 x.1, .int .i64 x.2]] w0 fun e w' => e = .returned (.agg #[.int .i64 (atV cs x bd).1.1, .int .i64 (atV cs x bd).1.2]) ∧ IsK w' K (atV cs x bd).2 ∧ w0.grownBy w' (some K) := by
  obtain ⟨a, c, rfl, h2, h3, h4, h5⟩ := h
  have H5 : Hid (∀ j, j < cs.length → ∃ b off, a = some ⟨b, off, none⟩ ∧ w.cell? ⟨b, off + j * 2, none⟩ = some (.int .i64 (fr cs j).1) ∧ w.cell? ⟨b, off + j * 2 + 1, none⟩ = some (.int .i64 (fr cs j).2)) := h5
  obtain ⟨F, hF⟩ : ∃ F, F = hrnV cs x bd := ⟨_, rfl⟩
  have HF0 : Hid (F 0 = (fr cs (cs.length - 1), bd)) := by show _ = _; rw [hF]; rfl
  have HFS : Hid (∀ k, F (k + 1) = hrS (F k) x (fr cs (cs.length - 2 - k))) := by intro k; rw [hF]; rfl
  have HE : atV cs x bd = F (cs.length - 1) := by rw [hF]; rfl
  rw [HE]
  obtain ⟨L, hL⟩ : ∃ L, L = cs.length := ⟨_, rfl⟩
  rw [← hL] at hc1 hc4 H5 HF0 HFS ⊢
  clear h5 h2 h3 h4 hF HE hL
  have hlK := hK.lt
  have hs0 := hB.size
  obtain ⟨x1, x2⟩ := x
  dsimp only
  obtain ⟨Xb, hXb⟩ : ∃ R, R = w0.heap.size := ⟨_, rfl⟩
  obtain ⟨Rb, hRb⟩ : ∃ R, R = w0.heap.size + 1 := ⟨_, rfl⟩
  obtain ⟨Sb, hSb⟩ : ∃ R, R = w0.heap.size + 2 := ⟨_, rfl⟩
  obtain ⟨m, hm⟩ : ∃ m : Nat, (m : Int) = (L : Int) - 1 := ⟨L - 1, by omega⟩
  obtain ⟨b, off, rfl, c1, c2⟩ := H5.out m (by omega)
  have hme : m = L - 1 := by omega
  replace c1 := cell_keep hB c1
  replace c2 := cell_keep hB c2
  obtain ⟨y, hy⟩ : ∃ y, y = fr cs m := ⟨_, rfl⟩
  have HF0' : Hid (F 0 = (y, bd)) := by show _ = _; rw [HF0.out, hy, hme]
  rw [← hy, hme] at c1 c2
  obtain ⟨y1, y2⟩ := y
  dsimp only at c1 c2
  clear hy HF0
  go_enter Try.func52, Try.ntmps52
  go_upto_region 1 with fail
  obtain ⟨u, hu⟩ : ∃ u, u = (w0.alloc (.cells #[.int .i64 x1, .int .i64 x2] 33)).alloc (.cells #[.int .i64 0, .int .i64 0] 33) := ⟨_, rfl⟩
  have X0 : IsR u Xb x1 x2 := by rw [hu, hXb]; exact (IsR.new w0 x1 x2).below ((Below.refl _ _).alloc (Nat.le_refl _) _)
  have Z0 : IsR u Rb 0 0 := by rw [hu, hRb]; have := IsR.new (w0.alloc (.cells #[.int .i64 x1, .int .i64 x2] 33)) 0 0; simpa using this
  have K0 : IsK u K bd := by rw [hu]; exact (IsK.below hK ((Below.refl _ _).alloc (Nat.le_refl _) _)).below ((Below.refl _ _).alloc (Nat.le_refl _) _)
  have G0 : w0.grownBy u (some K) := by rw [hu]; exact g_alloc (g_alloc (g_refl w0 (some K)) _) _
  have B0 : Below w.heap.size w u := hB.trans (below_grownK G0 hwK hs0)
  have hus : u.heap.size = Sb := by rw [hu, hSb]; simp
  replace c1 : u.cell? ⟨b, off + (L - 1) * 2, none⟩ = some (.int .i64 y1) := by rw [hu]; exact cell_al _ (cell_al _ c1)
  replace c2 : u.cell? ⟨b, off + (L - 1) * 2 + 1, none⟩ = some (.int .i64 y2) := by rw [hu]; exact cell_al _ (cell_al _ c2)
  rw [← hu, ← hRb, ← hXb]
  have hSK : Sb ≠ K := by omega
  have hXK : Xb ≠ K := by omega
  have hRK : Rb ≠ K := by omega
  have hXS : Xb ≠ Sb := by omega
  have hRS : Rb ≠ Sb := by omega
  have h0S : w0.heap.size ≤ Sb := by omega
  have h0R : w0.heap.size ≤ Rb := by omega
  have hwS : w.heap.size ≤ Sb := by omega
  clear hu hK hB hXb hRb hSb
  go_wp2
  obtain ⟨X, hX⟩ : ∃ X, X = u.alloc (.cells #[.int .i64 y1, .int .i64 y2] 33) := ⟨_, rfl⟩
  have S1 : IsR X Sb (F 0).1.1 (F 0).1.2 := by rw [HF0'.out, hX, ← hus]; exact IsR.new u y1 y2
  have X1 : IsR X Xb x1 x2 := by rw [hX]; exact X0.below ((Below.refl _ _).alloc (Nat.le_refl _) _)
  have Z1 : IsR X Rb 0 0 := by rw [hX]; exact Z0.below ((Below.refl _ _).alloc (Nat.le_refl _) _)
  have K1 : IsK X K (F 0).2 := by rw [HF0'.out, hX]; exact K0.below ((Below.refl _ _).alloc (Nat.le_refl _) _)
  have G1 : w0.grownBy X (some K) := by rw [hX]; exact g_alloc G0 _
  have B1 : Below w.heap.size w X := by rw [hX]; exact B0.alloc B0.size _
  rw [← hX]
  try rw [hus]
  clear hX X0 Z0 K0 G0 B0 hus c1 c2 hm hme hs0
  go_loopw [8] (fun i wr => ∃ (k : Nat) (q : Int), k ≤ L - 1 ∧ q = (L : Int) - 2 - (k : Int) ∧ i = .int .i64 q ∧ Hid (IsR wr Sb (F k).1.1 (F k).1.2) ∧ Hid (IsK wr K (F k).2) ∧ Hid (IsR wr Xb x1 x2) ∧ Hid (IsR wr Rb 0 0) ∧ Hid (Below w.heap.size w wr) ∧ Hid (w0.grownBy wr (some K))) (fun i _ => (intOf i + 1).toNat)
  case atStart => exact ⟨0, (L : Int) - 2, Nat.zero_le _, by simp, rfl, S1, K1, X1, Z1, B1, G1⟩
  case round =>
    clear S1 K1 X1 Z1 G1 B1
    obtain ⟨k, q, hk, hq, rfl, hS, hK, hX, hZ, hB, hG⟩ := hrel
    by_cases hlt : k < L - 1
    · obtain ⟨m, hm⟩ : ∃ m : Nat, m = L - 2 - k := ⟨_, rfl⟩
      have hmi : q = (m : Int) := by omega
      have hmL : m < L := by omega
      have HM0 : Hid ((m : Int) = (L : Int) - 2 - (k : Int)) := by show _ = _; omega
      subst hmi
      clear hq
      have hmd : decide ((m : Int) < (L : Int)) = true := decide_eq_true (by omega)
      obtain ⟨b', off', heq, c1, c2⟩ := H5.out m hmL
      injection heq with heq
      injection heq with heq1 heq2
      subst heq1
      subst heq2
      have l1 := World.block_lt_of_cell? w _ c1
      dsimp only at l1
      replace c1 := cell_keep hB.out c1
      replace c2 := cell_keep hB.out c2
      obtain ⟨y, hy⟩ : ∃ z, z = fr cs m := ⟨_, rfl⟩
      obtain ⟨s, hs⟩ : ∃ z, z = F k := ⟨_, rfl⟩
      obtain ⟨r, hr⟩ : ∃ z, z = F (k + 1) := ⟨_, rfl⟩
      have HQ : Hid (F (k + 1) = r) := hr.symm
      rw [HFS.out k, ← hs, ← hm, ← hy] at hr
      rw [← hy] at c1 c2
      rw [← hs] at hS hK
      obtain ⟨s, so⟩ := s
      obtain ⟨p, hp⟩ : ∃ z, z = p1V s (x1, x2) := ⟨_, rfl⟩
      obtain ⟨HM, HA⟩ := hrStep K so s (x1, x2) y p r hp hr
      replace HM := hidP HM
      replace HA := hidP HA
      obtain ⟨y1, y2⟩ := y
      obtain ⟨s1, s2⟩ := s
      obtain ⟨p1, p2⟩ := p
      obtain ⟨⟨r1, r2⟩, ro⟩ := r
      clear hy hs hp hr hm HF0' HFS
      dsimp only at c1 c2 hS hK HM HA
      have d0 := hX.out.c0
      have d1 := hX.out.c1
      have e0 := hS.out.c0
      have e1 := hS.out.c1
      go_upto_region 5 with fail
      refine wp_region_noPanic ?_
      refine wp_region_held_drew (S := (fun w' => w'.cell? ⟨b, off + m * 2, none⟩ = some (.int .i64 y1) ∧ w'.cell? ⟨b, off + m * 2 + 1, none⟩ = some (.int .i64 y2) ∧ w'.cell? ⟨Xb, 0, none⟩ = some (.int .i64 x1) ∧ w'.cell? ⟨Xb, 1, none⟩ = some (.int .i64 x2))) (by kernel_rfl) ?_ (fun hHeld => ?_)
      · (try dsimp only)
        refine ⟨?_, ?_, ?_, ?_⟩ <;> (repeat (with_reducible (first | exact c1 | exact c2 | exact d0 | exact d1 | refine cell_dr ?_ | refine cell_stb ?_ ?_ | refine cell_al ?_ | (show _ ≠ _; omega))))
      refine wpAnyH_take (i := 0) (v := ?_) rfl (by kernel_rfl) (by kernel_rfl) (by kernel_rfl) (fun _ _ _ h => h) (Or.inl ⟨by kernel_rfl, ?_⟩) hHeld ?_
      rotate_left
      · intro wz hSw; (try dsimp only at hSw); go_simp; all_goals (try with_reducible rfl)
      (try simp only [List.getElem_toArray]); (try simp only [List.getElem_cons_succ]); (try simp only [List.getElem_cons_zero]); (try simp only [Act.put]); (try simp only [List.setIfInBounds_toArray]); (try simp only [List.set_cons_succ]); (try simp only [List.set_cons_zero])
      refine wpAnyH_take (i := 1) (v := ?_) rfl (by kernel_rfl) (by kernel_rfl) (by kernel_rfl) (fun _ _ _ h => h) (Or.inl ⟨by kernel_rfl, ?_⟩) hHeld ?_
      rotate_left
      · intro wz hSw; (try dsimp only at hSw); go_simp; all_goals (try with_reducible rfl)
      (try simp only [List.getElem_toArray]); (try simp only [List.getElem_cons_succ]); (try simp only [List.getElem_cons_zero]); (try simp only [Act.put]); (try simp only [List.setIfInBounds_toArray]); (try simp only [List.set_cons_succ]); (try simp only [List.set_cons_zero])
      refine wpAnyH_take (i := 3) (v := ?_) rfl (by kernel_rfl) (by kernel_rfl) (by kernel_rfl) (fun _ _ _ h => h) (Or.inl ⟨by kernel_rfl, ?_⟩) hHeld ?_
      rotate_left
      · intro wz hSw; (try dsimp only at hSw); go_simp; all_goals (try with_reducible rfl)
      (try simp only [List.getElem_toArray]); (try simp only [List.getElem_cons_succ]); (try simp only [List.getElem_cons_zero]); (try simp only [Act.put]); (try simp only [List.setIfInBounds_toArray]); (try simp only [List.set_cons_succ]); (try simp only [List.set_cons_zero])
      refine wpAnyH_take (i := 5) (v := ?_) rfl (by kernel_rfl) (by kernel_rfl) (by kernel_rfl) (fun _ _ _ h => h) (Or.inl ⟨by kernel_rfl, ?_⟩) hHeld ?_
      rotate_left
      · intro wz hSw; (try dsimp only at hSw); go_simp; all_goals (try with_reducible rfl)
      (try simp only [List.getElem_toArray]); (try simp only [List.getElem_cons_succ]); (try simp only [List.getElem_cons_zero]); (try simp only [Act.put]); (try simp only [List.setIfInBounds_toArray]); (try simp only [List.set_cons_succ]); (try simp only [List.set_cons_zero])
      refine wpAnyH_take (i := 6) (v := ?_) rfl (by kernel_rfl) (by kernel_rfl) (by kernel_rfl) (fun _ _ _ h => h) (Or.inl ⟨by kernel_rfl, ?_⟩) hHeld ?_
      rotate_left
      · intro wz hSw; (try dsimp only at hSw); go_simp; all_goals (try with_reducible rfl)
      (try simp only [List.getElem_toArray]); (try simp only [List.getElem_cons_succ]); (try simp only [List.getElem_cons_zero]); (try simp only [Act.put]); (try simp only [List.setIfInBounds_toArray]); (try simp only [List.set_cons_succ]); (try simp only [List.set_cons_zero])
      refine wpAnyH_take (i := 7) (v := ?_) rfl (by kernel_rfl) (by kernel_rfl) (by kernel_rfl) (fun _ _ _ h => h) (Or.inl ⟨by kernel_rfl, ?_⟩) hHeld ?_
      rotate_left
      · intro wz hSw; (try dsimp only at hSw); go_simp; all_goals (try with_reducible rfl)
      (try simp only [List.getElem_toArray]); (try simp only [List.getElem_cons_succ]); (try simp only [List.getElem_cons_zero]); (try simp only [Act.put]); (try simp only [List.setIfInBounds_toArray]); (try simp only [List.set_cons_succ]); (try simp only [List.set_cons_zero])
      refine wpAnyH_take (i := 8) (v := ?_) rfl (by kernel_rfl) (by kernel_rfl) (by kernel_rfl) (fun _ _ _ h => h) (Or.inl ⟨by kernel_rfl, ?_⟩) hHeld ?_
      rotate_left
      · intro wz hSw; (try dsimp only at hSw); go_simp; all_goals (try with_reducible rfl)
      (try simp only [List.getElem_toArray]); (try simp only [List.getElem_cons_succ]); (try simp only [List.getElem_cons_zero]); (try simp only [Act.put]); (try simp only [List.setIfInBounds_toArray]); (try simp only [List.set_cons_succ]); (try simp only [List.set_cons_zero])
      refine wpAnyH_ready (rs := [2]) (by kernel_rfl) (by simp) (AllReadyH.cons rfl (fun Kc hKc => ?_) AllReadyH.nil)
      go_simp
      refine hKc.out _ _ ?_ (fun hHeld => ?_)
      · (try dsimp only)
        refine ⟨?_, ?_, ?_, ?_⟩ <;> (repeat (with_reducible (first | exact c1 | exact c2 | exact d0 | exact d1 | refine cell_dr ?_ | refine cell_stb ?_ ?_ | refine cell_al ?_ | (show _ ≠ _; omega))))
      clear hKc Kc
      (try simp only [List.getElem_toArray]); (try simp only [List.getElem_cons_succ]); (try simp only [List.getElem_cons_zero]); (try simp only [Act.put]); (try simp only [List.setIfInBounds_toArray]); (try simp only [List.set_cons_succ]); (try simp only [List.set_cons_zero])
      refine wpAnyH_ready (rs := [4]) (by kernel_rfl) (by simp) (AllReadyH.cons rfl (fun Kc hKc => ?_) AllReadyH.nil)
      go_simp
      (go_at_call 47; refine (HM.out _ (IsK.below (by exact hK.out) ((Below.refl _ _).drew))).mono ?_; rintro e w2 ⟨rfl, kw2, g2⟩)
      have c1 := cell_g g2 c1 (by omega)
      have c2 := cell_g g2 c2 (by omega)
      have d0 := cell_g g2 d0 hXK
      have d1 := cell_g g2 d1 hXK
      replace hS := hidP (IsR.grown (by exact hS.out) g2 hSK)
      replace hX := hidP (IsR.grown (by exact hX.out) g2 hXK)
      replace hZ := hidP (IsR.grown (by exact hZ.out) g2 hRK)
      replace hB := hidP ((hB.out.drew).trans (below_grownK g2 hwK (by have := hB.out.size; first | (simp; omega) | omega)))
      replace hG := hidP ((g_drewN hG.out 1).trans g2)
      have e0 := hS.out.c0
      have e1 := hS.out.c1
      have i0 := hS.out.f0
      have i1 := hS.out.f1
      clear g2
      go_wp2_with fail
      refine hKc.out _ _ ?_ (fun hHeld => ?_)
      · (try dsimp only)
        refine ⟨?_, ?_, ?_, ?_⟩ <;> (repeat (with_reducible (first | exact c1 | exact c2 | exact d0 | exact d1 | refine cell_dr ?_ | refine cell_stb ?_ ?_ | refine cell_al ?_ | (show _ ≠ _; omega))))
      clear hKc Kc
      (try simp only [List.getElem_toArray]); (try simp only [List.getElem_cons_succ]); (try simp only [List.getElem_cons_zero]); (try simp only [Act.put]); (try simp only [List.setIfInBounds_toArray]); (try simp only [List.set_cons_succ]); (try simp only [List.set_cons_zero])
      refine wpAnyH_ready (rs := [9]) (by kernel_rfl) (by simp) (AllReadyH.cons rfl (fun Kc hKc => ?_) AllReadyH.nil)
      go_simp
      (go_at_call 45; refine (HA.out _ (by exact kw2)).mono ?_; rintro e w3 ⟨rfl, kw3, g2⟩)
      have c1 := cell_g g2 c1 (by omega)
      have c2 := cell_g g2 c2 (by omega)
      have d0 := cell_g g2 d0 hXK
      have d1 := cell_g g2 d1 hXK
      replace hS := hidP (IsR.grown (by exact hS.out) g2 hSK)
      replace hX := hidP (IsR.grown (by exact hX.out) g2 hXK)
      replace hZ := hidP (IsR.grown (by exact hZ.out) g2 hRK)
      replace hB := hidP (hB.out.trans (below_grownK g2 hwK (by have := hB.out.size; first | (simp; omega) | omega)))
      replace hG := hidP (hG.out.trans g2)
      have e0 := hS.out.c0
      have e1 := hS.out.c1
      have i0 := hS.out.f0
      have i1 := hS.out.f1
      clear g2
      go_wp2_with fail
      refine hKc.out _ _ ?_ (fun hHeld => ?_)
      · (try dsimp only)
        refine ⟨?_, ?_, ?_, ?_⟩ <;> (repeat (with_reducible (first | exact c1 | exact c2 | exact d0 | exact d1 | refine cell_dr ?_ | refine cell_stb ?_ ?_ | refine cell_al ?_ | (show _ ≠ _; omega))))
      clear hKc Kc
      (try simp only [List.getElem_toArray]); (try simp only [List.getElem_cons_succ]); (try simp only [List.getElem_cons_zero]); (try simp only [Act.put]); (try simp only [List.setIfInBounds_toArray]); (try simp only [List.set_cons_succ]); (try simp only [List.set_cons_zero])
      refine wpAnyH_ready (rs := [10]) (by kernel_rfl) (by simp) (AllReadyH.cons rfl (fun Kc hKc => ?_) AllReadyH.nil)
      go_simp
      refine hKc.out _ _ ?_ (fun hHeld => ?_)
      · (try dsimp only)
        refine ⟨?_, ?_, ?_, ?_⟩ <;> (repeat (with_reducible (first | exact c1 | exact c2 | exact d0 | exact d1 | refine cell_dr ?_ | refine cell_stb ?_ ?_ | refine cell_al ?_ | (show _ ≠ _; omega))))
      clear hKc Kc
      (try simp only [List.getElem_toArray]); (try simp only [List.getElem_cons_succ]); (try simp only [List.getElem_cons_zero]); (try simp only [Act.put]); (try simp only [List.setIfInBounds_toArray]); (try simp only [List.set_cons_succ]); (try simp only [List.set_cons_zero])
      refine wpAnyH_done (by kernel_rfl) ?_ _
      refine NoPanic.normal ?_
      go_wp2
      go_roundw
      case rel =>
        refine ⟨k + 1, (m : Int) - 1, by omega, by have := HM0.out; omega, by go_num, ?_, ?_, (hX.out.other hXS 0 _).other hXS 1 _, (hZ.out.other hRS 0 _).other hRS 1 _, (hB.out.setCell (p := ⟨Sb, 0, none⟩) hwS _).setCell (p := ⟨Sb, 1, none⟩) hwS _, g_set (g_set hG.out (.inl h0S) 0 _) (.inl h0S) 1 _⟩
        · show IsR _ _ _ _
          rw [HQ.out]
          exact (hS.out.set0 _).set1 _
        · show IsK _ _ _
          rw [HQ.out]
          exact (kw3.other hSK.symm 0 (.int .i64 r1)).other hSK.symm 1 (.int .i64 r2)
      case measure => simp [intOf] <;> omega
    · obtain rfl : k = L - 1 := by omega
      have hqn : q < 0 := by omega
      have c0 := hS.out.c0
      have c1 := hS.out.c1
      have z0 := hZ.out.c0
      have z1 := hZ.out.c1
      have f0 := hZ.out.f0
      have f1 := hZ.out.f1
      go_wp2
      have q0 := ((hZ.out.set0 (F (L - 1)).1.1).set1 (F (L - 1)).1.2).c0
      have q1 := ((hZ.out.set0 (F (L - 1)).1.1).set1 (F (L - 1)).1.2).c1
      exact bodyPost_ret (v := .agg #[.int .i64 (F (L - 1)).1.1, .int .i64 (F (L - 1)).1.2]) (by simp [results, Try.results52, go_sem, q0, q1]) rfl ⟨rfl, (hK.out.other hRK.symm 0 _).other hRK.symm 1 _, g_set (g_set hG.out (.inl h0R) 0 _) (.inl h0R) 1 _⟩
end Go.Proofs.Ythnlcgilmljliaa
