/- The walks of the program's test of shares beside a cover, and of its Variance. -/
import Derived.Test.YtkcdpjcfbpjkeanBudP6
import Derived.Test.YtkcdpjcfbpjkeanBudW6
namespace Go.Proofs.Ytkcdpjcfbpjkean
open Go.RowKit Go.Proofs.Ytkcdpjcfbpjkean.RM

theorem RdT.one {W : World} {b : Nat} {v : Value} {ps : List Fr} (h : W.cell? ⟨b, 0, none⟩ = some v) (hr : RdR W v ps) : RdT W (.slice (some ⟨b, 0, none⟩) 1 1) [ps] := by
  refine ⟨some ⟨b, 0, none⟩, 1, rfl, by unfold maxLen; simp, by simp, by unfold maxLen; omega, ?_⟩
  intro i hi
  obtain rfl : i = 0 := by simpa using hi
  exact ⟨b, 0, v, rfl, h, hr⟩
theorem car_one8 (ps : List Fr) (rows : List (List Fr)) : carC [ps] rows = toldC ps rows := by
  cases e1 : covB rows
  · unfold carC toldC; rw [e1]; simp
  · have hc := covB_out e1
    unfold carC toldC
    rw [e1, Bool.and_true, Bool.true_and]
    cases e2 : allB ps rows.length
    · by_cases hl : ps.length = rows.length
      · have : tabB [ps] 6 = false := by
          cases e3 : tabB [ps] 6
          · rfl
          · obtain ⟨_, h2⟩ := tabB_out e3
            have := (h2 0 (by simp)).2
            have e4 : allB ps rows.length = true := by
              unfold allB
              rw [Bool.and_eq_true, decide_eq_true_eq]
              exact ⟨.inr (by omega), this⟩
            rw [e4] at e2; cases e2
        rw [this]; rfl
      · rw [decide_eq_false (show ¬ (rw' [ps] 0).length = rows.length from hl), Bool.and_false]
    · obtain ⟨h4, h5⟩ := allB_len (by omega) e2
      have hl : ps.length = rows.length := by omega
      rw [decide_eq_true (show (rw' [ps] 0).length = rows.length from hl), Bool.and_true]
      refine tabB_yes ⟨by simp, by simp, by show 1 ≤ ps.length; omega, by show ((ps.length : Nat) : Int) ≤ 6; omega⟩ ?_
      intro k hk
      obtain rfl : k = 0 := by simpa using hk
      exact ⟨rfl, h5⟩

set_option maxRecDepth 100000 in
set_option maxHeartbeats 4000000 in
theorem cby_any (vr vs : Value) (rows S : List (List Fr)) (w : World) (h : RdT w vr rows) (hs : RdT w vs S) :
    Calls Try.prog 40 #[vr, vs] w fun e w' => e = .returned (.bool (carC S rows)) ∧ Below w.heap.size w w' := by
  have HT := hidW8 (fun W (hW : Below w.heap.size w W) => iTab_any vs S W (hs.below hW))
  have HC := hidW8 (fun W (hW : Below w.heap.size w W) => iCov_any vr rows W (h.below hW))
  obtain ⟨q, hq⟩ : ∃ q, q = tabB S 6 := ⟨_, rfl⟩
  rw [← hq] at HT
  have HQ := hidW8 hq
  obtain ⟨p, hp⟩ : ∃ q, q = covB rows := ⟨_, rfl⟩
  rw [← hp] at HC
  have HP := hidW8 hp
  obtain ⟨r, hr⟩ : ∃ r, r = carC S rows := ⟨_, rfl⟩
  have HR : Hid (r = (q && p && decide ((rw' S 0).length = rows.length))) := by show _ = _; rw [hr, hq, hp]; rfl
  rw [← hr]
  obtain ⟨a, c, rfl, h2, _, _, _⟩ := h
  obtain ⟨sa, sc, rfl, s2, _, _, s5⟩ := hs
  have S5 := hidW8 s5
  unfold maxLen at h2 s2
  obtain ⟨L, hL⟩ : ∃ L, L = rows.length := ⟨_, rfl⟩
  rw [← hL] at h2 HC HR ⊢
  clear hq hp hr hL s5
  cases q
  · have HF : Hid (r = false) := HR.out
    go_enter Try.func40, Try.ntmps40
    go_wp2_with fail
    refine (HT.out _ (Below.refl _ _)).mono ?_
    rintro e w1 ⟨rfl, hb⟩
    go_wp2
    go_ret
    exact ⟨ret_b HF.out.symm, hb⟩
  cases p
  · have HF : Hid (r = false) := HR.out
    go_enter Try.func40, Try.ntmps40
    go_wp2_with fail
    refine (HT.out _ (Below.refl _ _)).mono ?_
    rintro e w1 ⟨rfl, hb⟩
    go_wp2_with fail
    refine (HC.out _ hb).mono ?_
    rintro e w2 ⟨rfl, hb2⟩
    have hbb := hb.trans (hb2.mono hb.size)
    clear hb hb2
    go_wp2
    go_ret
    exact ⟨ret_b HF.out.symm, hbb⟩
  obtain ⟨⟨t1, t2, t3, t4⟩, _⟩ := tabB_out HQ.out.symm
  obtain ⟨b, off, u0, rfl, c0, ⟨a0, cc, rfl, m2, _, _, _⟩⟩ := S5.out 0 (by omega)
  rw [Nat.add_zero] at c0
  obtain ⟨M, hM⟩ : ∃ L, L = (rw' S 0).length := ⟨_, rfl⟩
  rw [← hM] at c0 HR t3 t4
  have hS1 : (0 : Int) < (S.length : Int) := by omega
  clear hM m2 t1
  go_enter Try.func40, Try.ntmps40
  go_wp2_with fail
  refine (HT.out _ (Below.refl _ _)).mono ?_
  rintro e w1 ⟨rfl, hb⟩
  go_wp2_with fail
  refine (HC.out _ hb).mono ?_
  rintro e w2 ⟨rfl, hb2⟩
  have hbb := hb.trans (hb2.mono hb.size)
  have c1 := cell_keep hbb c0
  clear hb hb2
  by_cases hne : M = L
  · have hi : ((M : Int) == (L : Int)) = true := by simp [hne]
    have HF : Hid (r = true) := by show _ = _; rw [HR.out, decide_eq_true hne]; rfl
    clear hne
    go_wp2
    go_ret
    exact ⟨ret_b HF.out.symm, hbb⟩
  · have hi : ((M : Int) == (L : Int)) = false := by simp; omega
    have HF : Hid (r = false) := by show _ = _; rw [HR.out, decide_eq_false hne]; rfl
    clear hne
    go_wp2
    go_ret
    exact ⟨ret_b HF.out.symm, hbb⟩

theorem var_tog {ps : List Fr} {rows : List (List Fr)} (h : toldC ps rows = true) : (varA ps rows, varO ps rows) = togP ps rows ps := by
  unfold togP varA varO varS
  rw [h, Bool.true_and]
  cases e : (sumV ps rows ps false rows.length).2 <;> simp

set_option maxRecDepth 100000 in
set_option maxHeartbeats 4000000 in
theorem iVar_any (u v : Value) (ps : List Fr) (rows : List (List Fr)) (w : World) (h0 : RdR w u ps) (h : RdT w v rows) :
    Calls Try.prog 17 #[u, v] w fun e w' => e = .returned (.tuple #[.agg #[.int .i64 (varA ps rows).1, .int .i64 (varA ps rows).2], .bool (varO ps rows)]) ∧ Below w.heap.size w w' := by
  have b0 : ∀ {u : World} (o : Obj), Below u.heap.size u (u.alloc o) := fun o => (Below.refl _ _).alloc (Nat.le_refl _) o
  have HT : Hid (∀ (W : World) (b : Nat), Below w.heap.size w W → W.cell? ⟨b, 0, none⟩ = some u → Calls Try.prog 40 #[v, .slice (some ⟨b, 0, none⟩) 1 1] W fun e w' => e = .returned (.bool (toldC ps rows)) ∧ Below W.heap.size W w') := by
    intro W b hW hc
    have := cby_any v (.slice (some ⟨b, 0, none⟩) 1 1) rows [ps] W (h.below hW) (RdT.one hc (h0.below hW))
    rw [car_one8] at this
    exact this
  obtain ⟨q, hq⟩ : ∃ q, q = toldC ps rows := ⟨_, rfl⟩
  rw [← hq] at HT
  have HQ := hidW8 hq
  have H0 := hidW8 h0
  have H1 := hidW8 h
  obtain ⟨pa, na, ca, rfl⟩ : ∃ a n c, u = .slice a n c := by obtain ⟨a, c, rfl, _⟩ := h0; exact ⟨a, _, c, rfl⟩
  obtain ⟨pt, nt, ct, rfl⟩ : ∃ a n c, v = .slice a n c := by obtain ⟨a, c, rfl, _⟩ := h; exact ⟨a, _, c, rfl⟩
  clear h0 h hq
  cases q
  · have HO : Hid (varO ps rows = false) := by show _ = _; unfold varO; rw [← HQ.out]; rfl
    go_enter Try.func17, Try.ntmps17
    go_wp2_with fail
    obtain ⟨N, hN⟩ : ∃ N, N = w.heap.size := ⟨_, rfl⟩
    obtain ⟨X1, hX1⟩ : ∃ X, X = w.alloc (.cells #[.int .i64 0, .int .i64 0] 32) := ⟨_, rfl⟩
    obtain ⟨X, hX⟩ : ∃ X, X = X1.alloc (.cells #[.slice pa na ca] 35) := ⟨_, rfl⟩
    have e1 : X1.heap.size = N + 1 := by rw [hX1, hN]; simp
    have d1 : X.cell? ⟨N + 1, 0, none⟩ = some (.slice pa na ca) := by rw [hX, ← e1]; simp [go_sem]
    have Z0 : IsR X N 0 0 := by rw [hX, hX1, hN]; exact (IsR.new w 0 0).below (b0 _)
    have B0 : Below w.heap.size w X := by rw [hX, hX1]; exact ((Below.refl _ _).alloc (Nat.le_refl _) _).alloc (by simp) _
    have hwN : w.heap.size ≤ N := by omega
    rw [← hX1, ← hX, ← hN]
    clear hX1 hX hN e1
    refine (HT.out X (N + 1) B0 d1).mono ?_
    rintro e w1 ⟨rfl, hb⟩
    have Z1 := Z0.below hb
    have B1 := B0.trans (hb.mono B0.size)
    have z0 := Z1.c0
    have z1 := Z1.c1
    have z2 := Z1.f0
    have z3 := Z1.f1
    clear hb Z0 B0 d1
    go_wp2
    exact bodyPost_ret (v := .tuple #[.agg #[.int .i64 0, .int .i64 0], .bool false]) (by simp [results, Try.results17, go_sem, z0, z1]) rfl ⟨ret_vb (by rw [varA_no HO.out]) (by rw [varA_no HO.out]) HO.out.symm, (B1.setCell (p := ⟨N, 0, none⟩) hwN _).setCell (p := ⟨N, 1, none⟩) hwN _⟩
  obtain ⟨t1, t2, t3, t4, t5⟩ := toldC_out HQ.out.symm
  have HG := hidW8 (fun W (hW : Below w.heap.size w W) => tog_any (.slice pa na ca) (.slice pt nt ct) (.slice pa na ca) ps ps rows W (H0.out.below hW) (H1.out.below hW) (H0.out.below hW) t1.1 t1.2 (fun k hk => (t4 k hk).1) t2 t2)
  have HV := hidW8 (var_tog HQ.out.symm)
  obtain ⟨s, hs⟩ : ∃ s, s = togP ps rows ps := ⟨_, rfl⟩
  rw [← hs] at HG HV
  obtain ⟨⟨s1, s2⟩, so⟩ := s
  clear hs t1 t2 t3 t4 t5
  go_enter Try.func17, Try.ntmps17
  go_wp2_with fail
  obtain ⟨N, hN⟩ : ∃ N, N = w.heap.size := ⟨_, rfl⟩
  obtain ⟨X1, hX1⟩ : ∃ X, X = w.alloc (.cells #[.int .i64 0, .int .i64 0] 32) := ⟨_, rfl⟩
  obtain ⟨X, hX⟩ : ∃ X, X = X1.alloc (.cells #[.slice pa na ca] 35) := ⟨_, rfl⟩
  have e1 : X1.heap.size = N + 1 := by rw [hX1, hN]; simp
  have d1 : X.cell? ⟨N + 1, 0, none⟩ = some (.slice pa na ca) := by rw [hX, ← e1]; simp [go_sem]
  have Z0 : IsR X N 0 0 := by rw [hX, hX1, hN]; exact (IsR.new w 0 0).below (b0 _)
  have B0 : Below w.heap.size w X := by rw [hX, hX1]; exact ((Below.refl _ _).alloc (Nat.le_refl _) _).alloc (by simp) _
  have hwN : w.heap.size ≤ N := by omega
  rw [← hX1, ← hX, ← hN]
  clear hX1 hX hN e1
  refine (HT.out X (N + 1) B0 d1).mono ?_
  rintro e w1 ⟨rfl, hb⟩
  have Z1 := Z0.below hb
  have B1 := B0.trans (hb.mono B0.size)
  clear hb Z0 B0 d1
  go_wp2_with fail
  refine (HG.out _ B1).mono ?_
  rintro e w2 ⟨rfl, hb⟩
  have Z2 := Z1.below hb
  have B2 := B1.trans (hb.mono B1.size)
  have z0 := Z2.c0
  have z1 := Z2.c1
  have z2 := Z2.f0
  have z3 := Z2.f1
  clear hb Z1 B1
  go_wp2
  have hv1 := congrArg Prod.fst HV.out
  have hv2 := congrArg Prod.snd HV.out
  dsimp only at hv1 hv2
  exact bodyPost_ret (v := .tuple #[.agg #[.int .i64 s1, .int .i64 s2], .bool so]) (by simp [results, Try.results17, go_sem, z0, z1]) rfl ⟨ret_vb (by rw [hv1]) (by rw [hv1]) hv2.symm, (B2.setCell (p := ⟨N, 0, none⟩) hwN _).setCell (p := ⟨N, 1, none⟩) hwN _⟩
end Go.Proofs.Ytkcdpjcfbpjkean
