/- The walks of the program's test of a cover and of shares beside it, and its Variance. -/
import Derived.Test.YtkcdpjcfbpjkeanBudP5
namespace Go.Proofs.Ytkcdpjcfbpjkean
open Go.RowKit Go.Proofs.Ytkcdpjcfbpjkean.RM

theorem covB_tab {rows : List (List Fr)} (h : covB rows = true) : tabB rows 6 = true ∧ (rw' rows 0).length = rows.length := by
  obtain ⟨h1, h2, _⟩ := covB_out h
  have h0 := (h2 0 (by omega)).1
  exact ⟨tabB_yes ⟨h1.1, h1.2, by omega, by omega⟩ (fun k hk => ⟨by rw [(h2 k hk).1, h0], (h2 k hk).2⟩), h0⟩
theorem cov_no1 {rows : List (List Fr)} (h : tabB rows 6 = false) : covB rows = false := by
  cases e : covB rows
  · rfl
  · rw [(covB_tab e).1] at h; cases h
theorem cov_no2 {rows : List (List Fr)} (h : ¬ (rw' rows 0).length = rows.length) : covB rows = false := by
  cases e : covB rows
  · rfl
  · exact absurd (covB_tab e).2 h
theorem cov_no3 {rows : List (List Fr)} {i k : Nat} (hi : i < rows.length) (hk : k < rows.length) (h : ¬ fr (rw' rows i) k = fr (rw' rows k) i) : covB rows = false := by
  cases e : covB rows
  · rfl
  · obtain ⟨_, _, h3⟩ := covB_out e
    rcases Nat.lt_trichotomy k i with h4 | rfl | h4
    · exact absurd (h3 i hi k h4) h
    · exact absurd rfl h
    · exact absurd (h3 k hk i h4).symm h
theorem cov_yes {rows : List (List Fr)} (h1 : tabB rows 6 = true) (h2 : (rw' rows 0).length = rows.length) (h3 : ∀ i, i < rows.length → ∀ k, k < rows.length → fr (rw' rows i) k = fr (rw' rows k) i) : covB rows = true := by
  obtain ⟨⟨a1, a2, a3, a4⟩, a5⟩ := tabB_out h1
  unfold covB
  rw [Bool.and_eq_true, decide_eq_true_eq]
  refine ⟨sqB_yes ⟨by omega, by omega, rfl⟩ (fun k hk => ?_), fun i hi k hk => h3 i hi k (by omega)⟩
  unfold allB
  rw [Bool.and_eq_true, decide_eq_true_eq]
  exact ⟨.inr (by have := (a5 k hk).1; omega), (a5 k hk).2⟩

set_option maxRecDepth 100000 in
set_option maxHeartbeats 4000000 in
theorem iCov_any (v : Value) (rows : List (List Fr)) (w : World) (h : RdT w v rows) :
    Calls Try.prog 12 #[v] w fun e w' => e = .returned (.bool (covB rows)) ∧ Below w.heap.size w w' := by
  have b0 : ∀ {u : World} (o : Obj), Below u.heap.size u (u.alloc o) := fun o => (Below.refl _ _).alloc (Nat.le_refl _) o
  have HT := hidW8 (fun W (hW : Below w.heap.size w W) => iTab_any v rows W (h.below hW))
  obtain ⟨q, hq⟩ : ∃ q, q = tabB rows 6 := ⟨_, rfl⟩
  rw [← hq] at HT
  have HQ := hidW8 hq
  obtain ⟨r, hr⟩ : ∃ r, r = covB rows := ⟨_, rfl⟩
  have HRR := hidW8 hr
  rw [← hr]
  obtain ⟨a, c, rfl, h2, h3, h4, h5⟩ := h
  have H5 : Hid (∀ i, i < rows.length → ∃ b off u, a = some ⟨b, off, none⟩ ∧ w.cell? ⟨b, off + i, none⟩ = some u ∧ RdR w u (rw' rows i)) := h5
  unfold maxLen at h2
  obtain ⟨L, hL⟩ : ∃ L, L = rows.length := ⟨_, rfl⟩
  have HL := hidW8 hL
  rw [← hL] at h2 HT ⊢
  clear h5 h3 h4 hq hr hL
  cases q
  · have HF : Hid (r = false) := HRR.out.trans (cov_no1 HQ.out.symm)
    go_enter Try.func12, Try.ntmps12
    go_wp2_with fail
    refine (HT.out _ (Below.refl _ _)).mono ?_
    rintro e w1 ⟨rfl, hb⟩
    go_wp2
    go_ret
    exact ⟨ret_b HF.out.symm, hb⟩
  obtain ⟨⟨t1, t2, t3, t4⟩, t5⟩ := tabB_out HQ.out.symm
  obtain ⟨b, off, u0, rfl, c0, ⟨a0, cc, rfl, m2, _, _, _⟩⟩ := H5.out 0 (by omega)
  rw [Nat.add_zero] at c0
  unfold maxLen at m2
  obtain ⟨M, hM⟩ : ∃ L, L = (rw' rows 0).length := ⟨_, rfl⟩
  have HM := hidW8 hM
  rw [← hM] at c0 m2 t3 t4
  have HE : Hid (∀ k, k < rows.length → (rw' rows k).length = M) := fun k hk => by rw [(t5 k hk).1, hM]
  have hL6 : L ≤ 6 := by have := HL.out; omega
  have hL1 : (0 : Int) < (L : Int) := by have := HL.out; omega
  clear hM t1 t2 t5
  by_cases hne : M = L
  case neg =>
    have HF : Hid (r = false) := HRR.out.trans (cov_no2 (by rw [← HM.out, ← HL.out]; exact hne))
    have hne' : ¬ (M : Int) = (L : Int) := by omega
    have hbn : ((M : Int) != (L : Int)) = true := by simp [hne']
    go_enter Try.func12, Try.ntmps12
    go_wp2_with fail
    refine (HT.out _ (Below.refl _ _)).mono ?_
    rintro e w1 ⟨rfl, hb⟩
    have c1 := cell_keep hb c0
    go_wp2
    go_ret
    exact ⟨ret_b HF.out.symm, hb⟩
  subst hne
  have hbn : ((M : Int) != (M : Int)) = false := by simp
  go_enter Try.func12, Try.ntmps12
  go_wp2_with fail
  refine (HT.out _ (Below.refl _ _)).mono ?_
  rintro e w1 ⟨rfl, hb⟩
  have c1 := cell_keep hb c0
  clear HT
  go_wp2
  go_loopw [21] (fun i wr => ∃ k : Nat, k ≤ M ∧ i = .int .i64 k ∧ Hid (Below w.heap.size w wr) ∧ Hid (∀ i, i < k → ∀ j, j < M → fr (rw' rows i) j = fr (rw' rows j) i)) (fun i _ => M - (intOf i).toNat)
  case atStart => exact ⟨0, Nat.zero_le _, rfl, hb, fun j hj => absurd hj (Nat.not_lt_zero _)⟩
  case round =>
    clear hb c1
    obtain ⟨k, hk, rfl, hB, HP⟩ := hrel
    by_cases hlt : k < M
    · obtain ⟨b', off', u, e, c1, r1, rc, rfl, n2, _, _, r5⟩ := H5.out k (by rw [← HL.out]; exact hlt)
      cases e
      rw [HE.out k (by rw [← HL.out]; exact hlt)] at c1
      have CK : Hid (w.cell? ⟨b, off + k, none⟩ = some (.slice r1 M rc)) := c1
      have R5 := hidW8 r5
      replace c1 := cell_keep hB.out c1
      clear n2 r5
      go_wp2
      go_loopw [28] (fun i wr => ∃ j : Nat, j ≤ M ∧ i = .int .i64 j ∧ Hid (Below w.heap.size w wr) ∧ Hid (∀ m, m < j → fr (rw' rows k) m = fr (rw' rows m) k)) (fun i _ => M - (intOf i).toNat)
      case atStart => exact ⟨0, Nat.zero_le _, rfl, hB.out, fun j hj => absurd hj (Nat.not_lt_zero _)⟩
      case round =>
        clear hB c1
        obtain ⟨j, hj, rfl, hB, HJ⟩ := hrel
        by_cases hlj : j < M
        · obtain ⟨b', off', u', e, c2, a2, d2, rfl, -, -, -, r2⟩ := H5.out j (by rw [← HL.out]; exact hlj)
          cases e
          obtain ⟨b1, o1, rfl, x1, x2⟩ := R5.out j (by rw [HE.out k (by rw [← HL.out]; exact hlt)]; exact hlj)
          obtain ⟨b2, o2, rfl, y1, y2⟩ := r2 k (by rw [HE.out j (by rw [← HL.out]; exact hlj)]; exact hlt)
          rw [HE.out j (by rw [← HL.out]; exact hlj)] at c2
          have hsz := hB.out.size
          replace x1 := cell_keep hB.out x1
          replace x2 := cell_keep hB.out x2
          obtain ⟨p, hp⟩ : ∃ p, p = fr (rw' rows k) j := ⟨_, rfl⟩
          obtain ⟨t, ht⟩ : ∃ p, p = fr (rw' rows j) k := ⟨_, rfl⟩
          rw [← hp] at x1 x2
          rw [← ht] at y1 y2
          have HPT := hidW8 (And.intro hp ht)
          obtain ⟨p1, p2⟩ := p
          obtain ⟨s1, s2⟩ := t
          simp only at x1 x2 y1 y2
          have c2w := cell_keep hB.out c2
          have y1w := cell_keep hB.out y1
          have y2w := cell_keep hB.out y2
          clear hp ht r2
          have hlj2 : (j : Int) < (M : Int) := by omega
          have hlk2 : (k : Int) < (M : Int) := by omega
          go_upto_region 9 with fail
          obtain ⟨N, hN⟩ : ∃ N, N = wr.heap.size := ⟨_, rfl⟩
          obtain ⟨X, hX⟩ : ∃ X, X = wr.alloc (.cells #[.int .i64 p1, .int .i64 p2] 32) := ⟨_, rfl⟩
          have hbx : Below wr.heap.size wr X := by rw [hX]; exact b0 _
          have Z0 : IsR X N p1 p2 := by rw [hX, hN]; exact IsR.new wr p1 p2
          have z0 := Z0.c0
          have z1 := Z0.c1
          replace c2w := cell_keep hbx c2w
          replace y1w := cell_keep hbx y1w
          replace y2w := cell_keep hbx y2w
          have hBX : Hid (Below w.heap.size w X) := hB.out.trans (hbx.mono hsz)
          rw [← hX, ← hN]
          clear hX hN hbx c2 y1 y2 x1 x2 hB hsz Z0
          by_cases he : (p1, p2) = (s1, s2)
          · cases he
            have e1 : (p1 != p1) = false := by simp
            have e2 : (p2 != p2) = false := by simp
            have HJ' : Hid (∀ m, m < j + 1 → fr (rw' rows k) m = fr (rw' rows m) k) := by
              intro m hm
              by_cases e : m = j
              · subst e; rw [← HPT.out.1, ← HPT.out.2]
              · exact HJ.out m (by omega)
            go_region
            all_goals go_wp2
            all_goals
              go_roundw
              case rel => exact ⟨j + 1, by omega, by go_num, hBX.out.drew, HJ'⟩
              case measure => simp [intOf]; omega
          · have HF : Hid (r = false) := HRR.out.trans (cov_no3 (i := k) (k := j) (by rw [← HL.out]; exact hlt) (by rw [← HL.out]; exact hlj) (by rw [← HPT.out.1, ← HPT.out.2]; exact he))
            by_cases e : p1 = s1
            · subst e
              have n3 : ¬ p2 = s2 := fun h => he (by rw [h])
              have n4 : (p2 != s2) = true := by simp [n3]
              have n5 : (p2 == s2) = false := by simp [n3]
              have n6 : (p1 != p1) = false := by simp
              have n7 : (p1 == p1) = true := by simp
              clear he
              go_quiet (fail)
              go_wp2
              go_ret
              exact ⟨ret_b HF.out.symm, below_drewN hBX.out _⟩
            · have n4 : (p1 != s1) = true := by simp [e]
              have n5 : (p1 == s1) = false := by simp [e]
              clear he
              go_quiet (fail)
              go_wp2
              go_ret
              exact ⟨ret_b HF.out.symm, below_drewN hBX.out _⟩
        · obtain rfl : j = M := by omega
          have HP' : Hid (∀ i, i < k + 1 → ∀ m, m < j → fr (rw' rows i) m = fr (rw' rows m) i) := by
            intro i hi m hm
            by_cases e : i = k
            · subst e; exact HJ.out m hm
            · exact HP.out i (by omega) m hm
          go_wp2
          go_roundw
          case rel => exact ⟨k + 1, by omega, by go_num, hB.out, HP'⟩
          case measure => simp [intOf]; omega
    · obtain rfl : k = M := by omega
      have HF : Hid (r = true) := HRR.out.trans (cov_yes HQ.out.symm (by rw [← HM.out, ← HL.out]) (fun i hi j hj => HP.out i (by have := HL.out; omega) j (by have := HL.out; omega)))
      go_wp2
      go_ret
      exact ⟨ret_b HF.out.symm, hB.out⟩
end Go.Proofs.Ytkcdpjcfbpjkean
