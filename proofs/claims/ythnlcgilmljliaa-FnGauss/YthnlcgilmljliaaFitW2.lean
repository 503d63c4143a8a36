/- The walks of the model's SpotsOk, l10Curve and l10At. -/
import Derived.Test.YthnlcgilmljliaaFitW1
import Derived.Test.YthnlcgilmljliaaSpW0
import Derived.Deep.RegionHeld3
namespace Go.Proofs.Ythnlcgilmljliaa
open Go.RowKit Go.Proofs.Ythnlcgilmljliaa.RM

/-- spots as told -/
def sptP (ss : List Sp) : Prop := (2 ≤ ss.length ∧ ss.length ≤ 12) ∧ ∀ j, j < ss.length → two (sp ss j).1.1 (sp ss j).1.2 (sp ss j).2.1 (sp ss j).2.2 = true
instance (ss : List Sp) : Decidable (sptP ss) := by unfold sptP; infer_instance
def sptB (ss : List Sp) : Bool := decide (sptP ss)
theorem sptB_len {ss : List Sp} (h : ¬ (2 ≤ ss.length ∧ ss.length ≤ 12)) : sptB ss = false := decide_eq_false fun k => h k.1
theorem sptB_at {ss : List Sp} {k : Nat} (hk : k < ss.length) (h : two (sp ss k).1.1 (sp ss k).1.2 (sp ss k).2.1 (sp ss k).2.2 = false) : sptB ss = false := decide_eq_false fun q => by have := q.2 k hk; rw [h] at this; exact absurd this (by decide)
theorem sptB_out {ss : List Sp} (h : sptB ss = true) : sptP ss := of_decide_eq_true h
def crvB (cs : List Fr) : Bool := decide (1 ≤ cs.length ∧ cs.length ≤ 4) && allOk cs
theorem crvB_out {cs : List Fr} (h : crvB cs = true) : (1 ≤ cs.length ∧ cs.length ≤ 4) ∧ allOk cs = true := by
  unfold crvB at h; rw [Bool.and_eq_true, decide_eq_true_eq] at h; exact h
theorem crvB_no {cs : List Fr} (h : ¬ (1 ≤ cs.length ∧ cs.length ≤ 4)) : crvB cs = false := by unfold crvB; rw [decide_eq_false h]; rfl
theorem crvB_yes {cs : List Fr} (h : 1 ≤ cs.length ∧ cs.length ≤ 4) : crvB cs = allOk cs := by unfold crvB; rw [decide_eq_true h]; rfl
theorem ret_b10 {a b : Bool} (h : a = b) : Ending.returned (.bool a) = .returned (.bool b) := by rw [h]

set_option maxRecDepth 100000 in
set_option maxHeartbeats 1000000 in
theorem sCrv_any (v : Value) (cs : List Fr) (w : World) (h : RdR w v cs) :
    Calls Try.prog 50 #[v] w fun e w' => e = .returned (.bool (crvB cs)) ∧ Below w.heap.size w w' := by
  have HA := hidP (fun W (hW : Below w.heap.size w W) => sAll_any v cs cs.length W (h.below hW))
  have HE : Hid (allB cs cs.length = allOk cs) := by show _ = _; unfold allB; rw [decide_eq_true (Or.inr rfl), Bool.true_and]
  rw [HE.out] at HA
  obtain ⟨a, c, rfl, h2, h3, h4, h5⟩ := h
  unfold maxLen at h2
  clear h5 h3 h4
  obtain ⟨L, hL⟩ : ∃ L, L = cs.length := ⟨_, rfl⟩
  have HL := hidP hL
  rw [← hL] at h2 HA ⊢
  clear hL
  by_cases n0 : L < 1
  · have HF : Hid (crvB cs = false) := crvB_no (by have := HL.out; omega)
    go_enter Try.func50, Try.ntmps50
    go_wp2
    go_ret
    exact ⟨ret_b10 HF.out.symm, Below.refl _ _⟩
  by_cases n1 : 4 < L
  · have HF : Hid (crvB cs = false) := crvB_no (by have := HL.out; omega)
    go_enter Try.func50, Try.ntmps50
    go_wp2
    go_ret
    exact ⟨ret_b10 HF.out.symm, Below.refl _ _⟩
  have HF : Hid (crvB cs = allOk cs) := crvB_yes (by have := HL.out; omega)
  obtain ⟨q, hq⟩ : ∃ q, q = allOk cs := ⟨_, rfl⟩
  have HQ := hidP hq
  rw [← hq] at HA
  clear hq
  go_enter Try.func50, Try.ntmps50
  go_wp2_with fail
  refine (HA.out _ (Below.refl _ _)).mono ?_
  rintro e w1 ⟨rfl, hb⟩
  cases q
  · go_wp2
    go_ret
    exact ⟨ret_b10 (by rw [HF.out, ← HQ.out]), hb⟩
  · go_wp2
    go_ret
    exact ⟨ret_b10 (by rw [HF.out, ← HQ.out]), hb⟩

set_option maxRecDepth 100000 in
set_option maxHeartbeats 2000000 in
theorem sSpo_any (v : Value) (ss : List Sp) (w : World) (h : RdS w v ss) :
    Calls Try.prog 15 #[v] w fun e w' => e = .returned (.bool (sptB ss)) ∧ Below w.heap.size w w' := by
  obtain ⟨a, c, rfl, h2, h3, h4, h5⟩ := h
  have H5 : Hid (∀ j, j < ss.length → ∃ b off, a = some ⟨b, off, none⟩ ∧ w.cell? ⟨b, off + j * 4, none⟩ = some (.int .i64 (sp ss j).1.1) ∧ w.cell? ⟨b, off + j * 4 + 1, none⟩ = some (.int .i64 (sp ss j).1.2) ∧ w.cell? ⟨b, off + j * 4 + 2, none⟩ = some (.int .i64 (sp ss j).2.1) ∧ w.cell? ⟨b, off + j * 4 + 3, none⟩ = some (.int .i64 (sp ss j).2.2)) := h5
  unfold maxLen at h2
  obtain ⟨L, hL⟩ : ∃ L, L = ss.length := ⟨_, rfl⟩
  have HL := hidP hL
  rw [← hL] at h2 H5 ⊢
  clear h5 h3 h4 hL
  by_cases n0 : L < 2
  · have HF : Hid (sptB ss = false) := sptB_len (by have := HL.out; omega)
    go_enter Try.func15, Try.ntmps15
    go_wp2
    go_ret
    exact ⟨ret_b10 HF.out.symm, Below.refl _ _⟩
  by_cases n1 : 12 < L
  · have HF : Hid (sptB ss = false) := sptB_len (by have := HL.out; omega)
    go_enter Try.func15, Try.ntmps15
    go_wp2
    go_ret
    exact ⟨ret_b10 HF.out.symm, Below.refl _ _⟩
  go_enter Try.func15, Try.ntmps15
  go_wp2
  go_loopw [3] (fun i wr => ∃ k : Nat, k ≤ L ∧ i = .int .i64 k ∧ Hid (Below w.heap.size w wr) ∧ Hid (∀ j, j < k → two (sp ss j).1.1 (sp ss j).1.2 (sp ss j).2.1 (sp ss j).2.2 = true)) (fun i _ => L - (intOf i).toNat)
  case atStart => exact ⟨0, Nat.zero_le _, rfl, Below.refl _ _, fun j hj => absurd hj (Nat.not_lt_zero _)⟩
  case round =>
    obtain ⟨k, hk, rfl, hB, HP⟩ := hrel
    by_cases hlt : k < L
    · obtain ⟨b, off, rfl, c1, c2, c3, c4⟩ := H5.out k hlt
      replace c1 := cell_keep hB.out c1
      replace c2 := cell_keep hB.out c2
      replace c3 := cell_keep hB.out c3
      replace c4 := cell_keep hB.out c4
      obtain ⟨p, hp⟩ : ∃ p, p = sp ss k := ⟨_, rfl⟩
      have HPQ := hidP hp
      rw [← hp] at c1 c2 c3 c4
      obtain ⟨⟨x1, x2⟩, y1, y2⟩ := p
      dsimp only at c1 c2 c3 c4
      clear hp
      have HT := hidP (fun W => sTwo_any x1 x2 y1 y2 W)
      obtain ⟨q, hq⟩ : ∃ q, q = two x1 x2 y1 y2 := ⟨_, rfl⟩
      have HQ := hidP hq
      rw [← hq] at HT
      clear hq
      cases q
      · have HF : Hid (sptB ss = false) := sptB_at (k := k) (by rw [← HL.out]; exact hlt) (by rw [← HPQ.out]; exact HQ.out.symm)
        go_upto_region 6 with fail
        go_region_with (go_at_call 49; refine (HT.out _).mono ?_; rintro e w1 ⟨rfl, hb⟩; have B1 : Below w.heap.size w w1 := Below.trans (by first | exact hB.out | exact hB.out.drew | exact below_drewN hB.out _) (hb.mono (by simpa using hB.out.size)))
        all_goals go_wp2
        all_goals go_ret
        all_goals exact ⟨ret_b10 HF.out.symm, B1⟩
      · go_upto_region 6 with fail
        go_region_with (go_at_call 49; refine (HT.out _).mono ?_; rintro e w1 ⟨rfl, hb⟩; have B1 : Below w.heap.size w w1 := Below.trans (by first | exact hB.out | exact hB.out.drew | exact below_drewN hB.out _) (hb.mono (by simpa using hB.out.size)))
        all_goals go_wp2
        all_goals
          go_roundw
          case rel =>
            refine ⟨k + 1, by omega, by go_num, B1, fun j hj => ?_⟩
            by_cases e : j = k
            · subst e
              rw [← HPQ.out]
              exact HQ.out.symm
            · exact HP.out j (by omega)
          case measure => simp [intOf]; omega
    · obtain rfl : k = L := by omega
      have HF : Hid (sptB ss = true) := decide_eq_true ⟨by have := HL.out; omega, fun j hj => HP.out j (by rw [HL.out]; exact hj)⟩
      go_wp2
      go_ret
      exact ⟨ret_b10 HF.out.symm, hB.out⟩

/-- one step of the curve, told -/
theorem hrStep (K : Nat) (so : Bool) (s x c p : Fr) (r : Fr × Bool) (hp : p = p1V s x) (hr : r = hrS (s, so) x c) :
    (∀ W : World, IsK W K so → Calls Try.prog 47 #[.pointer (some ⟨K, 0, none⟩), .agg #[.int .i64 s.1, .int .i64 s.2], .agg #[.int .i64 x.1, .int .i64 x.2]] W fun e w' => e = .returned (.agg #[.int .i64 p.1, .int .i64 p.2]) ∧ IsK w' K (so || !mulK s x) ∧ W.grownBy w' (some K)) ∧
    (∀ W : World, IsK W K (so || !mulK s x) → Calls Try.prog 45 #[.pointer (some ⟨K, 0, none⟩), .agg #[.int .i64 p.1, .int .i64 p.2], .agg #[.int .i64 c.1, .int .i64 c.2]] W fun e w' => e = .returned (.agg #[.int .i64 r.1.1, .int .i64 r.1.2]) ∧ IsK w' K r.2 ∧ W.grownBy w' (some K)) := by
  subst hp
  subst hr
  exact ⟨fun W hW => kMul9 K so s x W hW, fun W hW => kAdd K _ _ _ _ _ W hW⟩
end Go.Proofs.Ythnlcgilmljliaa
