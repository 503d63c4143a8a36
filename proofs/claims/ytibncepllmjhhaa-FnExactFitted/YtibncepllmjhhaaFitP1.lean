/- The walks of the program's SpotsOk and curveOk. -/
import Derived.Test.YtibncepllmjhhaaFitW2
import Derived.Test.YtibncepllmjhhaaTabW3
namespace Go.Proofs.Ytibncepllmjhhaa
open Go.RowKit Go.Proofs.Ytibncepllmjhhaa.RM

theorem two_dec (a b c d : Int) : two a b c d = (okB a b && okB c d) := rfl

set_option maxRecDepth 100000 in
set_option maxHeartbeats 2000000 in
theorem iSpo_any (v : Value) (ss : List Sp) (w : World) (h : RdS w v ss) :
    Calls Try.prog 11 #[v] w fun e w' => e = .returned (.bool (sptB ss)) ∧ Below w.heap.size w w' := by
  obtain ⟨a, c, rfl, h2, h3, h4, h5⟩ := h
  have H5 : Hid (∀ j, j < ss.length → ∃ b off, a = some ⟨b, off, none⟩ ∧ w.cell? ⟨b, off + j * 4, none⟩ = some (.int .i64 (sp ss j).1.1) ∧ w.cell? ⟨b, off + j * 4 + 1, none⟩ = some (.int .i64 (sp ss j).1.2) ∧ w.cell? ⟨b, off + j * 4 + 2, none⟩ = some (.int .i64 (sp ss j).2.1) ∧ w.cell? ⟨b, off + j * 4 + 3, none⟩ = some (.int .i64 (sp ss j).2.2)) := h5
  unfold maxLen at h2
  obtain ⟨L, hL⟩ : ∃ L, L = ss.length := ⟨_, rfl⟩
  have HL := hidP hL
  rw [← hL] at h2 H5 ⊢
  clear h5 h3 h4 hL
  by_cases n0 : L < 2
  · have HF : Hid (sptB ss = false) := sptB_len (by have := HL.out; omega)
    go_enter Try.func11, Try.ntmps11
    go_wp2
    go_ret
    exact ⟨ret_b10 HF.out.symm, Below.refl _ _⟩
  by_cases n1 : 12 < L
  · have HF : Hid (sptB ss = false) := sptB_len (by have := HL.out; omega)
    go_enter Try.func11, Try.ntmps11
    go_wp2
    go_ret
    exact ⟨ret_b10 HF.out.symm, Below.refl _ _⟩
  go_enter Try.func11, Try.ntmps11
  go_wp2
  go_loopw [15] (fun i wr => ∃ k : Nat, k ≤ L ∧ i = .int .i64 k ∧ Hid (Below w.heap.size w wr) ∧ Hid (∀ j, j < k → two (sp ss j).1.1 (sp ss j).1.2 (sp ss j).2.1 (sp ss j).2.2 = true)) (fun i _ => L - (intOf i).toNat)
  case atStart => exact ⟨0, Nat.zero_le _, rfl, Below.refl _ _, fun j hj => absurd hj (Nat.not_lt_zero _)⟩
  case round =>
    obtain ⟨k, hk, rfl, hB, HP⟩ := hrel
    by_cases hlt : k < L
    · obtain ⟨b, off, rfl, c1, c2, c3, c4⟩ := H5.out k hlt
      replace c1 := cell_keep hB.out c1
      replace c2 := cell_keep hB.out c2
      replace c3 := cell_keep hB.out c3
      replace c4 := cell_keep hB.out c4
      obtain ⟨p, hp⟩ : ∃ p, p = sp ss k := ⟨_, rfl⟩
      have HPQ := hidP hp
      rw [← hp] at c1 c2 c3 c4
      obtain ⟨⟨x1, x2⟩, y1, y2⟩ := p
      dsimp only at c1 c2 c3 c4
      clear hp
      have HX := hidP (fun W => right_any x1 x2 W)
      have HY := hidP (fun W => right_any y1 y2 W)
      have HK : Hid (two (sp ss k).1.1 (sp ss k).1.2 (sp ss k).2.1 (sp ss k).2.2 = (okB x1 x2 && okB y1 y2)) := by show _ = _; rw [← HPQ.out]; rfl
      obtain ⟨q1, hq1⟩ : ∃ q, q = okB x1 x2 := ⟨_, rfl⟩
      obtain ⟨q2, hq2⟩ : ∃ q, q = okB y1 y2 := ⟨_, rfl⟩
      rw [← hq1] at HX HK
      rw [← hq2] at HY HK
      clear hq1 hq2
      go_upto_region 6 with fail
      obtain ⟨N, hN⟩ : ∃ N, N = wr.heap.size := ⟨_, rfl⟩
      obtain ⟨X, hX⟩ : ∃ X, X = wr.alloc (.cells #[.int .i64 x1, .int .i64 x2, .int .i64 y1, .int .i64 y2] 51) := ⟨_, rfl⟩
      have hb : Below wr.heap.size wr X := by rw [hX]; exact b0S _ _
      have p1 : X.cell? ⟨N, 0, none⟩ = some (.int .i64 x1) := by rw [hX, hN]; simp [go_sem]
      have p2 : X.cell? ⟨N, 1, none⟩ = some (.int .i64 x2) := by rw [hX, hN]; simp [go_sem]
      have p3 : X.cell? ⟨N, 2, none⟩ = some (.int .i64 y1) := by rw [hX, hN]; simp [go_sem]
      have p4 : X.cell? ⟨N, 3, none⟩ = some (.int .i64 y2) := by rw [hX, hN]; simp [go_sem]
      have BX := hidP (hB.out.trans (hb.mono hB.out.size))
      rw [← hX, ← hN]
      clear hX hN hb c1 c2 c3 c4 hB
      go_wp2_with fail
      refine (HX.out _).mono ?_
      rintro e w1 ⟨rfl, hb⟩
      replace BX := hidP (BX.out.trans (hb.mono BX.out.size))
      replace p3 := cell_keep hb p3
      replace p4 := cell_keep hb p4
      clear hb p1 p2 HX
      cases q1
      · have HF : Hid (sptB ss = false) := sptB_at (k := k) (by rw [← HL.out]; exact hlt) (by rw [HK.out]; rfl)
        go_wp2
        go_ret
        exact ⟨ret_b10 HF.out.symm, BX.out⟩
      · go_wp2_with fail
        refine (HY.out _).mono ?_
        rintro e w2 ⟨rfl, hb⟩
        replace BX := hidP (BX.out.trans (hb.mono BX.out.size))
        clear hb p3 p4 HY
        cases q2
        · have HF : Hid (sptB ss = false) := sptB_at (k := k) (by rw [← HL.out]; exact hlt) (by rw [HK.out]; rfl)
          go_wp2
          go_ret
          exact ⟨ret_b10 HF.out.symm, BX.out⟩
        · go_wp2
          go_roundw
          case rel =>
            refine ⟨k + 1, by omega, by go_num, BX.out, fun j hj => ?_⟩
            by_cases e : j = k
            · subst e
              rw [HK.out]
              rfl
            · exact HP.out j (by omega)
          case measure => simp [intOf]; omega
    · obtain rfl : k = L := by omega
      have HF : Hid (sptB ss = true) := decide_eq_true ⟨by have := HL.out; omega, fun j hj => HP.out j (by rw [HL.out]; exact hj)⟩
      go_wp2
      go_ret
      exact ⟨ret_b10 HF.out.symm, hB.out⟩

theorem crv_row {cs : List Fr} (h : cs.length ≤ 4) : crvB cs = rowB cs := by
  unfold crvB rowB
  by_cases h1 : 1 ≤ cs.length
  · rw [decide_eq_true (show 1 ≤ cs.length ∧ cs.length ≤ 4 from ⟨h1, h⟩), decide_eq_true (show 1 ≤ cs.length ∧ cs.length ≤ 6 by omega)]
  · rw [decide_eq_false (show ¬ (1 ≤ cs.length ∧ cs.length ≤ 4) by omega), decide_eq_false (show ¬ (1 ≤ cs.length ∧ cs.length ≤ 6) by omega)]
set_option maxRecDepth 100000 in
set_option maxHeartbeats 2000000 in
theorem iCrv_any (v : Value) (cs : List Fr) (w : World) (h : RdR w v cs) :
    Calls Try.prog 36 #[v] w fun e w' => e = .returned (.bool (crvB cs)) ∧ Below w.heap.size w w' := by
  have HR := hidP (iRow_any v cs w h)
  obtain ⟨a, c, rfl, h2, h3, h4, h5⟩ := h
  unfold maxLen at h2
  clear h5 h3 h4
  obtain ⟨L, hL⟩ : ∃ L, L = cs.length := ⟨_, rfl⟩
  have HL := hidP hL
  rw [← hL] at h2 HR ⊢
  clear hL
  go_enter Try.func36, Try.ntmps36
  by_cases n1 : 4 < L
  · have HF : Hid (crvB cs = false) := crvB_no (by have := HL.out; omega)
    go_wp2
    go_ret
    exact ⟨ret_b10 HF.out.symm, Below.refl _ _⟩
  · have HF : Hid (crvB cs = rowB cs) := crv_row (by have := HL.out; omega)
    go_wp2_with fail
    refine HR.out.mono ?_
    rintro e w1 ⟨rfl, hb⟩
    go_wp2
    go_ret
    exact ⟨ret_b10 HF.out.symm, hb⟩
end Go.Proofs.Ytibncepllmjhhaa
