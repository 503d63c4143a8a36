/- The walks of the program's test of a table, and of two tables held against each other. -/
import Derived.Test.YthnlcgilmljliaaTabW2
namespace Go.Proofs.Ythnlcgilmljliaa
open Go.RowKit Go.Proofs.Ythnlcgilmljliaa.RM

set_option maxRecDepth 100000 in
set_option maxHeartbeats 1000000 in
theorem iRow_any (v : Value) (ps : List Fr) (w : World) (h : RdR w v ps) :
    Calls Try.prog 38 #[v] w fun e w' => e = .returned (.bool (rowB ps)) ∧ Below w.heap.size w w' := by
  obtain ⟨a, c, rfl, h2, h3, h4, h5⟩ := h
  have H5 : Hid (∀ j, j < ps.length → ∃ b off, a = some ⟨b, off, none⟩ ∧ w.cell? ⟨b, off + j * 2, none⟩ = some (.int .i64 (fr ps j).1) ∧ w.cell? ⟨b, off + j * 2 + 1, none⟩ = some (.int .i64 (fr ps j).2)) := h5
  unfold maxLen at h2
  clear h5 h3 h4
  by_cases hn : 1 ≤ ps.length ∧ ps.length ≤ 6
  · have HB : Hid (rowB ps = allOk ps) := by show _ = _; unfold rowB; rw [decide_eq_true hn, Bool.true_and]
    obtain ⟨n0, n1⟩ := hn
    go_enter Try.func38, Try.ntmps38
    go_wp2
    go_loopw [15] (fun i wr => ∃ k : Nat, k ≤ ps.length ∧ i = .int .i64 k ∧ Hid (Below w.heap.size w wr) ∧ Hid (∀ j, j < k → okB (fr ps j).1 (fr ps j).2 = true)) (fun i _ => ps.length - (intOf i).toNat)
    case atStart => exact ⟨0, Nat.zero_le _, rfl, Below.refl _ _, fun j hj => absurd hj (Nat.not_lt_zero _)⟩
    case round =>
      obtain ⟨k, hk, rfl, hB, HP⟩ := hrel
      by_cases hlt : k < ps.length
      · obtain ⟨b, off, rfl, c1, c2⟩ := H5.out k hlt
        have hs := World.block_lt_of_cell? w _ c1
        replace c1 := (hB.out.cell (p := ⟨b, off + k * 2, none⟩) hs).trans c1
        replace c2 := (hB.out.cell (p := ⟨b, off + k * 2 + 1, none⟩) hs).trans c2
        obtain ⟨p, hp⟩ : ∃ p, p = fr ps k := ⟨_, rfl⟩
        have HQ : Hid (p = fr ps k) := hp
        rw [← hp] at c1 c2
        obtain ⟨x, y⟩ := p
        dsimp only at c1 c2
        have hsz := hB.out.size
        clear hp hs
        by_cases ho : okB x y = true
        · go_wp2_with (go_at_call 40; refine (right_any x y _).mono ?_; rintro e w2 ⟨rfl, hb2⟩; rw [ho]; have hB2 := (hB.out.alloc hsz (.cells #[.int .i64 x, .int .i64 y] 33)).trans (hb2.mono (by simp; omega)))
          go_roundw
          case rel =>
            refine ⟨k + 1, by omega, by go_num, hB2, fun j hj => ?_⟩
            by_cases e : j = k
            · subst e; rw [← HQ.out]; exact ho
            · exact HP.out j (by omega)
          case measure => simp [intOf]; omega
        · rw [Bool.not_eq_true] at ho
          have HA : Hid (allOk ps = false) := allOk_no hlt (by rw [← HQ.out]; exact ho)
          go_wp2_with (go_at_call 40; refine (right_any x y _).mono ?_; rintro e w2 ⟨rfl, hb2⟩; rw [ho]; have hB2 := (hB.out.alloc hsz (.cells #[.int .i64 x, .int .i64 y] 33)).trans (hb2.mono (by simp; omega)))
          go_ret
          exact ⟨ret_b (HB.out.trans HA.out).symm, hB2⟩
      · obtain rfl : k = ps.length := by omega
        have HA : Hid (allOk ps = true) := allOk_yes HP.out
        go_wp2
        go_ret
        exact ⟨ret_b (HB.out.trans HA.out).symm, hB.out⟩
  · have HB : Hid (rowB ps = false) := by show _ = _; unfold rowB; rw [decide_eq_false hn]; rfl
    by_cases n0 : ps.length < 1
    · go_enter Try.func38, Try.ntmps38
      go_wp2
      go_ret
      exact ⟨ret_b HB.out.symm, Below.refl _ _⟩
    · have n1 : 6 < ps.length := by omega
      go_enter Try.func38, Try.ntmps38
      go_wp2
      go_ret
      exact ⟨ret_b HB.out.symm, Below.refl _ _⟩

set_option maxRecDepth 100000 in
set_option maxHeartbeats 2000000 in
theorem iTab_any (v : Value) (rows : List (List Fr)) (w : World) (h : RdT w v rows) :
    Calls Try.prog 61 #[v] w fun e w' => e = .returned (.bool (tabB rows 6)) ∧ Below w.heap.size w w' := by
  obtain ⟨a, c, rfl, h2, h3, h4, h5⟩ := h
  have H5 : Hid (∀ i, i < rows.length → ∃ b off u, a = some ⟨b, off, none⟩ ∧ w.cell? ⟨b, off + i, none⟩ = some u ∧ RdR w u (rw' rows i)) := h5
  unfold maxLen at h2
  clear h5 h3 h4
  by_cases n0 : rows.length < 1
  · have HF : Hid (tabB rows 6 = false) := tabB_head (by omega)
    go_enter Try.func61, Try.ntmps61
    go_wp2
    go_ret
    exact ⟨ret_b HF.out.symm, Below.refl _ _⟩
  by_cases n1 : 6 < rows.length
  · have HF : Hid (tabB rows 6 = false) := tabB_head (by omega)
    go_enter Try.func61, Try.ntmps61
    go_wp2
    go_ret
    exact ⟨ret_b HF.out.symm, Below.refl _ _⟩
  obtain ⟨b, off, u0, rfl, c0, ⟨a0, cc, rfl, m2, m3, m4, _⟩⟩ := H5.out 0 (by omega)
  rw [Nat.add_zero] at c0
  unfold maxLen at m2
  obtain ⟨L, hL⟩ : ∃ L, L = (rw' rows 0).length := ⟨_, rfl⟩
  have HL : Hid (L = (rw' rows 0).length) := hL
  rw [← hL] at c0 m2
  clear hL m3 m4
  go_enter Try.func61, Try.ntmps61
  go_wp2
  go_loopw [15] (fun i wr => ∃ k : Nat, k ≤ rows.length ∧ i = .int .i64 k ∧ Hid (Below w.heap.size w wr) ∧ Hid (∀ j, j < k → (rw' rows j).length = (rw' rows 0).length ∧ rowB (rw' rows j) = true)) (fun i _ => rows.length - (intOf i).toNat)
  case atStart => exact ⟨0, Nat.zero_le _, rfl, Below.refl _ _, fun j hj => absurd hj (Nat.not_lt_zero _)⟩
  case round =>
    obtain ⟨k, hk, rfl, hB, HP⟩ := hrel
    by_cases hlt : k < rows.length
    · obtain ⟨b', off', u, e, c1, hu⟩ := H5.out k hlt
      cases e
      have hs := World.block_lt_of_cell? w _ c1
      replace c1 := (hB.out.cell (p := ⟨b, off + k, none⟩) hs).trans c1
      have c2 := (hB.out.cell (p := ⟨b, off, none⟩) hs).trans c0
      have HU : Hid (RdR w u (rw' rows k)) := hu
      obtain ⟨a1, cc1, rfl, q2, q3, q4, _⟩ := hu
      unfold maxLen at q2
      have hsz := hB.out.size
      obtain ⟨K, hK⟩ : ∃ K, K = (rw' rows k).length := ⟨_, rfl⟩
      have HK : Hid (K = (rw' rows k).length) := hK
      obtain ⟨q, hq⟩ : ∃ q, q = rowB (rw' rows k) := ⟨_, rfl⟩
      have HC : Hid (∀ W : World, RdR W (.slice a1 (rw' rows k).length cc1) (rw' rows k) → Calls Try.prog 38 #[.slice a1 (rw' rows k).length cc1] W fun e w' => e = .returned (.bool q) ∧ Below W.heap.size W w') := by
        intro W hW; rw [hq]; exact iRow_any _ _ W hW
      have HQ : Hid (q = rowB (rw' rows k)) := hq
      rw [← hK] at c1 q2 HC HU
      clear hs hq hK q3 q4
      by_cases hKL : K = L
      · subst hKL
        cases q
        · have HF : Hid (tabB rows 6 = false) := by
            show _ = _
            rw [← Bool.not_eq_true]
            intro ht
            obtain ⟨t1, t2⟩ := tabB_out ht
            have := HQ.out
            unfold rowB at this
            rw [(t2 k hlt).2, decide_eq_true (by have := (t2 k hlt).1; omega)] at this
            exact absurd this (by simp)
          go_wp2_with (go_at_call 38; refine (HC.out _ (HU.out.below hB.out)).mono ?_; rintro e w1 ⟨rfl, hb⟩; have B1 : Below w.heap.size w w1 := hB.out.trans (hb.mono hsz))
          go_ret
          exact ⟨ret_b HF.out.symm, B1⟩
        · have HP' : Hid (∀ j, j < k + 1 → (rw' rows j).length = (rw' rows 0).length ∧ rowB (rw' rows j) = true) := by
            intro j hj
            by_cases e : j = k
            · subst e; exact ⟨by have := HL.out; have := HK.out; omega, HQ.out.symm⟩
            · exact HP.out j (by omega)
          go_wp2_with (go_at_call 38; refine (HC.out _ (HU.out.below hB.out)).mono ?_; rintro e w1 ⟨rfl, hb⟩; have B1 : Below w.heap.size w w1 := hB.out.trans (hb.mono hsz))
          go_roundw
          case rel => exact ⟨k + 1, by omega, by go_num, B1, HP'⟩
          case measure => simp [intOf]; omega
      · have HF : Hid (tabB rows 6 = false) := tabB_row hlt (fun ⟨h1, _⟩ => hKL (by have := HL.out; have := HK.out; omega))
        have hKL' : ¬ (K : Int) = L := by omega
        clear hKL
        go_wp2
        go_ret
        exact ⟨ret_b HF.out.symm, hB.out⟩
    · obtain rfl : k = rows.length := by omega
      have HF : Hid (tabB rows 6 = true) := by
        have h0 := (HP.out 0 (by omega)).2
        unfold rowB at h0
        rw [Bool.and_eq_true, decide_eq_true_eq] at h0
        refine tabB_yes ⟨by omega, by omega, by omega, by omega⟩ fun j hj => ?_
        have := (HP.out j hj).2
        unfold rowB at this
        rw [Bool.and_eq_true] at this
        exact ⟨(HP.out j hj).1, this.2⟩
      go_wp2
      go_ret
      exact ⟨ret_b HF.out.symm, hB.out⟩

end Go.Proofs.Ythnlcgilmljliaa
