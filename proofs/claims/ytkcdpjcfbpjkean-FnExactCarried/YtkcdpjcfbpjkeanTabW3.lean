/- The walks of the program's test of a table, and of two tables held against each other. -/
import Derived.Test.YtkcdpjcfbpjkeanTabW2
import Derived.Test.YtkcdpjcfbpjkeanRowUp
namespace Go.Proofs.Ytkcdpjcfbpjkean
open Go.RowKit Go.Proofs.Ytkcdpjcfbpjkean.RM

set_option maxHeartbeats 1000000 in
theorem iRow_any (v : Value) (ps : List Fr) (w : World) (h : RdR w v ps) :
    Calls Try.prog 44 #[v] w fun e w' => e = .returned (.bool (rowB ps)) ∧ Below w.heap.size w w' := by
  have HR : Hid (Calls Try.prog 59 #[v, .int .i64 6] w fun e w' => e = .returned (.bool (rowB ps)) ∧ Below w.heap.size w w') := iUp6_any v ps w h
  obtain ⟨a, c, rfl, _⟩ := h
  go_enter Try.func44, Try.ntmps44
  go_wp2_with fail
  refine HR.out.mono ?_
  rintro e w1 ⟨rfl, hb⟩
  go_wp2
  go_ret
  exact ⟨rfl, hb⟩

set_option maxRecDepth 100000 in
set_option maxHeartbeats 2000000 in
theorem iTab_any (v : Value) (rows : List (List Fr)) (w : World) (h : RdT w v rows) :
    Calls Try.prog 36 #[v] w fun e w' => e = .returned (.bool (tabB rows 6)) ∧ Below w.heap.size w w' := by
  obtain ⟨a, c, rfl, h2, h3, h4, h5⟩ := h
  have H5 : Hid (∀ i, i < rows.length → ∃ b off u, a = some ⟨b, off, none⟩ ∧ w.cell? ⟨b, off + i, none⟩ = some u ∧ RdR w u (rw' rows i)) := h5
  unfold maxLen at h2
  clear h5 h3 h4
  by_cases n0 : rows.length < 1
  · have HF : Hid (tabB rows 6 = false) := tabB_head (by omega)
    go_enter Try.func36, Try.ntmps36
    go_wp2
    go_ret
    exact ⟨ret_b HF.out.symm, Below.refl _ _⟩
  by_cases n1 : 6 < rows.length
  · have HF : Hid (tabB rows 6 = false) := tabB_head (by omega)
    go_enter Try.func36, Try.ntmps36
    go_wp2
    go_ret
    exact ⟨ret_b HF.out.symm, Below.refl _ _⟩
  obtain ⟨b, off, u0, rfl, c0, ⟨a0, cc, rfl, m2, m3, m4, _⟩⟩ := H5.out 0 (by omega)
  rw [Nat.add_zero] at c0
  unfold maxLen at m2
  obtain ⟨L, hL⟩ : ∃ L, L = (rw' rows 0).length := ⟨_, rfl⟩
  have HL : Hid (L = (rw' rows 0).length) := hL
  rw [← hL] at c0 m2
  clear hL m3 m4
  go_enter Try.func36, Try.ntmps36
  go_wp2
  go_loopw [15] (fun i wr => ∃ k : Nat, k ≤ rows.length ∧ i = .int .i64 k ∧ Hid (Below w.heap.size w wr) ∧ Hid (∀ j, j < k → (rw' rows j).length = (rw' rows 0).length ∧ rowB (rw' rows j) = true)) (fun i _ => rows.length - (intOf i).toNat)
  case atStart => exact ⟨0, Nat.zero_le _, rfl, Below.refl _ _, fun j hj => absurd hj (Nat.not_lt_zero _)⟩
  case round =>
    obtain ⟨k, hk, rfl, hB, HP⟩ := hrel
    by_cases hlt : k < rows.length
    · obtain ⟨b', off', u, e, c1, hu⟩ := H5.out k hlt
      cases e
      have hs := World.block_lt_of_cell? w _ c1
      replace c1 := (hB.out.cell (p := ⟨b, off + k, none⟩) hs).trans c1
      have c2 := (hB.out.cell (p := ⟨b, off, none⟩) hs).trans c0
      have HU : Hid (RdR w u (rw' rows k)) := hu
      obtain ⟨a1, cc1, rfl, q2, q3, q4, _⟩ := hu
      unfold maxLen at q2
      have hsz := hB.out.size
      obtain ⟨K, hK⟩ : ∃ K, K = (rw' rows k).length := ⟨_, rfl⟩
      have HK : Hid (K = (rw' rows k).length) := hK
      obtain ⟨q, hq⟩ : ∃ q, q = rowB (rw' rows k) := ⟨_, rfl⟩
      have HC : Hid (∀ W : World, RdR W (.slice a1 (rw' rows k).length cc1) (rw' rows k) → Calls Try.prog 44 #[.slice a1 (rw' rows k).length cc1] W fun e w' => e = .returned (.bool q) ∧ Below W.heap.size W w') := by
        intro W hW; rw [hq]; exact iRow_any _ _ W hW
      have HQ : Hid (q = rowB (rw' rows k)) := hq
      rw [← hK] at c1 q2 HC HU
      clear hs hq hK q3 q4
      by_cases hKL : K = L
      · subst hKL
        cases q
        · have HF : Hid (tabB rows 6 = false) := by
            show _ = _
            rw [← Bool.not_eq_true]
            intro ht
            obtain ⟨t1, t2⟩ := tabB_out ht
            have := HQ.out
            unfold rowB at this
            rw [(t2 k hlt).2, decide_eq_true (by have := (t2 k hlt).1; omega)] at this
            exact absurd this (by simp)
          go_wp2_with (go_at_call 44; refine (HC.out _ (HU.out.below hB.out)).mono ?_; rintro e w1 ⟨rfl, hb⟩; have B1 : Below w.heap.size w w1 := hB.out.trans (hb.mono hsz))
          go_ret
          exact ⟨ret_b HF.out.symm, B1⟩
        · have HP' : Hid (∀ j, j < k + 1 → (rw' rows j).length = (rw' rows 0).length ∧ rowB (rw' rows j) = true) := by
            intro j hj
            by_cases e : j = k
            · subst e; exact ⟨by have := HL.out; have := HK.out; omega, HQ.out.symm⟩
            · exact HP.out j (by omega)
          go_wp2_with (go_at_call 44; refine (HC.out _ (HU.out.below hB.out)).mono ?_; rintro e w1 ⟨rfl, hb⟩; have B1 : Below w.heap.size w w1 := hB.out.trans (hb.mono hsz))
          go_roundw
          case rel => exact ⟨k + 1, by omega, by go_num, B1, HP'⟩
          case measure => simp [intOf]; omega
      · have HF : Hid (tabB rows 6 = false) := tabB_row hlt (fun ⟨h1, _⟩ => hKL (by have := HL.out; have := HK.out; omega))
        have hKL' : ¬ (K : Int) = L := by omega
        clear hKL
        go_wp2
        go_ret
        exact ⟨ret_b HF.out.symm, hB.out⟩
    · obtain rfl : k = rows.length := by omega
      have HF : Hid (tabB rows 6 = true) := by
        have h0 := (HP.out 0 (by omega)).2
        unfold rowB at h0
        rw [Bool.and_eq_true, decide_eq_true_eq] at h0
        refine tabB_yes ⟨by omega, by omega, by omega, by omega⟩ fun j hj => ?_
        have := (HP.out j hj).2
        unfold rowB at this
        rw [Bool.and_eq_true] at this
        exact ⟨(HP.out j hj).1, this.2⟩
      go_wp2
      go_ret
      exact ⟨ret_b HF.out.symm, hB.out⟩

set_option maxRecDepth 100000 in
set_option maxHeartbeats 1000000 in
theorem eqS_any (v u : Value) (ps : List Fr) (w : World) (h : RdR w v ps) (h' : RdR w u ps) :
    Calls Try.prog 19 #[v, u] w fun e w' => e = .returned (.bool true) ∧ Below w.heap.size w w' := by
  obtain ⟨a, c, rfl, h2, h3, h4, h5⟩ := h
  obtain ⟨a', c', rfl, _, _, _, h5'⟩ := h'
  have H5 : Hid (∀ j, j < ps.length → ∃ b off, a = some ⟨b, off, none⟩ ∧ w.cell? ⟨b, off + j * 2, none⟩ = some (.int .i64 (fr ps j).1) ∧ w.cell? ⟨b, off + j * 2 + 1, none⟩ = some (.int .i64 (fr ps j).2)) := h5
  have H6 : Hid (∀ j, j < ps.length → ∃ b off, a' = some ⟨b, off, none⟩ ∧ w.cell? ⟨b, off + j * 2, none⟩ = some (.int .i64 (fr ps j).1) ∧ w.cell? ⟨b, off + j * 2 + 1, none⟩ = some (.int .i64 (fr ps j).2)) := h5'
  unfold maxLen at h2
  clear h5 h5' h3 h4
  go_enter Try.func19, Try.ntmps19
  go_wp2
  go_loopw [5] (fun i wr => ∃ k : Nat, k ≤ ps.length ∧ i = .int .i64 k ∧ Hid (Below w.heap.size w wr)) (fun i _ => ps.length - (intOf i).toNat)
  case atStart => exact ⟨0, Nat.zero_le _, rfl, Below.refl _ _⟩
  case round =>
    obtain ⟨k, hk, rfl, hB⟩ := hrel
    by_cases hlt : k < ps.length
    · obtain ⟨b, off, rfl, c1, c2⟩ := H5.out k hlt
      obtain ⟨b', off', rfl, c3, c4⟩ := H6.out k hlt
      have hs := World.block_lt_of_cell? w _ c1
      have hs' := World.block_lt_of_cell? w _ c3
      replace c1 := (hB.out.cell (p := ⟨b, off + k * 2, none⟩) hs).trans c1
      replace c2 := (hB.out.cell (p := ⟨b, off + k * 2 + 1, none⟩) hs).trans c2
      replace c3 := (hB.out.cell (p := ⟨b', off' + k * 2, none⟩) hs').trans c3
      replace c4 := (hB.out.cell (p := ⟨b', off' + k * 2 + 1, none⟩) hs').trans c4
      obtain ⟨p, hp⟩ : ∃ p, p = fr ps k := ⟨_, rfl⟩
      rw [← hp] at c1 c2 c3 c4
      obtain ⟨x, y⟩ := p
      dsimp only at c1 c2 c3 c4
      clear hp hs hs'
      go_wp2
      go_region_with (go_at_call 18; refine (eq_same _ _ _).mono ?_; rintro e w1 ⟨rfl, hb⟩; have B1 : Below w.heap.size w w1 := Below.trans (by first | exact hB.out | exact hB.out.drew | exact below_drewN hB.out _) (hb.mono (by simpa using hB.out.size)))
      all_goals go_wp2
      all_goals
        go_roundw
        case rel => exact ⟨k + 1, by omega, by go_num, B1⟩
        case measure => simp [intOf]; omega
    · go_wp2
      go_ret
      exact ⟨rfl, hB.out⟩

set_option maxRecDepth 100000 in
set_option maxHeartbeats 1000000 in
theorem eqT_any (v u : Value) (rows : List (List Fr)) (w : World) (h : RdT w v rows) (h' : RdT w u rows) :
    Calls Try.prog 13 #[v, u] w fun e w' => e = .returned (.bool true) ∧ Below w.heap.size w w' := by
  obtain ⟨a, c, rfl, h2, h3, h4, h5⟩ := h
  obtain ⟨a', c', rfl, _, _, _, h5'⟩ := h'
  have H5 : Hid (∀ i, i < rows.length → ∃ b off u, a = some ⟨b, off, none⟩ ∧ w.cell? ⟨b, off + i, none⟩ = some u ∧ RdR w u (rw' rows i)) := h5
  have H6 : Hid (∀ i, i < rows.length → ∃ b off u, a' = some ⟨b, off, none⟩ ∧ w.cell? ⟨b, off + i, none⟩ = some u ∧ RdR w u (rw' rows i)) := h5'
  unfold maxLen at h2
  clear h5 h5' h3 h4
  go_enter Try.func13, Try.ntmps13
  go_wp2
  go_loopw [5] (fun i wr => ∃ k : Nat, k ≤ rows.length ∧ i = .int .i64 k ∧ Hid (Below w.heap.size w wr)) (fun i _ => rows.length - (intOf i).toNat)
  case atStart => exact ⟨0, Nat.zero_le _, rfl, Below.refl _ _⟩
  case round =>
    obtain ⟨k, hk, rfl, hB⟩ := hrel
    by_cases hlt : k < rows.length
    · obtain ⟨b, off, x, rfl, c1, hx⟩ := H5.out k hlt
      obtain ⟨b', off', y, rfl, c3, hy⟩ := H6.out k hlt
      have hs := World.block_lt_of_cell? w _ c1
      have hs' := World.block_lt_of_cell? w _ c3
      replace c1 := (hB.out.cell (p := ⟨b, off + k, none⟩) hs).trans c1
      replace c3 := (hB.out.cell (p := ⟨b', off' + k, none⟩) hs').trans c3
      have HC : Hid (∀ W : World, Below w.heap.size w W → Calls Try.prog 19 #[x, y] W fun e w' => e = .returned (.bool true) ∧ Below W.heap.size W w') := by
        intro W hW; exact eqS_any x y _ W (hx.below hW) (hy.below hW)
      clear hx hy hs hs'
      go_wp2
      go_region_with (go_at_call 19; refine (HC.out _ (by first | exact hB.out | exact hB.out.drew | exact below_drewN hB.out _)).mono ?_; rintro e w1 ⟨rfl, hb⟩; have B1 : Below w.heap.size w w1 := Below.trans (by first | exact hB.out | exact hB.out.drew | exact below_drewN hB.out _) (hb.mono (by simpa using hB.out.size)))
      all_goals go_wp2
      all_goals
        go_roundw
        case rel => exact ⟨k + 1, by omega, by go_num, B1⟩
        case measure => simp [intOf]; omega
    · go_wp2
      go_ret
      exact ⟨rfl, hB.out⟩
end Go.Proofs.Ytkcdpjcfbpjkean
