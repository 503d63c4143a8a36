/- The walk of the program's rightUpTo. -/
import Derived.Test.YtkcdpjcfbpjkeanTabW2
namespace Go.Proofs.Ytkcdpjcfbpjkean
open Go.RowKit Go.Proofs.Ytkcdpjcfbpjkean.RM

set_option maxRecDepth 100000 in
set_option maxHeartbeats 1000000 in
theorem iUp4_any (v : Value) (ps : List Fr) (w : World) (h : RdR w v ps) :
    Calls Try.prog 59 #[v, .int .i64 4] w fun e w' => e = .returned (.bool (decide (1 ≤ ps.length ∧ ps.length ≤ 4) && allOk ps)) ∧ Below w.heap.size w w' := by
  obtain ⟨a, c, rfl, h2, h3, h4, h5⟩ := h
  have H5 : Hid (∀ j, j < ps.length → ∃ b off, a = some ⟨b, off, none⟩ ∧ w.cell? ⟨b, off + j * 2, none⟩ = some (.int .i64 (fr ps j).1) ∧ w.cell? ⟨b, off + j * 2 + 1, none⟩ = some (.int .i64 (fr ps j).2)) := h5
  unfold maxLen at h2
  clear h5 h3 h4
  by_cases hn : 1 ≤ ps.length ∧ ps.length ≤ 4
  · have HB : Hid ((decide (1 ≤ ps.length ∧ ps.length ≤ 4) && allOk ps) = allOk ps) := by show _ = _; rw [decide_eq_true hn, Bool.true_and]
    obtain ⟨n0, n1⟩ := hn
    go_enter Try.func59, Try.ntmps59
    go_wp2
    go_loopw [18] (fun i wr => ∃ k : Nat, k ≤ ps.length ∧ i = .int .i64 k ∧ Hid (Below w.heap.size w wr) ∧ Hid (∀ j, j < k → okB (fr ps j).1 (fr ps j).2 = true)) (fun i _ => ps.length - (intOf i).toNat)
    case atStart => exact ⟨0, Nat.zero_le _, rfl, Below.refl _ _, fun j hj => absurd hj (Nat.not_lt_zero _)⟩
    case round =>
      obtain ⟨k, hk, rfl, hB, HP⟩ := hrel
      by_cases hlt : k < ps.length
      · obtain ⟨b, off, rfl, c1, c2⟩ := H5.out k hlt
        have hs := World.block_lt_of_cell? w _ c1
        replace c1 := (hB.out.cell (p := ⟨b, off + k * 2, none⟩) hs).trans c1
        replace c2 := (hB.out.cell (p := ⟨b, off + k * 2 + 1, none⟩) hs).trans c2
        obtain ⟨p, hp⟩ : ∃ p, p = fr ps k := ⟨_, rfl⟩
        have HQ : Hid (p = fr ps k) := hp
        rw [← hp] at c1 c2
        obtain ⟨x, y⟩ := p
        dsimp only at c1 c2
        have hsz := hB.out.size
        clear hp hs
        by_cases ho : okB x y = true
        · go_wp2_with (go_at_call 67; refine (right_any x y _).mono ?_; rintro e w2 ⟨rfl, hb2⟩; rw [ho]; have hB2 := (hB.out.alloc hsz (.cells #[.int .i64 x, .int .i64 y] 32)).trans (hb2.mono (by simp; omega)))
          go_roundw
          case rel =>
            refine ⟨k + 1, by omega, by go_num, hB2, fun j hj => ?_⟩
            by_cases e : j = k
            · subst e; rw [← HQ.out]; exact ho
            · exact HP.out j (by omega)
          case measure => simp [intOf]; omega
        · rw [Bool.not_eq_true] at ho
          have HA : Hid (allOk ps = false) := allOk_no hlt (by rw [← HQ.out]; exact ho)
          go_wp2_with (go_at_call 67; refine (right_any x y _).mono ?_; rintro e w2 ⟨rfl, hb2⟩; rw [ho]; have hB2 := (hB.out.alloc hsz (.cells #[.int .i64 x, .int .i64 y] 32)).trans (hb2.mono (by simp; omega)))
          go_ret
          exact ⟨ret_b (HB.out.trans HA.out).symm, hB2⟩
      · obtain rfl : k = ps.length := by omega
        have HA : Hid (allOk ps = true) := allOk_yes HP.out
        go_wp2
        go_ret
        exact ⟨ret_b (HB.out.trans HA.out).symm, hB.out⟩
  · have HB : Hid ((decide (1 ≤ ps.length ∧ ps.length ≤ 4) && allOk ps) = false) := by show _ = _; rw [decide_eq_false hn]; rfl
    rw [HB.out]
    by_cases n0 : ps.length < 1
    · go_enter Try.func59, Try.ntmps59
      go_wp2
      go_ret
      exact ⟨rfl, Below.refl _ _⟩
    · have n1 : 4 < ps.length := by omega
      go_enter Try.func59, Try.ntmps59
      go_wp2
      go_ret
      exact ⟨rfl, Below.refl _ _⟩

set_option maxRecDepth 100000 in
set_option maxHeartbeats 1000000 in
theorem iUp6_any (v : Value) (ps : List Fr) (w : World) (h : RdR w v ps) :
    Calls Try.prog 59 #[v, .int .i64 6] w fun e w' => e = .returned (.bool (decide (1 ≤ ps.length ∧ ps.length ≤ 6) && allOk ps)) ∧ Below w.heap.size w w' := by
  obtain ⟨a, c, rfl, h2, h3, h4, h5⟩ := h
  have H5 : Hid (∀ j, j < ps.length → ∃ b off, a = some ⟨b, off, none⟩ ∧ w.cell? ⟨b, off + j * 2, none⟩ = some (.int .i64 (fr ps j).1) ∧ w.cell? ⟨b, off + j * 2 + 1, none⟩ = some (.int .i64 (fr ps j).2)) := h5
  unfold maxLen at h2
  clear h5 h3 h4
  by_cases hn : 1 ≤ ps.length ∧ ps.length ≤ 6
  · have HB : Hid ((decide (1 ≤ ps.length ∧ ps.length ≤ 6) && allOk ps) = allOk ps) := by show _ = _; rw [decide_eq_true hn, Bool.true_and]
    obtain ⟨n0, n1⟩ := hn
    go_enter Try.func59, Try.ntmps59
    go_wp2
    go_loopw [18] (fun i wr => ∃ k : Nat, k ≤ ps.length ∧ i = .int .i64 k ∧ Hid (Below w.heap.size w wr) ∧ Hid (∀ j, j < k → okB (fr ps j).1 (fr ps j).2 = true)) (fun i _ => ps.length - (intOf i).toNat)
    case atStart => exact ⟨0, Nat.zero_le _, rfl, Below.refl _ _, fun j hj => absurd hj (Nat.not_lt_zero _)⟩
    case round =>
      obtain ⟨k, hk, rfl, hB, HP⟩ := hrel
      by_cases hlt : k < ps.length
      · obtain ⟨b, off, rfl, c1, c2⟩ := H5.out k hlt
        have hs := World.block_lt_of_cell? w _ c1
        replace c1 := (hB.out.cell (p := ⟨b, off + k * 2, none⟩) hs).trans c1
        replace c2 := (hB.out.cell (p := ⟨b, off + k * 2 + 1, none⟩) hs).trans c2
        obtain ⟨p, hp⟩ : ∃ p, p = fr ps k := ⟨_, rfl⟩
        have HQ : Hid (p = fr ps k) := hp
        rw [← hp] at c1 c2
        obtain ⟨x, y⟩ := p
        dsimp only at c1 c2
        have hsz := hB.out.size
        clear hp hs
        by_cases ho : okB x y = true
        · go_wp2_with (go_at_call 67; refine (right_any x y _).mono ?_; rintro e w2 ⟨rfl, hb2⟩; rw [ho]; have hB2 := (hB.out.alloc hsz (.cells #[.int .i64 x, .int .i64 y] 32)).trans (hb2.mono (by simp; omega)))
          go_roundw
          case rel =>
            refine ⟨k + 1, by omega, by go_num, hB2, fun j hj => ?_⟩
            by_cases e : j = k
            · subst e; rw [← HQ.out]; exact ho
            · exact HP.out j (by omega)
          case measure => simp [intOf]; omega
        · rw [Bool.not_eq_true] at ho
          have HA : Hid (allOk ps = false) := allOk_no hlt (by rw [← HQ.out]; exact ho)
          go_wp2_with (go_at_call 67; refine (right_any x y _).mono ?_; rintro e w2 ⟨rfl, hb2⟩; rw [ho]; have hB2 := (hB.out.alloc hsz (.cells #[.int .i64 x, .int .i64 y] 32)).trans (hb2.mono (by simp; omega)))
          go_ret
          exact ⟨ret_b (HB.out.trans HA.out).symm, hB2⟩
      · obtain rfl : k = ps.length := by omega
        have HA : Hid (allOk ps = true) := allOk_yes HP.out
        go_wp2
        go_ret
        exact ⟨ret_b (HB.out.trans HA.out).symm, hB.out⟩
  · have HB : Hid ((decide (1 ≤ ps.length ∧ ps.length ≤ 6) && allOk ps) = false) := by show _ = _; rw [decide_eq_false hn]; rfl
    rw [HB.out]
    by_cases n0 : ps.length < 1
    · go_enter Try.func59, Try.ntmps59
      go_wp2
      go_ret
      exact ⟨rfl, Below.refl _ _⟩
    · have n1 : 6 < ps.length := by omega
      go_enter Try.func59, Try.ntmps59
      go_wp2
      go_ret
      exact ⟨rfl, Below.refl _ _⟩

set_option maxRecDepth 100000 in
set_option maxHeartbeats 1000000 in
theorem iUp12_any (v : Value) (ps : List Fr) (w : World) (h : RdR w v ps) :
    Calls Try.prog 59 #[v, .int .i64 12] w fun e w' => e = .returned (.bool (decide (1 ≤ ps.length ∧ ps.length ≤ 12) && allOk ps)) ∧ Below w.heap.size w w' := by
  obtain ⟨a, c, rfl, h2, h3, h4, h5⟩ := h
  have H5 : Hid (∀ j, j < ps.length → ∃ b off, a = some ⟨b, off, none⟩ ∧ w.cell? ⟨b, off + j * 2, none⟩ = some (.int .i64 (fr ps j).1) ∧ w.cell? ⟨b, off + j * 2 + 1, none⟩ = some (.int .i64 (fr ps j).2)) := h5
  unfold maxLen at h2
  clear h5 h3 h4
  by_cases hn : 1 ≤ ps.length ∧ ps.length ≤ 12
  · have HB : Hid ((decide (1 ≤ ps.length ∧ ps.length ≤ 12) && allOk ps) = allOk ps) := by show _ = _; rw [decide_eq_true hn, Bool.true_and]
    obtain ⟨n0, n1⟩ := hn
    go_enter Try.func59, Try.ntmps59
    go_wp2
    go_loopw [18] (fun i wr => ∃ k : Nat, k ≤ ps.length ∧ i = .int .i64 k ∧ Hid (Below w.heap.size w wr) ∧ Hid (∀ j, j < k → okB (fr ps j).1 (fr ps j).2 = true)) (fun i _ => ps.length - (intOf i).toNat)
    case atStart => exact ⟨0, Nat.zero_le _, rfl, Below.refl _ _, fun j hj => absurd hj (Nat.not_lt_zero _)⟩
    case round =>
      obtain ⟨k, hk, rfl, hB, HP⟩ := hrel
      by_cases hlt : k < ps.length
      · obtain ⟨b, off, rfl, c1, c2⟩ := H5.out k hlt
        have hs := World.block_lt_of_cell? w _ c1
        replace c1 := (hB.out.cell (p := ⟨b, off + k * 2, none⟩) hs).trans c1
        replace c2 := (hB.out.cell (p := ⟨b, off + k * 2 + 1, none⟩) hs).trans c2
        obtain ⟨p, hp⟩ : ∃ p, p = fr ps k := ⟨_, rfl⟩
        have HQ : Hid (p = fr ps k) := hp
        rw [← hp] at c1 c2
        obtain ⟨x, y⟩ := p
        dsimp only at c1 c2
        have hsz := hB.out.size
        clear hp hs
        by_cases ho : okB x y = true
        · go_wp2_with (go_at_call 67; refine (right_any x y _).mono ?_; rintro e w2 ⟨rfl, hb2⟩; rw [ho]; have hB2 := (hB.out.alloc hsz (.cells #[.int .i64 x, .int .i64 y] 32)).trans (hb2.mono (by simp; omega)))
          go_roundw
          case rel =>
            refine ⟨k + 1, by omega, by go_num, hB2, fun j hj => ?_⟩
            by_cases e : j = k
            · subst e; rw [← HQ.out]; exact ho
            · exact HP.out j (by omega)
          case measure => simp [intOf]; omega
        · rw [Bool.not_eq_true] at ho
          have HA : Hid (allOk ps = false) := allOk_no hlt (by rw [← HQ.out]; exact ho)
          go_wp2_with (go_at_call 67; refine (right_any x y _).mono ?_; rintro e w2 ⟨rfl, hb2⟩; rw [ho]; have hB2 := (hB.out.alloc hsz (.cells #[.int .i64 x, .int .i64 y] 32)).trans (hb2.mono (by simp; omega)))
          go_ret
          exact ⟨ret_b (HB.out.trans HA.out).symm, hB2⟩
      · obtain rfl : k = ps.length := by omega
        have HA : Hid (allOk ps = true) := allOk_yes HP.out
        go_wp2
        go_ret
        exact ⟨ret_b (HB.out.trans HA.out).symm, hB.out⟩
  · have HB : Hid ((decide (1 ≤ ps.length ∧ ps.length ≤ 12) && allOk ps) = false) := by show _ = _; rw [decide_eq_false hn]; rfl
    rw [HB.out]
    by_cases n0 : ps.length < 1
    · go_enter Try.func59, Try.ntmps59
      go_wp2
      go_ret
      exact ⟨rfl, Below.refl _ _⟩
    · have n1 : 12 < ps.length := by omega
      go_enter Try.func59, Try.ntmps59
      go_wp2
      go_ret
      exact ⟨rfl, Below.refl _ _⟩

end Go.Proofs.Ytkcdpjcfbpjkean
