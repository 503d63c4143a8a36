/- Rows of points: copied, held against each other, marked. -/
import Derived.Test.YtkciafcehicbmaaTabW4
import Derived.Test.YtkciafcehicbmaaRatioW4
namespace Go.Proofs.Ytkciafcehicbmaa
open Go.RowKit Go.Proofs.Ytkciafcehicbmaa.RM

theorem infoQ : (Try.prog.info? 33).map (fun i => (i.zero, i.size, i.bytes)) = some (some (.agg #[.int .i64 0, .int .i64 0]), 2, 16) := by kernel_rfl

/-- what a row of fractions tells of its cells -/
theorem own_Q {W : World} {base g n c : Nat} {ps : List (Int × Int)} (h : W.ownsRow base 33 2 (.slice (some ⟨g, 0, none⟩) n c) n (cellsR ps)) (hl : ps.length = n) (j : Nat) (hj : j < n) :
    W.cell? ⟨g, j * 2, none⟩ = some (.int .i64 (ps[j]?.getD (0, 0)).1) ∧ W.cell? ⟨g, j * 2 + 1, none⟩ = some (.int .i64 (ps[j]?.getD (0, 0)).2) := by
  have h1 := h.cellAt (j * 2) (by omega)
  have h2 := h.cellAt (j * 2 + 1) (by omega)
  have h3 := cellsR_at ps j (by omega)
  exact ⟨h1.trans h3.1, h2.trans h3.2⟩

theorem RdR.ownQ {W : World} {base : Nat} {v : Value} {n : Nat} {ps : List Fr} (h : W.ownsRow base 33 2 v n (cellsR ps)) : RdR W v ps ∧ ps.length = n := by
  have hl : ps.length = n := by have := h.1; rw [cellsR_len] at this; omega
  subst hl
  refine ⟨?_, rfl⟩
  rcases h.2 with ⟨e, h0⟩ | ⟨g, c, cur, e, _, _, h1, h2, _⟩
  · refine ⟨none, 0, by rw [e, h0], by rw [h0]; exact Nat.zero_le _, by omega, Nat.zero_le _, fun j hj => by omega⟩
  · subst e
    refine ⟨_, c, rfl, by omega, h1, h2, fun j hj => ⟨g, 0, rfl, ?_⟩⟩
    have := own_Q h rfl j hj
    simpa [fr] using this

theorem eqPt_same (n d : Int) (w : World) :
    Calls Try.prog 15 #[.agg #[.int .i64 n, .int .i64 d], .agg #[.int .i64 n, .int .i64 d]] w fun e w' => e = .returned (.bool true) ∧ Below w.heap.size w w' := by
  have e1 : (n != n) = false := by simp
  have e2 : (d != d) = false := by simp
  go_enter Try.func15, Try.ntmps15
  go_wp2
  go_ret
  exact ⟨rfl, ((Below.refl _ _).alloc (Nat.le_refl _) _).alloc (by simp <;> omega) _⟩

--END
--IF f:laws.toRatio

theorem szQ_any (v : Value) (ps : List Fr) (left : Int) (w : World) (h : RdR w v ps) (h0 : 0 ≤ left) (h1 : left ≤ 1048576) :
    Calls Try.prog 4 #[v, .int .i64 left] w fun e w' => e = .returned (.int .i64 (if left - ps.length < 0 then -1 else left - ps.length)) ∧ w' = w := by
  obtain ⟨a, c, rfl, h2, _⟩ := h
  unfold maxLen at h2
  by_cases hs : left - (ps.length : Int) < 0
  · rw [if_pos hs]
    go_enter Try.func4, Try.ntmps4
    go_wp2
    go_ret
    exact ⟨rfl, rfl⟩
  · rw [if_neg hs]
    go_enter Try.func4, Try.ntmps4
    go_wp2
    go_ret
    exact ⟨rfl, rfl⟩

theorem toPt_any (n d : Int) (w : World) :
    Calls Try.prog 12 #[.agg #[.int .i64 n, .int .i64 d]] w fun e w' => e = .returned (.agg #[.int .i64 n, .int .i64 d]) ∧ Below w.heap.size w w' := by
  go_enter Try.func12, Try.ntmps12
  go_wp2
  refine bodyPost_ret (v := .agg #[.int .i64 n, .int .i64 d]) (by simp [results, Try.results12, go_sem]) rfl ⟨rfl, ?_⟩
  repeat (first | exact Below.refl _ _ | (refine Below.setCell ?_ (by simp <;> omega) _) | (refine Below.alloc ?_ (by simp <;> omega) _))

set_option maxRecDepth 100000 in
set_option maxHeartbeats 2000000 in
theorem toQ_any (v : Value) (ps : List Fr) (w : World) (h : RdR w v ps) (hl : ps.length ≤ 1048576) :
    Calls Try.prog 6 #[v] w fun e w' => ∃ u, e = .returned u ∧ w'.ownsRow w.heap.size 33 2 u ps.length (cellsR ps) ∧ Below w.heap.size w w' := by
  obtain ⟨i0, hi, hz0, hz1, hz2⟩ := info_parts infoQ
  obtain ⟨a, c, rfl, h2, h3, h4, h5⟩ := h
  have H5 : Hid (∀ j, j < ps.length → ∃ b off, a = some ⟨b, off, none⟩ ∧ w.cell? ⟨b, off + j * 2, none⟩ = some (.int .i64 (fr ps j).1) ∧ w.cell? ⟨b, off + j * 2 + 1, none⟩ = some (.int .i64 (fr ps j).2)) := h5
  clear h5 h2 h3 h4
  go_enter Try.func6, Try.ntmps6
  go_wp2_with (at_make; refine wpList_make_full _ rfl _ _ 24 rfl w.heap.size 33 i0 (.agg #[.int .i64 0, .int .i64 0]) 2 Try.underlying24 hi hz0 hz1 .i64 .i64 _ _ ps.length rfl rfl rfl rfl (by rw [hz2]; omega) (by unfold maxLen; omega) (Nat.le_refl _) ?_; intro w1 hown hgrow)
  have o0 : w1.ownsRow w.heap.size 33 2 (.slice (some ⟨w.heap.size, 0, none⟩) ps.length ps.length) ps.length (cellsR (cpyF ps 0)) := by
    rw [cpyF_zero, ← madeF]; exact hown
  have hB0 : Below w.heap.size w w1 := (Below.refl _ w).grown hgrow (Nat.le_refl _) (fun k e => by cases e)
  obtain ⟨G, hG⟩ : ∃ G, G = w.heap.size := ⟨_, rfl⟩
  have hwG : w.heap.size ≤ G := by omega
  rw [← hG]
  rw [← hG] at o0
  clear hown hgrow hG
  go_loopw [4] (fun i wr => ∃ k : Nat, k ≤ ps.length ∧ i = .int .i64 k ∧ Hid (wr.ownsRow G 33 2 (.slice (some ⟨G, 0, none⟩) ps.length ps.length) ps.length (cellsR (cpyF ps k))) ∧ Hid (Below w.heap.size w wr)) (fun i _ => ps.length - (intOf i).toNat)
  case atStart => exact ⟨0, Nat.zero_le _, rfl, o0, hB0⟩
  case round =>
    clear o0 hB0
    obtain ⟨k, hk, rfl, hO, hB⟩ := hrel
    by_cases hlt : k < ps.length
    · obtain ⟨b, off, rfl, c1, c2⟩ := H5.out k hlt
      have hs := World.block_lt_of_cell? w _ c1
      replace c1 := (hB.out.cell (p := ⟨b, off + k * 2, none⟩) hs).trans c1
      replace c2 := (hB.out.cell (p := ⟨b, off + k * 2 + 1, none⟩) hs).trans c2
      obtain ⟨p, hp⟩ : ∃ p, p = fr ps k := ⟨_, rfl⟩
      have HP : Hid (p = fr ps k) := hp
      rw [← hp] at c1 c2
      obtain ⟨x, y⟩ := p
      dsimp only at c1 c2
      have hsz := hB.out.size
      clear hp hs
      go_wp2_with (go_at_call 12; refine (toPt_any x y _).mono ?_; rintro e w2 ⟨rfl, hb2⟩; have hO2 := own_below hO.out hb2; have hB2 := hB.out.trans (hb2.mono hsz); obtain ⟨d1, d2⟩ := own_Q hO2 (cpyF_len _ _) k hlt; have f1 := hO2.frozenAt (k * 2); have f2 := hO2.frozenAt (k * 2 + 1))
      go_roundw
      case rel =>
        obtain ⟨s1, _⟩ := hO2.stored (k * 2) (.int .i64 x)
        obtain ⟨s3, _⟩ := s1.stored (k * 2 + 1) (.int .i64 y)
        rw [cellsR_set _ _ _ _ (by rw [cpyF_len]; exact hlt), show ((x, y) : Int × Int) = fr ps k from HP.out, cpyF_set] at s3
        exact ⟨k + 1, by omega, by go_num, s3, (hB2.setCell (p := ⟨G, k * 2, none⟩) hwG _).setCell (p := ⟨G, k * 2 + 1, none⟩) hwG _⟩
      case measure => simp [intOf]; omega
    · obtain rfl : k = ps.length := by omega
      go_wp2
      refine bodyPost_ret (results_tmp rfl _ _ _) rfl ⟨_, rfl, ?_, hB.out⟩
      have := hO.out
      rw [cpyF_all] at this
      exact own_le this hwG

set_option maxRecDepth 100000 in
set_option maxHeartbeats 1000000 in
theorem eqQ_any (v u : Value) (ps : List Fr) (w : World) (h : RdR w v ps) (h' : RdR w u ps) :
    Calls Try.prog 8 #[v, u] w fun e w' => e = .returned (.bool true) ∧ Below w.heap.size w w' := by
  obtain ⟨a, c, rfl, h2, h3, h4, h5⟩ := h
  obtain ⟨a', c', rfl, _, _, _, h5'⟩ := h'
  have H5 : Hid (∀ j, j < ps.length → ∃ b off, a = some ⟨b, off, none⟩ ∧ w.cell? ⟨b, off + j * 2, none⟩ = some (.int .i64 (fr ps j).1) ∧ w.cell? ⟨b, off + j * 2 + 1, none⟩ = some (.int .i64 (fr ps j).2)) := h5
  have H6 : Hid (∀ j, j < ps.length → ∃ b off, a' = some ⟨b, off, none⟩ ∧ w.cell? ⟨b, off + j * 2, none⟩ = some (.int .i64 (fr ps j).1) ∧ w.cell? ⟨b, off + j * 2 + 1, none⟩ = some (.int .i64 (fr ps j).2)) := h5'
  unfold maxLen at h2
  clear h5 h5' h3 h4
  go_enter Try.func8, Try.ntmps8
  go_wp2
  go_loopw [5] (fun i wr => ∃ k : Nat, k ≤ ps.length ∧ i = .int .i64 k ∧ Hid (Below w.heap.size w wr)) (fun i _ => ps.length - (intOf i).toNat)
  case atStart => exact ⟨0, Nat.zero_le _, rfl, Below.refl _ _⟩
  case round =>
    obtain ⟨k, hk, rfl, hB⟩ := hrel
    by_cases hlt : k < ps.length
    · obtain ⟨b, off, rfl, c1, c2⟩ := H5.out k hlt
      obtain ⟨b', off', rfl, c3, c4⟩ := H6.out k hlt
      have hs := World.block_lt_of_cell? w _ c1
      have hs' := World.block_lt_of_cell? w _ c3
      replace c1 := (hB.out.cell (p := ⟨b, off + k * 2, none⟩) hs).trans c1
      replace c2 := (hB.out.cell (p := ⟨b, off + k * 2 + 1, none⟩) hs).trans c2
      replace c3 := (hB.out.cell (p := ⟨b', off' + k * 2, none⟩) hs').trans c3
      replace c4 := (hB.out.cell (p := ⟨b', off' + k * 2 + 1, none⟩) hs').trans c4
      obtain ⟨p, hp⟩ : ∃ p, p = fr ps k := ⟨_, rfl⟩
      rw [← hp] at c1 c2 c3 c4
      obtain ⟨x, y⟩ := p
      dsimp only at c1 c2 c3 c4
      clear hp hs hs'
      go_wp2
      go_region_with (go_at_call 15; refine (eqPt_same _ _ _).mono ?_; rintro e w1 ⟨rfl, hb⟩; have B1 : Below w.heap.size w w1 := Below.trans (by first | exact hB.out | exact hB.out.drew | exact below_drewN hB.out _) (hb.mono (by simpa using hB.out.size)))
      all_goals go_wp2
      all_goals
        go_roundw
        case rel => exact ⟨k + 1, by omega, by go_num, B1⟩
        case measure => simp [intOf]; omega
    · go_wp2
      go_ret
      exact ⟨rfl, hB.out⟩

set_option maxRecDepth 100000 in
set_option maxHeartbeats 1000000 in
theorem markQ_any (v : Value) (ps : List Fr) (base : Nat) (k0 : Int) (w : World) (hn2 : ps.length ≤ 1048576) (hk0 : 0 ≤ k0) (hk1 : k0 ≤ 4000000000000000) (h1 : w.ownsRow base 33 2 v ps.length (cellsR ps)) :
    Calls Try.prog 9 #[v, .int .i64 k0] w fun e w' => e = .returned (.int .i64 (k0 + 2 * (ps.length : Int))) ∧ w'.ownsRow base 33 2 v ps.length (cellsR (mkF k0 ps ps.length)) ∧ w.grownBy w' v.ownBlock := by
  by_cases h0 : ps.length = 0
  · obtain ⟨a, c, rfl⟩ := own_shape h1
    obtain rfl : ps = [] := List.eq_nil_of_length_eq_zero h0
    have H1 : Hid (w.ownsRow base 33 2 (.slice a 0 c) 0 []) := h1
    clear h1 h0
    go_enter Try.func9, Try.ntmps9
    go_wp2
    go_loop [1, 5] (fun q i => q = .int .i64 k0 ∧ i = .int .i64 0) (fun _ _ => 0)
    case atStart => exact ⟨rfl, rfl⟩
    case round =>
      obtain ⟨rfl, rfl⟩ := hrel
      go_wp2
      go_ret
      exact ⟨by simp, H1.out, (grown_of_below (Below.refl _ _)).but _⟩
  · obtain ⟨g, c, rfl⟩ := own_some h1 (by omega)
    obtain ⟨n, hn⟩ : ∃ n, n = ps.length := ⟨_, rfl⟩
    rw [← hn] at h1 hn2 h0 ⊢
    have H1 : Hid (w.ownsRow base 33 2 (.slice (some ⟨g, 0, none⟩) n c) n (cellsR ps)) := h1
    have HN : Hid (ps.length = n) := hn.symm
    clear h1 h0 hn
    go_enter Try.func9, Try.ntmps9
    go_wp2
    go_loopw [1, 5] (fun q i wr => ∃ k : Nat, k ≤ n ∧ i = .int .i64 k ∧ q = .int .i64 (k0 + 2 * (k : Int)) ∧ Hid (wr.ownsRow base 33 2 (.slice (some ⟨g, 0, none⟩) n c) n (cellsR (mkF k0 ps k)) ∧ w.grownBy wr (some g))) (fun _ i _ => n - (intOf i).toNat)
    case atStart => exact ⟨0, Nat.zero_le _, rfl, by simp, by rw [mkF_zero]; exact H1.out, (grown_of_below (Below.refl _ _)).but _⟩
    case round =>
      obtain ⟨k, hk, rfl, rfl, hw⟩ := hrel
      by_cases hlt : k < n
      · obtain ⟨c1, c2⟩ := own_Q hw.out.1 (by rw [mkF_len]; exact HN.out) k hlt
        have f1 := hw.out.1.frozenAt (k * 2)
        have f2 := hw.out.1.frozenAt (k * 2 + 1)
        generalize ((mkF k0 ps k)[k]?.getD (0, 0)).1 = x1 at c1
        generalize ((mkF k0 ps k)[k]?.getD (0, 0)).2 = x2 at c2
        go_wp2
        go_roundw
        case rel =>
          obtain ⟨s1, s2⟩ := hw.out.1.stored (k * 2) (.int .i64 (k0 + 2 * (k : Int)))
          obtain ⟨s3, s4⟩ := s1.stored (k * 2 + 1) (.int .i64 (k0 + 2 * (k : Int) + 1))
          refine ⟨k + 1, by omega, by go_num, by go_num, ?_, (hw.out.2.trans s2).trans s4⟩
          rw [cellsR_set _ _ _ _ (by rw [mkF_len, HN.out]; exact hlt), mkF_set] at s3
          exact s3
        case measure => simp [intOf]; omega
      · obtain rfl : k = n := by omega
        go_wp2
        go_ret
        exact ⟨rfl, hw.out.1, hw.out.2⟩

set_option maxRecDepth 100000 in
set_option maxHeartbeats 1000000 in
theorem heldQ_any (v : Value) (ps : List Fr) (k0 : Int) (w : World) (hn2 : ps.length ≤ 1048576) (hk0 : 0 ≤ k0) (hk1 : k0 ≤ 4000000000000000) (h : RdR w v (mkF k0 ps ps.length)) :
    Calls Try.prog 10 #[v, .int .i64 k0] w fun e w' => e = .returned (.int .i64 (k0 + 2 * (ps.length : Int))) ∧ ∃ m, w' = w.drewN m := by
  obtain ⟨a, c, rfl, _, _, _, h5⟩ := h
  rw [mkF_len] at h5 ⊢
  have H5 : Hid (∀ j : Nat, j < ps.length → ∃ b off, a = some ⟨b, off, none⟩ ∧ w.cell? ⟨b, off + j * 2, none⟩ = some (.int .i64 (k0 + 2 * (j : Int))) ∧ w.cell? ⟨b, off + j * 2 + 1, none⟩ = some (.int .i64 (k0 + 2 * (j : Int) + 1))) := by
    intro j hj
    have := h5 j hj
    rw [mkF_at _ _ _ hj] at this
    exact this
  clear h5
  obtain ⟨n, hn⟩ : ∃ n, n = ps.length := ⟨_, rfl⟩
  rw [← hn] at H5 hn2 ⊢
  clear hn
  go_enter Try.func10, Try.ntmps10
  go_wp2
  go_loopw [1, 5] (fun q i wr => ∃ k : Nat, k ≤ n ∧ i = .int .i64 k ∧ q = .int .i64 (k0 + 2 * (k : Int)) ∧ Hid (∃ m, wr = w.drewN m)) (fun _ i _ => n - (intOf i).toNat)
  case atStart => exact ⟨0, Nat.zero_le _, rfl, by simp, 0, rfl⟩
  case round =>
    obtain ⟨k, hk, rfl, rfl, hw⟩ := hrel
    obtain ⟨m, rfl⟩ := hw.out
    clear hw
    by_cases hlt : k < n
    · obtain ⟨b, off, rfl, c1, c2⟩ := H5.out k hlt
      have ht : ((k0 + 2 * (k : Int)) != (k0 + 2 * (k : Int))) = false := by simp
      have ht2 : ((k0 + 2 * (k : Int) + 1) != (k0 + 2 * (k : Int) + 1)) = false := by simp
      go_wp2
      go_roundw
      case rel => exact ⟨k + 1, by omega, by go_num, by go_num, m, rfl⟩
      case measure => simp [intOf]; omega
    · obtain rfl : k = n := by omega
      go_wp2
      go_ret
      exact ⟨rfl, m, rfl⟩
end Go.Proofs.Ytkciafcehicbmaa
