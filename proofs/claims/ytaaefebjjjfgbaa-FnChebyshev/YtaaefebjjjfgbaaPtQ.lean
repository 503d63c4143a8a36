/- The model's SpreadOk, Weight and Inside, told to draw alone. -/
import Derived.Test.YtaaefebjjjfgbaaPtW2
import Derived.Test.YtaaefebjjjfgbaaPtW5
namespace Go.Proofs.Ytaaefebjjjfgbaa
open Go.RowKit Go.Proofs.Ytaaefebjjjfgbaa.RM

theorem cell_dq {w W : World} (h : ∃ m, W = w.drewN m) {p : Addr} {v : Value} (hc : w.cell? p = some v) : W.cell? p = some v := by
  obtain ⟨m, rfl⟩ := h
  simpa using hc
theorem drewQ {w W : World} (h : ∃ m, W = w.drewN m) (n : Nat) : ∃ m, W.drewN n = w.drewN m := by
  obtain ⟨m, rfl⟩ := h
  exact ⟨m + n, by rw [World.drewN_drewN]⟩

set_option maxRecDepth 100000 in
set_option maxHeartbeats 4000000 in
theorem sSprD_any (v : Value) (ps : List Fr) (w : World) (h : RdR w v ps) :
    Calls Try.prog 24 #[v] w fun e w' => e = .returned (.bool (sprB ps)) ∧ ∃ m, w' = w.drewN m := by
  obtain ⟨a, c, rfl, h2, h3, h4, h5⟩ := h
  have H5 : Hid (∀ j, j < ps.length → ∃ b off, a = some ⟨b, off, none⟩ ∧ w.cell? ⟨b, off + j * 2, none⟩ = some (.int .i64 (fr ps j).1) ∧ w.cell? ⟨b, off + j * 2 + 1, none⟩ = some (.int .i64 (fr ps j).2)) := h5
  unfold maxLen at h2
  obtain ⟨L, hL⟩ : ∃ L, L = ps.length := ⟨_, rfl⟩
  have HL := hidP hL
  rw [← hL] at h2 H5 ⊢
  clear h5 h3 h4 hL
  by_cases n0 : L < 1
  · have HF : Hid (sprB ps = false) := sprB_len (by have := HL.out; omega)
    go_enter Try.func24, Try.ntmps24
    go_wp2
    go_ret
    exact ⟨ret_b HF.out.symm, ⟨0, rfl⟩⟩
  by_cases n1 : 40 < L
  · have HF : Hid (sprB ps = false) := sprB_len (by have := HL.out; omega)
    go_enter Try.func24, Try.ntmps24
    go_wp2
    go_ret
    exact ⟨ret_b HF.out.symm, ⟨0, rfl⟩⟩
  go_enter Try.func24, Try.ntmps24
  go_wp2
  go_loopw [3, 4] (fun s i wr => ∃ k : Nat, k ≤ L ∧ i = .int .i64 k ∧ s = .int .i64 (wtS ps k) ∧ Hid (∃ m, wr = w.drewN m) ∧ Hid (∀ j, j < k → ptP ps j)) (fun _ i _ => L - (intOf i).toNat)
  case atStart => exact ⟨0, Nat.zero_le _, rfl, rfl, ⟨0, rfl⟩, fun j hj => absurd hj (Nat.not_lt_zero _)⟩
  case round =>
    obtain ⟨k, hk, rfl, rfl, hB, HP⟩ := hrel
    have hw := wtS_in HP.out
    obtain ⟨s, hs⟩ : ∃ s, s = wtS ps k := ⟨_, rfl⟩
    have HS := hidP hs
    rw [← hs] at hw ⊢
    clear hs
    by_cases hlt : k < L
    · obtain ⟨b, off, rfl, c1, c2⟩ := H5.out k hlt
      replace c1 := cell_dq hB.out c1
      replace c2 := cell_dq hB.out c2
      obtain ⟨p, hp⟩ : ∃ p, p = fr ps k := ⟨_, rfl⟩
      have HQ := hidP hp
      rw [← hp] at c1 c2
      obtain ⟨x, y⟩ := p
      dsimp only at c1 c2
      clear hp
      have HX : Hid (∀ W : World, Calls Try.prog 32 #[.int .i64 x, .int .i64 (-1000), .int .i64 1000] W fun e w' => e = .returned (.bool (inB x (-1000) 1000)) ∧ w' = W) := fun W => in_any x (-1000) 1000 W
      have HY : Hid (∀ W : World, Calls Try.prog 32 #[.int .i64 y, .int .i64 1, .int .i64 1000000] W fun e w' => e = .returned (.bool (inB y 1 1000000)) ∧ w' = W) := fun W => in_any y 1 1000000 W
      by_cases g1 : -1000 ≤ x ∧ x ≤ 1000
      case neg =>
        have HF : Hid (sprB ps = false) := sprB_pt (k := k) (by rw [← HL.out]; exact hlt) (fun q => g1 (by have := q.1; rw [← HQ.out] at this; exact this))
        rw [inB_no g1] at HX
        clear g1
        go_upto_region 7 with fail
        go_quiet (first | with_reducible exact Calls.quiet_of_same (HX.out _) | with_reducible exact Calls.quiet_of_same (HY.out _))
        go_wp2
        go_ret
        exact ⟨ret_b HF.out.symm, drewQ hB.out _⟩
      rw [inB_yes g1.1 g1.2] at HX
      by_cases g2 : 1 ≤ y ∧ y ≤ 1000000
      case neg =>
        have HF : Hid (sprB ps = false) := sprB_pt (k := k) (by rw [← HL.out]; exact hlt) (fun q => g2 (by have := q.2.1; rw [← HQ.out] at this; exact this))
        rw [inB_no g2] at HY
        clear g2
        go_upto_region 7 with fail
        go_quiet (first | with_reducible exact Calls.quiet_of_same (HX.out _) | with_reducible exact Calls.quiet_of_same (HY.out _))
        go_wp2
        go_ret
        exact ⟨ret_b HF.out.symm, drewQ hB.out _⟩
      rw [inB_yes g2.1 g2.2] at HY
      obtain ⟨y1, y2⟩ := g2
      have hk1 : s + y ≤ 41000000 := by omega
      have hk0 : 0 ≤ s + y := by omega
      by_cases hkz : k = 0
      · subst hkz
        simp only [Nat.zero_mul, Nat.add_zero] at c1 c2
        have HP' : Hid (∀ j, j < 0 + 1 → ptP ps j) := by
          intro j hj
          obtain rfl : j = 0 := by omega
          exact ⟨by rw [← HQ.out]; exact g1, by rw [← HQ.out]; exact ⟨y1, y2⟩, fun h => absurd h (by omega)⟩
        go_upto_region 7 with fail
        go_quiet (first | with_reducible exact Calls.quiet_of_same (HX.out _) | with_reducible exact Calls.quiet_of_same (HY.out _))
        go_wp2
        go_roundw
        case rel => exact ⟨0 + 1, by omega, by go_num, by rw [HS.out]; show _ = Value.int .i64 (wtS ps 0 + (fr ps 0).2); rw [← HQ.out], drewQ hB.out _, HP'⟩
        case measure => simp [intOf]; omega
      · obtain ⟨m, rfl⟩ : ∃ m, k = m + 1 := ⟨k - 1, by omega⟩
        obtain ⟨b', off', e, d1, d2⟩ := H5.out m (by omega)
        cases e
        replace d1 := cell_dq hB.out d1
        obtain ⟨z, hz⟩ : ∃ z, z = (fr ps m).1 := ⟨_, rfl⟩
        have HZ := hidP hz
        rw [← hz] at d1
        clear hz d2
        have hm0 : (0 : Int) < (m : Int) + 1 := by omega
        by_cases g3 : z < x
        · have hnl : decide (x ≤ z) = false := decide_eq_false (by omega)
          have HP' : Hid (∀ j, j < m + 1 + 1 → ptP ps j) := by
            intro j hj
            by_cases e : j = m + 1
            · subst e
              exact ⟨by rw [← HQ.out]; exact g1, by rw [← HQ.out]; exact ⟨y1, y2⟩, fun _ => by rw [← HQ.out, Nat.add_sub_cancel, ← HZ.out]; exact g3⟩
            · exact HP.out j (by omega)
          go_upto_region 7 with fail
          go_quiet (first | with_reducible exact Calls.quiet_of_same (HX.out _) | with_reducible exact Calls.quiet_of_same (HY.out _))
          go_wp2
          go_roundw
          case rel => exact ⟨m + 1 + 1, by omega, by go_num, by rw [HS.out]; show _ = Value.int .i64 (wtS ps (m + 1) + (fr ps (m + 1)).2); rw [← HQ.out], drewQ hB.out _, HP'⟩
          case measure => simp [intOf]; omega
        · have hnl : decide (x ≤ z) = true := decide_eq_true (by omega)
          have HF : Hid (sprB ps = false) := sprB_pt (k := m + 1) (by rw [← HL.out]; exact hlt) (fun q => g3 (by have := q.2.2 (by omega); rw [← HQ.out, Nat.add_sub_cancel, ← HZ.out] at this; exact this))
          go_upto_region 7 with fail
          go_quiet (first | with_reducible exact Calls.quiet_of_same (HX.out _) | with_reducible exact Calls.quiet_of_same (HY.out _))
          go_wp2
          go_ret
          exact ⟨ret_b HF.out.symm, drewQ hB.out _⟩
    · obtain rfl : k = L := by omega
      by_cases hsum : s ≤ 1000000
      · have HF : Hid (sprB ps = true) := decide_eq_true ⟨by have := HL.out; omega, fun j hj => HP.out j (by have := HL.out; omega), by rw [← HL.out, ← HS.out]; exact hsum⟩
        go_wp2
        go_ret
        exact ⟨ret_b HF.out.symm, hB.out⟩
      · have HF : Hid (sprB ps = false) := decide_eq_false fun q => hsum (by have := q.2.2; rw [← HL.out, ← HS.out] at this; exact this)
        go_wp2
        go_ret
        exact ⟨ret_b HF.out.symm, hB.out⟩

set_option maxRecDepth 100000 in
set_option maxHeartbeats 2000000 in
theorem sWtD_any (v : Value) (ps : List Fr) (w : World) (h : RdR w v ps) (hn : ps.length ≤ 40) (hP : ∀ k, k < ps.length → ptP ps k) :
    Calls Try.prog 26 #[v] w fun e w' => e = .returned (.int .i64 (wtS ps ps.length)) ∧ ∃ m, w' = w.drewN m := by
  obtain ⟨a, c, rfl, h2, h3, h4, h5⟩ := h
  have H5 : Hid (∀ j, j < ps.length → ∃ b off, a = some ⟨b, off, none⟩ ∧ w.cell? ⟨b, off + j * 2, none⟩ = some (.int .i64 (fr ps j).1) ∧ w.cell? ⟨b, off + j * 2 + 1, none⟩ = some (.int .i64 (fr ps j).2)) := h5
  have HP := hidP hP
  obtain ⟨L, hL⟩ : ∃ L, L = ps.length := ⟨_, rfl⟩
  rw [← hL] at hn H5 HP ⊢
  clear h5 h2 h3 h4 hL hP
  go_enter Try.func26, Try.ntmps26
  go_wp2
  go_loopw [3, 4] (fun s i wr => ∃ k : Nat, k ≤ L ∧ i = .int .i64 k ∧ s = .int .i64 (wtS ps k) ∧ Hid (∃ m, wr = w.drewN m)) (fun _ i _ => L - (intOf i).toNat)
  case atStart => exact ⟨0, Nat.zero_le _, rfl, rfl, ⟨0, rfl⟩⟩
  case round =>
    obtain ⟨k, hk, rfl, rfl, hB⟩ := hrel
    have hw := wtS_in (ps := ps) (k := k) (fun j hj => HP.out j (by omega))
    obtain ⟨s, hs⟩ : ∃ s, s = wtS ps k := ⟨_, rfl⟩
    have HS := hidP hs
    rw [← hs] at hw ⊢
    clear hs
    by_cases hlt : k < L
    · obtain ⟨b, off, rfl, c1, c2⟩ := H5.out k hlt
      have hp2 := (HP.out k hlt).2.1
      replace c1 := cell_dq hB.out c1
      replace c2 := cell_dq hB.out c2
      obtain ⟨y, hy⟩ : ∃ y, y = (fr ps k).2 := ⟨_, rfl⟩
      have HY := hidP hy
      rw [← hy] at c2 hp2
      clear hy c1
      have hk1 : s + y ≤ 41000000 := by omega
      have hk0 : 0 ≤ s + y := by omega
      go_wp2
      go_roundw
      case rel => exact ⟨k + 1, by omega, by go_num, by rw [HS.out, HY.out]; rfl, hB.out⟩
      case measure => simp [intOf]; omega
    · obtain rfl : k = L := by omega
      go_wp2
      go_ret
      exact ⟨ret_i HS.out, hB.out⟩


theorem RdR.dq {w W : World} {v : Value} {ps : List Fr} (h : RdR w v ps) (hd : ∃ m, W = w.drewN m) : RdR W v ps := by
  obtain ⟨m, rfl⟩ := hd
  exact h.below (below_drewN (Below.refl _ _) _)

set_option maxHeartbeats 1000000 in
theorem sWgtD_any (v : Value) (ps : List Fr) (w : World) (h : RdR w v ps) :
    Calls Try.prog 12 #[v] w fun e w' => e = .returned (.int .i64 (wgtA ps)) ∧ ∃ m, w' = w.drewN m := by
  have HS := hidP (fun W (hW : ∃ m, W = w.drewN m) => sSprD_any v ps W (h.dq hW))
  have H := hidP h
  obtain ⟨pa, na, ca, rfl⟩ : ∃ a n c, v = .slice a n c := by obtain ⟨a, c, rfl, _⟩ := h; exact ⟨a, _, c, rfl⟩
  obtain ⟨q, hq⟩ : ∃ q, q = sprB ps := ⟨_, rfl⟩
  rw [← hq] at HS
  have HQ := hidP hq
  clear h hq
  go_enter Try.func12, Try.ntmps12
  go_wp2_with fail
  refine (HS.out _ ⟨0, rfl⟩).mono ?_
  rintro e w1 ⟨rfl, hb⟩
  cases q
  · have HA : Hid (wgtA ps = -1) := by show _ = _; unfold wgtA; rw [← HQ.out]; rfl
    go_wp2
    go_ret
    exact ⟨ret_i HA.out.symm, hb⟩
  · obtain ⟨p1, p2, p3⟩ := sprB_out HQ.out.symm
    have HA : Hid (wgtA ps = wtS ps ps.length) := by show _ = _; unfold wgtA; rw [← HQ.out]; rfl
    have HW := hidP (sWtD_any _ ps w1 (H.out.dq hb) p1.2 p2)
    have HB := hidP hb
    rw [← HA.out] at HW
    clear p1 p2 p3 hb
    go_wp2_with fail
    refine HW.out.mono ?_
    rintro e w2 ⟨rfl, m, rfl⟩
    have hbb := hidP (drewQ HB.out m)
    go_wp2
    go_ret
    exact ⟨rfl, hbb.out⟩

set_option maxHeartbeats 1000000 in
theorem sInsideD_any (v : Value) (ps : List Fr) (lo hi : Int) (w : World) (h : RdR w v ps) :
    Calls Try.prog 10 #[v, .int .i64 lo, .int .i64 hi] w fun e w' => e = .returned (.int .i64 (insA ps lo hi)) ∧ ∃ m, w' = w.drewN m := by
  have HS := hidP (fun W (hW : ∃ m, W = w.drewN m) => sSprD_any v ps W (h.dq hW))
  have H := hidP h
  obtain ⟨pa, na, ca, rfl⟩ : ∃ a n c, v = .slice a n c := by obtain ⟨a, c, rfl, _⟩ := h; exact ⟨a, _, c, rfl⟩
  obtain ⟨q, hq⟩ : ∃ q, q = sprB ps := ⟨_, rfl⟩
  rw [← hq] at HS
  have HQ := hidP hq
  clear h hq
  go_enter Try.func10, Try.ntmps10
  go_wp2_with fail
  refine (HS.out _ ⟨0, rfl⟩).mono ?_
  rintro e w1 ⟨rfl, hb⟩
  cases q
  · have HA : Hid (insA ps lo hi = -1) := by show _ = _; unfold insA; rw [← HQ.out]; rfl
    go_wp2
    go_ret
    exact ⟨ret_i HA.out.symm, hb⟩
  · obtain ⟨p1, p2, p3⟩ := sprB_out HQ.out.symm
    have HA : Hid (insA ps lo hi = insS ps lo hi ps.length) := by show _ = _; unfold insA; rw [← HQ.out]; rfl
    have HW := hidP (sInsQ_any _ ps lo hi w1 (H.out.dq hb) p1.2 p2)
    have HB := hidP hb
    rw [← HA.out] at HW
    clear p1 p2 p3 hb
    go_wp2_with fail
    refine HW.out.mono ?_
    rintro e w2 ⟨rfl, rfl⟩
    go_wp2
    go_ret
    exact ⟨rfl, HB.out⟩
end Go.Proofs.Ytaaefebjjjfgbaa
