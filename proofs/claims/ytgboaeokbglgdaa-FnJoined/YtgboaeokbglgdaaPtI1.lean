/- The walks of the program's SpreadOk, Inside and Weight. -/
import Derived.Test.YtgboaeokbglgdaaPtW2
namespace Go.Proofs.Ytgboaeokbglgdaa
open Go.RowKit Go.Proofs.Ytgboaeokbglgdaa.RM

theorem wtS_pos {ps : List Fr} {k : Nat} (h : ∀ j, j < k → ptP ps j) : 0 ≤ wtS ps k := (wtS_in h).1
theorem wtS_mono {ps : List Fr} {n : Nat} (h : ∀ j, j < n → ptP ps j) : ∀ {k : Nat}, k ≤ n → wtS ps k ≤ wtS ps n := by
  induction n with
  | zero => intro k hk; rw [show k = 0 by omega]; exact Int.le_refl _
  | succ n ih =>
    intro k hk
    by_cases e : k = n + 1
    · subst e; exact Int.le_refl _
    · have h1 := ih (fun j hj => h j (by omega)) (k := k) (by omega)
      have h2 := (h n (by omega)).2.1
      show _ ≤ wtS ps n + (fr ps n).2
      omega
/-- too heavy already ahead of the end -/
theorem sprB_heavy {ps : List Fr} {k : Nat} (hk : k < ps.length) (h : 1000000 < wtS ps k + (fr ps k).2) : sprB ps = false := decide_eq_false fun q => by
  have := wtS_mono (n := ps.length) (fun j hj => q.2.1 j hj) (k := k + 1) (by omega)
  have e : wtS ps (k + 1) = wtS ps k + (fr ps k).2 := rfl
  have := q.2.2
  omega

set_option maxRecDepth 100000 in
set_option maxHeartbeats 8000000 in
theorem iSpr_any (v : Value) (ps : List Fr) (w : World) (h : RdR w v ps) :
    Calls Try.prog 13 #[v] w fun e w' => e = .returned (.bool (sprB ps)) ∧ Below w.heap.size w w' := by
  obtain ⟨a, c, rfl, h2, h3, h4, h5⟩ := h
  have H5 : Hid (∀ j, j < ps.length → ∃ b off, a = some ⟨b, off, none⟩ ∧ w.cell? ⟨b, off + j * 2, none⟩ = some (.int .i64 (fr ps j).1) ∧ w.cell? ⟨b, off + j * 2 + 1, none⟩ = some (.int .i64 (fr ps j).2)) := h5
  unfold maxLen at h2
  obtain ⟨L, hL⟩ : ∃ L, L = ps.length := ⟨_, rfl⟩
  have HL := hidP hL
  rw [← hL] at h2 H5 ⊢
  clear h5 h3 h4 hL
  by_cases n0 : L < 1
  · have HF : Hid (sprB ps = false) := sprB_len (by have := HL.out; omega)
    go_enter Try.func13, Try.ntmps13
    go_wp2
    go_ret
    exact ⟨ret_b HF.out.symm, Below.refl _ _⟩
  by_cases n1 : 40 < L
  · have HF : Hid (sprB ps = false) := sprB_len (by have := HL.out; omega)
    go_enter Try.func13, Try.ntmps13
    go_wp2
    go_ret
    exact ⟨ret_b HF.out.symm, Below.refl _ _⟩
  go_enter Try.func13, Try.ntmps13
  go_wp2
  go_loopw [3, 16] (fun s i wr => ∃ k : Nat, k ≤ L ∧ i = .int .i64 k ∧ s = .int .i64 (1000000 - wtS ps k) ∧ wtS ps k ≤ 1000000 ∧ Hid (Below w.heap.size w wr) ∧ Hid (∀ j, j < k → ptP ps j)) (fun _ i _ => L - (intOf i).toNat)
  case atStart => exact ⟨0, Nat.zero_le _, rfl, by show _ = Value.int .i64 (1000000 - 0); rfl, (by show (0 : Int) ≤ 1000000; omega), Below.refl _ _, fun j hj => absurd hj (Nat.not_lt_zero _)⟩
  case round =>
    obtain ⟨k, hk, rfl, rfl, hw1, hB, HP⟩ := hrel
    have hw := wtS_pos HP.out
    obtain ⟨s, hs⟩ : ∃ s, s = wtS ps k := ⟨_, rfl⟩
    have HS := hidP hs
    rw [← hs] at hw hw1 ⊢
    clear hs
    by_cases hlt : k < L
    · obtain ⟨b, off, rfl, c1, c2⟩ := H5.out k hlt
      replace c1 := cell_keep hB.out c1
      replace c2 := cell_keep hB.out c2
      obtain ⟨p, hp⟩ : ∃ p, p = fr ps k := ⟨_, rfl⟩
      have HQ := hidP hp
      rw [← hp] at c1 c2
      obtain ⟨x, y⟩ := p
      dsimp only at c1 c2
      clear hp
      go_upto_region 7 with fail
      have hb : Below wr.heap.size wr (wr.alloc (.cells #[.int .i64 x, .int .i64 y] 44)) := (Below.refl _ _).alloc (Nat.le_refl _) _
      obtain ⟨X, hX⟩ : ∃ X, X = wr.alloc (.cells #[.int .i64 x, .int .i64 y] 44) := ⟨_, rfl⟩
      obtain ⟨Pb, hPb⟩ : ∃ P, P = wr.heap.size := ⟨_, rfl⟩
      have p1 : X.cell? ⟨Pb, 0, none⟩ = some (.int .i64 x) := by rw [hX, hPb]; simp [go_sem]
      have p2 : X.cell? ⟨Pb, 1, none⟩ = some (.int .i64 y) := by rw [hX, hPb]; simp [go_sem]
      rw [← hX] at hb
      rw [← hX, ← hPb]
      replace hB := hidP (hB.out.trans (hb.mono hB.out.size))
      clear hX hPb hb c1 c2
      by_cases hkz : k = 0
      · subst hkz
        by_cases g1 : x < -1000
        · have HF : Hid (sprB ps = false) := sprB_pt (k := 0) (by rw [← HL.out]; exact hlt) (fun q => by have := q.1; rw [← HQ.out] at this; dsimp only at this; omega)
          have d2 : decide (x < -1000) = true := decide_eq_true g1
          go_quiet (fail)
          go_wp2
          go_ret
          exact ⟨ret_b HF.out.symm, by first | exact hB.out | exact below_drewN hB.out _⟩
        have d2 : decide (x < -1000) = false := decide_eq_false g1
        by_cases g2 : 1000 < x
        · have HF : Hid (sprB ps = false) := sprB_pt (k := 0) (by rw [← HL.out]; exact hlt) (fun q => by have := q.1; rw [← HQ.out] at this; dsimp only at this; omega)
          have d3 : decide (1000 < x) = true := decide_eq_true g2
          go_quiet (fail)
          go_wp2
          go_ret
          exact ⟨ret_b HF.out.symm, by first | exact hB.out | exact below_drewN hB.out _⟩
        have d3 : decide (1000 < x) = false := decide_eq_false g2
        go_quiet (fail)
        go_upto_region 9 with fail
        by_cases g4 : y < 1
        · have HF : Hid (sprB ps = false) := sprB_pt (k := 0) (by rw [← HL.out]; exact hlt) (fun q => by have := q.2.1; rw [← HQ.out] at this; dsimp only at this; omega)
          have d4 : decide (y < 1) = true := decide_eq_true g4
          go_wp2
          go_ret
          exact ⟨ret_b HF.out.symm, by first | exact hB.out | exact below_drewN hB.out _⟩
        have d4 : decide (y < 1) = false := decide_eq_false g4
        by_cases g5 : 1000000 - s < y
        · have HF : Hid (sprB ps = false) := sprB_heavy (k := 0) (by rw [← HL.out]; exact hlt) (by rw [← HS.out, ← HQ.out]; dsimp only; omega)
          have d5 : decide (1000000 - s < y) = true := decide_eq_true g5
          go_wp2
          go_ret
          exact ⟨ret_b HF.out.symm, by first | exact hB.out | exact below_drewN hB.out _⟩
        have d5 : decide (1000000 - s < y) = false := decide_eq_false g5
        have hn1 : s + y ≤ 1000000 := by omega
        have hn0 : 0 ≤ 1000000 - s - y := by omega
        have HN : Hid (1000000 - s - y = 1000000 - wtS ps (0 + 1)) := by
          show _ = _
          show _ = 1000000 - (wtS ps (0) + (fr ps (0)).2)
          rw [← HS.out, ← HQ.out]
          dsimp only
          omega
        have HN2 : Hid (wtS ps (0 + 1) ≤ 1000000) := by
          have := HN.out
          show _ ≤ _
          omega
        have HP' : Hid (∀ j, j < 0 + 1 → ptP ps j) := by
          intro j hj
          by_cases e : j = 0
          · subst e
            exact ⟨by rw [← HQ.out]; dsimp only; omega, by rw [← HQ.out]; dsimp only; omega, fun h => absurd h (by omega)⟩
          · exact HP.out j (by omega)
        go_wp2
        go_roundw
        case rel => exact ⟨0 + 1, by omega, by go_num, by rw [HN.out], HN2.out, by first | exact hB.out | exact below_drewN (below_drewN hB.out _) _ | exact below_drewN hB.out _, HP'⟩
        case measure => simp [intOf]; omega
      · obtain ⟨m, rfl⟩ : ∃ m, k = m + 1 := ⟨k - 1, by omega⟩
        obtain ⟨b', off', e, d1, d2'⟩ := H5.out m (by omega)
        cases e
        replace d1 := cell_keep hB.out d1
        obtain ⟨z, hz⟩ : ∃ z, z = (fr ps m).1 := ⟨_, rfl⟩
        have HZ := hidP hz
        rw [← hz] at d1
        clear hz d2'
        have hm0 : (0 : Int) < (m : Int) + 1 := by omega
        by_cases g3 : x ≤ z
        · have hnl : decide (x ≤ z) = true := decide_eq_true g3
          have HF : Hid (sprB ps = false) := sprB_pt (k := m + 1) (by rw [← HL.out]; exact hlt) (fun q => by have := q.2.2 (by omega); rw [← HQ.out, Nat.add_sub_cancel, ← HZ.out] at this; dsimp only at this; omega)
          go_quiet (fail)
          go_wp2
          go_ret
          exact ⟨ret_b HF.out.symm, by first | exact hB.out | exact below_drewN hB.out _⟩
        have hnl : decide (x ≤ z) = false := decide_eq_false g3
        by_cases g1 : x < -1000
        · have HF : Hid (sprB ps = false) := sprB_pt (k := (m + 1)) (by rw [← HL.out]; exact hlt) (fun q => by have := q.1; rw [← HQ.out] at this; dsimp only at this; omega)
          have d2 : decide (x < -1000) = true := decide_eq_true g1
          go_quiet (fail)
          go_wp2
          go_ret
          exact ⟨ret_b HF.out.symm, by first | exact hB.out | exact below_drewN hB.out _⟩
        have d2 : decide (x < -1000) = false := decide_eq_false g1
        by_cases g2 : 1000 < x
        · have HF : Hid (sprB ps = false) := sprB_pt (k := (m + 1)) (by rw [← HL.out]; exact hlt) (fun q => by have := q.1; rw [← HQ.out] at this; dsimp only at this; omega)
          have d3 : decide (1000 < x) = true := decide_eq_true g2
          go_quiet (fail)
          go_wp2
          go_ret
          exact ⟨ret_b HF.out.symm, by first | exact hB.out | exact below_drewN hB.out _⟩
        have d3 : decide (1000 < x) = false := decide_eq_false g2
        go_quiet (fail)
        go_upto_region 9 with fail
        by_cases g4 : y < 1
        · have HF : Hid (sprB ps = false) := sprB_pt (k := (m + 1)) (by rw [← HL.out]; exact hlt) (fun q => by have := q.2.1; rw [← HQ.out] at this; dsimp only at this; omega)
          have d4 : decide (y < 1) = true := decide_eq_true g4
          go_wp2
          go_ret
          exact ⟨ret_b HF.out.symm, by first | exact hB.out | exact below_drewN hB.out _⟩
        have d4 : decide (y < 1) = false := decide_eq_false g4
        by_cases g5 : 1000000 - s < y
        · have HF : Hid (sprB ps = false) := sprB_heavy (k := (m + 1)) (by rw [← HL.out]; exact hlt) (by rw [← HS.out, ← HQ.out]; dsimp only; omega)
          have d5 : decide (1000000 - s < y) = true := decide_eq_true g5
          go_wp2
          go_ret
          exact ⟨ret_b HF.out.symm, by first | exact hB.out | exact below_drewN hB.out _⟩
        have d5 : decide (1000000 - s < y) = false := decide_eq_false g5
        have hn1 : s + y ≤ 1000000 := by omega
        have hn0 : 0 ≤ 1000000 - s - y := by omega
        have HN : Hid (1000000 - s - y = 1000000 - wtS ps ((m + 1) + 1)) := by
          show _ = _
          show _ = 1000000 - (wtS ps ((m + 1)) + (fr ps ((m + 1))).2)
          rw [← HS.out, ← HQ.out]
          dsimp only
          omega
        have HN2 : Hid (wtS ps ((m + 1) + 1) ≤ 1000000) := by
          have := HN.out
          show _ ≤ _
          omega
        have HP' : Hid (∀ j, j < (m + 1) + 1 → ptP ps j) := by
          intro j hj
          by_cases e : j = (m + 1)
          · subst e
            exact ⟨by rw [← HQ.out]; dsimp only; omega, by rw [← HQ.out]; dsimp only; omega, fun _ => by rw [← HQ.out, Nat.add_sub_cancel, ← HZ.out]; dsimp only; omega⟩
          · exact HP.out j (by omega)
        go_wp2
        go_roundw
        case rel => exact ⟨(m + 1) + 1, by omega, by go_num, by rw [HN.out], HN2.out, by first | exact hB.out | exact below_drewN (below_drewN hB.out _) _ | exact below_drewN hB.out _, HP'⟩
        case measure => simp [intOf]; omega
    · obtain rfl : k = L := by omega
      have HF : Hid (sprB ps = true) := decide_eq_true ⟨by have := HL.out; omega, fun j hj => HP.out j (by have := HL.out; omega), by rw [← HL.out, ← HS.out]; exact hw1⟩
      go_wp2
      go_ret
      exact ⟨ret_b HF.out.symm, hB.out⟩

set_option maxRecDepth 100000 in
set_option maxHeartbeats 4000000 in
theorem iInside_any (v : Value) (ps : List Fr) (lo hi : Int) (w : World) (h : RdR w v ps) :
    Calls Try.prog 26 #[v, .int .i64 lo, .int .i64 hi] w fun e w' => e = .returned (.int .i64 (insA ps lo hi)) ∧ Below w.heap.size w w' := by
  have HS := hidP (fun W (hW : Below w.heap.size w W) => iSpr_any v ps W (h.below hW))
  obtain ⟨a, c, rfl, h2, h3, h4, h5⟩ := h
  have H5 : Hid (∀ j, j < ps.length → ∃ b off, a = some ⟨b, off, none⟩ ∧ w.cell? ⟨b, off + j * 2, none⟩ = some (.int .i64 (fr ps j).1) ∧ w.cell? ⟨b, off + j * 2 + 1, none⟩ = some (.int .i64 (fr ps j).2)) := h5
  unfold maxLen at h2
  obtain ⟨q, hq⟩ : ∃ q, q = sprB ps := ⟨_, rfl⟩
  rw [← hq] at HS
  have HQ := hidP hq
  obtain ⟨L, hL⟩ : ∃ L, L = ps.length := ⟨_, rfl⟩
  have HL := hidP hL
  rw [← hL] at h2 H5 HS ⊢
  clear h5 h3 h4 hL hq
  go_enter Try.func26, Try.ntmps26
  go_wp2_with fail
  refine (HS.out _ (Below.refl _ _)).mono ?_
  rintro e w1 ⟨rfl, hb⟩
  have BK := hidP hb
  clear hb
  cases q
  · have HA : Hid (insA ps lo hi = -1) := by show _ = _; unfold insA; rw [← HQ.out]; rfl
    go_wp2
    go_ret
    exact ⟨ret_i HA.out.symm, BK.out⟩
  have HP : Hid (L ≤ 40 ∧ ∀ k, k < L → ptP ps k) := by
    have := sprB_out HQ.out.symm
    rw [HL.out]; exact ⟨this.1.2, this.2.1⟩
  have HA : Hid (insA ps lo hi = insS ps lo hi L) := by show _ = _; unfold insA; rw [← HQ.out, HL.out]; rfl
  have hL40 := HP.out.1
  clear HS
  go_wp2
  go_loopw [7, 15] (fun s i wr => ∃ k : Nat, k ≤ L ∧ i = .int .i64 k ∧ s = .int .i64 (insS ps lo hi k) ∧ Hid (Below w.heap.size w wr)) (fun _ i _ => L - (intOf i).toNat)
  case atStart => exact ⟨0, Nat.zero_le _, rfl, rfl, BK.out⟩
  case round =>
    clear BK
    obtain ⟨k, hk, rfl, rfl, hB⟩ := hrel
    have hw := wtS_in (ps := ps) (k := k) (fun j hj => HP.out.2 j (by omega))
    have hw2 := insS_in (ps := ps) (lo := lo) (hi := hi) (k := k) (fun j hj => HP.out.2 j (by omega))
    obtain ⟨s, hs⟩ : ∃ s, s = insS ps lo hi k := ⟨_, rfl⟩
    have HS := hidP hs
    rw [← hs] at hw2 ⊢
    have hsk : s ≤ 40000000 := by omega
    have hs0 := hw2.1
    clear hs hw hw2
    by_cases hlt : k < L
    · obtain ⟨b, off, rfl, c1, c2⟩ := H5.out k hlt
      have hp2 := (HP.out.2 k hlt).2.1
      replace c1 := cell_keep hB.out c1
      replace c2 := cell_keep hB.out c2
      obtain ⟨p, hp⟩ : ∃ p, p = fr ps k := ⟨_, rfl⟩
      have HQ := hidP hp
      rw [← hp] at c1 c2 hp2
      obtain ⟨x, y⟩ := p
      dsimp only at c1 c2 hp2
      clear hp
      have hk1 : s + y ≤ 41000000 := by omega
      have hk0 : 0 ≤ s + y := by omega
      go_upto_region 7 with fail
      have hb : Below wr.heap.size wr (wr.alloc (.cells #[.int .i64 x, .int .i64 y] 44)) := (Below.refl _ _).alloc (Nat.le_refl _) _
      obtain ⟨X, hX⟩ : ∃ X, X = wr.alloc (.cells #[.int .i64 x, .int .i64 y] 44) := ⟨_, rfl⟩
      obtain ⟨Pb, hPb⟩ : ∃ P, P = wr.heap.size := ⟨_, rfl⟩
      have p1 : X.cell? ⟨Pb, 0, none⟩ = some (.int .i64 x) := by rw [hX, hPb]; simp [go_sem]
      have p2 : X.cell? ⟨Pb, 1, none⟩ = some (.int .i64 y) := by rw [hX, hPb]; simp [go_sem]
      rw [← hX] at hb
      rw [← hX, ← hPb]
      replace hB := hidP (hB.out.trans (hb.mono hB.out.size))
      clear hX hPb hb c1 c2
      by_cases g1 : lo ≤ x
      · have d1 : decide (lo ≤ x) = true := decide_eq_true g1
        by_cases g2 : x ≤ hi
        · have d2 : decide (x ≤ hi) = true := decide_eq_true g2
          have HN : Hid (insS ps lo hi (k + 1) = s + y) := by
            show (if lo ≤ (fr ps k).1 ∧ (fr ps k).1 ≤ hi then insS ps lo hi k + (fr ps k).2 else insS ps lo hi k) = _
            rw [← HQ.out, if_pos ⟨g1, g2⟩, ← HS.out]
          go_wp2
          go_roundw
          case rel => exact ⟨k + 1, by omega, by go_num, by rw [HN.out], by first | exact hB.out | exact below_drewN hB.out _⟩
          case measure => simp [intOf]; omega
        · have d2 : decide (x ≤ hi) = false := decide_eq_false g2
          have HN : Hid (insS ps lo hi (k + 1) = s) := by
            show (if lo ≤ (fr ps k).1 ∧ (fr ps k).1 ≤ hi then insS ps lo hi k + (fr ps k).2 else insS ps lo hi k) = _
            rw [← HQ.out, if_neg (fun z => g2 z.2), ← HS.out]
          go_wp2
          go_roundw
          case rel => exact ⟨k + 1, by omega, by go_num, by rw [HN.out], by first | exact hB.out | exact below_drewN hB.out _⟩
          case measure => simp [intOf]; omega
      · have d1 : decide (lo ≤ x) = false := decide_eq_false g1
        have HN : Hid (insS ps lo hi (k + 1) = s) := by
          show (if lo ≤ (fr ps k).1 ∧ (fr ps k).1 ≤ hi then insS ps lo hi k + (fr ps k).2 else insS ps lo hi k) = _
          rw [← HQ.out, if_neg (fun z => g1 z.1), ← HS.out]
        go_wp2
        go_roundw
        case rel => exact ⟨k + 1, by omega, by go_num, by rw [HN.out], by first | exact hB.out | exact below_drewN hB.out _⟩
        case measure => simp [intOf]; omega
    · obtain rfl : k = L := by omega
      have HN : Hid (s = insA ps lo hi) := by show _ = _; rw [HA.out, HS.out]
      go_wp2
      go_ret
      exact ⟨ret_i HN.out, hB.out⟩
/-- all of a spread lies between the two ends of what a spread may hold -/
theorem wgt_ins (ps : List Fr) : wgtA ps = insA ps (-1000) 1000 := by
  unfold wgtA insA
  by_cases h : sprB ps = true
  · rw [if_pos h, if_pos h]
    have hP := (sprB_out h).2.1
    have : ∀ k, k ≤ ps.length → insS ps (-1000) 1000 k = wtS ps k := by
      intro k
      induction k with
      | zero => intro _; rfl
      | succ k ih =>
        intro hk
        show (if -1000 ≤ (fr ps k).1 ∧ (fr ps k).1 ≤ 1000 then insS ps (-1000) 1000 k + (fr ps k).2 else insS ps (-1000) 1000 k) = wtS ps k + (fr ps k).2
        rw [if_pos (hP k (by omega)).1, ih (by omega)]
    exact (this _ (Nat.le_refl _)).symm
  · rw [if_neg h, if_neg h]

set_option maxHeartbeats 1000000 in
theorem iWeight_any (v : Value) (ps : List Fr) (w : World) (h : RdR w v ps) :
    Calls Try.prog 11 #[v] w fun e w' => e = .returned (.int .i64 (wgtA ps)) ∧ Below w.heap.size w w' := by
  have HI := hidP (fun W (hW : Below w.heap.size w W) => iInside_any v ps (-1000) 1000 W (h.below hW))
  rw [← wgt_ins] at HI
  obtain ⟨a, c, rfl, _⟩ := h
  go_enter Try.func11, Try.ntmps11
  go_wp2_with fail
  refine (HI.out _ (Below.refl _ _)).mono ?_
  rintro e w1 ⟨rfl, hb⟩
  go_wp2
  go_ret
  exact ⟨rfl, hb⟩
end Go.Proofs.Ytgboaeokbglgdaa
