/- likeRow, likeRows and nought at rows and tables that can be read. -/
import Derived.Test.YtbbkejfcheobaabLikeW
import Derived.Test.YtbbkejfcheobaabTabW0
import Derived.Test.YtbbkejfcheobaabDrawW4
import Derived.Deep.RegionWith
namespace Go.Proofs.Ytbbkejfcheobaab
open Go.RowKit Go.Proofs.Ytbbkejfcheobaab.RM

theorem hidL {p : Prop} (h : p) : Hid p := h
theorem rdr_cells {w : World} {v : Value} {ps : List Fr} (h : RdR w v ps) (h0 : ps.length ≠ 0) : ∃ b off c, v = .slice (some ⟨b, off, none⟩) ps.length c ∧ b < w.heap.size ∧ ∀ j, j < ps.length → w.cell? ⟨b, off + j * 2, none⟩ = some (.int .i64 (fr ps j).1) ∧ w.cell? ⟨b, off + j * 2 + 1, none⟩ = some (.int .i64 (fr ps j).2) := by
  obtain ⟨a, c, rfl, -, -, -, h5⟩ := h
  obtain ⟨b, off, rfl, k1, k2⟩ := h5 0 (by omega)
  refine ⟨b, off, c, rfl, lt_cell k1, fun j hj => ?_⟩
  obtain ⟨b', off', e, k3, k4⟩ := h5 j hj
  injection e with e
  injection e with e1 e2
  subst e1 e2
  exact ⟨k3, k4⟩
set_option maxRecDepth 100000 in
set_option maxHeartbeats 1000000 in
theorem likeRow_rd (v u : Value) (ps : List Fr) (w : World) (hn2 : ps.length ≤ 1000000000) (h1 : RdR w v ps) (h2 : RdR w u ps) :
    Calls Try.prog 36 #[v, u] w fun e w' => e = .returned (.bool true) ∧ Below w.heap.size w w' := by
  obtain ⟨n, hn⟩ : ∃ n, n = ps.length := ⟨_, rfl⟩
  by_cases h0 : ps.length = 0
  · obtain ⟨a, c, rfl, -, -, -, -⟩ := h1
    obtain ⟨a', c', rfl, -, -, -, -⟩ := h2
    rw [h0]
    clear hn hn2 h0
    go_enter Try.func36, Try.ntmps36
    go_wp2
    go_loop [5] (fun i => i = .int .i64 0) (fun _ => 0)
    case atStart => exact rfl
    case round =>
      subst hrel
      go_wp2
      go_ret
      exact ⟨rfl, Below.refl _ _⟩
  · obtain ⟨g, o, c, rfl, hg, H1'⟩ := rdr_cells h1 h0
    obtain ⟨g', o', c', rfl, hg', H2'⟩ := rdr_cells h2 h0
    rw [← hn] at H1' H2' hn2 h0 ⊢
    have H1 := hidL H1'
    have H2 := hidL H2'
    clear h1 h2 H1' H2' hn
    go_enter Try.func36, Try.ntmps36
    go_wp2
    go_loopw [5] (fun i wr => ∃ k : Nat, k ≤ n ∧ i = .int .i64 k ∧ Hid (Below w.heap.size w wr)) (fun i _ => n - (intOf i).toNat)
    case atStart => exact ⟨0, Nat.zero_le _, rfl, Below.refl _ _⟩
    case round =>
      obtain ⟨k, hk, rfl, hB⟩ := hrel
      by_cases hlt : k < n
      · obtain ⟨c1, c2⟩ := H1.out k hlt
        obtain ⟨c3, c4⟩ := H2.out k hlt
        obtain ⟨p, hp⟩ : ∃ p, p = fr ps k := ⟨_, rfl⟩
        rw [← hp] at c1 c2 c3 c4
        obtain ⟨x, y⟩ := p
        replace c1 := (hB.out.cell (p := ⟨g, o + k * 2, none⟩) hg).trans c1
        replace c2 := (hB.out.cell (p := ⟨g, o + k * 2 + 1, none⟩) hg).trans c2
        replace c3 := (hB.out.cell (p := ⟨g', o' + k * 2, none⟩) hg').trans c3
        replace c4 := (hB.out.cell (p := ⟨g', o' + k * 2 + 1, none⟩) hg').trans c4
        clear hp
        have ht : (x != x) = false := by simp
        have ht2 : (y != y) = false := by simp
        go_wp2
        go_quiet (fail)
        go_wp2
        go_roundw
        case rel => exact ⟨k + 1, by omega, by go_num, below_drewN hB.out _⟩
        case measure => simp [intOf]; omega
      · go_wp2
        go_ret
        exact ⟨rfl, hB.out⟩
set_option maxRecDepth 100000 in
set_option maxHeartbeats 1000000 in
theorem likeRows_rd (v u : Value) (T : List (List Fr)) (w : World) (hn2 : T.length ≤ 1000000000) (hr : ∀ i, i < T.length → (rw' T i).length ≤ 1000000000) (h1 : RdT w v T) (h2 : RdT w u T) :
    Calls Try.prog 22 #[v, u] w fun e w' => e = .returned (.bool true) ∧ Below w.heap.size w w' := by
  have HT1 := hidL h1
  have HT2 := hidL h2
  have HR := hidL hr
  obtain ⟨n, hn⟩ : ∃ n, n = T.length := ⟨_, rfl⟩
  by_cases h0 : T.length = 0
  · obtain ⟨a, c, rfl, -, -, -, -⟩ := h1
    obtain ⟨a', c', rfl, -, -, -, -⟩ := h2
    rw [h0]
    clear hn hn2 h0 HT1 HT2 HR hr
    go_enter Try.func22, Try.ntmps22
    go_wp2
    go_loop [5] (fun i => i = .int .i64 0) (fun _ => 0)
    case atStart => exact rfl
    case round =>
      subst hrel
      go_wp2
      go_ret
      exact ⟨rfl, Below.refl _ _⟩
  · obtain ⟨a, c, rfl, -, -, -, h5⟩ := h1
    obtain ⟨a', c', rfl, -, -, -, h6⟩ := h2
    obtain ⟨g, o, -, rfl, -, -⟩ := h5 0 (by omega)
    obtain ⟨g', o', -, rfl, -, -⟩ := h6 0 (by omega)
    have H1 : Hid (∀ i, i < n → ∃ x, w.cell? ⟨g, o + i, none⟩ = some x ∧ RdR w x (rw' T i)) := fun i hi => by
      obtain ⟨b, off, x, e, k2, k3⟩ := h5 i (by omega)
      injection e with e
      injection e with e1 e2
      subst e1 e2
      exact ⟨x, k2, k3⟩
    have H2 : Hid (∀ i, i < n → ∃ x, w.cell? ⟨g', o' + i, none⟩ = some x ∧ RdR w x (rw' T i)) := fun i hi => by
      obtain ⟨b, off, x, e, k2, k3⟩ := h6 i (by omega)
      injection e with e
      injection e with e1 e2
      subst e1 e2
      exact ⟨x, k2, k3⟩
    rw [← hn] at hn2 h0 ⊢
    have HN := hidL hn
    clear h5 h6 HT1 HT2 hr hn
    go_enter Try.func22, Try.ntmps22
    go_wp2
    go_loopw [5] (fun i wr => ∃ k : Nat, k ≤ n ∧ i = .int .i64 k ∧ Hid (Below w.heap.size w wr)) (fun i _ => n - (intOf i).toNat)
    case atStart => exact ⟨0, Nat.zero_le _, rfl, Below.refl _ _⟩
    case round =>
      obtain ⟨k, hk, rfl, hB⟩ := hrel
      by_cases hlt : k < n
      · obtain ⟨x, c1, q1⟩ := H1.out k hlt
        obtain ⟨y, c2, q2⟩ := H2.out k hlt
        have HC : Hid (∀ W : World, Below w.heap.size w W → Calls Try.prog 36 #[x, y] W fun e w' => e = .returned (.bool true) ∧ Below W.heap.size W w') := fun W hW => likeRow_rd x y (rw' T k) W (HR.out k (by rw [← HN.out]; exact hlt)) (q1.below hW) (q2.below hW)
        replace c1 := cell_keep hB.out c1
        replace c2 := cell_keep hB.out c2
        clear q1 q2
        go_wp2
        go_region_with (go_at_call 36; refine (HC.out _ (by first | exact hB.out | exact hB.out.drew | exact below_drewN hB.out _)).mono ?_; rintro e w1 ⟨rfl, hb⟩; have B1 : Below w.heap.size w w1 := Below.trans (by first | exact hB.out | exact hB.out.drew | exact below_drewN hB.out _) (hb.mono (by simpa using hB.out.size)))
        all_goals
          go_wp2
          go_roundw
          case rel => exact ⟨k + 1, by omega, by go_num, by first | exact B1 | exact B1.drew | exact below_drewN B1 _⟩
          case measure => simp [intOf]; omega
      · go_wp2
        go_ret
        exact ⟨rfl, hB.out⟩
set_option maxRecDepth 100000 in
set_option maxHeartbeats 1000000 in
theorem nought_no (v : Value) (ps : List Fr) (j : Nat) (w : World) (hj : j < ps.length) (hne : fr ps j ≠ (0, 1)) (hn2 : ps.length ≤ 1000000000) (h1 : RdR w v ps) :
    Calls Try.prog 32 #[v] w fun e w' => e = .returned (.bool false) ∧ Below w.heap.size w w' := by
  obtain ⟨n, hn⟩ : ∃ n, n = ps.length := ⟨_, rfl⟩
  obtain ⟨g, o, c, rfl, hg, H1'⟩ := rdr_cells h1 (by omega)
  rw [← hn] at H1' hn2 hj ⊢
  have H1 := hidL H1'
  have HJ : Hid (¬ ∀ i, i < n → fr ps i = (0, 1)) := fun h => hne (h j hj)
  have HC : Hid (∀ W : World, Calls Try.prog 29 #[.int .i64 0] W fun e w' => e = .returned (.agg #[.int .i64 0, .int .i64 1]) ∧ Below W.heap.size W w') := fun W => (whole_any 0 W).mono fun e w' ⟨he, hw⟩ => ⟨he, by rw [hw]; exact (Below.refl _ _).alloc (Nat.le_refl _) _⟩
  clear h1 H1' hn hj hne
  go_enter Try.func32, Try.ntmps32
  go_wp2
  go_loopw [3] (fun i wr => ∃ k : Nat, k ≤ n ∧ i = .int .i64 k ∧ Hid (∀ i, i < k → fr ps i = (0, 1)) ∧ Hid (Below w.heap.size w wr)) (fun i _ => n - (intOf i).toNat)
  case atStart => exact ⟨0, Nat.zero_le _, rfl, fun i hi => absurd hi (Nat.not_lt_zero _), Below.refl _ _⟩
  case round =>
    obtain ⟨k, hk, rfl, hN, hB⟩ := hrel
    by_cases hlt : k < n
    · obtain ⟨c1, c2⟩ := H1.out k hlt
      obtain ⟨p, hp⟩ : ∃ p, p = fr ps k := ⟨_, rfl⟩
      rw [← hp] at c1 c2
      replace c1 := (hB.out.cell (p := ⟨g, o + k * 2, none⟩) hg).trans c1
      replace c2 := (hB.out.cell (p := ⟨g, o + k * 2 + 1, none⟩) hg).trans c2
      by_cases hz : p = (0, 1)
      · have HN2 : Hid (∀ i, i < k + 1 → fr ps i = (0, 1)) := fun i hi => by
          by_cases e : i = k
          · rw [e, ← hp, hz]
          · exact hN.out i (by omega)
        subst hz
        simp only at c1 c2
        clear hp hN
        go_wp2
        go_region_with (go_at_call 29; refine (HC.out _).mono ?_; rintro e w1 ⟨rfl, hb⟩; have hbd : Below wr.heap.size wr w1 := (by first | exact hb | exact ((Below.refl _ _).drew).trans (hb.mono (by simp))); have d1 := cell_keep hbd c1; have d2 := cell_keep hbd c2; have B1 : Below w.heap.size w w1 := Below.trans (by first | exact hB.out | exact hB.out.drew | exact below_drewN hB.out _) (hb.mono (by simpa using hB.out.size)))
        all_goals
          go_wp2
          go_roundw
          case rel => exact ⟨k + 1, by omega, by go_num, HN2, by first | exact B1 | exact B1.drew | exact below_drewN B1 _⟩
          case measure => simp [intOf]; omega
      · obtain ⟨x, y⟩ := p
        simp only at c1 c2
        clear hN
        by_cases h0 : x = 0
        · subst h0
          have h1 : y ≠ 1 := fun h1 => hz (by rw [h1])
          have e1 : (y != 1) = true := by simpa using h1
          have e2 : (y == 1) = false := by simpa using h1
          clear hz hp
          go_wp2
          go_region_with (go_at_call 29; refine (HC.out _).mono ?_; rintro e w1 ⟨rfl, hb⟩; have hbd : Below wr.heap.size wr w1 := (by first | exact hb | exact ((Below.refl _ _).drew).trans (hb.mono (by simp))); have d1 := cell_keep hbd c1; have d2 := cell_keep hbd c2; have B1 : Below w.heap.size w w1 := Below.trans (by first | exact hB.out | exact hB.out.drew | exact below_drewN hB.out _) (hb.mono (by simpa using hB.out.size)))
          all_goals
            go_wp2
            go_ret
            exact ⟨rfl, by first | exact B1 | exact B1.drew | exact below_drewN B1 _⟩
        · have e1 : (x != 0) = true := by simpa using h0
          have e2 : (x == 0) = false := by simpa using h0
          clear hz hp
          go_wp2
          go_region_with (go_at_call 29; refine (HC.out _).mono ?_; rintro e w1 ⟨rfl, hb⟩; have hbd : Below wr.heap.size wr w1 := (by first | exact hb | exact ((Below.refl _ _).drew).trans (hb.mono (by simp))); have d1 := cell_keep hbd c1; have d2 := cell_keep hbd c2; have B1 : Below w.heap.size w w1 := Below.trans (by first | exact hB.out | exact hB.out.drew | exact below_drewN hB.out _) (hb.mono (by simpa using hB.out.size)))
          all_goals
            go_wp2
            go_ret
            exact ⟨rfl, by first | exact B1 | exact B1.drew | exact below_drewN B1 _⟩
    · exact (HJ.out fun i hi => hN.out i (by omega)).elim
end Go.Proofs.Ytbbkejfcheobaab
