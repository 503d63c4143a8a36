/- likeRow, likeRows and nought at rows and tables that can be read. -/
import Derived.Test.YtcafdkmgjfakdaaLikeW
import Derived.Test.YtcafdkmgjfakdaaTabW0
import Derived.Test.YtcafdkmgjfakdaaDrawW4
import Derived.Deep.RegionWith
namespace Go.Proofs.Ytcafdkmgjfakdaa
open Go.RowKit Go.Proofs.Ytcafdkmgjfakdaa.RM

theorem hidL {p : Prop} (h : p) : Hid p := h
theorem rdr_cells {w : World} {v : Value} {ps : List Fr} (h : RdR w v ps) (h0 : ps.length ≠ 0) : ∃ b off c, v = .slice (some ⟨b, off, none⟩) ps.length c ∧ b < w.heap.size ∧ ∀ j, j < ps.length → w.cell? ⟨b, off + j * 2, none⟩ = some (.int .i64 (fr ps j).1) ∧ w.cell? ⟨b, off + j * 2 + 1, none⟩ = some (.int .i64 (fr ps j).2) := by
  obtain ⟨a, c, rfl, -, -, -, h5⟩ := h
  obtain ⟨b, off, rfl, k1, k2⟩ := h5 0 (by omega)
  refine ⟨b, off, c, rfl, lt_cell k1, fun j hj => ?_⟩
  obtain ⟨b', off', e, k3, k4⟩ := h5 j hj
  injection e with e
  injection e with e1 e2
  subst e1 e2
  exact ⟨k3, k4⟩
set_option maxRecDepth 100000 in
set_option maxHeartbeats 1000000 in
theorem likeRow_rd (v u : Value) (ps : List Fr) (w : World) (hn2 : ps.length ≤ 1000000000) (h1 : RdR w v ps) (h2 : RdR w u ps) :
    Calls Try.prog 18 #[v, u] w fun e w' => e = .returned (.bool true) ∧ Below w.heap.size w w' := by
  obtain ⟨n, hn⟩ : ∃ n, n = ps.length := ⟨_, rfl⟩
  by_cases h0 : ps.length = 0
  · obtain ⟨a, c, rfl, -, -, -, -⟩ := h1
    obtain ⟨a', c', rfl, -, -, -, -⟩ := h2
    rw [h0]
    clear hn hn2 h0
    go_enter Try.func18, Try.ntmps18
    go_wp2
    go_loop [5] (fun i => i = .int .i64 0) (fun _ => 0)
    case atStart => exact rfl
    case round =>
      subst hrel
      go_wp2
      go_ret
      exact ⟨rfl, Below.refl _ _⟩
  · obtain ⟨g, o, c, rfl, hg, H1'⟩ := rdr_cells h1 h0
    obtain ⟨g', o', c', rfl, hg', H2'⟩ := rdr_cells h2 h0
    rw [← hn] at H1' H2' hn2 h0 ⊢
    have H1 := hidL H1'
    have H2 := hidL H2'
    clear h1 h2 H1' H2' hn
    go_enter Try.func18, Try.ntmps18
    go_wp2
    go_loopw [5] (fun i wr => ∃ k : Nat, k ≤ n ∧ i = .int .i64 k ∧ Hid (Below w.heap.size w wr)) (fun i _ => n - (intOf i).toNat)
    case atStart => exact ⟨0, Nat.zero_le _, rfl, Below.refl _ _⟩
    case round =>
      obtain ⟨k, hk, rfl, hB⟩ := hrel
      by_cases hlt : k < n
      · obtain ⟨c1, c2⟩ := H1.out k hlt
        obtain ⟨c3, c4⟩ := H2.out k hlt
        obtain ⟨p, hp⟩ : ∃ p, p = fr ps k := ⟨_, rfl⟩
        rw [← hp] at c1 c2 c3 c4
        obtain ⟨x, y⟩ := p
        replace c1 := (hB.out.cell (p := ⟨g, o + k * 2, none⟩) hg).trans c1
        replace c2 := (hB.out.cell (p := ⟨g, o + k * 2 + 1, none⟩) hg).trans c2
        replace c3 := (hB.out.cell (p := ⟨g', o' + k * 2, none⟩) hg').trans c3
        replace c4 := (hB.out.cell (p := ⟨g', o' + k * 2 + 1, none⟩) hg').trans c4
        clear hp
        have ht : (x != x) = false := by simp
        have ht2 : (y != y) = false := by simp
        go_wp2
        go_quiet (fail)
        go_wp2
        go_roundw
        case rel => exact ⟨k + 1, by omega, by go_num, below_drewN hB.out _⟩
        case measure => simp [intOf]; omega
      · go_wp2
        go_ret
        exact ⟨rfl, hB.out⟩
set_option maxRecDepth 100000 in
set_option maxHeartbeats 1000000 in
theorem likeRows_rd (v u : Value) (T : List (List Fr)) (w : World) (hn2 : T.length ≤ 1000000000) (hr : ∀ i, i < T.length → (rw' T i).length ≤ 1000000000) (h1 : RdT w v T) (h2 : RdT w u T) :
    Calls Try.prog 10 #[v, u] w fun e w' => e = .returned (.bool true) ∧ Below w.heap.size w w' := by
  have HT1 := hidL h1
  have HT2 := hidL h2
  have HR := hidL hr
  obtain ⟨n, hn⟩ : ∃ n, n = T.length := ⟨_, rfl⟩
  by_cases h0 : T.length = 0
  · obtain ⟨a, c, rfl, -, -, -, -⟩ := h1
    obtain ⟨a', c', rfl, -, -, -, -⟩ := h2
    rw [h0]
    clear hn hn2 h0 HT1 HT2 HR hr
    go_enter Try.func10, Try.ntmps10
    go_wp2
    go_loop [5] (fun i => i = .int .i64 0) (fun _ => 0)
    case atStart => exact rfl
    case round =>
      subst hrel
      go_wp2
      go_ret
      exact ⟨rfl, Below.refl _ _⟩
  · obtain ⟨a, c, rfl, -, -, -, h5⟩ := h1
    obtain ⟨a', c', rfl, -, -, -, h6⟩ := h2
    obtain ⟨g, o, -, rfl, -, -⟩ := h5 0 (by omega)
    obtain ⟨g', o', -, rfl, -, -⟩ := h6 0 (by omega)
    have H1 : Hid (∀ i, i < n → ∃ x, w.cell? ⟨g, o + i, none⟩ = some x ∧ RdR w x (rw' T i)) := fun i hi => by
      obtain ⟨b, off, x, e, k2, k3⟩ := h5 i (by omega)
      injection e with e
      injection e with e1 e2
      subst e1 e2
      exact ⟨x, k2, k3⟩
    have H2 : Hid (∀ i, i < n → ∃ x, w.cell? ⟨g', o' + i, none⟩ = some x ∧ RdR w x (rw' T i)) := fun i hi => by
      obtain ⟨b, off, x, e, k2, k3⟩ := h6 i (by omega)
      injection e with e
      injection e with e1 e2
      subst e1 e2
      exact ⟨x, k2, k3⟩
    rw [← hn] at hn2 h0 ⊢
    have HN := hidL hn
    clear h5 h6 HT1 HT2 hr hn
    go_enter Try.func10, Try.ntmps10
    go_wp2
    go_loopw [5] (fun i wr => ∃ k : Nat, k ≤ n ∧ i = .int .i64 k ∧ Hid (Below w.heap.size w wr)) (fun i _ => n - (intOf i).toNat)
    case atStart => exact ⟨0, Nat.zero_le _, rfl, Below.refl _ _⟩
    case round =>
      obtain ⟨k, hk, rfl, hB⟩ := hrel
      by_cases hlt : k < n
      · obtain ⟨x, c1, q1⟩ := H1.out k hlt
        obtain ⟨y, c2, q2⟩ := H2.out k hlt
        have HC : Hid (∀ W : World, Below w.heap.size w W → Calls Try.prog 18 #[x, y] W fun e w' => e = .returned (.bool true) ∧ Below W.heap.size W w') := fun W hW => likeRow_rd x y (rw' T k) W (HR.out k (by rw [← HN.out]; exact hlt)) (q1.below hW) (q2.below hW)
        replace c1 := cell_keep hB.out c1
        replace c2 := cell_keep hB.out c2
        clear q1 q2
        go_wp2
        go_region_with (go_at_call 18; refine (HC.out _ (by first | exact hB.out | exact hB.out.drew | exact below_drewN hB.out _)).mono ?_; rintro e w1 ⟨rfl, hb⟩; have B1 : Below w.heap.size w w1 := Below.trans (by first | exact hB.out | exact hB.out.drew | exact below_drewN hB.out _) (hb.mono (by simpa using hB.out.size)))
        all_goals
          go_wp2
          go_roundw
          case rel => exact ⟨k + 1, by omega, by go_num, by first | exact B1 | exact B1.drew | exact below_drewN B1 _⟩
          case measure => simp [intOf]; omega
      · go_wp2
        go_ret
        exact ⟨rfl, hB.out⟩
end Go.Proofs.Ytcafdkmgjfakdaa
