/- The walks of the program's test of a table, and of two tables held against each other. -/
import Derived.Test.YthdogphpjflklaaTabW2
import Derived.Test.YthdogphpjflklaaRowUp
namespace Go.Proofs.Ythdogphpjflklaa
open Go.RowKit Go.Proofs.Ythdogphpjflklaa.RM

set_option maxRecDepth 100000 in
set_option maxHeartbeats 1000000 in
theorem eqS_any (v u : Value) (ps : List Fr) (w : World) (h : RdR w v ps) (h' : RdR w u ps) :
    Calls Try.prog 22 #[v, u] w fun e w' => e = .returned (.bool true) ∧ Below w.heap.size w w' := by
  obtain ⟨a, c, rfl, h2, h3, h4, h5⟩ := h
  obtain ⟨a', c', rfl, _, _, _, h5'⟩ := h'
  have H5 : Hid (∀ j, j < ps.length → ∃ b off, a = some ⟨b, off, none⟩ ∧ w.cell? ⟨b, off + j * 2, none⟩ = some (.int .i64 (fr ps j).1) ∧ w.cell? ⟨b, off + j * 2 + 1, none⟩ = some (.int .i64 (fr ps j).2)) := h5
  have H6 : Hid (∀ j, j < ps.length → ∃ b off, a' = some ⟨b, off, none⟩ ∧ w.cell? ⟨b, off + j * 2, none⟩ = some (.int .i64 (fr ps j).1) ∧ w.cell? ⟨b, off + j * 2 + 1, none⟩ = some (.int .i64 (fr ps j).2)) := h5'
  unfold maxLen at h2
  clear h5 h5' h3 h4
  go_enter Try.func22, Try.ntmps22
  go_wp2
  go_loopw [5] (fun i wr => ∃ k : Nat, k ≤ ps.length ∧ i = .int .i64 k ∧ Hid (Below w.heap.size w wr)) (fun i _ => ps.length - (intOf i).toNat)
  case atStart => exact ⟨0, Nat.zero_le _, rfl, Below.refl _ _⟩
  case round =>
    obtain ⟨k, hk, rfl, hB⟩ := hrel
    by_cases hlt : k < ps.length
    · obtain ⟨b, off, rfl, c1, c2⟩ := H5.out k hlt
      obtain ⟨b', off', rfl, c3, c4⟩ := H6.out k hlt
      have hs := World.block_lt_of_cell? w _ c1
      have hs' := World.block_lt_of_cell? w _ c3
      replace c1 := (hB.out.cell (p := ⟨b, off + k * 2, none⟩) hs).trans c1
      replace c2 := (hB.out.cell (p := ⟨b, off + k * 2 + 1, none⟩) hs).trans c2
      replace c3 := (hB.out.cell (p := ⟨b', off' + k * 2, none⟩) hs').trans c3
      replace c4 := (hB.out.cell (p := ⟨b', off' + k * 2 + 1, none⟩) hs').trans c4
      obtain ⟨p, hp⟩ : ∃ p, p = fr ps k := ⟨_, rfl⟩
      rw [← hp] at c1 c2 c3 c4
      obtain ⟨x, y⟩ := p
      dsimp only at c1 c2 c3 c4
      clear hp hs hs'
      go_wp2
      go_region_with (go_at_call 21; refine (eq_same _ _ _).mono ?_; rintro e w1 ⟨rfl, hb⟩; have B1 : Below w.heap.size w w1 := Below.trans (by first | exact hB.out | exact hB.out.drew | exact below_drewN hB.out _) (hb.mono (by simpa using hB.out.size)))
      all_goals go_wp2
      all_goals
        go_roundw
        case rel => exact ⟨k + 1, by omega, by go_num, B1⟩
        case measure => simp [intOf]; omega
    · go_wp2
      go_ret
      exact ⟨rfl, hB.out⟩

end Go.Proofs.Ythdogphpjflklaa
