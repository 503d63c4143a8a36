/- The walks of the laws' helpers that hold two lists against each other. -/
import Derived.Test.YtcafdkmgjfakdaaRowsR
namespace Go.Proofs.Ytcafdkmgjfakdaa
open Go.RowKit Go.Proofs.Ytcafdkmgjfakdaa.RM

set_option maxRecDepth 100000 in
set_option maxHeartbeats 1000000 in
theorem likeR_same (v u : Value) (ps : List (Int × Int)) (n b1 b2 : Nat) (w : World) (hn : ps.length = n) (hn2 : n ≤ 1000000000) (h1 : w.ownsRow b1 27 2 v n (cellsR ps)) (h2 : w.ownsRow b2 27 2 u n (cellsR ps)) :
    Calls Try.prog 18 #[v, u] w fun e w' => e = .returned (.bool true) ∧ Below w.heap.size w w' := by
  by_cases h0 : n = 0
  · obtain ⟨a, c, rfl⟩ := own_shape h1
    obtain ⟨a', c', rfl⟩ := own_shape h2
    subst h0
    clear h1 h2 hn
    go_enter Try.func18, Try.ntmps18
    go_wp2
    go_loop [5] (fun i => i = .int .i64 0) (fun _ => 0)
    case atStart => exact rfl
    case round =>
      subst hrel
      go_wp2
      go_ret
      exact ⟨rfl, Below.refl _ _⟩
  · obtain ⟨g, c, rfl⟩ := own_some h1 (by omega)
    obtain ⟨g', c', rfl⟩ := own_some h2 (by omega)
    have hg : g < w.heap.size := (h1.lt g rfl).2
    have hg' : g' < w.heap.size := (h2.lt g' rfl).2
    have H1 : Hid (∀ j, j < n → w.cell? ⟨g, j * 2, none⟩ = some (.int .i64 (ps[j]?.getD (0, 0)).1) ∧ w.cell? ⟨g, j * 2 + 1, none⟩ = some (.int .i64 (ps[j]?.getD (0, 0)).2)) := fun j hj => own_R h1 hn j hj
    have H2 : Hid (∀ j, j < n → w.cell? ⟨g', j * 2, none⟩ = some (.int .i64 (ps[j]?.getD (0, 0)).1) ∧ w.cell? ⟨g', j * 2 + 1, none⟩ = some (.int .i64 (ps[j]?.getD (0, 0)).2)) := fun j hj => own_R h2 hn j hj
    clear h1 h2 hn h0
    go_enter Try.func18, Try.ntmps18
    go_wp2
    go_loopw [5] (fun i wr => ∃ k : Nat, k ≤ n ∧ i = .int .i64 k ∧ Hid (Below w.heap.size w wr)) (fun i _ => n - (intOf i).toNat)
    case atStart => exact ⟨0, Nat.zero_le _, rfl, Below.refl _ _⟩
    case round =>
      obtain ⟨k, hk, rfl, hB⟩ := hrel
      by_cases hlt : k < n
      · obtain ⟨c1, c2⟩ := H1.out k hlt
        obtain ⟨c3, c4⟩ := H2.out k hlt
        obtain ⟨p, hp⟩ : ∃ p, p = ps[k]?.getD (0, 0) := ⟨_, rfl⟩
        rw [← hp] at c1 c2 c3 c4
        obtain ⟨x, y⟩ := p
        replace c1 := (hB.out.cell (p := ⟨g, k * 2, none⟩) hg).trans c1
        replace c2 := (hB.out.cell (p := ⟨g, k * 2 + 1, none⟩) hg).trans c2
        replace c3 := (hB.out.cell (p := ⟨g', k * 2, none⟩) hg').trans c3
        replace c4 := (hB.out.cell (p := ⟨g', k * 2 + 1, none⟩) hg').trans c4
        clear hp
        have ht : (x != x) = false := by simp
        have ht2 : (y != y) = false := by simp
        go_wp2
        go_quiet (fail)
        go_wp2
        go_roundw
        case rel => exact ⟨k + 1, by omega, by go_num, below_drewN hB.out _⟩
        case measure => simp [intOf]; omega
      · go_wp2
        go_ret
        exact ⟨rfl, hB.out⟩

end Go.Proofs.Ytcafdkmgjfakdaa
