/- The walks of the laws' helpers over rows of fractions: held against each other, marked, held to be marked. -/
import Derived.Test.YtkcdpjcfbpjkeanRowsW
import Derived.Test.YtkcdpjcfbpjkeanRatioW4
import Derived.Deep.RegionWith
namespace Go.Proofs.Ytkcdpjcfbpjkean
open Go.RowKit Go.Proofs.Ytkcdpjcfbpjkean.RM

/-- the cells of a row of fractions -/
def cellsR (ps : List (Int × Int)) : List Value := ps.flatMap fun p => [Value.int .i64 p.1, .int .i64 p.2]
theorem cellsR_nil : cellsR [] = [] := rfl
theorem cellsR_cons (p : Int × Int) (ps : List (Int × Int)) : cellsR (p :: ps) = Value.int .i64 p.1 :: .int .i64 p.2 :: cellsR ps := rfl
theorem cellsR_append (ps qs : List (Int × Int)) : cellsR (ps ++ qs) = cellsR ps ++ cellsR qs := by simp [cellsR]
theorem cellsR_len (ps : List (Int × Int)) : (cellsR ps).length = ps.length * 2 := by
  induction ps with
  | nil => rfl
  | cons p ps ih => rw [cellsR_cons]; simp [ih]; omega
theorem cellsR_at : ∀ (ps : List (Int × Int)) (j : Nat), j < ps.length → (cellsR ps)[j * 2]? = some (.int .i64 (ps[j]?.getD (0, 0)).1) ∧ (cellsR ps)[j * 2 + 1]? = some (.int .i64 (ps[j]?.getD (0, 0)).2)
  | [], j, h => by simp at h
  | p :: ps, 0, _ => ⟨rfl, rfl⟩
  | p :: ps, j + 1, h => by
    have ih := cellsR_at ps j (by simpa using h)
    rw [cellsR_cons, show (j + 1) * 2 = j * 2 + 1 + 1 by omega]
    simpa using ih
theorem cellsR_set : ∀ (ps : List (Int × Int)) (j : Nat) (x y : Int), j < ps.length → ((cellsR ps).set (j * 2) (.int .i64 x)).set (j * 2 + 1) (.int .i64 y) = cellsR (ps.set j (x, y))
  | [], j, _, _, h => by simp at h
  | p :: ps, 0, _, _, _ => rfl
  | p :: ps, j + 1, x, y, h => by
    have ih := cellsR_set ps j x y (by simpa using h)
    rw [cellsR_cons, show (j + 1) * 2 = j * 2 + 1 + 1 by omega]
    simp only [List.set_cons_succ]
    rw [ih]; rfl
/-- what a row of fractions tells of its cells -/
theorem own_R {W : World} {base g n c : Nat} {ps : List (Int × Int)} (h : W.ownsRow base 32 2 (.slice (some ⟨g, 0, none⟩) n c) n (cellsR ps)) (hl : ps.length = n) (j : Nat) (hj : j < n) :
    W.cell? ⟨g, j * 2, none⟩ = some (.int .i64 (ps[j]?.getD (0, 0)).1) ∧ W.cell? ⟨g, j * 2 + 1, none⟩ = some (.int .i64 (ps[j]?.getD (0, 0)).2) := by
  have h1 := h.cellAt (j * 2) (by omega)
  have h2 := h.cellAt (j * 2 + 1) (by omega)
  have h3 := cellsR_at ps j (by omega)
  exact ⟨h1.trans h3.1, h2.trans h3.2⟩

set_option maxRecDepth 100000 in
set_option maxHeartbeats 1000000 in
theorem eqR_same (v u : Value) (ps : List (Int × Int)) (n b1 b2 : Nat) (w : World) (hn : ps.length = n) (hn2 : n ≤ 1000000000) (h1 : w.ownsRow b1 32 2 v n (cellsR ps)) (h2 : w.ownsRow b2 32 2 u n (cellsR ps)) :
    Calls Try.prog 19 #[v, u] w fun e w' => e = .returned (.bool true) ∧ Below w.heap.size w w' := by
  by_cases h0 : n = 0
  · obtain ⟨a, c, rfl⟩ := own_shape h1
    obtain ⟨a', c', rfl⟩ := own_shape h2
    subst h0
    clear h1 h2 hn
    go_enter Try.func19, Try.ntmps19
    go_wp2
    go_loop [5] (fun i => i = .int .i64 0) (fun _ => 0)
    case atStart => exact rfl
    case round =>
      subst hrel
      go_wp2
      go_ret
      exact ⟨rfl, Below.refl _ _⟩
  · obtain ⟨g, c, rfl⟩ := own_some h1 (by omega)
    obtain ⟨g', c', rfl⟩ := own_some h2 (by omega)
    have hg : g < w.heap.size := (h1.lt g rfl).2
    have hg' : g' < w.heap.size := (h2.lt g' rfl).2
    have H1 : Hid (∀ j, j < n → w.cell? ⟨g, j * 2, none⟩ = some (.int .i64 (ps[j]?.getD (0, 0)).1) ∧ w.cell? ⟨g, j * 2 + 1, none⟩ = some (.int .i64 (ps[j]?.getD (0, 0)).2)) := fun j hj => own_R h1 hn j hj
    have H2 : Hid (∀ j, j < n → w.cell? ⟨g', j * 2, none⟩ = some (.int .i64 (ps[j]?.getD (0, 0)).1) ∧ w.cell? ⟨g', j * 2 + 1, none⟩ = some (.int .i64 (ps[j]?.getD (0, 0)).2)) := fun j hj => own_R h2 hn j hj
    clear h1 h2 hn h0
    go_enter Try.func19, Try.ntmps19
    go_wp2
    go_loopw [5] (fun i wr => ∃ k : Nat, k ≤ n ∧ i = .int .i64 k ∧ Hid (Below w.heap.size w wr)) (fun i _ => n - (intOf i).toNat)
    case atStart => exact ⟨0, Nat.zero_le _, rfl, Below.refl _ _⟩
    case round =>
      obtain ⟨k, hk, rfl, hB⟩ := hrel
      by_cases hlt : k < n
      · obtain ⟨c1, c2⟩ := H1.out k hlt
        obtain ⟨c3, c4⟩ := H2.out k hlt
        obtain ⟨p, hp⟩ : ∃ p, p = ps[k]?.getD (0, 0) := ⟨_, rfl⟩
        rw [← hp] at c1 c2 c3 c4
        obtain ⟨x, y⟩ := p
        replace c1 := (hB.out.cell (p := ⟨g, k * 2, none⟩) hg).trans c1
        replace c2 := (hB.out.cell (p := ⟨g, k * 2 + 1, none⟩) hg).trans c2
        replace c3 := (hB.out.cell (p := ⟨g', k * 2, none⟩) hg').trans c3
        replace c4 := (hB.out.cell (p := ⟨g', k * 2 + 1, none⟩) hg').trans c4
        clear hp
        go_wp2
        go_region_with (go_at_call 18; refine (eq_same _ _ _).mono ?_; rintro e w1 ⟨rfl, hb⟩; have B1 : Below w.heap.size w w1 := Below.trans (by first | exact hB.out | exact hB.out.drew | exact below_drewN hB.out _) (hb.mono (by simpa using hB.out.size)))
        all_goals go_wp2
        all_goals
          go_roundw
          case rel => exact ⟨k + 1, by omega, by go_num, B1⟩
          case measure => simp [intOf]; omega
      · go_wp2
        go_ret
        exact ⟨rfl, hB.out⟩

/-- what is marked when j of them have been -/
def mrkR (ps : List (Int × Int)) (j : Nat) : List (Int × Int) := (List.range ps.length).map (fun i => if i < j then (1 + 2 * (i : Int), 2 + 2 * (i : Int)) else ps[i]?.getD (0, 0))
theorem mrkR_len (ps : List (Int × Int)) (j : Nat) : (mrkR ps j).length = ps.length := by simp [mrkR]
theorem mrkR_zero (ps : List (Int × Int)) : mrkR ps 0 = ps := by
  apply List.ext_getElem
  · rw [mrkR_len]
  · intro i h1 h2
    simp [mrkR, List.getElem?_eq_getElem h2]
theorem mrkR_set (ps : List (Int × Int)) (j : Nat) : (mrkR ps j).set j (1 + 2 * (j : Int), 2 + 2 * (j : Int)) = mrkR ps (j + 1) := by
  apply List.ext_getElem
  · simp [mrkR]
  · intro i h1 h2
    simp only [mrkR, List.getElem_set, List.getElem_map, List.getElem_range]
    by_cases e : j = i
    · subst e
      rw [if_pos rfl, if_pos (by omega)]
    · rw [if_neg e]
      by_cases h3 : i < j
      · rw [if_pos h3, if_pos (by omega)]
      · rw [if_neg h3, if_neg (by omega)]
theorem mrkR_at (ps : List (Int × Int)) (j : Nat) (h : j < ps.length) : (mrkR ps ps.length)[j]?.getD (0, 0) = (1 + 2 * (j : Int), 2 + 2 * (j : Int)) := by
  simp [mrkR, h]

set_option maxRecDepth 100000 in
set_option maxHeartbeats 1000000 in
theorem markR_any (v : Value) (ps : List (Int × Int)) (n base : Nat) (w : World) (hn : ps.length = n) (hn2 : n ≤ 1000000000) (h1 : w.ownsRow base 32 2 v n (cellsR ps)) :
    Calls Try.prog 22 #[v, .int .i64 1] w fun e w' => e = .returned (.int .i64 (1 + 2 * n)) ∧ w'.ownsRow base 32 2 v n (cellsR (mrkR ps n)) ∧ w.grownBy w' v.ownBlock := by
  by_cases h0 : n = 0
  · obtain ⟨a, c, rfl⟩ := own_shape h1
    subst h0
    obtain rfl : ps = [] := List.eq_nil_of_length_eq_zero hn
    have H1 : Hid (w.ownsRow base 32 2 (.slice a 0 c) 0 []) := h1
    clear h1 hn
    go_enter Try.func22, Try.ntmps22
    go_wp2
    go_loop [1, 5] (fun q i => q = .int .i64 1 ∧ i = .int .i64 0) (fun _ _ => 0)
    case atStart => exact ⟨rfl, rfl⟩
    case round =>
      obtain ⟨rfl, rfl⟩ := hrel
      go_wp2
      go_ret
      exact ⟨rfl, H1.out, (grown_of_below (Below.refl _ _)).but _⟩
  · obtain ⟨g, c, rfl⟩ := own_some h1 (by omega)
    have H1 : Hid (w.ownsRow base 32 2 (.slice (some ⟨g, 0, none⟩) n c) n (cellsR ps)) := h1
    have HN : Hid (ps.length = n) := hn
    clear h1 h0 hn
    go_enter Try.func22, Try.ntmps22
    go_wp2
    go_loopw [1, 5] (fun q i wr => ∃ k : Nat, k ≤ n ∧ i = .int .i64 k ∧ q = .int .i64 (1 + 2 * (k : Int)) ∧ Hid (wr.ownsRow base 32 2 (.slice (some ⟨g, 0, none⟩) n c) n (cellsR (mrkR ps k)) ∧ w.grownBy wr (some g))) (fun _ i _ => n - (intOf i).toNat)
    case atStart => exact ⟨0, Nat.zero_le _, rfl, rfl, by rw [mrkR_zero]; exact H1.out, (grown_of_below (Below.refl _ _)).but _⟩
    case round =>
      obtain ⟨k, hk, rfl, rfl, hw⟩ := hrel
      by_cases hlt : k < n
      · obtain ⟨c1, c2⟩ := own_R hw.out.1 (by rw [mrkR_len]; exact HN.out) k hlt
        have f1 := hw.out.1.frozenAt (k * 2)
        have f2 := hw.out.1.frozenAt (k * 2 + 1)
        generalize ((mrkR ps k)[k]?.getD (0, 0)).1 = x1 at c1
        generalize ((mrkR ps k)[k]?.getD (0, 0)).2 = x2 at c2
        go_wp2
        go_roundw
        case rel =>
          obtain ⟨s1, s2⟩ := hw.out.1.stored (k * 2) (.int .i64 (1 + 2 * (k : Int)))
          obtain ⟨s3, s4⟩ := s1.stored (k * 2 + 1) (.int .i64 (1 + 2 * (k : Int) + 1))
          refine ⟨k + 1, by omega, by go_num, by go_num, ?_, (hw.out.2.trans s2).trans s4⟩
          rw [cellsR_set _ _ _ _ (by rw [mrkR_len, HN.out]; exact hlt), show 1 + 2 * (k : Int) + 1 = 2 + 2 * (k : Int) by omega, mrkR_set] at s3
          rw [show 1 + 2 * (k : Int) + 1 = 2 + 2 * (k : Int) by omega]
          exact s3
        case measure => simp [intOf]; omega
      · obtain rfl : k = n := by omega
        go_wp2
        go_ret
        exact ⟨rfl, hw.out.1, hw.out.2⟩

set_option maxRecDepth 100000 in
set_option maxHeartbeats 1000000 in
theorem heldR_any (v : Value) (ps : List (Int × Int)) (n base : Nat) (w : World) (hn : ps.length = n) (hn2 : n ≤ 1000000000) (h1 : w.ownsRow base 32 2 v n (cellsR (mrkR ps n))) :
    Calls Try.prog 27 #[v, .int .i64 1] w fun e w' => e = .returned (.int .i64 (1 + 2 * n)) ∧ ∃ m, w' = w.drewN m := by
  by_cases h0 : n = 0
  · obtain ⟨a, c, rfl⟩ := own_shape h1
    subst h0
    clear h1 hn
    go_enter Try.func27, Try.ntmps27
    go_wp2
    go_loop [1, 5] (fun q i => q = .int .i64 1 ∧ i = .int .i64 0) (fun _ _ => 0)
    case atStart => exact ⟨rfl, rfl⟩
    case round =>
      obtain ⟨rfl, rfl⟩ := hrel
      go_wp2
      go_ret
      exact ⟨rfl, 0, rfl⟩
  · obtain ⟨g, c, rfl⟩ := own_some h1 (by omega)
    have H1 : Hid (∀ j : Nat, j < n → w.cell? ⟨g, j * 2, none⟩ = some (.int .i64 (1 + 2 * j)) ∧ w.cell? ⟨g, j * 2 + 1, none⟩ = some (.int .i64 (1 + 2 * j + 1))) := fun j hj => by
      have h := own_R h1 (by rw [mrkR_len]; exact hn) j hj
      subst hn
      rw [mrkR_at _ _ hj] at h
      exact ⟨h.1, by rw [h.2]; congr 2; omega⟩
    clear h1 h0 hn
    go_enter Try.func27, Try.ntmps27
    go_wp2
    go_loopw [1, 5] (fun q i wr => ∃ k : Nat, k ≤ n ∧ i = .int .i64 k ∧ q = .int .i64 (1 + 2 * (k : Int)) ∧ Hid (∃ m, wr = w.drewN m)) (fun _ i _ => n - (intOf i).toNat)
    case atStart => exact ⟨0, Nat.zero_le _, rfl, rfl, 0, rfl⟩
    case round =>
      obtain ⟨k, hk, rfl, rfl, hw⟩ := hrel
      obtain ⟨m, rfl⟩ := hw.out
      clear hw
      by_cases hlt : k < n
      · obtain ⟨c1, c2⟩ := H1.out k hlt
        have ht : ((1 + 2 * (k : Int)) != (1 + 2 * (k : Int))) = false := by simp
        have ht2 : ((1 + 2 * (k : Int) + 1) != (1 + 2 * (k : Int) + 1)) = false := by simp
        go_wp2
        go_roundw
        case rel => exact ⟨k + 1, by omega, by go_num, by go_num, m, rfl⟩
        case measure => simp [intOf]; omega
      · obtain rfl : k = n := by omega
        go_wp2
        go_ret
        exact ⟨rfl, m, rfl⟩
end Go.Proofs.Ytkcdpjcfbpjkean
