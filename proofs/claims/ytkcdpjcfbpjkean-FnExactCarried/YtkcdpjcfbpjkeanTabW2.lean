/- The walks of what only reads a table: is it one, are two alike. -/
import Derived.Test.YtkcdpjcfbpjkeanTabW1
namespace Go.Proofs.Ytkcdpjcfbpjkean
open Go.RowKit Go.Proofs.Ytkcdpjcfbpjkean.RM

theorem all_no {α : Type} (p : α → Bool) (d : α) {l : List α} {k : Nat} (hk : k < l.length) (h : p (l[k]?.getD d) = false) : l.all p = false := by
  rw [← Bool.not_eq_true, List.all_eq_true]
  intro ha
  have := ha l[k] (List.getElem_mem hk)
  rw [List.getElem?_eq_getElem hk] at h
  rw [show p l[k] = false from h] at this
  exact absurd this (by simp)
theorem all_yes {α : Type} (p : α → Bool) (d : α) {l : List α} (h : ∀ k, k < l.length → p (l[k]?.getD d) = true) : l.all p = true := by
  rw [List.all_eq_true]
  intro x hx
  obtain ⟨k, hk, rfl⟩ := List.mem_iff_getElem.1 hx
  have := h k hk
  rw [List.getElem?_eq_getElem hk] at this
  exact this
theorem all_at {α : Type} {p : α → Bool} {d : α} {l : List α} (h : l.all p = true) {k : Nat} (hk : k < l.length) : p (l[k]?.getD d) = true := by
  rw [List.all_eq_true] at h
  rw [List.getElem?_eq_getElem hk]
  exact h _ (List.getElem_mem hk)
theorem ret_b {a b : Bool} (h : a = b) : Ending.returned (.bool a) = .returned (.bool b) := by rw [h]
/-- are all of them right -/
def allOk (ps : List Fr) : Bool := ps.all fun p => okB p.1 p.2
theorem allOk_no {ps : List Fr} {k : Nat} (hk : k < ps.length) (h : okB (fr ps k).1 (fr ps k).2 = false) : allOk ps = false := all_no _ (0, 0) hk h
theorem allOk_yes {ps : List Fr} (h : ∀ k, k < ps.length → okB (fr ps k).1 (fr ps k).2 = true) : allOk ps = true := all_yes _ (0, 0) h
theorem allOk_at {ps : List Fr} (h : allOk ps = true) {k : Nat} (hk : k < ps.length) : okB (fr ps k).1 (fr ps k).2 = true := all_at (d := ((0, 0) : Fr)) h hk
/-- as many as told (-1: not asked), and right -/
def allB (ps : List Fr) (n : Int) : Bool := decide (n < 0 ∨ (ps.length : Int) = n) && allOk ps
/-- a row as the program asks it -/
def rowB (ps : List Fr) : Bool := decide (1 ≤ ps.length ∧ ps.length ≤ 6) && allOk ps
/-- a table -/
def tabB (rows : List (List Fr)) (cols : Int) : Bool :=
  decide (1 ≤ rows.length ∧ rows.length ≤ 6 ∧ 1 ≤ (rw' rows 0).length ∧ ((rw' rows 0).length : Int) ≤ cols) && rows.all (fun r => decide (r.length = (rw' rows 0).length) && allOk r)
theorem tabB_head {rows : List (List Fr)} {cols : Int} (h : ¬ (1 ≤ rows.length ∧ rows.length ≤ 6 ∧ 1 ≤ (rw' rows 0).length ∧ ((rw' rows 0).length : Int) ≤ cols)) : tabB rows cols = false := by
  unfold tabB; rw [decide_eq_false h]; rfl
theorem tabB_row {rows : List (List Fr)} {cols : Int} {k : Nat} (hk : k < rows.length) (h : ¬ ((rw' rows k).length = (rw' rows 0).length ∧ allOk (rw' rows k) = true)) : tabB rows cols = false := by
  unfold tabB
  rw [all_no _ [] hk, Bool.and_false]
  show (decide ((rw' rows k).length = (rw' rows 0).length) && allOk (rw' rows k)) = false
  rw [← Bool.not_eq_true, Bool.and_eq_true, decide_eq_true_eq]
  exact h
theorem tabB_yes {rows : List (List Fr)} {cols : Int} (h : 1 ≤ rows.length ∧ rows.length ≤ 6 ∧ 1 ≤ (rw' rows 0).length ∧ ((rw' rows 0).length : Int) ≤ cols) (hr : ∀ k, k < rows.length → (rw' rows k).length = (rw' rows 0).length ∧ allOk (rw' rows k) = true) : tabB rows cols = true := by
  unfold tabB
  rw [decide_eq_true h, Bool.true_and]
  refine all_yes _ [] fun k hk => ?_
  show (decide ((rw' rows k).length = (rw' rows 0).length) && allOk (rw' rows k)) = true
  rw [decide_eq_true (hr k hk).1, (hr k hk).2]; rfl
theorem tabB_out {rows : List (List Fr)} {cols : Int} (h : tabB rows cols = true) : (1 ≤ rows.length ∧ rows.length ≤ 6 ∧ 1 ≤ (rw' rows 0).length ∧ ((rw' rows 0).length : Int) ≤ cols) ∧ ∀ k, k < rows.length → (rw' rows k).length = (rw' rows 0).length ∧ allOk (rw' rows k) = true := by
  unfold tabB at h
  rw [Bool.and_eq_true, decide_eq_true_eq] at h
  refine ⟨h.1, fun k hk => ?_⟩
  have : (decide ((rw' rows k).length = (rw' rows 0).length) && allOk (rw' rows k)) = true := all_at (d := ([] : List Fr)) h.2 hk
  rw [Bool.and_eq_true, decide_eq_true_eq] at this
  exact this

set_option maxRecDepth 100000 in
set_option maxHeartbeats 1000000 in
theorem sAll_any (v : Value) (ps : List Fr) (n : Int) (w : World) (h : RdR w v ps) :
    Calls Try.prog 42 #[v, .int .i64 n] w fun e w' => e = .returned (.bool (allB ps n)) ∧ Below w.heap.size w w' := by
  obtain ⟨a, c, rfl, h2, h3, h4, h5⟩ := h
  have H5 : Hid (∀ j, j < ps.length → ∃ b off, a = some ⟨b, off, none⟩ ∧ w.cell? ⟨b, off + j * 2, none⟩ = some (.int .i64 (fr ps j).1) ∧ w.cell? ⟨b, off + j * 2 + 1, none⟩ = some (.int .i64 (fr ps j).2)) := h5
  unfold maxLen at h2
  clear h5 h3 h4
  by_cases hn : n < 0 ∨ (ps.length : Int) = n
  · have HB : Hid (allB ps n = allOk ps) := by show _ = _; unfold allB; rw [decide_eq_true hn, Bool.true_and]
    rw [HB.out]
    by_cases n0 : 0 ≤ n
    · have hn' : (ps.length : Int) = n := by omega
      subst hn'
      go_enter Try.func42, Try.ntmps42
      go_wp2
      go_loopw [5] (fun i wr => ∃ k : Nat, k ≤ ps.length ∧ i = .int .i64 k ∧ Hid (Below w.heap.size w wr) ∧ Hid (∀ j, j < k → okB (fr ps j).1 (fr ps j).2 = true)) (fun i _ => ps.length - (intOf i).toNat)
      case atStart => exact ⟨0, Nat.zero_le _, rfl, Below.refl _ _, fun j hj => absurd hj (Nat.not_lt_zero _)⟩
      case round =>
        obtain ⟨k, hk, rfl, hB, HP⟩ := hrel
        by_cases hlt : k < ps.length
        · obtain ⟨b, off, rfl, c1, c2⟩ := H5.out k hlt
          have hs := World.block_lt_of_cell? w _ c1
          replace c1 := (hB.out.cell (p := ⟨b, off + k * 2, none⟩) hs).trans c1
          replace c2 := (hB.out.cell (p := ⟨b, off + k * 2 + 1, none⟩) hs).trans c2
          obtain ⟨p, hp⟩ : ∃ p, p = fr ps k := ⟨_, rfl⟩
          have HQ : Hid (p = fr ps k) := hp
          rw [← hp] at c1 c2
          obtain ⟨x, y⟩ := p
          dsimp only at c1 c2
          have hsz := hB.out.size
          clear hp hs
          by_cases ho : okB x y = true
          · go_wp2_with (go_at_call 58; refine (sOk_any x y _).mono ?_; rintro e w2 ⟨rfl, hb2⟩; rw [ho]; have hB2 := hB.out.trans (hb2.mono hsz))
            go_roundw
            case rel =>
              refine ⟨k + 1, by omega, by go_num, hB2, fun j hj => ?_⟩
              by_cases e : j = k
              · subst e; rw [← HQ.out]; exact ho
              · exact HP.out j (by omega)
            case measure => simp [intOf]; omega
          · rw [Bool.not_eq_true] at ho
            have HA : Hid (allOk ps = false) := allOk_no hlt (by rw [← HQ.out]; exact ho)
            go_wp2_with (go_at_call 58; refine (sOk_any x y _).mono ?_; rintro e w2 ⟨rfl, hb2⟩; rw [ho]; have hB2 := hB.out.trans (hb2.mono hsz))
            go_ret
            exact ⟨ret_b HA.out.symm, hB2⟩
        · obtain rfl : k = ps.length := by omega
          have HA : Hid (allOk ps = true) := allOk_yes HP.out
          go_wp2
          go_ret
          exact ⟨ret_b HA.out.symm, hB.out⟩
    · go_enter Try.func42, Try.ntmps42
      go_wp2
      go_loopw [5] (fun i wr => ∃ k : Nat, k ≤ ps.length ∧ i = .int .i64 k ∧ Hid (Below w.heap.size w wr) ∧ Hid (∀ j, j < k → okB (fr ps j).1 (fr ps j).2 = true)) (fun i _ => ps.length - (intOf i).toNat)
      case atStart => exact ⟨0, Nat.zero_le _, rfl, Below.refl _ _, fun j hj => absurd hj (Nat.not_lt_zero _)⟩
      case round =>
        obtain ⟨k, hk, rfl, hB, HP⟩ := hrel
        by_cases hlt : k < ps.length
        · obtain ⟨b, off, rfl, c1, c2⟩ := H5.out k hlt
          have hs := World.block_lt_of_cell? w _ c1
          replace c1 := (hB.out.cell (p := ⟨b, off + k * 2, none⟩) hs).trans c1
          replace c2 := (hB.out.cell (p := ⟨b, off + k * 2 + 1, none⟩) hs).trans c2
          obtain ⟨p, hp⟩ : ∃ p, p = fr ps k := ⟨_, rfl⟩
          have HQ : Hid (p = fr ps k) := hp
          rw [← hp] at c1 c2
          obtain ⟨x, y⟩ := p
          dsimp only at c1 c2
          have hsz := hB.out.size
          clear hp hs
          by_cases ho : okB x y = true
          · go_wp2_with (go_at_call 58; refine (sOk_any x y _).mono ?_; rintro e w2 ⟨rfl, hb2⟩; rw [ho]; have hB2 := hB.out.trans (hb2.mono hsz))
            go_roundw
            case rel =>
              refine ⟨k + 1, by omega, by go_num, hB2, fun j hj => ?_⟩
              by_cases e : j = k
              · subst e; rw [← HQ.out]; exact ho
              · exact HP.out j (by omega)
            case measure => simp [intOf]; omega
          · rw [Bool.not_eq_true] at ho
            have HA : Hid (allOk ps = false) := allOk_no hlt (by rw [← HQ.out]; exact ho)
            go_wp2_with (go_at_call 58; refine (sOk_any x y _).mono ?_; rintro e w2 ⟨rfl, hb2⟩; rw [ho]; have hB2 := hB.out.trans (hb2.mono hsz))
            go_ret
            exact ⟨ret_b HA.out.symm, hB2⟩
        · obtain rfl : k = ps.length := by omega
          have HA : Hid (allOk ps = true) := allOk_yes HP.out
          go_wp2
          go_ret
          exact ⟨ret_b HA.out.symm, hB.out⟩
  · have HB : Hid (allB ps n = false) := by show _ = _; unfold allB; rw [decide_eq_false hn]; rfl
    rw [HB.out]
    have n0 : 0 ≤ n := by omega
    have n1 : ¬ (ps.length : Int) = n := by omega
    go_enter Try.func42, Try.ntmps42
    go_wp2
    go_ret
    exact ⟨rfl, Below.refl _ _⟩

set_option maxRecDepth 100000 in
set_option maxHeartbeats 2000000 in
theorem sTold_any (v : Value) (rows : List (List Fr)) (cols : Int) (w : World) (h : RdT w v rows) :
    Calls Try.prog 65 #[v, .int .i64 cols] w fun e w' => e = .returned (.bool (tabB rows cols)) ∧ Below w.heap.size w w' := by
  obtain ⟨a, c, rfl, h2, h3, h4, h5⟩ := h
  have H5 : Hid (∀ i, i < rows.length → ∃ b off u, a = some ⟨b, off, none⟩ ∧ w.cell? ⟨b, off + i, none⟩ = some u ∧ RdR w u (rw' rows i)) := h5
  unfold maxLen at h2
  clear h5 h3 h4
  by_cases n0 : rows.length < 1
  · have HF : Hid (tabB rows cols = false) := tabB_head (by omega)
    go_enter Try.func65, Try.ntmps65
    go_wp2
    go_ret
    exact ⟨ret_b HF.out.symm, Below.refl _ _⟩
  by_cases n1 : 6 < rows.length
  · have HF : Hid (tabB rows cols = false) := tabB_head (by omega)
    go_enter Try.func65, Try.ntmps65
    go_wp2
    go_ret
    exact ⟨ret_b HF.out.symm, Below.refl _ _⟩
  obtain ⟨b, off, u0, rfl, c0, ⟨a0, cc, rfl, m2, m3, m4, _⟩⟩ := H5.out 0 (by omega)
  rw [Nat.add_zero] at c0
  unfold maxLen at m2
  obtain ⟨L, hL⟩ : ∃ L, L = (rw' rows 0).length := ⟨_, rfl⟩
  have HL : Hid (L = (rw' rows 0).length) := hL
  rw [← hL] at c0 m2
  clear hL m3 m4
  by_cases n2 : L < 1
  · have HF : Hid (tabB rows cols = false) := tabB_head (by have := HL.out; omega)
    go_enter Try.func65, Try.ntmps65
    go_wp2
    go_ret
    exact ⟨ret_b HF.out.symm, Below.refl _ _⟩
  by_cases n3 : cols < (L : Int)
  · have HF : Hid (tabB rows cols = false) := tabB_head (by have := HL.out; omega)
    go_enter Try.func65, Try.ntmps65
    go_wp2
    go_ret
    exact ⟨ret_b HF.out.symm, Below.refl _ _⟩
  go_enter Try.func65, Try.ntmps65
  go_wp2
  go_loopw [5] (fun i wr => ∃ k : Nat, k ≤ rows.length ∧ i = .int .i64 k ∧ Hid (Below w.heap.size w wr) ∧ Hid (∀ j, j < k → (rw' rows j).length = (rw' rows 0).length ∧ allOk (rw' rows j) = true)) (fun i _ => rows.length - (intOf i).toNat)
  case atStart => exact ⟨0, Nat.zero_le _, rfl, Below.refl _ _, fun j hj => absurd hj (Nat.not_lt_zero _)⟩
  case round =>
    obtain ⟨k, hk, rfl, hB, HP⟩ := hrel
    by_cases hlt : k < rows.length
    · obtain ⟨b', off', u, e, c1, hu⟩ := H5.out k hlt
      cases e
      have hs := World.block_lt_of_cell? w _ c1
      replace c1 := (hB.out.cell (p := ⟨b, off + k, none⟩) hs).trans c1
      have c2 := (hB.out.cell (p := ⟨b, off, none⟩) hs).trans c0
      have HU : Hid (RdR w u (rw' rows k)) := hu
      have hsz := hB.out.size
      obtain ⟨q, hq⟩ : ∃ q, q = allB (rw' rows k) L := ⟨_, rfl⟩
      have HC : Hid (∀ W : World, RdR W u (rw' rows k) → Calls Try.prog 42 #[u, .int .i64 L] W fun e w' => e = .returned (.bool q) ∧ Below W.heap.size W w') := by
        intro W hW; rw [hq]; exact sAll_any u _ _ W hW
      have HQ : Hid (q = allB (rw' rows k) L) := hq
      clear hs hu hq
      cases q
      · have HF : Hid (tabB rows cols = false) := tabB_row hlt (fun ⟨h1, h2⟩ => by
          have := HQ.out
          unfold allB at this
          rw [decide_eq_true (.inr (by rw [h1, HL.out])), h2] at this
          exact absurd this (by simp))
        go_wp2
        go_region_with (go_at_call 42; refine (HC.out _ (HU.out.below (by first | exact hB.out | exact hB.out.drew | exact below_drewN hB.out _))).mono ?_; rintro e w1 ⟨rfl, hb⟩; have B1 : Below w.heap.size w w1 := Below.trans (by first | exact hB.out | exact hB.out.drew | exact below_drewN hB.out _) (hb.mono (by simpa using hsz)))
        all_goals go_wp2
        all_goals
          go_ret
          exact ⟨ret_b HF.out.symm, B1⟩
      · have HP' : Hid (∀ j, j < k + 1 → (rw' rows j).length = (rw' rows 0).length ∧ allOk (rw' rows j) = true) := by
          intro j hj
          by_cases e : j = k
          · subst e
            have := HQ.out.symm
            unfold allB at this
            rw [Bool.and_eq_true, decide_eq_true_eq] at this
            exact ⟨by have := HL.out; omega, this.2⟩
          · exact HP.out j (by omega)
        go_wp2
        go_region_with (go_at_call 42; refine (HC.out _ (HU.out.below (by first | exact hB.out | exact hB.out.drew | exact below_drewN hB.out _))).mono ?_; rintro e w1 ⟨rfl, hb⟩; have B1 : Below w.heap.size w w1 := Below.trans (by first | exact hB.out | exact hB.out.drew | exact below_drewN hB.out _) (hb.mono (by simpa using hsz)))
        all_goals go_wp2
        all_goals
          go_roundw
          case rel => exact ⟨k + 1, by omega, by go_num, B1, HP'⟩
          case measure => simp [intOf]; omega
    · obtain rfl : k = rows.length := by omega
      have HF : Hid (tabB rows cols = true) := tabB_yes (by have := HL.out; omega) HP.out
      go_wp2
      go_ret
      exact ⟨ret_b HF.out.symm, hB.out⟩

theorem sTab_any (v : Value) (rows : List (List Fr)) (w : World) (h : RdT w v rows) :
    Calls Try.prog 51 #[v] w fun e w' => e = .returned (.bool (tabB rows 6)) ∧ Below w.heap.size w w' := by
  go_enter Try.func51, Try.ntmps51
  go_wp2_with fail
  refine (sTold_any v rows 6 _ h).mono ?_
  rintro e w1 ⟨rfl, hb⟩
  go_wp2
  go_ret
  exact ⟨rfl, hb⟩
end Go.Proofs.Ytkcdpjcfbpjkean
