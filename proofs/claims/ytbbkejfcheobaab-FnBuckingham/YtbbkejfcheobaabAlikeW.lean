/- The walks of the program's and the model's Alike, and of what both ask of a list of dimensions. -/
import Derived.Test.YtbbkejfcheobaabTabI0
import Derived.Test.YtbbkejfcheobaabDimW6
namespace Go.Proofs.Ytbbkejfcheobaab
open Go.RowKit Go.Proofs.Ytbbkejfcheobaab.RM

/-- one to six dimensions -/
def dimsB (rows : List (List Int)) : Bool := decide (1 ≤ rows.length ∧ rows.length ≤ 6) && rows.all dimB
theorem dimsB_head {rows : List (List Int)} (h : ¬ (1 ≤ rows.length ∧ rows.length ≤ 6)) : dimsB rows = false := by
  unfold dimsB; rw [decide_eq_false h]; rfl
theorem dimsB_row {rows : List (List Int)} {k : Nat} (hk : k < rows.length) (h : dimB (ri rows k) = false) : dimsB rows = false := by
  unfold dimsB
  rw [all_no dimB [] hk h, Bool.and_false]
theorem dimsB_yes {rows : List (List Int)} (h : 1 ≤ rows.length ∧ rows.length ≤ 6) (hr : ∀ k, k < rows.length → dimB (ri rows k) = true) : dimsB rows = true := by
  unfold dimsB
  rw [decide_eq_true h, Bool.true_and]
  exact all_yes dimB [] hr
theorem dimsB_out {rows : List (List Int)} (h : dimsB rows = true) : (1 ≤ rows.length ∧ rows.length ≤ 6) ∧ ∀ k, k < rows.length → dimB (ri rows k) = true := by
  unfold dimsB at h
  rw [Bool.and_eq_true, decide_eq_true_eq] at h
  exact ⟨h.1, fun k hk => all_at (d := ([] : List Int)) h.2 hk⟩
/-- the product of the first k of them, each raised -/
def alikeF (rows : List (List Int)) (ps : List Int) : Nat → List Int
  | 0 => [0, 0, 0, 0, 0]
  | k + 1 => ansDimTimes (alikeF rows ps k) (ansDimPower (ri rows k) (fi ps k))
def ansAlike (rows : List (List Int)) (ps : List Int) : List Int := if dimsB rows && decide (rows.length = ps.length) then alikeF rows ps rows.length else []
theorem alikeF_nil {rows : List (List Int)} {ps : List Int} {k : Nat} (h : alikeF rows ps k = []) : ∀ d, alikeF rows ps (k + d) = []
  | 0 => h
  | d + 1 => by
    show ansDimTimes (alikeF rows ps (k + d)) _ = []
    rw [alikeF_nil h d]
    rfl
theorem alikeF_len (rows : List (List Int)) (ps : List Int) : ∀ k, (alikeF rows ps k).length ≤ 1000000000
  | 0 => by simp [alikeF]
  | k + 1 => ansDimTimes_len _ _
theorem ansAlike_len (rows : List (List Int)) (ps : List Int) : (ansAlike rows ps).length ≤ 1000000000 := by
  unfold ansAlike
  split
  · exact alikeF_len _ _ _
  · simp
theorem ansAlike_no {rows : List (List Int)} {ps : List Int} (h : dimsB rows = false ∨ rows.length ≠ ps.length) : ansAlike rows ps = [] := by
  unfold ansAlike
  rcases h with h | h
  · rw [h]; rfl
  · rw [decide_eq_false h, Bool.and_false]; rfl
theorem ansAlike_yes {rows : List (List Int)} {ps : List Int} (h : dimsB rows = true) (h2 : rows.length = ps.length) : ansAlike rows ps = alikeF rows ps rows.length := by
  unfold ansAlike
  rw [h, decide_eq_true h2]; rfl
/-- the values of a table of one's own, as a walk reads them -/
theorem TabI.vals {W : World} {base : Nat} {v : Value} {us : List Value} {rows : List (List Int)} (h : TabI W base v us rows) : ∃ a c, v = .slice a rows.length c ∧ ∀ i, i < rows.length → ∃ g, a = some ⟨g, 0, none⟩ ∧ W.cell? ⟨g, i, none⟩ = some (vl us i) := by
  have ho := h.outer
  have hl := h.len
  rw [hl] at ho
  obtain ⟨a, c, rfl⟩ := own_shape ho
  refine ⟨a, c, rfl, fun i hi => ?_⟩
  obtain ⟨g, cc, e⟩ := own_some ho (by omega)
  cases e
  have d1 := ho.cellAt i (by omega)
  rw [List.getElem?_eq_getElem (by omega)] at d1
  exact ⟨g, rfl, by rw [d1]; simp [vl, List.getElem?_eq_getElem (show i < us.length by omega)]⟩

/-- a table as the walks over dimensions read it: its rows are in memory of their own, or not of five numbers -/
structure RdD (W : World) (v : Value) (us : List Value) (rows : List (List Int)) : Prop where
  vals : ∃ a c, v = .slice a rows.length c ∧ ∀ i, i < rows.length → ∃ g, a = some ⟨g, 0, none⟩ ∧ W.cell? ⟨g, i, none⟩ = some (vl us i)
  inner : ∀ i, i < rows.length → DimIn W (vl us i) (ri rows i)
theorem RdD.below {W W' : World} {v : Value} {us : List Value} {rows : List (List Int)} (h : RdD W v us rows) (hb : Below W.heap.size W W') : RdD W' v us rows := by
  obtain ⟨a, c, e, h1⟩ := h.vals
  refine ⟨⟨a, c, e, fun i hi => ?_⟩, fun i hi => (h.inner i hi).below hb⟩
  obtain ⟨g, e2, h2⟩ := h1 i hi
  exact ⟨g, e2, cell_keep hb h2⟩
theorem TabI.rd {W : World} {base : Nat} {v : Value} {us : List Value} {rows : List (List Int)} (h : TabI W base v us rows) : RdD W v us rows :=
  ⟨h.vals, fun i hi => .of (h.inner i (by rw [h.len]; exact hi))⟩

set_option maxRecDepth 100000 in
set_option maxHeartbeats 1000000 in
theorem iDims_any (v : Value) (us : List Value) (rows : List (List Int)) (w : World) (h : RdD w v us rows) :
    Calls Try.prog 77 #[v] w fun e w' => e = .returned (.bool (dimsB rows)) ∧ Below w.heap.size w w' := by
  obtain ⟨n, hn⟩ : ∃ n, n = rows.length := ⟨_, rfl⟩
  have HC : Hid (∀ k, k < n → ∀ W : World, Below w.heap.size w W → Calls Try.prog 101 #[vl us k] W fun e w' => e = .returned (.bool (dimB (ri rows k))) ∧ Below W.heap.size W w') := by
    intro k hk W hW
    exact iDimOk_in (vl us k) (ri rows k) W ((h.inner k (by omega)).below hW)
  obtain ⟨a, c, rfl, hv⟩ := h.vals
  rw [← hn] at hv ⊢
  have H5 := hidL0 hv
  have HN := hidL0 hn
  clear h hv hn
  by_cases n0 : n < 1
  · have HF : Hid (dimsB rows = false) := dimsB_head (by have := HN.out; omega)
    have n1 : ¬ 6 < n := by omega
    go_enter Try.func77, Try.ntmps77
    go_wp2
    go_ret
    exact ⟨ret_b HF.out.symm, Below.refl _ _⟩
  by_cases n1 : 6 < n
  · have HF : Hid (dimsB rows = false) := dimsB_head (by have := HN.out; omega)
    go_enter Try.func77, Try.ntmps77
    go_wp2
    go_ret
    exact ⟨ret_b HF.out.symm, Below.refl _ _⟩
  go_enter Try.func77, Try.ntmps77
  go_wp2
  go_loopw [15] (fun i wr => ∃ k : Nat, k ≤ n ∧ i = .int .i64 k ∧ Hid (Below w.heap.size w wr) ∧ Hid (∀ j, j < k → dimB (ri rows j) = true)) (fun i _ => n - (intOf i).toNat)
  case atStart => exact ⟨0, Nat.zero_le _, rfl, Below.refl _ _, fun j hj => absurd hj (Nat.not_lt_zero _)⟩
  case round =>
    obtain ⟨k, hk, rfl, hB, HP⟩ := hrel
    by_cases hlt : k < n
    · obtain ⟨g, rfl, c1⟩ := H5.out k hlt
      replace c1 := cell_keep hB.out c1
      have HCk := hidL0 (HC.out k hlt)
      obtain ⟨x, hx⟩ : ∃ x, x = vl us k := ⟨_, rfl⟩
      rw [← hx] at c1 HCk
      obtain ⟨q, hq⟩ : ∃ q, q = dimB (ri rows k) := ⟨_, rfl⟩
      rw [← hq] at HCk
      have HQ := hidL0 hq
      have hsz := hB.out.size
      clear hx hq
      cases q
      · have HF : Hid (dimsB rows = false) := dimsB_row (by have := HN.out; omega) HQ.out.symm
        go_wp2_with (go_at_call 101; refine (HCk.out _ hB.out).mono ?_; rintro e w1 ⟨rfl, hb⟩; have B1 : Below w.heap.size w w1 := hB.out.trans (hb.mono hsz))
        go_ret
        exact ⟨ret_b HF.out.symm, B1⟩
      · have HP' : Hid (∀ j, j < k + 1 → dimB (ri rows j) = true) := by
          intro j hj
          by_cases e : j = k
          · subst e; exact HQ.out.symm
          · exact HP.out j (by omega)
        go_wp2_with (go_at_call 101; refine (HCk.out _ hB.out).mono ?_; rintro e w1 ⟨rfl, hb⟩; have B1 : Below w.heap.size w w1 := hB.out.trans (hb.mono hsz))
        go_roundw
        case rel => exact ⟨k + 1, by omega, by go_num, B1, HP'⟩
        case measure => simp [intOf]; omega
    · obtain rfl : k = n := by omega
      have HF : Hid (dimsB rows = true) := dimsB_yes (by have := HN.out; omega) (by rw [← HN.out]; exact HP.out)
      go_wp2
      go_ret
      exact ⟨ret_b HF.out.symm, hB.out⟩

set_option maxRecDepth 100000 in
set_option maxHeartbeats 1000000 in
theorem sDims_any (v : Value) (us : List Value) (rows : List (List Int)) (w : World) (h : RdD w v us rows) :
    Calls Try.prog 80 #[v] w fun e w' => e = .returned (.bool (dimsB rows)) ∧ Below w.heap.size w w' := by
  obtain ⟨n, hn⟩ : ∃ n, n = rows.length := ⟨_, rfl⟩
  have HC : Hid (∀ k, k < n → ∀ W : World, Below w.heap.size w W → Calls Try.prog 102 #[vl us k] W fun e w' => e = .returned (.bool (dimB (ri rows k))) ∧ Below W.heap.size W w') := by
    intro k hk W hW
    refine (sDimOk_in (vl us k) (ri rows k) W ((h.inner k (by omega)).below hW)).mono ?_
    rintro e w' ⟨rfl, m, rfl⟩
    exact ⟨rfl, below_drewN (Below.refl _ _) _⟩
  obtain ⟨a, c, rfl, hv⟩ := h.vals
  rw [← hn] at hv ⊢
  have H5 := hidL0 hv
  have HN := hidL0 hn
  clear h hv hn
  by_cases n0 : n < 1
  · have HF : Hid (dimsB rows = false) := dimsB_head (by have := HN.out; omega)
    have n1 : ¬ 6 < n := by omega
    go_enter Try.func80, Try.ntmps80
    go_wp2
    go_ret
    exact ⟨ret_b HF.out.symm, Below.refl _ _⟩
  by_cases n1 : 6 < n
  · have HF : Hid (dimsB rows = false) := dimsB_head (by have := HN.out; omega)
    go_enter Try.func80, Try.ntmps80
    go_wp2
    go_ret
    exact ⟨ret_b HF.out.symm, Below.refl _ _⟩
  go_enter Try.func80, Try.ntmps80
  go_wp2
  go_loopw [3] (fun i wr => ∃ k : Nat, k ≤ n ∧ i = .int .i64 k ∧ Hid (Below w.heap.size w wr) ∧ Hid (∀ j, j < k → dimB (ri rows j) = true)) (fun i _ => n - (intOf i).toNat)
  case atStart => exact ⟨0, Nat.zero_le _, rfl, Below.refl _ _, fun j hj => absurd hj (Nat.not_lt_zero _)⟩
  case round =>
    obtain ⟨k, hk, rfl, hB, HP⟩ := hrel
    by_cases hlt : k < n
    · obtain ⟨g, rfl, c1⟩ := H5.out k hlt
      replace c1 := cell_keep hB.out c1
      have HCk := hidL0 (HC.out k hlt)
      obtain ⟨x, hx⟩ : ∃ x, x = vl us k := ⟨_, rfl⟩
      rw [← hx] at c1 HCk
      obtain ⟨q, hq⟩ : ∃ q, q = dimB (ri rows k) := ⟨_, rfl⟩
      rw [← hq] at HCk
      have HQ := hidL0 hq
      have hsz := hB.out.size
      clear hx hq
      cases q
      · have HF : Hid (dimsB rows = false) := dimsB_row (by have := HN.out; omega) HQ.out.symm
        go_wp2_with (go_at_call 102; refine (HCk.out _ hB.out).mono ?_; rintro e w1 ⟨rfl, hb⟩; have B1 : Below w.heap.size w w1 := hB.out.trans (hb.mono hsz))
        go_ret
        exact ⟨ret_b HF.out.symm, B1⟩
      · have HP' : Hid (∀ j, j < k + 1 → dimB (ri rows j) = true) := by
          intro j hj
          by_cases e : j = k
          · subst e; exact HQ.out.symm
          · exact HP.out j (by omega)
        go_wp2_with (go_at_call 102; refine (HCk.out _ hB.out).mono ?_; rintro e w1 ⟨rfl, hb⟩; have B1 : Below w.heap.size w w1 := hB.out.trans (hb.mono hsz))
        go_roundw
        case rel => exact ⟨k + 1, by omega, by go_num, B1, HP'⟩
        case measure => simp [intOf]; omega
    · obtain rfl : k = n := by omega
      have HF : Hid (dimsB rows = true) := dimsB_yes (by have := HN.out; omega) (by rw [← HN.out]; exact HP.out)
      go_wp2
      go_ret
      exact ⟨ret_b HF.out.symm, hB.out⟩
end Go.Proofs.Ytbbkejfcheobaab
