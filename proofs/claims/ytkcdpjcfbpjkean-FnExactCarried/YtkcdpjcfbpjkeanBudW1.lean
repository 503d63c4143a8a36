/- Covers: what the model asks of them (l8Square, CoverOk, l8Told). -/
import Derived.Test.YtkcdpjcfbpjkeanTabW2
import Derived.BigRegion
namespace Go.Proofs.Ytkcdpjcfbpjkean
open Go.RowKit Go.Proofs.Ytkcdpjcfbpjkean.RM

theorem hidW8 {p : Prop} (h : p) : Hid p := h
/-- as many rows as long, of right fractions -/
def sqB (rows : List (List Fr)) (n : Int) : Bool := decide (1 ≤ n ∧ n ≤ 6 ∧ (rows.length : Int) = n) && rows.all (fun r => allB r n)
/-- alike across the diagonal -/
def symP (rows : List (List Fr)) : Prop := ∀ i, i < rows.length → ∀ k, k < i → fr (rw' rows i) k = fr (rw' rows k) i
instance (rows : List (List Fr)) : Decidable (symP rows) := by unfold symP; infer_instance
def covB (rows : List (List Fr)) : Bool := sqB rows rows.length && decide (symP rows)
theorem sqB_head {rows : List (List Fr)} {n : Int} (h : ¬ (1 ≤ n ∧ n ≤ 6 ∧ (rows.length : Int) = n)) : sqB rows n = false := by unfold sqB; rw [decide_eq_false h]; rfl
theorem sqB_row {rows : List (List Fr)} {n : Int} {k : Nat} (hk : k < rows.length) (h : allB (rw' rows k) n = false) : sqB rows n = false := by
  unfold sqB
  rw [all_no (fun r => allB r n) [] hk h, Bool.and_false]
theorem sqB_yes {rows : List (List Fr)} {n : Int} (h : 1 ≤ n ∧ n ≤ 6 ∧ (rows.length : Int) = n) (hr : ∀ k, k < rows.length → allB (rw' rows k) n = true) : sqB rows n = true := by
  unfold sqB
  rw [decide_eq_true h, Bool.true_and]
  exact all_yes (fun r => allB r n) [] hr
theorem sqB_out {rows : List (List Fr)} {n : Int} (h : sqB rows n = true) : (1 ≤ n ∧ n ≤ 6 ∧ (rows.length : Int) = n) ∧ ∀ k, k < rows.length → allB (rw' rows k) n = true := by
  unfold sqB at h
  rw [Bool.and_eq_true, decide_eq_true_eq] at h
  exact ⟨h.1, fun k hk => all_at (p := fun r => allB r n) (d := ([] : List Fr)) h.2 hk⟩
theorem allB_len {ps : List Fr} {n : Int} (h0 : 0 ≤ n) (h : allB ps n = true) : (ps.length : Int) = n ∧ allOk ps = true := by
  unfold allB at h
  rw [Bool.and_eq_true, decide_eq_true_eq] at h
  exact ⟨by omega, h.2⟩
theorem covB_out {rows : List (List Fr)} (h : covB rows = true) : (1 ≤ rows.length ∧ rows.length ≤ 6) ∧ (∀ k, k < rows.length → (rw' rows k).length = rows.length ∧ allOk (rw' rows k) = true) ∧ symP rows := by
  unfold covB at h
  rw [Bool.and_eq_true, decide_eq_true_eq] at h
  obtain ⟨⟨h1, h2, h3⟩, h4⟩ := sqB_out h.1
  refine ⟨by omega, fun k hk => ?_, h.2⟩
  obtain ⟨e1, e2⟩ := allB_len (by omega) (h4 k hk)
  exact ⟨by omega, e2⟩

set_option maxRecDepth 100000 in
set_option maxHeartbeats 1000000 in
theorem sSq_any (v : Value) (rows : List (List Fr)) (n : Int) (w : World) (h : RdT w v rows) :
    Calls Try.prog 35 #[v, .int .i64 n] w fun e w' => e = .returned (.bool (sqB rows n)) ∧ Below w.heap.size w w' := by
  obtain ⟨a, c, rfl, h2, h3, h4, h5⟩ := h
  have H5 : Hid (∀ i, i < rows.length → ∃ b off u, a = some ⟨b, off, none⟩ ∧ w.cell? ⟨b, off + i, none⟩ = some u ∧ RdR w u (rw' rows i)) := h5
  unfold maxLen at h2
  clear h5 h3 h4
  by_cases n0 : n < 1
  · have HF : Hid (sqB rows n = false) := sqB_head (by omega)
    go_enter Try.func35, Try.ntmps35
    go_wp2
    go_ret
    exact ⟨ret_b HF.out.symm, Below.refl _ _⟩
  by_cases n1 : 6 < n
  · have HF : Hid (sqB rows n = false) := sqB_head (by omega)
    go_enter Try.func35, Try.ntmps35
    go_wp2
    go_ret
    exact ⟨ret_b HF.out.symm, Below.refl _ _⟩
  obtain ⟨L, hL⟩ : ∃ L, L = rows.length := ⟨_, rfl⟩
  have HL := hidW8 hL
  rw [← hL] at h2 ⊢
  clear hL
  by_cases n2 : (L : Int) = n
  · have ne : ((L : Int) != n) = false := by simp [n2]
    have HN := hidW8 n2
    clear n2
    go_enter Try.func35, Try.ntmps35
    go_wp2
    go_loopw [5] (fun i wr => ∃ k : Nat, k ≤ L ∧ i = .int .i64 k ∧ Hid (Below w.heap.size w wr) ∧ Hid (∀ j, j < k → allB (rw' rows j) n = true)) (fun i _ => L - (intOf i).toNat)
    case atStart => exact ⟨0, Nat.zero_le _, rfl, Below.refl _ _, fun j hj => absurd hj (Nat.not_lt_zero _)⟩
    case round =>
      obtain ⟨k, hk, rfl, hB, HP⟩ := hrel
      by_cases hlt : k < L
      · have hkn : (k : Int) < n := by have := HN.out; omega
        obtain ⟨b, off, u, rfl, c1, hu⟩ := H5.out k (by rw [← HL.out]; exact hlt)
        have hs := World.block_lt_of_cell? w _ c1
        replace c1 := (hB.out.cell (p := ⟨b, off + k, none⟩) hs).trans c1
        have HU : Hid (RdR w u (rw' rows k)) := hu
        obtain ⟨q, hq⟩ : ∃ q, q = allB (rw' rows k) n := ⟨_, rfl⟩
        have HC : Hid (∀ W : World, Below w.heap.size w W → Calls Try.prog 42 #[u, .int .i64 n] W fun e w' => e = .returned (.bool q) ∧ Below W.heap.size W w') := by
          intro W hW; rw [hq]; exact sAll_any u _ _ W (HU.out.below hW)
        have HQ := hidW8 hq
        clear hs hu hq
        go_wp2_with fail
        refine (HC.out _ hB.out).mono ?_
        rintro e w1 ⟨rfl, hb⟩
        have HB1 := hidW8 (hB.out.trans (hb.mono hB.out.size))
        clear hb c1
        cases q
        · have HF : Hid (sqB rows n = false) := sqB_row (by rw [← HL.out]; exact hlt) HQ.out.symm
          go_wp2
          go_ret
          exact ⟨ret_b HF.out.symm, HB1.out⟩
        · have HP' : Hid (∀ j, j < k + 1 → allB (rw' rows j) n = true) := by
            intro j hj
            by_cases e : j = k
            · subst e; exact HQ.out.symm
            · exact HP.out j (by omega)
          go_wp2
          go_roundw
          case rel => exact ⟨k + 1, by omega, by go_num, HB1.out, HP'⟩
          case measure => simp [intOf]; omega
      · have hkn : ¬ (k : Int) < n := by have := HN.out; omega
        have HF : Hid (sqB rows n = true) := sqB_yes (by have := HN.out; have := HL.out; omega) (fun j hj => HP.out j (by have := HL.out; omega))
        go_wp2
        go_ret
        exact ⟨ret_b HF.out.symm, hB.out⟩
  · have ne : ((L : Int) != n) = true := by simp [n2]
    have HF : Hid (sqB rows n = false) := sqB_head (by have := HL.out; omega)
    go_enter Try.func35, Try.ntmps35
    go_wp2
    go_ret
    exact ⟨ret_b HF.out.symm, Below.refl _ _⟩

set_option maxRecDepth 100000 in
set_option maxHeartbeats 2000000 in
theorem sCov_any (v : Value) (rows : List (List Fr)) (w : World) (h : RdT w v rows) :
    Calls Try.prog 10 #[v] w fun e w' => e = .returned (.bool (covB rows)) ∧ Below w.heap.size w w' := by
  have HS := hidW8 (fun W (hW : Below w.heap.size w W) => sSq_any v rows rows.length W (h.below hW))
  obtain ⟨q, hq⟩ : ∃ q, q = sqB rows rows.length := ⟨_, rfl⟩
  rw [← hq] at HS
  have HQ := hidW8 hq
  obtain ⟨r, hr⟩ : ∃ r, r = covB rows := ⟨_, rfl⟩
  have HRR := hidW8 hr
  rw [← hr]
  obtain ⟨a, c, rfl, h2, h3, h4, h5⟩ := h
  have H5 : Hid (∀ i, i < rows.length → ∃ b off u, a = some ⟨b, off, none⟩ ∧ w.cell? ⟨b, off + i, none⟩ = some u ∧ RdR w u (rw' rows i)) := h5
  unfold maxLen at h2
  obtain ⟨L, hL⟩ : ∃ L, L = rows.length := ⟨_, rfl⟩
  have HL := hidW8 hL
  rw [← hL] at h2 HS ⊢
  clear hL h5 h3 h4 hq hr
  go_enter Try.func10, Try.ntmps10
  go_wp2_with fail
  refine (HS.out _ (Below.refl _ _)).mono ?_
  rintro e w1 ⟨rfl, hb⟩
  have HB := hidW8 hb
  clear hb HS
  cases q
  · have HF : Hid (r = false) := by show _ = _; rw [HRR.out]; unfold covB; rw [← HQ.out]; rfl
    go_wp2
    go_ret
    exact ⟨ret_b HF.out.symm, HB.out⟩
  have HE : Hid (∀ i, i < L → (rw' rows i).length = L) := by
    intro i hi
    obtain ⟨⟨h1, h2, h3⟩, h4⟩ := sqB_out HQ.out.symm
    have := (allB_len (by omega) (h4 i (by rw [← HL.out]; exact hi))).1
    have := HL.out
    omega
  go_wp2
  go_loopw [3] (fun i wr => ∃ k : Nat, k ≤ L ∧ i = .int .i64 k ∧ Hid (Below w.heap.size w wr) ∧ Hid (∀ i, i < k → ∀ j, j < i → fr (rw' rows i) j = fr (rw' rows j) i)) (fun i _ => L - (intOf i).toNat)
  case atStart => exact ⟨0, Nat.zero_le _, rfl, HB.out, fun j hj => absurd hj (Nat.not_lt_zero _)⟩
  case round =>
    obtain ⟨k, hk, rfl, hB, HP⟩ := hrel
    by_cases hlt : k < L
    · have hdec : decide ((k : Int) < (L : Int)) = true := decide_eq_true (by omega)
      go_wp2
      go_loopw [4] (fun i wr => ∃ j : Nat, j ≤ k ∧ i = .int .i64 j ∧ Hid (Below w.heap.size w wr) ∧ Hid (∀ m, m < j → fr (rw' rows k) m = fr (rw' rows m) k)) (fun i _ => k - (intOf i).toNat)
      case atStart => exact ⟨0, Nat.zero_le _, rfl, hB.out, fun j hj => absurd hj (Nat.not_lt_zero _)⟩
      case round =>
        clear hB
        obtain ⟨j, hj, rfl, hB, HJ⟩ := hrel
        by_cases hlj : j < k
        · obtain ⟨b, off, u, rfl, c1, a1, d1, rfl, -, -, -, r1⟩ := H5.out k (by rw [← HL.out]; exact hlt)
          obtain ⟨b', off', u', e, c2, a2, d2, rfl, -, -, -, r2⟩ := H5.out j (by rw [← HL.out]; omega)
          cases e
          obtain ⟨b1, o1, rfl, x1, x2⟩ := r1 j (by rw [HE.out k hlt]; omega)
          obtain ⟨b2, o2, rfl, y1, y2⟩ := r2 k (by rw [HE.out j (by omega)]; exact hlt)
          rw [HE.out k hlt] at c1
          rw [HE.out j (by omega)] at c2
          have l1 := World.block_lt_of_cell? w _ c1
          have l3 := World.block_lt_of_cell? w _ x1
          have l4 := World.block_lt_of_cell? w _ y1
          replace c1 := (hB.out.cell (p := ⟨b, off + k, none⟩) l1).trans c1
          replace c2 := (hB.out.cell (p := ⟨b, off + j, none⟩) l1).trans c2
          replace x1 := (hB.out.cell (p := ⟨b1, o1 + j * 2, none⟩) l3).trans x1
          replace x2 := (hB.out.cell (p := ⟨b1, o1 + j * 2 + 1, none⟩) l3).trans x2
          replace y1 := (hB.out.cell (p := ⟨b2, o2 + k * 2, none⟩) l4).trans y1
          replace y2 := (hB.out.cell (p := ⟨b2, o2 + k * 2 + 1, none⟩) l4).trans y2
          obtain ⟨p, hp⟩ : ∃ p, p = fr (rw' rows k) j := ⟨_, rfl⟩
          obtain ⟨t, ht⟩ : ∃ p, p = fr (rw' rows j) k := ⟨_, rfl⟩
          rw [← hp] at x1 x2
          rw [← ht] at y1 y2
          have HPT := hidW8 (And.intro hp ht)
          obtain ⟨p1, p2⟩ := p
          obtain ⟨t1, t2⟩ := t
          simp only at x1 x2 y1 y2
          clear l1 l3 l4 hp ht r1 r2
          have hlj2 : (j : Int) < (L : Int) := by omega
          have hlk2 : (k : Int) < (L : Int) := by omega
          by_cases he : (p1, p2) = (t1, t2)
          · cases he
            have e1 : (p1 != p1) = false := by simp
            have e2 : (p2 != p2) = false := by simp
            have HJ' : Hid (∀ m, m < j + 1 → fr (rw' rows k) m = fr (rw' rows m) k) := by
              intro m hm
              by_cases e : m = j
              · subst e; rw [← HPT.out.1, ← HPT.out.2]
              · exact HJ.out m (by omega)
            go_wp2
            go_region
            go_wp2
            go_roundw
            case rel => exact ⟨j + 1, by omega, by go_num, hB.out.drew, HJ'⟩
            case measure => simp [intOf]; omega
          · have n1 : (p1 != t1 || p2 != t2) = true := by
              by_cases e : p1 = t1
              · have : p2 ≠ t2 := fun h => he (by rw [e, h])
                simp [e, this]
              · simp [e]
            have n2 : (p1 == t1 && p2 == t2) = false := by
              rw [← Bool.not_eq_true]
              intro h
              simp at h
              exact he (by rw [h.1, h.2])
            have HF : Hid (r = false) := by
              show _ = _
              rw [HRR.out]
              unfold covB
              rw [Bool.and_eq_false_iff]
              refine .inr (decide_eq_false fun h => he ?_)
              have := h k (by rw [← HL.out]; exact hlt) j hlj
              rw [← HPT.out.1, ← HPT.out.2] at this
              exact this
            by_cases e : p1 = t1
            · subst e
              have n3 : ¬ p2 = t2 := fun h => he (by rw [h])
              have n4 : (p2 != t2) = true := by simp [n3]
              have n5 : (p2 == t2) = false := by simp [n3]
              have n6 : (p1 != p1) = false := by simp
              have n7 : (p1 == p1) = true := by simp
              clear he n1 n2
              go_wp2
              go_quiet (fail)
              go_wp2
              go_ret
              exact ⟨ret_b HF.out.symm, below_drewN hB.out _⟩
            · have n4 : (p1 != t1) = true := by simp [e]
              have n5 : (p1 == t1) = false := by simp [e]
              clear he n1 n2
              go_wp2
              go_quiet (fail)
              go_wp2
              go_ret
              exact ⟨ret_b HF.out.symm, below_drewN hB.out _⟩
        · obtain rfl : j = k := by omega
          have HP' : Hid (∀ i, i < j + 1 → ∀ m, m < i → fr (rw' rows i) m = fr (rw' rows m) i) := by
            intro i hi m hm
            by_cases e : i = j
            · subst e; exact HJ.out m hm
            · exact HP.out i (by omega) m hm
          go_wp2
          go_roundw
          case rel => exact ⟨j + 1, by omega, by go_num, hB.out, HP'⟩
          case measure => simp [intOf]; omega
    · have HF : Hid (r = true) := by
        show _ = _
        rw [HRR.out]
        unfold covB
        rw [← HQ.out, Bool.true_and]
        exact decide_eq_true fun i hi j hj => HP.out i (by have := HL.out; omega) j hj
      go_wp2
      go_ret
      exact ⟨ret_b HF.out.symm, hB.out⟩

/-- shares and their cover -/
def toldC (ps : List Fr) (rows : List (List Fr)) : Bool := covB rows && allB ps rows.length
set_option maxHeartbeats 1000000 in
theorem sToldC_any (u v : Value) (ps : List Fr) (rows : List (List Fr)) (w : World) (h0 : RdR w u ps) (h : RdT w v rows) :
    Calls Try.prog 37 #[u, v] w fun e w' => e = .returned (.bool (toldC ps rows)) ∧ Below w.heap.size w w' := by
  have HC := hidW8 (fun W (hW : Below w.heap.size w W) => sCov_any v rows W (h.below hW))
  have HA := hidW8 (fun W (hW : Below w.heap.size w W) => sAll_any u ps rows.length W (h0.below hW))
  unfold toldC
  obtain ⟨p, hp⟩ : ∃ p, p = covB rows := ⟨_, rfl⟩
  obtain ⟨q, hq⟩ : ∃ p, p = allB ps rows.length := ⟨_, rfl⟩
  rw [← hp] at HC ⊢
  rw [← hq] at HA ⊢
  obtain ⟨a, c, rfl, h2, h3, h4, h5⟩ := h
  obtain ⟨a', c', rfl, _⟩ := h0
  obtain ⟨L, hL⟩ : ∃ L, L = rows.length := ⟨_, rfl⟩
  obtain ⟨L', hL'⟩ : ∃ L, L = ps.length := ⟨_, rfl⟩
  rw [← hL] at HC HA ⊢
  rw [← hL'] at HA ⊢
  clear hp hq hL hL' h2 h3 h4 h5
  go_enter Try.func37, Try.ntmps37
  go_wp2_with fail
  refine (HC.out _ (Below.refl _ _)).mono ?_
  rintro e w1 ⟨rfl, hb⟩
  have HB := hidW8 hb
  clear hb
  cases p
  · go_wp2
    go_ret
    exact ⟨rfl, HB.out⟩
  go_wp2_with fail
  refine (HA.out _ HB.out).mono ?_
  rintro e w2 ⟨rfl, hb⟩
  replace HB := hidW8 (HB.out.trans (hb.mono HB.out.size))
  clear hb
  go_wp2
  go_ret
  exact ⟨by simp, HB.out⟩
end Go.Proofs.Ytkcdpjcfbpjkean
