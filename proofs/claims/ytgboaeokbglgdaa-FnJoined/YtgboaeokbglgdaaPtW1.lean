/- Spreads: what the model asks of them, their weights, what lies inside. -/
import Derived.Test.YtgboaeokbglgdaaPtW0
import Derived.BigQuiet
import Derived.Deep.DeepCutAuto
import Derived.Deep.CutRange
namespace Go.Proofs.Ytgboaeokbglgdaa
open Go.RowKit Go.Proofs.Ytgboaeokbglgdaa.RM

theorem hidP {p : Prop} (h : p) : Hid p := h
/-- the weights of the first k points -/
def wtS (ps : List Fr) : Nat → Int
  | 0 => 0
  | k + 1 => wtS ps k + (fr ps k).2
/-- a point that fits behind the one before -/
def ptP (ps : List Fr) (k : Nat) : Prop := (-1000 ≤ (fr ps k).1 ∧ (fr ps k).1 ≤ 1000) ∧ (1 ≤ (fr ps k).2 ∧ (fr ps k).2 ≤ 1000000) ∧ (0 < k → (fr ps (k - 1)).1 < (fr ps k).1)
instance (ps : List Fr) (k : Nat) : Decidable (ptP ps k) := by unfold ptP; infer_instance
def sprP (ps : List Fr) : Prop := (1 ≤ ps.length ∧ ps.length ≤ 40) ∧ (∀ k, k < ps.length → ptP ps k) ∧ wtS ps ps.length ≤ 1000000
instance (ps : List Fr) : Decidable (sprP ps) := by unfold sprP; infer_instance
def sprB (ps : List Fr) : Bool := decide (sprP ps)
theorem wtS_in {ps : List Fr} : ∀ {k : Nat}, (∀ j, j < k → ptP ps j) → 0 ≤ wtS ps k ∧ wtS ps k ≤ (k : Int) * 1000000
  | 0, _ => ⟨Int.le_refl _, by show (0 : Int) ≤ _; omega⟩
  | k + 1, h => by
    have h1 := wtS_in (ps := ps) (k := k) (fun j hj => h j (by omega))
    have h2 := (h k (by omega)).2.1
    show 0 ≤ wtS ps k + (fr ps k).2 ∧ wtS ps k + (fr ps k).2 ≤ _
    omega
theorem sprB_len {ps : List Fr} (h : ¬ (1 ≤ ps.length ∧ ps.length ≤ 40)) : sprB ps = false := decide_eq_false fun k => h k.1
theorem sprB_pt {ps : List Fr} {k : Nat} (hk : k < ps.length) (h : ¬ ptP ps k) : sprB ps = false := decide_eq_false fun q => h (q.2.1 k hk)
theorem sprB_out {ps : List Fr} (h : sprB ps = true) : sprP ps := of_decide_eq_true h

set_option maxRecDepth 100000 in
set_option maxHeartbeats 4000000 in
theorem sSpr_any (v : Value) (ps : List Fr) (w : World) (h : RdR w v ps) :
    Calls Try.prog 14 #[v] w fun e w' => e = .returned (.bool (sprB ps)) ∧ Below w.heap.size w w' := by
  obtain ⟨a, c, rfl, h2, h3, h4, h5⟩ := h
  have H5 : Hid (∀ j, j < ps.length → ∃ b off, a = some ⟨b, off, none⟩ ∧ w.cell? ⟨b, off + j * 2, none⟩ = some (.int .i64 (fr ps j).1) ∧ w.cell? ⟨b, off + j * 2 + 1, none⟩ = some (.int .i64 (fr ps j).2)) := h5
  unfold maxLen at h2
  obtain ⟨L, hL⟩ : ∃ L, L = ps.length := ⟨_, rfl⟩
  have HL := hidP hL
  rw [← hL] at h2 H5 ⊢
  clear h5 h3 h4 hL
  by_cases n0 : L < 1
  · have HF : Hid (sprB ps = false) := sprB_len (by have := HL.out; omega)
    go_enter Try.func14, Try.ntmps14
    go_wp2
    go_ret
    exact ⟨ret_b HF.out.symm, Below.refl _ _⟩
  by_cases n1 : 40 < L
  · have HF : Hid (sprB ps = false) := sprB_len (by have := HL.out; omega)
    go_enter Try.func14, Try.ntmps14
    go_wp2
    go_ret
    exact ⟨ret_b HF.out.symm, Below.refl _ _⟩
  go_enter Try.func14, Try.ntmps14
  go_wp2
  go_loopw [3, 4] (fun s i wr => ∃ k : Nat, k ≤ L ∧ i = .int .i64 k ∧ s = .int .i64 (wtS ps k) ∧ Hid (Below w.heap.size w wr) ∧ Hid (∀ j, j < k → ptP ps j)) (fun _ i _ => L - (intOf i).toNat)
  case atStart => exact ⟨0, Nat.zero_le _, rfl, rfl, Below.refl _ _, fun j hj => absurd hj (Nat.not_lt_zero _)⟩
  case round =>
    obtain ⟨k, hk, rfl, rfl, hB, HP⟩ := hrel
    have hw := wtS_in HP.out
    obtain ⟨s, hs⟩ : ∃ s, s = wtS ps k := ⟨_, rfl⟩
    have HS := hidP hs
    rw [← hs] at hw ⊢
    clear hs
    by_cases hlt : k < L
    · obtain ⟨b, off, rfl, c1, c2⟩ := H5.out k hlt
      replace c1 := cell_keep hB.out c1
      replace c2 := cell_keep hB.out c2
      obtain ⟨p, hp⟩ : ∃ p, p = fr ps k := ⟨_, rfl⟩
      have HQ := hidP hp
      rw [← hp] at c1 c2
      obtain ⟨x, y⟩ := p
      dsimp only at c1 c2
      clear hp
      have HX : Hid (∀ W : World, Calls Try.prog 28 #[.int .i64 x, .int .i64 (-1000), .int .i64 1000] W fun e w' => e = .returned (.bool (inB x (-1000) 1000)) ∧ w' = W) := fun W => in_any x (-1000) 1000 W
      have HY : Hid (∀ W : World, Calls Try.prog 28 #[.int .i64 y, .int .i64 1, .int .i64 1000000] W fun e w' => e = .returned (.bool (inB y 1 1000000)) ∧ w' = W) := fun W => in_any y 1 1000000 W
      by_cases g1 : -1000 ≤ x ∧ x ≤ 1000
      case neg =>
        have HF : Hid (sprB ps = false) := sprB_pt (k := k) (by rw [← HL.out]; exact hlt) (fun q => g1 (by have := q.1; rw [← HQ.out] at this; exact this))
        rw [inB_no g1] at HX
        clear g1
        go_upto_region 7 with fail
        go_quiet (first | with_reducible exact Calls.quiet_of_same (HX.out _) | with_reducible exact Calls.quiet_of_same (HY.out _))
        go_wp2
        go_ret
        exact ⟨ret_b HF.out.symm, below_drewN hB.out _⟩
      rw [inB_yes g1.1 g1.2] at HX
      by_cases g2 : 1 ≤ y ∧ y ≤ 1000000
      case neg =>
        have HF : Hid (sprB ps = false) := sprB_pt (k := k) (by rw [← HL.out]; exact hlt) (fun q => g2 (by have := q.2.1; rw [← HQ.out] at this; exact this))
        rw [inB_no g2] at HY
        clear g2
        go_upto_region 7 with fail
        go_quiet (first | with_reducible exact Calls.quiet_of_same (HX.out _) | with_reducible exact Calls.quiet_of_same (HY.out _))
        go_wp2
        go_ret
        exact ⟨ret_b HF.out.symm, below_drewN hB.out _⟩
      rw [inB_yes g2.1 g2.2] at HY
      obtain ⟨y1, y2⟩ := g2
      have hk1 : s + y ≤ 41000000 := by omega
      have hk0 : 0 ≤ s + y := by omega
      by_cases hkz : k = 0
      · subst hkz
        simp only [Nat.zero_mul, Nat.add_zero] at c1 c2
        have HP' : Hid (∀ j, j < 0 + 1 → ptP ps j) := by
          intro j hj
          obtain rfl : j = 0 := by omega
          exact ⟨by rw [← HQ.out]; exact g1, by rw [← HQ.out]; exact ⟨y1, y2⟩, fun h => absurd h (by omega)⟩
        go_upto_region 7 with fail
        go_quiet (first | with_reducible exact Calls.quiet_of_same (HX.out _) | with_reducible exact Calls.quiet_of_same (HY.out _))
        go_wp2
        go_roundw
        case rel => exact ⟨0 + 1, by omega, by go_num, by rw [HS.out]; show _ = Value.int .i64 (wtS ps 0 + (fr ps 0).2); rw [← HQ.out], below_drewN hB.out _, HP'⟩
        case measure => simp [intOf]; omega
      · obtain ⟨m, rfl⟩ : ∃ m, k = m + 1 := ⟨k - 1, by omega⟩
        obtain ⟨b', off', e, d1, d2⟩ := H5.out m (by omega)
        cases e
        replace d1 := cell_keep hB.out d1
        obtain ⟨z, hz⟩ : ∃ z, z = (fr ps m).1 := ⟨_, rfl⟩
        have HZ := hidP hz
        rw [← hz] at d1
        clear hz d2
        have hm0 : (0 : Int) < (m : Int) + 1 := by omega
        by_cases g3 : z < x
        · have hnl : decide (x ≤ z) = false := decide_eq_false (by omega)
          have HP' : Hid (∀ j, j < m + 1 + 1 → ptP ps j) := by
            intro j hj
            by_cases e : j = m + 1
            · subst e
              exact ⟨by rw [← HQ.out]; exact g1, by rw [← HQ.out]; exact ⟨y1, y2⟩, fun _ => by rw [← HQ.out, Nat.add_sub_cancel, ← HZ.out]; exact g3⟩
            · exact HP.out j (by omega)
          go_upto_region 7 with fail
          go_quiet (first | with_reducible exact Calls.quiet_of_same (HX.out _) | with_reducible exact Calls.quiet_of_same (HY.out _))
          go_wp2
          go_roundw
          case rel => exact ⟨m + 1 + 1, by omega, by go_num, by rw [HS.out]; show _ = Value.int .i64 (wtS ps (m + 1) + (fr ps (m + 1)).2); rw [← HQ.out], below_drewN hB.out _, HP'⟩
          case measure => simp [intOf]; omega
        · have hnl : decide (x ≤ z) = true := decide_eq_true (by omega)
          have HF : Hid (sprB ps = false) := sprB_pt (k := m + 1) (by rw [← HL.out]; exact hlt) (fun q => g3 (by have := q.2.2 (by omega); rw [← HQ.out, Nat.add_sub_cancel, ← HZ.out] at this; exact this))
          go_upto_region 7 with fail
          go_quiet (first | with_reducible exact Calls.quiet_of_same (HX.out _) | with_reducible exact Calls.quiet_of_same (HY.out _))
          go_wp2
          go_ret
          exact ⟨ret_b HF.out.symm, below_drewN hB.out _⟩
    · obtain rfl : k = L := by omega
      by_cases hsum : s ≤ 1000000
      · have HF : Hid (sprB ps = true) := decide_eq_true ⟨by have := HL.out; omega, fun j hj => HP.out j (by have := HL.out; omega), by rw [← HL.out, ← HS.out]; exact hsum⟩
        go_wp2
        go_ret
        exact ⟨ret_b HF.out.symm, hB.out⟩
      · have HF : Hid (sprB ps = false) := decide_eq_false fun q => hsum (by have := q.2.2; rw [← HL.out, ← HS.out] at this; exact this)
        go_wp2
        go_ret
        exact ⟨ret_b HF.out.symm, hB.out⟩
end Go.Proofs.Ytgboaeokbglgdaa
