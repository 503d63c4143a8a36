/- The walk of the law of order. -/
import Derived.Test.YtcjeclipcpifaaaDrawW4
import Derived.Test.YtcjeclipcpifaaaRatioW5
import Derived.Test.YtcjeclipcpifaaaFloorW
import Derived.Test.YtcjeclipcpifaaaOrderMath
import Derived.Deep.RegionHeld3
import Derived.Deep.DeepCutAuto
namespace Go.Proofs.Ytcjeclipcpifaaa
open Go.RowKit Go.Proofs.Ytcjeclipcpifaaa.RM

theorem wholeB_any (n : Int) (w : World) :
    Calls Try.prog 27 #[.int .i64 n] w fun e w' => e = .returned (.agg #[.int .i64 n, .int .i64 1]) ∧ Below w.heap.size w w' := by
  refine (whole_any n w).mono ?_
  rintro e w' ⟨rfl, rfl⟩
  exact ⟨rfl, (Below.refl _ _).alloc (Nat.le_refl _) _⟩
theorem iLess_is {a b c d : Int} {x : Bool} (h : lessB a b c d = x) (w : World) :
    Calls Try.prog 24 #[.agg #[.int .i64 a, .int .i64 b], .agg #[.int .i64 c, .int .i64 d]] w fun e w' => e = .returned (.bool x) ∧ Below w.heap.size w w' := by
  rw [← h]; exact iLess_any a b c d w
theorem sOk_is {a b : Int} {x : Bool} (h : okB a b = x) (w : World) :
    Calls Try.prog 15 #[.agg #[.int .i64 a, .int .i64 b]] w fun e w' => e = .returned (.bool x) ∧ Below w.heap.size w w' := by
  rw [← h]; exact sOk_any a b w
theorem sAdd_yes {a b c d : Int} (h : two a b c d = true) (w : World) :
    Calls Try.prog 13 #[.agg #[.int .i64 a, .int .i64 b], .agg #[.int .i64 c, .int .i64 d]] w fun e w' => e = .returned (.tuple #[.agg #[.int .i64 (redN (a * d + c * b) (b * d)), .int .i64 (redD (a * d + c * b) (b * d))], .bool (redOk (a * d + c * b) (b * d))]) ∧ Below w.heap.size w w' := by
  have := sAdd_any a b c d w
  rw [h, (op_yes _ _).1, (op_yes _ _).2.1, (op_yes _ _).2.2] at this
  exact this

set_option maxRecDepth 100000 in
set_option maxHeartbeats 6400000 in
theorem lawOrder (a0 : Option Addr) (len cap : Nat) (zs : List Int) (w : World) (hr : IsRow .u8 w a0 len cap zs) :
    Calls Try.prog 4 #[.slice a0 len cap] w fun e w' => e = .returned (.bool true) ∧ Below w.heap.size w w' := by
  by_cases hl : 4096 < (len : Int)
  · have hbig : decide (4096 < (len : Int)) = true := decide_eq_true hl
    clear hl
    go_enter Try.func4, Try.ntmps4
    go_wp2_with fail
    refine (big_any _ _ _ _).mono ?_
    rintro e w1 ⟨rfl, hw⟩
    obtain rfl := hw.symm
    go_wp2
    go_ret
    exact ⟨rfl, Below.refl _ _⟩
  · have hbig : decide (4096 < (len : Int)) = false := decide_eq_false hl
    have hlen : len ≤ 4096 := by omega
    have HR : Hid (IsRow .u8 w a0 len cap zs) := hr
    clear hl hr
    go_enter Try.func4, Try.ntmps4
    go_wp2_with fail
    refine (big_any _ _ _ _).mono ?_
    rintro e w0 ⟨rfl, hw⟩
    obtain rfl := hw.symm
    go_wp2_with fail
    refine (dLess_any a0 len cap zs _ HR.out).mono ?_
    rintro e w1 ⟨a, b, c, d, rfl, hB1⟩
    go_wp2_with fail
    refine (dFloor_any a0 len cap zs _ ?_).mono ?_
    · exact HR.out.below (hB1.trans ((below_alN _ (below_alN _ (Below.refl _ _))).mono hB1.size))
    rintro e w2 ⟨f, g, rfl, hB2⟩
    obtain ⟨A, hA⟩ : ∃ A, A = w1.heap.size := ⟨_, rfl⟩
    have k0 : w2.cell? ⟨A, 0, none⟩ = some (.int .i64 a) := by rw [hA]; refine cell_later hB2 ?_; simp [go_sem]
    have k1 : w2.cell? ⟨A, 1, none⟩ = some (.int .i64 b) := by rw [hA]; refine cell_later hB2 ?_; simp [go_sem]
    have k2 : w2.cell? ⟨A + 1, 0, none⟩ = some (.int .i64 c) := by rw [hA]; refine cell_later hB2 ?_; simp [go_sem]
    have k3 : w2.cell? ⟨A + 1, 1, none⟩ = some (.int .i64 d) := by rw [hA]; refine cell_later hB2 ?_; simp [go_sem]
    have B : Below w.heap.size w w2 := (hB1.trans ((below_alN _ (below_alN _ (Below.refl _ _))).mono hB1.size)).trans (hB2.mono (by have := hB1.size; simp <;> omega))
    rw [← hA]
    clear hB1 hB2 hA
    go_wp2_with fail
    refine (iFloor_any _ _ _).mono ?_
    rintro e w3 ⟨rfl, hB3⟩
    obtain ⟨E, hE⟩ : ∃ E, E = w2.heap.size := ⟨_, rfl⟩
    replace k0 := cell_later hB3 (cell_al _ k0)
    replace k1 := cell_later hB3 (cell_al _ k1)
    replace k2 := cell_later hB3 (cell_al _ k2)
    replace k3 := cell_later hB3 (cell_al _ k3)
    have k4 : w3.cell? ⟨E, 0, none⟩ = some (.int .i64 f) := by rw [hE]; refine cell_later hB3 ?_; simp [go_sem]
    have k5 : w3.cell? ⟨E, 1, none⟩ = some (.int .i64 g) := by rw [hE]; refine cell_later hB3 ?_; simp [go_sem]
    replace B : Below w.heap.size w w3 := (B.trans ((below_alN _ (Below.refl _ _)).mono B.size)).trans (hB3.mono (by have := B.size; simp <;> omega))
    rw [← hE]
    clear hB3 hE
    have hok1 : (lessB a b c d != lessB a b c d) = false := by simp
    have hok2 : (floI f g != floI f g) = false := by simp
    go_upto_region 6 with fail
    go_region_held3 (fun w' => w'.cell? ⟨A, 0, none⟩ = some (.int .i64 a) ∧ w'.cell? ⟨A, 1, none⟩ = some (.int .i64 b) ∧ w'.cell? ⟨A + 1, 0, none⟩ = some (.int .i64 c) ∧ w'.cell? ⟨A + 1, 1, none⟩ = some (.int .i64 d) ∧ w'.cell? ⟨E, 0, none⟩ = some (.int .i64 f) ∧ w'.cell? ⟨E, 1, none⟩ = some (.int .i64 g)) (refine ⟨?_, ?_, ?_, ?_, ?_, ?_⟩ <;> (repeat (with_reducible (first | refine cell_dr ?_ | refine cell_al _ ?_ | exact k0 | exact k1 | exact k2 | exact k3 | exact k4 | exact k5)))) (first | (go_at_call 24; refine (iLess_any _ _ _ _ _).mono ?_; rintro e wN ⟨rfl, hbN⟩; replace k0 : wN.cell? ⟨A, 0, none⟩ = some (.int .i64 a) := (by first | exact cell_later hbN k0 | exact cell_later hbN (cell_dr k0)); replace k1 : wN.cell? ⟨A, 1, none⟩ = some (.int .i64 b) := (by first | exact cell_later hbN k1 | exact cell_later hbN (cell_dr k1)); replace k2 : wN.cell? ⟨A + 1, 0, none⟩ = some (.int .i64 c) := (by first | exact cell_later hbN k2 | exact cell_later hbN (cell_dr k2)); replace k3 : wN.cell? ⟨A + 1, 1, none⟩ = some (.int .i64 d) := (by first | exact cell_later hbN k3 | exact cell_later hbN (cell_dr k3)); replace k4 : wN.cell? ⟨E, 0, none⟩ = some (.int .i64 f) := (by first | exact cell_later hbN k4 | exact cell_later hbN (cell_dr k4)); replace k5 : wN.cell? ⟨E, 1, none⟩ = some (.int .i64 g) := (by first | exact cell_later hbN k5 | exact cell_later hbN (cell_dr k5)); replace B : Below w.heap.size w wN := (by first | exact Below.trans B (hbN.mono B.size) | exact Below.trans B.drew (hbN.mono B.drew.size)); clear hbN) | (go_at_call 25; refine (sLess_any _ _ _ _ _).mono ?_; rintro e wN ⟨rfl, hbN⟩; replace k0 : wN.cell? ⟨A, 0, none⟩ = some (.int .i64 a) := (by first | exact cell_later hbN k0 | exact cell_later hbN (cell_dr k0)); replace k1 : wN.cell? ⟨A, 1, none⟩ = some (.int .i64 b) := (by first | exact cell_later hbN k1 | exact cell_later hbN (cell_dr k1)); replace k2 : wN.cell? ⟨A + 1, 0, none⟩ = some (.int .i64 c) := (by first | exact cell_later hbN k2 | exact cell_later hbN (cell_dr k2)); replace k3 : wN.cell? ⟨A + 1, 1, none⟩ = some (.int .i64 d) := (by first | exact cell_later hbN k3 | exact cell_later hbN (cell_dr k3)); replace k4 : wN.cell? ⟨E, 0, none⟩ = some (.int .i64 f) := (by first | exact cell_later hbN k4 | exact cell_later hbN (cell_dr k4)); replace k5 : wN.cell? ⟨E, 1, none⟩ = some (.int .i64 g) := (by first | exact cell_later hbN k5 | exact cell_later hbN (cell_dr k5)); replace B : Below w.heap.size w wN := (by first | exact Below.trans B (hbN.mono B.size) | exact Below.trans B.drew (hbN.mono B.drew.size)); clear hbN) | (go_at_call 26; refine (sFloor_any _ _ _).mono ?_; rintro e wN ⟨rfl, hbN⟩; replace k0 : wN.cell? ⟨A, 0, none⟩ = some (.int .i64 a) := (by first | exact cell_later hbN k0 | exact cell_later hbN (cell_dr k0)); replace k1 : wN.cell? ⟨A, 1, none⟩ = some (.int .i64 b) := (by first | exact cell_later hbN k1 | exact cell_later hbN (cell_dr k1)); replace k2 : wN.cell? ⟨A + 1, 0, none⟩ = some (.int .i64 c) := (by first | exact cell_later hbN k2 | exact cell_later hbN (cell_dr k2)); replace k3 : wN.cell? ⟨A + 1, 1, none⟩ = some (.int .i64 d) := (by first | exact cell_later hbN k3 | exact cell_later hbN (cell_dr k3)); replace k4 : wN.cell? ⟨E, 0, none⟩ = some (.int .i64 f) := (by first | exact cell_later hbN k4 | exact cell_later hbN (cell_dr k4)); replace k5 : wN.cell? ⟨E, 1, none⟩ = some (.int .i64 g) := (by first | exact cell_later hbN k5 | exact cell_later hbN (cell_dr k5)); replace B : Below w.heap.size w wN := (by first | exact Below.trans B (hbN.mono B.size) | exact Below.trans B.drew (hbN.mono B.drew.size)); clear hbN))
    go_upto_region 8 with fail
    go_cut [59] (fun s wx => s = .bool false ∧ Hid (Below w.heap.size w wx) ∧ wx.cell? ⟨A, 0, none⟩ = some (.int .i64 a) ∧ wx.cell? ⟨A, 1, none⟩ = some (.int .i64 b) ∧ wx.cell? ⟨A + 1, 0, none⟩ = some (.int .i64 c) ∧ wx.cell? ⟨A + 1, 1, none⟩ = some (.int .i64 d) ∧ wx.cell? ⟨E, 0, none⟩ = some (.int .i64 f) ∧ wx.cell? ⟨E, 1, none⟩ = some (.int .i64 g))
    case first =>
      by_cases hf : okB f g = true
      · have hfl := flo_less hf
        have hfb := flo_bd hf
        obtain ⟨hfb0, hfb1⟩ := hfb
        by_cases hn : floI f g < 1000000000
        · have hfn := flo_next hf hn
          have hwr : IntKind.i64.wrap (floI f g + 1) = floI f g + 1 := by rw [IntKind.wrap_i64]; omega
          refine wp_region_noPanic ?_
          refine wp_region_held_drew (S := (fun w' => w'.cell? ⟨A, 0, none⟩ = some (.int .i64 a) ∧ w'.cell? ⟨A, 1, none⟩ = some (.int .i64 b) ∧ w'.cell? ⟨A + 1, 0, none⟩ = some (.int .i64 c) ∧ w'.cell? ⟨A + 1, 1, none⟩ = some (.int .i64 d) ∧ w'.cell? ⟨E, 0, none⟩ = some (.int .i64 f) ∧ w'.cell? ⟨E, 1, none⟩ = some (.int .i64 g))) (by kernel_rfl) ?_ (fun hHeld => ?_)
          · (try dsimp only)
            refine ⟨?_, ?_, ?_, ?_, ?_, ?_⟩ <;> (repeat (with_reducible (first | refine cell_dr ?_ | refine cell_al _ ?_ | exact k0 | exact k1 | exact k2 | exact k3 | exact k4 | exact k5)))
          refine wpAnyH_take (i := 0) (v := ?_) rfl (by kernel_rfl) (by kernel_rfl) (by kernel_rfl) (fun _ _ _ h => h) (Or.inl ⟨by kernel_rfl, ?_⟩) hHeld ?_
          rotate_left
          · intro wz hSw; (try dsimp only at hSw); go_simp; all_goals (try with_reducible rfl)
          (try simp only [List.getElem_toArray]); (try simp only [List.getElem_cons_succ]); (try simp only [List.getElem_cons_zero]); (try simp only [Act.put]); (try simp only [List.setIfInBounds_toArray]); (try simp only [List.set_cons_succ]); (try simp only [List.set_cons_zero])
          refine wpAnyH_ready (rs := [1]) (by kernel_rfl) (by simp) (AllReadyH.cons rfl (fun K hK => ?_) AllReadyH.nil)
          go_simp
          (go_at_call 15; refine (sOk_is hf _).mono ?_; rintro e wN ⟨rfl, hbN⟩; replace k0 : wN.cell? ⟨A, 0, none⟩ = some (.int .i64 a) := (by first | exact cell_later hbN k0 | exact cell_later hbN (cell_dr k0)); replace k1 : wN.cell? ⟨A, 1, none⟩ = some (.int .i64 b) := (by first | exact cell_later hbN k1 | exact cell_later hbN (cell_dr k1)); replace k2 : wN.cell? ⟨A + 1, 0, none⟩ = some (.int .i64 c) := (by first | exact cell_later hbN k2 | exact cell_later hbN (cell_dr k2)); replace k3 : wN.cell? ⟨A + 1, 1, none⟩ = some (.int .i64 d) := (by first | exact cell_later hbN k3 | exact cell_later hbN (cell_dr k3)); replace k4 : wN.cell? ⟨E, 0, none⟩ = some (.int .i64 f) := (by first | exact cell_later hbN k4 | exact cell_later hbN (cell_dr k4)); replace k5 : wN.cell? ⟨E, 1, none⟩ = some (.int .i64 g) := (by first | exact cell_later hbN k5 | exact cell_later hbN (cell_dr k5)); replace B : Below w.heap.size w wN := (by first | exact Below.trans B (hbN.mono B.size) | exact Below.trans B.drew (hbN.mono B.drew.size)); clear hbN)
          go_wp2_with fail
          refine hK.out _ _ ?_ (fun hHeld => ?_)
          · (try dsimp only)
            refine ⟨?_, ?_, ?_, ?_, ?_, ?_⟩ <;> (repeat (with_reducible (first | refine cell_dr ?_ | refine cell_al _ ?_ | exact k0 | exact k1 | exact k2 | exact k3 | exact k4 | exact k5)))
          clear hK K
          (try simp only [List.getElem_toArray]); (try simp only [List.getElem_cons_succ]); (try simp only [List.getElem_cons_zero]); (try simp only [Act.put]); (try simp only [List.setIfInBounds_toArray]); (try simp only [List.set_cons_succ]); (try simp only [List.set_cons_zero])
          refine wpAnyH_take (i := 2) (v := ?_) rfl (by kernel_rfl) (by kernel_rfl) (by kernel_rfl) (fun _ _ _ h => h) (Or.inl ⟨by kernel_rfl, ?_⟩) hHeld ?_
          rotate_left
          · intro wz hSw; (try dsimp only at hSw); go_simp; all_goals (try with_reducible rfl)
          (try simp only [List.getElem_toArray]); (try simp only [List.getElem_cons_succ]); (try simp only [List.getElem_cons_zero]); (try simp only [Act.put]); (try simp only [List.setIfInBounds_toArray]); (try simp only [List.set_cons_succ]); (try simp only [List.set_cons_zero])
          refine wpAnyH_take (i := 3) (v := ?_) rfl (by kernel_rfl) (by kernel_rfl) (by kernel_rfl) (fun _ _ _ h => h) (Or.inl ⟨by kernel_rfl, ?_⟩) hHeld ?_
          rotate_left
          · intro wz hSw; (try dsimp only at hSw); go_simp; all_goals (try with_reducible rfl)
          (try simp only [List.getElem_toArray]); (try simp only [List.getElem_cons_succ]); (try simp only [List.getElem_cons_zero]); (try simp only [Act.put]); (try simp only [List.setIfInBounds_toArray]); (try simp only [List.set_cons_succ]); (try simp only [List.set_cons_zero])
          refine wpAnyH_take (i := 4) (v := ?_) rfl (by kernel_rfl) (by kernel_rfl) (by kernel_rfl) (fun _ _ _ h => h) (Or.inl ⟨by kernel_rfl, ?_⟩) hHeld ?_
          rotate_left
          · intro wz hSw; (try dsimp only at hSw); go_simp; all_goals (try with_reducible rfl)
          (try simp only [List.getElem_toArray]); (try simp only [List.getElem_cons_succ]); (try simp only [List.getElem_cons_zero]); (try simp only [Act.put]); (try simp only [List.setIfInBounds_toArray]); (try simp only [List.set_cons_succ]); (try simp only [List.set_cons_zero])
          refine wpAnyH_ready (rs := [5]) (by kernel_rfl) (by simp) (AllReadyH.cons rfl (fun K hK => ?_) AllReadyH.nil)
          go_simp
          (go_at_call 27; refine (wholeB_any _ _).mono ?_; rintro e wN ⟨rfl, hbN⟩; replace k0 : wN.cell? ⟨A, 0, none⟩ = some (.int .i64 a) := (by first | exact cell_later hbN k0 | exact cell_later hbN (cell_dr k0)); replace k1 : wN.cell? ⟨A, 1, none⟩ = some (.int .i64 b) := (by first | exact cell_later hbN k1 | exact cell_later hbN (cell_dr k1)); replace k2 : wN.cell? ⟨A + 1, 0, none⟩ = some (.int .i64 c) := (by first | exact cell_later hbN k2 | exact cell_later hbN (cell_dr k2)); replace k3 : wN.cell? ⟨A + 1, 1, none⟩ = some (.int .i64 d) := (by first | exact cell_later hbN k3 | exact cell_later hbN (cell_dr k3)); replace k4 : wN.cell? ⟨E, 0, none⟩ = some (.int .i64 f) := (by first | exact cell_later hbN k4 | exact cell_later hbN (cell_dr k4)); replace k5 : wN.cell? ⟨E, 1, none⟩ = some (.int .i64 g) := (by first | exact cell_later hbN k5 | exact cell_later hbN (cell_dr k5)); replace B : Below w.heap.size w wN := (by first | exact Below.trans B (hbN.mono B.size) | exact Below.trans B.drew (hbN.mono B.drew.size)); clear hbN)
          go_wp2_with fail
          refine hK.out _ _ ?_ (fun hHeld => ?_)
          · (try dsimp only)
            refine ⟨?_, ?_, ?_, ?_, ?_, ?_⟩ <;> (repeat (with_reducible (first | refine cell_dr ?_ | refine cell_al _ ?_ | exact k0 | exact k1 | exact k2 | exact k3 | exact k4 | exact k5)))
          clear hK K
          (try simp only [List.getElem_toArray]); (try simp only [List.getElem_cons_succ]); (try simp only [List.getElem_cons_zero]); (try simp only [Act.put]); (try simp only [List.setIfInBounds_toArray]); (try simp only [List.set_cons_succ]); (try simp only [List.set_cons_zero])
          refine wpAnyH_ready (rs := [6]) (by kernel_rfl) (by simp) (AllReadyH.cons rfl (fun K hK => ?_) AllReadyH.nil)
          go_simp
          (go_at_call 24; refine (iLess_is hfl _).mono ?_; rintro e wN ⟨rfl, hbN⟩; replace k0 : wN.cell? ⟨A, 0, none⟩ = some (.int .i64 a) := (by first | exact cell_later hbN k0 | exact cell_later hbN (cell_dr k0)); replace k1 : wN.cell? ⟨A, 1, none⟩ = some (.int .i64 b) := (by first | exact cell_later hbN k1 | exact cell_later hbN (cell_dr k1)); replace k2 : wN.cell? ⟨A + 1, 0, none⟩ = some (.int .i64 c) := (by first | exact cell_later hbN k2 | exact cell_later hbN (cell_dr k2)); replace k3 : wN.cell? ⟨A + 1, 1, none⟩ = some (.int .i64 d) := (by first | exact cell_later hbN k3 | exact cell_later hbN (cell_dr k3)); replace k4 : wN.cell? ⟨E, 0, none⟩ = some (.int .i64 f) := (by first | exact cell_later hbN k4 | exact cell_later hbN (cell_dr k4)); replace k5 : wN.cell? ⟨E, 1, none⟩ = some (.int .i64 g) := (by first | exact cell_later hbN k5 | exact cell_later hbN (cell_dr k5)); replace B : Below w.heap.size w wN := (by first | exact Below.trans B (hbN.mono B.size) | exact Below.trans B.drew (hbN.mono B.drew.size)); clear hbN)
          go_wp2_with fail
          refine hK.out _ _ ?_ (fun hHeld => ?_)
          · (try dsimp only)
            refine ⟨?_, ?_, ?_, ?_, ?_, ?_⟩ <;> (repeat (with_reducible (first | refine cell_dr ?_ | refine cell_al _ ?_ | exact k0 | exact k1 | exact k2 | exact k3 | exact k4 | exact k5)))
          clear hK K
          (try simp only [List.getElem_toArray]); (try simp only [List.getElem_cons_succ]); (try simp only [List.getElem_cons_zero]); (try simp only [Act.put]); (try simp only [List.setIfInBounds_toArray]); (try simp only [List.set_cons_succ]); (try simp only [List.set_cons_zero])
          refine wpAnyH_take (i := 7) (v := ?_) rfl (by kernel_rfl) (by kernel_rfl) (by kernel_rfl) (fun _ _ _ h => h) (Or.inl ⟨by kernel_rfl, ?_⟩) hHeld ?_
          rotate_left
          · intro wz hSw; (try dsimp only at hSw); go_simp; all_goals (try with_reducible rfl)
          (try simp only [List.getElem_toArray]); (try simp only [List.getElem_cons_succ]); (try simp only [List.getElem_cons_zero]); (try simp only [Act.put]); (try simp only [List.setIfInBounds_toArray]); (try simp only [List.set_cons_succ]); (try simp only [List.set_cons_zero])
          refine wpAnyH_take (i := 8) (v := undef) rfl (by kernel_rfl) (by kernel_rfl) (by kernel_rfl) (fun _ _ _ h => h) (Or.inr ⟨by kernel_rfl, rfl⟩) hHeld ?_
          (try simp only [List.getElem_toArray]); (try simp only [List.getElem_cons_succ]); (try simp only [List.getElem_cons_zero]); (try simp only [Act.put]); (try simp only [List.setIfInBounds_toArray]); (try simp only [List.set_cons_succ]); (try simp only [List.set_cons_zero])
          refine wpAnyH_take (i := 9) (v := undef) rfl (by kernel_rfl) (by kernel_rfl) (by kernel_rfl) (fun _ _ _ h => h) (Or.inr ⟨by kernel_rfl, rfl⟩) hHeld ?_
          (try simp only [List.getElem_toArray]); (try simp only [List.getElem_cons_succ]); (try simp only [List.getElem_cons_zero]); (try simp only [Act.put]); (try simp only [List.setIfInBounds_toArray]); (try simp only [List.set_cons_succ]); (try simp only [List.set_cons_zero])
          refine wpAnyH_take (i := 10) (v := ?_) rfl (by kernel_rfl) (by kernel_rfl) (by kernel_rfl) (fun _ _ _ h => h) (Or.inl ⟨by kernel_rfl, ?_⟩) hHeld ?_
          rotate_left
          · intro wz hSw; (try dsimp only at hSw); go_simp; all_goals (try with_reducible rfl)
          (try simp only [List.getElem_toArray]); (try simp only [List.getElem_cons_succ]); (try simp only [List.getElem_cons_zero]); (try simp only [Act.put]); (try simp only [List.setIfInBounds_toArray]); (try simp only [List.set_cons_succ]); (try simp only [List.set_cons_zero])
          refine wpAnyH_take (i := 11) (v := (.bool false)) rfl (by kernel_rfl) (by kernel_rfl) (by kernel_rfl) (fun _ _ _ h => h) (Or.inl ⟨by kernel_rfl, ?_⟩) hHeld ?_
          skip
          · intro wz hSw; (try dsimp only at hSw); go_simp; all_goals (try with_reducible rfl)
          (try simp only [List.getElem_toArray]); (try simp only [List.getElem_cons_succ]); (try simp only [List.getElem_cons_zero]); (try simp only [Act.put]); (try simp only [List.setIfInBounds_toArray]); (try simp only [List.set_cons_succ]); (try simp only [List.set_cons_zero])
          refine wpAnyH_take (i := 12) (v := ?_) rfl (by kernel_rfl) (by kernel_rfl) (by kernel_rfl) (fun _ _ _ h => h) (Or.inl ⟨by kernel_rfl, ?_⟩) hHeld ?_
          rotate_left
          · intro wz hSw; (try dsimp only at hSw); go_simp; all_goals (try with_reducible rfl)
          (try simp only [List.getElem_toArray]); (try simp only [List.getElem_cons_succ]); (try simp only [List.getElem_cons_zero]); (try simp only [Act.put]); (try simp only [List.setIfInBounds_toArray]); (try simp only [List.set_cons_succ]); (try simp only [List.set_cons_zero])
          refine wpAnyH_take (i := 13) (v := (.bool true)) rfl (by kernel_rfl) (by kernel_rfl) (by kernel_rfl) (fun _ _ _ h => h) (Or.inl ⟨by kernel_rfl, ?_⟩) hHeld ?_
          skip
          · intro wz hSw; (try dsimp only at hSw); go_simp; all_goals (try with_reducible rfl)
          (try simp only [List.getElem_toArray]); (try simp only [List.getElem_cons_succ]); (try simp only [List.getElem_cons_zero]); (try simp only [Act.put]); (try simp only [List.setIfInBounds_toArray]); (try simp only [List.set_cons_succ]); (try simp only [List.set_cons_zero])
          refine wpAnyH_take (i := 14) (v := (.bool true)) rfl (by kernel_rfl) (by kernel_rfl) (by kernel_rfl) (fun _ _ _ h => h) (Or.inl ⟨by kernel_rfl, ?_⟩) hHeld ?_
          skip
          · intro wz hSw; (try dsimp only at hSw); go_simp; all_goals (try with_reducible rfl)
          (try simp only [List.getElem_toArray]); (try simp only [List.getElem_cons_succ]); (try simp only [List.getElem_cons_zero]); (try simp only [Act.put]); (try simp only [List.setIfInBounds_toArray]); (try simp only [List.set_cons_succ]); (try simp only [List.set_cons_zero])
          refine wpAnyH_take (i := 15) (v := ?_) rfl (by kernel_rfl) (by kernel_rfl) (by kernel_rfl) (fun _ _ _ h => h) (Or.inl ⟨by kernel_rfl, ?_⟩) hHeld ?_
          rotate_left
          · intro wz hSw; (try dsimp only at hSw); go_simp; all_goals (try with_reducible rfl)
          (try simp only [List.getElem_toArray]); (try simp only [List.getElem_cons_succ]); (try simp only [List.getElem_cons_zero]); (try simp only [Act.put]); (try simp only [List.setIfInBounds_toArray]); (try simp only [List.set_cons_succ]); (try simp only [List.set_cons_zero])
          refine wpAnyH_take (i := 16) (v := ?_) rfl (by kernel_rfl) (by kernel_rfl) (by kernel_rfl) (fun _ _ _ h => h) (Or.inl ⟨by kernel_rfl, ?_⟩) hHeld ?_
          rotate_left
          · intro wz hSw; (try dsimp only at hSw); go_simp; all_goals (try with_reducible rfl)
          (try simp only [List.getElem_toArray]); (try simp only [List.getElem_cons_succ]); (try simp only [List.getElem_cons_zero]); (try simp only [Act.put]); (try simp only [List.setIfInBounds_toArray]); (try simp only [List.set_cons_succ]); (try simp only [List.set_cons_zero])
          refine wpAnyH_take (i := 17) (v := ?_) rfl (by kernel_rfl) (by kernel_rfl) (by kernel_rfl) (fun _ _ _ h => h) (Or.inl ⟨by kernel_rfl, ?_⟩) hHeld ?_
          rotate_left
          · intro wz hSw; (try dsimp only at hSw); go_simp; all_goals (try with_reducible rfl)
          (try simp only [List.getElem_toArray]); (try simp only [List.getElem_cons_succ]); (try simp only [List.getElem_cons_zero]); (try simp only [Act.put]); (try simp only [List.setIfInBounds_toArray]); (try simp only [List.set_cons_succ]); (try simp only [List.set_cons_zero])
          refine wpAnyH_ready (rs := [18]) (by kernel_rfl) (by simp) (AllReadyH.cons rfl (fun K hK => ?_) AllReadyH.nil)
          go_simp
          (go_at_call 27; refine (wholeB_any _ _).mono ?_; rintro e wN ⟨rfl, hbN⟩; replace k0 : wN.cell? ⟨A, 0, none⟩ = some (.int .i64 a) := (by first | exact cell_later hbN k0 | exact cell_later hbN (cell_dr k0)); replace k1 : wN.cell? ⟨A, 1, none⟩ = some (.int .i64 b) := (by first | exact cell_later hbN k1 | exact cell_later hbN (cell_dr k1)); replace k2 : wN.cell? ⟨A + 1, 0, none⟩ = some (.int .i64 c) := (by first | exact cell_later hbN k2 | exact cell_later hbN (cell_dr k2)); replace k3 : wN.cell? ⟨A + 1, 1, none⟩ = some (.int .i64 d) := (by first | exact cell_later hbN k3 | exact cell_later hbN (cell_dr k3)); replace k4 : wN.cell? ⟨E, 0, none⟩ = some (.int .i64 f) := (by first | exact cell_later hbN k4 | exact cell_later hbN (cell_dr k4)); replace k5 : wN.cell? ⟨E, 1, none⟩ = some (.int .i64 g) := (by first | exact cell_later hbN k5 | exact cell_later hbN (cell_dr k5)); replace B : Below w.heap.size w wN := (by first | exact Below.trans B (hbN.mono B.size) | exact Below.trans B.drew (hbN.mono B.drew.size)); clear hbN)
          go_wp2_with fail
          refine hK.out _ _ ?_ (fun hHeld => ?_)
          · (try dsimp only)
            refine ⟨?_, ?_, ?_, ?_, ?_, ?_⟩ <;> (repeat (with_reducible (first | refine cell_dr ?_ | refine cell_al _ ?_ | exact k0 | exact k1 | exact k2 | exact k3 | exact k4 | exact k5)))
          clear hK K
          (try simp only [List.getElem_toArray]); (try simp only [List.getElem_cons_succ]); (try simp only [List.getElem_cons_zero]); (try simp only [Act.put]); (try simp only [List.setIfInBounds_toArray]); (try simp only [List.set_cons_succ]); (try simp only [List.set_cons_zero])
          refine wpAnyH_ready (rs := [19]) (by kernel_rfl) (by simp) (AllReadyH.cons rfl (fun K hK => ?_) AllReadyH.nil)
          go_simp
          (go_at_call 24; refine (iLess_is hfn _).mono ?_; rintro e wN ⟨rfl, hbN⟩; replace k0 : wN.cell? ⟨A, 0, none⟩ = some (.int .i64 a) := (by first | exact cell_later hbN k0 | exact cell_later hbN (cell_dr k0)); replace k1 : wN.cell? ⟨A, 1, none⟩ = some (.int .i64 b) := (by first | exact cell_later hbN k1 | exact cell_later hbN (cell_dr k1)); replace k2 : wN.cell? ⟨A + 1, 0, none⟩ = some (.int .i64 c) := (by first | exact cell_later hbN k2 | exact cell_later hbN (cell_dr k2)); replace k3 : wN.cell? ⟨A + 1, 1, none⟩ = some (.int .i64 d) := (by first | exact cell_later hbN k3 | exact cell_later hbN (cell_dr k3)); replace k4 : wN.cell? ⟨E, 0, none⟩ = some (.int .i64 f) := (by first | exact cell_later hbN k4 | exact cell_later hbN (cell_dr k4)); replace k5 : wN.cell? ⟨E, 1, none⟩ = some (.int .i64 g) := (by first | exact cell_later hbN k5 | exact cell_later hbN (cell_dr k5)); replace B : Below w.heap.size w wN := (by first | exact Below.trans B (hbN.mono B.size) | exact Below.trans B.drew (hbN.mono B.drew.size)); clear hbN)
          go_wp2_with fail
          refine hK.out _ _ ?_ (fun hHeld => ?_)
          · (try dsimp only)
            refine ⟨?_, ?_, ?_, ?_, ?_, ?_⟩ <;> (repeat (with_reducible (first | refine cell_dr ?_ | refine cell_al _ ?_ | exact k0 | exact k1 | exact k2 | exact k3 | exact k4 | exact k5)))
          clear hK K
          (try simp only [List.getElem_toArray]); (try simp only [List.getElem_cons_succ]); (try simp only [List.getElem_cons_zero]); (try simp only [Act.put]); (try simp only [List.setIfInBounds_toArray]); (try simp only [List.set_cons_succ]); (try simp only [List.set_cons_zero])
          refine wpAnyH_take (i := 20) (v := ?_) rfl (by kernel_rfl) (by kernel_rfl) (by kernel_rfl) (fun _ _ _ h => h) (Or.inl ⟨by kernel_rfl, ?_⟩) hHeld ?_
          rotate_left
          · intro wz hSw; (try dsimp only at hSw); go_simp; all_goals (try with_reducible rfl)
          (try simp only [List.getElem_toArray]); (try simp only [List.getElem_cons_succ]); (try simp only [List.getElem_cons_zero]); (try simp only [Act.put]); (try simp only [List.setIfInBounds_toArray]); (try simp only [List.set_cons_succ]); (try simp only [List.set_cons_zero])
          refine wpAnyH_take (i := 21) (v := ?_) rfl (by kernel_rfl) (by kernel_rfl) (by kernel_rfl) (fun _ _ _ h => h) (Or.inl ⟨by kernel_rfl, ?_⟩) hHeld ?_
          rotate_left
          · intro wz hSw; (try dsimp only at hSw); go_simp; all_goals (try with_reducible rfl)
          (try simp only [List.getElem_toArray]); (try simp only [List.getElem_cons_succ]); (try simp only [List.getElem_cons_zero]); (try simp only [Act.put]); (try simp only [List.setIfInBounds_toArray]); (try simp only [List.set_cons_succ]); (try simp only [List.set_cons_zero])
          refine wpAnyH_take (i := 22) (v := ?_) rfl (by kernel_rfl) (by kernel_rfl) (by kernel_rfl) (fun _ _ _ h => h) (Or.inl ⟨by kernel_rfl, ?_⟩) hHeld ?_
          rotate_left
          · intro wz hSw; (try dsimp only at hSw); go_simp; all_goals (try with_reducible rfl)
          (try simp only [List.getElem_toArray]); (try simp only [List.getElem_cons_succ]); (try simp only [List.getElem_cons_zero]); (try simp only [Act.put]); (try simp only [List.setIfInBounds_toArray]); (try simp only [List.set_cons_succ]); (try simp only [List.set_cons_zero])
          refine wpAnyH_take (i := 23) (v := (.bool false)) rfl (by kernel_rfl) (by kernel_rfl) (by kernel_rfl) (fun _ _ _ h => h) (Or.inl ⟨by kernel_rfl, ?_⟩) hHeld ?_
          skip
          · intro wz hSw; (try dsimp only at hSw); go_simp; all_goals (try with_reducible rfl)
          (try simp only [List.getElem_toArray]); (try simp only [List.getElem_cons_succ]); (try simp only [List.getElem_cons_zero]); (try simp only [Act.put]); (try simp only [List.setIfInBounds_toArray]); (try simp only [List.set_cons_succ]); (try simp only [List.set_cons_zero])
          refine wpAnyH_done (by kernel_rfl) ?_ _
          refine NoPanic.normal ?_
          go_wp2_with fail
          go_meet
          case rel => exact ⟨rfl, B, k0, k1, k2, k3, k4, k5⟩
        · skip
          refine wp_region_noPanic ?_
          refine wp_region_held_drew (S := (fun w' => w'.cell? ⟨A, 0, none⟩ = some (.int .i64 a) ∧ w'.cell? ⟨A, 1, none⟩ = some (.int .i64 b) ∧ w'.cell? ⟨A + 1, 0, none⟩ = some (.int .i64 c) ∧ w'.cell? ⟨A + 1, 1, none⟩ = some (.int .i64 d) ∧ w'.cell? ⟨E, 0, none⟩ = some (.int .i64 f) ∧ w'.cell? ⟨E, 1, none⟩ = some (.int .i64 g))) (by kernel_rfl) ?_ (fun hHeld => ?_)
          · (try dsimp only)
            refine ⟨?_, ?_, ?_, ?_, ?_, ?_⟩ <;> (repeat (with_reducible (first | refine cell_dr ?_ | refine cell_al _ ?_ | exact k0 | exact k1 | exact k2 | exact k3 | exact k4 | exact k5)))
          refine wpAnyH_take (i := 0) (v := ?_) rfl (by kernel_rfl) (by kernel_rfl) (by kernel_rfl) (fun _ _ _ h => h) (Or.inl ⟨by kernel_rfl, ?_⟩) hHeld ?_
          rotate_left
          · intro wz hSw; (try dsimp only at hSw); go_simp; all_goals (try with_reducible rfl)
          (try simp only [List.getElem_toArray]); (try simp only [List.getElem_cons_succ]); (try simp only [List.getElem_cons_zero]); (try simp only [Act.put]); (try simp only [List.setIfInBounds_toArray]); (try simp only [List.set_cons_succ]); (try simp only [List.set_cons_zero])
          refine wpAnyH_ready (rs := [1]) (by kernel_rfl) (by simp) (AllReadyH.cons rfl (fun K hK => ?_) AllReadyH.nil)
          go_simp
          (go_at_call 15; refine (sOk_is hf _).mono ?_; rintro e wN ⟨rfl, hbN⟩; replace k0 : wN.cell? ⟨A, 0, none⟩ = some (.int .i64 a) := (by first | exact cell_later hbN k0 | exact cell_later hbN (cell_dr k0)); replace k1 : wN.cell? ⟨A, 1, none⟩ = some (.int .i64 b) := (by first | exact cell_later hbN k1 | exact cell_later hbN (cell_dr k1)); replace k2 : wN.cell? ⟨A + 1, 0, none⟩ = some (.int .i64 c) := (by first | exact cell_later hbN k2 | exact cell_later hbN (cell_dr k2)); replace k3 : wN.cell? ⟨A + 1, 1, none⟩ = some (.int .i64 d) := (by first | exact cell_later hbN k3 | exact cell_later hbN (cell_dr k3)); replace k4 : wN.cell? ⟨E, 0, none⟩ = some (.int .i64 f) := (by first | exact cell_later hbN k4 | exact cell_later hbN (cell_dr k4)); replace k5 : wN.cell? ⟨E, 1, none⟩ = some (.int .i64 g) := (by first | exact cell_later hbN k5 | exact cell_later hbN (cell_dr k5)); replace B : Below w.heap.size w wN := (by first | exact Below.trans B (hbN.mono B.size) | exact Below.trans B.drew (hbN.mono B.drew.size)); clear hbN)
          go_wp2_with fail
          refine hK.out _ _ ?_ (fun hHeld => ?_)
          · (try dsimp only)
            refine ⟨?_, ?_, ?_, ?_, ?_, ?_⟩ <;> (repeat (with_reducible (first | refine cell_dr ?_ | refine cell_al _ ?_ | exact k0 | exact k1 | exact k2 | exact k3 | exact k4 | exact k5)))
          clear hK K
          (try simp only [List.getElem_toArray]); (try simp only [List.getElem_cons_succ]); (try simp only [List.getElem_cons_zero]); (try simp only [Act.put]); (try simp only [List.setIfInBounds_toArray]); (try simp only [List.set_cons_succ]); (try simp only [List.set_cons_zero])
          refine wpAnyH_take (i := 2) (v := ?_) rfl (by kernel_rfl) (by kernel_rfl) (by kernel_rfl) (fun _ _ _ h => h) (Or.inl ⟨by kernel_rfl, ?_⟩) hHeld ?_
          rotate_left
          · intro wz hSw; (try dsimp only at hSw); go_simp; all_goals (try with_reducible rfl)
          (try simp only [List.getElem_toArray]); (try simp only [List.getElem_cons_succ]); (try simp only [List.getElem_cons_zero]); (try simp only [Act.put]); (try simp only [List.setIfInBounds_toArray]); (try simp only [List.set_cons_succ]); (try simp only [List.set_cons_zero])
          refine wpAnyH_take (i := 3) (v := ?_) rfl (by kernel_rfl) (by kernel_rfl) (by kernel_rfl) (fun _ _ _ h => h) (Or.inl ⟨by kernel_rfl, ?_⟩) hHeld ?_
          rotate_left
          · intro wz hSw; (try dsimp only at hSw); go_simp; all_goals (try with_reducible rfl)
          (try simp only [List.getElem_toArray]); (try simp only [List.getElem_cons_succ]); (try simp only [List.getElem_cons_zero]); (try simp only [Act.put]); (try simp only [List.setIfInBounds_toArray]); (try simp only [List.set_cons_succ]); (try simp only [List.set_cons_zero])
          refine wpAnyH_take (i := 4) (v := ?_) rfl (by kernel_rfl) (by kernel_rfl) (by kernel_rfl) (fun _ _ _ h => h) (Or.inl ⟨by kernel_rfl, ?_⟩) hHeld ?_
          rotate_left
          · intro wz hSw; (try dsimp only at hSw); go_simp; all_goals (try with_reducible rfl)
          (try simp only [List.getElem_toArray]); (try simp only [List.getElem_cons_succ]); (try simp only [List.getElem_cons_zero]); (try simp only [Act.put]); (try simp only [List.setIfInBounds_toArray]); (try simp only [List.set_cons_succ]); (try simp only [List.set_cons_zero])
          refine wpAnyH_ready (rs := [5]) (by kernel_rfl) (by simp) (AllReadyH.cons rfl (fun K hK => ?_) AllReadyH.nil)
          go_simp
          (go_at_call 27; refine (wholeB_any _ _).mono ?_; rintro e wN ⟨rfl, hbN⟩; replace k0 : wN.cell? ⟨A, 0, none⟩ = some (.int .i64 a) := (by first | exact cell_later hbN k0 | exact cell_later hbN (cell_dr k0)); replace k1 : wN.cell? ⟨A, 1, none⟩ = some (.int .i64 b) := (by first | exact cell_later hbN k1 | exact cell_later hbN (cell_dr k1)); replace k2 : wN.cell? ⟨A + 1, 0, none⟩ = some (.int .i64 c) := (by first | exact cell_later hbN k2 | exact cell_later hbN (cell_dr k2)); replace k3 : wN.cell? ⟨A + 1, 1, none⟩ = some (.int .i64 d) := (by first | exact cell_later hbN k3 | exact cell_later hbN (cell_dr k3)); replace k4 : wN.cell? ⟨E, 0, none⟩ = some (.int .i64 f) := (by first | exact cell_later hbN k4 | exact cell_later hbN (cell_dr k4)); replace k5 : wN.cell? ⟨E, 1, none⟩ = some (.int .i64 g) := (by first | exact cell_later hbN k5 | exact cell_later hbN (cell_dr k5)); replace B : Below w.heap.size w wN := (by first | exact Below.trans B (hbN.mono B.size) | exact Below.trans B.drew (hbN.mono B.drew.size)); clear hbN)
          go_wp2_with fail
          refine hK.out _ _ ?_ (fun hHeld => ?_)
          · (try dsimp only)
            refine ⟨?_, ?_, ?_, ?_, ?_, ?_⟩ <;> (repeat (with_reducible (first | refine cell_dr ?_ | refine cell_al _ ?_ | exact k0 | exact k1 | exact k2 | exact k3 | exact k4 | exact k5)))
          clear hK K
          (try simp only [List.getElem_toArray]); (try simp only [List.getElem_cons_succ]); (try simp only [List.getElem_cons_zero]); (try simp only [Act.put]); (try simp only [List.setIfInBounds_toArray]); (try simp only [List.set_cons_succ]); (try simp only [List.set_cons_zero])
          refine wpAnyH_ready (rs := [6]) (by kernel_rfl) (by simp) (AllReadyH.cons rfl (fun K hK => ?_) AllReadyH.nil)
          go_simp
          (go_at_call 24; refine (iLess_is hfl _).mono ?_; rintro e wN ⟨rfl, hbN⟩; replace k0 : wN.cell? ⟨A, 0, none⟩ = some (.int .i64 a) := (by first | exact cell_later hbN k0 | exact cell_later hbN (cell_dr k0)); replace k1 : wN.cell? ⟨A, 1, none⟩ = some (.int .i64 b) := (by first | exact cell_later hbN k1 | exact cell_later hbN (cell_dr k1)); replace k2 : wN.cell? ⟨A + 1, 0, none⟩ = some (.int .i64 c) := (by first | exact cell_later hbN k2 | exact cell_later hbN (cell_dr k2)); replace k3 : wN.cell? ⟨A + 1, 1, none⟩ = some (.int .i64 d) := (by first | exact cell_later hbN k3 | exact cell_later hbN (cell_dr k3)); replace k4 : wN.cell? ⟨E, 0, none⟩ = some (.int .i64 f) := (by first | exact cell_later hbN k4 | exact cell_later hbN (cell_dr k4)); replace k5 : wN.cell? ⟨E, 1, none⟩ = some (.int .i64 g) := (by first | exact cell_later hbN k5 | exact cell_later hbN (cell_dr k5)); replace B : Below w.heap.size w wN := (by first | exact Below.trans B (hbN.mono B.size) | exact Below.trans B.drew (hbN.mono B.drew.size)); clear hbN)
          go_wp2_with fail
          refine hK.out _ _ ?_ (fun hHeld => ?_)
          · (try dsimp only)
            refine ⟨?_, ?_, ?_, ?_, ?_, ?_⟩ <;> (repeat (with_reducible (first | refine cell_dr ?_ | refine cell_al _ ?_ | exact k0 | exact k1 | exact k2 | exact k3 | exact k4 | exact k5)))
          clear hK K
          (try simp only [List.getElem_toArray]); (try simp only [List.getElem_cons_succ]); (try simp only [List.getElem_cons_zero]); (try simp only [Act.put]); (try simp only [List.setIfInBounds_toArray]); (try simp only [List.set_cons_succ]); (try simp only [List.set_cons_zero])
          refine wpAnyH_take (i := 7) (v := ?_) rfl (by kernel_rfl) (by kernel_rfl) (by kernel_rfl) (fun _ _ _ h => h) (Or.inl ⟨by kernel_rfl, ?_⟩) hHeld ?_
          rotate_left
          · intro wz hSw; (try dsimp only at hSw); go_simp; all_goals (try with_reducible rfl)
          (try simp only [List.getElem_toArray]); (try simp only [List.getElem_cons_succ]); (try simp only [List.getElem_cons_zero]); (try simp only [Act.put]); (try simp only [List.setIfInBounds_toArray]); (try simp only [List.set_cons_succ]); (try simp only [List.set_cons_zero])
          refine wpAnyH_take (i := 8) (v := undef) rfl (by kernel_rfl) (by kernel_rfl) (by kernel_rfl) (fun _ _ _ h => h) (Or.inr ⟨by kernel_rfl, rfl⟩) hHeld ?_
          (try simp only [List.getElem_toArray]); (try simp only [List.getElem_cons_succ]); (try simp only [List.getElem_cons_zero]); (try simp only [Act.put]); (try simp only [List.setIfInBounds_toArray]); (try simp only [List.set_cons_succ]); (try simp only [List.set_cons_zero])
          refine wpAnyH_take (i := 9) (v := undef) rfl (by kernel_rfl) (by kernel_rfl) (by kernel_rfl) (fun _ _ _ h => h) (Or.inr ⟨by kernel_rfl, rfl⟩) hHeld ?_
          (try simp only [List.getElem_toArray]); (try simp only [List.getElem_cons_succ]); (try simp only [List.getElem_cons_zero]); (try simp only [Act.put]); (try simp only [List.setIfInBounds_toArray]); (try simp only [List.set_cons_succ]); (try simp only [List.set_cons_zero])
          refine wpAnyH_take (i := 10) (v := ?_) rfl (by kernel_rfl) (by kernel_rfl) (by kernel_rfl) (fun _ _ _ h => h) (Or.inl ⟨by kernel_rfl, ?_⟩) hHeld ?_
          rotate_left
          · intro wz hSw; (try dsimp only at hSw); go_simp; all_goals (try with_reducible rfl)
          (try simp only [List.getElem_toArray]); (try simp only [List.getElem_cons_succ]); (try simp only [List.getElem_cons_zero]); (try simp only [Act.put]); (try simp only [List.setIfInBounds_toArray]); (try simp only [List.set_cons_succ]); (try simp only [List.set_cons_zero])
          refine wpAnyH_take (i := 11) (v := (.bool false)) rfl (by kernel_rfl) (by kernel_rfl) (by kernel_rfl) (fun _ _ _ h => h) (Or.inl ⟨by kernel_rfl, ?_⟩) hHeld ?_
          skip
          · intro wz hSw; (try dsimp only at hSw); go_simp; all_goals (try with_reducible rfl)
          (try simp only [List.getElem_toArray]); (try simp only [List.getElem_cons_succ]); (try simp only [List.getElem_cons_zero]); (try simp only [Act.put]); (try simp only [List.setIfInBounds_toArray]); (try simp only [List.set_cons_succ]); (try simp only [List.set_cons_zero])
          refine wpAnyH_take (i := 12) (v := ?_) rfl (by kernel_rfl) (by kernel_rfl) (by kernel_rfl) (fun _ _ _ h => h) (Or.inl ⟨by kernel_rfl, ?_⟩) hHeld ?_
          rotate_left
          · intro wz hSw; (try dsimp only at hSw); go_simp; all_goals (try with_reducible rfl)
          (try simp only [List.getElem_toArray]); (try simp only [List.getElem_cons_succ]); (try simp only [List.getElem_cons_zero]); (try simp only [Act.put]); (try simp only [List.setIfInBounds_toArray]); (try simp only [List.set_cons_succ]); (try simp only [List.set_cons_zero])
          refine wpAnyH_take (i := 13) (v := (.bool false)) rfl (by kernel_rfl) (by kernel_rfl) (by kernel_rfl) (fun _ _ _ h => h) (Or.inl ⟨by kernel_rfl, ?_⟩) hHeld ?_
          skip
          · intro wz hSw; (try dsimp only at hSw); go_simp; all_goals (try with_reducible rfl)
          (try simp only [List.getElem_toArray]); (try simp only [List.getElem_cons_succ]); (try simp only [List.getElem_cons_zero]); (try simp only [Act.put]); (try simp only [List.setIfInBounds_toArray]); (try simp only [List.set_cons_succ]); (try simp only [List.set_cons_zero])
          refine wpAnyH_take (i := 14) (v := (.bool false)) rfl (by kernel_rfl) (by kernel_rfl) (by kernel_rfl) (fun _ _ _ h => h) (Or.inl ⟨by kernel_rfl, ?_⟩) hHeld ?_
          skip
          · intro wz hSw; (try dsimp only at hSw); go_simp; all_goals (try with_reducible rfl)
          (try simp only [List.getElem_toArray]); (try simp only [List.getElem_cons_succ]); (try simp only [List.getElem_cons_zero]); (try simp only [Act.put]); (try simp only [List.setIfInBounds_toArray]); (try simp only [List.set_cons_succ]); (try simp only [List.set_cons_zero])
          refine wpAnyH_take (i := 15) (v := undef) rfl (by kernel_rfl) (by kernel_rfl) (by kernel_rfl) (fun _ _ _ h => h) (Or.inr ⟨by kernel_rfl, rfl⟩) hHeld ?_
          (try simp only [List.getElem_toArray]); (try simp only [List.getElem_cons_succ]); (try simp only [List.getElem_cons_zero]); (try simp only [Act.put]); (try simp only [List.setIfInBounds_toArray]); (try simp only [List.set_cons_succ]); (try simp only [List.set_cons_zero])
          refine wpAnyH_take (i := 16) (v := undef) rfl (by kernel_rfl) (by kernel_rfl) (by kernel_rfl) (fun _ _ _ h => h) (Or.inr ⟨by kernel_rfl, rfl⟩) hHeld ?_
          (try simp only [List.getElem_toArray]); (try simp only [List.getElem_cons_succ]); (try simp only [List.getElem_cons_zero]); (try simp only [Act.put]); (try simp only [List.setIfInBounds_toArray]); (try simp only [List.set_cons_succ]); (try simp only [List.set_cons_zero])
          refine wpAnyH_take (i := 17) (v := undef) rfl (by kernel_rfl) (by kernel_rfl) (by kernel_rfl) (fun _ _ _ h => h) (Or.inr ⟨by kernel_rfl, rfl⟩) hHeld ?_
          (try simp only [List.getElem_toArray]); (try simp only [List.getElem_cons_succ]); (try simp only [List.getElem_cons_zero]); (try simp only [Act.put]); (try simp only [List.setIfInBounds_toArray]); (try simp only [List.set_cons_succ]); (try simp only [List.set_cons_zero])
          refine wpAnyH_take (i := 18) (v := undef) rfl (by kernel_rfl) (by kernel_rfl) (by kernel_rfl) (fun _ _ _ h => h) (Or.inr ⟨by kernel_rfl, rfl⟩) hHeld ?_
          (try simp only [List.getElem_toArray]); (try simp only [List.getElem_cons_succ]); (try simp only [List.getElem_cons_zero]); (try simp only [Act.put]); (try simp only [List.setIfInBounds_toArray]); (try simp only [List.set_cons_succ]); (try simp only [List.set_cons_zero])
          refine wpAnyH_take (i := 19) (v := undef) rfl (by kernel_rfl) (by kernel_rfl) (by kernel_rfl) (fun _ _ _ h => h) (Or.inr ⟨by kernel_rfl, rfl⟩) hHeld ?_
          (try simp only [List.getElem_toArray]); (try simp only [List.getElem_cons_succ]); (try simp only [List.getElem_cons_zero]); (try simp only [Act.put]); (try simp only [List.setIfInBounds_toArray]); (try simp only [List.set_cons_succ]); (try simp only [List.set_cons_zero])
          refine wpAnyH_take (i := 20) (v := undef) rfl (by kernel_rfl) (by kernel_rfl) (by kernel_rfl) (fun _ _ _ h => h) (Or.inr ⟨by kernel_rfl, rfl⟩) hHeld ?_
          (try simp only [List.getElem_toArray]); (try simp only [List.getElem_cons_succ]); (try simp only [List.getElem_cons_zero]); (try simp only [Act.put]); (try simp only [List.setIfInBounds_toArray]); (try simp only [List.set_cons_succ]); (try simp only [List.set_cons_zero])
          refine wpAnyH_take (i := 21) (v := ?_) rfl (by kernel_rfl) (by kernel_rfl) (by kernel_rfl) (fun _ _ _ h => h) (Or.inl ⟨by kernel_rfl, ?_⟩) hHeld ?_
          rotate_left
          · intro wz hSw; (try dsimp only at hSw); go_simp; all_goals (try with_reducible rfl)
          (try simp only [List.getElem_toArray]); (try simp only [List.getElem_cons_succ]); (try simp only [List.getElem_cons_zero]); (try simp only [Act.put]); (try simp only [List.setIfInBounds_toArray]); (try simp only [List.set_cons_succ]); (try simp only [List.set_cons_zero])
          refine wpAnyH_take (i := 22) (v := ?_) rfl (by kernel_rfl) (by kernel_rfl) (by kernel_rfl) (fun _ _ _ h => h) (Or.inl ⟨by kernel_rfl, ?_⟩) hHeld ?_
          rotate_left
          · intro wz hSw; (try dsimp only at hSw); go_simp; all_goals (try with_reducible rfl)
          (try simp only [List.getElem_toArray]); (try simp only [List.getElem_cons_succ]); (try simp only [List.getElem_cons_zero]); (try simp only [Act.put]); (try simp only [List.setIfInBounds_toArray]); (try simp only [List.set_cons_succ]); (try simp only [List.set_cons_zero])
          refine wpAnyH_take (i := 23) (v := (.bool false)) rfl (by kernel_rfl) (by kernel_rfl) (by kernel_rfl) (fun _ _ _ h => h) (Or.inl ⟨by kernel_rfl, ?_⟩) hHeld ?_
          skip
          · intro wz hSw; (try dsimp only at hSw); go_simp; all_goals (try with_reducible rfl)
          (try simp only [List.getElem_toArray]); (try simp only [List.getElem_cons_succ]); (try simp only [List.getElem_cons_zero]); (try simp only [Act.put]); (try simp only [List.setIfInBounds_toArray]); (try simp only [List.set_cons_succ]); (try simp only [List.set_cons_zero])
          refine wpAnyH_done (by kernel_rfl) ?_ _
          refine NoPanic.normal ?_
          go_wp2_with fail
          go_meet
          case rel => exact ⟨rfl, B, k0, k1, k2, k3, k4, k5⟩
      · rw [Bool.not_eq_true] at hf
        refine wp_region_noPanic ?_
        refine wp_region_held_drew (S := (fun w' => w'.cell? ⟨A, 0, none⟩ = some (.int .i64 a) ∧ w'.cell? ⟨A, 1, none⟩ = some (.int .i64 b) ∧ w'.cell? ⟨A + 1, 0, none⟩ = some (.int .i64 c) ∧ w'.cell? ⟨A + 1, 1, none⟩ = some (.int .i64 d) ∧ w'.cell? ⟨E, 0, none⟩ = some (.int .i64 f) ∧ w'.cell? ⟨E, 1, none⟩ = some (.int .i64 g))) (by kernel_rfl) ?_ (fun hHeld => ?_)
        · (try dsimp only)
          refine ⟨?_, ?_, ?_, ?_, ?_, ?_⟩ <;> (repeat (with_reducible (first | refine cell_dr ?_ | refine cell_al _ ?_ | exact k0 | exact k1 | exact k2 | exact k3 | exact k4 | exact k5)))
        refine wpAnyH_take (i := 0) (v := ?_) rfl (by kernel_rfl) (by kernel_rfl) (by kernel_rfl) (fun _ _ _ h => h) (Or.inl ⟨by kernel_rfl, ?_⟩) hHeld ?_
        rotate_left
        · intro wz hSw; (try dsimp only at hSw); go_simp; all_goals (try with_reducible rfl)
        (try simp only [List.getElem_toArray]); (try simp only [List.getElem_cons_succ]); (try simp only [List.getElem_cons_zero]); (try simp only [Act.put]); (try simp only [List.setIfInBounds_toArray]); (try simp only [List.set_cons_succ]); (try simp only [List.set_cons_zero])
        refine wpAnyH_ready (rs := [1]) (by kernel_rfl) (by simp) (AllReadyH.cons rfl (fun K hK => ?_) AllReadyH.nil)
        go_simp
        (go_at_call 15; refine (sOk_is hf _).mono ?_; rintro e wN ⟨rfl, hbN⟩; replace k0 : wN.cell? ⟨A, 0, none⟩ = some (.int .i64 a) := (by first | exact cell_later hbN k0 | exact cell_later hbN (cell_dr k0)); replace k1 : wN.cell? ⟨A, 1, none⟩ = some (.int .i64 b) := (by first | exact cell_later hbN k1 | exact cell_later hbN (cell_dr k1)); replace k2 : wN.cell? ⟨A + 1, 0, none⟩ = some (.int .i64 c) := (by first | exact cell_later hbN k2 | exact cell_later hbN (cell_dr k2)); replace k3 : wN.cell? ⟨A + 1, 1, none⟩ = some (.int .i64 d) := (by first | exact cell_later hbN k3 | exact cell_later hbN (cell_dr k3)); replace k4 : wN.cell? ⟨E, 0, none⟩ = some (.int .i64 f) := (by first | exact cell_later hbN k4 | exact cell_later hbN (cell_dr k4)); replace k5 : wN.cell? ⟨E, 1, none⟩ = some (.int .i64 g) := (by first | exact cell_later hbN k5 | exact cell_later hbN (cell_dr k5)); replace B : Below w.heap.size w wN := (by first | exact Below.trans B (hbN.mono B.size) | exact Below.trans B.drew (hbN.mono B.drew.size)); clear hbN)
        go_wp2_with fail
        refine hK.out _ _ ?_ (fun hHeld => ?_)
        · (try dsimp only)
          refine ⟨?_, ?_, ?_, ?_, ?_, ?_⟩ <;> (repeat (with_reducible (first | refine cell_dr ?_ | refine cell_al _ ?_ | exact k0 | exact k1 | exact k2 | exact k3 | exact k4 | exact k5)))
        clear hK K
        (try simp only [List.getElem_toArray]); (try simp only [List.getElem_cons_succ]); (try simp only [List.getElem_cons_zero]); (try simp only [Act.put]); (try simp only [List.setIfInBounds_toArray]); (try simp only [List.set_cons_succ]); (try simp only [List.set_cons_zero])
        refine wpAnyH_take (i := 2) (v := ?_) rfl (by kernel_rfl) (by kernel_rfl) (by kernel_rfl) (fun _ _ _ h => h) (Or.inl ⟨by kernel_rfl, ?_⟩) hHeld ?_
        rotate_left
        · intro wz hSw; (try dsimp only at hSw); go_simp; all_goals (try with_reducible rfl)
        (try simp only [List.getElem_toArray]); (try simp only [List.getElem_cons_succ]); (try simp only [List.getElem_cons_zero]); (try simp only [Act.put]); (try simp only [List.setIfInBounds_toArray]); (try simp only [List.set_cons_succ]); (try simp only [List.set_cons_zero])
        refine wpAnyH_take (i := 3) (v := undef) rfl (by kernel_rfl) (by kernel_rfl) (by kernel_rfl) (fun _ _ _ h => h) (Or.inr ⟨by kernel_rfl, rfl⟩) hHeld ?_
        (try simp only [List.getElem_toArray]); (try simp only [List.getElem_cons_succ]); (try simp only [List.getElem_cons_zero]); (try simp only [Act.put]); (try simp only [List.setIfInBounds_toArray]); (try simp only [List.set_cons_succ]); (try simp only [List.set_cons_zero])
        refine wpAnyH_take (i := 4) (v := undef) rfl (by kernel_rfl) (by kernel_rfl) (by kernel_rfl) (fun _ _ _ h => h) (Or.inr ⟨by kernel_rfl, rfl⟩) hHeld ?_
        (try simp only [List.getElem_toArray]); (try simp only [List.getElem_cons_succ]); (try simp only [List.getElem_cons_zero]); (try simp only [Act.put]); (try simp only [List.setIfInBounds_toArray]); (try simp only [List.set_cons_succ]); (try simp only [List.set_cons_zero])
        refine wpAnyH_take (i := 5) (v := undef) rfl (by kernel_rfl) (by kernel_rfl) (by kernel_rfl) (fun _ _ _ h => h) (Or.inr ⟨by kernel_rfl, rfl⟩) hHeld ?_
        (try simp only [List.getElem_toArray]); (try simp only [List.getElem_cons_succ]); (try simp only [List.getElem_cons_zero]); (try simp only [Act.put]); (try simp only [List.setIfInBounds_toArray]); (try simp only [List.set_cons_succ]); (try simp only [List.set_cons_zero])
        refine wpAnyH_take (i := 6) (v := undef) rfl (by kernel_rfl) (by kernel_rfl) (by kernel_rfl) (fun _ _ _ h => h) (Or.inr ⟨by kernel_rfl, rfl⟩) hHeld ?_
        (try simp only [List.getElem_toArray]); (try simp only [List.getElem_cons_succ]); (try simp only [List.getElem_cons_zero]); (try simp only [Act.put]); (try simp only [List.setIfInBounds_toArray]); (try simp only [List.set_cons_succ]); (try simp only [List.set_cons_zero])
        refine wpAnyH_take (i := 7) (v := undef) rfl (by kernel_rfl) (by kernel_rfl) (by kernel_rfl) (fun _ _ _ h => h) (Or.inr ⟨by kernel_rfl, rfl⟩) hHeld ?_
        (try simp only [List.getElem_toArray]); (try simp only [List.getElem_cons_succ]); (try simp only [List.getElem_cons_zero]); (try simp only [Act.put]); (try simp only [List.setIfInBounds_toArray]); (try simp only [List.set_cons_succ]); (try simp only [List.set_cons_zero])
        refine wpAnyH_take (i := 8) (v := undef) rfl (by kernel_rfl) (by kernel_rfl) (by kernel_rfl) (fun _ _ _ h => h) (Or.inr ⟨by kernel_rfl, rfl⟩) hHeld ?_
        (try simp only [List.getElem_toArray]); (try simp only [List.getElem_cons_succ]); (try simp only [List.getElem_cons_zero]); (try simp only [Act.put]); (try simp only [List.setIfInBounds_toArray]); (try simp only [List.set_cons_succ]); (try simp only [List.set_cons_zero])
        refine wpAnyH_take (i := 9) (v := undef) rfl (by kernel_rfl) (by kernel_rfl) (by kernel_rfl) (fun _ _ _ h => h) (Or.inr ⟨by kernel_rfl, rfl⟩) hHeld ?_
        (try simp only [List.getElem_toArray]); (try simp only [List.getElem_cons_succ]); (try simp only [List.getElem_cons_zero]); (try simp only [Act.put]); (try simp only [List.setIfInBounds_toArray]); (try simp only [List.set_cons_succ]); (try simp only [List.set_cons_zero])
        refine wpAnyH_take (i := 10) (v := undef) rfl (by kernel_rfl) (by kernel_rfl) (by kernel_rfl) (fun _ _ _ h => h) (Or.inr ⟨by kernel_rfl, rfl⟩) hHeld ?_
        (try simp only [List.getElem_toArray]); (try simp only [List.getElem_cons_succ]); (try simp only [List.getElem_cons_zero]); (try simp only [Act.put]); (try simp only [List.setIfInBounds_toArray]); (try simp only [List.set_cons_succ]); (try simp only [List.set_cons_zero])
        refine wpAnyH_take (i := 11) (v := undef) rfl (by kernel_rfl) (by kernel_rfl) (by kernel_rfl) (fun _ _ _ h => h) (Or.inr ⟨by kernel_rfl, rfl⟩) hHeld ?_
        (try simp only [List.getElem_toArray]); (try simp only [List.getElem_cons_succ]); (try simp only [List.getElem_cons_zero]); (try simp only [Act.put]); (try simp only [List.setIfInBounds_toArray]); (try simp only [List.set_cons_succ]); (try simp only [List.set_cons_zero])
        refine wpAnyH_take (i := 12) (v := undef) rfl (by kernel_rfl) (by kernel_rfl) (by kernel_rfl) (fun _ _ _ h => h) (Or.inr ⟨by kernel_rfl, rfl⟩) hHeld ?_
        (try simp only [List.getElem_toArray]); (try simp only [List.getElem_cons_succ]); (try simp only [List.getElem_cons_zero]); (try simp only [Act.put]); (try simp only [List.setIfInBounds_toArray]); (try simp only [List.set_cons_succ]); (try simp only [List.set_cons_zero])
        refine wpAnyH_take (i := 13) (v := undef) rfl (by kernel_rfl) (by kernel_rfl) (by kernel_rfl) (fun _ _ _ h => h) (Or.inr ⟨by kernel_rfl, rfl⟩) hHeld ?_
        (try simp only [List.getElem_toArray]); (try simp only [List.getElem_cons_succ]); (try simp only [List.getElem_cons_zero]); (try simp only [Act.put]); (try simp only [List.setIfInBounds_toArray]); (try simp only [List.set_cons_succ]); (try simp only [List.set_cons_zero])
        refine wpAnyH_take (i := 14) (v := undef) rfl (by kernel_rfl) (by kernel_rfl) (by kernel_rfl) (fun _ _ _ h => h) (Or.inr ⟨by kernel_rfl, rfl⟩) hHeld ?_
        (try simp only [List.getElem_toArray]); (try simp only [List.getElem_cons_succ]); (try simp only [List.getElem_cons_zero]); (try simp only [Act.put]); (try simp only [List.setIfInBounds_toArray]); (try simp only [List.set_cons_succ]); (try simp only [List.set_cons_zero])
        refine wpAnyH_take (i := 15) (v := undef) rfl (by kernel_rfl) (by kernel_rfl) (by kernel_rfl) (fun _ _ _ h => h) (Or.inr ⟨by kernel_rfl, rfl⟩) hHeld ?_
        (try simp only [List.getElem_toArray]); (try simp only [List.getElem_cons_succ]); (try simp only [List.getElem_cons_zero]); (try simp only [Act.put]); (try simp only [List.setIfInBounds_toArray]); (try simp only [List.set_cons_succ]); (try simp only [List.set_cons_zero])
        refine wpAnyH_take (i := 16) (v := undef) rfl (by kernel_rfl) (by kernel_rfl) (by kernel_rfl) (fun _ _ _ h => h) (Or.inr ⟨by kernel_rfl, rfl⟩) hHeld ?_
        (try simp only [List.getElem_toArray]); (try simp only [List.getElem_cons_succ]); (try simp only [List.getElem_cons_zero]); (try simp only [Act.put]); (try simp only [List.setIfInBounds_toArray]); (try simp only [List.set_cons_succ]); (try simp only [List.set_cons_zero])
        refine wpAnyH_take (i := 17) (v := undef) rfl (by kernel_rfl) (by kernel_rfl) (by kernel_rfl) (fun _ _ _ h => h) (Or.inr ⟨by kernel_rfl, rfl⟩) hHeld ?_
        (try simp only [List.getElem_toArray]); (try simp only [List.getElem_cons_succ]); (try simp only [List.getElem_cons_zero]); (try simp only [Act.put]); (try simp only [List.setIfInBounds_toArray]); (try simp only [List.set_cons_succ]); (try simp only [List.set_cons_zero])
        refine wpAnyH_take (i := 18) (v := undef) rfl (by kernel_rfl) (by kernel_rfl) (by kernel_rfl) (fun _ _ _ h => h) (Or.inr ⟨by kernel_rfl, rfl⟩) hHeld ?_
        (try simp only [List.getElem_toArray]); (try simp only [List.getElem_cons_succ]); (try simp only [List.getElem_cons_zero]); (try simp only [Act.put]); (try simp only [List.setIfInBounds_toArray]); (try simp only [List.set_cons_succ]); (try simp only [List.set_cons_zero])
        refine wpAnyH_take (i := 19) (v := undef) rfl (by kernel_rfl) (by kernel_rfl) (by kernel_rfl) (fun _ _ _ h => h) (Or.inr ⟨by kernel_rfl, rfl⟩) hHeld ?_
        (try simp only [List.getElem_toArray]); (try simp only [List.getElem_cons_succ]); (try simp only [List.getElem_cons_zero]); (try simp only [Act.put]); (try simp only [List.setIfInBounds_toArray]); (try simp only [List.set_cons_succ]); (try simp only [List.set_cons_zero])
        refine wpAnyH_take (i := 20) (v := undef) rfl (by kernel_rfl) (by kernel_rfl) (by kernel_rfl) (fun _ _ _ h => h) (Or.inr ⟨by kernel_rfl, rfl⟩) hHeld ?_
        (try simp only [List.getElem_toArray]); (try simp only [List.getElem_cons_succ]); (try simp only [List.getElem_cons_zero]); (try simp only [Act.put]); (try simp only [List.setIfInBounds_toArray]); (try simp only [List.set_cons_succ]); (try simp only [List.set_cons_zero])
        refine wpAnyH_take (i := 21) (v := undef) rfl (by kernel_rfl) (by kernel_rfl) (by kernel_rfl) (fun _ _ _ h => h) (Or.inr ⟨by kernel_rfl, rfl⟩) hHeld ?_
        (try simp only [List.getElem_toArray]); (try simp only [List.getElem_cons_succ]); (try simp only [List.getElem_cons_zero]); (try simp only [Act.put]); (try simp only [List.setIfInBounds_toArray]); (try simp only [List.set_cons_succ]); (try simp only [List.set_cons_zero])
        refine wpAnyH_take (i := 22) (v := undef) rfl (by kernel_rfl) (by kernel_rfl) (by kernel_rfl) (fun _ _ _ h => h) (Or.inr ⟨by kernel_rfl, rfl⟩) hHeld ?_
        (try simp only [List.getElem_toArray]); (try simp only [List.getElem_cons_succ]); (try simp only [List.getElem_cons_zero]); (try simp only [Act.put]); (try simp only [List.setIfInBounds_toArray]); (try simp only [List.set_cons_succ]); (try simp only [List.set_cons_zero])
        refine wpAnyH_take (i := 23) (v := (.bool false)) rfl (by kernel_rfl) (by kernel_rfl) (by kernel_rfl) (fun _ _ _ h => h) (Or.inl ⟨by kernel_rfl, ?_⟩) hHeld ?_
        skip
        · intro wz hSw; (try dsimp only at hSw); go_simp; all_goals (try with_reducible rfl)
        (try simp only [List.getElem_toArray]); (try simp only [List.getElem_cons_succ]); (try simp only [List.getElem_cons_zero]); (try simp only [Act.put]); (try simp only [List.setIfInBounds_toArray]); (try simp only [List.set_cons_succ]); (try simp only [List.set_cons_zero])
        refine wpAnyH_done (by kernel_rfl) ?_ _
        refine NoPanic.normal ?_
        go_wp2_with fail
        go_meet
        case rel => exact ⟨rfl, B, k0, k1, k2, k3, k4, k5⟩
    case rest =>
      obtain ⟨rfl, hcB, k0, k1, k2, k3, _, _⟩ := hcut
      have B := hcB.out
      clear hok1 hok2 hcB
      by_cases h1 : okB a b = true
      · by_cases h2 : okB c d = true
        · skip
          go_wp2_with fail
          refine (sOk_is h1 _).mono ?_
          rintro e wN ⟨rfl, hbN⟩
          replace k0 : wN.cell? ⟨A, 0, none⟩ = some (.int .i64 a) := (by first | exact cell_later hbN k0 | exact cell_later hbN (cell_dr k0)); replace k1 : wN.cell? ⟨A, 1, none⟩ = some (.int .i64 b) := (by first | exact cell_later hbN k1 | exact cell_later hbN (cell_dr k1)); replace k2 : wN.cell? ⟨A + 1, 0, none⟩ = some (.int .i64 c) := (by first | exact cell_later hbN k2 | exact cell_later hbN (cell_dr k2)); replace k3 : wN.cell? ⟨A + 1, 1, none⟩ = some (.int .i64 d) := (by first | exact cell_later hbN k3 | exact cell_later hbN (cell_dr k3)); replace B : Below w.heap.size w wN := (by first | exact Below.trans B (hbN.mono B.size) | exact Below.trans B.drew (hbN.mono B.drew.size)); clear hbN
          go_wp2_with fail
          refine (sOk_is h2 _).mono ?_
          rintro e wN ⟨rfl, hbN⟩
          replace k0 : wN.cell? ⟨A, 0, none⟩ = some (.int .i64 a) := (by first | exact cell_later hbN k0 | exact cell_later hbN (cell_dr k0)); replace k1 : wN.cell? ⟨A, 1, none⟩ = some (.int .i64 b) := (by first | exact cell_later hbN k1 | exact cell_later hbN (cell_dr k1)); replace k2 : wN.cell? ⟨A + 1, 0, none⟩ = some (.int .i64 c) := (by first | exact cell_later hbN k2 | exact cell_later hbN (cell_dr k2)); replace k3 : wN.cell? ⟨A + 1, 1, none⟩ = some (.int .i64 d) := (by first | exact cell_later hbN k3 | exact cell_later hbN (cell_dr k3)); replace B : Below w.heap.size w wN := (by first | exact Below.trans B (hbN.mono B.size) | exact Below.trans B.drew (hbN.mono B.drew.size)); clear hbN
          have h12 := two_yes h1 h2
          go_upto_region 12 with fail
          go_cut [93] (fun s wx => s = .bool false ∧ Hid (Below w.heap.size w wx) ∧ wx.cell? ⟨A, 0, none⟩ = some (.int .i64 a) ∧ wx.cell? ⟨A, 1, none⟩ = some (.int .i64 b) ∧ wx.cell? ⟨A + 1, 0, none⟩ = some (.int .i64 c) ∧ wx.cell? ⟨A + 1, 1, none⟩ = some (.int .i64 d))
          case first =>
            by_cases he : a = c ∧ b = d
            · obtain ⟨rfl, rfl⟩ := he
              have hx := less_same a b
              refine wp_region_noPanic ?_
              refine wp_region_held_drew (S := (fun w' => w'.cell? ⟨A, 0, none⟩ = some (.int .i64 a) ∧ w'.cell? ⟨A, 1, none⟩ = some (.int .i64 b) ∧ w'.cell? ⟨A + 1, 0, none⟩ = some (.int .i64 a) ∧ w'.cell? ⟨A + 1, 1, none⟩ = some (.int .i64 b))) (by kernel_rfl) ?_ (fun hHeld => ?_)
              · (try dsimp only)
                refine ⟨?_, ?_, ?_, ?_⟩ <;> (repeat (with_reducible (first | refine cell_dr ?_ | refine cell_al _ ?_ | exact k0 | exact k1 | exact k2 | exact k3)))
              refine wpAnyH_take (i := 0) (v := ?_) rfl (by kernel_rfl) (by kernel_rfl) (by kernel_rfl) (fun _ _ _ h => h) (Or.inl ⟨by kernel_rfl, ?_⟩) hHeld ?_
              rotate_left
              · intro wz hSw; (try dsimp only at hSw); go_simp; all_goals (try with_reducible rfl)
              (try simp only [List.getElem_toArray]); (try simp only [List.getElem_cons_succ]); (try simp only [List.getElem_cons_zero]); (try simp only [Act.put]); (try simp only [List.setIfInBounds_toArray]); (try simp only [List.set_cons_succ]); (try simp only [List.set_cons_zero])
              refine wpAnyH_take (i := 1) (v := ?_) rfl (by kernel_rfl) (by kernel_rfl) (by kernel_rfl) (fun _ _ _ h => h) (Or.inl ⟨by kernel_rfl, ?_⟩) hHeld ?_
              rotate_left
              · intro wz hSw; (try dsimp only at hSw); go_simp; all_goals (try with_reducible rfl)
              (try simp only [List.getElem_toArray]); (try simp only [List.getElem_cons_succ]); (try simp only [List.getElem_cons_zero]); (try simp only [Act.put]); (try simp only [List.setIfInBounds_toArray]); (try simp only [List.set_cons_succ]); (try simp only [List.set_cons_zero])
              refine wpAnyH_take (i := 2) (v := (.bool false)) rfl (by kernel_rfl) (by kernel_rfl) (by kernel_rfl) (fun _ _ _ h => h) (Or.inl ⟨by kernel_rfl, ?_⟩) hHeld ?_
              skip
              · intro wz hSw; (try dsimp only at hSw); go_simp; all_goals (try with_reducible rfl)
              (try simp only [List.getElem_toArray]); (try simp only [List.getElem_cons_succ]); (try simp only [List.getElem_cons_zero]); (try simp only [Act.put]); (try simp only [List.setIfInBounds_toArray]); (try simp only [List.set_cons_succ]); (try simp only [List.set_cons_zero])
              refine wpAnyH_take (i := 3) (v := (.bool false)) rfl (by kernel_rfl) (by kernel_rfl) (by kernel_rfl) (fun _ _ _ h => h) (Or.inl ⟨by kernel_rfl, ?_⟩) hHeld ?_
              skip
              · intro wz hSw; (try dsimp only at hSw); go_simp; all_goals (try with_reducible rfl)
              (try simp only [List.getElem_toArray]); (try simp only [List.getElem_cons_succ]); (try simp only [List.getElem_cons_zero]); (try simp only [Act.put]); (try simp only [List.setIfInBounds_toArray]); (try simp only [List.set_cons_succ]); (try simp only [List.set_cons_zero])
              refine wpAnyH_take (i := 4) (v := undef) rfl (by kernel_rfl) (by kernel_rfl) (by kernel_rfl) (fun _ _ _ h => h) (Or.inr ⟨by kernel_rfl, rfl⟩) hHeld ?_
              (try simp only [List.getElem_toArray]); (try simp only [List.getElem_cons_succ]); (try simp only [List.getElem_cons_zero]); (try simp only [Act.put]); (try simp only [List.setIfInBounds_toArray]); (try simp only [List.set_cons_succ]); (try simp only [List.set_cons_zero])
              refine wpAnyH_take (i := 5) (v := undef) rfl (by kernel_rfl) (by kernel_rfl) (by kernel_rfl) (fun _ _ _ h => h) (Or.inr ⟨by kernel_rfl, rfl⟩) hHeld ?_
              (try simp only [List.getElem_toArray]); (try simp only [List.getElem_cons_succ]); (try simp only [List.getElem_cons_zero]); (try simp only [Act.put]); (try simp only [List.setIfInBounds_toArray]); (try simp only [List.set_cons_succ]); (try simp only [List.set_cons_zero])
              refine wpAnyH_take (i := 6) (v := undef) rfl (by kernel_rfl) (by kernel_rfl) (by kernel_rfl) (fun _ _ _ h => h) (Or.inr ⟨by kernel_rfl, rfl⟩) hHeld ?_
              (try simp only [List.getElem_toArray]); (try simp only [List.getElem_cons_succ]); (try simp only [List.getElem_cons_zero]); (try simp only [Act.put]); (try simp only [List.setIfInBounds_toArray]); (try simp only [List.set_cons_succ]); (try simp only [List.set_cons_zero])
              refine wpAnyH_take (i := 7) (v := undef) rfl (by kernel_rfl) (by kernel_rfl) (by kernel_rfl) (fun _ _ _ h => h) (Or.inr ⟨by kernel_rfl, rfl⟩) hHeld ?_
              (try simp only [List.getElem_toArray]); (try simp only [List.getElem_cons_succ]); (try simp only [List.getElem_cons_zero]); (try simp only [Act.put]); (try simp only [List.setIfInBounds_toArray]); (try simp only [List.set_cons_succ]); (try simp only [List.set_cons_zero])
              refine wpAnyH_take (i := 8) (v := undef) rfl (by kernel_rfl) (by kernel_rfl) (by kernel_rfl) (fun _ _ _ h => h) (Or.inr ⟨by kernel_rfl, rfl⟩) hHeld ?_
              (try simp only [List.getElem_toArray]); (try simp only [List.getElem_cons_succ]); (try simp only [List.getElem_cons_zero]); (try simp only [Act.put]); (try simp only [List.setIfInBounds_toArray]); (try simp only [List.set_cons_succ]); (try simp only [List.set_cons_zero])
              refine wpAnyH_take (i := 9) (v := undef) rfl (by kernel_rfl) (by kernel_rfl) (by kernel_rfl) (fun _ _ _ h => h) (Or.inr ⟨by kernel_rfl, rfl⟩) hHeld ?_
              (try simp only [List.getElem_toArray]); (try simp only [List.getElem_cons_succ]); (try simp only [List.getElem_cons_zero]); (try simp only [Act.put]); (try simp only [List.setIfInBounds_toArray]); (try simp only [List.set_cons_succ]); (try simp only [List.set_cons_zero])
              refine wpAnyH_take (i := 10) (v := undef) rfl (by kernel_rfl) (by kernel_rfl) (by kernel_rfl) (fun _ _ _ h => h) (Or.inr ⟨by kernel_rfl, rfl⟩) hHeld ?_
              (try simp only [List.getElem_toArray]); (try simp only [List.getElem_cons_succ]); (try simp only [List.getElem_cons_zero]); (try simp only [Act.put]); (try simp only [List.setIfInBounds_toArray]); (try simp only [List.set_cons_succ]); (try simp only [List.set_cons_zero])
              refine wpAnyH_take (i := 11) (v := (.bool false)) rfl (by kernel_rfl) (by kernel_rfl) (by kernel_rfl) (fun _ _ _ h => h) (Or.inl ⟨by kernel_rfl, ?_⟩) hHeld ?_
              skip
              · intro wz hSw; (try dsimp only at hSw); go_simp; all_goals (try with_reducible rfl)
              (try simp only [List.getElem_toArray]); (try simp only [List.getElem_cons_succ]); (try simp only [List.getElem_cons_zero]); (try simp only [Act.put]); (try simp only [List.setIfInBounds_toArray]); (try simp only [List.set_cons_succ]); (try simp only [List.set_cons_zero])
              refine wpAnyH_take (i := 12) (v := (.bool false)) rfl (by kernel_rfl) (by kernel_rfl) (by kernel_rfl) (fun _ _ _ h => h) (Or.inl ⟨by kernel_rfl, ?_⟩) hHeld ?_
              skip
              · intro wz hSw; (try dsimp only at hSw); go_simp; all_goals (try with_reducible rfl)
              (try simp only [List.getElem_toArray]); (try simp only [List.getElem_cons_succ]); (try simp only [List.getElem_cons_zero]); (try simp only [Act.put]); (try simp only [List.setIfInBounds_toArray]); (try simp only [List.set_cons_succ]); (try simp only [List.set_cons_zero])
              refine wpAnyH_take (i := 13) (v := ?_) rfl (by kernel_rfl) (by kernel_rfl) (by kernel_rfl) (fun _ _ _ h => h) (Or.inl ⟨by kernel_rfl, ?_⟩) hHeld ?_
              rotate_left
              · intro wz hSw; (try dsimp only at hSw); go_simp; all_goals (try with_reducible rfl)
              (try simp only [List.getElem_toArray]); (try simp only [List.getElem_cons_succ]); (try simp only [List.getElem_cons_zero]); (try simp only [Act.put]); (try simp only [List.setIfInBounds_toArray]); (try simp only [List.set_cons_succ]); (try simp only [List.set_cons_zero])
              refine wpAnyH_take (i := 14) (v := ?_) rfl (by kernel_rfl) (by kernel_rfl) (by kernel_rfl) (fun _ _ _ h => h) (Or.inl ⟨by kernel_rfl, ?_⟩) hHeld ?_
              rotate_left
              · intro wz hSw; (try dsimp only at hSw); go_simp; all_goals (try with_reducible rfl)
              (try simp only [List.getElem_toArray]); (try simp only [List.getElem_cons_succ]); (try simp only [List.getElem_cons_zero]); (try simp only [Act.put]); (try simp only [List.setIfInBounds_toArray]); (try simp only [List.set_cons_succ]); (try simp only [List.set_cons_zero])
              refine wpAnyH_take (i := 15) (v := (.bool true)) rfl (by kernel_rfl) (by kernel_rfl) (by kernel_rfl) (fun _ _ _ h => h) (Or.inl ⟨by kernel_rfl, ?_⟩) hHeld ?_
              skip
              · intro wz hSw; (try dsimp only at hSw); go_simp; all_goals (try with_reducible rfl)
              (try simp only [List.getElem_toArray]); (try simp only [List.getElem_cons_succ]); (try simp only [List.getElem_cons_zero]); (try simp only [Act.put]); (try simp only [List.setIfInBounds_toArray]); (try simp only [List.set_cons_succ]); (try simp only [List.set_cons_zero])
              refine wpAnyH_take (i := 16) (v := (.bool true)) rfl (by kernel_rfl) (by kernel_rfl) (by kernel_rfl) (fun _ _ _ h => h) (Or.inl ⟨by kernel_rfl, ?_⟩) hHeld ?_
              skip
              · intro wz hSw; (try dsimp only at hSw); go_simp; all_goals (try with_reducible rfl)
              (try simp only [List.getElem_toArray]); (try simp only [List.getElem_cons_succ]); (try simp only [List.getElem_cons_zero]); (try simp only [Act.put]); (try simp only [List.setIfInBounds_toArray]); (try simp only [List.set_cons_succ]); (try simp only [List.set_cons_zero])
              refine wpAnyH_take (i := 17) (v := ?_) rfl (by kernel_rfl) (by kernel_rfl) (by kernel_rfl) (fun _ _ _ h => h) (Or.inl ⟨by kernel_rfl, ?_⟩) hHeld ?_
              rotate_left
              · intro wz hSw; (try dsimp only at hSw); go_simp; all_goals (try with_reducible rfl)
              (try simp only [List.getElem_toArray]); (try simp only [List.getElem_cons_succ]); (try simp only [List.getElem_cons_zero]); (try simp only [Act.put]); (try simp only [List.setIfInBounds_toArray]); (try simp only [List.set_cons_succ]); (try simp only [List.set_cons_zero])
              refine wpAnyH_take (i := 18) (v := ?_) rfl (by kernel_rfl) (by kernel_rfl) (by kernel_rfl) (fun _ _ _ h => h) (Or.inl ⟨by kernel_rfl, ?_⟩) hHeld ?_
              rotate_left
              · intro wz hSw; (try dsimp only at hSw); go_simp; all_goals (try with_reducible rfl)
              (try simp only [List.getElem_toArray]); (try simp only [List.getElem_cons_succ]); (try simp only [List.getElem_cons_zero]); (try simp only [Act.put]); (try simp only [List.setIfInBounds_toArray]); (try simp only [List.set_cons_succ]); (try simp only [List.set_cons_zero])
              refine wpAnyH_ready (rs := [19]) (by kernel_rfl) (by simp) (AllReadyH.cons rfl (fun K hK => ?_) AllReadyH.nil)
              go_simp
              (go_at_call 24; refine (iLess_is hx _).mono ?_; rintro e wN ⟨rfl, hbN⟩; replace k0 : wN.cell? ⟨A, 0, none⟩ = some (.int .i64 a) := (by first | exact cell_later hbN k0 | exact cell_later hbN (cell_dr k0)); replace k1 : wN.cell? ⟨A, 1, none⟩ = some (.int .i64 b) := (by first | exact cell_later hbN k1 | exact cell_later hbN (cell_dr k1)); replace k2 : wN.cell? ⟨A + 1, 0, none⟩ = some (.int .i64 a) := (by first | exact cell_later hbN k2 | exact cell_later hbN (cell_dr k2)); replace k3 : wN.cell? ⟨A + 1, 1, none⟩ = some (.int .i64 b) := (by first | exact cell_later hbN k3 | exact cell_later hbN (cell_dr k3)); replace B : Below w.heap.size w wN := (by first | exact Below.trans B (hbN.mono B.size) | exact Below.trans B.drew (hbN.mono B.drew.size)); clear hbN)
              go_wp2_with fail
              refine hK.out _ _ ?_ (fun hHeld => ?_)
              · (try dsimp only)
                refine ⟨?_, ?_, ?_, ?_⟩ <;> (repeat (with_reducible (first | refine cell_dr ?_ | refine cell_al _ ?_ | exact k0 | exact k1 | exact k2 | exact k3)))
              clear hK K
              (try simp only [List.getElem_toArray]); (try simp only [List.getElem_cons_succ]); (try simp only [List.getElem_cons_zero]); (try simp only [Act.put]); (try simp only [List.setIfInBounds_toArray]); (try simp only [List.set_cons_succ]); (try simp only [List.set_cons_zero])
              refine wpAnyH_take (i := 20) (v := ?_) rfl (by kernel_rfl) (by kernel_rfl) (by kernel_rfl) (fun _ _ _ h => h) (Or.inl ⟨by kernel_rfl, ?_⟩) hHeld ?_
              rotate_left
              · intro wz hSw; (try dsimp only at hSw); go_simp; all_goals (try with_reducible rfl)
              (try simp only [List.getElem_toArray]); (try simp only [List.getElem_cons_succ]); (try simp only [List.getElem_cons_zero]); (try simp only [Act.put]); (try simp only [List.setIfInBounds_toArray]); (try simp only [List.set_cons_succ]); (try simp only [List.set_cons_zero])
              refine wpAnyH_take (i := 21) (v := (.bool false)) rfl (by kernel_rfl) (by kernel_rfl) (by kernel_rfl) (fun _ _ _ h => h) (Or.inl ⟨by kernel_rfl, ?_⟩) hHeld ?_
              skip
              · intro wz hSw; (try dsimp only at hSw); go_simp; all_goals (try with_reducible rfl)
              (try simp only [List.getElem_toArray]); (try simp only [List.getElem_cons_succ]); (try simp only [List.getElem_cons_zero]); (try simp only [Act.put]); (try simp only [List.setIfInBounds_toArray]); (try simp only [List.set_cons_succ]); (try simp only [List.set_cons_zero])
              refine wpAnyH_done (by kernel_rfl) ?_ _
              refine NoPanic.normal ?_
              go_wp2_with fail
              go_meet
              case rel => exact ⟨rfl, B, k0, k1, k2, k3⟩
            · have hfl := less_flip h1 h2 he
              cases hx : lessB a b c d
              · have hy : lessB c d a b = true := by rw [hfl, hx]; rfl
                refine wp_region_noPanic ?_
                refine wp_region_held_drew (S := (fun w' => w'.cell? ⟨A, 0, none⟩ = some (.int .i64 a) ∧ w'.cell? ⟨A, 1, none⟩ = some (.int .i64 b) ∧ w'.cell? ⟨A + 1, 0, none⟩ = some (.int .i64 c) ∧ w'.cell? ⟨A + 1, 1, none⟩ = some (.int .i64 d))) (by kernel_rfl) ?_ (fun hHeld => ?_)
                · (try dsimp only)
                  refine ⟨?_, ?_, ?_, ?_⟩ <;> (repeat (with_reducible (first | refine cell_dr ?_ | refine cell_al _ ?_ | exact k0 | exact k1 | exact k2 | exact k3)))
                refine wpAnyH_take (i := 0) (v := ?_) rfl (by kernel_rfl) (by kernel_rfl) (by kernel_rfl) (fun _ _ _ h => h) (Or.inl ⟨by kernel_rfl, ?_⟩) hHeld ?_
                rotate_left
                · intro wz hSw; (try dsimp only at hSw); go_simp; all_goals (try with_reducible rfl)
                (try simp only [List.getElem_toArray]); (try simp only [List.getElem_cons_succ]); (try simp only [List.getElem_cons_zero]); (try simp only [Act.put]); (try simp only [List.setIfInBounds_toArray]); (try simp only [List.set_cons_succ]); (try simp only [List.set_cons_zero])
                refine wpAnyH_take (i := 1) (v := ?_) rfl (by kernel_rfl) (by kernel_rfl) (by kernel_rfl) (fun _ _ _ h => h) (Or.inl ⟨by kernel_rfl, ?_⟩) hHeld ?_
                rotate_left
                · intro wz hSw; (try dsimp only at hSw); go_simp; all_goals (try with_reducible rfl)
                (try simp only [List.getElem_toArray]); (try simp only [List.getElem_cons_succ]); (try simp only [List.getElem_cons_zero]); (try simp only [Act.put]); (try simp only [List.setIfInBounds_toArray]); (try simp only [List.set_cons_succ]); (try simp only [List.set_cons_zero])
                refine wpAnyH_take (i := 2) (v := (.bool true)) rfl (by kernel_rfl) (by kernel_rfl) (by kernel_rfl) (fun _ _ _ h => h) (Or.inl ⟨by kernel_rfl, ?_⟩) hHeld ?_
                skip
                · intro wz hSw; (try dsimp only at hSw); go_simp; all_goals (try with_reducible rfl); all_goals exact fun e1 e2 => he ⟨e1, e2⟩
                (try simp only [List.getElem_toArray]); (try simp only [List.getElem_cons_succ]); (try simp only [List.getElem_cons_zero]); (try simp only [Act.put]); (try simp only [List.setIfInBounds_toArray]); (try simp only [List.set_cons_succ]); (try simp only [List.set_cons_zero])
                refine wpAnyH_take (i := 3) (v := (.bool true)) rfl (by kernel_rfl) (by kernel_rfl) (by kernel_rfl) (fun _ _ _ h => h) (Or.inl ⟨by kernel_rfl, ?_⟩) hHeld ?_
                skip
                · intro wz hSw; (try dsimp only at hSw); go_simp; all_goals (try with_reducible rfl)
                (try simp only [List.getElem_toArray]); (try simp only [List.getElem_cons_succ]); (try simp only [List.getElem_cons_zero]); (try simp only [Act.put]); (try simp only [List.setIfInBounds_toArray]); (try simp only [List.set_cons_succ]); (try simp only [List.set_cons_zero])
                refine wpAnyH_take (i := 4) (v := ?_) rfl (by kernel_rfl) (by kernel_rfl) (by kernel_rfl) (fun _ _ _ h => h) (Or.inl ⟨by kernel_rfl, ?_⟩) hHeld ?_
                rotate_left
                · intro wz hSw; (try dsimp only at hSw); go_simp; all_goals (try with_reducible rfl)
                (try simp only [List.getElem_toArray]); (try simp only [List.getElem_cons_succ]); (try simp only [List.getElem_cons_zero]); (try simp only [Act.put]); (try simp only [List.setIfInBounds_toArray]); (try simp only [List.set_cons_succ]); (try simp only [List.set_cons_zero])
                refine wpAnyH_take (i := 5) (v := ?_) rfl (by kernel_rfl) (by kernel_rfl) (by kernel_rfl) (fun _ _ _ h => h) (Or.inl ⟨by kernel_rfl, ?_⟩) hHeld ?_
                rotate_left
                · intro wz hSw; (try dsimp only at hSw); go_simp; all_goals (try with_reducible rfl)
                (try simp only [List.getElem_toArray]); (try simp only [List.getElem_cons_succ]); (try simp only [List.getElem_cons_zero]); (try simp only [Act.put]); (try simp only [List.setIfInBounds_toArray]); (try simp only [List.set_cons_succ]); (try simp only [List.set_cons_zero])
                refine wpAnyH_take (i := 7) (v := ?_) rfl (by kernel_rfl) (by kernel_rfl) (by kernel_rfl) (fun _ _ _ h => h) (Or.inl ⟨by kernel_rfl, ?_⟩) hHeld ?_
                rotate_left
                · intro wz hSw; (try dsimp only at hSw); go_simp; all_goals (try with_reducible rfl)
                (try simp only [List.getElem_toArray]); (try simp only [List.getElem_cons_succ]); (try simp only [List.getElem_cons_zero]); (try simp only [Act.put]); (try simp only [List.setIfInBounds_toArray]); (try simp only [List.set_cons_succ]); (try simp only [List.set_cons_zero])
                refine wpAnyH_take (i := 8) (v := ?_) rfl (by kernel_rfl) (by kernel_rfl) (by kernel_rfl) (fun _ _ _ h => h) (Or.inl ⟨by kernel_rfl, ?_⟩) hHeld ?_
                rotate_left
                · intro wz hSw; (try dsimp only at hSw); go_simp; all_goals (try with_reducible rfl)
                (try simp only [List.getElem_toArray]); (try simp only [List.getElem_cons_succ]); (try simp only [List.getElem_cons_zero]); (try simp only [Act.put]); (try simp only [List.setIfInBounds_toArray]); (try simp only [List.set_cons_succ]); (try simp only [List.set_cons_zero])
                refine wpAnyH_ready (rs := [6]) (by kernel_rfl) (by simp) (AllReadyH.cons rfl (fun K hK => ?_) AllReadyH.nil)
                go_simp
                (go_at_call 24; refine (iLess_is hx _).mono ?_; rintro e wN ⟨rfl, hbN⟩; replace k0 : wN.cell? ⟨A, 0, none⟩ = some (.int .i64 a) := (by first | exact cell_later hbN k0 | exact cell_later hbN (cell_dr k0)); replace k1 : wN.cell? ⟨A, 1, none⟩ = some (.int .i64 b) := (by first | exact cell_later hbN k1 | exact cell_later hbN (cell_dr k1)); replace k2 : wN.cell? ⟨A + 1, 0, none⟩ = some (.int .i64 c) := (by first | exact cell_later hbN k2 | exact cell_later hbN (cell_dr k2)); replace k3 : wN.cell? ⟨A + 1, 1, none⟩ = some (.int .i64 d) := (by first | exact cell_later hbN k3 | exact cell_later hbN (cell_dr k3)); replace B : Below w.heap.size w wN := (by first | exact Below.trans B (hbN.mono B.size) | exact Below.trans B.drew (hbN.mono B.drew.size)); clear hbN)
                go_wp2_with fail
                refine hK.out _ _ ?_ (fun hHeld => ?_)
                · (try dsimp only)
                  refine ⟨?_, ?_, ?_, ?_⟩ <;> (repeat (with_reducible (first | refine cell_dr ?_ | refine cell_al _ ?_ | exact k0 | exact k1 | exact k2 | exact k3)))
                clear hK K
                (try simp only [List.getElem_toArray]); (try simp only [List.getElem_cons_succ]); (try simp only [List.getElem_cons_zero]); (try simp only [Act.put]); (try simp only [List.setIfInBounds_toArray]); (try simp only [List.set_cons_succ]); (try simp only [List.set_cons_zero])
                refine wpAnyH_ready (rs := [9]) (by kernel_rfl) (by simp) (AllReadyH.cons rfl (fun K hK => ?_) AllReadyH.nil)
                go_simp
                (go_at_call 24; refine (iLess_is hy _).mono ?_; rintro e wN ⟨rfl, hbN⟩; replace k0 : wN.cell? ⟨A, 0, none⟩ = some (.int .i64 a) := (by first | exact cell_later hbN k0 | exact cell_later hbN (cell_dr k0)); replace k1 : wN.cell? ⟨A, 1, none⟩ = some (.int .i64 b) := (by first | exact cell_later hbN k1 | exact cell_later hbN (cell_dr k1)); replace k2 : wN.cell? ⟨A + 1, 0, none⟩ = some (.int .i64 c) := (by first | exact cell_later hbN k2 | exact cell_later hbN (cell_dr k2)); replace k3 : wN.cell? ⟨A + 1, 1, none⟩ = some (.int .i64 d) := (by first | exact cell_later hbN k3 | exact cell_later hbN (cell_dr k3)); replace B : Below w.heap.size w wN := (by first | exact Below.trans B (hbN.mono B.size) | exact Below.trans B.drew (hbN.mono B.drew.size)); clear hbN)
                go_wp2_with fail
                refine hK.out _ _ ?_ (fun hHeld => ?_)
                · (try dsimp only)
                  refine ⟨?_, ?_, ?_, ?_⟩ <;> (repeat (with_reducible (first | refine cell_dr ?_ | refine cell_al _ ?_ | exact k0 | exact k1 | exact k2 | exact k3)))
                clear hK K
                (try simp only [List.getElem_toArray]); (try simp only [List.getElem_cons_succ]); (try simp only [List.getElem_cons_zero]); (try simp only [Act.put]); (try simp only [List.setIfInBounds_toArray]); (try simp only [List.set_cons_succ]); (try simp only [List.set_cons_zero])
                refine wpAnyH_take (i := 10) (v := (.bool false)) rfl (by kernel_rfl) (by kernel_rfl) (by kernel_rfl) (fun _ _ _ h => h) (Or.inl ⟨by kernel_rfl, ?_⟩) hHeld ?_
                skip
                · intro wz hSw; (try dsimp only at hSw); go_simp; all_goals (try with_reducible rfl)
                (try simp only [List.getElem_toArray]); (try simp only [List.getElem_cons_succ]); (try simp only [List.getElem_cons_zero]); (try simp only [Act.put]); (try simp only [List.setIfInBounds_toArray]); (try simp only [List.set_cons_succ]); (try simp only [List.set_cons_zero])
                refine wpAnyH_take (i := 11) (v := (.bool false)) rfl (by kernel_rfl) (by kernel_rfl) (by kernel_rfl) (fun _ _ _ h => h) (Or.inl ⟨by kernel_rfl, ?_⟩) hHeld ?_
                skip
                · intro wz hSw; (try dsimp only at hSw); go_simp; all_goals (try with_reducible rfl)
                (try simp only [List.getElem_toArray]); (try simp only [List.getElem_cons_succ]); (try simp only [List.getElem_cons_zero]); (try simp only [Act.put]); (try simp only [List.setIfInBounds_toArray]); (try simp only [List.set_cons_succ]); (try simp only [List.set_cons_zero])
                refine wpAnyH_take (i := 12) (v := (.bool false)) rfl (by kernel_rfl) (by kernel_rfl) (by kernel_rfl) (fun _ _ _ h => h) (Or.inl ⟨by kernel_rfl, ?_⟩) hHeld ?_
                skip
                · intro wz hSw; (try dsimp only at hSw); go_simp; all_goals (try with_reducible rfl)
                (try simp only [List.getElem_toArray]); (try simp only [List.getElem_cons_succ]); (try simp only [List.getElem_cons_zero]); (try simp only [Act.put]); (try simp only [List.setIfInBounds_toArray]); (try simp only [List.set_cons_succ]); (try simp only [List.set_cons_zero])
                refine wpAnyH_take (i := 13) (v := ?_) rfl (by kernel_rfl) (by kernel_rfl) (by kernel_rfl) (fun _ _ _ h => h) (Or.inl ⟨by kernel_rfl, ?_⟩) hHeld ?_
                rotate_left
                · intro wz hSw; (try dsimp only at hSw); go_simp; all_goals (try with_reducible rfl)
                (try simp only [List.getElem_toArray]); (try simp only [List.getElem_cons_succ]); (try simp only [List.getElem_cons_zero]); (try simp only [Act.put]); (try simp only [List.setIfInBounds_toArray]); (try simp only [List.set_cons_succ]); (try simp only [List.set_cons_zero])
                refine wpAnyH_take (i := 14) (v := ?_) rfl (by kernel_rfl) (by kernel_rfl) (by kernel_rfl) (fun _ _ _ h => h) (Or.inl ⟨by kernel_rfl, ?_⟩) hHeld ?_
                rotate_left
                · intro wz hSw; (try dsimp only at hSw); go_simp; all_goals (try with_reducible rfl)
                (try simp only [List.getElem_toArray]); (try simp only [List.getElem_cons_succ]); (try simp only [List.getElem_cons_zero]); (try simp only [Act.put]); (try simp only [List.setIfInBounds_toArray]); (try simp only [List.set_cons_succ]); (try simp only [List.set_cons_zero])
                refine wpAnyH_take (i := 15) (v := (.bool false)) rfl (by kernel_rfl) (by kernel_rfl) (by kernel_rfl) (fun _ _ _ h => h) (Or.inl ⟨by kernel_rfl, ?_⟩) hHeld ?_
                skip
                · intro wz hSw; (try dsimp only at hSw); go_simp; all_goals (try with_reducible rfl); all_goals exact fun e1 e2 => he ⟨e1, e2⟩
                (try simp only [List.getElem_toArray]); (try simp only [List.getElem_cons_succ]); (try simp only [List.getElem_cons_zero]); (try simp only [Act.put]); (try simp only [List.setIfInBounds_toArray]); (try simp only [List.set_cons_succ]); (try simp only [List.set_cons_zero])
                refine wpAnyH_take (i := 16) (v := (.bool false)) rfl (by kernel_rfl) (by kernel_rfl) (by kernel_rfl) (fun _ _ _ h => h) (Or.inl ⟨by kernel_rfl, ?_⟩) hHeld ?_
                skip
                · intro wz hSw; (try dsimp only at hSw); go_simp; all_goals (try with_reducible rfl)
                (try simp only [List.getElem_toArray]); (try simp only [List.getElem_cons_succ]); (try simp only [List.getElem_cons_zero]); (try simp only [Act.put]); (try simp only [List.setIfInBounds_toArray]); (try simp only [List.set_cons_succ]); (try simp only [List.set_cons_zero])
                refine wpAnyH_take (i := 17) (v := undef) rfl (by kernel_rfl) (by kernel_rfl) (by kernel_rfl) (fun _ _ _ h => h) (Or.inr ⟨by kernel_rfl, rfl⟩) hHeld ?_
                (try simp only [List.getElem_toArray]); (try simp only [List.getElem_cons_succ]); (try simp only [List.getElem_cons_zero]); (try simp only [Act.put]); (try simp only [List.setIfInBounds_toArray]); (try simp only [List.set_cons_succ]); (try simp only [List.set_cons_zero])
                refine wpAnyH_take (i := 18) (v := undef) rfl (by kernel_rfl) (by kernel_rfl) (by kernel_rfl) (fun _ _ _ h => h) (Or.inr ⟨by kernel_rfl, rfl⟩) hHeld ?_
                (try simp only [List.getElem_toArray]); (try simp only [List.getElem_cons_succ]); (try simp only [List.getElem_cons_zero]); (try simp only [Act.put]); (try simp only [List.setIfInBounds_toArray]); (try simp only [List.set_cons_succ]); (try simp only [List.set_cons_zero])
                refine wpAnyH_take (i := 19) (v := undef) rfl (by kernel_rfl) (by kernel_rfl) (by kernel_rfl) (fun _ _ _ h => h) (Or.inr ⟨by kernel_rfl, rfl⟩) hHeld ?_
                (try simp only [List.getElem_toArray]); (try simp only [List.getElem_cons_succ]); (try simp only [List.getElem_cons_zero]); (try simp only [Act.put]); (try simp only [List.setIfInBounds_toArray]); (try simp only [List.set_cons_succ]); (try simp only [List.set_cons_zero])
                refine wpAnyH_take (i := 20) (v := ?_) rfl (by kernel_rfl) (by kernel_rfl) (by kernel_rfl) (fun _ _ _ h => h) (Or.inl ⟨by kernel_rfl, ?_⟩) hHeld ?_
                rotate_left
                · intro wz hSw; (try dsimp only at hSw); go_simp; all_goals (try with_reducible rfl)
                (try simp only [List.getElem_toArray]); (try simp only [List.getElem_cons_succ]); (try simp only [List.getElem_cons_zero]); (try simp only [Act.put]); (try simp only [List.setIfInBounds_toArray]); (try simp only [List.set_cons_succ]); (try simp only [List.set_cons_zero])
                refine wpAnyH_take (i := 21) (v := (.bool false)) rfl (by kernel_rfl) (by kernel_rfl) (by kernel_rfl) (fun _ _ _ h => h) (Or.inl ⟨by kernel_rfl, ?_⟩) hHeld ?_
                skip
                · intro wz hSw; (try dsimp only at hSw); go_simp; all_goals (try with_reducible rfl)
                (try simp only [List.getElem_toArray]); (try simp only [List.getElem_cons_succ]); (try simp only [List.getElem_cons_zero]); (try simp only [Act.put]); (try simp only [List.setIfInBounds_toArray]); (try simp only [List.set_cons_succ]); (try simp only [List.set_cons_zero])
                refine wpAnyH_done (by kernel_rfl) ?_ _
                refine NoPanic.normal ?_
                go_wp2_with fail
                go_meet
                case rel => exact ⟨rfl, B, k0, k1, k2, k3⟩
              · have hy : lessB c d a b = false := by rw [hfl, hx]; rfl
                refine wp_region_noPanic ?_
                refine wp_region_held_drew (S := (fun w' => w'.cell? ⟨A, 0, none⟩ = some (.int .i64 a) ∧ w'.cell? ⟨A, 1, none⟩ = some (.int .i64 b) ∧ w'.cell? ⟨A + 1, 0, none⟩ = some (.int .i64 c) ∧ w'.cell? ⟨A + 1, 1, none⟩ = some (.int .i64 d))) (by kernel_rfl) ?_ (fun hHeld => ?_)
                · (try dsimp only)
                  refine ⟨?_, ?_, ?_, ?_⟩ <;> (repeat (with_reducible (first | refine cell_dr ?_ | refine cell_al _ ?_ | exact k0 | exact k1 | exact k2 | exact k3)))
                refine wpAnyH_take (i := 0) (v := ?_) rfl (by kernel_rfl) (by kernel_rfl) (by kernel_rfl) (fun _ _ _ h => h) (Or.inl ⟨by kernel_rfl, ?_⟩) hHeld ?_
                rotate_left
                · intro wz hSw; (try dsimp only at hSw); go_simp; all_goals (try with_reducible rfl)
                (try simp only [List.getElem_toArray]); (try simp only [List.getElem_cons_succ]); (try simp only [List.getElem_cons_zero]); (try simp only [Act.put]); (try simp only [List.setIfInBounds_toArray]); (try simp only [List.set_cons_succ]); (try simp only [List.set_cons_zero])
                refine wpAnyH_take (i := 1) (v := ?_) rfl (by kernel_rfl) (by kernel_rfl) (by kernel_rfl) (fun _ _ _ h => h) (Or.inl ⟨by kernel_rfl, ?_⟩) hHeld ?_
                rotate_left
                · intro wz hSw; (try dsimp only at hSw); go_simp; all_goals (try with_reducible rfl)
                (try simp only [List.getElem_toArray]); (try simp only [List.getElem_cons_succ]); (try simp only [List.getElem_cons_zero]); (try simp only [Act.put]); (try simp only [List.setIfInBounds_toArray]); (try simp only [List.set_cons_succ]); (try simp only [List.set_cons_zero])
                refine wpAnyH_take (i := 2) (v := (.bool true)) rfl (by kernel_rfl) (by kernel_rfl) (by kernel_rfl) (fun _ _ _ h => h) (Or.inl ⟨by kernel_rfl, ?_⟩) hHeld ?_
                skip
                · intro wz hSw; (try dsimp only at hSw); go_simp; all_goals (try with_reducible rfl); all_goals exact fun e1 e2 => he ⟨e1, e2⟩
                (try simp only [List.getElem_toArray]); (try simp only [List.getElem_cons_succ]); (try simp only [List.getElem_cons_zero]); (try simp only [Act.put]); (try simp only [List.setIfInBounds_toArray]); (try simp only [List.set_cons_succ]); (try simp only [List.set_cons_zero])
                refine wpAnyH_take (i := 3) (v := (.bool true)) rfl (by kernel_rfl) (by kernel_rfl) (by kernel_rfl) (fun _ _ _ h => h) (Or.inl ⟨by kernel_rfl, ?_⟩) hHeld ?_
                skip
                · intro wz hSw; (try dsimp only at hSw); go_simp; all_goals (try with_reducible rfl)
                (try simp only [List.getElem_toArray]); (try simp only [List.getElem_cons_succ]); (try simp only [List.getElem_cons_zero]); (try simp only [Act.put]); (try simp only [List.setIfInBounds_toArray]); (try simp only [List.set_cons_succ]); (try simp only [List.set_cons_zero])
                refine wpAnyH_take (i := 4) (v := ?_) rfl (by kernel_rfl) (by kernel_rfl) (by kernel_rfl) (fun _ _ _ h => h) (Or.inl ⟨by kernel_rfl, ?_⟩) hHeld ?_
                rotate_left
                · intro wz hSw; (try dsimp only at hSw); go_simp; all_goals (try with_reducible rfl)
                (try simp only [List.getElem_toArray]); (try simp only [List.getElem_cons_succ]); (try simp only [List.getElem_cons_zero]); (try simp only [Act.put]); (try simp only [List.setIfInBounds_toArray]); (try simp only [List.set_cons_succ]); (try simp only [List.set_cons_zero])
                refine wpAnyH_take (i := 5) (v := ?_) rfl (by kernel_rfl) (by kernel_rfl) (by kernel_rfl) (fun _ _ _ h => h) (Or.inl ⟨by kernel_rfl, ?_⟩) hHeld ?_
                rotate_left
                · intro wz hSw; (try dsimp only at hSw); go_simp; all_goals (try with_reducible rfl)
                (try simp only [List.getElem_toArray]); (try simp only [List.getElem_cons_succ]); (try simp only [List.getElem_cons_zero]); (try simp only [Act.put]); (try simp only [List.setIfInBounds_toArray]); (try simp only [List.set_cons_succ]); (try simp only [List.set_cons_zero])
                refine wpAnyH_take (i := 7) (v := ?_) rfl (by kernel_rfl) (by kernel_rfl) (by kernel_rfl) (fun _ _ _ h => h) (Or.inl ⟨by kernel_rfl, ?_⟩) hHeld ?_
                rotate_left
                · intro wz hSw; (try dsimp only at hSw); go_simp; all_goals (try with_reducible rfl)
                (try simp only [List.getElem_toArray]); (try simp only [List.getElem_cons_succ]); (try simp only [List.getElem_cons_zero]); (try simp only [Act.put]); (try simp only [List.setIfInBounds_toArray]); (try simp only [List.set_cons_succ]); (try simp only [List.set_cons_zero])
                refine wpAnyH_take (i := 8) (v := ?_) rfl (by kernel_rfl) (by kernel_rfl) (by kernel_rfl) (fun _ _ _ h => h) (Or.inl ⟨by kernel_rfl, ?_⟩) hHeld ?_
                rotate_left
                · intro wz hSw; (try dsimp only at hSw); go_simp; all_goals (try with_reducible rfl)
                (try simp only [List.getElem_toArray]); (try simp only [List.getElem_cons_succ]); (try simp only [List.getElem_cons_zero]); (try simp only [Act.put]); (try simp only [List.setIfInBounds_toArray]); (try simp only [List.set_cons_succ]); (try simp only [List.set_cons_zero])
                refine wpAnyH_ready (rs := [6]) (by kernel_rfl) (by simp) (AllReadyH.cons rfl (fun K hK => ?_) AllReadyH.nil)
                go_simp
                (go_at_call 24; refine (iLess_is hx _).mono ?_; rintro e wN ⟨rfl, hbN⟩; replace k0 : wN.cell? ⟨A, 0, none⟩ = some (.int .i64 a) := (by first | exact cell_later hbN k0 | exact cell_later hbN (cell_dr k0)); replace k1 : wN.cell? ⟨A, 1, none⟩ = some (.int .i64 b) := (by first | exact cell_later hbN k1 | exact cell_later hbN (cell_dr k1)); replace k2 : wN.cell? ⟨A + 1, 0, none⟩ = some (.int .i64 c) := (by first | exact cell_later hbN k2 | exact cell_later hbN (cell_dr k2)); replace k3 : wN.cell? ⟨A + 1, 1, none⟩ = some (.int .i64 d) := (by first | exact cell_later hbN k3 | exact cell_later hbN (cell_dr k3)); replace B : Below w.heap.size w wN := (by first | exact Below.trans B (hbN.mono B.size) | exact Below.trans B.drew (hbN.mono B.drew.size)); clear hbN)
                go_wp2_with fail
                refine hK.out _ _ ?_ (fun hHeld => ?_)
                · (try dsimp only)
                  refine ⟨?_, ?_, ?_, ?_⟩ <;> (repeat (with_reducible (first | refine cell_dr ?_ | refine cell_al _ ?_ | exact k0 | exact k1 | exact k2 | exact k3)))
                clear hK K
                (try simp only [List.getElem_toArray]); (try simp only [List.getElem_cons_succ]); (try simp only [List.getElem_cons_zero]); (try simp only [Act.put]); (try simp only [List.setIfInBounds_toArray]); (try simp only [List.set_cons_succ]); (try simp only [List.set_cons_zero])
                refine wpAnyH_ready (rs := [9]) (by kernel_rfl) (by simp) (AllReadyH.cons rfl (fun K hK => ?_) AllReadyH.nil)
                go_simp
                (go_at_call 24; refine (iLess_is hy _).mono ?_; rintro e wN ⟨rfl, hbN⟩; replace k0 : wN.cell? ⟨A, 0, none⟩ = some (.int .i64 a) := (by first | exact cell_later hbN k0 | exact cell_later hbN (cell_dr k0)); replace k1 : wN.cell? ⟨A, 1, none⟩ = some (.int .i64 b) := (by first | exact cell_later hbN k1 | exact cell_later hbN (cell_dr k1)); replace k2 : wN.cell? ⟨A + 1, 0, none⟩ = some (.int .i64 c) := (by first | exact cell_later hbN k2 | exact cell_later hbN (cell_dr k2)); replace k3 : wN.cell? ⟨A + 1, 1, none⟩ = some (.int .i64 d) := (by first | exact cell_later hbN k3 | exact cell_later hbN (cell_dr k3)); replace B : Below w.heap.size w wN := (by first | exact Below.trans B (hbN.mono B.size) | exact Below.trans B.drew (hbN.mono B.drew.size)); clear hbN)
                go_wp2_with fail
                refine hK.out _ _ ?_ (fun hHeld => ?_)
                · (try dsimp only)
                  refine ⟨?_, ?_, ?_, ?_⟩ <;> (repeat (with_reducible (first | refine cell_dr ?_ | refine cell_al _ ?_ | exact k0 | exact k1 | exact k2 | exact k3)))
                clear hK K
                (try simp only [List.getElem_toArray]); (try simp only [List.getElem_cons_succ]); (try simp only [List.getElem_cons_zero]); (try simp only [Act.put]); (try simp only [List.setIfInBounds_toArray]); (try simp only [List.set_cons_succ]); (try simp only [List.set_cons_zero])
                refine wpAnyH_take (i := 10) (v := (.bool false)) rfl (by kernel_rfl) (by kernel_rfl) (by kernel_rfl) (fun _ _ _ h => h) (Or.inl ⟨by kernel_rfl, ?_⟩) hHeld ?_
                skip
                · intro wz hSw; (try dsimp only at hSw); go_simp; all_goals (try with_reducible rfl)
                (try simp only [List.getElem_toArray]); (try simp only [List.getElem_cons_succ]); (try simp only [List.getElem_cons_zero]); (try simp only [Act.put]); (try simp only [List.setIfInBounds_toArray]); (try simp only [List.set_cons_succ]); (try simp only [List.set_cons_zero])
                refine wpAnyH_take (i := 11) (v := (.bool false)) rfl (by kernel_rfl) (by kernel_rfl) (by kernel_rfl) (fun _ _ _ h => h) (Or.inl ⟨by kernel_rfl, ?_⟩) hHeld ?_
                skip
                · intro wz hSw; (try dsimp only at hSw); go_simp; all_goals (try with_reducible rfl)
                (try simp only [List.getElem_toArray]); (try simp only [List.getElem_cons_succ]); (try simp only [List.getElem_cons_zero]); (try simp only [Act.put]); (try simp only [List.setIfInBounds_toArray]); (try simp only [List.set_cons_succ]); (try simp only [List.set_cons_zero])
                refine wpAnyH_take (i := 12) (v := (.bool false)) rfl (by kernel_rfl) (by kernel_rfl) (by kernel_rfl) (fun _ _ _ h => h) (Or.inl ⟨by kernel_rfl, ?_⟩) hHeld ?_
                skip
                · intro wz hSw; (try dsimp only at hSw); go_simp; all_goals (try with_reducible rfl)
                (try simp only [List.getElem_toArray]); (try simp only [List.getElem_cons_succ]); (try simp only [List.getElem_cons_zero]); (try simp only [Act.put]); (try simp only [List.setIfInBounds_toArray]); (try simp only [List.set_cons_succ]); (try simp only [List.set_cons_zero])
                refine wpAnyH_take (i := 13) (v := ?_) rfl (by kernel_rfl) (by kernel_rfl) (by kernel_rfl) (fun _ _ _ h => h) (Or.inl ⟨by kernel_rfl, ?_⟩) hHeld ?_
                rotate_left
                · intro wz hSw; (try dsimp only at hSw); go_simp; all_goals (try with_reducible rfl)
                (try simp only [List.getElem_toArray]); (try simp only [List.getElem_cons_succ]); (try simp only [List.getElem_cons_zero]); (try simp only [Act.put]); (try simp only [List.setIfInBounds_toArray]); (try simp only [List.set_cons_succ]); (try simp only [List.set_cons_zero])
                refine wpAnyH_take (i := 14) (v := ?_) rfl (by kernel_rfl) (by kernel_rfl) (by kernel_rfl) (fun _ _ _ h => h) (Or.inl ⟨by kernel_rfl, ?_⟩) hHeld ?_
                rotate_left
                · intro wz hSw; (try dsimp only at hSw); go_simp; all_goals (try with_reducible rfl)
                (try simp only [List.getElem_toArray]); (try simp only [List.getElem_cons_succ]); (try simp only [List.getElem_cons_zero]); (try simp only [Act.put]); (try simp only [List.setIfInBounds_toArray]); (try simp only [List.set_cons_succ]); (try simp only [List.set_cons_zero])
                refine wpAnyH_take (i := 15) (v := (.bool false)) rfl (by kernel_rfl) (by kernel_rfl) (by kernel_rfl) (fun _ _ _ h => h) (Or.inl ⟨by kernel_rfl, ?_⟩) hHeld ?_
                skip
                · intro wz hSw; (try dsimp only at hSw); go_simp; all_goals (try with_reducible rfl); all_goals exact fun e1 e2 => he ⟨e1, e2⟩
                (try simp only [List.getElem_toArray]); (try simp only [List.getElem_cons_succ]); (try simp only [List.getElem_cons_zero]); (try simp only [Act.put]); (try simp only [List.setIfInBounds_toArray]); (try simp only [List.set_cons_succ]); (try simp only [List.set_cons_zero])
                refine wpAnyH_take (i := 16) (v := (.bool false)) rfl (by kernel_rfl) (by kernel_rfl) (by kernel_rfl) (fun _ _ _ h => h) (Or.inl ⟨by kernel_rfl, ?_⟩) hHeld ?_
                skip
                · intro wz hSw; (try dsimp only at hSw); go_simp; all_goals (try with_reducible rfl)
                (try simp only [List.getElem_toArray]); (try simp only [List.getElem_cons_succ]); (try simp only [List.getElem_cons_zero]); (try simp only [Act.put]); (try simp only [List.setIfInBounds_toArray]); (try simp only [List.set_cons_succ]); (try simp only [List.set_cons_zero])
                refine wpAnyH_take (i := 17) (v := undef) rfl (by kernel_rfl) (by kernel_rfl) (by kernel_rfl) (fun _ _ _ h => h) (Or.inr ⟨by kernel_rfl, rfl⟩) hHeld ?_
                (try simp only [List.getElem_toArray]); (try simp only [List.getElem_cons_succ]); (try simp only [List.getElem_cons_zero]); (try simp only [Act.put]); (try simp only [List.setIfInBounds_toArray]); (try simp only [List.set_cons_succ]); (try simp only [List.set_cons_zero])
                refine wpAnyH_take (i := 18) (v := undef) rfl (by kernel_rfl) (by kernel_rfl) (by kernel_rfl) (fun _ _ _ h => h) (Or.inr ⟨by kernel_rfl, rfl⟩) hHeld ?_
                (try simp only [List.getElem_toArray]); (try simp only [List.getElem_cons_succ]); (try simp only [List.getElem_cons_zero]); (try simp only [Act.put]); (try simp only [List.setIfInBounds_toArray]); (try simp only [List.set_cons_succ]); (try simp only [List.set_cons_zero])
                refine wpAnyH_take (i := 19) (v := undef) rfl (by kernel_rfl) (by kernel_rfl) (by kernel_rfl) (fun _ _ _ h => h) (Or.inr ⟨by kernel_rfl, rfl⟩) hHeld ?_
                (try simp only [List.getElem_toArray]); (try simp only [List.getElem_cons_succ]); (try simp only [List.getElem_cons_zero]); (try simp only [Act.put]); (try simp only [List.setIfInBounds_toArray]); (try simp only [List.set_cons_succ]); (try simp only [List.set_cons_zero])
                refine wpAnyH_take (i := 20) (v := ?_) rfl (by kernel_rfl) (by kernel_rfl) (by kernel_rfl) (fun _ _ _ h => h) (Or.inl ⟨by kernel_rfl, ?_⟩) hHeld ?_
                rotate_left
                · intro wz hSw; (try dsimp only at hSw); go_simp; all_goals (try with_reducible rfl)
                (try simp only [List.getElem_toArray]); (try simp only [List.getElem_cons_succ]); (try simp only [List.getElem_cons_zero]); (try simp only [Act.put]); (try simp only [List.setIfInBounds_toArray]); (try simp only [List.set_cons_succ]); (try simp only [List.set_cons_zero])
                refine wpAnyH_take (i := 21) (v := (.bool false)) rfl (by kernel_rfl) (by kernel_rfl) (by kernel_rfl) (fun _ _ _ h => h) (Or.inl ⟨by kernel_rfl, ?_⟩) hHeld ?_
                skip
                · intro wz hSw; (try dsimp only at hSw); go_simp; all_goals (try with_reducible rfl)
                (try simp only [List.getElem_toArray]); (try simp only [List.getElem_cons_succ]); (try simp only [List.getElem_cons_zero]); (try simp only [Act.put]); (try simp only [List.setIfInBounds_toArray]); (try simp only [List.set_cons_succ]); (try simp only [List.set_cons_zero])
                refine wpAnyH_done (by kernel_rfl) ?_ _
                refine NoPanic.normal ?_
                go_wp2_with fail
                go_meet
                case rel => exact ⟨rfl, B, k0, k1, k2, k3⟩
          case rest =>
            obtain ⟨rfl, hcB, k0, k1, k2, k3⟩ := hcut
            have B := hcB.out
            clear hcB
            go_wp2_with fail
            refine (part_any a0 len cap zs _ _ (HR.out.below B) hlen (by omega) (by omega)).mono ?_
            rintro e w5 ⟨p, q, rfl, hpq, _, _, hq0, _, hB5⟩
            replace B := B.trans (hB5.mono B.size)
            replace k0 := cell_later hB5 k0; replace k1 := cell_later hB5 k1; replace k2 := cell_later hB5 k2; replace k3 := cell_later hB5 k3
            clear hB5
            have hlt1 := lt_cell k0
            have hlt2 := lt_cell k2
            go_wp2_with fail
            refine (sAdd_yes (two_yes h1 hpq) _).mono ?_
            rintro e w6 ⟨rfl, hB6⟩
            obtain ⟨G, hG⟩ : ∃ G, G = w5.heap.size := ⟨_, rfl⟩
            have g0 : w6.cell? ⟨G, 0, none⟩ = some (.int .i64 p) := by rw [hG]; refine cell_later hB6 ?_; simp [go_sem]
            have g1 : w6.cell? ⟨G, 1, none⟩ = some (.int .i64 q) := by rw [hG]; refine cell_later hB6 ?_; simp [go_sem]
            replace k0 := cell_later hB6 (cell_al _ k0); replace k1 := cell_later hB6 (cell_al _ k1); replace k2 := cell_later hB6 (cell_al _ k2); replace k3 := cell_later hB6 (cell_al _ k3)
            replace B : Below w.heap.size w w6 := (B.trans ((below_alN _ (Below.refl _ _)).mono B.size)).trans (hB6.mono (by have := B.size; simp <;> omega))
            rw [← hG]
            clear hB6 hG hlt1 hlt2
            have hlt1 := lt_cell k0
            have hlt2 := lt_cell k2
            have hlt3 := lt_cell g0
            go_wp2_with fail
            refine (sAdd_yes (two_yes h2 hpq) _).mono ?_
            rintro e w7 ⟨rfl, hB7⟩
            obtain ⟨X, hX⟩ : ∃ X, X = w6.heap.size := ⟨_, rfl⟩
            have x0 : w7.cell? ⟨X, 0, none⟩ = some (.int .i64 (redN (a * q + p * b) (b * q))) := by rw [hX]; refine cell_later hB7 ?_; simp [go_sem]
            have x1 : w7.cell? ⟨X, 1, none⟩ = some (.int .i64 (redD (a * q + p * b) (b * q))) := by rw [hX]; refine cell_later hB7 ?_; simp [go_sem]
            replace k0 := cell_later hB7 (cell_al _ k0); replace k1 := cell_later hB7 (cell_al _ k1); replace k2 := cell_later hB7 (cell_al _ k2); replace k3 := cell_later hB7 (cell_al _ k3)
            replace B : Below w.heap.size w w7 := (B.trans ((below_alN _ (Below.refl _ _)).mono B.size)).trans (hB7.mono (by have := B.size; simp <;> omega))
            rw [← hX]
            clear hB7 hX g0 g1 hlt1 hlt2 hlt3
            go_upto_region 17 with fail
            obtain ⟨W, hW⟩ : ∃ W, W = w7.alloc (.cells #[.int .i64 (redN (c * q + p * d) (d * q)), .int .i64 (redD (c * q + p * d) (d * q))] 25) := ⟨_, rfl⟩
            have hBW : Below w7.heap.size w7 W := by rw [hW]; exact below_alN _ (Below.refl _ _)
            obtain ⟨Y, hY⟩ : ∃ Y, Y = w7.heap.size := ⟨_, rfl⟩
            have k4 := cell_later hBW x0
            have k5 := cell_later hBW x1
            replace k0 := cell_later hBW k0; replace k1 := cell_later hBW k1; replace k2 := cell_later hBW k2; replace k3 := cell_later hBW k3
            have k6 : W.cell? ⟨Y, 0, none⟩ = some (.int .i64 (redN (c * q + p * d) (d * q))) := by rw [hW, hY]; simp [go_sem]
            have k7 : W.cell? ⟨Y, 1, none⟩ = some (.int .i64 (redD (c * q + p * d) (d * q))) := by rw [hW, hY]; simp [go_sem]
            replace B := B.trans (hBW.mono B.size)
            rw [← hW, ← hY]
            clear hW hBW hY x0 x1
            cases o1 : redOk (a * q + p * b) (b * q)
            · skip
              refine wp_region_noPanic ?_
              refine wp_region_held_drew (S := (fun w' => w'.cell? ⟨A, 0, none⟩ = some (.int .i64 a) ∧ w'.cell? ⟨A, 1, none⟩ = some (.int .i64 b) ∧ w'.cell? ⟨A + 1, 0, none⟩ = some (.int .i64 c) ∧ w'.cell? ⟨A + 1, 1, none⟩ = some (.int .i64 d) ∧ w'.cell? ⟨X, 0, none⟩ = some (.int .i64 (redN (a * q + p * b) (b * q))) ∧ w'.cell? ⟨X, 1, none⟩ = some (.int .i64 (redD (a * q + p * b) (b * q))) ∧ w'.cell? ⟨Y, 0, none⟩ = some (.int .i64 (redN (c * q + p * d) (d * q))) ∧ w'.cell? ⟨Y, 1, none⟩ = some (.int .i64 (redD (c * q + p * d) (d * q))))) (by kernel_rfl) ?_ (fun hHeld => ?_)
              · (try dsimp only)
                refine ⟨?_, ?_, ?_, ?_, ?_, ?_, ?_, ?_⟩ <;> (repeat (with_reducible (first | refine cell_dr ?_ | refine cell_al _ ?_ | exact k0 | exact k1 | exact k2 | exact k3 | exact k4 | exact k5 | exact k6 | exact k7)))
              refine wpAnyH_take (i := 0) (v := ?_) rfl (by kernel_rfl) (by kernel_rfl) (by kernel_rfl) (fun _ _ _ h => h) (Or.inl ⟨by kernel_rfl, ?_⟩) hHeld ?_
              rotate_left
              · intro wz hSw; (try dsimp only at hSw); go_simp; all_goals (try with_reducible rfl)
              (try simp only [List.getElem_toArray]); (try simp only [List.getElem_cons_succ]); (try simp only [List.getElem_cons_zero]); (try simp only [Act.put]); (try simp only [List.setIfInBounds_toArray]); (try simp only [List.set_cons_succ]); (try simp only [List.set_cons_zero])
              refine wpAnyH_take (i := 1) (v := (.bool true)) rfl (by kernel_rfl) (by kernel_rfl) (by kernel_rfl) (fun _ _ _ h => h) (Or.inl ⟨by kernel_rfl, ?_⟩) hHeld ?_
              skip
              · intro wz hSw; (try dsimp only at hSw); go_simp; all_goals (try with_reducible rfl)
              (try simp only [List.getElem_toArray]); (try simp only [List.getElem_cons_succ]); (try simp only [List.getElem_cons_zero]); (try simp only [Act.put]); (try simp only [List.setIfInBounds_toArray]); (try simp only [List.set_cons_succ]); (try simp only [List.set_cons_zero])
              refine wpAnyH_take (i := 2) (v := (.bool true)) rfl (by kernel_rfl) (by kernel_rfl) (by kernel_rfl) (fun _ _ _ h => h) (Or.inl ⟨by kernel_rfl, ?_⟩) hHeld ?_
              skip
              · intro wz hSw; (try dsimp only at hSw); go_simp; all_goals (try with_reducible rfl)
              (try simp only [List.getElem_toArray]); (try simp only [List.getElem_cons_succ]); (try simp only [List.getElem_cons_zero]); (try simp only [Act.put]); (try simp only [List.setIfInBounds_toArray]); (try simp only [List.set_cons_succ]); (try simp only [List.set_cons_zero])
              refine wpAnyH_take (i := 3) (v := undef) rfl (by kernel_rfl) (by kernel_rfl) (by kernel_rfl) (fun _ _ _ h => h) (Or.inr ⟨by kernel_rfl, rfl⟩) hHeld ?_
              (try simp only [List.getElem_toArray]); (try simp only [List.getElem_cons_succ]); (try simp only [List.getElem_cons_zero]); (try simp only [Act.put]); (try simp only [List.setIfInBounds_toArray]); (try simp only [List.set_cons_succ]); (try simp only [List.set_cons_zero])
              refine wpAnyH_take (i := 4) (v := undef) rfl (by kernel_rfl) (by kernel_rfl) (by kernel_rfl) (fun _ _ _ h => h) (Or.inr ⟨by kernel_rfl, rfl⟩) hHeld ?_
              (try simp only [List.getElem_toArray]); (try simp only [List.getElem_cons_succ]); (try simp only [List.getElem_cons_zero]); (try simp only [Act.put]); (try simp only [List.setIfInBounds_toArray]); (try simp only [List.set_cons_succ]); (try simp only [List.set_cons_zero])
              refine wpAnyH_take (i := 5) (v := (.bool true)) rfl (by kernel_rfl) (by kernel_rfl) (by kernel_rfl) (fun _ _ _ h => h) (Or.inl ⟨by kernel_rfl, ?_⟩) hHeld ?_
              skip
              · intro wz hSw; (try dsimp only at hSw); go_simp; all_goals (try with_reducible rfl)
              (try simp only [List.getElem_toArray]); (try simp only [List.getElem_cons_succ]); (try simp only [List.getElem_cons_zero]); (try simp only [Act.put]); (try simp only [List.setIfInBounds_toArray]); (try simp only [List.set_cons_succ]); (try simp only [List.set_cons_zero])
              refine wpAnyH_take (i := 6) (v := (.bool true)) rfl (by kernel_rfl) (by kernel_rfl) (by kernel_rfl) (fun _ _ _ h => h) (Or.inl ⟨by kernel_rfl, ?_⟩) hHeld ?_
              skip
              · intro wz hSw; (try dsimp only at hSw); go_simp; all_goals (try with_reducible rfl)
              (try simp only [List.getElem_toArray]); (try simp only [List.getElem_cons_succ]); (try simp only [List.getElem_cons_zero]); (try simp only [Act.put]); (try simp only [List.setIfInBounds_toArray]); (try simp only [List.set_cons_succ]); (try simp only [List.set_cons_zero])
              refine wpAnyH_take (i := 7) (v := undef) rfl (by kernel_rfl) (by kernel_rfl) (by kernel_rfl) (fun _ _ _ h => h) (Or.inr ⟨by kernel_rfl, rfl⟩) hHeld ?_
              (try simp only [List.getElem_toArray]); (try simp only [List.getElem_cons_succ]); (try simp only [List.getElem_cons_zero]); (try simp only [Act.put]); (try simp only [List.setIfInBounds_toArray]); (try simp only [List.set_cons_succ]); (try simp only [List.set_cons_zero])
              refine wpAnyH_take (i := 8) (v := undef) rfl (by kernel_rfl) (by kernel_rfl) (by kernel_rfl) (fun _ _ _ h => h) (Or.inr ⟨by kernel_rfl, rfl⟩) hHeld ?_
              (try simp only [List.getElem_toArray]); (try simp only [List.getElem_cons_succ]); (try simp only [List.getElem_cons_zero]); (try simp only [Act.put]); (try simp only [List.setIfInBounds_toArray]); (try simp only [List.set_cons_succ]); (try simp only [List.set_cons_zero])
              refine wpAnyH_take (i := 9) (v := undef) rfl (by kernel_rfl) (by kernel_rfl) (by kernel_rfl) (fun _ _ _ h => h) (Or.inr ⟨by kernel_rfl, rfl⟩) hHeld ?_
              (try simp only [List.getElem_toArray]); (try simp only [List.getElem_cons_succ]); (try simp only [List.getElem_cons_zero]); (try simp only [Act.put]); (try simp only [List.setIfInBounds_toArray]); (try simp only [List.set_cons_succ]); (try simp only [List.set_cons_zero])
              refine wpAnyH_take (i := 10) (v := undef) rfl (by kernel_rfl) (by kernel_rfl) (by kernel_rfl) (fun _ _ _ h => h) (Or.inr ⟨by kernel_rfl, rfl⟩) hHeld ?_
              (try simp only [List.getElem_toArray]); (try simp only [List.getElem_cons_succ]); (try simp only [List.getElem_cons_zero]); (try simp only [Act.put]); (try simp only [List.setIfInBounds_toArray]); (try simp only [List.set_cons_succ]); (try simp only [List.set_cons_zero])
              refine wpAnyH_take (i := 11) (v := undef) rfl (by kernel_rfl) (by kernel_rfl) (by kernel_rfl) (fun _ _ _ h => h) (Or.inr ⟨by kernel_rfl, rfl⟩) hHeld ?_
              (try simp only [List.getElem_toArray]); (try simp only [List.getElem_cons_succ]); (try simp only [List.getElem_cons_zero]); (try simp only [Act.put]); (try simp only [List.setIfInBounds_toArray]); (try simp only [List.set_cons_succ]); (try simp only [List.set_cons_zero])
              refine wpAnyH_take (i := 12) (v := undef) rfl (by kernel_rfl) (by kernel_rfl) (by kernel_rfl) (fun _ _ _ h => h) (Or.inr ⟨by kernel_rfl, rfl⟩) hHeld ?_
              (try simp only [List.getElem_toArray]); (try simp only [List.getElem_cons_succ]); (try simp only [List.getElem_cons_zero]); (try simp only [Act.put]); (try simp only [List.setIfInBounds_toArray]); (try simp only [List.set_cons_succ]); (try simp only [List.set_cons_zero])
              refine wpAnyH_take (i := 13) (v := undef) rfl (by kernel_rfl) (by kernel_rfl) (by kernel_rfl) (fun _ _ _ h => h) (Or.inr ⟨by kernel_rfl, rfl⟩) hHeld ?_
              (try simp only [List.getElem_toArray]); (try simp only [List.getElem_cons_succ]); (try simp only [List.getElem_cons_zero]); (try simp only [Act.put]); (try simp only [List.setIfInBounds_toArray]); (try simp only [List.set_cons_succ]); (try simp only [List.set_cons_zero])
              refine wpAnyH_take (i := 14) (v := (.bool true)) rfl (by kernel_rfl) (by kernel_rfl) (by kernel_rfl) (fun _ _ _ h => h) (Or.inl ⟨by kernel_rfl, ?_⟩) hHeld ?_
              skip
              · intro wz hSw; (try dsimp only at hSw); go_simp; all_goals (try with_reducible rfl)
              (try simp only [List.getElem_toArray]); (try simp only [List.getElem_cons_succ]); (try simp only [List.getElem_cons_zero]); (try simp only [Act.put]); (try simp only [List.setIfInBounds_toArray]); (try simp only [List.set_cons_succ]); (try simp only [List.set_cons_zero])
              refine wpAnyH_take (i := 15) (v := ?_) rfl (by kernel_rfl) (by kernel_rfl) (by kernel_rfl) (fun _ _ _ h => h) (Or.inl ⟨by kernel_rfl, ?_⟩) hHeld ?_
              rotate_left
              · intro wz hSw; (try dsimp only at hSw); go_simp; all_goals (try with_reducible rfl)
              (try simp only [List.getElem_toArray]); (try simp only [List.getElem_cons_succ]); (try simp only [List.getElem_cons_zero]); (try simp only [Act.put]); (try simp only [List.setIfInBounds_toArray]); (try simp only [List.set_cons_succ]); (try simp only [List.set_cons_zero])
              refine wpAnyH_done (by kernel_rfl) ?_ _
              refine NoPanic.normal ?_
              go_wp2
              go_ret
              first | exact ⟨rfl, B⟩ | exact ⟨rfl, B.drew⟩
            · cases o2 : redOk (c * q + p * d) (d * q)
              · skip
                refine wp_region_noPanic ?_
                refine wp_region_held_drew (S := (fun w' => w'.cell? ⟨A, 0, none⟩ = some (.int .i64 a) ∧ w'.cell? ⟨A, 1, none⟩ = some (.int .i64 b) ∧ w'.cell? ⟨A + 1, 0, none⟩ = some (.int .i64 c) ∧ w'.cell? ⟨A + 1, 1, none⟩ = some (.int .i64 d) ∧ w'.cell? ⟨X, 0, none⟩ = some (.int .i64 (redN (a * q + p * b) (b * q))) ∧ w'.cell? ⟨X, 1, none⟩ = some (.int .i64 (redD (a * q + p * b) (b * q))) ∧ w'.cell? ⟨Y, 0, none⟩ = some (.int .i64 (redN (c * q + p * d) (d * q))) ∧ w'.cell? ⟨Y, 1, none⟩ = some (.int .i64 (redD (c * q + p * d) (d * q))))) (by kernel_rfl) ?_ (fun hHeld => ?_)
                · (try dsimp only)
                  refine ⟨?_, ?_, ?_, ?_, ?_, ?_, ?_, ?_⟩ <;> (repeat (with_reducible (first | refine cell_dr ?_ | refine cell_al _ ?_ | exact k0 | exact k1 | exact k2 | exact k3 | exact k4 | exact k5 | exact k6 | exact k7)))
                refine wpAnyH_take (i := 0) (v := ?_) rfl (by kernel_rfl) (by kernel_rfl) (by kernel_rfl) (fun _ _ _ h => h) (Or.inl ⟨by kernel_rfl, ?_⟩) hHeld ?_
                rotate_left
                · intro wz hSw; (try dsimp only at hSw); go_simp; all_goals (try with_reducible rfl)
                (try simp only [List.getElem_toArray]); (try simp only [List.getElem_cons_succ]); (try simp only [List.getElem_cons_zero]); (try simp only [Act.put]); (try simp only [List.setIfInBounds_toArray]); (try simp only [List.set_cons_succ]); (try simp only [List.set_cons_zero])
                refine wpAnyH_take (i := 1) (v := (.bool false)) rfl (by kernel_rfl) (by kernel_rfl) (by kernel_rfl) (fun _ _ _ h => h) (Or.inl ⟨by kernel_rfl, ?_⟩) hHeld ?_
                skip
                · intro wz hSw; (try dsimp only at hSw); go_simp; all_goals (try with_reducible rfl)
                (try simp only [List.getElem_toArray]); (try simp only [List.getElem_cons_succ]); (try simp only [List.getElem_cons_zero]); (try simp only [Act.put]); (try simp only [List.setIfInBounds_toArray]); (try simp only [List.set_cons_succ]); (try simp only [List.set_cons_zero])
                refine wpAnyH_take (i := 2) (v := (.bool false)) rfl (by kernel_rfl) (by kernel_rfl) (by kernel_rfl) (fun _ _ _ h => h) (Or.inl ⟨by kernel_rfl, ?_⟩) hHeld ?_
                skip
                · intro wz hSw; (try dsimp only at hSw); go_simp; all_goals (try with_reducible rfl)
                (try simp only [List.getElem_toArray]); (try simp only [List.getElem_cons_succ]); (try simp only [List.getElem_cons_zero]); (try simp only [Act.put]); (try simp only [List.setIfInBounds_toArray]); (try simp only [List.set_cons_succ]); (try simp only [List.set_cons_zero])
                refine wpAnyH_take (i := 3) (v := ?_) rfl (by kernel_rfl) (by kernel_rfl) (by kernel_rfl) (fun _ _ _ h => h) (Or.inl ⟨by kernel_rfl, ?_⟩) hHeld ?_
                rotate_left
                · intro wz hSw; (try dsimp only at hSw); go_simp; all_goals (try with_reducible rfl)
                (try simp only [List.getElem_toArray]); (try simp only [List.getElem_cons_succ]); (try simp only [List.getElem_cons_zero]); (try simp only [Act.put]); (try simp only [List.setIfInBounds_toArray]); (try simp only [List.set_cons_succ]); (try simp only [List.set_cons_zero])
                refine wpAnyH_take (i := 4) (v := (.bool true)) rfl (by kernel_rfl) (by kernel_rfl) (by kernel_rfl) (fun _ _ _ h => h) (Or.inl ⟨by kernel_rfl, ?_⟩) hHeld ?_
                skip
                · intro wz hSw; (try dsimp only at hSw); go_simp; all_goals (try with_reducible rfl)
                (try simp only [List.getElem_toArray]); (try simp only [List.getElem_cons_succ]); (try simp only [List.getElem_cons_zero]); (try simp only [Act.put]); (try simp only [List.setIfInBounds_toArray]); (try simp only [List.set_cons_succ]); (try simp only [List.set_cons_zero])
                refine wpAnyH_take (i := 5) (v := (.bool true)) rfl (by kernel_rfl) (by kernel_rfl) (by kernel_rfl) (fun _ _ _ h => h) (Or.inl ⟨by kernel_rfl, ?_⟩) hHeld ?_
                skip
                · intro wz hSw; (try dsimp only at hSw); go_simp; all_goals (try with_reducible rfl)
                (try simp only [List.getElem_toArray]); (try simp only [List.getElem_cons_succ]); (try simp only [List.getElem_cons_zero]); (try simp only [Act.put]); (try simp only [List.setIfInBounds_toArray]); (try simp only [List.set_cons_succ]); (try simp only [List.set_cons_zero])
                refine wpAnyH_take (i := 6) (v := (.bool true)) rfl (by kernel_rfl) (by kernel_rfl) (by kernel_rfl) (fun _ _ _ h => h) (Or.inl ⟨by kernel_rfl, ?_⟩) hHeld ?_
                skip
                · intro wz hSw; (try dsimp only at hSw); go_simp; all_goals (try with_reducible rfl)
                (try simp only [List.getElem_toArray]); (try simp only [List.getElem_cons_succ]); (try simp only [List.getElem_cons_zero]); (try simp only [Act.put]); (try simp only [List.setIfInBounds_toArray]); (try simp only [List.set_cons_succ]); (try simp only [List.set_cons_zero])
                refine wpAnyH_take (i := 7) (v := undef) rfl (by kernel_rfl) (by kernel_rfl) (by kernel_rfl) (fun _ _ _ h => h) (Or.inr ⟨by kernel_rfl, rfl⟩) hHeld ?_
                (try simp only [List.getElem_toArray]); (try simp only [List.getElem_cons_succ]); (try simp only [List.getElem_cons_zero]); (try simp only [Act.put]); (try simp only [List.setIfInBounds_toArray]); (try simp only [List.set_cons_succ]); (try simp only [List.set_cons_zero])
                refine wpAnyH_take (i := 8) (v := undef) rfl (by kernel_rfl) (by kernel_rfl) (by kernel_rfl) (fun _ _ _ h => h) (Or.inr ⟨by kernel_rfl, rfl⟩) hHeld ?_
                (try simp only [List.getElem_toArray]); (try simp only [List.getElem_cons_succ]); (try simp only [List.getElem_cons_zero]); (try simp only [Act.put]); (try simp only [List.setIfInBounds_toArray]); (try simp only [List.set_cons_succ]); (try simp only [List.set_cons_zero])
                refine wpAnyH_take (i := 9) (v := undef) rfl (by kernel_rfl) (by kernel_rfl) (by kernel_rfl) (fun _ _ _ h => h) (Or.inr ⟨by kernel_rfl, rfl⟩) hHeld ?_
                (try simp only [List.getElem_toArray]); (try simp only [List.getElem_cons_succ]); (try simp only [List.getElem_cons_zero]); (try simp only [Act.put]); (try simp only [List.setIfInBounds_toArray]); (try simp only [List.set_cons_succ]); (try simp only [List.set_cons_zero])
                refine wpAnyH_take (i := 10) (v := undef) rfl (by kernel_rfl) (by kernel_rfl) (by kernel_rfl) (fun _ _ _ h => h) (Or.inr ⟨by kernel_rfl, rfl⟩) hHeld ?_
                (try simp only [List.getElem_toArray]); (try simp only [List.getElem_cons_succ]); (try simp only [List.getElem_cons_zero]); (try simp only [Act.put]); (try simp only [List.setIfInBounds_toArray]); (try simp only [List.set_cons_succ]); (try simp only [List.set_cons_zero])
                refine wpAnyH_take (i := 11) (v := undef) rfl (by kernel_rfl) (by kernel_rfl) (by kernel_rfl) (fun _ _ _ h => h) (Or.inr ⟨by kernel_rfl, rfl⟩) hHeld ?_
                (try simp only [List.getElem_toArray]); (try simp only [List.getElem_cons_succ]); (try simp only [List.getElem_cons_zero]); (try simp only [Act.put]); (try simp only [List.setIfInBounds_toArray]); (try simp only [List.set_cons_succ]); (try simp only [List.set_cons_zero])
                refine wpAnyH_take (i := 12) (v := undef) rfl (by kernel_rfl) (by kernel_rfl) (by kernel_rfl) (fun _ _ _ h => h) (Or.inr ⟨by kernel_rfl, rfl⟩) hHeld ?_
                (try simp only [List.getElem_toArray]); (try simp only [List.getElem_cons_succ]); (try simp only [List.getElem_cons_zero]); (try simp only [Act.put]); (try simp only [List.setIfInBounds_toArray]); (try simp only [List.set_cons_succ]); (try simp only [List.set_cons_zero])
                refine wpAnyH_take (i := 13) (v := undef) rfl (by kernel_rfl) (by kernel_rfl) (by kernel_rfl) (fun _ _ _ h => h) (Or.inr ⟨by kernel_rfl, rfl⟩) hHeld ?_
                (try simp only [List.getElem_toArray]); (try simp only [List.getElem_cons_succ]); (try simp only [List.getElem_cons_zero]); (try simp only [Act.put]); (try simp only [List.setIfInBounds_toArray]); (try simp only [List.set_cons_succ]); (try simp only [List.set_cons_zero])
                refine wpAnyH_take (i := 14) (v := (.bool true)) rfl (by kernel_rfl) (by kernel_rfl) (by kernel_rfl) (fun _ _ _ h => h) (Or.inl ⟨by kernel_rfl, ?_⟩) hHeld ?_
                skip
                · intro wz hSw; (try dsimp only at hSw); go_simp; all_goals (try with_reducible rfl)
                (try simp only [List.getElem_toArray]); (try simp only [List.getElem_cons_succ]); (try simp only [List.getElem_cons_zero]); (try simp only [Act.put]); (try simp only [List.setIfInBounds_toArray]); (try simp only [List.set_cons_succ]); (try simp only [List.set_cons_zero])
                refine wpAnyH_take (i := 15) (v := ?_) rfl (by kernel_rfl) (by kernel_rfl) (by kernel_rfl) (fun _ _ _ h => h) (Or.inl ⟨by kernel_rfl, ?_⟩) hHeld ?_
                rotate_left
                · intro wz hSw; (try dsimp only at hSw); go_simp; all_goals (try with_reducible rfl)
                (try simp only [List.getElem_toArray]); (try simp only [List.getElem_cons_succ]); (try simp only [List.getElem_cons_zero]); (try simp only [Act.put]); (try simp only [List.setIfInBounds_toArray]); (try simp only [List.set_cons_succ]); (try simp only [List.set_cons_zero])
                refine wpAnyH_done (by kernel_rfl) ?_ _
                refine NoPanic.normal ?_
                go_wp2
                go_ret
                first | exact ⟨rfl, B⟩ | exact ⟨rfl, B.drew⟩
              · have hal := add_less (by have := okB_out h1; omega) (by have := okB_out h2; omega) (by omega) h12 o1 o2
                cases hy : lessB a b c d
                · have hx := hal.trans hy
                  refine wp_region_noPanic ?_
                  refine wp_region_held_drew (S := (fun w' => w'.cell? ⟨A, 0, none⟩ = some (.int .i64 a) ∧ w'.cell? ⟨A, 1, none⟩ = some (.int .i64 b) ∧ w'.cell? ⟨A + 1, 0, none⟩ = some (.int .i64 c) ∧ w'.cell? ⟨A + 1, 1, none⟩ = some (.int .i64 d) ∧ w'.cell? ⟨X, 0, none⟩ = some (.int .i64 (redN (a * q + p * b) (b * q))) ∧ w'.cell? ⟨X, 1, none⟩ = some (.int .i64 (redD (a * q + p * b) (b * q))) ∧ w'.cell? ⟨Y, 0, none⟩ = some (.int .i64 (redN (c * q + p * d) (d * q))) ∧ w'.cell? ⟨Y, 1, none⟩ = some (.int .i64 (redD (c * q + p * d) (d * q))))) (by kernel_rfl) ?_ (fun hHeld => ?_)
                  · (try dsimp only)
                    refine ⟨?_, ?_, ?_, ?_, ?_, ?_, ?_, ?_⟩ <;> (repeat (with_reducible (first | refine cell_dr ?_ | refine cell_al _ ?_ | exact k0 | exact k1 | exact k2 | exact k3 | exact k4 | exact k5 | exact k6 | exact k7)))
                  refine wpAnyH_take (i := 0) (v := ?_) rfl (by kernel_rfl) (by kernel_rfl) (by kernel_rfl) (fun _ _ _ h => h) (Or.inl ⟨by kernel_rfl, ?_⟩) hHeld ?_
                  rotate_left
                  · intro wz hSw; (try dsimp only at hSw); go_simp; all_goals (try with_reducible rfl)
                  (try simp only [List.getElem_toArray]); (try simp only [List.getElem_cons_succ]); (try simp only [List.getElem_cons_zero]); (try simp only [Act.put]); (try simp only [List.setIfInBounds_toArray]); (try simp only [List.set_cons_succ]); (try simp only [List.set_cons_zero])
                  refine wpAnyH_take (i := 1) (v := (.bool false)) rfl (by kernel_rfl) (by kernel_rfl) (by kernel_rfl) (fun _ _ _ h => h) (Or.inl ⟨by kernel_rfl, ?_⟩) hHeld ?_
                  skip
                  · intro wz hSw; (try dsimp only at hSw); go_simp; all_goals (try with_reducible rfl)
                  (try simp only [List.getElem_toArray]); (try simp only [List.getElem_cons_succ]); (try simp only [List.getElem_cons_zero]); (try simp only [Act.put]); (try simp only [List.setIfInBounds_toArray]); (try simp only [List.set_cons_succ]); (try simp only [List.set_cons_zero])
                  refine wpAnyH_take (i := 2) (v := (.bool false)) rfl (by kernel_rfl) (by kernel_rfl) (by kernel_rfl) (fun _ _ _ h => h) (Or.inl ⟨by kernel_rfl, ?_⟩) hHeld ?_
                  skip
                  · intro wz hSw; (try dsimp only at hSw); go_simp; all_goals (try with_reducible rfl)
                  (try simp only [List.getElem_toArray]); (try simp only [List.getElem_cons_succ]); (try simp only [List.getElem_cons_zero]); (try simp only [Act.put]); (try simp only [List.setIfInBounds_toArray]); (try simp only [List.set_cons_succ]); (try simp only [List.set_cons_zero])
                  refine wpAnyH_take (i := 3) (v := ?_) rfl (by kernel_rfl) (by kernel_rfl) (by kernel_rfl) (fun _ _ _ h => h) (Or.inl ⟨by kernel_rfl, ?_⟩) hHeld ?_
                  rotate_left
                  · intro wz hSw; (try dsimp only at hSw); go_simp; all_goals (try with_reducible rfl)
                  (try simp only [List.getElem_toArray]); (try simp only [List.getElem_cons_succ]); (try simp only [List.getElem_cons_zero]); (try simp only [Act.put]); (try simp only [List.setIfInBounds_toArray]); (try simp only [List.set_cons_succ]); (try simp only [List.set_cons_zero])
                  refine wpAnyH_take (i := 4) (v := (.bool false)) rfl (by kernel_rfl) (by kernel_rfl) (by kernel_rfl) (fun _ _ _ h => h) (Or.inl ⟨by kernel_rfl, ?_⟩) hHeld ?_
                  skip
                  · intro wz hSw; (try dsimp only at hSw); go_simp; all_goals (try with_reducible rfl)
                  (try simp only [List.getElem_toArray]); (try simp only [List.getElem_cons_succ]); (try simp only [List.getElem_cons_zero]); (try simp only [Act.put]); (try simp only [List.setIfInBounds_toArray]); (try simp only [List.set_cons_succ]); (try simp only [List.set_cons_zero])
                  refine wpAnyH_take (i := 5) (v := (.bool false)) rfl (by kernel_rfl) (by kernel_rfl) (by kernel_rfl) (fun _ _ _ h => h) (Or.inl ⟨by kernel_rfl, ?_⟩) hHeld ?_
                  skip
                  · intro wz hSw; (try dsimp only at hSw); go_simp; all_goals (try with_reducible rfl)
                  (try simp only [List.getElem_toArray]); (try simp only [List.getElem_cons_succ]); (try simp only [List.getElem_cons_zero]); (try simp only [Act.put]); (try simp only [List.setIfInBounds_toArray]); (try simp only [List.set_cons_succ]); (try simp only [List.set_cons_zero])
                  refine wpAnyH_take (i := 6) (v := (.bool false)) rfl (by kernel_rfl) (by kernel_rfl) (by kernel_rfl) (fun _ _ _ h => h) (Or.inl ⟨by kernel_rfl, ?_⟩) hHeld ?_
                  skip
                  · intro wz hSw; (try dsimp only at hSw); go_simp; all_goals (try with_reducible rfl)
                  (try simp only [List.getElem_toArray]); (try simp only [List.getElem_cons_succ]); (try simp only [List.getElem_cons_zero]); (try simp only [Act.put]); (try simp only [List.setIfInBounds_toArray]); (try simp only [List.set_cons_succ]); (try simp only [List.set_cons_zero])
                  refine wpAnyH_take (i := 7) (v := ?_) rfl (by kernel_rfl) (by kernel_rfl) (by kernel_rfl) (fun _ _ _ h => h) (Or.inl ⟨by kernel_rfl, ?_⟩) hHeld ?_
                  rotate_left
                  · intro wz hSw; (try dsimp only at hSw); go_simp; all_goals (try with_reducible rfl)
                  (try simp only [List.getElem_toArray]); (try simp only [List.getElem_cons_succ]); (try simp only [List.getElem_cons_zero]); (try simp only [Act.put]); (try simp only [List.setIfInBounds_toArray]); (try simp only [List.set_cons_succ]); (try simp only [List.set_cons_zero])
                  refine wpAnyH_take (i := 8) (v := ?_) rfl (by kernel_rfl) (by kernel_rfl) (by kernel_rfl) (fun _ _ _ h => h) (Or.inl ⟨by kernel_rfl, ?_⟩) hHeld ?_
                  rotate_left
                  · intro wz hSw; (try dsimp only at hSw); go_simp; all_goals (try with_reducible rfl)
                  (try simp only [List.getElem_toArray]); (try simp only [List.getElem_cons_succ]); (try simp only [List.getElem_cons_zero]); (try simp only [Act.put]); (try simp only [List.setIfInBounds_toArray]); (try simp only [List.set_cons_succ]); (try simp only [List.set_cons_zero])
                  refine wpAnyH_take (i := 10) (v := ?_) rfl (by kernel_rfl) (by kernel_rfl) (by kernel_rfl) (fun _ _ _ h => h) (Or.inl ⟨by kernel_rfl, ?_⟩) hHeld ?_
                  rotate_left
                  · intro wz hSw; (try dsimp only at hSw); go_simp; all_goals (try with_reducible rfl)
                  (try simp only [List.getElem_toArray]); (try simp only [List.getElem_cons_succ]); (try simp only [List.getElem_cons_zero]); (try simp only [Act.put]); (try simp only [List.setIfInBounds_toArray]); (try simp only [List.set_cons_succ]); (try simp only [List.set_cons_zero])
                  refine wpAnyH_take (i := 11) (v := ?_) rfl (by kernel_rfl) (by kernel_rfl) (by kernel_rfl) (fun _ _ _ h => h) (Or.inl ⟨by kernel_rfl, ?_⟩) hHeld ?_
                  rotate_left
                  · intro wz hSw; (try dsimp only at hSw); go_simp; all_goals (try with_reducible rfl)
                  (try simp only [List.getElem_toArray]); (try simp only [List.getElem_cons_succ]); (try simp only [List.getElem_cons_zero]); (try simp only [Act.put]); (try simp only [List.setIfInBounds_toArray]); (try simp only [List.set_cons_succ]); (try simp only [List.set_cons_zero])
                  refine wpAnyH_ready (rs := [9]) (by kernel_rfl) (by simp) (AllReadyH.cons rfl (fun K hK => ?_) AllReadyH.nil)
                  go_simp
                  (go_at_call 24; refine (iLess_is hx _).mono ?_; rintro e wN ⟨rfl, hbN⟩; replace k0 : wN.cell? ⟨A, 0, none⟩ = some (.int .i64 a) := (by first | exact cell_later hbN k0 | exact cell_later hbN (cell_dr k0)); replace k1 : wN.cell? ⟨A, 1, none⟩ = some (.int .i64 b) := (by first | exact cell_later hbN k1 | exact cell_later hbN (cell_dr k1)); replace k2 : wN.cell? ⟨A + 1, 0, none⟩ = some (.int .i64 c) := (by first | exact cell_later hbN k2 | exact cell_later hbN (cell_dr k2)); replace k3 : wN.cell? ⟨A + 1, 1, none⟩ = some (.int .i64 d) := (by first | exact cell_later hbN k3 | exact cell_later hbN (cell_dr k3)); replace k4 : wN.cell? ⟨X, 0, none⟩ = some (.int .i64 (redN (a * q + p * b) (b * q))) := (by first | exact cell_later hbN k4 | exact cell_later hbN (cell_dr k4)); replace k5 : wN.cell? ⟨X, 1, none⟩ = some (.int .i64 (redD (a * q + p * b) (b * q))) := (by first | exact cell_later hbN k5 | exact cell_later hbN (cell_dr k5)); replace k6 : wN.cell? ⟨Y, 0, none⟩ = some (.int .i64 (redN (c * q + p * d) (d * q))) := (by first | exact cell_later hbN k6 | exact cell_later hbN (cell_dr k6)); replace k7 : wN.cell? ⟨Y, 1, none⟩ = some (.int .i64 (redD (c * q + p * d) (d * q))) := (by first | exact cell_later hbN k7 | exact cell_later hbN (cell_dr k7)); replace B : Below w.heap.size w wN := (by first | exact Below.trans B (hbN.mono B.size) | exact Below.trans B.drew (hbN.mono B.drew.size)); clear hbN)
                  go_wp2_with fail
                  refine hK.out _ _ ?_ (fun hHeld => ?_)
                  · (try dsimp only)
                    refine ⟨?_, ?_, ?_, ?_, ?_, ?_, ?_, ?_⟩ <;> (repeat (with_reducible (first | refine cell_dr ?_ | refine cell_al _ ?_ | exact k0 | exact k1 | exact k2 | exact k3 | exact k4 | exact k5 | exact k6 | exact k7)))
                  clear hK K
                  (try simp only [List.getElem_toArray]); (try simp only [List.getElem_cons_succ]); (try simp only [List.getElem_cons_zero]); (try simp only [Act.put]); (try simp only [List.setIfInBounds_toArray]); (try simp only [List.set_cons_succ]); (try simp only [List.set_cons_zero])
                  refine wpAnyH_ready (rs := [12]) (by kernel_rfl) (by simp) (AllReadyH.cons rfl (fun K hK => ?_) AllReadyH.nil)
                  go_simp
                  (go_at_call 24; refine (iLess_is hy _).mono ?_; rintro e wN ⟨rfl, hbN⟩; replace k0 : wN.cell? ⟨A, 0, none⟩ = some (.int .i64 a) := (by first | exact cell_later hbN k0 | exact cell_later hbN (cell_dr k0)); replace k1 : wN.cell? ⟨A, 1, none⟩ = some (.int .i64 b) := (by first | exact cell_later hbN k1 | exact cell_later hbN (cell_dr k1)); replace k2 : wN.cell? ⟨A + 1, 0, none⟩ = some (.int .i64 c) := (by first | exact cell_later hbN k2 | exact cell_later hbN (cell_dr k2)); replace k3 : wN.cell? ⟨A + 1, 1, none⟩ = some (.int .i64 d) := (by first | exact cell_later hbN k3 | exact cell_later hbN (cell_dr k3)); replace k4 : wN.cell? ⟨X, 0, none⟩ = some (.int .i64 (redN (a * q + p * b) (b * q))) := (by first | exact cell_later hbN k4 | exact cell_later hbN (cell_dr k4)); replace k5 : wN.cell? ⟨X, 1, none⟩ = some (.int .i64 (redD (a * q + p * b) (b * q))) := (by first | exact cell_later hbN k5 | exact cell_later hbN (cell_dr k5)); replace k6 : wN.cell? ⟨Y, 0, none⟩ = some (.int .i64 (redN (c * q + p * d) (d * q))) := (by first | exact cell_later hbN k6 | exact cell_later hbN (cell_dr k6)); replace k7 : wN.cell? ⟨Y, 1, none⟩ = some (.int .i64 (redD (c * q + p * d) (d * q))) := (by first | exact cell_later hbN k7 | exact cell_later hbN (cell_dr k7)); replace B : Below w.heap.size w wN := (by first | exact Below.trans B (hbN.mono B.size) | exact Below.trans B.drew (hbN.mono B.drew.size)); clear hbN)
                  go_wp2_with fail
                  refine hK.out _ _ ?_ (fun hHeld => ?_)
                  · (try dsimp only)
                    refine ⟨?_, ?_, ?_, ?_, ?_, ?_, ?_, ?_⟩ <;> (repeat (with_reducible (first | refine cell_dr ?_ | refine cell_al _ ?_ | exact k0 | exact k1 | exact k2 | exact k3 | exact k4 | exact k5 | exact k6 | exact k7)))
                  clear hK K
                  (try simp only [List.getElem_toArray]); (try simp only [List.getElem_cons_succ]); (try simp only [List.getElem_cons_zero]); (try simp only [Act.put]); (try simp only [List.setIfInBounds_toArray]); (try simp only [List.set_cons_succ]); (try simp only [List.set_cons_zero])
                  refine wpAnyH_take (i := 13) (v := (.bool true)) rfl (by kernel_rfl) (by kernel_rfl) (by kernel_rfl) (fun _ _ _ h => h) (Or.inl ⟨by kernel_rfl, ?_⟩) hHeld ?_
                  skip
                  · intro wz hSw; (try dsimp only at hSw); go_simp; all_goals (try with_reducible rfl)
                  (try simp only [List.getElem_toArray]); (try simp only [List.getElem_cons_succ]); (try simp only [List.getElem_cons_zero]); (try simp only [Act.put]); (try simp only [List.setIfInBounds_toArray]); (try simp only [List.set_cons_succ]); (try simp only [List.set_cons_zero])
                  refine wpAnyH_take (i := 14) (v := (.bool true)) rfl (by kernel_rfl) (by kernel_rfl) (by kernel_rfl) (fun _ _ _ h => h) (Or.inl ⟨by kernel_rfl, ?_⟩) hHeld ?_
                  skip
                  · intro wz hSw; (try dsimp only at hSw); go_simp; all_goals (try with_reducible rfl)
                  (try simp only [List.getElem_toArray]); (try simp only [List.getElem_cons_succ]); (try simp only [List.getElem_cons_zero]); (try simp only [Act.put]); (try simp only [List.setIfInBounds_toArray]); (try simp only [List.set_cons_succ]); (try simp only [List.set_cons_zero])
                  refine wpAnyH_take (i := 15) (v := ?_) rfl (by kernel_rfl) (by kernel_rfl) (by kernel_rfl) (fun _ _ _ h => h) (Or.inl ⟨by kernel_rfl, ?_⟩) hHeld ?_
                  rotate_left
                  · intro wz hSw; (try dsimp only at hSw); go_simp; all_goals (try with_reducible rfl)
                  (try simp only [List.getElem_toArray]); (try simp only [List.getElem_cons_succ]); (try simp only [List.getElem_cons_zero]); (try simp only [Act.put]); (try simp only [List.setIfInBounds_toArray]); (try simp only [List.set_cons_succ]); (try simp only [List.set_cons_zero])
                  refine wpAnyH_done (by kernel_rfl) ?_ _
                  refine NoPanic.normal ?_
                  go_wp2
                  go_ret
                  first | exact ⟨rfl, B⟩ | exact ⟨rfl, B.drew⟩
                · have hx := hal.trans hy
                  refine wp_region_noPanic ?_
                  refine wp_region_held_drew (S := (fun w' => w'.cell? ⟨A, 0, none⟩ = some (.int .i64 a) ∧ w'.cell? ⟨A, 1, none⟩ = some (.int .i64 b) ∧ w'.cell? ⟨A + 1, 0, none⟩ = some (.int .i64 c) ∧ w'.cell? ⟨A + 1, 1, none⟩ = some (.int .i64 d) ∧ w'.cell? ⟨X, 0, none⟩ = some (.int .i64 (redN (a * q + p * b) (b * q))) ∧ w'.cell? ⟨X, 1, none⟩ = some (.int .i64 (redD (a * q + p * b) (b * q))) ∧ w'.cell? ⟨Y, 0, none⟩ = some (.int .i64 (redN (c * q + p * d) (d * q))) ∧ w'.cell? ⟨Y, 1, none⟩ = some (.int .i64 (redD (c * q + p * d) (d * q))))) (by kernel_rfl) ?_ (fun hHeld => ?_)
                  · (try dsimp only)
                    refine ⟨?_, ?_, ?_, ?_, ?_, ?_, ?_, ?_⟩ <;> (repeat (with_reducible (first | refine cell_dr ?_ | refine cell_al _ ?_ | exact k0 | exact k1 | exact k2 | exact k3 | exact k4 | exact k5 | exact k6 | exact k7)))
                  refine wpAnyH_take (i := 0) (v := ?_) rfl (by kernel_rfl) (by kernel_rfl) (by kernel_rfl) (fun _ _ _ h => h) (Or.inl ⟨by kernel_rfl, ?_⟩) hHeld ?_
                  rotate_left
                  · intro wz hSw; (try dsimp only at hSw); go_simp; all_goals (try with_reducible rfl)
                  (try simp only [List.getElem_toArray]); (try simp only [List.getElem_cons_succ]); (try simp only [List.getElem_cons_zero]); (try simp only [Act.put]); (try simp only [List.setIfInBounds_toArray]); (try simp only [List.set_cons_succ]); (try simp only [List.set_cons_zero])
                  refine wpAnyH_take (i := 1) (v := (.bool false)) rfl (by kernel_rfl) (by kernel_rfl) (by kernel_rfl) (fun _ _ _ h => h) (Or.inl ⟨by kernel_rfl, ?_⟩) hHeld ?_
                  skip
                  · intro wz hSw; (try dsimp only at hSw); go_simp; all_goals (try with_reducible rfl)
                  (try simp only [List.getElem_toArray]); (try simp only [List.getElem_cons_succ]); (try simp only [List.getElem_cons_zero]); (try simp only [Act.put]); (try simp only [List.setIfInBounds_toArray]); (try simp only [List.set_cons_succ]); (try simp only [List.set_cons_zero])
                  refine wpAnyH_take (i := 2) (v := (.bool false)) rfl (by kernel_rfl) (by kernel_rfl) (by kernel_rfl) (fun _ _ _ h => h) (Or.inl ⟨by kernel_rfl, ?_⟩) hHeld ?_
                  skip
                  · intro wz hSw; (try dsimp only at hSw); go_simp; all_goals (try with_reducible rfl)
                  (try simp only [List.getElem_toArray]); (try simp only [List.getElem_cons_succ]); (try simp only [List.getElem_cons_zero]); (try simp only [Act.put]); (try simp only [List.setIfInBounds_toArray]); (try simp only [List.set_cons_succ]); (try simp only [List.set_cons_zero])
                  refine wpAnyH_take (i := 3) (v := ?_) rfl (by kernel_rfl) (by kernel_rfl) (by kernel_rfl) (fun _ _ _ h => h) (Or.inl ⟨by kernel_rfl, ?_⟩) hHeld ?_
                  rotate_left
                  · intro wz hSw; (try dsimp only at hSw); go_simp; all_goals (try with_reducible rfl)
                  (try simp only [List.getElem_toArray]); (try simp only [List.getElem_cons_succ]); (try simp only [List.getElem_cons_zero]); (try simp only [Act.put]); (try simp only [List.setIfInBounds_toArray]); (try simp only [List.set_cons_succ]); (try simp only [List.set_cons_zero])
                  refine wpAnyH_take (i := 4) (v := (.bool false)) rfl (by kernel_rfl) (by kernel_rfl) (by kernel_rfl) (fun _ _ _ h => h) (Or.inl ⟨by kernel_rfl, ?_⟩) hHeld ?_
                  skip
                  · intro wz hSw; (try dsimp only at hSw); go_simp; all_goals (try with_reducible rfl)
                  (try simp only [List.getElem_toArray]); (try simp only [List.getElem_cons_succ]); (try simp only [List.getElem_cons_zero]); (try simp only [Act.put]); (try simp only [List.setIfInBounds_toArray]); (try simp only [List.set_cons_succ]); (try simp only [List.set_cons_zero])
                  refine wpAnyH_take (i := 5) (v := (.bool false)) rfl (by kernel_rfl) (by kernel_rfl) (by kernel_rfl) (fun _ _ _ h => h) (Or.inl ⟨by kernel_rfl, ?_⟩) hHeld ?_
                  skip
                  · intro wz hSw; (try dsimp only at hSw); go_simp; all_goals (try with_reducible rfl)
                  (try simp only [List.getElem_toArray]); (try simp only [List.getElem_cons_succ]); (try simp only [List.getElem_cons_zero]); (try simp only [Act.put]); (try simp only [List.setIfInBounds_toArray]); (try simp only [List.set_cons_succ]); (try simp only [List.set_cons_zero])
                  refine wpAnyH_take (i := 6) (v := (.bool false)) rfl (by kernel_rfl) (by kernel_rfl) (by kernel_rfl) (fun _ _ _ h => h) (Or.inl ⟨by kernel_rfl, ?_⟩) hHeld ?_
                  skip
                  · intro wz hSw; (try dsimp only at hSw); go_simp; all_goals (try with_reducible rfl)
                  (try simp only [List.getElem_toArray]); (try simp only [List.getElem_cons_succ]); (try simp only [List.getElem_cons_zero]); (try simp only [Act.put]); (try simp only [List.setIfInBounds_toArray]); (try simp only [List.set_cons_succ]); (try simp only [List.set_cons_zero])
                  refine wpAnyH_take (i := 7) (v := ?_) rfl (by kernel_rfl) (by kernel_rfl) (by kernel_rfl) (fun _ _ _ h => h) (Or.inl ⟨by kernel_rfl, ?_⟩) hHeld ?_
                  rotate_left
                  · intro wz hSw; (try dsimp only at hSw); go_simp; all_goals (try with_reducible rfl)
                  (try simp only [List.getElem_toArray]); (try simp only [List.getElem_cons_succ]); (try simp only [List.getElem_cons_zero]); (try simp only [Act.put]); (try simp only [List.setIfInBounds_toArray]); (try simp only [List.set_cons_succ]); (try simp only [List.set_cons_zero])
                  refine wpAnyH_take (i := 8) (v := ?_) rfl (by kernel_rfl) (by kernel_rfl) (by kernel_rfl) (fun _ _ _ h => h) (Or.inl ⟨by kernel_rfl, ?_⟩) hHeld ?_
                  rotate_left
                  · intro wz hSw; (try dsimp only at hSw); go_simp; all_goals (try with_reducible rfl)
                  (try simp only [List.getElem_toArray]); (try simp only [List.getElem_cons_succ]); (try simp only [List.getElem_cons_zero]); (try simp only [Act.put]); (try simp only [List.setIfInBounds_toArray]); (try simp only [List.set_cons_succ]); (try simp only [List.set_cons_zero])
                  refine wpAnyH_take (i := 10) (v := ?_) rfl (by kernel_rfl) (by kernel_rfl) (by kernel_rfl) (fun _ _ _ h => h) (Or.inl ⟨by kernel_rfl, ?_⟩) hHeld ?_
                  rotate_left
                  · intro wz hSw; (try dsimp only at hSw); go_simp; all_goals (try with_reducible rfl)
                  (try simp only [List.getElem_toArray]); (try simp only [List.getElem_cons_succ]); (try simp only [List.getElem_cons_zero]); (try simp only [Act.put]); (try simp only [List.setIfInBounds_toArray]); (try simp only [List.set_cons_succ]); (try simp only [List.set_cons_zero])
                  refine wpAnyH_take (i := 11) (v := ?_) rfl (by kernel_rfl) (by kernel_rfl) (by kernel_rfl) (fun _ _ _ h => h) (Or.inl ⟨by kernel_rfl, ?_⟩) hHeld ?_
                  rotate_left
                  · intro wz hSw; (try dsimp only at hSw); go_simp; all_goals (try with_reducible rfl)
                  (try simp only [List.getElem_toArray]); (try simp only [List.getElem_cons_succ]); (try simp only [List.getElem_cons_zero]); (try simp only [Act.put]); (try simp only [List.setIfInBounds_toArray]); (try simp only [List.set_cons_succ]); (try simp only [List.set_cons_zero])
                  refine wpAnyH_ready (rs := [9]) (by kernel_rfl) (by simp) (AllReadyH.cons rfl (fun K hK => ?_) AllReadyH.nil)
                  go_simp
                  (go_at_call 24; refine (iLess_is hx _).mono ?_; rintro e wN ⟨rfl, hbN⟩; replace k0 : wN.cell? ⟨A, 0, none⟩ = some (.int .i64 a) := (by first | exact cell_later hbN k0 | exact cell_later hbN (cell_dr k0)); replace k1 : wN.cell? ⟨A, 1, none⟩ = some (.int .i64 b) := (by first | exact cell_later hbN k1 | exact cell_later hbN (cell_dr k1)); replace k2 : wN.cell? ⟨A + 1, 0, none⟩ = some (.int .i64 c) := (by first | exact cell_later hbN k2 | exact cell_later hbN (cell_dr k2)); replace k3 : wN.cell? ⟨A + 1, 1, none⟩ = some (.int .i64 d) := (by first | exact cell_later hbN k3 | exact cell_later hbN (cell_dr k3)); replace k4 : wN.cell? ⟨X, 0, none⟩ = some (.int .i64 (redN (a * q + p * b) (b * q))) := (by first | exact cell_later hbN k4 | exact cell_later hbN (cell_dr k4)); replace k5 : wN.cell? ⟨X, 1, none⟩ = some (.int .i64 (redD (a * q + p * b) (b * q))) := (by first | exact cell_later hbN k5 | exact cell_later hbN (cell_dr k5)); replace k6 : wN.cell? ⟨Y, 0, none⟩ = some (.int .i64 (redN (c * q + p * d) (d * q))) := (by first | exact cell_later hbN k6 | exact cell_later hbN (cell_dr k6)); replace k7 : wN.cell? ⟨Y, 1, none⟩ = some (.int .i64 (redD (c * q + p * d) (d * q))) := (by first | exact cell_later hbN k7 | exact cell_later hbN (cell_dr k7)); replace B : Below w.heap.size w wN := (by first | exact Below.trans B (hbN.mono B.size) | exact Below.trans B.drew (hbN.mono B.drew.size)); clear hbN)
                  go_wp2_with fail
                  refine hK.out _ _ ?_ (fun hHeld => ?_)
                  · (try dsimp only)
                    refine ⟨?_, ?_, ?_, ?_, ?_, ?_, ?_, ?_⟩ <;> (repeat (with_reducible (first | refine cell_dr ?_ | refine cell_al _ ?_ | exact k0 | exact k1 | exact k2 | exact k3 | exact k4 | exact k5 | exact k6 | exact k7)))
                  clear hK K
                  (try simp only [List.getElem_toArray]); (try simp only [List.getElem_cons_succ]); (try simp only [List.getElem_cons_zero]); (try simp only [Act.put]); (try simp only [List.setIfInBounds_toArray]); (try simp only [List.set_cons_succ]); (try simp only [List.set_cons_zero])
                  refine wpAnyH_ready (rs := [12]) (by kernel_rfl) (by simp) (AllReadyH.cons rfl (fun K hK => ?_) AllReadyH.nil)
                  go_simp
                  (go_at_call 24; refine (iLess_is hy _).mono ?_; rintro e wN ⟨rfl, hbN⟩; replace k0 : wN.cell? ⟨A, 0, none⟩ = some (.int .i64 a) := (by first | exact cell_later hbN k0 | exact cell_later hbN (cell_dr k0)); replace k1 : wN.cell? ⟨A, 1, none⟩ = some (.int .i64 b) := (by first | exact cell_later hbN k1 | exact cell_later hbN (cell_dr k1)); replace k2 : wN.cell? ⟨A + 1, 0, none⟩ = some (.int .i64 c) := (by first | exact cell_later hbN k2 | exact cell_later hbN (cell_dr k2)); replace k3 : wN.cell? ⟨A + 1, 1, none⟩ = some (.int .i64 d) := (by first | exact cell_later hbN k3 | exact cell_later hbN (cell_dr k3)); replace k4 : wN.cell? ⟨X, 0, none⟩ = some (.int .i64 (redN (a * q + p * b) (b * q))) := (by first | exact cell_later hbN k4 | exact cell_later hbN (cell_dr k4)); replace k5 : wN.cell? ⟨X, 1, none⟩ = some (.int .i64 (redD (a * q + p * b) (b * q))) := (by first | exact cell_later hbN k5 | exact cell_later hbN (cell_dr k5)); replace k6 : wN.cell? ⟨Y, 0, none⟩ = some (.int .i64 (redN (c * q + p * d) (d * q))) := (by first | exact cell_later hbN k6 | exact cell_later hbN (cell_dr k6)); replace k7 : wN.cell? ⟨Y, 1, none⟩ = some (.int .i64 (redD (c * q + p * d) (d * q))) := (by first | exact cell_later hbN k7 | exact cell_later hbN (cell_dr k7)); replace B : Below w.heap.size w wN := (by first | exact Below.trans B (hbN.mono B.size) | exact Below.trans B.drew (hbN.mono B.drew.size)); clear hbN)
                  go_wp2_with fail
                  refine hK.out _ _ ?_ (fun hHeld => ?_)
                  · (try dsimp only)
                    refine ⟨?_, ?_, ?_, ?_, ?_, ?_, ?_, ?_⟩ <;> (repeat (with_reducible (first | refine cell_dr ?_ | refine cell_al _ ?_ | exact k0 | exact k1 | exact k2 | exact k3 | exact k4 | exact k5 | exact k6 | exact k7)))
                  clear hK K
                  (try simp only [List.getElem_toArray]); (try simp only [List.getElem_cons_succ]); (try simp only [List.getElem_cons_zero]); (try simp only [Act.put]); (try simp only [List.setIfInBounds_toArray]); (try simp only [List.set_cons_succ]); (try simp only [List.set_cons_zero])
                  refine wpAnyH_take (i := 13) (v := (.bool true)) rfl (by kernel_rfl) (by kernel_rfl) (by kernel_rfl) (fun _ _ _ h => h) (Or.inl ⟨by kernel_rfl, ?_⟩) hHeld ?_
                  skip
                  · intro wz hSw; (try dsimp only at hSw); go_simp; all_goals (try with_reducible rfl)
                  (try simp only [List.getElem_toArray]); (try simp only [List.getElem_cons_succ]); (try simp only [List.getElem_cons_zero]); (try simp only [Act.put]); (try simp only [List.setIfInBounds_toArray]); (try simp only [List.set_cons_succ]); (try simp only [List.set_cons_zero])
                  refine wpAnyH_take (i := 14) (v := (.bool true)) rfl (by kernel_rfl) (by kernel_rfl) (by kernel_rfl) (fun _ _ _ h => h) (Or.inl ⟨by kernel_rfl, ?_⟩) hHeld ?_
                  skip
                  · intro wz hSw; (try dsimp only at hSw); go_simp; all_goals (try with_reducible rfl)
                  (try simp only [List.getElem_toArray]); (try simp only [List.getElem_cons_succ]); (try simp only [List.getElem_cons_zero]); (try simp only [Act.put]); (try simp only [List.setIfInBounds_toArray]); (try simp only [List.set_cons_succ]); (try simp only [List.set_cons_zero])
                  refine wpAnyH_take (i := 15) (v := ?_) rfl (by kernel_rfl) (by kernel_rfl) (by kernel_rfl) (fun _ _ _ h => h) (Or.inl ⟨by kernel_rfl, ?_⟩) hHeld ?_
                  rotate_left
                  · intro wz hSw; (try dsimp only at hSw); go_simp; all_goals (try with_reducible rfl)
                  (try simp only [List.getElem_toArray]); (try simp only [List.getElem_cons_succ]); (try simp only [List.getElem_cons_zero]); (try simp only [Act.put]); (try simp only [List.setIfInBounds_toArray]); (try simp only [List.set_cons_succ]); (try simp only [List.set_cons_zero])
                  refine wpAnyH_done (by kernel_rfl) ?_ _
                  refine NoPanic.normal ?_
                  go_wp2
                  go_ret
                  first | exact ⟨rfl, B⟩ | exact ⟨rfl, B.drew⟩
        · rw [Bool.not_eq_true] at h2
          have hle : lessB a b c d = false := by unfold lessB; rw [two_no2 h2]; rfl
          go_wp2_with fail
          refine (sOk_is h1 _).mono ?_
          rintro e wN ⟨rfl, hbN⟩
          replace k0 : wN.cell? ⟨A, 0, none⟩ = some (.int .i64 a) := (by first | exact cell_later hbN k0 | exact cell_later hbN (cell_dr k0)); replace k1 : wN.cell? ⟨A, 1, none⟩ = some (.int .i64 b) := (by first | exact cell_later hbN k1 | exact cell_later hbN (cell_dr k1)); replace k2 : wN.cell? ⟨A + 1, 0, none⟩ = some (.int .i64 c) := (by first | exact cell_later hbN k2 | exact cell_later hbN (cell_dr k2)); replace k3 : wN.cell? ⟨A + 1, 1, none⟩ = some (.int .i64 d) := (by first | exact cell_later hbN k3 | exact cell_later hbN (cell_dr k3)); replace B : Below w.heap.size w wN := (by first | exact Below.trans B (hbN.mono B.size) | exact Below.trans B.drew (hbN.mono B.drew.size)); clear hbN
          go_wp2_with fail
          refine (sOk_is h2 _).mono ?_
          rintro e wN ⟨rfl, hbN⟩
          replace k0 : wN.cell? ⟨A, 0, none⟩ = some (.int .i64 a) := (by first | exact cell_later hbN k0 | exact cell_later hbN (cell_dr k0)); replace k1 : wN.cell? ⟨A, 1, none⟩ = some (.int .i64 b) := (by first | exact cell_later hbN k1 | exact cell_later hbN (cell_dr k1)); replace k2 : wN.cell? ⟨A + 1, 0, none⟩ = some (.int .i64 c) := (by first | exact cell_later hbN k2 | exact cell_later hbN (cell_dr k2)); replace k3 : wN.cell? ⟨A + 1, 1, none⟩ = some (.int .i64 d) := (by first | exact cell_later hbN k3 | exact cell_later hbN (cell_dr k3)); replace B : Below w.heap.size w wN := (by first | exact Below.trans B (hbN.mono B.size) | exact Below.trans B.drew (hbN.mono B.drew.size)); clear hbN
          go_wp2_with fail
          refine (iLess_is hle _).mono ?_
          rintro e wN ⟨rfl, hbN⟩
          replace k0 : wN.cell? ⟨A, 0, none⟩ = some (.int .i64 a) := (by first | exact cell_later hbN k0 | exact cell_later hbN (cell_dr k0)); replace k1 : wN.cell? ⟨A, 1, none⟩ = some (.int .i64 b) := (by first | exact cell_later hbN k1 | exact cell_later hbN (cell_dr k1)); replace k2 : wN.cell? ⟨A + 1, 0, none⟩ = some (.int .i64 c) := (by first | exact cell_later hbN k2 | exact cell_later hbN (cell_dr k2)); replace k3 : wN.cell? ⟨A + 1, 1, none⟩ = some (.int .i64 d) := (by first | exact cell_later hbN k3 | exact cell_later hbN (cell_dr k3)); replace B : Below w.heap.size w wN := (by first | exact Below.trans B (hbN.mono B.size) | exact Below.trans B.drew (hbN.mono B.drew.size)); clear hbN
          go_wp2
          go_ret
          exact ⟨rfl, B⟩
      · rw [Bool.not_eq_true] at h1
        have hle : lessB a b c d = false := by unfold lessB; rw [two_no1 h1]; rfl
        go_wp2_with fail
        refine (sOk_is h1 _).mono ?_
        rintro e wN ⟨rfl, hbN⟩
        replace k0 : wN.cell? ⟨A, 0, none⟩ = some (.int .i64 a) := (by first | exact cell_later hbN k0 | exact cell_later hbN (cell_dr k0)); replace k1 : wN.cell? ⟨A, 1, none⟩ = some (.int .i64 b) := (by first | exact cell_later hbN k1 | exact cell_later hbN (cell_dr k1)); replace k2 : wN.cell? ⟨A + 1, 0, none⟩ = some (.int .i64 c) := (by first | exact cell_later hbN k2 | exact cell_later hbN (cell_dr k2)); replace k3 : wN.cell? ⟨A + 1, 1, none⟩ = some (.int .i64 d) := (by first | exact cell_later hbN k3 | exact cell_later hbN (cell_dr k3)); replace B : Below w.heap.size w wN := (by first | exact Below.trans B (hbN.mono B.size) | exact Below.trans B.drew (hbN.mono B.drew.size)); clear hbN
        go_wp2_with fail
        refine (iLess_is hle _).mono ?_
        rintro e wN ⟨rfl, hbN⟩
        replace k0 : wN.cell? ⟨A, 0, none⟩ = some (.int .i64 a) := (by first | exact cell_later hbN k0 | exact cell_later hbN (cell_dr k0)); replace k1 : wN.cell? ⟨A, 1, none⟩ = some (.int .i64 b) := (by first | exact cell_later hbN k1 | exact cell_later hbN (cell_dr k1)); replace k2 : wN.cell? ⟨A + 1, 0, none⟩ = some (.int .i64 c) := (by first | exact cell_later hbN k2 | exact cell_later hbN (cell_dr k2)); replace k3 : wN.cell? ⟨A + 1, 1, none⟩ = some (.int .i64 d) := (by first | exact cell_later hbN k3 | exact cell_later hbN (cell_dr k3)); replace B : Below w.heap.size w wN := (by first | exact Below.trans B (hbN.mono B.size) | exact Below.trans B.drew (hbN.mono B.drew.size)); clear hbN
        go_wp2
        go_ret
        exact ⟨rfl, B⟩
end Go.Proofs.Ytcjeclipcpifaaa
