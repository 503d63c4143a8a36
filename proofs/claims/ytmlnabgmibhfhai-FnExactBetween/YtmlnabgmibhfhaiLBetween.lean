/- The walk of the law of Between: both answers are the same. -/
import Derived.Test.YtmlnabgmibhfhaiBetwW4
import Derived.Deep.RegionHeld3
import Derived.Deep.DeepCutAuto
namespace Go.Proofs.Ytmlnabgmibhfhai
open Go.RowKit Go.Proofs.Ytmlnabgmibhfhai.RM

theorem to_exactB (n d : Int) (w : World) :
    Calls Try.prog 7 #[.agg #[.int .i64 n, .int .i64 d]] w fun e w' => e = .returned (.agg #[.int .i64 n, .int .i64 d]) ∧ w' = (((w.alloc (Obj.cells #[Value.int IntKind.i64 n, Value.int IntKind.i64 d] 23)).alloc (Obj.cells #[Value.int IntKind.i64 n, Value.int IntKind.i64 d] 24)).alloc (Obj.cells #[Value.int IntKind.i64 n, Value.int IntKind.i64 d] 24)) := by
  go_enter Try.func7, Try.ntmps7
  go_wp2
  exact bodyPost_ret (v := .agg #[.int .i64 n, .int .i64 d]) (by simp [results, Try.results7, go_sem]) rfl ⟨rfl, rfl⟩

set_option maxHeartbeats 1600000 in
theorem lawBetween (a b c d : Int) (w : World) :
    Calls Try.prog 4 #[.agg #[.int .i64 a, .int .i64 b], .agg #[.int .i64 c, .int .i64 d]] w fun e w' => e = .returned (.bool true) ∧ Below w.heap.size w w' := by
  have hok : ((btB a b c d) != (btB a b c d)) = false := by simp
  go_enter Try.func4, Try.ntmps4
  go_upto_region 1 with fail
  go_cut [5, 6] (fun s5 s6 wx => ∃ C : Nat, s5 = .pointer (some ⟨C, 0, none⟩) ∧ s6 = .bool (btB a b c d) ∧ Hid (Below w.heap.size w wx) ∧ C < wx.heap.size ∧ wx.cell? ⟨w.heap.size, 0, none⟩ = some (.int .i64 a) ∧ wx.cell? ⟨w.heap.size, 1, none⟩ = some (.int .i64 b) ∧ wx.cell? ⟨w.heap.size + 1, 0, none⟩ = some (.int .i64 c) ∧ wx.cell? ⟨w.heap.size + 1, 1, none⟩ = some (.int .i64 d) ∧ wx.cell? ⟨C, 0, none⟩ = some (.int .i64 (btN a b c d)) ∧ wx.cell? ⟨C, 1, none⟩ = some (.int .i64 (btD a b c d)))
  case first =>
    obtain ⟨W, hW⟩ : ∃ W, W = ((w.alloc (.cells #[.int .i64 a, .int .i64 b] 23)).alloc (.cells #[.int .i64 c, .int .i64 d] 23)) := ⟨_, rfl⟩
    have hB0 : Hid (Below w.heap.size w W) := by
      rw [hW]; show Below _ _ _; repeat (first | exact Below.refl _ _ | refine below_alN _ ?_)
    have k0 : W.cell? ⟨w.heap.size, 0, none⟩ = some (.int .i64 a) := by rw [hW]; simp [go_sem]
    have k1 : W.cell? ⟨w.heap.size, 1, none⟩ = some (.int .i64 b) := by rw [hW]; simp [go_sem]
    have k2 : W.cell? ⟨w.heap.size + 1, 0, none⟩ = some (.int .i64 c) := by rw [hW]; simp [go_sem]
    have k3 : W.cell? ⟨w.heap.size + 1, 1, none⟩ = some (.int .i64 d) := by rw [hW]; simp [go_sem]
    have hl1 : w.heap.size + 1 < W.heap.size := by rw [hW]; simp
    have hle : w.heap.size ≤ W.heap.size := by omega
    rw [← hW]
    clear hW
    go_region_held3 (fun w' => w'.cell? ⟨w.heap.size, 0, none⟩ = some (.int .i64 a) ∧ w'.cell? ⟨w.heap.size, 1, none⟩ = some (.int .i64 b) ∧ w'.cell? ⟨w.heap.size + 1, 0, none⟩ = some (.int .i64 c) ∧ w'.cell? ⟨w.heap.size + 1, 1, none⟩ = some (.int .i64 d)) (refine ⟨?_, ?_, ?_, ?_⟩ <;> (repeat (with_reducible (first | exact k0 | exact k1 | exact k2 | exact k3 | refine cell_al _ ?_ | refine cell_dr ?_ | refine cell_later hbl ?_ | refine cell_stb ?_ ?_ | (show _ ≠ _; omega)))))
      (first | (go_at_call 7; refine (to_exactB _ _ _).mono ?_; rintro e w' ⟨rfl, rfl⟩) | (go_at_call 10; refine (sBetw_any _ _ _ _ _).mono ?_; rintro e w1 ⟨rfl, hbl⟩; have hz1 : W.heap.size + 6 ≤ w1.heap.size := (by have := hbl.size; simp at this; omega); have hB1 : Below W.heap.size W w1 := (by refine Below.trans ?_ (hbl.mono ?_); (repeat (first | exact Below.refl _ _ | refine Below.drew ?_ | refine below_alN _ ?_)); (simp <;> omega)); (try have q00 : w1.cell? ⟨W.heap.size, 0, none⟩ = some (.int .i64 0) := by (refine cell_later hbl ?_; simp [go_sem])); (try have z00 : w1.frozen? ⟨W.heap.size, 0, none⟩ = false := by (refine frozen_later (v := .int .i64 0) hbl ?_ ?_ <;> simp [go_sem])); (try have q01 : w1.cell? ⟨W.heap.size, 1, none⟩ = some (.int .i64 0) := by (refine cell_later hbl ?_; simp [go_sem])); (try have z01 : w1.frozen? ⟨W.heap.size, 1, none⟩ = false := by (refine frozen_later (v := .int .i64 0) hbl ?_ ?_ <;> simp [go_sem])); (try have q30 : w1.cell? ⟨W.heap.size + 3, 0, none⟩ = some (.int .i64 0) := by (refine cell_later hbl ?_; simp [go_sem])); (try have z30 : w1.frozen? ⟨W.heap.size + 3, 0, none⟩ = false := by (refine frozen_later (v := .int .i64 0) hbl ?_ ?_ <;> simp [go_sem])); (try have q31 : w1.cell? ⟨W.heap.size + 3, 1, none⟩ = some (.int .i64 0) := by (refine cell_later hbl ?_; simp [go_sem])); (try have z31 : w1.frozen? ⟨W.heap.size + 3, 1, none⟩ = false := by (refine frozen_later (v := .int .i64 0) hbl ?_ ?_ <;> simp [go_sem])); (try have q60 : w1.cell? ⟨W.heap.size + 6, 0, none⟩ = some (.int .i64 0) := by (refine cell_later hbl ?_; simp [go_sem])); (try have z60 : w1.frozen? ⟨W.heap.size + 6, 0, none⟩ = false := by (refine frozen_later (v := .int .i64 0) hbl ?_ ?_ <;> simp [go_sem])); (try have q61 : w1.cell? ⟨W.heap.size + 6, 1, none⟩ = some (.int .i64 0) := by (refine cell_later hbl ?_; simp [go_sem])); (try have z61 : w1.frozen? ⟨W.heap.size + 6, 1, none⟩ = false := by (refine frozen_later (v := .int .i64 0) hbl ?_ ?_ <;> simp [go_sem]))))
    all_goals (go_wp2_with fail)
    all_goals go_meet
    all_goals (case' rel => refine ⟨_, rfl, rfl, ?_, ?_, ?_, ?_, ?_, ?_, ?_, ?_⟩)
    all_goals first
      | (show Below _ _ _; refine Below.trans hB0.out (Below.mono ?_ hle); (repeat (first | exact hB1 | refine Below.setCell ?_ ?_ _ | refine below_alN _ ?_ | (show _ ≤ _; simp <;> omega))); done)
      | (have := lt_cell q00; simp; omega)
      | (have := lt_cell q30; simp; omega)
      | (have := lt_cell q60; simp; omega)
      | (simp; done)
      | exact (new2 q00 q01).1
      | exact (new2 q00 q01).2
      | exact (new2 q30 q31).1
      | exact (new2 q30 q31).2
      | exact (new2 q60 q61).1
      | exact (new2 q60 q61).2
      | ((repeat (with_reducible (first | exact k0 | exact k1 | exact k2 | exact k3 | refine cell_al _ ?_ | refine cell_dr ?_ | refine cell_later hbl ?_ | refine cell_stb ?_ ?_ | (show _ ≠ _; omega)))); done)
      | (simp [go_sem]; done)
  case rest =>
    obtain ⟨B, rfl, rfl, hB0, hl2, k0, k1, k2, k3, k8, k9⟩ := hcut
    have hl1 : w.heap.size + 1 < wc.heap.size := lt_cell k3
    have hle : w.heap.size ≤ wc.heap.size := by omega
    go_upto_region 2 with fail
    go_cut [7, 8] (fun s7 s8 wx => ∃ C : Nat, s7 = .pointer (some ⟨C, 0, none⟩) ∧ s8 = .bool (btB a b c d) ∧ Hid (Below w.heap.size w wx) ∧ C < wx.heap.size ∧ wx.cell? ⟨w.heap.size, 0, none⟩ = some (.int .i64 a) ∧ wx.cell? ⟨w.heap.size, 1, none⟩ = some (.int .i64 b) ∧ wx.cell? ⟨w.heap.size + 1, 0, none⟩ = some (.int .i64 c) ∧ wx.cell? ⟨w.heap.size + 1, 1, none⟩ = some (.int .i64 d) ∧ wx.cell? ⟨B, 0, none⟩ = some (.int .i64 (btN a b c d)) ∧ wx.cell? ⟨B, 1, none⟩ = some (.int .i64 (btD a b c d)) ∧ wx.cell? ⟨C, 0, none⟩ = some (.int .i64 (btN a b c d)) ∧ wx.cell? ⟨C, 1, none⟩ = some (.int .i64 (btD a b c d)))
    case first =>
      go_region_held3 (fun w' => w'.cell? ⟨w.heap.size, 0, none⟩ = some (.int .i64 a) ∧ w'.cell? ⟨w.heap.size, 1, none⟩ = some (.int .i64 b) ∧ w'.cell? ⟨w.heap.size + 1, 0, none⟩ = some (.int .i64 c) ∧ w'.cell? ⟨w.heap.size + 1, 1, none⟩ = some (.int .i64 d)) (refine ⟨?_, ?_, ?_, ?_⟩ <;> (repeat (with_reducible (first | exact k0 | exact k1 | exact k2 | exact k3 | refine cell_al _ ?_ | refine cell_dr ?_ | refine cell_later hbl ?_ | refine cell_stb ?_ ?_ | (show _ ≠ _; omega)))))
        (first | (go_at_call 7; refine (to_exactB _ _ _).mono ?_; rintro e w' ⟨rfl, rfl⟩) | (go_at_call 11; refine (iBetw_any _ _ _ _ _).mono ?_; rintro e w1 ⟨rfl, hbl⟩; have hz1 : wc.heap.size + 6 ≤ w1.heap.size := (by have := hbl.size; simp at this; omega); have hB1 : Below wc.heap.size wc w1 := (by refine Below.trans ?_ (hbl.mono ?_); (repeat (first | exact Below.refl _ _ | refine Below.drew ?_ | refine below_alN _ ?_)); (simp <;> omega)); (try have q00 : w1.cell? ⟨wc.heap.size, 0, none⟩ = some (.int .i64 0) := by (refine cell_later hbl ?_; simp [go_sem])); (try have z00 : w1.frozen? ⟨wc.heap.size, 0, none⟩ = false := by (refine frozen_later (v := .int .i64 0) hbl ?_ ?_ <;> simp [go_sem])); (try have q01 : w1.cell? ⟨wc.heap.size, 1, none⟩ = some (.int .i64 0) := by (refine cell_later hbl ?_; simp [go_sem])); (try have z01 : w1.frozen? ⟨wc.heap.size, 1, none⟩ = false := by (refine frozen_later (v := .int .i64 0) hbl ?_ ?_ <;> simp [go_sem])); (try have q30 : w1.cell? ⟨wc.heap.size + 3, 0, none⟩ = some (.int .i64 0) := by (refine cell_later hbl ?_; simp [go_sem])); (try have z30 : w1.frozen? ⟨wc.heap.size + 3, 0, none⟩ = false := by (refine frozen_later (v := .int .i64 0) hbl ?_ ?_ <;> simp [go_sem])); (try have q31 : w1.cell? ⟨wc.heap.size + 3, 1, none⟩ = some (.int .i64 0) := by (refine cell_later hbl ?_; simp [go_sem])); (try have z31 : w1.frozen? ⟨wc.heap.size + 3, 1, none⟩ = false := by (refine frozen_later (v := .int .i64 0) hbl ?_ ?_ <;> simp [go_sem])); (try have q60 : w1.cell? ⟨wc.heap.size + 6, 0, none⟩ = some (.int .i64 0) := by (refine cell_later hbl ?_; simp [go_sem])); (try have z60 : w1.frozen? ⟨wc.heap.size + 6, 0, none⟩ = false := by (refine frozen_later (v := .int .i64 0) hbl ?_ ?_ <;> simp [go_sem])); (try have q61 : w1.cell? ⟨wc.heap.size + 6, 1, none⟩ = some (.int .i64 0) := by (refine cell_later hbl ?_; simp [go_sem])); (try have z61 : w1.frozen? ⟨wc.heap.size + 6, 1, none⟩ = false := by (refine frozen_later (v := .int .i64 0) hbl ?_ ?_ <;> simp [go_sem]))))
      all_goals (go_wp2_with fail)
      all_goals go_meet
      all_goals (case' rel => refine ⟨_, rfl, rfl, ?_, ?_, ?_, ?_, ?_, ?_, ?_, ?_, ?_, ?_⟩)
      all_goals first
        | (show Below _ _ _; refine Below.trans hB0.out (Below.mono ?_ hle); (repeat (first | exact hB1 | refine Below.setCell ?_ ?_ _ | refine below_alN _ ?_ | (show _ ≤ _; simp <;> omega))); done)
        | (have := lt_cell q00; simp; omega)
        | (have := lt_cell q30; simp; omega)
        | (have := lt_cell q60; simp; omega)
        | (simp; done)
        | exact (new2 q00 q01).1
        | exact (new2 q00 q01).2
        | exact (new2 q30 q31).1
        | exact (new2 q30 q31).2
        | exact (new2 q60 q61).1
        | exact (new2 q60 q61).2
        | ((repeat (with_reducible (first | exact k0 | exact k1 | exact k2 | exact k3 | exact k8 | exact k9 | refine cell_al _ ?_ | refine cell_dr ?_ | refine cell_later hbl ?_ | refine cell_stb ?_ ?_ | (show _ ≠ _; omega)))); done)
        | (simp [go_sem]; done)
    case rest =>
      clear k8 k9 k0 k1 k2 k3 hB0 hl1 hl2 hle
      obtain ⟨C, rfl, rfl, hB0, hl3, _, _, _, _, j8, j9, j10, j11⟩ := hcut
      go_wp2_with fail
      refine (eq_same _ _ _).mono ?_
      rintro e w3 ⟨rfl, hbl3⟩
      have B3 := hB0.out.trans (hbl3.mono hB0.out.size)
      go_wp2
      go_ret
      exact ⟨rfl, B3⟩
end Go.Proofs.Ytmlnabgmibhfhai
