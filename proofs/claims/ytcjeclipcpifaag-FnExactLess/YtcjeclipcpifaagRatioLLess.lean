/- The walk of the law of Less: both answers are the same. -/
import Derived.Test.YtcjeclipcpifaagRatioW7
namespace Go.Proofs.Ytcjeclipcpifaag
open Go.RowKit Go.Proofs.Ytcjeclipcpifaag.RM

set_option maxHeartbeats 1600000 in
theorem lawLess (a b c d : Int) (w : World) :
    Calls Try.prog 8 #[.agg #[.int .i64 a, .int .i64 b], .agg #[.int .i64 c, .int .i64 d]] w fun e w' => e = .returned (.bool true) ∧ Below w.heap.size w w' := by
  have hok : ((lessB a b c d) != (lessB a b c d)) = false := by simp
  go_enter Try.func8, Try.ntmps8
  go_upto_region 1 with fail
  go_cut [5] (fun s5 wx => s5 = (.bool (lessB a b c d)) ∧ Hid (Below w.heap.size w wx) ∧ wx.cell? ⟨w.heap.size, 0, none⟩ = some (.int .i64 a) ∧ wx.cell? ⟨w.heap.size, 1, none⟩ = some (.int .i64 b) ∧ wx.cell? ⟨w.heap.size + 1, 0, none⟩ = some (.int .i64 c) ∧ wx.cell? ⟨w.heap.size + 1, 1, none⟩ = some (.int .i64 d))
  case first =>
    obtain ⟨W, hW⟩ : ∃ W, W = ((w.alloc (.cells #[.int .i64 a, .int .i64 b] 28)).alloc (.cells #[.int .i64 c, .int .i64 d] 28)) := ⟨_, rfl⟩
    have hB0 : Hid (Below w.heap.size w W) := by
      rw [hW]; show Below _ _ _; repeat (first | exact Below.refl _ _ | refine below_alN _ ?_)
    have k0 : W.cell? ⟨w.heap.size, 0, none⟩ = some (.int .i64 a) := by rw [hW]; simp [go_sem]
    have k1 : W.cell? ⟨w.heap.size, 1, none⟩ = some (.int .i64 b) := by rw [hW]; simp [go_sem]
    have k2 : W.cell? ⟨w.heap.size + 1, 0, none⟩ = some (.int .i64 c) := by rw [hW]; simp [go_sem]
    have k3 : W.cell? ⟨w.heap.size + 1, 1, none⟩ = some (.int .i64 d) := by rw [hW]; simp [go_sem]
    have hl1 : w.heap.size + 1 < W.heap.size := by rw [hW]; simp
    have hle : w.heap.size ≤ W.heap.size := by omega
    rw [← hW]
    clear hW
    go_region_held3 (fun w' => w'.cell? ⟨w.heap.size, 0, none⟩ = some (.int .i64 a) ∧ w'.cell? ⟨w.heap.size, 1, none⟩ = some (.int .i64 b) ∧ w'.cell? ⟨w.heap.size + 1, 0, none⟩ = some (.int .i64 c) ∧ w'.cell? ⟨w.heap.size + 1, 1, none⟩ = some (.int .i64 d)) (refine ⟨?_, ?_, ?_, ?_⟩ <;> (repeat (with_reducible (first | exact k0 | exact k1 | exact k2 | exact k3 | refine cell_al _ ?_ | refine cell_dr ?_ | refine cell_later hbl ?_ | refine cell_stb ?_ ?_ | (show _ ≠ _; omega)))))
      (first | (go_at_call 13; refine (to_exact _ _ _).mono ?_; rintro e w' ⟨rfl, rfl⟩) | (go_at_call 21; refine (sLess_any _ _ _ _ _).mono ?_; rintro e w1 ⟨rfl, hbl⟩; have hz1 : W.heap.size + 6 ≤ w1.heap.size := (by have := hbl.size; simp at this; omega); have hB1 : Below W.heap.size W w1 := (by refine Below.trans ?_ (hbl.mono ?_); (repeat (first | exact Below.refl _ _ | refine Below.drew ?_ | refine below_alN _ ?_)); (simp <;> omega))))
    all_goals (go_wp2_with fail)
    all_goals go_meet
    all_goals (case' rel => refine ⟨rfl, ?_, ?_, ?_, ?_, ?_⟩)
    all_goals first
      | (show Below _ _ _; refine Below.trans hB0.out (Below.mono ?_ hle); exact hB1)
      | ((repeat (with_reducible (first | exact k0 | exact k1 | exact k2 | exact k3 | refine cell_al _ ?_ | refine cell_dr ?_ | refine cell_later hbl ?_ | refine cell_stb ?_ ?_ | (show _ ≠ _; omega)))); done)
  case rest =>
    obtain ⟨rfl, hB0, k0, k1, k2, k3⟩ := hcut
    have hl1 : w.heap.size + 1 < wc.heap.size := lt_cell k3
    have hle : w.heap.size ≤ wc.heap.size := by omega
    go_upto_region 2 with fail
    go_cut [6] (fun s6 wx => s6 = (.bool (lessB a b c d)) ∧ Hid (Below w.heap.size w wx) ∧ wx.cell? ⟨w.heap.size, 0, none⟩ = some (.int .i64 a) ∧ wx.cell? ⟨w.heap.size, 1, none⟩ = some (.int .i64 b) ∧ wx.cell? ⟨w.heap.size + 1, 0, none⟩ = some (.int .i64 c) ∧ wx.cell? ⟨w.heap.size + 1, 1, none⟩ = some (.int .i64 d))
    case first =>
      go_region_held3 (fun w' => w'.cell? ⟨w.heap.size, 0, none⟩ = some (.int .i64 a) ∧ w'.cell? ⟨w.heap.size, 1, none⟩ = some (.int .i64 b) ∧ w'.cell? ⟨w.heap.size + 1, 0, none⟩ = some (.int .i64 c) ∧ w'.cell? ⟨w.heap.size + 1, 1, none⟩ = some (.int .i64 d)) (refine ⟨?_, ?_, ?_, ?_⟩ <;> (repeat (with_reducible (first | exact k0 | exact k1 | exact k2 | exact k3 | refine cell_al _ ?_ | refine cell_dr ?_ | refine cell_later hbl ?_ | refine cell_stb ?_ ?_ | (show _ ≠ _; omega)))))
        (first | (go_at_call 13; refine (to_exact _ _ _).mono ?_; rintro e w' ⟨rfl, rfl⟩) | (go_at_call 22; refine (iLess_any _ _ _ _ _).mono ?_; rintro e w1 ⟨rfl, hbl⟩; have hz1 : wc.heap.size + 6 ≤ w1.heap.size := (by have := hbl.size; simp at this; omega); have hB1 : Below wc.heap.size wc w1 := (by refine Below.trans ?_ (hbl.mono ?_); (repeat (first | exact Below.refl _ _ | refine Below.drew ?_ | refine below_alN _ ?_)); (simp <;> omega))))
      all_goals (go_wp2_with fail)
      all_goals go_meet
      all_goals (case' rel => refine ⟨rfl, ?_, ?_, ?_, ?_, ?_⟩)
      all_goals first
        | (show Below _ _ _; refine Below.trans hB0.out (Below.mono ?_ hle); exact hB1)
        | ((repeat (with_reducible (first | exact k0 | exact k1 | exact k2 | exact k3 | refine cell_al _ ?_ | refine cell_dr ?_ | refine cell_later hbl ?_ | refine cell_stb ?_ ?_ | (show _ ≠ _; omega)))); done)
    case rest =>
      obtain ⟨rfl, hB2, _⟩ := hcut
      go_wp2
      go_ret
      exact ⟨rfl, hB2.out⟩
end Go.Proofs.Ytcjeclipcpifaag
