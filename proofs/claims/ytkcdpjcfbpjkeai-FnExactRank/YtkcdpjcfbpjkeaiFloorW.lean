/- The walks of Floor, the program's and the model's: both answer the same whole number. -/
import Derived.Test.YtkcdpjcfbpjkeaiRatioW2
namespace Go.Proofs.Ytkcdpjcfbpjkeai
open Go.RowKit Go.Proofs.Ytkcdpjcfbpjkeai.RM

set_option maxHeartbeats 800000 in
theorem sFloor_any (a b : Int) (w : World) :
    Calls Try.prog 37 #[.agg #[.int .i64 a, .int .i64 b]] w fun e w' => e = .returned (.int .i64 (floI a b)) ∧ Below w.heap.size w w' := by
  by_cases h : okB a b = true
  · obtain ⟨h1, h2, h3, h4, _⟩ := okB_out h
    have b1 := tdiv_bd a b 1000000000 h3 h4
    have b2 := tdm_bd a b 1000000000 h3 h4
    obtain ⟨b1a, b1b⟩ := b1
    obtain ⟨b2a, b2b⟩ := b2
    have hb0 : ¬ b = 0 := by omega
    by_cases g : a < a.tdiv b * b
    · rw [flo_up h g]
      have g2 := (rem_neg a b).mpr g
      go_enter Try.func37, Try.ntmps37
      go_wp2_with fail
      refine (sOk_any _ _ _).mono ?_
      rintro e w1 ⟨rfl, hbl⟩
      have hz : w.heap.size < w1.heap.size := by (have := hbl.size; simp at this; omega)
      have B1 : Below w.heap.size w w1 := ((Below.refl _ _).alloc (Nat.le_refl _) _).trans (hbl.mono (by simp))
      have c0 : w1.cell? ⟨w.heap.size, 0, none⟩ = some (.int .i64 a) := by
        rw [(bcell hbl).1 _ _ (by simp)]; simp [go_sem]
      have c1 : w1.cell? ⟨w.heap.size, 1, none⟩ = some (.int .i64 b) := by
        rw [(bcell hbl).1 _ _ (by simp)]; simp [go_sem]
      clear hbl
      go_wp2
      go_ret
      exact ⟨rfl, B1⟩
    · rw [flo_at h g]
      have g2 : ¬ a.tmod b < 0 := fun k => g ((rem_neg a b).mp k)
      go_enter Try.func37, Try.ntmps37
      go_wp2_with fail
      refine (sOk_any _ _ _).mono ?_
      rintro e w1 ⟨rfl, hbl⟩
      have hz : w.heap.size < w1.heap.size := by (have := hbl.size; simp at this; omega)
      have B1 : Below w.heap.size w w1 := ((Below.refl _ _).alloc (Nat.le_refl _) _).trans (hbl.mono (by simp))
      have c0 : w1.cell? ⟨w.heap.size, 0, none⟩ = some (.int .i64 a) := by
        rw [(bcell hbl).1 _ _ (by simp)]; simp [go_sem]
      have c1 : w1.cell? ⟨w.heap.size, 1, none⟩ = some (.int .i64 b) := by
        rw [(bcell hbl).1 _ _ (by simp)]; simp [go_sem]
      clear hbl
      go_wp2
      go_ret
      exact ⟨rfl, B1⟩
  · rw [Bool.not_eq_true] at h
    rw [flo_no h]
    go_enter Try.func37, Try.ntmps37
    go_wp2_with fail
    refine (sOk_any _ _ _).mono ?_
    rintro e w1 ⟨rfl, hbl⟩
    have B1 : Below w.heap.size w w1 := ((Below.refl _ _).alloc (Nat.le_refl _) _).trans (hbl.mono (by simp))
    go_wp2
    go_ret
    exact ⟨rfl, B1⟩

set_option maxHeartbeats 800000 in
theorem iFloor_any (a b : Int) (w : World) :
    Calls Try.prog 62 #[.agg #[.int .i64 a, .int .i64 b]] w fun e w' => e = .returned (.int .i64 (floI a b)) ∧ Below w.heap.size w w' := by
  by_cases h : okB a b = true
  · obtain ⟨h1, h2, h3, h4, _⟩ := okB_out h
    have b1 := tdiv_bd a b 1000000000 h3 h4
    have b2 := tdm_bd a b 1000000000 h3 h4
    obtain ⟨b1a, b1b⟩ := b1
    obtain ⟨b2a, b2b⟩ := b2
    have hb0 : ¬ b = 0 := by omega
    by_cases g : a < a.tdiv b * b
    · rw [flo_up h g]
      have g2 := (rem_neg a b).mpr g
      go_enter Try.func62, Try.ntmps62
      go_wp2_with fail
      refine (right_any _ _ _).mono ?_
      rintro e w1 ⟨rfl, hbl⟩
      have hz : w.heap.size < w1.heap.size := by (have := hbl.size; simp at this; omega)
      have B1 : Below w.heap.size w w1 := ((Below.refl _ _).alloc (Nat.le_refl _) _).trans (hbl.mono (by simp))
      have c0 : w1.cell? ⟨w.heap.size, 0, none⟩ = some (.int .i64 a) := by
        rw [(bcell hbl).1 _ _ (by simp)]; simp [go_sem]
      have c1 : w1.cell? ⟨w.heap.size, 1, none⟩ = some (.int .i64 b) := by
        rw [(bcell hbl).1 _ _ (by simp)]; simp [go_sem]
      clear hbl
      go_wp2
      go_ret
      exact ⟨rfl, B1⟩
    · rw [flo_at h g]
      have g2 : ¬ a.tmod b < 0 := fun k => g ((rem_neg a b).mp k)
      go_enter Try.func62, Try.ntmps62
      go_wp2_with fail
      refine (right_any _ _ _).mono ?_
      rintro e w1 ⟨rfl, hbl⟩
      have hz : w.heap.size < w1.heap.size := by (have := hbl.size; simp at this; omega)
      have B1 : Below w.heap.size w w1 := ((Below.refl _ _).alloc (Nat.le_refl _) _).trans (hbl.mono (by simp))
      have c0 : w1.cell? ⟨w.heap.size, 0, none⟩ = some (.int .i64 a) := by
        rw [(bcell hbl).1 _ _ (by simp)]; simp [go_sem]
      have c1 : w1.cell? ⟨w.heap.size, 1, none⟩ = some (.int .i64 b) := by
        rw [(bcell hbl).1 _ _ (by simp)]; simp [go_sem]
      clear hbl
      go_wp2
      go_ret
      exact ⟨rfl, B1⟩
  · rw [Bool.not_eq_true] at h
    rw [flo_no h]
    go_enter Try.func62, Try.ntmps62
    go_wp2_with fail
    refine (right_any _ _ _).mono ?_
    rintro e w1 ⟨rfl, hbl⟩
    have B1 : Below w.heap.size w w1 := ((Below.refl _ _).alloc (Nat.le_refl _) _).trans (hbl.mono (by simp))
    go_wp2
    go_ret
    exact ⟨rfl, B1⟩
end Go.Proofs.Ytkcdpjcfbpjkeai
