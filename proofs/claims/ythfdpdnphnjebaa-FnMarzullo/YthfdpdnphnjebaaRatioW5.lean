/- The walks of the program's own reckonings: each step is a method value that one helper calls. -/
import Derived.Test.YthfdpdnphnjebaaRatioW4
namespace Go.Proofs.Ythfdpdnphnjebaa
open Go.RowKit Go.Proofs.Ythfdpdnphnjebaa.RM

set_option maxHeartbeats 800000 in
theorem sLess_any (a b c d : Int) (w : World) :
    Calls Try.prog 27 #[.agg #[.int .i64 a, .int .i64 b], .agg #[.int .i64 c, .int .i64 d]] w fun e w' => e = .returned (.bool (lessB a b c d)) ∧ Below w.heap.size w w' := by
  by_cases h : two a b c d = true
  · obtain ⟨⟨g1, g2⟩, ⟨g3, g4⟩, _, _, _⟩ := prods h
    have hh := two_out h
    obtain ⟨h1, h2⟩ := hh
    by_cases hl : a * d < c * b
    all_goals
      go_enter Try.func27, Try.ntmps27
      go_wp2_with fail
      refine (sTwo_any _ _ _ _ _).mono ?_
      rintro e w1 ⟨rfl, hbl⟩
      have hz : w.heap.size + 1 < w1.heap.size := by (have := hbl.size; simp at this; omega)
      have B1 : Below w.heap.size w w1 := (((Below.refl _ _).alloc (Nat.le_refl _) _).alloc (by simp <;> omega) _).trans (hbl.mono (by simp <;> omega))
      have c0 : w1.cell? ⟨w.heap.size, 0, none⟩ = some (.int .i64 a) := by
        rw [(bcell hbl).1 _ _ (by simp <;> omega)]; simp [go_sem]
      have c1 : w1.cell? ⟨w.heap.size, 1, none⟩ = some (.int .i64 b) := by
        rw [(bcell hbl).1 _ _ (by simp <;> omega)]; simp [go_sem]
      have c2 : w1.cell? ⟨w.heap.size + 1, 0, none⟩ = some (.int .i64 c) := by
        rw [(bcell hbl).1 _ _ (by simp <;> omega)]; simp [go_sem]
      have c3 : w1.cell? ⟨w.heap.size + 1, 1, none⟩ = some (.int .i64 d) := by
        rw [(bcell hbl).1 _ _ (by simp <;> omega)]; simp [go_sem]
      clear hbl
      go_wp2
      go_ret
      exact ⟨ret_bool (by unfold lessB; rw [h]; simp <;> omega), B1⟩
  · rw [Bool.not_eq_true] at h
    go_enter Try.func27, Try.ntmps27
    go_wp2_with fail
    refine (sTwo_any _ _ _ _ _).mono ?_
    rintro e w1 ⟨rfl, hbl⟩
    have B1 : Below w.heap.size w w1 := (((Below.refl _ _).alloc (Nat.le_refl _) _).alloc (by simp <;> omega) _).trans (hbl.mono (by simp <;> omega))
    clear hbl
    go_wp2
    go_ret
    exact ⟨ret_bool (by unfold lessB; rw [h]; rfl), B1⟩

set_option maxHeartbeats 800000 in
theorem iLess_any (a b c d : Int) (w : World) :
    Calls Try.prog 14 #[.agg #[.int .i64 a, .int .i64 b], .agg #[.int .i64 c, .int .i64 d]] w fun e w' => e = .returned (.bool (lessB a b c d)) ∧ Below w.heap.size w w' := by
  by_cases h : two a b c d = true
  · obtain ⟨⟨g1, g2⟩, ⟨g3, g4⟩, _, _, _⟩ := prods h
    have hh := two_out h
    obtain ⟨h1, h2⟩ := hh
    by_cases hl : a * d < c * b
    all_goals
      go_enter Try.func14, Try.ntmps14
      go_wp2_with fail
      refine (right_any _ _ _).mono ?_
      rintro e w1 ⟨rfl, hbl⟩
      have hz : w.heap.size + 1 < w1.heap.size := by (have := hbl.size; simp at this; omega)
      have B1 : Below w.heap.size w w1 := (((Below.refl _ _).alloc (Nat.le_refl _) _).alloc (by simp <;> omega) _).trans (hbl.mono (by simp <;> omega))
      have c0 : w1.cell? ⟨w.heap.size, 0, none⟩ = some (.int .i64 a) := by
        rw [(bcell hbl).1 _ _ (by simp <;> omega)]; simp [go_sem]
      have c1 : w1.cell? ⟨w.heap.size, 1, none⟩ = some (.int .i64 b) := by
        rw [(bcell hbl).1 _ _ (by simp <;> omega)]; simp [go_sem]
      have c2 : w1.cell? ⟨w.heap.size + 1, 0, none⟩ = some (.int .i64 c) := by
        rw [(bcell hbl).1 _ _ (by simp <;> omega)]; simp [go_sem]
      have c3 : w1.cell? ⟨w.heap.size + 1, 1, none⟩ = some (.int .i64 d) := by
        rw [(bcell hbl).1 _ _ (by simp <;> omega)]; simp [go_sem]
      clear hbl
      go_wp2_with fail
      refine (right_any _ _ _).mono ?_
      rintro e w2 ⟨rfl, hbl2⟩
      have hz2 : w.heap.size + 1 < w2.heap.size := by (have := hbl2.size; omega)
      replace B1 := B1.trans (hbl2.mono (by omega))
      have d0 : w2.cell? ⟨w.heap.size, 0, none⟩ = some (.int .i64 a) := by
        rw [(bcell hbl2).1 _ _ (by omega)]; exact c0
      have d1 : w2.cell? ⟨w.heap.size, 1, none⟩ = some (.int .i64 b) := by
        rw [(bcell hbl2).1 _ _ (by omega)]; exact c1
      have d2 : w2.cell? ⟨w.heap.size + 1, 0, none⟩ = some (.int .i64 c) := by
        rw [(bcell hbl2).1 _ _ (by omega)]; exact c2
      have d3 : w2.cell? ⟨w.heap.size + 1, 1, none⟩ = some (.int .i64 d) := by
        rw [(bcell hbl2).1 _ _ (by omega)]; exact c3
      clear c0 c1 c2 c3 hbl2 hz
      go_wp2
      go_ret
      exact ⟨ret_bool (by unfold lessB; rw [h]; simp <;> omega), B1⟩
  · rw [Bool.not_eq_true] at h
    by_cases h1 : okB a b = true
    · have h2 : okB c d = false := by
        have h2 : ¬ okB c d = true := fun k => by (rw [two_yes h1 k] at h; cases h)
        simpa using h2
      have H : Hid (two a b c d = false) := h
      clear h
      go_enter Try.func14, Try.ntmps14
      go_wp2_with fail
      refine (right_any _ _ _).mono ?_
      rintro e w1 ⟨rfl, hbl⟩
      have hz : w.heap.size + 1 < w1.heap.size := by (have := hbl.size; simp at this; omega)
      have B1 : Below w.heap.size w w1 := (((Below.refl _ _).alloc (Nat.le_refl _) _).alloc (by simp <;> omega) _).trans (hbl.mono (by simp <;> omega))
      have c0 : w1.cell? ⟨w.heap.size, 0, none⟩ = some (.int .i64 a) := by
        rw [(bcell hbl).1 _ _ (by simp <;> omega)]; simp [go_sem]
      have c1 : w1.cell? ⟨w.heap.size, 1, none⟩ = some (.int .i64 b) := by
        rw [(bcell hbl).1 _ _ (by simp <;> omega)]; simp [go_sem]
      have c2 : w1.cell? ⟨w.heap.size + 1, 0, none⟩ = some (.int .i64 c) := by
        rw [(bcell hbl).1 _ _ (by simp <;> omega)]; simp [go_sem]
      have c3 : w1.cell? ⟨w.heap.size + 1, 1, none⟩ = some (.int .i64 d) := by
        rw [(bcell hbl).1 _ _ (by simp <;> omega)]; simp [go_sem]
      clear hbl
      go_wp2_with fail
      refine (right_any _ _ _).mono ?_
      rintro e w2 ⟨rfl, hbl2⟩
      replace B1 := B1.trans (hbl2.mono (by omega))
      clear hbl2
      go_wp2
      go_ret
      exact ⟨ret_bool (by unfold lessB; rw [H.out]; rfl), B1⟩
    · rw [Bool.not_eq_true] at h1
      have H : Hid (two a b c d = false) := h
      clear h
      go_enter Try.func14, Try.ntmps14
      go_wp2_with fail
      refine (right_any _ _ _).mono ?_
      rintro e w1 ⟨rfl, hbl⟩
      have B1 : Below w.heap.size w w1 := (((Below.refl _ _).alloc (Nat.le_refl _) _).alloc (by simp <;> omega) _).trans (hbl.mono (by simp <;> omega))
      clear hbl
      go_wp2
      go_ret
      exact ⟨ret_bool (by unfold lessB; rw [H.out]; rfl), B1⟩
end Go.Proofs.Ythfdpdnphnjebaa
