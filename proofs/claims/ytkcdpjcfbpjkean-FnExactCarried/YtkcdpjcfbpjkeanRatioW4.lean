/- The walks of the reckonings of two fractions, the model's and the program's (method values handed to one helper). -/
import Derived.Test.YtkcdpjcfbpjkeanRatioW3
import Derived.Deep.RegionWith
namespace Go.Proofs.Ytkcdpjcfbpjkean
open Go.RowKit Go.Proofs.Ytkcdpjcfbpjkean.RM

/-- what the walk is told of the two fractions whose products it takes -/
theorem prods {a b c d : Int} (h : two a b c d = true) :
    (-1000000000000000000 ≤ a * d ∧ a * d ≤ 1000000000000000000) ∧ (-1000000000000000000 ≤ c * b ∧ c * b ≤ 1000000000000000000) ∧ (-1000000000000000000 ≤ b * d ∧ b * d ≤ 1000000000000000000) ∧ (-1000000000000000000 ≤ a * c ∧ a * c ≤ 1000000000000000000) ∧ (-1000000000000000000 ≤ b * c ∧ b * c ≤ 1000000000000000000) := by
  obtain ⟨h1, h2⟩ := two_out h
  obtain ⟨p1, p2, p3, p4, _⟩ := okB_out h1
  obtain ⟨q1, q2, q3, q4, _⟩ := okB_out h2
  exact ⟨mul_bd a d p3 p4 (by omega) q2, mul_bd c b q3 q4 (by omega) p2, mul_bd b d (by omega) p2 (by omega) q2, mul_bd a c p3 p4 q3 q4, mul_bd b c (by omega) p2 q3 q4⟩

theorem eq_same (n d : Int) (w : World) :
    Calls Try.prog 18 #[.agg #[.int .i64 n, .int .i64 d], .agg #[.int .i64 n, .int .i64 d]] w fun e w' => e = .returned (.bool true) ∧ Below w.heap.size w w' := by
  have e1 : (n != n) = false := by simp
  have e2 : (d != d) = false := by simp
  go_enter Try.func18, Try.ntmps18
  go_wp2
  go_ret
  exact ⟨rfl, ((Below.refl _ _).alloc (Nat.le_refl _) _).alloc (by simp <;> omega) _⟩

theorem to_any (n d : Int) (w : World) :
    Calls Try.prog 39 #[.agg #[.int .i64 n, .int .i64 d]] w fun e w' => e = .returned (.agg #[.int .i64 n, .int .i64 d]) ∧ Below w.heap.size w w' := by
  go_enter Try.func39, Try.ntmps39
  go_wp2
  refine bodyPost_ret (v := .agg #[.int .i64 n, .int .i64 d]) (by simp [results, Try.results39, go_sem]) rfl ⟨rfl, ?_⟩
  repeat (first | exact Below.refl _ _ | (refine Below.setCell ?_ (by simp <;> omega) _) | (refine Below.alloc ?_ (by simp <;> omega) _))

theorem sTwo_any (a b c d : Int) (w : World) :
    Calls Try.prog 68 #[.agg #[.int .i64 a, .int .i64 b], .agg #[.int .i64 c, .int .i64 d]] w fun e w' => e = .returned (.bool (two a b c d)) ∧ Below w.heap.size w w' := by
  by_cases h1 : okB a b = true
  · by_cases h2 : okB c d = true
    all_goals
      try rw [Bool.not_eq_true] at h2
      go_enter Try.func68, Try.ntmps68
      go_wp2_with fail
      refine (sOk_any _ _ _).mono ?_
      rintro e w1 ⟨rfl, hbl⟩
      obtain ⟨hc, hf⟩ := bcell hbl
      go_wp2_with fail
      refine (sOk_any _ _ _).mono ?_
      rintro e w2 ⟨rfl, hbl2⟩
      clear hc hf
      have B : Below w.heap.size w w2 := ((((Below.refl _ _).alloc (Nat.le_refl _) _).alloc (by simp <;> omega) _).trans (hbl.mono (by simp <;> omega))).trans (hbl2.mono (by have := hbl.size; simp at this; omega))
      go_wp2
      go_ret
      exact ⟨ret_bool (by unfold two; rw [h1, h2]; rfl), B⟩
  · rw [Bool.not_eq_true] at h1
    go_enter Try.func68, Try.ntmps68
    go_wp2_with fail
    refine (sOk_any _ _ _).mono ?_
    rintro e w1 ⟨rfl, hbl⟩
    have B : Below w.heap.size w w1 := (((Below.refl _ _).alloc (Nat.le_refl _) _).alloc (by simp <;> omega) _).trans (hbl.mono (by simp <;> omega))
    go_wp2
    go_ret
    exact ⟨ret_bool (by unfold two; rw [h1]; rfl), B⟩

set_option maxHeartbeats 800000 in
theorem sAdd_any (a b c d : Int) (w : World) :
    Calls Try.prog 60 #[.agg #[.int .i64 a, .int .i64 b], .agg #[.int .i64 c, .int .i64 d]] w fun e w' => e = .returned (.tuple #[.agg #[.int .i64 (opN (two a b c d) (a * d + c * b) (b * d)), .int .i64 (opD (two a b c d) (a * d + c * b) (b * d))], .bool (opOk (two a b c d) (a * d + c * b) (b * d))]) ∧ Below w.heap.size w w' := by
  by_cases h : two a b c d = true
  · obtain ⟨⟨g1, g2⟩, ⟨g3, g4⟩, ⟨g5, g6⟩, ⟨g7, g8⟩, ⟨g9, g10⟩⟩ := prods h
    have hu := op_yes (a * d + c * b) (b * d)
    obtain ⟨u1, u2, u3⟩ := hu
    have goal2 : Calls Try.prog 60 #[.agg #[.int .i64 a, .int .i64 b], .agg #[.int .i64 c, .int .i64 d]] w fun e w' => e = .returned (.tuple #[.agg #[.int .i64 (redN (a * d + c * b) (b * d)), .int .i64 (redD (a * d + c * b) (b * d))], .bool (redOk (a * d + c * b) (b * d))]) ∧ Below w.heap.size w w' := by
      clear u1 u2 u3
      go_enter Try.func60, Try.ntmps60
      go_wp2_with fail
      refine (sTwo_any _ _ _ _ _).mono ?_
      rintro e w1 ⟨rfl, hbl⟩
      have hz : w.heap.size + 2 < w1.heap.size := by (have := hbl.size; simp at this; omega)
      have B1 : Below w.heap.size w w1 := ((((Below.refl _ _).alloc (Nat.le_refl _) _).alloc (by simp <;> omega) _).alloc (by simp <;> omega) _).trans (hbl.mono (by simp <;> omega))
      have c0 : w1.cell? ⟨w.heap.size, 0, none⟩ = some (.int .i64 a) := by
        rw [(bcell hbl).1 _ _ (by simp <;> omega)]; simp [go_sem]
      have c1 : w1.cell? ⟨w.heap.size, 1, none⟩ = some (.int .i64 b) := by
        rw [(bcell hbl).1 _ _ (by simp <;> omega)]; simp [go_sem]
      have c2 : w1.cell? ⟨w.heap.size + 1, 0, none⟩ = some (.int .i64 c) := by
        rw [(bcell hbl).1 _ _ (by simp <;> omega)]; simp [go_sem]
      have c3 : w1.cell? ⟨w.heap.size + 1, 1, none⟩ = some (.int .i64 d) := by
        rw [(bcell hbl).1 _ _ (by simp <;> omega)]; simp [go_sem]
      have c4 : w1.cell? ⟨w.heap.size + 2, 0, none⟩ = some (.int .i64 0) := by
        rw [(bcell hbl).1 _ _ (by simp <;> omega)]; simp [go_sem]
      have c5 : w1.cell? ⟨w.heap.size + 2, 1, none⟩ = some (.int .i64 0) := by
        rw [(bcell hbl).1 _ _ (by simp <;> omega)]; simp [go_sem]
      have f0 : w1.frozen? ⟨w.heap.size + 2, 0, none⟩ = false := by
        rw [(bcell hbl).2 _ _ (by simp <;> omega)]; simp [go_sem]
      have f1 : w1.frozen? ⟨w.heap.size + 2, 1, none⟩ = false := by
        rw [(bcell hbl).2 _ _ (by simp <;> omega)]; simp [go_sem]
      clear hbl
      go_wp2_with fail
      refine (sRed_any _ _ _).mono ?_
      rintro e w2 ⟨rfl, hbl2⟩
      have hz2 : w.heap.size + 2 < w2.heap.size := by (have := hbl2.size; omega)
      have B2 := B1.trans (hbl2.mono (by omega))
      have d4 : w2.cell? ⟨w.heap.size + 2, 0, none⟩ = some (.int .i64 0) := by
        rw [(bcell hbl2).1 _ _ (by omega)]; exact c4
      have d5 : w2.cell? ⟨w.heap.size + 2, 1, none⟩ = some (.int .i64 0) := by
        rw [(bcell hbl2).1 _ _ (by omega)]; exact c5
      have k0 : w2.frozen? ⟨w.heap.size + 2, 0, none⟩ = false := by
        rw [(bcell hbl2).2 _ _ (by omega)]; exact f0
      have k1 : w2.frozen? ⟨w.heap.size + 2, 1, none⟩ = false := by
        rw [(bcell hbl2).2 _ _ (by omega)]; exact f1
      clear c0 c1 c2 c3 c4 c5 f0 f1 hbl2 B1 hz h
      go_wp2
      exact bodyPost_ret (v := .tuple #[.agg #[.int .i64 (redN (a * d + c * b) (b * d)), .int .i64 (redD (a * d + c * b) (b * d))], .bool (redOk (a * d + c * b) (b * d))]) (by simp [results, Try.results60, go_sem, d4, d5]) rfl ⟨rfl, (B2.setCell (by simp <;> omega) _).setCell (by simp <;> omega) _⟩
    rw [h, u1, u2, u3]
    exact goal2
  · rw [Bool.not_eq_true] at h
    have hu := op_no (a * d + c * b) (b * d)
    obtain ⟨u1, u2, u3⟩ := hu
    rw [h, u1, u2, u3]
    clear u1 u2 u3
    go_enter Try.func60, Try.ntmps60
    go_wp2_with fail
    refine (sTwo_any _ _ _ _ _).mono ?_
    rintro e w1 ⟨rfl, hbl⟩
    have hz : w.heap.size + 2 < w1.heap.size := by (have := hbl.size; simp at this; omega)
    have B1 : Below w.heap.size w w1 := ((((Below.refl _ _).alloc (Nat.le_refl _) _).alloc (by simp <;> omega) _).alloc (by simp <;> omega) _).trans (hbl.mono (by simp <;> omega))
    have c4 : w1.cell? ⟨w.heap.size + 2, 0, none⟩ = some (.int .i64 0) := by
      rw [(bcell hbl).1 _ _ (by simp <;> omega)]; simp [go_sem]
    have c5 : w1.cell? ⟨w.heap.size + 2, 1, none⟩ = some (.int .i64 0) := by
      rw [(bcell hbl).1 _ _ (by simp <;> omega)]; simp [go_sem]
    have f0 : w1.frozen? ⟨w.heap.size + 2, 0, none⟩ = false := by
      rw [(bcell hbl).2 _ _ (by simp <;> omega)]; simp [go_sem]
    have f1 : w1.frozen? ⟨w.heap.size + 2, 1, none⟩ = false := by
      rw [(bcell hbl).2 _ _ (by simp <;> omega)]; simp [go_sem]
    clear hbl
    go_wp2
    exact bodyPost_ret (v := .tuple #[.agg #[.int .i64 0, .int .i64 0], .bool false]) (by simp [results, Try.results60, go_sem, c4, c5]) rfl ⟨rfl, (B1.setCell (by simp <;> omega) _).setCell (by simp <;> omega) _⟩

set_option maxHeartbeats 800000 in
theorem sMul_any (a b c d : Int) (w : World) :
    Calls Try.prog 62 #[.agg #[.int .i64 a, .int .i64 b], .agg #[.int .i64 c, .int .i64 d]] w fun e w' => e = .returned (.tuple #[.agg #[.int .i64 (opN (two a b c d) (a * c) (b * d)), .int .i64 (opD (two a b c d) (a * c) (b * d))], .bool (opOk (two a b c d) (a * c) (b * d))]) ∧ Below w.heap.size w w' := by
  by_cases h : two a b c d = true
  · obtain ⟨⟨g1, g2⟩, ⟨g3, g4⟩, ⟨g5, g6⟩, ⟨g7, g8⟩, ⟨g9, g10⟩⟩ := prods h
    have hu := op_yes (a * c) (b * d)
    obtain ⟨u1, u2, u3⟩ := hu
    have goal2 : Calls Try.prog 62 #[.agg #[.int .i64 a, .int .i64 b], .agg #[.int .i64 c, .int .i64 d]] w fun e w' => e = .returned (.tuple #[.agg #[.int .i64 (redN (a * c) (b * d)), .int .i64 (redD (a * c) (b * d))], .bool (redOk (a * c) (b * d))]) ∧ Below w.heap.size w w' := by
      clear u1 u2 u3
      go_enter Try.func62, Try.ntmps62
      go_wp2_with fail
      refine (sTwo_any _ _ _ _ _).mono ?_
      rintro e w1 ⟨rfl, hbl⟩
      have hz : w.heap.size + 2 < w1.heap.size := by (have := hbl.size; simp at this; omega)
      have B1 : Below w.heap.size w w1 := ((((Below.refl _ _).alloc (Nat.le_refl _) _).alloc (by simp <;> omega) _).alloc (by simp <;> omega) _).trans (hbl.mono (by simp <;> omega))
      have c0 : w1.cell? ⟨w.heap.size, 0, none⟩ = some (.int .i64 a) := by
        rw [(bcell hbl).1 _ _ (by simp <;> omega)]; simp [go_sem]
      have c1 : w1.cell? ⟨w.heap.size, 1, none⟩ = some (.int .i64 b) := by
        rw [(bcell hbl).1 _ _ (by simp <;> omega)]; simp [go_sem]
      have c2 : w1.cell? ⟨w.heap.size + 1, 0, none⟩ = some (.int .i64 c) := by
        rw [(bcell hbl).1 _ _ (by simp <;> omega)]; simp [go_sem]
      have c3 : w1.cell? ⟨w.heap.size + 1, 1, none⟩ = some (.int .i64 d) := by
        rw [(bcell hbl).1 _ _ (by simp <;> omega)]; simp [go_sem]
      have c4 : w1.cell? ⟨w.heap.size + 2, 0, none⟩ = some (.int .i64 0) := by
        rw [(bcell hbl).1 _ _ (by simp <;> omega)]; simp [go_sem]
      have c5 : w1.cell? ⟨w.heap.size + 2, 1, none⟩ = some (.int .i64 0) := by
        rw [(bcell hbl).1 _ _ (by simp <;> omega)]; simp [go_sem]
      have f0 : w1.frozen? ⟨w.heap.size + 2, 0, none⟩ = false := by
        rw [(bcell hbl).2 _ _ (by simp <;> omega)]; simp [go_sem]
      have f1 : w1.frozen? ⟨w.heap.size + 2, 1, none⟩ = false := by
        rw [(bcell hbl).2 _ _ (by simp <;> omega)]; simp [go_sem]
      clear hbl
      go_wp2_with fail
      refine (sRed_any _ _ _).mono ?_
      rintro e w2 ⟨rfl, hbl2⟩
      have hz2 : w.heap.size + 2 < w2.heap.size := by (have := hbl2.size; omega)
      have B2 := B1.trans (hbl2.mono (by omega))
      have d4 : w2.cell? ⟨w.heap.size + 2, 0, none⟩ = some (.int .i64 0) := by
        rw [(bcell hbl2).1 _ _ (by omega)]; exact c4
      have d5 : w2.cell? ⟨w.heap.size + 2, 1, none⟩ = some (.int .i64 0) := by
        rw [(bcell hbl2).1 _ _ (by omega)]; exact c5
      have k0 : w2.frozen? ⟨w.heap.size + 2, 0, none⟩ = false := by
        rw [(bcell hbl2).2 _ _ (by omega)]; exact f0
      have k1 : w2.frozen? ⟨w.heap.size + 2, 1, none⟩ = false := by
        rw [(bcell hbl2).2 _ _ (by omega)]; exact f1
      clear c0 c1 c2 c3 c4 c5 f0 f1 hbl2 B1 hz h
      go_wp2
      exact bodyPost_ret (v := .tuple #[.agg #[.int .i64 (redN (a * c) (b * d)), .int .i64 (redD (a * c) (b * d))], .bool (redOk (a * c) (b * d))]) (by simp [results, Try.results62, go_sem, d4, d5]) rfl ⟨rfl, (B2.setCell (by simp <;> omega) _).setCell (by simp <;> omega) _⟩
    rw [h, u1, u2, u3]
    exact goal2
  · rw [Bool.not_eq_true] at h
    have hu := op_no (a * c) (b * d)
    obtain ⟨u1, u2, u3⟩ := hu
    rw [h, u1, u2, u3]
    clear u1 u2 u3
    go_enter Try.func62, Try.ntmps62
    go_wp2_with fail
    refine (sTwo_any _ _ _ _ _).mono ?_
    rintro e w1 ⟨rfl, hbl⟩
    have hz : w.heap.size + 2 < w1.heap.size := by (have := hbl.size; simp at this; omega)
    have B1 : Below w.heap.size w w1 := ((((Below.refl _ _).alloc (Nat.le_refl _) _).alloc (by simp <;> omega) _).alloc (by simp <;> omega) _).trans (hbl.mono (by simp <;> omega))
    have c4 : w1.cell? ⟨w.heap.size + 2, 0, none⟩ = some (.int .i64 0) := by
      rw [(bcell hbl).1 _ _ (by simp <;> omega)]; simp [go_sem]
    have c5 : w1.cell? ⟨w.heap.size + 2, 1, none⟩ = some (.int .i64 0) := by
      rw [(bcell hbl).1 _ _ (by simp <;> omega)]; simp [go_sem]
    have f0 : w1.frozen? ⟨w.heap.size + 2, 0, none⟩ = false := by
      rw [(bcell hbl).2 _ _ (by simp <;> omega)]; simp [go_sem]
    have f1 : w1.frozen? ⟨w.heap.size + 2, 1, none⟩ = false := by
      rw [(bcell hbl).2 _ _ (by simp <;> omega)]; simp [go_sem]
    clear hbl
    go_wp2
    exact bodyPost_ret (v := .tuple #[.agg #[.int .i64 0, .int .i64 0], .bool false]) (by simp [results, Try.results62, go_sem, c4, c5]) rfl ⟨rfl, (B1.setCell (by simp <;> omega) _).setCell (by simp <;> omega) _⟩

end Go.Proofs.Ytkcdpjcfbpjkean
