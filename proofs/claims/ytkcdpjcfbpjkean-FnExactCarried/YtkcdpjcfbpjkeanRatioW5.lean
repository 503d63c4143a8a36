/- The walks of the program's own reckonings: each step is a method value that one helper calls. -/
import Derived.Test.YtkcdpjcfbpjkeanRatioW4
namespace Go.Proofs.Ytkcdpjcfbpjkean
open Go.RowKit Go.Proofs.Ytkcdpjcfbpjkean.RM

set_option maxHeartbeats 800000 in
theorem reckoned_no (a b c d : Int) (f : Value) (w : World) (h : two a b c d = false) :
    Calls Try.prog 70 #[.agg #[.int .i64 a, .int .i64 b], f, .agg #[.int .i64 c, .int .i64 d]] w fun e w' => e = .returned (.tuple #[.agg #[.int .i64 0, .int .i64 0], .bool false]) ∧ Below w.heap.size w w' := by
  by_cases h1 : okB a b = true
  · have h2 : okB c d = false := by
      have h2 : ¬ okB c d = true := fun k => by (rw [two_yes h1 k] at h; cases h)
      simpa using h2
    clear h
    go_enter Try.func70, Try.ntmps70
    go_wp2_with fail
    refine (right_any _ _ _).mono ?_
    rintro e w1 ⟨rfl, hbl⟩
    have hz : w.heap.size + 2 < w1.heap.size := by (have := hbl.size; simp at this; omega)
    have B1 : Below w.heap.size w w1 := ((((Below.refl _ _).alloc (Nat.le_refl _) _).alloc (by simp <;> omega) _).alloc (by simp <;> omega) _).trans (hbl.mono (by simp <;> omega))
    have c0 : w1.cell? ⟨w.heap.size, 0, none⟩ = some (.int .i64 a) := by
      rw [(bcell hbl).1 _ _ (by simp <;> omega)]; simp [go_sem]
    have c1 : w1.cell? ⟨w.heap.size, 1, none⟩ = some (.int .i64 b) := by
      rw [(bcell hbl).1 _ _ (by simp <;> omega)]; simp [go_sem]
    have c2 : w1.cell? ⟨w.heap.size + 1, 0, none⟩ = some (.int .i64 c) := by
      rw [(bcell hbl).1 _ _ (by simp <;> omega)]; simp [go_sem]
    have c3 : w1.cell? ⟨w.heap.size + 1, 1, none⟩ = some (.int .i64 d) := by
      rw [(bcell hbl).1 _ _ (by simp <;> omega)]; simp [go_sem]
    have c4 : w1.cell? ⟨w.heap.size + 2, 0, none⟩ = some (.int .i64 0) := by
      rw [(bcell hbl).1 _ _ (by simp <;> omega)]; simp [go_sem]
    have c5 : w1.cell? ⟨w.heap.size + 2, 1, none⟩ = some (.int .i64 0) := by
      rw [(bcell hbl).1 _ _ (by simp <;> omega)]; simp [go_sem]
    have f0 : w1.frozen? ⟨w.heap.size + 2, 0, none⟩ = false := by
      rw [(bcell hbl).2 _ _ (by simp <;> omega)]; simp [go_sem]
    have f1 : w1.frozen? ⟨w.heap.size + 2, 1, none⟩ = false := by
      rw [(bcell hbl).2 _ _ (by simp <;> omega)]; simp [go_sem]
    clear hbl
    go_wp2_with fail
    refine (right_any _ _ _).mono ?_
    rintro e w2 ⟨rfl, hbl2⟩
    have hz2 : w.heap.size + 2 < w2.heap.size := by (have := hbl2.size; omega)
    have B2 := B1.trans (hbl2.mono (by omega))
    have d4 : w2.cell? ⟨w.heap.size + 2, 0, none⟩ = some (.int .i64 0) := by
      rw [(bcell hbl2).1 _ _ (by omega)]; exact c4
    have d5 : w2.cell? ⟨w.heap.size + 2, 1, none⟩ = some (.int .i64 0) := by
      rw [(bcell hbl2).1 _ _ (by omega)]; exact c5
    have k0 : w2.frozen? ⟨w.heap.size + 2, 0, none⟩ = false := by
      rw [(bcell hbl2).2 _ _ (by omega)]; exact f0
    have k1 : w2.frozen? ⟨w.heap.size + 2, 1, none⟩ = false := by
      rw [(bcell hbl2).2 _ _ (by omega)]; exact f1
    clear c0 c1 c2 c3 c4 c5 f0 f1 hbl2 B1 hz
    go_wp2
    exact bodyPost_ret (v := .tuple #[.agg #[.int .i64 0, .int .i64 0], .bool false]) (by simp [results, Try.results70, go_sem, d4, d5]) rfl ⟨rfl, (B2.setCell (by simp <;> omega) _).setCell (by simp <;> omega) _⟩
  · rw [Bool.not_eq_true] at h1
    clear h
    go_enter Try.func70, Try.ntmps70
    go_wp2_with fail
    refine (right_any _ _ _).mono ?_
    rintro e w1 ⟨rfl, hbl⟩
    have hz : w.heap.size + 2 < w1.heap.size := by (have := hbl.size; simp at this; omega)
    have B1 : Below w.heap.size w w1 := ((((Below.refl _ _).alloc (Nat.le_refl _) _).alloc (by simp <;> omega) _).alloc (by simp <;> omega) _).trans (hbl.mono (by simp <;> omega))
    have c0 : w1.cell? ⟨w.heap.size, 0, none⟩ = some (.int .i64 a) := by
      rw [(bcell hbl).1 _ _ (by simp <;> omega)]; simp [go_sem]
    have c1 : w1.cell? ⟨w.heap.size, 1, none⟩ = some (.int .i64 b) := by
      rw [(bcell hbl).1 _ _ (by simp <;> omega)]; simp [go_sem]
    have c2 : w1.cell? ⟨w.heap.size + 1, 0, none⟩ = some (.int .i64 c) := by
      rw [(bcell hbl).1 _ _ (by simp <;> omega)]; simp [go_sem]
    have c3 : w1.cell? ⟨w.heap.size + 1, 1, none⟩ = some (.int .i64 d) := by
      rw [(bcell hbl).1 _ _ (by simp <;> omega)]; simp [go_sem]
    have c4 : w1.cell? ⟨w.heap.size + 2, 0, none⟩ = some (.int .i64 0) := by
      rw [(bcell hbl).1 _ _ (by simp <;> omega)]; simp [go_sem]
    have c5 : w1.cell? ⟨w.heap.size + 2, 1, none⟩ = some (.int .i64 0) := by
      rw [(bcell hbl).1 _ _ (by simp <;> omega)]; simp [go_sem]
    have f0 : w1.frozen? ⟨w.heap.size + 2, 0, none⟩ = false := by
      rw [(bcell hbl).2 _ _ (by simp <;> omega)]; simp [go_sem]
    have f1 : w1.frozen? ⟨w.heap.size + 2, 1, none⟩ = false := by
      rw [(bcell hbl).2 _ _ (by simp <;> omega)]; simp [go_sem]
    clear hbl
    go_wp2
    exact bodyPost_ret (v := .tuple #[.agg #[.int .i64 0, .int .i64 0], .bool false]) (by simp [results, Try.results70, go_sem, c4, c5]) rfl ⟨rfl, (B1.setCell (by simp <;> omega) _).setCell (by simp <;> omega) _⟩

set_option maxHeartbeats 800000 in
theorem plus_any (a b c d : Int) (w : World) (h : two a b c d = true) :
    Calls Try.prog 72 #[.agg #[.int .i64 a, .int .i64 b], .agg #[.int .i64 c, .int .i64 d]] w fun e w' => e = .returned (.tuple #[.agg #[.int .i64 (redN (a * d + c * b) (b * d)), .int .i64 (redD (a * d + c * b) (b * d))], .bool (redOk (a * d + c * b) (b * d))]) ∧ Below w.heap.size w w' := by
  obtain ⟨⟨g1, g2⟩, ⟨g3, g4⟩, ⟨g5, g6⟩, ⟨g7, g8⟩, ⟨g9, g10⟩⟩ := prods h
  clear h
  go_enter Try.func72, Try.ntmps72
  go_wp2_with fail
  refine (iRed_any _ _ _).mono ?_
  rintro e w1 ⟨rfl, hbl⟩
  have hz : w.heap.size + 2 < w1.heap.size := by (have := hbl.size; simp at this; omega)
  have B1 : Below w.heap.size w w1 := ((((Below.refl _ _).alloc (Nat.le_refl _) _).alloc (by simp <;> omega) _).alloc (by simp <;> omega) _).trans (hbl.mono (by simp <;> omega))
  have c0 : w1.cell? ⟨w.heap.size, 0, none⟩ = some (.int .i64 a) := by
    rw [(bcell hbl).1 _ _ (by simp <;> omega)]; simp [go_sem]
  have c1 : w1.cell? ⟨w.heap.size, 1, none⟩ = some (.int .i64 b) := by
    rw [(bcell hbl).1 _ _ (by simp <;> omega)]; simp [go_sem]
  have c2 : w1.cell? ⟨w.heap.size + 1, 0, none⟩ = some (.int .i64 c) := by
    rw [(bcell hbl).1 _ _ (by simp <;> omega)]; simp [go_sem]
  have c3 : w1.cell? ⟨w.heap.size + 1, 1, none⟩ = some (.int .i64 d) := by
    rw [(bcell hbl).1 _ _ (by simp <;> omega)]; simp [go_sem]
  have c4 : w1.cell? ⟨w.heap.size + 2, 0, none⟩ = some (.int .i64 0) := by
    rw [(bcell hbl).1 _ _ (by simp <;> omega)]; simp [go_sem]
  have c5 : w1.cell? ⟨w.heap.size + 2, 1, none⟩ = some (.int .i64 0) := by
    rw [(bcell hbl).1 _ _ (by simp <;> omega)]; simp [go_sem]
  have f0 : w1.frozen? ⟨w.heap.size + 2, 0, none⟩ = false := by
    rw [(bcell hbl).2 _ _ (by simp <;> omega)]; simp [go_sem]
  have f1 : w1.frozen? ⟨w.heap.size + 2, 1, none⟩ = false := by
    rw [(bcell hbl).2 _ _ (by simp <;> omega)]; simp [go_sem]
  clear hbl
  go_wp2
  exact bodyPost_ret (v := .tuple #[.agg #[.int .i64 (redN (a * d + c * b) (b * d)), .int .i64 (redD (a * d + c * b) (b * d))], .bool (redOk (a * d + c * b) (b * d))]) (by simp [results, Try.results72, go_sem, c4, c5]) rfl ⟨rfl, (B1.setCell (by simp <;> omega) _).setCell (by simp <;> omega) _⟩

set_option maxHeartbeats 800000 in
theorem reckoned_plus (a b c d : Int) (w : World) (h : two a b c d = true) :
    Calls Try.prog 70 #[.agg #[.int .i64 a, .int .i64 b], .func (.func 72) #[.agg #[.int .i64 a, .int .i64 b]] #[], .agg #[.int .i64 c, .int .i64 d]] w fun e w' => e = .returned (.tuple #[.agg #[.int .i64 (redN (a * d + c * b) (b * d)), .int .i64 (redD (a * d + c * b) (b * d))], .bool (redOk (a * d + c * b) (b * d))]) ∧ Below w.heap.size w w' := by
  have hh := two_out h
  obtain ⟨h1, h2⟩ := hh
  have H : Hid (two a b c d = true) := h
  clear h
  go_enter Try.func70, Try.ntmps70
  go_wp2_with fail
  refine (right_any _ _ _).mono ?_
  rintro e w1 ⟨rfl, hbl⟩
  have hz : w.heap.size + 2 < w1.heap.size := by (have := hbl.size; simp at this; omega)
  have B1 : Below w.heap.size w w1 := ((((Below.refl _ _).alloc (Nat.le_refl _) _).alloc (by simp <;> omega) _).alloc (by simp <;> omega) _).trans (hbl.mono (by simp <;> omega))
  have c0 : w1.cell? ⟨w.heap.size, 0, none⟩ = some (.int .i64 a) := by
    rw [(bcell hbl).1 _ _ (by simp <;> omega)]; simp [go_sem]
  have c1 : w1.cell? ⟨w.heap.size, 1, none⟩ = some (.int .i64 b) := by
    rw [(bcell hbl).1 _ _ (by simp <;> omega)]; simp [go_sem]
  have c2 : w1.cell? ⟨w.heap.size + 1, 0, none⟩ = some (.int .i64 c) := by
    rw [(bcell hbl).1 _ _ (by simp <;> omega)]; simp [go_sem]
  have c3 : w1.cell? ⟨w.heap.size + 1, 1, none⟩ = some (.int .i64 d) := by
    rw [(bcell hbl).1 _ _ (by simp <;> omega)]; simp [go_sem]
  have c4 : w1.cell? ⟨w.heap.size + 2, 0, none⟩ = some (.int .i64 0) := by
    rw [(bcell hbl).1 _ _ (by simp <;> omega)]; simp [go_sem]
  have c5 : w1.cell? ⟨w.heap.size + 2, 1, none⟩ = some (.int .i64 0) := by
    rw [(bcell hbl).1 _ _ (by simp <;> omega)]; simp [go_sem]
  have f0 : w1.frozen? ⟨w.heap.size + 2, 0, none⟩ = false := by
    rw [(bcell hbl).2 _ _ (by simp <;> omega)]; simp [go_sem]
  have f1 : w1.frozen? ⟨w.heap.size + 2, 1, none⟩ = false := by
    rw [(bcell hbl).2 _ _ (by simp <;> omega)]; simp [go_sem]
  clear hbl
  go_wp2_with fail
  refine (right_any _ _ _).mono ?_
  rintro e w2 ⟨rfl, hbl2⟩
  have hz2 : w.heap.size + 2 < w2.heap.size := by (have := hbl2.size; omega)
  have B2 := B1.trans (hbl2.mono (by omega))
  have d0 : w2.cell? ⟨w.heap.size, 0, none⟩ = some (.int .i64 a) := by
    rw [(bcell hbl2).1 _ _ (by omega)]; exact c0
  have d1 : w2.cell? ⟨w.heap.size, 1, none⟩ = some (.int .i64 b) := by
    rw [(bcell hbl2).1 _ _ (by omega)]; exact c1
  have d2 : w2.cell? ⟨w.heap.size + 1, 0, none⟩ = some (.int .i64 c) := by
    rw [(bcell hbl2).1 _ _ (by omega)]; exact c2
  have d3 : w2.cell? ⟨w.heap.size + 1, 1, none⟩ = some (.int .i64 d) := by
    rw [(bcell hbl2).1 _ _ (by omega)]; exact c3
  have d4 : w2.cell? ⟨w.heap.size + 2, 0, none⟩ = some (.int .i64 0) := by
    rw [(bcell hbl2).1 _ _ (by omega)]; exact c4
  have d5 : w2.cell? ⟨w.heap.size + 2, 1, none⟩ = some (.int .i64 0) := by
    rw [(bcell hbl2).1 _ _ (by omega)]; exact c5
  have k0 : w2.frozen? ⟨w.heap.size + 2, 0, none⟩ = false := by
    rw [(bcell hbl2).2 _ _ (by omega)]; exact f0
  have k1 : w2.frozen? ⟨w.heap.size + 2, 1, none⟩ = false := by
    rw [(bcell hbl2).2 _ _ (by omega)]; exact f1
  clear c0 c1 c2 c3 c4 c5 f0 f1 hbl2 B1 hz
  go_wp2_with fail
  refine (plus_any _ _ _ _ _ H.out).mono ?_
  rintro e w3 ⟨rfl, hbl3⟩
  have hz3 : w.heap.size + 2 < w3.heap.size := by (have := hbl3.size; omega)
  have B3 := B2.trans (hbl3.mono (by omega))
  have g4 : w3.cell? ⟨w.heap.size + 2, 0, none⟩ = some (.int .i64 0) := by
    rw [(bcell hbl3).1 _ _ (by omega)]; exact d4
  have g5 : w3.cell? ⟨w.heap.size + 2, 1, none⟩ = some (.int .i64 0) := by
    rw [(bcell hbl3).1 _ _ (by omega)]; exact d5
  have l0 : w3.frozen? ⟨w.heap.size + 2, 0, none⟩ = false := by
    rw [(bcell hbl3).2 _ _ (by omega)]; exact k0
  have l1 : w3.frozen? ⟨w.heap.size + 2, 1, none⟩ = false := by
    rw [(bcell hbl3).2 _ _ (by omega)]; exact k1
  clear d0 d1 d2 d3 d4 d5 k0 k1 hbl3 B2 hz2
  go_wp2
  exact bodyPost_ret (v := .tuple #[.agg #[.int .i64 (redN (a * d + c * b) (b * d)), .int .i64 (redD (a * d + c * b) (b * d))], .bool (redOk (a * d + c * b) (b * d))]) (by simp [results, Try.results70, go_sem, g4, g5]) rfl ⟨rfl, (B3.setCell (by simp <;> omega) _).setCell (by simp <;> omega) _⟩

set_option maxHeartbeats 800000 in
theorem iAdd_any (a b c d : Int) (w : World) :
    Calls Try.prog 64 #[.agg #[.int .i64 a, .int .i64 b], .agg #[.int .i64 c, .int .i64 d]] w fun e w' => e = .returned (.tuple #[.agg #[.int .i64 (opN (two a b c d) (a * d + c * b) (b * d)), .int .i64 (opD (two a b c d) (a * d + c * b) (b * d))], .bool (opOk (two a b c d) (a * d + c * b) (b * d))]) ∧ Below w.heap.size w w' := by
  have hmf : ∀ (fn : Fn) (first cap : Array Value) (w : World), (Instr.makeFunc fn first cap).run Try.prog w = .ok (.func fn first cap) w := fun _ _ _ _ => rfl
  have hr : ∀ w1, Calls Try.prog 70 #[.agg #[.int .i64 a, .int .i64 b], .func (.func 72) #[.agg #[.int .i64 a, .int .i64 b]] #[], .agg #[.int .i64 c, .int .i64 d]] w1 fun e w' => e = .returned (.tuple #[.agg #[.int .i64 (opN (two a b c d) (a * d + c * b) (b * d)), .int .i64 (opD (two a b c d) (a * d + c * b) (b * d))], .bool (opOk (two a b c d) (a * d + c * b) (b * d))]) ∧ Below w1.heap.size w1 w' := by
    intro w1
    by_cases h : two a b c d = true
    · rw [h, (op_yes _ _).1, (op_yes _ _).2.1, (op_yes _ _).2.2]; exact reckoned_plus a b c d w1 h
    · rw [Bool.not_eq_true] at h
      rw [h, (op_no _ _).1, (op_no _ _).2.1, (op_no _ _).2.2]; exact reckoned_no a b c d _ w1 h
  have HR : Hid (∀ w1, Calls Try.prog 70 #[.agg #[.int .i64 a, .int .i64 b], .func (.func 72) #[.agg #[.int .i64 a, .int .i64 b]] #[], .agg #[.int .i64 c, .int .i64 d]] w1 fun e w' => e = .returned (.tuple #[.agg #[.int .i64 (opN (two a b c d) (a * d + c * b) (b * d)), .int .i64 (opD (two a b c d) (a * d + c * b) (b * d))], .bool (opOk (two a b c d) (a * d + c * b) (b * d))]) ∧ Below w1.heap.size w1 w') := hr
  clear hr
  go_enter Try.func64, Try.ntmps64
  go_wp2_with fail
  refine (HR.out _).mono ?_
  rintro e w1 ⟨rfl, hbl⟩
  have hz : w.heap.size + 2 < w1.heap.size := by (have := hbl.size; simp at this; omega)
  have B1 : Below w.heap.size w w1 := ((((Below.refl _ _).alloc (Nat.le_refl _) _).alloc (by simp <;> omega) _).alloc (by simp <;> omega) _).trans (hbl.mono (by simp <;> omega))
  have c0 : w1.cell? ⟨w.heap.size, 0, none⟩ = some (.int .i64 a) := by
    rw [(bcell hbl).1 _ _ (by simp <;> omega)]; simp [go_sem]
  have c1 : w1.cell? ⟨w.heap.size, 1, none⟩ = some (.int .i64 b) := by
    rw [(bcell hbl).1 _ _ (by simp <;> omega)]; simp [go_sem]
  have c2 : w1.cell? ⟨w.heap.size + 1, 0, none⟩ = some (.int .i64 c) := by
    rw [(bcell hbl).1 _ _ (by simp <;> omega)]; simp [go_sem]
  have c3 : w1.cell? ⟨w.heap.size + 1, 1, none⟩ = some (.int .i64 d) := by
    rw [(bcell hbl).1 _ _ (by simp <;> omega)]; simp [go_sem]
  have c4 : w1.cell? ⟨w.heap.size + 2, 0, none⟩ = some (.int .i64 0) := by
    rw [(bcell hbl).1 _ _ (by simp <;> omega)]; simp [go_sem]
  have c5 : w1.cell? ⟨w.heap.size + 2, 1, none⟩ = some (.int .i64 0) := by
    rw [(bcell hbl).1 _ _ (by simp <;> omega)]; simp [go_sem]
  have f0 : w1.frozen? ⟨w.heap.size + 2, 0, none⟩ = false := by
    rw [(bcell hbl).2 _ _ (by simp <;> omega)]; simp [go_sem]
  have f1 : w1.frozen? ⟨w.heap.size + 2, 1, none⟩ = false := by
    rw [(bcell hbl).2 _ _ (by simp <;> omega)]; simp [go_sem]
  clear hbl
  go_wp2
  exact bodyPost_ret (v := .tuple #[.agg #[.int .i64 (opN (two a b c d) (a * d + c * b) (b * d)), .int .i64 (opD (two a b c d) (a * d + c * b) (b * d))], .bool (opOk (two a b c d) (a * d + c * b) (b * d))]) (by simp [results, Try.results64, go_sem, c4, c5]) rfl ⟨rfl, (B1.setCell (by simp <;> omega) _).setCell (by simp <;> omega) _⟩

set_option maxHeartbeats 800000 in
theorem times_any (a b c d : Int) (w : World) (h : two a b c d = true) :
    Calls Try.prog 71 #[.agg #[.int .i64 a, .int .i64 b], .agg #[.int .i64 c, .int .i64 d]] w fun e w' => e = .returned (.tuple #[.agg #[.int .i64 (redN (a * c) (b * d)), .int .i64 (redD (a * c) (b * d))], .bool (redOk (a * c) (b * d))]) ∧ Below w.heap.size w w' := by
  obtain ⟨⟨g1, g2⟩, ⟨g3, g4⟩, ⟨g5, g6⟩, ⟨g7, g8⟩, ⟨g9, g10⟩⟩ := prods h
  clear h
  go_enter Try.func71, Try.ntmps71
  go_wp2_with fail
  refine (iRed_any _ _ _).mono ?_
  rintro e w1 ⟨rfl, hbl⟩
  have hz : w.heap.size + 2 < w1.heap.size := by (have := hbl.size; simp at this; omega)
  have B1 : Below w.heap.size w w1 := ((((Below.refl _ _).alloc (Nat.le_refl _) _).alloc (by simp <;> omega) _).alloc (by simp <;> omega) _).trans (hbl.mono (by simp <;> omega))
  have c0 : w1.cell? ⟨w.heap.size, 0, none⟩ = some (.int .i64 a) := by
    rw [(bcell hbl).1 _ _ (by simp <;> omega)]; simp [go_sem]
  have c1 : w1.cell? ⟨w.heap.size, 1, none⟩ = some (.int .i64 b) := by
    rw [(bcell hbl).1 _ _ (by simp <;> omega)]; simp [go_sem]
  have c2 : w1.cell? ⟨w.heap.size + 1, 0, none⟩ = some (.int .i64 c) := by
    rw [(bcell hbl).1 _ _ (by simp <;> omega)]; simp [go_sem]
  have c3 : w1.cell? ⟨w.heap.size + 1, 1, none⟩ = some (.int .i64 d) := by
    rw [(bcell hbl).1 _ _ (by simp <;> omega)]; simp [go_sem]
  have c4 : w1.cell? ⟨w.heap.size + 2, 0, none⟩ = some (.int .i64 0) := by
    rw [(bcell hbl).1 _ _ (by simp <;> omega)]; simp [go_sem]
  have c5 : w1.cell? ⟨w.heap.size + 2, 1, none⟩ = some (.int .i64 0) := by
    rw [(bcell hbl).1 _ _ (by simp <;> omega)]; simp [go_sem]
  have f0 : w1.frozen? ⟨w.heap.size + 2, 0, none⟩ = false := by
    rw [(bcell hbl).2 _ _ (by simp <;> omega)]; simp [go_sem]
  have f1 : w1.frozen? ⟨w.heap.size + 2, 1, none⟩ = false := by
    rw [(bcell hbl).2 _ _ (by simp <;> omega)]; simp [go_sem]
  clear hbl
  go_wp2
  exact bodyPost_ret (v := .tuple #[.agg #[.int .i64 (redN (a * c) (b * d)), .int .i64 (redD (a * c) (b * d))], .bool (redOk (a * c) (b * d))]) (by simp [results, Try.results71, go_sem, c4, c5]) rfl ⟨rfl, (B1.setCell (by simp <;> omega) _).setCell (by simp <;> omega) _⟩

set_option maxHeartbeats 800000 in
theorem reckoned_times (a b c d : Int) (w : World) (h : two a b c d = true) :
    Calls Try.prog 70 #[.agg #[.int .i64 a, .int .i64 b], .func (.func 71) #[.agg #[.int .i64 a, .int .i64 b]] #[], .agg #[.int .i64 c, .int .i64 d]] w fun e w' => e = .returned (.tuple #[.agg #[.int .i64 (redN (a * c) (b * d)), .int .i64 (redD (a * c) (b * d))], .bool (redOk (a * c) (b * d))]) ∧ Below w.heap.size w w' := by
  have hh := two_out h
  obtain ⟨h1, h2⟩ := hh
  have H : Hid (two a b c d = true) := h
  clear h
  go_enter Try.func70, Try.ntmps70
  go_wp2_with fail
  refine (right_any _ _ _).mono ?_
  rintro e w1 ⟨rfl, hbl⟩
  have hz : w.heap.size + 2 < w1.heap.size := by (have := hbl.size; simp at this; omega)
  have B1 : Below w.heap.size w w1 := ((((Below.refl _ _).alloc (Nat.le_refl _) _).alloc (by simp <;> omega) _).alloc (by simp <;> omega) _).trans (hbl.mono (by simp <;> omega))
  have c0 : w1.cell? ⟨w.heap.size, 0, none⟩ = some (.int .i64 a) := by
    rw [(bcell hbl).1 _ _ (by simp <;> omega)]; simp [go_sem]
  have c1 : w1.cell? ⟨w.heap.size, 1, none⟩ = some (.int .i64 b) := by
    rw [(bcell hbl).1 _ _ (by simp <;> omega)]; simp [go_sem]
  have c2 : w1.cell? ⟨w.heap.size + 1, 0, none⟩ = some (.int .i64 c) := by
    rw [(bcell hbl).1 _ _ (by simp <;> omega)]; simp [go_sem]
  have c3 : w1.cell? ⟨w.heap.size + 1, 1, none⟩ = some (.int .i64 d) := by
    rw [(bcell hbl).1 _ _ (by simp <;> omega)]; simp [go_sem]
  have c4 : w1.cell? ⟨w.heap.size + 2, 0, none⟩ = some (.int .i64 0) := by
    rw [(bcell hbl).1 _ _ (by simp <;> omega)]; simp [go_sem]
  have c5 : w1.cell? ⟨w.heap.size + 2, 1, none⟩ = some (.int .i64 0) := by
    rw [(bcell hbl).1 _ _ (by simp <;> omega)]; simp [go_sem]
  have f0 : w1.frozen? ⟨w.heap.size + 2, 0, none⟩ = false := by
    rw [(bcell hbl).2 _ _ (by simp <;> omega)]; simp [go_sem]
  have f1 : w1.frozen? ⟨w.heap.size + 2, 1, none⟩ = false := by
    rw [(bcell hbl).2 _ _ (by simp <;> omega)]; simp [go_sem]
  clear hbl
  go_wp2_with fail
  refine (right_any _ _ _).mono ?_
  rintro e w2 ⟨rfl, hbl2⟩
  have hz2 : w.heap.size + 2 < w2.heap.size := by (have := hbl2.size; omega)
  have B2 := B1.trans (hbl2.mono (by omega))
  have d0 : w2.cell? ⟨w.heap.size, 0, none⟩ = some (.int .i64 a) := by
    rw [(bcell hbl2).1 _ _ (by omega)]; exact c0
  have d1 : w2.cell? ⟨w.heap.size, 1, none⟩ = some (.int .i64 b) := by
    rw [(bcell hbl2).1 _ _ (by omega)]; exact c1
  have d2 : w2.cell? ⟨w.heap.size + 1, 0, none⟩ = some (.int .i64 c) := by
    rw [(bcell hbl2).1 _ _ (by omega)]; exact c2
  have d3 : w2.cell? ⟨w.heap.size + 1, 1, none⟩ = some (.int .i64 d) := by
    rw [(bcell hbl2).1 _ _ (by omega)]; exact c3
  have d4 : w2.cell? ⟨w.heap.size + 2, 0, none⟩ = some (.int .i64 0) := by
    rw [(bcell hbl2).1 _ _ (by omega)]; exact c4
  have d5 : w2.cell? ⟨w.heap.size + 2, 1, none⟩ = some (.int .i64 0) := by
    rw [(bcell hbl2).1 _ _ (by omega)]; exact c5
  have k0 : w2.frozen? ⟨w.heap.size + 2, 0, none⟩ = false := by
    rw [(bcell hbl2).2 _ _ (by omega)]; exact f0
  have k1 : w2.frozen? ⟨w.heap.size + 2, 1, none⟩ = false := by
    rw [(bcell hbl2).2 _ _ (by omega)]; exact f1
  clear c0 c1 c2 c3 c4 c5 f0 f1 hbl2 B1 hz
  go_wp2_with fail
  refine (times_any _ _ _ _ _ H.out).mono ?_
  rintro e w3 ⟨rfl, hbl3⟩
  have hz3 : w.heap.size + 2 < w3.heap.size := by (have := hbl3.size; omega)
  have B3 := B2.trans (hbl3.mono (by omega))
  have g4 : w3.cell? ⟨w.heap.size + 2, 0, none⟩ = some (.int .i64 0) := by
    rw [(bcell hbl3).1 _ _ (by omega)]; exact d4
  have g5 : w3.cell? ⟨w.heap.size + 2, 1, none⟩ = some (.int .i64 0) := by
    rw [(bcell hbl3).1 _ _ (by omega)]; exact d5
  have l0 : w3.frozen? ⟨w.heap.size + 2, 0, none⟩ = false := by
    rw [(bcell hbl3).2 _ _ (by omega)]; exact k0
  have l1 : w3.frozen? ⟨w.heap.size + 2, 1, none⟩ = false := by
    rw [(bcell hbl3).2 _ _ (by omega)]; exact k1
  clear d0 d1 d2 d3 d4 d5 k0 k1 hbl3 B2 hz2
  go_wp2
  exact bodyPost_ret (v := .tuple #[.agg #[.int .i64 (redN (a * c) (b * d)), .int .i64 (redD (a * c) (b * d))], .bool (redOk (a * c) (b * d))]) (by simp [results, Try.results70, go_sem, g4, g5]) rfl ⟨rfl, (B3.setCell (by simp <;> omega) _).setCell (by simp <;> omega) _⟩

set_option maxHeartbeats 800000 in
theorem iMul_any (a b c d : Int) (w : World) :
    Calls Try.prog 63 #[.agg #[.int .i64 a, .int .i64 b], .agg #[.int .i64 c, .int .i64 d]] w fun e w' => e = .returned (.tuple #[.agg #[.int .i64 (opN (two a b c d) (a * c) (b * d)), .int .i64 (opD (two a b c d) (a * c) (b * d))], .bool (opOk (two a b c d) (a * c) (b * d))]) ∧ Below w.heap.size w w' := by
  have hmf : ∀ (fn : Fn) (first cap : Array Value) (w : World), (Instr.makeFunc fn first cap).run Try.prog w = .ok (.func fn first cap) w := fun _ _ _ _ => rfl
  have hr : ∀ w1, Calls Try.prog 70 #[.agg #[.int .i64 a, .int .i64 b], .func (.func 71) #[.agg #[.int .i64 a, .int .i64 b]] #[], .agg #[.int .i64 c, .int .i64 d]] w1 fun e w' => e = .returned (.tuple #[.agg #[.int .i64 (opN (two a b c d) (a * c) (b * d)), .int .i64 (opD (two a b c d) (a * c) (b * d))], .bool (opOk (two a b c d) (a * c) (b * d))]) ∧ Below w1.heap.size w1 w' := by
    intro w1
    by_cases h : two a b c d = true
    · rw [h, (op_yes _ _).1, (op_yes _ _).2.1, (op_yes _ _).2.2]; exact reckoned_times a b c d w1 h
    · rw [Bool.not_eq_true] at h
      rw [h, (op_no _ _).1, (op_no _ _).2.1, (op_no _ _).2.2]; exact reckoned_no a b c d _ w1 h
  have HR : Hid (∀ w1, Calls Try.prog 70 #[.agg #[.int .i64 a, .int .i64 b], .func (.func 71) #[.agg #[.int .i64 a, .int .i64 b]] #[], .agg #[.int .i64 c, .int .i64 d]] w1 fun e w' => e = .returned (.tuple #[.agg #[.int .i64 (opN (two a b c d) (a * c) (b * d)), .int .i64 (opD (two a b c d) (a * c) (b * d))], .bool (opOk (two a b c d) (a * c) (b * d))]) ∧ Below w1.heap.size w1 w') := hr
  clear hr
  go_enter Try.func63, Try.ntmps63
  go_wp2_with fail
  refine (HR.out _).mono ?_
  rintro e w1 ⟨rfl, hbl⟩
  have hz : w.heap.size + 2 < w1.heap.size := by (have := hbl.size; simp at this; omega)
  have B1 : Below w.heap.size w w1 := ((((Below.refl _ _).alloc (Nat.le_refl _) _).alloc (by simp <;> omega) _).alloc (by simp <;> omega) _).trans (hbl.mono (by simp <;> omega))
  have c0 : w1.cell? ⟨w.heap.size, 0, none⟩ = some (.int .i64 a) := by
    rw [(bcell hbl).1 _ _ (by simp <;> omega)]; simp [go_sem]
  have c1 : w1.cell? ⟨w.heap.size, 1, none⟩ = some (.int .i64 b) := by
    rw [(bcell hbl).1 _ _ (by simp <;> omega)]; simp [go_sem]
  have c2 : w1.cell? ⟨w.heap.size + 1, 0, none⟩ = some (.int .i64 c) := by
    rw [(bcell hbl).1 _ _ (by simp <;> omega)]; simp [go_sem]
  have c3 : w1.cell? ⟨w.heap.size + 1, 1, none⟩ = some (.int .i64 d) := by
    rw [(bcell hbl).1 _ _ (by simp <;> omega)]; simp [go_sem]
  have c4 : w1.cell? ⟨w.heap.size + 2, 0, none⟩ = some (.int .i64 0) := by
    rw [(bcell hbl).1 _ _ (by simp <;> omega)]; simp [go_sem]
  have c5 : w1.cell? ⟨w.heap.size + 2, 1, none⟩ = some (.int .i64 0) := by
    rw [(bcell hbl).1 _ _ (by simp <;> omega)]; simp [go_sem]
  have f0 : w1.frozen? ⟨w.heap.size + 2, 0, none⟩ = false := by
    rw [(bcell hbl).2 _ _ (by simp <;> omega)]; simp [go_sem]
  have f1 : w1.frozen? ⟨w.heap.size + 2, 1, none⟩ = false := by
    rw [(bcell hbl).2 _ _ (by simp <;> omega)]; simp [go_sem]
  clear hbl
  go_wp2
  exact bodyPost_ret (v := .tuple #[.agg #[.int .i64 (opN (two a b c d) (a * c) (b * d)), .int .i64 (opD (two a b c d) (a * c) (b * d))], .bool (opOk (two a b c d) (a * c) (b * d))]) (by simp [results, Try.results63, go_sem, c4, c5]) rfl ⟨rfl, (B1.setCell (by simp <;> omega) _).setCell (by simp <;> omega) _⟩

end Go.Proofs.Ytkcdpjcfbpjkean
