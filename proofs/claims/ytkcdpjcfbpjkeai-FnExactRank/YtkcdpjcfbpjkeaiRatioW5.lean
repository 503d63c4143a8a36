/- The walks of the program's own reckonings: each step is a method value that one helper calls. -/
import Derived.Test.YtkcdpjcfbpjkeaiRatioW4
namespace Go.Proofs.Ytkcdpjcfbpjkeai
open Go.RowKit Go.Proofs.Ytkcdpjcfbpjkeai.RM

set_option maxHeartbeats 800000 in
theorem reckoned_no (a b c d : Int) (f : Value) (w : World) (h : two a b c d = false) :
    Calls Try.prog 81 #[.agg #[.int .i64 a, .int .i64 b], f, .agg #[.int .i64 c, .int .i64 d]] w fun e w' => e = .returned (.tuple #[.agg #[.int .i64 0, .int .i64 0], .bool false]) ∧ Below w.heap.size w w' := by
  by_cases h1 : okB a b = true
  · have h2 : okB c d = false := by
      have h2 : ¬ okB c d = true := fun k => by (rw [two_yes h1 k] at h; cases h)
      simpa using h2
    clear h
    go_enter Try.func81, Try.ntmps81
    go_wp2_with fail
    refine (right_any _ _ _).mono ?_
    rintro e w1 ⟨rfl, hbl⟩
    have hz : w.heap.size + 2 < w1.heap.size := by (have := hbl.size; simp at this; omega)
    have B1 : Below w.heap.size w w1 := ((((Below.refl _ _).alloc (Nat.le_refl _) _).alloc (by simp <;> omega) _).alloc (by simp <;> omega) _).trans (hbl.mono (by simp <;> omega))
    have c0 : w1.cell? ⟨w.heap.size, 0, none⟩ = some (.int .i64 a) := by
      rw [(bcell hbl).1 _ _ (by simp <;> omega)]; simp [go_sem]
    have c1 : w1.cell? ⟨w.heap.size, 1, none⟩ = some (.int .i64 b) := by
      rw [(bcell hbl).1 _ _ (by simp <;> omega)]; simp [go_sem]
    have c2 : w1.cell? ⟨w.heap.size + 1, 0, none⟩ = some (.int .i64 c) := by
      rw [(bcell hbl).1 _ _ (by simp <;> omega)]; simp [go_sem]
    have c3 : w1.cell? ⟨w.heap.size + 1, 1, none⟩ = some (.int .i64 d) := by
      rw [(bcell hbl).1 _ _ (by simp <;> omega)]; simp [go_sem]
    have c4 : w1.cell? ⟨w.heap.size + 2, 0, none⟩ = some (.int .i64 0) := by
      rw [(bcell hbl).1 _ _ (by simp <;> omega)]; simp [go_sem]
    have c5 : w1.cell? ⟨w.heap.size + 2, 1, none⟩ = some (.int .i64 0) := by
      rw [(bcell hbl).1 _ _ (by simp <;> omega)]; simp [go_sem]
    have f0 : w1.frozen? ⟨w.heap.size + 2, 0, none⟩ = false := by
      rw [(bcell hbl).2 _ _ (by simp <;> omega)]; simp [go_sem]
    have f1 : w1.frozen? ⟨w.heap.size + 2, 1, none⟩ = false := by
      rw [(bcell hbl).2 _ _ (by simp <;> omega)]; simp [go_sem]
    clear hbl
    go_wp2_with fail
    refine (right_any _ _ _).mono ?_
    rintro e w2 ⟨rfl, hbl2⟩
    have hz2 : w.heap.size + 2 < w2.heap.size := by (have := hbl2.size; omega)
    have B2 := B1.trans (hbl2.mono (by omega))
    have d4 : w2.cell? ⟨w.heap.size + 2, 0, none⟩ = some (.int .i64 0) := by
      rw [(bcell hbl2).1 _ _ (by omega)]; exact c4
    have d5 : w2.cell? ⟨w.heap.size + 2, 1, none⟩ = some (.int .i64 0) := by
      rw [(bcell hbl2).1 _ _ (by omega)]; exact c5
    have k0 : w2.frozen? ⟨w.heap.size + 2, 0, none⟩ = false := by
      rw [(bcell hbl2).2 _ _ (by omega)]; exact f0
    have k1 : w2.frozen? ⟨w.heap.size + 2, 1, none⟩ = false := by
      rw [(bcell hbl2).2 _ _ (by omega)]; exact f1
    clear c0 c1 c2 c3 c4 c5 f0 f1 hbl2 B1 hz
    go_wp2
    exact bodyPost_ret (v := .tuple #[.agg #[.int .i64 0, .int .i64 0], .bool false]) (by simp [results, Try.results81, go_sem, d4, d5]) rfl ⟨rfl, (B2.setCell (by simp <;> omega) _).setCell (by simp <;> omega) _⟩
  · rw [Bool.not_eq_true] at h1
    clear h
    go_enter Try.func81, Try.ntmps81
    go_wp2_with fail
    refine (right_any _ _ _).mono ?_
    rintro e w1 ⟨rfl, hbl⟩
    have hz : w.heap.size + 2 < w1.heap.size := by (have := hbl.size; simp at this; omega)
    have B1 : Below w.heap.size w w1 := ((((Below.refl _ _).alloc (Nat.le_refl _) _).alloc (by simp <;> omega) _).alloc (by simp <;> omega) _).trans (hbl.mono (by simp <;> omega))
    have c0 : w1.cell? ⟨w.heap.size, 0, none⟩ = some (.int .i64 a) := by
      rw [(bcell hbl).1 _ _ (by simp <;> omega)]; simp [go_sem]
    have c1 : w1.cell? ⟨w.heap.size, 1, none⟩ = some (.int .i64 b) := by
      rw [(bcell hbl).1 _ _ (by simp <;> omega)]; simp [go_sem]
    have c2 : w1.cell? ⟨w.heap.size + 1, 0, none⟩ = some (.int .i64 c) := by
      rw [(bcell hbl).1 _ _ (by simp <;> omega)]; simp [go_sem]
    have c3 : w1.cell? ⟨w.heap.size + 1, 1, none⟩ = some (.int .i64 d) := by
      rw [(bcell hbl).1 _ _ (by simp <;> omega)]; simp [go_sem]
    have c4 : w1.cell? ⟨w.heap.size + 2, 0, none⟩ = some (.int .i64 0) := by
      rw [(bcell hbl).1 _ _ (by simp <;> omega)]; simp [go_sem]
    have c5 : w1.cell? ⟨w.heap.size + 2, 1, none⟩ = some (.int .i64 0) := by
      rw [(bcell hbl).1 _ _ (by simp <;> omega)]; simp [go_sem]
    have f0 : w1.frozen? ⟨w.heap.size + 2, 0, none⟩ = false := by
      rw [(bcell hbl).2 _ _ (by simp <;> omega)]; simp [go_sem]
    have f1 : w1.frozen? ⟨w.heap.size + 2, 1, none⟩ = false := by
      rw [(bcell hbl).2 _ _ (by simp <;> omega)]; simp [go_sem]
    clear hbl
    go_wp2
    exact bodyPost_ret (v := .tuple #[.agg #[.int .i64 0, .int .i64 0], .bool false]) (by simp [results, Try.results81, go_sem, c4, c5]) rfl ⟨rfl, (B1.setCell (by simp <;> omega) _).setCell (by simp <;> omega) _⟩

set_option maxHeartbeats 800000 in
theorem plus_any (a b c d : Int) (w : World) (h : two a b c d = true) :
    Calls Try.prog 83 #[.agg #[.int .i64 a, .int .i64 b], .agg #[.int .i64 c, .int .i64 d]] w fun e w' => e = .returned (.tuple #[.agg #[.int .i64 (redN (a * d + c * b) (b * d)), .int .i64 (redD (a * d + c * b) (b * d))], .bool (redOk (a * d + c * b) (b * d))]) ∧ Below w.heap.size w w' := by
  obtain ⟨⟨g1, g2⟩, ⟨g3, g4⟩, ⟨g5, g6⟩, ⟨g7, g8⟩, ⟨g9, g10⟩⟩ := prods h
  clear h
  go_enter Try.func83, Try.ntmps83
  go_wp2_with fail
  refine (iRed_any _ _ _).mono ?_
  rintro e w1 ⟨rfl, hbl⟩
  have hz : w.heap.size + 2 < w1.heap.size := by (have := hbl.size; simp at this; omega)
  have B1 : Below w.heap.size w w1 := ((((Below.refl _ _).alloc (Nat.le_refl _) _).alloc (by simp <;> omega) _).alloc (by simp <;> omega) _).trans (hbl.mono (by simp <;> omega))
  have c0 : w1.cell? ⟨w.heap.size, 0, none⟩ = some (.int .i64 a) := by
    rw [(bcell hbl).1 _ _ (by simp <;> omega)]; simp [go_sem]
  have c1 : w1.cell? ⟨w.heap.size, 1, none⟩ = some (.int .i64 b) := by
    rw [(bcell hbl).1 _ _ (by simp <;> omega)]; simp [go_sem]
  have c2 : w1.cell? ⟨w.heap.size + 1, 0, none⟩ = some (.int .i64 c) := by
    rw [(bcell hbl).1 _ _ (by simp <;> omega)]; simp [go_sem]
  have c3 : w1.cell? ⟨w.heap.size + 1, 1, none⟩ = some (.int .i64 d) := by
    rw [(bcell hbl).1 _ _ (by simp <;> omega)]; simp [go_sem]
  have c4 : w1.cell? ⟨w.heap.size + 2, 0, none⟩ = some (.int .i64 0) := by
    rw [(bcell hbl).1 _ _ (by simp <;> omega)]; simp [go_sem]
  have c5 : w1.cell? ⟨w.heap.size + 2, 1, none⟩ = some (.int .i64 0) := by
    rw [(bcell hbl).1 _ _ (by simp <;> omega)]; simp [go_sem]
  have f0 : w1.frozen? ⟨w.heap.size + 2, 0, none⟩ = false := by
    rw [(bcell hbl).2 _ _ (by simp <;> omega)]; simp [go_sem]
  have f1 : w1.frozen? ⟨w.heap.size + 2, 1, none⟩ = false := by
    rw [(bcell hbl).2 _ _ (by simp <;> omega)]; simp [go_sem]
  clear hbl
  go_wp2
  exact bodyPost_ret (v := .tuple #[.agg #[.int .i64 (redN (a * d + c * b) (b * d)), .int .i64 (redD (a * d + c * b) (b * d))], .bool (redOk (a * d + c * b) (b * d))]) (by simp [results, Try.results83, go_sem, c4, c5]) rfl ⟨rfl, (B1.setCell (by simp <;> omega) _).setCell (by simp <;> omega) _⟩

set_option maxHeartbeats 800000 in
theorem reckoned_plus (a b c d : Int) (w : World) (h : two a b c d = true) :
    Calls Try.prog 81 #[.agg #[.int .i64 a, .int .i64 b], .func (.func 83) #[.agg #[.int .i64 a, .int .i64 b]] #[], .agg #[.int .i64 c, .int .i64 d]] w fun e w' => e = .returned (.tuple #[.agg #[.int .i64 (redN (a * d + c * b) (b * d)), .int .i64 (redD (a * d + c * b) (b * d))], .bool (redOk (a * d + c * b) (b * d))]) ∧ Below w.heap.size w w' := by
  have hh := two_out h
  obtain ⟨h1, h2⟩ := hh
  have H : Hid (two a b c d = true) := h
  clear h
  go_enter Try.func81, Try.ntmps81
  go_wp2_with fail
  refine (right_any _ _ _).mono ?_
  rintro e w1 ⟨rfl, hbl⟩
  have hz : w.heap.size + 2 < w1.heap.size := by (have := hbl.size; simp at this; omega)
  have B1 : Below w.heap.size w w1 := ((((Below.refl _ _).alloc (Nat.le_refl _) _).alloc (by simp <;> omega) _).alloc (by simp <;> omega) _).trans (hbl.mono (by simp <;> omega))
  have c0 : w1.cell? ⟨w.heap.size, 0, none⟩ = some (.int .i64 a) := by
    rw [(bcell hbl).1 _ _ (by simp <;> omega)]; simp [go_sem]
  have c1 : w1.cell? ⟨w.heap.size, 1, none⟩ = some (.int .i64 b) := by
    rw [(bcell hbl).1 _ _ (by simp <;> omega)]; simp [go_sem]
  have c2 : w1.cell? ⟨w.heap.size + 1, 0, none⟩ = some (.int .i64 c) := by
    rw [(bcell hbl).1 _ _ (by simp <;> omega)]; simp [go_sem]
  have c3 : w1.cell? ⟨w.heap.size + 1, 1, none⟩ = some (.int .i64 d) := by
    rw [(bcell hbl).1 _ _ (by simp <;> omega)]; simp [go_sem]
  have c4 : w1.cell? ⟨w.heap.size + 2, 0, none⟩ = some (.int .i64 0) := by
    rw [(bcell hbl).1 _ _ (by simp <;> omega)]; simp [go_sem]
  have c5 : w1.cell? ⟨w.heap.size + 2, 1, none⟩ = some (.int .i64 0) := by
    rw [(bcell hbl).1 _ _ (by simp <;> omega)]; simp [go_sem]
  have f0 : w1.frozen? ⟨w.heap.size + 2, 0, none⟩ = false := by
    rw [(bcell hbl).2 _ _ (by simp <;> omega)]; simp [go_sem]
  have f1 : w1.frozen? ⟨w.heap.size + 2, 1, none⟩ = false := by
    rw [(bcell hbl).2 _ _ (by simp <;> omega)]; simp [go_sem]
  clear hbl
  go_wp2_with fail
  refine (right_any _ _ _).mono ?_
  rintro e w2 ⟨rfl, hbl2⟩
  have hz2 : w.heap.size + 2 < w2.heap.size := by (have := hbl2.size; omega)
  have B2 := B1.trans (hbl2.mono (by omega))
  have d0 : w2.cell? ⟨w.heap.size, 0, none⟩ = some (.int .i64 a) := by
    rw [(bcell hbl2).1 _ _ (by omega)]; exact c0
  have d1 : w2.cell? ⟨w.heap.size, 1, none⟩ = some (.int .i64 b) := by
    rw [(bcell hbl2).1 _ _ (by omega)]; exact c1
  have d2 : w2.cell? ⟨w.heap.size + 1, 0, none⟩ = some (.int .i64 c) := by
    rw [(bcell hbl2).1 _ _ (by omega)]; exact c2
  have d3 : w2.cell? ⟨w.heap.size + 1, 1, none⟩ = some (.int .i64 d) := by
    rw [(bcell hbl2).1 _ _ (by omega)]; exact c3
  have d4 : w2.cell? ⟨w.heap.size + 2, 0, none⟩ = some (.int .i64 0) := by
    rw [(bcell hbl2).1 _ _ (by omega)]; exact c4
  have d5 : w2.cell? ⟨w.heap.size + 2, 1, none⟩ = some (.int .i64 0) := by
    rw [(bcell hbl2).1 _ _ (by omega)]; exact c5
  have k0 : w2.frozen? ⟨w.heap.size + 2, 0, none⟩ = false := by
    rw [(bcell hbl2).2 _ _ (by omega)]; exact f0
  have k1 : w2.frozen? ⟨w.heap.size + 2, 1, none⟩ = false := by
    rw [(bcell hbl2).2 _ _ (by omega)]; exact f1
  clear c0 c1 c2 c3 c4 c5 f0 f1 hbl2 B1 hz
  go_wp2_with fail
  refine (plus_any _ _ _ _ _ H.out).mono ?_
  rintro e w3 ⟨rfl, hbl3⟩
  have hz3 : w.heap.size + 2 < w3.heap.size := by (have := hbl3.size; omega)
  have B3 := B2.trans (hbl3.mono (by omega))
  have g4 : w3.cell? ⟨w.heap.size + 2, 0, none⟩ = some (.int .i64 0) := by
    rw [(bcell hbl3).1 _ _ (by omega)]; exact d4
  have g5 : w3.cell? ⟨w.heap.size + 2, 1, none⟩ = some (.int .i64 0) := by
    rw [(bcell hbl3).1 _ _ (by omega)]; exact d5
  have l0 : w3.frozen? ⟨w.heap.size + 2, 0, none⟩ = false := by
    rw [(bcell hbl3).2 _ _ (by omega)]; exact k0
  have l1 : w3.frozen? ⟨w.heap.size + 2, 1, none⟩ = false := by
    rw [(bcell hbl3).2 _ _ (by omega)]; exact k1
  clear d0 d1 d2 d3 d4 d5 k0 k1 hbl3 B2 hz2
  go_wp2
  exact bodyPost_ret (v := .tuple #[.agg #[.int .i64 (redN (a * d + c * b) (b * d)), .int .i64 (redD (a * d + c * b) (b * d))], .bool (redOk (a * d + c * b) (b * d))]) (by simp [results, Try.results81, go_sem, g4, g5]) rfl ⟨rfl, (B3.setCell (by simp <;> omega) _).setCell (by simp <;> omega) _⟩

set_option maxHeartbeats 800000 in
theorem iAdd_any (a b c d : Int) (w : World) :
    Calls Try.prog 74 #[.agg #[.int .i64 a, .int .i64 b], .agg #[.int .i64 c, .int .i64 d]] w fun e w' => e = .returned (.tuple #[.agg #[.int .i64 (opN (two a b c d) (a * d + c * b) (b * d)), .int .i64 (opD (two a b c d) (a * d + c * b) (b * d))], .bool (opOk (two a b c d) (a * d + c * b) (b * d))]) ∧ Below w.heap.size w w' := by
  have hmf : ∀ (fn : Fn) (first cap : Array Value) (w : World), (Instr.makeFunc fn first cap).run Try.prog w = .ok (.func fn first cap) w := fun _ _ _ _ => rfl
  have hr : ∀ w1, Calls Try.prog 81 #[.agg #[.int .i64 a, .int .i64 b], .func (.func 83) #[.agg #[.int .i64 a, .int .i64 b]] #[], .agg #[.int .i64 c, .int .i64 d]] w1 fun e w' => e = .returned (.tuple #[.agg #[.int .i64 (opN (two a b c d) (a * d + c * b) (b * d)), .int .i64 (opD (two a b c d) (a * d + c * b) (b * d))], .bool (opOk (two a b c d) (a * d + c * b) (b * d))]) ∧ Below w1.heap.size w1 w' := by
    intro w1
    by_cases h : two a b c d = true
    · rw [h, (op_yes _ _).1, (op_yes _ _).2.1, (op_yes _ _).2.2]; exact reckoned_plus a b c d w1 h
    · rw [Bool.not_eq_true] at h
      rw [h, (op_no _ _).1, (op_no _ _).2.1, (op_no _ _).2.2]; exact reckoned_no a b c d _ w1 h
  have HR : Hid (∀ w1, Calls Try.prog 81 #[.agg #[.int .i64 a, .int .i64 b], .func (.func 83) #[.agg #[.int .i64 a, .int .i64 b]] #[], .agg #[.int .i64 c, .int .i64 d]] w1 fun e w' => e = .returned (.tuple #[.agg #[.int .i64 (opN (two a b c d) (a * d + c * b) (b * d)), .int .i64 (opD (two a b c d) (a * d + c * b) (b * d))], .bool (opOk (two a b c d) (a * d + c * b) (b * d))]) ∧ Below w1.heap.size w1 w') := hr
  clear hr
  go_enter Try.func74, Try.ntmps74
  go_wp2_with fail
  refine (HR.out _).mono ?_
  rintro e w1 ⟨rfl, hbl⟩
  have hz : w.heap.size + 2 < w1.heap.size := by (have := hbl.size; simp at this; omega)
  have B1 : Below w.heap.size w w1 := ((((Below.refl _ _).alloc (Nat.le_refl _) _).alloc (by simp <;> omega) _).alloc (by simp <;> omega) _).trans (hbl.mono (by simp <;> omega))
  have c0 : w1.cell? ⟨w.heap.size, 0, none⟩ = some (.int .i64 a) := by
    rw [(bcell hbl).1 _ _ (by simp <;> omega)]; simp [go_sem]
  have c1 : w1.cell? ⟨w.heap.size, 1, none⟩ = some (.int .i64 b) := by
    rw [(bcell hbl).1 _ _ (by simp <;> omega)]; simp [go_sem]
  have c2 : w1.cell? ⟨w.heap.size + 1, 0, none⟩ = some (.int .i64 c) := by
    rw [(bcell hbl).1 _ _ (by simp <;> omega)]; simp [go_sem]
  have c3 : w1.cell? ⟨w.heap.size + 1, 1, none⟩ = some (.int .i64 d) := by
    rw [(bcell hbl).1 _ _ (by simp <;> omega)]; simp [go_sem]
  have c4 : w1.cell? ⟨w.heap.size + 2, 0, none⟩ = some (.int .i64 0) := by
    rw [(bcell hbl).1 _ _ (by simp <;> omega)]; simp [go_sem]
  have c5 : w1.cell? ⟨w.heap.size + 2, 1, none⟩ = some (.int .i64 0) := by
    rw [(bcell hbl).1 _ _ (by simp <;> omega)]; simp [go_sem]
  have f0 : w1.frozen? ⟨w.heap.size + 2, 0, none⟩ = false := by
    rw [(bcell hbl).2 _ _ (by simp <;> omega)]; simp [go_sem]
  have f1 : w1.frozen? ⟨w.heap.size + 2, 1, none⟩ = false := by
    rw [(bcell hbl).2 _ _ (by simp <;> omega)]; simp [go_sem]
  clear hbl
  go_wp2
  exact bodyPost_ret (v := .tuple #[.agg #[.int .i64 (opN (two a b c d) (a * d + c * b) (b * d)), .int .i64 (opD (two a b c d) (a * d + c * b) (b * d))], .bool (opOk (two a b c d) (a * d + c * b) (b * d))]) (by simp [results, Try.results74, go_sem, c4, c5]) rfl ⟨rfl, (B1.setCell (by simp <;> omega) _).setCell (by simp <;> omega) _⟩

set_option maxHeartbeats 800000 in
theorem minus_any (a b c d : Int) (w : World) (h : two a b c d = true) :
    Calls Try.prog 91 #[.agg #[.int .i64 a, .int .i64 b], .agg #[.int .i64 c, .int .i64 d]] w fun e w' => e = .returned (.tuple #[.agg #[.int .i64 (redN (a * d - c * b) (b * d)), .int .i64 (redD (a * d - c * b) (b * d))], .bool (redOk (a * d - c * b) (b * d))]) ∧ Below w.heap.size w w' := by
  obtain ⟨⟨g1, g2⟩, ⟨g3, g4⟩, ⟨g5, g6⟩, ⟨g7, g8⟩, ⟨g9, g10⟩⟩ := prods h
  clear h
  go_enter Try.func91, Try.ntmps91
  go_wp2_with fail
  refine (iRed_any _ _ _).mono ?_
  rintro e w1 ⟨rfl, hbl⟩
  have hz : w.heap.size + 2 < w1.heap.size := by (have := hbl.size; simp at this; omega)
  have B1 : Below w.heap.size w w1 := ((((Below.refl _ _).alloc (Nat.le_refl _) _).alloc (by simp <;> omega) _).alloc (by simp <;> omega) _).trans (hbl.mono (by simp <;> omega))
  have c0 : w1.cell? ⟨w.heap.size, 0, none⟩ = some (.int .i64 a) := by
    rw [(bcell hbl).1 _ _ (by simp <;> omega)]; simp [go_sem]
  have c1 : w1.cell? ⟨w.heap.size, 1, none⟩ = some (.int .i64 b) := by
    rw [(bcell hbl).1 _ _ (by simp <;> omega)]; simp [go_sem]
  have c2 : w1.cell? ⟨w.heap.size + 1, 0, none⟩ = some (.int .i64 c) := by
    rw [(bcell hbl).1 _ _ (by simp <;> omega)]; simp [go_sem]
  have c3 : w1.cell? ⟨w.heap.size + 1, 1, none⟩ = some (.int .i64 d) := by
    rw [(bcell hbl).1 _ _ (by simp <;> omega)]; simp [go_sem]
  have c4 : w1.cell? ⟨w.heap.size + 2, 0, none⟩ = some (.int .i64 0) := by
    rw [(bcell hbl).1 _ _ (by simp <;> omega)]; simp [go_sem]
  have c5 : w1.cell? ⟨w.heap.size + 2, 1, none⟩ = some (.int .i64 0) := by
    rw [(bcell hbl).1 _ _ (by simp <;> omega)]; simp [go_sem]
  have f0 : w1.frozen? ⟨w.heap.size + 2, 0, none⟩ = false := by
    rw [(bcell hbl).2 _ _ (by simp <;> omega)]; simp [go_sem]
  have f1 : w1.frozen? ⟨w.heap.size + 2, 1, none⟩ = false := by
    rw [(bcell hbl).2 _ _ (by simp <;> omega)]; simp [go_sem]
  clear hbl
  go_wp2
  exact bodyPost_ret (v := .tuple #[.agg #[.int .i64 (redN (a * d - c * b) (b * d)), .int .i64 (redD (a * d - c * b) (b * d))], .bool (redOk (a * d - c * b) (b * d))]) (by simp [results, Try.results91, go_sem, c4, c5]) rfl ⟨rfl, (B1.setCell (by simp <;> omega) _).setCell (by simp <;> omega) _⟩

set_option maxHeartbeats 800000 in
theorem reckoned_minus (a b c d : Int) (w : World) (h : two a b c d = true) :
    Calls Try.prog 81 #[.agg #[.int .i64 a, .int .i64 b], .func (.func 91) #[.agg #[.int .i64 a, .int .i64 b]] #[], .agg #[.int .i64 c, .int .i64 d]] w fun e w' => e = .returned (.tuple #[.agg #[.int .i64 (redN (a * d - c * b) (b * d)), .int .i64 (redD (a * d - c * b) (b * d))], .bool (redOk (a * d - c * b) (b * d))]) ∧ Below w.heap.size w w' := by
  have hh := two_out h
  obtain ⟨h1, h2⟩ := hh
  have H : Hid (two a b c d = true) := h
  clear h
  go_enter Try.func81, Try.ntmps81
  go_wp2_with fail
  refine (right_any _ _ _).mono ?_
  rintro e w1 ⟨rfl, hbl⟩
  have hz : w.heap.size + 2 < w1.heap.size := by (have := hbl.size; simp at this; omega)
  have B1 : Below w.heap.size w w1 := ((((Below.refl _ _).alloc (Nat.le_refl _) _).alloc (by simp <;> omega) _).alloc (by simp <;> omega) _).trans (hbl.mono (by simp <;> omega))
  have c0 : w1.cell? ⟨w.heap.size, 0, none⟩ = some (.int .i64 a) := by
    rw [(bcell hbl).1 _ _ (by simp <;> omega)]; simp [go_sem]
  have c1 : w1.cell? ⟨w.heap.size, 1, none⟩ = some (.int .i64 b) := by
    rw [(bcell hbl).1 _ _ (by simp <;> omega)]; simp [go_sem]
  have c2 : w1.cell? ⟨w.heap.size + 1, 0, none⟩ = some (.int .i64 c) := by
    rw [(bcell hbl).1 _ _ (by simp <;> omega)]; simp [go_sem]
  have c3 : w1.cell? ⟨w.heap.size + 1, 1, none⟩ = some (.int .i64 d) := by
    rw [(bcell hbl).1 _ _ (by simp <;> omega)]; simp [go_sem]
  have c4 : w1.cell? ⟨w.heap.size + 2, 0, none⟩ = some (.int .i64 0) := by
    rw [(bcell hbl).1 _ _ (by simp <;> omega)]; simp [go_sem]
  have c5 : w1.cell? ⟨w.heap.size + 2, 1, none⟩ = some (.int .i64 0) := by
    rw [(bcell hbl).1 _ _ (by simp <;> omega)]; simp [go_sem]
  have f0 : w1.frozen? ⟨w.heap.size + 2, 0, none⟩ = false := by
    rw [(bcell hbl).2 _ _ (by simp <;> omega)]; simp [go_sem]
  have f1 : w1.frozen? ⟨w.heap.size + 2, 1, none⟩ = false := by
    rw [(bcell hbl).2 _ _ (by simp <;> omega)]; simp [go_sem]
  clear hbl
  go_wp2_with fail
  refine (right_any _ _ _).mono ?_
  rintro e w2 ⟨rfl, hbl2⟩
  have hz2 : w.heap.size + 2 < w2.heap.size := by (have := hbl2.size; omega)
  have B2 := B1.trans (hbl2.mono (by omega))
  have d0 : w2.cell? ⟨w.heap.size, 0, none⟩ = some (.int .i64 a) := by
    rw [(bcell hbl2).1 _ _ (by omega)]; exact c0
  have d1 : w2.cell? ⟨w.heap.size, 1, none⟩ = some (.int .i64 b) := by
    rw [(bcell hbl2).1 _ _ (by omega)]; exact c1
  have d2 : w2.cell? ⟨w.heap.size + 1, 0, none⟩ = some (.int .i64 c) := by
    rw [(bcell hbl2).1 _ _ (by omega)]; exact c2
  have d3 : w2.cell? ⟨w.heap.size + 1, 1, none⟩ = some (.int .i64 d) := by
    rw [(bcell hbl2).1 _ _ (by omega)]; exact c3
  have d4 : w2.cell? ⟨w.heap.size + 2, 0, none⟩ = some (.int .i64 0) := by
    rw [(bcell hbl2).1 _ _ (by omega)]; exact c4
  have d5 : w2.cell? ⟨w.heap.size + 2, 1, none⟩ = some (.int .i64 0) := by
    rw [(bcell hbl2).1 _ _ (by omega)]; exact c5
  have k0 : w2.frozen? ⟨w.heap.size + 2, 0, none⟩ = false := by
    rw [(bcell hbl2).2 _ _ (by omega)]; exact f0
  have k1 : w2.frozen? ⟨w.heap.size + 2, 1, none⟩ = false := by
    rw [(bcell hbl2).2 _ _ (by omega)]; exact f1
  clear c0 c1 c2 c3 c4 c5 f0 f1 hbl2 B1 hz
  go_wp2_with fail
  refine (minus_any _ _ _ _ _ H.out).mono ?_
  rintro e w3 ⟨rfl, hbl3⟩
  have hz3 : w.heap.size + 2 < w3.heap.size := by (have := hbl3.size; omega)
  have B3 := B2.trans (hbl3.mono (by omega))
  have g4 : w3.cell? ⟨w.heap.size + 2, 0, none⟩ = some (.int .i64 0) := by
    rw [(bcell hbl3).1 _ _ (by omega)]; exact d4
  have g5 : w3.cell? ⟨w.heap.size + 2, 1, none⟩ = some (.int .i64 0) := by
    rw [(bcell hbl3).1 _ _ (by omega)]; exact d5
  have l0 : w3.frozen? ⟨w.heap.size + 2, 0, none⟩ = false := by
    rw [(bcell hbl3).2 _ _ (by omega)]; exact k0
  have l1 : w3.frozen? ⟨w.heap.size + 2, 1, none⟩ = false := by
    rw [(bcell hbl3).2 _ _ (by omega)]; exact k1
  clear d0 d1 d2 d3 d4 d5 k0 k1 hbl3 B2 hz2
  go_wp2
  exact bodyPost_ret (v := .tuple #[.agg #[.int .i64 (redN (a * d - c * b) (b * d)), .int .i64 (redD (a * d - c * b) (b * d))], .bool (redOk (a * d - c * b) (b * d))]) (by simp [results, Try.results81, go_sem, g4, g5]) rfl ⟨rfl, (B3.setCell (by simp <;> omega) _).setCell (by simp <;> omega) _⟩

set_option maxHeartbeats 800000 in
theorem iSub_any (a b c d : Int) (w : World) :
    Calls Try.prog 89 #[.agg #[.int .i64 a, .int .i64 b], .agg #[.int .i64 c, .int .i64 d]] w fun e w' => e = .returned (.tuple #[.agg #[.int .i64 (opN (two a b c d) (a * d - c * b) (b * d)), .int .i64 (opD (two a b c d) (a * d - c * b) (b * d))], .bool (opOk (two a b c d) (a * d - c * b) (b * d))]) ∧ Below w.heap.size w w' := by
  have hmf : ∀ (fn : Fn) (first cap : Array Value) (w : World), (Instr.makeFunc fn first cap).run Try.prog w = .ok (.func fn first cap) w := fun _ _ _ _ => rfl
  have hr : ∀ w1, Calls Try.prog 81 #[.agg #[.int .i64 a, .int .i64 b], .func (.func 91) #[.agg #[.int .i64 a, .int .i64 b]] #[], .agg #[.int .i64 c, .int .i64 d]] w1 fun e w' => e = .returned (.tuple #[.agg #[.int .i64 (opN (two a b c d) (a * d - c * b) (b * d)), .int .i64 (opD (two a b c d) (a * d - c * b) (b * d))], .bool (opOk (two a b c d) (a * d - c * b) (b * d))]) ∧ Below w1.heap.size w1 w' := by
    intro w1
    by_cases h : two a b c d = true
    · rw [h, (op_yes _ _).1, (op_yes _ _).2.1, (op_yes _ _).2.2]; exact reckoned_minus a b c d w1 h
    · rw [Bool.not_eq_true] at h
      rw [h, (op_no _ _).1, (op_no _ _).2.1, (op_no _ _).2.2]; exact reckoned_no a b c d _ w1 h
  have HR : Hid (∀ w1, Calls Try.prog 81 #[.agg #[.int .i64 a, .int .i64 b], .func (.func 91) #[.agg #[.int .i64 a, .int .i64 b]] #[], .agg #[.int .i64 c, .int .i64 d]] w1 fun e w' => e = .returned (.tuple #[.agg #[.int .i64 (opN (two a b c d) (a * d - c * b) (b * d)), .int .i64 (opD (two a b c d) (a * d - c * b) (b * d))], .bool (opOk (two a b c d) (a * d - c * b) (b * d))]) ∧ Below w1.heap.size w1 w') := hr
  clear hr
  go_enter Try.func89, Try.ntmps89
  go_wp2_with fail
  refine (HR.out _).mono ?_
  rintro e w1 ⟨rfl, hbl⟩
  have hz : w.heap.size + 2 < w1.heap.size := by (have := hbl.size; simp at this; omega)
  have B1 : Below w.heap.size w w1 := ((((Below.refl _ _).alloc (Nat.le_refl _) _).alloc (by simp <;> omega) _).alloc (by simp <;> omega) _).trans (hbl.mono (by simp <;> omega))
  have c0 : w1.cell? ⟨w.heap.size, 0, none⟩ = some (.int .i64 a) := by
    rw [(bcell hbl).1 _ _ (by simp <;> omega)]; simp [go_sem]
  have c1 : w1.cell? ⟨w.heap.size, 1, none⟩ = some (.int .i64 b) := by
    rw [(bcell hbl).1 _ _ (by simp <;> omega)]; simp [go_sem]
  have c2 : w1.cell? ⟨w.heap.size + 1, 0, none⟩ = some (.int .i64 c) := by
    rw [(bcell hbl).1 _ _ (by simp <;> omega)]; simp [go_sem]
  have c3 : w1.cell? ⟨w.heap.size + 1, 1, none⟩ = some (.int .i64 d) := by
    rw [(bcell hbl).1 _ _ (by simp <;> omega)]; simp [go_sem]
  have c4 : w1.cell? ⟨w.heap.size + 2, 0, none⟩ = some (.int .i64 0) := by
    rw [(bcell hbl).1 _ _ (by simp <;> omega)]; simp [go_sem]
  have c5 : w1.cell? ⟨w.heap.size + 2, 1, none⟩ = some (.int .i64 0) := by
    rw [(bcell hbl).1 _ _ (by simp <;> omega)]; simp [go_sem]
  have f0 : w1.frozen? ⟨w.heap.size + 2, 0, none⟩ = false := by
    rw [(bcell hbl).2 _ _ (by simp <;> omega)]; simp [go_sem]
  have f1 : w1.frozen? ⟨w.heap.size + 2, 1, none⟩ = false := by
    rw [(bcell hbl).2 _ _ (by simp <;> omega)]; simp [go_sem]
  clear hbl
  go_wp2
  exact bodyPost_ret (v := .tuple #[.agg #[.int .i64 (opN (two a b c d) (a * d - c * b) (b * d)), .int .i64 (opD (two a b c d) (a * d - c * b) (b * d))], .bool (opOk (two a b c d) (a * d - c * b) (b * d))]) (by simp [results, Try.results89, go_sem, c4, c5]) rfl ⟨rfl, (B1.setCell (by simp <;> omega) _).setCell (by simp <;> omega) _⟩

set_option maxHeartbeats 800000 in
theorem times_any (a b c d : Int) (w : World) (h : two a b c d = true) :
    Calls Try.prog 82 #[.agg #[.int .i64 a, .int .i64 b], .agg #[.int .i64 c, .int .i64 d]] w fun e w' => e = .returned (.tuple #[.agg #[.int .i64 (redN (a * c) (b * d)), .int .i64 (redD (a * c) (b * d))], .bool (redOk (a * c) (b * d))]) ∧ Below w.heap.size w w' := by
  obtain ⟨⟨g1, g2⟩, ⟨g3, g4⟩, ⟨g5, g6⟩, ⟨g7, g8⟩, ⟨g9, g10⟩⟩ := prods h
  clear h
  go_enter Try.func82, Try.ntmps82
  go_wp2_with fail
  refine (iRed_any _ _ _).mono ?_
  rintro e w1 ⟨rfl, hbl⟩
  have hz : w.heap.size + 2 < w1.heap.size := by (have := hbl.size; simp at this; omega)
  have B1 : Below w.heap.size w w1 := ((((Below.refl _ _).alloc (Nat.le_refl _) _).alloc (by simp <;> omega) _).alloc (by simp <;> omega) _).trans (hbl.mono (by simp <;> omega))
  have c0 : w1.cell? ⟨w.heap.size, 0, none⟩ = some (.int .i64 a) := by
    rw [(bcell hbl).1 _ _ (by simp <;> omega)]; simp [go_sem]
  have c1 : w1.cell? ⟨w.heap.size, 1, none⟩ = some (.int .i64 b) := by
    rw [(bcell hbl).1 _ _ (by simp <;> omega)]; simp [go_sem]
  have c2 : w1.cell? ⟨w.heap.size + 1, 0, none⟩ = some (.int .i64 c) := by
    rw [(bcell hbl).1 _ _ (by simp <;> omega)]; simp [go_sem]
  have c3 : w1.cell? ⟨w.heap.size + 1, 1, none⟩ = some (.int .i64 d) := by
    rw [(bcell hbl).1 _ _ (by simp <;> omega)]; simp [go_sem]
  have c4 : w1.cell? ⟨w.heap.size + 2, 0, none⟩ = some (.int .i64 0) := by
    rw [(bcell hbl).1 _ _ (by simp <;> omega)]; simp [go_sem]
  have c5 : w1.cell? ⟨w.heap.size + 2, 1, none⟩ = some (.int .i64 0) := by
    rw [(bcell hbl).1 _ _ (by simp <;> omega)]; simp [go_sem]
  have f0 : w1.frozen? ⟨w.heap.size + 2, 0, none⟩ = false := by
    rw [(bcell hbl).2 _ _ (by simp <;> omega)]; simp [go_sem]
  have f1 : w1.frozen? ⟨w.heap.size + 2, 1, none⟩ = false := by
    rw [(bcell hbl).2 _ _ (by simp <;> omega)]; simp [go_sem]
  clear hbl
  go_wp2
  exact bodyPost_ret (v := .tuple #[.agg #[.int .i64 (redN (a * c) (b * d)), .int .i64 (redD (a * c) (b * d))], .bool (redOk (a * c) (b * d))]) (by simp [results, Try.results82, go_sem, c4, c5]) rfl ⟨rfl, (B1.setCell (by simp <;> omega) _).setCell (by simp <;> omega) _⟩

set_option maxHeartbeats 800000 in
theorem reckoned_times (a b c d : Int) (w : World) (h : two a b c d = true) :
    Calls Try.prog 81 #[.agg #[.int .i64 a, .int .i64 b], .func (.func 82) #[.agg #[.int .i64 a, .int .i64 b]] #[], .agg #[.int .i64 c, .int .i64 d]] w fun e w' => e = .returned (.tuple #[.agg #[.int .i64 (redN (a * c) (b * d)), .int .i64 (redD (a * c) (b * d))], .bool (redOk (a * c) (b * d))]) ∧ Below w.heap.size w w' := by
  have hh := two_out h
  obtain ⟨h1, h2⟩ := hh
  have H : Hid (two a b c d = true) := h
  clear h
  go_enter Try.func81, Try.ntmps81
  go_wp2_with fail
  refine (right_any _ _ _).mono ?_
  rintro e w1 ⟨rfl, hbl⟩
  have hz : w.heap.size + 2 < w1.heap.size := by (have := hbl.size; simp at this; omega)
  have B1 : Below w.heap.size w w1 := ((((Below.refl _ _).alloc (Nat.le_refl _) _).alloc (by simp <;> omega) _).alloc (by simp <;> omega) _).trans (hbl.mono (by simp <;> omega))
  have c0 : w1.cell? ⟨w.heap.size, 0, none⟩ = some (.int .i64 a) := by
    rw [(bcell hbl).1 _ _ (by simp <;> omega)]; simp [go_sem]
  have c1 : w1.cell? ⟨w.heap.size, 1, none⟩ = some (.int .i64 b) := by
    rw [(bcell hbl).1 _ _ (by simp <;> omega)]; simp [go_sem]
  have c2 : w1.cell? ⟨w.heap.size + 1, 0, none⟩ = some (.int .i64 c) := by
    rw [(bcell hbl).1 _ _ (by simp <;> omega)]; simp [go_sem]
  have c3 : w1.cell? ⟨w.heap.size + 1, 1, none⟩ = some (.int .i64 d) := by
    rw [(bcell hbl).1 _ _ (by simp <;> omega)]; simp [go_sem]
  have c4 : w1.cell? ⟨w.heap.size + 2, 0, none⟩ = some (.int .i64 0) := by
    rw [(bcell hbl).1 _ _ (by simp <;> omega)]; simp [go_sem]
  have c5 : w1.cell? ⟨w.heap.size + 2, 1, none⟩ = some (.int .i64 0) := by
    rw [(bcell hbl).1 _ _ (by simp <;> omega)]; simp [go_sem]
  have f0 : w1.frozen? ⟨w.heap.size + 2, 0, none⟩ = false := by
    rw [(bcell hbl).2 _ _ (by simp <;> omega)]; simp [go_sem]
  have f1 : w1.frozen? ⟨w.heap.size + 2, 1, none⟩ = false := by
    rw [(bcell hbl).2 _ _ (by simp <;> omega)]; simp [go_sem]
  clear hbl
  go_wp2_with fail
  refine (right_any _ _ _).mono ?_
  rintro e w2 ⟨rfl, hbl2⟩
  have hz2 : w.heap.size + 2 < w2.heap.size := by (have := hbl2.size; omega)
  have B2 := B1.trans (hbl2.mono (by omega))
  have d0 : w2.cell? ⟨w.heap.size, 0, none⟩ = some (.int .i64 a) := by
    rw [(bcell hbl2).1 _ _ (by omega)]; exact c0
  have d1 : w2.cell? ⟨w.heap.size, 1, none⟩ = some (.int .i64 b) := by
    rw [(bcell hbl2).1 _ _ (by omega)]; exact c1
  have d2 : w2.cell? ⟨w.heap.size + 1, 0, none⟩ = some (.int .i64 c) := by
    rw [(bcell hbl2).1 _ _ (by omega)]; exact c2
  have d3 : w2.cell? ⟨w.heap.size + 1, 1, none⟩ = some (.int .i64 d) := by
    rw [(bcell hbl2).1 _ _ (by omega)]; exact c3
  have d4 : w2.cell? ⟨w.heap.size + 2, 0, none⟩ = some (.int .i64 0) := by
    rw [(bcell hbl2).1 _ _ (by omega)]; exact c4
  have d5 : w2.cell? ⟨w.heap.size + 2, 1, none⟩ = some (.int .i64 0) := by
    rw [(bcell hbl2).1 _ _ (by omega)]; exact c5
  have k0 : w2.frozen? ⟨w.heap.size + 2, 0, none⟩ = false := by
    rw [(bcell hbl2).2 _ _ (by omega)]; exact f0
  have k1 : w2.frozen? ⟨w.heap.size + 2, 1, none⟩ = false := by
    rw [(bcell hbl2).2 _ _ (by omega)]; exact f1
  clear c0 c1 c2 c3 c4 c5 f0 f1 hbl2 B1 hz
  go_wp2_with fail
  refine (times_any _ _ _ _ _ H.out).mono ?_
  rintro e w3 ⟨rfl, hbl3⟩
  have hz3 : w.heap.size + 2 < w3.heap.size := by (have := hbl3.size; omega)
  have B3 := B2.trans (hbl3.mono (by omega))
  have g4 : w3.cell? ⟨w.heap.size + 2, 0, none⟩ = some (.int .i64 0) := by
    rw [(bcell hbl3).1 _ _ (by omega)]; exact d4
  have g5 : w3.cell? ⟨w.heap.size + 2, 1, none⟩ = some (.int .i64 0) := by
    rw [(bcell hbl3).1 _ _ (by omega)]; exact d5
  have l0 : w3.frozen? ⟨w.heap.size + 2, 0, none⟩ = false := by
    rw [(bcell hbl3).2 _ _ (by omega)]; exact k0
  have l1 : w3.frozen? ⟨w.heap.size + 2, 1, none⟩ = false := by
    rw [(bcell hbl3).2 _ _ (by omega)]; exact k1
  clear d0 d1 d2 d3 d4 d5 k0 k1 hbl3 B2 hz2
  go_wp2
  exact bodyPost_ret (v := .tuple #[.agg #[.int .i64 (redN (a * c) (b * d)), .int .i64 (redD (a * c) (b * d))], .bool (redOk (a * c) (b * d))]) (by simp [results, Try.results81, go_sem, g4, g5]) rfl ⟨rfl, (B3.setCell (by simp <;> omega) _).setCell (by simp <;> omega) _⟩

set_option maxHeartbeats 800000 in
theorem iMul_any (a b c d : Int) (w : World) :
    Calls Try.prog 73 #[.agg #[.int .i64 a, .int .i64 b], .agg #[.int .i64 c, .int .i64 d]] w fun e w' => e = .returned (.tuple #[.agg #[.int .i64 (opN (two a b c d) (a * c) (b * d)), .int .i64 (opD (two a b c d) (a * c) (b * d))], .bool (opOk (two a b c d) (a * c) (b * d))]) ∧ Below w.heap.size w w' := by
  have hmf : ∀ (fn : Fn) (first cap : Array Value) (w : World), (Instr.makeFunc fn first cap).run Try.prog w = .ok (.func fn first cap) w := fun _ _ _ _ => rfl
  have hr : ∀ w1, Calls Try.prog 81 #[.agg #[.int .i64 a, .int .i64 b], .func (.func 82) #[.agg #[.int .i64 a, .int .i64 b]] #[], .agg #[.int .i64 c, .int .i64 d]] w1 fun e w' => e = .returned (.tuple #[.agg #[.int .i64 (opN (two a b c d) (a * c) (b * d)), .int .i64 (opD (two a b c d) (a * c) (b * d))], .bool (opOk (two a b c d) (a * c) (b * d))]) ∧ Below w1.heap.size w1 w' := by
    intro w1
    by_cases h : two a b c d = true
    · rw [h, (op_yes _ _).1, (op_yes _ _).2.1, (op_yes _ _).2.2]; exact reckoned_times a b c d w1 h
    · rw [Bool.not_eq_true] at h
      rw [h, (op_no _ _).1, (op_no _ _).2.1, (op_no _ _).2.2]; exact reckoned_no a b c d _ w1 h
  have HR : Hid (∀ w1, Calls Try.prog 81 #[.agg #[.int .i64 a, .int .i64 b], .func (.func 82) #[.agg #[.int .i64 a, .int .i64 b]] #[], .agg #[.int .i64 c, .int .i64 d]] w1 fun e w' => e = .returned (.tuple #[.agg #[.int .i64 (opN (two a b c d) (a * c) (b * d)), .int .i64 (opD (two a b c d) (a * c) (b * d))], .bool (opOk (two a b c d) (a * c) (b * d))]) ∧ Below w1.heap.size w1 w') := hr
  clear hr
  go_enter Try.func73, Try.ntmps73
  go_wp2_with fail
  refine (HR.out _).mono ?_
  rintro e w1 ⟨rfl, hbl⟩
  have hz : w.heap.size + 2 < w1.heap.size := by (have := hbl.size; simp at this; omega)
  have B1 : Below w.heap.size w w1 := ((((Below.refl _ _).alloc (Nat.le_refl _) _).alloc (by simp <;> omega) _).alloc (by simp <;> omega) _).trans (hbl.mono (by simp <;> omega))
  have c0 : w1.cell? ⟨w.heap.size, 0, none⟩ = some (.int .i64 a) := by
    rw [(bcell hbl).1 _ _ (by simp <;> omega)]; simp [go_sem]
  have c1 : w1.cell? ⟨w.heap.size, 1, none⟩ = some (.int .i64 b) := by
    rw [(bcell hbl).1 _ _ (by simp <;> omega)]; simp [go_sem]
  have c2 : w1.cell? ⟨w.heap.size + 1, 0, none⟩ = some (.int .i64 c) := by
    rw [(bcell hbl).1 _ _ (by simp <;> omega)]; simp [go_sem]
  have c3 : w1.cell? ⟨w.heap.size + 1, 1, none⟩ = some (.int .i64 d) := by
    rw [(bcell hbl).1 _ _ (by simp <;> omega)]; simp [go_sem]
  have c4 : w1.cell? ⟨w.heap.size + 2, 0, none⟩ = some (.int .i64 0) := by
    rw [(bcell hbl).1 _ _ (by simp <;> omega)]; simp [go_sem]
  have c5 : w1.cell? ⟨w.heap.size + 2, 1, none⟩ = some (.int .i64 0) := by
    rw [(bcell hbl).1 _ _ (by simp <;> omega)]; simp [go_sem]
  have f0 : w1.frozen? ⟨w.heap.size + 2, 0, none⟩ = false := by
    rw [(bcell hbl).2 _ _ (by simp <;> omega)]; simp [go_sem]
  have f1 : w1.frozen? ⟨w.heap.size + 2, 1, none⟩ = false := by
    rw [(bcell hbl).2 _ _ (by simp <;> omega)]; simp [go_sem]
  clear hbl
  go_wp2
  exact bodyPost_ret (v := .tuple #[.agg #[.int .i64 (opN (two a b c d) (a * c) (b * d)), .int .i64 (opD (two a b c d) (a * c) (b * d))], .bool (opOk (two a b c d) (a * c) (b * d))]) (by simp [results, Try.results73, go_sem, c4, c5]) rfl ⟨rfl, (B1.setCell (by simp <;> omega) _).setCell (by simp <;> omega) _⟩

set_option maxHeartbeats 800000 in
theorem over_any (a b c d : Int) (w : World) (h : two a b c d = true) :
    Calls Try.prog 90 #[.agg #[.int .i64 a, .int .i64 b], .agg #[.int .i64 c, .int .i64 d]] w fun e w' => e = .returned (.tuple #[.agg #[.int .i64 (redN (a * d) (b * c)), .int .i64 (redD (a * d) (b * c))], .bool (redOk (a * d) (b * c))]) ∧ Below w.heap.size w w' := by
  obtain ⟨⟨g1, g2⟩, ⟨g3, g4⟩, ⟨g5, g6⟩, ⟨g7, g8⟩, ⟨g9, g10⟩⟩ := prods h
  clear h
  go_enter Try.func90, Try.ntmps90
  go_wp2_with fail
  refine (iRed_any _ _ _).mono ?_
  rintro e w1 ⟨rfl, hbl⟩
  have hz : w.heap.size + 2 < w1.heap.size := by (have := hbl.size; simp at this; omega)
  have B1 : Below w.heap.size w w1 := ((((Below.refl _ _).alloc (Nat.le_refl _) _).alloc (by simp <;> omega) _).alloc (by simp <;> omega) _).trans (hbl.mono (by simp <;> omega))
  have c0 : w1.cell? ⟨w.heap.size, 0, none⟩ = some (.int .i64 a) := by
    rw [(bcell hbl).1 _ _ (by simp <;> omega)]; simp [go_sem]
  have c1 : w1.cell? ⟨w.heap.size, 1, none⟩ = some (.int .i64 b) := by
    rw [(bcell hbl).1 _ _ (by simp <;> omega)]; simp [go_sem]
  have c2 : w1.cell? ⟨w.heap.size + 1, 0, none⟩ = some (.int .i64 c) := by
    rw [(bcell hbl).1 _ _ (by simp <;> omega)]; simp [go_sem]
  have c3 : w1.cell? ⟨w.heap.size + 1, 1, none⟩ = some (.int .i64 d) := by
    rw [(bcell hbl).1 _ _ (by simp <;> omega)]; simp [go_sem]
  have c4 : w1.cell? ⟨w.heap.size + 2, 0, none⟩ = some (.int .i64 0) := by
    rw [(bcell hbl).1 _ _ (by simp <;> omega)]; simp [go_sem]
  have c5 : w1.cell? ⟨w.heap.size + 2, 1, none⟩ = some (.int .i64 0) := by
    rw [(bcell hbl).1 _ _ (by simp <;> omega)]; simp [go_sem]
  have f0 : w1.frozen? ⟨w.heap.size + 2, 0, none⟩ = false := by
    rw [(bcell hbl).2 _ _ (by simp <;> omega)]; simp [go_sem]
  have f1 : w1.frozen? ⟨w.heap.size + 2, 1, none⟩ = false := by
    rw [(bcell hbl).2 _ _ (by simp <;> omega)]; simp [go_sem]
  clear hbl
  go_wp2
  exact bodyPost_ret (v := .tuple #[.agg #[.int .i64 (redN (a * d) (b * c)), .int .i64 (redD (a * d) (b * c))], .bool (redOk (a * d) (b * c))]) (by simp [results, Try.results90, go_sem, c4, c5]) rfl ⟨rfl, (B1.setCell (by simp <;> omega) _).setCell (by simp <;> omega) _⟩

set_option maxHeartbeats 800000 in
theorem reckoned_over (a b c d : Int) (w : World) (h : two a b c d = true) :
    Calls Try.prog 81 #[.agg #[.int .i64 a, .int .i64 b], .func (.func 90) #[.agg #[.int .i64 a, .int .i64 b]] #[], .agg #[.int .i64 c, .int .i64 d]] w fun e w' => e = .returned (.tuple #[.agg #[.int .i64 (redN (a * d) (b * c)), .int .i64 (redD (a * d) (b * c))], .bool (redOk (a * d) (b * c))]) ∧ Below w.heap.size w w' := by
  have hh := two_out h
  obtain ⟨h1, h2⟩ := hh
  have H : Hid (two a b c d = true) := h
  clear h
  go_enter Try.func81, Try.ntmps81
  go_wp2_with fail
  refine (right_any _ _ _).mono ?_
  rintro e w1 ⟨rfl, hbl⟩
  have hz : w.heap.size + 2 < w1.heap.size := by (have := hbl.size; simp at this; omega)
  have B1 : Below w.heap.size w w1 := ((((Below.refl _ _).alloc (Nat.le_refl _) _).alloc (by simp <;> omega) _).alloc (by simp <;> omega) _).trans (hbl.mono (by simp <;> omega))
  have c0 : w1.cell? ⟨w.heap.size, 0, none⟩ = some (.int .i64 a) := by
    rw [(bcell hbl).1 _ _ (by simp <;> omega)]; simp [go_sem]
  have c1 : w1.cell? ⟨w.heap.size, 1, none⟩ = some (.int .i64 b) := by
    rw [(bcell hbl).1 _ _ (by simp <;> omega)]; simp [go_sem]
  have c2 : w1.cell? ⟨w.heap.size + 1, 0, none⟩ = some (.int .i64 c) := by
    rw [(bcell hbl).1 _ _ (by simp <;> omega)]; simp [go_sem]
  have c3 : w1.cell? ⟨w.heap.size + 1, 1, none⟩ = some (.int .i64 d) := by
    rw [(bcell hbl).1 _ _ (by simp <;> omega)]; simp [go_sem]
  have c4 : w1.cell? ⟨w.heap.size + 2, 0, none⟩ = some (.int .i64 0) := by
    rw [(bcell hbl).1 _ _ (by simp <;> omega)]; simp [go_sem]
  have c5 : w1.cell? ⟨w.heap.size + 2, 1, none⟩ = some (.int .i64 0) := by
    rw [(bcell hbl).1 _ _ (by simp <;> omega)]; simp [go_sem]
  have f0 : w1.frozen? ⟨w.heap.size + 2, 0, none⟩ = false := by
    rw [(bcell hbl).2 _ _ (by simp <;> omega)]; simp [go_sem]
  have f1 : w1.frozen? ⟨w.heap.size + 2, 1, none⟩ = false := by
    rw [(bcell hbl).2 _ _ (by simp <;> omega)]; simp [go_sem]
  clear hbl
  go_wp2_with fail
  refine (right_any _ _ _).mono ?_
  rintro e w2 ⟨rfl, hbl2⟩
  have hz2 : w.heap.size + 2 < w2.heap.size := by (have := hbl2.size; omega)
  have B2 := B1.trans (hbl2.mono (by omega))
  have d0 : w2.cell? ⟨w.heap.size, 0, none⟩ = some (.int .i64 a) := by
    rw [(bcell hbl2).1 _ _ (by omega)]; exact c0
  have d1 : w2.cell? ⟨w.heap.size, 1, none⟩ = some (.int .i64 b) := by
    rw [(bcell hbl2).1 _ _ (by omega)]; exact c1
  have d2 : w2.cell? ⟨w.heap.size + 1, 0, none⟩ = some (.int .i64 c) := by
    rw [(bcell hbl2).1 _ _ (by omega)]; exact c2
  have d3 : w2.cell? ⟨w.heap.size + 1, 1, none⟩ = some (.int .i64 d) := by
    rw [(bcell hbl2).1 _ _ (by omega)]; exact c3
  have d4 : w2.cell? ⟨w.heap.size + 2, 0, none⟩ = some (.int .i64 0) := by
    rw [(bcell hbl2).1 _ _ (by omega)]; exact c4
  have d5 : w2.cell? ⟨w.heap.size + 2, 1, none⟩ = some (.int .i64 0) := by
    rw [(bcell hbl2).1 _ _ (by omega)]; exact c5
  have k0 : w2.frozen? ⟨w.heap.size + 2, 0, none⟩ = false := by
    rw [(bcell hbl2).2 _ _ (by omega)]; exact f0
  have k1 : w2.frozen? ⟨w.heap.size + 2, 1, none⟩ = false := by
    rw [(bcell hbl2).2 _ _ (by omega)]; exact f1
  clear c0 c1 c2 c3 c4 c5 f0 f1 hbl2 B1 hz
  go_wp2_with fail
  refine (over_any _ _ _ _ _ H.out).mono ?_
  rintro e w3 ⟨rfl, hbl3⟩
  have hz3 : w.heap.size + 2 < w3.heap.size := by (have := hbl3.size; omega)
  have B3 := B2.trans (hbl3.mono (by omega))
  have g4 : w3.cell? ⟨w.heap.size + 2, 0, none⟩ = some (.int .i64 0) := by
    rw [(bcell hbl3).1 _ _ (by omega)]; exact d4
  have g5 : w3.cell? ⟨w.heap.size + 2, 1, none⟩ = some (.int .i64 0) := by
    rw [(bcell hbl3).1 _ _ (by omega)]; exact d5
  have l0 : w3.frozen? ⟨w.heap.size + 2, 0, none⟩ = false := by
    rw [(bcell hbl3).2 _ _ (by omega)]; exact k0
  have l1 : w3.frozen? ⟨w.heap.size + 2, 1, none⟩ = false := by
    rw [(bcell hbl3).2 _ _ (by omega)]; exact k1
  clear d0 d1 d2 d3 d4 d5 k0 k1 hbl3 B2 hz2
  go_wp2
  exact bodyPost_ret (v := .tuple #[.agg #[.int .i64 (redN (a * d) (b * c)), .int .i64 (redD (a * d) (b * c))], .bool (redOk (a * d) (b * c))]) (by simp [results, Try.results81, go_sem, g4, g5]) rfl ⟨rfl, (B3.setCell (by simp <;> omega) _).setCell (by simp <;> omega) _⟩

set_option maxHeartbeats 800000 in
theorem iDiv_any (a b c d : Int) (w : World) :
    Calls Try.prog 88 #[.agg #[.int .i64 a, .int .i64 b], .agg #[.int .i64 c, .int .i64 d]] w fun e w' => e = .returned (.tuple #[.agg #[.int .i64 (opN (two a b c d) (a * d) (b * c)), .int .i64 (opD (two a b c d) (a * d) (b * c))], .bool (opOk (two a b c d) (a * d) (b * c))]) ∧ Below w.heap.size w w' := by
  have hmf : ∀ (fn : Fn) (first cap : Array Value) (w : World), (Instr.makeFunc fn first cap).run Try.prog w = .ok (.func fn first cap) w := fun _ _ _ _ => rfl
  have hr : ∀ w1, Calls Try.prog 81 #[.agg #[.int .i64 a, .int .i64 b], .func (.func 90) #[.agg #[.int .i64 a, .int .i64 b]] #[], .agg #[.int .i64 c, .int .i64 d]] w1 fun e w' => e = .returned (.tuple #[.agg #[.int .i64 (opN (two a b c d) (a * d) (b * c)), .int .i64 (opD (two a b c d) (a * d) (b * c))], .bool (opOk (two a b c d) (a * d) (b * c))]) ∧ Below w1.heap.size w1 w' := by
    intro w1
    by_cases h : two a b c d = true
    · rw [h, (op_yes _ _).1, (op_yes _ _).2.1, (op_yes _ _).2.2]; exact reckoned_over a b c d w1 h
    · rw [Bool.not_eq_true] at h
      rw [h, (op_no _ _).1, (op_no _ _).2.1, (op_no _ _).2.2]; exact reckoned_no a b c d _ w1 h
  have HR : Hid (∀ w1, Calls Try.prog 81 #[.agg #[.int .i64 a, .int .i64 b], .func (.func 90) #[.agg #[.int .i64 a, .int .i64 b]] #[], .agg #[.int .i64 c, .int .i64 d]] w1 fun e w' => e = .returned (.tuple #[.agg #[.int .i64 (opN (two a b c d) (a * d) (b * c)), .int .i64 (opD (two a b c d) (a * d) (b * c))], .bool (opOk (two a b c d) (a * d) (b * c))]) ∧ Below w1.heap.size w1 w') := hr
  clear hr
  go_enter Try.func88, Try.ntmps88
  go_wp2_with fail
  refine (HR.out _).mono ?_
  rintro e w1 ⟨rfl, hbl⟩
  have hz : w.heap.size + 2 < w1.heap.size := by (have := hbl.size; simp at this; omega)
  have B1 : Below w.heap.size w w1 := ((((Below.refl _ _).alloc (Nat.le_refl _) _).alloc (by simp <;> omega) _).alloc (by simp <;> omega) _).trans (hbl.mono (by simp <;> omega))
  have c0 : w1.cell? ⟨w.heap.size, 0, none⟩ = some (.int .i64 a) := by
    rw [(bcell hbl).1 _ _ (by simp <;> omega)]; simp [go_sem]
  have c1 : w1.cell? ⟨w.heap.size, 1, none⟩ = some (.int .i64 b) := by
    rw [(bcell hbl).1 _ _ (by simp <;> omega)]; simp [go_sem]
  have c2 : w1.cell? ⟨w.heap.size + 1, 0, none⟩ = some (.int .i64 c) := by
    rw [(bcell hbl).1 _ _ (by simp <;> omega)]; simp [go_sem]
  have c3 : w1.cell? ⟨w.heap.size + 1, 1, none⟩ = some (.int .i64 d) := by
    rw [(bcell hbl).1 _ _ (by simp <;> omega)]; simp [go_sem]
  have c4 : w1.cell? ⟨w.heap.size + 2, 0, none⟩ = some (.int .i64 0) := by
    rw [(bcell hbl).1 _ _ (by simp <;> omega)]; simp [go_sem]
  have c5 : w1.cell? ⟨w.heap.size + 2, 1, none⟩ = some (.int .i64 0) := by
    rw [(bcell hbl).1 _ _ (by simp <;> omega)]; simp [go_sem]
  have f0 : w1.frozen? ⟨w.heap.size + 2, 0, none⟩ = false := by
    rw [(bcell hbl).2 _ _ (by simp <;> omega)]; simp [go_sem]
  have f1 : w1.frozen? ⟨w.heap.size + 2, 1, none⟩ = false := by
    rw [(bcell hbl).2 _ _ (by simp <;> omega)]; simp [go_sem]
  clear hbl
  go_wp2
  exact bodyPost_ret (v := .tuple #[.agg #[.int .i64 (opN (two a b c d) (a * d) (b * c)), .int .i64 (opD (two a b c d) (a * d) (b * c))], .bool (opOk (two a b c d) (a * d) (b * c))]) (by simp [results, Try.results88, go_sem, c4, c5]) rfl ⟨rfl, (B1.setCell (by simp <;> omega) _).setCell (by simp <;> omega) _⟩

set_option maxHeartbeats 800000 in
theorem sLess_any (a b c d : Int) (w : World) :
    Calls Try.prog 36 #[.agg #[.int .i64 a, .int .i64 b], .agg #[.int .i64 c, .int .i64 d]] w fun e w' => e = .returned (.bool (lessB a b c d)) ∧ Below w.heap.size w w' := by
  by_cases h : two a b c d = true
  · obtain ⟨⟨g1, g2⟩, ⟨g3, g4⟩, _, _, _⟩ := prods h
    have hh := two_out h
    obtain ⟨h1, h2⟩ := hh
    by_cases hl : a * d < c * b
    all_goals
      go_enter Try.func36, Try.ntmps36
      go_wp2_with fail
      refine (sTwo_any _ _ _ _ _).mono ?_
      rintro e w1 ⟨rfl, hbl⟩
      have hz : w.heap.size + 1 < w1.heap.size := by (have := hbl.size; simp at this; omega)
      have B1 : Below w.heap.size w w1 := (((Below.refl _ _).alloc (Nat.le_refl _) _).alloc (by simp <;> omega) _).trans (hbl.mono (by simp <;> omega))
      have c0 : w1.cell? ⟨w.heap.size, 0, none⟩ = some (.int .i64 a) := by
        rw [(bcell hbl).1 _ _ (by simp <;> omega)]; simp [go_sem]
      have c1 : w1.cell? ⟨w.heap.size, 1, none⟩ = some (.int .i64 b) := by
        rw [(bcell hbl).1 _ _ (by simp <;> omega)]; simp [go_sem]
      have c2 : w1.cell? ⟨w.heap.size + 1, 0, none⟩ = some (.int .i64 c) := by
        rw [(bcell hbl).1 _ _ (by simp <;> omega)]; simp [go_sem]
      have c3 : w1.cell? ⟨w.heap.size + 1, 1, none⟩ = some (.int .i64 d) := by
        rw [(bcell hbl).1 _ _ (by simp <;> omega)]; simp [go_sem]
      clear hbl
      go_wp2
      go_ret
      exact ⟨ret_bool (by unfold lessB; rw [h]; simp <;> omega), B1⟩
  · rw [Bool.not_eq_true] at h
    go_enter Try.func36, Try.ntmps36
    go_wp2_with fail
    refine (sTwo_any _ _ _ _ _).mono ?_
    rintro e w1 ⟨rfl, hbl⟩
    have B1 : Below w.heap.size w w1 := (((Below.refl _ _).alloc (Nat.le_refl _) _).alloc (by simp <;> omega) _).trans (hbl.mono (by simp <;> omega))
    clear hbl
    go_wp2
    go_ret
    exact ⟨ret_bool (by unfold lessB; rw [h]; rfl), B1⟩

set_option maxHeartbeats 800000 in
theorem iLess_any (a b c d : Int) (w : World) :
    Calls Try.prog 41 #[.agg #[.int .i64 a, .int .i64 b], .agg #[.int .i64 c, .int .i64 d]] w fun e w' => e = .returned (.bool (lessB a b c d)) ∧ Below w.heap.size w w' := by
  by_cases h : two a b c d = true
  · obtain ⟨⟨g1, g2⟩, ⟨g3, g4⟩, _, _, _⟩ := prods h
    have hh := two_out h
    obtain ⟨h1, h2⟩ := hh
    by_cases hl : a * d < c * b
    all_goals
      go_enter Try.func41, Try.ntmps41
      go_wp2_with fail
      refine (right_any _ _ _).mono ?_
      rintro e w1 ⟨rfl, hbl⟩
      have hz : w.heap.size + 1 < w1.heap.size := by (have := hbl.size; simp at this; omega)
      have B1 : Below w.heap.size w w1 := (((Below.refl _ _).alloc (Nat.le_refl _) _).alloc (by simp <;> omega) _).trans (hbl.mono (by simp <;> omega))
      have c0 : w1.cell? ⟨w.heap.size, 0, none⟩ = some (.int .i64 a) := by
        rw [(bcell hbl).1 _ _ (by simp <;> omega)]; simp [go_sem]
      have c1 : w1.cell? ⟨w.heap.size, 1, none⟩ = some (.int .i64 b) := by
        rw [(bcell hbl).1 _ _ (by simp <;> omega)]; simp [go_sem]
      have c2 : w1.cell? ⟨w.heap.size + 1, 0, none⟩ = some (.int .i64 c) := by
        rw [(bcell hbl).1 _ _ (by simp <;> omega)]; simp [go_sem]
      have c3 : w1.cell? ⟨w.heap.size + 1, 1, none⟩ = some (.int .i64 d) := by
        rw [(bcell hbl).1 _ _ (by simp <;> omega)]; simp [go_sem]
      clear hbl
      go_wp2_with fail
      refine (right_any _ _ _).mono ?_
      rintro e w2 ⟨rfl, hbl2⟩
      have hz2 : w.heap.size + 1 < w2.heap.size := by (have := hbl2.size; omega)
      replace B1 := B1.trans (hbl2.mono (by omega))
      have d0 : w2.cell? ⟨w.heap.size, 0, none⟩ = some (.int .i64 a) := by
        rw [(bcell hbl2).1 _ _ (by omega)]; exact c0
      have d1 : w2.cell? ⟨w.heap.size, 1, none⟩ = some (.int .i64 b) := by
        rw [(bcell hbl2).1 _ _ (by omega)]; exact c1
      have d2 : w2.cell? ⟨w.heap.size + 1, 0, none⟩ = some (.int .i64 c) := by
        rw [(bcell hbl2).1 _ _ (by omega)]; exact c2
      have d3 : w2.cell? ⟨w.heap.size + 1, 1, none⟩ = some (.int .i64 d) := by
        rw [(bcell hbl2).1 _ _ (by omega)]; exact c3
      clear c0 c1 c2 c3 hbl2 hz
      go_wp2
      go_ret
      exact ⟨ret_bool (by unfold lessB; rw [h]; simp <;> omega), B1⟩
  · rw [Bool.not_eq_true] at h
    by_cases h1 : okB a b = true
    · have h2 : okB c d = false := by
        have h2 : ¬ okB c d = true := fun k => by (rw [two_yes h1 k] at h; cases h)
        simpa using h2
      have H : Hid (two a b c d = false) := h
      clear h
      go_enter Try.func41, Try.ntmps41
      go_wp2_with fail
      refine (right_any _ _ _).mono ?_
      rintro e w1 ⟨rfl, hbl⟩
      have hz : w.heap.size + 1 < w1.heap.size := by (have := hbl.size; simp at this; omega)
      have B1 : Below w.heap.size w w1 := (((Below.refl _ _).alloc (Nat.le_refl _) _).alloc (by simp <;> omega) _).trans (hbl.mono (by simp <;> omega))
      have c0 : w1.cell? ⟨w.heap.size, 0, none⟩ = some (.int .i64 a) := by
        rw [(bcell hbl).1 _ _ (by simp <;> omega)]; simp [go_sem]
      have c1 : w1.cell? ⟨w.heap.size, 1, none⟩ = some (.int .i64 b) := by
        rw [(bcell hbl).1 _ _ (by simp <;> omega)]; simp [go_sem]
      have c2 : w1.cell? ⟨w.heap.size + 1, 0, none⟩ = some (.int .i64 c) := by
        rw [(bcell hbl).1 _ _ (by simp <;> omega)]; simp [go_sem]
      have c3 : w1.cell? ⟨w.heap.size + 1, 1, none⟩ = some (.int .i64 d) := by
        rw [(bcell hbl).1 _ _ (by simp <;> omega)]; simp [go_sem]
      clear hbl
      go_wp2_with fail
      refine (right_any _ _ _).mono ?_
      rintro e w2 ⟨rfl, hbl2⟩
      replace B1 := B1.trans (hbl2.mono (by omega))
      clear hbl2
      go_wp2
      go_ret
      exact ⟨ret_bool (by unfold lessB; rw [H.out]; rfl), B1⟩
    · rw [Bool.not_eq_true] at h1
      have H : Hid (two a b c d = false) := h
      clear h
      go_enter Try.func41, Try.ntmps41
      go_wp2_with fail
      refine (right_any _ _ _).mono ?_
      rintro e w1 ⟨rfl, hbl⟩
      have B1 : Below w.heap.size w w1 := (((Below.refl _ _).alloc (Nat.le_refl _) _).alloc (by simp <;> omega) _).trans (hbl.mono (by simp <;> omega))
      clear hbl
      go_wp2
      go_ret
      exact ⟨ret_bool (by unfold lessB; rw [H.out]; rfl), B1⟩
end Go.Proofs.Ytkcdpjcfbpjkeai
