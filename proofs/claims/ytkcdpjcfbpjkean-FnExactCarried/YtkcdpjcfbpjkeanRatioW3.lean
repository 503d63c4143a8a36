/- The walks of Reduced, the program's and the model's: both answer the same fraction of whole numbers. -/
import Derived.Test.YtkcdpjcfbpjkeanRatioW2
import Derived.BigRegion
namespace Go.Proofs.Ytkcdpjcfbpjkean
open Go.RowKit Go.Proofs.Ytkcdpjcfbpjkean.RM

theorem ret_red {a b a' b' : Int} {c c' : Bool} (h1 : a = a') (h2 : b = b') (h3 : c = c') : Ending.returned (.tuple #[.agg #[.int .i64 a, .int .i64 b], .bool c]) = .returned (.tuple #[.agg #[.int .i64 a', .int .i64 b'], .bool c']) := by rw [h1, h2, h3]

set_option maxHeartbeats 800000 in
theorem sRed_no (n d : Int) (w : World) (h : redIn n d = false) :
    Calls Try.prog 69 #[.int .i64 n, .int .i64 d] w fun e w' => e = .returned (.tuple #[.agg #[.int .i64 (redN n d), .int .i64 (redD n d)], .bool (redOk n d)]) ∧ Below w.heap.size w w' := by
  obtain ⟨e1, e2, e3⟩ := red_no h
  rw [e1, e2, e3]
  have hn := of_decide_eq_false h
  clear e1 e2 e3 h
  by_cases z : d = 0
  · have z0 : (d == 0) = true := by simpa using z
    clear hn
    go_enter Try.func69, Try.ntmps69
    go_wp2_with (first | (go_at_call 52; refine (in_any _ _ _ _).mono ?_; rintro e w' ⟨rfl, rfl⟩) | (go_at_call 66; refine (shared_any _ _ _ (by omega) (by omega) (by omega) (by omega)).mono ?_; rintro e w' ⟨rfl, rfl⟩))
    exact bodyPost_ret (v := .tuple #[.agg #[.int .i64 0, .int .i64 0], .bool false]) (by simp [results, Try.results69, go_sem]) rfl ⟨rfl, by first | exact ((Below.refl _ _).alloc (Nat.le_refl _) _) | exact ((Below.refl _ _).alloc (Nat.le_refl _) _).setCell (by simp) _⟩
  · have z0 : (d == 0) = false := by simpa using z
    by_cases i1 : inB n (-4611686018427387904) 4611686018427387904 = true
    · have i2 : inB d (-4611686018427387904) 4611686018427387904 = false := by
        have := of_decide_eq_true i1
        exact inB_no (by omega)
      clear z hn
      go_enter Try.func69, Try.ntmps69
      go_wp2_with (first | (go_at_call 52; refine (in_any _ _ _ _).mono ?_; rintro e w' ⟨rfl, rfl⟩) | (go_at_call 66; refine (shared_any _ _ _ (by omega) (by omega) (by omega) (by omega)).mono ?_; rintro e w' ⟨rfl, rfl⟩))
      exact bodyPost_ret (v := .tuple #[.agg #[.int .i64 0, .int .i64 0], .bool false]) (by simp [results, Try.results69, go_sem]) rfl ⟨rfl, by first | exact ((Below.refl _ _).alloc (Nat.le_refl _) _) | exact ((Below.refl _ _).alloc (Nat.le_refl _) _).setCell (by simp) _⟩
    · have i2 : inB n (-4611686018427387904) 4611686018427387904 = false := by simpa using i1
      clear z hn i1
      go_enter Try.func69, Try.ntmps69
      go_wp2_with (first | (go_at_call 52; refine (in_any _ _ _ _).mono ?_; rintro e w' ⟨rfl, rfl⟩) | (go_at_call 66; refine (shared_any _ _ _ (by omega) (by omega) (by omega) (by omega)).mono ?_; rintro e w' ⟨rfl, rfl⟩))
      exact bodyPost_ret (v := .tuple #[.agg #[.int .i64 0, .int .i64 0], .bool false]) (by simp [results, Try.results69, go_sem]) rfl ⟨rfl, by first | exact ((Below.refl _ _).alloc (Nat.le_refl _) _) | exact ((Below.refl _ _).alloc (Nat.le_refl _) _).setCell (by simp) _⟩

set_option maxHeartbeats 1600000 in
theorem sRed_neg (n d : Int) (w : World) (h : redIn n d = true) (hd : d < 0) :
    Calls Try.prog 69 #[.int .i64 n, .int .i64 d] w fun e w' => e = .returned (.tuple #[.agg #[.int .i64 (redN n d), .int .i64 (redD n d)], .bool (redOk n d)]) ∧ Below w.heap.size w w' := by
  obtain ⟨h0, h1, h2, h3, h4⟩ := redIn_out h
  have gp := gcdi_pos_r n d h0
  have gl := gcdi_le_r n d 4611686018427387904 h0 h4 h3
  obtain ⟨b1a, b1b⟩ := div_bd n (gcdi n d) h1 h2
  obtain ⟨b2a, b2b⟩ := div_bd d (gcdi n d) h3 h4
  have i1 := inB_yes h1 h2
  have i2 := inB_yes h3 h4
  have z0 : (d == 0) = false := by simpa using h0
  have hs := sg_neg (n := n) hd
  have ho := okB_tdiv n d h0
  rw [hs, Int.tdiv_neg, Int.tdiv_neg] at ho
  by_cases hb : bdB (-n.tdiv (gcdi n d)) (-d.tdiv (gcdi n d)) = true
  · have ey := red_yes h (by rw [hs, Int.tdiv_neg, Int.tdiv_neg]; exact hb)
    rw [hs, Int.tdiv_neg, Int.tdiv_neg] at ey
    obtain ⟨e1, e2, e3⟩ := ey
    rw [hb] at ho
    rw [e1, e2, e3]
    clear e1 e2 e3 hs hb
    go_enter Try.func69, Try.ntmps69
    go_wp2_with (first | (go_at_call 52; refine (in_any _ _ _ _).mono ?_; rintro e w' ⟨rfl, rfl⟩) | (go_at_call 66; refine (shared_any _ _ _ (by omega) (by omega) (by omega) (by omega)).mono ?_; rintro e w' ⟨rfl, rfl⟩))
    go_region
    all_goals go_wp2_with fail
    all_goals
      refine (sOk_any _ _ _).mono ?_
      rintro e w1 ⟨rfl, hbl⟩
      obtain ⟨hc, hf⟩ := bcell hbl
      have hz : w.heap.size + 1 < w1.heap.size := by (have := hbl.size; simp at this; omega)
      have hc0 : w1.cell? ⟨w.heap.size, 0, none⟩ = some (.int .i64 0) := by
        rw [hc _ _ (by simp <;> omega)]
        simp [go_sem]
      have hc1 : w1.cell? ⟨w.heap.size, 1, none⟩ = some (.int .i64 0) := by
        rw [hc _ _ (by simp <;> omega)]
        simp [go_sem]
      go_wp2
    all_goals exact bodyPost_ret (v := .tuple #[.agg #[.int .i64 (-n.tdiv (gcdi n d)), .int .i64 (-d.tdiv (gcdi n d))], .bool true]) (by simp [results, Try.results69, go_sem, hc0, hc1]) rfl ⟨rfl, by first | exact ((((((Below.refl _ _).alloc (Nat.le_refl _) _).alloc (by simp) _).drew.trans (hbl.mono (by simp; omega))).setCell (by simp) _).setCell (by simp) _) | exact ((((Below.refl _ _).alloc (Nat.le_refl _) _).alloc (by simp) _).drew.trans (hbl.mono (by simp; omega)))⟩
  · have hb' : bdB (-n.tdiv (gcdi n d)) (-d.tdiv (gcdi n d)) = false := by simpa using hb
    have ey := red_no2 (by rw [hs, Int.tdiv_neg, Int.tdiv_neg]; exact hb')
    obtain ⟨e1, e2, e3⟩ := ey
    rw [hb'] at ho
    rw [e1, e2, e3]
    clear e1 e2 e3 hs hb hb'
    go_enter Try.func69, Try.ntmps69
    go_wp2_with (first | (go_at_call 52; refine (in_any _ _ _ _).mono ?_; rintro e w' ⟨rfl, rfl⟩) | (go_at_call 66; refine (shared_any _ _ _ (by omega) (by omega) (by omega) (by omega)).mono ?_; rintro e w' ⟨rfl, rfl⟩))
    go_region
    all_goals go_wp2_with fail
    all_goals
      refine (sOk_any _ _ _).mono ?_
      rintro e w1 ⟨rfl, hbl⟩
      obtain ⟨hc, hf⟩ := bcell hbl
      have hz : w.heap.size + 1 < w1.heap.size := by (have := hbl.size; simp at this; omega)
      have hc0 : w1.cell? ⟨w.heap.size, 0, none⟩ = some (.int .i64 0) := by
        rw [hc _ _ (by simp <;> omega)]
        simp [go_sem]
      have hc1 : w1.cell? ⟨w.heap.size, 1, none⟩ = some (.int .i64 0) := by
        rw [hc _ _ (by simp <;> omega)]
        simp [go_sem]
      go_wp2
    all_goals exact bodyPost_ret (v := .tuple #[.agg #[.int .i64 0, .int .i64 0], .bool false]) (by simp [results, Try.results69, go_sem, hc0, hc1]) rfl ⟨rfl, by first | exact ((((((Below.refl _ _).alloc (Nat.le_refl _) _).alloc (by simp) _).drew.trans (hbl.mono (by simp; omega))).setCell (by simp) _).setCell (by simp) _) | exact ((((Below.refl _ _).alloc (Nat.le_refl _) _).alloc (by simp) _).drew.trans (hbl.mono (by simp; omega)))⟩

set_option maxHeartbeats 1600000 in
theorem sRed_pos (n d : Int) (w : World) (h : redIn n d = true) (hd : 0 ≤ d) :
    Calls Try.prog 69 #[.int .i64 n, .int .i64 d] w fun e w' => e = .returned (.tuple #[.agg #[.int .i64 (redN n d), .int .i64 (redD n d)], .bool (redOk n d)]) ∧ Below w.heap.size w w' := by
  obtain ⟨h0, h1, h2, h3, h4⟩ := redIn_out h
  have gp := gcdi_pos_r n d h0
  have gl := gcdi_le_r n d 4611686018427387904 h0 h4 h3
  obtain ⟨b1a, b1b⟩ := div_bd n (gcdi n d) h1 h2
  obtain ⟨b2a, b2b⟩ := div_bd d (gcdi n d) h3 h4
  have i1 := inB_yes h1 h2
  have i2 := inB_yes h3 h4
  have z0 : (d == 0) = false := by simpa using h0
  have hs := sg_pos (n := n) hd
  have ho := okB_tdiv n d h0
  rw [hs] at ho
  by_cases hb : bdB (n.tdiv (gcdi n d)) (d.tdiv (gcdi n d)) = true
  · have ey := red_yes h (by rw [hs]; exact hb)
    rw [hs] at ey
    obtain ⟨e1, e2, e3⟩ := ey
    rw [hb] at ho
    rw [e1, e2, e3]
    clear e1 e2 e3 hs hb
    go_enter Try.func69, Try.ntmps69
    go_wp2_with (first | (go_at_call 52; refine (in_any _ _ _ _).mono ?_; rintro e w' ⟨rfl, rfl⟩) | (go_at_call 66; refine (shared_any _ _ _ (by omega) (by omega) (by omega) (by omega)).mono ?_; rintro e w' ⟨rfl, rfl⟩))
    go_region
    all_goals go_wp2_with fail
    all_goals
      refine (sOk_any _ _ _).mono ?_
      rintro e w1 ⟨rfl, hbl⟩
      obtain ⟨hc, hf⟩ := bcell hbl
      have hz : w.heap.size + 1 < w1.heap.size := by (have := hbl.size; simp at this; omega)
      have hc0 : w1.cell? ⟨w.heap.size, 0, none⟩ = some (.int .i64 0) := by
        rw [hc _ _ (by simp <;> omega)]
        simp [go_sem]
      have hc1 : w1.cell? ⟨w.heap.size, 1, none⟩ = some (.int .i64 0) := by
        rw [hc _ _ (by simp <;> omega)]
        simp [go_sem]
      go_wp2
    all_goals exact bodyPost_ret (v := .tuple #[.agg #[.int .i64 (n.tdiv (gcdi n d)), .int .i64 (d.tdiv (gcdi n d))], .bool true]) (by simp [results, Try.results69, go_sem, hc0, hc1]) rfl ⟨rfl, by first | exact ((((((Below.refl _ _).alloc (Nat.le_refl _) _).alloc (by simp) _).drew.trans (hbl.mono (by simp; omega))).setCell (by simp) _).setCell (by simp) _) | exact ((((Below.refl _ _).alloc (Nat.le_refl _) _).alloc (by simp) _).drew.trans (hbl.mono (by simp; omega)))⟩
  · have hb' : bdB (n.tdiv (gcdi n d)) (d.tdiv (gcdi n d)) = false := by simpa using hb
    have ey := red_no2 (by rw [hs]; exact hb')
    obtain ⟨e1, e2, e3⟩ := ey
    rw [hb'] at ho
    rw [e1, e2, e3]
    clear e1 e2 e3 hs hb hb'
    go_enter Try.func69, Try.ntmps69
    go_wp2_with (first | (go_at_call 52; refine (in_any _ _ _ _).mono ?_; rintro e w' ⟨rfl, rfl⟩) | (go_at_call 66; refine (shared_any _ _ _ (by omega) (by omega) (by omega) (by omega)).mono ?_; rintro e w' ⟨rfl, rfl⟩))
    go_region
    all_goals go_wp2_with fail
    all_goals
      refine (sOk_any _ _ _).mono ?_
      rintro e w1 ⟨rfl, hbl⟩
      obtain ⟨hc, hf⟩ := bcell hbl
      have hz : w.heap.size + 1 < w1.heap.size := by (have := hbl.size; simp at this; omega)
      have hc0 : w1.cell? ⟨w.heap.size, 0, none⟩ = some (.int .i64 0) := by
        rw [hc _ _ (by simp <;> omega)]
        simp [go_sem]
      have hc1 : w1.cell? ⟨w.heap.size, 1, none⟩ = some (.int .i64 0) := by
        rw [hc _ _ (by simp <;> omega)]
        simp [go_sem]
      go_wp2
    all_goals exact bodyPost_ret (v := .tuple #[.agg #[.int .i64 0, .int .i64 0], .bool false]) (by simp [results, Try.results69, go_sem, hc0, hc1]) rfl ⟨rfl, by first | exact ((((((Below.refl _ _).alloc (Nat.le_refl _) _).alloc (by simp) _).drew.trans (hbl.mono (by simp; omega))).setCell (by simp) _).setCell (by simp) _) | exact ((((Below.refl _ _).alloc (Nat.le_refl _) _).alloc (by simp) _).drew.trans (hbl.mono (by simp; omega)))⟩

theorem sRed_any (n d : Int) (w : World) :
    Calls Try.prog 69 #[.int .i64 n, .int .i64 d] w fun e w' => e = .returned (.tuple #[.agg #[.int .i64 (redN n d), .int .i64 (redD n d)], .bool (redOk n d)]) ∧ Below w.heap.size w w' := by
  by_cases h : redIn n d = true
  · by_cases hd : d < 0
    · exact sRed_neg n d w h hd
    · exact sRed_pos n d w h (by omega)
  · exact sRed_no n d w (by simpa using h)

set_option maxHeartbeats 800000 in
theorem iRed_no (n d : Int) (w : World) (h : redIn n d = false) :
    Calls Try.prog 75 #[.int .i64 n, .int .i64 d] w fun e w' => e = .returned (.tuple #[.agg #[.int .i64 (redN n d), .int .i64 (redD n d)], .bool (redOk n d)]) ∧ Below w.heap.size w w' := by
  obtain ⟨e1, e2, e3⟩ := red_no h
  rw [e1, e2, e3]
  have hn := of_decide_eq_false h
  clear e1 e2 e3 h
  by_cases z : d = 0
  · have z0 : (d == 0) = true := by simpa using z
    clear hn
    go_enter Try.func75, Try.ntmps75
    go_wp2_with (first | (go_at_call 76; refine (reducible_any _ _).mono ?_; rintro e w' ⟨rfl, rfl⟩) | (go_at_call 74; refine (common_any _ _ _ (by omega) (by omega) (by omega) (by omega)).mono ?_; rintro e w' ⟨rfl, nn, rfl⟩))
    exact bodyPost_ret (v := .tuple #[.agg #[.int .i64 0, .int .i64 0], .bool false]) (by simp [results, Try.results75, go_sem]) rfl ⟨rfl, by first | exact ((Below.refl _ _).alloc (Nat.le_refl _) _) | exact ((Below.refl _ _).alloc (Nat.le_refl _) _).setCell (by simp) _⟩
  · have z0 : (d == 0) = false := by simpa using z
    by_cases i1 : inB n (-4611686018427387904) 4611686018427387904 = true
    · have i2 : inB d (-4611686018427387904) 4611686018427387904 = false := by
        have := of_decide_eq_true i1
        exact inB_no (by omega)
      clear z hn
      go_enter Try.func75, Try.ntmps75
      go_wp2_with (first | (go_at_call 76; refine (reducible_any _ _).mono ?_; rintro e w' ⟨rfl, rfl⟩) | (go_at_call 74; refine (common_any _ _ _ (by omega) (by omega) (by omega) (by omega)).mono ?_; rintro e w' ⟨rfl, nn, rfl⟩))
      exact bodyPost_ret (v := .tuple #[.agg #[.int .i64 0, .int .i64 0], .bool false]) (by simp [results, Try.results75, go_sem]) rfl ⟨rfl, by first | exact ((Below.refl _ _).alloc (Nat.le_refl _) _) | exact ((Below.refl _ _).alloc (Nat.le_refl _) _).setCell (by simp) _⟩
    · have i2 : inB n (-4611686018427387904) 4611686018427387904 = false := by simpa using i1
      clear z hn i1
      go_enter Try.func75, Try.ntmps75
      go_wp2_with (first | (go_at_call 76; refine (reducible_any _ _).mono ?_; rintro e w' ⟨rfl, rfl⟩) | (go_at_call 74; refine (common_any _ _ _ (by omega) (by omega) (by omega) (by omega)).mono ?_; rintro e w' ⟨rfl, nn, rfl⟩))
      exact bodyPost_ret (v := .tuple #[.agg #[.int .i64 0, .int .i64 0], .bool false]) (by simp [results, Try.results75, go_sem]) rfl ⟨rfl, by first | exact ((Below.refl _ _).alloc (Nat.le_refl _) _) | exact ((Below.refl _ _).alloc (Nat.le_refl _) _).setCell (by simp) _⟩

set_option maxHeartbeats 1600000 in
theorem iRed_neg (n d : Int) (w : World) (h : redIn n d = true) (hd : d < 0) :
    Calls Try.prog 75 #[.int .i64 n, .int .i64 d] w fun e w' => e = .returned (.tuple #[.agg #[.int .i64 (redN n d), .int .i64 (redD n d)], .bool (redOk n d)]) ∧ Below w.heap.size w w' := by
  obtain ⟨h0, h1, h2, h3, h4⟩ := redIn_out h
  have gp := gcdi_pos_r n d h0
  have gl := gcdi_le_r n d 4611686018427387904 h0 h4 h3
  obtain ⟨b1a, b1b⟩ := div_bd n (gcdi n d) h1 h2
  obtain ⟨b2a, b2b⟩ := div_bd d (gcdi n d) h3 h4
  have i1 := inB_yes h1 h2
  have i2 := inB_yes h3 h4
  have z0 : (d == 0) = false := by simpa using h0
  have hs := sg_neg (n := n) hd
  have ho := okB_tdiv n d h0
  rw [hs, Int.tdiv_neg, Int.tdiv_neg] at ho
  by_cases hb : bdB (-n.tdiv (gcdi n d)) (-d.tdiv (gcdi n d)) = true
  · have ey := red_yes h (by rw [hs, Int.tdiv_neg, Int.tdiv_neg]; exact hb)
    rw [hs, Int.tdiv_neg, Int.tdiv_neg] at ey
    obtain ⟨e1, e2, e3⟩ := ey
    rw [hb] at ho
    rw [e1, e2, e3]
    clear e1 e2 e3 hs ho
    go_enter Try.func75, Try.ntmps75
    go_wp2_with (first | (go_at_call 76; refine (reducible_any _ _).mono ?_; rintro e w' ⟨rfl, rfl⟩) | (go_at_call 74; refine (common_any _ _ _ (by omega) (by omega) (by omega) (by omega)).mono ?_; rintro e w' ⟨rfl, nn, rfl⟩))
    go_region
    all_goals go_wp2_with (first | (go_at_call 73; refine (bounded_any _ _ _).mono ?_; rintro e w1 ⟨rfl, rfl⟩))
    all_goals exact bodyPost_ret (v := .tuple #[.agg #[.int .i64 (-n.tdiv (gcdi n d)), .int .i64 (-d.tdiv (gcdi n d))], .bool true]) (by simp [results, Try.results75, go_sem]) rfl ⟨rfl, by first | exact (((((below_drewN ((Below.refl _ _).alloc (Nat.le_refl _) _) _).setCell (by simp) _).setCell (by simp) _).alloc (by simp) _).alloc (by simp <;> omega) _)⟩
  · have hb' : bdB (-n.tdiv (gcdi n d)) (-d.tdiv (gcdi n d)) = false := by simpa using hb
    have ey := red_no2 (by rw [hs, Int.tdiv_neg, Int.tdiv_neg]; exact hb')
    obtain ⟨e1, e2, e3⟩ := ey
    rw [hb'] at ho
    rw [e1, e2, e3]
    clear e1 e2 e3 hs hb ho
    go_enter Try.func75, Try.ntmps75
    go_wp2_with (first | (go_at_call 76; refine (reducible_any _ _).mono ?_; rintro e w' ⟨rfl, rfl⟩) | (go_at_call 74; refine (common_any _ _ _ (by omega) (by omega) (by omega) (by omega)).mono ?_; rintro e w' ⟨rfl, nn, rfl⟩))
    go_region
    all_goals go_wp2_with (first | (go_at_call 73; refine (bounded_any _ _ _).mono ?_; rintro e w1 ⟨rfl, rfl⟩))
    all_goals exact bodyPost_ret (v := .tuple #[.agg #[.int .i64 0, .int .i64 0], .bool false]) (by simp [results, Try.results75, go_sem]) rfl ⟨rfl, by first | exact (((((below_drewN ((Below.refl _ _).alloc (Nat.le_refl _) _) _).setCell (by simp) _).setCell (by simp) _).alloc (by simp) _).alloc (by simp <;> omega) _)⟩

set_option maxHeartbeats 1600000 in
theorem iRed_pos (n d : Int) (w : World) (h : redIn n d = true) (hd : 0 ≤ d) :
    Calls Try.prog 75 #[.int .i64 n, .int .i64 d] w fun e w' => e = .returned (.tuple #[.agg #[.int .i64 (redN n d), .int .i64 (redD n d)], .bool (redOk n d)]) ∧ Below w.heap.size w w' := by
  obtain ⟨h0, h1, h2, h3, h4⟩ := redIn_out h
  have gp := gcdi_pos_r n d h0
  have gl := gcdi_le_r n d 4611686018427387904 h0 h4 h3
  obtain ⟨b1a, b1b⟩ := div_bd n (gcdi n d) h1 h2
  obtain ⟨b2a, b2b⟩ := div_bd d (gcdi n d) h3 h4
  have i1 := inB_yes h1 h2
  have i2 := inB_yes h3 h4
  have z0 : (d == 0) = false := by simpa using h0
  have hs := sg_pos (n := n) hd
  have ho := okB_tdiv n d h0
  rw [hs] at ho
  by_cases hb : bdB (n.tdiv (gcdi n d)) (d.tdiv (gcdi n d)) = true
  · have ey := red_yes h (by rw [hs]; exact hb)
    rw [hs] at ey
    obtain ⟨e1, e2, e3⟩ := ey
    rw [hb] at ho
    rw [e1, e2, e3]
    clear e1 e2 e3 hs ho
    go_enter Try.func75, Try.ntmps75
    go_wp2_with (first | (go_at_call 76; refine (reducible_any _ _).mono ?_; rintro e w' ⟨rfl, rfl⟩) | (go_at_call 74; refine (common_any _ _ _ (by omega) (by omega) (by omega) (by omega)).mono ?_; rintro e w' ⟨rfl, nn, rfl⟩))
    go_region
    all_goals go_wp2_with (first | (go_at_call 73; refine (bounded_any _ _ _).mono ?_; rintro e w1 ⟨rfl, rfl⟩))
    all_goals exact bodyPost_ret (v := .tuple #[.agg #[.int .i64 (n.tdiv (gcdi n d)), .int .i64 (d.tdiv (gcdi n d))], .bool true]) (by simp [results, Try.results75, go_sem]) rfl ⟨rfl, by first | exact (((((below_drewN ((Below.refl _ _).alloc (Nat.le_refl _) _) _).setCell (by simp) _).setCell (by simp) _).alloc (by simp) _).alloc (by simp <;> omega) _)⟩
  · have hb' : bdB (n.tdiv (gcdi n d)) (d.tdiv (gcdi n d)) = false := by simpa using hb
    have ey := red_no2 (by rw [hs]; exact hb')
    obtain ⟨e1, e2, e3⟩ := ey
    rw [hb'] at ho
    rw [e1, e2, e3]
    clear e1 e2 e3 hs hb ho
    go_enter Try.func75, Try.ntmps75
    go_wp2_with (first | (go_at_call 76; refine (reducible_any _ _).mono ?_; rintro e w' ⟨rfl, rfl⟩) | (go_at_call 74; refine (common_any _ _ _ (by omega) (by omega) (by omega) (by omega)).mono ?_; rintro e w' ⟨rfl, nn, rfl⟩))
    go_region
    all_goals go_wp2_with (first | (go_at_call 73; refine (bounded_any _ _ _).mono ?_; rintro e w1 ⟨rfl, rfl⟩))
    all_goals exact bodyPost_ret (v := .tuple #[.agg #[.int .i64 0, .int .i64 0], .bool false]) (by simp [results, Try.results75, go_sem]) rfl ⟨rfl, by first | exact (((((below_drewN ((Below.refl _ _).alloc (Nat.le_refl _) _) _).setCell (by simp) _).setCell (by simp) _).alloc (by simp) _).alloc (by simp <;> omega) _)⟩

theorem iRed_any (n d : Int) (w : World) :
    Calls Try.prog 75 #[.int .i64 n, .int .i64 d] w fun e w' => e = .returned (.tuple #[.agg #[.int .i64 (redN n d), .int .i64 (redD n d)], .bool (redOk n d)]) ∧ Below w.heap.size w w' := by
  by_cases h : redIn n d = true
  · by_cases hd : d < 0
    · exact iRed_neg n d w h hd
    · exact iRed_pos n d w h (by omega)
  · exact iRed_no n d w (by simpa using h)
end Go.Proofs.Ytkcdpjcfbpjkean
