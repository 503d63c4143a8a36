/- The walks of commonDivisor, bounded, right, RatioOk and reducible, each by what it answers. -/
import Derived.Test.YtkcdpjcfbpjkeanRatioW1
namespace Go.Proofs.Ytkcdpjcfbpjkean
open Go.RowKit Go.Proofs.Ytkcdpjcfbpjkean.RM

theorem drew_more {w wr : World} (h : ∃ n, wr = w.drewN n) (k : Nat) : ∃ n, wr.drewN k = w.drewN n := by
  obtain ⟨n, hn⟩ := h; exact ⟨n + k, by rw [hn, World.drewN_drewN]⟩

set_option maxHeartbeats 400000 in
theorem common_any (a b : Int) (w : World) (ha : -4611686018427387904 ≤ a) (ha' : a ≤ 4611686018427387904) (hb : -4611686018427387904 ≤ b) (hb' : b ≤ 4611686018427387904) :
    Calls Try.prog 74 #[.int .i64 a, .int .i64 b] w fun e w' => e = .returned (.int .i64 (gcdi a b)) ∧ ∃ n, w' = w.drewN n := by
  go_enter Try.func74, Try.ntmps74
  go_wp2
  go_loopw [0, 1] (fun x y wr => ∃ p q : Int, -4611686018427387904 ≤ p ∧ p ≤ 4611686018427387904 ∧ -4611686018427387904 ≤ q ∧ q ≤ 4611686018427387904 ∧ x = .int .i64 p ∧ y = .int .i64 q ∧ Hid (gcdi p q = gcdi a b) ∧ Hid (∃ n, wr = w.drewN n)) (fun _ y _ => (intOf y).natAbs)
  case atStart => exact ⟨_, _, by omega, by omega, by omega, by omega, rfl, rfl, rfl, ⟨0, rfl⟩⟩
  case round =>
    obtain ⟨p, q, hp, hp', hq, hq', rfl, rfl, hg, hw⟩ := hrel
    by_cases hz : q = 0
    · subst hz
      by_cases hn : p < 0
      · go_wp2
        go_ret
        exact ⟨ret_int (by rw [← hg.out, gcdi_zero_abs, if_pos hn]), hw.out⟩
      · go_wp2
        go_ret
        exact ⟨ret_int (by rw [← hg.out, gcdi_zero_abs, if_neg (by omega)]), hw.out⟩
    · have hz' : (q != 0) = true := by simpa using hz
      have hl := tmod_lt p q hz
      have hb := tmod_bd p q 4611686018427387904 hz hq hq'
      obtain ⟨hb1, hb2⟩ := hb
      have hl' : Hid ((p.tmod q).natAbs < q.natAbs) := hl
      clear hl
      go_wp2
      go_quiet (fail)
      go_roundw
      case rel => first | exact ⟨_, _, hq, hq', hb1, hb2, rfl, rfl, (gcdi_step p q).trans hg.out, drew_more hw.out nq⟩ | ((repeat apply Exists.intro); exact ⟨⟨_, _, hq, hq', hb1, hb2, rfl, rfl, (gcdi_step p q).trans hg.out, drew_more hw.out nq⟩, rfl⟩)
      case measure => exact hl'.out

theorem reducible_any (n : Int) (w : World) :
    Calls Try.prog 76 #[.int .i64 n] w fun e w' => e = .returned (.bool (inB n (-4611686018427387904) 4611686018427387904)) ∧ w' = w := by
  by_cases h1 : -4611686018427387904 ≤ n
  · by_cases h2 : n ≤ 4611686018427387904
    · rw [inB_yes h1 h2]
      go_enter Try.func76, Try.ntmps76
      go_wp2
      go_ret
      exact ⟨rfl, rfl⟩
    · rw [inB_no (by omega)]
      go_enter Try.func76, Try.ntmps76
      go_wp2
      go_ret
      exact ⟨rfl, rfl⟩
  · rw [inB_no (by omega)]
    go_enter Try.func76, Try.ntmps76
    go_wp2
    go_ret
    exact ⟨rfl, rfl⟩

theorem bounded_any (n d : Int) (w : World) :
    Calls Try.prog 73 #[.agg #[.int .i64 n, .int .i64 d]] w fun e w' => e = .returned (.bool (bdB n d)) ∧ w' = w.alloc (.cells #[.int .i64 n, .int .i64 d] 32) := by
  by_cases h1 : 1 ≤ d
  · by_cases h2 : d ≤ 1000000000
    · by_cases h3 : -1000000000 ≤ n
      · by_cases h4 : n ≤ 1000000000
        · rw [bdB_mk ⟨h1, h2, h3, h4⟩]
          go_enter Try.func73, Try.ntmps73
          go_wp2
          go_ret
          exact ⟨rfl, rfl⟩
        · rw [bdB_no (by omega)]
          go_enter Try.func73, Try.ntmps73
          go_wp2
          go_ret
          exact ⟨rfl, rfl⟩
      · rw [bdB_no (by omega)]
        go_enter Try.func73, Try.ntmps73
        go_wp2
        go_ret
        exact ⟨rfl, rfl⟩
    · rw [bdB_no (by omega)]
      go_enter Try.func73, Try.ntmps73
      go_wp2
      go_ret
      exact ⟨rfl, rfl⟩
  · rw [bdB_no (by omega)]
    go_enter Try.func73, Try.ntmps73
    go_wp2
    go_ret
    exact ⟨rfl, rfl⟩

theorem right_any (n d : Int) (w : World) :
    Calls Try.prog 67 #[.agg #[.int .i64 n, .int .i64 d]] w fun e w' => e = .returned (.bool (okB n d)) ∧ Below w.heap.size w w' := by
  by_cases hb : bdB n d = true
  · obtain ⟨h1, h2, h3, h4⟩ := bdB_out hb
    by_cases hg : gcdi n d = 1
    · rw [okB_mk ⟨h1, h2, h3, h4, hg⟩]
      go_enter Try.func67, Try.ntmps67
      go_wp2_with (first | (go_at_call 73; refine (bounded_any _ _ _).mono ?_; rintro e w' ⟨rfl, rfl⟩) | (go_at_call 74; refine (common_any _ _ _ (by omega) (by omega) (by omega) (by omega)).mono ?_; rintro e w' ⟨rfl, nn, rfl⟩))
      go_ret
      exact ⟨rfl, below_drewN (((Below.refl _ _).alloc (Nat.le_refl _) _).alloc (by simp) _) _⟩
    · have hg' : (gcdi n d == 1) = false := by simpa using hg
      rw [okB_no (fun h => hg h.2.2.2.2)]
      clear hg
      go_enter Try.func67, Try.ntmps67
      go_wp2_with (first | (go_at_call 73; refine (bounded_any _ _ _).mono ?_; rintro e w' ⟨rfl, rfl⟩) | (go_at_call 74; refine (common_any _ _ _ (by omega) (by omega) (by omega) (by omega)).mono ?_; rintro e w' ⟨rfl, nn, rfl⟩))
      go_ret
      exact ⟨rfl, below_drewN (((Below.refl _ _).alloc (Nat.le_refl _) _).alloc (by simp) _) _⟩
  · have hb' : bdB n d = false := by simpa using hb
    have hn := bdB_outN hb'
    rw [okB_no (by omega)]
    clear hb
    go_enter Try.func67, Try.ntmps67
    go_wp2_with (first | (go_at_call 73; refine (bounded_any _ _ _).mono ?_; rintro e w' ⟨rfl, rfl⟩))
    go_ret
    exact ⟨rfl, (((Below.refl _ _).alloc (Nat.le_refl _) _).alloc (by simp) _)⟩

theorem sOk_any (n d : Int) (w : World) :
    Calls Try.prog 58 #[.agg #[.int .i64 n, .int .i64 d]] w fun e w' => e = .returned (.bool (okB n d)) ∧ Below w.heap.size w w' := by
  by_cases h1 : inB d 1 1000000000 = true
  · have g1 := of_decide_eq_true h1
    by_cases h2 : inB n (-1000000000) 1000000000 = true
    · have g2 := of_decide_eq_true h2
      by_cases hg : gcdi n d = 1
      · rw [okB_mk (by omega)]
        go_enter Try.func58, Try.ntmps58
        go_wp2_with (first | (go_at_call 52; refine (in_any _ _ _ _).mono ?_; rintro e w' ⟨rfl, rfl⟩) | (go_at_call 66; refine (shared_any _ _ _ (by omega) (by omega) (by omega) (by omega)).mono ?_; rintro e w' ⟨rfl, rfl⟩))
        go_ret
        exact ⟨rfl, ((Below.refl _ _).alloc (Nat.le_refl _) _)⟩
      · have hg' : (gcdi n d == 1) = false := by simpa using hg
        rw [okB_no (by omega)]
        clear hg
        go_enter Try.func58, Try.ntmps58
        go_wp2_with (first | (go_at_call 52; refine (in_any _ _ _ _).mono ?_; rintro e w' ⟨rfl, rfl⟩) | (go_at_call 66; refine (shared_any _ _ _ (by omega) (by omega) (by omega) (by omega)).mono ?_; rintro e w' ⟨rfl, rfl⟩))
        go_ret
        exact ⟨rfl, ((Below.refl _ _).alloc (Nat.le_refl _) _)⟩
    · have h2' : inB n (-1000000000) 1000000000 = false := by simpa using h2
      have g2 := of_decide_eq_false h2'
      rw [okB_no (by omega)]
      clear h2
      go_enter Try.func58, Try.ntmps58
      go_wp2_with (first | (go_at_call 52; refine (in_any _ _ _ _).mono ?_; rintro e w' ⟨rfl, rfl⟩))
      go_ret
      exact ⟨rfl, ((Below.refl _ _).alloc (Nat.le_refl _) _)⟩
  · have h1' : inB d 1 1000000000 = false := by simpa using h1
    have g1 := of_decide_eq_false h1'
    rw [okB_no (by omega)]
    clear h1
    go_enter Try.func58, Try.ntmps58
    go_wp2_with (first | (go_at_call 52; refine (in_any _ _ _ _).mono ?_; rintro e w' ⟨rfl, rfl⟩))
    go_ret
    exact ⟨rfl, ((Below.refl _ _).alloc (Nat.le_refl _) _)⟩
end Go.Proofs.Ytkcdpjcfbpjkean
