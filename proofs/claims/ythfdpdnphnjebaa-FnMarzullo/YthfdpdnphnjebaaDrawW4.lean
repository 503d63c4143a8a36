/- What is drawn from the bytes: one fraction, two of them, small right ones. -/
import Derived.Test.YthfdpdnphnjebaaDrawW3
import Derived.Deep.RegionHeld3
import Derived.Deep.DeepCutAuto
namespace Go.Proofs.Ythfdpdnphnjebaa
open Go.RowKit Go.Proofs.Ythfdpdnphnjebaa.RM

theorem big_any (a : Option Addr) (len cap : Nat) (w : World) :
    Calls Try.prog 4 #[.slice a len cap] w fun e w' => e = .returned (.bool (decide (4096 < (len : Int)))) ∧ w' = w := by
  by_cases h : 4096 < (len : Int)
  · rw [decide_eq_true h]
    go_enter Try.func4, Try.ntmps4
    go_wp2
    go_ret
    exact ⟨rfl, rfl⟩
  · rw [decide_eq_false h]
    go_enter Try.func4, Try.ntmps4
    go_wp2
    go_ret
    exact ⟨rfl, rfl⟩

theorem whole_any (n : Int) (w : World) :
    Calls Try.prog 17 #[.int .i64 n] w fun e w' => e = .returned (.agg #[.int .i64 n, .int .i64 1]) ∧ w' = w.alloc (.cells #[.int .i64 n, .int .i64 1] 27) := by
  go_enter Try.func17, Try.ntmps17
  go_wp2
  exact bodyPost_ret (v := .agg #[.int .i64 n, .int .i64 1]) (by simp [results, Try.results17, go_sem]) rfl ⟨rfl, rfl⟩

set_option maxHeartbeats 800000 in
theorem pick_any (a : Option Addr) (len cap : Nat) (zs : List Int) (seed n : Int) (w : World) (hr : IsRow .u8 w a len cap zs) (hl : len ≤ 4096) (hs0 : 0 ≤ seed) (hs1 : seed ≤ 1000) (hn : 0 < n) :
    Calls Try.prog 32 #[.slice a len cap, .int .i64 seed, .int .i64 n] w fun e w' => ∃ x : Int, e = .returned (.int .i64 x) ∧ 0 ≤ x ∧ x < n ∧ w' = w := by
  have HR : Hid (IsRow .u8 w a len cap zs) := hr
  clear hr
  go_enter Try.func32, Try.ntmps32
  go_wp2
  go_loop [7, 8] (fun x y => ∃ (h : Int) (k : Nat), 0 ≤ h ∧ h ≤ 10000000 ∧ k ≤ len ∧ x = .int .i64 h ∧ y = .int .i64 k) (fun _ y => len - (intOf y).toNat)
  case atStart => exact ⟨_, 0, by omega, by omega, Nat.zero_le _, rfl, rfl⟩
  case round =>
    obtain ⟨h, k, hh0, hh1, hk, rfl, rfl⟩ := hrel
    by_cases hlt : k < len
    · rcases HR.out with ⟨rfl, _⟩ | ⟨b, off, rfl, g1, g2, g3, g4, g5⟩
      · omega
      · have hx := g4 k (by omega)
        have hwf := range_u8 g5 k
        have hy : ∃ y, w.cell? ⟨b, off + k, none⟩ = some (.int .u8 y) ∧ 0 ≤ y ∧ y ≤ 255 := ⟨_, hx, by rw [List.getD_eq_getElem?_getD]; exact hwf.1, by rw [List.getD_eq_getElem?_getD]; exact hwf.2⟩
        obtain ⟨y, hy1, hy2, hy3⟩ := hy
        clear hx hwf g4 g5
        have hm := rem_in (h * 139 + y + seed) 1000003 (by omega)
        obtain ⟨hm0, hm1⟩ := hm
        go_wp2
        go_round
        case rel => exact ⟨_, k + 1, hm0, by omega, by omega, rfl, by go_num⟩
        case measure => simp [intOf]; omega
    · have hm := rem_in h n hn
      obtain ⟨hm0, hm1⟩ := hm
      have hn0 : ¬ n = 0 := by omega
      go_wp2
      go_ret
      exact ⟨_, rfl, hm0, hm1, rfl⟩

set_option maxHeartbeats 800000 in
theorem part_any (a : Option Addr) (len cap : Nat) (zs : List Int) (seed : Int) (w : World) (hr : IsRow .u8 w a len cap zs) (hl : len ≤ 4096) (hs0 : 0 ≤ seed) (hs1 : seed ≤ 900) :
    Calls Try.prog 12 #[.slice a len cap, .int .i64 seed] w fun e w' => ∃ n d : Int, e = .returned (.agg #[.int .i64 n, .int .i64 d]) ∧ okB n d = true ∧ -6 ≤ n ∧ n ≤ 6 ∧ 1 ≤ d ∧ d ≤ 4 ∧ Below w.heap.size w w' := by
  have HR : Hid (IsRow .u8 (w.alloc (.cells #[.int .i64 0, .int .i64 0] 27)) a len cap zs) := hr.below ((Below.refl _ _).alloc (Nat.le_refl _) _)
  clear hr
  go_enter Try.func12, Try.ntmps12
  go_wp2_with fail
  refine (pick_any a len cap zs _ _ _ HR.out hl hs0 (by omega) (by omega)).mono ?_
  rintro e w1 ⟨x, rfl, hx0, hx1, rfl⟩
  go_wp2_with fail
  refine (pick_any a len cap zs _ _ _ HR.out hl (by omega) (by omega) (by omega)).mono ?_
  rintro e w2 ⟨y, rfl, hy0, hy1, rfl⟩
  go_wp2_with fail
  refine (sRed_any _ _ _).mono ?_
  rintro e w3 ⟨rfl, hB3⟩
  obtain ⟨r1, r2, r3, r4, r5, r6⟩ := red_small (x := x - 6) (y := 1 + y) (m := 6) (by omega) (by omega) (by omega) (by omega) (by omega)
  have B3 : Below w.heap.size w w3 := ((Below.refl _ _).alloc (Nat.le_refl _) _).trans (hB3.mono (by simp))
  have rc0 : w3.cell? ⟨w.heap.size, 0, none⟩ = some (.int .i64 0) := by refine cell_later hB3 ?_; simp [go_sem]
  have rc1 : w3.cell? ⟨w.heap.size, 1, none⟩ = some (.int .i64 0) := by refine cell_later hB3 ?_; simp [go_sem]
  have rf0 : w3.frozen? ⟨w.heap.size, 0, none⟩ = false := by refine frozen_later (v := .int .i64 0) hB3 ?_ ?_ <;> simp [go_sem]
  have rf1 : w3.frozen? ⟨w.heap.size, 1, none⟩ = false := by refine frozen_later (v := .int .i64 0) hB3 ?_ ?_ <;> simp [go_sem]
  have hsz : w.heap.size < w3.heap.size := lt_cell rc0
  clear hB3 HR r1
  have r0 : (((w3.setCell ⟨w.heap.size, 0, none⟩ (.int .i64 (redN (x - 6) (1 + y)))).setCell ⟨w.heap.size, 1, none⟩ (.int .i64 (redD (x - 6) (1 + y)))).alloc (.cells #[.int .i64 (redN (x - 6) (1 + y)), .int .i64 (redD (x - 6) (1 + y))] 27)).cell? ⟨w.heap.size, 0, none⟩ = some (.int .i64 (redN (x - 6) (1 + y))) := cell_al _ (new2 rc0 rc1).1
  have r01 : (((w3.setCell ⟨w.heap.size, 0, none⟩ (.int .i64 (redN (x - 6) (1 + y)))).setCell ⟨w.heap.size, 1, none⟩ (.int .i64 (redD (x - 6) (1 + y)))).alloc (.cells #[.int .i64 (redN (x - 6) (1 + y)), .int .i64 (redD (x - 6) (1 + y))] 27)).cell? ⟨w.heap.size, 1, none⟩ = some (.int .i64 (redD (x - 6) (1 + y))) := cell_al _ (new2 rc0 rc1).2
  go_wp2
  exact bodyPost_ret (v := .agg #[.int .i64 (redN (x - 6) (1 + y)), .int .i64 (redD (x - 6) (1 + y))]) (by simp [results, Try.results12, go_sem, r0, r01]) rfl ⟨_, _, rfl, r2, r3, r4, r5, by omega, below_alN _ ((B3.setCell (Nat.le_refl _) _).setCell (Nat.le_refl _) _)⟩
end Go.Proofs.Ythfdpdnphnjebaa
