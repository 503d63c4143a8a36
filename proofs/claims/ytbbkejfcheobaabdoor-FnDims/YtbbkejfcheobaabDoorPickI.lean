/- The laws' size test and pick, standing alone. -/
import Derived.Test.YtbbkejfcheobaabDoorDrawI
namespace Go.Proofs.YtbbkejfcheobaabDoor
open Go.RowKit Go.Proofs.YtbbkejfcheobaabDoor.RM

theorem bigD_any (a : Option Addr) (len cap : Nat) (w : World) :
    Calls Tryd.prog 4 #[.slice a len cap] w fun e w' => e = .returned (.bool (decide (4096 < (len : Int)))) ∧ w' = w := by
  by_cases h : 4096 < (len : Int)
  · rw [decide_eq_true h]
    go_enter Tryd.func4, Tryd.ntmps4
    go_wp2
    go_ret
    exact ⟨rfl, rfl⟩
  · rw [decide_eq_false h]
    go_enter Tryd.func4, Tryd.ntmps4
    go_wp2
    go_ret
    exact ⟨rfl, rfl⟩

set_option maxHeartbeats 800000 in
theorem pickD_any (a : Option Addr) (len cap : Nat) (zs : List Int) (seed n : Int) (w : World) (hr : IsRow .u8 w a len cap zs) (hl : len ≤ 4096) (hs0 : 0 ≤ seed) (hs1 : seed ≤ 1000) (hn : 0 < n) :
    Calls Tryd.prog 17 #[.slice a len cap, .int .i64 seed, .int .i64 n] w fun e w' => ∃ x : Int, e = .returned (.int .i64 x) ∧ 0 ≤ x ∧ x < n ∧ w' = w := by
  have HR : Hid (IsRow .u8 w a len cap zs) := hr
  clear hr
  go_enter Tryd.func17, Tryd.ntmps17
  go_wp2
  go_loop [7, 8] (fun x y => ∃ (h : Int) (k : Nat), 0 ≤ h ∧ h ≤ 10000000 ∧ k ≤ len ∧ x = .int .i64 h ∧ y = .int .i64 k) (fun _ y => len - (intOf y).toNat)
  case atStart => exact ⟨_, 0, by omega, by omega, Nat.zero_le _, rfl, rfl⟩
  case round =>
    obtain ⟨h, k, hh0, hh1, hk, rfl, rfl⟩ := hrel
    by_cases hlt : k < len
    · rcases HR.out with ⟨rfl, _⟩ | ⟨b, off, rfl, g1, g2, g3, g4, g5⟩
      · omega
      · have hx := g4 k (by omega)
        have hwf := range_u8 g5 k
        have hy : ∃ y, w.cell? ⟨b, off + k, none⟩ = some (.int .u8 y) ∧ 0 ≤ y ∧ y ≤ 255 := ⟨_, hx, by rw [List.getD_eq_getElem?_getD]; exact hwf.1, by rw [List.getD_eq_getElem?_getD]; exact hwf.2⟩
        obtain ⟨y, hy1, hy2, hy3⟩ := hy
        clear hx hwf g4 g5
        have hm := rem_in (h * 139 + y + seed) 1000003 (by omega)
        obtain ⟨hm0, hm1⟩ := hm
        go_wp2
        go_round
        case rel => exact ⟨_, k + 1, hm0, by omega, by omega, rfl, by go_num⟩
        case measure => simp [intOf]; omega
    · have hm := rem_in h n hn
      obtain ⟨hm0, hm1⟩ := hm
      have hn0 : ¬ n = 0 := by omega
      go_wp2
      go_ret
      exact ⟨_, rfl, hm0, hm1, rfl⟩
end Go.Proofs.YtbbkejfcheobaabDoor
