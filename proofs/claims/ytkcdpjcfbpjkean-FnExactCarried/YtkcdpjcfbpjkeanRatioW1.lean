/- The walks of the small functions under RatioOk: l1In, l1Shared, commonDivisor, each by what it answers. -/
import Derived.Test.YtkcdpjcfbpjkeanChecked
import Derived.WalkKit
import Derived.WalkSpells
import Derived.WalkLawsBesides
import Derived.ProofKit
import Derived.Below
import Derived.LoopTactic
import Derived.Outline
import Derived.RegionTactic
import Derived.ChangeAlike
import Derived.BigQuiet
import Derived.Deep.QuietTactic
import Derived.Test.YtkcdpjcfbpjkeanRatioMath
namespace Go.Proofs.Ytkcdpjcfbpjkean
open Go.RowKit Go.Proofs.Ytkcdpjcfbpjkean.RM

theorem bcell {W w1 : World} (hb : Below W.heap.size W w1) : (∀ b o, b < W.heap.size → w1.cell? ⟨b, o, none⟩ = W.cell? ⟨b, o, none⟩) ∧ (∀ b o, b < W.heap.size → w1.frozen? ⟨b, o, none⟩ = W.frozen? ⟨b, o, none⟩) :=
  ⟨fun b o h => hb.cell (p := ⟨b, o, none⟩) h, fun b o h => hb.frozen (p := ⟨b, o, none⟩) h⟩
theorem frozen_later {w wx : World} {a : Addr} {v : Value} (hb : Below w.heap.size w wx) (h : w.cell? a = some v) (hf : w.frozen? a = false) : wx.frozen? a = false := by
  rw [hb.frozen (World.block_lt_of_cell? w a h)]; exact hf
theorem below_alN {W w : World} (o : Obj) (h : Below W.heap.size W w) : Below W.heap.size W (w.alloc o) := h.alloc h.size o
theorem lt_cell {w : World} {b o : Nat} {v : Value} (h : w.cell? ⟨b, o, none⟩ = some v) : b < w.heap.size := World.block_lt_of_cell? w _ h
theorem cell_al {w : World} {a : Addr} {v : Value} (o : Obj) (h : w.cell? a = some v) : (w.alloc o).cell? a = some v :=
  cell_later ((Below.refl _ _).alloc (Nat.le_refl _) o) h
theorem cell_dr {w : World} {a : Addr} {v : Value} (h : w.cell? a = some v) : w.drew.cell? a = some v := h
theorem cell_stb {w : World} {b o c q : Nat} {u v : Value} (h : w.cell? ⟨b, o, none⟩ = some v) (hne : b ≠ c) : (w.setCell ⟨c, q, none⟩ u).cell? ⟨b, o, none⟩ = some v := by
  rw [World.cell?_setCell_other _ _ _ _ (fun e => hne (by injection e with e1; exact e1.symm))]; exact h
theorem new2 {w : World} {B : Nat} {x y n d : Value} (h0 : w.cell? ⟨B, 0, none⟩ = some x) (h1 : w.cell? ⟨B, 1, none⟩ = some y) :
    ((w.setCell ⟨B, 0, none⟩ n).setCell ⟨B, 1, none⟩ d).cell? ⟨B, 0, none⟩ = some n ∧ ((w.setCell ⟨B, 0, none⟩ n).setCell ⟨B, 1, none⟩ d).cell? ⟨B, 1, none⟩ = some d := by
  constructor <;> simp [go_sem, h0, h1]
theorem ret_int {k : IntKind} {a b : Int} (h : a = b) : Ending.returned (.int k a) = .returned (.int k b) := by rw [h]
theorem ret_bool {a b : Bool} (h : a = b) : Ending.returned (.bool a) = .returned (.bool b) := by rw [h]

/-- is x from lo to hi? -/
def inB (x lo hi : Int) : Bool := decide (lo ≤ x ∧ x ≤ hi)
theorem inB_yes {x lo hi : Int} (h1 : lo ≤ x) (h2 : x ≤ hi) : inB x lo hi = true := decide_eq_true ⟨h1, h2⟩
theorem inB_no {x lo hi : Int} (h : ¬ (lo ≤ x ∧ x ≤ hi)) : inB x lo hi = false := decide_eq_false h

theorem in_any (x lo hi : Int) (w : World) :
    Calls Try.prog 52 #[.int .i64 x, .int .i64 lo, .int .i64 hi] w fun e w' => e = .returned (.bool (inB x lo hi)) ∧ w' = w := by
  by_cases h1 : lo ≤ x
  · by_cases h2 : x ≤ hi
    · rw [inB_yes h1 h2]
      go_enter Try.func52, Try.ntmps52
      go_wp2
      go_ret
      exact ⟨rfl, rfl⟩
    · rw [inB_no (by omega)]
      go_enter Try.func52, Try.ntmps52
      go_wp2
      go_ret
      exact ⟨rfl, rfl⟩
  · rw [inB_no (by omega)]
    go_enter Try.func52, Try.ntmps52
    go_wp2
    go_ret
    exact ⟨rfl, rfl⟩

set_option maxHeartbeats 400000 in
theorem shared_any (a b : Int) (w : World) (ha : -4611686018427387904 ≤ a) (ha' : a ≤ 4611686018427387904) (hb : -4611686018427387904 ≤ b) (hb' : b ≤ 4611686018427387904) :
    Calls Try.prog 66 #[.int .i64 a, .int .i64 b] w fun e w' => e = .returned (.int .i64 (gcdi a b)) ∧ w' = w := by
  by_cases h1 : a < 0
  all_goals by_cases h2 : b < 0
  all_goals
    go_enter Try.func66, Try.ntmps66
    go_wp2
    go_loop [0, 1] (fun x y => ∃ p q : Int, 0 ≤ p ∧ p ≤ 4611686018427387904 ∧ 0 ≤ q ∧ q ≤ 4611686018427387904 ∧ x = .int .i64 p ∧ y = .int .i64 q ∧ Hid (gcdi p q = gcdi a b)) (fun _ y => (intOf y).toNat)
    case atStart => exact ⟨_, _, by omega, by omega, by omega, by omega, rfl, rfl, by show _ = _; simp only [gcdi_neg_l, gcdi_neg_r]⟩
    case round =>
      obtain ⟨p, q, hp, hp', hq, hq', rfl, rfl, hg⟩ := hrel
      by_cases hz : q = 0
      · subst hz
        go_wp2
        go_ret
        exact ⟨ret_int (by rw [← hg.out, gcdi_zero_abs, if_neg (by omega)]), rfl⟩
      · have hz' : (q != 0) = true := by simpa using hz
        have hpos : 0 < q := by omega
        have hm0 : 0 ≤ p % q := Int.emod_nonneg _ hz
        have hm1 : p % q < q := Int.emod_lt_of_pos _ hpos
        go_wp2
        go_round
        case rel => exact ⟨_, _, by omega, by omega, hm0, by omega, rfl, rfl, by show _ = _; rw [gcdi_stepE _ _ hp]; exact hg.out⟩
        case measure => simp [intOf]; omega
end Go.Proofs.Ytkcdpjcfbpjkean
