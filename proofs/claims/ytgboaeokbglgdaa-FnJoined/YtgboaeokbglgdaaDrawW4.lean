/- What is drawn from the bytes: one fraction, two of them, small right ones. -/
import Derived.Test.YtgboaeokbglgdaaDrawW3
import Derived.Deep.RegionHeld3
import Derived.Deep.DeepCutAuto
namespace Go.Proofs.Ytgboaeokbglgdaa
open Go.RowKit Go.Proofs.Ytgboaeokbglgdaa.RM

theorem big_any (a : Option Addr) (len cap : Nat) (w : World) :
    Calls Try.prog 4 #[.slice a len cap] w fun e w' => e = .returned (.bool (decide (4096 < (len : Int)))) ∧ w' = w := by
  by_cases h : 4096 < (len : Int)
  · rw [decide_eq_true h]
    go_enter Try.func4, Try.ntmps4
    go_wp2
    go_ret
    exact ⟨rfl, rfl⟩
  · rw [decide_eq_false h]
    go_enter Try.func4, Try.ntmps4
    go_wp2
    go_ret
    exact ⟨rfl, rfl⟩

end Go.Proofs.Ytgboaeokbglgdaa
