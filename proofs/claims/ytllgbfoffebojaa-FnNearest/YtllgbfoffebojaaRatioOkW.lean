/- The walk of the program's RatioOk. -/
import Derived.Test.YtllgbfoffebojaaRatioW2
namespace Go.Proofs.Ytllgbfoffebojaa
open Go.RowKit Go.Proofs.Ytllgbfoffebojaa.RM
theorem iOk_any (n d : Int) (w : World) :
    Calls Try.prog 16 #[.agg #[.int .i64 n, .int .i64 d]] w fun e w' => e = .returned (.bool (okB n d)) ∧ Below w.heap.size w w' := by
  go_enter Try.func16, Try.ntmps16
  go_wp2_with fail
  refine (right_any _ _ _).mono ?_
  rintro e w1 ⟨rfl, hbl⟩
  have B1 : Below w.heap.size w w1 := ((Below.refl _ _).alloc (Nat.le_refl _) _).trans (hbl.mono (by simp))
  go_wp2
  go_ret
  exact ⟨rfl, B1⟩
end Go.Proofs.Ytllgbfoffebojaa
