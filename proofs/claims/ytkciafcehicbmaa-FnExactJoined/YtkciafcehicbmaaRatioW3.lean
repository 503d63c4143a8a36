/- The walks of Reduced, the program's and the model's: both answer the same fraction of whole numbers. -/
import Derived.Test.YtkciafcehicbmaaRatioW2
import Derived.BigRegion
namespace Go.Proofs.Ytkciafcehicbmaa
open Go.RowKit Go.Proofs.Ytkciafcehicbmaa.RM

theorem ret_red {a b a' b' : Int} {c c' : Bool} (h1 : a = a') (h2 : b = b') (h3 : c = c') : Ending.returned (.tuple #[.agg #[.int .i64 a, .int .i64 b], .bool c]) = .returned (.tuple #[.agg #[.int .i64 a', .int .i64 b'], .bool c']) := by rw [h1, h2, h3]

end Go.Proofs.Ytkciafcehicbmaa
