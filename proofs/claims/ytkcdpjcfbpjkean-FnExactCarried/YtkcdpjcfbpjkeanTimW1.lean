/- The walk of the program's row by column. -/
import Derived.Test.YtkcdpjcfbpjkeanTabW4
import Derived.Test.YtkcdpjcfbpjkeanTimMath
import Derived.Test.YtkcdpjcfbpjkeanRatioW5
import Derived.Deep.RegionWith
import Derived.Deep.RegionHeld3
import Derived.Deep.DeepCutAuto
import Derived.Deep.CutRange
namespace Go.Proofs.Ytkcdpjcfbpjkean
open Go.RowKit Go.Proofs.Ytkcdpjcfbpjkean.RM

theorem mulC (x1 x2 y1 y2 : Int) (w : World) :
    Calls Try.prog 63 #[.agg #[.int .i64 x1, .int .i64 x2], .agg #[.int .i64 y1, .int .i64 y2]] w fun e w' => e = .returned (.tuple #[.agg #[.int .i64 (mulP (x1, x2) (y1, y2)).1, .int .i64 (mulP (x1, x2) (y1, y2)).2], .bool (mulK (x1, x2) (y1, y2))]) ∧ Below w.heap.size w w' := iMul_any x1 x2 y1 y2 w
theorem addC (x1 x2 y1 y2 : Int) (w : World) :
    Calls Try.prog 64 #[.agg #[.int .i64 x1, .int .i64 x2], .agg #[.int .i64 y1, .int .i64 y2]] w fun e w' => e = .returned (.tuple #[.agg #[.int .i64 (addP (x1, x2) (y1, y2)).1, .int .i64 (addP (x1, x2) (y1, y2)).2], .bool (addK (x1, x2) (y1, y2))]) ∧ Below w.heap.size w w' := iAdd_any x1 x2 y1 y2 w
theorem ret_fb {n d n' d' : Int} {o o' : Bool} (h1 : n = n') (h2 : d = d') (h3 : o = o') : Ending.returned (.tuple #[.agg #[.int .i64 n, .int .i64 d], .bool o]) = .returned (.tuple #[.agg #[.int .i64 n', .int .i64 d'], .bool o']) := by rw [h1, h2, h3]

end Go.Proofs.Ytkcdpjcfbpjkean
