/- The walk of the program's row by column. -/
import Derived.Test.YthfdpdnphnjebaaTabW4
import Derived.Test.YthfdpdnphnjebaaTimMath
import Derived.Test.YthfdpdnphnjebaaRatioW5
import Derived.Deep.RegionWith
import Derived.Deep.RegionHeld3
import Derived.Deep.DeepCutAuto
import Derived.Deep.CutRange
namespace Go.Proofs.Ythfdpdnphnjebaa
open Go.RowKit Go.Proofs.Ythfdpdnphnjebaa.RM

theorem ret_fb {n d n' d' : Int} {o o' : Bool} (h1 : n = n') (h2 : d = d') (h3 : o = o') : Ending.returned (.tuple #[.agg #[.int .i64 n, .int .i64 d], .bool o]) = .returned (.tuple #[.agg #[.int .i64 n', .int .i64 d'], .bool o']) := by rw [h1, h2, h3]

end Go.Proofs.Ythfdpdnphnjebaa
