/- The walk of the program's row by column. -/
import Derived.Test.YtaaefebjjjfgbaaTabW4
import Derived.Test.YtaaefebjjjfgbaaTimMath
import Derived.Test.YtaaefebjjjfgbaaRatioW5
import Derived.Deep.RegionWith
import Derived.Deep.RegionHeld3
import Derived.Deep.DeepCutAuto
import Derived.Deep.CutRange
namespace Go.Proofs.Ytaaefebjjjfgbaa
open Go.RowKit Go.Proofs.Ytaaefebjjjfgbaa.RM

theorem ret_fb {n d n' d' : Int} {o o' : Bool} (h1 : n = n') (h2 : d = d') (h3 : o = o') : Ending.returned (.tuple #[.agg #[.int .i64 n, .int .i64 d], .bool o]) = .returned (.tuple #[.agg #[.int .i64 n', .int .i64 d'], .bool o']) := by rw [h1, h2, h3]

end Go.Proofs.Ytaaefebjjjfgbaa
