/- The walk of the model's sum over all of a cover. -/
import Derived.Test.YtcafdkmgjfakdaaBudMath
import Derived.Test.YtcafdkmgjfakdaaBudW1
import Derived.Test.YtcafdkmgjfakdaaTimW3
namespace Go.Proofs.Ytcafdkmgjfakdaa
open Go.RowKit Go.Proofs.Ytcafdkmgjfakdaa.RM

theorem g_drew1 {w w' : World} {row : Option Nat} (h : w.grownBy w' row) : w.grownBy w'.drew row := g_drewN h 1
end Go.Proofs.Ytcafdkmgjfakdaa
