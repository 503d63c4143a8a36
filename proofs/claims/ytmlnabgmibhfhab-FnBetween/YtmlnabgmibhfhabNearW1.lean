/- The walks of the small functions under Nearest: the order of two fractions, the comparisons, the parts between two fractions. -/
import Derived.Test.YtmlnabgmibhfhabOrdMath
import Derived.Test.YtmlnabgmibhfhabTermsW
import Derived.Deep.RegionWith
import Derived.Deep.CutRange
import Derived.Deep.RegionHeld3
import Derived.Deep.DeepCutAuto
namespace Go.Proofs.Ytmlnabgmibhfhab
open Go.RowKit Go.Proofs.Ytmlnabgmibhfhab.RM

theorem below_alR {w w' : World} (o : Obj) (h : Below w.heap.size w w') : Below w.heap.size w (w'.alloc o) := h.alloc h.size _
end Go.Proofs.Ytmlnabgmibhfhab
