/- The walk of the model's l3Echelon. -/
import Derived.Test.YtcafdkmgjfakdaaEchW9
import Derived.Deep.DeepMust
import Derived.Deep.LoopGhost
import Derived.Deep.RegionWith
namespace Go.Proofs.Ytcafdkmgjfakdaa
open Go.RowKit Go.Proofs.Ytcafdkmgjfakdaa.RM

end Go.Proofs.Ytcafdkmgjfakdaa
