/- The walk of the model's l3Echelon. -/
import Derived.Test.YtaaefebjjjfgbaaEchW9
import Derived.Deep.DeepMust
import Derived.Deep.LoopGhost
import Derived.Deep.RegionWith
namespace Go.Proofs.Ytaaefebjjjfgbaa
open Go.RowKit Go.Proofs.Ytaaefebjjjfgbaa.RM

end Go.Proofs.Ytaaefebjjjfgbaa
