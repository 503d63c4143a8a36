/- The walk of the program's takeFromRow. -/
import Derived.Test.YtaaefebjjjfgbaaEchW1
import Derived.Test.YtaaefebjjjfgbaaTimW3
namespace Go.Proofs.Ytaaefebjjjfgbaa
open Go.RowKit Go.Proofs.Ytaaefebjjjfgbaa.RM

end Go.Proofs.Ytaaefebjjjfgbaa
