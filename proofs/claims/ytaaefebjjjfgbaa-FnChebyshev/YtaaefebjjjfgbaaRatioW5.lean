/- The walks of the program's own reckonings: each step is a method value that one helper calls. -/
import Derived.Test.YtaaefebjjjfgbaaRatioW4
namespace Go.Proofs.Ytaaefebjjjfgbaa
open Go.RowKit Go.Proofs.Ytaaefebjjjfgbaa.RM

end Go.Proofs.Ytaaefebjjjfgbaa
