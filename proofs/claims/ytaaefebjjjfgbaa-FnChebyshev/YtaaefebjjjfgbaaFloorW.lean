/- The walks of Floor, the program's and the model's: both answer the same whole number. -/
import Derived.Test.YtaaefebjjjfgbaaRatioW2
namespace Go.Proofs.Ytaaefebjjjfgbaa
open Go.RowKit Go.Proofs.Ytaaefebjjjfgbaa.RM

end Go.Proofs.Ytaaefebjjjfgbaa
