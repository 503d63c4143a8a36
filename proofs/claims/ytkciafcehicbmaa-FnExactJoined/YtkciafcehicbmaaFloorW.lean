/- The walks of Floor, the program's and the model's: both answer the same whole number. -/
import Derived.Test.YtkciafcehicbmaaRatioW2
namespace Go.Proofs.Ytkciafcehicbmaa
open Go.RowKit Go.Proofs.Ytkciafcehicbmaa.RM

end Go.Proofs.Ytkciafcehicbmaa
