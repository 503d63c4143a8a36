/- The walks of Floor, the program's and the model's: both answer the same whole number. -/
import Derived.Test.YtijdggcfjkfgcalRatioW2
namespace Go.Proofs.Ytijdggcfjkfgcal
open Go.RowKit Go.Proofs.Ytijdggcfjkfgcal.RM

end Go.Proofs.Ytijdggcfjkfgcal
