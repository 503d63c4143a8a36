/- The walks of Floor, the program's and the model's: both answer the same whole number. -/
import Derived.Test.YtbbkejfcheobaaaDoorRatioW2
namespace Go.Proofs.YtbbkejfcheobaaaDoor
open Go.RowKit Go.Proofs.YtbbkejfcheobaaaDoor.RM

end Go.Proofs.YtbbkejfcheobaaaDoor
