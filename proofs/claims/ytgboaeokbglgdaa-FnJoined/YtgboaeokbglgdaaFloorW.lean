/- The walks of Floor, the program's and the model's: both answer the same whole number. -/
import Derived.Test.YtgboaeokbglgdaaRatioW2
namespace Go.Proofs.Ytgboaeokbglgdaa
open Go.RowKit Go.Proofs.Ytgboaeokbglgdaa.RM

end Go.Proofs.Ytgboaeokbglgdaa
