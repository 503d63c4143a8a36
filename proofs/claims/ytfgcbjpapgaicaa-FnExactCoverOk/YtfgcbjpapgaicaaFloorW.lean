/- The walks of Floor, the program's and the model's: both answer the same whole number. -/
import Derived.Test.YtfgcbjpapgaicaaRatioW2
namespace Go.Proofs.Ytfgcbjpapgaicaa
open Go.RowKit Go.Proofs.Ytfgcbjpapgaicaa.RM

end Go.Proofs.Ytfgcbjpapgaicaa
