/- The walks of Floor, the program's and the model's: both answer the same whole number. -/
import Derived.Test.YthfdpdnphnjebaaRatioW2
namespace Go.Proofs.Ythfdpdnphnjebaa
open Go.RowKit Go.Proofs.Ythfdpdnphnjebaa.RM

end Go.Proofs.Ythfdpdnphnjebaa
