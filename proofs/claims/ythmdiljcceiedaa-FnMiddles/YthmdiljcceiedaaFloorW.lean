/- The walks of Floor, the program's and the model's: both answer the same whole number. -/
import Derived.Test.YthmdiljcceiedaaRatioW2
namespace Go.Proofs.Ythmdiljcceiedaa
open Go.RowKit Go.Proofs.Ythmdiljcceiedaa.RM

end Go.Proofs.Ythmdiljcceiedaa
