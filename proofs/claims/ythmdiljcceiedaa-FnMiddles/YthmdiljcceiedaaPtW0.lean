/- Rows of points: copied, held against each other, marked. -/
import Derived.Test.YthmdiljcceiedaaTabW4
import Derived.Test.YthmdiljcceiedaaRatioW4
namespace Go.Proofs.Ythmdiljcceiedaa
open Go.RowKit Go.Proofs.Ythmdiljcceiedaa.RM

end Go.Proofs.Ythmdiljcceiedaa
