/- The walks of the program's test of a table, and of two tables held against each other. -/
import Derived.Test.YthmdiljcceiedaaTabW2
import Derived.Test.YthmdiljcceiedaaRowUp
namespace Go.Proofs.Ythmdiljcceiedaa
open Go.RowKit Go.Proofs.Ythmdiljcceiedaa.RM

end Go.Proofs.Ythmdiljcceiedaa
