/- The walks of the program's test of a table, and of two tables held against each other. -/
import Derived.Test.YtkciafcehicbmaaTabW2
namespace Go.Proofs.Ytkciafcehicbmaa
open Go.RowKit Go.Proofs.Ytkciafcehicbmaa.RM

end Go.Proofs.Ytkciafcehicbmaa
