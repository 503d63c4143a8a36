/- The walks of the program's test of a table, and of two tables held against each other. -/
import Derived.Test.YtiiiaenahghobaaTabW2
namespace Go.Proofs.Ytiiiaenahghobaa
open Go.RowKit Go.Proofs.Ytiiiaenahghobaa.RM

end Go.Proofs.Ytiiiaenahghobaa
