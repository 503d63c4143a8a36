/- The walks of the program's test of a table, and of two tables held against each other. -/
import Derived.Test.YthfdpdnphnjebaaTabW2
import Derived.Test.YthfdpdnphnjebaaRowUp
namespace Go.Proofs.Ythfdpdnphnjebaa
open Go.RowKit Go.Proofs.Ythfdpdnphnjebaa.RM

end Go.Proofs.Ythfdpdnphnjebaa
