/- The walk of the program's rightUpTo. -/
import Derived.Test.YthfdpdnphnjebaaTabW2
namespace Go.Proofs.Ythfdpdnphnjebaa
open Go.RowKit Go.Proofs.Ythfdpdnphnjebaa.RM

end Go.Proofs.Ythfdpdnphnjebaa
