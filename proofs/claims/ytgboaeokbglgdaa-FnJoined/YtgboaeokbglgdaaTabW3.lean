/- The walks of the program's test of a table, and of two tables held against each other. -/
import Derived.Test.YtgboaeokbglgdaaTabW2
namespace Go.Proofs.Ytgboaeokbglgdaa
open Go.RowKit Go.Proofs.Ytgboaeokbglgdaa.RM

end Go.Proofs.Ytgboaeokbglgdaa
