/- The walks of the program's test of a table, and of two tables held against each other. -/
import Derived.Test.YtaaefebjjjfgbaaTabW2
namespace Go.Proofs.Ytaaefebjjjfgbaa
open Go.RowKit Go.Proofs.Ytaaefebjjjfgbaa.RM

end Go.Proofs.Ytaaefebjjjfgbaa
