/- The walks of Floor, the program's and the model's: both answer the same whole number. -/
import Derived.Test.YtoiigmimdjipiaaRatioW2
namespace Go.Proofs.Ytoiigmimdjipiaa
open Go.RowKit Go.Proofs.Ytoiigmimdjipiaa.RM

end Go.Proofs.Ytoiigmimdjipiaa
