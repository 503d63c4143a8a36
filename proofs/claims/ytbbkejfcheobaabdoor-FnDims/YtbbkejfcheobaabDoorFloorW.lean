/- The walks of Floor, the program's and the model's: both answer the same whole number. -/
import Derived.Test.YtbbkejfcheobaabDoorRatioW2
namespace Go.Proofs.YtbbkejfcheobaabDoor
open Go.RowKit Go.Proofs.YtbbkejfcheobaabDoor.RM

end Go.Proofs.YtbbkejfcheobaabDoor
