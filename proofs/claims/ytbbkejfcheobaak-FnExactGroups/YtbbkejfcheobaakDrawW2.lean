/- The cursor is made, and fractions are drawn by it. -/
import Derived.Test.YtbbkejfcheobaakDrawW1
namespace Go.Proofs.Ytbbkejfcheobaak
open Go.RowKit Go.Proofs.Ytbbkejfcheobaak.RM


end Go.Proofs.Ytbbkejfcheobaak
