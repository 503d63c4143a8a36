/- The cursor is made, and fractions are drawn by it. -/
import Derived.Test.YtcafdkmgjfakdaaDrawW1
namespace Go.Proofs.Ytcafdkmgjfakdaa
open Go.RowKit Go.Proofs.Ytcafdkmgjfakdaa.RM


end Go.Proofs.Ytcafdkmgjfakdaa
