/- The walk of the program's takeFromRow. -/
import Derived.Test.YtcafdkmgjfakdaaEchW1
import Derived.Test.YtcafdkmgjfakdaaTimW3
namespace Go.Proofs.Ytcafdkmgjfakdaa
open Go.RowKit Go.Proofs.Ytcafdkmgjfakdaa.RM

end Go.Proofs.Ytcafdkmgjfakdaa
