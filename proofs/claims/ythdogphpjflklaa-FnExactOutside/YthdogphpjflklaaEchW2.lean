/- The walk of the program's takeFromRow. -/
import Derived.Test.YthdogphpjflklaaEchW1
import Derived.Test.YthdogphpjflklaaTimW3
namespace Go.Proofs.Ythdogphpjflklaa
open Go.RowKit Go.Proofs.Ythdogphpjflklaa.RM

end Go.Proofs.Ythdogphpjflklaa
