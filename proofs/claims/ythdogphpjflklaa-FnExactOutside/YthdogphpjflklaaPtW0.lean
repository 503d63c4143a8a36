/- Rows of points: copied, held against each other, marked. -/
import Derived.Test.YthdogphpjflklaaTabW4
import Derived.Test.YthdogphpjflklaaRatioW4
namespace Go.Proofs.Ythdogphpjflklaa
open Go.RowKit Go.Proofs.Ythdogphpjflklaa.RM

end Go.Proofs.Ythdogphpjflklaa
