/- Rows of points: copied, held against each other, marked. -/
import Derived.Test.YthnlcgilmljliaaTabW4
import Derived.Test.YthnlcgilmljliaaRatioW4
namespace Go.Proofs.Ythnlcgilmljliaa
open Go.RowKit Go.Proofs.Ythnlcgilmljliaa.RM

end Go.Proofs.Ythnlcgilmljliaa
