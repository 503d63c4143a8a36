/- Rows of points: copied, held against each other, marked. -/
import Derived.Test.YtibncepllmjhhaaTabW4
import Derived.Test.YtibncepllmjhhaaRatioW4
namespace Go.Proofs.Ytibncepllmjhhaa
open Go.RowKit Go.Proofs.Ytibncepllmjhhaa.RM

end Go.Proofs.Ytibncepllmjhhaa
