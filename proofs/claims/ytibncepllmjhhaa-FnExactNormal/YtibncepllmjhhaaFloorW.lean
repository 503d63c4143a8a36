/- The walks of Floor, the program's and the model's: both answer the same whole number. -/
import Derived.Test.YtibncepllmjhhaaRatioW2
namespace Go.Proofs.Ytibncepllmjhhaa
open Go.RowKit Go.Proofs.Ytibncepllmjhhaa.RM

end Go.Proofs.Ytibncepllmjhhaa
