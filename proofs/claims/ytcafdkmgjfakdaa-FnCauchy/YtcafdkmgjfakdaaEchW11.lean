/- The walks of Echelon and Rank, the program's and the model's. -/
import Derived.Test.YtcafdkmgjfakdaaEchW8
import Derived.Test.YtcafdkmgjfakdaaEchW10
namespace Go.Proofs.Ytcafdkmgjfakdaa
open Go.RowKit Go.Proofs.Ytcafdkmgjfakdaa.RM

/-- how many columns are chosen -/
def rkI (rows : List (List Fr)) : Int := if echO rows then ((echC rows).length : Int) else -1

end Go.Proofs.Ytcafdkmgjfakdaa
