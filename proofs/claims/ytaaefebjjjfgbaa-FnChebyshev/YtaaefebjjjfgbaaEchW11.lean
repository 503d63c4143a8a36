/- The walks of Echelon and Rank, the program's and the model's. -/
import Derived.Test.YtaaefebjjjfgbaaEchW8
import Derived.Test.YtaaefebjjjfgbaaEchW10
namespace Go.Proofs.Ytaaefebjjjfgbaa
open Go.RowKit Go.Proofs.Ytaaefebjjjfgbaa.RM

/-- how many columns are chosen -/
def rkI (rows : List (List Fr)) : Int := if echO rows then ((echC rows).length : Int) else -1

end Go.Proofs.Ytaaefebjjjfgbaa
