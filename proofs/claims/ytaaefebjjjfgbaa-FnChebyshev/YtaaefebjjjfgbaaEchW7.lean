/- The echelon's other list grows; how it begins. -/
import Derived.Test.YtaaefebjjjfgbaaEchW5
import Derived.Test.YtaaefebjjjfgbaaEchM2
namespace Go.Proofs.Ytaaefebjjjfgbaa
open Go.RowKit Go.Proofs.Ytaaefebjjjfgbaa.RM

theorem rw_len_pos {rows : List (List Fr)} {cols : Int} (h : tabB rows cols = true) : ∀ x, x < rows.length → (rw' rows x).length = (rw' rows 0).length := fun x hx => ((tabB_out h).2 x hx).1
end Go.Proofs.Ytaaefebjjjfgbaa
