/- The echelon's other list grows; how it begins. -/
import Derived.Test.YtcafdkmgjfakdaaEchW5
import Derived.Test.YtcafdkmgjfakdaaEchM2
namespace Go.Proofs.Ytcafdkmgjfakdaa
open Go.RowKit Go.Proofs.Ytcafdkmgjfakdaa.RM

theorem rw_len_pos {rows : List (List Fr)} {cols : Int} (h : tabB rows cols = true) : ∀ x, x < rows.length → (rw' rows x).length = (rw' rows 0).length := fun x hx => ((tabB_out h).2 x hx).1
end Go.Proofs.Ytcafdkmgjfakdaa
