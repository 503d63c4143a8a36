/- The walks of Echelon and Rank, the program's and the model's. -/
import Derived.Test.YtibncepllmjhhaaEchW8
import Derived.Test.YtibncepllmjhhaaEchW10
namespace Go.Proofs.Ytibncepllmjhhaa
open Go.RowKit Go.Proofs.Ytibncepllmjhhaa.RM

theorem sEchO_any (v : Value) (rows : List (List Fr)) (w : World) (h : RdT w v rows) (ht : tabB rows 6 = true) :
    Calls Try.prog 70 #[v] w fun e w' => SEchP w rows e w' := by
  obtain ⟨⟨t1, t2, t3, t4⟩, tr⟩ := tabB_out ht
  exact sEch_any v rows (rw' rows 0).length w h t1 (by omega) t3 (by omega) (fun x hx => (tr x hx).1)
/-- how many columns are chosen -/
def rkI (rows : List (List Fr)) : Int := if echO rows then ((echC rows).length : Int) else -1

end Go.Proofs.Ytibncepllmjhhaa
