/- The walks of Echelon and Rank, the program's and the model's. -/
import Derived.Test.YtoofkhghpdnkhajEchW8
import Derived.Test.YtoofkhghpdnkhajEchW10
namespace Go.Proofs.Ytoofkhghpdnkhaj
open Go.RowKit Go.Proofs.Ytoofkhghpdnkhaj.RM

theorem sEchO_any (v : Value) (rows : List (List Fr)) (w : World) (h : RdT w v rows) (ht : tabB rows 6 = true) :
    Calls Try.prog 33 #[v] w fun e w' => SEchP w rows e w' := by
  obtain ⟨⟨t1, t2, t3, t4⟩, tr⟩ := tabB_out ht
  exact sEch_any v rows (rw' rows 0).length w h t1 (by omega) t3 (by omega) (fun x hx => (tr x hx).1)
/-- how many columns are chosen -/
def rkI (rows : List (List Fr)) : Int := if echO rows then ((echC rows).length : Int) else -1

end Go.Proofs.Ytoofkhghpdnkhaj
