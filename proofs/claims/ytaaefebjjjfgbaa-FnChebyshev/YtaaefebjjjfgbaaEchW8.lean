/- The walk of the program's echelonOf. -/
import Derived.Test.YtaaefebjjjfgbaaEchW6
import Derived.Test.YtaaefebjjjfgbaaEchW7
import Derived.Test.YtaaefebjjjfgbaaEchM3
import Derived.Deep.LoopGhost
import Derived.WalkMore
namespace Go.Proofs.Ytaaefebjjjfgbaa
open Go.RowKit Go.Proofs.Ytaaefebjjjfgbaa.RM

theorem own_nil {W : World} {base : Nat} {e : TypeId} {size : Nat} : W.ownsRow base e size (.slice none 0 0) 0 [] := ⟨by simp, .inl ⟨rfl, rfl⟩⟩
end Go.Proofs.Ytaaefebjjjfgbaa
