/- A fraction and a bound that are drawn for Nearest. -/
import Derived.Test.YtaaefebjjjfgbaaDrawW7
namespace Go.Proofs.Ytaaefebjjjfgbaa
open Go.RowKit Go.Proofs.Ytaaefebjjjfgbaa.RM

theorem isR_ex {w w' : World} {cb R : Nat} {n d : Int} (h : IsR w R n d) (hx : Ex cb w w') (hne : R ≠ cb) : IsR w' R n d := (hx.2.2.2.2 R h.lt hne).trans h
theorem isR_st {W : World} {R b : Nat} {n d : Int} (h : IsR W R n d) (hne : R ≠ b) (o : Nat) (v : Value) : IsR (W.setCell ⟨b, o, none⟩ v) R n d := (Below.heap_setCell W ⟨b, o, none⟩ v R hne).trans h

end Go.Proofs.Ytaaefebjjjfgbaa
