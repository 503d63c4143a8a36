/- The walk of the model's Parts. -/
import Derived.Test.YtcafdkmgjfakdaaBudW4
namespace Go.Proofs.Ytcafdkmgjfakdaa
open Go.RowKit Go.Proofs.Ytcafdkmgjfakdaa.RM

def prtO (ps : List Fr) (rows : List (List Fr)) : Bool := toldC ps rows && !(prtV ps rows rows.length).2
def prtA (ps : List Fr) (rows : List (List Fr)) : List Fr := if prtO ps rows = true then (prtV ps rows rows.length).1 else []
theorem prtA_no {ps : List Fr} {rows : List (List Fr)} (h : prtO ps rows = false) : prtA ps rows = [] := by unfold prtA; rw [h]; rfl
theorem prtA_yes {ps : List Fr} {rows : List (List Fr)} (h : prtO ps rows = true) : prtA ps rows = (prtV ps rows rows.length).1 := by unfold prtA; rw [if_pos h]
theorem litB (W : World) (base : Nat) (hb : base ≤ W.heap.size) : (W.alloc (.cells #[] 27)).ownsRow base 27 2 (.slice (some ⟨W.heap.size, 0, none⟩) 0 0) 0 (cellsR []) :=
  World.ownsRow_lit W (base := base) (e := 27) (size := 2) #[] 0 hb (Nat.zero_le _) rfl

end Go.Proofs.Ytcafdkmgjfakdaa
