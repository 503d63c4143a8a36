/-
  DERIVED. GIVEN WITH THE SEED: THE CARDS: each row of YtbbkejfcheobaabDoorRows.lean that lists a variable, with what it lists TIED to the program's text (the seventh form; the later family's looks); each row that meets fmt, with fmt's text TOLD by the authors' own Lean function (tested against real Go, not proved from fmt's source: count such statements apart). THE CARD IS WHAT COUNTS. Prove the row's statement (the work); the ties are given (YtbbkejfcheobaabDoorTie.lean); close each card by the builder's one call (the guide's Derived/Test/ToyasCard.lean, 'card_holds'). Laid BY PROGRAM, IN A SANDBOX (cutbox-door.mjs). By AI agents, Wed Nov 11 2026. No macro, syntax, notation, axiom, sorry.
-/
import Derived.Test.YtbbkejfcheobaabDoorRows
import GoSem.ClaimSeven
namespace Go.Proofs.YtbbkejfcheobaabDoor
namespace Rows

/-- THE TIED CARD OF 'laws.FnDims'. -/
def fnDimsCard : Claim7 := { stood := { row := fnDimsRow, standIns := [], harness := (true, "84793a6696bc164145c53e94d0c9113dc4f6d889e1eef24ccc1909bda492f439"), looks := false }, kinds := [], alts := [], laidByText := true, laidKinds := [.data, .data, .data], laidTests := true, laidLooks := .later }
def FnDimsCardSaid : Prop := Claim7.holds Tryd.pinned (.plain (OpenSpec.ofChange fnDimsSpec)) fnDimsCard

/-- THE SECOND FORM's CARD OF 'laws.FnDims'. -/
def fnDimsUptoCard : Claim7 := { stood := { row := fnDimsUptoRow, standIns := [], harness := (true, "84793a6696bc164145c53e94d0c9113dc4f6d889e1eef24ccc1909bda492f439"), looks := false }, kinds := [], alts := [], laidByText := true, laidKinds := [.data, .data, .data], laidTests := true, laidLooks := .later }
def FnDimsUptoCardSaid : Prop := Claim7.holds Tryd.pinned (.plain (OpenSpec.upto fnDimsSpec)) fnDimsUptoCard
end Rows
end Go.Proofs.YtbbkejfcheobaabDoor
