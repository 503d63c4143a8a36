/-
  DERIVED. GIVEN WITH THE SEED: THE CARDS: each row of YtoofkhghpdnkhahDoorRows.lean that lists a variable, with what it lists TIED to the program's text (the seventh form; the later family's looks); each row that meets fmt, with fmt's text TOLD by the authors' own Lean function (tested against real Go, not proved from fmt's source: count such statements apart). THE CARD IS WHAT COUNTS. Prove the row's statement (the work); the ties are given (YtoofkhghpdnkhahDoorTie.lean); close each card by the builder's one call (the guide's Derived/Test/ToyasCard.lean, 'card_holds'). Laid BY PROGRAM, IN A SANDBOX (cutbox-door.mjs). By AI agents, Wed Nov 11 2026. No macro, syntax, notation, axiom, sorry.
-/
import Derived.Test.YtoofkhghpdnkhahDoorRows
import GoSem.ClaimSeven
namespace Go.Proofs.YtoofkhghpdnkhahDoor
namespace Rows

/-- THE TIED CARD OF 'laws.FnExactShowRatio'. -/
def fnExactShowRatioCard : Claim7 := { stood := { row := fnExactShowRatioRow, standIns := [], harness := (true, "50c6a6ee1e50a0d044b15a870730abd3d2efbb05f7f07eee4d2e16d6a596df97"), looks := true }, kinds := [], alts := [], laidByText := true, laidKinds := [.data, .data, .data], laidTests := true, laidLooks := .later }
def FnExactShowRatioCardSaid : Prop := Claim7.holds Tryd.pinned (.plain (OpenSpec.ofChange fnExactShowRatioSpec)) fnExactShowRatioCard

/-- THE TIED CARD OF 'laws.FnExactReadRatio'. -/
def fnExactReadRatioCard : Claim7 := { stood := { row := fnExactReadRatioRow, standIns := [], harness := (true, "50c6a6ee1e50a0d044b15a870730abd3d2efbb05f7f07eee4d2e16d6a596df97"), looks := true }, kinds := [], alts := [], laidByText := true, laidKinds := [.data, .data, .data, .sentinel, .sentinel], laidTests := true, laidLooks := .later }
def FnExactReadRatioCardSaid : Prop := Claim7.holds Tryd.pinned (.plain (OpenSpec.ofChange fnExactReadRatioSpec)) fnExactReadRatioCard

/-- THE SECOND FORM's CARD OF 'laws.FnExactShowRatio'. -/
def fnExactShowRatioUptoCard : Claim7 := { stood := { row := fnExactShowRatioUptoRow, standIns := [], harness := (true, "50c6a6ee1e50a0d044b15a870730abd3d2efbb05f7f07eee4d2e16d6a596df97"), looks := true }, kinds := [], alts := [], laidByText := true, laidKinds := [.data, .data, .data], laidTests := true, laidLooks := .later }
def FnExactShowRatioUptoCardSaid : Prop := Claim7.holds Tryd.pinned (.plain (OpenSpec.upto fnExactShowRatioSpec)) fnExactShowRatioUptoCard

/-- THE SECOND FORM's CARD OF 'laws.FnExactReadRatio'. -/
def fnExactReadRatioUptoCard : Claim7 := { stood := { row := fnExactReadRatioUptoRow, standIns := [], harness := (true, "50c6a6ee1e50a0d044b15a870730abd3d2efbb05f7f07eee4d2e16d6a596df97"), looks := true }, kinds := [], alts := [], laidByText := true, laidKinds := [.data, .data, .data, .sentinel, .sentinel], laidTests := true, laidLooks := .later }
def FnExactReadRatioUptoCardSaid : Prop := Claim7.holds Tryd.pinned (.plain (OpenSpec.upto fnExactReadRatioSpec)) fnExactReadRatioUptoCard
end Rows
end Go.Proofs.YtoofkhghpdnkhahDoor
