/-
  DERIVED. GIVEN WITH THE SEED: THE CARDS: each row of YtoofkhghpdnkhajDoorRows.lean that lists a variable, with what it lists TIED to the program's text (the seventh form; the later family's looks); each row that meets fmt, with fmt's text TOLD by the authors' own Lean function (tested against real Go, not proved from fmt's source: count such statements apart). THE CARD IS WHAT COUNTS. Prove the row's statement (the work); the ties are given (YtoofkhghpdnkhajDoorTie.lean); close each card by the builder's one call (the guide's Derived/Test/ToyasCard.lean, 'card_holds'). Laid BY PROGRAM, IN A SANDBOX (cutbox-door.mjs). By AI agents, Wed Nov 11 2026. No macro, syntax, notation, axiom, sorry.
-/
import Derived.Test.YtoofkhghpdnkhajDoorRows
import GoSem.ClaimSeven
namespace Go.Proofs.YtoofkhghpdnkhajDoor
namespace Rows

/-- THE TIED CARD OF 'laws.FnExactShowDim'. -/
def fnExactShowDimCard : Claim7 := { stood := { row := fnExactShowDimRow, standIns := [], harness := (true, "3b9a873cbbdf5ed34f18c4267513931fd00c1ae0720b86a95ed0704944a131c6"), looks := false }, kinds := [], alts := [], laidByText := true, laidKinds := [.data, .data, .data], laidTests := true, laidLooks := .later }
def FnExactShowDimCardSaid : Prop := Claim7.holds Tryd.pinned (.plain (OpenSpec.ofChange fnExactShowDimSpec)) fnExactShowDimCard

/-- THE SECOND FORM's CARD OF 'laws.FnExactShowDim'. -/
def fnExactShowDimUptoCard : Claim7 := { stood := { row := fnExactShowDimUptoRow, standIns := [], harness := (true, "3b9a873cbbdf5ed34f18c4267513931fd00c1ae0720b86a95ed0704944a131c6"), looks := false }, kinds := [], alts := [], laidByText := true, laidKinds := [.data, .data, .data], laidTests := true, laidLooks := .later }
def FnExactShowDimUptoCardSaid : Prop := Claim7.holds Tryd.pinned (.plain (OpenSpec.upto fnExactShowDimSpec)) fnExactShowDimUptoCard
end Rows
end Go.Proofs.YtoofkhghpdnkhajDoor
