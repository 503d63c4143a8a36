/-
  No cell of these rows narrows 'for every input' (looked for: loops, veiled, ifaces, maps, wideKeys, modest, calm, conditions, laid).
  DERIVED. THE GIVEN ROWS OF THIS SEAT. 4 by the template 'for every input the law returns true; each argument reads behind the call as it read before'; 0 by the template 'total and deterministic' (their statements: YtmlnabgmibhfhahTotals.lean).
  GIVEN WITH THE SEED: the statements are not yours to turn. If you find one false, say at which input.
  Laid BY PROGRAM, IN A SANDBOX (cutbox-rows.mjs): the forced cells as the released guide's own fill.sh prints them over the translation 34cf159dc9ad9ad5… (all of the seat's roots in one cut). By AI agents, Wed Nov 11 2026. No macro, syntax, notation, axiom, sorry.
-/
import Derived.Test.YtmlnabgmibhfhahChecked
import GoSem.Claim
import GoSem.ClaimJoined
import GoSem.ClaimMapViews
import Derived.JoinedTies
import Derived.KernelRfl
namespace Go.Proofs.Ytmlnabgmibhfhah
/- THE CELL 'sum', in the pinned program and in every row, IS THE sha256 OF THE DUMP (.gsa) THAT YtmlnabgmibhfhahProg.lean LOADS. Nothing in Lean hashes anything: it is a label: what it is worth is what the hold of that sum in a sandbox is worth. -/
noncomputable def Try.pinned : Pinned := { name := "ytmlnabgmibhfhah", sum := "34cf159dc9ad9ad51b8705600e20afc00049f397d0e73c3cae951d56f4f19b78", checked := Try.checked }
namespace Rows
def none {H : Type} : Left H := { results := [], args := [] }

/-- 'laws.FnExactFloor': WHATEVER THE INPUT: true; the input reads as it did. -/
def fnExactFloorSpec : ChangeSpec := { name := "fnExactFloor", fn := fun _ => fun
  | [d] => { results := [.lit (.bool true)], args := [d] }
  | _ => none }
def fnExactFloorRow : OpenClaim := { program := "ytmlnabgmibhfhah", sum := "34cf159dc9ad9ad51b8705600e20afc00049f397d0e73c3cae951d56f4f19b78", func := "loop.example/g00069/laws.FnExactFloor", spec := "fnExactFloor", apart := false }
def FnExactFloorSaid : Prop := fnExactFloorRow.holds Try.pinned (OpenSpec.ofChange fnExactFloorSpec)

/-- ITS FALSE NEIGHBOUR: 'it returns false'. Refute it at one input. -/
def fnExactFloorWrong : ChangeSpec := { name := "fnExactFloor", fn := fun _ => fun
  | [d] => { results := [.lit (.bool false)], args := [d] }
  | _ => none }
def FnExactFloorWrongFalsely : Prop := fnExactFloorRow.holds Try.pinned (OpenSpec.ofChange fnExactFloorWrong)

/-- 'laws.FnExactTerms': WHATEVER THE INPUT: true; the input reads as it did. -/
def fnExactTermsSpec : ChangeSpec := { name := "fnExactTerms", fn := fun _ => fun
  | [d] => { results := [.lit (.bool true)], args := [d] }
  | _ => none }
def fnExactTermsRow : OpenClaim := { program := "ytmlnabgmibhfhah", sum := "34cf159dc9ad9ad51b8705600e20afc00049f397d0e73c3cae951d56f4f19b78", func := "loop.example/g00069/laws.FnExactTerms", spec := "fnExactTerms", unfollowed := true, recurses := true, apart := false }
def FnExactTermsSaid : Prop := fnExactTermsRow.holds Try.pinned (OpenSpec.ofChange fnExactTermsSpec)

/-- ITS FALSE NEIGHBOUR: 'it returns false'. Refute it at one input. -/
def fnExactTermsWrong : ChangeSpec := { name := "fnExactTerms", fn := fun _ => fun
  | [d] => { results := [.lit (.bool false)], args := [d] }
  | _ => none }
def FnExactTermsWrongFalsely : Prop := fnExactTermsRow.holds Try.pinned (OpenSpec.ofChange fnExactTermsWrong)

/-- 'laws.FnExactFromTerms': WHATEVER THE INPUT: true; the input reads as it did. -/
def fnExactFromTermsSpec : ChangeSpec := { name := "fnExactFromTerms", fn := fun _ => fun
  | [d] => { results := [.lit (.bool true)], args := [d] }
  | _ => none }
def fnExactFromTermsRow : OpenClaim := { program := "ytmlnabgmibhfhah", sum := "34cf159dc9ad9ad51b8705600e20afc00049f397d0e73c3cae951d56f4f19b78", func := "loop.example/g00069/laws.FnExactFromTerms", spec := "fnExactFromTerms", unfollowed := true, recurses := true, apart := false }
def FnExactFromTermsSaid : Prop := fnExactFromTermsRow.holds Try.pinned (OpenSpec.ofChange fnExactFromTermsSpec)

/-- ITS FALSE NEIGHBOUR: 'it returns false'. Refute it at one input. -/
def fnExactFromTermsWrong : ChangeSpec := { name := "fnExactFromTerms", fn := fun _ => fun
  | [d] => { results := [.lit (.bool false)], args := [d] }
  | _ => none }
def FnExactFromTermsWrongFalsely : Prop := fnExactFromTermsRow.holds Try.pinned (OpenSpec.ofChange fnExactFromTermsWrong)

/-- 'laws.FnExactConvergents': WHATEVER THE INPUT: true; the input reads as it did. -/
def fnExactConvergentsSpec : ChangeSpec := { name := "fnExactConvergents", fn := fun _ => fun
  | [d] => { results := [.lit (.bool true)], args := [d] }
  | _ => none }
def fnExactConvergentsRow : OpenClaim := { program := "ytmlnabgmibhfhah", sum := "34cf159dc9ad9ad51b8705600e20afc00049f397d0e73c3cae951d56f4f19b78", func := "loop.example/g00069/laws.FnExactConvergents", spec := "fnExactConvergents", unfollowed := true, recurses := true, apart := false }
def FnExactConvergentsSaid : Prop := fnExactConvergentsRow.holds Try.pinned (OpenSpec.ofChange fnExactConvergentsSpec)

/-- ITS FALSE NEIGHBOUR: 'it returns false'. Refute it at one input. -/
def fnExactConvergentsWrong : ChangeSpec := { name := "fnExactConvergents", fn := fun _ => fun
  | [d] => { results := [.lit (.bool false)], args := [d] }
  | _ => none }
def FnExactConvergentsWrongFalsely : Prop := fnExactConvergentsRow.holds Try.pinned (OpenSpec.ofChange fnExactConvergentsWrong)

/- THE SECOND FORM. 'bulk': how many values and letters a reading holds, each counted each time it is reached (what is shared counts as often as it is met; a slice's spare places count too). A statement '..UptoSaid' is the law's where the arguments, and the package variables that the reading takes, are together of bulk at most 1048576: NARROWER than '..Said'. Prove '..Said' where nothing that the law and all that it calls make is longer than what came in: it says more and counts as full. Else prove '..UptoSaid'. A law counts once. -/
mutual
def uptoBulk {H : Type} : DataW H → Nat
  | .lit (.string bytes) => bytes.length + 1
  | .lit _ => 1
  | .nil => 1
  | .ptr d => uptoBulk d + 1
  | .slice elems spare => uptoBulkAll elems + uptoBulkAll spare + 1
  | .agg parts => uptoBulkAll parts + 1
  | .iface _ d => uptoBulk d + 1
  | .map entries => uptoBulkEntries entries + 1
  | .held _ => 1
def uptoBulkAll {H : Type} : List (DataW H) → Nat
  | [] => 0
  | d :: r => uptoBulk d + uptoBulkAll r
def uptoBulkEntries {H : Type} : List (Lit × DataW H) → Nat
  | [] => 0
  | x :: r => uptoBulkEntry x + uptoBulkEntries r
def uptoBulkEntry {H : Type} : Lit × DataW H → Nat
  | (.string bytes, d) => bytes.length + uptoBulk d + 1
  | (_, d) => uptoBulk d + 1
 end
def uptoSmall : (H : Type) → List (DataW H) → Bool := fun _ ds => decide (uptoBulkAll ds ≤ 1048576)
def OpenSpec.upto (s : _root_.Go.ChangeSpec) : _root_.Go.OpenSpec := { _root_.Go.OpenSpec.ofChange s with cond := some uptoSmall }

/-- 'laws.FnExactFloor', WHERE WHAT IT READS IS OF BULK AT MOST 1048576: true; the input reads as it did. -/
def fnExactFloorUptoRow : OpenClaim := { program := "ytmlnabgmibhfhah", sum := "34cf159dc9ad9ad51b8705600e20afc00049f397d0e73c3cae951d56f4f19b78", func := "loop.example/g00069/laws.FnExactFloor", spec := "fnExactFloor", apart := false, narrowed := true }
def FnExactFloorUptoSaid : Prop := fnExactFloorUptoRow.holds Try.pinned (OpenSpec.upto fnExactFloorSpec)

/-- 'laws.FnExactTerms', WHERE WHAT IT READS IS OF BULK AT MOST 1048576: true; the input reads as it did. -/
def fnExactTermsUptoRow : OpenClaim := { program := "ytmlnabgmibhfhah", sum := "34cf159dc9ad9ad51b8705600e20afc00049f397d0e73c3cae951d56f4f19b78", func := "loop.example/g00069/laws.FnExactTerms", spec := "fnExactTerms", unfollowed := true, recurses := true, apart := false, narrowed := true }
def FnExactTermsUptoSaid : Prop := fnExactTermsUptoRow.holds Try.pinned (OpenSpec.upto fnExactTermsSpec)

/-- 'laws.FnExactFromTerms', WHERE WHAT IT READS IS OF BULK AT MOST 1048576: true; the input reads as it did. -/
def fnExactFromTermsUptoRow : OpenClaim := { program := "ytmlnabgmibhfhah", sum := "34cf159dc9ad9ad51b8705600e20afc00049f397d0e73c3cae951d56f4f19b78", func := "loop.example/g00069/laws.FnExactFromTerms", spec := "fnExactFromTerms", unfollowed := true, recurses := true, apart := false, narrowed := true }
def FnExactFromTermsUptoSaid : Prop := fnExactFromTermsUptoRow.holds Try.pinned (OpenSpec.upto fnExactFromTermsSpec)

/-- 'laws.FnExactConvergents', WHERE WHAT IT READS IS OF BULK AT MOST 1048576: true; the input reads as it did. -/
def fnExactConvergentsUptoRow : OpenClaim := { program := "ytmlnabgmibhfhah", sum := "34cf159dc9ad9ad51b8705600e20afc00049f397d0e73c3cae951d56f4f19b78", func := "loop.example/g00069/laws.FnExactConvergents", spec := "fnExactConvergents", unfollowed := true, recurses := true, apart := false, narrowed := true }
def FnExactConvergentsUptoSaid : Prop := fnExactConvergentsUptoRow.holds Try.pinned (OpenSpec.upto fnExactConvergentsSpec)

end Rows
end Go.Proofs.Ytmlnabgmibhfhah
