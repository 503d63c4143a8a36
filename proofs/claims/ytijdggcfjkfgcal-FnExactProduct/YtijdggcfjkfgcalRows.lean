/-
  No cell of these rows narrows 'for every input' (looked for: loops, veiled, ifaces, maps, wideKeys, modest, calm, conditions, laid).
  DERIVED. THE GIVEN ROWS OF THIS SEAT. 6 by the template 'for every input the law returns true; each argument reads behind the call as it read before'; 0 by the template 'total and deterministic' (their statements: YtijdggcfjkfgcalTotals.lean).
  GIVEN WITH THE SEED: the statements are not yours to turn. If you find one false, say at which input.
  Laid BY PROGRAM, IN A SANDBOX (cutbox-rows.mjs): the forced cells as the released guide's own fill.sh prints them over the translation 71a9f8710cb05071… (all of the seat's roots in one cut). By AI agents, Wed Nov 11 2026. No macro, syntax, notation, axiom, sorry.
-/
import Derived.Test.YtijdggcfjkfgcalChecked
import GoSem.Claim
import GoSem.ClaimJoined
import GoSem.ClaimMapViews
import Derived.JoinedTies
import Derived.KernelRfl
namespace Go.Proofs.Ytijdggcfjkfgcal
/- THE CELL 'sum', in the pinned program and in every row, IS THE sha256 OF THE DUMP (.gsa) THAT YtijdggcfjkfgcalProg.lean LOADS. Nothing in Lean hashes anything: it is a label: what it is worth is what the hold of that sum in a sandbox is worth. -/
noncomputable def Try.pinned : Pinned := { name := "ytijdggcfjkfgcal", sum := "71a9f8710cb050717516d77a2d167f95bd108f0a4832e5d09d724e6c48f167be", checked := Try.checked }
namespace Rows
def none {H : Type} : Left H := { results := [], args := [] }

/-- 'laws.FnExactDims': WHATEVER THE INPUT: true; the input reads as it did. -/
def fnExactDimsSpec : ChangeSpec := { name := "fnExactDims", fn := fun _ => fun
  | [d] => { results := [.lit (.bool true)], args := [d] }
  | _ => none }
def fnExactDimsRow : OpenClaim := { program := "ytijdggcfjkfgcal", sum := "71a9f8710cb050717516d77a2d167f95bd108f0a4832e5d09d724e6c48f167be", func := "loop.example/g00069/laws.FnExactDims", spec := "fnExactDims", inPlace := ["internal/bytealg.IndexByteString", "internal/bytealg.IndexString"], unfollowed := true, recurses := true, named := ["internal/bytealg.MaxLen"], apart := false }
def FnExactDimsSaid : Prop := fnExactDimsRow.holds Try.pinned (OpenSpec.ofChange fnExactDimsSpec)

/-- ITS FALSE NEIGHBOUR: 'it returns false'. Refute it at one input. -/
def fnExactDimsWrong : ChangeSpec := { name := "fnExactDims", fn := fun _ => fun
  | [d] => { results := [.lit (.bool false)], args := [d] }
  | _ => none }
def FnExactDimsWrongFalsely : Prop := fnExactDimsRow.holds Try.pinned (OpenSpec.ofChange fnExactDimsWrong)

/-- 'laws.FnExactQuantityOk': WHATEVER THE INPUT: true; the input reads as it did. -/
def fnExactQuantityOkSpec : ChangeSpec := { name := "fnExactQuantityOk", fn := fun _ => fun
  | [d] => { results := [.lit (.bool true)], args := [d] }
  | _ => none }
def fnExactQuantityOkRow : OpenClaim := { program := "ytijdggcfjkfgcal", sum := "71a9f8710cb050717516d77a2d167f95bd108f0a4832e5d09d724e6c48f167be", func := "loop.example/g00069/laws.FnExactQuantityOk", spec := "fnExactQuantityOk", apart := false }
def FnExactQuantityOkSaid : Prop := fnExactQuantityOkRow.holds Try.pinned (OpenSpec.ofChange fnExactQuantityOkSpec)

/-- ITS FALSE NEIGHBOUR: 'it returns false'. Refute it at one input. -/
def fnExactQuantityOkWrong : ChangeSpec := { name := "fnExactQuantityOk", fn := fun _ => fun
  | [d] => { results := [.lit (.bool false)], args := [d] }
  | _ => none }
def FnExactQuantityOkWrongFalsely : Prop := fnExactQuantityOkRow.holds Try.pinned (OpenSpec.ofChange fnExactQuantityOkWrong)

/-- 'laws.FnExactMeasured': WHATEVER THE INPUT: true; the input reads as it did. -/
def fnExactMeasuredSpec : ChangeSpec := { name := "fnExactMeasured", fn := fun _ => fun
  | [d1, d2] => { results := [.lit (.bool true)], args := [d1, d2] }
  | _ => none }
def fnExactMeasuredRow : OpenClaim := { program := "ytijdggcfjkfgcal", sum := "71a9f8710cb050717516d77a2d167f95bd108f0a4832e5d09d724e6c48f167be", func := "loop.example/g00069/laws.FnExactMeasured", spec := "fnExactMeasured", inPlace := ["internal/bytealg.IndexByteString", "internal/bytealg.IndexString"], unfollowed := true, recurses := true, named := ["internal/bytealg.MaxLen"], apart := false }
def FnExactMeasuredSaid : Prop := fnExactMeasuredRow.holds Try.pinned (OpenSpec.ofChange fnExactMeasuredSpec)

/-- ITS FALSE NEIGHBOUR: 'it returns false'. Refute it at one input. -/
def fnExactMeasuredWrong : ChangeSpec := { name := "fnExactMeasured", fn := fun _ => fun
  | [d1, d2] => { results := [.lit (.bool false)], args := [d1, d2] }
  | _ => none }
def FnExactMeasuredWrongFalsely : Prop := fnExactMeasuredRow.holds Try.pinned (OpenSpec.ofChange fnExactMeasuredWrong)

/-- 'laws.FnExactPlus': WHATEVER THE INPUT: true; the input reads as it did. -/
def fnExactPlusSpec : ChangeSpec := { name := "fnExactPlus", fn := fun _ => fun
  | [d1, d2] => { results := [.lit (.bool true)], args := [d1, d2] }
  | _ => none }
def fnExactPlusRow : OpenClaim := { program := "ytijdggcfjkfgcal", sum := "71a9f8710cb050717516d77a2d167f95bd108f0a4832e5d09d724e6c48f167be", func := "loop.example/g00069/laws.FnExactPlus", spec := "fnExactPlus", unfollowed := true, recurses := true, apart := false }
def FnExactPlusSaid : Prop := fnExactPlusRow.holds Try.pinned (OpenSpec.ofChange fnExactPlusSpec)

/-- ITS FALSE NEIGHBOUR: 'it returns false'. Refute it at one input. -/
def fnExactPlusWrong : ChangeSpec := { name := "fnExactPlus", fn := fun _ => fun
  | [d1, d2] => { results := [.lit (.bool false)], args := [d1, d2] }
  | _ => none }
def FnExactPlusWrongFalsely : Prop := fnExactPlusRow.holds Try.pinned (OpenSpec.ofChange fnExactPlusWrong)

/-- 'laws.FnExactProduct': WHATEVER THE INPUT: true; the input reads as it did. -/
def fnExactProductSpec : ChangeSpec := { name := "fnExactProduct", fn := fun _ => fun
  | [d1, d2] => { results := [.lit (.bool true)], args := [d1, d2] }
  | _ => none }
def fnExactProductRow : OpenClaim := { program := "ytijdggcfjkfgcal", sum := "71a9f8710cb050717516d77a2d167f95bd108f0a4832e5d09d724e6c48f167be", func := "loop.example/g00069/laws.FnExactProduct", spec := "fnExactProduct", unfollowed := true, recurses := true, apart := false }
def FnExactProductSaid : Prop := fnExactProductRow.holds Try.pinned (OpenSpec.ofChange fnExactProductSpec)

/-- ITS FALSE NEIGHBOUR: 'it returns false'. Refute it at one input. -/
def fnExactProductWrong : ChangeSpec := { name := "fnExactProduct", fn := fun _ => fun
  | [d1, d2] => { results := [.lit (.bool false)], args := [d1, d2] }
  | _ => none }
def FnExactProductWrongFalsely : Prop := fnExactProductRow.holds Try.pinned (OpenSpec.ofChange fnExactProductWrong)

/-- 'laws.FnExactIn': WHATEVER THE INPUT: true; the input reads as it did. -/
def fnExactInSpec : ChangeSpec := { name := "fnExactIn", fn := fun _ => fun
  | [d1, d2] => { results := [.lit (.bool true)], args := [d1, d2] }
  | _ => none }
def fnExactInRow : OpenClaim := { program := "ytijdggcfjkfgcal", sum := "71a9f8710cb050717516d77a2d167f95bd108f0a4832e5d09d724e6c48f167be", func := "loop.example/g00069/laws.FnExactIn", spec := "fnExactIn", inPlace := ["internal/bytealg.IndexByteString", "internal/bytealg.IndexString"], unfollowed := true, recurses := true, named := ["internal/bytealg.MaxLen"], apart := false }
def FnExactInSaid : Prop := fnExactInRow.holds Try.pinned (OpenSpec.ofChange fnExactInSpec)

/-- ITS FALSE NEIGHBOUR: 'it returns false'. Refute it at one input. -/
def fnExactInWrong : ChangeSpec := { name := "fnExactIn", fn := fun _ => fun
  | [d1, d2] => { results := [.lit (.bool false)], args := [d1, d2] }
  | _ => none }
def FnExactInWrongFalsely : Prop := fnExactInRow.holds Try.pinned (OpenSpec.ofChange fnExactInWrong)

/- THE SECOND FORM. 'bulk': how many values and letters a reading holds, each counted each time it is reached (what is shared counts as often as it is met; a slice's spare places count too). A statement '..UptoSaid' is the law's where the arguments, and the package variables that the reading takes, are together of bulk at most 1048576: NARROWER than '..Said'. Prove '..Said' where nothing that the law and all that it calls make is longer than what came in: it says more and counts as full. Else prove '..UptoSaid'. A law counts once. -/
mutual
def uptoBulk {H : Type} : DataW H → Nat
  | .lit (.string bytes) => bytes.length + 1
  | .lit _ => 1
  | .nil => 1
  | .ptr d => uptoBulk d + 1
  | .slice elems spare => uptoBulkAll elems + uptoBulkAll spare + 1
  | .agg parts => uptoBulkAll parts + 1
  | .iface _ d => uptoBulk d + 1
  | .map entries => uptoBulkEntries entries + 1
  | .held _ => 1
def uptoBulkAll {H : Type} : List (DataW H) → Nat
  | [] => 0
  | d :: r => uptoBulk d + uptoBulkAll r
def uptoBulkEntries {H : Type} : List (Lit × DataW H) → Nat
  | [] => 0
  | x :: r => uptoBulkEntry x + uptoBulkEntries r
def uptoBulkEntry {H : Type} : Lit × DataW H → Nat
  | (.string bytes, d) => bytes.length + uptoBulk d + 1
  | (_, d) => uptoBulk d + 1
 end
def uptoSmall : (H : Type) → List (DataW H) → Bool := fun _ ds => decide (uptoBulkAll ds ≤ 1048576)
def OpenSpec.upto (s : _root_.Go.ChangeSpec) : _root_.Go.OpenSpec := { _root_.Go.OpenSpec.ofChange s with cond := some uptoSmall }

/-- 'laws.FnExactDims', WHERE WHAT IT READS IS OF BULK AT MOST 1048576: true; the input reads as it did. -/
def fnExactDimsUptoRow : OpenClaim := { program := "ytijdggcfjkfgcal", sum := "71a9f8710cb050717516d77a2d167f95bd108f0a4832e5d09d724e6c48f167be", func := "loop.example/g00069/laws.FnExactDims", spec := "fnExactDims", inPlace := ["internal/bytealg.IndexByteString", "internal/bytealg.IndexString"], unfollowed := true, recurses := true, named := ["internal/bytealg.MaxLen"], apart := false, narrowed := true }
def FnExactDimsUptoSaid : Prop := fnExactDimsUptoRow.holds Try.pinned (OpenSpec.upto fnExactDimsSpec)

/-- 'laws.FnExactQuantityOk', WHERE WHAT IT READS IS OF BULK AT MOST 1048576: true; the input reads as it did. -/
def fnExactQuantityOkUptoRow : OpenClaim := { program := "ytijdggcfjkfgcal", sum := "71a9f8710cb050717516d77a2d167f95bd108f0a4832e5d09d724e6c48f167be", func := "loop.example/g00069/laws.FnExactQuantityOk", spec := "fnExactQuantityOk", apart := false, narrowed := true }
def FnExactQuantityOkUptoSaid : Prop := fnExactQuantityOkUptoRow.holds Try.pinned (OpenSpec.upto fnExactQuantityOkSpec)

/-- 'laws.FnExactMeasured', WHERE WHAT IT READS IS OF BULK AT MOST 1048576: true; the input reads as it did. -/
def fnExactMeasuredUptoRow : OpenClaim := { program := "ytijdggcfjkfgcal", sum := "71a9f8710cb050717516d77a2d167f95bd108f0a4832e5d09d724e6c48f167be", func := "loop.example/g00069/laws.FnExactMeasured", spec := "fnExactMeasured", inPlace := ["internal/bytealg.IndexByteString", "internal/bytealg.IndexString"], unfollowed := true, recurses := true, named := ["internal/bytealg.MaxLen"], apart := false, narrowed := true }
def FnExactMeasuredUptoSaid : Prop := fnExactMeasuredUptoRow.holds Try.pinned (OpenSpec.upto fnExactMeasuredSpec)

/-- 'laws.FnExactPlus', WHERE WHAT IT READS IS OF BULK AT MOST 1048576: true; the input reads as it did. -/
def fnExactPlusUptoRow : OpenClaim := { program := "ytijdggcfjkfgcal", sum := "71a9f8710cb050717516d77a2d167f95bd108f0a4832e5d09d724e6c48f167be", func := "loop.example/g00069/laws.FnExactPlus", spec := "fnExactPlus", unfollowed := true, recurses := true, apart := false, narrowed := true }
def FnExactPlusUptoSaid : Prop := fnExactPlusUptoRow.holds Try.pinned (OpenSpec.upto fnExactPlusSpec)

/-- 'laws.FnExactProduct', WHERE WHAT IT READS IS OF BULK AT MOST 1048576: true; the input reads as it did. -/
def fnExactProductUptoRow : OpenClaim := { program := "ytijdggcfjkfgcal", sum := "71a9f8710cb050717516d77a2d167f95bd108f0a4832e5d09d724e6c48f167be", func := "loop.example/g00069/laws.FnExactProduct", spec := "fnExactProduct", unfollowed := true, recurses := true, apart := false, narrowed := true }
def FnExactProductUptoSaid : Prop := fnExactProductUptoRow.holds Try.pinned (OpenSpec.upto fnExactProductSpec)

/-- 'laws.FnExactIn', WHERE WHAT IT READS IS OF BULK AT MOST 1048576: true; the input reads as it did. -/
def fnExactInUptoRow : OpenClaim := { program := "ytijdggcfjkfgcal", sum := "71a9f8710cb050717516d77a2d167f95bd108f0a4832e5d09d724e6c48f167be", func := "loop.example/g00069/laws.FnExactIn", spec := "fnExactIn", inPlace := ["internal/bytealg.IndexByteString", "internal/bytealg.IndexString"], unfollowed := true, recurses := true, named := ["internal/bytealg.MaxLen"], apart := false, narrowed := true }
def FnExactInUptoSaid : Prop := fnExactInUptoRow.holds Try.pinned (OpenSpec.upto fnExactInSpec)

end Rows
end Go.Proofs.Ytijdggcfjkfgcal
