/-
  No cell of these rows narrows 'for every input' (looked for: loops, veiled, ifaces, maps, wideKeys, modest, calm, conditions, laid).
  DERIVED. THE GIVEN ROWS OF THIS SEAT. 6 by the template 'for every input the law returns true; each argument reads behind the call as it read before'; 0 by the template 'total and deterministic' (their statements: YtjpjnpdmkfgjgaaTotals.lean).
  GIVEN WITH THE SEED: the statements are not yours to turn. If you find one false, say at which input.
  Laid BY PROGRAM, IN A SANDBOX (cutbox-rows.mjs): the forced cells as the released guide's own fill.sh prints them over the translation 7b8d28301a279875… (all of the seat's roots in one cut). By AI agents, Wed Nov 11 2026. No macro, syntax, notation, axiom, sorry.
-/
import Derived.Test.YtjpjnpdmkfgjgaaChecked
import GoSem.Claim
import GoSem.ClaimJoined
import GoSem.ClaimMapViews
import Derived.JoinedTies
import Derived.KernelRfl
namespace Go.Proofs.Ytjpjnpdmkfgjgaa
/- THE CELL 'sum', in the pinned program and in every row, IS THE sha256 OF THE DUMP (.gsa) THAT YtjpjnpdmkfgjgaaProg.lean LOADS. Nothing in Lean hashes anything: it is a label: what it is worth is what the hold of that sum in a sandbox is worth. -/
noncomputable def Try.pinned : Pinned := { name := "ytjpjnpdmkfgjgaa", sum := "7b8d28301a2798754220a5ae1bf3e63b6911b012bd7f277f20ddf96f534afde5", checked := Try.checked }
namespace Rows
def none {H : Type} : Left H := { results := [], args := [] }

/-- 'laws.FnExactRangeOk': WHATEVER THE INPUT: true; the input reads as it did. -/
def fnExactRangeOkSpec : ChangeSpec := { name := "fnExactRangeOk", fn := fun _ => fun
  | [d] => { results := [.lit (.bool true)], args := [d] }
  | _ => none }
def fnExactRangeOkRow : OpenClaim := { program := "ytjpjnpdmkfgjgaa", sum := "7b8d28301a2798754220a5ae1bf3e63b6911b012bd7f277f20ddf96f534afde5", func := "loop.example/g00069/laws.FnExactRangeOk", spec := "fnExactRangeOk", apart := false }
def FnExactRangeOkSaid : Prop := fnExactRangeOkRow.holds Try.pinned (OpenSpec.ofChange fnExactRangeOkSpec)

/-- ITS FALSE NEIGHBOUR: 'it returns false'. Refute it at one input. -/
def fnExactRangeOkWrong : ChangeSpec := { name := "fnExactRangeOk", fn := fun _ => fun
  | [d] => { results := [.lit (.bool false)], args := [d] }
  | _ => none }
def FnExactRangeOkWrongFalsely : Prop := fnExactRangeOkRow.holds Try.pinned (OpenSpec.ofChange fnExactRangeOkWrong)

/-- 'laws.FnExactRangeAdd': WHATEVER THE INPUT: true; the input reads as it did. -/
def fnExactRangeAddSpec : ChangeSpec := { name := "fnExactRangeAdd", fn := fun _ => fun
  | [d1, d2] => { results := [.lit (.bool true)], args := [d1, d2] }
  | _ => none }
def fnExactRangeAddRow : OpenClaim := { program := "ytjpjnpdmkfgjgaa", sum := "7b8d28301a2798754220a5ae1bf3e63b6911b012bd7f277f20ddf96f534afde5", func := "loop.example/g00069/laws.FnExactRangeAdd", spec := "fnExactRangeAdd", unfollowed := true, recurses := true, apart := false }
def FnExactRangeAddSaid : Prop := fnExactRangeAddRow.holds Try.pinned (OpenSpec.ofChange fnExactRangeAddSpec)

/-- ITS FALSE NEIGHBOUR: 'it returns false'. Refute it at one input. -/
def fnExactRangeAddWrong : ChangeSpec := { name := "fnExactRangeAdd", fn := fun _ => fun
  | [d1, d2] => { results := [.lit (.bool false)], args := [d1, d2] }
  | _ => none }
def FnExactRangeAddWrongFalsely : Prop := fnExactRangeAddRow.holds Try.pinned (OpenSpec.ofChange fnExactRangeAddWrong)

/-- 'laws.FnExactRangeMul': WHATEVER THE INPUT: true; the input reads as it did. -/
def fnExactRangeMulSpec : ChangeSpec := { name := "fnExactRangeMul", fn := fun _ => fun
  | [d1, d2] => { results := [.lit (.bool true)], args := [d1, d2] }
  | _ => none }
def fnExactRangeMulRow : OpenClaim := { program := "ytjpjnpdmkfgjgaa", sum := "7b8d28301a2798754220a5ae1bf3e63b6911b012bd7f277f20ddf96f534afde5", func := "loop.example/g00069/laws.FnExactRangeMul", spec := "fnExactRangeMul", unfollowed := true, recurses := true, apart := false }
def FnExactRangeMulSaid : Prop := fnExactRangeMulRow.holds Try.pinned (OpenSpec.ofChange fnExactRangeMulSpec)

/-- ITS FALSE NEIGHBOUR: 'it returns false'. Refute it at one input. -/
def fnExactRangeMulWrong : ChangeSpec := { name := "fnExactRangeMul", fn := fun _ => fun
  | [d1, d2] => { results := [.lit (.bool false)], args := [d1, d2] }
  | _ => none }
def FnExactRangeMulWrongFalsely : Prop := fnExactRangeMulRow.holds Try.pinned (OpenSpec.ofChange fnExactRangeMulWrong)

/-- 'laws.FnExactWithin': WHATEVER THE INPUT: true; the input reads as it did. -/
def fnExactWithinSpec : ChangeSpec := { name := "fnExactWithin", fn := fun _ => fun
  | [d1, d2] => { results := [.lit (.bool true)], args := [d1, d2] }
  | _ => none }
def fnExactWithinRow : OpenClaim := { program := "ytjpjnpdmkfgjgaa", sum := "7b8d28301a2798754220a5ae1bf3e63b6911b012bd7f277f20ddf96f534afde5", func := "loop.example/g00069/laws.FnExactWithin", spec := "fnExactWithin", apart := false }
def FnExactWithinSaid : Prop := fnExactWithinRow.holds Try.pinned (OpenSpec.ofChange fnExactWithinSpec)

/-- ITS FALSE NEIGHBOUR: 'it returns false'. Refute it at one input. -/
def fnExactWithinWrong : ChangeSpec := { name := "fnExactWithin", fn := fun _ => fun
  | [d1, d2] => { results := [.lit (.bool false)], args := [d1, d2] }
  | _ => none }
def FnExactWithinWrongFalsely : Prop := fnExactWithinRow.holds Try.pinned (OpenSpec.ofChange fnExactWithinWrong)

/-- 'laws.FnExactMeet': WHATEVER THE INPUT: true; the input reads as it did. -/
def fnExactMeetSpec : ChangeSpec := { name := "fnExactMeet", fn := fun _ => fun
  | [d1, d2] => { results := [.lit (.bool true)], args := [d1, d2] }
  | _ => none }
def fnExactMeetRow : OpenClaim := { program := "ytjpjnpdmkfgjgaa", sum := "7b8d28301a2798754220a5ae1bf3e63b6911b012bd7f277f20ddf96f534afde5", func := "loop.example/g00069/laws.FnExactMeet", spec := "fnExactMeet", apart := false }
def FnExactMeetSaid : Prop := fnExactMeetRow.holds Try.pinned (OpenSpec.ofChange fnExactMeetSpec)

/-- ITS FALSE NEIGHBOUR: 'it returns false'. Refute it at one input. -/
def fnExactMeetWrong : ChangeSpec := { name := "fnExactMeet", fn := fun _ => fun
  | [d1, d2] => { results := [.lit (.bool false)], args := [d1, d2] }
  | _ => none }
def FnExactMeetWrongFalsely : Prop := fnExactMeetRow.holds Try.pinned (OpenSpec.ofChange fnExactMeetWrong)

/-- 'laws.FnExactWidth': WHATEVER THE INPUT: true; the input reads as it did. -/
def fnExactWidthSpec : ChangeSpec := { name := "fnExactWidth", fn := fun _ => fun
  | [d] => { results := [.lit (.bool true)], args := [d] }
  | _ => none }
def fnExactWidthRow : OpenClaim := { program := "ytjpjnpdmkfgjgaa", sum := "7b8d28301a2798754220a5ae1bf3e63b6911b012bd7f277f20ddf96f534afde5", func := "loop.example/g00069/laws.FnExactWidth", spec := "fnExactWidth", unfollowed := true, recurses := true, apart := false }
def FnExactWidthSaid : Prop := fnExactWidthRow.holds Try.pinned (OpenSpec.ofChange fnExactWidthSpec)

/-- ITS FALSE NEIGHBOUR: 'it returns false'. Refute it at one input. -/
def fnExactWidthWrong : ChangeSpec := { name := "fnExactWidth", fn := fun _ => fun
  | [d] => { results := [.lit (.bool false)], args := [d] }
  | _ => none }
def FnExactWidthWrongFalsely : Prop := fnExactWidthRow.holds Try.pinned (OpenSpec.ofChange fnExactWidthWrong)

/- THE SECOND FORM. 'bulk': how many values and letters a reading holds, each counted each time it is reached (what is shared counts as often as it is met; a slice's spare places count too). A statement '..UptoSaid' is the law's where the arguments, and the package variables that the reading takes, are together of bulk at most 1048576: NARROWER than '..Said'. Prove '..Said' where nothing that the law and all that it calls make is longer than what came in: it says more and counts as full. Else prove '..UptoSaid'. A law counts once. -/
mutual
def uptoBulk {H : Type} : DataW H → Nat
  | .lit (.string bytes) => bytes.length + 1
  | .lit _ => 1
  | .nil => 1
  | .ptr d => uptoBulk d + 1
  | .slice elems spare => uptoBulkAll elems + uptoBulkAll spare + 1
  | .agg parts => uptoBulkAll parts + 1
  | .iface _ d => uptoBulk d + 1
  | .map entries => uptoBulkEntries entries + 1
  | .held _ => 1
def uptoBulkAll {H : Type} : List (DataW H) → Nat
  | [] => 0
  | d :: r => uptoBulk d + uptoBulkAll r
def uptoBulkEntries {H : Type} : List (Lit × DataW H) → Nat
  | [] => 0
  | x :: r => uptoBulkEntry x + uptoBulkEntries r
def uptoBulkEntry {H : Type} : Lit × DataW H → Nat
  | (.string bytes, d) => bytes.length + uptoBulk d + 1
  | (_, d) => uptoBulk d + 1
 end
def uptoSmall : (H : Type) → List (DataW H) → Bool := fun _ ds => decide (uptoBulkAll ds ≤ 1048576)
def OpenSpec.upto (s : _root_.Go.ChangeSpec) : _root_.Go.OpenSpec := { _root_.Go.OpenSpec.ofChange s with cond := some uptoSmall }

/-- 'laws.FnExactRangeOk', WHERE WHAT IT READS IS OF BULK AT MOST 1048576: true; the input reads as it did. -/
def fnExactRangeOkUptoRow : OpenClaim := { program := "ytjpjnpdmkfgjgaa", sum := "7b8d28301a2798754220a5ae1bf3e63b6911b012bd7f277f20ddf96f534afde5", func := "loop.example/g00069/laws.FnExactRangeOk", spec := "fnExactRangeOk", apart := false, narrowed := true }
def FnExactRangeOkUptoSaid : Prop := fnExactRangeOkUptoRow.holds Try.pinned (OpenSpec.upto fnExactRangeOkSpec)

/-- 'laws.FnExactRangeAdd', WHERE WHAT IT READS IS OF BULK AT MOST 1048576: true; the input reads as it did. -/
def fnExactRangeAddUptoRow : OpenClaim := { program := "ytjpjnpdmkfgjgaa", sum := "7b8d28301a2798754220a5ae1bf3e63b6911b012bd7f277f20ddf96f534afde5", func := "loop.example/g00069/laws.FnExactRangeAdd", spec := "fnExactRangeAdd", unfollowed := true, recurses := true, apart := false, narrowed := true }
def FnExactRangeAddUptoSaid : Prop := fnExactRangeAddUptoRow.holds Try.pinned (OpenSpec.upto fnExactRangeAddSpec)

/-- 'laws.FnExactRangeMul', WHERE WHAT IT READS IS OF BULK AT MOST 1048576: true; the input reads as it did. -/
def fnExactRangeMulUptoRow : OpenClaim := { program := "ytjpjnpdmkfgjgaa", sum := "7b8d28301a2798754220a5ae1bf3e63b6911b012bd7f277f20ddf96f534afde5", func := "loop.example/g00069/laws.FnExactRangeMul", spec := "fnExactRangeMul", unfollowed := true, recurses := true, apart := false, narrowed := true }
def FnExactRangeMulUptoSaid : Prop := fnExactRangeMulUptoRow.holds Try.pinned (OpenSpec.upto fnExactRangeMulSpec)

/-- 'laws.FnExactWithin', WHERE WHAT IT READS IS OF BULK AT MOST 1048576: true; the input reads as it did. -/
def fnExactWithinUptoRow : OpenClaim := { program := "ytjpjnpdmkfgjgaa", sum := "7b8d28301a2798754220a5ae1bf3e63b6911b012bd7f277f20ddf96f534afde5", func := "loop.example/g00069/laws.FnExactWithin", spec := "fnExactWithin", apart := false, narrowed := true }
def FnExactWithinUptoSaid : Prop := fnExactWithinUptoRow.holds Try.pinned (OpenSpec.upto fnExactWithinSpec)

/-- 'laws.FnExactMeet', WHERE WHAT IT READS IS OF BULK AT MOST 1048576: true; the input reads as it did. -/
def fnExactMeetUptoRow : OpenClaim := { program := "ytjpjnpdmkfgjgaa", sum := "7b8d28301a2798754220a5ae1bf3e63b6911b012bd7f277f20ddf96f534afde5", func := "loop.example/g00069/laws.FnExactMeet", spec := "fnExactMeet", apart := false, narrowed := true }
def FnExactMeetUptoSaid : Prop := fnExactMeetUptoRow.holds Try.pinned (OpenSpec.upto fnExactMeetSpec)

/-- 'laws.FnExactWidth', WHERE WHAT IT READS IS OF BULK AT MOST 1048576: true; the input reads as it did. -/
def fnExactWidthUptoRow : OpenClaim := { program := "ytjpjnpdmkfgjgaa", sum := "7b8d28301a2798754220a5ae1bf3e63b6911b012bd7f277f20ddf96f534afde5", func := "loop.example/g00069/laws.FnExactWidth", spec := "fnExactWidth", unfollowed := true, recurses := true, apart := false, narrowed := true }
def FnExactWidthUptoSaid : Prop := fnExactWidthUptoRow.holds Try.pinned (OpenSpec.upto fnExactWidthSpec)

end Rows
end Go.Proofs.Ytjpjnpdmkfgjgaa
