/-
  No cell of these rows narrows 'for every input' (looked for: loops, veiled, ifaces, maps, wideKeys, modest, calm, conditions, laid).
  DERIVED. THE GIVEN ROWS OF THIS SEAT. 6 by the template 'for every input the law returns true; each argument reads behind the call as it read before'; 0 by the template 'total and deterministic' (their statements: YtkcdpjcfbpjkeanTotals.lean).
  GIVEN WITH THE SEED: the statements are not yours to turn. If you find one false, say at which input.
  Laid BY PROGRAM, IN A SANDBOX (cutbox-rows.mjs): the forced cells as the released guide's own fill.sh prints them over the translation fd7b545895a0349e… (all of the seat's roots in one cut). By AI agents, Wed Nov 11 2026. No macro, syntax, notation, axiom, sorry.
-/
import Derived.Test.YtkcdpjcfbpjkeanChecked
import GoSem.Claim
import GoSem.ClaimJoined
import GoSem.ClaimMapViews
import Derived.JoinedTies
import Derived.KernelRfl
namespace Go.Proofs.Ytkcdpjcfbpjkean
/- THE CELL 'sum', in the pinned program and in every row, IS THE sha256 OF THE DUMP (.gsa) THAT YtkcdpjcfbpjkeanProg.lean LOADS. Nothing in Lean hashes anything: it is a label: what it is worth is what the hold of that sum in a sandbox is worth. -/
noncomputable def Try.pinned : Pinned := { name := "ytkcdpjcfbpjkean", sum := "fd7b545895a0349e52dc8d5f489a20d05d1049bb47dc30310c2b87b5cfa3aeea", checked := Try.checked }
namespace Rows
def none {H : Type} : Left H := { results := [], args := [] }

/-- 'laws.FnExactCoverOk': WHATEVER THE INPUT: true; the input reads as it did. -/
def fnExactCoverOkSpec : ChangeSpec := { name := "fnExactCoverOk", fn := fun _ => fun
  | [d] => { results := [.lit (.bool true)], args := [d] }
  | _ => none }
def fnExactCoverOkRow : OpenClaim := { program := "ytkcdpjcfbpjkean", sum := "fd7b545895a0349e52dc8d5f489a20d05d1049bb47dc30310c2b87b5cfa3aeea", func := "loop.example/g00069/laws.FnExactCoverOk", spec := "fnExactCoverOk", apart := false }
def FnExactCoverOkSaid : Prop := fnExactCoverOkRow.holds Try.pinned (OpenSpec.ofChange fnExactCoverOkSpec)

/-- ITS FALSE NEIGHBOUR: 'it returns false'. Refute it at one input. -/
def fnExactCoverOkWrong : ChangeSpec := { name := "fnExactCoverOk", fn := fun _ => fun
  | [d] => { results := [.lit (.bool false)], args := [d] }
  | _ => none }
def FnExactCoverOkWrongFalsely : Prop := fnExactCoverOkRow.holds Try.pinned (OpenSpec.ofChange fnExactCoverOkWrong)

/-- 'laws.FnExactVariance': WHATEVER THE INPUT: true; the input reads as it did. -/
def fnExactVarianceSpec : ChangeSpec := { name := "fnExactVariance", fn := fun _ => fun
  | [d1, d2] => { results := [.lit (.bool true)], args := [d1, d2] }
  | _ => none }
def fnExactVarianceRow : OpenClaim := { program := "ytkcdpjcfbpjkean", sum := "fd7b545895a0349e52dc8d5f489a20d05d1049bb47dc30310c2b87b5cfa3aeea", func := "loop.example/g00069/laws.FnExactVariance", spec := "fnExactVariance", unfollowed := true, recurses := true, apart := false }
def FnExactVarianceSaid : Prop := fnExactVarianceRow.holds Try.pinned (OpenSpec.ofChange fnExactVarianceSpec)

/-- ITS FALSE NEIGHBOUR: 'it returns false'. Refute it at one input. -/
def fnExactVarianceWrong : ChangeSpec := { name := "fnExactVariance", fn := fun _ => fun
  | [d1, d2] => { results := [.lit (.bool false)], args := [d1, d2] }
  | _ => none }
def FnExactVarianceWrongFalsely : Prop := fnExactVarianceRow.holds Try.pinned (OpenSpec.ofChange fnExactVarianceWrong)

/-- 'laws.FnExactAlone': WHATEVER THE INPUT: true; the input reads as it did. -/
def fnExactAloneSpec : ChangeSpec := { name := "fnExactAlone", fn := fun _ => fun
  | [d] => { results := [.lit (.bool true)], args := [d] }
  | _ => none }
def fnExactAloneRow : OpenClaim := { program := "ytkcdpjcfbpjkean", sum := "fd7b545895a0349e52dc8d5f489a20d05d1049bb47dc30310c2b87b5cfa3aeea", func := "loop.example/g00069/laws.FnExactAlone", spec := "fnExactAlone", apart := false }
def FnExactAloneSaid : Prop := fnExactAloneRow.holds Try.pinned (OpenSpec.ofChange fnExactAloneSpec)

/-- ITS FALSE NEIGHBOUR: 'it returns false'. Refute it at one input. -/
def fnExactAloneWrong : ChangeSpec := { name := "fnExactAlone", fn := fun _ => fun
  | [d] => { results := [.lit (.bool false)], args := [d] }
  | _ => none }
def FnExactAloneWrongFalsely : Prop := fnExactAloneRow.holds Try.pinned (OpenSpec.ofChange fnExactAloneWrong)

/-- 'laws.FnExactParts': WHATEVER THE INPUT: true; the input reads as it did. -/
def fnExactPartsSpec : ChangeSpec := { name := "fnExactParts", fn := fun _ => fun
  | [d1, d2] => { results := [.lit (.bool true)], args := [d1, d2] }
  | _ => none }
def fnExactPartsRow : OpenClaim := { program := "ytkcdpjcfbpjkean", sum := "fd7b545895a0349e52dc8d5f489a20d05d1049bb47dc30310c2b87b5cfa3aeea", func := "loop.example/g00069/laws.FnExactParts", spec := "fnExactParts", unfollowed := true, recurses := true, apart := false }
def FnExactPartsSaid : Prop := fnExactPartsRow.holds Try.pinned (OpenSpec.ofChange fnExactPartsSpec)

/-- ITS FALSE NEIGHBOUR: 'it returns false'. Refute it at one input. -/
def fnExactPartsWrong : ChangeSpec := { name := "fnExactParts", fn := fun _ => fun
  | [d1, d2] => { results := [.lit (.bool false)], args := [d1, d2] }
  | _ => none }
def FnExactPartsWrongFalsely : Prop := fnExactPartsRow.holds Try.pinned (OpenSpec.ofChange fnExactPartsWrong)

/-- 'laws.FnExactCarried': WHATEVER THE INPUT: true; the input reads as it did. -/
def fnExactCarriedSpec : ChangeSpec := { name := "fnExactCarried", fn := fun _ => fun
  | [d1, d2] => { results := [.lit (.bool true)], args := [d1, d2] }
  | _ => none }
def fnExactCarriedRow : OpenClaim := { program := "ytkcdpjcfbpjkean", sum := "fd7b545895a0349e52dc8d5f489a20d05d1049bb47dc30310c2b87b5cfa3aeea", func := "loop.example/g00069/laws.FnExactCarried", spec := "fnExactCarried", unfollowed := true, recurses := true, apart := false }
def FnExactCarriedSaid : Prop := fnExactCarriedRow.holds Try.pinned (OpenSpec.ofChange fnExactCarriedSpec)

/-- ITS FALSE NEIGHBOUR: 'it returns false'. Refute it at one input. -/
def fnExactCarriedWrong : ChangeSpec := { name := "fnExactCarried", fn := fun _ => fun
  | [d1, d2] => { results := [.lit (.bool false)], args := [d1, d2] }
  | _ => none }
def FnExactCarriedWrongFalsely : Prop := fnExactCarriedRow.holds Try.pinned (OpenSpec.ofChange fnExactCarriedWrong)

/-- 'laws.FnExactSpreadOk': WHATEVER THE INPUT: true; the input reads as it did. -/
def fnExactSpreadOkSpec : ChangeSpec := { name := "fnExactSpreadOk", fn := fun _ => fun
  | [d] => { results := [.lit (.bool true)], args := [d] }
  | _ => none }
def fnExactSpreadOkRow : OpenClaim := { program := "ytkcdpjcfbpjkean", sum := "fd7b545895a0349e52dc8d5f489a20d05d1049bb47dc30310c2b87b5cfa3aeea", func := "loop.example/g00069/laws.FnExactSpreadOk", spec := "fnExactSpreadOk", apart := false }
def FnExactSpreadOkSaid : Prop := fnExactSpreadOkRow.holds Try.pinned (OpenSpec.ofChange fnExactSpreadOkSpec)

/-- ITS FALSE NEIGHBOUR: 'it returns false'. Refute it at one input. -/
def fnExactSpreadOkWrong : ChangeSpec := { name := "fnExactSpreadOk", fn := fun _ => fun
  | [d] => { results := [.lit (.bool false)], args := [d] }
  | _ => none }
def FnExactSpreadOkWrongFalsely : Prop := fnExactSpreadOkRow.holds Try.pinned (OpenSpec.ofChange fnExactSpreadOkWrong)

/- THE SECOND FORM. 'bulk': how many values and letters a reading holds, each counted each time it is reached (what is shared counts as often as it is met; a slice's spare places count too). A statement '..UptoSaid' is the law's where the arguments, and the package variables that the reading takes, are together of bulk at most 1048576: NARROWER than '..Said'. Prove '..Said' where nothing that the law and all that it calls make is longer than what came in: it says more and counts as full. Else prove '..UptoSaid'. A law counts once. -/
mutual
def uptoBulk {H : Type} : DataW H → Nat
  | .lit (.string bytes) => bytes.length + 1
  | .lit _ => 1
  | .nil => 1
  | .ptr d => uptoBulk d + 1
  | .slice elems spare => uptoBulkAll elems + uptoBulkAll spare + 1
  | .agg parts => uptoBulkAll parts + 1
  | .iface _ d => uptoBulk d + 1
  | .map entries => uptoBulkEntries entries + 1
  | .held _ => 1
def uptoBulkAll {H : Type} : List (DataW H) → Nat
  | [] => 0
  | d :: r => uptoBulk d + uptoBulkAll r
def uptoBulkEntries {H : Type} : List (Lit × DataW H) → Nat
  | [] => 0
  | x :: r => uptoBulkEntry x + uptoBulkEntries r
def uptoBulkEntry {H : Type} : Lit × DataW H → Nat
  | (.string bytes, d) => bytes.length + uptoBulk d + 1
  | (_, d) => uptoBulk d + 1
 end
def uptoSmall : (H : Type) → List (DataW H) → Bool := fun _ ds => decide (uptoBulkAll ds ≤ 1048576)
def OpenSpec.upto (s : _root_.Go.ChangeSpec) : _root_.Go.OpenSpec := { _root_.Go.OpenSpec.ofChange s with cond := some uptoSmall }

/-- 'laws.FnExactCoverOk', WHERE WHAT IT READS IS OF BULK AT MOST 1048576: true; the input reads as it did. -/
def fnExactCoverOkUptoRow : OpenClaim := { program := "ytkcdpjcfbpjkean", sum := "fd7b545895a0349e52dc8d5f489a20d05d1049bb47dc30310c2b87b5cfa3aeea", func := "loop.example/g00069/laws.FnExactCoverOk", spec := "fnExactCoverOk", apart := false, narrowed := true }
def FnExactCoverOkUptoSaid : Prop := fnExactCoverOkUptoRow.holds Try.pinned (OpenSpec.upto fnExactCoverOkSpec)

/-- 'laws.FnExactVariance', WHERE WHAT IT READS IS OF BULK AT MOST 1048576: true; the input reads as it did. -/
def fnExactVarianceUptoRow : OpenClaim := { program := "ytkcdpjcfbpjkean", sum := "fd7b545895a0349e52dc8d5f489a20d05d1049bb47dc30310c2b87b5cfa3aeea", func := "loop.example/g00069/laws.FnExactVariance", spec := "fnExactVariance", unfollowed := true, recurses := true, apart := false, narrowed := true }
def FnExactVarianceUptoSaid : Prop := fnExactVarianceUptoRow.holds Try.pinned (OpenSpec.upto fnExactVarianceSpec)

/-- 'laws.FnExactAlone', WHERE WHAT IT READS IS OF BULK AT MOST 1048576: true; the input reads as it did. -/
def fnExactAloneUptoRow : OpenClaim := { program := "ytkcdpjcfbpjkean", sum := "fd7b545895a0349e52dc8d5f489a20d05d1049bb47dc30310c2b87b5cfa3aeea", func := "loop.example/g00069/laws.FnExactAlone", spec := "fnExactAlone", apart := false, narrowed := true }
def FnExactAloneUptoSaid : Prop := fnExactAloneUptoRow.holds Try.pinned (OpenSpec.upto fnExactAloneSpec)

/-- 'laws.FnExactParts', WHERE WHAT IT READS IS OF BULK AT MOST 1048576: true; the input reads as it did. -/
def fnExactPartsUptoRow : OpenClaim := { program := "ytkcdpjcfbpjkean", sum := "fd7b545895a0349e52dc8d5f489a20d05d1049bb47dc30310c2b87b5cfa3aeea", func := "loop.example/g00069/laws.FnExactParts", spec := "fnExactParts", unfollowed := true, recurses := true, apart := false, narrowed := true }
def FnExactPartsUptoSaid : Prop := fnExactPartsUptoRow.holds Try.pinned (OpenSpec.upto fnExactPartsSpec)

/-- 'laws.FnExactCarried', WHERE WHAT IT READS IS OF BULK AT MOST 1048576: true; the input reads as it did. -/
def fnExactCarriedUptoRow : OpenClaim := { program := "ytkcdpjcfbpjkean", sum := "fd7b545895a0349e52dc8d5f489a20d05d1049bb47dc30310c2b87b5cfa3aeea", func := "loop.example/g00069/laws.FnExactCarried", spec := "fnExactCarried", unfollowed := true, recurses := true, apart := false, narrowed := true }
def FnExactCarriedUptoSaid : Prop := fnExactCarriedUptoRow.holds Try.pinned (OpenSpec.upto fnExactCarriedSpec)

/-- 'laws.FnExactSpreadOk', WHERE WHAT IT READS IS OF BULK AT MOST 1048576: true; the input reads as it did. -/
def fnExactSpreadOkUptoRow : OpenClaim := { program := "ytkcdpjcfbpjkean", sum := "fd7b545895a0349e52dc8d5f489a20d05d1049bb47dc30310c2b87b5cfa3aeea", func := "loop.example/g00069/laws.FnExactSpreadOk", spec := "fnExactSpreadOk", apart := false, narrowed := true }
def FnExactSpreadOkUptoSaid : Prop := fnExactSpreadOkUptoRow.holds Try.pinned (OpenSpec.upto fnExactSpreadOkSpec)

end Rows
end Go.Proofs.Ytkcdpjcfbpjkean
