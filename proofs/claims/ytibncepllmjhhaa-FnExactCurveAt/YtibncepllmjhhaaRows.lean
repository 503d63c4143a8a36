/-
  No cell of these rows narrows 'for every input' (looked for: loops, veiled, ifaces, maps, wideKeys, modest, calm, conditions, laid).
  DERIVED. THE GIVEN ROWS OF THIS SEAT. 5 by the template 'for every input the law returns true; each argument reads behind the call as it read before'; 0 by the template 'total and deterministic' (their statements: YtibncepllmjhhaaTotals.lean).
  GIVEN WITH THE SEED: the statements are not yours to turn. If you find one false, say at which input.
  Laid BY PROGRAM, IN A SANDBOX (cutbox-rows.mjs): the forced cells as the released guide's own fill.sh prints them over the translation 73faaf6695f82b42… (all of the seat's roots in one cut). By AI agents, Wed Nov 11 2026. No macro, syntax, notation, axiom, sorry.
-/
import Derived.Test.YtibncepllmjhhaaChecked
import GoSem.Claim
import GoSem.ClaimJoined
import GoSem.ClaimMapViews
import Derived.JoinedTies
import Derived.KernelRfl
namespace Go.Proofs.Ytibncepllmjhhaa
/- THE CELL 'sum', in the pinned program and in every row, IS THE sha256 OF THE DUMP (.gsa) THAT YtibncepllmjhhaaProg.lean LOADS. Nothing in Lean hashes anything: it is a label: what it is worth is what the hold of that sum in a sandbox is worth. -/
noncomputable def Try.pinned : Pinned := { name := "ytibncepllmjhhaa", sum := "73faaf6695f82b4207f5c69cdfd0e9df7700923d5aead337f284a971128f8b48", checked := Try.checked }
namespace Rows
def none {H : Type} : Left H := { results := [], args := [] }

/-- 'laws.FnExactSpotsOk': WHATEVER THE INPUT: true; the input reads as it did. -/
def fnExactSpotsOkSpec : ChangeSpec := { name := "fnExactSpotsOk", fn := fun _ => fun
  | [d] => { results := [.lit (.bool true)], args := [d] }
  | _ => none }
def fnExactSpotsOkRow : OpenClaim := { program := "ytibncepllmjhhaa", sum := "73faaf6695f82b4207f5c69cdfd0e9df7700923d5aead337f284a971128f8b48", func := "loop.example/g00069/laws.FnExactSpotsOk", spec := "fnExactSpotsOk", apart := false }
def FnExactSpotsOkSaid : Prop := fnExactSpotsOkRow.holds Try.pinned (OpenSpec.ofChange fnExactSpotsOkSpec)

/-- ITS FALSE NEIGHBOUR: 'it returns false'. Refute it at one input. -/
def fnExactSpotsOkWrong : ChangeSpec := { name := "fnExactSpotsOk", fn := fun _ => fun
  | [d] => { results := [.lit (.bool false)], args := [d] }
  | _ => none }
def FnExactSpotsOkWrongFalsely : Prop := fnExactSpotsOkRow.holds Try.pinned (OpenSpec.ofChange fnExactSpotsOkWrong)

/-- 'laws.FnExactCurveAt': WHATEVER THE INPUT: true; the input reads as it did. -/
def fnExactCurveAtSpec : ChangeSpec := { name := "fnExactCurveAt", fn := fun _ => fun
  | [d1, d2] => { results := [.lit (.bool true)], args := [d1, d2] }
  | _ => none }
def fnExactCurveAtRow : OpenClaim := { program := "ytibncepllmjhhaa", sum := "73faaf6695f82b4207f5c69cdfd0e9df7700923d5aead337f284a971128f8b48", func := "loop.example/g00069/laws.FnExactCurveAt", spec := "fnExactCurveAt", unfollowed := true, recurses := true, apart := false }
def FnExactCurveAtSaid : Prop := fnExactCurveAtRow.holds Try.pinned (OpenSpec.ofChange fnExactCurveAtSpec)

/-- ITS FALSE NEIGHBOUR: 'it returns false'. Refute it at one input. -/
def fnExactCurveAtWrong : ChangeSpec := { name := "fnExactCurveAt", fn := fun _ => fun
  | [d1, d2] => { results := [.lit (.bool false)], args := [d1, d2] }
  | _ => none }
def FnExactCurveAtWrongFalsely : Prop := fnExactCurveAtRow.holds Try.pinned (OpenSpec.ofChange fnExactCurveAtWrong)

/-- 'laws.FnExactMiss': WHATEVER THE INPUT: true; the input reads as it did. -/
def fnExactMissSpec : ChangeSpec := { name := "fnExactMiss", fn := fun _ => fun
  | [d1, d2] => { results := [.lit (.bool true)], args := [d1, d2] }
  | _ => none }
def fnExactMissRow : OpenClaim := { program := "ytibncepllmjhhaa", sum := "73faaf6695f82b4207f5c69cdfd0e9df7700923d5aead337f284a971128f8b48", func := "loop.example/g00069/laws.FnExactMiss", spec := "fnExactMiss", unfollowed := true, recurses := true, apart := false }
def FnExactMissSaid : Prop := fnExactMissRow.holds Try.pinned (OpenSpec.ofChange fnExactMissSpec)

/-- ITS FALSE NEIGHBOUR: 'it returns false'. Refute it at one input. -/
def fnExactMissWrong : ChangeSpec := { name := "fnExactMiss", fn := fun _ => fun
  | [d1, d2] => { results := [.lit (.bool false)], args := [d1, d2] }
  | _ => none }
def FnExactMissWrongFalsely : Prop := fnExactMissRow.holds Try.pinned (OpenSpec.ofChange fnExactMissWrong)

/-- 'laws.FnExactFitted': WHATEVER THE INPUT: true; the input reads as it did. -/
def fnExactFittedSpec : ChangeSpec := { name := "fnExactFitted", fn := fun _ => fun
  | [d1, d2] => { results := [.lit (.bool true)], args := [d1, d2] }
  | _ => none }
def fnExactFittedRow : OpenClaim := { program := "ytibncepllmjhhaa", sum := "73faaf6695f82b4207f5c69cdfd0e9df7700923d5aead337f284a971128f8b48", func := "loop.example/g00069/laws.FnExactFitted", spec := "fnExactFitted", unfollowed := true, recurses := true, apart := false }
def FnExactFittedSaid : Prop := fnExactFittedRow.holds Try.pinned (OpenSpec.ofChange fnExactFittedSpec)

/-- ITS FALSE NEIGHBOUR: 'it returns false'. Refute it at one input. -/
def fnExactFittedWrong : ChangeSpec := { name := "fnExactFitted", fn := fun _ => fun
  | [d1, d2] => { results := [.lit (.bool false)], args := [d1, d2] }
  | _ => none }
def FnExactFittedWrongFalsely : Prop := fnExactFittedRow.holds Try.pinned (OpenSpec.ofChange fnExactFittedWrong)

/-- 'laws.FnExactNormal': WHATEVER THE INPUT: true; the input reads as it did. -/
def fnExactNormalSpec : ChangeSpec := { name := "fnExactNormal", fn := fun _ => fun
  | [d1, d2] => { results := [.lit (.bool true)], args := [d1, d2] }
  | _ => none }
def fnExactNormalRow : OpenClaim := { program := "ytibncepllmjhhaa", sum := "73faaf6695f82b4207f5c69cdfd0e9df7700923d5aead337f284a971128f8b48", func := "loop.example/g00069/laws.FnExactNormal", spec := "fnExactNormal", unfollowed := true, recurses := true, apart := false }
def FnExactNormalSaid : Prop := fnExactNormalRow.holds Try.pinned (OpenSpec.ofChange fnExactNormalSpec)

/-- ITS FALSE NEIGHBOUR: 'it returns false'. Refute it at one input. -/
def fnExactNormalWrong : ChangeSpec := { name := "fnExactNormal", fn := fun _ => fun
  | [d1, d2] => { results := [.lit (.bool false)], args := [d1, d2] }
  | _ => none }
def FnExactNormalWrongFalsely : Prop := fnExactNormalRow.holds Try.pinned (OpenSpec.ofChange fnExactNormalWrong)

/- THE SECOND FORM. 'bulk': how many values and letters a reading holds, each counted each time it is reached (what is shared counts as often as it is met; a slice's spare places count too). A statement '..UptoSaid' is the law's where the arguments, and the package variables that the reading takes, are together of bulk at most 1048576: NARROWER than '..Said'. Prove '..Said' where nothing that the law and all that it calls make is longer than what came in: it says more and counts as full. Else prove '..UptoSaid'. A law counts once. -/
mutual
def uptoBulk {H : Type} : DataW H → Nat
  | .lit (.string bytes) => bytes.length + 1
  | .lit _ => 1
  | .nil => 1
  | .ptr d => uptoBulk d + 1
  | .slice elems spare => uptoBulkAll elems + uptoBulkAll spare + 1
  | .agg parts => uptoBulkAll parts + 1
  | .iface _ d => uptoBulk d + 1
  | .map entries => uptoBulkEntries entries + 1
  | .held _ => 1
def uptoBulkAll {H : Type} : List (DataW H) → Nat
  | [] => 0
  | d :: r => uptoBulk d + uptoBulkAll r
def uptoBulkEntries {H : Type} : List (Lit × DataW H) → Nat
  | [] => 0
  | x :: r => uptoBulkEntry x + uptoBulkEntries r
def uptoBulkEntry {H : Type} : Lit × DataW H → Nat
  | (.string bytes, d) => bytes.length + uptoBulk d + 1
  | (_, d) => uptoBulk d + 1
 end
def uptoSmall : (H : Type) → List (DataW H) → Bool := fun _ ds => decide (uptoBulkAll ds ≤ 1048576)
def OpenSpec.upto (s : _root_.Go.ChangeSpec) : _root_.Go.OpenSpec := { _root_.Go.OpenSpec.ofChange s with cond := some uptoSmall }

/-- 'laws.FnExactSpotsOk', WHERE WHAT IT READS IS OF BULK AT MOST 1048576: true; the input reads as it did. -/
def fnExactSpotsOkUptoRow : OpenClaim := { program := "ytibncepllmjhhaa", sum := "73faaf6695f82b4207f5c69cdfd0e9df7700923d5aead337f284a971128f8b48", func := "loop.example/g00069/laws.FnExactSpotsOk", spec := "fnExactSpotsOk", apart := false, narrowed := true }
def FnExactSpotsOkUptoSaid : Prop := fnExactSpotsOkUptoRow.holds Try.pinned (OpenSpec.upto fnExactSpotsOkSpec)

/-- 'laws.FnExactCurveAt', WHERE WHAT IT READS IS OF BULK AT MOST 1048576: true; the input reads as it did. -/
def fnExactCurveAtUptoRow : OpenClaim := { program := "ytibncepllmjhhaa", sum := "73faaf6695f82b4207f5c69cdfd0e9df7700923d5aead337f284a971128f8b48", func := "loop.example/g00069/laws.FnExactCurveAt", spec := "fnExactCurveAt", unfollowed := true, recurses := true, apart := false, narrowed := true }
def FnExactCurveAtUptoSaid : Prop := fnExactCurveAtUptoRow.holds Try.pinned (OpenSpec.upto fnExactCurveAtSpec)

/-- 'laws.FnExactMiss', WHERE WHAT IT READS IS OF BULK AT MOST 1048576: true; the input reads as it did. -/
def fnExactMissUptoRow : OpenClaim := { program := "ytibncepllmjhhaa", sum := "73faaf6695f82b4207f5c69cdfd0e9df7700923d5aead337f284a971128f8b48", func := "loop.example/g00069/laws.FnExactMiss", spec := "fnExactMiss", unfollowed := true, recurses := true, apart := false, narrowed := true }
def FnExactMissUptoSaid : Prop := fnExactMissUptoRow.holds Try.pinned (OpenSpec.upto fnExactMissSpec)

/-- 'laws.FnExactFitted', WHERE WHAT IT READS IS OF BULK AT MOST 1048576: true; the input reads as it did. -/
def fnExactFittedUptoRow : OpenClaim := { program := "ytibncepllmjhhaa", sum := "73faaf6695f82b4207f5c69cdfd0e9df7700923d5aead337f284a971128f8b48", func := "loop.example/g00069/laws.FnExactFitted", spec := "fnExactFitted", unfollowed := true, recurses := true, apart := false, narrowed := true }
def FnExactFittedUptoSaid : Prop := fnExactFittedUptoRow.holds Try.pinned (OpenSpec.upto fnExactFittedSpec)

/-- 'laws.FnExactNormal', WHERE WHAT IT READS IS OF BULK AT MOST 1048576: true; the input reads as it did. -/
def fnExactNormalUptoRow : OpenClaim := { program := "ytibncepllmjhhaa", sum := "73faaf6695f82b4207f5c69cdfd0e9df7700923d5aead337f284a971128f8b48", func := "loop.example/g00069/laws.FnExactNormal", spec := "fnExactNormal", unfollowed := true, recurses := true, apart := false, narrowed := true }
def FnExactNormalUptoSaid : Prop := fnExactNormalUptoRow.holds Try.pinned (OpenSpec.upto fnExactNormalSpec)

end Rows
end Go.Proofs.Ytibncepllmjhhaa
