/-
  No cell of these rows narrows 'for every input' (looked for: loops, veiled, ifaces, maps, wideKeys, modest, calm, conditions, laid).
  DERIVED. THE GIVEN ROWS OF THIS SEAT. 5 by the template 'for every input the law returns true; each argument reads behind the call as it read before'; 0 by the template 'total and deterministic' (their statements: YtoofkhghpdnkhajTotals.lean).
  GIVEN WITH THE SEED: the statements are not yours to turn. If you find one false, say at which input.
  Laid BY PROGRAM, IN A SANDBOX (cutbox-rows.mjs): the forced cells as the released guide's own fill.sh prints them over the translation 6d33873ca166e7a0… (all of the seat's roots in one cut). By AI agents, Wed Nov 11 2026. No macro, syntax, notation, axiom, sorry.
-/
import Derived.Test.YtoofkhghpdnkhajChecked
import GoSem.Claim
import GoSem.ClaimJoined
import GoSem.ClaimMapViews
import Derived.JoinedTies
import Derived.KernelRfl
namespace Go.Proofs.Ytoofkhghpdnkhaj
/- THE CELL 'sum', in the pinned program and in every row, IS THE sha256 OF THE DUMP (.gsa) THAT YtoofkhghpdnkhajProg.lean LOADS. Nothing in Lean hashes anything: it is a label: what it is worth is what the hold of that sum in a sandbox is worth. -/
noncomputable def Try.pinned : Pinned := { name := "ytoofkhghpdnkhaj", sum := "6d33873ca166e7a0b0475f1616415526a28ce17fa66c1a7e00dcb127863cfd73", checked := Try.checked }
namespace Rows
def none {H : Type} : Left H := { results := [], args := [] }

/-- 'laws.FnExactKernel': WHATEVER THE INPUT: true; the input reads as it did. -/
def fnExactKernelSpec : ChangeSpec := { name := "fnExactKernel", fn := fun _ => fun
  | [d] => { results := [.lit (.bool true)], args := [d] }
  | _ => none }
def fnExactKernelRow : OpenClaim := { program := "ytoofkhghpdnkhaj", sum := "6d33873ca166e7a0b0475f1616415526a28ce17fa66c1a7e00dcb127863cfd73", func := "loop.example/g00069/laws.FnExactKernel", spec := "fnExactKernel", unfollowed := true, recurses := true, apart := false }
def FnExactKernelSaid : Prop := fnExactKernelRow.holds Try.pinned (OpenSpec.ofChange fnExactKernelSpec)

/-- ITS FALSE NEIGHBOUR: 'it returns false'. Refute it at one input. -/
def fnExactKernelWrong : ChangeSpec := { name := "fnExactKernel", fn := fun _ => fun
  | [d] => { results := [.lit (.bool false)], args := [d] }
  | _ => none }
def FnExactKernelWrongFalsely : Prop := fnExactKernelRow.holds Try.pinned (OpenSpec.ofChange fnExactKernelWrong)

/-- 'laws.FnExactSolved': WHATEVER THE INPUT: true; the input reads as it did. -/
def fnExactSolvedSpec : ChangeSpec := { name := "fnExactSolved", fn := fun _ => fun
  | [d1, d2] => { results := [.lit (.bool true)], args := [d1, d2] }
  | _ => none }
def fnExactSolvedRow : OpenClaim := { program := "ytoofkhghpdnkhaj", sum := "6d33873ca166e7a0b0475f1616415526a28ce17fa66c1a7e00dcb127863cfd73", func := "loop.example/g00069/laws.FnExactSolved", spec := "fnExactSolved", unfollowed := true, recurses := true, apart := false }
def FnExactSolvedSaid : Prop := fnExactSolvedRow.holds Try.pinned (OpenSpec.ofChange fnExactSolvedSpec)

/-- ITS FALSE NEIGHBOUR: 'it returns false'. Refute it at one input. -/
def fnExactSolvedWrong : ChangeSpec := { name := "fnExactSolved", fn := fun _ => fun
  | [d1, d2] => { results := [.lit (.bool false)], args := [d1, d2] }
  | _ => none }
def FnExactSolvedWrongFalsely : Prop := fnExactSolvedRow.holds Try.pinned (OpenSpec.ofChange fnExactSolvedWrong)

/-- 'laws.FnExactDimOk': WHATEVER THE INPUT: true; the input reads as it did. -/
def fnExactDimOkSpec : ChangeSpec := { name := "fnExactDimOk", fn := fun _ => fun
  | [d] => { results := [.lit (.bool true)], args := [d] }
  | _ => none }
def fnExactDimOkRow : OpenClaim := { program := "ytoofkhghpdnkhaj", sum := "6d33873ca166e7a0b0475f1616415526a28ce17fa66c1a7e00dcb127863cfd73", func := "loop.example/g00069/laws.FnExactDimOk", spec := "fnExactDimOk", apart := false }
def FnExactDimOkSaid : Prop := fnExactDimOkRow.holds Try.pinned (OpenSpec.ofChange fnExactDimOkSpec)

/-- ITS FALSE NEIGHBOUR: 'it returns false'. Refute it at one input. -/
def fnExactDimOkWrong : ChangeSpec := { name := "fnExactDimOk", fn := fun _ => fun
  | [d] => { results := [.lit (.bool false)], args := [d] }
  | _ => none }
def FnExactDimOkWrongFalsely : Prop := fnExactDimOkRow.holds Try.pinned (OpenSpec.ofChange fnExactDimOkWrong)

/-- 'laws.FnExactDimTimes': WHATEVER THE INPUT: true; the input reads as it did. -/
def fnExactDimTimesSpec : ChangeSpec := { name := "fnExactDimTimes", fn := fun _ => fun
  | [d1, d2] => { results := [.lit (.bool true)], args := [d1, d2] }
  | _ => none }
def fnExactDimTimesRow : OpenClaim := { program := "ytoofkhghpdnkhaj", sum := "6d33873ca166e7a0b0475f1616415526a28ce17fa66c1a7e00dcb127863cfd73", func := "loop.example/g00069/laws.FnExactDimTimes", spec := "fnExactDimTimes", apart := false }
def FnExactDimTimesSaid : Prop := fnExactDimTimesRow.holds Try.pinned (OpenSpec.ofChange fnExactDimTimesSpec)

/-- ITS FALSE NEIGHBOUR: 'it returns false'. Refute it at one input. -/
def fnExactDimTimesWrong : ChangeSpec := { name := "fnExactDimTimes", fn := fun _ => fun
  | [d1, d2] => { results := [.lit (.bool false)], args := [d1, d2] }
  | _ => none }
def FnExactDimTimesWrongFalsely : Prop := fnExactDimTimesRow.holds Try.pinned (OpenSpec.ofChange fnExactDimTimesWrong)

/-- 'laws.FnExactDimPower': WHATEVER THE INPUT: true; the input reads as it did. -/
def fnExactDimPowerSpec : ChangeSpec := { name := "fnExactDimPower", fn := fun _ => fun
  | [d1, d2] => { results := [.lit (.bool true)], args := [d1, d2] }
  | _ => none }
def fnExactDimPowerRow : OpenClaim := { program := "ytoofkhghpdnkhaj", sum := "6d33873ca166e7a0b0475f1616415526a28ce17fa66c1a7e00dcb127863cfd73", func := "loop.example/g00069/laws.FnExactDimPower", spec := "fnExactDimPower", apart := false }
def FnExactDimPowerSaid : Prop := fnExactDimPowerRow.holds Try.pinned (OpenSpec.ofChange fnExactDimPowerSpec)

/-- ITS FALSE NEIGHBOUR: 'it returns false'. Refute it at one input. -/
def fnExactDimPowerWrong : ChangeSpec := { name := "fnExactDimPower", fn := fun _ => fun
  | [d1, d2] => { results := [.lit (.bool false)], args := [d1, d2] }
  | _ => none }
def FnExactDimPowerWrongFalsely : Prop := fnExactDimPowerRow.holds Try.pinned (OpenSpec.ofChange fnExactDimPowerWrong)

/- THE SECOND FORM. 'bulk': how many values and letters a reading holds, each counted each time it is reached (what is shared counts as often as it is met; a slice's spare places count too). A statement '..UptoSaid' is the law's where the arguments, and the package variables that the reading takes, are together of bulk at most 1048576: NARROWER than '..Said'. Prove '..Said' where nothing that the law and all that it calls make is longer than what came in: it says more and counts as full. Else prove '..UptoSaid'. A law counts once. -/
mutual
def uptoBulk {H : Type} : DataW H → Nat
  | .lit (.string bytes) => bytes.length + 1
  | .lit _ => 1
  | .nil => 1
  | .ptr d => uptoBulk d + 1
  | .slice elems spare => uptoBulkAll elems + uptoBulkAll spare + 1
  | .agg parts => uptoBulkAll parts + 1
  | .iface _ d => uptoBulk d + 1
  | .map entries => uptoBulkEntries entries + 1
  | .held _ => 1
def uptoBulkAll {H : Type} : List (DataW H) → Nat
  | [] => 0
  | d :: r => uptoBulk d + uptoBulkAll r
def uptoBulkEntries {H : Type} : List (Lit × DataW H) → Nat
  | [] => 0
  | x :: r => uptoBulkEntry x + uptoBulkEntries r
def uptoBulkEntry {H : Type} : Lit × DataW H → Nat
  | (.string bytes, d) => bytes.length + uptoBulk d + 1
  | (_, d) => uptoBulk d + 1
 end
def uptoSmall : (H : Type) → List (DataW H) → Bool := fun _ ds => decide (uptoBulkAll ds ≤ 1048576)
def OpenSpec.upto (s : _root_.Go.ChangeSpec) : _root_.Go.OpenSpec := { _root_.Go.OpenSpec.ofChange s with cond := some uptoSmall }

/-- 'laws.FnExactKernel', WHERE WHAT IT READS IS OF BULK AT MOST 1048576: true; the input reads as it did. -/
def fnExactKernelUptoRow : OpenClaim := { program := "ytoofkhghpdnkhaj", sum := "6d33873ca166e7a0b0475f1616415526a28ce17fa66c1a7e00dcb127863cfd73", func := "loop.example/g00069/laws.FnExactKernel", spec := "fnExactKernel", unfollowed := true, recurses := true, apart := false, narrowed := true }
def FnExactKernelUptoSaid : Prop := fnExactKernelUptoRow.holds Try.pinned (OpenSpec.upto fnExactKernelSpec)

/-- 'laws.FnExactSolved', WHERE WHAT IT READS IS OF BULK AT MOST 1048576: true; the input reads as it did. -/
def fnExactSolvedUptoRow : OpenClaim := { program := "ytoofkhghpdnkhaj", sum := "6d33873ca166e7a0b0475f1616415526a28ce17fa66c1a7e00dcb127863cfd73", func := "loop.example/g00069/laws.FnExactSolved", spec := "fnExactSolved", unfollowed := true, recurses := true, apart := false, narrowed := true }
def FnExactSolvedUptoSaid : Prop := fnExactSolvedUptoRow.holds Try.pinned (OpenSpec.upto fnExactSolvedSpec)

/-- 'laws.FnExactDimOk', WHERE WHAT IT READS IS OF BULK AT MOST 1048576: true; the input reads as it did. -/
def fnExactDimOkUptoRow : OpenClaim := { program := "ytoofkhghpdnkhaj", sum := "6d33873ca166e7a0b0475f1616415526a28ce17fa66c1a7e00dcb127863cfd73", func := "loop.example/g00069/laws.FnExactDimOk", spec := "fnExactDimOk", apart := false, narrowed := true }
def FnExactDimOkUptoSaid : Prop := fnExactDimOkUptoRow.holds Try.pinned (OpenSpec.upto fnExactDimOkSpec)

/-- 'laws.FnExactDimTimes', WHERE WHAT IT READS IS OF BULK AT MOST 1048576: true; the input reads as it did. -/
def fnExactDimTimesUptoRow : OpenClaim := { program := "ytoofkhghpdnkhaj", sum := "6d33873ca166e7a0b0475f1616415526a28ce17fa66c1a7e00dcb127863cfd73", func := "loop.example/g00069/laws.FnExactDimTimes", spec := "fnExactDimTimes", apart := false, narrowed := true }
def FnExactDimTimesUptoSaid : Prop := fnExactDimTimesUptoRow.holds Try.pinned (OpenSpec.upto fnExactDimTimesSpec)

/-- 'laws.FnExactDimPower', WHERE WHAT IT READS IS OF BULK AT MOST 1048576: true; the input reads as it did. -/
def fnExactDimPowerUptoRow : OpenClaim := { program := "ytoofkhghpdnkhaj", sum := "6d33873ca166e7a0b0475f1616415526a28ce17fa66c1a7e00dcb127863cfd73", func := "loop.example/g00069/laws.FnExactDimPower", spec := "fnExactDimPower", apart := false, narrowed := true }
def FnExactDimPowerUptoSaid : Prop := fnExactDimPowerUptoRow.holds Try.pinned (OpenSpec.upto fnExactDimPowerSpec)

end Rows
end Go.Proofs.Ytoofkhghpdnkhaj
