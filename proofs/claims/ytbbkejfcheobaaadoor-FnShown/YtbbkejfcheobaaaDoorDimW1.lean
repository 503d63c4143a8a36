/- The walks of the program's dimensions: arrays of five numbers that are compared; the model's. -/
import Derived.Test.YtbbkejfcheobaaaDoorRowsI
import Derived.Test.YtbbkejfcheobaaaDoorDimMath
import Derived.Laws.CopyOwn
import Derived.Deep.DeepMust
import Derived.Deep.RegionWith
import Derived.ChangeKeysEq
namespace Go.Proofs.YtbbkejfcheobaaaDoor
open Go.RowKit Go.Proofs.YtbbkejfcheobaaaDoor.RM

theorem hidD {p : Prop} (h : p) : Hid p := h
/-- a number within -9 and 9 -/
def cl (x : Int) : Int := if -9 < (if x < 9 then x else 9) then (if x < 9 then x else 9) else -9
/-- five numbers as an array's value; a block that holds them -/
def arr (a b c d e : Int) : Array Value := #[.int .i64 a, .int .i64 b, .int .i64 c, .int .i64 d, .int .i64 e]
theorem infoI2 : Tryd.prog.info? 2 = some (Tryd.prog.info? 2).get! := by kernel_rfl
theorem cellsI : Tryd.prog.cellsOf 2 = 1 := by kernel_rfl
theorem plainI : Tryd.prog.plainKey 2 = true := by kernel_rfl
theorem part1 {x0 x1 x2 x3 x4 : Int} {w : World} : (part 2 (arr x0 x1 x2 x3 x4) 0).run Tryd.prog w = .ok (.int .i64 x0) w ∧ (part 2 (arr x0 x1 x2 x3 x4) 1).run Tryd.prog w = .ok (.int .i64 x1) w ∧ (part 2 (arr x0 x1 x2 x3 x4) 2).run Tryd.prog w = .ok (.int .i64 x2) w ∧ (part 2 (arr x0 x1 x2 x3 x4) 3).run Tryd.prog w = .ok (.int .i64 x3) w ∧ (part 2 (arr x0 x1 x2 x3 x4) 4).run Tryd.prog w = .ok (.int .i64 x4) w :=
  ⟨run_part_plain w plainI rfl, run_part_plain w plainI rfl, run_part_plain w plainI rfl, run_part_plain w plainI rfl, run_part_plain w plainI rfl⟩
/-- the first k of them turned -/
def pt (f : Int → Int) (j k : Nat) (x : Int) : Int := if j < k then f x else x
/-- are all five within -9 and 9 -/
def lim5 (a b c d e : Int) : Bool := a == cl a && (b == cl b && (c == cl c && (d == cl d && e == cl e)))
/-- both of them, the first k added -/
def pt2 (f : Int → Int → Int) (j k : Nat) (x y : Int) : Int := if j < k then f x y else x
end Go.Proofs.YtbbkejfcheobaaaDoor
