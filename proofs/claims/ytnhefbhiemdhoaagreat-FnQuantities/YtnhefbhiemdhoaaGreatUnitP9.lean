/- What the program tells of a unit text: UnitOf, Dims, the zero of degrees. -/
import Derived.Test.YtnhefbhiemdhoaaGreatUnitP8
import Derived.Test.YtnhefbhiemdhoaaGreatUnitR
namespace Go.Proofs.YtnhefbhiemdhoaaGreat
open Go.RowKit Go.MapKept Go.Proofs.YtnhefbhiemdhoaaGreat.RM

/-- what is told of a unit text -/
def unitT (l : List UInt8) : Int × Int × List Int × Bool := told ((unitI l).getD .zero, (unitI l).isSome)

theorem zeroOf_any (s : ByteArray) (w : World) :
    Calls Tryz.prog 58 #[.string s] w fun e w' => e = .returned (.agg #[.int .i64 (if s.data.toList = [67] then 5463 else 0), .int .i64 (if s.data.toList = [67] then 20 else 1)]) ∧ Below w.heap.size w w' := by
  have b0 : ∀ (u : World) (o : Obj), Below u.heap.size u (u.alloc o) := fun u o => (Below.refl _ _).alloc (Nat.le_refl _) o
  by_cases h : s.data.toList = [67]
  · have hy : s.toList = [67] := by rw [ByteArray.toList_eq]; exact h
    rw [if_pos h, if_pos h]
    clear h
    go_enter Tryz.func58, Tryz.ntmps58
    go_wp2
    exact bodyPost_ret (v := .agg #[.int .i64 5463, .int .i64 20]) (by simp [results, Tryz.results58, go_sem]) rfl ⟨rfl, b0 _ _⟩
  · have hy : (s.toList == [67]) = false := beq_eq_false_iff_ne.2 (by rw [ByteArray.toList_eq]; exact h)
    rw [if_neg h, if_neg h]
    clear h
    go_enter Tryz.func58, Tryz.ntmps58
    go_wp2
    exact bodyPost_ret (v := .agg #[.int .i64 0, .int .i64 1]) (by simp [results, Tryz.results58, go_sem]) rfl ⟨rfl, b0 _ _⟩
end Go.Proofs.YtnhefbhiemdhoaaGreat
