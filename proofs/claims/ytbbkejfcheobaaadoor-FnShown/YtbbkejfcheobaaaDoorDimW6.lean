/- The walks of DimTimes, DimPower: the model's. -/
import Derived.Test.YtbbkejfcheobaaaDoorDimW5
import Derived.IntWalk
namespace Go.Proofs.YtbbkejfcheobaaaDoor
open Go.RowKit Go.Proofs.YtbbkejfcheobaaaDoor.RM

/-- the same, from a base on -/
def RowQ (base : Nat) (w : World) (rs : List Int) (x : Ending) (w' : World) : Prop := ∃ v et, x = .returned v ∧ w'.ownsRow base et 1 v rs.length (rs.map (Value.int .i64)) ∧ Below w.heap.size w w'

theorem zip_at (a b : List Int) (k : Nat) (ha : k < a.length) (hb : k < b.length) : (List.zipWith (· + ·) a b).take (k + 1) = (List.zipWith (· + ·) a b).take k ++ [a[k]?.getD 0 + b[k]?.getD 0] := by
  rw [List.take_add_one, List.getElem?_eq_getElem (by rw [List.length_zipWith]; omega)]
  simp [ha, hb]
theorem map_at (a : List Int) (n : Int) (k : Nat) (ha : k < a.length) : (a.map (· * n)).take (k + 1) = (a.map (· * n)).take k ++ [a[k]?.getD 0 * n] := by
  rw [List.take_add_one, List.getElem?_eq_getElem (by rw [List.length_map]; omega)]
  simp [ha]
theorem dim_at {ys : List Int} (h : dimB ys = true) : ys.length = 5 ∧ ∀ k, k < 5 → -9 ≤ ys[k]?.getD 0 ∧ ys[k]?.getD 0 ≤ 9 := by
  unfold dimB at h
  rw [Bool.and_eq_true, decide_eq_true_eq, List.all_eq_true] at h
  refine ⟨h.1, fun k hk => ?_⟩
  have hl : k < ys.length := by omega
  rw [List.getElem?_eq_getElem hl]
  exact in9_out (h.2 _ (List.getElem_mem hl))

end Go.Proofs.YtbbkejfcheobaaaDoor
