/- The walk of the law of Floor: both answers are the same. -/
import Derived.Test.YtcjeclipcpifaahFloorW
namespace Go.Proofs.Ytcjeclipcpifaah
open Go.RowKit Go.Proofs.Ytcjeclipcpifaah.RM

theorem toR_any (n d : Int) (w : World) :
    Calls Try.prog 5 #[.agg #[.int .i64 n, .int .i64 d]] w fun e w' => e = .returned (.agg #[.int .i64 n, .int .i64 d]) ∧ Below w.heap.size w w' := by
  go_enter Try.func5, Try.ntmps5
  go_wp2
  refine bodyPost_ret (v := .agg #[.int .i64 n, .int .i64 d]) (by simp [results, Try.results5, go_sem]) rfl ⟨rfl, ?_⟩
  repeat (first | exact Below.refl _ _ | (refine Below.setCell ?_ (by simp <;> omega) _) | (refine Below.alloc ?_ (by simp <;> omega) _))

set_option maxHeartbeats 800000 in
theorem lawFloor (a b : Int) (w : World) :
    Calls Try.prog 3 #[.agg #[.int .i64 a, .int .i64 b]] w fun e w' => e = .returned (.bool true) ∧ Below w.heap.size w w' := by
  have hok : (floI a b != floI a b) = false := by simp
  go_enter Try.func3, Try.ntmps3
  go_wp2_with fail
  refine (toR_any _ _ _).mono ?_
  rintro e w1 ⟨rfl, hb1⟩
  have B1 : Below w.heap.size w w1 := ((Below.refl _ _).alloc (Nat.le_refl _) _).trans (hb1.mono (by simp))
  have c0 : w1.cell? ⟨w.heap.size, 0, none⟩ = some (.int .i64 a) := by
    rw [(bcell hb1).1 _ _ (by simp)]; simp [go_sem]
  have c1 : w1.cell? ⟨w.heap.size, 1, none⟩ = some (.int .i64 b) := by
    rw [(bcell hb1).1 _ _ (by simp)]; simp [go_sem]
  clear hb1
  go_wp2_with fail
  refine (sFloor_any _ _ _).mono ?_
  rintro e w2 ⟨rfl, hb2⟩
  have B2 := B1.trans (hb2.mono B1.size)
  have d0 := cell_later hb2 c0
  have d1 := cell_later hb2 c1
  clear c0 c1 hb2
  go_wp2_with fail
  refine (toR_any _ _ _).mono ?_
  rintro e w3 ⟨rfl, hb3⟩
  have B3 := B2.trans (hb3.mono B2.size)
  clear d0 d1 hb3
  go_wp2_with fail
  refine (iFloor_any _ _ _).mono ?_
  rintro e w4 ⟨rfl, hb4⟩
  have B4 := B3.trans (hb4.mono B3.size)
  clear hb4
  go_wp2
  go_ret
  exact ⟨rfl, B4⟩
end Go.Proofs.Ytcjeclipcpifaah
