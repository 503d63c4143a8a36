/- The walk of the law of Reduced: both answers are the same. -/
import Derived.Test.YtcjeclipcpifaagRatioW5
namespace Go.Proofs.Ytcjeclipcpifaag
open Go.RowKit Go.Proofs.Ytcjeclipcpifaag.RM

set_option maxHeartbeats 800000 in
theorem lawReduced (n d : Int) (w : World) :
    Calls Try.prog 3 #[.int .i64 n, .int .i64 d] w fun e w' => e = .returned (.bool true) ∧ Below w.heap.size w w' := by
  have hok : (redOk n d != redOk n d) = false := by simp
  go_enter Try.func3, Try.ntmps3
  go_wp2_with fail
  refine (sRed_any _ _ _).mono ?_
  rintro e w1 ⟨rfl, hbl⟩
  go_wp2_with fail
  refine (iRed_any _ _ _).mono ?_
  rintro e w2 ⟨rfl, hbl2⟩
  have hz2 : w1.heap.size < w2.heap.size := by (have := hbl2.size; simp at this; omega)
  have B2 : Below w.heap.size w w2 := (hbl.alloc hbl.size _).trans (hbl2.mono (by have := hbl.size; simp <;> omega))
  have c0 : w2.cell? ⟨w1.heap.size, 0, none⟩ = some (.int .i64 (redN n d)) := by
    rw [(bcell hbl2).1 _ _ (by simp <;> omega)]; simp [go_sem]
  have c1 : w2.cell? ⟨w1.heap.size, 1, none⟩ = some (.int .i64 (redD n d)) := by
    rw [(bcell hbl2).1 _ _ (by simp <;> omega)]; simp [go_sem]
  have hz1 := hbl.size
  clear hbl2 hbl
  go_wp2_with fail
  refine (eq_same _ _ _).mono ?_
  rintro e w3 ⟨rfl, hbl3⟩
  have B3 : Below w.heap.size w w3 := (B2.alloc B2.size _).trans (hbl3.mono (by have := B2.size; simp <;> omega))
  go_wp2
  go_ret
  exact ⟨rfl, B3⟩
end Go.Proofs.Ytcjeclipcpifaag
