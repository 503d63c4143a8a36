/- What is drawn from the bytes: one fraction, two of them, small right ones. -/
import Derived.Test.YtbbkejfcheobaaaDoorDrawW3
import Derived.Deep.RegionHeld3
import Derived.Deep.DeepCutAuto
namespace Go.Proofs.YtbbkejfcheobaaaDoor
open Go.RowKit Go.Proofs.YtbbkejfcheobaaaDoor.RM

set_option maxHeartbeats 800000 in
theorem dRatio_any (a : Option Addr) (len cap : Nat) (zs : List Int) (w : World) (hr : IsRow .u8 w a len cap zs) :
    Calls Tryd.prog 12 #[.slice a len cap] w fun e w' => ∃ n d : Int, e = .returned (.agg #[.int .i64 n, .int .i64 d]) ∧ Below w.heap.size w w' := by
  have HR : Hid (IsRow .u8 (w.alloc (.cells #[.int .i64 0, .int .i64 0] 25)) a len cap zs) := hr.below ((Below.refl _ _).alloc (Nat.le_refl _) _)
  clear hr
  go_enter Tryd.func12, Tryd.ntmps12
  go_wp2_with fail
  refine (new_any a len cap zs _ HR.out).mono ?_
  rintro e w1 ⟨rfl, hC1, hB1, hs1⟩
  have B1 : Below w.heap.size w w1 := ((Below.refl _ _).alloc (Nat.le_refl _) _).trans (hB1.mono (by simp))
  have rc0 : w1.cell? ⟨w.heap.size, 0, none⟩ = some (.int .i64 0) := by refine cell_later hB1 ?_; simp [go_sem]
  have rc1 : w1.cell? ⟨w.heap.size, 1, none⟩ = some (.int .i64 0) := by refine cell_later hB1 ?_; simp [go_sem]
  have rf0 : w1.frozen? ⟨w.heap.size, 0, none⟩ = false := by refine frozen_later (v := .int .i64 0) hB1 ?_ ?_ <;> simp [go_sem]
  have rf1 : w1.frozen? ⟨w.heap.size, 1, none⟩ = false := by refine frozen_later (v := .int .i64 0) hB1 ?_ ?_ <;> simp [go_sem]
  obtain ⟨cb, hcb⟩ : ∃ cb, cb = (w.alloc (.cells #[.int .i64 0, .int .i64 0] 25)).heap.size := ⟨_, rfl⟩
  have hcb2 : w.heap.size < cb := by rw [hcb]; simp
  rw [← hcb] at hC1 ⊢
  have HC : Hid (Cur w1 cb a len cap zs) := hC1
  clear hC1 hB1 hs1 hcb HR
  go_wp2_with fail
  refine (drawAny_any cb a len cap zs _ HC.out).mono ?_
  rintro e w2 ⟨n, d, rfl, hC2, hE2⟩
  have B2 : Below w.heap.size w w2 := Ex.below B1 hE2 (by omega)
  replace rf0 := hE2.frozen rc0 rf0 (by omega)
  replace rf1 := hE2.frozen rc1 rf1 (by omega)
  replace rc0 := hE2.cell rc0 (by omega)
  replace rc1 := hE2.cell rc1 (by omega)
  have r0 : ((w2.setCell ⟨w.heap.size, 0, none⟩ (.int .i64 n)).setCell ⟨w.heap.size, 1, none⟩ (.int .i64 d)).cell? ⟨w.heap.size, 0, none⟩ = some (.int .i64 n) := (new2 rc0 rc1).1
  have r1 : ((w2.setCell ⟨w.heap.size, 0, none⟩ (.int .i64 n)).setCell ⟨w.heap.size, 1, none⟩ (.int .i64 d)).cell? ⟨w.heap.size, 1, none⟩ = some (.int .i64 d) := (new2 rc0 rc1).2
  clear hC2 hE2 HC
  go_wp2
  exact bodyPost_ret (v := .agg #[.int .i64 n, .int .i64 d]) (by simp [results, Tryd.results12, go_sem, r0, r1]) rfl ⟨_, _, rfl, (B2.setCell (Nat.le_refl _) _).setCell (Nat.le_refl _) _⟩

theorem big_any (a : Option Addr) (len cap : Nat) (w : World) :
    Calls Tryd.prog 4 #[.slice a len cap] w fun e w' => e = .returned (.bool (decide (4096 < (len : Int)))) ∧ w' = w := by
  by_cases h : 4096 < (len : Int)
  · rw [decide_eq_true h]
    go_enter Tryd.func4, Tryd.ntmps4
    go_wp2
    go_ret
    exact ⟨rfl, rfl⟩
  · rw [decide_eq_false h]
    go_enter Tryd.func4, Tryd.ntmps4
    go_wp2
    go_ret
    exact ⟨rfl, rfl⟩

end Go.Proofs.YtbbkejfcheobaaaDoor
