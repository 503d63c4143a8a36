/- The walk of the law of Convergents: both answers are the same list, the program's in memory of its own. -/
import Derived.Test.YtmlnabgmibhfhahConvW
import Derived.Test.YtmlnabgmibhfhahLTerms
namespace Go.Proofs.Ytmlnabgmibhfhah
open Go.RowKit Go.Proofs.Ytmlnabgmibhfhah.RM

set_option maxRecDepth 100000 in
set_option maxHeartbeats 2000000 in
theorem lawConvergents (a b : Int) (w : World) :
    Calls Try.prog 6 #[.agg #[.int .i64 a, .int .i64 b]] w fun e w' => e = .returned (.bool true) ∧ Below w.heap.size w w' := by
  obtain ⟨n, hn0⟩ : ∃ n, n = (termsL a b).length := ⟨_, rfl⟩
  obtain ⟨zs, hzs⟩ : ∃ zs, zs = convs (termsL a b) n := ⟨_, rfl⟩
  have hn : zs.length = n := by rw [hzs, convs_len]
  have hn2 : n ≤ 1000000000 := by rw [hn0]; exact termsL_len a b
  have HS : Hid (∀ u : World, Calls Try.prog 19 #[.agg #[.int .i64 a, .int .i64 b]] u fun e w' => ∃ v, e = .returned v ∧ w'.ownsRow u.heap.size 25 2 v n (cellsR zs) ∧ Below u.heap.size u w') := by
    intro u; have := sConv_any a b u; rw [← hn0, ← hzs] at this; exact this
  have HI : Hid (∀ u : World, Calls Try.prog 20 #[.agg #[.int .i64 a, .int .i64 b]] u fun e w' => ∃ v, e = .returned v ∧ w'.ownsRow u.heap.size 25 2 v n (cellsR zs) ∧ Below u.heap.size u w') := by
    intro u; have := iConv_any a b u; rw [← hn0, ← hzs] at this; exact this
  have HN : Hid (zs.length = n) := hn
  clear hzs hn hn0
  go_enter Try.func6, Try.ntmps6
  go_wp2_with fail
  refine (toR_any a b _).mono ?_
  rintro e w1 ⟨rfl, hb⟩
  have B1 : Below w.heap.size w w1 := ((Below.refl _ _).alloc (Nat.le_refl _) _).trans (hb.mono (by simp))
  obtain ⟨k0, k1⟩ := keep2 (x := w.heap.size) (a := a) (b := b) hb ⟨by simp [go_sem], by simp [go_sem]⟩
  clear hb
  go_wp2_with fail
  refine (HS.out _).mono ?_
  rintro e w2 ⟨v0, rfl, o0, hb⟩
  have B2 := B1.trans (hb.mono B1.size)
  obtain ⟨k0', k1'⟩ := keep2 hb ⟨k0, k1⟩
  have L0 : Hid (∀ k, v0.ownBlock = some k → k < w2.heap.size) := fun k hk => (o0.lt k hk).2
  have O0 : Hid (w2.ownsRow w1.heap.size 25 2 v0 n (cellsR zs)) := o0
  clear hb k0 k1 o0
  go_wp2_with fail
  refine (toR_any a b _).mono ?_
  rintro e w3 ⟨rfl, hb⟩
  have B3 := B2.trans (hb.mono B2.size)
  obtain ⟨k0, k1⟩ := keep2 hb ⟨k0', k1'⟩
  have L1 : Hid (∀ k, v0.ownBlock = some k → k < w3.heap.size) := fun k hk => Nat.lt_of_lt_of_le (L0.out k hk) hb.size
  replace O0 : Hid (w3.ownsRow w1.heap.size 25 2 v0 n (cellsR zs)) := own_below O0.out hb
  clear hb k0' k1' L0
  go_wp2_with fail
  refine (HI.out _).mono ?_
  rintro e w4 ⟨v1, rfl, o1, hb⟩
  have B4 := B3.trans (hb.mono B3.size)
  obtain ⟨k0', k1'⟩ := keep2 hb ⟨k0, k1⟩
  have hw3 : w.heap.size ≤ w3.heap.size := B3.size
  have hlt : w.heap.size < w3.heap.size := World.block_lt_of_cell? w3 _ k0
  have HW3 : Hid (w3.heap.size ≤ w4.heap.size) := hb.size
  replace O0 : Hid (w4.ownsRow w1.heap.size 25 2 v0 n (cellsR zs)) := own_below O0.out hb
  have O1 : Hid (w4.ownsRow w3.heap.size 25 2 v1 n (cellsR zs)) := o1
  clear hb k0 k1 o1
  go_wp2_with fail
  refine (eqR_same v1 v0 zs n _ _ _ HN.out hn2 O1.out O0.out).mono ?_
  rintro e w5 ⟨rfl, hb⟩
  have B5 : Below w.heap.size w w5 := B4.trans (hb.mono B4.size)
  obtain ⟨k0, k1⟩ := keep2 hb ⟨k0', k1'⟩
  replace O0 : Hid (w5.ownsRow w1.heap.size 25 2 v0 n (cellsR zs)) := own_below O0.out hb
  replace O1 : Hid (w5.ownsRow w3.heap.size 25 2 v1 n (cellsR zs)) := own_below O1.out hb
  replace HW3 : Hid (w3.heap.size ≤ w5.heap.size) := Nat.le_trans HW3.out hb.size
  clear hb k0' k1'
  go_wp2_with fail
  refine (markR_any v1 zs n _ _ HN.out hn2 O1.out).mono ?_
  rintro e w6 ⟨rfl, o1, hg⟩
  have hb6 : Below w3.heap.size w5 w6 := below_grown O1.out (Nat.le_refl _) HW3.out hg
  have B6 : Below w.heap.size w w6 := B5.trans (hb6.mono hw3)
  replace O0 : Hid (w6.ownsRow w1.heap.size 25 2 v0 n (cellsR zs)) := own_apart O0.out O1.out L1.out hg
  replace O1 : Hid (w6.ownsRow w3.heap.size 25 2 v1 n (cellsR (mrkR zs n))) := o1
  have k0' : w6.cell? ⟨w.heap.size, 0, none⟩ = some (.int .i64 a) := (hb6.cell (p := ⟨w.heap.size, 0, none⟩) hlt).trans k0
  have k1' : w6.cell? ⟨w.heap.size, 1, none⟩ = some (.int .i64 b) := (hb6.cell (p := ⟨w.heap.size, 1, none⟩) hlt).trans k1
  clear hb6 hg o1 k0 k1
  go_wp2_with fail
  refine (heldR_any v1 zs n _ _ HN.out hn2 O1.out).mono ?_
  rintro e w7 ⟨rfl, m7, hw7⟩
  have hb : Below w6.heap.size w6 w7 := by rw [hw7]; exact below_drewN (Below.refl _ _) _
  have B7 := B6.trans (hb.mono B6.size)
  obtain ⟨k0, k1⟩ := keep2 hb ⟨k0', k1'⟩
  replace O0 : Hid (w7.ownsRow w1.heap.size 25 2 v0 n (cellsR zs)) := own_below O0.out hb
  replace O1 : Hid (w7.ownsRow w3.heap.size 25 2 v1 n (cellsR (mrkR zs n))) := own_below O1.out hb
  clear hw7 hb k0' k1'
  have hne : ((1 + 2 * (n : Int)) != (1 + 2 * (n : Int))) = false := by simp
  go_wp2_with fail
  refine (toR_any a b _).mono ?_
  rintro e w8 ⟨rfl, hb⟩
  have B8 := B7.trans (hb.mono B7.size)
  replace O0 : Hid (w8.ownsRow w1.heap.size 25 2 v0 n (cellsR zs)) := own_below O0.out hb
  replace O1 : Hid (w8.ownsRow w3.heap.size 25 2 v1 n (cellsR (mrkR zs n))) := own_below O1.out hb
  clear hb k0 k1
  go_wp2_with fail
  refine (HI.out _).mono ?_
  rintro e w9 ⟨v2, rfl, o2, hb⟩
  have B9 := B8.trans (hb.mono B8.size)
  replace O0 : Hid (w9.ownsRow w1.heap.size 25 2 v0 n (cellsR zs)) := own_below O0.out hb
  replace O1 : Hid (w9.ownsRow w3.heap.size 25 2 v1 n (cellsR (mrkR zs n))) := own_below O1.out hb
  have O2 : Hid (w9.ownsRow w8.heap.size 25 2 v2 n (cellsR zs)) := o2
  clear hb o2
  go_wp2_with fail
  refine (eqR_same v2 v0 zs n _ _ _ HN.out hn2 O2.out O0.out).mono ?_
  rintro e w10 ⟨rfl, hb⟩
  have B10 : Below w.heap.size w w10 := B9.trans (hb.mono B9.size)
  replace O1 : Hid (w10.ownsRow w3.heap.size 25 2 v1 n (cellsR (mrkR zs n))) := own_below O1.out hb
  clear hb O0 O2
  go_wp2_with fail
  refine (heldR_any v1 zs n _ _ HN.out hn2 O1.out).mono ?_
  rintro e w11 ⟨rfl, m11, hw11⟩
  have B11 : Below w.heap.size w w11 := by rw [hw11]; exact below_drewN B10 _
  clear hw11
  go_wp2
  go_ret
  exact ⟨rfl, B11⟩
end Go.Proofs.Ytmlnabgmibhfhah
