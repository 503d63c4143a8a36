/- The walk of the law of ShowRatio. -/
import Derived.Test.YtoofkhghpdnkhahDoorStrW2
namespace Go.Proofs.YtoofkhghpdnkhahDoor
open Go.RowKit Go.Proofs.YtoofkhghpdnkhahDoor.RM

theorem toRatioS_any (n d : Int) (w : World) :
    Calls Tryd.prog 6 #[.agg #[.int .i64 n, .int .i64 d]] w fun e w' => e = .returned (.agg #[.int .i64 n, .int .i64 d]) ∧ Below w.heap.size w w' := by
  go_enter Tryd.func6, Tryd.ntmps6
  go_wp2
  refine bodyPost_ret (v := .agg #[.int .i64 n, .int .i64 d]) (by simp [results, Tryd.results6, go_sem]) rfl ⟨rfl, ?_⟩
  repeat (first | exact Below.refl _ _ | (refine Below.setCell ?_ (by simp <;> omega) _) | (refine Below.alloc ?_ (by simp <;> omega) _))

set_option maxRecDepth 100000 in
set_option maxHeartbeats 1000000 in
theorem lawShow (n d : Int) (w : World) (hP : Pow w.heap.size w) :
    Calls Tryd.prog 3 #[.agg #[.int .i64 n, .int .i64 d]] w fun e w' => e = .returned (.bool true) ∧ Below w.heap.size w w' := by
  have b0 : ∀ (u : World) (o : Obj), Below u.heap.size u (u.alloc o) := fun u o => (Below.refl _ _).alloc (Nat.le_refl _) o
  obtain ⟨S, hS⟩ : ∃ S, S = (ByteArray.mk (shw n d).toArray) := ⟨_, rfl⟩
  have HP := hidS hP
  have HS : Hid (∀ W : World, Calls Tryd.prog 5 #[.agg #[.int .i64 n, .int .i64 d]] W fun e w' => e = .returned (.string S) ∧ Below W.heap.size W w') := by intro W; rw [hS]; exact sShow_any n d W
  have HI : Hid (∀ W : World, Below w.heap.size w W → Calls Tryd.prog 7 #[.agg #[.int .i64 n, .int .i64 d]] W fun e w' => e = .returned (.string S) ∧ Below W.heap.size W w') := by intro W hW; rw [hS]; exact iShow_any n d w.heap.size W (HP.out.below hW) hW.size
  clear hP hS
  go_enter Tryd.func3, Tryd.ntmps3
  go_upto_region 1 with fail
  obtain ⟨X, hX⟩ : ∃ X, X = w.alloc (.cells #[.int .i64 n, .int .i64 d] 23) := ⟨_, rfl⟩
  obtain ⟨Z, hZ⟩ : ∃ Z, Z = w.heap.size := ⟨_, rfl⟩
  have c0 : X.cell? ⟨Z, 0, none⟩ = some (.int .i64 n) := by rw [hX, hZ]; simp [go_sem]
  have c1 : X.cell? ⟨Z, 1, none⟩ = some (.int .i64 d) := by rw [hX, hZ]; simp [go_sem]
  have HB : Hid (Below w.heap.size w X) := by show Below _ _ _; rw [hX]; exact b0 _ _
  rw [← hX, ← hZ]
  clear hX hZ
  go_wp2_with fail
  refine (toRatioS_any n d _).mono ?_
  rintro e w1 ⟨rfl, hb⟩
  replace c0 := cell_later hb c0
  replace c1 := cell_later hb c1
  replace HB := hidS (HB.out.trans (hb.mono HB.out.size))
  clear hb
  go_wp2_with fail
  refine (HS.out _).mono ?_
  rintro e w2 ⟨rfl, hb⟩
  replace c0 := cell_later hb c0
  replace c1 := cell_later hb c1
  replace HB := hidS (HB.out.trans (hb.mono HB.out.size))
  clear hb
  go_wp2_with fail
  refine (toRatioS_any n d _).mono ?_
  rintro e w3 ⟨rfl, hb⟩
  replace HB := hidS (HB.out.trans (hb.mono HB.out.size))
  clear hb
  go_wp2_with fail
  refine (HI.out _ HB.out).mono ?_
  rintro e w4 ⟨rfl, hb⟩
  replace HB := hidS (HB.out.trans (hb.mono HB.out.size))
  clear hb
  go_wp2
  go_ret
  exact ⟨rfl, HB.out⟩
end Go.Proofs.YtoofkhghpdnkhahDoor
