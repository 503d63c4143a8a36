/- The walk of the law of ReadRatio. -/
import Derived.Test.YtoofkhghpdnkhahDoorReadW4
namespace Go.Proofs.YtoofkhghpdnkhahDoor
open Go.RowKit Go.Proofs.YtoofkhghpdnkhahDoor.RM

theorem eqR_same (n d : Int) (w : World) :
    Calls Tryd.prog 10 #[.agg #[.int .i64 n, .int .i64 d], .agg #[.int .i64 n, .int .i64 d]] w fun e w' => e = .returned (.bool true) ∧ Below w.heap.size w w' := by
  have e1 : (n != n) = false := by simp
  have e2 : (d != d) = false := by simp
  go_enter Tryd.func10, Tryd.ntmps10
  go_wp2
  go_ret
  exact ⟨rfl, ((Below.refl _ _).alloc (Nat.le_refl _) _).alloc (by simp <;> omega) _⟩

set_option maxRecDepth 100000 in
set_option maxHeartbeats 1000000 in
theorem lawRead (s : ByteArray) (w : World) (hP : Pow w.heap.size w) (hE : Errs w.heap.size w) :
    Calls Tryd.prog 4 #[.string s] w fun e w' => e = .returned (.bool true) ∧ Below w.heap.size w w' := by
  have b0 : ∀ (u : World) (o : Obj), Below u.heap.size u (u.alloc o) := fun u o => (Below.refl _ _).alloc (Nat.le_refl _) o
  by_cases hs : s.size ≤ 1048576
  · have hsi : ¬ (1048576 : Int) < s.size := by omega
    obtain ⟨R, hR⟩ : ∃ R, R = rdI s.data.toList := ⟨_, rfl⟩
    have HS : Hid (∀ W : World, Calls Tryd.prog 8 #[.string s] W fun e w' => e = .returned (.tuple #[.agg #[.int .i64 R.1, .int .i64 R.2.1], .bool R.2.2]) ∧ Below W.heap.size W w') := by intro W; rw [hR]; exact sRead_any s W hs
    have HI : Hid (∀ W : World, Below w.heap.size w W → Calls Tryd.prog 9 #[.string s] W fun e w' => e = .returned (.tuple #[.agg #[.int .i64 R.1, .int .i64 R.2.1], .bool R.2.2]) ∧ Below W.heap.size W w') := by
      intro W hW
      rw [hR]
      have := iRead_any s.data.toList w.heap.size W (hP.below hW) (hE.below hW) hW.size (by rw [len_s]; exact hs)
      rw [show (ByteArray.mk s.data.toList.toArray) = s from by rw [Array.toArray_toList]] at this
      exact this
    obtain ⟨n, d, r⟩ := R
    simp only at HS HI
    clear hP hE hR
    go_enter Tryd.func4, Tryd.ntmps4
    go_wp2_with fail
    refine (HS.out _).mono ?_
    rintro e w1 ⟨rfl, hb⟩
    have HB : Hid (Below w.heap.size w w1) := hb
    clear hb
    go_upto_region 4 with fail
    obtain ⟨X, hX⟩ : ∃ X, X = w1.alloc (.cells #[.int .i64 n, .int .i64 d] 25) := ⟨_, rfl⟩
    obtain ⟨Z, hZ⟩ : ∃ Z, Z = w1.heap.size := ⟨_, rfl⟩
    have c0 : X.cell? ⟨Z, 0, none⟩ = some (.int .i64 n) := by rw [hX, hZ]; simp [go_sem]
    have c1 : X.cell? ⟨Z, 1, none⟩ = some (.int .i64 d) := by rw [hX, hZ]; simp [go_sem]
    replace HB := hidS (HB.out.trans (show Below w.heap.size w1 X by rw [hX]; exact (b0 _ _).mono HB.out.size))
    rw [← hX, ← hZ]
    clear hX hZ
    go_wp2_with fail
    refine (HI.out _ HB.out).mono ?_
    rintro e w2 ⟨rfl, hb⟩
    replace c0 := cell_later hb c0
    replace c1 := cell_later hb c1
    replace HB := hidS (HB.out.trans (hb.mono HB.out.size))
    clear hb
    go_upto_region 5 with fail
    obtain ⟨X, hX⟩ : ∃ X, X = w2.alloc (.cells #[.int .i64 n, .int .i64 d] 25) := ⟨_, rfl⟩
    obtain ⟨Z2, hZ⟩ : ∃ Z, Z = w2.heap.size := ⟨_, rfl⟩
    have d0 : X.cell? ⟨Z2, 0, none⟩ = some (.int .i64 n) := by rw [hX, hZ]; simp [go_sem]
    have d1 : X.cell? ⟨Z2, 1, none⟩ = some (.int .i64 d) := by rw [hX, hZ]; simp [go_sem]
    have hb : Below w2.heap.size w2 X := by rw [hX]; exact b0 _ _
    replace c0 := cell_later hb c0
    replace c1 := cell_later hb c1
    replace HB := hidS (HB.out.trans (hb.mono HB.out.size))
    rw [← hX, ← hZ]
    clear hX hZ hb
    go_wp2_with fail
    refine (eqR_same n d _).mono ?_
    rintro e w3 ⟨rfl, hb⟩
    replace HB := hidS (HB.out.trans (hb.mono HB.out.size))
    clear hb
    have hr : (r != r) = false := by simp
    go_wp2
    go_ret
    exact ⟨rfl, HB.out⟩
  · have hsi : (1048576 : Int) < s.size := by omega
    go_enter Tryd.func4, Tryd.ntmps4
    go_wp2
    go_ret
    exact ⟨rfl, Below.refl _ _⟩
end Go.Proofs.YtoofkhghpdnkhahDoor
