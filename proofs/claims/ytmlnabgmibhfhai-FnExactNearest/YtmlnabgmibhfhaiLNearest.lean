/- The walk of the law of Nearest: both answers are the same. -/
import Derived.Test.YtmlnabgmibhfhaiNearI
import Derived.Test.YtmlnabgmibhfhaiRatioW4
namespace Go.Proofs.Ytmlnabgmibhfhai
open Go.RowKit Go.Proofs.Ytmlnabgmibhfhai.RM

theorem toR_near (n d : Int) (w : World) :
    Calls Try.prog 7 #[.agg #[.int .i64 n, .int .i64 d]] w fun e w' => e = .returned (.agg #[.int .i64 n, .int .i64 d]) ∧ Below w.heap.size w w' := by
  go_enter Try.func7, Try.ntmps7
  go_wp2
  exact bodyPost_ret (v := .agg #[.int .i64 n, .int .i64 d]) (by simp [results, Try.results7, go_sem]) rfl ⟨rfl, (((Below.refl _ _).alloc (Nat.le_refl _) _).alloc (by simp) _).alloc (by simp <;> omega) _⟩
theorem stay2 {w w' : World} {x : Nat} {a b : Int} (hb : Below w.heap.size w w') (h : w.cell? ⟨x, 0, none⟩ = some (.int .i64 a) ∧ w.cell? ⟨x, 1, none⟩ = some (.int .i64 b)) : w'.cell? ⟨x, 0, none⟩ = some (.int .i64 a) ∧ w'.cell? ⟨x, 1, none⟩ = some (.int .i64 b) :=
  ⟨(hb.cell (p := ⟨x, 0, none⟩) (World.block_lt_of_cell? w _ h.1)).trans h.1, (hb.cell (p := ⟨x, 1, none⟩) (World.block_lt_of_cell? w _ h.2)).trans h.2⟩

set_option maxRecDepth 100000 in
set_option maxHeartbeats 2000000 in
theorem lawNearest (a b m : Int) (w : World) :
    Calls Try.prog 3 #[.agg #[.int .i64 a, .int .i64 b], .int .i64 m] w fun e w' => e = .returned (.bool true) ∧ Below w.heap.size w w' := by
  have HS : Hid (∀ u : World, Calls Try.prog 6 #[.agg #[.int .i64 a, .int .i64 b], .int .i64 m] u fun e w' => e = .returned (.tuple #[.agg #[.int .i64 (nrN a b m), .int .i64 (nrD a b m)], .bool (nrB a b m)]) ∧ Below u.heap.size u w') := fun u => sNear_any a b m u
  have HI : Hid (∀ u : World, Calls Try.prog 8 #[.agg #[.int .i64 a, .int .i64 b], .int .i64 m] u fun e w' => e = .returned (.tuple #[.agg #[.int .i64 (nrN a b m), .int .i64 (nrD a b m)], .bool (nrB a b m)]) ∧ Below u.heap.size u w') := fun u => iNear_any a b m u
  generalize nrN a b m = qn at *
  generalize nrD a b m = qd at *
  generalize nrB a b m = qo at *
  have eq1 : (qo != qo) = false := by simp
  go_enter Try.func3, Try.ntmps3
  go_wp2_with fail
  have k0 : (w.alloc (.cells #[.int .i64 a, .int .i64 b] 23)).cell? ⟨w.heap.size, 0, none⟩ = some (.int .i64 a) ∧ (w.alloc (.cells #[.int .i64 a, .int .i64 b] 23)).cell? ⟨w.heap.size, 1, none⟩ = some (.int .i64 b) := by simp [go_sem]
  refine (toR_near _ _ _).mono ?_
  rintro e w1 ⟨rfl, hb⟩
  have B1 : Below w.heap.size w w1 := ((Below.refl _ _).alloc (Nat.le_refl _) _).trans (hb.mono (by simp))
  have k1 := stay2 hb k0
  clear hb k0
  go_wp2_with fail
  refine (HS.out _).mono ?_
  rintro e w2 ⟨rfl, hb⟩
  have B2 := B1.trans (hb.mono B1.size)
  have k2 := stay2 hb k1
  have hl := World.block_lt_of_cell? w2 _ k2.1
  clear hb k1 B1
  obtain ⟨X, hX⟩ : ∃ X, X = w2.heap.size := ⟨_, rfl⟩
  obtain ⟨w3, hw3⟩ : ∃ w3, w3 = w2.alloc (.cells #[.int .i64 qn, .int .i64 qd] 24) := ⟨_, rfl⟩
  have r3 : IsR w3 X qn qd := by rw [hw3, hX]; exact IsR.new w2 qn qd
  have B3 : Below w.heap.size w w3 := by rw [hw3]; exact B2.alloc B2.size _
  have k3 : w3.cell? ⟨w.heap.size, 0, none⟩ = some (.int .i64 a) ∧ w3.cell? ⟨w.heap.size, 1, none⟩ = some (.int .i64 b) := by rw [hw3]; exact stay2 (below_alR _ (Below.refl _ _)) k2
  obtain ⟨c0, c1⟩ := k2
  go_wp2_with fail
  rw [← hX, ← hw3]
  clear hX hw3 B2 c0 c1 hl
  refine (toR_near _ _ _).mono ?_
  rintro e w4 ⟨rfl, hb⟩
  have B4 := B3.trans (hb.mono B3.size)
  have r4 := r3.below hb
  clear hb r3 k3 B3
  go_wp2_with fail
  refine (HI.out _).mono ?_
  rintro e w5 ⟨rfl, hb⟩
  have B5 := B4.trans (hb.mono B4.size)
  have r5 := r4.below hb
  have c0 := r5.c0
  have c1 := r5.c1
  have hXl := r5.lt
  clear hb r4 B4
  go_wp2_with fail
  refine (eq_same _ _ _).mono ?_
  rintro e w6 ⟨rfl, hb⟩
  have B6 := (B5.alloc B5.size (.cells #[.int .i64 qn, .int .i64 qd] 24)).trans (hb.mono (by have := B5.size; simp; omega))
  clear hb
  go_wp2
  go_ret
  exact ⟨rfl, B6⟩
end Go.Proofs.Ytmlnabgmibhfhai
