/- The walk of the heap's own order. -/
import Derived.Test.YthfdpdnphnjebaaHpW1
namespace Go.Proofs.Ythfdpdnphnjebaa
open Go.RowKit Go.Proofs.Ythfdpdnphnjebaa.RM

theorem ret_bH {a b : Bool} (h : a = b) : Ending.returned (.bool a) = .returned (.bool b) := by rw [h]
set_option maxRecDepth 100000 in
set_option maxHeartbeats 4000000 in
theorem iLessH_any (lo g c n i k : Nat) (es : List En) (w : World) (h : w.ownsRow lo 50 3 (.slice (some ⟨g, 0, none⟩) n c) n (cellsE es)) (hl : es.length = n) (hi : i < n) (hk : k < n) :
    Calls Try.prog 69 #[.slice (some ⟨g, 0, none⟩) n c, .int .i64 i, .int .i64 k] w fun e w' => e = .returned (.bool (lsE (er es i) (er es k))) ∧ Below w.heap.size w w' := by
  obtain ⟨a1, a2, a3⟩ := own_E h hl i hi
  obtain ⟨b1, b2, b3⟩ := own_E h hl k hk
  obtain ⟨x, hx⟩ : ∃ x, x = er es i := ⟨_, rfl⟩
  obtain ⟨y, hy⟩ : ∃ y, y = er es k := ⟨_, rfl⟩
  rw [← hx] at a1 a2 a3 ⊢
  rw [← hy] at b1 b2 b3 ⊢
  clear hx hy h hl
  obtain ⟨⟨x1, x2⟩, x3⟩ := x
  obtain ⟨⟨y1, y2⟩, y3⟩ := y
  dsimp only at a1 a2 a3 b1 b2 b3
  have HLT := hidH (fun W => iLess_any x1 x2 y1 y2 W)
  by_cases e0 : (x1, x2) = (y1, y2)
  · injection e0 with e1 e2
    subst e1 e2
    have HE : Hid (lsE ((x1, x2), x3) ((x1, x2), y3) = (!x3 && y3)) := if_pos rfl
    cases x3 <;> cases y3
    all_goals
      go_enter Try.func69, Try.ntmps69
      go_wp2
      go_region
      all_goals go_wp2
      all_goals go_ret
      all_goals exact ⟨ret_bH HE.out.symm, by first | exact Below.refl _ _ | exact (Below.refl _ _).drew | exact below_drewN (Below.refl _ _) _⟩
  · have HE : Hid (lsE ((x1, x2), x3) ((y1, y2), y3) = lessB x1 x2 y1 y2) := if_neg e0
    by_cases e1 : x1 = y1
    · subst e1
      have e2 : ¬ x2 = y2 := fun h => e0 (by rw [h])
      go_enter Try.func69, Try.ntmps69
      go_wp2
      go_region
      all_goals go_wp2
      all_goals go_region_with (go_at_call 14; refine (HLT.out _).mono ?_; rintro e w1 ⟨rfl, hb⟩; have B1 : Below w.heap.size w w1 := Below.trans (by first | exact Below.refl _ _ | exact (Below.refl _ _).drew | exact (Below.refl _ _).drew.drew | exact below_drewN (Below.refl _ _) _) (hb.mono (by simp)); clear hb)
      all_goals go_wp2
      all_goals go_ret
      all_goals exact ⟨ret_bH HE.out.symm, by first | exact B1 | exact B1.drew | exact below_drewN B1 _⟩
    ·
      go_enter Try.func69, Try.ntmps69
      go_wp2
      go_region
      all_goals go_wp2
      all_goals go_region_with (go_at_call 14; refine (HLT.out _).mono ?_; rintro e w1 ⟨rfl, hb⟩; have B1 : Below w.heap.size w w1 := Below.trans (by first | exact Below.refl _ _ | exact (Below.refl _ _).drew | exact (Below.refl _ _).drew.drew | exact below_drewN (Below.refl _ _) _) (hb.mono (by simp)); clear hb)
      all_goals go_wp2
      all_goals go_ret
      all_goals exact ⟨ret_bH HE.out.symm, by first | exact B1 | exact B1.drew | exact below_drewN B1 _⟩
end Go.Proofs.Ythfdpdnphnjebaa
