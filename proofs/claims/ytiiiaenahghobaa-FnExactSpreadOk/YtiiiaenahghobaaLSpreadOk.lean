/- The walk of the law of SpreadOk: both answers are the same, and the list that was handed in stays. -/
import Derived.Test.YtiiiaenahghobaaPtI1
namespace Go.Proofs.Ytiiiaenahghobaa
open Go.RowKit Go.Proofs.Ytiiiaenahghobaa.RM

theorem staySpreadOk {w w' : World} {x : Nat} {a b : Int} (hb : Below w.heap.size w w') (h : w.cell? ⟨x, 0, none⟩ = some (.int .i64 a) ∧ w.cell? ⟨x, 1, none⟩ = some (.int .i64 b)) : w'.cell? ⟨x, 0, none⟩ = some (.int .i64 a) ∧ w'.cell? ⟨x, 1, none⟩ = some (.int .i64 b) :=
  ⟨(hb.cell (p := ⟨x, 0, none⟩) (World.block_lt_of_cell? w _ h.1)).trans h.1, (hb.cell (p := ⟨x, 1, none⟩) (World.block_lt_of_cell? w _ h.2)).trans h.2⟩
set_option maxRecDepth 100000 in
set_option maxHeartbeats 4000000 in
theorem lawSpreadOk (v0 : Value) (a0 : List Fr) (w : World) (h0 : RdR w v0 a0) :
    Calls Try.prog 3 #[v0] w fun e w' => e = .returned (.bool true) ∧ Below w.heap.size w w' := by
  have H0 : Hid (RdR w v0 a0) := h0
  clear h0
  have B1 : Below w.heap.size w w := Below.refl _ _
  go_enter Try.func3, Try.ntmps3
  go_wp2_with fail
  refine (szQ_any v0 a0 1048576 _ (H0.out.below B1) (by omega) (by omega)).mono ?_
  rintro e w0 ⟨rfl, hw⟩
  obtain rfl := hw.symm
  clear hw
  by_cases hs0 : 1048576 - (a0.length : Int) < 0
  · rw [if_pos hs0]
    go_wp2
    go_ret
    exact ⟨rfl, B1⟩
  rw [if_neg hs0]
  have lb0 : a0.length ≤ 1048576 := by omega
  obtain ⟨r0, hr0⟩ : ∃ x, x = 1048576 - (a0.length : Int) := ⟨_, rfl⟩
  have r00 : 0 ≤ r0 := by omega
  have r01 : r0 ≤ 1048576 := by omega
  rw [← hr0]
  have HT0 : Hid (∀ W : World, Below w.heap.size w W → Calls Try.prog 11 #[v0] W fun e w' => ∃ u, e = .returned u ∧ w'.ownsRow W.heap.size 44 2 u a0.length (cellsR a0) ∧ Below W.heap.size W w') := by
    intro W hW; exact toQ_any v0 a0 W (H0.out.below hW) lb0
  clear hr0 hs0
  obtain ⟨q, hq⟩ : ∃ q, q = sprB a0 := ⟨_, rfl⟩
  have HS : Hid (∀ (u0 : Value) (W : World), RdR W u0 a0 → Calls Try.prog 10 #[u0] W fun e w' => e = .returned (.bool q) ∧ Below W.heap.size W w') := by
    intro u0 W g0; have := sSpr_any u0 a0 W g0; rw [← hq] at this; exact this
  have HI : Hid (∀ (u0 : Value) (W : World), RdR W u0 a0 → Calls Try.prog 12 #[u0] W fun e w' => e = .returned (.bool q) ∧ Below W.heap.size W w') := by
    intro u0 W g0; have := iSpr_any u0 a0 W g0; rw [← hq] at this; exact this
  have e1 : (q != q) = false := by simp
  clear hq H0
  go_wp2_with fail
  refine (HT0.out _ B1).mono ?_
  rintro e w2 ⟨c0, rfl, t, hb⟩
  replace B1 := B1.trans (hb.mono B1.size)
  have hz_w2 := hb.size
  clear hb
  have C0 : Hid (w2.ownsRow w.heap.size 44 2 c0 a0.length (cellsR (a0))) := t
  have UC0 : Hid (∀ b, c0.ownBlock = some b → b < w2.heap.size) := fun b h => (t.lt b h).2
  clear t
  go_wp2_with fail
  refine (HS.out c0 _ (RdR.ownQ C0.out).1).mono ?_
  rintro e w3 ⟨rfl, hb⟩
  replace B1 := B1.trans (hb.mono B1.size)
  replace C0 : Hid (w3.ownsRow w.heap.size 44 2 c0 a0.length (cellsR (a0))) := own_below C0.out hb
  have hz_w3 := hb.size
  clear hb
  clear C0 UC0
  go_wp2_with fail
  refine (HT0.out _ B1).mono ?_
  rintro e w4 ⟨xx0, rfl, t, hb⟩
  replace B1 := B1.trans (hb.mono B1.size)
  have hz_w4 := hb.size
  clear hb
  have X0 : Hid (w4.ownsRow w3.heap.size 44 2 xx0 a0.length (cellsR (a0))) := t
  have UX0 : Hid (∀ b, xx0.ownBlock = some b → b < w4.heap.size) := fun b h => (t.lt b h).2
  clear t
  go_wp2_with fail
  refine (HI.out xx0 _ (RdR.ownQ X0.out).1).mono ?_
  rintro e w5 ⟨rfl, hb⟩
  replace B1 := B1.trans (hb.mono B1.size)
  replace X0 : Hid (w5.ownsRow w3.heap.size 44 2 xx0 a0.length (cellsR (a0))) := own_below X0.out hb
  have hz_w5 := hb.size
  clear hb
  go_wp2_with fail
  refine (HT0.out _ B1).mono ?_
  rintro e w6 ⟨yy0, rfl, t, hb⟩
  replace B1 := B1.trans (hb.mono B1.size)
  replace X0 : Hid (w6.ownsRow w3.heap.size 44 2 xx0 a0.length (cellsR (a0))) := own_below X0.out hb
  have hz_w6 := hb.size
  clear hb
  have Y0 : Hid (w6.ownsRow w5.heap.size 44 2 yy0 a0.length (cellsR (a0))) := t
  have UY0 : Hid (∀ b, yy0.ownBlock = some b → b < w6.heap.size) := fun b h => (t.lt b h).2
  clear t
  go_wp2_with fail
  refine (eqQ_any xx0 yy0 a0 _ (RdR.ownQ X0.out).1 (RdR.ownQ Y0.out).1).mono ?_
  rintro e w7 ⟨rfl, hb⟩
  replace B1 := B1.trans (hb.mono B1.size)
  replace X0 : Hid (w7.ownsRow w3.heap.size 44 2 xx0 a0.length (cellsR (a0))) := own_below X0.out hb
  replace Y0 : Hid (w7.ownsRow w5.heap.size 44 2 yy0 a0.length (cellsR (a0))) := own_below Y0.out hb
  have hz_w7 := hb.size
  clear hb
  clear Y0 UY0
  go_wp2
  go_ret
  exact ⟨rfl, B1⟩
end Go.Proofs.Ytiiiaenahghobaa
