/- The walk of the law of SpotsOk: both answers are the same, and the list that was handed in stays. -/
import Derived.Test.YtibncepllmjhhaaFitP1
namespace Go.Proofs.Ytibncepllmjhhaa
open Go.RowKit Go.Proofs.Ytibncepllmjhhaa.RM

set_option maxRecDepth 100000 in
set_option maxHeartbeats 4000000 in
theorem lawSpotsOk (v0 : Value) (a0 : List Sp) (w : World) (h0 : RdS w v0 a0) :
    Calls Try.prog 3 #[v0] w fun e w' => e = .returned (.bool true) ∧ Below w.heap.size w w' := by
  have H0 : Hid (RdS w v0 a0) := h0
  clear h0
  have B1 : Below w.heap.size w w := Below.refl _ _
  go_enter Try.func3, Try.ntmps3
  go_wp2_with fail
  refine (szSp_any v0 a0 1048576 _ H0.out (by omega) (by omega)).mono ?_
  rintro e w0 ⟨rfl, hw⟩
  obtain rfl := hw.symm
  clear hw
  by_cases hs0 : 1048576 - (a0.length : Int) < 0
  · rw [if_pos hs0]
    go_wp2
    go_ret
    exact ⟨rfl, B1⟩
  rw [if_neg hs0]
  have lb0 : a0.length ≤ 1048576 := by omega
  obtain ⟨r0, hr0⟩ : ∃ x, x = 1048576 - (a0.length : Int) := ⟨_, rfl⟩
  have r00 : 0 ≤ r0 := by omega
  have r01 : r0 ≤ 1048576 := by omega
  rw [← hr0]
  have HT0 : Hid (∀ W : World, Below w.heap.size w W → Calls Try.prog 10 #[v0] W fun e w' => ∃ u, e = .returned u ∧ w'.ownsRow W.heap.size 51 4 u a0.length (cellsS a0) ∧ Below W.heap.size W w') := by
    intro W hW; exact toSpS_any v0 a0 W (H0.out.below hW) lb0
  clear hr0 hs0
  obtain ⟨q, hq⟩ : ∃ q, q = sptB a0 := ⟨_, rfl⟩
  have HS : Hid (∀ (u0 : Value) (W : World), RdS W u0 a0 → Calls Try.prog 9 #[u0] W fun e w' => e = .returned (.bool q) ∧ Below W.heap.size W w') := by
    intro u0 W g0; have := sSpo_any u0 a0 W g0; rw [← hq] at this; exact this
  have HI : Hid (∀ (u0 : Value) (W : World), RdS W u0 a0 → Calls Try.prog 11 #[u0] W fun e w' => e = .returned (.bool q) ∧ Below W.heap.size W w') := by
    intro u0 W g0; have := iSpo_any u0 a0 W g0; rw [← hq] at this; exact this
  have e1 : (q != q) = false := by simp
  clear hq H0
  go_wp2_with fail
  refine (HT0.out _ B1).mono ?_
  rintro e w2 ⟨c0, rfl, t, hb⟩
  replace B1 := B1.trans (hb.mono B1.size)
  have hz_w2 := hb.size
  clear hb
  have C0 : Hid (w2.ownsRow w.heap.size 51 4 c0 a0.length (cellsS (a0))) := t
  have UC0 : Hid (∀ b, c0.ownBlock = some b → b < w2.heap.size) := fun b h => (t.lt b h).2
  clear t
  go_wp2_with fail
  refine (HS.out c0 _ (RdS.own C0.out).1).mono ?_
  rintro e w3 ⟨rfl, hb⟩
  replace B1 := B1.trans (hb.mono B1.size)
  replace C0 : Hid (w3.ownsRow w.heap.size 51 4 c0 a0.length (cellsS (a0))) := own_below C0.out hb
  have hz_w3 := hb.size
  clear hb
  clear C0 UC0
  go_wp2_with fail
  refine (HT0.out _ B1).mono ?_
  rintro e w4 ⟨xx0, rfl, t, hb⟩
  replace B1 := B1.trans (hb.mono B1.size)
  have hz_w4 := hb.size
  clear hb
  have X0 : Hid (w4.ownsRow w3.heap.size 51 4 xx0 a0.length (cellsS (a0))) := t
  have UX0 : Hid (∀ b, xx0.ownBlock = some b → b < w4.heap.size) := fun b h => (t.lt b h).2
  clear t
  go_wp2_with fail
  refine (HI.out xx0 _ (RdS.own X0.out).1).mono ?_
  rintro e w5 ⟨rfl, hb⟩
  replace B1 := B1.trans (hb.mono B1.size)
  replace X0 : Hid (w5.ownsRow w3.heap.size 51 4 xx0 a0.length (cellsS (a0))) := own_below X0.out hb
  have hz_w5 := hb.size
  clear hb
  go_wp2_with fail
  refine (HT0.out _ B1).mono ?_
  rintro e w6 ⟨yy0, rfl, t, hb⟩
  replace B1 := B1.trans (hb.mono B1.size)
  replace X0 : Hid (w6.ownsRow w3.heap.size 51 4 xx0 a0.length (cellsS (a0))) := own_below X0.out hb
  have hz_w6 := hb.size
  clear hb
  have Y0 : Hid (w6.ownsRow w5.heap.size 51 4 yy0 a0.length (cellsS (a0))) := t
  have UY0 : Hid (∀ b, yy0.ownBlock = some b → b < w6.heap.size) := fun b h => (t.lt b h).2
  clear t
  go_wp2_with fail
  refine (eqSpS_any xx0 yy0 a0 _ (RdS.own X0.out).1 (RdS.own Y0.out).1).mono ?_
  rintro e w7 ⟨rfl, hb⟩
  replace B1 := B1.trans (hb.mono B1.size)
  replace X0 : Hid (w7.ownsRow w3.heap.size 51 4 xx0 a0.length (cellsS (a0))) := own_below X0.out hb
  replace Y0 : Hid (w7.ownsRow w5.heap.size 51 4 yy0 a0.length (cellsS (a0))) := own_below Y0.out hb
  have hz_w7 := hb.size
  clear hb
  clear Y0 UY0
  go_wp2
  go_ret
  exact ⟨rfl, B1⟩
end Go.Proofs.Ytibncepllmjhhaa
