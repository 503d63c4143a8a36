/- The walk of the law of CoverOk: both answers are the same, and the table that was handed in stays. -/
import Derived.Test.YtkcdpjcfbpjkeanBudP6
import Derived.Test.YtkcdpjcfbpjkeanTabW4
namespace Go.Proofs.Ytkcdpjcfbpjkean
open Go.RowKit Go.Proofs.Ytkcdpjcfbpjkean.RM

set_option maxRecDepth 100000 in
set_option maxHeartbeats 4000000 in
theorem lawCoverOk (v0 : Value) (a0 : List (List Fr)) (w : World) (h0 : RdT w v0 a0) :
    Calls Try.prog 3 #[v0] w fun e w' => e = .returned (.bool true) ∧ Below w.heap.size w w' := by
  have H0 : Hid (RdT w v0 a0) := h0
  clear h0
  go_enter Try.func3, Try.ntmps3
  go_wp2_with fail
  refine (szT_any v0 a0 1048576 _ H0.out (by omega) (by omega)).mono ?_
  rintro e w0 ⟨r0, rfl, r01, hcase, hw⟩
  obtain rfl := hw.symm
  clear hw
  rcases hcase with hneg | ⟨r00, la01, la02⟩
  · go_wp2
    go_ret
    exact ⟨rfl, Below.refl _ _⟩
  have LA0 : Hid (a0.length ≤ 1048576 ∧ ∀ i, i < a0.length → (rw' a0 i).length ≤ 1048576) := ⟨la01, la02⟩
  have HT0 : Hid (∀ W : World, Below w.heap.size w W → Calls Try.prog 11 #[v0] W fun e w' => ∃ u us, e = .returned u ∧ Tab w' W.heap.size u us a0 ∧ Below W.heap.size W w') := by
    intro W hW; exact toT_any v0 a0 W (H0.out.below hW) la01 la02
  have b0 : (offN a0 a0.length : Int) ≤ 1099511627776 := by
    have := offN_le la02 a0.length (Nat.le_refl _)
    have : a0.length * 1048576 ≤ 1048576 * 1048576 := Nat.mul_le_mul_right _ la01
    omega
  clear la01 la02
  obtain ⟨q, hq⟩ : ∃ q, q = covB a0 := ⟨_, rfl⟩
  have HS : Hid (∀ (u0 : Value) (W : World), RdT W u0 a0 → Calls Try.prog 10 #[u0] W fun e w' => e = .returned (.bool q) ∧ Below W.heap.size W w') := by
    intro u0 W g0; rw [hq]; exact sCov_any u0 a0 W g0
  have HI : Hid (∀ (u0 : Value) (W : World), RdT W u0 a0 → Calls Try.prog 12 #[u0] W fun e w' => e = .returned (.bool q) ∧ Below W.heap.size W w') := by
    intro u0 W g0; rw [hq]; exact iCov_any u0 a0 W g0
  have e1 : (q != q) = false := by simp
  clear hq H0
  go_wp2_with fail
  refine (HT0.out _ (Below.refl _ _)).mono ?_
  rintro e w2 ⟨c0, c0s, rfl, t, hb⟩
  have B1 := hb
  have hz_w2 := hb.size
  clear hb
  have C0 : Hid (Tab w2 w.heap.size c0 c0s a0) := t
  have UC0 : Hid (Under w2.heap.size c0 c0s) := t.under
  clear t
  go_wp2_with fail
  refine (HS.out c0 _ (Tab.read C0.out)).mono ?_
  rintro e w3 ⟨rfl, hb⟩
  replace B1 := B1.trans (hb.mono B1.size)
  replace C0 : Hid (Tab w3 w.heap.size c0 c0s a0) := Tab.below C0.out hb
  have hz_w3 := hb.size
  clear hb
  clear C0 UC0
  go_wp2_with fail
  refine (HT0.out _ B1).mono ?_
  rintro e w4 ⟨x0, x0s, rfl, t, hb⟩
  replace B1 := B1.trans (hb.mono B1.size)
  have hz_w4 := hb.size
  clear hb
  have X0 : Hid (Tab w4 w3.heap.size x0 x0s a0) := t
  have UX0 : Hid (Under w4.heap.size x0 x0s) := t.under
  clear t
  go_wp2_with fail
  refine (HI.out x0 _ (Tab.read X0.out)).mono ?_
  rintro e w5 ⟨rfl, hb⟩
  replace B1 := B1.trans (hb.mono B1.size)
  replace X0 : Hid (Tab w5 w3.heap.size x0 x0s a0) := Tab.below X0.out hb
  have hz_w5 := hb.size
  clear hb
  go_wp2_with fail
  refine (HT0.out _ B1).mono ?_
  rintro e w6 ⟨y0, y0s, rfl, t, hb⟩
  replace B1 := B1.trans (hb.mono B1.size)
  replace X0 : Hid (Tab w6 w3.heap.size x0 x0s a0) := Tab.below X0.out hb
  have hz_w6 := hb.size
  clear hb
  have Y0 : Hid (Tab w6 w5.heap.size y0 y0s a0) := t
  have UY0 : Hid (Under w6.heap.size y0 y0s) := t.under
  clear t
  go_wp2_with fail
  refine (eqT_any x0 y0 a0 _ (Tab.read X0.out) (Tab.read Y0.out)).mono ?_
  rintro e w7 ⟨rfl, hb⟩
  replace B1 := B1.trans (hb.mono B1.size)
  replace X0 : Hid (Tab w7 w3.heap.size x0 x0s a0) := Tab.below X0.out hb
  replace Y0 : Hid (Tab w7 w5.heap.size y0 y0s a0) := Tab.below Y0.out hb
  have hz_w7 := hb.size
  clear hb
  clear Y0 UY0
  go_wp2
  go_ret
  exact ⟨rfl, B1⟩
end Go.Proofs.Ytkcdpjcfbpjkean
