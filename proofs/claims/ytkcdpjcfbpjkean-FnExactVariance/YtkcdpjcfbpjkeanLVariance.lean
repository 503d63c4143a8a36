/- The walk of the law of Variance: both answers are the same, and the lists that were handed in stay. -/
import Derived.Test.YtkcdpjcfbpjkeanBudP7
import Derived.Test.YtkcdpjcfbpjkeanTabW4
import Derived.Test.YtkcdpjcfbpjkeanRatioW4
namespace Go.Proofs.Ytkcdpjcfbpjkean
open Go.RowKit Go.Proofs.Ytkcdpjcfbpjkean.RM

set_option maxRecDepth 100000 in
set_option maxHeartbeats 4000000 in
theorem lawVariance (v0 : Value) (a0 : List Fr) (v1 : Value) (a1 : List (List Fr)) (w : World) (h0 : RdR w v0 a0) (h1 : RdT w v1 a1) :
    Calls Try.prog 4 #[v0, v1] w fun e w' => e = .returned (.bool true) ∧ Below w.heap.size w w' := by
  have H0 : Hid (RdR w v0 a0) := h0
  have H1 : Hid (RdT w v1 a1) := h1
  clear h0 h1
  go_enter Try.func4, Try.ntmps4
  go_wp2_with fail
  refine (szS_any v0 a0 1048576 _ H0.out (by omega) (by omega)).mono ?_
  rintro e w0 ⟨rfl, hw⟩
  obtain rfl := hw.symm
  clear hw
  by_cases hs0 : 1048576 - (a0.length : Int) < 0
  · rw [if_pos hs0]
    go_wp2
    go_ret
    exact ⟨rfl, Below.refl _ _⟩
  rw [if_neg hs0]
  have lb0 : a0.length ≤ 1048576 := by omega
  obtain ⟨r0, hr0⟩ : ∃ x, x = 1048576 - (a0.length : Int) := ⟨_, rfl⟩
  have r00 : 0 ≤ r0 := by omega
  have r01 : r0 ≤ 1048576 := by omega
  rw [← hr0]
  have HT0 : Hid (∀ W : World, Below w.heap.size w W → Calls Try.prog 16 #[v0] W fun e w' => ∃ u, e = .returned u ∧ w'.ownsRow W.heap.size 32 2 u a0.length (cellsR a0) ∧ Below W.heap.size W w') := by
    intro W hW; exact toS_any v0 a0 W (H0.out.below hW) lb0
  clear hr0 hs0
  go_wp2_with fail
  refine (szT_any v1 a1 r0 _ H1.out r00 r01).mono ?_
  rintro e w0 ⟨r1, rfl, r11, hcase, hw⟩
  obtain rfl := hw.symm
  clear hw
  rcases hcase with hneg | ⟨r10, la11, la12⟩
  · go_wp2
    go_ret
    exact ⟨rfl, Below.refl _ _⟩
  have LA1 : Hid (a1.length ≤ 1048576 ∧ ∀ i, i < a1.length → (rw' a1 i).length ≤ 1048576) := ⟨la11, la12⟩
  have HT1 : Hid (∀ W : World, Below w.heap.size w W → Calls Try.prog 11 #[v1] W fun e w' => ∃ u us, e = .returned u ∧ Tab w' W.heap.size u us a1 ∧ Below W.heap.size W w') := by
    intro W hW; exact toT_any v1 a1 W (H1.out.below hW) la11 la12
  have b1 : (offN a1 a1.length : Int) ≤ 1099511627776 := by
    have := offN_le la12 a1.length (Nat.le_refl _)
    have : a1.length * 1048576 ≤ 1048576 * 1048576 := Nat.mul_le_mul_right _ la11
    omega
  clear la11 la12
  obtain ⟨A, hA⟩ : ∃ A, A = varA a0 a1 := ⟨_, rfl⟩
  obtain ⟨q, hq⟩ : ∃ q, q = varO a0 a1 := ⟨_, rfl⟩
  obtain ⟨f1, f2⟩ := A
  have HS : Hid (∀ (u0 u1 : Value) (W : World), RdR W u0 a0 → RdT W u1 a1 → Calls Try.prog 15 #[u0, u1] W fun e w' => e = .returned (.tuple #[.agg #[.int .i64 f1, .int .i64 f2], .bool q]) ∧ Below W.heap.size W w') := by
    intro u0 u1 W g0 g1; have := sVar_any u0 u1 a0 a1 W g0 g1; rw [← hA, ← hq] at this; exact this
  have HI : Hid (∀ (u0 u1 : Value) (W : World), RdR W u0 a0 → RdT W u1 a1 → Calls Try.prog 17 #[u0, u1] W fun e w' => e = .returned (.tuple #[.agg #[.int .i64 f1, .int .i64 f2], .bool q]) ∧ Below W.heap.size W w') := by
    intro u0 u1 W g0 g1; have := iVar_any u0 u1 a0 a1 W g0 g1; rw [← hA, ← hq] at this; exact this
  have e1 : (q != q) = false := by simp
  clear hA hq H0 H1
  go_wp2_with fail
  refine (HT0.out _ (Below.refl _ _)).mono ?_
  rintro e w2 ⟨c0, rfl, t, hb⟩
  have B1 := hb
  have hz_w2 := hb.size
  clear hb
  have C0 : Hid (w2.ownsRow w.heap.size 32 2 c0 a0.length (cellsR (a0))) := t
  have UC0 : Hid (∀ b, c0.ownBlock = some b → b < w2.heap.size) := fun b h => (t.lt b h).2
  clear t
  go_wp2_with fail
  refine (HT1.out _ B1).mono ?_
  rintro e w3 ⟨c1, c1s, rfl, t, hb⟩
  replace B1 := B1.trans (hb.mono B1.size)
  replace C0 : Hid (w3.ownsRow w.heap.size 32 2 c0 a0.length (cellsR (a0))) := own_below C0.out hb
  have hz_w3 := hb.size
  clear hb
  have C1 : Hid (Tab w3 w2.heap.size c1 c1s a1) := t
  have UC1 : Hid (Under w3.heap.size c1 c1s) := t.under
  clear t
  go_wp2_with fail
  refine (HS.out c0 c1 _ (RdR.own C0.out).1 (Tab.read C1.out)).mono ?_
  rintro e w4 ⟨rfl, hb⟩
  replace B1 := B1.trans (hb.mono B1.size)
  replace C1 : Hid (Tab w4 w2.heap.size c1 c1s a1) := Tab.below C1.out hb
  replace C0 : Hid (w4.ownsRow w.heap.size 32 2 c0 a0.length (cellsR (a0))) := own_below C0.out hb
  have hz_w4 := hb.size
  clear hb
  obtain ⟨QV0, hQV0⟩ : ∃ Q, Q = w4.heap.size := ⟨_, rfl⟩
  have EV0 : Hid (QV0 = w4.heap.size) := hQV0
  have hb : Below w4.heap.size w4 (w4.alloc (.cells #[.int .i64 f1, .int .i64 f2] 32)) := (Below.refl _ _).alloc (Nat.le_refl _) _
  replace B1 := B1.trans (hb.mono B1.size)
  replace C1 : Hid (Tab (w4.alloc (.cells #[.int .i64 f1, .int .i64 f2] 32)) w2.heap.size c1 c1s a1) := Tab.below C1.out hb
  replace C0 : Hid ((w4.alloc (.cells #[.int .i64 f1, .int .i64 f2] 32)).ownsRow w.heap.size 32 2 c0 a0.length (cellsR (a0))) := own_below C0.out hb
  have V0 : Hid (IsR (w4.alloc (.cells #[.int .i64 f1, .int .i64 f2] 32)) QV0 f1 f2) := by show IsR _ _ _ _; rw [hQV0]; exact IsR.new w4 f1 f2
  clear hb hQV0
  clear C0 UC0
  clear C1 UC1
  go_wp2_with fail
  refine (HT0.out _ B1).mono ?_
  rintro e w5 ⟨x0, rfl, t, hb⟩
  replace B1 := B1.trans (hb.mono B1.size)
  replace V0 : Hid (IsR w5 QV0 f1 f2) := IsR.below V0.out hb
  have hz_w5 := hb.size
  clear hb
  have X0 : Hid (w5.ownsRow (w4.alloc (.cells #[.int .i64 f1, .int .i64 f2] 32)).heap.size 32 2 x0 a0.length (cellsR (a0))) := t
  have UX0 : Hid (∀ b, x0.ownBlock = some b → b < w5.heap.size) := fun b h => (t.lt b h).2
  clear t
  go_wp2_with fail
  refine (HT1.out _ B1).mono ?_
  rintro e w6 ⟨x1, x1s, rfl, t, hb⟩
  replace B1 := B1.trans (hb.mono B1.size)
  replace X0 : Hid (w6.ownsRow (w4.alloc (.cells #[.int .i64 f1, .int .i64 f2] 32)).heap.size 32 2 x0 a0.length (cellsR (a0))) := own_below X0.out hb
  replace V0 : Hid (IsR w6 QV0 f1 f2) := IsR.below V0.out hb
  have hz_w6 := hb.size
  clear hb
  have X1 : Hid (Tab w6 w5.heap.size x1 x1s a1) := t
  have UX1 : Hid (Under w6.heap.size x1 x1s) := t.under
  clear t
  go_wp2_with fail
  refine (HI.out x0 x1 _ (RdR.own X0.out).1 (Tab.read X1.out)).mono ?_
  rintro e w7 ⟨rfl, hb⟩
  replace B1 := B1.trans (hb.mono B1.size)
  replace X1 : Hid (Tab w7 w5.heap.size x1 x1s a1) := Tab.below X1.out hb
  replace X0 : Hid (w7.ownsRow (w4.alloc (.cells #[.int .i64 f1, .int .i64 f2] 32)).heap.size 32 2 x0 a0.length (cellsR (a0))) := own_below X0.out hb
  replace V0 : Hid (IsR w7 QV0 f1 f2) := IsR.below V0.out hb
  have hz_w7 := hb.size
  clear hb
  obtain ⟨QG0, hQG0⟩ : ∃ Q, Q = w7.heap.size := ⟨_, rfl⟩
  have EG0 : Hid (QG0 = w7.heap.size) := hQG0
  have hb : Below w7.heap.size w7 (w7.alloc (.cells #[.int .i64 f1, .int .i64 f2] 32)) := (Below.refl _ _).alloc (Nat.le_refl _) _
  replace B1 := B1.trans (hb.mono B1.size)
  replace X1 : Hid (Tab (w7.alloc (.cells #[.int .i64 f1, .int .i64 f2] 32)) w5.heap.size x1 x1s a1) := Tab.below X1.out hb
  replace X0 : Hid ((w7.alloc (.cells #[.int .i64 f1, .int .i64 f2] 32)).ownsRow (w4.alloc (.cells #[.int .i64 f1, .int .i64 f2] 32)).heap.size 32 2 x0 a0.length (cellsR (a0))) := own_below X0.out hb
  replace V0 : Hid (IsR (w7.alloc (.cells #[.int .i64 f1, .int .i64 f2] 32)) QV0 f1 f2) := IsR.below V0.out hb
  have G0 : Hid (IsR (w7.alloc (.cells #[.int .i64 f1, .int .i64 f2] 32)) QG0 f1 f2) := by show IsR _ _ _ _; rw [hQG0]; exact IsR.new w7 f1 f2
  clear hb hQG0
  have z0 := V0.out.c0
  have z1 := V0.out.c1
  have z2 := G0.out.c0
  have z3 := G0.out.c1
  rw [EV0.out] at z0 z1
  rw [EG0.out] at z2 z3
  go_wp2_with fail
  refine (eq_same f1 f2 _).mono ?_
  rintro e w8 ⟨rfl, hb⟩
  clear z0 z1 z2 z3
  replace B1 := B1.trans (hb.mono B1.size)
  replace X1 : Hid (Tab w8 w5.heap.size x1 x1s a1) := Tab.below X1.out hb
  replace X0 : Hid (w8.ownsRow (w4.alloc (.cells #[.int .i64 f1, .int .i64 f2] 32)).heap.size 32 2 x0 a0.length (cellsR (a0))) := own_below X0.out hb
  replace V0 : Hid (IsR w8 QV0 f1 f2) := IsR.below V0.out hb
  replace G0 : Hid (IsR w8 QG0 f1 f2) := IsR.below G0.out hb
  have hz_w8 := hb.size
  clear hb
  go_wp2_with fail
  refine (HT0.out _ B1).mono ?_
  rintro e w9 ⟨y0, rfl, t, hb⟩
  replace B1 := B1.trans (hb.mono B1.size)
  replace X1 : Hid (Tab w9 w5.heap.size x1 x1s a1) := Tab.below X1.out hb
  replace X0 : Hid (w9.ownsRow (w4.alloc (.cells #[.int .i64 f1, .int .i64 f2] 32)).heap.size 32 2 x0 a0.length (cellsR (a0))) := own_below X0.out hb
  replace V0 : Hid (IsR w9 QV0 f1 f2) := IsR.below V0.out hb
  replace G0 : Hid (IsR w9 QG0 f1 f2) := IsR.below G0.out hb
  have hz_w9 := hb.size
  clear hb
  have Y0 : Hid (w9.ownsRow w8.heap.size 32 2 y0 a0.length (cellsR (a0))) := t
  have UY0 : Hid (∀ b, y0.ownBlock = some b → b < w9.heap.size) := fun b h => (t.lt b h).2
  clear t
  go_wp2_with fail
  refine (eqS_any x0 y0 a0 _ (RdR.own X0.out).1 (RdR.own Y0.out).1).mono ?_
  rintro e w10 ⟨rfl, hb⟩
  replace B1 := B1.trans (hb.mono B1.size)
  replace X1 : Hid (Tab w10 w5.heap.size x1 x1s a1) := Tab.below X1.out hb
  replace X0 : Hid (w10.ownsRow (w4.alloc (.cells #[.int .i64 f1, .int .i64 f2] 32)).heap.size 32 2 x0 a0.length (cellsR (a0))) := own_below X0.out hb
  replace Y0 : Hid (w10.ownsRow w8.heap.size 32 2 y0 a0.length (cellsR (a0))) := own_below Y0.out hb
  replace V0 : Hid (IsR w10 QV0 f1 f2) := IsR.below V0.out hb
  replace G0 : Hid (IsR w10 QG0 f1 f2) := IsR.below G0.out hb
  have hz_w10 := hb.size
  clear hb
  clear Y0 UY0
  go_wp2_with fail
  refine (HT1.out _ B1).mono ?_
  rintro e w11 ⟨y1, y1s, rfl, t, hb⟩
  replace B1 := B1.trans (hb.mono B1.size)
  replace X1 : Hid (Tab w11 w5.heap.size x1 x1s a1) := Tab.below X1.out hb
  replace X0 : Hid (w11.ownsRow (w4.alloc (.cells #[.int .i64 f1, .int .i64 f2] 32)).heap.size 32 2 x0 a0.length (cellsR (a0))) := own_below X0.out hb
  replace V0 : Hid (IsR w11 QV0 f1 f2) := IsR.below V0.out hb
  replace G0 : Hid (IsR w11 QG0 f1 f2) := IsR.below G0.out hb
  have hz_w11 := hb.size
  clear hb
  have Y1 : Hid (Tab w11 w10.heap.size y1 y1s a1) := t
  have UY1 : Hid (Under w11.heap.size y1 y1s) := t.under
  clear t
  go_wp2_with fail
  refine (eqT_any x1 y1 a1 _ (Tab.read X1.out) (Tab.read Y1.out)).mono ?_
  rintro e w12 ⟨rfl, hb⟩
  replace B1 := B1.trans (hb.mono B1.size)
  replace X1 : Hid (Tab w12 w5.heap.size x1 x1s a1) := Tab.below X1.out hb
  replace Y1 : Hid (Tab w12 w10.heap.size y1 y1s a1) := Tab.below Y1.out hb
  replace X0 : Hid (w12.ownsRow (w4.alloc (.cells #[.int .i64 f1, .int .i64 f2] 32)).heap.size 32 2 x0 a0.length (cellsR (a0))) := own_below X0.out hb
  replace V0 : Hid (IsR w12 QV0 f1 f2) := IsR.below V0.out hb
  replace G0 : Hid (IsR w12 QG0 f1 f2) := IsR.below G0.out hb
  have hz_w12 := hb.size
  clear hb
  clear Y1 UY1
  go_wp2
  go_ret
  exact ⟨rfl, B1⟩
end Go.Proofs.Ytkcdpjcfbpjkean
