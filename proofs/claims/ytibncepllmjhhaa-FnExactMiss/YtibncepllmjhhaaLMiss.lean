/- The walk of the law of Miss: both answers are the same, and the lists that were handed in stay. -/
import Derived.Test.YtibncepllmjhhaaFitP4
import Derived.Test.YtibncepllmjhhaaTabW4
import Derived.Test.YtibncepllmjhhaaRatioW4
namespace Go.Proofs.Ytibncepllmjhhaa
open Go.RowKit Go.Proofs.Ytibncepllmjhhaa.RM

set_option maxRecDepth 100000 in
set_option maxHeartbeats 4000000 in
theorem lawMiss (v0 : Value) (a0 : List Fr) (v1 : Value) (a1 : List Sp) (w : World) (h0 : RdR w v0 a0) (h1 : RdS w v1 a1) :
    Calls Try.prog 5 #[v0, v1] w fun e w' => e = .returned (.bool true) ∧ Below w.heap.size w w' := by
  have H0 : Hid (RdR w v0 a0) := h0
  have H1 : Hid (RdS w v1 a1) := h1
  clear h0 h1
  have B1 : Below w.heap.size w w := Below.refl _ _
  go_enter Try.func5, Try.ntmps5
  go_wp2_with fail
  refine (szS_any v0 a0 1048576 _ H0.out (by omega) (by omega)).mono ?_
  rintro e w0 ⟨rfl, hw⟩
  obtain rfl := hw.symm
  clear hw
  by_cases hs0 : 1048576 - (a0.length : Int) < 0
  · rw [if_pos hs0]
    go_wp2
    go_ret
    exact ⟨rfl, B1⟩
  rw [if_neg hs0]
  have lb0 : a0.length ≤ 1048576 := by omega
  obtain ⟨r0, hr0⟩ : ∃ x, x = 1048576 - (a0.length : Int) := ⟨_, rfl⟩
  have r00 : 0 ≤ r0 := by omega
  have r01 : r0 ≤ 1048576 := by omega
  rw [← hr0]
  have HT0 : Hid (∀ W : World, Below w.heap.size w W → Calls Try.prog 15 #[v0] W fun e w' => ∃ u, e = .returned u ∧ w'.ownsRow W.heap.size 33 2 u a0.length (cellsR a0) ∧ Below W.heap.size W w') := by
    intro W hW; exact toS_any v0 a0 W (H0.out.below hW) lb0
  clear hr0 hs0
  go_wp2_with fail
  refine (szSp_any v1 a1 r0 _ H1.out r00 r01).mono ?_
  rintro e w0 ⟨rfl, hw⟩
  obtain rfl := hw.symm
  clear hw
  by_cases hs1 : r0 - (a1.length : Int) < 0
  · rw [if_pos hs1]
    go_wp2
    go_ret
    exact ⟨rfl, B1⟩
  rw [if_neg hs1]
  have lb1 : a1.length ≤ 1048576 := by omega
  obtain ⟨r1, hr1⟩ : ∃ x, x = r0 - (a1.length : Int) := ⟨_, rfl⟩
  have r10 : 0 ≤ r1 := by omega
  have r11 : r1 ≤ 1048576 := by omega
  rw [← hr1]
  have HT1 : Hid (∀ W : World, Below w.heap.size w W → Calls Try.prog 10 #[v1] W fun e w' => ∃ u, e = .returned u ∧ w'.ownsRow W.heap.size 51 4 u a1.length (cellsS a1) ∧ Below W.heap.size W w') := by
    intro W hW; exact toSpS_any v1 a1 W (H1.out.below hW) lb1
  clear hr1 hs1
  obtain ⟨A, hA⟩ : ∃ A, A = misA a0 a1 := ⟨_, rfl⟩
  obtain ⟨q, hq⟩ : ∃ q, q = misO a0 a1 := ⟨_, rfl⟩
  obtain ⟨f1, f2⟩ := A
  have HS : Hid (∀ (u0 u1 : Value) (W : World), RdR W u0 a0 → RdS W u1 a1 → Calls Try.prog 20 #[u0, u1] W fun e w' => e = .returned (.tuple #[.agg #[.int .i64 f1, .int .i64 f2], .bool q]) ∧ Below W.heap.size W w') := by
    intro u0 u1 W g0 g1; have := sMiss_any u0 u1 a0 a1 W g0 g1; rw [← hA, ← hq] at this; exact this
  have HI : Hid (∀ (u0 u1 : Value) (W : World), RdR W u0 a0 → RdS W u1 a1 → Calls Try.prog 21 #[u0, u1] W fun e w' => e = .returned (.tuple #[.agg #[.int .i64 f1, .int .i64 f2], .bool q]) ∧ Below W.heap.size W w') := by
    intro u0 u1 W g0 g1; have := iMiss_any u0 u1 a0 a1 W g0 g1; rw [← hA, ← hq] at this; exact this
  have e1 : (q != q) = false := by simp
  clear hA hq H0 H1
  go_wp2_with fail
  refine (HT0.out _ B1).mono ?_
  rintro e w2 ⟨c0, rfl, t, hb⟩
  replace B1 := B1.trans (hb.mono B1.size)
  have hz_w2 := hb.size
  clear hb
  have C0 : Hid (w2.ownsRow w.heap.size 33 2 c0 a0.length (cellsR (a0))) := t
  have UC0 : Hid (∀ b, c0.ownBlock = some b → b < w2.heap.size) := fun b h => (t.lt b h).2
  clear t
  go_wp2_with fail
  refine (HT1.out _ B1).mono ?_
  rintro e w3 ⟨c1, rfl, t, hb⟩
  replace B1 := B1.trans (hb.mono B1.size)
  replace C0 : Hid (w3.ownsRow w.heap.size 33 2 c0 a0.length (cellsR (a0))) := own_below C0.out hb
  have hz_w3 := hb.size
  clear hb
  have C1 : Hid (w3.ownsRow w2.heap.size 51 4 c1 a1.length (cellsS (a1))) := t
  have UC1 : Hid (∀ b, c1.ownBlock = some b → b < w3.heap.size) := fun b h => (t.lt b h).2
  clear t
  go_wp2_with fail
  refine (HS.out c0 c1 _ (RdR.own C0.out).1 (RdS.own C1.out).1).mono ?_
  rintro e w4 ⟨rfl, hb⟩
  replace B1 := B1.trans (hb.mono B1.size)
  replace C0 : Hid (w4.ownsRow w.heap.size 33 2 c0 a0.length (cellsR (a0))) := own_below C0.out hb
  replace C1 : Hid (w4.ownsRow w2.heap.size 51 4 c1 a1.length (cellsS (a1))) := own_below C1.out hb
  have hz_w4 := hb.size
  clear hb
  obtain ⟨QV0, hQV0⟩ : ∃ Q, Q = w4.heap.size := ⟨_, rfl⟩
  have EV0 : Hid (QV0 = w4.heap.size) := hQV0
  have hb : Below w4.heap.size w4 (w4.alloc (.cells #[.int .i64 f1, .int .i64 f2] 33)) := (Below.refl _ _).alloc (Nat.le_refl _) _
  replace B1 := B1.trans (hb.mono B1.size)
  replace C0 : Hid ((w4.alloc (.cells #[.int .i64 f1, .int .i64 f2] 33)).ownsRow w.heap.size 33 2 c0 a0.length (cellsR (a0))) := own_below C0.out hb
  replace C1 : Hid ((w4.alloc (.cells #[.int .i64 f1, .int .i64 f2] 33)).ownsRow w2.heap.size 51 4 c1 a1.length (cellsS (a1))) := own_below C1.out hb
  have V0 : Hid (IsR (w4.alloc (.cells #[.int .i64 f1, .int .i64 f2] 33)) QV0 f1 f2) := by show IsR _ _ _ _; rw [hQV0]; exact IsR.new w4 f1 f2
  clear hb hQV0
  clear C0 UC0
  clear C1 UC1
  go_wp2_with fail
  refine (HT0.out _ B1).mono ?_
  rintro e w5 ⟨xx0, rfl, t, hb⟩
  replace B1 := B1.trans (hb.mono B1.size)
  replace V0 : Hid (IsR w5 QV0 f1 f2) := IsR.below V0.out hb
  have hz_w5 := hb.size
  clear hb
  have X0 : Hid (w5.ownsRow (w4.alloc (.cells #[.int .i64 f1, .int .i64 f2] 33)).heap.size 33 2 xx0 a0.length (cellsR (a0))) := t
  have UX0 : Hid (∀ b, xx0.ownBlock = some b → b < w5.heap.size) := fun b h => (t.lt b h).2
  clear t
  go_wp2_with fail
  refine (HT1.out _ B1).mono ?_
  rintro e w6 ⟨xx1, rfl, t, hb⟩
  replace B1 := B1.trans (hb.mono B1.size)
  replace X0 : Hid (w6.ownsRow (w4.alloc (.cells #[.int .i64 f1, .int .i64 f2] 33)).heap.size 33 2 xx0 a0.length (cellsR (a0))) := own_below X0.out hb
  replace V0 : Hid (IsR w6 QV0 f1 f2) := IsR.below V0.out hb
  have hz_w6 := hb.size
  clear hb
  have X1 : Hid (w6.ownsRow w5.heap.size 51 4 xx1 a1.length (cellsS (a1))) := t
  have UX1 : Hid (∀ b, xx1.ownBlock = some b → b < w6.heap.size) := fun b h => (t.lt b h).2
  clear t
  go_wp2_with fail
  refine (HI.out xx0 xx1 _ (RdR.own X0.out).1 (RdS.own X1.out).1).mono ?_
  rintro e w7 ⟨rfl, hb⟩
  replace B1 := B1.trans (hb.mono B1.size)
  replace X0 : Hid (w7.ownsRow (w4.alloc (.cells #[.int .i64 f1, .int .i64 f2] 33)).heap.size 33 2 xx0 a0.length (cellsR (a0))) := own_below X0.out hb
  replace X1 : Hid (w7.ownsRow w5.heap.size 51 4 xx1 a1.length (cellsS (a1))) := own_below X1.out hb
  replace V0 : Hid (IsR w7 QV0 f1 f2) := IsR.below V0.out hb
  have hz_w7 := hb.size
  clear hb
  obtain ⟨QG0, hQG0⟩ : ∃ Q, Q = w7.heap.size := ⟨_, rfl⟩
  have EG0 : Hid (QG0 = w7.heap.size) := hQG0
  have hb : Below w7.heap.size w7 (w7.alloc (.cells #[.int .i64 f1, .int .i64 f2] 33)) := (Below.refl _ _).alloc (Nat.le_refl _) _
  replace B1 := B1.trans (hb.mono B1.size)
  replace X0 : Hid ((w7.alloc (.cells #[.int .i64 f1, .int .i64 f2] 33)).ownsRow (w4.alloc (.cells #[.int .i64 f1, .int .i64 f2] 33)).heap.size 33 2 xx0 a0.length (cellsR (a0))) := own_below X0.out hb
  replace X1 : Hid ((w7.alloc (.cells #[.int .i64 f1, .int .i64 f2] 33)).ownsRow w5.heap.size 51 4 xx1 a1.length (cellsS (a1))) := own_below X1.out hb
  replace V0 : Hid (IsR (w7.alloc (.cells #[.int .i64 f1, .int .i64 f2] 33)) QV0 f1 f2) := IsR.below V0.out hb
  have G0 : Hid (IsR (w7.alloc (.cells #[.int .i64 f1, .int .i64 f2] 33)) QG0 f1 f2) := by show IsR _ _ _ _; rw [hQG0]; exact IsR.new w7 f1 f2
  clear hb hQG0
  have z0 := V0.out.c0
  have z1 := V0.out.c1
  have z2 := G0.out.c0
  have z3 := G0.out.c1
  rw [EV0.out] at z0 z1
  rw [EG0.out] at z2 z3
  go_wp2_with fail
  refine (eq_same f1 f2 _).mono ?_
  rintro e w8 ⟨rfl, hb⟩
  clear z0 z1 z2 z3
  replace B1 := B1.trans (hb.mono B1.size)
  replace X0 : Hid (w8.ownsRow (w4.alloc (.cells #[.int .i64 f1, .int .i64 f2] 33)).heap.size 33 2 xx0 a0.length (cellsR (a0))) := own_below X0.out hb
  replace X1 : Hid (w8.ownsRow w5.heap.size 51 4 xx1 a1.length (cellsS (a1))) := own_below X1.out hb
  replace V0 : Hid (IsR w8 QV0 f1 f2) := IsR.below V0.out hb
  replace G0 : Hid (IsR w8 QG0 f1 f2) := IsR.below G0.out hb
  have hz_w8 := hb.size
  clear hb
  go_wp2_with fail
  refine (HT0.out _ B1).mono ?_
  rintro e w9 ⟨yy0, rfl, t, hb⟩
  replace B1 := B1.trans (hb.mono B1.size)
  replace X0 : Hid (w9.ownsRow (w4.alloc (.cells #[.int .i64 f1, .int .i64 f2] 33)).heap.size 33 2 xx0 a0.length (cellsR (a0))) := own_below X0.out hb
  replace X1 : Hid (w9.ownsRow w5.heap.size 51 4 xx1 a1.length (cellsS (a1))) := own_below X1.out hb
  replace V0 : Hid (IsR w9 QV0 f1 f2) := IsR.below V0.out hb
  replace G0 : Hid (IsR w9 QG0 f1 f2) := IsR.below G0.out hb
  have hz_w9 := hb.size
  clear hb
  have Y0 : Hid (w9.ownsRow w8.heap.size 33 2 yy0 a0.length (cellsR (a0))) := t
  have UY0 : Hid (∀ b, yy0.ownBlock = some b → b < w9.heap.size) := fun b h => (t.lt b h).2
  clear t
  go_wp2_with fail
  refine (eqS_any xx0 yy0 a0 _ (RdR.own X0.out).1 (RdR.own Y0.out).1).mono ?_
  rintro e w10 ⟨rfl, hb⟩
  replace B1 := B1.trans (hb.mono B1.size)
  replace X0 : Hid (w10.ownsRow (w4.alloc (.cells #[.int .i64 f1, .int .i64 f2] 33)).heap.size 33 2 xx0 a0.length (cellsR (a0))) := own_below X0.out hb
  replace X1 : Hid (w10.ownsRow w5.heap.size 51 4 xx1 a1.length (cellsS (a1))) := own_below X1.out hb
  replace Y0 : Hid (w10.ownsRow w8.heap.size 33 2 yy0 a0.length (cellsR (a0))) := own_below Y0.out hb
  replace V0 : Hid (IsR w10 QV0 f1 f2) := IsR.below V0.out hb
  replace G0 : Hid (IsR w10 QG0 f1 f2) := IsR.below G0.out hb
  have hz_w10 := hb.size
  clear hb
  clear Y0 UY0
  go_wp2_with fail
  refine (HT1.out _ B1).mono ?_
  rintro e w11 ⟨yy1, rfl, t, hb⟩
  replace B1 := B1.trans (hb.mono B1.size)
  replace X0 : Hid (w11.ownsRow (w4.alloc (.cells #[.int .i64 f1, .int .i64 f2] 33)).heap.size 33 2 xx0 a0.length (cellsR (a0))) := own_below X0.out hb
  replace X1 : Hid (w11.ownsRow w5.heap.size 51 4 xx1 a1.length (cellsS (a1))) := own_below X1.out hb
  replace V0 : Hid (IsR w11 QV0 f1 f2) := IsR.below V0.out hb
  replace G0 : Hid (IsR w11 QG0 f1 f2) := IsR.below G0.out hb
  have hz_w11 := hb.size
  clear hb
  have Y1 : Hid (w11.ownsRow w10.heap.size 51 4 yy1 a1.length (cellsS (a1))) := t
  have UY1 : Hid (∀ b, yy1.ownBlock = some b → b < w11.heap.size) := fun b h => (t.lt b h).2
  clear t
  go_wp2_with fail
  refine (eqSpS_any xx1 yy1 a1 _ (RdS.own X1.out).1 (RdS.own Y1.out).1).mono ?_
  rintro e w12 ⟨rfl, hb⟩
  replace B1 := B1.trans (hb.mono B1.size)
  replace X0 : Hid (w12.ownsRow (w4.alloc (.cells #[.int .i64 f1, .int .i64 f2] 33)).heap.size 33 2 xx0 a0.length (cellsR (a0))) := own_below X0.out hb
  replace X1 : Hid (w12.ownsRow w5.heap.size 51 4 xx1 a1.length (cellsS (a1))) := own_below X1.out hb
  replace Y1 : Hid (w12.ownsRow w10.heap.size 51 4 yy1 a1.length (cellsS (a1))) := own_below Y1.out hb
  replace V0 : Hid (IsR w12 QV0 f1 f2) := IsR.below V0.out hb
  replace G0 : Hid (IsR w12 QG0 f1 f2) := IsR.below G0.out hb
  have hz_w12 := hb.size
  clear hb
  clear Y1 UY1
  go_wp2
  go_ret
  exact ⟨rfl, B1⟩
end Go.Proofs.Ytibncepllmjhhaa
