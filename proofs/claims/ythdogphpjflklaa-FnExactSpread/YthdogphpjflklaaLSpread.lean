/- The walk of the law of Spread: both answers are the same, and the list that was handed in stays. -/
import Derived.Test.YthdogphpjflklaaAgrP5
import Derived.Test.YthdogphpjflklaaAgrW5
import Derived.Test.YthdogphpjflklaaTabW4
import Derived.Test.YthdogphpjflklaaRatioW4
namespace Go.Proofs.Ythdogphpjflklaa
open Go.RowKit Go.Proofs.Ythdogphpjflklaa.RM

set_option maxRecDepth 100000 in
set_option maxHeartbeats 4000000 in
theorem lawSpread (v0 : Value) (a0 : List Fr) (w : World) (h0 : RdR w v0 a0) :
    Calls Try.prog 6 #[v0] w fun e w' => e = .returned (.bool true) ∧ Below w.heap.size w w' := by
  have H0 : Hid (RdR w v0 a0) := h0
  clear h0
  have B1 : Below w.heap.size w w := Below.refl _ _
  go_enter Try.func6, Try.ntmps6
  go_wp2_with fail
  refine (szS_any v0 a0 1048576 _ H0.out (by omega) (by omega)).mono ?_
  rintro e w0 ⟨rfl, hw⟩
  obtain rfl := hw.symm
  clear hw
  by_cases hs0 : 1048576 - (a0.length : Int) < 0
  · rw [if_pos hs0]
    go_wp2
    go_ret
    exact ⟨rfl, B1⟩
  rw [if_neg hs0]
  have lb0 : a0.length ≤ 1048576 := by omega
  obtain ⟨r0, hr0⟩ : ∃ x, x = 1048576 - (a0.length : Int) := ⟨_, rfl⟩
  have r00 : 0 ≤ r0 := by omega
  have r01 : r0 ≤ 1048576 := by omega
  rw [← hr0]
  have HT0 : Hid (∀ W : World, Below w.heap.size w W → Calls Try.prog 19 #[v0] W fun e w' => ∃ u, e = .returned u ∧ w'.ownsRow W.heap.size 29 2 u a0.length (cellsR a0) ∧ Below W.heap.size W w') := by
    intro W hW; exact toS_any v0 a0 W (H0.out.below hW) lb0
  clear hr0 hs0
  obtain ⟨A, hA⟩ : ∃ A, A = sprA a0 := ⟨_, rfl⟩
  obtain ⟨q, hq⟩ : ∃ q, q = sprO a0 := ⟨_, rfl⟩
  obtain ⟨f1, f2⟩ := A
  have HS : Hid (∀ (u0 : Value) (W : World), RdR W u0 a0 → Calls Try.prog 23 #[u0] W fun e w' => e = .returned (.tuple #[.agg #[.int .i64 f1, .int .i64 f2], .bool q]) ∧ Below W.heap.size W w') := by
    intro u0 W g0; have := sSpread_any u0 a0 W g0; rw [← hA, ← hq] at this; exact this
  have HI : Hid (∀ (u0 : Value) (W : World), RdR W u0 a0 → Calls Try.prog 24 #[u0] W fun e w' => e = .returned (.tuple #[.agg #[.int .i64 f1, .int .i64 f2], .bool q]) ∧ Below W.heap.size W w') := by
    intro u0 W g0; have := iSpread_any u0 a0 W g0 lb0; rw [← hA, ← hq] at this; exact this
  have e1 : (q != q) = false := by simp
  clear hA hq H0
  go_wp2_with fail
  refine (HT0.out _ B1).mono ?_
  rintro e w2 ⟨c0, rfl, t, hb⟩
  replace B1 := B1.trans (hb.mono B1.size)
  have hz_w2 := hb.size
  clear hb
  have C0 : Hid (w2.ownsRow w.heap.size 29 2 c0 a0.length (cellsR (a0))) := t
  have UC0 : Hid (∀ b, c0.ownBlock = some b → b < w2.heap.size) := fun b h => (t.lt b h).2
  clear t
  go_wp2_with fail
  refine (HS.out c0 _ (RdR.own C0.out).1).mono ?_
  rintro e w3 ⟨rfl, hb⟩
  replace B1 := B1.trans (hb.mono B1.size)
  replace C0 : Hid (w3.ownsRow w.heap.size 29 2 c0 a0.length (cellsR (a0))) := own_below C0.out hb
  have hz_w3 := hb.size
  clear hb
  obtain ⟨QV0, hQV0⟩ : ∃ Q, Q = w3.heap.size := ⟨_, rfl⟩
  have EV0 : Hid (QV0 = w3.heap.size) := hQV0
  have hb : Below w3.heap.size w3 (w3.alloc (.cells #[.int .i64 f1, .int .i64 f2] 29)) := (Below.refl _ _).alloc (Nat.le_refl _) _
  replace B1 := B1.trans (hb.mono B1.size)
  replace C0 : Hid ((w3.alloc (.cells #[.int .i64 f1, .int .i64 f2] 29)).ownsRow w.heap.size 29 2 c0 a0.length (cellsR (a0))) := own_below C0.out hb
  have V0 : Hid (IsR (w3.alloc (.cells #[.int .i64 f1, .int .i64 f2] 29)) QV0 f1 f2) := by show IsR _ _ _ _; rw [hQV0]; exact IsR.new w3 f1 f2
  clear hb hQV0
  clear C0 UC0
  go_wp2_with fail
  refine (HT0.out _ B1).mono ?_
  rintro e w4 ⟨xx0, rfl, t, hb⟩
  replace B1 := B1.trans (hb.mono B1.size)
  replace V0 : Hid (IsR w4 QV0 f1 f2) := IsR.below V0.out hb
  have hz_w4 := hb.size
  clear hb
  have X0 : Hid (w4.ownsRow (w3.alloc (.cells #[.int .i64 f1, .int .i64 f2] 29)).heap.size 29 2 xx0 a0.length (cellsR (a0))) := t
  have UX0 : Hid (∀ b, xx0.ownBlock = some b → b < w4.heap.size) := fun b h => (t.lt b h).2
  clear t
  go_wp2_with fail
  refine (HI.out xx0 _ (RdR.own X0.out).1).mono ?_
  rintro e w5 ⟨rfl, hb⟩
  replace B1 := B1.trans (hb.mono B1.size)
  replace X0 : Hid (w5.ownsRow (w3.alloc (.cells #[.int .i64 f1, .int .i64 f2] 29)).heap.size 29 2 xx0 a0.length (cellsR (a0))) := own_below X0.out hb
  replace V0 : Hid (IsR w5 QV0 f1 f2) := IsR.below V0.out hb
  have hz_w5 := hb.size
  clear hb
  obtain ⟨QG0, hQG0⟩ : ∃ Q, Q = w5.heap.size := ⟨_, rfl⟩
  have EG0 : Hid (QG0 = w5.heap.size) := hQG0
  have hb : Below w5.heap.size w5 (w5.alloc (.cells #[.int .i64 f1, .int .i64 f2] 29)) := (Below.refl _ _).alloc (Nat.le_refl _) _
  replace B1 := B1.trans (hb.mono B1.size)
  replace X0 : Hid ((w5.alloc (.cells #[.int .i64 f1, .int .i64 f2] 29)).ownsRow (w3.alloc (.cells #[.int .i64 f1, .int .i64 f2] 29)).heap.size 29 2 xx0 a0.length (cellsR (a0))) := own_below X0.out hb
  replace V0 : Hid (IsR (w5.alloc (.cells #[.int .i64 f1, .int .i64 f2] 29)) QV0 f1 f2) := IsR.below V0.out hb
  have G0 : Hid (IsR (w5.alloc (.cells #[.int .i64 f1, .int .i64 f2] 29)) QG0 f1 f2) := by show IsR _ _ _ _; rw [hQG0]; exact IsR.new w5 f1 f2
  clear hb hQG0
  have z0 := V0.out.c0
  have z1 := V0.out.c1
  have z2 := G0.out.c0
  have z3 := G0.out.c1
  rw [EV0.out] at z0 z1
  rw [EG0.out] at z2 z3
  go_wp2_with fail
  refine (eq_same f1 f2 _).mono ?_
  rintro e w6 ⟨rfl, hb⟩
  clear z0 z1 z2 z3
  replace B1 := B1.trans (hb.mono B1.size)
  replace X0 : Hid (w6.ownsRow (w3.alloc (.cells #[.int .i64 f1, .int .i64 f2] 29)).heap.size 29 2 xx0 a0.length (cellsR (a0))) := own_below X0.out hb
  replace V0 : Hid (IsR w6 QV0 f1 f2) := IsR.below V0.out hb
  replace G0 : Hid (IsR w6 QG0 f1 f2) := IsR.below G0.out hb
  have hz_w6 := hb.size
  clear hb
  go_wp2_with fail
  refine (HT0.out _ B1).mono ?_
  rintro e w7 ⟨yy0, rfl, t, hb⟩
  replace B1 := B1.trans (hb.mono B1.size)
  replace X0 : Hid (w7.ownsRow (w3.alloc (.cells #[.int .i64 f1, .int .i64 f2] 29)).heap.size 29 2 xx0 a0.length (cellsR (a0))) := own_below X0.out hb
  replace V0 : Hid (IsR w7 QV0 f1 f2) := IsR.below V0.out hb
  replace G0 : Hid (IsR w7 QG0 f1 f2) := IsR.below G0.out hb
  have hz_w7 := hb.size
  clear hb
  have Y0 : Hid (w7.ownsRow w6.heap.size 29 2 yy0 a0.length (cellsR (a0))) := t
  have UY0 : Hid (∀ b, yy0.ownBlock = some b → b < w7.heap.size) := fun b h => (t.lt b h).2
  clear t
  go_wp2_with fail
  refine (eqS_any xx0 yy0 a0 _ (RdR.own X0.out).1 (RdR.own Y0.out).1).mono ?_
  rintro e w8 ⟨rfl, hb⟩
  replace B1 := B1.trans (hb.mono B1.size)
  replace X0 : Hid (w8.ownsRow (w3.alloc (.cells #[.int .i64 f1, .int .i64 f2] 29)).heap.size 29 2 xx0 a0.length (cellsR (a0))) := own_below X0.out hb
  replace Y0 : Hid (w8.ownsRow w6.heap.size 29 2 yy0 a0.length (cellsR (a0))) := own_below Y0.out hb
  replace V0 : Hid (IsR w8 QV0 f1 f2) := IsR.below V0.out hb
  replace G0 : Hid (IsR w8 QG0 f1 f2) := IsR.below G0.out hb
  have hz_w8 := hb.size
  clear hb
  clear Y0 UY0
  go_wp2
  go_ret
  exact ⟨rfl, B1⟩
end Go.Proofs.Ythdogphpjflklaa
