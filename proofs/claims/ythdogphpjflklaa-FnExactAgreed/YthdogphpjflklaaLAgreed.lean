/- The walk of the law of Agreed: both answers are the same, and the list that was handed in stays. -/
import Derived.Test.YthdogphpjflklaaHpW8
import Derived.Test.YthdogphpjflklaaRgW0
import Derived.Test.YthdogphpjflklaaRatioW4
namespace Go.Proofs.Ythdogphpjflklaa
open Go.RowKit Go.Proofs.Ythdogphpjflklaa.RM

set_option maxRecDepth 100000 in
set_option maxHeartbeats 4000000 in
theorem lawAgreed (v0 : Value) (a0 : List Sp) (w : World) (h0 : RdS w v0 a0) :
    Calls Try.prog 4 #[v0] w fun e w' => e = .returned (.bool true) ∧ Below w.heap.size w w' := by
  have H0 : Hid (RdS w v0 a0) := h0
  clear h0
  have B1 : Below w.heap.size w w := Below.refl _ _
  go_enter Try.func4, Try.ntmps4
  go_wp2_with fail
  refine (szRg_any v0 a0 1048576 _ H0.out (by omega) (by omega)).mono ?_
  rintro e w0 ⟨rfl, hw⟩
  obtain rfl := hw.symm
  clear hw
  by_cases hs0 : 1048576 - (a0.length : Int) < 0
  · rw [if_pos hs0]
    go_wp2
    go_ret
    exact ⟨rfl, B1⟩
  rw [if_neg hs0]
  have lb0 : a0.length ≤ 1048576 := by omega
  obtain ⟨r0, hr0⟩ : ∃ x, x = 1048576 - (a0.length : Int) := ⟨_, rfl⟩
  have r00 : 0 ≤ r0 := by omega
  have r01 : r0 ≤ 1048576 := by omega
  rw [← hr0]
  have HT : Hid (∀ W : World, Below w.heap.size w W → Calls Try.prog 10 #[v0] W fun e w' => ∃ u, e = .returned u ∧ w'.ownsRow W.heap.size 34 4 u a0.length (cellsS a0) ∧ Below W.heap.size W w') := by
    intro W hW; exact toRgS_any v0 a0 W (H0.out.below hW) lb0
  clear hr0 hs0
  obtain ⟨r, hr⟩ : ∃ r, r = agrR a0 := ⟨_, rfl⟩
  obtain ⟨q, hq⟩ : ∃ q, q = agrN a0 := ⟨_, rfl⟩
  have HS : Hid (∀ (u0 : Value) (W : World), RdS W u0 a0 → Calls Try.prog 14 #[u0] W fun e w' => e = .returned (.tuple #[.agg #[.int .i64 r.1.1, .int .i64 r.1.2, .int .i64 r.2.1, .int .i64 r.2.2], .int .i64 q]) ∧ Below W.heap.size W w') := by
    intro u0 W g0; have := sAgreed_any u0 a0 W g0; rw [← hr, ← hq] at this; exact this
  have HI : Hid (∀ (u0 : Value) (W : World), RdS W u0 a0 → Calls Try.prog 15 #[u0] W fun e w' => e = .returned (.tuple #[.agg #[.int .i64 r.1.1, .int .i64 r.1.2, .int .i64 r.2.1, .int .i64 r.2.2], .int .i64 q]) ∧ Below W.heap.size W w') := by
    intro u0 W g0; have := iAgreed_any u0 a0 W g0; rw [← hr, ← hq] at this; exact this
  have e1 : (q != q) = false := by simp
  clear hr hq H0
  obtain ⟨⟨z1, z2⟩, z3, z4⟩ := r
  dsimp only at HS HI
  go_wp2_with fail
  refine (HT.out _ B1).mono ?_
  rintro e w2 ⟨c0, rfl, t, hb⟩
  have C0 := hidH t
  replace B1 := B1.trans (hb.mono B1.size)
  clear hb t
  go_wp2_with fail
  refine (HS.out c0 _ (RdS.ownRg C0.out).1).mono ?_
  rintro e w3 ⟨rfl, hb⟩
  replace B1 := B1.trans (hb.mono B1.size)
  clear hb C0
  obtain ⟨V, hV⟩ : ∃ V, V = w3.heap.size := ⟨_, rfl⟩
  obtain ⟨X3, hX3⟩ : ∃ X, X = w3.alloc (.cells #[.int .i64 z1, .int .i64 z2, .int .i64 z3, .int .i64 z4] 34) := ⟨_, rfl⟩
  have hb := b0H w3 (.cells #[.int .i64 z1, .int .i64 z2, .int .i64 z3, .int .i64 z4] 34)
  have V0 : Hid (IsB X3 V #[.int .i64 z1, .int .i64 z2, .int .i64 z3, .int .i64 z4] 34) := by show IsB _ _ _ _; rw [hX3, hV]; exact IsB.new w3 _ _
  rw [← hX3] at hb
  replace B1 := B1.trans (hb.mono B1.size)
  clear hb
  go_upto_region 6 with fail
  rw [← hX3, ← hV]
  clear hX3 hV
  go_wp2_with fail
  refine (HT.out _ B1).mono ?_
  rintro e w4 ⟨c1, rfl, t, hb⟩
  have C1 := hidH t
  replace B1 := B1.trans (hb.mono B1.size)
  replace V0 := hidH (V0.out.below hb)
  clear hb t
  go_wp2_with fail
  refine (HI.out c1 _ (RdS.ownRg C1.out).1).mono ?_
  rintro e w5 ⟨rfl, hb⟩
  replace B1 := B1.trans (hb.mono B1.size)
  replace V0 := hidH (V0.out.below hb)
  replace C1 := hidH (own_below C1.out hb)
  clear hb
  obtain ⟨U, hU⟩ : ∃ V, V = w5.heap.size := ⟨_, rfl⟩
  obtain ⟨X5, hX5⟩ : ∃ X, X = w5.alloc (.cells #[.int .i64 z1, .int .i64 z2, .int .i64 z3, .int .i64 z4] 34) := ⟨_, rfl⟩
  have hb := b0H w5 (.cells #[.int .i64 z1, .int .i64 z2, .int .i64 z3, .int .i64 z4] 34)
  have U0 : Hid (IsB X5 U #[.int .i64 z1, .int .i64 z2, .int .i64 z3, .int .i64 z4] 34) := by show IsB _ _ _ _; rw [hX5, hU]; exact IsB.new w5 _ _
  rw [← hX5] at hb
  replace B1 := B1.trans (hb.mono B1.size)
  replace V0 := hidH (V0.out.below hb)
  replace C1 := hidH (own_below C1.out hb)
  clear hb
  go_upto_region 8 with fail
  rw [← hX5, ← hU]
  clear hX5 hU
  obtain ⟨y0, y1, y2, y3⟩ := V0.out.s4
  obtain ⟨x0, x1, x2, x3⟩ := U0.out.s4
  go_wp2_with fail
  refine (eqRg_same z1 z2 z3 z4 _).mono ?_
  rintro e w6 ⟨rfl, hb⟩
  replace B1 := B1.trans (hb.mono B1.size)
  replace C1 := hidH (own_below C1.out hb)
  clear hb y0 y1 y2 y3 x0 x1 x2 x3 V0 U0
  go_wp2_with fail
  refine (HT.out _ B1).mono ?_
  rintro e w7 ⟨c2, rfl, t, hb⟩
  have C2 := hidH t
  replace B1 := B1.trans (hb.mono B1.size)
  replace C1 := hidH (own_below C1.out hb)
  clear hb t
  go_wp2_with fail
  refine (eqRgS_any c1 c2 a0 _ (RdS.ownRg C1.out).1 (RdS.ownRg C2.out).1).mono ?_
  rintro e w8 ⟨rfl, hb⟩
  replace B1 := B1.trans (hb.mono B1.size)
  clear hb
  go_wp2
  go_ret
  exact ⟨rfl, B1⟩
end Go.Proofs.Ythdogphpjflklaa
