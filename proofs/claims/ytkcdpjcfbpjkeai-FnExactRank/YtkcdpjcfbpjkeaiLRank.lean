/- The walk of the law of Rank: both answers are the same, and the table that was handed in stays. -/
import Derived.Test.YtkcdpjcfbpjkeaiEchW11
namespace Go.Proofs.Ytkcdpjcfbpjkeai
open Go.RowKit Go.Proofs.Ytkcdpjcfbpjkeai.RM

set_option maxRecDepth 100000 in
set_option maxHeartbeats 2000000 in
theorem lawRank (v : Value) (rows : List (List Fr)) (w : World) (h : RdT w v rows) :
    Calls Try.prog 8 #[v] w fun e w' => e = .returned (.bool true) ∧ Below w.heap.size w w' := by
  have HR : Hid (RdT w v rows) := h
  clear h
  go_enter Try.func8, Try.ntmps8
  go_wp2_with fail
  refine (szT_any v rows 1048576 _ HR.out (by omega) (by omega)).mono ?_
  rintro e w0 ⟨r, rfl, r1, hcase, hw⟩
  obtain rfl := hw.symm
  clear hw
  rcases hcase with hneg | ⟨r0, l1, l2⟩
  · go_wp2
    go_ret
    exact ⟨rfl, Below.refl _ _⟩
  have HT : Hid (∀ W : World, Below w.heap.size w W → Calls Try.prog 17 #[v] W fun e w' => ∃ u us, e = .returned u ∧ Tab w' W.heap.size u us rows ∧ Below W.heap.size W w') := by
    intro W hW; exact toT_any v rows W (HR.out.below hW) l1 l2
  obtain ⟨q, hq⟩ : ∃ q, q = rkI rows := ⟨_, rfl⟩
  have HS : Hid (∀ (u : Value) (W : World), RdT W u rows → Calls Try.prog 26 #[u] W fun e w' => e = .returned (.int .i64 q) ∧ Below W.heap.size W w') := by
    intro u W hW; rw [hq]; exact sRank_any u rows W hW
  have HI : Hid (∀ (u : Value) (W : World), RdT W u rows → Calls Try.prog 27 #[u] W fun e w' => e = .returned (.int .i64 q) ∧ Below W.heap.size W w') := by
    intro u W hW; rw [hq]; exact iRank_any u rows W hW
  have e1 : (q != q) = false := by simp
  clear hq l1 l2 HR
  go_wp2_with fail
  refine (HT.out _ (Below.refl _ _)).mono ?_
  rintro e w1 ⟨u0, us0, rfl, t0, B1⟩
  go_wp2_with fail
  refine (HS.out u0 _ t0.read).mono ?_
  rintro e w2 ⟨rfl, hb⟩
  replace B1 := B1.trans (hb.mono B1.size)
  clear hb t0
  go_wp2_with fail
  refine (HT.out _ B1).mono ?_
  rintro e w3 ⟨u1, us1, rfl, t1, hb⟩
  replace B1 := B1.trans (hb.mono B1.size)
  clear hb
  go_wp2_with fail
  refine (HI.out u1 _ t1.read).mono ?_
  rintro e w4 ⟨rfl, hb⟩
  replace B1 := B1.trans (hb.mono B1.size)
  have T1 : Hid (RdT w4 u1 rows) := t1.read.below hb
  clear hb t1
  go_wp2_with fail
  refine (HT.out _ B1).mono ?_
  rintro e w5 ⟨u2, us2, rfl, t2, hb⟩
  replace B1 := B1.trans (hb.mono B1.size)
  replace T1 : Hid (RdT w5 u1 rows) := T1.out.below hb
  clear hb
  go_wp2_with fail
  refine (eqT_any u1 u2 rows _ T1.out t2.read).mono ?_
  rintro e w6 ⟨rfl, hb⟩
  replace B1 := B1.trans (hb.mono B1.size)
  clear hb t2
  go_wp2
  go_ret
  exact ⟨rfl, B1⟩
end Go.Proofs.Ytkcdpjcfbpjkeai
