/- The walk of the law of Echelon: both answers are the same table, the program's in memory of its own, and the table that was handed in stays. -/
import Derived.Test.YtkcdpjcfbpjkeaiEchW12
namespace Go.Proofs.Ytkcdpjcfbpjkeai
open Go.RowKit Go.Proofs.Ytkcdpjcfbpjkeai.RM

set_option maxRecDepth 100000 in
set_option maxHeartbeats 4000000 in
theorem lawEchelon (va : Value) (a : List (List Fr)) (w : World) (ha : RdT w va a) :
    Calls Try.prog 7 #[va] w fun e w' => e = .returned (.bool true) ∧ Below w.heap.size w w' := by
  have HA : Hid (RdT w va a) := ha
  clear ha
  go_enter Try.func7, Try.ntmps7
  go_wp2_with fail
  refine (szT_any va a 1048576 _ HA.out (by omega) (by omega)).mono ?_
  rintro e w0 ⟨r, rfl, r1, hcase, hw⟩
  obtain rfl := hw.symm
  clear hw
  rcases hcase with hneg | ⟨r0, la1, la2⟩
  · go_wp2
    go_ret
    exact ⟨rfl, Below.refl _ _⟩
  have LA : Hid (a.length ≤ 1048576 ∧ ∀ i, i < a.length → (rw' a i).length ≤ 1048576) := ⟨la1, la2⟩
  have HTA : Hid (∀ W : World, Below w.heap.size w W → Calls Try.prog 17 #[va] W fun e w' => ∃ u us, e = .returned u ∧ Tab w' W.heap.size u us a ∧ Below W.heap.size W w') := by
    intro W hW; exact toT_any va a W (HA.out.below hW) la1 la2
  obtain ⟨A, hA⟩ : ∃ A, A = echA a := ⟨_, rfl⟩
  obtain ⟨q, hq⟩ : ∃ q, q = echO a := ⟨_, rfl⟩
  have HS : Hid (∀ (u : Value) (W : World), RdT W u a → Calls Try.prog 24 #[u] W fun e w' => ∃ v us, e = .returned (.tuple #[v, .bool q]) ∧ Tab w' W.heap.size v us A ∧ Below W.heap.size W w') := by
    intro u W h1; rw [hq, hA]; exact sEchel_any u a W h1
  have HI : Hid (∀ (u : Value) (W : World), RdT W u a → Calls Try.prog 25 #[u] W fun e w' => ∃ v us, e = .returned (.tuple #[v, .bool q]) ∧ Tab w' W.heap.size v us A ∧ Below W.heap.size W w') := by
    intro u W h1; rw [hq, hA]; exact iEchel_any u a W h1
  have LS : Hid (A.length ≤ 1048576 ∧ ∀ i, i < A.length → (rw' A i).length ≤ 1048576) := by show _ ∧ _; rw [hA]; exact echA_small a
  have e1 : (q != q) = false := by simp
  have b1 : (offN a a.length : Int) ≤ 1099511627776 := by
    have := offN_le la2 a.length (Nat.le_refl _)
    have : a.length * 1048576 ≤ 1048576 * 1048576 := Nat.mul_le_mul_right _ la1
    omega
  have b3 : (offN A A.length : Int) ≤ 1099511627776 := by
    have := offN_le LS.out.2 A.length (Nat.le_refl _)
    have : A.length * 1048576 ≤ 1048576 * 1048576 := Nat.mul_le_mul_right _ LS.out.1
    omega
  clear hA hq la1 la2 HA
  go_wp2_with fail
  refine (HTA.out _ (Below.refl _ _)).mono ?_
  rintro e w2 ⟨u1, us1, rfl, t1, B1⟩
  have hz_w2 := B1.size
  go_wp2_with fail
  refine (HS.out u1 _ (Tab.read t1)).mono ?_
  rintro e w3 ⟨v0, us0, rfl, t0, hb⟩
  replace B1 := B1.trans (hb.mono B1.size)
  have hz_w3 := hb.size
  clear hb
  have T0 : Hid (Tab w3 w2.heap.size v0 us0 A) := t0
  have U0 : Hid (Under w3.heap.size v0 us0) := t0.under
  clear t0 t1
  go_wp2_with fail
  refine (HTA.out _ B1).mono ?_
  rintro e w5 ⟨x0, usa, rfl, t, hb⟩
  replace B1 := B1.trans (hb.mono B1.size)
  replace T0 : Hid (Tab w5 w2.heap.size v0 us0 A) := Tab.below T0.out hb
  have hz_w5 := hb.size
  clear hb
  have TA : Hid (Tab w5 w3.heap.size x0 usa a) := t
  have UA : Hid (Under w5.heap.size x0 usa) := t.under
  clear t
  go_wp2_with fail
  refine (HI.out x0 _ (Tab.read TA.out)).mono ?_
  rintro e w6 ⟨g0, usg, rfl, t, hb⟩
  replace B1 := B1.trans (hb.mono B1.size)
  replace T0 : Hid (Tab w6 w2.heap.size v0 us0 A) := Tab.below T0.out hb
  replace TA : Hid (Tab w6 w3.heap.size x0 usa a) := Tab.below TA.out hb
  have hz_w6 := hb.size
  clear hb
  have TG : Hid (Tab w6 w5.heap.size g0 usg A) := t
  have UG : Hid (Under w6.heap.size g0 usg) := t.under
  clear t
  go_wp2_with fail
  refine (eqT_any g0 v0 A _ (Tab.read TG.out) (Tab.read T0.out)).mono ?_
  rintro e w7 ⟨rfl, hb⟩
  replace B1 := B1.trans (hb.mono B1.size)
  replace T0 : Hid (Tab w7 w2.heap.size v0 us0 A) := Tab.below T0.out hb
  replace TA : Hid (Tab w7 w3.heap.size x0 usa a) := Tab.below TA.out hb
  replace TG : Hid (Tab w7 w5.heap.size g0 usg A) := Tab.below TG.out hb
  have hz_w7 := hb.size
  clear hb
  go_wp2_with fail
  refine (HTA.out _ B1).mono ?_
  rintro e w8 ⟨y0, usy, rfl, t, hb⟩
  replace B1 := B1.trans (hb.mono B1.size)
  replace T0 : Hid (Tab w8 w2.heap.size v0 us0 A) := Tab.below T0.out hb
  replace TA : Hid (Tab w8 w3.heap.size x0 usa a) := Tab.below TA.out hb
  replace TG : Hid (Tab w8 w5.heap.size g0 usg A) := Tab.below TG.out hb
  have hz_w8 := hb.size
  clear hb
  go_wp2_with fail
  refine (eqT_any x0 y0 a _ (Tab.read TA.out) (Tab.read t)).mono ?_
  rintro e w9 ⟨rfl, hb⟩
  replace B1 := B1.trans (hb.mono B1.size)
  replace T0 : Hid (Tab w9 w2.heap.size v0 us0 A) := Tab.below T0.out hb
  replace TA : Hid (Tab w9 w3.heap.size x0 usa a) := Tab.below TA.out hb
  replace TG : Hid (Tab w9 w5.heap.size g0 usg A) := Tab.below TG.out hb
  have hz_w9 := hb.size
  clear hb
  clear t
  go_wp2_with fail
  refine (markT_any x0 usa a w3.heap.size w5.heap.size 1 _ TA.out UA.out LA.out.1 LA.out.2 (by omega) (by omega)).mono ?_
  rintro e w12 ⟨rfl, tm, ho⟩
  replace B1 : Below w.heap.size w w12 := B1.trans ((ho.below (by omega)).mono (by omega))
  have hz_w12 := ho.2.2.2.1
  replace T0 : Hid (Tab w12 w2.heap.size v0 us0 A) := Tab.out_lo T0.out ho (U0.out.le (by omega))
  replace TG : Hid (Tab w12 w5.heap.size g0 usg A) := Tab.out_hi TG.out ho (by omega)
  clear tm ho TA UA
  obtain ⟨k1, hk1⟩ : ∃ k, k = 1 + 2 * (offN a a.length : Int) := ⟨_, rfl⟩
  have k10 : 0 ≤ k1 := by omega
  have k11 : k1 ≤ 3000000000000 := by omega
  rw [← hk1]
  clear hk1
  go_wp2_with fail
  refine (eqT_any g0 v0 A _ (Tab.read TG.out) (Tab.read T0.out)).mono ?_
  rintro e w14 ⟨rfl, hb⟩
  replace B1 := B1.trans (hb.mono B1.size)
  replace T0 : Hid (Tab w14 w2.heap.size v0 us0 A) := Tab.below T0.out hb
  replace TG : Hid (Tab w14 w5.heap.size g0 usg A) := Tab.below TG.out hb
  have hz_w14 := hb.size
  clear hb
  go_wp2_with fail
  refine (markT_any g0 usg A w5.heap.size w6.heap.size 1 _ TG.out UG.out LS.out.1 LS.out.2 (by omega) (by omega)).mono ?_
  rintro e w15 ⟨rfl, tm, ho⟩
  replace B1 : Below w.heap.size w w15 := B1.trans ((ho.below (by omega)).mono (by omega))
  have hz_w15 := ho.2.2.2.1
  replace T0 : Hid (Tab w15 w2.heap.size v0 us0 A) := Tab.out_lo T0.out ho (U0.out.le (by omega))
  replace TG : Hid (Tab w15 w5.heap.size g0 usg (mkT 1 A A.length)) := tm
  clear tm ho UG
  have HM0 : Hid (0 ≤ 1 + 2 * (offN A A.length : Int)) := by show _ ≤ _; omega
  go_wp2_with fail
  refine (heldT_any g0 A 1 _ (Tab.read TG.out) LS.out.1 LS.out.2 (by omega) (by omega)).mono ?_
  rintro e w16 ⟨rfl, hb⟩
  replace B1 := B1.trans (hb.mono B1.size)
  replace T0 : Hid (Tab w16 w2.heap.size v0 us0 A) := Tab.below T0.out hb
  replace TG : Hid (Tab w16 w5.heap.size g0 usg (mkT 1 A A.length)) := Tab.below TG.out hb
  have hz_w16 := hb.size
  clear hb
  obtain ⟨mm, hmm⟩ : ∃ k, k = 1 + 2 * (offN A A.length : Int) := ⟨_, rfl⟩
  have mm0 : 0 ≤ mm := by omega
  have mm1 : (mm != mm) = false := by simp
  have HMM : Hid (mm = 1 + 2 * (offN A A.length : Int)) := hmm
  rw [← hmm]
  clear hmm
  go_wp2_with fail
  refine (HTA.out _ B1).mono ?_
  rintro e w17 ⟨y2, usp, rfl, t2, hb⟩
  replace B1 := B1.trans (hb.mono B1.size)
  replace T0 : Hid (Tab w17 w2.heap.size v0 us0 A) := Tab.below T0.out hb
  replace TG : Hid (Tab w17 w5.heap.size g0 usg (mkT 1 A A.length)) := Tab.below TG.out hb
  have hz_w17 := hb.size
  clear hb
  go_wp2_with fail
  refine (HI.out y2 _ (Tab.read t2)).mono ?_
  rintro e w19 ⟨h0, ush, rfl, t4, hb⟩
  replace B1 := B1.trans (hb.mono B1.size)
  replace T0 : Hid (Tab w19 w2.heap.size v0 us0 A) := Tab.below T0.out hb
  replace TG : Hid (Tab w19 w5.heap.size g0 usg (mkT 1 A A.length)) := Tab.below TG.out hb
  have hz_w19 := hb.size
  clear hb
  clear t2
  go_wp2_with fail
  refine (eqT_any h0 v0 A _ (Tab.read t4) (Tab.read T0.out)).mono ?_
  rintro e w20 ⟨rfl, hb⟩
  replace B1 := B1.trans (hb.mono B1.size)
  replace T0 : Hid (Tab w20 w2.heap.size v0 us0 A) := Tab.below T0.out hb
  replace TG : Hid (Tab w20 w5.heap.size g0 usg (mkT 1 A A.length)) := Tab.below TG.out hb
  have hz_w20 := hb.size
  clear hb
  clear t4
  go_wp2_with fail
  refine (heldT_any g0 A 1 _ (Tab.read TG.out) LS.out.1 LS.out.2 (by omega) (by omega)).mono ?_
  rintro e w21 ⟨rfl, hb⟩
  replace B1 := B1.trans (hb.mono B1.size)
  replace T0 : Hid (Tab w21 w2.heap.size v0 us0 A) := Tab.below T0.out hb
  replace TG : Hid (Tab w21 w5.heap.size g0 usg (mkT 1 A A.length)) := Tab.below TG.out hb
  have hz_w21 := hb.size
  clear hb
  rw [← HMM.out]
  go_wp2
  go_ret
  exact ⟨rfl, B1⟩
end Go.Proofs.Ytkcdpjcfbpjkeai
