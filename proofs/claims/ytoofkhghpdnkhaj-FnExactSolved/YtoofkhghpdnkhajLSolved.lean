/- The walk of the law of Solved: both answers are the same list, the program's in memory of its own, and the lists that were handed in stay. -/
import Derived.Test.YtoofkhghpdnkhajSolW3
import Derived.Test.YtoofkhghpdnkhajTimW3
namespace Go.Proofs.Ytoofkhghpdnkhaj
open Go.RowKit Go.Proofs.Ytoofkhghpdnkhaj.RM

set_option maxRecDepth 100000 in
set_option maxHeartbeats 4000000 in
theorem lawSolved (va : Value) (a : List (List Fr)) (vb : Value) (b : List Fr) (w : World) (ha : RdT w va a) (hb : RdR w vb b) :
    Calls Try.prog 4 #[va, vb] w fun e w' => e = .returned (.bool true) ∧ Below w.heap.size w w' := by
  have HA : Hid (RdT w va a) := ha
  have HB : Hid (RdR w vb b) := hb
  clear ha hb
  go_enter Try.func4, Try.ntmps4
  go_wp2_with fail
  refine (szT_any va a 1048576 _ HA.out (by omega) (by omega)).mono ?_
  rintro e w0 ⟨r, rfl, r1, hcase, hw⟩
  obtain rfl := hw.symm
  clear hw
  rcases hcase with hneg | ⟨r0, la1, la2⟩
  · go_wp2
    go_ret
    exact ⟨rfl, Below.refl _ _⟩
  go_wp2_with fail
  refine (szS_any vb b r _ HB.out r0 r1).mono ?_
  rintro e w0 ⟨rfl, hw⟩
  obtain rfl := hw.symm
  clear hw
  by_cases hsb : r - (b.length : Int) < 0
  · rw [if_pos hsb]
    go_wp2
    go_ret
    exact ⟨rfl, Below.refl _ _⟩
  rw [if_neg hsb]
  have lb : b.length ≤ 1048576 := by omega
  obtain ⟨r2, hr2⟩ : ∃ x, x = r - (b.length : Int) := ⟨_, rfl⟩
  have r20 : 0 ≤ r2 := by omega
  rw [← hr2]
  have LA : Hid (a.length ≤ 1048576 ∧ ∀ i, i < a.length → (rw' a i).length ≤ 1048576) := ⟨la1, la2⟩
  have HTA : Hid (∀ W : World, Below w.heap.size w W → Calls Try.prog 10 #[va] W fun e w' => ∃ u us, e = .returned u ∧ Tab w' W.heap.size u us a ∧ Below W.heap.size W w') := by
    intro W hW; exact toT_any va a W (HA.out.below hW) la1 la2
  have HTB : Hid (∀ W : World, Below w.heap.size w W → Calls Try.prog 17 #[vb] W fun e w' => ∃ u, e = .returned u ∧ w'.ownsRow W.heap.size 52 2 u b.length (cellsR b) ∧ Below W.heap.size W w') := by
    intro W hW; exact toS_any vb b W (HB.out.below hW) lb
  obtain ⟨A, hA⟩ : ∃ A, A = solA a b := ⟨_, rfl⟩
  obtain ⟨q, hq⟩ : ∃ q, q = solO a b := ⟨_, rfl⟩
  have HS : Hid (∀ (u u' : Value) (W : World), RdT W u a → RdR W u' b → Calls Try.prog 16 #[u, u'] W fun e w' => ∃ v, e = .returned (.tuple #[v, .bool q]) ∧ w'.ownsRow W.heap.size 52 2 v A.length (cellsR A) ∧ Below W.heap.size W w') := by
    intro u u' W h1 h2; rw [hq, hA]; exact sSolved_any u u' a b W h1 h2
  have HI : Hid (∀ (u u' : Value) (W : World), RdT W u a → RdR W u' b → Calls Try.prog 18 #[u, u'] W fun e w' => ∃ v, e = .returned (.tuple #[v, .bool q]) ∧ w'.ownsRow W.heap.size 52 2 v A.length (cellsR A) ∧ Below W.heap.size W w') := by
    intro u u' W h1 h2; rw [hq, hA]; exact iSolved_any u u' a b W h1 h2
  have lA : A.length ≤ 1048576 := by rw [hA]; exact solA_small a b
  have e1 : (q != q) = false := by simp
  have b1 : (offN a a.length : Int) ≤ 1099511627776 := by
    have := offN_le la2 a.length (Nat.le_refl _)
    have : a.length * 1048576 ≤ 1048576 * 1048576 := Nat.mul_le_mul_right _ la1
    omega
  clear hA hq la1 la2 HA HB hsb hr2
  go_wp2_with fail
  refine (HTA.out _ (Below.refl _ _)).mono ?_
  rintro e w2 ⟨u1, us1, rfl, t, hb⟩
  have B1 := hb
  have hz_w2 := hb.size
  clear hb
  have TX : Hid (Tab w2 w.heap.size u1 us1 a) := t
  have UTX : Hid (Under w2.heap.size u1 us1) := t.under
  clear t
  go_wp2_with fail
  refine (HTB.out _ B1).mono ?_
  rintro e w3 ⟨u2, rfl, t, hb⟩
  replace B1 := B1.trans (hb.mono B1.size)
  replace TX : Hid (Tab w3 w.heap.size u1 us1 a) := Tab.below TX.out hb
  have hz_w3 := hb.size
  clear hb
  have RX : Hid (w3.ownsRow w2.heap.size 52 2 u2 b.length (cellsR (b))) := t
  have URX : Hid (∀ b, u2.ownBlock = some b → b < w3.heap.size) := fun b h => (t.lt b h).2
  clear t
  go_wp2_with fail
  refine (HS.out u1 u2 _ (Tab.read TX.out) (RdR.own RX.out).1).mono ?_
  rintro e w4 ⟨v0, rfl, t, hb⟩
  replace B1 := B1.trans (hb.mono B1.size)
  replace TX : Hid (Tab w4 w.heap.size u1 us1 a) := Tab.below TX.out hb
  replace RX : Hid (w4.ownsRow w2.heap.size 52 2 u2 b.length (cellsR (b))) := own_below RX.out hb
  have hz_w4 := hb.size
  clear hb
  have V0 : Hid (w4.ownsRow w3.heap.size 52 2 v0 A.length (cellsR (A))) := t
  have UV0 : Hid (∀ b, v0.ownBlock = some b → b < w4.heap.size) := fun b h => (t.lt b h).2
  clear t
  clear TX UTX
  clear RX URX
  go_wp2_with fail
  refine (HTA.out _ B1).mono ?_
  rintro e w5 ⟨x0, usa, rfl, t, hb⟩
  replace B1 := B1.trans (hb.mono B1.size)
  replace V0 : Hid (w5.ownsRow w3.heap.size 52 2 v0 A.length (cellsR (A))) := own_below V0.out hb
  have hz_w5 := hb.size
  clear hb
  have TA : Hid (Tab w5 w4.heap.size x0 usa a) := t
  have UTA : Hid (Under w5.heap.size x0 usa) := t.under
  clear t
  go_wp2_with fail
  refine (HTB.out _ B1).mono ?_
  rintro e w6 ⟨x1, rfl, t, hb⟩
  replace B1 := B1.trans (hb.mono B1.size)
  replace TA : Hid (Tab w6 w4.heap.size x0 usa a) := Tab.below TA.out hb
  replace V0 : Hid (w6.ownsRow w3.heap.size 52 2 v0 A.length (cellsR (A))) := own_below V0.out hb
  have hz_w6 := hb.size
  clear hb
  have RB : Hid (w6.ownsRow w5.heap.size 52 2 x1 b.length (cellsR (b))) := t
  have URB : Hid (∀ b, x1.ownBlock = some b → b < w6.heap.size) := fun b h => (t.lt b h).2
  clear t
  go_wp2_with fail
  refine (HI.out x0 x1 _ (Tab.read TA.out) (RdR.own RB.out).1).mono ?_
  rintro e w7 ⟨g0, rfl, t, hb⟩
  replace B1 := B1.trans (hb.mono B1.size)
  replace TA : Hid (Tab w7 w4.heap.size x0 usa a) := Tab.below TA.out hb
  replace V0 : Hid (w7.ownsRow w3.heap.size 52 2 v0 A.length (cellsR (A))) := own_below V0.out hb
  replace RB : Hid (w7.ownsRow w5.heap.size 52 2 x1 b.length (cellsR (b))) := own_below RB.out hb
  have hz_w7 := hb.size
  clear hb
  have RG : Hid (w7.ownsRow w6.heap.size 52 2 g0 A.length (cellsR (A))) := t
  have URG : Hid (∀ b, g0.ownBlock = some b → b < w7.heap.size) := fun b h => (t.lt b h).2
  clear t
  go_wp2_with fail
  refine (eqS_any g0 v0 A _ (RdR.own RG.out).1 (RdR.own V0.out).1).mono ?_
  rintro e w8 ⟨rfl, hb⟩
  replace B1 := B1.trans (hb.mono B1.size)
  replace TA : Hid (Tab w8 w4.heap.size x0 usa a) := Tab.below TA.out hb
  replace V0 : Hid (w8.ownsRow w3.heap.size 52 2 v0 A.length (cellsR (A))) := own_below V0.out hb
  replace RB : Hid (w8.ownsRow w5.heap.size 52 2 x1 b.length (cellsR (b))) := own_below RB.out hb
  replace RG : Hid (w8.ownsRow w6.heap.size 52 2 g0 A.length (cellsR (A))) := own_below RG.out hb
  have hz_w8 := hb.size
  clear hb
  go_wp2_with fail
  refine (HTA.out _ B1).mono ?_
  rintro e w9 ⟨y0, usy, rfl, t, hb⟩
  replace B1 := B1.trans (hb.mono B1.size)
  replace TA : Hid (Tab w9 w4.heap.size x0 usa a) := Tab.below TA.out hb
  replace V0 : Hid (w9.ownsRow w3.heap.size 52 2 v0 A.length (cellsR (A))) := own_below V0.out hb
  replace RB : Hid (w9.ownsRow w5.heap.size 52 2 x1 b.length (cellsR (b))) := own_below RB.out hb
  replace RG : Hid (w9.ownsRow w6.heap.size 52 2 g0 A.length (cellsR (A))) := own_below RG.out hb
  have hz_w9 := hb.size
  clear hb
  have TY : Hid (Tab w9 w8.heap.size y0 usy a) := t
  have UTY : Hid (Under w9.heap.size y0 usy) := t.under
  clear t
  go_wp2_with fail
  refine (eqT_any x0 y0 a _ (Tab.read TA.out) (Tab.read TY.out)).mono ?_
  rintro e w10 ⟨rfl, hb⟩
  replace B1 := B1.trans (hb.mono B1.size)
  replace TA : Hid (Tab w10 w4.heap.size x0 usa a) := Tab.below TA.out hb
  replace TY : Hid (Tab w10 w8.heap.size y0 usy a) := Tab.below TY.out hb
  replace V0 : Hid (w10.ownsRow w3.heap.size 52 2 v0 A.length (cellsR (A))) := own_below V0.out hb
  replace RB : Hid (w10.ownsRow w5.heap.size 52 2 x1 b.length (cellsR (b))) := own_below RB.out hb
  replace RG : Hid (w10.ownsRow w6.heap.size 52 2 g0 A.length (cellsR (A))) := own_below RG.out hb
  have hz_w10 := hb.size
  clear hb
  clear TY UTY
  go_wp2_with fail
  refine (HTB.out _ B1).mono ?_
  rintro e w11 ⟨y1, rfl, t, hb⟩
  replace B1 := B1.trans (hb.mono B1.size)
  replace TA : Hid (Tab w11 w4.heap.size x0 usa a) := Tab.below TA.out hb
  replace V0 : Hid (w11.ownsRow w3.heap.size 52 2 v0 A.length (cellsR (A))) := own_below V0.out hb
  replace RB : Hid (w11.ownsRow w5.heap.size 52 2 x1 b.length (cellsR (b))) := own_below RB.out hb
  replace RG : Hid (w11.ownsRow w6.heap.size 52 2 g0 A.length (cellsR (A))) := own_below RG.out hb
  have hz_w11 := hb.size
  clear hb
  have RY : Hid (w11.ownsRow w10.heap.size 52 2 y1 b.length (cellsR (b))) := t
  have URY : Hid (∀ b, y1.ownBlock = some b → b < w11.heap.size) := fun b h => (t.lt b h).2
  clear t
  go_wp2_with fail
  refine (eqS_any x1 y1 b _ (RdR.own RB.out).1 (RdR.own RY.out).1).mono ?_
  rintro e w12 ⟨rfl, hb⟩
  replace B1 := B1.trans (hb.mono B1.size)
  replace TA : Hid (Tab w12 w4.heap.size x0 usa a) := Tab.below TA.out hb
  replace V0 : Hid (w12.ownsRow w3.heap.size 52 2 v0 A.length (cellsR (A))) := own_below V0.out hb
  replace RB : Hid (w12.ownsRow w5.heap.size 52 2 x1 b.length (cellsR (b))) := own_below RB.out hb
  replace RG : Hid (w12.ownsRow w6.heap.size 52 2 g0 A.length (cellsR (A))) := own_below RG.out hb
  replace RY : Hid (w12.ownsRow w10.heap.size 52 2 y1 b.length (cellsR (b))) := own_below RY.out hb
  have hz_w12 := hb.size
  clear hb
  clear RY URY
  go_wp2_with fail
  refine (markT_any x0 usa a w4.heap.size w5.heap.size 1 _ TA.out UTA.out LA.out.1 LA.out.2 (by omega) (by omega)).mono ?_
  rintro e w13 ⟨rfl, tm, ho⟩
  replace B1 : Below w.heap.size w w13 := B1.trans ((ho.below (by omega)).mono (by omega))
  have hz_w13 := ho.2.2.2.1
  replace V0 : Hid (w13.ownsRow w3.heap.size 52 2 v0 A.length (cellsR (A))) := own_out V0.out ho (fun b e => .inl (by have := UV0.out b e; omega))
  replace RB : Hid (w13.ownsRow w5.heap.size 52 2 x1 b.length (cellsR (b))) := own_out RB.out ho (fun b e => .inr (by have := (RB.out.lt b e).1; omega))
  replace RG : Hid (w13.ownsRow w6.heap.size 52 2 g0 A.length (cellsR (A))) := own_out RG.out ho (fun b e => .inr (by have := (RG.out.lt b e).1; omega))
  clear tm ho
  clear TA UTA
  obtain ⟨k1, hk1⟩ : ∃ k, k = 1 + 2 * (offN a a.length : Int) := ⟨_, rfl⟩
  have k10 : 0 ≤ k1 := by omega
  have k11 : k1 ≤ 3000000000000 := by omega
  rw [← hk1]
  clear hk1
  go_wp2_with fail
  refine (markS_any x1 b w5.heap.size k1 _ (by omega) (by omega) (by omega) RB.out).mono ?_
  rintro e w14 ⟨rfl, tm, hg⟩
  have ho : Out w5.heap.size w6.heap.size w13 w14 := Out.of_grown hg (fun b e => ⟨(RB.out.lt b e).1, URB.out b e⟩)
  clear hg
  replace B1 : Below w.heap.size w w14 := B1.trans ((ho.below (by omega)).mono (by omega))
  have hz_w14 := ho.2.2.2.1
  replace V0 : Hid (w14.ownsRow w3.heap.size 52 2 v0 A.length (cellsR (A))) := own_out V0.out ho (fun b e => .inl (by have := UV0.out b e; omega))
  replace RG : Hid (w14.ownsRow w6.heap.size 52 2 g0 A.length (cellsR (A))) := own_out RG.out ho (fun b e => .inr (by have := (RG.out.lt b e).1; omega))
  clear tm ho
  clear RB URB
  obtain ⟨k2, hk2⟩ : ∃ k, k = k1 + 2 * (b.length : Int) := ⟨_, rfl⟩
  have k20 : 0 ≤ k2 := by omega
  have k21 : k2 ≤ 6000000000000 := by omega
  rw [← hk2]
  clear hk2
  go_wp2_with fail
  refine (eqS_any g0 v0 A _ (RdR.own RG.out).1 (RdR.own V0.out).1).mono ?_
  rintro e w15 ⟨rfl, hb⟩
  replace B1 := B1.trans (hb.mono B1.size)
  replace V0 : Hid (w15.ownsRow w3.heap.size 52 2 v0 A.length (cellsR (A))) := own_below V0.out hb
  replace RG : Hid (w15.ownsRow w6.heap.size 52 2 g0 A.length (cellsR (A))) := own_below RG.out hb
  have hz_w15 := hb.size
  clear hb
  go_wp2_with fail
  refine (markS_any g0 A w6.heap.size 1 _ (by omega) (by omega) (by omega) RG.out).mono ?_
  rintro e w16 ⟨rfl, tm, hg⟩
  have ho : Out w6.heap.size w7.heap.size w15 w16 := Out.of_grown hg (fun b e => ⟨(RG.out.lt b e).1, URG.out b e⟩)
  clear hg
  replace B1 : Below w.heap.size w w16 := B1.trans ((ho.below (by omega)).mono (by omega))
  have hz_w16 := ho.2.2.2.1
  replace V0 : Hid (w16.ownsRow w3.heap.size 52 2 v0 A.length (cellsR (A))) := own_out V0.out ho (fun b e => .inl (by have := UV0.out b e; omega))
  replace RG : Hid (w16.ownsRow w6.heap.size 52 2 g0 A.length (cellsR (mkF 1 A A.length))) := tm
  clear tm ho
  have HM0 : Hid (0 ≤ 1 + 2 * (A.length : Int)) := by show _ ≤ _; omega
  go_wp2_with fail
  refine (heldS_any g0 A 1 _ lA (by omega) (by omega) (RdR.own RG.out).1).mono ?_
  rintro e w17 ⟨rfl, mdr, hw⟩
  have hb : Below w16.heap.size w16 w17 := by rw [hw]; exact below_drewN (Below.refl _ _) _
  clear hw
  replace B1 := B1.trans (hb.mono B1.size)
  replace V0 : Hid (w17.ownsRow w3.heap.size 52 2 v0 A.length (cellsR (A))) := own_below V0.out hb
  replace RG : Hid (w17.ownsRow w6.heap.size 52 2 g0 A.length (cellsR (mkF 1 A A.length))) := own_below RG.out hb
  have hz_w17 := hb.size
  clear hb
  obtain ⟨mm, hmm⟩ : ∃ k, k = 1 + 2 * (A.length : Int) := ⟨_, rfl⟩
  have mm0 : 0 ≤ mm := by omega
  have mm1 : (mm != mm) = false := by simp
  have HMM : Hid (mm = 1 + 2 * (A.length : Int)) := hmm
  rw [← hmm]
  clear hmm
  go_wp2_with fail
  refine (HTA.out _ B1).mono ?_
  rintro e w18 ⟨y2, usp, rfl, t, hb⟩
  replace B1 := B1.trans (hb.mono B1.size)
  replace V0 : Hid (w18.ownsRow w3.heap.size 52 2 v0 A.length (cellsR (A))) := own_below V0.out hb
  replace RG : Hid (w18.ownsRow w6.heap.size 52 2 g0 A.length (cellsR (mkF 1 A A.length))) := own_below RG.out hb
  have hz_w18 := hb.size
  clear hb
  have TP : Hid (Tab w18 w17.heap.size y2 usp a) := t
  have UTP : Hid (Under w18.heap.size y2 usp) := t.under
  clear t
  go_wp2_with fail
  refine (HTB.out _ B1).mono ?_
  rintro e w19 ⟨y3, rfl, t, hb⟩
  replace B1 := B1.trans (hb.mono B1.size)
  replace TP : Hid (Tab w19 w17.heap.size y2 usp a) := Tab.below TP.out hb
  replace V0 : Hid (w19.ownsRow w3.heap.size 52 2 v0 A.length (cellsR (A))) := own_below V0.out hb
  replace RG : Hid (w19.ownsRow w6.heap.size 52 2 g0 A.length (cellsR (mkF 1 A A.length))) := own_below RG.out hb
  have hz_w19 := hb.size
  clear hb
  have RP : Hid (w19.ownsRow w18.heap.size 52 2 y3 b.length (cellsR (b))) := t
  have URP : Hid (∀ b, y3.ownBlock = some b → b < w19.heap.size) := fun b h => (t.lt b h).2
  clear t
  go_wp2_with fail
  refine (HI.out y2 y3 _ (Tab.read TP.out) (RdR.own RP.out).1).mono ?_
  rintro e w20 ⟨h0, rfl, t, hb⟩
  replace B1 := B1.trans (hb.mono B1.size)
  replace TP : Hid (Tab w20 w17.heap.size y2 usp a) := Tab.below TP.out hb
  replace V0 : Hid (w20.ownsRow w3.heap.size 52 2 v0 A.length (cellsR (A))) := own_below V0.out hb
  replace RG : Hid (w20.ownsRow w6.heap.size 52 2 g0 A.length (cellsR (mkF 1 A A.length))) := own_below RG.out hb
  replace RP : Hid (w20.ownsRow w18.heap.size 52 2 y3 b.length (cellsR (b))) := own_below RP.out hb
  have hz_w20 := hb.size
  clear hb
  have RH : Hid (w20.ownsRow w19.heap.size 52 2 h0 A.length (cellsR (A))) := t
  have URH : Hid (∀ b, h0.ownBlock = some b → b < w20.heap.size) := fun b h => (t.lt b h).2
  clear t
  clear TP UTP
  clear RP URP
  go_wp2_with fail
  refine (eqS_any h0 v0 A _ (RdR.own RH.out).1 (RdR.own V0.out).1).mono ?_
  rintro e w21 ⟨rfl, hb⟩
  replace B1 := B1.trans (hb.mono B1.size)
  replace V0 : Hid (w21.ownsRow w3.heap.size 52 2 v0 A.length (cellsR (A))) := own_below V0.out hb
  replace RG : Hid (w21.ownsRow w6.heap.size 52 2 g0 A.length (cellsR (mkF 1 A A.length))) := own_below RG.out hb
  replace RH : Hid (w21.ownsRow w19.heap.size 52 2 h0 A.length (cellsR (A))) := own_below RH.out hb
  have hz_w21 := hb.size
  clear hb
  clear RH URH
  go_wp2_with fail
  refine (heldS_any g0 A 1 _ lA (by omega) (by omega) (RdR.own RG.out).1).mono ?_
  rintro e w22 ⟨rfl, mdr, hw⟩
  have hb : Below w21.heap.size w21 w22 := by rw [hw]; exact below_drewN (Below.refl _ _) _
  clear hw
  replace B1 := B1.trans (hb.mono B1.size)
  replace V0 : Hid (w22.ownsRow w3.heap.size 52 2 v0 A.length (cellsR (A))) := own_below V0.out hb
  replace RG : Hid (w22.ownsRow w6.heap.size 52 2 g0 A.length (cellsR (mkF 1 A A.length))) := own_below RG.out hb
  have hz_w22 := hb.size
  clear hb
  rw [← HMM.out]
  go_wp2
  go_ret
  exact ⟨rfl, B1⟩
end Go.Proofs.Ytoofkhghpdnkhaj
