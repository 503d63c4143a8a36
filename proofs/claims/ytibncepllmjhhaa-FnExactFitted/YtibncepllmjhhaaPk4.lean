/- Several texts of this proof laid one behind the other: each has its own heading below. -/
import Derived.Test.YtibncepllmjhhaaFitP8
import Derived.Test.YtibncepllmjhhaaFitW8
import Derived.Test.YtibncepllmjhhaaTabW4
import Derived.Test.YtibncepllmjhhaaSpW0
import Derived.ProofKit
import Derived.OpenShut
import Derived.Lib.SmallJoins
import Derived.Deep.SlicePairs
import Derived.Test.YtibncepllmjhhaaRows
import Derived.ShutString
import Derived.ChangeOld
import Derived.Below
import Derived.Carry

/- The walk of the law of Fitted: both answers are the same, the program's in memory of its own, and the list that was handed in stays. -/
namespace Go.Proofs.Ytibncepllmjhhaa
open Go.RowKit Go.Proofs.Ytibncepllmjhhaa.RM

theorem fitA_small (ss : List Sp) (n : Int) : (fitA ss n).length ≤ 1048576 := by
  cases h : fitO ss n
  · rw [fitA_no h]; simp
  · unfold fitA
    rw [if_pos h, solX_len]
    unfold fitT
    rw [fitV_lenT]
    have hi : inB n 1 4 = true := by
      unfold fitO at h
      rw [Bool.and_eq_true, Bool.and_eq_true] at h
      exact h.2.1
    have : 1 ≤ n ∧ n ≤ 4 := of_decide_eq_true hi
    omega
set_option maxRecDepth 100000 in
set_option maxHeartbeats 4000000 in
theorem lawFitted (v0 : Value) (a0 : List Sp) (x1 : Int) (w : World) (h0 : RdS w v0 a0) :
    Calls Try.prog 6 #[v0, .int .i64 x1] w fun e w' => e = .returned (.bool true) ∧ Below w.heap.size w w' := by
  have H0 : Hid (RdS w v0 a0) := h0
  clear h0
  have B1 : Below w.heap.size w w := Below.refl _ _
  go_enter Try.func6, Try.ntmps6
  go_wp2_with fail
  refine (szSp_any v0 a0 1048576 _ H0.out (by omega) (by omega)).mono ?_
  rintro e w0 ⟨rfl, hw⟩
  obtain rfl := hw.symm
  clear hw
  by_cases hs0 : 1048576 - (a0.length : Int) < 0
  · rw [if_pos hs0]
    go_wp2
    go_ret
    exact ⟨rfl, B1⟩
  rw [if_neg hs0]
  have lb0 : a0.length ≤ 1048576 := by omega
  obtain ⟨r0, hr0⟩ : ∃ x, x = 1048576 - (a0.length : Int) := ⟨_, rfl⟩
  have r00 : 0 ≤ r0 := by omega
  have r01 : r0 ≤ 1048576 := by omega
  rw [← hr0]
  have HT0 : Hid (∀ W : World, Below w.heap.size w W → Calls Try.prog 10 #[v0] W fun e w' => ∃ u, e = .returned u ∧ w'.ownsRow W.heap.size 51 4 u a0.length (cellsS a0) ∧ Below W.heap.size W w') := by
    intro W hW; exact toSpS_any v0 a0 W (H0.out.below hW) lb0
  clear hr0 hs0
  obtain ⟨A, hA⟩ : ∃ A, A = fitA a0 x1 := ⟨_, rfl⟩
  obtain ⟨q, hq⟩ : ∃ q, q = fitO a0 x1 := ⟨_, rfl⟩
  have HS : Hid (∀ (u0 : Value) (W : World), RdS W u0 a0 → Calls Try.prog 22 #[u0, .int .i64 x1] W fun e w' => ∃ v, e = .returned (.tuple #[v, .bool q]) ∧ w'.ownsRow W.heap.size 33 2 v A.length (cellsR A) ∧ Below W.heap.size W w') := by
    intro u0 W g0; have := sFitted_any u0 a0 x1 W g0; rw [← hA, ← hq] at this; exact this
  have HI : Hid (∀ (u0 : Value) (W : World), RdS W u0 a0 → Calls Try.prog 23 #[u0, .int .i64 x1] W fun e w' => ∃ v, e = .returned (.tuple #[v, .bool q]) ∧ w'.ownsRow W.heap.size 33 2 v A.length (cellsR A) ∧ Below W.heap.size W w') := by
    intro u0 W g0; have := iFitted_any u0 a0 x1 W g0; rw [← hA, ← hq] at this; exact this
  have lA : A.length ≤ 1048576 := by rw [hA]; exact fitA_small a0 x1
  have e1 : (q != q) = false := by simp
  clear hA hq H0
  go_wp2_with fail
  refine (HT0.out _ B1).mono ?_
  rintro e w2 ⟨c0, rfl, t, hb⟩
  replace B1 := B1.trans (hb.mono B1.size)
  have hz_w2 := hb.size
  clear hb
  have C0 : Hid (w2.ownsRow w.heap.size 51 4 c0 a0.length (cellsS (a0))) := t
  have UC0 : Hid (∀ b, c0.ownBlock = some b → b < w2.heap.size) := fun b h => (t.lt b h).2
  clear t
  go_wp2_with fail
  refine (HS.out c0 _ (RdS.own C0.out).1).mono ?_
  rintro e w3 ⟨vv, rfl, t, hb⟩
  replace B1 := B1.trans (hb.mono B1.size)
  replace C0 : Hid (w3.ownsRow w.heap.size 51 4 c0 a0.length (cellsS (a0))) := own_below C0.out hb
  have hz_w3 := hb.size
  clear hb
  have V0 : Hid (w3.ownsRow w2.heap.size 33 2 vv A.length (cellsR (A))) := t
  have UV0 : Hid (∀ b, vv.ownBlock = some b → b < w3.heap.size) := fun b h => (t.lt b h).2
  clear t
  clear C0 UC0
  go_wp2_with fail
  refine (HT0.out _ B1).mono ?_
  rintro e w4 ⟨xx0, rfl, t, hb⟩
  replace B1 := B1.trans (hb.mono B1.size)
  replace V0 : Hid (w4.ownsRow w2.heap.size 33 2 vv A.length (cellsR (A))) := own_below V0.out hb
  have hz_w4 := hb.size
  clear hb
  have X0 : Hid (w4.ownsRow w3.heap.size 51 4 xx0 a0.length (cellsS (a0))) := t
  have UX0 : Hid (∀ b, xx0.ownBlock = some b → b < w4.heap.size) := fun b h => (t.lt b h).2
  clear t
  go_wp2_with fail
  refine (HI.out xx0 _ (RdS.own X0.out).1).mono ?_
  rintro e w5 ⟨gg, rfl, t, hb⟩
  replace B1 := B1.trans (hb.mono B1.size)
  replace V0 : Hid (w5.ownsRow w2.heap.size 33 2 vv A.length (cellsR (A))) := own_below V0.out hb
  replace X0 : Hid (w5.ownsRow w3.heap.size 51 4 xx0 a0.length (cellsS (a0))) := own_below X0.out hb
  have hz_w5 := hb.size
  clear hb
  have G0 : Hid (w5.ownsRow w4.heap.size 33 2 gg A.length (cellsR (A))) := t
  have UG0 : Hid (∀ b, gg.ownBlock = some b → b < w5.heap.size) := fun b h => (t.lt b h).2
  clear t
  go_wp2_with fail
  refine (eqS_any gg vv A _ (RdR.own G0.out).1 (RdR.own V0.out).1).mono ?_
  rintro e w6 ⟨rfl, hb⟩
  replace B1 := B1.trans (hb.mono B1.size)
  replace V0 : Hid (w6.ownsRow w2.heap.size 33 2 vv A.length (cellsR (A))) := own_below V0.out hb
  replace X0 : Hid (w6.ownsRow w3.heap.size 51 4 xx0 a0.length (cellsS (a0))) := own_below X0.out hb
  replace G0 : Hid (w6.ownsRow w4.heap.size 33 2 gg A.length (cellsR (A))) := own_below G0.out hb
  have hz_w6 := hb.size
  clear hb
  go_wp2_with fail
  refine (HT0.out _ B1).mono ?_
  rintro e w7 ⟨yy0, rfl, t, hb⟩
  replace B1 := B1.trans (hb.mono B1.size)
  replace V0 : Hid (w7.ownsRow w2.heap.size 33 2 vv A.length (cellsR (A))) := own_below V0.out hb
  replace X0 : Hid (w7.ownsRow w3.heap.size 51 4 xx0 a0.length (cellsS (a0))) := own_below X0.out hb
  replace G0 : Hid (w7.ownsRow w4.heap.size 33 2 gg A.length (cellsR (A))) := own_below G0.out hb
  have hz_w7 := hb.size
  clear hb
  have Y0 : Hid (w7.ownsRow w6.heap.size 51 4 yy0 a0.length (cellsS (a0))) := t
  have UY0 : Hid (∀ b, yy0.ownBlock = some b → b < w7.heap.size) := fun b h => (t.lt b h).2
  clear t
  go_wp2_with fail
  refine (eqSpS_any xx0 yy0 a0 _ (RdS.own X0.out).1 (RdS.own Y0.out).1).mono ?_
  rintro e w8 ⟨rfl, hb⟩
  replace B1 := B1.trans (hb.mono B1.size)
  replace V0 : Hid (w8.ownsRow w2.heap.size 33 2 vv A.length (cellsR (A))) := own_below V0.out hb
  replace X0 : Hid (w8.ownsRow w3.heap.size 51 4 xx0 a0.length (cellsS (a0))) := own_below X0.out hb
  replace G0 : Hid (w8.ownsRow w4.heap.size 33 2 gg A.length (cellsR (A))) := own_below G0.out hb
  replace Y0 : Hid (w8.ownsRow w6.heap.size 51 4 yy0 a0.length (cellsS (a0))) := own_below Y0.out hb
  have hz_w8 := hb.size
  clear hb
  clear Y0 UY0
  go_wp2_with fail
  refine (markSp_any xx0 a0 w3.heap.size 1 _ (by omega) (by omega) (by omega) X0.out).mono ?_
  rintro e w9 ⟨rfl, tm, hg⟩
  have ho : Out w3.heap.size w4.heap.size w8 w9 := Out.of_grown hg (fun b e => ⟨(X0.out.lt b e).1, UX0.out b e⟩)
  clear hg
  replace B1 : Below w.heap.size w w9 := B1.trans ((ho.below (by omega)).mono (by omega))
  have hz_w9 := ho.2.2.2.1
  replace V0 : Hid (w9.ownsRow w2.heap.size 33 2 vv A.length (cellsR (A))) := own_out V0.out ho (fun b e => .inl (by have := UV0.out b e; omega))
  replace G0 : Hid (w9.ownsRow w4.heap.size 33 2 gg A.length (cellsR (A))) := own_out G0.out ho (fun b e => .inr (by have := (G0.out.lt b e).1; omega))
  clear tm ho
  clear X0 UX0
  obtain ⟨k0, hk0⟩ : ∃ k, k = 1 + 4 * (a0.length : Int) := ⟨_, rfl⟩
  have k00 : 0 ≤ k0 := by omega
  have k01 : k0 ≤ 3000000000000 := by omega
  rw [← hk0]
  clear hk0
  go_wp2_with fail
  refine (eqS_any gg vv A _ (RdR.own G0.out).1 (RdR.own V0.out).1).mono ?_
  rintro e w10 ⟨rfl, hb⟩
  replace B1 := B1.trans (hb.mono B1.size)
  replace V0 : Hid (w10.ownsRow w2.heap.size 33 2 vv A.length (cellsR (A))) := own_below V0.out hb
  replace G0 : Hid (w10.ownsRow w4.heap.size 33 2 gg A.length (cellsR (A))) := own_below G0.out hb
  have hz_w10 := hb.size
  clear hb
  go_wp2_with fail
  refine (markS_any gg A w4.heap.size 1 _ (by omega) (by omega) (by omega) G0.out).mono ?_
  rintro e w11 ⟨rfl, tm, hg⟩
  have ho : Out w4.heap.size w5.heap.size w10 w11 := Out.of_grown hg (fun b e => ⟨(G0.out.lt b e).1, UG0.out b e⟩)
  clear hg
  replace B1 : Below w.heap.size w w11 := B1.trans ((ho.below (by omega)).mono (by omega))
  have hz_w11 := ho.2.2.2.1
  replace V0 : Hid (w11.ownsRow w2.heap.size 33 2 vv A.length (cellsR (A))) := own_out V0.out ho (fun b e => .inl (by have := UV0.out b e; omega))
  replace G0 : Hid (w11.ownsRow w4.heap.size 33 2 gg A.length (cellsR (mkF 1 A A.length))) := tm
  clear tm ho
  have HM0 : Hid (0 ≤ 1 + 2 * (A.length : Int)) := by show _ ≤ _; omega
  go_wp2_with fail
  refine (heldS_any gg A 1 _ lA (by omega) (by omega) (RdR.own G0.out).1).mono ?_
  rintro e w12 ⟨rfl, mdr, hw⟩
  have hb : Below w11.heap.size w11 w12 := by rw [hw]; exact below_drewN (Below.refl _ _) _
  clear hw
  replace B1 := B1.trans (hb.mono B1.size)
  replace V0 : Hid (w12.ownsRow w2.heap.size 33 2 vv A.length (cellsR (A))) := own_below V0.out hb
  replace G0 : Hid (w12.ownsRow w4.heap.size 33 2 gg A.length (cellsR (mkF 1 A A.length))) := own_below G0.out hb
  have hz_w12 := hb.size
  clear hb
  obtain ⟨mm, hmm⟩ : ∃ k, k = 1 + 2 * (A.length : Int) := ⟨_, rfl⟩
  have mm0 : 0 ≤ mm := by omega
  have mm1 : (mm != mm) = false := by simp
  have HMM : Hid (mm = 1 + 2 * (A.length : Int)) := hmm
  rw [← hmm]
  clear hmm
  go_wp2_with fail
  refine (HT0.out _ B1).mono ?_
  rintro e w13 ⟨pp0, rfl, t, hb⟩
  replace B1 := B1.trans (hb.mono B1.size)
  replace V0 : Hid (w13.ownsRow w2.heap.size 33 2 vv A.length (cellsR (A))) := own_below V0.out hb
  replace G0 : Hid (w13.ownsRow w4.heap.size 33 2 gg A.length (cellsR (mkF 1 A A.length))) := own_below G0.out hb
  have hz_w13 := hb.size
  clear hb
  have P0 : Hid (w13.ownsRow w12.heap.size 51 4 pp0 a0.length (cellsS (a0))) := t
  have UP0 : Hid (∀ b, pp0.ownBlock = some b → b < w13.heap.size) := fun b h => (t.lt b h).2
  clear t
  go_wp2_with fail
  refine (HI.out pp0 _ (RdS.own P0.out).1).mono ?_
  rintro e w14 ⟨hh, rfl, t, hb⟩
  replace B1 := B1.trans (hb.mono B1.size)
  replace V0 : Hid (w14.ownsRow w2.heap.size 33 2 vv A.length (cellsR (A))) := own_below V0.out hb
  replace G0 : Hid (w14.ownsRow w4.heap.size 33 2 gg A.length (cellsR (mkF 1 A A.length))) := own_below G0.out hb
  replace P0 : Hid (w14.ownsRow w12.heap.size 51 4 pp0 a0.length (cellsS (a0))) := own_below P0.out hb
  have hz_w14 := hb.size
  clear hb
  have H9 : Hid (w14.ownsRow w13.heap.size 33 2 hh A.length (cellsR (A))) := t
  have UH9 : Hid (∀ b, hh.ownBlock = some b → b < w14.heap.size) := fun b h => (t.lt b h).2
  clear t
  clear P0 UP0
  go_wp2_with fail
  refine (eqS_any hh vv A _ (RdR.own H9.out).1 (RdR.own V0.out).1).mono ?_
  rintro e w15 ⟨rfl, hb⟩
  replace B1 := B1.trans (hb.mono B1.size)
  replace V0 : Hid (w15.ownsRow w2.heap.size 33 2 vv A.length (cellsR (A))) := own_below V0.out hb
  replace G0 : Hid (w15.ownsRow w4.heap.size 33 2 gg A.length (cellsR (mkF 1 A A.length))) := own_below G0.out hb
  replace H9 : Hid (w15.ownsRow w13.heap.size 33 2 hh A.length (cellsR (A))) := own_below H9.out hb
  have hz_w15 := hb.size
  clear hb
  clear H9 UH9
  go_wp2_with fail
  refine (heldS_any gg A 1 _ lA (by omega) (by omega) (RdR.own G0.out).1).mono ?_
  rintro e w16 ⟨rfl, mdr, hw⟩
  have hb : Below w15.heap.size w15 w16 := by rw [hw]; exact below_drewN (Below.refl _ _) _
  clear hw
  replace B1 := B1.trans (hb.mono B1.size)
  replace V0 : Hid (w16.ownsRow w2.heap.size 33 2 vv A.length (cellsR (A))) := own_below V0.out hb
  replace G0 : Hid (w16.ownsRow w4.heap.size 33 2 gg A.length (cellsR (mkF 1 A A.length))) := own_below G0.out hb
  have hz_w16 := hb.size
  clear hb
  rw [← HMM.out]
  go_wp2
  go_ret
  exact ⟨rfl, B1⟩
end Go.Proofs.Ytibncepllmjhhaa

/- A row of spots that came in, opened. -/
namespace Go.Proofs.Ytibncepllmjhhaa
open Go.ChangeShapes Go.WideShapes Go.ChangeAt Go.RowKit Go.Deep Go.Joins

theorem cellsSp4 : Try.prog.cellsOf 54 = 4 := by kernel_rfl
theorem cellsSp2 : Try.prog.cellsOf 31 = 2 := by kernel_rfl
theorem cellsSp1 : Try.prog.cellsOf 2 = 1 := by kernel_rfl
theorem plain_addS {b off : Nat} (i : Nat) : (⟨b, off, none⟩ : Addr).add i = ⟨b, off + i, none⟩ := by
  by_cases i0 : i = 0 <;> simp [Addr.add, i0]
theorem open_twoS {H : Type} {enc : TypeId × Value → H} {W : World} {n : Nat} {c0 c1 : Value} {y : DataW H × List MemPlace} (h : DataW.trod enc Try.prog W 0 (fun _ => true) true n 31 [c0, c1] = some y) : ∃ x0 x1, c0 = .int .i64 x0 ∧ c1 = .int .i64 x1 := by
  obtain ⟨z0, z1, m, hx2, _, g0, g1⟩ := trod_struct2 Try.underlying31 h
  rw [cellsSp1] at g0 g1
  have g0' : DataW.trod enc Try.prog W 0 (fun _ => true) true m 2 [c0] = some z0 := g0
  have g1' : DataW.trod enc Try.prog W 0 (fun _ => true) true m 2 [c1] = some z1 := g1
  obtain ⟨x0, l0, e0, _⟩ := DataW.trod_int Try.underlying2 g0'
  obtain ⟨x1, l1, e1, _⟩ := DataW.trod_int Try.underlying2 g1'
  simp at l0 l1
  exact ⟨x0, x1, l0, l1⟩

set_option maxRecDepth 100000 in
theorem open_srow {H : Type} {enc : TypeId × Value → H} {W : World} {fuel : Nat} {v : Value} {x : DataW H × List MemPlace} (h : DataW.trod enc Try.prog W 0 (fun _ => true) true fuel 22 [v] = some x) : ∃ ss, RdS W v ss := by
  rcases open_slice Try.underlying22 h with ⟨hcs, _⟩ | ⟨a, len, cap, m, n, D, Pl, hcs, _, hl, hm, hmm, _, hx⟩
  · injection hcs with hcs _
    subst hcs
    exact ⟨[], none, 0, rfl, Nat.zero_le _, Nat.le_refl _, Nat.zero_le _, fun j hj => absurd hj (Nat.not_lt_zero _)⟩
  · injection hcs with hcs _
    subst hcs
    simp only [if_true] at hmm
    subst hmm
    have each : ∀ i, i < m → ∃ p : Sp, W.cell? (a.add (i * 4)) = some (.int .i64 p.1.1) ∧ W.cell? ((a.add (i * 4)).add 1) = some (.int .i64 p.1.2) ∧ W.cell? ((a.add (i * 4)).add 2) = some (.int .i64 p.2.1) ∧ W.cell? ((a.add (i * 4)).add 3) = some (.int .i64 p.2.2) := by
      intro i hi
      obtain ⟨cs', h1, h2⟩ := hx i hi
      rw [cellsSp4] at h1
      obtain ⟨_, hlen, hcell⟩ := World.cells?_some h1
      match cs', hlen, hcell, h2 with
      | [c0, c1, c2, c3], _, hcell, h2 =>
        obtain ⟨y0, y1, k, hx2, _, h0, h1'⟩ := trod_struct2 Try.underlying54 h2
        rw [cellsSp2] at h0 h1'
        have h0' : DataW.trod enc Try.prog W 0 (fun _ => true) true k 31 [c0, c1] = some y0 := h0
        have h1'' : DataW.trod enc Try.prog W 0 (fun _ => true) true k 31 [c2, c3] = some y1 := h1'
        obtain ⟨x0, x1, e0, e1⟩ := open_twoS h0'
        obtain ⟨x2, x3, e2, e3⟩ := open_twoS h1''
        subst e0 e1 e2 e3
        have k0 := hcell 0 (by omega)
        have k1 := hcell 1 (by omega)
        have k2 := hcell 2 (by omega)
        have k3 := hcell 3 (by omega)
        refine ⟨((x0, x1), (x2, x3)), ?_, by simpa using k1, by simpa using k2, by simpa using k3⟩
        have : ((a.add (i * 4)).add 0) = a.add (i * 4) := by simp [Addr.add]
        rw [this] at k0
        simpa using k0
    obtain ⟨f, hf⟩ := choose_lt each
    obtain ⟨b, off, spot⟩ := a
    refine ⟨(List.range len).map f, some ⟨b, off, spot⟩, m, by simp, by simp; omega, by simp; exact hl, hm, fun j hj => ?_⟩
    simp at hj
    obtain ⟨k1, k2, k3, k4⟩ := hf j (by omega)
    have hspot : spot = none := by
      obtain ⟨k0, _⟩ := hf 0 (by omega)
      simpa [Addr.add] using World.cell?_spot k0
    subst hspot
    rw [plain_addS] at k1 k2 k3 k4
    rw [plain_addS] at k2 k3 k4
    have e : sp ((List.range len).map f) j = f j := by unfold sp; simp [hj]
    rw [e]
    exact ⟨b, off, rfl, k1, k2, k3, k4⟩
end Go.Proofs.Ytibncepllmjhhaa

/- At every list of spots and every number Fitted answers as its model, in memory of its own, and the list stays. No condition. -/
namespace Go.Proofs.Ytibncepllmjhhaa.LawExactFitted
open Go.ChangeShapes Go.WideShapes Go.ChangeAt Go.RowKit Go.Joins
set_option linter.unusedVariables false

theorem own : ownKnob Try.prog.godebug = none := by kernel_rfl
theorem laidOut : laidOutB Try.prog = true := by kernel_rfl

set_option maxRecDepth 100000 in
set_option maxHeartbeats 800000 in
theorem lifted (os : Os) (started : os.Started) (H : Type) (enc : TypeId × Value → H) :
    ReturnsInHanded {} Try.checked os 6 .any (Rows.fnExactFittedSpec.pre6 enc Try.prog Try.f6 Rows.fnExactFittedRow.domain false) (Rows.fnExactFittedSpec.post enc Try.prog Try.f6 false true false false) := by
  refine returnsInHanded_of_change (C := Try.checked) own started (by kernel_rfl) Try.func6
    (ChangeSpec.witness6 (enc := enc) (C := Try.checked) false ⟨#[], #[.slice none 0 0, .int .i64 0], []⟩ 8 (by kernel_rfl) (by kernel_rfl) (by kernel_rfl) (by kernel_rfl)) ?_
  intro W base args ds gs before hval0 hW hcnd _
  have hval : ∀ (j : Nat) t v, Try.f6.params[j]? = some t → args[j]? = some v → Value.okWide Try.prog W .any base t v := hval0
  have hW' := hW
  obtain ⟨p, q, hA0, hV, rfl, hfz, hnd⟩ := hW
  have hA : DataW.TrodAll enc Try.prog W 0 (fun _ => true) true Try.f6.params.toList args.toList ds p := hA0
  rw [Try.params6] at hA hval
  obtain ⟨v0, vs0, d0, ds0, p0, q0, hargs, rfl, rfl, h0, r_0⟩ := trodAll_cons hA
  obtain ⟨v1, vs1, d1, ds1, p1, q1, rfl, rfl, rfl, h1, r_1⟩ := trodAll_cons r_0
  obtain ⟨rfl, rfl, rfl⟩ := trodAll_nil r_1
  obtain rfl : args = #[v0, v1] := by cases args; simp_all
  obtain ⟨rfl, rfl⟩ := trodVars_none hV
  have k0 := h0
  have lt0 : ∀ x ∈ p0, x.block < W.heap.size := by obtain ⟨m, hm⟩ := k0; exact DataW.trod_lt m _ _ _ hm
  obtain ⟨x0, len0, cap0, rfl⟩ := okWide_slice Try.underlying22 (hval 0 22 v0 rfl rfl)
  obtain ⟨z0, wx0⟩ : ∃ rows, RdS W (.slice x0 len0 cap0) rows := by
    obtain ⟨fuel, hf⟩ := h0
    exact open_srow (by simpa [Value.cells] using hf)
  have k1 := h1
  have lt1 : ∀ x ∈ p1, x.block < W.heap.size := by obtain ⟨m, hm⟩ := k1; exact DataW.trod_lt m _ _ _ hm
  obtain ⟨x1, rfl, rfl, rfl, wx1⟩ := open_int Try.underlying2 (hval 1 2 v1 rfl rfl) h1
  clear hA0 hval0
  refine (lawFitted (.slice x0 len0 cap0) z0 x1 W wx0).mono fun e W' ⟨he, bel⟩ => ?_
  subst he
  exact ⟨_, rfl, _, _, _, [], _, [], hW', trodAll_mk1 (shut_bool Try.underlying4 _), (trodAll_cons_mk (Below.trod laidOut (by kernel_rfl) (of_decide_eq_true (by kernel_rfl)) k0 bel lt0) (trodAll_cons_mk (Below.trod laidOut (by kernel_rfl) (of_decide_eq_true (by kernel_rfl)) k1 bel lt1) trodAll_mk0)), rfl, bel.frame _, fun h => by cases h⟩

/-- At every list of spots and every number Fitted answers as its model, in memory of its own, and the list stays. No condition. -/
theorem proved : Rows.FnExactFittedSaid :=
  OpenClaim.holds_of_wide 6 Try.f6 rfl rfl rfl rfl rfl rfl rfl ⟨rfl, rfl, rfl, rfl, rfl⟩ rfl rfl rfl rfl rfl (by kernel_rfl) Try.func6 (by kernel_rfl)
    (of_decide_eq_true (by kernel_rfl)) (by unfold Func.isWrapper; first | (rw [if_pos (by decide +kernel)]; kernel_rfl) | (rw [if_neg (by decide +kernel)]; exact ⟨rfl, rfl⟩))
    (fun os started H enc _ => lifted os started H enc)
#print axioms proved
end Go.Proofs.Ytibncepllmjhhaa.LawExactFitted
