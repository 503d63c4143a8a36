/- The walk of the law of Outside: both answers are the same, the program's in memory of its own, and the list that was handed in stays. -/
import Derived.Test.YthdogphpjflklaaAgrP6
import Derived.Test.YthdogphpjflklaaAgrW6
import Derived.Test.YthdogphpjflklaaTabW4
import Derived.Test.YthdogphpjflklaaRowsW
namespace Go.Proofs.Ythdogphpjflklaa
open Go.RowKit Go.Proofs.Ythdogphpjflklaa.RM

set_option maxRecDepth 100000 in
set_option maxHeartbeats 4000000 in
theorem lawOutside (v0 : Value) (a0 : List Fr) (x1 : Int) (w : World) (h0 : RdR w v0 a0) :
    Calls Try.prog 7 #[v0, .int .i64 x1] w fun e w' => e = .returned (.bool true) ∧ Below w.heap.size w w' := by
  have H0 : Hid (RdR w v0 a0) := h0
  clear h0
  have B1 : Below w.heap.size w w := Below.refl _ _
  go_enter Try.func7, Try.ntmps7
  go_wp2_with fail
  refine (szS_any v0 a0 1048576 _ H0.out (by omega) (by omega)).mono ?_
  rintro e w0 ⟨rfl, hw⟩
  obtain rfl := hw.symm
  clear hw
  by_cases hs0 : 1048576 - (a0.length : Int) < 0
  · rw [if_pos hs0]
    go_wp2
    go_ret
    exact ⟨rfl, B1⟩
  rw [if_neg hs0]
  have lb0 : a0.length ≤ 1048576 := by omega
  obtain ⟨r0, hr0⟩ : ∃ x, x = 1048576 - (a0.length : Int) := ⟨_, rfl⟩
  have r00 : 0 ≤ r0 := by omega
  have r01 : r0 ≤ 1048576 := by omega
  rw [← hr0]
  have HT0 : Hid (∀ W : World, Below w.heap.size w W → Calls Try.prog 19 #[v0] W fun e w' => ∃ u, e = .returned u ∧ w'.ownsRow W.heap.size 29 2 u a0.length (cellsR a0) ∧ Below W.heap.size W w') := by
    intro W hW; exact toS_any v0 a0 W (H0.out.below hW) lb0
  clear hr0 hs0
  obtain ⟨A, hA⟩ : ∃ A, A = outA a0 x1 := ⟨_, rfl⟩
  have HS : Hid (∀ (u0 : Value) (W : World), RdR W u0 a0 → Calls Try.prog 25 #[u0, .int .i64 x1] W fun e w' => ∃ v, e = .returned v ∧ w'.ownsRow W.heap.size 2 1 v A.length (List.map (Value.int .i64) A) ∧ Below W.heap.size W w') := by
    intro u0 W g0; have := sOutside_any u0 a0 x1 W g0; rw [← hA] at this; exact this
  have HI : Hid (∀ (u0 : Value) (W : World), RdR W u0 a0 → Calls Try.prog 26 #[u0, .int .i64 x1] W fun e w' => ∃ v, e = .returned v ∧ w'.ownsRow W.heap.size 2 1 v A.length (List.map (Value.int .i64) A) ∧ Below W.heap.size W w') := by
    intro u0 W g0; have := iOutside_any u0 a0 x1 W g0 lb0; rw [← hA] at this; exact this
  have lA : A.length ≤ 1048576 := by rw [hA]; exact outA_small a0 x1
  clear hA H0
  go_wp2_with fail
  refine (HT0.out _ B1).mono ?_
  rintro e w2 ⟨c0, rfl, t, hb⟩
  replace B1 := B1.trans (hb.mono B1.size)
  have hz_w2 := hb.size
  clear hb
  have C0 : Hid (w2.ownsRow w.heap.size 29 2 c0 a0.length (cellsR (a0))) := t
  have UC0 : Hid (∀ b, c0.ownBlock = some b → b < w2.heap.size) := fun b h => (t.lt b h).2
  clear t
  go_wp2_with fail
  refine (HS.out c0 _ (RdR.own C0.out).1).mono ?_
  rintro e w3 ⟨vv, rfl, t, hb⟩
  replace B1 := B1.trans (hb.mono B1.size)
  replace C0 : Hid (w3.ownsRow w.heap.size 29 2 c0 a0.length (cellsR (a0))) := own_below C0.out hb
  have hz_w3 := hb.size
  clear hb
  have V0 : Hid (w3.ownsRow w2.heap.size 2 1 vv A.length (List.map (Value.int .i64) (A))) := t
  have UV0 : Hid (∀ b, vv.ownBlock = some b → b < w3.heap.size) := fun b h => (t.lt b h).2
  clear t
  clear C0 UC0
  go_wp2_with fail
  refine (HT0.out _ B1).mono ?_
  rintro e w4 ⟨xx0, rfl, t, hb⟩
  replace B1 := B1.trans (hb.mono B1.size)
  replace V0 : Hid (w4.ownsRow w2.heap.size 2 1 vv A.length (List.map (Value.int .i64) (A))) := own_below V0.out hb
  have hz_w4 := hb.size
  clear hb
  have X0 : Hid (w4.ownsRow w3.heap.size 29 2 xx0 a0.length (cellsR (a0))) := t
  have UX0 : Hid (∀ b, xx0.ownBlock = some b → b < w4.heap.size) := fun b h => (t.lt b h).2
  clear t
  go_wp2_with fail
  refine (HI.out xx0 _ (RdR.own X0.out).1).mono ?_
  rintro e w5 ⟨gg, rfl, t, hb⟩
  replace B1 := B1.trans (hb.mono B1.size)
  replace V0 : Hid (w5.ownsRow w2.heap.size 2 1 vv A.length (List.map (Value.int .i64) (A))) := own_below V0.out hb
  replace X0 : Hid (w5.ownsRow w3.heap.size 29 2 xx0 a0.length (cellsR (a0))) := own_below X0.out hb
  have hz_w5 := hb.size
  clear hb
  have G0 : Hid (w5.ownsRow w4.heap.size 2 1 gg A.length (List.map (Value.int .i64) (A))) := t
  have UG0 : Hid (∀ b, gg.ownBlock = some b → b < w5.heap.size) := fun b h => (t.lt b h).2
  clear t
  go_wp2_with fail
  refine (eqI_same gg vv A A.length _ _ _ rfl (by omega) G0.out V0.out).mono ?_
  rintro e w6 ⟨rfl, mdr, hw⟩
  have hb : Below w5.heap.size w5 w6 := by rw [hw]; exact below_drewN (Below.refl _ _) _
  clear hw
  replace B1 := B1.trans (hb.mono B1.size)
  replace V0 : Hid (w6.ownsRow w2.heap.size 2 1 vv A.length (List.map (Value.int .i64) (A))) := own_below V0.out hb
  replace X0 : Hid (w6.ownsRow w3.heap.size 29 2 xx0 a0.length (cellsR (a0))) := own_below X0.out hb
  replace G0 : Hid (w6.ownsRow w4.heap.size 2 1 gg A.length (List.map (Value.int .i64) (A))) := own_below G0.out hb
  have hz_w6 := hb.size
  clear hb
  go_wp2_with fail
  refine (HT0.out _ B1).mono ?_
  rintro e w7 ⟨yy0, rfl, t, hb⟩
  replace B1 := B1.trans (hb.mono B1.size)
  replace V0 : Hid (w7.ownsRow w2.heap.size 2 1 vv A.length (List.map (Value.int .i64) (A))) := own_below V0.out hb
  replace X0 : Hid (w7.ownsRow w3.heap.size 29 2 xx0 a0.length (cellsR (a0))) := own_below X0.out hb
  replace G0 : Hid (w7.ownsRow w4.heap.size 2 1 gg A.length (List.map (Value.int .i64) (A))) := own_below G0.out hb
  have hz_w7 := hb.size
  clear hb
  have Y0 : Hid (w7.ownsRow w6.heap.size 29 2 yy0 a0.length (cellsR (a0))) := t
  have UY0 : Hid (∀ b, yy0.ownBlock = some b → b < w7.heap.size) := fun b h => (t.lt b h).2
  clear t
  go_wp2_with fail
  refine (eqS_any xx0 yy0 a0 _ (RdR.own X0.out).1 (RdR.own Y0.out).1).mono ?_
  rintro e w8 ⟨rfl, hb⟩
  replace B1 := B1.trans (hb.mono B1.size)
  replace V0 : Hid (w8.ownsRow w2.heap.size 2 1 vv A.length (List.map (Value.int .i64) (A))) := own_below V0.out hb
  replace X0 : Hid (w8.ownsRow w3.heap.size 29 2 xx0 a0.length (cellsR (a0))) := own_below X0.out hb
  replace G0 : Hid (w8.ownsRow w4.heap.size 2 1 gg A.length (List.map (Value.int .i64) (A))) := own_below G0.out hb
  replace Y0 : Hid (w8.ownsRow w6.heap.size 29 2 yy0 a0.length (cellsR (a0))) := own_below Y0.out hb
  have hz_w8 := hb.size
  clear hb
  clear Y0 UY0
  go_wp2_with fail
  refine (markS_any xx0 a0 w3.heap.size 1 _ (by omega) (by omega) (by omega) X0.out).mono ?_
  rintro e w9 ⟨rfl, tm, hg⟩
  have ho : Out w3.heap.size w4.heap.size w8 w9 := Out.of_grown hg (fun b e => ⟨(X0.out.lt b e).1, UX0.out b e⟩)
  clear hg
  replace B1 : Below w.heap.size w w9 := B1.trans ((ho.below (by omega)).mono (by omega))
  have hz_w9 := ho.2.2.2.1
  replace V0 : Hid (w9.ownsRow w2.heap.size 2 1 vv A.length (List.map (Value.int .i64) (A))) := own_out V0.out ho (fun b e => .inl (by have := UV0.out b e; omega))
  replace G0 : Hid (w9.ownsRow w4.heap.size 2 1 gg A.length (List.map (Value.int .i64) (A))) := own_out G0.out ho (fun b e => .inr (by have := (G0.out.lt b e).1; omega))
  clear tm ho
  clear X0 UX0
  obtain ⟨k0, hk0⟩ : ∃ k, k = 1 + 2 * (a0.length : Int) := ⟨_, rfl⟩
  have k00 : 0 ≤ k0 := by omega
  have k01 : k0 ≤ 3000000000000 := by omega
  rw [← hk0]
  clear hk0
  go_wp2_with fail
  refine (eqI_same gg vv A A.length _ _ _ rfl (by omega) G0.out V0.out).mono ?_
  rintro e w10 ⟨rfl, mdr, hw⟩
  have hb : Below w9.heap.size w9 w10 := by rw [hw]; exact below_drewN (Below.refl _ _) _
  clear hw
  replace B1 := B1.trans (hb.mono B1.size)
  replace V0 : Hid (w10.ownsRow w2.heap.size 2 1 vv A.length (List.map (Value.int .i64) (A))) := own_below V0.out hb
  replace G0 : Hid (w10.ownsRow w4.heap.size 2 1 gg A.length (List.map (Value.int .i64) (A))) := own_below G0.out hb
  have hz_w10 := hb.size
  clear hb
  go_wp2_with fail
  refine (markI_any gg A A.length w4.heap.size _ rfl (by omega) G0.out).mono ?_
  rintro e w11 ⟨rfl, tm, hg⟩
  have ho : Out w4.heap.size w5.heap.size w10 w11 := Out.of_grown hg (fun b e => ⟨(G0.out.lt b e).1, UG0.out b e⟩)
  clear hg
  replace B1 : Below w.heap.size w w11 := B1.trans ((ho.below (by omega)).mono (by omega))
  have hz_w11 := ho.2.2.2.1
  replace V0 : Hid (w11.ownsRow w2.heap.size 2 1 vv A.length (List.map (Value.int .i64) (A))) := own_out V0.out ho (fun b e => .inl (by have := UV0.out b e; omega))
  replace G0 : Hid (w11.ownsRow w4.heap.size 2 1 gg A.length (List.map (Value.int .i64) (mrk 1 A A.length))) := tm
  clear tm ho
  have HM0 : Hid (0 ≤ 1 + (A.length : Int)) := by show _ ≤ _; omega
  go_wp2_with fail
  refine (heldI_any gg A A.length _ _ rfl (by omega) G0.out).mono ?_
  rintro e w12 ⟨rfl, mdr, hw⟩
  have hb : Below w11.heap.size w11 w12 := by rw [hw]; exact below_drewN (Below.refl _ _) _
  clear hw
  replace B1 := B1.trans (hb.mono B1.size)
  replace V0 : Hid (w12.ownsRow w2.heap.size 2 1 vv A.length (List.map (Value.int .i64) (A))) := own_below V0.out hb
  replace G0 : Hid (w12.ownsRow w4.heap.size 2 1 gg A.length (List.map (Value.int .i64) (mrk 1 A A.length))) := own_below G0.out hb
  have hz_w12 := hb.size
  clear hb
  obtain ⟨mm, hmm⟩ : ∃ k, k = 1 + (A.length : Int) := ⟨_, rfl⟩
  have mm0 : 0 ≤ mm := by omega
  have mm1 : (mm != mm) = false := by simp
  have HMM : Hid (mm = 1 + (A.length : Int)) := hmm
  rw [← hmm]
  clear hmm
  go_wp2_with fail
  refine (HT0.out _ B1).mono ?_
  rintro e w13 ⟨pp0, rfl, t, hb⟩
  replace B1 := B1.trans (hb.mono B1.size)
  replace V0 : Hid (w13.ownsRow w2.heap.size 2 1 vv A.length (List.map (Value.int .i64) (A))) := own_below V0.out hb
  replace G0 : Hid (w13.ownsRow w4.heap.size 2 1 gg A.length (List.map (Value.int .i64) (mrk 1 A A.length))) := own_below G0.out hb
  have hz_w13 := hb.size
  clear hb
  have P0 : Hid (w13.ownsRow w12.heap.size 29 2 pp0 a0.length (cellsR (a0))) := t
  have UP0 : Hid (∀ b, pp0.ownBlock = some b → b < w13.heap.size) := fun b h => (t.lt b h).2
  clear t
  go_wp2_with fail
  refine (HI.out pp0 _ (RdR.own P0.out).1).mono ?_
  rintro e w14 ⟨hh, rfl, t, hb⟩
  replace B1 := B1.trans (hb.mono B1.size)
  replace V0 : Hid (w14.ownsRow w2.heap.size 2 1 vv A.length (List.map (Value.int .i64) (A))) := own_below V0.out hb
  replace G0 : Hid (w14.ownsRow w4.heap.size 2 1 gg A.length (List.map (Value.int .i64) (mrk 1 A A.length))) := own_below G0.out hb
  replace P0 : Hid (w14.ownsRow w12.heap.size 29 2 pp0 a0.length (cellsR (a0))) := own_below P0.out hb
  have hz_w14 := hb.size
  clear hb
  have H9 : Hid (w14.ownsRow w13.heap.size 2 1 hh A.length (List.map (Value.int .i64) (A))) := t
  have UH9 : Hid (∀ b, hh.ownBlock = some b → b < w14.heap.size) := fun b h => (t.lt b h).2
  clear t
  clear P0 UP0
  go_wp2_with fail
  refine (eqI_same hh vv A A.length _ _ _ rfl (by omega) H9.out V0.out).mono ?_
  rintro e w15 ⟨rfl, mdr, hw⟩
  have hb : Below w14.heap.size w14 w15 := by rw [hw]; exact below_drewN (Below.refl _ _) _
  clear hw
  replace B1 := B1.trans (hb.mono B1.size)
  replace V0 : Hid (w15.ownsRow w2.heap.size 2 1 vv A.length (List.map (Value.int .i64) (A))) := own_below V0.out hb
  replace G0 : Hid (w15.ownsRow w4.heap.size 2 1 gg A.length (List.map (Value.int .i64) (mrk 1 A A.length))) := own_below G0.out hb
  replace H9 : Hid (w15.ownsRow w13.heap.size 2 1 hh A.length (List.map (Value.int .i64) (A))) := own_below H9.out hb
  have hz_w15 := hb.size
  clear hb
  clear H9 UH9
  go_wp2_with fail
  refine (heldI_any gg A A.length _ _ rfl (by omega) G0.out).mono ?_
  rintro e w16 ⟨rfl, mdr, hw⟩
  have hb : Below w15.heap.size w15 w16 := by rw [hw]; exact below_drewN (Below.refl _ _) _
  clear hw
  replace B1 := B1.trans (hb.mono B1.size)
  replace V0 : Hid (w16.ownsRow w2.heap.size 2 1 vv A.length (List.map (Value.int .i64) (A))) := own_below V0.out hb
  replace G0 : Hid (w16.ownsRow w4.heap.size 2 1 gg A.length (List.map (Value.int .i64) (mrk 1 A A.length))) := own_below G0.out hb
  have hz_w16 := hb.size
  clear hb
  rw [← HMM.out]
  go_wp2
  go_ret
  exact ⟨rfl, B1⟩
end Go.Proofs.Ythdogphpjflklaa
