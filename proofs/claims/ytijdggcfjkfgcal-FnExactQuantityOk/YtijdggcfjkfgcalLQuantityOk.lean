/- The walk of the law of QuantityOk: both answer the same, the program's answer lies in memory of its own, and what was handed in stays. -/
import Derived.Test.YtijdggcfjkfgcalQuaW6
import Derived.Deep.DeepCutAuto
import Derived.Outline
namespace Go.Proofs.Ytijdggcfjkfgcal
open Go.RowKit Go.Proofs.Ytijdggcfjkfgcal.RM

set_option maxRecDepth 100000 in
set_option maxHeartbeats 8000000 in
theorem lawQuantityOk (n0 d0 : Int) (a0 : Option Addr) (len0 cap0 : Nat) (zs0 : List Int) (w : World) (hr0 : IsRow .i64 w a0 len0 cap0 zs0) :
    Calls Try.prog 4 #[.agg #[.int .i64 n0, .int .i64 d0, .slice a0 len0 cap0]] w fun e w' => e = .returned (.bool true) ∧ Below w.heap.size w w' := by
  have b0 : ∀ (u : World) (o : Obj), Below u.heap.size u (u.alloc o) := fun u o => (Below.refl _ _).alloc (Nat.le_refl _) o
  have HR0 := hidU hr0
  have HZ0 := hidU (fun (left : Int) (W : World) (h0 : 0 ≤ left) (h1 : left ≤ 1048576) => szQ_any n0 d0 a0 len0 cap0 left W h0 h1 (row_len hr0))
  obtain ⟨ys0, hys0⟩ : ∃ ys, ys = zs0.take len0 := ⟨_, rfl⟩
  have HL0 : Hid (ys0.length = len0) := by show _ = _; rw [hys0]; exact row_take hr0
  have HT0 := hidU (fun (hl : len0 ≤ 1048576) (W : World) (hW : Below w.heap.size w W) => toQ_any n0 d0 a0 len0 cap0 zs0 W (hr0.below hW) hl)
  rw [← hys0] at HT0
  clear hr0 hys0
  have HS := hidU (fun (W : World) (v : Value) (h0 : DimIn W v ys0) => sQuaOk_any n0 d0 v ys0 W h0)
  have HI := hidU (fun (W : World) (v : Value) (h0 : DimIn W v ys0) => iQuaOk_any n0 d0 v ys0 W h0)
  obtain ⟨q, hq⟩ : ∃ q, q = quaB n0 d0 ys0 := ⟨_, rfl⟩
  rw [← hq] at HS HI
  have hoo : (q != q) = false := by simp
  clear hq
  go_enter Try.func4, Try.ntmps4
  go_wp2_with fail
  refine (HZ0.out _ _ (by omega) (by omega)).mono ?_
  rintro e w1 ⟨rfl, hb⟩
  obtain ⟨P, hP⟩ : ∃ P, P = w.heap.size := ⟨_, rfl⟩
  have k0 : IsB w1 P #[.int .i64 n0, .int .i64 d0, .slice a0 len0 cap0] 30 := by rw [hP]; exact (IsB.new w _ _).below hb
  have hB : Below w.heap.size w w1 := (b0 _ _).trans (hb.mono (by simp))
  have hPw : w.heap.size ≤ P := Nat.le_of_eq hP.symm
  rw [← hP]
  clear hb hP
  have HPw := hidU hPw
  have K0 := hidU k0
  have HB := hidU hB
  clear hPw k0 hB
  by_cases hz0 : (1048576 : Int) < len0
  · rw [if_pos hz0]
    clear hz0
    go_wp2
    go_ret
    exact ⟨rfl, HB.out⟩
  rw [if_neg hz0]
  have hl0 : len0 ≤ 1048576 := by omega
  have HT0b := hidU (fun W hW => HT0.out hl0 W hW)
  have HLL := hidU (show len0 ≤ 1048576 from hl0)
  obtain ⟨lg, hlg⟩ : ∃ l : Int, l = 1048576 - (len0 : Int) := ⟨_, rfl⟩
  have hlg0 : 0 ≤ lg := by omega
  rw [← hlg]
  clear hz0 hl0 hlg HT0 HZ0
  obtain ⟨x00, x01, x02⟩ := K0.out.c3
  go_wp2_with fail
  refine (HT0b.out _ HB.out).mono ?_
  rintro e w2 ⟨v2, rfl, o2, hb⟩
  replace K0 := hidU (K0.out.below hb)
  replace HB := hidU (HB.out.trans (hb.mono HB.out.size))
  clear hb x00 x01 x02
  go_wp2_with fail
  refine (HS.out _ _ (DimIn.of (by rw [HL0.out]; exact o2))).mono ?_
  rintro e w3 ⟨rfl, hb⟩
  replace K0 := hidU (K0.out.below hb)
  replace HB := hidU (HB.out.trans (hb.mono HB.out.size))
  clear hb o2
  obtain ⟨x00, x01, x02⟩ := K0.out.c3
  go_wp2_with fail
  refine (HT0b.out _ HB.out).mono ?_
  rintro e w4 ⟨v4, rfl, o4, hb⟩
  obtain ⟨av, cv, rfl⟩ := own_shape o4
  replace K0 := hidU (K0.out.below hb)
  replace HB := hidU (HB.out.trans (hb.mono HB.out.size))
  have hb := b0 w4 (.cells #[.int .i64 n0, .int .i64 d0, .slice av len0 cv] 35)
  have HO := hidU (own_below o4 hb)
  clear x00 x01 x02
  go_upto_region 7 with fail
  obtain ⟨X, hX⟩ : ∃ Y, Y = w4.alloc (.cells #[.int .i64 n0, .int .i64 d0, .slice av len0 cv] 35) := ⟨_, rfl⟩
  obtain ⟨T, hT⟩ : ∃ F, F = w4.heap.size := ⟨_, rfl⟩
  rw [← hX] at hb HO
  replace K0 := hidU (K0.out.below hb)
  replace HB := hidU (HB.out.trans (hb.mono HB.out.size))
  have KT : Hid (IsB X T #[.int .i64 n0, .int .i64 d0, .slice av len0 cv] 35) := by show IsB _ _ _ _; rw [hX, hT]; exact IsB.new _ _ _
  rw [← hX, ← hT]
  clear hb hX hT o4
  obtain ⟨x00, x01, x02⟩ := KT.out.c3
  go_wp2_with fail
  refine (HI.out _ _ (DimIn.of (by rw [HL0.out]; exact HO.out))).mono ?_
  rintro e w5 ⟨rfl, hb⟩
  replace K0 := hidU (K0.out.below hb)
  replace KT := hidU (KT.out.below hb)
  replace HB := hidU (HB.out.trans (hb.mono HB.out.size))
  replace HO := hidU (own_below HO.out hb)
  clear hb x00 x01 x02
  go_upto_region 10 with fail
  refine wp_region_noPanic ?_
  have hb := (Below.refl w5.heap.size w5).drew
  replace K0 := hidU (K0.out.below hb)
  replace KT := hidU (KT.out.below hb)
  replace HB := hidU (HB.out.trans (hb.mono HB.out.size))
  replace HO := hidU (own_below HO.out hb)
  clear hb
  refine wp_region_held_drew (S := fun W => IsB W T #[.int .i64 n0, .int .i64 d0, .slice av len0 cv] 35 ∧ IsB W P #[.int .i64 n0, .int .i64 d0, .slice a0 len0 cap0] 30) (by kernel_rfl) ⟨KT.out, K0.out⟩ (fun hHeld => ?_)
  refine wpAnyH_take (i := 0) (v := ?_) rfl (by kernel_rfl) (by kernel_rfl) (by kernel_rfl) (fun _ _ _ h => h) (Or.inl ⟨by kernel_rfl, ?_⟩) hHeld ?_
  rotate_left
  · intro wz hSw; obtain ⟨hS1, hS2⟩ := hSw; obtain ⟨p0, p1, p2⟩ := hS1.c3; obtain ⟨q0, q1, q2⟩ := hS2.c3; clear hS1 hS2; go_simp; all_goals (try with_reducible rfl)
  (try simp only [List.getElem_toArray]); (try simp only [List.getElem_cons_succ]); (try simp only [List.getElem_cons_zero]); (try simp only [Act.put]); (try simp only [List.setIfInBounds_toArray]); (try simp only [List.set_cons_succ]); (try simp only [List.set_cons_zero])
  refine wpAnyH_take (i := 1) (v := ?_) rfl (by kernel_rfl) (by kernel_rfl) (by kernel_rfl) (fun _ _ _ h => h) (Or.inl ⟨by kernel_rfl, ?_⟩) hHeld ?_
  rotate_left
  · intro wz hSw; obtain ⟨hS1, hS2⟩ := hSw; obtain ⟨p0, p1, p2⟩ := hS1.c3; obtain ⟨q0, q1, q2⟩ := hS2.c3; clear hS1 hS2; go_simp; all_goals (try with_reducible rfl)
  (try simp only [List.getElem_toArray]); (try simp only [List.getElem_cons_succ]); (try simp only [List.getElem_cons_zero]); (try simp only [Act.put]); (try simp only [List.setIfInBounds_toArray]); (try simp only [List.set_cons_succ]); (try simp only [List.set_cons_zero])
  refine wpAnyH_ready (rs := [2]) (by kernel_rfl) (by simp) (AllReadyH.cons rfl (fun Kc hKc => ?_) AllReadyH.nil)
  go_simp
  refine (HT0b.out _ HB.out).mono ?_
  rintro e w2 ⟨v, rfl, ov, hb⟩
  replace K0 := hidU (K0.out.below hb)
  replace KT := hidU (KT.out.below hb)
  replace HB := hidU (HB.out.trans (hb.mono HB.out.size))
  replace HO := hidU (own_below HO.out hb)
  clear hb
  go_wp2_with fail
  refine hKc.out _ _ ⟨KT.out, K0.out⟩ (fun hHeld => ?_)
  clear hKc Kc
  (try simp only [List.getElem_toArray]); (try simp only [List.getElem_cons_succ]); (try simp only [List.getElem_cons_zero]); (try simp only [Act.put]); (try simp only [List.setIfInBounds_toArray]); (try simp only [List.set_cons_succ]); (try simp only [List.set_cons_zero])
  refine wpAnyH_ready (rs := [3]) (by kernel_rfl) (by simp) (AllReadyH.cons rfl (fun Kc hKc => ?_) AllReadyH.nil)
  go_simp
  refine (eqQ_any n0 d0 _ _ ys0 _ _ _ _ _ (by rw [HL0.out]; have := HLL.out; omega) (RowM.own HO.out) (RowM.own ov)).mono ?_
  rintro e w3 ⟨rfl, hb⟩
  replace K0 := hidU (K0.out.below hb)
  replace KT := hidU (KT.out.below hb)
  replace HB := hidU (HB.out.trans (hb.mono HB.out.size))
  replace HO := hidU (own_below HO.out hb)
  clear hb ov
  go_wp2_with fail
  refine hKc.out _ _ ⟨KT.out, K0.out⟩ (fun hHeld => ?_)
  clear hKc Kc
  (try simp only [List.getElem_toArray]); (try simp only [List.getElem_cons_succ]); (try simp only [List.getElem_cons_zero]); (try simp only [Act.put]); (try simp only [List.setIfInBounds_toArray]); (try simp only [List.set_cons_succ]); (try simp only [List.set_cons_zero])
  refine wpAnyH_take (i := 4) (v := ?_) rfl (by kernel_rfl) (by kernel_rfl) (by kernel_rfl) (fun _ _ _ h => h) (Or.inl ⟨by kernel_rfl, ?_⟩) hHeld ?_
  rotate_left
  · intro wz hSw; obtain ⟨hS1, hS2⟩ := hSw; obtain ⟨p0, p1, p2⟩ := hS1.c3; obtain ⟨q0, q1, q2⟩ := hS2.c3; clear hS1 hS2; go_simp; all_goals (try with_reducible rfl)
  (try simp only [List.getElem_toArray]); (try simp only [List.getElem_cons_succ]); (try simp only [List.getElem_cons_zero]); (try simp only [Act.put]); (try simp only [List.setIfInBounds_toArray]); (try simp only [List.set_cons_succ]); (try simp only [List.set_cons_zero])
  refine wpAnyH_done (by kernel_rfl) ?_ _
  refine NoPanic.normal ?_
  go_wp2
  go_ret
  exact ⟨rfl, HB.out⟩
end Go.Proofs.Ytijdggcfjkfgcal
