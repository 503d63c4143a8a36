/- The walks of the laws' helpers over ranges: their copies, are two the same. -/
import Derived.Test.YtjpjnpdmkfgjgaaRngW4
namespace Go.Proofs.Ytjpjnpdmkfgjgaa
open Go.RowKit Go.Proofs.Ytjpjnpdmkfgjgaa.RM

set_option maxHeartbeats 1600000 in
theorem toRng_any (a b c d : Int) (w : World) :
    Calls Try.prog 10 #[.agg #[.int .i64 a, .int .i64 b, .int .i64 c, .int .i64 d]] w fun e w' => e = .returned (.agg #[.int .i64 a, .int .i64 b, .int .i64 c, .int .i64 d]) ∧ Below w.heap.size w w' := by
  have H1 := hidU (fun W => to_any a b W)
  have H2 := hidU (fun W => to_any c d W)
  go_enter Try.func10, Try.ntmps10
  go_wp2_with fail
  refine (H1.out _).mono ?_
  rintro e w1 ⟨rfl, hb⟩
  obtain ⟨P, hP⟩ : ∃ P, P = w.heap.size := ⟨_, rfl⟩
  have k0 : IsB w1 P #[.int .i64 a, .int .i64 b, .int .i64 c, .int .i64 d] 25 := by rw [hP]; exact ((IsB.new w _ _).below ((b0_any _ _).alloc (by simp) _)).below hb
  have k1 : IsB w1 (P + 1) #[.int .i64 0, .int .i64 0, .int .i64 0, .int .i64 0] 29 := by rw [hP]; exact ((IsB.new2c w _ _ _).below (b0_any _ _)).below hb
  have k2 : IsB w1 (P + 1 + 1) #[.int .i64 0, .int .i64 0, .int .i64 0, .int .i64 0] 29 := by rw [hP]; exact (IsB.new3c w _ _ _ _).below hb
  have HB : Hid (Below w.heap.size w w1) := (((b0_any w _).alloc (by simp) _).alloc (by simp <;> omega) _).trans (hb.mono (by simp <;> omega))
  rw [← hP]
  have HPw : Hid (w.heap.size ≤ P) := by show _ ≤ _; omega
  clear hb hP
  obtain ⟨R, hR⟩ : ∃ R, R = P + 1 := ⟨_, rfl⟩
  obtain ⟨T, hT⟩ : ∃ T, T = P + 1 + 1 := ⟨_, rfl⟩
  rw [← hT] at k2 ⊢
  rw [← hR] at k1 ⊢
  have HNE : Hid (P ≠ T ∧ R ≠ T ∧ w.heap.size ≤ R ∧ w.heap.size ≤ T) := by have := HPw.out; show _ ∧ _; omega
  clear hR hT
  obtain ⟨n1, n2, n3, n4⟩ := HNE.out
  obtain ⟨z0, z1, z2, z3⟩ := k2.c4
  obtain ⟨f0, f1, f2, f3⟩ := k2.f4
  go_upto_region 3 with fail
  have k3 : Hid (IsB ((w1.setCell ⟨T, 0, none⟩ (.int .i64 a)).setCell ⟨T, 1, none⟩ (.int .i64 b)) T #[.int .i64 a, .int .i64 b, .int .i64 0, .int .i64 0] 29) := k2.setLo _ _
  have K0 : Hid (IsB ((w1.setCell ⟨T, 0, none⟩ (.int .i64 a)).setCell ⟨T, 1, none⟩ (.int .i64 b)) P #[.int .i64 a, .int .i64 b, .int .i64 c, .int .i64 d] 25) := (k0.other n1 0 _).other n1 1 _
  have K1 : Hid (IsB ((w1.setCell ⟨T, 0, none⟩ (.int .i64 a)).setCell ⟨T, 1, none⟩ (.int .i64 b)) R #[.int .i64 0, .int .i64 0, .int .i64 0, .int .i64 0] 29) := (k1.other n2 0 _).other n2 1 _
  replace HB : Hid (Below w.heap.size w ((w1.setCell ⟨T, 0, none⟩ (.int .i64 a)).setCell ⟨T, 1, none⟩ (.int .i64 b))) := (HB.out.setCell (p := ⟨T, 0, none⟩) n4 _).setCell (p := ⟨T, 1, none⟩) n4 _
  obtain ⟨w2, hw⟩ : ∃ Y, Y = (w1.setCell ⟨T, 0, none⟩ (.int .i64 a)).setCell ⟨T, 1, none⟩ (.int .i64 b) := ⟨_, rfl⟩
  rw [← hw] at k3 K0 K1 HB ⊢
  clear hw z0 z1 z2 z3 f0 f1 f2 f3 k0 k1 k2 n1 n2 n3 n4
  obtain ⟨z0, z1, z2, z3⟩ := K0.out.c4
  go_wp2_with fail
  refine (H2.out _).mono ?_
  rintro e w3 ⟨rfl, hb⟩
  replace k3 := hidU (k3.out.below hb)
  replace K1 := hidU (K1.out.below hb)
  replace HB := hidU (HB.out.trans (hb.mono HB.out.size))
  clear hb z0 z1 z2 z3
  obtain ⟨n1, n2, n3, n4⟩ := HNE.out
  obtain ⟨z0, z1, z2, z3⟩ := k3.out.c4
  obtain ⟨f0, f1, f2, f3⟩ := k3.out.f4
  go_upto_region 4 with fail
  have k4 : Hid (IsB ((w3.setCell ⟨T, 2, none⟩ (.int .i64 c)).setCell ⟨T, 3, none⟩ (.int .i64 d)) T #[.int .i64 a, .int .i64 b, .int .i64 c, .int .i64 d] 29) := k3.out.setHi _ _
  have K2 : Hid (IsB ((w3.setCell ⟨T, 2, none⟩ (.int .i64 c)).setCell ⟨T, 3, none⟩ (.int .i64 d)) R #[.int .i64 0, .int .i64 0, .int .i64 0, .int .i64 0] 29) := (K1.out.other n2 2 _).other n2 3 _
  replace HB : Hid (Below w.heap.size w ((w3.setCell ⟨T, 2, none⟩ (.int .i64 c)).setCell ⟨T, 3, none⟩ (.int .i64 d))) := (HB.out.setCell (p := ⟨T, 2, none⟩) n4 _).setCell (p := ⟨T, 3, none⟩) n4 _
  obtain ⟨w4, hw⟩ : ∃ Y, Y = (w3.setCell ⟨T, 2, none⟩ (.int .i64 c)).setCell ⟨T, 3, none⟩ (.int .i64 d) := ⟨_, rfl⟩
  rw [← hw] at k4 K2 HB ⊢
  clear hw z0 z1 z2 z3 f0 f1 f2 f3 k3 K0 K1 n1 n2 n3 n4
  obtain ⟨z0, z1, z2, z3⟩ := k4.out.c4
  obtain ⟨y0, y1, y2, y3⟩ := K2.out.c4
  obtain ⟨f0, f1, f2, f3⟩ := K2.out.f4
  go_wp2
  obtain ⟨q0, q1, q2, q3⟩ := (K2.out.set4 (.int .i64 a) (.int .i64 b) (.int .i64 c) (.int .i64 d)).c4
  exact bodyPost_ret (v := .agg #[.int .i64 a, .int .i64 b, .int .i64 c, .int .i64 d]) (by simp [results, Try.results10, go_sem, q0, q1, q2, q3]) rfl ⟨rfl, below_set4 HB.out HNE.out.2.2.1 _ _ _ _⟩

set_option maxHeartbeats 800000 in
theorem eqRng_same (a b c d : Int) (w : World) :
    Calls Try.prog 14 #[.agg #[.int .i64 a, .int .i64 b, .int .i64 c, .int .i64 d], .agg #[.int .i64 a, .int .i64 b, .int .i64 c, .int .i64 d]] w fun e w' => e = .returned (.bool true) ∧ Below w.heap.size w w' := by
  have H1 := hidU (fun W => eq_same a b W)
  have H2 := hidU (fun W => eq_same c d W)
  go_enter Try.func14, Try.ntmps14
  go_wp2_with fail
  refine (H1.out _).mono ?_
  rintro e w1 ⟨rfl, hb⟩
  obtain ⟨P, hP⟩ : ∃ P, P = w.heap.size := ⟨_, rfl⟩
  have k0 : IsB w1 P #[.int .i64 a, .int .i64 b, .int .i64 c, .int .i64 d] 29 := by rw [hP]; exact ((IsB.new w _ _).below (b0_any _ _)).below hb
  have k1 : IsB w1 (P + 1) #[.int .i64 a, .int .i64 b, .int .i64 c, .int .i64 d] 29 := by rw [hP]; exact (IsB.new2c w _ _ _).below hb
  have HB : Hid (Below w.heap.size w w1) := ((b0_any w _).alloc (by simp) _).trans (hb.mono (by simp <;> omega))
  rw [← hP]
  clear hb hP
  obtain ⟨z0, z1, z2, z3⟩ := k0.c4
  obtain ⟨y0, y1, y2, y3⟩ := k1.c4
  go_wp2_with fail
  refine (H2.out _).mono ?_
  rintro e w2 ⟨rfl, hb⟩
  replace HB := hidU (HB.out.trans (hb.mono HB.out.size))
  clear hb z0 z1 z2 z3 y0 y1 y2 y3 k0 k1
  go_wp2
  go_ret
  exact ⟨rfl, HB.out⟩
end Go.Proofs.Ytjpjnpdmkfgjgaa
