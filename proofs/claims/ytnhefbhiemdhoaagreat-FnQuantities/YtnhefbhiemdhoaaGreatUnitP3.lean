/- Products of what words stand for, and what is divided. -/
import Derived.Test.YtnhefbhiemdhoaaGreatUnitP2
import Derived.Test.YtnhefbhiemdhoaaGreatDimW2
namespace Go.Proofs.YtnhefbhiemdhoaaGreat
open Go.RowKit Go.MapKept Go.Proofs.YtnhefbhiemdhoaaGreat.RM

/-- its numbers are a dimension's -/
def okD (u : UV) : Prop := (-9 ≤ u.x0 ∧ u.x0 ≤ 9) ∧ (-9 ≤ u.x1 ∧ u.x1 ≤ 9) ∧ (-9 ≤ u.x2 ∧ u.x2 ≤ 9) ∧ (-9 ≤ u.x3 ∧ u.x3 ≤ 9) ∧ (-9 ≤ u.x4 ∧ u.x4 ≤ 9)
def mulV (u v : UV) : UV × Bool :=
  (⟨(mulQ (u.n, u.d) (v.n, v.d)).1, (mulQ (u.n, u.d) (v.n, v.d)).2.1, u.x0 + v.x0, u.x1 + v.x1, u.x2 + v.x2, u.x3 + v.x3, u.x4 + v.x4⟩, (mulQ (u.n, u.d) (v.n, v.d)).2.2 && lim5 (u.x0 + v.x0) (u.x1 + v.x1) (u.x2 + v.x2) (u.x3 + v.x3) (u.x4 + v.x4))
def invV (u : UV) : UV := ⟨u.d, u.n, -u.x0, -u.x1, -u.x2, -u.x3, -u.x4⟩

set_option maxRecDepth 100000 in
set_option maxHeartbeats 1000000 in
theorem vtimes_any (u v : UV) (w : World) (hu : okD u) (hv : okD v) :
    Calls Tryz.prog 84 #[uVal u, uVal v] w fun e w' => e = .returned (.tuple #[uVal (mulV u v).1, .bool (mulV u v).2]) ∧ Below w.heap.size w w' := by
  have b0 : ∀ (u : World) (o : Obj), Below u.heap.size u (u.alloc o) := fun u o => (Below.refl _ _).alloc (Nat.le_refl _) o
  obtain ⟨an, ad, ax0, ax1, ax2, ax3, ax4⟩ := u
  obtain ⟨bn, bd, bx0, bx1, bx2, bx3, bx4⟩ := v
  obtain ⟨ha0, ha1, ha2, ha3, ha4⟩ := hu
  obtain ⟨hb0, hb1, hb2, hb3, hb4⟩ := hv
  have HM := hidU (fun W => iMul_any an ad bn bd W)
  have HD := hidU (fun W => dtimes_any ax0 ax1 ax2 ax3 ax4 bx0 bx1 bx2 bx3 bx4 W ha0 ha1 ha2 ha3 ha4 hb0 hb1 hb2 hb3 hb4)
  clear ha0 ha1 ha2 ha3 ha4 hb0 hb1 hb2 hb3 hb4
  simp only [mulV, uVal, mulQ]
  obtain ⟨m1, h1⟩ : ∃ x, x = opN (two an ad bn bd) (an * bn) (ad * bd) := ⟨_, rfl⟩
  obtain ⟨m2, h2⟩ : ∃ x, x = opD (two an ad bn bd) (an * bn) (ad * bd) := ⟨_, rfl⟩
  obtain ⟨mo, h3⟩ : ∃ x, x = opOk (two an ad bn bd) (an * bn) (ad * bd) := ⟨_, rfl⟩
  rw [← h1, ← h2, ← h3] at HM ⊢
  clear h1 h2 h3
  obtain ⟨s0, h0⟩ : ∃ x, x = ax0 + bx0 := ⟨_, rfl⟩
  obtain ⟨s1, h1⟩ : ∃ x, x = ax1 + bx1 := ⟨_, rfl⟩
  obtain ⟨s2, h2⟩ : ∃ x, x = ax2 + bx2 := ⟨_, rfl⟩
  obtain ⟨s3, h3⟩ : ∃ x, x = ax3 + bx3 := ⟨_, rfl⟩
  obtain ⟨s4, h4⟩ : ∃ x, x = ax4 + bx4 := ⟨_, rfl⟩
  rw [← h0, ← h1, ← h2, ← h3, ← h4] at HD ⊢
  obtain ⟨so, h5⟩ : ∃ x, x = lim5 s0 s1 s2 s3 s4 := ⟨_, rfl⟩
  rw [← h5] at HD ⊢
  clear h0 h1 h2 h3 h4 h5
  simp only [arr] at HD
  go_enter Tryz.func84, Tryz.ntmps84
  go_wp2_with fail
  refine (HM.out _).mono ?_
  rintro e w1 ⟨rfl, hb⟩
  obtain ⟨A, hA⟩ : ∃ A, A = w.heap.size := ⟨_, rfl⟩
  have hAw : Hid (w.heap.size ≤ A) := Nat.le_of_eq hA.symm
  have k1 : IsB w1 A #[.int .i64 an, .int .i64 ad, .int .i64 ax0, .int .i64 ax1, .int .i64 ax2, .int .i64 ax3, .int .i64 ax4] 55 := by rw [hA]; exact (((IsB.new w _ _).below (b0 _ _)).below (b0 _ _)).below hb
  have k2 : IsB w1 (A + 1) #[.int .i64 bn, .int .i64 bd, .int .i64 bx0, .int .i64 bx1, .int .i64 bx2, .int .i64 bx3, .int .i64 bx4] 55 := by
    rw [hA]
    have := IsB.new (w.alloc (.cells #[.int .i64 an, .int .i64 ad, .int .i64 ax0, .int .i64 ax1, .int .i64 ax2, .int .i64 ax3, .int .i64 ax4] 55)) #[.int .i64 bn, .int .i64 bd, .int .i64 bx0, .int .i64 bx1, .int .i64 bx2, .int .i64 bx3, .int .i64 bx4] 55
    exact ((show IsB _ (w.heap.size + 1) _ _ by simpa using this).below (b0 _ _)).below hb
  have k3 : IsB w1 (A + 1 + 1) #[.int .i64 0, .int .i64 0, .int .i64 0, .int .i64 0, .int .i64 0, .int .i64 0, .int .i64 0] 55 := by
    rw [hA]
    have := IsB.new ((w.alloc (.cells #[.int .i64 an, .int .i64 ad, .int .i64 ax0, .int .i64 ax1, .int .i64 ax2, .int .i64 ax3, .int .i64 ax4] 55)).alloc (.cells #[.int .i64 bn, .int .i64 bd, .int .i64 bx0, .int .i64 bx1, .int .i64 bx2, .int .i64 bx3, .int .i64 bx4] 55)) #[.int .i64 0, .int .i64 0, .int .i64 0, .int .i64 0, .int .i64 0, .int .i64 0, .int .i64 0] 55
    exact (show IsB _ (w.heap.size + 1 + 1) _ _ by simpa using this).below hb
  have hB1 : Below w.heap.size w w1 := (((b0 _ _).alloc (by simp) _).alloc (by simp; omega) _).trans (hb.mono (by simp; omega))
  rw [← hA]
  have K1 := hidU k1
  have K2 := hidU k2
  have K3 := hidU k3
  have HB := hidU hB1
  clear hb hA k1 k2 k3 hB1
  go_upto_region 2 with fail
  obtain ⟨Y, hY⟩ : ∃ Y, Y = w1.alloc (.cells #[.int .i64 m1, .int .i64 m2] 25) := ⟨_, rfl⟩
  obtain ⟨F, hF⟩ : ∃ F, F = w1.heap.size := ⟨_, rfl⟩
  have hb : Below w1.heap.size w1 Y := by rw [hY]; exact b0 _ _
  have k1 := K1.out.below hb
  have k2 := K2.out.below hb
  have k3 := K3.out.below hb
  have kf : IsB Y F #[.int .i64 m1, .int .i64 m2] 25 := by rw [hY, hF]; exact IsB.new _ _ _
  have hFw : Hid (A + 1 + 1 < F) := by have := K3.out.lt; show _ < _; omega
  replace HB := hidU (HB.out.trans (hb.mono HB.out.size))
  rw [← hY, ← hF]
  clear hY hF hb K1 K2 K3
  have a2 := k1.cell (v := .int .i64 ax0) 2 rfl
  have a3 := k1.cell (v := .int .i64 ax1) 3 rfl
  have a4 := k1.cell (v := .int .i64 ax2) 4 rfl
  have a5 := k1.cell (v := .int .i64 ax3) 5 rfl
  have a6 := k1.cell (v := .int .i64 ax4) 6 rfl
  have c2 := k2.cell (v := .int .i64 bx0) 2 rfl
  have c3 := k2.cell (v := .int .i64 bx1) 3 rfl
  have c4 := k2.cell (v := .int .i64 bx2) 4 rfl
  have c5 := k2.cell (v := .int .i64 bx3) 5 rfl
  have c6 := k2.cell (v := .int .i64 bx4) 6 rfl
  have K3 := hidU k3
  have KF := hidU kf
  clear k1 k2 k3 kf
  go_wp2_with fail
  refine (HD.out _).mono ?_
  rintro e w2 ⟨rfl, hb⟩
  have k3 := K3.out.below hb
  have kf := KF.out.below hb
  replace HB := hidU (HB.out.trans (hb.mono HB.out.size))
  clear hb K3 KF a2 c2 a3 c3 a4 c4 a5 c5 a6 c6
  go_upto_region 3 with fail
  obtain ⟨X, hX⟩ : ∃ Y, Y = w2.alloc (.cells #[.int .i64 s0, .int .i64 s1, .int .i64 s2, .int .i64 s3, .int .i64 s4] 53) := ⟨_, rfl⟩
  obtain ⟨G, hG⟩ : ∃ F, F = w2.heap.size := ⟨_, rfl⟩
  have hb : Below w2.heap.size w2 X := by rw [hX]; exact b0 _ _
  replace k3 := k3.below hb
  replace kf := kf.below hb
  have kg : IsB X G #[.int .i64 s0, .int .i64 s1, .int .i64 s2, .int .i64 s3, .int .i64 s4] 53 := by rw [hX, hG]; exact IsB.new _ _ _
  replace HB := hidU (HB.out.trans (hb.mono HB.out.size))
  rw [← hX, ← hG]
  clear hX hG hb
  obtain ⟨Z, hZ⟩ : ∃ Z, Z = A + 1 + 1 := ⟨_, rfl⟩
  rw [← hZ] at k3 ⊢
  have hZw : Hid (w.heap.size ≤ Z) := by have := hAw.out; show _ ≤ _; omega
  clear hZ hFw
  have p0 := kf.cell (v := .int .i64 m1) 0 rfl
  have p1 := kf.cell (v := .int .i64 m2) 1 rfl
  have r0 := kg.cell (v := .int .i64 s0) 0 rfl
  have r1 := kg.cell (v := .int .i64 s1) 1 rfl
  have r2 := kg.cell (v := .int .i64 s2) 2 rfl
  have r3 := kg.cell (v := .int .i64 s3) 3 rfl
  have r4 := kg.cell (v := .int .i64 s4) 4 rfl
  have z0 := k3.cell (v := .int .i64 0) 0 rfl
  have f0 := k3.frozen 0
  have z1 := k3.cell (v := .int .i64 0) 1 rfl
  have f1 := k3.frozen 1
  have z2 := k3.cell (v := .int .i64 0) 2 rfl
  have f2 := k3.frozen 2
  have z3 := k3.cell (v := .int .i64 0) 3 rfl
  have f3 := k3.frozen 3
  have z4 := k3.cell (v := .int .i64 0) 4 rfl
  have f4 := k3.frozen 4
  have z5 := k3.cell (v := .int .i64 0) 5 rfl
  have f5 := k3.frozen 5
  have z6 := k3.cell (v := .int .i64 0) 6 rfl
  have f6 := k3.frozen 6
  have HZ4 : IsB (((((((X.setCell ⟨Z, 0, none⟩ (.int .i64 m1)).setCell ⟨Z, 1, none⟩ (.int .i64 m2)).setCell ⟨Z, 2, none⟩ (.int .i64 s0)).setCell ⟨Z, 3, none⟩ (.int .i64 s1)).setCell ⟨Z, 4, none⟩ (.int .i64 s2)).setCell ⟨Z, 5, none⟩ (.int .i64 s3)).setCell ⟨Z, 6, none⟩ (.int .i64 s4)) Z #[.int .i64 m1, .int .i64 m2, .int .i64 s0, .int .i64 s1, .int .i64 s2, .int .i64 s3, .int .i64 s4] 55 := (((((((k3.set 0 (.int .i64 m1)).set 1 (.int .i64 m2)).set 2 (.int .i64 s0)).set 3 (.int .i64 s1)).set 4 (.int .i64 s2)).set 5 (.int .i64 s3)).set 6 (.int .i64 s4))
  have HB4 : Below w.heap.size w (((((((X.setCell ⟨Z, 0, none⟩ (.int .i64 m1)).setCell ⟨Z, 1, none⟩ (.int .i64 m2)).setCell ⟨Z, 2, none⟩ (.int .i64 s0)).setCell ⟨Z, 3, none⟩ (.int .i64 s1)).setCell ⟨Z, 4, none⟩ (.int .i64 s2)).setCell ⟨Z, 5, none⟩ (.int .i64 s3)).setCell ⟨Z, 6, none⟩ (.int .i64 s4)) := (((((((HB.out.setCell hZw.out _).setCell hZw.out _).setCell hZw.out _).setCell hZw.out _).setCell hZw.out _).setCell hZw.out _).setCell hZw.out _)
  have HZ5 := hidU HZ4
  have HB5 := hidU HB4
  clear HZ4 HB4 k3 kf kg HB
  cases mo
  · go_wp2
    have q0 := HZ5.out.cell (v := .int .i64 m1) 0 rfl
    have q1 := HZ5.out.cell (v := .int .i64 m2) 1 rfl
    have q2 := HZ5.out.cell (v := .int .i64 s0) 2 rfl
    have q3 := HZ5.out.cell (v := .int .i64 s1) 3 rfl
    have q4 := HZ5.out.cell (v := .int .i64 s2) 4 rfl
    have q5 := HZ5.out.cell (v := .int .i64 s3) 5 rfl
    have q6 := HZ5.out.cell (v := .int .i64 s4) 6 rfl
    exact bodyPost_ret (v := .tuple #[.agg #[.int .i64 m1, .int .i64 m2, .int .i64 s0, .int .i64 s1, .int .i64 s2, .int .i64 s3, .int .i64 s4], .bool false]) (by simp [results, Tryz.results84, go_sem, q0, q1, q2, q3, q4, q5, q6]) rfl ⟨rfl, HB5.out⟩
  · go_wp2
    have q0 := HZ5.out.cell (v := .int .i64 m1) 0 rfl
    have q1 := HZ5.out.cell (v := .int .i64 m2) 1 rfl
    have q2 := HZ5.out.cell (v := .int .i64 s0) 2 rfl
    have q3 := HZ5.out.cell (v := .int .i64 s1) 3 rfl
    have q4 := HZ5.out.cell (v := .int .i64 s2) 4 rfl
    have q5 := HZ5.out.cell (v := .int .i64 s3) 5 rfl
    have q6 := HZ5.out.cell (v := .int .i64 s4) 6 rfl
    exact bodyPost_ret (v := .tuple #[.agg #[.int .i64 m1, .int .i64 m2, .int .i64 s0, .int .i64 s1, .int .i64 s2, .int .i64 s3, .int .i64 s4], .bool so]) (by simp [results, Tryz.results84, go_sem, q0, q1, q2, q3, q4, q5, q6]) rfl ⟨rfl, HB5.out⟩
end Go.Proofs.YtnhefbhiemdhoaaGreat
