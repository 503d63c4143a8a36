/- The program's measures: what a quantity is as one, and the other way round. -/
import Derived.Test.YtijdggcfjkfgcalQuaW0
import Derived.Test.YtijdggcfjkfgcalDimW6
import Derived.BigRegion
import Derived.Deep.RegionWith
import Derived.Deep.RegionHeld3
namespace Go.Proofs.Ytijdggcfjkfgcal
open Go.RowKit Go.Proofs.Ytijdggcfjkfgcal.RM

set_option maxRecDepth 100000 in
set_option maxHeartbeats 1000000 in
theorem measOf_any (n d : Int) (v : Value) (ys : List Int) (w : World) (h : DimIn w v ys) :
    Calls Try.prog 37 #[.agg #[.int .i64 n, .int .i64 d, v]] w fun e w' => ∃ s0 s1 s2 s3 s4, e = .returned (.tuple #[.agg #[.int .i64 s0, .int .i64 s1, .int .i64 s2, .int .i64 s3, .int .i64 s4, .int .i64 n, .int .i64 d], .bool (dimB ys && okB n d)]) ∧ (dimB ys = true → ys = [s0, s1, s2, s3, s4]) ∧ Below w.heap.size w w' := by
  have b0 : ∀ (u : World) (o : Obj), Below u.heap.size u (u.alloc o) := fun u o => (Below.refl _ _).alloc (Nat.le_refl _) o
  have HD := hidU (fun W (hW : Below w.heap.size w W) => dimOf_in _ ys W (h.below hW))
  obtain ⟨a, c, rfl⟩ := h.shape
  obtain ⟨k, hk⟩ : ∃ k, k = ys.length := ⟨_, rfl⟩
  rw [← hk] at HD ⊢
  obtain ⟨q, hq⟩ : ∃ q, q = dimB ys := ⟨_, rfl⟩
  rw [← hq] at HD ⊢
  have HR := hidU (fun W => right_any n d W)
  obtain ⟨o, ho⟩ : ∃ o, o = okB n d := ⟨_, rfl⟩
  rw [← ho] at HR ⊢
  clear ho hq h hk
  go_enter Try.func37, Try.ntmps37
  go_wp2_with fail
  refine (HD.out _ ((b0 _ _).alloc (by simp) _)).mono ?_
  rintro e w1 ⟨s0, s1, s2, s3, s4, rfl, hs, hb⟩
  have HS := hidU hs
  obtain ⟨A, hA⟩ : ∃ A, A = w.heap.size := ⟨_, rfl⟩
  have hAw : Hid (w.heap.size ≤ A) := Nat.le_of_eq hA.symm
  have k1 : IsB w1 A #[.int .i64 n, .int .i64 d, .slice a k c] 35 := by rw [hA]; exact ((IsB.new w _ _).below (b0 _ _)).below hb
  have k2 : IsB w1 (A + 1) #[.int .i64 0, .int .i64 0, .int .i64 0, .int .i64 0, .int .i64 0, .int .i64 0, .int .i64 0] 58 := by rw [hA]; exact (IsB.new2c w _ _ _).below hb
  have hB1 : Below w.heap.size w w1 := ((b0 _ _).alloc (by simp) _).trans (hb.mono (by simp; omega))
  rw [← hA]
  clear hb hA hs
  unfold arr
  go_upto_region 2 with fail
  obtain ⟨Y, hY⟩ : ∃ Y, Y = w1.alloc (.cells #[.int .i64 s0, .int .i64 s1, .int .i64 s2, .int .i64 s3, .int .i64 s4] 56) := ⟨_, rfl⟩
  obtain ⟨F, hF⟩ : ∃ F, F = w1.heap.size := ⟨_, rfl⟩
  have hb : Below w1.heap.size w1 Y := by rw [hY]; exact b0 _ _
  have hF0 : A + 1 < F := by rw [hF]; exact k2.lt
  replace k1 := k1.below hb
  replace k2 := k2.below hb
  have k3 : IsB Y F #[.int .i64 s0, .int .i64 s1, .int .i64 s2, .int .i64 s3, .int .i64 s4] 56 := by rw [hY, hF]; exact IsB.new _ _ _
  have HB := hidU (hB1.trans (hb.mono hB1.size))
  have hFz : A + 1 < F := hF0
  rw [← hY, ← hF]
  clear hY hF hb hB1 hF0
  obtain ⟨Z, hZ⟩ : ∃ Z, Z = A + 1 := ⟨_, rfl⟩
  rw [← hZ] at k2 hFz ⊢
  have hZw : Hid (w.heap.size ≤ Z) := by have := hAw.out; show _ ≤ _; omega
  have hAZ : Hid (A < Z) := by show _ < _; omega
  have hFw : Hid (Z < F) := hFz
  clear hZ hFz
  obtain ⟨a0, a1, -⟩ := k1.c3
  obtain ⟨p0, p1, p2, p3, p4⟩ := k3.c5
  have K2 := hidU k2
  cases q
  · obtain ⟨z0, z1, z2, z3, z4, z5, z6⟩ := k2.c7
    obtain ⟨f0, f1, f2, f3, f4, f5, f6⟩ := k2.f7
    clear k1 k2 k3
    go_region
    go_wp2
    have HZ := K2.out.set7 (.int .i64 s0) (.int .i64 s1) (.int .i64 s2) (.int .i64 s3) (.int .i64 s4) (.int .i64 n) (.int .i64 d)
    obtain ⟨y0, y1, y2, y3, y4, y5, y6⟩ := HZ.drew.c7
    exact bodyPost_ret (v := .tuple #[.agg #[.int .i64 s0, .int .i64 s1, .int .i64 s2, .int .i64 s3, .int .i64 s4, .int .i64 n, .int .i64 d], .bool false]) (by simp [results, Try.results37, go_sem, y0, y1, y2, y3, y4, y5, y6]) rfl ⟨_, _, _, _, _, rfl, HS.out, (below_set7 HB.out hZw.out _ _ _ _ _ _ _).drew⟩
  · have K1 := hidU k1
    have K3 := hidU k3
    have HFZ : Hid (F ≠ Z) := by have := k2.lt; show _ ≠ _; have := hFw.out; omega
    have HAZ : Hid (A ≠ Z) := by show _ ≠ _; have := hAZ.out; omega
    clear k1 k2 k3 a0 a1 p0 p1 p2 p3 p4
    refine wp_region_noPanic ?_
    refine wp_region_held_drew (S := fun W => IsB W F #[.int .i64 s0, .int .i64 s1, .int .i64 s2, .int .i64 s3, .int .i64 s4] 56 ∧ IsB W A #[.int .i64 n, .int .i64 d, .slice a k c] 35) (by kernel_rfl) ⟨K3.out.drew, K1.out.drew⟩ (fun hHeld => ?_)
    refine wpAnyH_take (i := 0) (v := ?_) rfl (by kernel_rfl) (by kernel_rfl) (by kernel_rfl) (fun _ _ _ h => h) (Or.inl ⟨by kernel_rfl, ?_⟩) hHeld ?_
    rotate_left
    · intro wz hSw; obtain ⟨hS1, hS2⟩ := hSw; obtain ⟨p0, p1, p2, p3, p4⟩ := hS1.c5; obtain ⟨a0, a1, a2⟩ := hS2.c3; clear hS1 hS2; go_simp; all_goals (try with_reducible rfl)
    (try simp only [List.getElem_toArray]); (try simp only [List.getElem_cons_succ]); (try simp only [List.getElem_cons_zero]); (try simp only [Act.put]); (try simp only [List.setIfInBounds_toArray]); (try simp only [List.set_cons_succ]); (try simp only [List.set_cons_zero])
    refine wpAnyH_take (i := 1) (v := ?_) rfl (by kernel_rfl) (by kernel_rfl) (by kernel_rfl) (fun _ _ _ h => h) (Or.inl ⟨by kernel_rfl, ?_⟩) hHeld ?_
    rotate_left
    · intro wz hSw; obtain ⟨hS1, hS2⟩ := hSw; obtain ⟨p0, p1, p2, p3, p4⟩ := hS1.c5; obtain ⟨a0, a1, a2⟩ := hS2.c3; clear hS1 hS2; go_simp; all_goals (try with_reducible rfl)
    (try simp only [List.getElem_toArray]); (try simp only [List.getElem_cons_succ]); (try simp only [List.getElem_cons_zero]); (try simp only [Act.put]); (try simp only [List.setIfInBounds_toArray]); (try simp only [List.set_cons_succ]); (try simp only [List.set_cons_zero])
    refine wpAnyH_take (i := 2) (v := ?_) rfl (by kernel_rfl) (by kernel_rfl) (by kernel_rfl) (fun _ _ _ h => h) (Or.inl ⟨by kernel_rfl, ?_⟩) hHeld ?_
    rotate_left
    · intro wz hSw; obtain ⟨hS1, hS2⟩ := hSw; obtain ⟨p0, p1, p2, p3, p4⟩ := hS1.c5; obtain ⟨a0, a1, a2⟩ := hS2.c3; clear hS1 hS2; go_simp; all_goals (try with_reducible rfl)
    (try simp only [List.getElem_toArray]); (try simp only [List.getElem_cons_succ]); (try simp only [List.getElem_cons_zero]); (try simp only [Act.put]); (try simp only [List.setIfInBounds_toArray]); (try simp only [List.set_cons_succ]); (try simp only [List.set_cons_zero])
    refine wpAnyH_take (i := 3) (v := ?_) rfl (by kernel_rfl) (by kernel_rfl) (by kernel_rfl) (fun _ _ _ h => h) (Or.inl ⟨by kernel_rfl, ?_⟩) hHeld ?_
    rotate_left
    · intro wz hSw; obtain ⟨hS1, hS2⟩ := hSw; obtain ⟨p0, p1, p2, p3, p4⟩ := hS1.c5; obtain ⟨a0, a1, a2⟩ := hS2.c3; clear hS1 hS2; go_simp; all_goals (try with_reducible rfl)
    (try simp only [List.getElem_toArray]); (try simp only [List.getElem_cons_succ]); (try simp only [List.getElem_cons_zero]); (try simp only [Act.put]); (try simp only [List.setIfInBounds_toArray]); (try simp only [List.set_cons_succ]); (try simp only [List.set_cons_zero])
    refine wpAnyH_take (i := 4) (v := ?_) rfl (by kernel_rfl) (by kernel_rfl) (by kernel_rfl) (fun _ _ _ h => h) (Or.inl ⟨by kernel_rfl, ?_⟩) hHeld ?_
    rotate_left
    · intro wz hSw; obtain ⟨hS1, hS2⟩ := hSw; obtain ⟨p0, p1, p2, p3, p4⟩ := hS1.c5; obtain ⟨a0, a1, a2⟩ := hS2.c3; clear hS1 hS2; go_simp; all_goals (try with_reducible rfl)
    (try simp only [List.getElem_toArray]); (try simp only [List.getElem_cons_succ]); (try simp only [List.getElem_cons_zero]); (try simp only [Act.put]); (try simp only [List.setIfInBounds_toArray]); (try simp only [List.set_cons_succ]); (try simp only [List.set_cons_zero])
    refine wpAnyH_take (i := 5) (v := ?_) rfl (by kernel_rfl) (by kernel_rfl) (by kernel_rfl) (fun _ _ _ h => h) (Or.inl ⟨by kernel_rfl, ?_⟩) hHeld ?_
    rotate_left
    · intro wz hSw; obtain ⟨hS1, hS2⟩ := hSw; obtain ⟨p0, p1, p2, p3, p4⟩ := hS1.c5; obtain ⟨a0, a1, a2⟩ := hS2.c3; clear hS1 hS2; go_simp; all_goals (try with_reducible rfl)
    (try simp only [List.getElem_toArray]); (try simp only [List.getElem_cons_succ]); (try simp only [List.getElem_cons_zero]); (try simp only [Act.put]); (try simp only [List.setIfInBounds_toArray]); (try simp only [List.set_cons_succ]); (try simp only [List.set_cons_zero])
    refine wpAnyH_take (i := 6) (v := ?_) rfl (by kernel_rfl) (by kernel_rfl) (by kernel_rfl) (fun _ _ _ h => h) (Or.inl ⟨by kernel_rfl, ?_⟩) hHeld ?_
    rotate_left
    · intro wz hSw; obtain ⟨hS1, hS2⟩ := hSw; obtain ⟨p0, p1, p2, p3, p4⟩ := hS1.c5; obtain ⟨a0, a1, a2⟩ := hS2.c3; clear hS1 hS2; go_simp; all_goals (try with_reducible rfl)
    (try simp only [List.getElem_toArray]); (try simp only [List.getElem_cons_succ]); (try simp only [List.getElem_cons_zero]); (try simp only [Act.put]); (try simp only [List.setIfInBounds_toArray]); (try simp only [List.set_cons_succ]); (try simp only [List.set_cons_zero])
    refine wpAnyH_take (i := 7) (v := ?_) rfl (by kernel_rfl) (by kernel_rfl) (by kernel_rfl) (fun _ _ _ h => h) (Or.inl ⟨by kernel_rfl, ?_⟩) hHeld ?_
    rotate_left
    · intro wz hSw; obtain ⟨hS1, hS2⟩ := hSw; obtain ⟨p0, p1, p2, p3, p4⟩ := hS1.c5; obtain ⟨a0, a1, a2⟩ := hS2.c3; clear hS1 hS2; go_simp; all_goals (try with_reducible rfl)
    (try simp only [List.getElem_toArray]); (try simp only [List.getElem_cons_succ]); (try simp only [List.getElem_cons_zero]); (try simp only [Act.put]); (try simp only [List.setIfInBounds_toArray]); (try simp only [List.set_cons_succ]); (try simp only [List.set_cons_zero])
    refine wpAnyH_ready (rs := [8]) (by kernel_rfl) (by simp) (AllReadyH.cons rfl (fun Kc hKc => ?_) AllReadyH.nil)
    go_simp
    refine (HR.out _).mono ?_
    rintro x w2 ⟨rfl, hb⟩
    go_wp2_with fail
    have k1 := K1.out.drew.below hb
    have k2 := K2.out.drew.below hb
    have k3 := K3.out.drew.below hb
    replace HB := hidU (HB.out.drew.trans (hb.mono HB.out.drew.size))
    refine hKc.out _ _ ⟨k3, k1⟩ (fun hHeld => ?_)
    clear hKc Kc hb K1 K2 K3
    (try simp only [List.getElem_toArray]); (try simp only [List.getElem_cons_succ]); (try simp only [List.getElem_cons_zero]); (try simp only [Act.put]); (try simp only [List.setIfInBounds_toArray]); (try simp only [List.set_cons_succ]); (try simp only [List.set_cons_zero])
    refine wpAnyH_take (i := 9) (v := ?_) rfl (by kernel_rfl) (by kernel_rfl) (by kernel_rfl) (fun _ _ _ h => h) (Or.inl ⟨by kernel_rfl, ?_⟩) hHeld ?_
    rotate_left
    · intro wz hSw; obtain ⟨hS1, hS2⟩ := hSw; obtain ⟨p0, p1, p2, p3, p4⟩ := hS1.c5; obtain ⟨a0, a1, a2⟩ := hS2.c3; clear hS1 hS2; go_simp; all_goals (try with_reducible rfl)
    (try simp only [List.getElem_toArray]); (try simp only [List.getElem_cons_succ]); (try simp only [List.getElem_cons_zero]); (try simp only [Act.put]); (try simp only [List.setIfInBounds_toArray]); (try simp only [List.set_cons_succ]); (try simp only [List.set_cons_zero])
    have hFZ := HFZ.out
    have hAZ := HAZ.out
    have K3 := hidU (k3.other7 hFZ (.int .i64 s0) (.int .i64 s1) (.int .i64 s2) (.int .i64 s3) (.int .i64 s4) (.int .i64 n) (.int .i64 d))
    have K1 := hidU (k1.other7 hAZ (.int .i64 s0) (.int .i64 s1) (.int .i64 s2) (.int .i64 s3) (.int .i64 s4) (.int .i64 n) (.int .i64 d))
    have KZ := hidU (k2.set7 (.int .i64 s0) (.int .i64 s1) (.int .i64 s2) (.int .i64 s3) (.int .i64 s4) (.int .i64 n) (.int .i64 d))
    obtain ⟨z0, z1, z2, z3, z4, z5, z6⟩ := k2.c7
    obtain ⟨f0, f1, f2, f3, f4, f5, f6⟩ := k2.f7
    clear k1 k2 k3 hFZ hAZ
    refine wpAnyH_ready (rs := [10]) (by kernel_rfl) (by simp) (AllReadyH.cons rfl (fun Kc hKc => ?_) AllReadyH.nil)
    go_simp
    refine hKc.out _ _ ⟨K3.out, K1.out⟩ (fun hHeld => ?_)
    clear hKc Kc z0 z1 z2 z3 z4 z5 z6 f0 f1 f2 f3 f4 f5 f6
    (try simp only [List.getElem_toArray]); (try simp only [List.getElem_cons_succ]); (try simp only [List.getElem_cons_zero]); (try simp only [Act.put]); (try simp only [List.setIfInBounds_toArray]); (try simp only [List.set_cons_succ]); (try simp only [List.set_cons_zero])
    refine wpAnyH_take (i := 11) (v := ?_) rfl (by kernel_rfl) (by kernel_rfl) (by kernel_rfl) (fun _ _ _ h => h) (Or.inl ⟨by kernel_rfl, ?_⟩) hHeld ?_
    rotate_left
    · intro wz hSw; obtain ⟨hS1, hS2⟩ := hSw; obtain ⟨p0, p1, p2, p3, p4⟩ := hS1.c5; obtain ⟨a0, a1, a2⟩ := hS2.c3; clear hS1 hS2; go_simp; all_goals (try with_reducible rfl)
    (try simp only [List.getElem_toArray]); (try simp only [List.getElem_cons_succ]); (try simp only [List.getElem_cons_zero]); (try simp only [Act.put]); (try simp only [List.setIfInBounds_toArray]); (try simp only [List.set_cons_succ]); (try simp only [List.set_cons_zero])
    refine wpAnyH_done (by kernel_rfl) ?_ _
    refine NoPanic.normal ?_
    go_wp2
    obtain ⟨y0, y1, y2, y3, y4, y5, y6⟩ := KZ.out.c7
    exact bodyPost_ret (v := .tuple #[.agg #[.int .i64 s0, .int .i64 s1, .int .i64 s2, .int .i64 s3, .int .i64 s4, .int .i64 n, .int .i64 d], .bool o]) (by simp [results, Try.results37, go_sem, y0, y1, y2, y3, y4, y5, y6]) rfl ⟨_, _, _, _, _, rfl, by have := HS.out; simpa using this, below_set7 HB.out hZw.out _ _ _ _ _ _ _⟩
end Go.Proofs.Ytijdggcfjkfgcal
