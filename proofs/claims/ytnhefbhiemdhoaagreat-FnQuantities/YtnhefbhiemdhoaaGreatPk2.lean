/- Several texts of this proof laid one behind the other: each has its own heading below. -/
import Derived.Test.YtnhefbhiemdhoaaGreatPk1
import Derived.BigRegion
import Derived.Deep.RegionWith
import Derived.Deep.RegionHeld3
import Derived.Test.YtnhefbhiemdhoaaGreatRowsW
import Derived.Test.YtnhefbhiemdhoaaGreatRatioMath
import Derived.Test.YtnhefbhiemdhoaaGreatDimMath
import Derived.Test.YtnhefbhiemdhoaaGreatRatioW5
import Derived.Outline
import Derived.Deep.DeepCutAuto
import Derived.Laws.DeepStrings4
import Derived.Test.YtnhefbhiemdhoaaGreatUnitMath
import Derived.Test.YtnhefbhiemdhoaaGreatUnitB
import Derived.Test.YtnhefbhiemdhoaaGreatMapLit
import Derived.Test.YtnhefbhiemdhoaaGreatCalcW

/- The program's measures: what a quantity is as one, and the other way round. -/
namespace Go.Proofs.YtnhefbhiemdhoaaGreat
open Go.RowKit Go.Proofs.YtnhefbhiemdhoaaGreat.RM

set_option maxRecDepth 100000 in
set_option maxHeartbeats 1000000 in
theorem measOf_any (n d : Int) (v : Value) (ys : List Int) (w : World) (h : DimIn w v ys) :
    Calls Tryz.prog 31 #[.agg #[.int .i64 n, .int .i64 d, v]] w fun e w' => ∃ s0 s1 s2 s3 s4, e = .returned (.tuple #[.agg #[.int .i64 s0, .int .i64 s1, .int .i64 s2, .int .i64 s3, .int .i64 s4, .int .i64 n, .int .i64 d], .bool (dimB ys && okB n d)]) ∧ (dimB ys = true → ys = [s0, s1, s2, s3, s4]) ∧ Below w.heap.size w w' := by
  have b0 : ∀ (u : World) (o : Obj), Below u.heap.size u (u.alloc o) := fun u o => (Below.refl _ _).alloc (Nat.le_refl _) o
  have HD := hidU (fun W (hW : Below w.heap.size w W) => dimOf_in _ ys W (h.below hW))
  obtain ⟨a, c, rfl⟩ := h.shape
  obtain ⟨k, hk⟩ : ∃ k, k = ys.length := ⟨_, rfl⟩
  rw [← hk] at HD ⊢
  obtain ⟨q, hq⟩ : ∃ q, q = dimB ys := ⟨_, rfl⟩
  rw [← hq] at HD ⊢
  have HR := hidU (fun W => right_any n d W)
  obtain ⟨o, ho⟩ : ∃ o, o = okB n d := ⟨_, rfl⟩
  rw [← ho] at HR ⊢
  clear ho hq h hk
  go_enter Tryz.func31, Tryz.ntmps31
  go_wp2_with fail
  refine (HD.out _ ((b0 _ _).alloc (by simp) _)).mono ?_
  rintro e w1 ⟨s0, s1, s2, s3, s4, rfl, hs, hb⟩
  have HS := hidU hs
  obtain ⟨A, hA⟩ : ∃ A, A = w.heap.size := ⟨_, rfl⟩
  have hAw : Hid (w.heap.size ≤ A) := Nat.le_of_eq hA.symm
  have k1 : IsB w1 A #[.int .i64 n, .int .i64 d, .slice a k c] 30 := by rw [hA]; exact ((IsB.new w _ _).below (b0 _ _)).below hb
  have k2 : IsB w1 (A + 1) #[.int .i64 0, .int .i64 0, .int .i64 0, .int .i64 0, .int .i64 0, .int .i64 0, .int .i64 0] 60 := by rw [hA]; exact (IsB.new2c w _ _ _).below hb
  have hB1 : Below w.heap.size w w1 := ((b0 _ _).alloc (by simp) _).trans (hb.mono (by simp; omega))
  rw [← hA]
  clear hb hA hs
  unfold arr
  go_upto_region 2 with fail
  obtain ⟨Y, hY⟩ : ∃ Y, Y = w1.alloc (.cells #[.int .i64 s0, .int .i64 s1, .int .i64 s2, .int .i64 s3, .int .i64 s4] 53) := ⟨_, rfl⟩
  obtain ⟨F, hF⟩ : ∃ F, F = w1.heap.size := ⟨_, rfl⟩
  have hb : Below w1.heap.size w1 Y := by rw [hY]; exact b0 _ _
  have hF0 : A + 1 < F := by rw [hF]; exact k2.lt
  replace k1 := k1.below hb
  replace k2 := k2.below hb
  have k3 : IsB Y F #[.int .i64 s0, .int .i64 s1, .int .i64 s2, .int .i64 s3, .int .i64 s4] 53 := by rw [hY, hF]; exact IsB.new _ _ _
  have HB := hidU (hB1.trans (hb.mono hB1.size))
  have hFz : A + 1 < F := hF0
  rw [← hY, ← hF]
  clear hY hF hb hB1 hF0
  obtain ⟨Z, hZ⟩ : ∃ Z, Z = A + 1 := ⟨_, rfl⟩
  rw [← hZ] at k2 hFz ⊢
  have hZw : Hid (w.heap.size ≤ Z) := by have := hAw.out; show _ ≤ _; omega
  have hAZ : Hid (A < Z) := by show _ < _; omega
  have hFw : Hid (Z < F) := hFz
  clear hZ hFz
  obtain ⟨a0, a1, -⟩ := k1.c3
  obtain ⟨p0, p1, p2, p3, p4⟩ := k3.c5
  have K2 := hidU k2
  cases q
  · obtain ⟨z0, z1, z2, z3, z4, z5, z6⟩ := k2.c7
    obtain ⟨f0, f1, f2, f3, f4, f5, f6⟩ := k2.f7
    clear k1 k2 k3
    go_region
    go_wp2
    have HZ := K2.out.set7 (.int .i64 s0) (.int .i64 s1) (.int .i64 s2) (.int .i64 s3) (.int .i64 s4) (.int .i64 n) (.int .i64 d)
    obtain ⟨y0, y1, y2, y3, y4, y5, y6⟩ := HZ.drew.c7
    exact bodyPost_ret (v := .tuple #[.agg #[.int .i64 s0, .int .i64 s1, .int .i64 s2, .int .i64 s3, .int .i64 s4, .int .i64 n, .int .i64 d], .bool false]) (by simp [results, Tryz.results31, go_sem, y0, y1, y2, y3, y4, y5, y6]) rfl ⟨_, _, _, _, _, rfl, HS.out, (below_set7 HB.out hZw.out _ _ _ _ _ _ _).drew⟩
  · have K1 := hidU k1
    have K3 := hidU k3
    have HFZ : Hid (F ≠ Z) := by have := k2.lt; show _ ≠ _; have := hFw.out; omega
    have HAZ : Hid (A ≠ Z) := by show _ ≠ _; have := hAZ.out; omega
    clear k1 k2 k3 a0 a1 p0 p1 p2 p3 p4
    refine wp_region_noPanic ?_
    refine wp_region_held_drew (S := fun W => IsB W F #[.int .i64 s0, .int .i64 s1, .int .i64 s2, .int .i64 s3, .int .i64 s4] 53 ∧ IsB W A #[.int .i64 n, .int .i64 d, .slice a k c] 30) (by kernel_rfl) ⟨K3.out.drew, K1.out.drew⟩ (fun hHeld => ?_)
    refine wpAnyH_take (i := 0) (v := ?_) rfl (by kernel_rfl) (by kernel_rfl) (by kernel_rfl) (fun _ _ _ h => h) (Or.inl ⟨by kernel_rfl, ?_⟩) hHeld ?_
    rotate_left
    · intro wz hSw; obtain ⟨hS1, hS2⟩ := hSw; obtain ⟨p0, p1, p2, p3, p4⟩ := hS1.c5; obtain ⟨a0, a1, a2⟩ := hS2.c3; clear hS1 hS2; go_simp; all_goals (try with_reducible rfl)
    (try simp only [List.getElem_toArray]); (try simp only [List.getElem_cons_succ]); (try simp only [List.getElem_cons_zero]); (try simp only [Act.put]); (try simp only [List.setIfInBounds_toArray]); (try simp only [List.set_cons_succ]); (try simp only [List.set_cons_zero])
    refine wpAnyH_take (i := 1) (v := ?_) rfl (by kernel_rfl) (by kernel_rfl) (by kernel_rfl) (fun _ _ _ h => h) (Or.inl ⟨by kernel_rfl, ?_⟩) hHeld ?_
    rotate_left
    · intro wz hSw; obtain ⟨hS1, hS2⟩ := hSw; obtain ⟨p0, p1, p2, p3, p4⟩ := hS1.c5; obtain ⟨a0, a1, a2⟩ := hS2.c3; clear hS1 hS2; go_simp; all_goals (try with_reducible rfl)
    (try simp only [List.getElem_toArray]); (try simp only [List.getElem_cons_succ]); (try simp only [List.getElem_cons_zero]); (try simp only [Act.put]); (try simp only [List.setIfInBounds_toArray]); (try simp only [List.set_cons_succ]); (try simp only [List.set_cons_zero])
    refine wpAnyH_take (i := 2) (v := ?_) rfl (by kernel_rfl) (by kernel_rfl) (by kernel_rfl) (fun _ _ _ h => h) (Or.inl ⟨by kernel_rfl, ?_⟩) hHeld ?_
    rotate_left
    · intro wz hSw; obtain ⟨hS1, hS2⟩ := hSw; obtain ⟨p0, p1, p2, p3, p4⟩ := hS1.c5; obtain ⟨a0, a1, a2⟩ := hS2.c3; clear hS1 hS2; go_simp; all_goals (try with_reducible rfl)
    (try simp only [List.getElem_toArray]); (try simp only [List.getElem_cons_succ]); (try simp only [List.getElem_cons_zero]); (try simp only [Act.put]); (try simp only [List.setIfInBounds_toArray]); (try simp only [List.set_cons_succ]); (try simp only [List.set_cons_zero])
    refine wpAnyH_take (i := 3) (v := ?_) rfl (by kernel_rfl) (by kernel_rfl) (by kernel_rfl) (fun _ _ _ h => h) (Or.inl ⟨by kernel_rfl, ?_⟩) hHeld ?_
    rotate_left
    · intro wz hSw; obtain ⟨hS1, hS2⟩ := hSw; obtain ⟨p0, p1, p2, p3, p4⟩ := hS1.c5; obtain ⟨a0, a1, a2⟩ := hS2.c3; clear hS1 hS2; go_simp; all_goals (try with_reducible rfl)
    (try simp only [List.getElem_toArray]); (try simp only [List.getElem_cons_succ]); (try simp only [List.getElem_cons_zero]); (try simp only [Act.put]); (try simp only [List.setIfInBounds_toArray]); (try simp only [List.set_cons_succ]); (try simp only [List.set_cons_zero])
    refine wpAnyH_take (i := 4) (v := ?_) rfl (by kernel_rfl) (by kernel_rfl) (by kernel_rfl) (fun _ _ _ h => h) (Or.inl ⟨by kernel_rfl, ?_⟩) hHeld ?_
    rotate_left
    · intro wz hSw; obtain ⟨hS1, hS2⟩ := hSw; obtain ⟨p0, p1, p2, p3, p4⟩ := hS1.c5; obtain ⟨a0, a1, a2⟩ := hS2.c3; clear hS1 hS2; go_simp; all_goals (try with_reducible rfl)
    (try simp only [List.getElem_toArray]); (try simp only [List.getElem_cons_succ]); (try simp only [List.getElem_cons_zero]); (try simp only [Act.put]); (try simp only [List.setIfInBounds_toArray]); (try simp only [List.set_cons_succ]); (try simp only [List.set_cons_zero])
    refine wpAnyH_take (i := 5) (v := ?_) rfl (by kernel_rfl) (by kernel_rfl) (by kernel_rfl) (fun _ _ _ h => h) (Or.inl ⟨by kernel_rfl, ?_⟩) hHeld ?_
    rotate_left
    · intro wz hSw; obtain ⟨hS1, hS2⟩ := hSw; obtain ⟨p0, p1, p2, p3, p4⟩ := hS1.c5; obtain ⟨a0, a1, a2⟩ := hS2.c3; clear hS1 hS2; go_simp; all_goals (try with_reducible rfl)
    (try simp only [List.getElem_toArray]); (try simp only [List.getElem_cons_succ]); (try simp only [List.getElem_cons_zero]); (try simp only [Act.put]); (try simp only [List.setIfInBounds_toArray]); (try simp only [List.set_cons_succ]); (try simp only [List.set_cons_zero])
    refine wpAnyH_take (i := 6) (v := ?_) rfl (by kernel_rfl) (by kernel_rfl) (by kernel_rfl) (fun _ _ _ h => h) (Or.inl ⟨by kernel_rfl, ?_⟩) hHeld ?_
    rotate_left
    · intro wz hSw; obtain ⟨hS1, hS2⟩ := hSw; obtain ⟨p0, p1, p2, p3, p4⟩ := hS1.c5; obtain ⟨a0, a1, a2⟩ := hS2.c3; clear hS1 hS2; go_simp; all_goals (try with_reducible rfl)
    (try simp only [List.getElem_toArray]); (try simp only [List.getElem_cons_succ]); (try simp only [List.getElem_cons_zero]); (try simp only [Act.put]); (try simp only [List.setIfInBounds_toArray]); (try simp only [List.set_cons_succ]); (try simp only [List.set_cons_zero])
    refine wpAnyH_take (i := 7) (v := ?_) rfl (by kernel_rfl) (by kernel_rfl) (by kernel_rfl) (fun _ _ _ h => h) (Or.inl ⟨by kernel_rfl, ?_⟩) hHeld ?_
    rotate_left
    · intro wz hSw; obtain ⟨hS1, hS2⟩ := hSw; obtain ⟨p0, p1, p2, p3, p4⟩ := hS1.c5; obtain ⟨a0, a1, a2⟩ := hS2.c3; clear hS1 hS2; go_simp; all_goals (try with_reducible rfl)
    (try simp only [List.getElem_toArray]); (try simp only [List.getElem_cons_succ]); (try simp only [List.getElem_cons_zero]); (try simp only [Act.put]); (try simp only [List.setIfInBounds_toArray]); (try simp only [List.set_cons_succ]); (try simp only [List.set_cons_zero])
    refine wpAnyH_ready (rs := [8]) (by kernel_rfl) (by simp) (AllReadyH.cons rfl (fun Kc hKc => ?_) AllReadyH.nil)
    go_simp
    refine (HR.out _).mono ?_
    rintro x w2 ⟨rfl, hb⟩
    go_wp2_with fail
    have k1 := K1.out.drew.below hb
    have k2 := K2.out.drew.below hb
    have k3 := K3.out.drew.below hb
    replace HB := hidU (HB.out.drew.trans (hb.mono HB.out.drew.size))
    refine hKc.out _ _ ⟨k3, k1⟩ (fun hHeld => ?_)
    clear hKc Kc hb K1 K2 K3
    (try simp only [List.getElem_toArray]); (try simp only [List.getElem_cons_succ]); (try simp only [List.getElem_cons_zero]); (try simp only [Act.put]); (try simp only [List.setIfInBounds_toArray]); (try simp only [List.set_cons_succ]); (try simp only [List.set_cons_zero])
    refine wpAnyH_take (i := 9) (v := ?_) rfl (by kernel_rfl) (by kernel_rfl) (by kernel_rfl) (fun _ _ _ h => h) (Or.inl ⟨by kernel_rfl, ?_⟩) hHeld ?_
    rotate_left
    · intro wz hSw; obtain ⟨hS1, hS2⟩ := hSw; obtain ⟨p0, p1, p2, p3, p4⟩ := hS1.c5; obtain ⟨a0, a1, a2⟩ := hS2.c3; clear hS1 hS2; go_simp; all_goals (try with_reducible rfl)
    (try simp only [List.getElem_toArray]); (try simp only [List.getElem_cons_succ]); (try simp only [List.getElem_cons_zero]); (try simp only [Act.put]); (try simp only [List.setIfInBounds_toArray]); (try simp only [List.set_cons_succ]); (try simp only [List.set_cons_zero])
    have hFZ := HFZ.out
    have hAZ := HAZ.out
    have K3 := hidU (k3.other7 hFZ (.int .i64 s0) (.int .i64 s1) (.int .i64 s2) (.int .i64 s3) (.int .i64 s4) (.int .i64 n) (.int .i64 d))
    have K1 := hidU (k1.other7 hAZ (.int .i64 s0) (.int .i64 s1) (.int .i64 s2) (.int .i64 s3) (.int .i64 s4) (.int .i64 n) (.int .i64 d))
    have KZ := hidU (k2.set7 (.int .i64 s0) (.int .i64 s1) (.int .i64 s2) (.int .i64 s3) (.int .i64 s4) (.int .i64 n) (.int .i64 d))
    obtain ⟨z0, z1, z2, z3, z4, z5, z6⟩ := k2.c7
    obtain ⟨f0, f1, f2, f3, f4, f5, f6⟩ := k2.f7
    clear k1 k2 k3 hFZ hAZ
    refine wpAnyH_ready (rs := [10]) (by kernel_rfl) (by simp) (AllReadyH.cons rfl (fun Kc hKc => ?_) AllReadyH.nil)
    go_simp
    refine hKc.out _ _ ⟨K3.out, K1.out⟩ (fun hHeld => ?_)
    clear hKc Kc z0 z1 z2 z3 z4 z5 z6 f0 f1 f2 f3 f4 f5 f6
    (try simp only [List.getElem_toArray]); (try simp only [List.getElem_cons_succ]); (try simp only [List.getElem_cons_zero]); (try simp only [Act.put]); (try simp only [List.setIfInBounds_toArray]); (try simp only [List.set_cons_succ]); (try simp only [List.set_cons_zero])
    refine wpAnyH_take (i := 11) (v := ?_) rfl (by kernel_rfl) (by kernel_rfl) (by kernel_rfl) (fun _ _ _ h => h) (Or.inl ⟨by kernel_rfl, ?_⟩) hHeld ?_
    rotate_left
    · intro wz hSw; obtain ⟨hS1, hS2⟩ := hSw; obtain ⟨p0, p1, p2, p3, p4⟩ := hS1.c5; obtain ⟨a0, a1, a2⟩ := hS2.c3; clear hS1 hS2; go_simp; all_goals (try with_reducible rfl)
    (try simp only [List.getElem_toArray]); (try simp only [List.getElem_cons_succ]); (try simp only [List.getElem_cons_zero]); (try simp only [Act.put]); (try simp only [List.setIfInBounds_toArray]); (try simp only [List.set_cons_succ]); (try simp only [List.set_cons_zero])
    refine wpAnyH_done (by kernel_rfl) ?_ _
    refine NoPanic.normal ?_
    go_wp2
    obtain ⟨y0, y1, y2, y3, y4, y5, y6⟩ := KZ.out.c7
    exact bodyPost_ret (v := .tuple #[.agg #[.int .i64 s0, .int .i64 s1, .int .i64 s2, .int .i64 s3, .int .i64 s4, .int .i64 n, .int .i64 d], .bool o]) (by simp [results, Tryz.results31, go_sem, y0, y1, y2, y3, y4, y5, y6]) rfl ⟨_, _, _, _, _, rfl, by have := HS.out; simpa using this, below_set7 HB.out hZw.out _ _ _ _ _ _ _⟩
end Go.Proofs.YtnhefbhiemdhoaaGreat

/- A list of numbers in memory, wherever it lies: read, held against another one, marked; and what stays when a range of blocks is written. -/
namespace Go.Proofs.YtnhefbhiemdhoaaGreat
open Go.RowKit Go.Proofs.YtnhefbhiemdhoaaGreat.RM

/-- only blocks from lo on, below hi, have been written; or new ones -/
structure Kp (lo hi : Nat) (w w' : World) : Prop where
  os : w'.os = w.os
  tape : w'.tape = w.tape
  output : w'.output = w.output
  size : w.heap.size ≤ w'.heap.size
  block : ∀ k, k < w.heap.size → (k < lo ∨ hi ≤ k) → w'.heap[k]? = w.heap[k]?
theorem Kp.refl (lo hi : Nat) (w : World) : Kp lo hi w w := ⟨rfl, rfl, rfl, Nat.le_refl _, fun _ _ _ => rfl⟩
theorem Kp.trans {lo hi : Nat} {a b c : World} (h : Kp lo hi a b) (k : Kp lo hi b c) : Kp lo hi a c :=
  ⟨k.os.trans h.os, k.tape.trans h.tape, k.output.trans h.output, Nat.le_trans h.size k.size, fun i hi hr => (k.block i (Nat.lt_of_lt_of_le hi h.size) hr).trans (h.block i hi hr)⟩
theorem Kp.of_below {lo hi : Nat} {w w' : World} (h : Below w.heap.size w w') : Kp lo hi w w' := ⟨h.os, h.tape, h.output, h.size, fun k hk _ => h.block k hk⟩
theorem Kp.below {lo hi B : Nat} {w w' : World} (h : Kp lo hi w w') (hl : B ≤ lo) (hs : B ≤ w.heap.size) : Below B w w' :=
  ⟨h.os, h.tape, h.output, h.size, fun k hk => h.block k (Nat.lt_of_lt_of_le hk hs) (.inl (Nat.lt_of_lt_of_le hk hl))⟩
theorem Kp.set {lo hi g o : Nat} (w : World) (v : Value) (h1 : lo ≤ g) (h2 : g < hi) : Kp lo hi w (w.setCell ⟨g, o, none⟩ v) :=
  ⟨rfl, rfl, rfl, by simp, fun k _ hr => Below.heap_setCell w ⟨g, o, none⟩ v k (by show k ≠ g; omega)⟩
theorem Kp.cell {lo hi b o : Nat} {w w' : World} {v : Value} (h : Kp lo hi w w') (hc : w.cell? ⟨b, o, none⟩ = some v) (hr : b < lo ∨ hi ≤ b) : w'.cell? ⟨b, o, none⟩ = some v :=
  (World.cell?_of_block (w := w) (a := ⟨b, o, none⟩) (h.block b (lt_cell hc) hr)).trans hc

/-- v is a list of these numbers, in blocks from lo on, below hi -/
def RowM (W : World) (lo hi : Nat) (v : Value) (xs : List Int) : Prop :=
  ∃ a c, v = .slice a xs.length c ∧ (0 < xs.length → ∃ g off, a = some ⟨g, off, none⟩ ∧ lo ≤ g ∧ g < hi ∧ ∀ j, j < xs.length → W.cell? ⟨g, off + j, none⟩ = some (.int .i64 (xs[j]?.getD 0)) ∧ W.frozen? ⟨g, off + j, none⟩ = false)
theorem RowM.kp {W W' : World} {lo hi lo' hi' : Nat} {v : Value} {xs : List Int} (h : RowM W lo hi v xs) (hk : Kp lo' hi' W W') (hr : hi ≤ lo' ∨ hi' ≤ lo) : RowM W' lo hi v xs := by
  obtain ⟨a, c, h1, h2⟩ := h
  refine ⟨a, c, h1, fun h0 => ?_⟩
  obtain ⟨g, off, h3, h4, h5, h6⟩ := h2 h0
  refine ⟨g, off, h3, h4, h5, fun j hj => ?_⟩
  obtain ⟨k1, k2⟩ := h6 j hj
  have hb := hk.block g (lt_cell k1) (by omega)
  exact ⟨(World.cell?_of_block (w := W) (a := ⟨g, off + j, none⟩) hb).trans k1, (World.frozen?_of_block (w := W) (a := ⟨g, off + j, none⟩) hb).trans k2⟩
theorem RowM.below {W W' : World} {lo hi : Nat} {v : Value} {xs : List Int} (h : RowM W lo hi v xs) (hb : Below W.heap.size W W') : RowM W' lo hi v xs :=
  h.kp (Kp.of_below (lo := hi) (hi := hi) hb) (.inl (Nat.le_refl _))
theorem RowM.mono {W : World} {lo hi lo' hi' : Nat} {v : Value} {xs : List Int} (h : RowM W lo hi v xs) (h1 : lo' ≤ lo) (h2 : hi ≤ hi') : RowM W lo' hi' v xs := by
  obtain ⟨a, c, e1, e2⟩ := h
  refine ⟨a, c, e1, fun h0 => ?_⟩
  obtain ⟨g, off, h3, h4, h5, h6⟩ := e2 h0
  exact ⟨g, off, h3, by omega, by omega, h6⟩
theorem RowM.own {W : World} {base n : Nat} {e : TypeId} {v : Value} {xs : List Int} (h : W.ownsRow base e 1 v n (xs.map (Value.int .i64))) : RowM W base W.heap.size v xs := by
  have hn : xs.length = n := by simpa using h.1
  obtain ⟨a, c, rfl⟩ := own_shape h
  refine ⟨a, c, by rw [hn], fun h0 => ?_⟩
  obtain ⟨g, c', e'⟩ := own_some h (by omega)
  injection e' with e1
  subst e1
  refine ⟨g, 0, rfl, (h.lt g rfl).1, (h.lt g rfl).2, fun j hj => ?_⟩
  rw [Nat.zero_add]
  exact ⟨own_int h hn j (by omega), h.frozenAt j⟩
theorem RowM.empty {W : World} {lo hi : Nat} (a : Option Addr) (c : Nat) : RowM W lo hi (.slice a 0 c) [] := ⟨a, c, rfl, fun h => absurd h (Nat.lt_irrefl _)⟩
theorem RowM.shape {W : World} {lo hi : Nat} {v : Value} {xs : List Int} (h : RowM W lo hi v xs) : ∃ a c, v = .slice a xs.length c := by
  obtain ⟨a, c, h1, _⟩ := h
  exact ⟨a, c, h1⟩

theorem RowM.put {W : World} {lo hi g off c n : Nat} {xs : List Int} (hn : xs.length = n) (h : ∀ j, j < n → W.cell? ⟨g, off + j, none⟩ = some (.int .i64 (xs[j]?.getD 0)) ∧ W.frozen? ⟨g, off + j, none⟩ = false) (h1 : lo ≤ g) (h2 : g < hi) : RowM W lo hi (.slice (some ⟨g, off, none⟩) n c) xs :=
  ⟨_, c, by rw [hn], fun _ => ⟨g, off, rfl, h1, h2, fun j hj => h j (by omega)⟩⟩
theorem mrk_getD (k0 : Int) (zs : List Int) (k j : Nat) (_hj : j < zs.length) (_hk : k ≤ zs.length) : (mrk k0 zs k)[j]?.getD 0 = if j < k then k0 + j else zs[j]?.getD 0 := by
  unfold mrk
  by_cases h : j < k
  · rw [List.getElem?_append_left (by simpa using h), if_pos h]
    simp [h]
  · rw [List.getElem?_append_right (by simp; omega), if_neg h]
    simp only [List.length_map, List.length_range, List.getElem?_drop]
    congr 2
    omega

end Go.Proofs.YtnhefbhiemdhoaaGreat

/- Quantities in plain numbers: what Plus and Product tell. -/
namespace Go.Proofs.YtnhefbhiemdhoaaGreat
open Go.Proofs.YtnhefbhiemdhoaaGreat.RM

/-- is it a quantity -/
def quaB (n d : Int) (ys : List Int) : Bool := okB n d && dimB ys
/-- a quantity and whether there is one: what is told where there is none is nought -/
def toldQ (n d : Int) (xs : List Int) (b : Bool) : Int × Int × List Int × Bool := if b then (n, d, xs, true) else (0, 0, [], false)
def plusQ (n d : Int) (ys : List Int) (m c : Int) (zs : List Int) : Int × Int × List Int × Bool :=
  toldQ (opN (two n d m c) (n * c + m * d) (d * c)) (opD (two n d m c) (n * c + m * d) (d * c)) ys (dimB ys && dimB zs && decide (ys = zs) && opOk (two n d m c) (n * c + m * d) (d * c))
def prodQ (n d : Int) (ys : List Int) (m c : Int) (zs : List Int) : Int × Int × List Int × Bool :=
  toldQ (opN (two n d m c) (n * m) (d * c)) (opD (two n d m c) (n * m) (d * c)) (List.zipWith (· + ·) ys zs) (dimB ys && dimB zs && dimB (List.zipWith (· + ·) ys zs) && opOk (two n d m c) (n * m) (d * c))
theorem toldQ_len (n d : Int) (xs : List Int) (b : Bool) (h : b = true → xs.length ≤ 5) : (toldQ n d xs b).2.2.1.length ≤ 5 := by
  unfold toldQ
  cases b
  · exact Nat.zero_le _
  · exact h rfl
theorem dimB_len {ys : List Int} (h : dimB ys = true) : ys.length = 5 := by
  unfold dimB at h
  rw [Bool.and_eq_true, decide_eq_true_eq] at h
  exact h.1
theorem plusQ_len (n d : Int) (ys : List Int) (m c : Int) (zs : List Int) : (plusQ n d ys m c zs).2.2.1.length ≤ 5 :=
  toldQ_len _ _ _ _ fun h => by
    simp only [Bool.and_eq_true] at h
    rw [dimB_len h.1.1.1]; exact Nat.le_refl _
theorem prodQ_len (n d : Int) (ys : List Int) (m c : Int) (zs : List Int) : (prodQ n d ys m c zs).2.2.1.length ≤ 5 :=
  toldQ_len _ _ _ _ fun h => by
    simp only [Bool.and_eq_true] at h
    rw [dimB_len h.1.2]; exact Nat.le_refl _
end Go.Proofs.YtnhefbhiemdhoaaGreat

/- What is shown of a measure; the program's QuantityOk and Plus. -/
namespace Go.Proofs.YtnhefbhiemdhoaaGreat
open Go.RowKit Go.Proofs.YtnhefbhiemdhoaaGreat.RM

theorem toldQ_no (n d : Int) (xs : List Int) : toldQ n d xs false = (0, 0, [], false) := rfl
theorem toldQ_yes (n d : Int) (xs : List Int) : toldQ n d xs true = (n, d, xs, true) := rfl
/-- a quantity's value in memory of the call's own -/
def QuaP (w : World) (q : Int × Int × List Int × Bool) (x : Ending) (w' : World) : Prop :=
  ∃ v, x = .returned (.tuple #[.agg #[.int .i64 q.1, .int .i64 q.2.1, v], .bool q.2.2.2]) ∧ RowM w' w.heap.size w'.heap.size v q.2.2.1 ∧ Below w.heap.size w w'

set_option maxRecDepth 100000 in
set_option maxHeartbeats 1000000 in
theorem shownM_any (s0 s1 s2 s3 s4 n d : Int) (b : Bool) (w : World) :
    Calls Tryz.prog 29 #[.agg #[.int .i64 s0, .int .i64 s1, .int .i64 s2, .int .i64 s3, .int .i64 s4, .int .i64 n, .int .i64 d], .bool b] w fun e w' => QuaP w (toldQ n d [s0, s1, s2, s3, s4] b) e w' := by
  have b0 : ∀ (u : World) (o : Obj), Below u.heap.size u (u.alloc o) := fun u o => (Below.refl _ _).alloc (Nat.le_refl _) o
  cases b
  · rw [toldQ_no]
    go_enter Tryz.func29, Tryz.ntmps29
    go_wp2
    exact bodyPost_ret (v := .tuple #[.agg #[.int .i64 0, .int .i64 0, .slice none 0 0], .bool false]) (by simp [results, Tryz.results29, go_sem]) rfl ⟨_, rfl, RowM.empty _ _, (b0 _ _).alloc (by simp) _⟩
  · rw [toldQ_yes]
    go_enter Tryz.func29, Tryz.ntmps29
    go_upto_region 3 with fail
    go_region
    go_wp2
    refine bodyPost_ret (v := .tuple #[.agg #[.int .i64 n, .int .i64 d, .slice (some ⟨w.heap.size, 0, none⟩) 5 5], .bool true]) (by simp [results, Tryz.results29, go_sem]) rfl ⟨_, rfl, ?_, ?_⟩
    · have h2 := ((IsB.new w #[.int .i64 s0, .int .i64 s1, .int .i64 s2, .int .i64 s3, .int .i64 s4, .int .i64 n, .int .i64 d] 60).below (b0 _ (.cells #[.int .i64 n, .int .i64 d, .slice (some ⟨w.heap.size, 0, none⟩) 5 5] 30))).drew
      refine RowM.put (n := 5) rfl (fun j hj => ?_) (Nat.le_refl _) h2.lt
      rw [Nat.zero_add]
      obtain rfl | rfl | rfl | rfl | rfl : j = 0 ∨ j = 1 ∨ j = 2 ∨ j = 3 ∨ j = 4 := by omega
      · exact ⟨h2.cell (v := .int .i64 s0) 0 rfl, h2.frozen 0⟩
      · exact ⟨h2.cell (v := .int .i64 s1) 1 rfl, h2.frozen 1⟩
      · exact ⟨h2.cell (v := .int .i64 s2) 2 rfl, h2.frozen 2⟩
      · exact ⟨h2.cell (v := .int .i64 s3) 3 rfl, h2.frozen 3⟩
      · exact ⟨h2.cell (v := .int .i64 s4) 4 rfl, h2.frozen 4⟩
    · exact ((b0 _ _).alloc (by simp) _).drew

set_option maxRecDepth 100000 in
set_option maxHeartbeats 1000000 in
theorem iQuaOk_any (n d : Int) (v : Value) (ys : List Int) (w : World) (h : DimIn w v ys) :
    Calls Tryz.prog 14 #[.agg #[.int .i64 n, .int .i64 d, v]] w fun e w' => e = .returned (.bool (quaB n d ys)) ∧ Below w.heap.size w w' := by
  have b0 : ∀ (u : World) (o : Obj), Below u.heap.size u (u.alloc o) := fun u o => (Below.refl _ _).alloc (Nat.le_refl _) o
  have HM := hidU (fun W (hW : Below w.heap.size w W) => measOf_any n d v ys W (h.below hW))
  rw [show quaB n d ys = (dimB ys && okB n d) from Bool.and_comm _ _]
  obtain ⟨q, hq⟩ : ∃ q, q = (dimB ys && okB n d) := ⟨_, rfl⟩
  rw [← hq] at HM ⊢
  clear hq h
  go_enter Tryz.func14, Tryz.ntmps14
  go_wp2_with fail
  refine (HM.out _ (b0 _ _)).mono ?_
  rintro e w1 ⟨s0, s1, s2, s3, s4, rfl, hs, hb⟩
  have HB := hidU ((b0 w _).trans (hb.mono (by simp)))
  clear hs hb
  go_wp2
  go_ret
  exact ⟨rfl, HB.out.alloc HB.out.size _⟩
end Go.Proofs.YtnhefbhiemdhoaaGreat

/- The program's Plus and Product of quantities. -/
namespace Go.Proofs.YtnhefbhiemdhoaaGreat
open Go.RowKit Go.Proofs.YtnhefbhiemdhoaaGreat.RM

theorem plusQ_no {n d m c : Int} {ys zs : List Int} (h : (dimB ys && okB n d) = false ∨ (dimB zs && okB m c) = false ∨ ys ≠ zs) : plusQ n d ys m c zs = (0, 0, [], false) := by
  unfold plusQ toldQ opOk
  rw [if_neg]
  intro h2
  simp only [Bool.and_eq_true, decide_eq_true_eq] at h2
  obtain ⟨⟨⟨h3, h4⟩, h5⟩, h6, h7⟩ := h2
  obtain ⟨h8, h9⟩ := two_out h6
  rcases h with h | h | h
  · rw [h3, h8] at h; cases h
  · rw [h4, h9] at h; cases h
  · exact h h5
theorem plusQ_yes {n d m c : Int} {ys zs : List Int} (h : (dimB ys && okB n d) = true) (h2 : (dimB zs && okB m c) = true) (h3 : ys = zs) : plusQ n d ys m c zs = toldQ (opN (two n d m c) (n * c + m * d) (d * c)) (opD (two n d m c) (n * c + m * d) (d * c)) ys (opOk (two n d m c) (n * c + m * d) (d * c)) := by
  unfold plusQ
  rw [Bool.and_eq_true] at h h2
  rw [h.1, h2.1, decide_eq_true h3]
  simp
theorem prodQ_no {n d m c : Int} {ys zs : List Int} (h : (dimB ys && okB n d) = false ∨ (dimB zs && okB m c) = false) : prodQ n d ys m c zs = (0, 0, [], false) := by
  unfold prodQ toldQ opOk
  rw [if_neg]
  intro h2
  simp only [Bool.and_eq_true] at h2
  obtain ⟨⟨⟨h3, h4⟩, h5⟩, h6, h7⟩ := h2
  obtain ⟨h8, h9⟩ := two_out h6
  rcases h with h | h
  · rw [h3, h8] at h; cases h
  · rw [h4, h9] at h; cases h
theorem prodQ_yes {n d m c : Int} {ys zs : List Int} (h : (dimB ys && okB n d) = true) (h2 : (dimB zs && okB m c) = true) : prodQ n d ys m c zs = toldQ (opN (two n d m c) (n * m) (d * c)) (opD (two n d m c) (n * m) (d * c)) (List.zipWith (· + ·) ys zs) (dimB (List.zipWith (· + ·) ys zs) && opOk (two n d m c) (n * m) (d * c)) := by
  unfold prodQ
  rw [Bool.and_eq_true] at h h2
  rw [h.1, h2.1]
  simp
set_option maxRecDepth 100000 in
set_option maxHeartbeats 2000000 in
theorem iQPlus_any (n d m c : Int) (v u : Value) (ys zs : List Int) (w : World) (h0 : DimIn w v ys) (h1 : DimIn w u zs) :
    Calls Tryz.prog 8 #[.agg #[.int .i64 n, .int .i64 d, v], .agg #[.int .i64 m, .int .i64 c, u]] w fun e w' => QuaP w (plusQ n d ys m c zs) e w' := by
  have b0 : ∀ (u : World) (o : Obj), Below u.heap.size u (u.alloc o) := fun u o => (Below.refl _ _).alloc (Nat.le_refl _) o
  have HM0 := hidU (fun W (hW : Below w.heap.size w W) => measOf_any n d v ys W (h0.below hW))
  have HM1 := hidU (fun W (hW : Below w.heap.size w W) => measOf_any m c u zs W (h1.below hW))
  have HSH := hidU (fun (s0 s1 s2 s3 s4 n d : Int) (b : Bool) (W : World) => shownM_any s0 s1 s2 s3 s4 n d b W)
  have HA := hidU (fun W => iAdd_any n d m c W)
  have HNO : Hid ((dimB ys && okB n d) = false ∨ (dimB zs && okB m c) = false ∨ ys ≠ zs → plusQ n d ys m c zs = (0, 0, [], false)) := plusQ_no
  have HYES : Hid ((dimB ys && okB n d) = true → (dimB zs && okB m c) = true → ys = zs → plusQ n d ys m c zs = toldQ (opN (two n d m c) (n * c + m * d) (d * c)) (opD (two n d m c) (n * c + m * d) (d * c)) ys (opOk (two n d m c) (n * c + m * d) (d * c))) := plusQ_yes
  obtain ⟨RQ, hRQ⟩ : ∃ R, R = plusQ n d ys m c zs := ⟨_, rfl⟩
  rw [← hRQ] at HNO HYES ⊢
  obtain ⟨rN, hN⟩ : ∃ x, x = opN (two n d m c) (n * c + m * d) (d * c) := ⟨_, rfl⟩
  obtain ⟨rD, hD⟩ : ∃ x, x = opD (two n d m c) (n * c + m * d) (d * c) := ⟨_, rfl⟩
  obtain ⟨rO, hO⟩ : ∃ x, x = opOk (two n d m c) (n * c + m * d) (d * c) := ⟨_, rfl⟩
  rw [← hN, ← hD, ← hO] at HA HYES
  clear hRQ hN hD hO
  obtain ⟨p, hp⟩ : ∃ p, p = (dimB ys && okB n d) := ⟨_, rfl⟩
  obtain ⟨q, hq⟩ : ∃ q, q = (dimB zs && okB m c) := ⟨_, rfl⟩
  have HDP : Hid (p = true → dimB ys = true) := by intro h; rw [hp, Bool.and_eq_true] at h; exact h.1
  have HDQ : Hid (q = true → dimB zs = true) := by intro h; rw [hq, Bool.and_eq_true] at h; exact h.1
  rw [← hp] at HM0 HNO HYES
  rw [← hq] at HM1 HNO HYES
  obtain ⟨a0, c0, rfl⟩ := h0.shape
  obtain ⟨a1, c1, rfl⟩ := h1.shape
  obtain ⟨k0, hk0⟩ : ∃ k, k = ys.length := ⟨_, rfl⟩
  obtain ⟨k1, hk1⟩ : ∃ k, k = zs.length := ⟨_, rfl⟩
  rw [← hk0] at HM0 ⊢
  rw [← hk1] at HM1 ⊢
  clear hp hq h0 h1 hk0 hk1
  go_enter Tryz.func8, Tryz.ntmps8
  go_wp2_with fail
  refine (HM0.out _ (((b0 _ _).alloc (by simp) _).alloc (by simp; omega) _)).mono ?_
  rintro e w1 ⟨s0, s1, s2, s3, s4, rfl, hs, hb⟩
  have HS := hidU hs
  obtain ⟨A, hA⟩ : ∃ A, A = w.heap.size := ⟨_, rfl⟩
  have hAw : Hid (w.heap.size ≤ A) := Nat.le_of_eq hA.symm
  have k2 : IsB w1 (A + 1) #[.int .i64 m, .int .i64 c, .slice a1 k1 c1] 30 := by rw [hA]; exact ((IsB.new2c w _ _ _).below (b0 _ _)).below hb
  have k3 : IsB w1 (A + 1 + 1) #[.int .i64 0, .int .i64 0, .slice none 0 0] 30 := by rw [hA]; exact (IsB.new3c w _ _ _ _).below hb
  have hB1 : Below w.heap.size w w1 := (((b0 _ _).alloc (by simp) _).alloc (by simp; omega) _).trans (hb.mono (by simp; omega))
  rw [← hA]
  clear hb hA hs
  go_upto_region 2 with fail
  obtain ⟨Y, hY⟩ : ∃ Y, Y = w1.alloc (.cells #[.int .i64 s0, .int .i64 s1, .int .i64 s2, .int .i64 s3, .int .i64 s4, .int .i64 n, .int .i64 d] 60) := ⟨_, rfl⟩
  obtain ⟨F, hF⟩ : ∃ F, F = w1.heap.size := ⟨_, rfl⟩
  have hb : Below w1.heap.size w1 Y := by rw [hY]; exact b0 _ _
  replace k2 := k2.below hb
  replace k3 := k3.below hb
  have k4 : IsB Y F #[.int .i64 s0, .int .i64 s1, .int .i64 s2, .int .i64 s3, .int .i64 s4, .int .i64 n, .int .i64 d] 60 := by rw [hY, hF]; exact IsB.new _ _ _
  replace hB1 := hB1.trans (hb.mono hB1.size)
  rw [← hY, ← hF]
  clear hY hF hb
  obtain ⟨Z, hZ⟩ : ∃ Z, Z = A + 1 + 1 := ⟨_, rfl⟩
  obtain ⟨D, hD⟩ : ∃ D, D = A + 1 := ⟨_, rfl⟩
  rw [← hD] at k2 k3 hZ ⊢
  rw [← hZ] at k3 ⊢
  have hZw : Hid (w.heap.size ≤ Z) := by have := hAw.out; show _ ≤ _; omega
  clear hZ hD
  obtain ⟨d0, d1, d2⟩ := k2.c3
  have K3 := hidU k3
  have K4 := hidU k4
  have HB := hidU hB1
  clear k2 k3 k4 hB1
  go_wp2_with fail
  refine (HM1.out _ HB.out).mono ?_
  rintro e w2 ⟨t0, t1, t2, t3, t4, rfl, hs, hb⟩
  have HT := hidU hs
  replace K3 := hidU (K3.out.below hb)
  replace K4 := hidU (K4.out.below hb)
  replace HB := hidU (HB.out.trans (hb.mono HB.out.size))
  clear hs hb d0 d1 d2
  go_upto_region 3 with fail
  obtain ⟨X, hX⟩ : ∃ Y, Y = w2.alloc (.cells #[.int .i64 t0, .int .i64 t1, .int .i64 t2, .int .i64 t3, .int .i64 t4, .int .i64 m, .int .i64 c] 60) := ⟨_, rfl⟩
  obtain ⟨G, hG⟩ : ∃ F, F = w2.heap.size := ⟨_, rfl⟩
  have hb : Below w2.heap.size w2 X := by rw [hX]; exact b0 _ _
  have k3 := K3.out.below hb
  have k4 := K4.out.below hb
  have k5 : IsB X G #[.int .i64 t0, .int .i64 t1, .int .i64 t2, .int .i64 t3, .int .i64 t4, .int .i64 m, .int .i64 c] 60 := by rw [hX, hG]; exact IsB.new _ _ _
  replace HB := hidU (HB.out.trans (hb.mono HB.out.size))
  rw [← hX, ← hG]
  clear hX hG hb K3 K4
  obtain ⟨x0, x1, x2, x3, x4, x5, x6⟩ := k4.c7
  obtain ⟨y0, y1, y2, y3, y4, y5, y6⟩ := k5.c7
  obtain ⟨z0, z1, z2⟩ := k3.c3
  obtain ⟨f0, f1, f2⟩ := k3.f3
  have K3 := hidU k3
  have K4 := hidU k4
  have K5 := hidU k5
  clear k3 k4 k5
  cases p
  · have HNN := hidU (HNO.out (.inl rfl))
    go_wp2
    exact bodyPost_ret (v := .tuple #[.agg #[.int .i64 0, .int .i64 0, .slice none 0 0], .bool false]) (by simp [results, Tryz.results8, go_sem, z0, z1, z2]) rfl (by rw [HNN.out]; exact ⟨_, rfl, RowM.empty _ _, below_set3 HB.out hZw.out _ _ _⟩)
  cases q
  · have HNN := hidU (HNO.out (.inr (.inl rfl)))
    go_wp2
    exact bodyPost_ret (v := .tuple #[.agg #[.int .i64 0, .int .i64 0, .slice none 0 0], .bool false]) (by simp [results, Tryz.results8, go_sem, z0, z1, z2]) rfl (by rw [HNN.out]; exact ⟨_, rfl, RowM.empty _ _, below_set3 HB.out hZw.out _ _ _⟩)
  have e1 : ys = [s0, s1, s2, s3, s4] := by have h := HS.out; have g := HDP.out rfl; exact h g
  have e2 : zs = [t0, t1, t2, t3, t4] := by have h := HT.out; have g := HDQ.out rfl; exact h g
  have E5 := fun W => eq5 s0 s1 s2 s3 s4 t0 t1 t2 t3 t4 W
  obtain ⟨g, hg⟩ : ∃ q : Bool, q = (s0 == t0 && (s1 == t1 && (s2 == t2 && (s3 == t3 && s4 == t4)))) := ⟨_, rfl⟩
  have HG : Hid (g = true ↔ ys = zs) := by
    show _ ↔ _
    rw [hg, e1, e2]
    simp
  rw [← hg] at E5
  have HE1 := hidU e1
  clear hg e1 e2
  cases g
  · have HNN := hidU (HNO.out (.inr (.inr (fun h => by have := HG.out.2 h; cases this))))
    go_wp2
    exact bodyPost_ret (v := .tuple #[.agg #[.int .i64 0, .int .i64 0, .slice none 0 0], .bool false]) (by simp [results, Tryz.results8, go_sem, z0, z1, z2]) rfl (by rw [HNN.out]; exact ⟨_, rfl, RowM.empty _ _, below_set3 HB.out hZw.out _ _ _⟩)
  · have HRES : RQ = toldQ rN rD [s0, s1, s2, s3, s4] rO := by rw [HYES.out rfl rfl (HG.out.1 rfl), HE1.out]
    clear HNO HYES HG HS HT HDP HDQ
    go_wp2_with fail
    refine (HA.out _).mono ?_
    rintro e w3 ⟨rfl, hb⟩
    have k3 := K3.out.below hb
    have k4 := K4.out.below hb
    replace HB := hidU (HB.out.trans (hb.mono HB.out.size))
    clear hb K3 K4 K5 x0 x1 x2 x3 x4 x5 x6 y0 y1 y2 y3 y4 y5 y6 z0 z1 z2 f0 f1 f2
    go_upto_region 6 with fail
    obtain ⟨W5, hX⟩ : ∃ Y, Y = w3.alloc (.cells #[.int .i64 rN, .int .i64 rD] 25) := ⟨_, rfl⟩
    obtain ⟨V, hV⟩ : ∃ F, F = w3.heap.size := ⟨_, rfl⟩
    have hb : Below w3.heap.size w3 W5 := by rw [hX]; exact b0 _ _
    have K3 := hidU (k3.below hb)
    replace k4 := k4.below hb
    have k6 : IsB W5 V #[.int .i64 rN, .int .i64 rD] 25 := by rw [hX, hV]; exact IsB.new _ _ _
    replace HB := hidU (HB.out.trans (hb.mono HB.out.size))
    have HWL := HB.out.size
    rw [← hX, ← hV]
    clear hX hV hb k3
    obtain ⟨x0, x1, x2, x3, x4, x5, x6⟩ := k4.c7
    have y0 := k6.cell (v := .int .i64 rN) 0 rfl
    have y1 := k6.cell (v := .int .i64 rD) 1 rfl
    clear k4 k6
    go_wp2_with fail
    refine (HSH.out s0 s1 s2 s3 s4 rN rD rO _).mono ?_
    rintro e w5 ⟨v5, rfl, hv, hb⟩
    have HR9 := hidU HRES
    obtain ⟨R, hR⟩ : ∃ R, R = toldQ rN rD [s0, s1, s2, s3, s4] (rO) := ⟨_, rfl⟩
    rw [← hR] at hv HR9 ⊢
    clear hR
    obtain ⟨rn, rd, rx, rb⟩ := R
    simp only at hv ⊢
    obtain ⟨a5, c5, hv5⟩ := hv.shape
    obtain ⟨k5, hk5⟩ : ∃ k, k = rx.length := ⟨_, rfl⟩
    rw [← hk5] at hv5
    subst hv5
    clear hk5
    have k3 := K3.out.below hb
    have HL := hidU (show Z < W5.heap.size from K3.out.lt)
    have HV := hidU hv
    replace HB := hidU (HB.out.trans (hb.mono HB.out.size))
    obtain ⟨z0, z1, z2⟩ := k3.c3
    obtain ⟨f0, f1, f2⟩ := k3.f3
    have KZ := hidU (k3.set3 (.int .i64 rn) (.int .i64 rd) (.slice a5 k5 c5))
    clear k3 K3 hb hv
    go_wp2
    obtain ⟨y0, y1, y2⟩ := KZ.out.c3
    have h9 : Kp Z (Z + 1) w5 (((w5.setCell ⟨Z, 0, none⟩ (.int .i64 rn)).setCell ⟨Z, 1, none⟩ (.int .i64 rd)).setCell ⟨Z, 2, none⟩ (.slice a5 k5 c5)) := ((Kp.set _ _ (Nat.le_refl _) (Nat.lt_succ_self _)).trans (Kp.set _ _ (Nat.le_refl _) (Nat.lt_succ_self _))).trans (Kp.set _ _ (Nat.le_refl _) (Nat.lt_succ_self _))
    have h8 := (HV.out.kp h9 (.inr HL.out)).mono HWL h9.size
    exact bodyPost_ret (v := .tuple #[.agg #[.int .i64 rn, .int .i64 rd, .slice a5 k5 c5], .bool rb]) (by simp [results, Tryz.results8, go_sem, y0, y1, y2]) rfl (by rw [HR9.out]; exact ⟨_, rfl, h8, below_set3 HB.out hZw.out _ _ _⟩)
set_option maxRecDepth 100000 in
set_option maxHeartbeats 2000000 in
theorem iQProd_any (n d m c : Int) (v u : Value) (ys zs : List Int) (w : World) (h0 : DimIn w v ys) (h1 : DimIn w u zs) :
    Calls Tryz.prog 9 #[.agg #[.int .i64 n, .int .i64 d, v], .agg #[.int .i64 m, .int .i64 c, u]] w fun e w' => QuaP w (prodQ n d ys m c zs) e w' := by
  have b0 : ∀ (u : World) (o : Obj), Below u.heap.size u (u.alloc o) := fun u o => (Below.refl _ _).alloc (Nat.le_refl _) o
  have HM0 := hidU (fun W (hW : Below w.heap.size w W) => measOf_any n d v ys W (h0.below hW))
  have HM1 := hidU (fun W (hW : Below w.heap.size w W) => measOf_any m c u zs W (h1.below hW))
  have HSH := hidU (fun (s0 s1 s2 s3 s4 n d : Int) (b : Bool) (W : World) => shownM_any s0 s1 s2 s3 s4 n d b W)
  have HA := hidU (fun W => iMul_any n d m c W)
  have HNO : Hid ((dimB ys && okB n d) = false ∨ (dimB zs && okB m c) = false → prodQ n d ys m c zs = (0, 0, [], false)) := prodQ_no
  have HYES : Hid ((dimB ys && okB n d) = true → (dimB zs && okB m c) = true → prodQ n d ys m c zs = toldQ (opN (two n d m c) (n * m) (d * c)) (opD (two n d m c) (n * m) (d * c)) (List.zipWith (· + ·) ys zs) (dimB (List.zipWith (· + ·) ys zs) && opOk (two n d m c) (n * m) (d * c))) := prodQ_yes
  obtain ⟨RQ, hRQ⟩ : ∃ R, R = prodQ n d ys m c zs := ⟨_, rfl⟩
  rw [← hRQ] at HNO HYES ⊢
  obtain ⟨rN, hN⟩ : ∃ x, x = opN (two n d m c) (n * m) (d * c) := ⟨_, rfl⟩
  obtain ⟨rD, hD⟩ : ∃ x, x = opD (two n d m c) (n * m) (d * c) := ⟨_, rfl⟩
  obtain ⟨rO, hO⟩ : ∃ x, x = opOk (two n d m c) (n * m) (d * c) := ⟨_, rfl⟩
  rw [← hN, ← hD, ← hO] at HA HYES
  clear hRQ hN hD hO
  obtain ⟨p, hp⟩ : ∃ p, p = (dimB ys && okB n d) := ⟨_, rfl⟩
  obtain ⟨q, hq⟩ : ∃ q, q = (dimB zs && okB m c) := ⟨_, rfl⟩
  have HDP : Hid (p = true → dimB ys = true) := by intro h; rw [hp, Bool.and_eq_true] at h; exact h.1
  have HDQ : Hid (q = true → dimB zs = true) := by intro h; rw [hq, Bool.and_eq_true] at h; exact h.1
  rw [← hp] at HM0 HNO HYES
  rw [← hq] at HM1 HNO HYES
  obtain ⟨a0, c0, rfl⟩ := h0.shape
  obtain ⟨a1, c1, rfl⟩ := h1.shape
  obtain ⟨k0, hk0⟩ : ∃ k, k = ys.length := ⟨_, rfl⟩
  obtain ⟨k1, hk1⟩ : ∃ k, k = zs.length := ⟨_, rfl⟩
  rw [← hk0] at HM0 ⊢
  rw [← hk1] at HM1 ⊢
  clear hp hq h0 h1 hk0 hk1
  go_enter Tryz.func9, Tryz.ntmps9
  go_wp2_with fail
  refine (HM0.out _ (((b0 _ _).alloc (by simp) _).alloc (by simp; omega) _)).mono ?_
  rintro e w1 ⟨s0, s1, s2, s3, s4, rfl, hs, hb⟩
  have HS := hidU hs
  obtain ⟨A, hA⟩ : ∃ A, A = w.heap.size := ⟨_, rfl⟩
  have hAw : Hid (w.heap.size ≤ A) := Nat.le_of_eq hA.symm
  have k2 : IsB w1 (A + 1) #[.int .i64 m, .int .i64 c, .slice a1 k1 c1] 30 := by rw [hA]; exact ((IsB.new2c w _ _ _).below (b0 _ _)).below hb
  have k3 : IsB w1 (A + 1 + 1) #[.int .i64 0, .int .i64 0, .slice none 0 0] 30 := by rw [hA]; exact (IsB.new3c w _ _ _ _).below hb
  have hB1 : Below w.heap.size w w1 := (((b0 _ _).alloc (by simp) _).alloc (by simp; omega) _).trans (hb.mono (by simp; omega))
  rw [← hA]
  clear hb hA hs
  go_upto_region 2 with fail
  obtain ⟨Y, hY⟩ : ∃ Y, Y = w1.alloc (.cells #[.int .i64 s0, .int .i64 s1, .int .i64 s2, .int .i64 s3, .int .i64 s4, .int .i64 n, .int .i64 d] 60) := ⟨_, rfl⟩
  obtain ⟨F, hF⟩ : ∃ F, F = w1.heap.size := ⟨_, rfl⟩
  have hb : Below w1.heap.size w1 Y := by rw [hY]; exact b0 _ _
  replace k2 := k2.below hb
  replace k3 := k3.below hb
  have k4 : IsB Y F #[.int .i64 s0, .int .i64 s1, .int .i64 s2, .int .i64 s3, .int .i64 s4, .int .i64 n, .int .i64 d] 60 := by rw [hY, hF]; exact IsB.new _ _ _
  replace hB1 := hB1.trans (hb.mono hB1.size)
  rw [← hY, ← hF]
  clear hY hF hb
  obtain ⟨Z, hZ⟩ : ∃ Z, Z = A + 1 + 1 := ⟨_, rfl⟩
  obtain ⟨D, hD⟩ : ∃ D, D = A + 1 := ⟨_, rfl⟩
  rw [← hD] at k2 k3 hZ ⊢
  rw [← hZ] at k3 ⊢
  have hZw : Hid (w.heap.size ≤ Z) := by have := hAw.out; show _ ≤ _; omega
  clear hZ hD
  obtain ⟨d0, d1, d2⟩ := k2.c3
  have K3 := hidU k3
  have K4 := hidU k4
  have HB := hidU hB1
  clear k2 k3 k4 hB1
  go_wp2_with fail
  refine (HM1.out _ HB.out).mono ?_
  rintro e w2 ⟨t0, t1, t2, t3, t4, rfl, hs, hb⟩
  have HT := hidU hs
  replace K3 := hidU (K3.out.below hb)
  replace K4 := hidU (K4.out.below hb)
  replace HB := hidU (HB.out.trans (hb.mono HB.out.size))
  clear hs hb d0 d1 d2
  go_upto_region 3 with fail
  obtain ⟨X, hX⟩ : ∃ Y, Y = w2.alloc (.cells #[.int .i64 t0, .int .i64 t1, .int .i64 t2, .int .i64 t3, .int .i64 t4, .int .i64 m, .int .i64 c] 60) := ⟨_, rfl⟩
  obtain ⟨G, hG⟩ : ∃ F, F = w2.heap.size := ⟨_, rfl⟩
  have hb : Below w2.heap.size w2 X := by rw [hX]; exact b0 _ _
  have k3 := K3.out.below hb
  have k4 := K4.out.below hb
  have k5 : IsB X G #[.int .i64 t0, .int .i64 t1, .int .i64 t2, .int .i64 t3, .int .i64 t4, .int .i64 m, .int .i64 c] 60 := by rw [hX, hG]; exact IsB.new _ _ _
  replace HB := hidU (HB.out.trans (hb.mono HB.out.size))
  rw [← hX, ← hG]
  clear hX hG hb K3 K4
  obtain ⟨x0, x1, x2, x3, x4, x5, x6⟩ := k4.c7
  obtain ⟨y0, y1, y2, y3, y4, y5, y6⟩ := k5.c7
  obtain ⟨z0, z1, z2⟩ := k3.c3
  obtain ⟨f0, f1, f2⟩ := k3.f3
  have K3 := hidU k3
  have K4 := hidU k4
  have K5 := hidU k5
  clear k3 k4 k5
  cases p
  · have HNN := hidU (HNO.out (.inl rfl))
    go_wp2
    exact bodyPost_ret (v := .tuple #[.agg #[.int .i64 0, .int .i64 0, .slice none 0 0], .bool false]) (by simp [results, Tryz.results9, go_sem, z0, z1, z2]) rfl (by rw [HNN.out]; exact ⟨_, rfl, RowM.empty _ _, below_set3 HB.out hZw.out _ _ _⟩)
  cases q
  · have HNN := hidU (HNO.out (.inr rfl))
    go_wp2
    exact bodyPost_ret (v := .tuple #[.agg #[.int .i64 0, .int .i64 0, .slice none 0 0], .bool false]) (by simp [results, Tryz.results9, go_sem, z0, z1, z2]) rfl (by rw [HNN.out]; exact ⟨_, rfl, RowM.empty _ _, below_set3 HB.out hZw.out _ _ _⟩)
  have g1 := HDP.out rfl
  have g2 := HDQ.out rfl
  have e1 : ys = [s0, s1, s2, s3, s4] := HS.out g1
  have e2 : zs = [t0, t1, t2, t3, t4] := HT.out g2
  rw [e1, dimB_five] at g1
  rw [e2, dimB_five] at g2
  have G1 := hidU (lim5_out g1)
  have G2 := hidU (lim5_out g2)
  have HD5 := hidU (fun W => dtimes_any s0 s1 s2 s3 s4 t0 t1 t2 t3 t4 W G1.out.1 G1.out.2.1 G1.out.2.2.1 G1.out.2.2.2.1 G1.out.2.2.2.2 G2.out.1 G2.out.2.1 G2.out.2.2.1 G2.out.2.2.2.1 G2.out.2.2.2.2)
  have HRES : RQ = toldQ rN rD [s0 + t0, s1 + t1, s2 + t2, s3 + t3, s4 + t4] (lim5 (s0 + t0) (s1 + t1) (s2 + t2) (s3 + t3) (s4 + t4) && rO) := by
    rw [HYES.out rfl rfl, e1, e2]
    show toldQ rN rD [s0 + t0, s1 + t1, s2 + t2, s3 + t3, s4 + t4] (dimB [s0 + t0, s1 + t1, s2 + t2, s3 + t3, s4 + t4] && rO) = _
    rw [dimB_five]
  clear HNO HYES HS HT HDP HDQ g1 g2 e1 e2 G1 G2
  obtain ⟨r0, h0⟩ : ∃ x, x = s0 + t0 := ⟨_, rfl⟩
  obtain ⟨r1, h1⟩ : ∃ x, x = s1 + t1 := ⟨_, rfl⟩
  obtain ⟨r2, h2⟩ : ∃ x, x = s2 + t2 := ⟨_, rfl⟩
  obtain ⟨r3, h3⟩ : ∃ x, x = s3 + t3 := ⟨_, rfl⟩
  obtain ⟨r4, h4⟩ : ∃ x, x = s4 + t4 := ⟨_, rfl⟩
  rw [← h0, ← h1, ← h2, ← h3, ← h4] at HD5 HRES
  obtain ⟨lo, h5⟩ : ∃ x, x = lim5 r0 r1 r2 r3 r4 := ⟨_, rfl⟩
  rw [← h5] at HD5 HRES
  clear h0 h1 h2 h3 h4 h5
  simp only [arr] at HD5
  go_wp2_with fail
  refine (HD5.out _).mono ?_
  rintro e w3 ⟨rfl, hb⟩
  have k3 := K3.out.below hb
  have k4 := K4.out.below hb
  have k5 := K5.out.below hb
  replace HB := hidU (HB.out.trans (hb.mono HB.out.size))
  clear hb K3 K4 K5 x0 x1 x2 x3 x4 x5 x6 y0 y1 y2 y3 y4 y5 y6 z0 z1 z2 f0 f1 f2 HD5
  go_upto_region 6 with fail
  obtain ⟨U5, hX⟩ : ∃ Y, Y = w3.alloc (.cells #[.int .i64 r0, .int .i64 r1, .int .i64 r2, .int .i64 r3, .int .i64 r4] 53) := ⟨_, rfl⟩
  obtain ⟨V, hV⟩ : ∃ F, F = w3.heap.size := ⟨_, rfl⟩
  have hb : Below w3.heap.size w3 U5 := by rw [hX]; exact b0 _ _
  have K3 := hidU (k3.below hb)
  replace k4 := k4.below hb
  replace k5 := k5.below hb
  have k6 : IsB U5 V #[.int .i64 r0, .int .i64 r1, .int .i64 r2, .int .i64 r3, .int .i64 r4] 53 := by rw [hX, hV]; exact IsB.new _ _ _
  replace HB := hidU (HB.out.trans (hb.mono HB.out.size))
  rw [← hX, ← hV]
  clear hX hV hb k3
  have x5 := k4.cell (v := .int .i64 n) 5 rfl
  have x6 := k4.cell (v := .int .i64 d) 6 rfl
  have y5 := k5.cell (v := .int .i64 m) 5 rfl
  have y6 := k5.cell (v := .int .i64 c) 6 rfl
  have K6 := hidU k6
  clear k4 k5 k6
  go_wp2_with fail
  refine (HA.out _).mono ?_
  rintro e w4 ⟨rfl, hb⟩
  have k3 := K3.out.below hb
  have k6 := K6.out.below hb
  replace HB := hidU (HB.out.trans (hb.mono HB.out.size))
  clear hb K3 K6 x5 x6 y5 y6 HA
  go_upto_region 7 with fail
  obtain ⟨W5, hX⟩ : ∃ Y, Y = w4.alloc (.cells #[.int .i64 rN, .int .i64 rD] 25) := ⟨_, rfl⟩
  obtain ⟨U, hV⟩ : ∃ F, F = w4.heap.size := ⟨_, rfl⟩
  have hb : Below w4.heap.size w4 W5 := by rw [hX]; exact b0 _ _
  have K3 := hidU (k3.below hb)
  replace k6 := k6.below hb
  have k7 : IsB W5 U #[.int .i64 rN, .int .i64 rD] 25 := by rw [hX, hV]; exact IsB.new _ _ _
  replace HB := hidU (HB.out.trans (hb.mono HB.out.size))
  have HWL := HB.out.size
  rw [← hX, ← hV]
  clear hX hV hb k3
  obtain ⟨x0, x1, x2, x3, x4⟩ := k6.c5
  have y0 := k7.cell (v := .int .i64 rN) 0 rfl
  have y1 := k7.cell (v := .int .i64 rD) 1 rfl
  clear k6 k7
  have HBB : ∃ b, b = (lo && rO) := ⟨_, rfl⟩
  obtain ⟨bb, hbb⟩ := HBB
  rw [← hbb] at HRES
  cases lo
  · rw [show bb = false from hbb] at HRES
    clear hbb
    go_wp2_with fail
    refine (HSH.out r0 r1 r2 r3 r4 rN rD false _).mono ?_
    rintro e w5 ⟨v5, rfl, hv, hb⟩
    have HR9 := hidU HRES
    obtain ⟨R, hR⟩ : ∃ R, R = toldQ rN rD [r0, r1, r2, r3, r4] (false) := ⟨_, rfl⟩
    rw [← hR] at hv HR9 ⊢
    clear hR
    obtain ⟨rn, rd, rx, rb⟩ := R
    simp only at hv ⊢
    obtain ⟨a5, c5, hv5⟩ := hv.shape
    obtain ⟨k5, hk5⟩ : ∃ k, k = rx.length := ⟨_, rfl⟩
    rw [← hk5] at hv5
    subst hv5
    clear hk5
    have k3 := K3.out.below hb
    have HL := hidU (show Z < W5.heap.size from K3.out.lt)
    have HV := hidU hv
    replace HB := hidU (HB.out.trans (hb.mono HB.out.size))
    obtain ⟨z0, z1, z2⟩ := k3.c3
    obtain ⟨f0, f1, f2⟩ := k3.f3
    have KZ := hidU (k3.set3 (.int .i64 rn) (.int .i64 rd) (.slice a5 k5 c5))
    clear k3 K3 hb hv
    go_wp2
    obtain ⟨y0, y1, y2⟩ := KZ.out.c3
    have h9 : Kp Z (Z + 1) w5 (((w5.setCell ⟨Z, 0, none⟩ (.int .i64 rn)).setCell ⟨Z, 1, none⟩ (.int .i64 rd)).setCell ⟨Z, 2, none⟩ (.slice a5 k5 c5)) := ((Kp.set _ _ (Nat.le_refl _) (Nat.lt_succ_self _)).trans (Kp.set _ _ (Nat.le_refl _) (Nat.lt_succ_self _))).trans (Kp.set _ _ (Nat.le_refl _) (Nat.lt_succ_self _))
    have h8 := (HV.out.kp h9 (.inr HL.out)).mono HWL h9.size
    exact bodyPost_ret (v := .tuple #[.agg #[.int .i64 rn, .int .i64 rd, .slice a5 k5 c5], .bool rb]) (by simp [results, Tryz.results9, go_sem, y0, y1, y2]) rfl (by rw [HR9.out]; exact ⟨_, rfl, h8, below_set3 HB.out hZw.out _ _ _⟩)
  · rw [show bb = rO from hbb] at HRES
    clear hbb
    go_wp2_with fail
    refine (HSH.out r0 r1 r2 r3 r4 rN rD rO _).mono ?_
    rintro e w5 ⟨v5, rfl, hv, hb⟩
    have HR9 := hidU HRES
    obtain ⟨R, hR⟩ : ∃ R, R = toldQ rN rD [r0, r1, r2, r3, r4] (rO) := ⟨_, rfl⟩
    rw [← hR] at hv HR9 ⊢
    clear hR
    obtain ⟨rn, rd, rx, rb⟩ := R
    simp only at hv ⊢
    obtain ⟨a5, c5, hv5⟩ := hv.shape
    obtain ⟨k5, hk5⟩ : ∃ k, k = rx.length := ⟨_, rfl⟩
    rw [← hk5] at hv5
    subst hv5
    clear hk5
    have k3 := K3.out.below hb
    have HL := hidU (show Z < W5.heap.size from K3.out.lt)
    have HV := hidU hv
    replace HB := hidU (HB.out.trans (hb.mono HB.out.size))
    obtain ⟨z0, z1, z2⟩ := k3.c3
    obtain ⟨f0, f1, f2⟩ := k3.f3
    have KZ := hidU (k3.set3 (.int .i64 rn) (.int .i64 rd) (.slice a5 k5 c5))
    clear k3 K3 hb hv
    go_wp2
    obtain ⟨y0, y1, y2⟩ := KZ.out.c3
    have h9 : Kp Z (Z + 1) w5 (((w5.setCell ⟨Z, 0, none⟩ (.int .i64 rn)).setCell ⟨Z, 1, none⟩ (.int .i64 rd)).setCell ⟨Z, 2, none⟩ (.slice a5 k5 c5)) := ((Kp.set _ _ (Nat.le_refl _) (Nat.lt_succ_self _)).trans (Kp.set _ _ (Nat.le_refl _) (Nat.lt_succ_self _))).trans (Kp.set _ _ (Nat.le_refl _) (Nat.lt_succ_self _))
    have h8 := (HV.out.kp h9 (.inr HL.out)).mono HWL h9.size
    exact bodyPost_ret (v := .tuple #[.agg #[.int .i64 rn, .int .i64 rd, .slice a5 k5 c5], .bool rb]) (by simp [results, Tryz.results9, go_sem, y0, y1, y2]) rfl (by rw [HR9.out]; exact ⟨_, rfl, h8, below_set3 HB.out hZw.out _ _ _⟩)
end Go.Proofs.YtnhefbhiemdhoaaGreat

/- The program's Measured and In. -/
namespace Go.Proofs.YtnhefbhiemdhoaaGreat
open Go.RowKit Go.Proofs.YtnhefbhiemdhoaaGreat.RM

theorem n0_any (u : World) (x : Obj) : Below u.heap.size u (u.alloc x) := (Below.refl _ _).alloc (Nat.le_refl _) x
/-- what is measured in a unit -/
def measI (v : Int × Int) (l : List UInt8) : Int × Int × List Int × Bool :=
  match unitI l with
  | some f => toldQ (plainQ v (zer l) f).1 (plainQ v (zer l) f).2.1 f.dims (plainQ v (zer l) f).2.2
  | none => (0, 0, [], false)
/-- what a quantity is in a unit -/
def inI (v : Int × Int) (ys : List Int) (l : List UInt8) : Int × Int × Bool :=
  match unitI l with
  | some f => if (dimB ys && okB v.1 v.2) = true ∧ ys = f.dims then aheadQ v (zer l) f else (0, 0, false)
  | none => (0, 0, false)

set_option maxRecDepth 100000 in
set_option maxHeartbeats 2000000 in
theorem iMeas_any (n d : Int) (s : ByteArray) (w : World) (hs : s.size ≤ 1048576) (ha : ∀ b ∈ s.data.toList, b.toNat < 128) :
    Calls Tryz.prog 6 #[.agg #[.int .i64 n, .int .i64 d], .string s] w fun e w' => QuaP w (measI (n, d) s.data.toList) e w' := by
  have HU := hidU (fun W => unitOf_any s W hs ha)
  have HPL := hidU (fun (u : UV) W => plain_any u n d s W)
  have HSH := hidU (fun (s0 s1 s2 s3 s4 n d : Int) (b : Bool) (W : World) => shownM_any s0 s1 s2 s3 s4 n d b W)
  unfold QuaP at HSH ⊢
  obtain ⟨RQ, hRQ⟩ : ∃ r, r = measI (n, d) s.data.toList := ⟨_, rfl⟩
  have HRQ := hidU hRQ
  rw [← hRQ]
  clear hRQ
  unfold measI at HRQ
  cases hu : unitI s.data.toList with
  | none =>
    rw [hu] at HU HRQ
    simp only [Option.getD, Option.isSome] at HU HRQ
    obtain rfl : RQ = (0, 0, [], false) := HRQ.out
    unfold uVal UV.zero at HU
    clear hu HRQ HPL HSH hs ha
    go_enter Tryz.func6, Tryz.ntmps6
    go_wp2_with fail
    refine (HU.out _).mono ?_
    rintro e w1 ⟨rfl, hb⟩
    obtain ⟨V, hV⟩ : ∃ Z, Z = w.heap.size := ⟨_, rfl⟩
    have KR : Hid (IsB w1 (V + 1) #[.int .i64 0, .int .i64 0, .slice none 0 0] 30) := by show IsB _ _ _ _; rw [hV]; exact (IsB.new2c w _ _ _).below hb
    have HB : Hid (Below w.heap.size w w1) := ((n0_any _ _).alloc (by simp) _).trans (hb.mono (by simp <;> omega))
    have HRw : Hid (w.heap.size ≤ V + 1) := by show _ ≤ _; omega
    rw [← hV]
    clear hb hV
    obtain ⟨R, hR⟩ : ∃ R, R = V + 1 := ⟨_, rfl⟩
    rw [← hR] at KR HRw ⊢
    clear hR
    go_upto_region 2 with fail
    obtain ⟨X, hX⟩ : ∃ Y, Y = w1.alloc (.cells #[.int .i64 0, .int .i64 0, .int .i64 0, .int .i64 0, .int .i64 0, .int .i64 0, .int .i64 0] 55) := ⟨_, rfl⟩
    have hb : Below w1.heap.size w1 X := by rw [hX]; exact n0_any _ _
    replace KR := hidU (KR.out.below hb)
    replace HB := hidU (HB.out.trans (hb.mono HB.out.size))
    rw [← hX]
    clear hX hb
    obtain ⟨z0, z1, z2⟩ := KR.out.c3
    obtain ⟨f0, f1, f2⟩ := KR.out.f3
    go_wp2
    obtain ⟨y0, y1, y2⟩ := (KR.out.set3 (.int .i64 0) (.int .i64 0) (.slice none 0 0)).c3
    exact bodyPost_ret (v := .tuple #[.agg #[.int .i64 0, .int .i64 0, .slice none 0 0], .bool false]) (by simp [results, Tryz.results6, go_sem, y0, y1, y2]) rfl ⟨_, rfl, RowM.empty _ _, below_set3 HB.out HRw.out _ _ _⟩
  | some f =>
    rw [hu] at HU HRQ
    simp only [Option.getD, Option.isSome] at HU HRQ
    replace HPL := hidU (HPL.out f)
    obtain ⟨⟨pn, pd, po⟩, hP⟩ : ∃ r, r = plainQ (n, d) (zer s.data.toList) f := ⟨_, rfl⟩
    rw [← hP] at HPL HRQ
    simp only at HPL HRQ
    clear hP hu hs ha
    obtain ⟨fn, fd, x0, x1, x2, x3, x4⟩ := f
    unfold uVal at HU HPL
    simp only [UV.dims] at HU HPL HRQ
    go_enter Tryz.func6, Tryz.ntmps6
    go_wp2_with fail
    refine (HU.out _).mono ?_
    rintro e w1 ⟨rfl, hb⟩
    obtain ⟨V, hV⟩ : ∃ Z, Z = w.heap.size := ⟨_, rfl⟩
    have KV : Hid (IsB w1 V #[.int .i64 n, .int .i64 d] 25) := by show IsB _ _ _ _; rw [hV]; exact ((IsB.new w _ _).below (n0_any _ _)).below hb
    have KR : Hid (IsB w1 (V + 1) #[.int .i64 0, .int .i64 0, .slice none 0 0] 30) := by show IsB _ _ _ _; rw [hV]; exact (IsB.new2c w _ _ _).below hb
    have HB : Hid (Below w.heap.size w w1) := ((n0_any _ _).alloc (by simp) _).trans (hb.mono (by simp <;> omega))
    have HRw : Hid (w.heap.size ≤ V + 1) := by show _ ≤ _; omega
    rw [← hV]
    clear hb hV
    obtain ⟨R, hR⟩ : ∃ R, R = V + 1 := ⟨_, rfl⟩
    rw [← hR] at KR HRw ⊢
    clear hR
    go_upto_region 2 with fail
    obtain ⟨X, hX⟩ : ∃ Y, Y = w1.alloc (.cells #[.int .i64 fn, .int .i64 fd, .int .i64 x0, .int .i64 x1, .int .i64 x2, .int .i64 x3, .int .i64 x4] 55) := ⟨_, rfl⟩
    obtain ⟨G, hG⟩ : ∃ G, G = w1.heap.size := ⟨_, rfl⟩
    have hb : Below w1.heap.size w1 X := by rw [hX]; exact n0_any _ _
    have KG : Hid (IsB X G #[.int .i64 fn, .int .i64 fd, .int .i64 x0, .int .i64 x1, .int .i64 x2, .int .i64 x3, .int .i64 x4] 55) := by show IsB _ _ _ _; rw [hX, hG]; exact IsB.new _ _ _
    replace KV := hidU (KV.out.below hb)
    replace KR := hidU (KR.out.below hb)
    replace HB := hidU (HB.out.trans (hb.mono HB.out.size))
    rw [← hX, ← hG]
    clear hX hb hG
    obtain ⟨a0, a1, a2, a3, a4, a5, a6⟩ := KG.out.c7
    obtain ⟨v0, v1⟩ := KV.out.c2
    go_wp2_with fail
    refine (HPL.out _).mono ?_
    rintro e w2 ⟨rfl, hb⟩
    replace KR := hidU (KR.out.below hb)
    replace KG := hidU (KG.out.below hb)
    replace HB := hidU (HB.out.trans (hb.mono HB.out.size))
    clear hb a0 a1 a2 a3 a4 a5 a6 v0 v1 KV
    go_upto_region 5 with fail
    obtain ⟨Y, hY⟩ : ∃ Y, Y = w2.alloc (.cells #[.int .i64 pn, .int .i64 pd] 25) := ⟨_, rfl⟩
    obtain ⟨P, hP⟩ : ∃ G, G = w2.heap.size := ⟨_, rfl⟩
    have hb : Below w2.heap.size w2 Y := by rw [hY]; exact n0_any _ _
    have KP : Hid (IsB Y P #[.int .i64 pn, .int .i64 pd] 25) := by show IsB _ _ _ _; rw [hY, hP]; exact IsB.new _ _ _
    replace KR := hidU (KR.out.below hb)
    replace KG := hidU (KG.out.below hb)
    replace HB := hidU (HB.out.trans (hb.mono HB.out.size))
    rw [← hY, ← hP]
    clear hY hb hP
    obtain ⟨a0, a1, a2, a3, a4, a5, a6⟩ := KG.out.c7
    obtain ⟨v0, v1⟩ := KP.out.c2
    have HWL := HB.out.size
    go_wp2_with fail
    refine (HSH.out x0 x1 x2 x3 x4 pn pd po _).mono ?_
    rintro e w5 ⟨v5, rfl, hv, hb⟩
    obtain ⟨Q, hQ⟩ : ∃ R, R = toldQ pn pd [x0, x1, x2, x3, x4] po := ⟨_, rfl⟩
    rw [← hQ] at hv HRQ ⊢
    obtain rfl : RQ = Q := HRQ.out
    clear hQ HRQ
    obtain ⟨rn, rd, rx, rb⟩ := RQ
    simp only at hv ⊢
    obtain ⟨a5', c5, hv5⟩ := hv.shape
    obtain ⟨k5, hk5⟩ : ∃ k, k = rx.length := ⟨_, rfl⟩
    rw [← hk5] at hv5
    subst hv5
    clear hk5
    have HL := hidU (show R < Y.heap.size from KR.out.lt)
    replace KR := hidU (KR.out.below hb)
    have HV := hidU hv
    replace HB := hidU (HB.out.trans (hb.mono HB.out.size))
    clear hb hv a0 a1 a2 a3 a4 a5 a6 v0 v1 KG KP
    obtain ⟨z0, z1, z2⟩ := KR.out.c3
    obtain ⟨f0, f1, f2⟩ := KR.out.f3
    have KZ := hidU (KR.out.set3 (.int .i64 rn) (.int .i64 rd) (.slice a5' k5 c5))
    clear KR
    go_wp2
    obtain ⟨y0, y1, y2⟩ := KZ.out.c3
    have h9 : Kp R (R + 1) w5 (((w5.setCell ⟨R, 0, none⟩ (.int .i64 rn)).setCell ⟨R, 1, none⟩ (.int .i64 rd)).setCell ⟨R, 2, none⟩ (.slice a5' k5 c5)) := ((Kp.set _ _ (Nat.le_refl _) (Nat.lt_succ_self _)).trans (Kp.set _ _ (Nat.le_refl _) (Nat.lt_succ_self _))).trans (Kp.set _ _ (Nat.le_refl _) (Nat.lt_succ_self _))
    have h8 := (HV.out.kp h9 (.inr HL.out)).mono HWL h9.size
    exact bodyPost_ret (v := .tuple #[.agg #[.int .i64 rn, .int .i64 rd, .slice a5' k5 c5], .bool rb]) (by simp [results, Tryz.results6, go_sem, y0, y1, y2]) rfl ⟨_, rfl, h8, below_set3 HB.out HRw.out _ _ _⟩

set_option maxRecDepth 100000 in
set_option maxHeartbeats 2000000 in
theorem iIn_any (n d : Int) (v : Value) (ys : List Int) (s : ByteArray) (w : World) (h : DimIn w v ys) (hs : s.size ≤ 1048576) (ha : ∀ b ∈ s.data.toList, b.toNat < 128) :
    Calls Tryz.prog 11 #[.agg #[.int .i64 n, .int .i64 d, v], .string s] w fun e w' => e = .returned (.tuple #[.agg #[.int .i64 (inI (n, d) ys s.data.toList).1, .int .i64 (inI (n, d) ys s.data.toList).2.1], .bool (inI (n, d) ys s.data.toList).2.2]) ∧ Below w.heap.size w w' := by
  have HM := hidU (fun W (hW : Below w.heap.size w W) => measOf_any n d v ys W (h.below hW))
  have HU := hidU (fun W => unitOf_any s W hs ha)
  obtain ⟨⟨r1, r2, r3⟩, hRQ⟩ : ∃ r, r = inI (n, d) ys s.data.toList := ⟨_, rfl⟩
  have HRQ := hidU hRQ
  rw [← hRQ]
  clear hRQ
  simp only
  unfold inI at HRQ
  obtain ⟨is, his⟩ : ∃ b, b = (dimB ys && okB n d) := ⟨_, rfl⟩
  have HIS : Hid (is = true → dimB ys = true) := by
    intro h2
    rw [his, Bool.and_eq_true] at h2
    exact h2.1
  rw [← his] at HM HRQ
  clear his
  obtain ⟨u, hu⟩ : ∃ u, u = (unitI s.data.toList).getD .zero := ⟨_, rfl⟩
  obtain ⟨uo, huo⟩ : ∃ u, u = (unitI s.data.toList).isSome := ⟨_, rfl⟩
  rw [← hu, ← huo] at HU
  have HAH := hidU (fun W => ahead_any u n d s W)
  obtain ⟨⟨q1, q2, q3⟩, hq⟩ : ∃ q, q = aheadQ (n, d) (zer s.data.toList) u := ⟨_, rfl⟩
  rw [← hq] at HAH
  simp only at HAH
  have HNO : Hid (is = false ∨ uo = false ∨ ys ≠ u.dims → r1 = 0 ∧ r2 = 0 ∧ r3 = false) := by
    intro h2
    have h3 := HRQ.out
    cases hf : unitI s.data.toList with
    | none => rw [hf] at h3; injection h3 with e1 e2; injection e2 with e2 e3; exact ⟨e1, e2, e3⟩
    | some f =>
      rw [hf] at h3 hu huo
      simp only [Option.getD, Option.isSome] at h3 hu huo
      subst hu
      rw [if_neg (by
        rintro ⟨k1, k2⟩
        rcases h2 with h2 | h2 | h2
        · rw [k1] at h2; cases h2
        · rw [huo] at h2; cases h2
        · exact h2 k2)] at h3
      injection h3 with e1 e2; injection e2 with e2 e3; exact ⟨e1, e2, e3⟩
  have HYES : Hid (is = true → uo = true → ys = u.dims → r1 = q1 ∧ r2 = q2 ∧ r3 = q3) := by
    intro h1 h2 h4
    have h3 := HRQ.out
    cases hf : unitI s.data.toList with
    | none => rw [huo, hf] at h2; cases h2
    | some f =>
      rw [hf] at h3 hu
      simp only [Option.getD] at h3 hu
      subst hu
      rw [if_pos ⟨h1, h4⟩, ← hq] at h3
      injection h3 with e1 e2; injection e2 with e2 e3; exact ⟨e1, e2, e3⟩
  clear hq HRQ hu huo hs ha
  obtain ⟨av, cv, rfl⟩ := h.shape
  obtain ⟨lv, hlv⟩ : ∃ k, k = ys.length := ⟨_, rfl⟩
  rw [← hlv] at HM ⊢
  clear hlv h
  obtain ⟨un, ud, x0, x1, x2, x3, x4⟩ := u
  unfold uVal at HU HAH
  simp only [UV.dims] at HU HAH HNO HYES
  go_enter Tryz.func11, Tryz.ntmps11
  go_wp2_with fail
  refine (HM.out _ (((n0_any _ _).alloc (by simp) _))).mono ?_
  rintro e w1 ⟨s0, s1, s2, s3, s4, rfl, hd, hb⟩
  have HD := hidU hd
  obtain ⟨V, hV⟩ : ∃ Z, Z = w.heap.size := ⟨_, rfl⟩
  have KR : Hid (IsB w1 (V + 1) #[.int .i64 0, .int .i64 0] 25) := by show IsB _ _ _ _; rw [hV]; exact (IsB.new2c w _ _ _).below hb
  have HB : Hid (Below w.heap.size w w1) := ((n0_any _ _).alloc (by simp) _).trans (hb.mono (by simp <;> omega))
  have HRw : Hid (w.heap.size ≤ V + 1) := by show _ ≤ _; omega
  rw [← hV]
  clear hb hV hd
  obtain ⟨R, hR⟩ : ∃ R, R = V + 1 := ⟨_, rfl⟩
  rw [← hR] at KR HRw ⊢
  clear hR
  go_upto_region 2 with fail
  obtain ⟨X, hX⟩ : ∃ Y, Y = w1.alloc (.cells #[.int .i64 s0, .int .i64 s1, .int .i64 s2, .int .i64 s3, .int .i64 s4, .int .i64 n, .int .i64 d] 60) := ⟨_, rfl⟩
  obtain ⟨M, hM⟩ : ∃ G, G = w1.heap.size := ⟨_, rfl⟩
  have hb : Below w1.heap.size w1 X := by rw [hX]; exact n0_any _ _
  have KM : Hid (IsB X M #[.int .i64 s0, .int .i64 s1, .int .i64 s2, .int .i64 s3, .int .i64 s4, .int .i64 n, .int .i64 d] 60) := by show IsB _ _ _ _; rw [hX, hM]; exact IsB.new _ _ _
  replace KR := hidU (KR.out.below hb)
  replace HB := hidU (HB.out.trans (hb.mono HB.out.size))
  rw [← hX, ← hM]
  clear hX hb hM
  go_wp2_with fail
  refine (HU.out _).mono ?_
  rintro e w2 ⟨rfl, hb⟩
  replace KR := hidU (KR.out.below hb)
  replace KM := hidU (KM.out.below hb)
  replace HB := hidU (HB.out.trans (hb.mono HB.out.size))
  clear hb
  go_upto_region 3 with fail
  obtain ⟨Y, hY⟩ : ∃ Y, Y = w2.alloc (.cells #[.int .i64 un, .int .i64 ud, .int .i64 x0, .int .i64 x1, .int .i64 x2, .int .i64 x3, .int .i64 x4] 55) := ⟨_, rfl⟩
  obtain ⟨G, hG⟩ : ∃ G, G = w2.heap.size := ⟨_, rfl⟩
  have hb : Below w2.heap.size w2 Y := by rw [hY]; exact n0_any _ _
  have KG : Hid (IsB Y G #[.int .i64 un, .int .i64 ud, .int .i64 x0, .int .i64 x1, .int .i64 x2, .int .i64 x3, .int .i64 x4] 55) := by show IsB _ _ _ _; rw [hY, hG]; exact IsB.new _ _ _
  replace KR := hidU (KR.out.below hb)
  replace KM := hidU (KM.out.below hb)
  replace HB := hidU (HB.out.trans (hb.mono HB.out.size))
  rw [← hY, ← hG]
  clear hY hb hG
  obtain ⟨z0, z1⟩ := KR.out.c2
  obtain ⟨f0, f1⟩ := KR.out.f2
  cases is
  · obtain ⟨rfl, rfl, rfl⟩ := HNO.out (.inl rfl)
    go_wp2
    obtain ⟨y0, y1⟩ := (KR.out.set2 (.int .i64 0) (.int .i64 0)).c2
    exact bodyPost_ret (v := .tuple #[.agg #[.int .i64 0, .int .i64 0], .bool false]) (by simp [results, Tryz.results11, go_sem, y0, y1]) rfl ⟨rfl, below_set2 HB.out HRw.out _ _⟩
  cases uo
  · obtain ⟨rfl, rfl, rfl⟩ := HNO.out (.inr (.inl rfl))
    go_wp2
    obtain ⟨y0, y1⟩ := (KR.out.set2 (.int .i64 0) (.int .i64 0)).c2
    exact bodyPost_ret (v := .tuple #[.agg #[.int .i64 0, .int .i64 0], .bool false]) (by simp [results, Tryz.results11, go_sem, y0, y1]) rfl ⟨rfl, below_set2 HB.out HRw.out _ _⟩
  have HY : Hid (ys = [s0, s1, s2, s3, s4]) := HD.out (HIS.out rfl)
  have E := eq5 s0 s1 s2 s3 s4 x0 x1 x2 x3 x4 Y
  obtain ⟨eb, heb⟩ : ∃ b, b = (s0 == x0 && (s1 == x1 && (s2 == x2 && (s3 == x3 && s4 == x4)))) := ⟨_, rfl⟩
  rw [← heb] at E
  have HE : Hid (eb = true ↔ ys = [x0, x1, x2, x3, x4]) := by
    show _ ↔ _
    rw [heb, HY.out]
    simp
  obtain ⟨a0, a1, a2, a3, a4, a5, a6⟩ := KG.out.c7
  obtain ⟨m0, m1, m2, m3, m4, m5, m6⟩ := KM.out.c7
  clear heb
  cases eb
  · obtain ⟨rfl, rfl, rfl⟩ := HNO.out (.inr (.inr (fun h => by have := HE.out.2 h; cases this)))
    go_wp2
    obtain ⟨y0, y1⟩ := (KR.out.set2 (.int .i64 0) (.int .i64 0)).c2
    exact bodyPost_ret (v := .tuple #[.agg #[.int .i64 0, .int .i64 0], .bool false]) (by simp [results, Tryz.results11, go_sem, y0, y1]) rfl ⟨rfl, below_set2 HB.out HRw.out _ _⟩
  obtain ⟨rfl, rfl, rfl⟩ := HYES.out rfl rfl (HE.out.1 rfl)
  clear z0 z1 f0 f1
  go_wp2_with fail
  refine (HAH.out _).mono ?_
  rintro e w3 ⟨rfl, hb⟩
  replace KR := hidU (KR.out.below hb)
  replace HB := hidU (HB.out.trans (hb.mono HB.out.size))
  clear hb a0 a1 a2 a3 a4 a5 a6 m0 m1 m2 m3 m4 m5 m6 E KG KM
  obtain ⟨z0, z1⟩ := KR.out.c2
  obtain ⟨f0, f1⟩ := KR.out.f2
  go_wp2
  obtain ⟨y0, y1⟩ := (KR.out.set2 (.int .i64 r1) (.int .i64 r2)).c2
  exact bodyPost_ret (v := .tuple #[.agg #[.int .i64 r1, .int .i64 r2], .bool r3]) (by simp [results, Tryz.results11, go_sem, y0, y1]) rfl ⟨rfl, below_set2 HB.out HRw.out _ _⟩
end Go.Proofs.YtnhefbhiemdhoaaGreat

/- The model's UnitOf and the program's tell one thing, where the powers are small: the products. -/
namespace Go.Proofs.YtnhefbhiemdhoaaGreat
open Go.Proofs.YtnhefbhiemdhoaaGreat.RM

def D5 (a b c d e : Int) : Prop := (-9 ≤ a ∧ a ≤ 9) ∧ (-9 ≤ b ∧ b ≤ 9) ∧ (-9 ≤ c ∧ c ≤ 9) ∧ (-9 ≤ d ∧ d ≤ 9) ∧ (-9 ≤ e ∧ e ≤ 9)
instance (a b c d e : Int) : Decidable (D5 a b c d e) := by unfold D5; infer_instance
theorem lim5_iff (a b c d e : Int) : lim5 a b c d e = true ↔ D5 a b c d e := by
  constructor
  · exact lim5_out
  · intro ⟨h1, h2, h3, h4, h5⟩
    unfold lim5
    simp only [cl_iff, in9, Bool.and_eq_true, decide_eq_true_eq]
    exact ⟨h1, h2, h3, h4, h5⟩
theorem okD_D5 {u : UV} (h : okD u) : D5 u.x0 u.x1 u.x2 u.x3 u.x4 := h
/-- the factor alone, so many times -/
def facN (v : Int × Int) : Nat → Int × Int → (Int × Int) × Bool
  | 0, g => (g, true)
  | k + 1, g => if (mulQ g v).2.2 = true then facN v k ((mulQ g v).1, (mulQ g v).2.1) else (g, false)
def shV (v P : UV) (k : Nat) (g : Int × Int) : UV := ⟨g.1, g.2, P.x0 + k * v.x0, P.x1 + k * v.x1, P.x2 + k * v.x2, P.x3 + k * v.x3, P.x4 + k * v.x4⟩
theorem step_mul (x y : Int) (k : Nat) : x + y + (k : Int) * y = x + ((k + 1 : Nat) : Int) * y := by
  push_cast
  rw [Int.add_mul]
  omega
theorem cvx {x y : Int} {k : Nat} (hk : k ≤ 2) (hx : -9 ≤ x ∧ x ≤ 9) (h : -9 ≤ x + ((k + 1 : Nat) : Int) * y ∧ x + ((k + 1 : Nat) : Int) * y ≤ 9) : -9 ≤ x + y ∧ x + y ≤ 9 := by
  obtain rfl | rfl | rfl : k = 0 ∨ k = 1 ∨ k = 2 := by omega
  all_goals (push_cast at h; omega)
theorem mulN_split (v : UV) : ∀ (k : Nat) (P : UV), okD P → k ≤ 3 → mulN v k P = if (facN (v.n, v.d) k (P.n, P.d)).2 = true ∧ (k = 0 ∨ D5 (P.x0 + k * v.x0) (P.x1 + k * v.x1) (P.x2 + k * v.x2) (P.x3 + k * v.x3) (P.x4 + k * v.x4)) then some (shV v P k (facN (v.n, v.d) k (P.n, P.d)).1) else none
  | 0, P, _, _ => by
    rw [if_pos ⟨rfl, .inl rfl⟩]
    simp [shV, facN, mulN]
  | k + 1, P, hP, hk => by
    rw [mulN_succ]
    by_cases ho : (mulQ (P.n, P.d) (v.n, v.d)).2.2 = true
    · by_cases hl : D5 (P.x0 + v.x0) (P.x1 + v.x1) (P.x2 + v.x2) (P.x3 + v.x3) (P.x4 + v.x4)
      · have hf : (mulV P v).2 = true := by
          show ((mulQ (P.n, P.d) (v.n, v.d)).2.2 && lim5 _ _ _ _ _) = true
          rw [ho, (lim5_iff _ _ _ _ _).2 hl]; rfl
        rw [if_pos hf, mulN_split v k _ (okD_mul hf) (by omega)]
        have hfac : facN (v.n, v.d) (k + 1) (P.n, P.d) = facN (v.n, v.d) k ((mulV P v).1.n, (mulV P v).1.d) := by
          show (if (mulQ (P.n, P.d) (v.n, v.d)).2.2 = true then _ else _) = _
          rw [if_pos ho]; rfl
        have hs : ∀ g, shV v (mulV P v).1 k g = shV v P (k + 1) g := fun g => by
          simp only [shV, mulV, step_mul]
        rw [hfac, hs]
        have hd : (k = 0 ∨ D5 ((mulV P v).1.x0 + k * v.x0) ((mulV P v).1.x1 + k * v.x1) ((mulV P v).1.x2 + k * v.x2) ((mulV P v).1.x3 + k * v.x3) ((mulV P v).1.x4 + k * v.x4)) ↔ (k + 1 = 0 ∨ D5 (P.x0 + ((k + 1 : Nat) : Int) * v.x0) (P.x1 + ((k + 1 : Nat) : Int) * v.x1) (P.x2 + ((k + 1 : Nat) : Int) * v.x2) (P.x3 + ((k + 1 : Nat) : Int) * v.x3) (P.x4 + ((k + 1 : Nat) : Int) * v.x4)) := by
          have e : D5 ((mulV P v).1.x0 + k * v.x0) ((mulV P v).1.x1 + k * v.x1) ((mulV P v).1.x2 + k * v.x2) ((mulV P v).1.x3 + k * v.x3) ((mulV P v).1.x4 + k * v.x4) ↔ D5 (P.x0 + ((k + 1 : Nat) : Int) * v.x0) (P.x1 + ((k + 1 : Nat) : Int) * v.x1) (P.x2 + ((k + 1 : Nat) : Int) * v.x2) (P.x3 + ((k + 1 : Nat) : Int) * v.x3) (P.x4 + ((k + 1 : Nat) : Int) * v.x4) := by
            simp only [mulV, step_mul]
          constructor
          · rintro (h | h)
            · subst h
              refine .inr ?_
              simpa using hl
            · exact .inr (e.1 h)
          · rintro (h | h)
            · omega
            · exact .inr (e.2 h)
        simp only [hd]
      · have hf : ¬ (mulV P v).2 = true := by
          show ¬ ((mulQ (P.n, P.d) (v.n, v.d)).2.2 && lim5 _ _ _ _ _) = true
          rw [ho, Bool.true_and, lim5_iff]
          exact hl
        rw [if_neg hf, if_neg]
        rintro ⟨_, h | h⟩
        · omega
        · obtain ⟨p0, p1, p2, p3, p4⟩ := hP
          obtain ⟨q0, q1, q2, q3, q4⟩ := h
          have hk2 : k ≤ 2 := by omega
          exact hl ⟨cvx hk2 p0 q0, cvx hk2 p1 q1, cvx hk2 p2 q2, cvx hk2 p3 q3, cvx hk2 p4 q4⟩
    · have hf : ¬ (mulV P v).2 = true := by
        show ¬ ((mulQ (P.n, P.d) (v.n, v.d)).2.2 && lim5 _ _ _ _ _) = true
        rw [Bool.not_eq_true] at ho
        rw [ho]; simp
      have hfac : facN (v.n, v.d) (k + 1) (P.n, P.d) = ((P.n, P.d), false) := by
        show (if (mulQ (P.n, P.d) (v.n, v.d)).2.2 = true then _ else _) = _
        rw [if_neg ho]
      rw [if_neg hf, hfac, if_neg (fun h => by have := h.1; cases this)]
theorem mulC_yes {g u : Int × Int} (h : (mulQ g u).2.2 = true) : mulC (g, false) u = (((mulQ g u).1, (mulQ g u).2.1), false) := by
  unfold mulC mulQ at *
  simp only at h ⊢
  rw [h]
  rfl
theorem mulC_no {g u : Int × Int} (h : (mulQ g u).2.2 = false) : (mulC (g, false) u).2 = true := by
  unfold mulC mulQ at *
  simp only at h ⊢
  rw [h]
  rfl
theorem mulC_bad (f : Ca) (u : Int × Int) (h : f.2 = true) : (mulC f u).2 = true := by unfold mulC; simp [h]
theorem mulCs_bad (u : Int × Int) : ∀ (k : Nat) (f : Ca), f.2 = true → (mulCs u k f).2 = true
  | 0, _, h => h
  | k + 1, f, h => mulCs_bad u k _ (mulC_bad f u h)
theorem mulCs_fac (u : Int × Int) : ∀ (k : Nat) (g : Int × Int), ((facN u k g).2 = true → mulCs u k (g, false) = ((facN u k g).1, false)) ∧ ((facN u k g).2 = false → (mulCs u k (g, false)).2 = true)
  | 0, g => ⟨fun _ => rfl, fun h => by cases h⟩
  | k + 1, g => by
    by_cases ho : (mulQ g u).2.2 = true
    · have hf : facN u (k + 1) g = facN u k ((mulQ g u).1, (mulQ g u).2.1) := by
        show (if (mulQ g u).2.2 = true then _ else _) = _
        rw [if_pos ho]
      have hm : mulCs u (k + 1) (g, false) = mulCs u k (((mulQ g u).1, (mulQ g u).2.1), false) := by
        show mulCs u k (mulC (g, false) u) = _
        rw [mulC_yes ho]
      rw [hf, hm]
      exact mulCs_fac u k _
    · have hf : facN u (k + 1) g = (g, false) := by
        show (if (mulQ g u).2.2 = true then _ else _) = _
        rw [if_neg ho]
      rw [hf]
      refine ⟨(fun h => by cases h), fun _ => ?_⟩
      show (mulCs u k (mulC (g, false) u)).2 = true
      exact mulCs_bad u k _ (mulC_no (by simpa using ho))
theorem divC_inv (f : Ca) {u : UV} (h : okW u) : divC f (u.n, u.d) = mulC f (u.d, u.n) := by
  unfold divC mulC
  have h2 : two f.1.1 f.1.2 u.n u.d = two f.1.1 f.1.2 u.d u.n := by unfold two; rw [h.1, h.2.1]
  simp only [h2]
theorem divCs_inv {u : UV} (h : okW u) : ∀ (k : Nat) (f : Ca), divCs (u.n, u.d) k f = mulCs (u.d, u.n) k f
  | 0, _ => rfl
  | k + 1, f => by
    show divCs (u.n, u.d) k (divC f (u.n, u.d)) = mulCs (u.d, u.n) k (mulC f (u.d, u.n))
    rw [divC_inv f h, divCs_inv h k]
theorem divC_bad (f : Ca) (u : Int × Int) (h : f.2 = true) : (divC f u).2 = true := by unfold divC; simp [h]
theorem divCs_bad (u : Int × Int) : ∀ (k : Nat) (f : Ca), f.2 = true → (divCs u k f).2 = true
  | 0, _, h => h
  | k + 1, f, h => divCs_bad u k _ (divC_bad f u h)
theorem powC_bad (u : Int × Int) (q : Int) (f : Ca) (h : f.2 = true) : (powC u q f).2 = true := by
  unfold powC
  split
  · exact mulCs_bad u _ f h
  · exact divCs_bad u _ f h
def smallQ (q : Int) : Prop := q = 1 ∨ q = 2 ∨ q = 3 ∨ q = -1 ∨ q = -2 ∨ q = -3
theorem dims_step {u P : UV} {q : Int} (hq : smallQ q) (hu : okW u) (hP : okD P) : ansDimTimes P.dims (ansDimPower u.dims q) = if lim5 (P.x0 + u.x0 * q) (P.x1 + u.x1 * q) (P.x2 + u.x2 * q) (P.x3 + u.x3 * q) (P.x4 + u.x4 * q) then [P.x0 + u.x0 * q, P.x1 + u.x1 * q, P.x2 + u.x2 * q, P.x3 + u.x3 * q, P.x4 + u.x4 * q] else [] := by
  obtain ⟨-, -, ⟨a0, a1⟩, ⟨a2, a3⟩, ⟨a4, a5⟩, ⟨a6, a7⟩, a8, a9⟩ := hu
  have h1 : dimB [P.x0, P.x1, P.x2, P.x3, P.x4] = true := by rw [dimB_five]; exact (lim5_iff _ _ _ _ _).2 hP
  have h2 : dimB [u.x0, u.x1, u.x2, u.x3, u.x4] = true := by rw [dimB_five, lim5_iff]; refine ⟨?_, ?_, ?_, ?_, ?_⟩ <;> omega
  have hl : D5 (u.x0 * q) (u.x1 * q) (u.x2 * q) (u.x3 * q) (u.x4 * q) := by
    rcases hq with rfl | rfl | rfl | rfl | rfl | rfl <;> (refine ⟨?_, ?_, ?_, ?_, ?_⟩ <;> omega)
  have hr : rq u.x0 u.x1 u.x2 u.x3 u.x4 q = true := by
    unfold rq
    rw [(lim5_iff _ _ _ _ _).2 hl]
    have : in9 q = true := by unfold in9; simp only [Bool.and_eq_true, decide_eq_true_eq]; rcases hq with rfl | rfl | rfl | rfl | rfl | rfl <;> omega
    rw [this]; simp
  show ansDimTimes [P.x0, P.x1, P.x2, P.x3, P.x4] (ansDimPower [u.x0, u.x1, u.x2, u.x3, u.x4] q) = _
  rw [ansP_five h2, hr, if_pos rfl]
  exact ansT_five h1 (by rw [dimB_five]; exact (lim5_iff _ _ _ _ _).2 hl)
theorem stepA {u P : UV} {q : Int} (hq : smallQ q) (hu : okW u) (hP : okD P) :
    (∃ P', mulN (if 0 < q then u else invV u) q.natAbs P = some P' ∧ ansDimTimes P.dims (ansDimPower u.dims q) = P'.dims ∧ powC (u.n, u.d) q ((P.n, P.d), false) = ((P'.n, P'.d), false) ∧ okD P') ∨
    (mulN (if 0 < q then u else invV u) q.natAbs P = none ∧ (ansDimTimes P.dims (ansDimPower u.dims q) = [] ∨ (powC (u.n, u.d) q ((P.n, P.d), false)).2 = true)) := by
  obtain ⟨v, hv⟩ : ∃ v, v = (if 0 < q then u else invV u) := ⟨_, rfl⟩
  have hk : q.natAbs ≤ 3 := by rcases hq with rfl | rfl | rfl | rfl | rfl | rfl <;> decide
  have hk0 : q.natAbs ≠ 0 := by rcases hq with rfl | rfl | rfl | rfl | rfl | rfl <;> decide
  have hpow : ∀ f, powC (u.n, u.d) q f = mulCs (v.n, v.d) q.natAbs f := by
    intro f
    unfold powC
    by_cases h : 0 < q
    · rw [if_pos h, hv, if_pos h]
      congr 1
      omega
    · rw [if_neg h, hv, if_neg h, divCs_inv hu]
      show mulCs (u.d, u.n) _ f = mulCs (u.d, u.n) _ f
      congr 1
      omega
  have hx : ((q.natAbs : Nat) : Int) * v.x0 = u.x0 * q ∧ ((q.natAbs : Nat) : Int) * v.x1 = u.x1 * q ∧ ((q.natAbs : Nat) : Int) * v.x2 = u.x2 * q ∧ ((q.natAbs : Nat) : Int) * v.x3 = u.x3 * q ∧ ((q.natAbs : Nat) : Int) * v.x4 = u.x4 * q := by
    rw [hv]
    rcases hq with rfl | rfl | rfl | rfl | rfl | rfl <;> (simp [invV]; try omega)
  rw [← hv, mulN_split v _ P hP hk, dims_step hq hu hP]
  obtain ⟨e0, e1, e2, e3, e4⟩ := hx
  obtain ⟨m1, m2⟩ := mulCs_fac (v.n, v.d) q.natAbs (P.n, P.d)
  by_cases hc : (facN (v.n, v.d) q.natAbs (P.n, P.d)).2 = true ∧ (q.natAbs = 0 ∨ D5 (P.x0 + (q.natAbs : Int) * v.x0) (P.x1 + (q.natAbs : Int) * v.x1) (P.x2 + (q.natAbs : Int) * v.x2) (P.x3 + (q.natAbs : Int) * v.x3) (P.x4 + (q.natAbs : Int) * v.x4))
  · have hd := hc.2.resolve_left hk0
    refine .inl ⟨shV v P q.natAbs (facN (v.n, v.d) q.natAbs (P.n, P.d)).1, by rw [if_pos hc], ?_, ?_, hd⟩
    · rw [e0, e1, e2, e3, e4] at hd
      rw [if_pos ((lim5_iff _ _ _ _ _).2 hd)]
      simp only [shV, UV.dims, e0, e1, e2, e3, e4]
    · rw [hpow, m1 hc.1]
      rfl
  · refine .inr ⟨by rw [if_neg hc], ?_⟩
    by_cases hf : (facN (v.n, v.d) q.natAbs (P.n, P.d)).2 = true
    · refine .inl (if_neg ?_)
      rw [lim5_iff]
      intro hd
      rw [← e0, ← e1, ← e2, ← e3, ← e4] at hd
      exact hc ⟨hf, .inr hd⟩
    · refine .inr ?_
      rw [hpow]
      exact m2 (by simpa using hf)
end Go.Proofs.YtnhefbhiemdhoaaGreat

/- The model's UnitOf and the program's tell one thing, where the powers are small. -/
namespace Go.Proofs.YtnhefbhiemdhoaaGreat
open Go.Proofs.YtnhefbhiemdhoaaGreat.RM

theorem okT_sub {c : UInt8} {l x : List UInt8} (h : okT l) (hx : x ∈ splitL c l) : okT x := fun b hb => by
  rcases splitA_mem c l [] x hx b hb with h2 | h2
  · cases h2
  · exact h b h2
theorem powY_small {y : List UInt8} {p : Int} (h : powY y = some p) (hy : okT y) : smallQ p := by
  match y, h with
  | [c], h =>
    simp only [powY] at h
    split at h
    · cases h
    · rename_i hc
      injection h with h
      have h2 := hy c (by simp)
      unfold smallQ
      omega
  | [m, c], h =>
    simp only [powY] at h
    split at h
    · split at h
      · cases h
      · rename_i hc
        injection h with h
        have h2 := hy c (by simp)
        unfold smallQ
        omega
    · cases h
  | a :: b :: c :: r, h => cases h
theorem rdW_out {x : List UInt8} {u : UV} {p : Int} (h : rdW x = some (u, p)) (hx : okT x) : okW u ∧ smallQ p := by
  unfold rdW at h
  have hm : ∀ a, a ∈ splitL 94 x → okT a := fun a ha => okT_sub hx ha
  match hs : splitL 94 x, h with
  | [], h => cases h
  | [a], h =>
    simp only at h
    split at h
    · rename_i hw
      injection h with h
      injection h with h1 h2
      subst h1 h2
      exact ⟨okW_word a hw, .inl rfl⟩
    · cases h
  | [a, y], h =>
    simp only at h
    cases hp : powY y with
    | none => rw [hp] at h; cases h
    | some q =>
      rw [hp] at h
      simp only at h
      split at h
      · rename_i hw
        injection h with h
        injection h with h1 h2
        subst h1 h2
        exact ⟨okW_word a hw, powY_small hp (hm y (by rw [hs]; simp))⟩
      · cases h
  | a :: b :: c :: t, h => cases h
/-- the model's state that fits the program's -/
def stOf (P : UV) : Su := (((P.n, P.d), false), P.dims)
theorem step_rel {dv : Bool} {x : List UInt8} {P : UV} (hx : okT x) (hP : okD P) :
    (∃ P', stepW dv x P = some P' ∧ stepS dv x (stOf P) = some (stOf P') ∧ okD P') ∨ (stepW dv x P = none ∧ (stepS dv x (stOf P) = none ∨ ∃ s', stepS dv x (stOf P) = some s' ∧ s'.1.2 = true)) := by
  unfold stepW stepS
  rw [rdS_rdW]
  cases hr : rdW x with
  | none => exact .inr ⟨rfl, .inl rfl⟩
  | some r =>
    obtain ⟨u, p⟩ := r
    obtain ⟨hu, hp⟩ := rdW_out hr hx
    simp only [Option.map_some]
    have hq : smallQ (if dv = true then -p else p) := by
      unfold smallQ at hp ⊢
      cases dv <;> simp <;> omega
    have hm : mulP u p dv P = mulN (if 0 < (if dv = true then -p else p) then u else invV u) (if dv = true then -p else p).natAbs P := by
      unfold mulP
      cases dv
      · simp only [Bool.false_eq_true, if_false]
        by_cases h : p < 0
        · rw [if_pos h, if_neg (by omega)]
        · rw [if_neg h, if_pos (by unfold smallQ at hp; omega)]
      · simp only [if_true, Int.natAbs_neg]
        by_cases h : p < 0
        · rw [if_pos h, if_pos (by omega)]
        · rw [if_neg h, if_neg (by omega)]
    rw [hm]
    rcases stepA hq hu hP with ⟨P', h1, h2, h3, h4⟩ | ⟨h1, h2⟩
    · refine .inl ⟨P', h1, ?_, h4⟩
      have hne : ¬ (P'.dims = []) := by simp [UV.dims]
      show (if ansDimTimes P.dims (ansDimPower u.dims (if dv = true then -p else p)) = [] then none else some (powC (u.n, u.d) (if dv = true then -p else p) ((P.n, P.d), false), ansDimTimes P.dims (ansDimPower u.dims (if dv = true then -p else p)))) = _
      rw [h2, if_neg hne, h3]
      rfl
    · refine .inr ⟨h1, ?_⟩
      show (if ansDimTimes P.dims (ansDimPower u.dims (if dv = true then -p else p)) = [] then none else some (powC (u.n, u.d) (if dv = true then -p else p) ((P.n, P.d), false), ansDimTimes P.dims (ansDimPower u.dims (if dv = true then -p else p)))) = none ∨ ∃ s', (if ansDimTimes P.dims (ansDimPower u.dims (if dv = true then -p else p)) = [] then none else some (powC (u.n, u.d) (if dv = true then -p else p) ((P.n, P.d), false), ansDimTimes P.dims (ansDimPower u.dims (if dv = true then -p else p)))) = some s' ∧ s'.1.2 = true
      by_cases he : ansDimTimes P.dims (ansDimPower u.dims (if dv = true then -p else p)) = []
      · exact .inl (if_pos he)
      · rw [if_neg he]
        exact .inr ⟨_, rfl, h2.resolve_left he⟩
theorem step_bad {dv : Bool} {x : List UInt8} {s : Su} (h : s.1.2 = true) : stepS dv x s = none ∨ ∃ s', stepS dv x s = some s' ∧ s'.1.2 = true := by
  unfold stepS
  cases rdS x with
  | none => exact .inl rfl
  | some r =>
    obtain ⟨u, p⟩ := r
    show (if ansDimTimes s.2 (ansDimPower u.2.2 (if dv then -p else p)) = [] then none else some (powC (u.1, u.2.1) (if dv then -p else p) s.1, ansDimTimes s.2 (ansDimPower u.2.2 (if dv then -p else p)))) = none ∨ ∃ s', (if ansDimTimes s.2 (ansDimPower u.2.2 (if dv then -p else p)) = [] then none else some (powC (u.1, u.2.1) (if dv then -p else p) s.1, ansDimTimes s.2 (ansDimPower u.2.2 (if dv then -p else p)))) = some s' ∧ s'.1.2 = true
    by_cases he : ansDimTimes s.2 (ansDimPower u.2.2 (if dv then -p else p)) = []
    · exact .inl (if_pos he)
    · rw [if_neg he]
      exact .inr ⟨_, rfl, powC_bad _ _ _ h⟩
theorem words_bad (dv : Bool) : ∀ (ws : List (List UInt8)) (s : Su), s.1.2 = true → wordsS dv ws s = none ∨ ∃ s', wordsS dv ws s = some s' ∧ s'.1.2 = true
  | [], s, h => .inr ⟨s, rfl, h⟩
  | x :: r, s, h => by
    rw [wordsS_cons]
    rcases step_bad (dv := dv) (x := x) h with h2 | ⟨s', h2, h3⟩
    · rw [h2]; exact .inl rfl
    · rw [h2]; exact words_bad dv r s' h3
theorem words_rel (dv : Bool) : ∀ (ws : List (List UInt8)) (P : UV), (∀ x ∈ ws, okT x) → okD P →
    (∃ P', mulAll dv ws P = some P' ∧ wordsS dv ws (stOf P) = some (stOf P') ∧ okD P') ∨ (mulAll dv ws P = none ∧ (wordsS dv ws (stOf P) = none ∨ ∃ s', wordsS dv ws (stOf P) = some s' ∧ s'.1.2 = true))
  | [], P, _, hP => .inl ⟨P, rfl, rfl, hP⟩
  | x :: r, P, hw, hP => by
    rw [mulAll_cons, wordsS_cons]
    rcases step_rel (dv := dv) (hw x (by simp)) hP with ⟨P', h1, h2, h3⟩ | ⟨h1, h2 | ⟨s', h2, h3⟩⟩
    · rw [h1, h2]
      exact words_rel dv r P' (fun y hy => hw y (by simp [hy])) h3
    · rw [h1, h2]
      exact .inr ⟨rfl, .inl rfl⟩
    · rw [h1, h2]
      exact .inr ⟨rfl, words_bad dv r s' h3⟩
theorem halves_bad : ∀ (hs : List (List UInt8)) (dv : Bool) (s : Su), s.1.2 = true → halvesS hs dv s = none ∨ ∃ s', halvesS hs dv s = some s' ∧ s'.1.2 = true
  | [], _, s, h => .inr ⟨s, rfl, h⟩
  | a :: r, dv, s, h => by
    rw [halvesS_cons]
    rcases words_bad dv (splitL 46 a) s h with h2 | ⟨s', h2, h3⟩
    · rw [h2]; exact .inl rfl
    · rw [h2]; exact halves_bad r true s' h3
theorem ansU_bad {o : Option Su} (h : o = none ∨ ∃ s', o = some s' ∧ s'.1.2 = true) : ansU o = (0, 0, [], false) := by
  rcases h with rfl | ⟨s', rfl, h⟩
  · rfl
  · unfold ansU; simp [h]
theorem ansU_good (P : UV) : ansU (some (stOf P)) = (P.n, P.d, P.dims, true) := rfl
/-- both tell one thing -/
theorem unit_same {l : List UInt8} (h : okT l) : ansU (unitM l) = unitT l := by
  unfold unitT
  rw [unitI_split]
  unfold sUnitI unitM
  by_cases h1 : l = [49]
  · rw [if_pos h1, if_pos h1]; rfl
  rw [if_neg h1, if_neg h1]
  have hw : ∀ a, a ∈ splitL 47 l → ∀ x ∈ splitL 46 a, okT x := fun a ha x hx => okT_sub (okT_sub h ha) hx
  have hone : okD oneV := by unfold okD oneV; simp
  match hs : splitL 47 l with
  | [] =>
    obtain ⟨a, t, h2, _⟩ := splitA_acc (c := 47) l []
    unfold splitL at hs
    rw [h2] at hs
    cases hs
  | [a] =>
    rw [if_neg (by simp)]
    show ansU (match wordsS false (splitL 46 a) oneS with | none => none | some s' => some s') = told ((mulAll false (splitL 46 a) oneV).getD .zero, (mulAll false (splitL 46 a) oneV).isSome)
    have ho : oneS = stOf oneV := rfl
    rw [ho]
    rcases words_rel false (splitL 46 a) oneV (hw a (by rw [hs]; simp)) hone with ⟨P', h2, h3, h4⟩ | ⟨h2, h3⟩
    · rw [h2, h3]; rfl
    · rw [h2]
      refine (ansU_bad ?_).trans rfl
      rcases h3 with h3 | ⟨s', h3, h5⟩
      · rw [h3]; exact .inl rfl
      · rw [h3]; exact .inr ⟨s', rfl, h5⟩
  | [a, b] =>
    rw [if_neg (by simp)]
    show ansU (match wordsS false (splitL 46 a) oneS with | none => none | some s' => halvesS [b] true s') = told ((halvesU [a, b] oneV).getD .zero, (halvesU [a, b] oneV).isSome)
    have ho : oneS = stOf oneV := rfl
    rw [ho]
    have hU : halvesU [a, b] oneV = match mulAll false (splitL 46 a) oneV with | none => none | some P' => mulAll true (splitL 46 b) P' := rfl
    rw [hU]
    rcases words_rel false (splitL 46 a) oneV (hw a (by rw [hs]; simp)) hone with ⟨P', h2, h3, h4⟩ | ⟨h2, h3⟩
    · rw [h2, h3]
      show ansU (match wordsS true (splitL 46 b) (stOf P') with | none => none | some s' => some s') = told ((mulAll true (splitL 46 b) P').getD .zero, (mulAll true (splitL 46 b) P').isSome)
      rcases words_rel true (splitL 46 b) P' (hw b (by rw [hs]; simp)) h4 with ⟨P2, h5, h6, h7⟩ | ⟨h5, h6⟩
      · rw [h5, h6]; rfl
      · rw [h5]
        refine (ansU_bad ?_).trans rfl
        rcases h6 with h6 | ⟨s', h6, h8⟩
        · rw [h6]; exact .inl rfl
        · rw [h6]; exact .inr ⟨s', rfl, h8⟩
    · rw [h2]
      refine (ansU_bad ?_).trans rfl
      rcases h3 with h3 | ⟨s', h3, h5⟩
      · rw [h3]; exact .inl rfl
      · rw [h3]; exact halves_bad [b] true s' h5
  | a :: b :: c :: t =>
    rw [if_pos (by simp)]
    rfl
end Go.Proofs.YtnhefbhiemdhoaaGreat

/- The walk of the model's l5Split: a text between a byte. -/
namespace Go.Proofs.YtnhefbhiemdhoaaGreat
open Go.RowKit Go.Proofs.YtnhefbhiemdhoaaGreat.RM

theorem infoSt : (Tryz.prog.info? 9).map (fun i => (i.zero, i.size, i.bytes)) = some (some (.string ⟨#[]⟩), 1, 16) := by kernel_rfl
/-- a list of texts in memory of the call's own -/
def StrP (w : World) (ts : List (List UInt8)) (x : Ending) (w' : World) : Prop :=
  ∃ (v : Value) (ss : List ByteArray), x = .returned v ∧ ss.map (fun s : ByteArray => s.data.toList) = ts ∧ w'.ownsRow w.heap.size 9 1 v ss.length (ss.map Value.string) ∧ Below w.heap.size w w'

set_option maxRecDepth 100000 in
set_option maxHeartbeats 1000000 in
theorem split_any (s : ByteArray) (c : UInt8) (w : World) (hs : s.size ≤ 1048576) :
    Calls Tryz.prog 70 #[.string s, .int .u8 (c.toNat : Int)] w fun e w' => StrP w (splitL c s.data.toList) e w' := by
  obtain ⟨i0, hi, hz0, hz1, hz2⟩ := info_parts infoSt
  have HI := (⟨hi, hz0, hz1, hz2⟩ : _ ∧ _ ∧ _ ∧ _)
  have HII : Hid (_ ∧ _ ∧ _ ∧ _) := HI
  have b0 : ∀ (u : World) (o : Obj), Below u.heap.size u (u.alloc o) := fun u o => (Below.refl _ _).alloc (Nat.le_refl _) o
  have L0 := World.ownsRow_lit w (base := w.heap.size) (e := 9) (size := 1) #[] 0 (Nat.le_refl _) (Nat.zero_le _) rfl
  have HL0 : Hid (World.ownsRow _ _ _ _ _ _ _) := L0
  have hcn : (c.toNat : Int) ≤ 255 := by have := c.toNat_lt; omega
  have hl : s.data.toList.length = s.size := by rw [Array.length_toList]; rfl
  have HLEN : Hid (s.data.toList.length = s.size) := hl
  obtain ⟨l, hll⟩ : ∃ l, l = s.data.toList := ⟨_, rfl⟩
  have HLL : Hid (l = s.data.toList) := hll
  rw [← hll]
  clear hi hz0 hz1 hz2 HI L0 hl hll
  go_enter Tryz.func70, Tryz.ntmps70
  go_wp2
  go_loopw [5, 6, 7] (fun o fr i wr => ∃ (r : Value) (k j : Nat) (ss : List ByteArray), k ≤ s.size + 1 ∧ j ≤ k ∧ ss.length ≤ k ∧ i = .int .i64 k ∧ fr = .int .i64 j ∧ r = o ∧ Hid (RelS c l k j (ss.map fun s => s.data.toList)) ∧ Hid (wr.ownsRow w.heap.size 9 1 r ss.length (ss.map Value.string)) ∧ Hid (Below w.heap.size w wr)) (fun _ _ i _ => s.size + 1 - (intOf i).toNat)
  case atStart => exact ⟨_, 0, 0, [], Nat.zero_le _, Nat.le_refl _, Nat.le_refl _, rfl, rfl, rfl, RelS.start c l, HL0.out, b0 _ _⟩
  case round =>
    obtain ⟨r, k, j, ss, hk, hj, hss, rfl, rfl, rfl, hR, hO, hB⟩ := hrel
    have hsz := hB.out.size
    have hi := HII.out.1
    have hz0 := HII.out.2.1
    have hz1 := HII.out.2.2.1
    have hz2 := HII.out.2.2.2
    obtain ⟨ao, co, rfl⟩ := own_shape hO.out
    by_cases hle : k ≤ s.size
    · by_cases hlt : k = s.size
      · subst hlt
        have hext := ext_sub s j s.size
        have HX : Hid ((s.extract j s.size).data.toList = (l.drop j).take (s.size - j)) := by show _ = _; rw [hext, HLL.out]
        clear hext
        have hj0 : (0 : Int) ≤ j := by omega
        have hj1 : (j : Int) ≤ s.size := by omega
        go_wp2_with (at_builtin; refine wpList_append_own _ rfl _ _ 82 rfl w.heap.size 9 i0 (.string ⟨#[]⟩) 1 16 Tryz.underlying82 hi hz0 hz1 hz2 rfl (by decide) _ _ _ rfl (own_below hO.out (b0 _ _)) ⟨wr.heap.size, 0, none⟩ 1 1 [.string (s.extract j s.size)] rfl rfl (cell_one_new _ _ _) (by simp [Value.oneCell']) (by unfold maxLen; omega) (by omega) (by simp; omega) ?_; intro v' w3 hown' hgrow _)
        go_roundw
        case rel =>
          refine ⟨v', s.size + 1, s.size + 1, ss ++ [s.extract j s.size], by omega, by omega, by simp; omega, by go_num, by go_num, rfl, ?_, ?_, (hB.out.trans ((b0 wr (.cells #[.string (s.extract j s.size)] 9)).mono hsz)).grown hgrow (by simp; omega) (fun b e => by have := (hO.out.lt b e).1; exact this)⟩
          · show RelS _ _ _ _ _
            rw [List.map_append, List.map_singleton, HX.out]
            exact hR.out.last (by rw [HLL.out]; exact HLEN.out.symm)
          · show World.ownsRow _ _ _ _ _ _ _
            rw [List.map_append, List.map_singleton, List.length_append]
            exact hown'
        case measure => (simp [intOf]) <;> omega
      · have hk2 : k < s.size := by omega
        have hkl : k < l.length := by rw [HLL.out, HLEN.out]; exact hk2
        have hb : l[k] = s[k] := by
          have e := HLL.out
          subst e
          rfl
        obtain ⟨b, hbb⟩ : ∃ b, b = s[k] := ⟨_, rfl⟩
        have hg : ∀ q : k < s.size, s[k]'q = b := fun q => hbb.symm
        have HB1 : Hid (∀ q : k < l.length, l[k]'q = b) := fun q => by rw [hbb]; exact hb
        have HKL : Hid (k < l.length) := hkl
        clear hb hbb hkl hlt
        by_cases he : b = c
        · have hbc : ((b.toNat : Int) == (c.toNat : Int)) = true := by rw [he]; simp
          have HE : Hid (b = c) := he
          have hext := ext_sub s j k
          have HX : Hid ((s.extract j k).data.toList = (l.drop j).take (k - j)) := by show _ = _; rw [hext, HLL.out]
          clear hext he
          have hj0 : (0 : Int) ≤ j := by omega
          have hj1 : (j : Int) ≤ k := by omega
          have hk3 : (k : Int) ≤ s.size := by omega
          go_wp2_with (at_builtin; refine wpList_append_own _ rfl _ _ 82 rfl w.heap.size 9 i0 (.string ⟨#[]⟩) 1 16 Tryz.underlying82 hi hz0 hz1 hz2 rfl (by decide) _ _ _ rfl (own_below hO.out (b0 _ _)) ⟨wr.heap.size, 0, none⟩ 1 1 [.string (s.extract j k)] rfl rfl (cell_one_new _ _ _) (by simp [Value.oneCell']) (by unfold maxLen; omega) (by omega) (by simp; omega) ?_; intro v' w3 hown' hgrow _)
          go_roundw
          case rel =>
            refine ⟨v', k + 1, k + 1, ss ++ [s.extract j k], by omega, by omega, by simp; omega, by go_num, by go_num, rfl, ?_, ?_, (hB.out.trans ((b0 wr (.cells #[.string (s.extract j k)] 9)).mono hsz)).grown hgrow (by simp; omega) (fun b e => by have := (hO.out.lt b e).1; exact this)⟩
            · show RelS _ _ _ _ _
              rw [List.map_append, List.map_singleton, HX.out]
              exact hR.out.yes HKL.out (by rw [HB1.out]; exact HE.out)
            · show World.ownsRow _ _ _ _ _ _ _
              rw [List.map_append, List.map_singleton, List.length_append]
              exact hown'
          case measure => (simp [intOf]) <;> omega
        · have hbc : ((b.toNat : Int) == (c.toNat : Int)) = false := by
            rw [beq_eq_false_iff_ne]
            intro e
            exact he (UInt8.toNat.inj (by omega))
          have HE : Hid (¬ b = c) := he
          clear he
          go_wp2
          go_roundw
          case rel =>
            refine ⟨_, k + 1, j, ss, by omega, by omega, by omega, by go_num, rfl, rfl, ?_, hO, hB⟩
            exact hR.out.no hj HKL.out (by rw [HB1.out]; exact HE.out)
          case measure => (simp [intOf]) <;> omega
    · have HD : Hid (splitL c l = ss.map fun s => s.data.toList) := hR.out.done (by rw [HLL.out, HLEN.out]; omega)
      go_wp2
      go_ret
      exact ⟨_, ss, rfl, HD.out.symm, hO.out, hB.out⟩
end Go.Proofs.YtnhefbhiemdhoaaGreat

/- The model's units: the walk of l5Unit. -/
namespace Go.Proofs.YtnhefbhiemdhoaaGreat
open Go.RowKit Go.Proofs.YtnhefbhiemdhoaaGreat.RM

/-- several objects laid, one behind the other -/
def alls (w : World) : List Obj → World
  | [] => w
  | o :: r => alls (w.alloc o) r
theorem alls_size : ∀ (os : List Obj) (w : World), (alls w os).heap.size = w.heap.size + os.length
  | [], _ => rfl
  | o :: r, w => by
    show (alls (w.alloc o) r).heap.size = _
    rw [alls_size r (w.alloc o)]
    simp; omega
theorem alls_below : ∀ (os : List Obj) (w : World), Below w.heap.size w (alls w os)
  | [], _ => Below.refl _ _
  | o :: r, w => ((Below.refl _ _).alloc (Nat.le_refl _) o).trans ((alls_below r (w.alloc o)).mono (by simp))
theorem alls_at : ∀ (os : List Obj) (w : World) (i : Nat) (o : Obj), os[i]? = some o → (alls w os).heap[w.heap.size + i]? = some o
  | [], _, _, _, h => by simp at h
  | p :: r, w, 0, o, h => by
    have h1 : (w.alloc p).heap[w.heap.size]? = some p := by show (w.heap.push p)[w.heap.size]? = _; simp
    have h2 := (alls_below r (w.alloc p)).block w.heap.size (by simp)
    simp at h
    subst h
    show (alls (w.alloc p) r).heap[w.heap.size + 0]? = _
    rw [Nat.add_zero, h2, h1]
  | p :: r, w, i + 1, o, h => by
    have h1 := alls_at r (w.alloc p) i o (by simpa using h)
    show (alls (w.alloc p) r).heap[w.heap.size + (i + 1)]? = _
    rw [show w.heap.size + (i + 1) = (w.alloc p).heap.size + i by simp; omega]
    exact h1

def sName (k : Nat) : List UInt8 := ((sTab[k]?).map (·.1)).getD []
def sUv (k : Nat) : UV := ((sTab[k]?).map (·.2)).getD .zero
def sObjs (A : Nat) : List Obj :=
  [.cells #[.int .i64 0, .int .i64 0] 25, .cells (sTab.map fun r => Value.string ⟨r.1.toArray⟩).toArray 9, .cells (sTab.flatMap fun r => [Value.int .i64 r.2.n, .int .i64 r.2.d]).toArray 25]
  ++ (sTab.map fun r => Obj.cells (r.2.dims.map (Value.int .i64)).toArray 2) ++ [.cells ((List.range 15).map fun k => Value.slice (some ⟨A + 3 + k, 0, none⟩) 5 5).toArray 28]

theorem sName_dec : ∀ k, k < 15 → (sTab.map fun r => Value.string ⟨r.1.toArray⟩).toArray[k]? = some (.string ⟨(sName k).toArray⟩) := by
  intro k hk
  match k, hk with
  | 0, _ => rfl
  | 1, _ => rfl
  | 2, _ => rfl
  | 3, _ => rfl
  | 4, _ => rfl
  | 5, _ => rfl
  | 6, _ => rfl
  | 7, _ => rfl
  | 8, _ => rfl
  | 9, _ => rfl
  | 10, _ => rfl
  | 11, _ => rfl
  | 12, _ => rfl
  | 13, _ => rfl
  | 14, _ => rfl
theorem sFac_dec : ∀ k, k < 15 → (sTab.flatMap fun r => [Value.int .i64 r.2.n, .int .i64 r.2.d]).toArray[k * 2]? = some (.int .i64 (sUv k).n) ∧ (sTab.flatMap fun r => [Value.int .i64 r.2.n, .int .i64 r.2.d]).toArray[k * 2 + 1]? = some (.int .i64 (sUv k).d) := by
  intro k hk
  match k, hk with
  | 0, _ => exact ⟨rfl, rfl⟩
  | 1, _ => exact ⟨rfl, rfl⟩
  | 2, _ => exact ⟨rfl, rfl⟩
  | 3, _ => exact ⟨rfl, rfl⟩
  | 4, _ => exact ⟨rfl, rfl⟩
  | 5, _ => exact ⟨rfl, rfl⟩
  | 6, _ => exact ⟨rfl, rfl⟩
  | 7, _ => exact ⟨rfl, rfl⟩
  | 8, _ => exact ⟨rfl, rfl⟩
  | 9, _ => exact ⟨rfl, rfl⟩
  | 10, _ => exact ⟨rfl, rfl⟩
  | 11, _ => exact ⟨rfl, rfl⟩
  | 12, _ => exact ⟨rfl, rfl⟩
  | 13, _ => exact ⟨rfl, rfl⟩
  | 14, _ => exact ⟨rfl, rfl⟩
theorem sRow_dec (A : Nat) : ∀ k, k < 15 → (sObjs A)[3 + k]? = some (.cells ((sUv k).dims.map (Value.int .i64)).toArray 2) := by
  intro k hk
  match k, hk with
  | 0, _ => rfl
  | 1, _ => rfl
  | 2, _ => rfl
  | 3, _ => rfl
  | 4, _ => rfl
  | 5, _ => rfl
  | 6, _ => rfl
  | 7, _ => rfl
  | 8, _ => rfl
  | 9, _ => rfl
  | 10, _ => rfl
  | 11, _ => rfl
  | 12, _ => rfl
  | 13, _ => rfl
  | 14, _ => rfl
theorem sOut_dec (A : Nat) : ∀ k, k < 15 → (((List.range 15).map fun k => Value.slice (some ⟨A + 3 + k, 0, none⟩) 5 5).toArray)[k]? = some (.slice (some ⟨A + 3 + k, 0, none⟩) 5 5) := by
  intro k hk
  simp [hk]
theorem look_at (l : List UInt8) : ∀ (T : List (List UInt8 × UV)) (k : Nat) (r : List UInt8 × UV), T[k]? = some r → r.1 = l → (∀ j, j < k → ∀ q, T[j]? = some q → q.1 ≠ l) → look T l = some r.2
  | [], _, _, h, _, _ => by simp at h
  | (p, u) :: T, 0, r, h, e, _ => by
    simp at h
    subst h
    rw [look_cons, if_pos e]
  | (p, u) :: T, k + 1, r, h, e, hn => by
    rw [look_cons, if_neg (hn 0 (by omega) (p, u) rfl)]
    exact look_at l T k r (by simpa using h) e (fun j hj q hq => hn (j + 1) (by omega) q (by simpa using hq))
theorem look_no (l : List UInt8) : ∀ (T : List (List UInt8 × UV)), (∀ q ∈ T, q.1 ≠ l) → look T l = none
  | [], _ => rfl
  | (p, u) :: T, hn => by
    rw [look_cons, if_neg (hn (p, u) (by simp))]
    exact look_no l T (fun q hq => hn q (by simp [hq]))
theorem unit_hit {l : List UInt8} {k : Nat} (hk : k < 15) (he : sName k = l) (hn : ∀ j, j < k → sName j ≠ l) : unitS l = ((sUv k).n, (sUv k).d, (sUv k).dims, true) := by
  have hl : k < sTab.length := hk
  have h1 : sTab[k]? = some sTab[k] := List.getElem?_eq_getElem hl
  have h2 : look sTab l = some (sTab[k]).2 := look_at l sTab k _ h1 (by have := he; unfold sName at this; rw [h1] at this; exact this) (fun j hj q hq => by have := hn j hj; unfold sName at this; rw [hq] at this; exact this)
  have h3 : sUv k = (sTab[k]).2 := by unfold sUv; rw [h1]; rfl
  unfold unitS
  rw [← sFind_eq, h2, h3]
theorem unit_miss {l : List UInt8} (hn : ∀ j, j < 15 → sName j ≠ l) : unitS l = (0, 0, [], false) := by
  have h2 : look sTab l = none := look_no l sTab (fun q hq => by
    obtain ⟨j, hj, he⟩ := List.getElem_of_mem hq
    have := hn j hj
    unfold sName at this
    rw [List.getElem?_eq_getElem hj, he] at this
    exact this)
  unfold unitS
  rw [← sFind_eq, h2]

set_option maxRecDepth 100000 in
set_option maxHeartbeats 1000000 in
theorem sUnit_any (s : ByteArray) (w : World) :
    Calls Tryz.prog 91 #[.string s] w fun e w' => ∃ v, e = .returned (.tuple #[.agg #[.int .i64 (unitS s.data.toList).1, .int .i64 (unitS s.data.toList).2.1], v, .bool (unitS s.data.toList).2.2.2]) ∧ w'.ownsRow w.heap.size 2 1 v (unitS s.data.toList).2.2.1.length ((unitS s.data.toList).2.2.1.map (Value.int .i64)) ∧ Below w.heap.size w w' := by
  have b0 : ∀ (u : World) (o : Obj), Below u.heap.size u (u.alloc o) := fun u o => (Below.refl _ _).alloc (Nat.le_refl _) o
  obtain ⟨R, hR⟩ : ∃ R, R = unitS s.data.toList := ⟨_, rfl⟩
  have HQ := hidU hR
  rw [← hR]
  clear hR
  have HA : ∀ i o, (sObjs w.heap.size)[i]? = some o → (alls w (sObjs w.heap.size)).heap[w.heap.size + i]? = some o := fun i o h => alls_at _ w i o h
  have HB := alls_below (sObjs w.heap.size) w
  have HS := alls_size (sObjs w.heap.size) w
  go_enter Tryz.func91, Tryz.ntmps91
  go_wp2
  show Code.wp _ _ _ _ (alls w (sObjs w.heap.size))
  obtain ⟨A, hA⟩ : ∃ A, A = w.heap.size := ⟨_, rfl⟩
  have HAw : Hid (w.heap.size ≤ A) := Nat.le_of_eq hA.symm
  rw [← hA] at HA HS ⊢
  generalize hX : alls w (sObjs A) = X
  rw [← hA, hX] at HB
  rw [hX] at HA HS
  clear hX
  have HN : Hid (∀ k, k < 15 → X.cell? ⟨A + 1, k, none⟩ = some (.string ⟨(sName k).toArray⟩)) := fun k hk => by
    have h1 : IsB X (A + 1) _ 9 := HA 1 _ rfl
    exact h1.cell k (sName_dec k hk)
  have HF : Hid (∀ k, k < 15 → X.cell? ⟨A + 1 + 1, k * 2, none⟩ = some (.int .i64 (sUv k).n) ∧ X.cell? ⟨A + 1 + 1, k * 2 + 1, none⟩ = some (.int .i64 (sUv k).d)) := fun k hk => by
    have h1 : IsB X (A + 2) _ 25 := HA 2 _ rfl
    exact ⟨h1.cell _ (sFac_dec k hk).1, h1.cell _ (sFac_dec k hk).2⟩
  have HR : Hid (∀ k, k < 15 → X.heap[A + 3 + k]? = some (.cells ((sUv k).dims.map (Value.int .i64)).toArray 2 (0, 0))) := fun k hk => by
    have := HA (3 + k) _ (sRow_dec A k hk)
    rw [show A + 3 + k = A + (3 + k) by omega]
    exact this
  have HO : Hid (∀ k, k < 15 → X.cell? ⟨A + 1 + 1 + 1 + 1 + 1 + 1 + 1 + 1 + 1 + 1 + 1 + 1 + 1 + 1 + 1 + 1 + 1 + 1, k, none⟩ = some (.slice (some ⟨A + 3 + k, 0, none⟩) 5 5)) := fun k hk => by
    have h1 : IsB X (A + 18) _ 28 := HA 18 _ rfl
    exact h1.cell k (sOut_dec A k hk)
  have HZ : Hid (IsB X A #[.int .i64 0, .int .i64 0] 25) := HA 0 _ rfl
  have HBw : Hid (Below w.heap.size w X) := by rw [hA] at HB; exact HB
  obtain ⟨O0, hO0⟩ : ∃ O, O = A + 1 + 1 + 1 + 1 + 1 + 1 + 1 + 1 + 1 + 1 + 1 + 1 + 1 + 1 + 1 + 1 + 1 + 1 := ⟨_, rfl⟩
  obtain ⟨F0, hF0⟩ : ∃ O, O = A + 1 + 1 := ⟨_, rfl⟩
  obtain ⟨N0, hN0⟩ : ∃ O, O = A + 1 := ⟨_, rfl⟩
  rw [← hO0] at HO ⊢
  rw [← hF0] at HF ⊢
  rw [← hN0] at HN ⊢
  have hZ18 : A < X.heap.size := by rw [HS]; simp [sObjs, sTab]
  have hOA : Hid (O0 ≠ A) := by show _ ≠ _; omega
  clear HA HB HS hA hO0 hF0 hN0
  go_loop [8] (fun i => ∃ k : Nat, k ≤ 15 ∧ i = .int .i64 k ∧ Hid (∀ j, j < k → sName j ≠ s.data.toList)) (fun i => 15 - (intOf i).toNat)
  case atStart => exact ⟨0, by omega, rfl, fun j hj => absurd hj (by omega)⟩
  case round =>
    obtain ⟨k, hk, rfl, hN⟩ := hrel
    by_cases hk15 : k < 15
    · have cN := HN.out k hk15
      obtain ⟨nm, hnm⟩ : ∃ nm : ByteArray, nm = ⟨(sName k).toArray⟩ := ⟨_, rfl⟩
      have hnl : nm.toList = sName k := by rw [hnm, ByteArray.toList_eq]
      have hsl : s.toList = s.data.toList := by rw [ByteArray.toList_eq]
      rw [← hnm] at cN
      have hki : (k : Int) < 15 := by omega
      have hki0 : (0 : Int) ≤ k := by omega
      by_cases he : sName k = s.data.toList
      · have hq : (nm.toList == s.toList) = true := by rw [hnl, hsl, he]; simp
        have hq2 : nm.toList = s.toList := by rw [hnl, hsl, he]
        obtain ⟨cF, cG⟩ := HF.out k hk15
        have cO := HO.out k hk15
        obtain rfl : R = _ := HQ.out.trans (unit_hit hk15 he hN.out)
        clear hnm hnl hsl he
        have z0 := HZ.out.cell 0 rfl
        have z1 := HZ.out.cell 1 rfl
        have f0 := HZ.out.frozen 0
        have f1 := HZ.out.frozen 1
        have c2 := cell_stb (u := .int .i64 (sUv k).d) (q := 1) (cell_stb (u := .int .i64 (sUv k).n) (q := 0) cO hOA.out) hOA.out
        go_upto_region 8 with fail
        go_region
        go_wp2
        obtain ⟨e0, e1⟩ := new2 (n := .int .i64 (sUv k).n) (d := .int .i64 (sUv k).d) z0 z1
        have hRk : IsB ((X.setCell ⟨A, 0, none⟩ (.int .i64 (sUv k).n)).setCell ⟨A, 1, none⟩ (.int .i64 (sUv k).d)) (A + 3 + k) _ 2 := (IsB.other (show IsB X (A + 3 + k) _ 2 from HR.out k hk15) (by omega) 0 _).other (by omega) 1 _
        exact bodyPost_ret (v := .tuple #[.agg #[.int .i64 (sUv k).n, .int .i64 (sUv k).d], .slice (some ⟨A + 3 + k, 0, none⟩) 5 5, .bool true]) (by simp [results, Tryz.results91, go_sem, e0, e1]) rfl ⟨_, rfl, ⟨rfl, .inr ⟨A + 3 + k, 5, _, rfl, by have := HAw.out; omega, hRk, Nat.le_refl _, by unfold maxLen; omega, rfl, rfl⟩⟩, ((HBw.out.setCell (p := ⟨A, 0, none⟩) HAw.out _).setCell (p := ⟨A, 1, none⟩) HAw.out _).drew⟩
      · have hq : (nm.toList == s.toList) = false := by rw [hnl, hsl]; exact beq_eq_false_iff_ne.2 he
        have hq2 : ¬ nm.toList = s.toList := by rw [hnl, hsl]; exact he
        have hN2 : Hid (∀ j, j < k + 1 → sName j ≠ s.data.toList) := fun j hj => by
          by_cases hj2 : j < k
          · exact hN.out j hj2
          · have : j = k := by omega
            subst this; exact he
        clear hnm hnl hsl he
        go_wp2
        go_round
        case rel => exact ⟨k + 1, by omega, by go_num, hN2.out⟩
        case measure => simp [intOf]; omega
    · obtain rfl : k = 15 := by omega
      obtain rfl : R = _ := HQ.out.trans (unit_miss hN.out)
      have z0 := HZ.out.cell 0 rfl
      have z1 := HZ.out.cell 1 rfl
      have f0 := HZ.out.frozen 0
      have f1 := HZ.out.frozen 1
      obtain ⟨e0, e1⟩ := new2 (n := .int .i64 0) (d := .int .i64 0) z0 z1
      have hBF : Hid (Below w.heap.size w ((X.setCell ⟨A, 0, none⟩ (.int .i64 0)).setCell ⟨A, 1, none⟩ (.int .i64 0))) := (HBw.out.setCell (p := ⟨A, 0, none⟩) HAw.out (.int .i64 0)).setCell (p := ⟨A, 1, none⟩) HAw.out (.int .i64 0)
      go_wp2
      have hXs := HBw.out.size
      replace e0 := cell_al (.cells #[] 2) e0
      replace e1 := cell_al (.cells #[] 2) e1
      have hE : IsB (((X.setCell ⟨A, 0, none⟩ (.int .i64 0)).setCell ⟨A, 1, none⟩ (.int .i64 0)).alloc (.cells #[] 2)) X.heap.size #[] 2 := by
        have := IsB.new ((X.setCell ⟨A, 0, none⟩ (.int .i64 0)).setCell ⟨A, 1, none⟩ (.int .i64 0)) #[] 2
        simpa using this
      exact bodyPost_ret (v := .tuple #[.agg #[.int .i64 0, .int .i64 0], .slice (some ⟨X.heap.size, 0, none⟩) 0 0, .bool false]) (by simp [results, Tryz.results91, go_sem, e0, e1]) rfl ⟨_, rfl, ⟨rfl, .inr ⟨X.heap.size, 0, #[], rfl, hXs, hE, Nat.le_refl _, Nat.zero_le _, rfl, rfl⟩⟩, hBF.out.alloc hBF.out.size _⟩
end Go.Proofs.YtnhefbhiemdhoaaGreat

/- The model's words: a prefix and a unit where there is none. -/
namespace Go.Proofs.YtnhefbhiemdhoaaGreat
open Go.RowKit Go.Proofs.YtnhefbhiemdhoaaGreat.RM

theorem byte0 {s : ByteArray} {b : UInt8} {r : List UInt8} (hl : s.data.toList = b :: r) (h : 0 < s.size) : s[0] = b := by
  have h0 : s.data.toList[0]? = some b := by rw [hl]; rfl
  have := (Array.getElem?_toList (xs := s.data) (i := 0)).symm.trans h0
  rw [Array.getElem?_eq_getElem (by exact h)] at this
  exact Option.some.inj this
theorem tail_s (s : ByteArray) (b : UInt8) (r : List UInt8) (h : s.data.toList = b :: r) : (s.extract 1 s.size).data.toList = r := by
  rw [ByteArray.data_extract, Array.toList_extract, List.extract_eq_take_drop, h]
  have : s.size = s.data.toList.length := rfl
  rw [this, h]
  simp
/-- is it barred: too short, or what takes no prefix -/
def barS (l : List UInt8) : Bool := match l with | [] => true | [_] => true | _ :: r => r == [109, 105, 110] || r == [104] || r == [67]
theorem preS_bar {l : List UInt8} (h : barS l = true) : preS l = (0, 0, [], false) := by
  match l, h with
  | [], _ => rfl
  | [b], _ => rfl
  | b :: c :: r, h =>
    unfold barS at h
    simp only [Bool.or_eq_true, beq_iff_eq] at h
    have h2 : c :: r = [109, 105, 110] ∨ c :: r = [104] ∨ c :: r = [67] := by
      rcases h with (h | h) | h
      · exact .inl h
      · exact .inr (.inl h)
      · exact .inr (.inr h)
    have e : preI (b :: c :: r) = (.zero, false) := by
      cases hu : uFind (c :: r) with
      | none => simp only [preI, hu]
      | some u => simp only [preI, hu, if_pos h2]
    unfold preS
    rw [e]
    rfl

set_option maxRecDepth 100000 in
set_option maxHeartbeats 1000000 in
theorem sPre_bar (s : ByteArray) (w : World) (h : barS s.data.toList = true) :
    Calls Tryz.prog 92 #[.string s] w fun e w' => ∃ v, e = .returned (.tuple #[.agg #[.int .i64 0, .int .i64 0], v, .bool false]) ∧ w'.ownsRow w.heap.size 2 1 v 0 [] ∧ Below w.heap.size w w' := by
  have b0 : ∀ (u : World) (o : Obj), Below u.heap.size u (u.alloc o) := fun u o => (Below.refl _ _).alloc (Nat.le_refl _) o
  have hE : IsB ((w.alloc (.cells #[.int .i64 0, .int .i64 0] 25)).alloc (.cells #[] 2)) (w.heap.size + 1) #[] 2 := by
    have := IsB.new (w.alloc (.cells #[.int .i64 0, .int .i64 0] 25)) #[] 2
    simpa using this
  have HE := hidU hE
  clear hE
  have hz : s.size = s.data.toList.length := rfl
  by_cases h2 : s.size < 2
  · have h3 : (s.size : Int) < 2 := by omega
    clear h hz
    go_enter Tryz.func92, Tryz.ntmps92
    go_wp2
    exact bodyPost_ret (v := .tuple #[.agg #[.int .i64 0, .int .i64 0], .slice (some ⟨w.heap.size + 1, 0, none⟩) 0 0, .bool false]) (by simp [results, Tryz.results92, go_sem]) rfl ⟨_, rfl, ⟨rfl, .inr ⟨_, 0, #[], rfl, by omega, HE.out, Nat.le_refl _, Nat.zero_le _, rfl, rfl⟩⟩, (b0 _ _).alloc (by simp) _⟩
  · have h3 : ¬ (s.size : Int) < 2 := by omega
    have h4 : (1 : Int) ≤ s.size := by omega
    obtain ⟨b, r, hl⟩ : ∃ b r, s.data.toList = b :: r := by
      cases hl : s.data.toList with
      | nil => exact absurd (show s.size = 0 by rw [hz, hl]; rfl) (by omega)
      | cons b r => exact ⟨b, r, rfl⟩
    have hr : (s.extract 1 s.size).toList = r := by rw [ByteArray.toList_eq]; exact tail_s s b r hl
    have hc : r = [109, 105, 110] ∨ r = [104] ∨ r = [67] := by
      rw [hl] at h
      cases r with
      | nil => exact absurd (show s.size = 1 by rw [hz, hl]; rfl) (by omega)
      | cons c r =>
        unfold barS at h
        simp only [Bool.or_eq_true, beq_iff_eq] at h
        rcases h with (h | h) | h
        · exact .inl h
        · exact .inr (.inl h)
        · exact .inr (.inr h)
    clear h hz hl
    rcases hc with rfl | rfl | rfl
    all_goals
      go_enter Tryz.func92, Tryz.ntmps92
      go_wp2
      exact bodyPost_ret (v := .tuple #[.agg #[.int .i64 0, .int .i64 0], .slice (some ⟨w.heap.size + 1, 0, none⟩) 0 0, .bool false]) (by simp [results, Tryz.results92, go_sem]) rfl ⟨_, rfl, ⟨rfl, .inr ⟨_, 0, #[], rfl, by omega, HE.out, Nat.le_refl _, Nat.zero_le _, rfl, rfl⟩⟩, (b0 _ _).alloc (by simp) _⟩
end Go.Proofs.YtnhefbhiemdhoaaGreat

/- The model's words: a prefix and a unit; Word and Both, the model's. -/
namespace Go.Proofs.YtnhefbhiemdhoaaGreat
open Go.RowKit Go.Proofs.YtnhefbhiemdhoaaGreat.RM

theorem preS_go {b c : UInt8} {r : List UInt8} (h : barS (b :: c :: r) = false) :
    preS (b :: c :: r) = if ((unitS (c :: r)).2.2.2 && (mulQ (pfx b) ((unitS (c :: r)).1, (unitS (c :: r)).2.1)).2.2) = true then ((mulQ (pfx b) ((unitS (c :: r)).1, (unitS (c :: r)).2.1)).1, (mulQ (pfx b) ((unitS (c :: r)).1, (unitS (c :: r)).2.1)).2.1, (unitS (c :: r)).2.2.1, true) else (0, 0, [], false) := by
  have h2 : ¬ (c :: r = [109, 105, 110] ∨ c :: r = [104] ∨ c :: r = [67]) := by
    unfold barS at h
    simp only [Bool.or_eq_false_iff, beq_eq_false_iff_ne] at h
    rintro (e | e | e)
    · exact h.1.1 e
    · exact h.1.2 e
    · exact h.2 e
  cases hu : uFind (c :: r) with
  | none =>
    have e : preI (b :: c :: r) = (.zero, false) := by simp only [preI, hu]
    unfold preS
    rw [e]
    simp [unitS, hu, told]
  | some u =>
    have e : preI (b :: c :: r) = ({ u with n := (mulQ (pfx b) (u.n, u.d)).1, d := (mulQ (pfx b) (u.n, u.d)).2.1 }, (mulQ (pfx b) (u.n, u.d)).2.2) := by simp only [preI, hu, if_neg h2]
    unfold preS
    rw [e]
    simp [unitS, hu, told, UV.dims]

theorem own_weak {w : World} {base base' : Nat} {e : TypeId} {size : Nat} {v : Value} {n : Nat} {xs : List Value} (h : w.ownsRow base e size v n xs) (hb : base' ≤ base) : w.ownsRow base' e size v n xs := by
  obtain ⟨h1, h2⟩ := h
  refine ⟨h1, ?_⟩
  rcases h2 with h2 | ⟨g, cap, cur, e1, e2, e3⟩
  · exact .inl h2
  · exact .inr ⟨g, cap, cur, e1, Nat.le_trans hb e2, e3⟩
theorem own_setZ {W : World} {base Z : Nat} {e : TypeId} {size : Nat} {v : Value} {n : Nat} {xs : List Value} (h : W.ownsRow base e size v n xs) (hZ : Z < base) (o : Nat) (x : Value) : (W.setCell ⟨Z, o, none⟩ x).ownsRow base e size v n xs := by
  refine h.kept (g_set (g_refl W (some Z)) (.inr rfl) o x) (.inr fun e' => ?_)
  have := (h.lt Z e').1
  omega
theorem frozen_al {w : World} {a : Addr} {v : Value} (o : Obj) (h : w.cell? a = some v) (hf : w.frozen? a = false) : (w.alloc o).frozen? a = false :=
  frozen_later ((Below.refl _ _).alloc (Nat.le_refl _) o) h hf
theorem none_end {n Z g : Nat} {w0 X : World} (hZ : IsB X Z #[.int .i64 0, .int .i64 0] 25) (hE : IsB X g #[] 2) (hne : g ≠ Z) (hg : n ≤ g) (hB : Below n w0 X) (hn : n ≤ Z) :
    ((X.setCell ⟨Z, 0, none⟩ (.int .i64 0)).setCell ⟨Z, 1, none⟩ (.int .i64 0)).cell? ⟨Z, 0, none⟩ = some (.int .i64 0) ∧
    ((X.setCell ⟨Z, 0, none⟩ (.int .i64 0)).setCell ⟨Z, 1, none⟩ (.int .i64 0)).cell? ⟨Z, 1, none⟩ = some (.int .i64 0) ∧
    ((X.setCell ⟨Z, 0, none⟩ (.int .i64 0)).setCell ⟨Z, 1, none⟩ (.int .i64 0)).ownsRow n 2 1 (.slice (some ⟨g, 0, none⟩) 0 0) 0 [] ∧
    Below n w0 ((X.setCell ⟨Z, 0, none⟩ (.int .i64 0)).setCell ⟨Z, 1, none⟩ (.int .i64 0)) := by
  obtain ⟨e0, e1⟩ := new2 (n := .int .i64 0) (d := .int .i64 0) (hZ.cell 0 rfl) (hZ.cell 1 rfl)
  refine ⟨e0, e1, ⟨rfl, .inr ⟨g, 0, #[], rfl, hg, (hE.other hne 0 _).other hne 1 _, Nat.le_refl _, Nat.zero_le _, rfl, rfl⟩⟩, ?_⟩
  exact (hB.setCell (p := ⟨Z, 0, none⟩) hn _).setCell (p := ⟨Z, 1, none⟩) hn _

set_option maxRecDepth 100000 in
set_option maxHeartbeats 2000000 in
theorem sPre_go (s : ByteArray) (w : World) (b c : UInt8) (r : List UInt8) (hl : s.data.toList = b :: c :: r) (h : barS (b :: c :: r) = false) (hb : b = 107 ∨ b = 99 ∨ b = 109 ∨ b = 117 ∨ b = 77) :
    Calls Tryz.prog 92 #[.string s] w fun e w' => ∃ v, e = .returned (.tuple #[.agg #[.int .i64 (preS (b :: c :: r)).1, .int .i64 (preS (b :: c :: r)).2.1], v, .bool (preS (b :: c :: r)).2.2.2]) ∧ w'.ownsRow w.heap.size 2 1 v (preS (b :: c :: r)).2.2.1.length ((preS (b :: c :: r)).2.2.1.map (Value.int .i64)) ∧ Below w.heap.size w w' := by
  have b0 : ∀ (u : World) (o : Obj), Below u.heap.size u (u.alloc o) := fun u o => (Below.refl _ _).alloc (Nat.le_refl _) o
  have hz : s.size = s.data.toList.length := rfl
  have hz2 : 2 ≤ s.size := by rw [hz, hl]; simp
  have h3 : ¬ (s.size : Int) < 2 := by omega
  have h4 : (1 : Int) ≤ s.size := by omega
  have hs0 : ¬ s = ByteArray.empty := by intro e; subst e; simp at hz2
  have hbb : ∀ q : 0 < s.size, s[0]'q = b := fun q => byte0 hl q
  have hr : (s.extract 1 s.size).data.toList = c :: r := tail_s s b (c :: r) hl
  have hr2 : (s.extract 1 s.size).toList = c :: r := by rw [ByteArray.toList_eq]; exact hr
  rw [preS_go h]
  unfold barS at h
  simp only [Bool.or_eq_false_iff] at h
  obtain ⟨⟨n1, n2⟩, n3⟩ := h
  rw [← hr2] at n1 n2 n3
  have HU : Hid (∀ W : World, Calls Tryz.prog 91 #[.string (s.extract 1 s.size)] W fun e w' => ∃ v, e = .returned (.tuple #[.agg #[.int .i64 (unitS (c :: r)).1, .int .i64 (unitS (c :: r)).2.1], v, .bool (unitS (c :: r)).2.2.2]) ∧ w'.ownsRow W.heap.size 2 1 v (unitS (c :: r)).2.2.1.length ((unitS (c :: r)).2.2.1.map (Value.int .i64)) ∧ Below W.heap.size W w') := fun W => by
    have := sUnit_any (s.extract 1 s.size) W
    rw [hr] at this
    exact this
  obtain ⟨R, hR⟩ : ∃ R, R = unitS (c :: r) := ⟨_, rfl⟩
  rw [← hR] at HU ⊢
  clear hR hr hr2 hl hz hz2
  obtain ⟨n, d, xs, o⟩ := R
  simp only at HU ⊢
  have HM : Hid (∀ W : World, Calls Tryz.prog 44 #[.agg #[.int .i64 (pfx b).1, .int .i64 (pfx b).2], .agg #[.int .i64 n, .int .i64 d]] W fun e w' => e = .returned (.tuple #[.agg #[.int .i64 (mulQ (pfx b) (n, d)).1, .int .i64 (mulQ (pfx b) (n, d)).2.1], .bool (mulQ (pfx b) (n, d)).2.2]) ∧ Below W.heap.size W w') := fun W => sMul_any _ _ _ _ W
  obtain ⟨M, hM⟩ : ∃ M, M = mulQ (pfx b) (n, d) := ⟨_, rfl⟩
  rw [← hM] at HM ⊢
  clear hM
  obtain ⟨m1, m2, mo⟩ := M
  simp only at HM ⊢
  obtain ⟨p1, p2, hp⟩ : ∃ p1 p2, (p1, p2) = pfx b := ⟨_, _, rfl⟩
  rw [← hp] at HM
  simp only at HM
  rcases hb with rfl | rfl | rfl | rfl | rfl
  · obtain ⟨rfl, rfl⟩ := Prod.mk.inj hp
    clear hp
    go_enter Tryz.func92, Tryz.ntmps92
    go_upto_region 3 with go_in
    go_wp2_with fail
    refine (HU.out _).mono ?_
    rintro e w1 ⟨v, rfl, hv, hb⟩
    have hZ : IsB w1 w.heap.size #[.int .i64 0, .int .i64 0] 25 := (IsB.new w _ _).below hb
    have hBw : Below w.heap.size w w1 := (b0 _ _).trans (hb.mono (by simp))
    have hv2 := hidU (own_weak (base' := w.heap.size) hv (by simp))
    obtain ⟨Z, hZe⟩ : ∃ Z, Z = w.heap.size := ⟨_, rfl⟩
    have HZw : Hid (w.heap.size ≤ Z) := Nat.le_of_eq hZe.symm
    rw [← hZe] at hZ ⊢
    have HZ := hidU hZ
    have HBw := hidU hBw
    have z0 := hZ.cell (v := .int .i64 0) 0 rfl
    have z1 := hZ.cell (v := .int .i64 0) 1 rfl
    have f0 := hZ.frozen 0
    have f1 := hZ.frozen 1
    have HV := hidU (show w1.ownsRow (Z + 1) 2 1 v xs.length (xs.map (Value.int .i64)) by rw [hZe]; exact own_weak (base' := w.heap.size + 1) hv (by simp))
    clear hv hb hZe hZ hBw hv2
    cases o with
    | false =>
      have y0 := fun o1 o2 o3 => cell_al o3 (cell_al o2 (cell_al o1 z0))
      have y1 := fun o1 o2 o3 => cell_al o3 (cell_al o2 (cell_al o1 z1))
      have k0 := fun o1 o2 o3 => frozen_al o3 (cell_al o2 (cell_al o1 z0)) (frozen_al o2 (cell_al o1 z0) (frozen_al o1 z0 f0))
      have k1 := fun o1 o2 o3 => frozen_al o3 (cell_al o2 (cell_al o1 z1)) (frozen_al o2 (cell_al o1 z1) (frozen_al o1 z1 f1))
      clear z0 z1 f0 f1
      go_wp2
      obtain ⟨e0, e1, hO, hF⟩ := none_end (X := ((w1.alloc (.cells #[.int .i64 n, .int .i64 d] 25)).alloc (.cells #[.int .i64 1000, .int .i64 1] 25)).alloc (.cells #[] 2)) (g := w1.heap.size + 1 + 1) (w0 := w) (((HZ.out.below (b0 _ _)).below (b0 _ _)).below (b0 _ _)) (by have := IsB.new ((w1.alloc (.cells #[.int .i64 n, .int .i64 d] 25)).alloc (.cells #[.int .i64 1000, .int .i64 1] 25)) #[] 2; simpa using this) (by have := HZ.out.lt; omega) (by have := HBw.out.size; omega) (((HBw.out.alloc HBw.out.size _).alloc (by have := HBw.out.size; simp; omega) _).alloc (by have := HBw.out.size; simp; omega) _) HZw.out
      exact bodyPost_ret (v := .tuple #[.agg #[.int .i64 0, .int .i64 0], .slice (some ⟨w1.heap.size + 1 + 1, 0, none⟩) 0 0, .bool false]) (by simp [results, Tryz.results92, go_sem, e0, e1]) rfl ⟨_, rfl, hO, hF⟩
    | true =>
      go_wp2_with fail
      refine (HM.out _).mono ?_
      rintro e w2 ⟨rfl, hb⟩
      have hb2 : Below w1.heap.size w1 w2 := ((b0 _ _).alloc (by simp) _).trans (hb.mono (by simp; omega))
      have hZ2 := HZ.out.below hb2
      have hV2 := own_below HV.out hb2
      have hB2 := HBw.out.trans (hb2.mono HBw.out.size)
      skip
      clear z0 z1 f0 f1 hb hb2 HV HZ HBw HU HM
      have z0 := hZ2.cell (v := .int .i64 0) 0 rfl
      have z1 := hZ2.cell (v := .int .i64 0) 1 rfl
      have f0 := hZ2.frozen 0
      have f1 := hZ2.frozen 1
      have HZ := hidU hZ2
      have HB := hidU hB2
      have HV := hidU hV2
      clear hZ2 hB2 hV2
      cases mo with
      | false =>
        have y0 := fun o1 o2 => cell_al o2 (cell_al o1 z0)
        have y1 := fun o1 o2 => cell_al o2 (cell_al o1 z1)
        have k0 := fun o1 o2 => frozen_al o2 (cell_al o1 z0) (frozen_al o1 z0 f0)
        have k1 := fun o1 o2 => frozen_al o2 (cell_al o1 z1) (frozen_al o1 z1 f1)
        clear z0 z1 f0 f1
        go_wp2
        obtain ⟨e0, e1, hO, hF⟩ := none_end (X := (w2.alloc (.cells #[.int .i64 m1, .int .i64 m2] 25)).alloc (.cells #[] 2)) (g := w2.heap.size + 1) (w0 := w) ((HZ.out.below (b0 _ _)).below (b0 _ _)) (by have := IsB.new (w2.alloc (.cells #[.int .i64 m1, .int .i64 m2] 25)) #[] 2; simpa using this) (by have := HZ.out.lt; omega) (by have := HB.out.size; omega) ((HB.out.alloc HB.out.size _).alloc (by have := HB.out.size; simp; omega) _) HZw.out
        exact bodyPost_ret (v := .tuple #[.agg #[.int .i64 0, .int .i64 0], .slice (some ⟨w2.heap.size + 1, 0, none⟩) 0 0, .bool false]) (by simp [results, Tryz.results92, go_sem, e0, e1]) rfl ⟨_, rfl, hO, hF⟩
      | true =>
        have y0 := fun o1 => cell_al o1 z0
        have y1 := fun o1 => cell_al o1 z1
        have k0 := fun o1 => frozen_al o1 z0 f0
        have k1 := fun o1 => frozen_al o1 z1 f1
        clear z0 z1 f0 f1
        go_wp2
        obtain ⟨e0, e1⟩ := new2 (n := .int .i64 m1) (d := .int .i64 m2) (y0 (.cells #[.int .i64 m1, .int .i64 m2] 25)) (y1 (.cells #[.int .i64 m1, .int .i64 m2] 25))
        exact bodyPost_ret (v := .tuple #[.agg #[.int .i64 m1, .int .i64 m2], v, .bool true]) (by simp [results, Tryz.results92, go_sem, e0, e1]) rfl ⟨_, rfl, own_weak (own_setZ (own_setZ (own_below HV.out (b0 _ _)) (Nat.lt_succ_self _) 0 _) (Nat.lt_succ_self _) 1 _) (Nat.le_succ_of_le HZw.out), ((HB.out.alloc HB.out.size _).setCell (p := ⟨Z, 0, none⟩) HZw.out _).setCell (p := ⟨Z, 1, none⟩) HZw.out _⟩
  · obtain ⟨rfl, rfl⟩ := Prod.mk.inj hp
    clear hp
    go_enter Tryz.func92, Tryz.ntmps92
    go_upto_region 3 with go_in
    go_wp2_with fail
    refine (HU.out _).mono ?_
    rintro e w1 ⟨v, rfl, hv, hb⟩
    have hZ : IsB w1 w.heap.size #[.int .i64 0, .int .i64 0] 25 := (IsB.new w _ _).below hb
    have hBw : Below w.heap.size w w1 := (b0 _ _).trans (hb.mono (by simp))
    have hv2 := hidU (own_weak (base' := w.heap.size) hv (by simp))
    obtain ⟨Z, hZe⟩ : ∃ Z, Z = w.heap.size := ⟨_, rfl⟩
    have HZw : Hid (w.heap.size ≤ Z) := Nat.le_of_eq hZe.symm
    rw [← hZe] at hZ ⊢
    have HZ := hidU hZ
    have HBw := hidU hBw
    have z0 := hZ.cell (v := .int .i64 0) 0 rfl
    have z1 := hZ.cell (v := .int .i64 0) 1 rfl
    have f0 := hZ.frozen 0
    have f1 := hZ.frozen 1
    have HV := hidU (show w1.ownsRow (Z + 1) 2 1 v xs.length (xs.map (Value.int .i64)) by rw [hZe]; exact own_weak (base' := w.heap.size + 1) hv (by simp))
    clear hv hb hZe hZ hBw hv2
    cases o with
    | false =>
      have y0 := fun o1 o2 o3 => cell_al o3 (cell_al o2 (cell_al o1 z0))
      have y1 := fun o1 o2 o3 => cell_al o3 (cell_al o2 (cell_al o1 z1))
      have k0 := fun o1 o2 o3 => frozen_al o3 (cell_al o2 (cell_al o1 z0)) (frozen_al o2 (cell_al o1 z0) (frozen_al o1 z0 f0))
      have k1 := fun o1 o2 o3 => frozen_al o3 (cell_al o2 (cell_al o1 z1)) (frozen_al o2 (cell_al o1 z1) (frozen_al o1 z1 f1))
      clear z0 z1 f0 f1
      go_wp2
      obtain ⟨e0, e1, hO, hF⟩ := none_end (X := ((w1.alloc (.cells #[.int .i64 n, .int .i64 d] 25)).alloc (.cells #[.int .i64 1, .int .i64 100] 25)).alloc (.cells #[] 2)) (g := w1.heap.size + 1 + 1) (w0 := w) (((HZ.out.below (b0 _ _)).below (b0 _ _)).below (b0 _ _)) (by have := IsB.new ((w1.alloc (.cells #[.int .i64 n, .int .i64 d] 25)).alloc (.cells #[.int .i64 1, .int .i64 100] 25)) #[] 2; simpa using this) (by have := HZ.out.lt; omega) (by have := HBw.out.size; omega) (((HBw.out.alloc HBw.out.size _).alloc (by have := HBw.out.size; simp; omega) _).alloc (by have := HBw.out.size; simp; omega) _) HZw.out
      exact bodyPost_ret (v := .tuple #[.agg #[.int .i64 0, .int .i64 0], .slice (some ⟨w1.heap.size + 1 + 1, 0, none⟩) 0 0, .bool false]) (by simp [results, Tryz.results92, go_sem, e0, e1]) rfl ⟨_, rfl, hO, hF⟩
    | true =>
      go_wp2_with fail
      refine (HM.out _).mono ?_
      rintro e w2 ⟨rfl, hb⟩
      have hb2 : Below w1.heap.size w1 w2 := ((b0 _ _).alloc (by simp) _).trans (hb.mono (by simp; omega))
      have hZ2 := HZ.out.below hb2
      have hV2 := own_below HV.out hb2
      have hB2 := HBw.out.trans (hb2.mono HBw.out.size)
      skip
      clear z0 z1 f0 f1 hb hb2 HV HZ HBw HU HM
      have z0 := hZ2.cell (v := .int .i64 0) 0 rfl
      have z1 := hZ2.cell (v := .int .i64 0) 1 rfl
      have f0 := hZ2.frozen 0
      have f1 := hZ2.frozen 1
      have HZ := hidU hZ2
      have HB := hidU hB2
      have HV := hidU hV2
      clear hZ2 hB2 hV2
      cases mo with
      | false =>
        have y0 := fun o1 o2 => cell_al o2 (cell_al o1 z0)
        have y1 := fun o1 o2 => cell_al o2 (cell_al o1 z1)
        have k0 := fun o1 o2 => frozen_al o2 (cell_al o1 z0) (frozen_al o1 z0 f0)
        have k1 := fun o1 o2 => frozen_al o2 (cell_al o1 z1) (frozen_al o1 z1 f1)
        clear z0 z1 f0 f1
        go_wp2
        obtain ⟨e0, e1, hO, hF⟩ := none_end (X := (w2.alloc (.cells #[.int .i64 m1, .int .i64 m2] 25)).alloc (.cells #[] 2)) (g := w2.heap.size + 1) (w0 := w) ((HZ.out.below (b0 _ _)).below (b0 _ _)) (by have := IsB.new (w2.alloc (.cells #[.int .i64 m1, .int .i64 m2] 25)) #[] 2; simpa using this) (by have := HZ.out.lt; omega) (by have := HB.out.size; omega) ((HB.out.alloc HB.out.size _).alloc (by have := HB.out.size; simp; omega) _) HZw.out
        exact bodyPost_ret (v := .tuple #[.agg #[.int .i64 0, .int .i64 0], .slice (some ⟨w2.heap.size + 1, 0, none⟩) 0 0, .bool false]) (by simp [results, Tryz.results92, go_sem, e0, e1]) rfl ⟨_, rfl, hO, hF⟩
      | true =>
        have y0 := fun o1 => cell_al o1 z0
        have y1 := fun o1 => cell_al o1 z1
        have k0 := fun o1 => frozen_al o1 z0 f0
        have k1 := fun o1 => frozen_al o1 z1 f1
        clear z0 z1 f0 f1
        go_wp2
        obtain ⟨e0, e1⟩ := new2 (n := .int .i64 m1) (d := .int .i64 m2) (y0 (.cells #[.int .i64 m1, .int .i64 m2] 25)) (y1 (.cells #[.int .i64 m1, .int .i64 m2] 25))
        exact bodyPost_ret (v := .tuple #[.agg #[.int .i64 m1, .int .i64 m2], v, .bool true]) (by simp [results, Tryz.results92, go_sem, e0, e1]) rfl ⟨_, rfl, own_weak (own_setZ (own_setZ (own_below HV.out (b0 _ _)) (Nat.lt_succ_self _) 0 _) (Nat.lt_succ_self _) 1 _) (Nat.le_succ_of_le HZw.out), ((HB.out.alloc HB.out.size _).setCell (p := ⟨Z, 0, none⟩) HZw.out _).setCell (p := ⟨Z, 1, none⟩) HZw.out _⟩
  · obtain ⟨rfl, rfl⟩ := Prod.mk.inj hp
    clear hp
    go_enter Tryz.func92, Tryz.ntmps92
    go_upto_region 3 with go_in
    go_wp2_with fail
    refine (HU.out _).mono ?_
    rintro e w1 ⟨v, rfl, hv, hb⟩
    have hZ : IsB w1 w.heap.size #[.int .i64 0, .int .i64 0] 25 := (IsB.new w _ _).below hb
    have hBw : Below w.heap.size w w1 := (b0 _ _).trans (hb.mono (by simp))
    have hv2 := hidU (own_weak (base' := w.heap.size) hv (by simp))
    obtain ⟨Z, hZe⟩ : ∃ Z, Z = w.heap.size := ⟨_, rfl⟩
    have HZw : Hid (w.heap.size ≤ Z) := Nat.le_of_eq hZe.symm
    rw [← hZe] at hZ ⊢
    have HZ := hidU hZ
    have HBw := hidU hBw
    have z0 := hZ.cell (v := .int .i64 0) 0 rfl
    have z1 := hZ.cell (v := .int .i64 0) 1 rfl
    have f0 := hZ.frozen 0
    have f1 := hZ.frozen 1
    have HV := hidU (show w1.ownsRow (Z + 1) 2 1 v xs.length (xs.map (Value.int .i64)) by rw [hZe]; exact own_weak (base' := w.heap.size + 1) hv (by simp))
    clear hv hb hZe hZ hBw hv2
    cases o with
    | false =>
      have y0 := fun o1 o2 o3 => cell_al o3 (cell_al o2 (cell_al o1 z0))
      have y1 := fun o1 o2 o3 => cell_al o3 (cell_al o2 (cell_al o1 z1))
      have k0 := fun o1 o2 o3 => frozen_al o3 (cell_al o2 (cell_al o1 z0)) (frozen_al o2 (cell_al o1 z0) (frozen_al o1 z0 f0))
      have k1 := fun o1 o2 o3 => frozen_al o3 (cell_al o2 (cell_al o1 z1)) (frozen_al o2 (cell_al o1 z1) (frozen_al o1 z1 f1))
      clear z0 z1 f0 f1
      go_wp2
      obtain ⟨e0, e1, hO, hF⟩ := none_end (X := ((w1.alloc (.cells #[.int .i64 n, .int .i64 d] 25)).alloc (.cells #[.int .i64 1, .int .i64 1000] 25)).alloc (.cells #[] 2)) (g := w1.heap.size + 1 + 1) (w0 := w) (((HZ.out.below (b0 _ _)).below (b0 _ _)).below (b0 _ _)) (by have := IsB.new ((w1.alloc (.cells #[.int .i64 n, .int .i64 d] 25)).alloc (.cells #[.int .i64 1, .int .i64 1000] 25)) #[] 2; simpa using this) (by have := HZ.out.lt; omega) (by have := HBw.out.size; omega) (((HBw.out.alloc HBw.out.size _).alloc (by have := HBw.out.size; simp; omega) _).alloc (by have := HBw.out.size; simp; omega) _) HZw.out
      exact bodyPost_ret (v := .tuple #[.agg #[.int .i64 0, .int .i64 0], .slice (some ⟨w1.heap.size + 1 + 1, 0, none⟩) 0 0, .bool false]) (by simp [results, Tryz.results92, go_sem, e0, e1]) rfl ⟨_, rfl, hO, hF⟩
    | true =>
      go_wp2_with fail
      refine (HM.out _).mono ?_
      rintro e w2 ⟨rfl, hb⟩
      have hb2 : Below w1.heap.size w1 w2 := ((b0 _ _).alloc (by simp) _).trans (hb.mono (by simp; omega))
      have hZ2 := HZ.out.below hb2
      have hV2 := own_below HV.out hb2
      have hB2 := HBw.out.trans (hb2.mono HBw.out.size)
      skip
      clear z0 z1 f0 f1 hb hb2 HV HZ HBw HU HM
      have z0 := hZ2.cell (v := .int .i64 0) 0 rfl
      have z1 := hZ2.cell (v := .int .i64 0) 1 rfl
      have f0 := hZ2.frozen 0
      have f1 := hZ2.frozen 1
      have HZ := hidU hZ2
      have HB := hidU hB2
      have HV := hidU hV2
      clear hZ2 hB2 hV2
      cases mo with
      | false =>
        have y0 := fun o1 o2 => cell_al o2 (cell_al o1 z0)
        have y1 := fun o1 o2 => cell_al o2 (cell_al o1 z1)
        have k0 := fun o1 o2 => frozen_al o2 (cell_al o1 z0) (frozen_al o1 z0 f0)
        have k1 := fun o1 o2 => frozen_al o2 (cell_al o1 z1) (frozen_al o1 z1 f1)
        clear z0 z1 f0 f1
        go_wp2
        obtain ⟨e0, e1, hO, hF⟩ := none_end (X := (w2.alloc (.cells #[.int .i64 m1, .int .i64 m2] 25)).alloc (.cells #[] 2)) (g := w2.heap.size + 1) (w0 := w) ((HZ.out.below (b0 _ _)).below (b0 _ _)) (by have := IsB.new (w2.alloc (.cells #[.int .i64 m1, .int .i64 m2] 25)) #[] 2; simpa using this) (by have := HZ.out.lt; omega) (by have := HB.out.size; omega) ((HB.out.alloc HB.out.size _).alloc (by have := HB.out.size; simp; omega) _) HZw.out
        exact bodyPost_ret (v := .tuple #[.agg #[.int .i64 0, .int .i64 0], .slice (some ⟨w2.heap.size + 1, 0, none⟩) 0 0, .bool false]) (by simp [results, Tryz.results92, go_sem, e0, e1]) rfl ⟨_, rfl, hO, hF⟩
      | true =>
        have y0 := fun o1 => cell_al o1 z0
        have y1 := fun o1 => cell_al o1 z1
        have k0 := fun o1 => frozen_al o1 z0 f0
        have k1 := fun o1 => frozen_al o1 z1 f1
        clear z0 z1 f0 f1
        go_wp2
        obtain ⟨e0, e1⟩ := new2 (n := .int .i64 m1) (d := .int .i64 m2) (y0 (.cells #[.int .i64 m1, .int .i64 m2] 25)) (y1 (.cells #[.int .i64 m1, .int .i64 m2] 25))
        exact bodyPost_ret (v := .tuple #[.agg #[.int .i64 m1, .int .i64 m2], v, .bool true]) (by simp [results, Tryz.results92, go_sem, e0, e1]) rfl ⟨_, rfl, own_weak (own_setZ (own_setZ (own_below HV.out (b0 _ _)) (Nat.lt_succ_self _) 0 _) (Nat.lt_succ_self _) 1 _) (Nat.le_succ_of_le HZw.out), ((HB.out.alloc HB.out.size _).setCell (p := ⟨Z, 0, none⟩) HZw.out _).setCell (p := ⟨Z, 1, none⟩) HZw.out _⟩
  · obtain ⟨rfl, rfl⟩ := Prod.mk.inj hp
    clear hp
    go_enter Tryz.func92, Tryz.ntmps92
    go_upto_region 3 with go_in
    go_wp2_with fail
    refine (HU.out _).mono ?_
    rintro e w1 ⟨v, rfl, hv, hb⟩
    have hZ : IsB w1 w.heap.size #[.int .i64 0, .int .i64 0] 25 := (IsB.new w _ _).below hb
    have hBw : Below w.heap.size w w1 := (b0 _ _).trans (hb.mono (by simp))
    have hv2 := hidU (own_weak (base' := w.heap.size) hv (by simp))
    obtain ⟨Z, hZe⟩ : ∃ Z, Z = w.heap.size := ⟨_, rfl⟩
    have HZw : Hid (w.heap.size ≤ Z) := Nat.le_of_eq hZe.symm
    rw [← hZe] at hZ ⊢
    have HZ := hidU hZ
    have HBw := hidU hBw
    have z0 := hZ.cell (v := .int .i64 0) 0 rfl
    have z1 := hZ.cell (v := .int .i64 0) 1 rfl
    have f0 := hZ.frozen 0
    have f1 := hZ.frozen 1
    have HV := hidU (show w1.ownsRow (Z + 1) 2 1 v xs.length (xs.map (Value.int .i64)) by rw [hZe]; exact own_weak (base' := w.heap.size + 1) hv (by simp))
    clear hv hb hZe hZ hBw hv2
    cases o with
    | false =>
      have y0 := fun o1 o2 o3 => cell_al o3 (cell_al o2 (cell_al o1 z0))
      have y1 := fun o1 o2 o3 => cell_al o3 (cell_al o2 (cell_al o1 z1))
      have k0 := fun o1 o2 o3 => frozen_al o3 (cell_al o2 (cell_al o1 z0)) (frozen_al o2 (cell_al o1 z0) (frozen_al o1 z0 f0))
      have k1 := fun o1 o2 o3 => frozen_al o3 (cell_al o2 (cell_al o1 z1)) (frozen_al o2 (cell_al o1 z1) (frozen_al o1 z1 f1))
      clear z0 z1 f0 f1
      go_wp2
      obtain ⟨e0, e1, hO, hF⟩ := none_end (X := ((w1.alloc (.cells #[.int .i64 n, .int .i64 d] 25)).alloc (.cells #[.int .i64 1, .int .i64 1000000] 25)).alloc (.cells #[] 2)) (g := w1.heap.size + 1 + 1) (w0 := w) (((HZ.out.below (b0 _ _)).below (b0 _ _)).below (b0 _ _)) (by have := IsB.new ((w1.alloc (.cells #[.int .i64 n, .int .i64 d] 25)).alloc (.cells #[.int .i64 1, .int .i64 1000000] 25)) #[] 2; simpa using this) (by have := HZ.out.lt; omega) (by have := HBw.out.size; omega) (((HBw.out.alloc HBw.out.size _).alloc (by have := HBw.out.size; simp; omega) _).alloc (by have := HBw.out.size; simp; omega) _) HZw.out
      exact bodyPost_ret (v := .tuple #[.agg #[.int .i64 0, .int .i64 0], .slice (some ⟨w1.heap.size + 1 + 1, 0, none⟩) 0 0, .bool false]) (by simp [results, Tryz.results92, go_sem, e0, e1]) rfl ⟨_, rfl, hO, hF⟩
    | true =>
      go_wp2_with fail
      refine (HM.out _).mono ?_
      rintro e w2 ⟨rfl, hb⟩
      have hb2 : Below w1.heap.size w1 w2 := ((b0 _ _).alloc (by simp) _).trans (hb.mono (by simp; omega))
      have hZ2 := HZ.out.below hb2
      have hV2 := own_below HV.out hb2
      have hB2 := HBw.out.trans (hb2.mono HBw.out.size)
      skip
      clear z0 z1 f0 f1 hb hb2 HV HZ HBw HU HM
      have z0 := hZ2.cell (v := .int .i64 0) 0 rfl
      have z1 := hZ2.cell (v := .int .i64 0) 1 rfl
      have f0 := hZ2.frozen 0
      have f1 := hZ2.frozen 1
      have HZ := hidU hZ2
      have HB := hidU hB2
      have HV := hidU hV2
      clear hZ2 hB2 hV2
      cases mo with
      | false =>
        have y0 := fun o1 o2 => cell_al o2 (cell_al o1 z0)
        have y1 := fun o1 o2 => cell_al o2 (cell_al o1 z1)
        have k0 := fun o1 o2 => frozen_al o2 (cell_al o1 z0) (frozen_al o1 z0 f0)
        have k1 := fun o1 o2 => frozen_al o2 (cell_al o1 z1) (frozen_al o1 z1 f1)
        clear z0 z1 f0 f1
        go_wp2
        obtain ⟨e0, e1, hO, hF⟩ := none_end (X := (w2.alloc (.cells #[.int .i64 m1, .int .i64 m2] 25)).alloc (.cells #[] 2)) (g := w2.heap.size + 1) (w0 := w) ((HZ.out.below (b0 _ _)).below (b0 _ _)) (by have := IsB.new (w2.alloc (.cells #[.int .i64 m1, .int .i64 m2] 25)) #[] 2; simpa using this) (by have := HZ.out.lt; omega) (by have := HB.out.size; omega) ((HB.out.alloc HB.out.size _).alloc (by have := HB.out.size; simp; omega) _) HZw.out
        exact bodyPost_ret (v := .tuple #[.agg #[.int .i64 0, .int .i64 0], .slice (some ⟨w2.heap.size + 1, 0, none⟩) 0 0, .bool false]) (by simp [results, Tryz.results92, go_sem, e0, e1]) rfl ⟨_, rfl, hO, hF⟩
      | true =>
        have y0 := fun o1 => cell_al o1 z0
        have y1 := fun o1 => cell_al o1 z1
        have k0 := fun o1 => frozen_al o1 z0 f0
        have k1 := fun o1 => frozen_al o1 z1 f1
        clear z0 z1 f0 f1
        go_wp2
        obtain ⟨e0, e1⟩ := new2 (n := .int .i64 m1) (d := .int .i64 m2) (y0 (.cells #[.int .i64 m1, .int .i64 m2] 25)) (y1 (.cells #[.int .i64 m1, .int .i64 m2] 25))
        exact bodyPost_ret (v := .tuple #[.agg #[.int .i64 m1, .int .i64 m2], v, .bool true]) (by simp [results, Tryz.results92, go_sem, e0, e1]) rfl ⟨_, rfl, own_weak (own_setZ (own_setZ (own_below HV.out (b0 _ _)) (Nat.lt_succ_self _) 0 _) (Nat.lt_succ_self _) 1 _) (Nat.le_succ_of_le HZw.out), ((HB.out.alloc HB.out.size _).setCell (p := ⟨Z, 0, none⟩) HZw.out _).setCell (p := ⟨Z, 1, none⟩) HZw.out _⟩
  · obtain ⟨rfl, rfl⟩ := Prod.mk.inj hp
    clear hp
    go_enter Tryz.func92, Tryz.ntmps92
    go_upto_region 3 with go_in
    go_wp2_with fail
    refine (HU.out _).mono ?_
    rintro e w1 ⟨v, rfl, hv, hb⟩
    have hZ : IsB w1 w.heap.size #[.int .i64 0, .int .i64 0] 25 := (IsB.new w _ _).below hb
    have hBw : Below w.heap.size w w1 := (b0 _ _).trans (hb.mono (by simp))
    have hv2 := hidU (own_weak (base' := w.heap.size) hv (by simp))
    obtain ⟨Z, hZe⟩ : ∃ Z, Z = w.heap.size := ⟨_, rfl⟩
    have HZw : Hid (w.heap.size ≤ Z) := Nat.le_of_eq hZe.symm
    rw [← hZe] at hZ ⊢
    have HZ := hidU hZ
    have HBw := hidU hBw
    have z0 := hZ.cell (v := .int .i64 0) 0 rfl
    have z1 := hZ.cell (v := .int .i64 0) 1 rfl
    have f0 := hZ.frozen 0
    have f1 := hZ.frozen 1
    have HV := hidU (show w1.ownsRow (Z + 1) 2 1 v xs.length (xs.map (Value.int .i64)) by rw [hZe]; exact own_weak (base' := w.heap.size + 1) hv (by simp))
    clear hv hb hZe hZ hBw hv2
    cases o with
    | false =>
      have y0 := fun o1 o2 o3 => cell_al o3 (cell_al o2 (cell_al o1 z0))
      have y1 := fun o1 o2 o3 => cell_al o3 (cell_al o2 (cell_al o1 z1))
      have k0 := fun o1 o2 o3 => frozen_al o3 (cell_al o2 (cell_al o1 z0)) (frozen_al o2 (cell_al o1 z0) (frozen_al o1 z0 f0))
      have k1 := fun o1 o2 o3 => frozen_al o3 (cell_al o2 (cell_al o1 z1)) (frozen_al o2 (cell_al o1 z1) (frozen_al o1 z1 f1))
      clear z0 z1 f0 f1
      go_wp2
      obtain ⟨e0, e1, hO, hF⟩ := none_end (X := ((w1.alloc (.cells #[.int .i64 n, .int .i64 d] 25)).alloc (.cells #[.int .i64 1000000, .int .i64 1] 25)).alloc (.cells #[] 2)) (g := w1.heap.size + 1 + 1) (w0 := w) (((HZ.out.below (b0 _ _)).below (b0 _ _)).below (b0 _ _)) (by have := IsB.new ((w1.alloc (.cells #[.int .i64 n, .int .i64 d] 25)).alloc (.cells #[.int .i64 1000000, .int .i64 1] 25)) #[] 2; simpa using this) (by have := HZ.out.lt; omega) (by have := HBw.out.size; omega) (((HBw.out.alloc HBw.out.size _).alloc (by have := HBw.out.size; simp; omega) _).alloc (by have := HBw.out.size; simp; omega) _) HZw.out
      exact bodyPost_ret (v := .tuple #[.agg #[.int .i64 0, .int .i64 0], .slice (some ⟨w1.heap.size + 1 + 1, 0, none⟩) 0 0, .bool false]) (by simp [results, Tryz.results92, go_sem, e0, e1]) rfl ⟨_, rfl, hO, hF⟩
    | true =>
      go_wp2_with fail
      refine (HM.out _).mono ?_
      rintro e w2 ⟨rfl, hb⟩
      have hb2 : Below w1.heap.size w1 w2 := ((b0 _ _).alloc (by simp) _).trans (hb.mono (by simp; omega))
      have hZ2 := HZ.out.below hb2
      have hV2 := own_below HV.out hb2
      have hB2 := HBw.out.trans (hb2.mono HBw.out.size)
      skip
      clear z0 z1 f0 f1 hb hb2 HV HZ HBw HU HM
      have z0 := hZ2.cell (v := .int .i64 0) 0 rfl
      have z1 := hZ2.cell (v := .int .i64 0) 1 rfl
      have f0 := hZ2.frozen 0
      have f1 := hZ2.frozen 1
      have HZ := hidU hZ2
      have HB := hidU hB2
      have HV := hidU hV2
      clear hZ2 hB2 hV2
      cases mo with
      | false =>
        have y0 := fun o1 o2 => cell_al o2 (cell_al o1 z0)
        have y1 := fun o1 o2 => cell_al o2 (cell_al o1 z1)
        have k0 := fun o1 o2 => frozen_al o2 (cell_al o1 z0) (frozen_al o1 z0 f0)
        have k1 := fun o1 o2 => frozen_al o2 (cell_al o1 z1) (frozen_al o1 z1 f1)
        clear z0 z1 f0 f1
        go_wp2
        obtain ⟨e0, e1, hO, hF⟩ := none_end (X := (w2.alloc (.cells #[.int .i64 m1, .int .i64 m2] 25)).alloc (.cells #[] 2)) (g := w2.heap.size + 1) (w0 := w) ((HZ.out.below (b0 _ _)).below (b0 _ _)) (by have := IsB.new (w2.alloc (.cells #[.int .i64 m1, .int .i64 m2] 25)) #[] 2; simpa using this) (by have := HZ.out.lt; omega) (by have := HB.out.size; omega) ((HB.out.alloc HB.out.size _).alloc (by have := HB.out.size; simp; omega) _) HZw.out
        exact bodyPost_ret (v := .tuple #[.agg #[.int .i64 0, .int .i64 0], .slice (some ⟨w2.heap.size + 1, 0, none⟩) 0 0, .bool false]) (by simp [results, Tryz.results92, go_sem, e0, e1]) rfl ⟨_, rfl, hO, hF⟩
      | true =>
        have y0 := fun o1 => cell_al o1 z0
        have y1 := fun o1 => cell_al o1 z1
        have k0 := fun o1 => frozen_al o1 z0 f0
        have k1 := fun o1 => frozen_al o1 z1 f1
        clear z0 z1 f0 f1
        go_wp2
        obtain ⟨e0, e1⟩ := new2 (n := .int .i64 m1) (d := .int .i64 m2) (y0 (.cells #[.int .i64 m1, .int .i64 m2] 25)) (y1 (.cells #[.int .i64 m1, .int .i64 m2] 25))
        exact bodyPost_ret (v := .tuple #[.agg #[.int .i64 m1, .int .i64 m2], v, .bool true]) (by simp [results, Tryz.results92, go_sem, e0, e1]) rfl ⟨_, rfl, own_weak (own_setZ (own_setZ (own_below HV.out (b0 _ _)) (Nat.lt_succ_self _) 0 _) (Nat.lt_succ_self _) 1 _) (Nat.le_succ_of_le HZw.out), ((HB.out.alloc HB.out.size _).setCell (p := ⟨Z, 0, none⟩) HZw.out _).setCell (p := ⟨Z, 1, none⟩) HZw.out _⟩
end Go.Proofs.YtnhefbhiemdhoaaGreat

/- The model's words, whole: Word and Both, the model's. -/
namespace Go.Proofs.YtnhefbhiemdhoaaGreat
open Go.RowKit Go.Proofs.YtnhefbhiemdhoaaGreat.RM

set_option maxRecDepth 100000 in
set_option maxHeartbeats 1000000 in
theorem sPre_def (s : ByteArray) (w : World) (b c : UInt8) (r : List UInt8) (hl : s.data.toList = b :: c :: r) (h : barS (b :: c :: r) = false) (hb : ¬ (b = 107 ∨ b = 99 ∨ b = 109 ∨ b = 117 ∨ b = 77)) :
    Calls Tryz.prog 92 #[.string s] w fun e w' => ∃ v, e = .returned (.tuple #[.agg #[.int .i64 (preS (b :: c :: r)).1, .int .i64 (preS (b :: c :: r)).2.1], v, .bool (preS (b :: c :: r)).2.2.2]) ∧ w'.ownsRow w.heap.size 2 1 v (preS (b :: c :: r)).2.2.1.length ((preS (b :: c :: r)).2.2.1.map (Value.int .i64)) ∧ Below w.heap.size w w' := by
  have b0 : ∀ (u : World) (o : Obj), Below u.heap.size u (u.alloc o) := fun u o => (Below.refl _ _).alloc (Nat.le_refl _) o
  have hz : s.size = s.data.toList.length := rfl
  have hz2 : 2 ≤ s.size := by rw [hz, hl]; simp
  have h3 : ¬ (s.size : Int) < 2 := by omega
  have h4 : (1 : Int) ≤ s.size := by omega
  have hs0 : ¬ s = ByteArray.empty := by intro e; subst e; simp at hz2
  have hbb : ∀ q : 0 < s.size, s[0]'q = b := fun q => byte0 hl q
  have hr : (s.extract 1 s.size).data.toList = c :: r := tail_s s b (c :: r) hl
  have hr2 : (s.extract 1 s.size).toList = c :: r := by rw [ByteArray.toList_eq]; exact hr
  have hno : preS (b :: c :: r) = (0, 0, [], false) := by
    rw [preS_go h, pfx_zero (fun e => hb (by simp [e])) (fun e => hb (by simp [e])) (fun e => hb (by simp [e])) (fun e => hb (by simp [e])) (fun e => hb (by simp [e]))]
    simp [mulQ_zero]
  rw [hno]
  clear hno
  unfold barS at h
  simp only [Bool.or_eq_false_iff] at h
  obtain ⟨⟨n1, n2⟩, n3⟩ := h
  rw [← hr2] at n1 n2 n3
  have HU : Hid (∀ W : World, Calls Tryz.prog 91 #[.string (s.extract 1 s.size)] W fun e w' => ∃ v, e = .returned (.tuple #[.agg #[.int .i64 (unitS (c :: r)).1, .int .i64 (unitS (c :: r)).2.1], v, .bool (unitS (c :: r)).2.2.2]) ∧ w'.ownsRow W.heap.size 2 1 v (unitS (c :: r)).2.2.1.length ((unitS (c :: r)).2.2.1.map (Value.int .i64)) ∧ Below W.heap.size W w') := fun W => by
    have := sUnit_any (s.extract 1 s.size) W
    rw [hr] at this
    exact this
  obtain ⟨R, hR⟩ : ∃ R, R = unitS (c :: r) := ⟨_, rfl⟩
  rw [← hR] at HU
  clear hR hr hr2 hl hz hz2
  obtain ⟨n, d, xs, o⟩ := R
  simp only at HU ⊢
  have q1 : ¬ (b.toNat : Int) = 107 := fun e => hb (.inl (UInt8.toNat.inj (by simp; omega)))
  have q2 : ¬ (b.toNat : Int) = 99 := fun e => hb (.inr (.inl (UInt8.toNat.inj (by simp; omega))))
  have q3 : ¬ (b.toNat : Int) = 109 := fun e => hb (.inr (.inr (.inl (UInt8.toNat.inj (by simp; omega)))))
  have q4 : ¬ (b.toNat : Int) = 117 := fun e => hb (.inr (.inr (.inr (.inl (UInt8.toNat.inj (by simp; omega))))))
  have q5 : ¬ (b.toNat : Int) = 77 := fun e => hb (.inr (.inr (.inr (.inr (UInt8.toNat.inj (by simp; omega))))))
  have t1 : ((b.toNat : Int) == 107) = false := beq_eq_false_iff_ne.2 q1
  have t2 : ((b.toNat : Int) == 99) = false := beq_eq_false_iff_ne.2 q2
  have t3 : ((b.toNat : Int) == 109) = false := beq_eq_false_iff_ne.2 q3
  have t4 : ((b.toNat : Int) == 117) = false := beq_eq_false_iff_ne.2 q4
  have t5 : ((b.toNat : Int) == 77) = false := beq_eq_false_iff_ne.2 q5
  clear q1 q2 q3 q4 q5 hb
  go_enter Tryz.func92, Tryz.ntmps92
  go_upto_region 3 with go_in
  go_wp2_with fail
  refine (HU.out _).mono ?_
  rintro e w1 ⟨v, rfl, hv, hb⟩
  have hZ : IsB w1 w.heap.size #[.int .i64 0, .int .i64 0] 25 := (IsB.new w _ _).below hb
  have hBw : Below w.heap.size w w1 := (b0 _ _).trans (hb.mono (by simp))
  have hv2 := hidU (own_weak (base' := w.heap.size) hv (by simp))
  obtain ⟨Z, hZe⟩ : ∃ Z, Z = w.heap.size := ⟨_, rfl⟩
  have HZw : Hid (w.heap.size ≤ Z) := Nat.le_of_eq hZe.symm
  rw [← hZe] at hZ ⊢
  have HZ := hidU hZ
  have HBw := hidU hBw
  have z0 := hZ.cell (v := .int .i64 0) 0 rfl
  have z1 := hZ.cell (v := .int .i64 0) 1 rfl
  have f0 := hZ.frozen 0
  have f1 := hZ.frozen 1
  have HV := hidU (show w1.ownsRow (Z + 1) 2 1 v xs.length (xs.map (Value.int .i64)) by rw [hZe]; exact own_weak (base' := w.heap.size + 1) hv (by simp))
  clear hv hb hZe hZ hBw hv2
  have y0 := fun o1 o2 o3 => cell_al o3 (cell_al o2 (cell_al o1 z0))
  have y1 := fun o1 o2 o3 => cell_al o3 (cell_al o2 (cell_al o1 z1))
  have k0 := fun o1 o2 o3 => frozen_al o3 (cell_al o2 (cell_al o1 z0)) (frozen_al o2 (cell_al o1 z0) (frozen_al o1 z0 f0))
  have k1 := fun o1 o2 o3 => frozen_al o3 (cell_al o2 (cell_al o1 z1)) (frozen_al o2 (cell_al o1 z1) (frozen_al o1 z1 f1))
  clear z0 z1 f0 f1
  go_wp2
  obtain ⟨e0, e1, hO, hF⟩ := none_end (X := ((w1.alloc (.cells #[.int .i64 n, .int .i64 d] 25)).alloc (.cells #[.int .i64 0, .int .i64 0] 25)).alloc (.cells #[] 2)) (g := w1.heap.size + 1 + 1) (w0 := w) (((HZ.out.below (b0 _ _)).below (b0 _ _)).below (b0 _ _)) (by have := IsB.new ((w1.alloc (.cells #[.int .i64 n, .int .i64 d] 25)).alloc (.cells #[.int .i64 0, .int .i64 0] 25)) #[] 2; simpa using this) (by have := HZ.out.lt; omega) (by have := HBw.out.size; omega) (((HBw.out.alloc HBw.out.size _).alloc (by have := HBw.out.size; simp; omega) _).alloc (by have := HBw.out.size; simp; omega) _) HZw.out
  exact bodyPost_ret (v := .tuple #[.agg #[.int .i64 0, .int .i64 0], .slice (some ⟨w1.heap.size + 1 + 1, 0, none⟩) 0 0, .bool false]) (by simp [results, Tryz.results92, go_sem, e0, e1]) rfl ⟨_, rfl, hO, hF⟩

theorem sPre_any (s : ByteArray) (w : World) :
    Calls Tryz.prog 92 #[.string s] w fun e w' => ∃ v, e = .returned (.tuple #[.agg #[.int .i64 (preS s.data.toList).1, .int .i64 (preS s.data.toList).2.1], v, .bool (preS s.data.toList).2.2.2]) ∧ w'.ownsRow w.heap.size 2 1 v (preS s.data.toList).2.2.1.length ((preS s.data.toList).2.2.1.map (Value.int .i64)) ∧ Below w.heap.size w w' := by
  cases hb : barS s.data.toList with
  | true =>
    rw [preS_bar hb]
    exact sPre_bar s w hb
  | false =>
    obtain ⟨b, c, r, hl⟩ : ∃ b c r, s.data.toList = b :: c :: r := by
      match hs : s.data.toList with
      | [] => rw [hs] at hb; cases hb
      | [_] => rw [hs] at hb; cases hb
      | b :: c :: r => exact ⟨b, c, r, rfl⟩
    rw [hl] at hb
    have key : ∀ (Q : Prop), (Q ∨ ¬ Q) := fun Q => Classical.em Q
    rcases key (b = 107 ∨ b = 99 ∨ b = 109 ∨ b = 117 ∨ b = 77) with h | h
    · rw [hl]; exact sPre_go s w b c r hl hb h
    · rw [hl]; exact sPre_def s w b c r hl hb h

set_option maxRecDepth 100000 in
set_option maxHeartbeats 1000000 in
theorem sWord_any (s : ByteArray) (w : World) :
    Calls Tryz.prog 73 #[.string s] w fun e w' => ∃ v, e = .returned (.tuple #[.agg #[.int .i64 (wordS s.data.toList).1, .int .i64 (wordS s.data.toList).2.1], v, .bool (wordS s.data.toList).2.2.2]) ∧ w'.ownsRow w.heap.size 2 1 v (wordS s.data.toList).2.2.1.length ((wordS s.data.toList).2.2.1.map (Value.int .i64)) ∧ Below w.heap.size w w' := by
  have b0 : ∀ (u : World) (o : Obj), Below u.heap.size u (u.alloc o) := fun u o => (Below.refl _ _).alloc (Nat.le_refl _) o
  have HU := hidU (fun W => sUnit_any s W)
  have HP := hidU (fun W => sPre_any s W)
  have HW : Hid (wordS s.data.toList = if (unitS s.data.toList).2.2.2 = true then unitS s.data.toList else preS s.data.toList) := by
    show _ = _
    cases hf : uFind s.data.toList with
    | none => rw [wordS_pre hf]; simp [unitS, hf]
    | some u => rw [wordS_unit hf]; simp [unitS, hf]
  obtain ⟨⟨n, d, xs, o⟩, hu⟩ : ∃ u, u = unitS s.data.toList := ⟨_, rfl⟩
  obtain ⟨⟨n2, d2, xs2, o2⟩, hp⟩ : ∃ u, u = preS s.data.toList := ⟨_, rfl⟩
  obtain ⟨R, hR⟩ : ∃ u, u = wordS s.data.toList := ⟨_, rfl⟩
  rw [← hR] at HW ⊢
  rw [← hu] at HU HW
  rw [← hp] at HP HW
  clear hu hp hR
  simp only at HU HP HW ⊢
  go_enter Tryz.func73, Tryz.ntmps73
  go_wp2_with fail
  refine (HU.out _).mono ?_
  rintro e w1 ⟨v, rfl, hv, hb⟩
  have hZ : IsB w1 w.heap.size #[.int .i64 0, .int .i64 0] 25 := (IsB.new w _ _).below hb
  have hBw : Below w.heap.size w w1 := (b0 _ _).trans (hb.mono (by simp))
  obtain ⟨Z, hZe⟩ : ∃ Z, Z = w.heap.size := ⟨_, rfl⟩
  have HZw : Hid (w.heap.size ≤ Z) := Nat.le_of_eq hZe.symm
  have HV := hidU (show w1.ownsRow (Z + 1) 2 1 v xs.length (xs.map (Value.int .i64)) by rw [hZe]; exact own_weak (base' := w.heap.size + 1) hv (by simp))
  rw [← hZe] at hZ ⊢
  have HZ := hidU hZ
  have HB := hidU hBw
  clear hv hb hZe hZ hBw HU
  cases o with
  | true =>
    obtain rfl : R = (n, d, xs, true) := HW.out
    have z0 := HZ.out.cell (v := .int .i64 0) 0 rfl
    have z1 := HZ.out.cell (v := .int .i64 0) 1 rfl
    have y0 := fun o1 => cell_al o1 z0
    have y1 := fun o1 => cell_al o1 z1
    have k0 := fun o1 => frozen_al o1 z0 (HZ.out.frozen 0)
    have k1 := fun o1 => frozen_al o1 z1 (HZ.out.frozen 1)
    clear z0 z1
    go_wp2
    obtain ⟨e0, e1⟩ := new2 (n := .int .i64 n) (d := .int .i64 d) (y0 (.cells #[.int .i64 n, .int .i64 d] 25)) (y1 (.cells #[.int .i64 n, .int .i64 d] 25))
    exact bodyPost_ret (v := .tuple #[.agg #[.int .i64 n, .int .i64 d], v, .bool true]) (by simp [results, Tryz.results73, go_sem, e0, e1]) rfl ⟨_, rfl, own_weak (own_setZ (own_setZ (own_below HV.out (b0 _ _)) (Nat.lt_succ_self _) 0 _) (Nat.lt_succ_self _) 1 _) (Nat.le_succ_of_le HZw.out), ((HB.out.alloc HB.out.size _).setCell (p := ⟨Z, 0, none⟩) HZw.out _).setCell (p := ⟨Z, 1, none⟩) HZw.out _⟩
  | false =>
    obtain rfl : R = (n2, d2, xs2, o2) := HW.out
    go_wp2_with fail
    refine (HP.out _).mono ?_
    rintro e w2 ⟨v2, rfl, hv, hb⟩
    have hb2 : Below w1.heap.size w1 w2 := (b0 _ _).trans (hb.mono (by simp))
    have hZ2 := HZ.out.below hb2
    have hB2 := HB.out.trans (hb2.mono HB.out.size)
    have hv2 := hidU (show w2.ownsRow (Z + 1) 2 1 v2 xs2.length (xs2.map (Value.int .i64)) from own_weak hv (by have := HZ.out.lt; simp; omega))
    clear HZ HB HV hb hb2 hv HP
    have z0 := hZ2.cell (v := .int .i64 0) 0 rfl
    have z1 := hZ2.cell (v := .int .i64 0) 1 rfl
    have f0 := hZ2.frozen 0
    have f1 := hZ2.frozen 1
    have HB := hidU hB2
    clear hZ2 hB2
    go_wp2
    obtain ⟨e0, e1⟩ := new2 (n := .int .i64 n2) (d := .int .i64 d2) z0 z1
    exact bodyPost_ret (v := .tuple #[.agg #[.int .i64 n2, .int .i64 d2], v2, .bool o2]) (by simp [results, Tryz.results73, go_sem, e0, e1]) rfl ⟨_, rfl, own_weak (own_setZ (own_setZ hv2.out (Nat.lt_succ_self _) 0 _) (Nat.lt_succ_self _) 1 _) (Nat.le_succ_of_le HZw.out), (HB.out.setCell (p := ⟨Z, 0, none⟩) HZw.out _).setCell (p := ⟨Z, 1, none⟩) HZw.out _⟩
end Go.Proofs.YtnhefbhiemdhoaaGreat

/- The walk of the model's UnitOf. -/
namespace Go.Proofs.YtnhefbhiemdhoaaGreat
open Go.RowKit Go.Proofs.YtnhefbhiemdhoaaGreat.RM

theorem own_oth {W : World} {base n b : Nat} {e : TypeId} {v : Value} {xs : List Value} (h : W.ownsRow base e 1 v n xs) (hb : b < base) (o : Nat) (x : Value) : (W.setCell ⟨b, o, none⟩ x).ownsRow base e 1 v n xs :=
  h.kept (row := some b) ⟨rfl, rfl, rfl, by simp, fun j _ hj => Below.heap_setCell W ⟨b, o, none⟩ x j (fun e => hj (by rw [e]))⟩ (.inr fun e' => by have := (h.lt b e').1; omega)
/-- the blocks of a walk of UnitOf: the answer's, the factor's, the reckoner's -/
def UMem (w0 wr : World) (R F K : Nat) (f : Ca) : Prop :=
  IsB wr R #[.int .i64 0, .int .i64 0] 25 ∧ IsB wr F #[.int .i64 f.1.1, .int .i64 f.1.2] 25 ∧ IsK wr K f.2 ∧ Below w0.heap.size w0 wr ∧ (R ≠ F ∧ R ≠ K ∧ F ≠ K) ∧ w0.heap.size ≤ R ∧ w0.heap.size ≤ F ∧ w0.heap.size ≤ K
theorem UMem.below {w0 wr w' : World} {R F K : Nat} {f : Ca} (h : UMem w0 wr R F K f) (hb : Below wr.heap.size wr w') : UMem w0 w' R F K f := by
  obtain ⟨h1, h2, h3, h4, h5⟩ := h
  exact ⟨h1.below hb, h2.below hb, h3.below hb, h4.trans (hb.mono h4.size), h5⟩
theorem UMem.step {w0 wr w' : World} {R F K : Nat} {f g : Ca} (h : UMem w0 wr R F K f) (hk : IsK w' K g.2) (hg : wr.grownBy w' (some K)) : UMem w0 ((w'.setCell ⟨F, 0, none⟩ (.int .i64 g.1.1)).setCell ⟨F, 1, none⟩ (.int .i64 g.1.2)) R F K g := by
  obtain ⟨h1, h2, h3, h4, ⟨h5, h6, h7⟩, h8, h9, h10⟩ := h
  have k1 : IsB w' R _ _ := (hg.block R h1.lt (by simpa using h6)).trans h1
  have k2 : IsB w' F _ _ := (hg.block F h2.lt (by simpa using h7)).trans h2
  exact ⟨(k1.other h5 _ _).other h5 _ _, (k2.set 0 (.int .i64 g.1.1)).set 1 (.int .i64 g.1.2), (hk.other (Ne.symm h7) _ _).other (Ne.symm h7) _ _, ((h4.trans (below_grownK hg h10 h4.size)).setCell (p := ⟨F, 0, none⟩) h9 _).setCell (p := ⟨F, 1, none⟩) h9 _, ⟨h5, h6, h7⟩, h8, h9, h10⟩
theorem UMem.size {w0 wr : World} {R F K : Nat} {f : Ca} (h : UMem w0 wr R F K f) : w0.heap.size ≤ wr.heap.size := h.2.2.2.1.size
/-- a row that lies apart from them -/
def Ro (w0 wr : World) (R F K : Nat) (e : TypeId) (v : Value) (n : Nat) (xs : List Value) : Prop :=
  wr.ownsRow w0.heap.size e 1 v n xs ∧ ∀ b, v.ownBlock = some b → b ≠ R ∧ b ≠ F ∧ b ≠ K
theorem Ro.below {w0 wr w' : World} {R F K n : Nat} {e : TypeId} {v : Value} {xs : List Value} (h : Ro w0 wr R F K e v n xs) (hb : Below wr.heap.size wr w') : Ro w0 w' R F K e v n xs := ⟨own_below h.1 hb, h.2⟩
theorem Ro.step {w0 wr w' : World} {R F K n : Nat} {e : TypeId} {v x y : Value} {xs : List Value} (h : Ro w0 wr R F K e v n xs) (hg : wr.grownBy w' (some K)) : Ro w0 ((w'.setCell ⟨F, 0, none⟩ x).setCell ⟨F, 1, none⟩ y) R F K e v n xs := by
  have h1 : w'.ownsRow w0.heap.size e 1 v n xs := h.1.kept hg (.inr fun e' => (h.2 K e').2.2 rfl)
  have hs : ∀ (W : World) (o : Nat) (z : Value), W.ownsRow w0.heap.size e 1 v n xs → (W.setCell ⟨F, o, none⟩ z).ownsRow w0.heap.size e 1 v n xs := fun W o z hW =>
    hW.kept (row := some F) ⟨rfl, rfl, rfl, by simp, fun j _ hj => Below.heap_setCell W ⟨F, o, none⟩ z j (fun e => hj (by rw [e]))⟩ (.inr fun e' => (h.2 F e').2.1 rfl)
  exact ⟨hs _ _ _ (hs _ _ _ h1), h.2⟩
theorem Ro.new {w0 wr w' : World} {R F K n : Nat} {e : TypeId} {f : Ca} {v : Value} {xs : List Value} (hm : UMem w0 wr R F K f) (h : w'.ownsRow wr.heap.size e 1 v n xs) : Ro w0 w' R F K e v n xs := by
  refine ⟨own_le h hm.size, fun b hb => ?_⟩
  have h1 := (h.lt b hb).1
  have h2 := hm.1.lt
  have h3 := hm.2.1.lt
  have h4 := hm.2.2.1.lt
  exact ⟨by omega, by omega, by omega⟩
/-- what UnitOf answers, its list in memory of the call's own -/
def UofP (w : World) (q : Int × Int × List Int × Bool) (x : Ending) (w' : World) : Prop :=
  ∃ v et, x = .returned (.tuple #[.agg #[.int .i64 q.1, .int .i64 q.2.1], v, .bool q.2.2.2]) ∧ w'.ownsRow w.heap.size et 1 v q.2.2.1.length (q.2.2.1.map (Value.int .i64)) ∧ Below w.heap.size w w'
theorem Ro.str {w0 wr : World} {R F K g c : Nat} {e : TypeId} {ss : List ByteArray} {n : Nat} (h : Ro w0 wr R F K e (.slice (some ⟨g, 0, none⟩) n c) n (ss.map Value.string)) (k : Nat) (hk : k < ss.length) : wr.cell? ⟨g, k, none⟩ = some (.string (ss[k]'hk)) := by
  have hn : ss.length = n := by simpa using h.1.1
  have h1 := h.1.cellAt k (by omega)
  rw [h1, List.getElem?_map, List.getElem?_eq_getElem hk]
  rfl

set_option maxRecDepth 100000 in
set_option maxHeartbeats 1000000 in
theorem sUnitOf_one (s : ByteArray) (w : World) (h1 : s.data.toList = [49]) :
    Calls Tryz.prog 36 #[.string s] w fun e w' => UofP w (ansU (unitM s.data.toList)) e w' := by
  have b0 : ∀ (u : World) (o : Obj), Below u.heap.size u (u.alloc o) := fun u o => (Below.refl _ _).alloc (Nat.le_refl _) o
  have hy : s.toList = [49] := by rw [ByteArray.toList_eq]; exact h1
  have HA : Hid (ansU (unitM s.data.toList) = (1, 1, [0, 0, 0, 0, 0], true)) := by show _ = _; unfold unitM; rw [if_pos h1]; rfl
  clear h1
  go_enter Tryz.func36, Tryz.ntmps36
  go_wp2_with fail
  refine (one_any _).mono ?_
  rintro e w1 ⟨rfl, hb⟩
  have k2 : IsB w1 w.heap.size #[.int .i64 0, .int .i64 0] 25 := ((IsB.new w _ _).below (b0 _ _)).below hb
  have hB : Below w.heap.size w w1 := ((b0 _ _).alloc (by simp) _).trans (hb.mono (by simp; omega))
  obtain ⟨R, hR⟩ : ∃ R, R = w.heap.size := ⟨_, rfl⟩
  have HRw : Hid (w.heap.size ≤ R) := Nat.le_of_eq hR.symm
  rw [← hR] at k2 ⊢
  clear hb hR
  have hb2 := b0 w1 (.cells #[.int .i64 1, .int .i64 1] 25)
  have hb3 := b0 (w1.alloc (.cells #[.int .i64 1, .int .i64 1] 25)) (.cells #[.int .i64 0, .int .i64 0, .int .i64 0, .int .i64 0, .int .i64 0] 2)
  have hs1 := hB.size
  have L := World.ownsRow_lit (w1.alloc (.cells #[.int .i64 1, .int .i64 1] 25)) (base := w1.heap.size) (e := 2) (size := 1) #[.int .i64 0, .int .i64 0, .int .i64 0, .int .i64 0, .int .i64 0] 5 (by simp) (by unfold maxLen; omega) rfl
  have k3 := (k2.below hb2).below hb3
  have HRL := k2.lt
  have HL := hidU (own_oth (own_oth L HRL 0 (.int .i64 1)) HRL 1 (.int .i64 1))
  have HB := hidU (((((hB.trans (hb2.mono hs1)).trans (hb3.mono (by simp; omega))).setCell (p := ⟨R, 0, none⟩) HRw.out (.int .i64 1)).setCell (p := ⟨R, 1, none⟩) HRw.out (.int .i64 1)))
  have KZ := hidU ((k3.set 0 (.int .i64 1)).set 1 (.int .i64 1))
  have HS1 := hidU hs1
  have z0 := k3.cell (v := .int .i64 0) 0 rfl
  have z1 := k3.cell (v := .int .i64 0) 1 rfl
  have f0 := k3.frozen 0
  have f1 := k3.frozen 1
  clear k2 k3 hB hb2 hb3 L hs1 HRL
  go_wp2
  have y0 := KZ.out.cell (v := .int .i64 1) 0 rfl
  have y1 := KZ.out.cell (v := .int .i64 1) 1 rfl
  refine bodyPost_ret (v := .tuple #[.agg #[.int .i64 1, .int .i64 1], .slice (some ⟨w1.heap.size + 1, 0, none⟩) 5 5, .bool true]) (by simp [results, Tryz.results36, go_sem, y0, y1]) rfl ?_
  rw [HA.out]
  refine ⟨_, 2, rfl, ?_, HB.out⟩
  have h9 := own_le HL.out HS1.out
  simpa using h9
end Go.Proofs.YtnhefbhiemdhoaaGreat

/- The walk of the model's UnitOf at every text but 1. -/
namespace Go.Proofs.YtnhefbhiemdhoaaGreat
open Go.RowKit Go.Proofs.YtnhefbhiemdhoaaGreat.RM

theorem powC_pos (u : Int × Int) {q : Int} (hq : 0 < q) (f : Ca) : powC u q f = powC u (q - 1) (mulC f u) := by
  unfold powC
  rw [if_pos hq, mulCs_step u hq]
  by_cases h : 0 < q - 1
  · rw [if_pos h]
  · rw [if_neg h]
    have h1 : (q - 1).toNat = 0 := by omega
    have h2 : (-(q - 1)).toNat = 0 := by omega
    rw [h1, h2]; rfl
theorem powC_neg (u : Int × Int) {q : Int} (hq : q < 0) (f : Ca) : powC u q f = powC u (q + 1) (divC f u) := by
  unfold powC
  rw [if_neg (by omega), if_neg (by omega), divCs_step u hq]
theorem powC_zero (u : Int × Int) (f : Ca) : powC u 0 f = f := by
  unfold powC
  rw [if_neg (by omega)]; rfl
theorem powX_bd {y : List UInt8} {n : Int} (h : powX y = some n) : (numX y).2 = true ∧ (numX y).1 = n ∧ n ≠ 0 ∧ -9 ≤ n ∧ n ≤ 9 := by
  unfold powX at h
  split at h
  · rename_i h2
    injection h with h
    subst h
    exact ⟨h2.1, rfl, h2.2⟩
  · cases h
theorem powX_none {y : List UInt8} (h : powX y = none) : (numX y).2 = false ∨ (numX y).1 = 0 ∨ inB (numX y).1 (-9) 9 = false := by
  unfold powX at h
  split at h
  · cases h
  · rename_i h2
    by_cases a : (numX y).2 = true
    · by_cases b : (numX y).1 = 0
      · exact .inr (.inl b)
      · refine .inr (.inr (inB_no fun c => h2 ⟨a, b, c.1, c.2⟩))
    · exact .inl (by simpa using a)
theorem own_oth2 {W : World} {base n b nb c : Nat} {e : TypeId} {xs : List Value} (h : W.ownsRow base e 1 (.slice (some ⟨nb, 0, none⟩) n c) n xs) (hb : b ≠ nb) (o : Nat) (x : Value) : (W.setCell ⟨b, o, none⟩ x).ownsRow base e 1 (.slice (some ⟨nb, 0, none⟩) n c) n xs :=
  h.kept (row := some b) ⟨rfl, rfl, rfl, by simp, fun j _ hj => Below.heap_setCell W ⟨b, o, none⟩ x j (fun e => hj (by rw [e]))⟩ (.inr fun e' => by injection e' with e'; exact hb e'.symm)
theorem Ro.ret {w0 wr : World} {R F K n : Nat} {e : TypeId} {v x y : Value} {xs : List Value} (h : Ro w0 wr R F K e v n xs) : ((wr.setCell ⟨R, 0, none⟩ x).setCell ⟨R, 1, none⟩ y).ownsRow w0.heap.size e 1 v n xs := by
  have hs : ∀ (W : World) (o : Nat) (z : Value), W.ownsRow w0.heap.size e 1 v n xs → (W.setCell ⟨R, o, none⟩ z).ownsRow w0.heap.size e 1 v n xs := fun W o z hW =>
    hW.kept (row := some R) ⟨rfl, rfl, rfl, by simp, fun j _ hj => Below.heap_setCell W ⟨R, o, none⟩ z j (fun e => hj (by rw [e]))⟩ (.inr fun e' => (h.2 R e').1 rfl)
  exact hs _ _ _ (hs _ _ _ h.1)
theorem UMem.ret {w0 wr : World} {R F K : Nat} {f : Ca} (h : UMem w0 wr R F K f) (x y : Value) : Below w0.heap.size w0 ((wr.setCell ⟨R, 0, none⟩ x).setCell ⟨R, 1, none⟩ y) :=
  (h.2.2.2.1.setCell (p := ⟨R, 0, none⟩) h.2.2.2.2.2.1 _).setCell (p := ⟨R, 1, none⟩) h.2.2.2.2.2.1 _
theorem ret_none {w0 wr : World} {R F K g : Nat} {f : Ca} (h : UMem w0 wr R F K f) (hn : Ro w0 wr R F K 2 (.slice (some ⟨g, 0, none⟩) 0 0) 0 []) :
    UofP w0 (0, 0, [], false) (.returned (.tuple #[.agg #[.int .i64 0, .int .i64 0], .slice (some ⟨g, 0, none⟩) 0 0, .bool false])) ((wr.setCell ⟨R, 0, none⟩ (.int .i64 0)).setCell ⟨R, 1, none⟩ (.int .i64 0)) :=
  ⟨_, _, rfl, hn.ret, h.ret _ _⟩
theorem ret_some {w0 wr : World} {R F K : Nat} {et : TypeId} {f : Ca} {ds : List Int} {dv : Value} (h : UMem w0 wr R F K f) (hd : Ro w0 wr R F K et dv ds.length (ds.map (Value.int .i64))) :
    UofP w0 (f.1.1, f.1.2, ds, true) (.returned (.tuple #[.agg #[.int .i64 f.1.1, .int .i64 f.1.2], dv, .bool true])) ((wr.setCell ⟨R, 0, none⟩ (.int .i64 f.1.1)).setCell ⟨R, 1, none⟩ (.int .i64 f.1.2)) :=
  ⟨_, _, rfl, hd.ret, h.ret _ _⟩
theorem rdS_one {x a : List UInt8} (h : splitL 94 x = [a]) : rdS x = if (wordS a).2.2.2 = true then some (((wordS a).1, (wordS a).2.1, (wordS a).2.2.1), 1) else none := by unfold rdS; rw [h]
theorem rdS_two {x a y : List UInt8} (h : splitL 94 x = [a, y]) : rdS x = match powX y with
    | none => none
    | some p => if (wordS a).2.2.2 = true then some (((wordS a).1, (wordS a).2.1, (wordS a).2.2.1), p) else none := by unfold rdS; rw [h]; rfl
theorem rdS_more {x a y z : List UInt8} {t : List (List UInt8)} (h : splitL 94 x = a :: y :: z :: t) : rdS x = none := by unfold rdS; rw [h]
theorem stepS_none {dv : Bool} {x : List UInt8} {s : Su} (h : rdS x = none) : stepS dv x s = none := by unfold stepS; rw [h]
theorem stepS_some {dv : Bool} {x : List UInt8} {s : Su} {u : Int × Int × List Int} {p : Int} (h : rdS x = some (u, p)) : stepS dv x s = if ansDimTimes s.2 (ansDimPower u.2.2 (if dv then -p else p)) = [] then none
    else some (powC (u.1, u.2.1) (if dv then -p else p) s.1, ansDimTimes s.2 (ansDimPower u.2.2 (if dv then -p else p))) := by unfold stepS; rw [h]
theorem drop_at {α : Type} (l : List α) (k : Nat) (h : k < l.length) : l.drop k = l[k] :: l.drop (k + 1) := List.drop_eq_getElem_cons h
theorem map_at' (ss : List ByteArray) (ts : List (List UInt8)) (h : ss.map (fun s : ByteArray => s.data.toList) = ts) (k : Nat) (hk : k < ss.length) : ∃ hk' : k < ts.length, ts[k]'hk' = (ss[k]'hk).data.toList := by
  subst h
  exact ⟨by simpa using hk, by simp⟩
theorem part_size {c : UInt8} {s : ByteArray} {ss : List ByteArray} (h : ss.map (fun s : ByteArray => s.data.toList) = splitL c s.data.toList) (k : Nat) (hk : k < ss.length) : (ss[k]'hk).size ≤ s.size := by
  obtain ⟨hk', he⟩ := map_at' ss _ h k hk
  have h1 : ∀ (l acc x : List UInt8), x ∈ splitA c acc l → x.length ≤ acc.length + l.length := by
    intro l
    induction l with
    | nil => intro acc x hx; simp [splitA] at hx; subst hx; simp
    | cons b r ih =>
      intro acc x hx
      rw [splitA] at hx
      split at hx
      · rcases List.mem_cons.1 hx with rfl | hx
        · simp
        · have := ih [] x hx; simp at this ⊢; omega
      · have := ih _ x hx; simp at this ⊢; omega
  have h2 := h1 s.data.toList [] _ (List.getElem_mem hk')
  rw [he] at h2
  have e1 : (ss[k]'hk).data.toList.length = (ss[k]'hk).size := by rw [Array.length_toList]; rfl
  have e2 : s.data.toList.length = s.size := by rw [Array.length_toList]; rfl
  rw [e1, e2] at h2
  simpa using h2

set_option maxRecDepth 100000 in
set_option maxHeartbeats 16000000 in
theorem sUnitOf_more (s : ByteArray) (w : World) (hs : s.size ≤ 1048576) (h1 : s.data.toList ≠ [49]) :
    Calls Tryz.prog 36 #[.string s] w fun e w' => UofP w (ansU (unitM s.data.toList)) e w' := by
  have b0 : ∀ (u : World) (o : Obj), Below u.heap.size u (u.alloc o) := fun u o => (Below.refl _ _).alloc (Nat.le_refl _) o
  have hy : (s.toList == [49]) = false := beq_eq_false_iff_ne.2 (by rw [ByteArray.toList_eq]; exact h1)
  obtain ⟨FIN, hF⟩ : ∃ q, q = unitM s.data.toList := ⟨_, rfl⟩
  have HUM : Hid (FIN = if 2 < (splitL 47 s.data.toList).length then none else halvesS (splitL 47 s.data.toList) false oneS) := by show _ = _; rw [hF]; unfold unitM; rw [if_neg h1]
  rw [← hF]
  have HSP47 : Hid (∀ (x : ByteArray) (W : World), x.size ≤ 1048576 → Calls Tryz.prog 70 #[.string x, .int .u8 47] W fun e w' => StrP W (splitL 47 x.data.toList) e w') := fun x W h => split_any x 47 W h
  have HSP46 : Hid (∀ (x : ByteArray) (W : World), x.size ≤ 1048576 → Calls Tryz.prog 70 #[.string x, .int .u8 46] W fun e w' => StrP W (splitL 46 x.data.toList) e w') := fun x W h => split_any x 46 W h
  have HSP94 : Hid (∀ (x : ByteArray) (W : World), x.size ≤ 1048576 → Calls Tryz.prog 70 #[.string x, .int .u8 94] W fun e w' => StrP W (splitL 94 x.data.toList) e w') := fun x W h => split_any x 94 W h
  clear hF h1
  go_enter Tryz.func36, Tryz.ntmps36
  go_wp2_with fail
  refine (one_any _).mono ?_
  rintro e w1 ⟨rfl, hb⟩
  obtain ⟨R, hR⟩ : ∃ R, R = w.heap.size := ⟨_, rfl⟩
  have k1 : IsB w1 R #[.int .i64 0, .int .i64 0] 25 := by rw [hR]; exact ((IsB.new w _ _).below (b0 _ _)).below hb
  have HRw : Hid (w.heap.size ≤ R) := Nat.le_of_eq hR.symm
  obtain ⟨nb, hnb⟩ : ∃ n, n = w.heap.size + 1 := ⟨_, rfl⟩
  have hLN : (w.alloc (.cells #[.int .i64 0, .int .i64 0] 25)).heap.size = nb := by rw [hnb]; simp
  have LN := World.ownsRow_lit (w.alloc (.cells #[.int .i64 0, .int .i64 0] 25)) (base := nb) (e := 2) (size := 1) #[] 0 (by rw [hLN]; exact Nat.le_refl _) (Nat.zero_le _) rfl
  rw [hLN] at LN
  have LN2 := own_below LN hb
  have hB : Below w.heap.size w w1 := ((b0 _ _).alloc (by simp) _).trans (hb.mono (by simp; omega))
  have hnbw : w.heap.size ≤ nb ∧ nb ≠ R := by omega
  have hRl : R < w1.heap.size := k1.lt
  have hnbl : nb < w1.heap.size := by have := hb.size; simp at this; omega
  rw [← hnb]
  rw [← hR]
  clear hb hR hnb hLN LN
  go_upto_region 6 with fail
  obtain ⟨F, hF⟩ : ∃ F, F = w1.heap.size := ⟨_, rfl⟩
  obtain ⟨X, hX⟩ : ∃ X, X = (w1.alloc (.cells #[.int .i64 1, .int .i64 1] 25)).alloc (.cells #[.int .i64 0, .int .i64 0, .int .i64 0, .int .i64 0, .int .i64 0] 2) := ⟨_, rfl⟩
  have hb : Below w1.heap.size w1 X := by rw [hX]; exact (b0 _ _).alloc (by simp) _
  have LD := World.ownsRow_lit (w1.alloc (.cells #[.int .i64 1, .int .i64 1] 25)) (base := F + 1) (e := 2) (size := 1) #[.int .i64 0, .int .i64 0, .int .i64 0, .int .i64 0, .int .i64 0] 5 (by rw [hF]; simp) (by unfold maxLen; omega) rfl
  have hLF : (w1.alloc (.cells #[.int .i64 1, .int .i64 1] 25)).heap.size = F + 1 := by rw [hF]; simp
  rw [hLF, ← hX] at LD
  have k2 : IsB X F #[.int .i64 1, .int .i64 1] 25 := by rw [hX, hF]; exact (IsB.new _ _ _).below (b0 _ _)
  replace k1 := k1.below hb
  have LN3 := own_below LN2 hb
  have hFR : R ≠ F ∧ R < F ∧ nb < F := by rw [hF]; have h3 := hnbw; have h4 := hnbl; have h5 := hRl; omega
  have hFw : w.heap.size ≤ F := by rw [hF]; exact hB.size
  replace hB := hB.trans (hb.mono hB.size)
  rw [← hX, ← hF]
  have hF1X : F + 1 < X.heap.size := by rw [hX, hF]; simp
  clear hb hF hX hLF LN2 hnbl hRl
  have K1 := hidU k1
  have K2 := hidU k2
  have HLN := hidU LN3
  have HLD := hidU LD
  have HB := hidU hB
  have HFR := hidU hFR
  have HFW := hidU hFw
  have HNB := hidU hnbw
  have HF1 := hidU hF1X
  clear k1 k2 LN3 LD hB hFR hFw hnbw hF1X
  go_wp2_with fail
  refine (HSP47.out s _ hs).mono ?_
  rintro e w2 ⟨hv, hss, rfl, hmap, ho, hb⟩
  have HMAP := hidU hmap
  have hlen : hss.length = (splitL 47 s.data.toList).length := by rw [← hmap, List.length_map]
  obtain ⟨m, hm⟩ : ∃ m, m = hss.length := ⟨_, rfl⟩
  have HMM := hidU hm
  rw [← hm] at ho hlen
  have HMLEN := hidU hlen
  obtain ⟨ao, co, rfl⟩ := own_shape ho
  replace K1 := hidU (K1.out.below hb)
  replace K2 := hidU (K2.out.below hb)
  replace HLN := hidU (own_below HLN.out hb)
  replace HLD := hidU (own_below HLD.out hb)
  have HHV := hidU ho
  have HX2 := hidU hb.size
  replace HB := hidU (HB.out.trans (hb.mono HB.out.size))
  clear hmap hlen hm ho hb
  by_cases hm2 : 2 < m
  · have hm2i : (2 : Int) < m := by omega
    have HFN : Hid (ansU FIN = (0, 0, [], false)) := by show _ = _; rw [HUM.out, if_pos (by rw [← HMLEN.out]; exact hm2)]; rfl
    have z0 := K1.out.cell (v := .int .i64 0) 0 rfl
    have z1 := K1.out.cell (v := .int .i64 0) 1 rfl
    have f0 := K1.out.frozen 0
    have f1 := K1.out.frozen 1
    have KZ := hidU ((K1.out.set 0 (.int .i64 0)).set 1 (.int .i64 0))
    have HOZ := hidU (own_le (own_oth2 (own_oth2 HLN.out (show R ≠ nb from Ne.symm HNB.out.2) 0 (.int .i64 0)) (show R ≠ nb from Ne.symm HNB.out.2) 1 (.int .i64 0)) HNB.out.1)
    have HBZ := hidU ((HB.out.setCell (p := ⟨R, 0, none⟩) HRw.out (.int .i64 0)).setCell (p := ⟨R, 1, none⟩) HRw.out (.int .i64 0))
    clear hm2
    go_wp2
    have y0 := KZ.out.cell (v := .int .i64 0) 0 rfl
    have y1 := KZ.out.cell (v := .int .i64 0) 1 rfl
    exact bodyPost_ret (v := .tuple #[.agg #[.int .i64 0, .int .i64 0], .slice (some ⟨nb, 0, none⟩) 0 0, .bool false]) (by simp [results, Tryz.results36, go_sem, y0, y1]) rfl (by rw [HFN.out]; exact ⟨_, _, rfl, HOZ.out, HBZ.out⟩)
  have hm2i : ¬ (2 : Int) < m := by omega
  have HM2 := hidU hm2
  go_upto_region 10 with fail
  obtain ⟨K, hK⟩ : ∃ F, F = w2.heap.size := ⟨_, rfl⟩
  obtain ⟨Y, hY⟩ : ∃ X, X = w2.alloc (.cells #[.bool false] 73) := ⟨_, rfl⟩
  have hb : Below w2.heap.size w2 Y := by rw [hY]; exact b0 _ _
  have HM : Hid (UMem w Y R F K ((1, 1), false)) := by
    refine ⟨K1.out.below hb, K2.out.below hb, by rw [hY, hK]; exact IsK.new _ _, HB.out.trans (hb.mono HB.out.size), ⟨HFR.out.1, ?_, ?_⟩, HRw.out, HFW.out, by rw [hK]; exact HB.out.size⟩
    · have := K1.out.lt; rw [hK]; omega
    · have := K2.out.lt; rw [hK]; omega
  have HNV : Hid (Ro w Y R F K 2 (.slice (some ⟨nb, 0, none⟩) 0 0) 0 []) := by
    refine ⟨own_le (own_below HLN.out hb) HNB.out.1, fun b hb2 => ?_⟩
    obtain rfl : nb = b := by simpa [Value.ownBlock] using hb2
    have h5 := HFR.out; have h6 := HNB.out; have h7 := K2.out.lt; rw [hK]; exact ⟨h6.2, by omega, by omega⟩
  have HDV0 : Hid (Ro w Y R F K 2 (.slice (some ⟨F + 1, 0, none⟩) 5 5) 5 ([0, 0, 0, 0, 0].map (Value.int .i64))) := by
    refine ⟨own_le (own_below HLD.out hb) (by have := HFW.out; omega), fun b hb2 => ?_⟩
    obtain rfl : F + 1 = b := by simpa [Value.ownBlock] using hb2
    have h5 := HFR.out; have h6 := HF1.out; have h7 := HX2.out; rw [hK]; exact ⟨by omega, by omega, by omega⟩
  have HHS : Hid (Ro w Y R F K 9 (.slice ao m co) m (hss.map Value.string)) := by
    refine ⟨own_le (own_below HHV.out hb) (by have := HF1.out; have := HFW.out; omega), fun b hb2 => ?_⟩
    have h8 := HHV.out.lt b hb2
    have h5 := HFR.out; have h6 := HF1.out; rw [hK]; exact ⟨by omega, by omega, by omega⟩
  have HFH : Hid (FIN = halvesS (splitL 47 s.data.toList) false oneS) := by show _ = _; rw [HUM.out, if_neg (by rw [← HMLEN.out]; exact hm2)]
  rw [← hY, ← hK]
  clear hb hY hK K1 K2 HLN HLD HHV HX2 HB HUM hm2 hm2i
  have HMUL : Hid (∀ (W : World) (f : Ca) (u : Int × Int), IsK W K f.2 → Calls Tryz.prog 40 #[.pointer (some ⟨K, 0, none⟩), .agg #[.int .i64 f.1.1, .int .i64 f.1.2], .agg #[.int .i64 u.1, .int .i64 u.2]] W fun e w' => e = .returned (.agg #[.int .i64 (mulC f u).1.1, .int .i64 (mulC f u).1.2]) ∧ IsK w' K (mulC f u).2 ∧ W.grownBy w' (some K)) := fun W f u h => cMul_any K f.2 f.1.1 f.1.2 u.1 u.2 W h
  have HDIV : Hid (∀ (W : World) (f : Ca) (u : Int × Int), IsK W K f.2 → Calls Tryz.prog 45 #[.pointer (some ⟨K, 0, none⟩), .agg #[.int .i64 f.1.1, .int .i64 f.1.2], .agg #[.int .i64 u.1, .int .i64 u.2]] W fun e w' => e = .returned (.agg #[.int .i64 (divC f u).1.1, .int .i64 (divC f u).1.2]) ∧ IsK w' K (divC f u).2 ∧ W.grownBy w' (some K)) := fun W f u h => cDiv_any K f.2 f.1.1 f.1.2 u.1 u.2 W h
  go_wp2
  go_loopw [7, 10] (fun dv hh wr => ∃ (k : Nat) (f : Ca) (ds : List Int) (d : Value) (et : TypeId), k ≤ m ∧ hh = .int .i64 k ∧ d = dv ∧ Hid (UMem w wr R F K f) ∧ Hid (Ro w wr R F K 2 (.slice (some ⟨nb, 0, none⟩) 0 0) 0 []) ∧ Hid (Ro w wr R F K 9 (.slice ao m co) m (hss.map Value.string)) ∧ Hid (Ro w wr R F K et d ds.length (ds.map (Value.int .i64))) ∧ Hid (FIN = halvesS ((splitL 47 s.data.toList).drop k) (decide (k = 1)) (f, ds))) (fun _ hh _ => m - (intOf hh).toNat)
  case atStart => exact ⟨0, _, [0, 0, 0, 0, 0], _, _, Nat.zero_le _, rfl, rfl, HM.out, HNV.out, HHS.out, HDV0.out, HFH.out⟩
  case round =>
    clear HM HNV HHS HDV0 HFH
    obtain ⟨k, f, ds, d, et, hk, rfl, rfl, HM, HNV, HHS, HDV, HFIN⟩ := hrel
    by_cases hlt : k < m
    · have hkd : decide ((k : Int) < (m : Int)) = true := by simp; omega
      obtain ⟨g, c0, hsl⟩ := own_some HHS.out.1 (by omega)
      injection hsl with hsl1 hsl2 hsl3
      subst hsl1 hsl3
      have hkl : k < hss.length := by rw [← HMM.out]; exact hlt
      have c1 := HHS.out.str k hkl
      obtain ⟨hk', hek⟩ := map_at' hss _ HMAP.out k hkl
      have hsx := Nat.le_trans (part_size HMAP.out k hkl) hs
      have hdr := drop_at _ k hk'
      rw [hek] at hdr
      obtain ⟨x, hx⟩ : ∃ x, x = hss[k]'hkl := ⟨_, rfl⟩
      rw [← hx] at c1 hsx hdr
      have hF2 := HFIN.out
      rw [hdr, halvesS_cons] at hF2
      have HF2 := hidU hF2
      have HSX := hidU hsx
      clear hsl2 hkl hk' hek hsx hdr hx hF2 HFIN
      go_wp2_with fail
      refine (HSP46.out x _ HSX.out).mono ?_
      rintro e w3 ⟨wv, wss, rfl, hmap, ho, hb⟩
      have hlen : wss.length = (splitL 46 x.data.toList).length := by rw [← hmap, List.length_map]
      obtain ⟨n, hn⟩ : ∃ m, m = wss.length := ⟨_, rfl⟩
      have HNN := hidU hn
      have HWMAP := hidU hmap
      rw [← hn] at ho hlen
      have HNLEN := hidU hlen
      obtain ⟨aw, cw, rfl⟩ := own_shape ho
      have HWS := hidU (Ro.new HM.out ho)
      replace HM := hidU (HM.out.below hb)
      replace HNV := hidU (HNV.out.below hb)
      replace HHS := hidU (HHS.out.below hb)
      replace HDV := hidU (HDV.out.below hb)
      obtain ⟨HR, hHR⟩ : ∃ h, h = (splitL 47 s.data.toList).drop (k + 1) := ⟨_, rfl⟩
      rw [← hHR] at HF2
      obtain ⟨dvb, hdvb⟩ : ∃ b, b = decide (k = 1) := ⟨_, rfl⟩
      rw [← hdvb] at HF2
      have HHR := hidU hHR
      have HDVB := hidU hdvb
      have HF3 : Hid (FIN = restS dvb (splitL 46 x.data.toList) HR (some (f, ds))) := HF2.out
      have hn2 : n ≤ 1048577 := by
        have h3 := splitA_len 46 x.data.toList []
        have h4 := HSX.out
        have h5 : x.data.toList.length = x.size := by rw [Array.length_toList]; rfl
        rw [HNLEN.out]
        unfold splitL
        omega
      clear hmap hn ho hlen hb c1 hHR hdvb HF2
      go_wp2
      go_loopw [7, 12] (fun dv ii wr => ∃ (j : Nat) (f : Ca) (ds : List Int) (d : Value) (et : TypeId), j ≤ n ∧ ii = .int .i64 j ∧ d = dv ∧ Hid (UMem w wr R F K f) ∧ Hid (Ro w wr R F K 2 (.slice (some ⟨nb, 0, none⟩) 0 0) 0 []) ∧ Hid (Ro w wr R F K 9 (.slice (some ⟨g, 0, none⟩) m co) m (hss.map Value.string)) ∧ Hid (Ro w wr R F K 9 (.slice aw n cw) n (wss.map Value.string)) ∧ Hid (Ro w wr R F K et d ds.length (ds.map (Value.int .i64))) ∧ Hid (FIN = restS dvb ((splitL 46 x.data.toList).drop j) HR (some (f, ds)))) (fun _ ii _ => n - (intOf ii).toNat)
      case atStart => exact ⟨0, f, ds, _, et, Nat.zero_le _, rfl, rfl, HM.out, HNV.out, HHS.out, HWS.out, HDV.out, HF3.out⟩
      case round =>
        clear HM HNV HHS HWS HDV HF3
        obtain ⟨j, f, ds, d, et, hj, rfl, rfl, HM, HNV, HHS, HWS, HDV, HFIN⟩ := hrel
        by_cases hjn : j < n
        · obtain ⟨gw, c0, hsl⟩ := own_some HWS.out.1 (by omega)
          injection hsl with hsl1 hsl2 hsl3
          subst hsl1 hsl3
          have hkl : j < wss.length := by rw [← HNN.out]; exact hjn
          have c1 := HWS.out.str j hkl
          obtain ⟨hk', hek⟩ := map_at' wss _ HWMAP.out j hkl
          have hsx := Nat.le_trans (part_size HWMAP.out j hkl) HSX.out
          have hdr := drop_at _ j hk'
          rw [hek] at hdr
          obtain ⟨y, hy9⟩ : ∃ x, x = wss[j]'hkl := ⟨_, rfl⟩
          rw [← hy9] at c1 hsx hdr
          have hF2 := HFIN.out
          rw [hdr, restS_cons] at hF2
          obtain ⟨WR, hWR⟩ : ∃ h, h = (splitL 46 x.data.toList).drop (j + 1) := ⟨_, rfl⟩
          rw [← hWR] at hF2
          have HF2 := hidU hF2
          have HWR := hidU hWR
          have HSY := hidU hsx
          have hjd : decide ((j : Int) < (n : Int)) = true := by simp; omega
          clear hsl2 hkl hk' hek hsx hdr hy9 hF2 HFIN hWR
          go_wp2_with fail
          refine (HSP94.out y _ HSY.out).mono ?_
          rintro e w4 ⟨pv, pss, rfl, hmap, ho, hb⟩
          have HPMAP := hidU hmap
          obtain ⟨q, hq⟩ : ∃ m, m = pss.length := ⟨_, rfl⟩
          have HQN := hidU hq
          rw [← hq] at ho
          have hq0 : 0 < q := by
            rw [hq]
            have h3 : pss.length = (splitL 94 y.data.toList).length := by rw [← hmap, List.length_map]
            obtain ⟨a, t, h4, _⟩ := splitA_acc (c := 94) y.data.toList []
            rw [h3]
            unfold splitL
            rw [h4]
            simp
          obtain ⟨gp, cp, rfl⟩ := own_some ho hq0
          have HPS := hidU (Ro.new HM.out ho)
          replace HM := hidU (HM.out.below hb)
          replace HNV := hidU (HNV.out.below hb)
          replace HHS := hidU (HHS.out.below hb)
          replace HWS := hidU (HWS.out.below hb)
          replace HDV := hidU (HDV.out.below hb)
          have HQ0 := hidU hq0
          clear hmap hq ho hb c1
          have hsp0 := HPMAP.out
          by_cases hq1 : q = 1
          · have hqi : ((q : Int) == 2) = false := by simp; omega
            have hqg : ¬ (2 : Int) < q := by omega
            have HS1 : Hid (∀ a : ByteArray, (∃ h : 0 < pss.length, a = pss[0]'h) → splitL 94 y.data.toList = [a.data.toList]) := by
              rintro a ⟨h, rfl⟩
              rw [← HPMAP.out]
              have h3 : pss.length = 1 := by rw [← HQN.out]; exact hq1
              match pss, h, h3 with
              | [b], _, _ => rfl
            clear hsp0 hq1
            go_upto_region 24 with fail
            have hp0 : 0 < pss.length := by rw [← HQN.out]; exact HQ0.out
            have d0 := HPS.out.str 0 hp0
            obtain ⟨WU, hWU⟩ : ∃ r, r = wordS (pss[0]'hp0).data.toList := ⟨_, rfl⟩
            have HWC : Hid (∀ W : World, Calls Tryz.prog 73 #[.string (pss[0]'hp0)] W fun e w' => ∃ v, e = .returned (.tuple #[.agg #[.int .i64 WU.1, .int .i64 WU.2.1], v, .bool WU.2.2.2]) ∧ w'.ownsRow W.heap.size 2 1 v WU.2.2.1.length (WU.2.2.1.map (Value.int .i64)) ∧ Below W.heap.size W w') := fun W => by rw [hWU]; exact sWord_any _ W
            obtain ⟨a, ha⟩ : ∃ a, a = pss[0]'hp0 := ⟨_, rfl⟩
            rw [← ha] at d0 HWC hWU
            have HAX : Hid (∃ h : 0 < pss.length, a = pss[0]'h) := ⟨hp0, ha⟩
            have HWU := hidU hWU
            clear hp0 hWU ha
            obtain ⟨un, ud, us, ub⟩ := WU
            simp only at HWC
            go_wp2_with fail
            refine (HWC.out _).mono ?_
            rintro e w5 ⟨uv, rfl, hov, hb⟩
            replace HM := hidU (HM.out.below hb)
            replace HNV := hidU (HNV.out.below hb)
            replace HHS := hidU (HHS.out.below hb)
            replace HWS := hidU (HWS.out.below hb)
            replace HPS := hidU (HPS.out.below hb)
            replace HDV := hidU (HDV.out.below hb)
            have HUV := hidU hov
            clear hb hov d0 HWC
            go_upto_region 25 with fail
            obtain ⟨G, hG⟩ : ∃ F, F = w5.heap.size := ⟨_, rfl⟩
            obtain ⟨V5, hV⟩ : ∃ X, X = w5.alloc (.cells #[.int .i64 un, .int .i64 ud] 25) := ⟨_, rfl⟩
            have hb : Below w5.heap.size w5 V5 := by rw [hV]; exact b0 _ _
            have HG : Hid (IsB V5 G #[.int .i64 un, .int .i64 ud] 25) := by show IsB _ _ _ _; rw [hV, hG]; exact IsB.new _ _ _
            have HGF : Hid (G ≠ F ∧ G ≠ K) := by
              have h3 := HM.out.2.1.lt
              have h4 := HM.out.2.2.1.lt
              show _ ∧ _
              rw [hG]
              omega
            replace HM := hidU (HM.out.below hb)
            replace HNV := hidU (HNV.out.below hb)
            replace HHS := hidU (HHS.out.below hb)
            replace HWS := hidU (HWS.out.below hb)
            replace HPS := hidU (HPS.out.below hb)
            replace HDV := hidU (HDV.out.below hb)
            replace HUV := hidU (own_below HUV.out hb)
            rw [← hV, ← hG]
            clear hb hV hG
            cases ub
            · have HFN : Hid (ansU FIN = (0, 0, [], false)) := by show _ = _; rw [HF2.out, stepS_none (by have h2 := HWU.out; rw [rdS_one (HS1.out a HAX.out), ← h2]; rfl)]; rfl
              have z0 := HM.out.1.cell (v := .int .i64 0) 0 rfl
              have z1 := HM.out.1.cell (v := .int .i64 0) 1 rfl
              have f0 := HM.out.1.frozen 0
              have f1 := HM.out.1.frozen 1
              have KZ := hidU ((HM.out.1.set 0 (.int .i64 0)).set 1 (.int .i64 0))
              go_wp2
              have y0 := KZ.out.cell (v := .int .i64 0) 0 rfl
              have y1 := KZ.out.cell (v := .int .i64 0) 1 rfl
              exact bodyPost_ret (v := .tuple #[.agg #[.int .i64 0, .int .i64 0], .slice (some ⟨nb, 0, none⟩) 0 0, .bool false]) (by simp [results, Tryz.results36, go_sem, y0, y1]) rfl (by rw [HFN.out]; exact ret_none HM.out HNV.out)
            have HRD : Hid (rdS y.data.toList = some ((un, ud, us), 1)) := by have h2 := HWU.out; show _ = _; rw [rdS_one (HS1.out a HAX.out), ← h2]; rfl
            clear HWU
            by_cases hk1 : k = 1
            · have hki : ((k : Int) == 1) = true := by simp; omega
              have hst : stepS dvb y.data.toList (f, ds) = if ansDimTimes ds (ansDimPower us (-1)) = [] then none else some (powC (un, ud) (-1) f, ansDimTimes ds (ansDimPower us (-1))) := by
                rw [stepS_some HRD.out, HDVB.out]
                simp [hk1]
              have HST := hidU HF2.out
              rw [hst] at HST
              clear hst HRD HF2
              go_upto_region 29 with fail
              clear hki hk1
              obtain ⟨PW, hPW⟩ : ∃ l, l = ansDimPower us (-1) := ⟨_, rfl⟩
              have HDP : Hid (∀ W : World, DimIn W uv us → Calls Tryz.prog 74 #[uv, .int .i64 (-1)] W fun e w' => RowP W PW e w') := fun W h => by rw [hPW]; exact sDimPower_in uv us _ W h
              rw [← hPW] at HST
              clear hPW
              go_wp2_with fail
              refine (HDP.out _ (DimIn.of HUV.out)).mono ?_
              rintro e w6 ⟨pv2, et2, rfl, o2, hb⟩
              replace HM := hidU (HM.out.below hb)
              replace HNV := hidU (HNV.out.below hb)
              replace HHS := hidU (HHS.out.below hb)
              replace HWS := hidU (HWS.out.below hb)
              replace HDV := hidU (HDV.out.below hb)
              replace HG := hidU (HG.out.below hb)
              have HP2 := hidU o2
              obtain ⟨ds2, hds2⟩ : ∃ l, l = ansDimTimes ds PW := ⟨_, rfl⟩
              have HDT : Hid (∀ W : World, DimIn W d ds → DimIn W pv2 PW → Calls Tryz.prog 21 #[d, pv2] W fun e w' => RowP W ds2 e w') := fun W h h2 => by rw [hds2]; exact sDimTimes_in d pv2 ds PW W h h2
              rw [← hds2] at HST
              clear hb o2 hds2 HDP HUV
              go_wp2_with fail
              refine (HDT.out _ (DimIn.of HDV.out.1) (DimIn.of HP2.out)).mono ?_
              rintro e w7 ⟨nd, et3, rfl, o3, hb⟩
              have HND := hidU (Ro.new HM.out o3)
              obtain ⟨an, cn, rfl⟩ := own_shape o3
              replace HM := hidU (HM.out.below hb)
              replace HNV := hidU (HNV.out.below hb)
              replace HHS := hidU (HHS.out.below hb)
              replace HWS := hidU (HWS.out.below hb)
              replace HG := hidU (HG.out.below hb)
              clear hb o3 HDV HP2 HDT HPS
              by_cases hnil : ds2 = []
              · have hl0 : ((ds2.length : Nat) : Int) = 0 := by rw [hnil]; rfl
                have HNIL := hidU hnil
                clear hnil
                have HFN : Hid (ansU FIN = (0, 0, [], false)) := by show _ = _; rw [HST.out, if_pos HNIL.out]; rfl
                have z0 := HM.out.1.cell (v := .int .i64 0) 0 rfl
                have z1 := HM.out.1.cell (v := .int .i64 0) 1 rfl
                have f0 := HM.out.1.frozen 0
                have f1 := HM.out.1.frozen 1
                have KZ := hidU ((HM.out.1.set 0 (.int .i64 0)).set 1 (.int .i64 0))
                go_wp2
                have y0 := KZ.out.cell (v := .int .i64 0) 0 rfl
                have y1 := KZ.out.cell (v := .int .i64 0) 1 rfl
                exact bodyPost_ret (v := .tuple #[.agg #[.int .i64 0, .int .i64 0], .slice (some ⟨nb, 0, none⟩) 0 0, .bool false]) (by simp [results, Tryz.results36, go_sem, y0, y1]) rfl (by rw [HFN.out]; exact ret_none HM.out HNV.out)
              · obtain ⟨ln, hln⟩ : ∃ l, l = ds2.length := ⟨_, rfl⟩
                have hl0 : ((((ln : Nat) : Int)) == 0) = false := by rw [hln, beq_eq_false_iff_ne]; intro e; exact hnil (List.eq_nil_of_length_eq_zero (by omega))
                have HLN2 := hidU hln
                have HST2 : Hid (FIN = restS dvb WR HR (some (powC (un, ud) (-1) f, ds2))) := by show _ = _; rw [HST.out, if_neg hnil]
                rw [← hln] at HND ⊢
                clear hnil hln HST
                go_wp2
                go_loopw [14] (fun pp wr => ∃ (q1 : Int) (f1 : Ca), -9 ≤ q1 ∧ q1 ≤ 9 ∧ pp = .int .i64 q1 ∧ Hid (UMem w wr R F K f1) ∧ Hid (Ro w wr R F K 2 (.slice (some ⟨nb, 0, none⟩) 0 0) 0 []) ∧ Hid (Ro w wr R F K 9 (.slice (some ⟨g, 0, none⟩) m co) m (hss.map Value.string)) ∧ Hid (Ro w wr R F K 9 (.slice (some ⟨gw, 0, none⟩) n cw) n (wss.map Value.string)) ∧ Hid (Ro w wr R F K et3 (.slice an ln cn) ln (ds2.map (Value.int .i64))) ∧ Hid (IsB wr G #[.int .i64 un, .int .i64 ud] 25) ∧ Hid (powC (un, ud) (-1) f = powC (un, ud) q1 f1)) (fun pp _ => (intOf pp).toNat)
                case atStart => exact ⟨(-1), f, by omega, by omega, rfl, HM.out, HNV.out, HHS.out, HWS.out, HND.out, HG.out, rfl⟩
                case round =>
                  clear HM HNV HHS HWS HND HG
                  obtain ⟨q1, f1, hq1, hq2, rfl, HM, HNV, HHS, HWS, HND, HG, HPC⟩ := hrel
                  by_cases hpos : 0 < q1
                  · obtain ⟨mc, hmc⟩ : ∃ g, g = mulC f1 (un, ud) := ⟨_, rfl⟩
                    have hmc2 := HMUL.out
                    have HCC : Hid (∀ W : World, IsK W K f1.2 → Calls Tryz.prog 40 #[.pointer (some ⟨K, 0, none⟩), .agg #[.int .i64 f1.1.1, .int .i64 f1.1.2], .agg #[.int .i64 un, .int .i64 ud]] W fun e w' => e = .returned (.agg #[.int .i64 mc.1.1, .int .i64 mc.1.2]) ∧ IsK w' K mc.2 ∧ W.grownBy w' (some K)) := fun W h => by rw [hmc]; exact hmc2 W f1 (un, ud) h
                    have HPN : Hid (powC (un, ud) (-1) f = powC (un, ud) (q1 - 1) mc) := by show _ = _; rw [HPC.out, hmc]; exact powC_pos _ hpos _
                    clear hmc2 hmc HPC
                    have q0 := HM.out.2.1.cell (v := .int .i64 f1.1.1) 0 rfl
                    have q3 := HM.out.2.1.cell (v := .int .i64 f1.1.2) 1 rfl
                    have g0 := HG.out.cell (v := .int .i64 un) 0 rfl
                    have g1 := HG.out.cell (v := .int .i64 ud) 1 rfl
                    go_wp2_with fail
                    refine (HCC.out _ HM.out.2.2.1).mono ?_
                    rintro e w8 ⟨rfl, hkk, hg⟩
                    have hFB : IsB w8 F #[.int .i64 f1.1.1, .int .i64 f1.1.2] 25 := (hg.block F HM.out.2.1.lt (by have := HM.out.2.2.2.2.1.2.2; simpa using this)).trans HM.out.2.1
                    have hGB : IsB w8 G #[.int .i64 un, .int .i64 ud] 25 := (hg.block G HG.out.lt (by have := HGF.out.2; simpa using this)).trans HG.out
                    have HMS := hidU (UMem.step HM.out hkk hg)
                    have HNS := hidU (HNV.out.step (x := .int .i64 mc.1.1) (y := .int .i64 mc.1.2) hg)
                    have HHSS := hidU (HHS.out.step (x := .int .i64 mc.1.1) (y := .int .i64 mc.1.2) hg)
                    have HWSS := hidU (HWS.out.step (x := .int .i64 mc.1.1) (y := .int .i64 mc.1.2) hg)
                    have HNDS := hidU (HND.out.step (x := .int .i64 mc.1.1) (y := .int .i64 mc.1.2) hg)
                    have HGS := hidU ((hGB.other HGF.out.1 0 (.int .i64 mc.1.1)).other HGF.out.1 1 (.int .i64 mc.1.2))
                    have z0 := hFB.cell (v := .int .i64 f1.1.1) 0 rfl
                    have z1 := hFB.cell (v := .int .i64 f1.1.2) 1 rfl
                    have y0 := hFB.frozen 0
                    have y1 := hFB.frozen 1
                    clear q0 q3 g0 g1 hFB hGB hkk hg HM HNV HHS HWS HND HG
                    go_wp2
                    go_roundw
                    case rel => exact ⟨(q1 - 1), mc, by omega, by omega, by go_num, HMS.out, HNS.out, HHSS.out, HWSS.out, HNDS.out, HGS.out, HPN.out⟩
                    case measure => (simp [intOf]) <;> omega
                  · go_wp2
                    go_loopw [14] (fun pp wr => ∃ (q2 : Int) (f2 : Ca), -9 ≤ q2 ∧ q2 ≤ 0 ∧ pp = .int .i64 q2 ∧ Hid (UMem w wr R F K f2) ∧ Hid (Ro w wr R F K 2 (.slice (some ⟨nb, 0, none⟩) 0 0) 0 []) ∧ Hid (Ro w wr R F K 9 (.slice (some ⟨g, 0, none⟩) m co) m (hss.map Value.string)) ∧ Hid (Ro w wr R F K 9 (.slice (some ⟨gw, 0, none⟩) n cw) n (wss.map Value.string)) ∧ Hid (Ro w wr R F K et3 (.slice an ln cn) ln (ds2.map (Value.int .i64))) ∧ Hid (IsB wr G #[.int .i64 un, .int .i64 ud] 25) ∧ Hid (powC (un, ud) (-1) f = powC (un, ud) q2 f2)) (fun pp _ => (-(intOf pp)).toNat)
                    case atStart => exact ⟨q1, f1, by omega, by omega, rfl, HM.out, HNV.out, HHS.out, HWS.out, HND.out, HG.out, HPC.out⟩
                    case round =>
                      clear HM HNV HHS HWS HND HG HPC hq1 hq2 hpos
                      obtain ⟨q2, f2, hq1, hq2, rfl, HM, HNV, HHS, HWS, HND, HG, HPC⟩ := hrel
                      by_cases hneg : q2 < 0
                      · obtain ⟨mc, hmc⟩ : ∃ g, g = divC f2 (un, ud) := ⟨_, rfl⟩
                        have hmc2 := HDIV.out
                        have HCC : Hid (∀ W : World, IsK W K f2.2 → Calls Tryz.prog 45 #[.pointer (some ⟨K, 0, none⟩), .agg #[.int .i64 f2.1.1, .int .i64 f2.1.2], .agg #[.int .i64 un, .int .i64 ud]] W fun e w' => e = .returned (.agg #[.int .i64 mc.1.1, .int .i64 mc.1.2]) ∧ IsK w' K mc.2 ∧ W.grownBy w' (some K)) := fun W h => by rw [hmc]; exact hmc2 W f2 (un, ud) h
                        have HPN : Hid (powC (un, ud) (-1) f = powC (un, ud) (q2 + 1) mc) := by show _ = _; rw [HPC.out, hmc]; exact powC_neg _ hneg _
                        clear hmc2 hmc HPC
                        have q0 := HM.out.2.1.cell (v := .int .i64 f2.1.1) 0 rfl
                        have q3 := HM.out.2.1.cell (v := .int .i64 f2.1.2) 1 rfl
                        have g0 := HG.out.cell (v := .int .i64 un) 0 rfl
                        have g1 := HG.out.cell (v := .int .i64 ud) 1 rfl
                        go_wp2_with fail
                        refine (HCC.out _ HM.out.2.2.1).mono ?_
                        rintro e w8 ⟨rfl, hkk, hg⟩
                        have hFB : IsB w8 F #[.int .i64 f2.1.1, .int .i64 f2.1.2] 25 := (hg.block F HM.out.2.1.lt (by have := HM.out.2.2.2.2.1.2.2; simpa using this)).trans HM.out.2.1
                        have hGB : IsB w8 G #[.int .i64 un, .int .i64 ud] 25 := (hg.block G HG.out.lt (by have := HGF.out.2; simpa using this)).trans HG.out
                        have HMS := hidU (UMem.step HM.out hkk hg)
                        have HNS := hidU (HNV.out.step (x := .int .i64 mc.1.1) (y := .int .i64 mc.1.2) hg)
                        have HHSS := hidU (HHS.out.step (x := .int .i64 mc.1.1) (y := .int .i64 mc.1.2) hg)
                        have HWSS := hidU (HWS.out.step (x := .int .i64 mc.1.1) (y := .int .i64 mc.1.2) hg)
                        have HNDS := hidU (HND.out.step (x := .int .i64 mc.1.1) (y := .int .i64 mc.1.2) hg)
                        have HGS := hidU ((hGB.other HGF.out.1 0 (.int .i64 mc.1.1)).other HGF.out.1 1 (.int .i64 mc.1.2))
                        have z0 := hFB.cell (v := .int .i64 f2.1.1) 0 rfl
                        have z1 := hFB.cell (v := .int .i64 f2.1.2) 1 rfl
                        have y0 := hFB.frozen 0
                        have y1 := hFB.frozen 1
                        clear q0 q3 g0 g1 hFB hGB hkk hg HM HNV HHS HWS HND HG
                        go_wp2
                        go_roundw
                        case rel => exact ⟨(q2 + 1), mc, by omega, by omega, by go_num, HMS.out, HNS.out, HHSS.out, HWSS.out, HNDS.out, HGS.out, HPN.out⟩
                        case measure => (simp [intOf]) <;> omega
                      · obtain rfl : q2 = 0 := by omega
                        have HPZ : Hid (powC (un, ud) (-1) f = f2) := HPC.out.trans (powC_zero _ _)
                        clear HPC
                        go_wp2
                        go_roundw
                        case rel =>
                          refine ⟨j + 1, f2, ds2, _, et3, by omega, by go_num, rfl, HM.out, HNV.out, HHS.out, HWS.out, ?_, ?_⟩
                          · show Ro _ _ _ _ _ _ _ _ _
                            have h3 := HND.out
                            rw [HLN2.out] at h3 ⊢
                            exact h3
                          · show FIN = _
                            rw [HST2.out, HPZ.out, HWR.out]
                        case measure => (simp [intOf]) <;> omega
            · have hki : ((k : Int) == 1) = false := by simp; omega
              have hst : stepS dvb y.data.toList (f, ds) = if ansDimTimes ds (ansDimPower us 1) = [] then none else some (powC (un, ud) 1 f, ansDimTimes ds (ansDimPower us 1)) := by
                rw [stepS_some HRD.out, HDVB.out]
                simp [hk1]
              have HST := hidU HF2.out
              rw [hst] at HST
              clear hst HRD HF2
              go_upto_region 29 with fail
              clear hki hk1
              obtain ⟨PW, hPW⟩ : ∃ l, l = ansDimPower us 1 := ⟨_, rfl⟩
              have HDP : Hid (∀ W : World, DimIn W uv us → Calls Tryz.prog 74 #[uv, .int .i64 1] W fun e w' => RowP W PW e w') := fun W h => by rw [hPW]; exact sDimPower_in uv us _ W h
              rw [← hPW] at HST
              clear hPW
              go_wp2_with fail
              refine (HDP.out _ (DimIn.of HUV.out)).mono ?_
              rintro e w6 ⟨pv2, et2, rfl, o2, hb⟩
              replace HM := hidU (HM.out.below hb)
              replace HNV := hidU (HNV.out.below hb)
              replace HHS := hidU (HHS.out.below hb)
              replace HWS := hidU (HWS.out.below hb)
              replace HDV := hidU (HDV.out.below hb)
              replace HG := hidU (HG.out.below hb)
              have HP2 := hidU o2
              obtain ⟨ds2, hds2⟩ : ∃ l, l = ansDimTimes ds PW := ⟨_, rfl⟩
              have HDT : Hid (∀ W : World, DimIn W d ds → DimIn W pv2 PW → Calls Tryz.prog 21 #[d, pv2] W fun e w' => RowP W ds2 e w') := fun W h h2 => by rw [hds2]; exact sDimTimes_in d pv2 ds PW W h h2
              rw [← hds2] at HST
              clear hb o2 hds2 HDP HUV
              go_wp2_with fail
              refine (HDT.out _ (DimIn.of HDV.out.1) (DimIn.of HP2.out)).mono ?_
              rintro e w7 ⟨nd, et3, rfl, o3, hb⟩
              have HND := hidU (Ro.new HM.out o3)
              obtain ⟨an, cn, rfl⟩ := own_shape o3
              replace HM := hidU (HM.out.below hb)
              replace HNV := hidU (HNV.out.below hb)
              replace HHS := hidU (HHS.out.below hb)
              replace HWS := hidU (HWS.out.below hb)
              replace HG := hidU (HG.out.below hb)
              clear hb o3 HDV HP2 HDT HPS
              by_cases hnil : ds2 = []
              · have hl0 : ((ds2.length : Nat) : Int) = 0 := by rw [hnil]; rfl
                have HNIL := hidU hnil
                clear hnil
                have HFN : Hid (ansU FIN = (0, 0, [], false)) := by show _ = _; rw [HST.out, if_pos HNIL.out]; rfl
                have z0 := HM.out.1.cell (v := .int .i64 0) 0 rfl
                have z1 := HM.out.1.cell (v := .int .i64 0) 1 rfl
                have f0 := HM.out.1.frozen 0
                have f1 := HM.out.1.frozen 1
                have KZ := hidU ((HM.out.1.set 0 (.int .i64 0)).set 1 (.int .i64 0))
                go_wp2
                have y0 := KZ.out.cell (v := .int .i64 0) 0 rfl
                have y1 := KZ.out.cell (v := .int .i64 0) 1 rfl
                exact bodyPost_ret (v := .tuple #[.agg #[.int .i64 0, .int .i64 0], .slice (some ⟨nb, 0, none⟩) 0 0, .bool false]) (by simp [results, Tryz.results36, go_sem, y0, y1]) rfl (by rw [HFN.out]; exact ret_none HM.out HNV.out)
              · obtain ⟨ln, hln⟩ : ∃ l, l = ds2.length := ⟨_, rfl⟩
                have hl0 : ((((ln : Nat) : Int)) == 0) = false := by rw [hln, beq_eq_false_iff_ne]; intro e; exact hnil (List.eq_nil_of_length_eq_zero (by omega))
                have HLN2 := hidU hln
                have HST2 : Hid (FIN = restS dvb WR HR (some (powC (un, ud) 1 f, ds2))) := by show _ = _; rw [HST.out, if_neg hnil]
                rw [← hln] at HND ⊢
                clear hnil hln HST
                go_wp2
                go_loopw [14] (fun pp wr => ∃ (q1 : Int) (f1 : Ca), -9 ≤ q1 ∧ q1 ≤ 9 ∧ pp = .int .i64 q1 ∧ Hid (UMem w wr R F K f1) ∧ Hid (Ro w wr R F K 2 (.slice (some ⟨nb, 0, none⟩) 0 0) 0 []) ∧ Hid (Ro w wr R F K 9 (.slice (some ⟨g, 0, none⟩) m co) m (hss.map Value.string)) ∧ Hid (Ro w wr R F K 9 (.slice (some ⟨gw, 0, none⟩) n cw) n (wss.map Value.string)) ∧ Hid (Ro w wr R F K et3 (.slice an ln cn) ln (ds2.map (Value.int .i64))) ∧ Hid (IsB wr G #[.int .i64 un, .int .i64 ud] 25) ∧ Hid (powC (un, ud) 1 f = powC (un, ud) q1 f1)) (fun pp _ => (intOf pp).toNat)
                case atStart => exact ⟨1, f, by omega, by omega, rfl, HM.out, HNV.out, HHS.out, HWS.out, HND.out, HG.out, rfl⟩
                case round =>
                  clear HM HNV HHS HWS HND HG
                  obtain ⟨q1, f1, hq1, hq2, rfl, HM, HNV, HHS, HWS, HND, HG, HPC⟩ := hrel
                  by_cases hpos : 0 < q1
                  · obtain ⟨mc, hmc⟩ : ∃ g, g = mulC f1 (un, ud) := ⟨_, rfl⟩
                    have hmc2 := HMUL.out
                    have HCC : Hid (∀ W : World, IsK W K f1.2 → Calls Tryz.prog 40 #[.pointer (some ⟨K, 0, none⟩), .agg #[.int .i64 f1.1.1, .int .i64 f1.1.2], .agg #[.int .i64 un, .int .i64 ud]] W fun e w' => e = .returned (.agg #[.int .i64 mc.1.1, .int .i64 mc.1.2]) ∧ IsK w' K mc.2 ∧ W.grownBy w' (some K)) := fun W h => by rw [hmc]; exact hmc2 W f1 (un, ud) h
                    have HPN : Hid (powC (un, ud) 1 f = powC (un, ud) (q1 - 1) mc) := by show _ = _; rw [HPC.out, hmc]; exact powC_pos _ hpos _
                    clear hmc2 hmc HPC
                    have q0 := HM.out.2.1.cell (v := .int .i64 f1.1.1) 0 rfl
                    have q3 := HM.out.2.1.cell (v := .int .i64 f1.1.2) 1 rfl
                    have g0 := HG.out.cell (v := .int .i64 un) 0 rfl
                    have g1 := HG.out.cell (v := .int .i64 ud) 1 rfl
                    go_wp2_with fail
                    refine (HCC.out _ HM.out.2.2.1).mono ?_
                    rintro e w8 ⟨rfl, hkk, hg⟩
                    have hFB : IsB w8 F #[.int .i64 f1.1.1, .int .i64 f1.1.2] 25 := (hg.block F HM.out.2.1.lt (by have := HM.out.2.2.2.2.1.2.2; simpa using this)).trans HM.out.2.1
                    have hGB : IsB w8 G #[.int .i64 un, .int .i64 ud] 25 := (hg.block G HG.out.lt (by have := HGF.out.2; simpa using this)).trans HG.out
                    have HMS := hidU (UMem.step HM.out hkk hg)
                    have HNS := hidU (HNV.out.step (x := .int .i64 mc.1.1) (y := .int .i64 mc.1.2) hg)
                    have HHSS := hidU (HHS.out.step (x := .int .i64 mc.1.1) (y := .int .i64 mc.1.2) hg)
                    have HWSS := hidU (HWS.out.step (x := .int .i64 mc.1.1) (y := .int .i64 mc.1.2) hg)
                    have HNDS := hidU (HND.out.step (x := .int .i64 mc.1.1) (y := .int .i64 mc.1.2) hg)
                    have HGS := hidU ((hGB.other HGF.out.1 0 (.int .i64 mc.1.1)).other HGF.out.1 1 (.int .i64 mc.1.2))
                    have z0 := hFB.cell (v := .int .i64 f1.1.1) 0 rfl
                    have z1 := hFB.cell (v := .int .i64 f1.1.2) 1 rfl
                    have y0 := hFB.frozen 0
                    have y1 := hFB.frozen 1
                    clear q0 q3 g0 g1 hFB hGB hkk hg HM HNV HHS HWS HND HG
                    go_wp2
                    go_roundw
                    case rel => exact ⟨(q1 - 1), mc, by omega, by omega, by go_num, HMS.out, HNS.out, HHSS.out, HWSS.out, HNDS.out, HGS.out, HPN.out⟩
                    case measure => (simp [intOf]) <;> omega
                  · go_wp2
                    go_loopw [14] (fun pp wr => ∃ (q2 : Int) (f2 : Ca), -9 ≤ q2 ∧ q2 ≤ 0 ∧ pp = .int .i64 q2 ∧ Hid (UMem w wr R F K f2) ∧ Hid (Ro w wr R F K 2 (.slice (some ⟨nb, 0, none⟩) 0 0) 0 []) ∧ Hid (Ro w wr R F K 9 (.slice (some ⟨g, 0, none⟩) m co) m (hss.map Value.string)) ∧ Hid (Ro w wr R F K 9 (.slice (some ⟨gw, 0, none⟩) n cw) n (wss.map Value.string)) ∧ Hid (Ro w wr R F K et3 (.slice an ln cn) ln (ds2.map (Value.int .i64))) ∧ Hid (IsB wr G #[.int .i64 un, .int .i64 ud] 25) ∧ Hid (powC (un, ud) 1 f = powC (un, ud) q2 f2)) (fun pp _ => (-(intOf pp)).toNat)
                    case atStart => exact ⟨q1, f1, by omega, by omega, rfl, HM.out, HNV.out, HHS.out, HWS.out, HND.out, HG.out, HPC.out⟩
                    case round =>
                      clear HM HNV HHS HWS HND HG HPC hq1 hq2 hpos
                      obtain ⟨q2, f2, hq1, hq2, rfl, HM, HNV, HHS, HWS, HND, HG, HPC⟩ := hrel
                      by_cases hneg : q2 < 0
                      · obtain ⟨mc, hmc⟩ : ∃ g, g = divC f2 (un, ud) := ⟨_, rfl⟩
                        have hmc2 := HDIV.out
                        have HCC : Hid (∀ W : World, IsK W K f2.2 → Calls Tryz.prog 45 #[.pointer (some ⟨K, 0, none⟩), .agg #[.int .i64 f2.1.1, .int .i64 f2.1.2], .agg #[.int .i64 un, .int .i64 ud]] W fun e w' => e = .returned (.agg #[.int .i64 mc.1.1, .int .i64 mc.1.2]) ∧ IsK w' K mc.2 ∧ W.grownBy w' (some K)) := fun W h => by rw [hmc]; exact hmc2 W f2 (un, ud) h
                        have HPN : Hid (powC (un, ud) 1 f = powC (un, ud) (q2 + 1) mc) := by show _ = _; rw [HPC.out, hmc]; exact powC_neg _ hneg _
                        clear hmc2 hmc HPC
                        have q0 := HM.out.2.1.cell (v := .int .i64 f2.1.1) 0 rfl
                        have q3 := HM.out.2.1.cell (v := .int .i64 f2.1.2) 1 rfl
                        have g0 := HG.out.cell (v := .int .i64 un) 0 rfl
                        have g1 := HG.out.cell (v := .int .i64 ud) 1 rfl
                        go_wp2_with fail
                        refine (HCC.out _ HM.out.2.2.1).mono ?_
                        rintro e w8 ⟨rfl, hkk, hg⟩
                        have hFB : IsB w8 F #[.int .i64 f2.1.1, .int .i64 f2.1.2] 25 := (hg.block F HM.out.2.1.lt (by have := HM.out.2.2.2.2.1.2.2; simpa using this)).trans HM.out.2.1
                        have hGB : IsB w8 G #[.int .i64 un, .int .i64 ud] 25 := (hg.block G HG.out.lt (by have := HGF.out.2; simpa using this)).trans HG.out
                        have HMS := hidU (UMem.step HM.out hkk hg)
                        have HNS := hidU (HNV.out.step (x := .int .i64 mc.1.1) (y := .int .i64 mc.1.2) hg)
                        have HHSS := hidU (HHS.out.step (x := .int .i64 mc.1.1) (y := .int .i64 mc.1.2) hg)
                        have HWSS := hidU (HWS.out.step (x := .int .i64 mc.1.1) (y := .int .i64 mc.1.2) hg)
                        have HNDS := hidU (HND.out.step (x := .int .i64 mc.1.1) (y := .int .i64 mc.1.2) hg)
                        have HGS := hidU ((hGB.other HGF.out.1 0 (.int .i64 mc.1.1)).other HGF.out.1 1 (.int .i64 mc.1.2))
                        have z0 := hFB.cell (v := .int .i64 f2.1.1) 0 rfl
                        have z1 := hFB.cell (v := .int .i64 f2.1.2) 1 rfl
                        have y0 := hFB.frozen 0
                        have y1 := hFB.frozen 1
                        clear q0 q3 g0 g1 hFB hGB hkk hg HM HNV HHS HWS HND HG
                        go_wp2
                        go_roundw
                        case rel => exact ⟨(q2 + 1), mc, by omega, by omega, by go_num, HMS.out, HNS.out, HHSS.out, HWSS.out, HNDS.out, HGS.out, HPN.out⟩
                        case measure => (simp [intOf]) <;> omega
                      · obtain rfl : q2 = 0 := by omega
                        have HPZ : Hid (powC (un, ud) 1 f = f2) := HPC.out.trans (powC_zero _ _)
                        clear HPC
                        go_wp2
                        go_roundw
                        case rel =>
                          refine ⟨j + 1, f2, ds2, _, et3, by omega, by go_num, rfl, HM.out, HNV.out, HHS.out, HWS.out, ?_, ?_⟩
                          · show Ro _ _ _ _ _ _ _ _ _
                            have h3 := HND.out
                            rw [HLN2.out] at h3 ⊢
                            exact h3
                          · show FIN = _
                            rw [HST2.out, HPZ.out, HWR.out]
                        case measure => (simp [intOf]) <;> omega
          by_cases hq2 : q = 2
          · have hqi : ((q : Int) == 2) = true := by simp; omega
            have hq1i : (1 : Int) < q := by omega
            have hqg : ¬ (2 : Int) < q := by omega
            have hp1 : 1 < pss.length := by rw [← HQN.out]; omega
            have HS2 : Hid (∀ a : ByteArray, (∃ h : 0 < pss.length, a = pss[0]'h) → splitL 94 y.data.toList = [a.data.toList, (pss[1]'hp1).data.toList]) := by
              rintro a ⟨h, rfl⟩
              rw [← HPMAP.out]
              have h3 : pss.length = 2 := by rw [← HQN.out]; exact hq2
              match pss, h, hp1, h3 with
              | [b, c], _, _, _ => rfl
            have d1 := HPS.out.str 1 hp1
            have hsy1 := Nat.le_trans (part_size HPMAP.out 1 hp1) HSY.out
            obtain ⟨z, hz⟩ : ∃ z, z = pss[1]'hp1 := ⟨_, rfl⟩
            rw [← hz] at d1 HS2 hsy1
            have HNU : Hid (∀ W : World, Calls Tryz.prog 71 #[.string z] W fun e w' => e = .returned (.tuple #[.int .i64 (numX z.data.toList).1, .bool (numX z.data.toList).2]) ∧ w' = W) := fun W => number_any z W hsy1
            obtain ⟨NX, hNX⟩ : ∃ r, r = numX z.data.toList := ⟨_, rfl⟩
            have HPX : Hid (powX z.data.toList = if NX.2 = true ∧ NX.1 ≠ 0 ∧ -9 ≤ NX.1 ∧ NX.1 ≤ 9 then some NX.1 else none) := by show _ = _; rw [hNX]; rfl
            rw [← hNX] at HNU
            clear hsp0 hq1 hq2 hp1 hz hsy1 hNX
            obtain ⟨nx, nbl⟩ := NX
            simp only at HNU HPX
            have HIN : Hid (∀ W : World, Calls Tryz.prog 72 #[.int .i64 nx, .int .i64 (-9), .int .i64 9] W fun e w' => e = .returned (.bool (inB nx (-9) 9)) ∧ w' = W) := fun W => in_any _ _ _ W
            go_wp2_with fail
            refine (HNU.out _).mono ?_
            rintro e w9 ⟨rfl, hw⟩
            obtain rfl := hw.symm
            clear hw d1
            by_cases hbl : nbl = false
            · subst hbl
              have HPN : Hid (powX z.data.toList = none) := by show _ = _; rw [HPX.out, if_neg (by simp)]
              have HRN : Hid (rdS y.data.toList = none) := by
                have hp0 : 0 < pss.length := by rw [← HQN.out]; exact HQ0.out
                show _ = _
                rw [rdS_two (HS2.out _ ⟨hp0, rfl⟩), HPN.out]
              have HFN : Hid (ansU FIN = (0, 0, [], false)) := by show _ = _; rw [HF2.out, stepS_none HRN.out]; rfl
              have z0 := HM.out.1.cell (v := .int .i64 0) 0 rfl
              have z1 := HM.out.1.cell (v := .int .i64 0) 1 rfl
              have f0 := HM.out.1.frozen 0
              have f1 := HM.out.1.frozen 1
              have KZ := hidU ((HM.out.1.set 0 (.int .i64 0)).set 1 (.int .i64 0))
              go_wp2
              have y0 := KZ.out.cell (v := .int .i64 0) 0 rfl
              have y1 := KZ.out.cell (v := .int .i64 0) 1 rfl
              exact bodyPost_ret (v := .tuple #[.agg #[.int .i64 0, .int .i64 0], .slice (some ⟨nb, 0, none⟩) 0 0, .bool false]) (by simp [results, Tryz.results36, go_sem, y0, y1]) rfl (by rw [HFN.out]; exact ret_none HM.out HNV.out)
            have hbt : nbl = true := by simpa using hbl
            subst hbt
            clear hbl
            by_cases hn0 : nx = 0
            · subst hn0
              have HPN : Hid (powX z.data.toList = none) := by show _ = _; rw [HPX.out, if_neg (by simp)]
              have HRN : Hid (rdS y.data.toList = none) := by
                have hp0 : 0 < pss.length := by rw [← HQN.out]; exact HQ0.out
                show _ = _
                rw [rdS_two (HS2.out _ ⟨hp0, rfl⟩), HPN.out]
              have HFN : Hid (ansU FIN = (0, 0, [], false)) := by show _ = _; rw [HF2.out, stepS_none HRN.out]; rfl
              have z0 := HM.out.1.cell (v := .int .i64 0) 0 rfl
              have z1 := HM.out.1.cell (v := .int .i64 0) 1 rfl
              have f0 := HM.out.1.frozen 0
              have f1 := HM.out.1.frozen 1
              have KZ := hidU ((HM.out.1.set 0 (.int .i64 0)).set 1 (.int .i64 0))
              go_wp2
              have y0 := KZ.out.cell (v := .int .i64 0) 0 rfl
              have y1 := KZ.out.cell (v := .int .i64 0) 1 rfl
              exact bodyPost_ret (v := .tuple #[.agg #[.int .i64 0, .int .i64 0], .slice (some ⟨nb, 0, none⟩) 0 0, .bool false]) (by simp [results, Tryz.results36, go_sem, y0, y1]) rfl (by rw [HFN.out]; exact ret_none HM.out HNV.out)
            have hn0b : (nx == 0) = false := by simp [hn0]
            by_cases hr : -9 ≤ nx ∧ nx ≤ 9
            · obtain ⟨hr1, hr2⟩ := hr
              have hin : inB nx (-9) 9 = true := inB_yes hr1 hr2
              have HPN : Hid (powX z.data.toList = some nx) := by show _ = _; rw [HPX.out, if_pos ⟨rfl, hn0, hr1, hr2⟩]
              rw [hin] at HIN
              clear hin HPX
              go_wp2_with fail
              refine (HIN.out _).mono ?_
              rintro e w10 ⟨rfl, hw⟩
              obtain rfl := hw.symm
              clear hw hn0 hn0b
              go_upto_region 24 with fail
              have hp0 : 0 < pss.length := by rw [← HQN.out]; exact HQ0.out
              have d0 := HPS.out.str 0 hp0
              obtain ⟨WU, hWU⟩ : ∃ r, r = wordS (pss[0]'hp0).data.toList := ⟨_, rfl⟩
              have HWC : Hid (∀ W : World, Calls Tryz.prog 73 #[.string (pss[0]'hp0)] W fun e w' => ∃ v, e = .returned (.tuple #[.agg #[.int .i64 WU.1, .int .i64 WU.2.1], v, .bool WU.2.2.2]) ∧ w'.ownsRow W.heap.size 2 1 v WU.2.2.1.length (WU.2.2.1.map (Value.int .i64)) ∧ Below W.heap.size W w') := fun W => by rw [hWU]; exact sWord_any _ W
              obtain ⟨a, ha⟩ : ∃ a, a = pss[0]'hp0 := ⟨_, rfl⟩
              rw [← ha] at d0 HWC hWU
              have HAX : Hid (∃ h : 0 < pss.length, a = pss[0]'h) := ⟨hp0, ha⟩
              have HWU := hidU hWU
              clear hp0 hWU ha
              obtain ⟨un, ud, us, ub⟩ := WU
              simp only at HWC
              go_wp2_with fail
              refine (HWC.out _).mono ?_
              rintro e w5 ⟨uv, rfl, hov, hb⟩
              replace HM := hidU (HM.out.below hb)
              replace HNV := hidU (HNV.out.below hb)
              replace HHS := hidU (HHS.out.below hb)
              replace HWS := hidU (HWS.out.below hb)
              replace HPS := hidU (HPS.out.below hb)
              replace HDV := hidU (HDV.out.below hb)
              have HUV := hidU hov
              clear hb hov d0 HWC
              go_upto_region 25 with fail
              obtain ⟨G, hG⟩ : ∃ F, F = w5.heap.size := ⟨_, rfl⟩
              obtain ⟨V5, hV⟩ : ∃ X, X = w5.alloc (.cells #[.int .i64 un, .int .i64 ud] 25) := ⟨_, rfl⟩
              have hb : Below w5.heap.size w5 V5 := by rw [hV]; exact b0 _ _
              have HG : Hid (IsB V5 G #[.int .i64 un, .int .i64 ud] 25) := by show IsB _ _ _ _; rw [hV, hG]; exact IsB.new _ _ _
              have HGF : Hid (G ≠ F ∧ G ≠ K) := by
                have h3 := HM.out.2.1.lt
                have h4 := HM.out.2.2.1.lt
                show _ ∧ _
                rw [hG]
                omega
              replace HM := hidU (HM.out.below hb)
              replace HNV := hidU (HNV.out.below hb)
              replace HHS := hidU (HHS.out.below hb)
              replace HWS := hidU (HWS.out.below hb)
              replace HPS := hidU (HPS.out.below hb)
              replace HDV := hidU (HDV.out.below hb)
              replace HUV := hidU (own_below HUV.out hb)
              rw [← hV, ← hG]
              clear hb hV hG
              cases ub
              · have HFN : Hid (ansU FIN = (0, 0, [], false)) := by show _ = _; rw [HF2.out, stepS_none (by have h2 := HWU.out; rw [rdS_two (HS2.out a HAX.out), HPN.out, ← h2]; rfl)]; rfl
                have z0 := HM.out.1.cell (v := .int .i64 0) 0 rfl
                have z1 := HM.out.1.cell (v := .int .i64 0) 1 rfl
                have f0 := HM.out.1.frozen 0
                have f1 := HM.out.1.frozen 1
                have KZ := hidU ((HM.out.1.set 0 (.int .i64 0)).set 1 (.int .i64 0))
                go_wp2
                have y0 := KZ.out.cell (v := .int .i64 0) 0 rfl
                have y1 := KZ.out.cell (v := .int .i64 0) 1 rfl
                exact bodyPost_ret (v := .tuple #[.agg #[.int .i64 0, .int .i64 0], .slice (some ⟨nb, 0, none⟩) 0 0, .bool false]) (by simp [results, Tryz.results36, go_sem, y0, y1]) rfl (by rw [HFN.out]; exact ret_none HM.out HNV.out)
              have HRD : Hid (rdS y.data.toList = some ((un, ud, us), nx)) := by have h2 := HWU.out; show _ = _; rw [rdS_two (HS2.out a HAX.out), HPN.out, ← h2]; rfl
              clear HWU
              by_cases hk1 : k = 1
              · have hki : ((k : Int) == 1) = true := by simp; omega
                have hst : stepS dvb y.data.toList (f, ds) = if ansDimTimes ds (ansDimPower us (-nx)) = [] then none else some (powC (un, ud) (-nx) f, ansDimTimes ds (ansDimPower us (-nx))) := by
                  rw [stepS_some HRD.out, HDVB.out]
                  simp [hk1]
                have HST := hidU HF2.out
                rw [hst] at HST
                clear hst HRD HF2
                go_upto_region 29 with fail
                clear hki hk1
                obtain ⟨PW, hPW⟩ : ∃ l, l = ansDimPower us (-nx) := ⟨_, rfl⟩
                have HDP : Hid (∀ W : World, DimIn W uv us → Calls Tryz.prog 74 #[uv, .int .i64 (-nx)] W fun e w' => RowP W PW e w') := fun W h => by rw [hPW]; exact sDimPower_in uv us _ W h
                rw [← hPW] at HST
                clear hPW
                go_wp2_with fail
                refine (HDP.out _ (DimIn.of HUV.out)).mono ?_
                rintro e w6 ⟨pv2, et2, rfl, o2, hb⟩
                replace HM := hidU (HM.out.below hb)
                replace HNV := hidU (HNV.out.below hb)
                replace HHS := hidU (HHS.out.below hb)
                replace HWS := hidU (HWS.out.below hb)
                replace HDV := hidU (HDV.out.below hb)
                replace HG := hidU (HG.out.below hb)
                have HP2 := hidU o2
                obtain ⟨ds2, hds2⟩ : ∃ l, l = ansDimTimes ds PW := ⟨_, rfl⟩
                have HDT : Hid (∀ W : World, DimIn W d ds → DimIn W pv2 PW → Calls Tryz.prog 21 #[d, pv2] W fun e w' => RowP W ds2 e w') := fun W h h2 => by rw [hds2]; exact sDimTimes_in d pv2 ds PW W h h2
                rw [← hds2] at HST
                clear hb o2 hds2 HDP HUV
                go_wp2_with fail
                refine (HDT.out _ (DimIn.of HDV.out.1) (DimIn.of HP2.out)).mono ?_
                rintro e w7 ⟨nd, et3, rfl, o3, hb⟩
                have HND := hidU (Ro.new HM.out o3)
                obtain ⟨an, cn, rfl⟩ := own_shape o3
                replace HM := hidU (HM.out.below hb)
                replace HNV := hidU (HNV.out.below hb)
                replace HHS := hidU (HHS.out.below hb)
                replace HWS := hidU (HWS.out.below hb)
                replace HG := hidU (HG.out.below hb)
                clear hb o3 HDV HP2 HDT HPS
                by_cases hnil : ds2 = []
                · have hl0 : ((ds2.length : Nat) : Int) = 0 := by rw [hnil]; rfl
                  have HNIL := hidU hnil
                  clear hnil
                  have HFN : Hid (ansU FIN = (0, 0, [], false)) := by show _ = _; rw [HST.out, if_pos HNIL.out]; rfl
                  have z0 := HM.out.1.cell (v := .int .i64 0) 0 rfl
                  have z1 := HM.out.1.cell (v := .int .i64 0) 1 rfl
                  have f0 := HM.out.1.frozen 0
                  have f1 := HM.out.1.frozen 1
                  have KZ := hidU ((HM.out.1.set 0 (.int .i64 0)).set 1 (.int .i64 0))
                  go_wp2
                  have y0 := KZ.out.cell (v := .int .i64 0) 0 rfl
                  have y1 := KZ.out.cell (v := .int .i64 0) 1 rfl
                  exact bodyPost_ret (v := .tuple #[.agg #[.int .i64 0, .int .i64 0], .slice (some ⟨nb, 0, none⟩) 0 0, .bool false]) (by simp [results, Tryz.results36, go_sem, y0, y1]) rfl (by rw [HFN.out]; exact ret_none HM.out HNV.out)
                · obtain ⟨ln, hln⟩ : ∃ l, l = ds2.length := ⟨_, rfl⟩
                  have hl0 : ((((ln : Nat) : Int)) == 0) = false := by rw [hln, beq_eq_false_iff_ne]; intro e; exact hnil (List.eq_nil_of_length_eq_zero (by omega))
                  have HLN2 := hidU hln
                  have HST2 : Hid (FIN = restS dvb WR HR (some (powC (un, ud) (-nx) f, ds2))) := by show _ = _; rw [HST.out, if_neg hnil]
                  rw [← hln] at HND ⊢
                  clear hnil hln HST
                  go_wp2
                  go_loopw [14] (fun pp wr => ∃ (q1 : Int) (f1 : Ca), -9 ≤ q1 ∧ q1 ≤ 9 ∧ pp = .int .i64 q1 ∧ Hid (UMem w wr R F K f1) ∧ Hid (Ro w wr R F K 2 (.slice (some ⟨nb, 0, none⟩) 0 0) 0 []) ∧ Hid (Ro w wr R F K 9 (.slice (some ⟨g, 0, none⟩) m co) m (hss.map Value.string)) ∧ Hid (Ro w wr R F K 9 (.slice (some ⟨gw, 0, none⟩) n cw) n (wss.map Value.string)) ∧ Hid (Ro w wr R F K et3 (.slice an ln cn) ln (ds2.map (Value.int .i64))) ∧ Hid (IsB wr G #[.int .i64 un, .int .i64 ud] 25) ∧ Hid (powC (un, ud) (-nx) f = powC (un, ud) q1 f1)) (fun pp _ => (intOf pp).toNat)
                  case atStart => exact ⟨(-nx), f, by omega, by omega, rfl, HM.out, HNV.out, HHS.out, HWS.out, HND.out, HG.out, rfl⟩
                  case round =>
                    clear HM HNV HHS HWS HND HG
                    obtain ⟨q1, f1, hq1, hq2, rfl, HM, HNV, HHS, HWS, HND, HG, HPC⟩ := hrel
                    by_cases hpos : 0 < q1
                    · obtain ⟨mc, hmc⟩ : ∃ g, g = mulC f1 (un, ud) := ⟨_, rfl⟩
                      have hmc2 := HMUL.out
                      have HCC : Hid (∀ W : World, IsK W K f1.2 → Calls Tryz.prog 40 #[.pointer (some ⟨K, 0, none⟩), .agg #[.int .i64 f1.1.1, .int .i64 f1.1.2], .agg #[.int .i64 un, .int .i64 ud]] W fun e w' => e = .returned (.agg #[.int .i64 mc.1.1, .int .i64 mc.1.2]) ∧ IsK w' K mc.2 ∧ W.grownBy w' (some K)) := fun W h => by rw [hmc]; exact hmc2 W f1 (un, ud) h
                      have HPN : Hid (powC (un, ud) (-nx) f = powC (un, ud) (q1 - 1) mc) := by show _ = _; rw [HPC.out, hmc]; exact powC_pos _ hpos _
                      clear hmc2 hmc HPC
                      have q0 := HM.out.2.1.cell (v := .int .i64 f1.1.1) 0 rfl
                      have q3 := HM.out.2.1.cell (v := .int .i64 f1.1.2) 1 rfl
                      have g0 := HG.out.cell (v := .int .i64 un) 0 rfl
                      have g1 := HG.out.cell (v := .int .i64 ud) 1 rfl
                      go_wp2_with fail
                      refine (HCC.out _ HM.out.2.2.1).mono ?_
                      rintro e w8 ⟨rfl, hkk, hg⟩
                      have hFB : IsB w8 F #[.int .i64 f1.1.1, .int .i64 f1.1.2] 25 := (hg.block F HM.out.2.1.lt (by have := HM.out.2.2.2.2.1.2.2; simpa using this)).trans HM.out.2.1
                      have hGB : IsB w8 G #[.int .i64 un, .int .i64 ud] 25 := (hg.block G HG.out.lt (by have := HGF.out.2; simpa using this)).trans HG.out
                      have HMS := hidU (UMem.step HM.out hkk hg)
                      have HNS := hidU (HNV.out.step (x := .int .i64 mc.1.1) (y := .int .i64 mc.1.2) hg)
                      have HHSS := hidU (HHS.out.step (x := .int .i64 mc.1.1) (y := .int .i64 mc.1.2) hg)
                      have HWSS := hidU (HWS.out.step (x := .int .i64 mc.1.1) (y := .int .i64 mc.1.2) hg)
                      have HNDS := hidU (HND.out.step (x := .int .i64 mc.1.1) (y := .int .i64 mc.1.2) hg)
                      have HGS := hidU ((hGB.other HGF.out.1 0 (.int .i64 mc.1.1)).other HGF.out.1 1 (.int .i64 mc.1.2))
                      have z0 := hFB.cell (v := .int .i64 f1.1.1) 0 rfl
                      have z1 := hFB.cell (v := .int .i64 f1.1.2) 1 rfl
                      have y0 := hFB.frozen 0
                      have y1 := hFB.frozen 1
                      clear q0 q3 g0 g1 hFB hGB hkk hg HM HNV HHS HWS HND HG
                      go_wp2
                      go_roundw
                      case rel => exact ⟨(q1 - 1), mc, by omega, by omega, by go_num, HMS.out, HNS.out, HHSS.out, HWSS.out, HNDS.out, HGS.out, HPN.out⟩
                      case measure => (simp [intOf]) <;> omega
                    · go_wp2
                      go_loopw [14] (fun pp wr => ∃ (q2 : Int) (f2 : Ca), -9 ≤ q2 ∧ q2 ≤ 0 ∧ pp = .int .i64 q2 ∧ Hid (UMem w wr R F K f2) ∧ Hid (Ro w wr R F K 2 (.slice (some ⟨nb, 0, none⟩) 0 0) 0 []) ∧ Hid (Ro w wr R F K 9 (.slice (some ⟨g, 0, none⟩) m co) m (hss.map Value.string)) ∧ Hid (Ro w wr R F K 9 (.slice (some ⟨gw, 0, none⟩) n cw) n (wss.map Value.string)) ∧ Hid (Ro w wr R F K et3 (.slice an ln cn) ln (ds2.map (Value.int .i64))) ∧ Hid (IsB wr G #[.int .i64 un, .int .i64 ud] 25) ∧ Hid (powC (un, ud) (-nx) f = powC (un, ud) q2 f2)) (fun pp _ => (-(intOf pp)).toNat)
                      case atStart => exact ⟨q1, f1, by omega, by omega, rfl, HM.out, HNV.out, HHS.out, HWS.out, HND.out, HG.out, HPC.out⟩
                      case round =>
                        clear HM HNV HHS HWS HND HG HPC hq1 hq2 hpos
                        obtain ⟨q2, f2, hq1, hq2, rfl, HM, HNV, HHS, HWS, HND, HG, HPC⟩ := hrel
                        by_cases hneg : q2 < 0
                        · obtain ⟨mc, hmc⟩ : ∃ g, g = divC f2 (un, ud) := ⟨_, rfl⟩
                          have hmc2 := HDIV.out
                          have HCC : Hid (∀ W : World, IsK W K f2.2 → Calls Tryz.prog 45 #[.pointer (some ⟨K, 0, none⟩), .agg #[.int .i64 f2.1.1, .int .i64 f2.1.2], .agg #[.int .i64 un, .int .i64 ud]] W fun e w' => e = .returned (.agg #[.int .i64 mc.1.1, .int .i64 mc.1.2]) ∧ IsK w' K mc.2 ∧ W.grownBy w' (some K)) := fun W h => by rw [hmc]; exact hmc2 W f2 (un, ud) h
                          have HPN : Hid (powC (un, ud) (-nx) f = powC (un, ud) (q2 + 1) mc) := by show _ = _; rw [HPC.out, hmc]; exact powC_neg _ hneg _
                          clear hmc2 hmc HPC
                          have q0 := HM.out.2.1.cell (v := .int .i64 f2.1.1) 0 rfl
                          have q3 := HM.out.2.1.cell (v := .int .i64 f2.1.2) 1 rfl
                          have g0 := HG.out.cell (v := .int .i64 un) 0 rfl
                          have g1 := HG.out.cell (v := .int .i64 ud) 1 rfl
                          go_wp2_with fail
                          refine (HCC.out _ HM.out.2.2.1).mono ?_
                          rintro e w8 ⟨rfl, hkk, hg⟩
                          have hFB : IsB w8 F #[.int .i64 f2.1.1, .int .i64 f2.1.2] 25 := (hg.block F HM.out.2.1.lt (by have := HM.out.2.2.2.2.1.2.2; simpa using this)).trans HM.out.2.1
                          have hGB : IsB w8 G #[.int .i64 un, .int .i64 ud] 25 := (hg.block G HG.out.lt (by have := HGF.out.2; simpa using this)).trans HG.out
                          have HMS := hidU (UMem.step HM.out hkk hg)
                          have HNS := hidU (HNV.out.step (x := .int .i64 mc.1.1) (y := .int .i64 mc.1.2) hg)
                          have HHSS := hidU (HHS.out.step (x := .int .i64 mc.1.1) (y := .int .i64 mc.1.2) hg)
                          have HWSS := hidU (HWS.out.step (x := .int .i64 mc.1.1) (y := .int .i64 mc.1.2) hg)
                          have HNDS := hidU (HND.out.step (x := .int .i64 mc.1.1) (y := .int .i64 mc.1.2) hg)
                          have HGS := hidU ((hGB.other HGF.out.1 0 (.int .i64 mc.1.1)).other HGF.out.1 1 (.int .i64 mc.1.2))
                          have z0 := hFB.cell (v := .int .i64 f2.1.1) 0 rfl
                          have z1 := hFB.cell (v := .int .i64 f2.1.2) 1 rfl
                          have y0 := hFB.frozen 0
                          have y1 := hFB.frozen 1
                          clear q0 q3 g0 g1 hFB hGB hkk hg HM HNV HHS HWS HND HG
                          go_wp2
                          go_roundw
                          case rel => exact ⟨(q2 + 1), mc, by omega, by omega, by go_num, HMS.out, HNS.out, HHSS.out, HWSS.out, HNDS.out, HGS.out, HPN.out⟩
                          case measure => (simp [intOf]) <;> omega
                        · obtain rfl : q2 = 0 := by omega
                          have HPZ : Hid (powC (un, ud) (-nx) f = f2) := HPC.out.trans (powC_zero _ _)
                          clear HPC
                          go_wp2
                          go_roundw
                          case rel =>
                            refine ⟨j + 1, f2, ds2, _, et3, by omega, by go_num, rfl, HM.out, HNV.out, HHS.out, HWS.out, ?_, ?_⟩
                            · show Ro _ _ _ _ _ _ _ _ _
                              have h3 := HND.out
                              rw [HLN2.out] at h3 ⊢
                              exact h3
                            · show FIN = _
                              rw [HST2.out, HPZ.out, HWR.out]
                          case measure => (simp [intOf]) <;> omega
              · have hki : ((k : Int) == 1) = false := by simp; omega
                have hst : stepS dvb y.data.toList (f, ds) = if ansDimTimes ds (ansDimPower us nx) = [] then none else some (powC (un, ud) nx f, ansDimTimes ds (ansDimPower us nx)) := by
                  rw [stepS_some HRD.out, HDVB.out]
                  simp [hk1]
                have HST := hidU HF2.out
                rw [hst] at HST
                clear hst HRD HF2
                go_upto_region 29 with fail
                clear hki hk1
                obtain ⟨PW, hPW⟩ : ∃ l, l = ansDimPower us nx := ⟨_, rfl⟩
                have HDP : Hid (∀ W : World, DimIn W uv us → Calls Tryz.prog 74 #[uv, .int .i64 nx] W fun e w' => RowP W PW e w') := fun W h => by rw [hPW]; exact sDimPower_in uv us _ W h
                rw [← hPW] at HST
                clear hPW
                go_wp2_with fail
                refine (HDP.out _ (DimIn.of HUV.out)).mono ?_
                rintro e w6 ⟨pv2, et2, rfl, o2, hb⟩
                replace HM := hidU (HM.out.below hb)
                replace HNV := hidU (HNV.out.below hb)
                replace HHS := hidU (HHS.out.below hb)
                replace HWS := hidU (HWS.out.below hb)
                replace HDV := hidU (HDV.out.below hb)
                replace HG := hidU (HG.out.below hb)
                have HP2 := hidU o2
                obtain ⟨ds2, hds2⟩ : ∃ l, l = ansDimTimes ds PW := ⟨_, rfl⟩
                have HDT : Hid (∀ W : World, DimIn W d ds → DimIn W pv2 PW → Calls Tryz.prog 21 #[d, pv2] W fun e w' => RowP W ds2 e w') := fun W h h2 => by rw [hds2]; exact sDimTimes_in d pv2 ds PW W h h2
                rw [← hds2] at HST
                clear hb o2 hds2 HDP HUV
                go_wp2_with fail
                refine (HDT.out _ (DimIn.of HDV.out.1) (DimIn.of HP2.out)).mono ?_
                rintro e w7 ⟨nd, et3, rfl, o3, hb⟩
                have HND := hidU (Ro.new HM.out o3)
                obtain ⟨an, cn, rfl⟩ := own_shape o3
                replace HM := hidU (HM.out.below hb)
                replace HNV := hidU (HNV.out.below hb)
                replace HHS := hidU (HHS.out.below hb)
                replace HWS := hidU (HWS.out.below hb)
                replace HG := hidU (HG.out.below hb)
                clear hb o3 HDV HP2 HDT HPS
                by_cases hnil : ds2 = []
                · have hl0 : ((ds2.length : Nat) : Int) = 0 := by rw [hnil]; rfl
                  have HNIL := hidU hnil
                  clear hnil
                  have HFN : Hid (ansU FIN = (0, 0, [], false)) := by show _ = _; rw [HST.out, if_pos HNIL.out]; rfl
                  have z0 := HM.out.1.cell (v := .int .i64 0) 0 rfl
                  have z1 := HM.out.1.cell (v := .int .i64 0) 1 rfl
                  have f0 := HM.out.1.frozen 0
                  have f1 := HM.out.1.frozen 1
                  have KZ := hidU ((HM.out.1.set 0 (.int .i64 0)).set 1 (.int .i64 0))
                  go_wp2
                  have y0 := KZ.out.cell (v := .int .i64 0) 0 rfl
                  have y1 := KZ.out.cell (v := .int .i64 0) 1 rfl
                  exact bodyPost_ret (v := .tuple #[.agg #[.int .i64 0, .int .i64 0], .slice (some ⟨nb, 0, none⟩) 0 0, .bool false]) (by simp [results, Tryz.results36, go_sem, y0, y1]) rfl (by rw [HFN.out]; exact ret_none HM.out HNV.out)
                · obtain ⟨ln, hln⟩ : ∃ l, l = ds2.length := ⟨_, rfl⟩
                  have hl0 : ((((ln : Nat) : Int)) == 0) = false := by rw [hln, beq_eq_false_iff_ne]; intro e; exact hnil (List.eq_nil_of_length_eq_zero (by omega))
                  have HLN2 := hidU hln
                  have HST2 : Hid (FIN = restS dvb WR HR (some (powC (un, ud) nx f, ds2))) := by show _ = _; rw [HST.out, if_neg hnil]
                  rw [← hln] at HND ⊢
                  clear hnil hln HST
                  go_wp2
                  go_loopw [14] (fun pp wr => ∃ (q1 : Int) (f1 : Ca), -9 ≤ q1 ∧ q1 ≤ 9 ∧ pp = .int .i64 q1 ∧ Hid (UMem w wr R F K f1) ∧ Hid (Ro w wr R F K 2 (.slice (some ⟨nb, 0, none⟩) 0 0) 0 []) ∧ Hid (Ro w wr R F K 9 (.slice (some ⟨g, 0, none⟩) m co) m (hss.map Value.string)) ∧ Hid (Ro w wr R F K 9 (.slice (some ⟨gw, 0, none⟩) n cw) n (wss.map Value.string)) ∧ Hid (Ro w wr R F K et3 (.slice an ln cn) ln (ds2.map (Value.int .i64))) ∧ Hid (IsB wr G #[.int .i64 un, .int .i64 ud] 25) ∧ Hid (powC (un, ud) nx f = powC (un, ud) q1 f1)) (fun pp _ => (intOf pp).toNat)
                  case atStart => exact ⟨nx, f, by omega, by omega, rfl, HM.out, HNV.out, HHS.out, HWS.out, HND.out, HG.out, rfl⟩
                  case round =>
                    clear HM HNV HHS HWS HND HG
                    obtain ⟨q1, f1, hq1, hq2, rfl, HM, HNV, HHS, HWS, HND, HG, HPC⟩ := hrel
                    by_cases hpos : 0 < q1
                    · obtain ⟨mc, hmc⟩ : ∃ g, g = mulC f1 (un, ud) := ⟨_, rfl⟩
                      have hmc2 := HMUL.out
                      have HCC : Hid (∀ W : World, IsK W K f1.2 → Calls Tryz.prog 40 #[.pointer (some ⟨K, 0, none⟩), .agg #[.int .i64 f1.1.1, .int .i64 f1.1.2], .agg #[.int .i64 un, .int .i64 ud]] W fun e w' => e = .returned (.agg #[.int .i64 mc.1.1, .int .i64 mc.1.2]) ∧ IsK w' K mc.2 ∧ W.grownBy w' (some K)) := fun W h => by rw [hmc]; exact hmc2 W f1 (un, ud) h
                      have HPN : Hid (powC (un, ud) nx f = powC (un, ud) (q1 - 1) mc) := by show _ = _; rw [HPC.out, hmc]; exact powC_pos _ hpos _
                      clear hmc2 hmc HPC
                      have q0 := HM.out.2.1.cell (v := .int .i64 f1.1.1) 0 rfl
                      have q3 := HM.out.2.1.cell (v := .int .i64 f1.1.2) 1 rfl
                      have g0 := HG.out.cell (v := .int .i64 un) 0 rfl
                      have g1 := HG.out.cell (v := .int .i64 ud) 1 rfl
                      go_wp2_with fail
                      refine (HCC.out _ HM.out.2.2.1).mono ?_
                      rintro e w8 ⟨rfl, hkk, hg⟩
                      have hFB : IsB w8 F #[.int .i64 f1.1.1, .int .i64 f1.1.2] 25 := (hg.block F HM.out.2.1.lt (by have := HM.out.2.2.2.2.1.2.2; simpa using this)).trans HM.out.2.1
                      have hGB : IsB w8 G #[.int .i64 un, .int .i64 ud] 25 := (hg.block G HG.out.lt (by have := HGF.out.2; simpa using this)).trans HG.out
                      have HMS := hidU (UMem.step HM.out hkk hg)
                      have HNS := hidU (HNV.out.step (x := .int .i64 mc.1.1) (y := .int .i64 mc.1.2) hg)
                      have HHSS := hidU (HHS.out.step (x := .int .i64 mc.1.1) (y := .int .i64 mc.1.2) hg)
                      have HWSS := hidU (HWS.out.step (x := .int .i64 mc.1.1) (y := .int .i64 mc.1.2) hg)
                      have HNDS := hidU (HND.out.step (x := .int .i64 mc.1.1) (y := .int .i64 mc.1.2) hg)
                      have HGS := hidU ((hGB.other HGF.out.1 0 (.int .i64 mc.1.1)).other HGF.out.1 1 (.int .i64 mc.1.2))
                      have z0 := hFB.cell (v := .int .i64 f1.1.1) 0 rfl
                      have z1 := hFB.cell (v := .int .i64 f1.1.2) 1 rfl
                      have y0 := hFB.frozen 0
                      have y1 := hFB.frozen 1
                      clear q0 q3 g0 g1 hFB hGB hkk hg HM HNV HHS HWS HND HG
                      go_wp2
                      go_roundw
                      case rel => exact ⟨(q1 - 1), mc, by omega, by omega, by go_num, HMS.out, HNS.out, HHSS.out, HWSS.out, HNDS.out, HGS.out, HPN.out⟩
                      case measure => (simp [intOf]) <;> omega
                    · go_wp2
                      go_loopw [14] (fun pp wr => ∃ (q2 : Int) (f2 : Ca), -9 ≤ q2 ∧ q2 ≤ 0 ∧ pp = .int .i64 q2 ∧ Hid (UMem w wr R F K f2) ∧ Hid (Ro w wr R F K 2 (.slice (some ⟨nb, 0, none⟩) 0 0) 0 []) ∧ Hid (Ro w wr R F K 9 (.slice (some ⟨g, 0, none⟩) m co) m (hss.map Value.string)) ∧ Hid (Ro w wr R F K 9 (.slice (some ⟨gw, 0, none⟩) n cw) n (wss.map Value.string)) ∧ Hid (Ro w wr R F K et3 (.slice an ln cn) ln (ds2.map (Value.int .i64))) ∧ Hid (IsB wr G #[.int .i64 un, .int .i64 ud] 25) ∧ Hid (powC (un, ud) nx f = powC (un, ud) q2 f2)) (fun pp _ => (-(intOf pp)).toNat)
                      case atStart => exact ⟨q1, f1, by omega, by omega, rfl, HM.out, HNV.out, HHS.out, HWS.out, HND.out, HG.out, HPC.out⟩
                      case round =>
                        clear HM HNV HHS HWS HND HG HPC hq1 hq2 hpos
                        obtain ⟨q2, f2, hq1, hq2, rfl, HM, HNV, HHS, HWS, HND, HG, HPC⟩ := hrel
                        by_cases hneg : q2 < 0
                        · obtain ⟨mc, hmc⟩ : ∃ g, g = divC f2 (un, ud) := ⟨_, rfl⟩
                          have hmc2 := HDIV.out
                          have HCC : Hid (∀ W : World, IsK W K f2.2 → Calls Tryz.prog 45 #[.pointer (some ⟨K, 0, none⟩), .agg #[.int .i64 f2.1.1, .int .i64 f2.1.2], .agg #[.int .i64 un, .int .i64 ud]] W fun e w' => e = .returned (.agg #[.int .i64 mc.1.1, .int .i64 mc.1.2]) ∧ IsK w' K mc.2 ∧ W.grownBy w' (some K)) := fun W h => by rw [hmc]; exact hmc2 W f2 (un, ud) h
                          have HPN : Hid (powC (un, ud) nx f = powC (un, ud) (q2 + 1) mc) := by show _ = _; rw [HPC.out, hmc]; exact powC_neg _ hneg _
                          clear hmc2 hmc HPC
                          have q0 := HM.out.2.1.cell (v := .int .i64 f2.1.1) 0 rfl
                          have q3 := HM.out.2.1.cell (v := .int .i64 f2.1.2) 1 rfl
                          have g0 := HG.out.cell (v := .int .i64 un) 0 rfl
                          have g1 := HG.out.cell (v := .int .i64 ud) 1 rfl
                          go_wp2_with fail
                          refine (HCC.out _ HM.out.2.2.1).mono ?_
                          rintro e w8 ⟨rfl, hkk, hg⟩
                          have hFB : IsB w8 F #[.int .i64 f2.1.1, .int .i64 f2.1.2] 25 := (hg.block F HM.out.2.1.lt (by have := HM.out.2.2.2.2.1.2.2; simpa using this)).trans HM.out.2.1
                          have hGB : IsB w8 G #[.int .i64 un, .int .i64 ud] 25 := (hg.block G HG.out.lt (by have := HGF.out.2; simpa using this)).trans HG.out
                          have HMS := hidU (UMem.step HM.out hkk hg)
                          have HNS := hidU (HNV.out.step (x := .int .i64 mc.1.1) (y := .int .i64 mc.1.2) hg)
                          have HHSS := hidU (HHS.out.step (x := .int .i64 mc.1.1) (y := .int .i64 mc.1.2) hg)
                          have HWSS := hidU (HWS.out.step (x := .int .i64 mc.1.1) (y := .int .i64 mc.1.2) hg)
                          have HNDS := hidU (HND.out.step (x := .int .i64 mc.1.1) (y := .int .i64 mc.1.2) hg)
                          have HGS := hidU ((hGB.other HGF.out.1 0 (.int .i64 mc.1.1)).other HGF.out.1 1 (.int .i64 mc.1.2))
                          have z0 := hFB.cell (v := .int .i64 f2.1.1) 0 rfl
                          have z1 := hFB.cell (v := .int .i64 f2.1.2) 1 rfl
                          have y0 := hFB.frozen 0
                          have y1 := hFB.frozen 1
                          clear q0 q3 g0 g1 hFB hGB hkk hg HM HNV HHS HWS HND HG
                          go_wp2
                          go_roundw
                          case rel => exact ⟨(q2 + 1), mc, by omega, by omega, by go_num, HMS.out, HNS.out, HHSS.out, HWSS.out, HNDS.out, HGS.out, HPN.out⟩
                          case measure => (simp [intOf]) <;> omega
                        · obtain rfl : q2 = 0 := by omega
                          have HPZ : Hid (powC (un, ud) nx f = f2) := HPC.out.trans (powC_zero _ _)
                          clear HPC
                          go_wp2
                          go_roundw
                          case rel =>
                            refine ⟨j + 1, f2, ds2, _, et3, by omega, by go_num, rfl, HM.out, HNV.out, HHS.out, HWS.out, ?_, ?_⟩
                            · show Ro _ _ _ _ _ _ _ _ _
                              have h3 := HND.out
                              rw [HLN2.out] at h3 ⊢
                              exact h3
                            · show FIN = _
                              rw [HST2.out, HPZ.out, HWR.out]
                          case measure => (simp [intOf]) <;> omega
            · have hin : inB nx (-9) 9 = false := inB_no hr
              have HPN : Hid (powX z.data.toList = none) := by show _ = _; rw [HPX.out, if_neg (fun h => hr h.2.2)]
              have HRN : Hid (rdS y.data.toList = none) := by
                have hp0 : 0 < pss.length := by rw [← HQN.out]; exact HQ0.out
                show _ = _
                rw [rdS_two (HS2.out _ ⟨hp0, rfl⟩), HPN.out]
              rw [hin] at HIN
              clear hin hr
              go_wp2_with fail
              refine (HIN.out _).mono ?_
              rintro e w10 ⟨rfl, hw⟩
              obtain rfl := hw.symm
              clear hw hn0
              have HFN : Hid (ansU FIN = (0, 0, [], false)) := by show _ = _; rw [HF2.out, stepS_none HRN.out]; rfl
              have z0 := HM.out.1.cell (v := .int .i64 0) 0 rfl
              have z1 := HM.out.1.cell (v := .int .i64 0) 1 rfl
              have f0 := HM.out.1.frozen 0
              have f1 := HM.out.1.frozen 1
              have KZ := hidU ((HM.out.1.set 0 (.int .i64 0)).set 1 (.int .i64 0))
              go_wp2
              have y0 := KZ.out.cell (v := .int .i64 0) 0 rfl
              have y1 := KZ.out.cell (v := .int .i64 0) 1 rfl
              exact bodyPost_ret (v := .tuple #[.agg #[.int .i64 0, .int .i64 0], .slice (some ⟨nb, 0, none⟩) 0 0, .bool false]) (by simp [results, Tryz.results36, go_sem, y0, y1]) rfl (by rw [HFN.out]; exact ret_none HM.out HNV.out)
          · have hqi : ((q : Int) == 2) = false := by simp; omega
            have hqg : (2 : Int) < q := by omega
            have HRN : Hid (rdS y.data.toList = none) := by
              have h3 : 3 ≤ pss.length := by rw [← HQN.out]; omega
              show _ = _
              match pss, h3, HPMAP.out with
              | b :: c :: e :: t, _, h4 => exact rdS_more h4.symm
            clear hsp0 hq1 hq2
            go_upto_region 24 with fail
            have hp0 : 0 < pss.length := by rw [← HQN.out]; exact HQ0.out
            have d0 := HPS.out.str 0 hp0
            obtain ⟨WU, hWU⟩ : ∃ r, r = wordS (pss[0]'hp0).data.toList := ⟨_, rfl⟩
            have HWC : Hid (∀ W : World, Calls Tryz.prog 73 #[.string (pss[0]'hp0)] W fun e w' => ∃ v, e = .returned (.tuple #[.agg #[.int .i64 WU.1, .int .i64 WU.2.1], v, .bool WU.2.2.2]) ∧ w'.ownsRow W.heap.size 2 1 v WU.2.2.1.length (WU.2.2.1.map (Value.int .i64)) ∧ Below W.heap.size W w') := fun W => by rw [hWU]; exact sWord_any _ W
            obtain ⟨a, ha⟩ : ∃ a, a = pss[0]'hp0 := ⟨_, rfl⟩
            rw [← ha] at d0 HWC hWU
            have HAX : Hid (∃ h : 0 < pss.length, a = pss[0]'h) := ⟨hp0, ha⟩
            have HWU := hidU hWU
            clear hp0 hWU ha
            obtain ⟨un, ud, us, ub⟩ := WU
            simp only at HWC
            go_wp2_with fail
            refine (HWC.out _).mono ?_
            rintro e w5 ⟨uv, rfl, hov, hb⟩
            replace HM := hidU (HM.out.below hb)
            replace HNV := hidU (HNV.out.below hb)
            replace HHS := hidU (HHS.out.below hb)
            replace HWS := hidU (HWS.out.below hb)
            replace HPS := hidU (HPS.out.below hb)
            replace HDV := hidU (HDV.out.below hb)
            have HUV := hidU hov
            clear hb hov d0 HWC
            go_upto_region 25 with fail
            obtain ⟨G, hG⟩ : ∃ F, F = w5.heap.size := ⟨_, rfl⟩
            obtain ⟨V5, hV⟩ : ∃ X, X = w5.alloc (.cells #[.int .i64 un, .int .i64 ud] 25) := ⟨_, rfl⟩
            have hb : Below w5.heap.size w5 V5 := by rw [hV]; exact b0 _ _
            have HG : Hid (IsB V5 G #[.int .i64 un, .int .i64 ud] 25) := by show IsB _ _ _ _; rw [hV, hG]; exact IsB.new _ _ _
            have HGF : Hid (G ≠ F ∧ G ≠ K) := by
              have h3 := HM.out.2.1.lt
              have h4 := HM.out.2.2.1.lt
              show _ ∧ _
              rw [hG]
              omega
            replace HM := hidU (HM.out.below hb)
            replace HNV := hidU (HNV.out.below hb)
            replace HHS := hidU (HHS.out.below hb)
            replace HWS := hidU (HWS.out.below hb)
            replace HPS := hidU (HPS.out.below hb)
            replace HDV := hidU (HDV.out.below hb)
            replace HUV := hidU (own_below HUV.out hb)
            rw [← hV, ← hG]
            clear hb hV hG
            cases ub
            · have HFN : Hid (ansU FIN = (0, 0, [], false)) := by show _ = _; rw [HF2.out, stepS_none HRN.out]; rfl
              have z0 := HM.out.1.cell (v := .int .i64 0) 0 rfl
              have z1 := HM.out.1.cell (v := .int .i64 0) 1 rfl
              have f0 := HM.out.1.frozen 0
              have f1 := HM.out.1.frozen 1
              have KZ := hidU ((HM.out.1.set 0 (.int .i64 0)).set 1 (.int .i64 0))
              go_wp2
              have y0 := KZ.out.cell (v := .int .i64 0) 0 rfl
              have y1 := KZ.out.cell (v := .int .i64 0) 1 rfl
              exact bodyPost_ret (v := .tuple #[.agg #[.int .i64 0, .int .i64 0], .slice (some ⟨nb, 0, none⟩) 0 0, .bool false]) (by simp [results, Tryz.results36, go_sem, y0, y1]) rfl (by rw [HFN.out]; exact ret_none HM.out HNV.out)
            · have HFN : Hid (ansU FIN = (0, 0, [], false)) := by show _ = _; rw [HF2.out, stepS_none HRN.out]; rfl
              have z0 := HM.out.1.cell (v := .int .i64 0) 0 rfl
              have z1 := HM.out.1.cell (v := .int .i64 0) 1 rfl
              have f0 := HM.out.1.frozen 0
              have f1 := HM.out.1.frozen 1
              have KZ := hidU ((HM.out.1.set 0 (.int .i64 0)).set 1 (.int .i64 0))
              go_wp2
              have y0 := KZ.out.cell (v := .int .i64 0) 0 rfl
              have y1 := KZ.out.cell (v := .int .i64 0) 1 rfl
              exact bodyPost_ret (v := .tuple #[.agg #[.int .i64 0, .int .i64 0], .slice (some ⟨nb, 0, none⟩) 0 0, .bool false]) (by simp [results, Tryz.results36, go_sem, y0, y1]) rfl (by rw [HFN.out]; exact ret_none HM.out HNV.out)
        · have HF4 : Hid (FIN = halvesS HR true (f, ds)) := by
            have h := HFIN.out
            rw [List.drop_of_length_le (by rw [← HNLEN.out]; omega), restS_nil] at h
            exact h
          clear HFIN
          go_wp2
          go_roundw
          case rel =>
            refine ⟨k + 1, f, ds, _, et, by omega, by go_num, rfl, HM.out, HNV.out, HHS.out, HDV.out, ?_⟩
            show FIN = _
            rw [HF4.out, HHR.out]
            by_cases hk0 : k = 0
            · subst hk0; rfl
            · rw [List.drop_of_length_le (by have h3 := HM2.out; have h4 := HMLEN.out; omega)]
              rfl
          case measure => (simp [intOf]) <;> omega
    · have HF4 : Hid (FIN = some (f, ds)) := by
        have h := HFIN.out
        rw [List.drop_of_length_le (by rw [← HMLEN.out]; omega)] at h
        exact h
      have kc := HM.out.2.2.1.cell
      obtain ⟨⟨fn, fd⟩, bd⟩ := f
      cases bd
      · have HFN : Hid (ansU FIN = (fn, fd, ds, true)) := by show _ = _; rw [HF4.out]; rfl
        have z0 := HM.out.1.cell (v := .int .i64 0) 0 rfl
        have z1 := HM.out.1.cell (v := .int .i64 0) 1 rfl
        have f0 := HM.out.1.frozen 0
        have f1 := HM.out.1.frozen 1
        have q0 := HM.out.2.1.cell (v := .int .i64 fn) 0 rfl
        have q1 := HM.out.2.1.cell (v := .int .i64 fd) 1 rfl
        have KZ := hidU ((HM.out.1.set 0 (.int .i64 fn)).set 1 (.int .i64 fd))
        go_wp2
        have y0 := KZ.out.cell (v := .int .i64 fn) 0 rfl
        have y1 := KZ.out.cell (v := .int .i64 fd) 1 rfl
        exact bodyPost_ret (v := .tuple #[.agg #[.int .i64 fn, .int .i64 fd], d, .bool true]) (by simp [results, Tryz.results36, go_sem, y0, y1]) rfl (by rw [HFN.out]; exact ret_some HM.out HDV.out)
      · have HFN : Hid (ansU FIN = (0, 0, [], false)) := by show _ = _; rw [HF4.out]; rfl
        have z0 := HM.out.1.cell (v := .int .i64 0) 0 rfl
        have z1 := HM.out.1.cell (v := .int .i64 0) 1 rfl
        have f0 := HM.out.1.frozen 0
        have f1 := HM.out.1.frozen 1
        have KZ := hidU ((HM.out.1.set 0 (.int .i64 0)).set 1 (.int .i64 0))
        go_wp2
        have y0 := KZ.out.cell (v := .int .i64 0) 0 rfl
        have y1 := KZ.out.cell (v := .int .i64 0) 1 rfl
        exact bodyPost_ret (v := .tuple #[.agg #[.int .i64 0, .int .i64 0], .slice (some ⟨nb, 0, none⟩) 0 0, .bool false]) (by simp [results, Tryz.results36, go_sem, y0, y1]) rfl (by rw [HFN.out]; exact ret_none HM.out HNV.out)
theorem sUnitOf_any (s : ByteArray) (w : World) (hs : s.size ≤ 1048576) :
    Calls Tryz.prog 36 #[.string s] w fun e w' => UofP w (ansU (unitM s.data.toList)) e w' := by
  by_cases h1 : s.data.toList = [49]
  · exact sUnitOf_one s w h1
  · exact sUnitOf_more s w hs h1
end Go.Proofs.YtnhefbhiemdhoaaGreat
