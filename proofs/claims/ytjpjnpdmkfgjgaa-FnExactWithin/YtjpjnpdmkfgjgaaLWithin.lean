/- The walk of the law of Within: both answer the same. -/
import Derived.Test.YtjpjnpdmkfgjgaaRngL0
namespace Go.Proofs.Ytjpjnpdmkfgjgaa
open Go.RowKit Go.Proofs.Ytjpjnpdmkfgjgaa.RM

set_option maxRecDepth 100000 in
set_option maxHeartbeats 4000000 in
theorem lawWithin (a b c d n m : Int) (w : World) :
    Calls Try.prog 6 #[.agg #[.int .i64 a, .int .i64 b, .int .i64 c, .int .i64 d], .agg #[.int .i64 n, .int .i64 m]] w fun e w' => e = .returned (.bool true) ∧ Below w.heap.size w w' := by
  have HS := hidU (fun W => sWithin_any a b c d n m W)
  have HI := hidU (fun W => iWithin_any a b c d n m W)
  have HT0 := hidU (fun W => toRng_any a b c d W)
  have HT1 := hidU (fun W => to_any n m W)
  obtain ⟨r, hr⟩ : ∃ x, x = within7 (a, b) (c, d) (n, m) := ⟨_, rfl⟩
  rw [← hr] at HS HI
  clear hr
  have hok : (r != r) = false := by simp
  go_enter Try.func6, Try.ntmps6
  go_upto_region 1 with fail
  obtain ⟨W0, hW⟩ : ∃ Y, Y = (w.alloc (.cells #[.int .i64 a, .int .i64 b, .int .i64 c, .int .i64 d] 25)).alloc (.cells #[.int .i64 n, .int .i64 m] 23) := ⟨_, rfl⟩
  obtain ⟨P, hP⟩ : ∃ P, P = w.heap.size := ⟨_, rfl⟩
  have K0 : Hid (IsB W0 P #[.int .i64 a, .int .i64 b, .int .i64 c, .int .i64 d] 25) := by show IsB _ _ _ _; rw [hW, hP]; exact (IsB.new w _ _).below (b0_any _ _)
  have K1 : Hid (IsB W0 (P + 1) #[.int .i64 n, .int .i64 m] 23) := by show IsB _ _ _ _; rw [hW, hP]; exact IsB.new2c w _ _ _
  have HB : Hid (Below w.heap.size w W0) := by show Below _ _ _; rw [hW]; exact (b0_any w _).alloc (by simp) _
  rw [← hW, ← hP]
  clear hW
  obtain ⟨Q, hQ⟩ : ∃ Q, Q = P + 1 := ⟨_, rfl⟩
  rw [← hQ] at K1 ⊢
  clear hP hQ
  have hb := (Below.refl W0.heap.size W0).drew
  replace K0 := hidU (K0.out.below hb)
  replace K1 := hidU (K1.out.below hb)
  replace HB := hidU (HB.out.trans (hb.mono HB.out.size))
  clear hb
  refine wp_region_noPanic ?_
  refine wp_region_held_drew (S := fun W => IsB W P #[.int .i64 a, .int .i64 b, .int .i64 c, .int .i64 d] 25 ∧ IsB W Q #[.int .i64 n, .int .i64 m] 23) (by kernel_rfl) ⟨K0.out, K1.out⟩ (fun hHeld => ?_)
  obtain ⟨wd1, hwd⟩ : ∃ u, u = W0.drew := ⟨_, rfl⟩
  rw [← hwd] at K0 K1 HB hHeld ⊢
  clear hwd
  refine wpAnyH_take (i := 0) (v := ?_) rfl (by kernel_rfl) (by kernel_rfl) (by kernel_rfl) (fun _ _ _ h => h) (Or.inl ⟨by kernel_rfl, ?_⟩) hHeld ?_
  rotate_left
  · intro wz hSw; obtain ⟨hS0, hS1⟩ := hSw; obtain ⟨p0, p1, p2, p3⟩ := hS0.c4; obtain ⟨q0, q1⟩ := hS1.c2; clear hS0 hS1; go_simp; all_goals (try with_reducible rfl)
  (try simp only [List.getElem_toArray]); (try simp only [List.getElem_cons_succ]); (try simp only [List.getElem_cons_zero]); (try simp only [Act.put]); (try simp only [List.setIfInBounds_toArray]); (try simp only [List.set_cons_succ]); (try simp only [List.set_cons_zero])
  refine wpAnyH_take (i := 2) (v := ?_) rfl (by kernel_rfl) (by kernel_rfl) (by kernel_rfl) (fun _ _ _ h => h) (Or.inl ⟨by kernel_rfl, ?_⟩) hHeld ?_
  rotate_left
  · intro wz hSw; obtain ⟨hS0, hS1⟩ := hSw; obtain ⟨p0, p1, p2, p3⟩ := hS0.c4; obtain ⟨q0, q1⟩ := hS1.c2; clear hS0 hS1; go_simp; all_goals (try with_reducible rfl)
  (try simp only [List.getElem_toArray]); (try simp only [List.getElem_cons_succ]); (try simp only [List.getElem_cons_zero]); (try simp only [Act.put]); (try simp only [List.setIfInBounds_toArray]); (try simp only [List.set_cons_succ]); (try simp only [List.set_cons_zero])
  refine wpAnyH_ready (rs := [1]) (by kernel_rfl) (by simp) (AllReadyH.cons rfl (fun Kc hKc => ?_) AllReadyH.nil)
  go_simp
  refine (HT0.out _).mono ?_
  rintro e u10 ⟨rfl, hb⟩
  replace K0 := hidU (K0.out.below hb)
  replace K1 := hidU (K1.out.below hb)
  replace HB := hidU (HB.out.trans (hb.mono HB.out.size))
  clear hb
  go_wp2_with fail
  refine hKc.out _ _ ⟨K0.out, K1.out⟩ (fun hHeld => ?_)
  clear hKc Kc
  (try simp only [List.getElem_toArray]); (try simp only [List.getElem_cons_succ]); (try simp only [List.getElem_cons_zero]); (try simp only [Act.put]); (try simp only [List.setIfInBounds_toArray]); (try simp only [List.set_cons_succ]); (try simp only [List.set_cons_zero])
  refine wpAnyH_ready (rs := [3]) (by kernel_rfl) (by simp) (AllReadyH.cons rfl (fun Kc hKc => ?_) AllReadyH.nil)
  go_simp
  refine (HT1.out _).mono ?_
  rintro e u11 ⟨rfl, hb⟩
  replace K0 := hidU (K0.out.below hb)
  replace K1 := hidU (K1.out.below hb)
  replace HB := hidU (HB.out.trans (hb.mono HB.out.size))
  clear hb
  go_wp2_with fail
  refine hKc.out _ _ ⟨K0.out, K1.out⟩ (fun hHeld => ?_)
  clear hKc Kc
  (try simp only [List.getElem_toArray]); (try simp only [List.getElem_cons_succ]); (try simp only [List.getElem_cons_zero]); (try simp only [Act.put]); (try simp only [List.setIfInBounds_toArray]); (try simp only [List.set_cons_succ]); (try simp only [List.set_cons_zero])
  refine wpAnyH_ready (rs := [4]) (by kernel_rfl) (by simp) (AllReadyH.cons rfl (fun Kc hKc => ?_) AllReadyH.nil)
  go_simp
  refine (HS.out _).mono ?_
  rintro e u12 ⟨rfl, hb⟩
  replace K0 := hidU (K0.out.below hb)
  replace K1 := hidU (K1.out.below hb)
  replace HB := hidU (HB.out.trans (hb.mono HB.out.size))
  clear hb
  go_wp2_with fail
  refine hKc.out _ _ ⟨K0.out, K1.out⟩ (fun hHeld => ?_)
  clear hKc Kc
  (try simp only [List.getElem_toArray]); (try simp only [List.getElem_cons_succ]); (try simp only [List.getElem_cons_zero]); (try simp only [Act.put]); (try simp only [List.setIfInBounds_toArray]); (try simp only [List.set_cons_succ]); (try simp only [List.set_cons_zero])
  refine wpAnyH_take (i := 5) (v := ?_) rfl (by kernel_rfl) (by kernel_rfl) (by kernel_rfl) (fun _ _ _ h => h) (Or.inl ⟨by kernel_rfl, ?_⟩) hHeld ?_
  rotate_left
  · intro wz hSw; obtain ⟨hS0, hS1⟩ := hSw; obtain ⟨p0, p1, p2, p3⟩ := hS0.c4; obtain ⟨q0, q1⟩ := hS1.c2; clear hS0 hS1; go_simp; all_goals (try with_reducible rfl)
  (try simp only [List.getElem_toArray]); (try simp only [List.getElem_cons_succ]); (try simp only [List.getElem_cons_zero]); (try simp only [Act.put]); (try simp only [List.setIfInBounds_toArray]); (try simp only [List.set_cons_succ]); (try simp only [List.set_cons_zero])
  refine wpAnyH_done (by kernel_rfl) ?_ _
  refine NoPanic.normal ?_
  clear hHeld
  go_upto_region 2 with fail
  have hb := (Below.refl u12.heap.size u12).drew
  replace K0 := hidU (K0.out.below hb)
  replace K1 := hidU (K1.out.below hb)
  replace HB := hidU (HB.out.trans (hb.mono HB.out.size))
  clear hb
  refine wp_region_noPanic ?_
  refine wp_region_held_drew (S := fun W => IsB W P #[.int .i64 a, .int .i64 b, .int .i64 c, .int .i64 d] 25 ∧ IsB W Q #[.int .i64 n, .int .i64 m] 23) (by kernel_rfl) ⟨K0.out, K1.out⟩ (fun hHeld => ?_)
  obtain ⟨wd2, hwd⟩ : ∃ u, u = u12.drew := ⟨_, rfl⟩
  rw [← hwd] at K0 K1 HB hHeld ⊢
  clear hwd
  refine wpAnyH_take (i := 0) (v := ?_) rfl (by kernel_rfl) (by kernel_rfl) (by kernel_rfl) (fun _ _ _ h => h) (Or.inl ⟨by kernel_rfl, ?_⟩) hHeld ?_
  rotate_left
  · intro wz hSw; obtain ⟨hS0, hS1⟩ := hSw; obtain ⟨p0, p1, p2, p3⟩ := hS0.c4; obtain ⟨q0, q1⟩ := hS1.c2; clear hS0 hS1; go_simp; all_goals (try with_reducible rfl)
  (try simp only [List.getElem_toArray]); (try simp only [List.getElem_cons_succ]); (try simp only [List.getElem_cons_zero]); (try simp only [Act.put]); (try simp only [List.setIfInBounds_toArray]); (try simp only [List.set_cons_succ]); (try simp only [List.set_cons_zero])
  refine wpAnyH_take (i := 2) (v := ?_) rfl (by kernel_rfl) (by kernel_rfl) (by kernel_rfl) (fun _ _ _ h => h) (Or.inl ⟨by kernel_rfl, ?_⟩) hHeld ?_
  rotate_left
  · intro wz hSw; obtain ⟨hS0, hS1⟩ := hSw; obtain ⟨p0, p1, p2, p3⟩ := hS0.c4; obtain ⟨q0, q1⟩ := hS1.c2; clear hS0 hS1; go_simp; all_goals (try with_reducible rfl)
  (try simp only [List.getElem_toArray]); (try simp only [List.getElem_cons_succ]); (try simp only [List.getElem_cons_zero]); (try simp only [Act.put]); (try simp only [List.setIfInBounds_toArray]); (try simp only [List.set_cons_succ]); (try simp only [List.set_cons_zero])
  refine wpAnyH_ready (rs := [1]) (by kernel_rfl) (by simp) (AllReadyH.cons rfl (fun Kc hKc => ?_) AllReadyH.nil)
  go_simp
  refine (HT0.out _).mono ?_
  rintro e u20 ⟨rfl, hb⟩
  replace K0 := hidU (K0.out.below hb)
  replace K1 := hidU (K1.out.below hb)
  replace HB := hidU (HB.out.trans (hb.mono HB.out.size))
  clear hb
  go_wp2_with fail
  refine hKc.out _ _ ⟨K0.out, K1.out⟩ (fun hHeld => ?_)
  clear hKc Kc
  (try simp only [List.getElem_toArray]); (try simp only [List.getElem_cons_succ]); (try simp only [List.getElem_cons_zero]); (try simp only [Act.put]); (try simp only [List.setIfInBounds_toArray]); (try simp only [List.set_cons_succ]); (try simp only [List.set_cons_zero])
  refine wpAnyH_ready (rs := [3]) (by kernel_rfl) (by simp) (AllReadyH.cons rfl (fun Kc hKc => ?_) AllReadyH.nil)
  go_simp
  refine (HT1.out _).mono ?_
  rintro e u21 ⟨rfl, hb⟩
  replace K0 := hidU (K0.out.below hb)
  replace K1 := hidU (K1.out.below hb)
  replace HB := hidU (HB.out.trans (hb.mono HB.out.size))
  clear hb
  go_wp2_with fail
  refine hKc.out _ _ ⟨K0.out, K1.out⟩ (fun hHeld => ?_)
  clear hKc Kc
  (try simp only [List.getElem_toArray]); (try simp only [List.getElem_cons_succ]); (try simp only [List.getElem_cons_zero]); (try simp only [Act.put]); (try simp only [List.setIfInBounds_toArray]); (try simp only [List.set_cons_succ]); (try simp only [List.set_cons_zero])
  refine wpAnyH_ready (rs := [4]) (by kernel_rfl) (by simp) (AllReadyH.cons rfl (fun Kc hKc => ?_) AllReadyH.nil)
  go_simp
  refine (HI.out _).mono ?_
  rintro e u22 ⟨rfl, hb⟩
  replace K0 := hidU (K0.out.below hb)
  replace K1 := hidU (K1.out.below hb)
  replace HB := hidU (HB.out.trans (hb.mono HB.out.size))
  clear hb
  go_wp2_with fail
  refine hKc.out _ _ ⟨K0.out, K1.out⟩ (fun hHeld => ?_)
  clear hKc Kc
  (try simp only [List.getElem_toArray]); (try simp only [List.getElem_cons_succ]); (try simp only [List.getElem_cons_zero]); (try simp only [Act.put]); (try simp only [List.setIfInBounds_toArray]); (try simp only [List.set_cons_succ]); (try simp only [List.set_cons_zero])
  refine wpAnyH_take (i := 5) (v := ?_) rfl (by kernel_rfl) (by kernel_rfl) (by kernel_rfl) (fun _ _ _ h => h) (Or.inl ⟨by kernel_rfl, ?_⟩) hHeld ?_
  rotate_left
  · intro wz hSw; obtain ⟨hS0, hS1⟩ := hSw; obtain ⟨p0, p1, p2, p3⟩ := hS0.c4; obtain ⟨q0, q1⟩ := hS1.c2; clear hS0 hS1; go_simp; all_goals (try with_reducible rfl)
  (try simp only [List.getElem_toArray]); (try simp only [List.getElem_cons_succ]); (try simp only [List.getElem_cons_zero]); (try simp only [Act.put]); (try simp only [List.setIfInBounds_toArray]); (try simp only [List.set_cons_succ]); (try simp only [List.set_cons_zero])
  refine wpAnyH_done (by kernel_rfl) ?_ _
  refine NoPanic.normal ?_
  clear hHeld
  go_wp2
  go_ret
  exact ⟨rfl, HB.out⟩
end Go.Proofs.Ytjpjnpdmkfgjgaa
