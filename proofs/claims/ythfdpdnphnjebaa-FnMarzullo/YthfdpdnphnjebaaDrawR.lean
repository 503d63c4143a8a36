/- The draws of ranges. -/
import Derived.Test.YthfdpdnphnjebaaDrawW4
import Derived.Test.YthfdpdnphnjebaaRngW4
import Derived.Deep.RegionHeld3
namespace Go.Proofs.Ythfdpdnphnjebaa
open Go.RowKit Go.Proofs.Ythfdpdnphnjebaa.RM

theorem IsB.ex {W W' : World} {B cb : Nat} {vs : Array Value} {t : TypeId} (h : IsB W B vs t) (hx : Ex cb W W') (hne : B ≠ cb) : IsB W' B vs t := (hx.2.2.2.2 B h.lt hne).trans h
theorem Cur.set1 {W : World} {cb R : Nat} {a : Option Addr} {len cap : Nat} {zs : List Int} (h : Cur W cb a len cap zs) (hne : R ≠ cb) (hr : ∀ b off, a = some ⟨b, off, none⟩ → 0 < zs.length → b ≠ R) (k : Nat) (v : Value) : Cur (W.setCell ⟨R, k, none⟩ v) cb a len cap zs :=
  h.ex ((Ex.refl R W).setCell (.inl rfl) v) hne hr
theorem rowNe {w : World} {a : Option Addr} {n R : Nat} (h : ∀ b off, a = some ⟨b, off, none⟩ → 0 < n → b < w.heap.size) (hR : w.heap.size ≤ R) : ∀ b off, a = some ⟨b, off, none⟩ → 0 < n → b ≠ R := fun b off e hz => by have := h b off e hz; omega

set_option maxRecDepth 100000 in
set_option maxHeartbeats 2000000 in
theorem draw7_any (cb : Nat) (a : Option Addr) (len cap : Nat) (zs : List Int) (w : World) (hc : Cur w cb a len cap zs) :
    Calls Try.prog 35 #[.pointer (some ⟨cb, 0, none⟩)] w fun e w' => ∃ x1 x2 x3 x4 : Int, e = .returned (.agg #[.int .i64 x1, .int .i64 x2, .int .i64 x3, .int .i64 x4]) ∧ Cur w' cb a len cap zs ∧ Ex cb w w' := by
  have HROW := hidU hc.2.1.lt
  have HC := hidU hc
  have HE := hidU (Ex.refl cb w)
  clear hc
  go_enter Try.func35, Try.ntmps35
  have hb := b0_any w (.cells #[.int .i64 0, .int .i64 0, .int .i64 0, .int .i64 0] 29)
  go_upto_region 1 with fail
  obtain ⟨W0, hY⟩ : ∃ Y, Y = w.alloc (.cells #[.int .i64 0, .int .i64 0, .int .i64 0, .int .i64 0] 29) := ⟨_, rfl⟩
  obtain ⟨R, hF⟩ : ∃ F, F = w.heap.size := ⟨_, rfl⟩
  have KR : Hid (IsB W0 R #[.int .i64 0, .int .i64 0, .int .i64 0, .int .i64 0] 29) := by show IsB _ _ _ _; rw [hY, hF]; exact IsB.new _ _ _
  have NEKR : Hid (R ≠ cb) := by show _ ≠ _; have := HC.out.lt; rw [hF]; omega
  have GEKR : Hid (w.heap.size ≤ R) := by show _ ≤ _; rw [hF]; exact HE.out.size
  rw [← hY] at hb
  rw [← hY, ← hF]
  clear hY hF
  replace HC := hidU (HC.out.below hb)
  replace HE := hidU (HE.out.trans (Ex.of_below hb))
  clear hb
  go_wp2_with fail
  refine (draw_any cb a len cap zs _ HC.out).mono ?_
  rintro e v0 ⟨n1, m1, rfl, -, -, -, -, -, hC, hx⟩
  replace KR := hidU (KR.out.ex hx NEKR.out)
  replace HC := hidU hC
  replace HE := hidU (HE.out.trans hx)
  clear hx hC
  have hb := b0_any v0 (.cells #[.int .i64 n1, .int .i64 m1] 27)
  go_upto_region 2 with fail
  obtain ⟨Y1, hY⟩ : ∃ Y, Y = v0.alloc (.cells #[.int .i64 n1, .int .i64 m1] 27) := ⟨_, rfl⟩
  obtain ⟨A1, hF⟩ : ∃ F, F = v0.heap.size := ⟨_, rfl⟩
  have M1 : Hid (IsB Y1 A1 #[.int .i64 n1, .int .i64 m1] 27) := by show IsB _ _ _ _; rw [hY, hF]; exact IsB.new _ _ _
  have NEM1 : Hid (A1 ≠ cb) := by show _ ≠ _; have := HC.out.lt; rw [hF]; omega
  have GEM1 : Hid (w.heap.size ≤ A1) := by show _ ≤ _; rw [hF]; exact HE.out.size
  have APM1 : Hid (R ≠ A1) := by show R ≠ A1; rw [hF]; exact Nat.ne_of_lt KR.out.lt
  rw [← hY] at hb
  rw [← hY, ← hF]
  clear hY hF
  replace KR := hidU (KR.out.below hb)
  replace HC := hidU (HC.out.below hb)
  replace HE := hidU (HE.out.trans (Ex.of_below hb))
  clear hb
  go_wp2_with fail
  refine (draw_any cb a len cap zs _ HC.out).mono ?_
  rintro e v1 ⟨n2, m2, rfl, -, -, -, -, -, hC, hx⟩
  replace KR := hidU (KR.out.ex hx NEKR.out)
  replace M1 := hidU (M1.out.ex hx NEM1.out)
  replace HC := hidU hC
  replace HE := hidU (HE.out.trans hx)
  clear hx hC
  have hb := b0_any v1 (.cells #[.int .i64 n2, .int .i64 m2] 27)
  go_upto_region 3 with fail
  obtain ⟨Y2, hY⟩ : ∃ Y, Y = v1.alloc (.cells #[.int .i64 n2, .int .i64 m2] 27) := ⟨_, rfl⟩
  obtain ⟨A2, hF⟩ : ∃ F, F = v1.heap.size := ⟨_, rfl⟩
  have M2 : Hid (IsB Y2 A2 #[.int .i64 n2, .int .i64 m2] 27) := by show IsB _ _ _ _; rw [hY, hF]; exact IsB.new _ _ _
  have NEM2 : Hid (A2 ≠ cb) := by show _ ≠ _; have := HC.out.lt; rw [hF]; omega
  have GEM2 : Hid (w.heap.size ≤ A2) := by show _ ≤ _; rw [hF]; exact HE.out.size
  have APM2 : Hid (R ≠ A2 ∧ A1 ≠ A2) := by show R ≠ A2 ∧ A1 ≠ A2; rw [hF]; exact ⟨Nat.ne_of_lt KR.out.lt, Nat.ne_of_lt M1.out.lt⟩
  rw [← hY] at hb
  rw [← hY, ← hF]
  clear hY hF
  replace KR := hidU (KR.out.below hb)
  replace M1 := hidU (M1.out.below hb)
  replace HC := hidU (HC.out.below hb)
  replace HE := hidU (HE.out.trans (Ex.of_below hb))
  clear hb
  have L1 := hidU (fun W => lst7_any n1 m1 n2 m2 W)
  have L2 := hidU (fun W => mst7_any n1 m1 n2 m2 W)
  obtain ⟨⟨x1, x2⟩, h1⟩ : ∃ x, x = lst7 (n1, m1) (n2, m2) := ⟨_, rfl⟩
  obtain ⟨⟨x3, x4⟩, h2⟩ : ∃ x, x = mst7 (n1, m1) (n2, m2) := ⟨_, rfl⟩
  rw [← h1] at L1
  rw [← h2] at L2
  simp only at L1 L2
  clear h1 h2
  have hb := (Below.refl Y2.heap.size Y2).drew
  replace KR := hidU (KR.out.below hb)
  replace M1 := hidU (M1.out.below hb)
  replace M2 := hidU (M2.out.below hb)
  replace HC := hidU (HC.out.below hb)
  replace HE := hidU (HE.out.trans (Ex.of_below hb))
  clear hb
  refine wp_region_noPanic ?_
  refine wp_region_held_drew (S := fun W => IsB W A1 #[.int .i64 n1, .int .i64 m1] 27 ∧ IsB W A2 #[.int .i64 n2, .int .i64 m2] 27) (by kernel_rfl) ⟨M1.out, M2.out⟩ (fun hHeld => ?_)
  obtain ⟨wd3, hwd⟩ : ∃ u, u = Y2.drew := ⟨_, rfl⟩
  rw [← hwd] at KR M1 M2 HC HE hHeld ⊢
  clear hwd
  refine wpAnyH_take (i := 0) (v := ?_) rfl (by kernel_rfl) (by kernel_rfl) (by kernel_rfl) (fun _ _ _ h => h) (Or.inl ⟨by kernel_rfl, ?_⟩) hHeld ?_
  rotate_left
  · intro wz hSw; obtain ⟨hS0, hS1⟩ := hSw; obtain ⟨p0, p1⟩ := hS0.c2; obtain ⟨q0, q1⟩ := hS1.c2; clear hS0 hS1; go_simp; all_goals (try with_reducible rfl)
  (try simp only [List.getElem_toArray]); (try simp only [List.getElem_cons_succ]); (try simp only [List.getElem_cons_zero]); (try simp only [Act.put]); (try simp only [List.setIfInBounds_toArray]); (try simp only [List.set_cons_succ]); (try simp only [List.set_cons_zero])
  refine wpAnyH_take (i := 1) (v := ?_) rfl (by kernel_rfl) (by kernel_rfl) (by kernel_rfl) (fun _ _ _ h => h) (Or.inl ⟨by kernel_rfl, ?_⟩) hHeld ?_
  rotate_left
  · intro wz hSw; obtain ⟨hS0, hS1⟩ := hSw; obtain ⟨p0, p1⟩ := hS0.c2; obtain ⟨q0, q1⟩ := hS1.c2; clear hS0 hS1; go_simp; all_goals (try with_reducible rfl)
  (try simp only [List.getElem_toArray]); (try simp only [List.getElem_cons_succ]); (try simp only [List.getElem_cons_zero]); (try simp only [Act.put]); (try simp only [List.setIfInBounds_toArray]); (try simp only [List.set_cons_succ]); (try simp only [List.set_cons_zero])
  refine wpAnyH_take (i := 3) (v := ?_) rfl (by kernel_rfl) (by kernel_rfl) (by kernel_rfl) (fun _ _ _ h => h) (Or.inl ⟨by kernel_rfl, ?_⟩) hHeld ?_
  rotate_left
  · intro wz hSw; obtain ⟨hS0, hS1⟩ := hSw; obtain ⟨p0, p1⟩ := hS0.c2; obtain ⟨q0, q1⟩ := hS1.c2; clear hS0 hS1; go_simp; all_goals (try with_reducible rfl)
  (try simp only [List.getElem_toArray]); (try simp only [List.getElem_cons_succ]); (try simp only [List.getElem_cons_zero]); (try simp only [Act.put]); (try simp only [List.setIfInBounds_toArray]); (try simp only [List.set_cons_succ]); (try simp only [List.set_cons_zero])
  refine wpAnyH_take (i := 4) (v := ?_) rfl (by kernel_rfl) (by kernel_rfl) (by kernel_rfl) (fun _ _ _ h => h) (Or.inl ⟨by kernel_rfl, ?_⟩) hHeld ?_
  rotate_left
  · intro wz hSw; obtain ⟨hS0, hS1⟩ := hSw; obtain ⟨p0, p1⟩ := hS0.c2; obtain ⟨q0, q1⟩ := hS1.c2; clear hS0 hS1; go_simp; all_goals (try with_reducible rfl)
  (try simp only [List.getElem_toArray]); (try simp only [List.getElem_cons_succ]); (try simp only [List.getElem_cons_zero]); (try simp only [Act.put]); (try simp only [List.setIfInBounds_toArray]); (try simp only [List.set_cons_succ]); (try simp only [List.set_cons_zero])
  refine wpAnyH_ready (rs := [2]) (by kernel_rfl) (by simp) (AllReadyH.cons rfl (fun Kc hKc => ?_) AllReadyH.nil)
  go_simp
  refine (L1.out _).mono ?_
  rintro e r3_2 ⟨rfl, hb⟩
  replace KR := hidU (KR.out.below hb)
  replace M1 := hidU (M1.out.below hb)
  replace M2 := hidU (M2.out.below hb)
  replace HC := hidU (HC.out.below hb)
  replace HE := hidU (HE.out.trans (Ex.of_below hb))
  clear hb
  go_wp2_with fail
  refine hKc.out _ _ ⟨M1.out, M2.out⟩ (fun hHeld => ?_)
  clear hKc Kc
  (try simp only [List.getElem_toArray]); (try simp only [List.getElem_cons_succ]); (try simp only [List.getElem_cons_zero]); (try simp only [Act.put]); (try simp only [List.setIfInBounds_toArray]); (try simp only [List.set_cons_succ]); (try simp only [List.set_cons_zero])
  refine wpAnyH_ready (rs := [5]) (by kernel_rfl) (by simp) (AllReadyH.cons rfl (fun Kc hKc => ?_) AllReadyH.nil)
  go_simp
  refine (L2.out _).mono ?_
  rintro e r3_5 ⟨rfl, hb⟩
  replace KR := hidU (KR.out.below hb)
  replace M1 := hidU (M1.out.below hb)
  replace M2 := hidU (M2.out.below hb)
  replace HC := hidU (HC.out.below hb)
  replace HE := hidU (HE.out.trans (Ex.of_below hb))
  clear hb
  go_wp2_with fail
  refine hKc.out _ _ ⟨M1.out, M2.out⟩ (fun hHeld => ?_)
  clear hKc Kc
  (try simp only [List.getElem_toArray]); (try simp only [List.getElem_cons_succ]); (try simp only [List.getElem_cons_zero]); (try simp only [Act.put]); (try simp only [List.setIfInBounds_toArray]); (try simp only [List.set_cons_succ]); (try simp only [List.set_cons_zero])
  refine wpAnyH_take (i := 6) (v := ?_) rfl (by kernel_rfl) (by kernel_rfl) (by kernel_rfl) (fun _ _ _ h => h) (Or.inl ⟨by kernel_rfl, ?_⟩) hHeld ?_
  rotate_left
  · intro wz hSw; obtain ⟨hS0, hS1⟩ := hSw; obtain ⟨p0, p1⟩ := hS0.c2; obtain ⟨q0, q1⟩ := hS1.c2; clear hS0 hS1; go_simp; all_goals (try with_reducible rfl)
  (try simp only [List.getElem_toArray]); (try simp only [List.getElem_cons_succ]); (try simp only [List.getElem_cons_zero]); (try simp only [Act.put]); (try simp only [List.setIfInBounds_toArray]); (try simp only [List.set_cons_succ]); (try simp only [List.set_cons_zero])
  obtain ⟨z0, z1, z2, z3⟩ := KR.out.c4
  obtain ⟨f0, f1, f2, f3⟩ := KR.out.f4
  have M1b := hidU (M1.out.other4 APM1.out.symm (.int .i64 x1) (.int .i64 x2) (.int .i64 x3) (.int .i64 x4))
  have M2b := hidU (M2.out.other4 APM2.out.1.symm (.int .i64 x1) (.int .i64 x2) (.int .i64 x3) (.int .i64 x4))
  refine wpAnyH_ready (rs := [7]) (by kernel_rfl) (by simp) (AllReadyH.cons rfl (fun Kc hKc => ?_) AllReadyH.nil)
  go_simp
  refine hKc.out _ _ ⟨M1b.out, M2b.out⟩ (fun hHeld => ?_)
  clear hKc Kc z0 f0 z1 f1 z2 f2 z3 f3
  (try simp only [List.getElem_toArray]); (try simp only [List.getElem_cons_succ]); (try simp only [List.getElem_cons_zero]); (try simp only [Act.put]); (try simp only [List.setIfInBounds_toArray]); (try simp only [List.set_cons_succ]); (try simp only [List.set_cons_zero])
  replace M1 := M1b
  clear M1b
  replace M2 := M2b
  clear M2b
  replace KR := hidU (KR.out.set4 (.int .i64 x1) (.int .i64 x2) (.int .i64 x3) (.int .i64 x4))
  replace HC := hidU (HC.out.set1 NEKR.out (rowNe HROW.out GEKR.out) 0 (.int .i64 x1))
  replace HC := hidU (HC.out.set1 NEKR.out (rowNe HROW.out GEKR.out) 1 (.int .i64 x2))
  replace HC := hidU (HC.out.set1 NEKR.out (rowNe HROW.out GEKR.out) 2 (.int .i64 x3))
  replace HC := hidU (HC.out.set1 NEKR.out (rowNe HROW.out GEKR.out) 3 (.int .i64 x4))
  replace HE := hidU (HE.out.setCell (.inr GEKR.out) (b := R) (o := 0) (.int .i64 x1))
  replace HE := hidU (HE.out.setCell (.inr GEKR.out) (b := R) (o := 1) (.int .i64 x2))
  replace HE := hidU (HE.out.setCell (.inr GEKR.out) (b := R) (o := 2) (.int .i64 x3))
  replace HE := hidU (HE.out.setCell (.inr GEKR.out) (b := R) (o := 3) (.int .i64 x4))
  refine wpAnyH_done (by kernel_rfl) ?_ _
  refine NoPanic.normal ?_
  clear hHeld
  go_wp2
  obtain ⟨q0, q1, q2, q3⟩ := KR.out.c4
  exact bodyPost_ret (v := .agg #[.int .i64 x1, .int .i64 x2, .int .i64 x3, .int .i64 x4]) (by simp [results, Try.results35, go_sem, q0, q1, q2, q3]) rfl ⟨_, _, _, _, rfl, HC.out, HE.out⟩

set_option maxRecDepth 100000 in
set_option maxHeartbeats 2000000 in
theorem drawAny7_any (cb : Nat) (a : Option Addr) (len cap : Nat) (zs : List Int) (w : World) (hc : Cur w cb a len cap zs) :
    Calls Try.prog 37 #[.pointer (some ⟨cb, 0, none⟩)] w fun e w' => ∃ x1 x2 x3 x4 : Int, e = .returned (.agg #[.int .i64 x1, .int .i64 x2, .int .i64 x3, .int .i64 x4]) ∧ Cur w' cb a len cap zs ∧ Ex cb w w' := by
  have HROW := hidU hc.2.1.lt
  have HC := hidU hc
  have HE := hidU (Ex.refl cb w)
  clear hc
  go_enter Try.func37, Try.ntmps37
  have hb := b0_any w (.cells #[.int .i64 0, .int .i64 0, .int .i64 0, .int .i64 0] 29)
  go_upto_region 1 with fail
  obtain ⟨W0, hY⟩ : ∃ Y, Y = w.alloc (.cells #[.int .i64 0, .int .i64 0, .int .i64 0, .int .i64 0] 29) := ⟨_, rfl⟩
  obtain ⟨R, hF⟩ : ∃ F, F = w.heap.size := ⟨_, rfl⟩
  have KR : Hid (IsB W0 R #[.int .i64 0, .int .i64 0, .int .i64 0, .int .i64 0] 29) := by show IsB _ _ _ _; rw [hY, hF]; exact IsB.new _ _ _
  have NEKR : Hid (R ≠ cb) := by show _ ≠ _; have := HC.out.lt; rw [hF]; omega
  have GEKR : Hid (w.heap.size ≤ R) := by show _ ≤ _; rw [hF]; exact HE.out.size
  rw [← hY] at hb
  rw [← hY, ← hF]
  clear hY hF
  replace HC := hidU (HC.out.below hb)
  replace HE := hidU (HE.out.trans (Ex.of_below hb))
  clear hb
  go_wp2_with fail
  refine (draw7_any cb a len cap zs _ HC.out).mono ?_
  rintro e v0 ⟨x1, x2, x3, x4, rfl, hC, hx⟩
  replace KR := hidU (KR.out.ex hx NEKR.out)
  replace HC := hidU hC
  replace HE := hidU (HE.out.trans hx)
  clear hx hC
  have hb := b0_any v0 (.cells #[.int .i64 x1, .int .i64 x2, .int .i64 x3, .int .i64 x4] 29)
  go_upto_region 2 with fail
  obtain ⟨Y1, hY⟩ : ∃ Y, Y = v0.alloc (.cells #[.int .i64 x1, .int .i64 x2, .int .i64 x3, .int .i64 x4] 29) := ⟨_, rfl⟩
  obtain ⟨A, hF⟩ : ∃ F, F = v0.heap.size := ⟨_, rfl⟩
  have KA : Hid (IsB Y1 A #[.int .i64 x1, .int .i64 x2, .int .i64 x3, .int .i64 x4] 29) := by show IsB _ _ _ _; rw [hY, hF]; exact IsB.new _ _ _
  have NEKA : Hid (A ≠ cb) := by show _ ≠ _; have := HC.out.lt; rw [hF]; omega
  have GEKA : Hid (w.heap.size ≤ A) := by show _ ≤ _; rw [hF]; exact HE.out.size
  have APKA : Hid (R ≠ A) := by show R ≠ A; rw [hF]; exact Nat.ne_of_lt KR.out.lt
  rw [← hY] at hb
  rw [← hY, ← hF]
  clear hY hF
  replace KR := hidU (KR.out.below hb)
  replace HC := hidU (HC.out.below hb)
  replace HE := hidU (HE.out.trans (Ex.of_below hb))
  clear hb
  go_wp2_with fail
  refine (once_any cb 12 a len cap zs _ HC.out (by omega)).mono ?_
  rintro e v1 ⟨x, rfl, hC, hx⟩
  replace KR := hidU (KR.out.ex hx NEKR.out)
  replace KA := hidU (KA.out.ex hx NEKA.out)
  replace HC := hidU hC
  replace HE := hidU (HE.out.trans hx)
  clear hx hC
  cases x
  · skip
    obtain ⟨z0, z1, z2, z3⟩ := KA.out.c4
    obtain ⟨y0, y1, y2, y3⟩ := KR.out.c4
    obtain ⟨f0, f1, f2, f3⟩ := KR.out.f4
    go_wp2
    obtain ⟨q0, q1, q2, q3⟩ := (KR.out.set4 (.int .i64 x1) (.int .i64 x2) (.int .i64 x3) (.int .i64 x4)).c4
    exact bodyPost_ret (v := .agg #[.int .i64 x1, .int .i64 x2, .int .i64 x3, .int .i64 x4]) (by simp [results, Try.results37, go_sem, q0, q1, q2, q3]) rfl ⟨_, _, _, _, rfl, (((HC.out.set1 NEKR.out (rowNe HROW.out GEKR.out) 0 _).set1 NEKR.out (rowNe HROW.out GEKR.out) 1 _).set1 NEKR.out (rowNe HROW.out GEKR.out) 2 _).set1 NEKR.out (rowNe HROW.out GEKR.out) 3 _, (((HE.out.setCell (.inr GEKR.out) _).setCell (.inr GEKR.out) _).setCell (.inr GEKR.out) _).setCell (.inr GEKR.out) _⟩
  go_wp2_with fail
  refine (below_any cb 2 a len cap zs _ HC.out (by omega)).mono ?_
  rintro e v2 ⟨k, rfl, hk0, hk1, hC, hx⟩
  replace KR := hidU (KR.out.ex hx NEKR.out)
  replace KA := hidU (KA.out.ex hx NEKA.out)
  replace HC := hidU hC
  replace HE := hidU (HE.out.trans hx)
  clear hx hC
  by_cases hk : k = 0
  · subst hk
    obtain ⟨z0, z1, z2, z3⟩ := KA.out.c4
    obtain ⟨f0, f1, f2, f3⟩ := KA.out.f4
    go_wp2_with fail
    refine (drawAny_any cb a len cap zs _ HC.out).mono ?_
    rintro e v3 ⟨n, m, rfl, hC, hx⟩
    clear z0 z1 z2 z3 f0 f1 f2 f3
    replace KR := hidU (KR.out.ex hx NEKR.out)
    replace KA := hidU (KA.out.ex hx NEKA.out)
    replace HC := hidU hC
    replace HE := hidU (HE.out.trans hx)
    clear hx hC
    obtain ⟨z0, z1, z2, z3⟩ := KA.out.c4
    obtain ⟨f0, f1, f2, f3⟩ := KA.out.f4
    go_upto_region 8 with fail
    replace KA := hidU (KA.out.setLo (.int .i64 n) (.int .i64 m))
    replace KR := hidU ((KR.out.other APKA.out 0 (.int .i64 n)).other APKA.out 1 (.int .i64 m))
    replace HC := hidU ((HC.out.set1 NEKA.out (rowNe HROW.out GEKA.out) 0 (.int .i64 n)).set1 NEKA.out (rowNe HROW.out GEKA.out) 1 (.int .i64 m))
    replace HE := hidU ((HE.out.setCell (.inr GEKA.out) (b := A) (o := 0) (.int .i64 n)).setCell (.inr GEKA.out) (b := A) (o := 1) (.int .i64 m))
    obtain ⟨v4, hv4⟩ : ∃ Y, Y = (v3.setCell ⟨A, 0, none⟩ (.int .i64 n)).setCell ⟨A, 1, none⟩ (.int .i64 m) := ⟨_, rfl⟩
    rw [← hv4] at KA KR HC HE ⊢
    clear hv4 z0 z1 z2 z3 f0 f1 f2 f3
    obtain ⟨z0, z1, z2, z3⟩ := KA.out.c4
    obtain ⟨y0, y1, y2, y3⟩ := KR.out.c4
    obtain ⟨f0, f1, f2, f3⟩ := KR.out.f4
    go_wp2
    obtain ⟨q0, q1, q2, q3⟩ := (KR.out.set4 (.int .i64 n) (.int .i64 m) (.int .i64 x3) (.int .i64 x4)).c4
    exact bodyPost_ret (v := .agg #[.int .i64 n, .int .i64 m, .int .i64 x3, .int .i64 x4]) (by simp [results, Try.results37, go_sem, q0, q1, q2, q3]) rfl ⟨_, _, _, _, rfl, (((HC.out.set1 NEKR.out (rowNe HROW.out GEKR.out) 0 _).set1 NEKR.out (rowNe HROW.out GEKR.out) 1 _).set1 NEKR.out (rowNe HROW.out GEKR.out) 2 _).set1 NEKR.out (rowNe HROW.out GEKR.out) 3 _, (((HE.out.setCell (.inr GEKR.out) _).setCell (.inr GEKR.out) _).setCell (.inr GEKR.out) _).setCell (.inr GEKR.out) _⟩
  · obtain rfl : k = 1 := by omega
    clear hk hk0 hk1
    obtain ⟨z0, z1, z2, z3⟩ := KA.out.c4
    obtain ⟨f0, f1, f2, f3⟩ := KA.out.f4
    go_wp2_with fail
    refine (drawAny_any cb a len cap zs _ HC.out).mono ?_
    rintro e v3 ⟨n, m, rfl, hC, hx⟩
    clear z0 z1 z2 z3 f0 f1 f2 f3
    replace KR := hidU (KR.out.ex hx NEKR.out)
    replace KA := hidU (KA.out.ex hx NEKA.out)
    replace HC := hidU hC
    replace HE := hidU (HE.out.trans hx)
    clear hx hC
    obtain ⟨z0, z1, z2, z3⟩ := KA.out.c4
    obtain ⟨f0, f1, f2, f3⟩ := KA.out.f4
    go_upto_region 8 with fail
    replace KA := hidU (KA.out.setHi (.int .i64 n) (.int .i64 m))
    replace KR := hidU ((KR.out.other APKA.out 2 (.int .i64 n)).other APKA.out 3 (.int .i64 m))
    replace HC := hidU ((HC.out.set1 NEKA.out (rowNe HROW.out GEKA.out) 2 (.int .i64 n)).set1 NEKA.out (rowNe HROW.out GEKA.out) 3 (.int .i64 m))
    replace HE := hidU ((HE.out.setCell (.inr GEKA.out) (b := A) (o := 2) (.int .i64 n)).setCell (.inr GEKA.out) (b := A) (o := 3) (.int .i64 m))
    obtain ⟨v4, hv4⟩ : ∃ Y, Y = (v3.setCell ⟨A, 2, none⟩ (.int .i64 n)).setCell ⟨A, 3, none⟩ (.int .i64 m) := ⟨_, rfl⟩
    rw [← hv4] at KA KR HC HE ⊢
    clear hv4 z0 z1 z2 z3 f0 f1 f2 f3
    obtain ⟨z0, z1, z2, z3⟩ := KA.out.c4
    obtain ⟨y0, y1, y2, y3⟩ := KR.out.c4
    obtain ⟨f0, f1, f2, f3⟩ := KR.out.f4
    go_wp2
    obtain ⟨q0, q1, q2, q3⟩ := (KR.out.set4 (.int .i64 x1) (.int .i64 x2) (.int .i64 n) (.int .i64 m)).c4
    exact bodyPost_ret (v := .agg #[.int .i64 x1, .int .i64 x2, .int .i64 n, .int .i64 m]) (by simp [results, Try.results37, go_sem, q0, q1, q2, q3]) rfl ⟨_, _, _, _, rfl, (((HC.out.set1 NEKR.out (rowNe HROW.out GEKR.out) 0 _).set1 NEKR.out (rowNe HROW.out GEKR.out) 1 _).set1 NEKR.out (rowNe HROW.out GEKR.out) 2 _).set1 NEKR.out (rowNe HROW.out GEKR.out) 3 _, (((HE.out.setCell (.inr GEKR.out) _).setCell (.inr GEKR.out) _).setCell (.inr GEKR.out) _).setCell (.inr GEKR.out) _⟩

end Go.Proofs.Ythfdpdnphnjebaa
