/- The walks of RangeOk, Within and Width of both sides, and of the model's least and most. -/
import Derived.Test.YthfdpdnphnjebaaRngMath
import Derived.Test.YthfdpdnphnjebaaQuaW0
import Derived.Test.YthfdpdnphnjebaaRatioW5
namespace Go.Proofs.Ythfdpdnphnjebaa
open Go.RowKit Go.Proofs.Ythfdpdnphnjebaa.RM

theorem IsB.c4 {W : World} {B : Nat} {a0 a1 a2 a3 : Value} {t : TypeId} (h : IsB W B #[a0, a1, a2, a3] t) : W.cell? ⟨B, 0, none⟩ = some a0 ∧ W.cell? ⟨B, 1, none⟩ = some a1 ∧ W.cell? ⟨B, 2, none⟩ = some a2 ∧ W.cell? ⟨B, 3, none⟩ = some a3 :=
  ⟨h.cell 0 rfl, h.cell 1 rfl, h.cell 2 rfl, h.cell 3 rfl⟩
theorem IsB.c2 {W : World} {B : Nat} {a0 a1 : Value} {t : TypeId} (h : IsB W B #[a0, a1] t) : W.cell? ⟨B, 0, none⟩ = some a0 ∧ W.cell? ⟨B, 1, none⟩ = some a1 := ⟨h.cell 0 rfl, h.cell 1 rfl⟩
theorem IsB.f4 {W : World} {B : Nat} {vs : Array Value} {t : TypeId} (h : IsB W B vs t) : W.frozen? ⟨B, 0, none⟩ = false ∧ W.frozen? ⟨B, 1, none⟩ = false ∧ W.frozen? ⟨B, 2, none⟩ = false ∧ W.frozen? ⟨B, 3, none⟩ = false := ⟨h.frozen 0, h.frozen 1, h.frozen 2, h.frozen 3⟩
theorem IsB.f2 {W : World} {B : Nat} {vs : Array Value} {t : TypeId} (h : IsB W B vs t) : W.frozen? ⟨B, 0, none⟩ = false ∧ W.frozen? ⟨B, 1, none⟩ = false := ⟨h.frozen 0, h.frozen 1⟩
theorem IsB.set4 {W : World} {B : Nat} {a0 a1 a2 a3 : Value} {t : TypeId} (h : IsB W B #[a0, a1, a2, a3] t) (b0 b1 b2 b3 : Value) : IsB ((((W.setCell ⟨B, 0, none⟩ b0).setCell ⟨B, 1, none⟩ b1).setCell ⟨B, 2, none⟩ b2).setCell ⟨B, 3, none⟩ b3) B #[b0, b1, b2, b3] t := (((h.set 0 b0).set 1 b1).set 2 b2).set 3 b3
theorem IsB.set2 {W : World} {B : Nat} {a0 a1 : Value} {t : TypeId} (h : IsB W B #[a0, a1] t) (b0 b1 : Value) : IsB ((W.setCell ⟨B, 0, none⟩ b0).setCell ⟨B, 1, none⟩ b1) B #[b0, b1] t := (h.set 0 b0).set 1 b1
theorem below_set4 {K B : Nat} {w W : World} (h : Below K w W) (hB : K ≤ B) (b0 b1 b2 b3 : Value) : Below K w ((((W.setCell ⟨B, 0, none⟩ b0).setCell ⟨B, 1, none⟩ b1).setCell ⟨B, 2, none⟩ b2).setCell ⟨B, 3, none⟩ b3) :=
  (((h.setCell (p := ⟨B, 0, none⟩) hB b0).setCell (p := ⟨B, 1, none⟩) hB b1).setCell (p := ⟨B, 2, none⟩) hB b2).setCell (p := ⟨B, 3, none⟩) hB b3
theorem below_set2 {K B : Nat} {w W : World} (h : Below K w W) (hB : K ≤ B) (b0 b1 : Value) : Below K w ((W.setCell ⟨B, 0, none⟩ b0).setCell ⟨B, 1, none⟩ b1) :=
  (h.setCell (p := ⟨B, 0, none⟩) hB b0).setCell (p := ⟨B, 1, none⟩) hB b1
theorem b0_any (u : World) (x : Obj) : Below u.heap.size u (u.alloc x) := (Below.refl _ _).alloc (Nat.le_refl _) x
theorem fst_two {p q : P7} : two p.1 p.2 q.1 q.2 = (ok7 p && ok7 q) := rfl

set_option maxHeartbeats 800000 in
theorem sRng_any (a b c d : Int) (w : World) :
    Calls Try.prog 41 #[.agg #[.int .i64 a, .int .i64 b, .int .i64 c, .int .i64 d]] w fun e w' => e = .returned (.bool (rng7 (a, b) (c, d))) ∧ Below w.heap.size w w' := by
  have HT := hidU (fun W => sTwo_any a b c d W)
  have HL := hidU (fun W => sLess_any c d a b W)
  have HE : Hid (rng7 (a, b) (c, d) = (two a b c d && !lessB c d a b)) := rfl
  obtain ⟨p, hp⟩ : ∃ x, x = two a b c d := ⟨_, rfl⟩
  obtain ⟨q, hq⟩ : ∃ x, x = lessB c d a b := ⟨_, rfl⟩
  obtain ⟨r, hr⟩ : ∃ x, x = rng7 (a, b) (c, d) := ⟨_, rfl⟩
  rw [← hp, ← hq, ← hr] at HE
  rw [← hp] at HT
  rw [← hq] at HL
  rw [← hr]
  clear hp hq hr
  go_enter Try.func41, Try.ntmps41
  go_wp2_with fail
  refine (HT.out _).mono ?_
  rintro e w1 ⟨rfl, hb⟩
  have k0 := (IsB.new w #[.int .i64 a, .int .i64 b, .int .i64 c, .int .i64 d] 29).below hb
  have B := (b0_any w (.cells #[.int .i64 a, .int .i64 b, .int .i64 c, .int .i64 d] 29)).trans (hb.mono (b0_any _ _).size)
  have HB := hidU B
  clear hb B
  obtain ⟨z0, z1, z2, z3⟩ := k0.c4
  cases p
  · go_wp2
    go_ret
    exact ⟨ret_bool HE.out.symm, HB.out⟩
  go_wp2_with fail
  refine (HL.out _).mono ?_
  rintro e w2 ⟨rfl, hb⟩
  replace HB := hidU (HB.out.trans (hb.mono HB.out.size))
  clear hb z0 z1 z2 z3 k0
  go_wp2
  go_ret
  exact ⟨ret_bool HE.out.symm, HB.out⟩

set_option maxHeartbeats 800000 in
theorem iRng_any (a b c d : Int) (w : World) :
    Calls Try.prog 11 #[.agg #[.int .i64 a, .int .i64 b, .int .i64 c, .int .i64 d]] w fun e w' => e = .returned (.bool (rng7 (a, b) (c, d))) ∧ Below w.heap.size w w' := by
  have H1 := hidU (fun W => right_any a b W)
  have H2 := hidU (fun W => right_any c d W)
  have HL := hidU (fun W => iLess_any c d a b W)
  have HE : Hid (rng7 (a, b) (c, d) = (okB a b && okB c d && !lessB c d a b)) := rfl
  obtain ⟨p, hp⟩ : ∃ x, x = okB a b := ⟨_, rfl⟩
  obtain ⟨p2, hp2⟩ : ∃ x, x = okB c d := ⟨_, rfl⟩
  obtain ⟨q, hq⟩ : ∃ x, x = lessB c d a b := ⟨_, rfl⟩
  obtain ⟨r, hr⟩ : ∃ x, x = rng7 (a, b) (c, d) := ⟨_, rfl⟩
  rw [← hp, ← hp2, ← hq, ← hr] at HE
  rw [← hp] at H1
  rw [← hp2] at H2
  rw [← hq] at HL
  rw [← hr]
  clear hp hp2 hq hr
  go_enter Try.func11, Try.ntmps11
  go_wp2_with fail
  refine (H1.out _).mono ?_
  rintro e w1 ⟨rfl, hb⟩
  have k0 := (IsB.new w #[.int .i64 a, .int .i64 b, .int .i64 c, .int .i64 d] 29).below hb
  have B := (b0_any w (.cells #[.int .i64 a, .int .i64 b, .int .i64 c, .int .i64 d] 29)).trans (hb.mono (b0_any _ _).size)
  have HB := hidU B
  clear hb B
  obtain ⟨z0, z1, z2, z3⟩ := k0.c4
  cases p
  · go_wp2
    go_ret
    exact ⟨ret_bool HE.out.symm, HB.out⟩
  go_wp2_with fail
  refine (H2.out _).mono ?_
  rintro e w2 ⟨rfl, hb⟩
  replace HB := hidU (HB.out.trans (hb.mono HB.out.size))
  replace k0 := k0.below hb
  clear hb z0 z1 z2 z3
  obtain ⟨z0, z1, z2, z3⟩ := k0.c4
  cases p2
  · go_wp2
    go_ret
    exact ⟨ret_bool HE.out.symm, HB.out⟩
  go_wp2_with fail
  refine (HL.out _).mono ?_
  rintro e w3 ⟨rfl, hb⟩
  replace HB := hidU (HB.out.trans (hb.mono HB.out.size))
  clear hb z0 z1 z2 z3 k0
  go_wp2
  go_ret
  exact ⟨ret_bool HE.out.symm, HB.out⟩

set_option maxHeartbeats 1600000 in
theorem sWithin_any (a b c d n m : Int) (w : World) :
    Calls Try.prog 28 #[.agg #[.int .i64 a, .int .i64 b, .int .i64 c, .int .i64 d], .agg #[.int .i64 n, .int .i64 m]] w fun e w' => e = .returned (.bool (within7 (a, b) (c, d) (n, m))) ∧ Below w.heap.size w w' := by
  have H1 := hidU (fun W => sRng_any a b c d W)
  have H2 := hidU (fun W => sOk_any n m W)
  have H3 := hidU (fun W => sLess_any n m a b W)
  have H4 := hidU (fun W => sLess_any c d n m W)
  have HE : Hid (within7 (a, b) (c, d) (n, m) = (rng7 (a, b) (c, d) && okB n m && !lessB n m a b && !lessB c d n m)) := rfl
  obtain ⟨p1, hp1⟩ : ∃ x, x = rng7 (a, b) (c, d) := ⟨_, rfl⟩
  obtain ⟨p2, hp2⟩ : ∃ x, x = okB n m := ⟨_, rfl⟩
  obtain ⟨p3, hp3⟩ : ∃ x, x = lessB n m a b := ⟨_, rfl⟩
  obtain ⟨p4, hp4⟩ : ∃ x, x = lessB c d n m := ⟨_, rfl⟩
  obtain ⟨r, hr⟩ : ∃ x, x = within7 (a, b) (c, d) (n, m) := ⟨_, rfl⟩
  rw [← hp1, ← hp2, ← hp3, ← hp4, ← hr] at HE
  rw [← hp1] at H1
  rw [← hp2] at H2
  rw [← hp3] at H3
  rw [← hp4] at H4
  rw [← hr]
  clear hp1 hp2 hp3 hp4 hr
  go_enter Try.func28, Try.ntmps28
  go_wp2_with fail
  refine (H1.out _).mono ?_
  rintro e w1 ⟨rfl, hb⟩
  obtain ⟨P, hP⟩ : ∃ P, P = w.heap.size := ⟨_, rfl⟩
  have k0 : IsB w1 P #[.int .i64 a, .int .i64 b, .int .i64 c, .int .i64 d] 29 := by rw [hP]; exact ((IsB.new w _ _).below (b0_any _ _)).below hb
  have k1 : IsB w1 (P + 1) #[.int .i64 n, .int .i64 m] 27 := by rw [hP]; exact (IsB.new2c w _ _ _).below hb
  have HB := hidU (((b0_any w (.cells #[.int .i64 a, .int .i64 b, .int .i64 c, .int .i64 d] 29)).alloc (by simp) (.cells #[.int .i64 n, .int .i64 m] 27)).trans (hb.mono (by simp; omega)))
  rw [← hP]
  clear hb hP
  obtain ⟨z0, z1, z2, z3⟩ := k0.c4
  obtain ⟨y0, y1⟩ := k1.c2
  cases p1
  · go_wp2
    go_ret
    exact ⟨ret_bool HE.out.symm, HB.out⟩
  go_wp2_with fail
  refine (H2.out _).mono ?_
  rintro e w2 ⟨rfl, hb⟩
  replace HB := hidU (HB.out.trans (hb.mono HB.out.size))
  replace k0 := k0.below hb
  replace k1 := k1.below hb
  clear hb z0 z1 z2 z3 y0 y1
  obtain ⟨z0, z1, z2, z3⟩ := k0.c4
  obtain ⟨y0, y1⟩ := k1.c2
  cases p2
  · go_wp2
    go_ret
    exact ⟨ret_bool HE.out.symm, HB.out⟩
  go_wp2_with fail
  refine (H3.out _).mono ?_
  rintro e w3 ⟨rfl, hb⟩
  replace HB := hidU (HB.out.trans (hb.mono HB.out.size))
  replace k0 := k0.below hb
  replace k1 := k1.below hb
  clear hb z0 z1 z2 z3 y0 y1
  obtain ⟨z0, z1, z2, z3⟩ := k0.c4
  obtain ⟨y0, y1⟩ := k1.c2
  cases p3
  rotate_left
  · go_wp2
    go_ret
    exact ⟨ret_bool HE.out.symm, HB.out⟩
  go_wp2_with fail
  refine (H4.out _).mono ?_
  rintro e w4 ⟨rfl, hb⟩
  replace HB := hidU (HB.out.trans (hb.mono HB.out.size))
  clear hb z0 z1 z2 z3 y0 y1 k0 k1
  go_wp2
  go_ret
  exact ⟨ret_bool HE.out.symm, HB.out⟩

set_option maxHeartbeats 1600000 in
theorem iWithin_any (a b c d n m : Int) (w : World) :
    Calls Try.prog 13 #[.agg #[.int .i64 a, .int .i64 b, .int .i64 c, .int .i64 d], .agg #[.int .i64 n, .int .i64 m]] w fun e w' => e = .returned (.bool (within7 (a, b) (c, d) (n, m))) ∧ Below w.heap.size w w' := by
  have H1 := hidU (fun W => iRng_any a b c d W)
  have H2 := hidU (fun W => right_any n m W)
  have H3 := hidU (fun W => iLess_any n m a b W)
  have H4 := hidU (fun W => iLess_any c d n m W)
  have HE : Hid (within7 (a, b) (c, d) (n, m) = (rng7 (a, b) (c, d) && okB n m && !lessB n m a b && !lessB c d n m)) := rfl
  obtain ⟨p1, hp1⟩ : ∃ x, x = rng7 (a, b) (c, d) := ⟨_, rfl⟩
  obtain ⟨p2, hp2⟩ : ∃ x, x = okB n m := ⟨_, rfl⟩
  obtain ⟨p3, hp3⟩ : ∃ x, x = lessB n m a b := ⟨_, rfl⟩
  obtain ⟨p4, hp4⟩ : ∃ x, x = lessB c d n m := ⟨_, rfl⟩
  obtain ⟨r, hr⟩ : ∃ x, x = within7 (a, b) (c, d) (n, m) := ⟨_, rfl⟩
  rw [← hp1, ← hp2, ← hp3, ← hp4, ← hr] at HE
  rw [← hp1] at H1
  rw [← hp2] at H2
  rw [← hp3] at H3
  rw [← hp4] at H4
  rw [← hr]
  clear hp1 hp2 hp3 hp4 hr
  go_enter Try.func13, Try.ntmps13
  go_wp2_with fail
  refine (H1.out _).mono ?_
  rintro e w1 ⟨rfl, hb⟩
  obtain ⟨P, hP⟩ : ∃ P, P = w.heap.size := ⟨_, rfl⟩
  have k0 : IsB w1 P #[.int .i64 a, .int .i64 b, .int .i64 c, .int .i64 d] 29 := by rw [hP]; exact ((IsB.new w _ _).below (b0_any _ _)).below hb
  have k1 : IsB w1 (P + 1) #[.int .i64 n, .int .i64 m] 27 := by rw [hP]; exact (IsB.new2c w _ _ _).below hb
  have HB := hidU (((b0_any w (.cells #[.int .i64 a, .int .i64 b, .int .i64 c, .int .i64 d] 29)).alloc (by simp) (.cells #[.int .i64 n, .int .i64 m] 27)).trans (hb.mono (by simp; omega)))
  rw [← hP]
  clear hb hP
  obtain ⟨z0, z1, z2, z3⟩ := k0.c4
  obtain ⟨y0, y1⟩ := k1.c2
  cases p1
  · go_wp2
    go_ret
    exact ⟨ret_bool HE.out.symm, HB.out⟩
  go_wp2_with fail
  refine (H2.out _).mono ?_
  rintro e w2 ⟨rfl, hb⟩
  replace HB := hidU (HB.out.trans (hb.mono HB.out.size))
  replace k0 := k0.below hb
  replace k1 := k1.below hb
  clear hb z0 z1 z2 z3 y0 y1
  obtain ⟨z0, z1, z2, z3⟩ := k0.c4
  obtain ⟨y0, y1⟩ := k1.c2
  cases p2
  · go_wp2
    go_ret
    exact ⟨ret_bool HE.out.symm, HB.out⟩
  go_wp2_with fail
  refine (H3.out _).mono ?_
  rintro e w3 ⟨rfl, hb⟩
  replace HB := hidU (HB.out.trans (hb.mono HB.out.size))
  replace k0 := k0.below hb
  replace k1 := k1.below hb
  clear hb z0 z1 z2 z3 y0 y1
  obtain ⟨z0, z1, z2, z3⟩ := k0.c4
  obtain ⟨y0, y1⟩ := k1.c2
  cases p3
  rotate_left
  · go_wp2
    go_ret
    exact ⟨ret_bool HE.out.symm, HB.out⟩
  go_wp2_with fail
  refine (H4.out _).mono ?_
  rintro e w4 ⟨rfl, hb⟩
  replace HB := hidU (HB.out.trans (hb.mono HB.out.size))
  clear hb z0 z1 z2 z3 y0 y1 k0 k1
  go_wp2
  go_ret
  exact ⟨ret_bool HE.out.symm, HB.out⟩

set_option maxHeartbeats 800000 in
theorem lst7_any (a b c d : Int) (w : World) :
    Calls Try.prog 47 #[.agg #[.int .i64 a, .int .i64 b], .agg #[.int .i64 c, .int .i64 d]] w fun e w' => e = .returned (.agg #[.int .i64 (lst7 (a, b) (c, d)).1, .int .i64 (lst7 (a, b) (c, d)).2]) ∧ Below w.heap.size w w' := by
  have H1 := hidU (fun W => sLess_any c d a b W)
  have HE : Hid (lst7 (a, b) (c, d) = if lessB c d a b = true then (c, d) else (a, b)) := rfl
  obtain ⟨p, hp⟩ : ∃ x, x = lessB c d a b := ⟨_, rfl⟩
  obtain ⟨r, hr⟩ : ∃ x, x = lst7 (a, b) (c, d) := ⟨_, rfl⟩
  rw [← hp, ← hr] at HE
  rw [← hp] at H1
  rw [← hr]
  clear hp hr
  obtain ⟨r1, r2⟩ := r
  go_enter Try.func47, Try.ntmps47
  go_wp2_with fail
  refine (H1.out _).mono ?_
  rintro e w1 ⟨rfl, hb⟩
  obtain ⟨P, hP⟩ : ∃ P, P = w.heap.size := ⟨_, rfl⟩
  have k0 : IsB w1 P #[.int .i64 a, .int .i64 b] 27 := by rw [hP]; exact ((IsB.new w _ _).below ((b0_any _ _).alloc (by simp) _)).below hb
  have k1 : IsB w1 (P + 1) #[.int .i64 c, .int .i64 d] 27 := by rw [hP]; exact ((IsB.new2c w _ _ _).below (b0_any _ _)).below hb
  have k2 : IsB w1 (P + 1 + 1) #[.int .i64 0, .int .i64 0] 27 := by rw [hP]; exact (IsB.new3c w _ _ _ _).below hb
  have HB : Hid (Below w.heap.size w w1) := (((b0_any w _).alloc (by simp) _).alloc (by simp; omega) _).trans (hb.mono (by simp; omega))
  have HP : Hid (w.heap.size ≤ P + 1 + 1) := by show _ ≤ _; omega
  rw [← hP]
  clear hb hP
  obtain ⟨z0, z1⟩ := k0.c2
  obtain ⟨y0, y1⟩ := k1.c2
  obtain ⟨x0, x1⟩ := k2.c2
  obtain ⟨f0, f1⟩ := k2.f2
  cases p
  · go_wp2
    obtain ⟨rfl, rfl⟩ : r1 = a ∧ r2 = b := Prod.mk.inj HE.out
    obtain ⟨q0, q1⟩ := (k2.set2 (.int .i64 r1) (.int .i64 r2)).c2
    exact bodyPost_ret (v := .agg #[.int .i64 r1, .int .i64 r2]) (by simp [results, Try.results47, go_sem, q0, q1]) rfl ⟨rfl, below_set2 HB.out HP.out _ _⟩
  · go_wp2
    obtain ⟨rfl, rfl⟩ : r1 = c ∧ r2 = d := Prod.mk.inj HE.out
    obtain ⟨q0, q1⟩ := (k2.set2 (.int .i64 r1) (.int .i64 r2)).c2
    exact bodyPost_ret (v := .agg #[.int .i64 r1, .int .i64 r2]) (by simp [results, Try.results47, go_sem, q0, q1]) rfl ⟨rfl, below_set2 HB.out HP.out _ _⟩

set_option maxHeartbeats 800000 in
theorem mst7_any (a b c d : Int) (w : World) :
    Calls Try.prog 48 #[.agg #[.int .i64 a, .int .i64 b], .agg #[.int .i64 c, .int .i64 d]] w fun e w' => e = .returned (.agg #[.int .i64 (mst7 (a, b) (c, d)).1, .int .i64 (mst7 (a, b) (c, d)).2]) ∧ Below w.heap.size w w' := by
  have H1 := hidU (fun W => sLess_any a b c d W)
  have HE : Hid (mst7 (a, b) (c, d) = if lessB a b c d = true then (c, d) else (a, b)) := rfl
  obtain ⟨p, hp⟩ : ∃ x, x = lessB a b c d := ⟨_, rfl⟩
  obtain ⟨r, hr⟩ : ∃ x, x = mst7 (a, b) (c, d) := ⟨_, rfl⟩
  rw [← hp, ← hr] at HE
  rw [← hp] at H1
  rw [← hr]
  clear hp hr
  obtain ⟨r1, r2⟩ := r
  go_enter Try.func48, Try.ntmps48
  go_wp2_with fail
  refine (H1.out _).mono ?_
  rintro e w1 ⟨rfl, hb⟩
  obtain ⟨P, hP⟩ : ∃ P, P = w.heap.size := ⟨_, rfl⟩
  have k0 : IsB w1 P #[.int .i64 a, .int .i64 b] 27 := by rw [hP]; exact ((IsB.new w _ _).below ((b0_any _ _).alloc (by simp) _)).below hb
  have k1 : IsB w1 (P + 1) #[.int .i64 c, .int .i64 d] 27 := by rw [hP]; exact ((IsB.new2c w _ _ _).below (b0_any _ _)).below hb
  have k2 : IsB w1 (P + 1 + 1) #[.int .i64 0, .int .i64 0] 27 := by rw [hP]; exact (IsB.new3c w _ _ _ _).below hb
  have HB : Hid (Below w.heap.size w w1) := (((b0_any w _).alloc (by simp) _).alloc (by simp; omega) _).trans (hb.mono (by simp; omega))
  have HP : Hid (w.heap.size ≤ P + 1 + 1) := by show _ ≤ _; omega
  rw [← hP]
  clear hb hP
  obtain ⟨z0, z1⟩ := k0.c2
  obtain ⟨y0, y1⟩ := k1.c2
  obtain ⟨x0, x1⟩ := k2.c2
  obtain ⟨f0, f1⟩ := k2.f2
  cases p
  · go_wp2
    obtain ⟨rfl, rfl⟩ : r1 = a ∧ r2 = b := Prod.mk.inj HE.out
    obtain ⟨q0, q1⟩ := (k2.set2 (.int .i64 r1) (.int .i64 r2)).c2
    exact bodyPost_ret (v := .agg #[.int .i64 r1, .int .i64 r2]) (by simp [results, Try.results48, go_sem, q0, q1]) rfl ⟨rfl, below_set2 HB.out HP.out _ _⟩
  · go_wp2
    obtain ⟨rfl, rfl⟩ : r1 = c ∧ r2 = d := Prod.mk.inj HE.out
    obtain ⟨q0, q1⟩ := (k2.set2 (.int .i64 r1) (.int .i64 r2)).c2
    exact bodyPost_ret (v := .agg #[.int .i64 r1, .int .i64 r2]) (by simp [results, Try.results48, go_sem, q0, q1]) rfl ⟨rfl, below_set2 HB.out HP.out _ _⟩

end Go.Proofs.Ythfdpdnphnjebaa
