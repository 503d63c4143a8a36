/- The walks of the program's RangeAdd, RangeMul and Meet. -/
import Derived.Test.YtgbdebjnlfeedaaRngW3
import Derived.Test.YtgbdebjnlfeedaaRngW2
namespace Go.Proofs.Ytgbdebjnlfeedaa
open Go.RowKit Go.Proofs.Ytgbdebjnlfeedaa.RM

theorem RdP.of2 {W : World} {B : Nat} {x1 y1 x2 y2 : Int} {t : TypeId} (h : IsB W B #[.int .i64 x1, .int .i64 y1, .int .i64 x2, .int .i64 y2] t) : RdP W B 0 [(x1, y1), (x2, y2)] := by
  intro j hj
  obtain ⟨h0, h1, h2, h3⟩ := h.c4
  match j, hj with
  | 0, _ => exact ⟨h0, h1⟩
  | 1, _ => exact ⟨h2, h3⟩
theorem RdP.of4 {W : World} {B : Nat} {x1 y1 x2 y2 x3 y3 x4 y4 : Int} {t : TypeId} (h : IsB W B #[.int .i64 x1, .int .i64 y1, .int .i64 x2, .int .i64 y2, .int .i64 x3, .int .i64 y3, .int .i64 x4, .int .i64 y4] t) : RdP W B 0 [(x1, y1), (x2, y2), (x3, y3), (x4, y4)] := by
  intro j hj
  match j, hj with
  | 0, _ => exact ⟨h.cell 0 rfl, h.cell 1 rfl⟩
  | 1, _ => exact ⟨h.cell 2 rfl, h.cell 3 rfl⟩
  | 2, _ => exact ⟨h.cell 4 rfl, h.cell 5 rfl⟩
  | 3, _ => exact ⟨h.cell 6 rfl, h.cell 7 rfl⟩
def ans7 (r : A7) : Value := .tuple #[.agg #[.int .i64 r.1.1, .int .i64 r.1.2, .int .i64 r.2.1.1, .int .i64 r.2.1.2], .bool r.2.2]
theorem ends2_any (B : Nat) (x1 y1 x2 y2 : Int) (w : World) (h : IsB w B #[.int .i64 x1, .int .i64 y1, .int .i64 x2, .int .i64 y2] 25) :
    Calls Try.prog 24 #[.slice (some ⟨B, 0, none⟩) 2 2] w fun e w' => e = .returned (ans7 (ends7 (x1, y1) (x1, y1) [(x1, y1), (x2, y2)])) ∧ Below w.heap.size w w' :=
  ends_any B 0 2 2 [(x1, y1), (x2, y2)] w rfl (by omega) (by omega) (RdP.of2 h)
theorem ends4_any (B : Nat) (x1 y1 x2 y2 x3 y3 x4 y4 : Int) (w : World) (h : IsB w B #[.int .i64 x1, .int .i64 y1, .int .i64 x2, .int .i64 y2, .int .i64 x3, .int .i64 y3, .int .i64 x4, .int .i64 y4] 25) :
    Calls Try.prog 24 #[.slice (some ⟨B, 0, none⟩) 4 4] w fun e w' => e = .returned (ans7 (ends7 (x1, y1) (x1, y1) [(x1, y1), (x2, y2), (x3, y3), (x4, y4)])) ∧ Below w.heap.size w w' :=
  ends_any B 0 4 4 [(x1, y1), (x2, y2), (x3, y3), (x4, y4)] w rfl (by omega) (by omega) (RdP.of4 h)
theorem iAddF (a b c d : Int) (w : World) :
    Calls Try.prog 23 #[.agg #[.int .i64 a, .int .i64 b], .agg #[.int .i64 c, .int .i64 d]] w fun e w' => e = .returned (.tuple #[.agg #[.int .i64 (addF (a, b) (c, d)).1, .int .i64 (addF (a, b) (c, d)).2], .bool (addG (a, b) (c, d))]) ∧ Below w.heap.size w w' := iAdd_any a b c d w
theorem iMulF (a b c d : Int) (w : World) :
    Calls Try.prog 25 #[.agg #[.int .i64 a, .int .i64 b], .agg #[.int .i64 c, .int .i64 d]] w fun e w' => e = .returned (.tuple #[.agg #[.int .i64 (mulF (a, b) (c, d)).1, .int .i64 (mulF (a, b) (c, d)).2], .bool (mulG (a, b) (c, d))]) ∧ Below w.heap.size w w' := iMul_any a b c d w
theorem radd_way (a b c d : P7) : radd a b c d = if (rng7 a b && rng7 c d) = true then ends7 (addF a c) (addF a c) [addF a c, addF b d] else no7 := by
  cases h : rng7 a b && rng7 c d
  · rw [radd_no h]; rfl
  · rw [Bool.and_eq_true] at h
    rw [radd_prog h.1 h.2]; rfl
theorem rmul_way (a b c d : P7) : rmul a b c d = if (rng7 a b && rng7 c d) = true then ends7 (mulF a c) (mulF a c) [mulF a c, mulF a d, mulF b c, mulF b d] else no7 := by
  cases h : rng7 a b && rng7 c d
  · rw [rmul_no h]; rfl
  · rw [Bool.and_eq_true] at h
    rw [rmul_prog h.1 h.2]; rfl

set_option maxRecDepth 100000 in
set_option maxHeartbeats 4000000 in
theorem iRadd_any (a b c d a' b' c' d' : Int) (w : World) :
    Calls Try.prog 6 #[.agg #[.int .i64 a, .int .i64 b, .int .i64 c, .int .i64 d], .agg #[.int .i64 a', .int .i64 b', .int .i64 c', .int .i64 d']] w fun e w' => e = .returned (.tuple #[.agg #[.int .i64 (radd (a, b) (c, d) (a', b') (c', d')).1.1, .int .i64 (radd (a, b) (c, d) (a', b') (c', d')).1.2, .int .i64 (radd (a, b) (c, d) (a', b') (c', d')).2.1.1, .int .i64 (radd (a, b) (c, d) (a', b') (c', d')).2.1.2], .bool (radd (a, b) (c, d) (a', b') (c', d')).2.2]) ∧ Below w.heap.size w w' := by
  have HP := hidU (fun W => iRng_any a b c d W)
  have HQ := hidU (fun W => iRng_any a' b' c' d' W)
  have HE : Hid (radd (a, b) (c, d) (a', b') (c', d') = _) := radd_way (a, b) (c, d) (a', b') (c', d')
  obtain ⟨p, hp⟩ : ∃ x, x = rng7 (a, b) (c, d) := ⟨_, rfl⟩
  obtain ⟨q, hq⟩ : ∃ x, x = rng7 (a', b') (c', d') := ⟨_, rfl⟩
  rw [← hp] at HP
  rw [← hq] at HQ
  rw [← hp, ← hq] at HE
  have H1 := hidU (fun W => iAddF a b a' b' W)
  obtain ⟨g1, hg1⟩ : ∃ x, x = addG (a, b) (a', b') := ⟨_, rfl⟩
  obtain ⟨xy1, h1⟩ : ∃ x, x = addF (a, b) (a', b') := ⟨_, rfl⟩
  rw [← hg1, ← h1] at H1
  rw [← h1] at HE
  clear hg1 h1
  obtain ⟨x1, y1⟩ := xy1
  simp only at H1
  have H2 := hidU (fun W => iAddF c d c' d' W)
  obtain ⟨g2, hg2⟩ : ∃ x, x = addG (c, d) (c', d') := ⟨_, rfl⟩
  obtain ⟨xy2, h2⟩ : ∃ x, x = addF (c, d) (c', d') := ⟨_, rfl⟩
  rw [← hg2, ← h2] at H2
  rw [← h2] at HE
  clear hg2 h2
  obtain ⟨x2, y2⟩ := xy2
  simp only at H2
  have HN := hidU (fun B W (h : IsB W B #[.int .i64 x1, .int .i64 y1, .int .i64 x2, .int .i64 y2] 25) => ends2_any B x1 y1 x2 y2 W h)
  obtain ⟨e7, he7⟩ : ∃ x, x = ends7 (x1, y1) (x1, y1) [(x1, y1), (x2, y2)] := ⟨_, rfl⟩
  rw [← he7] at HN HE
  obtain ⟨r, hr⟩ : ∃ x, x = radd (a, b) (c, d) (a', b') (c', d') := ⟨_, rfl⟩
  rw [← hr] at HE ⊢
  clear hp hq hr he7
  obtain ⟨⟨e1, e2⟩, ⟨e3, e4⟩, e5⟩ := e7
  unfold ans7 at HN
  obtain ⟨⟨r1, r2⟩, ⟨r3, r4⟩, r5⟩ := r
  simp only at HN ⊢
  go_enter Try.func6, Try.ntmps6
  go_upto_region 1 with fail
  obtain ⟨W0, hW⟩ : ∃ Y, Y = ((w.alloc (.cells #[.int .i64 a, .int .i64 b, .int .i64 c, .int .i64 d] 27)).alloc (.cells #[.int .i64 a', .int .i64 b', .int .i64 c', .int .i64 d'] 27)).alloc (.cells #[.int .i64 0, .int .i64 0, .int .i64 0, .int .i64 0] 27) := ⟨_, rfl⟩
  obtain ⟨P, hP⟩ : ∃ P, P = w.heap.size := ⟨_, rfl⟩
  have K0 : Hid (IsB W0 P #[.int .i64 a, .int .i64 b, .int .i64 c, .int .i64 d] 27) := by show IsB _ _ _ _; rw [hW, hP]; exact (IsB.new w _ _).below (((b0_any _ _).alloc (by simp) _))
  have K1 : Hid (IsB W0 (P + 1) #[.int .i64 a', .int .i64 b', .int .i64 c', .int .i64 d'] 27) := by show IsB _ _ _ _; rw [hW, hP]; exact (IsB.new2c w _ _ _).below ((b0_any _ _))
  have KR : Hid (IsB W0 (P + 1 + 1) #[.int .i64 0, .int .i64 0, .int .i64 0, .int .i64 0] 27) := by show IsB _ _ _ _; rw [hW, hP]; exact (IsB.new3c w _ _ _ _)
  have HB : Hid (Below w.heap.size w W0) := by show Below _ _ _; rw [hW]; exact (((b0_any w _).alloc (by simp) _).alloc (by simp <;> omega) _)
  rw [← hW, ← hP]
  clear hW
  obtain ⟨Q, hQ⟩ : ∃ Q, Q = P + 1 := ⟨_, rfl⟩
  obtain ⟨R, hR⟩ : ∃ R, R = P + 1 + 1 := ⟨_, rfl⟩
  rw [← hR] at KR ⊢
  rw [← hQ] at K1 ⊢
  have HRw : Hid (w.heap.size ≤ R) := by show _ ≤ _; omega
  clear hP hQ hR
  obtain ⟨z0, z1, z2, z3⟩ := K0.out.c4
  go_wp2_with fail
  refine (HP.out _).mono ?_
  rintro e v1 ⟨rfl, hb⟩
  clear z0 z1 z2 z3
  replace K0 := hidU (K0.out.below hb)
  replace K1 := hidU (K1.out.below hb)
  replace KR := hidU (KR.out.below hb)
  replace HB := hidU (HB.out.trans (hb.mono HB.out.size))
  clear hb
  obtain ⟨f0, f1, f2, f3⟩ := KR.out.f4
  obtain ⟨y0, yy1, yy2, yy3⟩ := KR.out.c4
  cases p
  · skip
    go_wp2
    obtain ⟨rfl, rfl, rfl, rfl, rfl⟩ := inj7 HE.out
    obtain ⟨q0, q1, q2, q3⟩ := (KR.out.set4 (.int .i64 0) (.int .i64 0) (.int .i64 0) (.int .i64 0)).c4
    exact bodyPost_ret (v := .tuple #[.agg #[.int .i64 0, .int .i64 0, .int .i64 0, .int .i64 0], .bool false]) (by simp [results, Try.results6, go_sem, q0, q1, q2, q3]) rfl ⟨rfl, below_set4 HB.out HRw.out _ _ _ _⟩
  clear f0 f1 f2 f3 y0 yy1 yy2 yy3
  obtain ⟨z0, z1, z2, z3⟩ := K1.out.c4
  go_wp2_with fail
  refine (HQ.out _).mono ?_
  rintro e v2 ⟨rfl, hb⟩
  clear z0 z1 z2 z3
  replace K0 := hidU (K0.out.below hb)
  replace K1 := hidU (K1.out.below hb)
  replace KR := hidU (KR.out.below hb)
  replace HB := hidU (HB.out.trans (hb.mono HB.out.size))
  clear hb
  obtain ⟨f0, f1, f2, f3⟩ := KR.out.f4
  obtain ⟨y0, yy1, yy2, yy3⟩ := KR.out.c4
  cases q
  · skip
    go_wp2
    obtain ⟨rfl, rfl, rfl, rfl, rfl⟩ := inj7 HE.out
    obtain ⟨q0, q1, q2, q3⟩ := (KR.out.set4 (.int .i64 0) (.int .i64 0) (.int .i64 0) (.int .i64 0)).c4
    exact bodyPost_ret (v := .tuple #[.agg #[.int .i64 0, .int .i64 0, .int .i64 0, .int .i64 0], .bool false]) (by simp [results, Try.results6, go_sem, q0, q1, q2, q3]) rfl ⟨rfl, below_set4 HB.out HRw.out _ _ _ _⟩
  clear f0 f1 f2 f3 y0 yy1 yy2 yy3
  obtain ⟨z0, z1, z2, z3⟩ := K0.out.c4
  obtain ⟨y0, yy1, yy2, yy3⟩ := K1.out.c4
  go_wp2_with fail
  refine (H1.out _).mono ?_
  rintro e t1 ⟨rfl, hb⟩
  clear z0 z1 z2 z3 y0 yy1 yy2 yy3
  replace K0 := hidU (K0.out.below hb)
  replace K1 := hidU (K1.out.below hb)
  replace KR := hidU (KR.out.below hb)
  replace HB := hidU (HB.out.trans (hb.mono HB.out.size))
  clear hb
  have hb := b0_any t1 (.cells #[.int .i64 x1, .int .i64 y1] 25)
  go_upto_region 4 with fail
  obtain ⟨Y1, hY⟩ : ∃ Y, Y = t1.alloc (.cells #[.int .i64 x1, .int .i64 y1] 25) := ⟨_, rfl⟩
  obtain ⟨B1, hF⟩ : ∃ F, F = t1.heap.size := ⟨_, rfl⟩
  have M1 : Hid (IsB Y1 B1 #[.int .i64 x1, .int .i64 y1] 25) := by show IsB _ _ _ _; rw [hY, hF]; exact IsB.new _ _ _
  rw [← hY] at hb
  rw [← hY, ← hF]
  clear hY hF
  replace K0 := hidU (K0.out.below hb)
  replace K1 := hidU (K1.out.below hb)
  replace KR := hidU (KR.out.below hb)
  replace HB := hidU (HB.out.trans (hb.mono HB.out.size))
  clear hb
  obtain ⟨z0, z1, z2, z3⟩ := K0.out.c4
  obtain ⟨y0, yy1, yy2, yy3⟩ := K1.out.c4
  go_wp2_with fail
  refine (H2.out _).mono ?_
  rintro e t2 ⟨rfl, hb⟩
  clear z0 z1 z2 z3 y0 yy1 yy2 yy3
  replace K0 := hidU (K0.out.below hb)
  replace K1 := hidU (K1.out.below hb)
  replace KR := hidU (KR.out.below hb)
  replace M1 := hidU (M1.out.below hb)
  replace HB := hidU (HB.out.trans (hb.mono HB.out.size))
  clear hb
  have hb := b0_any t2 (.cells #[.int .i64 x2, .int .i64 y2] 25)
  go_upto_region 5 with fail
  obtain ⟨Y2, hY⟩ : ∃ Y, Y = t2.alloc (.cells #[.int .i64 x2, .int .i64 y2] 25) := ⟨_, rfl⟩
  obtain ⟨B2, hF⟩ : ∃ F, F = t2.heap.size := ⟨_, rfl⟩
  have M2 : Hid (IsB Y2 B2 #[.int .i64 x2, .int .i64 y2] 25) := by show IsB _ _ _ _; rw [hY, hF]; exact IsB.new _ _ _
  rw [← hY] at hb
  rw [← hY, ← hF]
  clear hY hF
  replace K0 := hidU (K0.out.below hb)
  replace K1 := hidU (K1.out.below hb)
  replace KR := hidU (KR.out.below hb)
  replace M1 := hidU (M1.out.below hb)
  replace HB := hidU (HB.out.trans (hb.mono HB.out.size))
  clear hb
  obtain ⟨z10, z11⟩ := M1.out.c2
  obtain ⟨z20, z21⟩ := M2.out.c2
  have hb := b0_any Y2 (.cells #[.int .i64 x1, .int .i64 y1, .int .i64 x2, .int .i64 y2] 25)
  have KN := hidU (IsB.new Y2 #[.int .i64 x1, .int .i64 y1, .int .i64 x2, .int .i64 y2] 25)
  go_wp2_with fail
  refine (HN.out _ _ KN.out).mono ?_
  rintro e v9 ⟨rfl, hb2⟩
  replace hb := hb.trans (hb2.mono hb.size)
  clear z10 z11 z20 z21 hb2
  replace KR := hidU (KR.out.below hb)
  replace HB := hidU (HB.out.trans (hb.mono HB.out.size))
  clear hb
  obtain ⟨f0, f1, f2, f3⟩ := KR.out.f4
  obtain ⟨y0, yy1, yy2, yy3⟩ := KR.out.c4
  go_wp2
  obtain ⟨rfl, rfl, rfl, rfl, rfl⟩ := inj7 HE.out
  obtain ⟨q0, q1, q2, q3⟩ := (KR.out.set4 (.int .i64 r1) (.int .i64 r2) (.int .i64 r3) (.int .i64 r4)).c4
  exact bodyPost_ret (v := .tuple #[.agg #[.int .i64 r1, .int .i64 r2, .int .i64 r3, .int .i64 r4], .bool r5]) (by simp [results, Try.results6, go_sem, q0, q1, q2, q3]) rfl ⟨rfl, below_set4 HB.out HRw.out _ _ _ _⟩
set_option maxRecDepth 100000 in
set_option maxHeartbeats 4000000 in
theorem iRmul_any (a b c d a' b' c' d' : Int) (w : World) :
    Calls Try.prog 7 #[.agg #[.int .i64 a, .int .i64 b, .int .i64 c, .int .i64 d], .agg #[.int .i64 a', .int .i64 b', .int .i64 c', .int .i64 d']] w fun e w' => e = .returned (.tuple #[.agg #[.int .i64 (rmul (a, b) (c, d) (a', b') (c', d')).1.1, .int .i64 (rmul (a, b) (c, d) (a', b') (c', d')).1.2, .int .i64 (rmul (a, b) (c, d) (a', b') (c', d')).2.1.1, .int .i64 (rmul (a, b) (c, d) (a', b') (c', d')).2.1.2], .bool (rmul (a, b) (c, d) (a', b') (c', d')).2.2]) ∧ Below w.heap.size w w' := by
  have HP := hidU (fun W => iRng_any a b c d W)
  have HQ := hidU (fun W => iRng_any a' b' c' d' W)
  have HE : Hid (rmul (a, b) (c, d) (a', b') (c', d') = _) := rmul_way (a, b) (c, d) (a', b') (c', d')
  obtain ⟨p, hp⟩ : ∃ x, x = rng7 (a, b) (c, d) := ⟨_, rfl⟩
  obtain ⟨q, hq⟩ : ∃ x, x = rng7 (a', b') (c', d') := ⟨_, rfl⟩
  rw [← hp] at HP
  rw [← hq] at HQ
  rw [← hp, ← hq] at HE
  have H1 := hidU (fun W => iMulF a b a' b' W)
  obtain ⟨g1, hg1⟩ : ∃ x, x = mulG (a, b) (a', b') := ⟨_, rfl⟩
  obtain ⟨xy1, h1⟩ : ∃ x, x = mulF (a, b) (a', b') := ⟨_, rfl⟩
  rw [← hg1, ← h1] at H1
  rw [← h1] at HE
  clear hg1 h1
  obtain ⟨x1, y1⟩ := xy1
  simp only at H1
  have H2 := hidU (fun W => iMulF a b c' d' W)
  obtain ⟨g2, hg2⟩ : ∃ x, x = mulG (a, b) (c', d') := ⟨_, rfl⟩
  obtain ⟨xy2, h2⟩ : ∃ x, x = mulF (a, b) (c', d') := ⟨_, rfl⟩
  rw [← hg2, ← h2] at H2
  rw [← h2] at HE
  clear hg2 h2
  obtain ⟨x2, y2⟩ := xy2
  simp only at H2
  have H3 := hidU (fun W => iMulF c d a' b' W)
  obtain ⟨g3, hg3⟩ : ∃ x, x = mulG (c, d) (a', b') := ⟨_, rfl⟩
  obtain ⟨xy3, h3⟩ : ∃ x, x = mulF (c, d) (a', b') := ⟨_, rfl⟩
  rw [← hg3, ← h3] at H3
  rw [← h3] at HE
  clear hg3 h3
  obtain ⟨x3, y3⟩ := xy3
  simp only at H3
  have H4 := hidU (fun W => iMulF c d c' d' W)
  obtain ⟨g4, hg4⟩ : ∃ x, x = mulG (c, d) (c', d') := ⟨_, rfl⟩
  obtain ⟨xy4, h4⟩ : ∃ x, x = mulF (c, d) (c', d') := ⟨_, rfl⟩
  rw [← hg4, ← h4] at H4
  rw [← h4] at HE
  clear hg4 h4
  obtain ⟨x4, y4⟩ := xy4
  simp only at H4
  have HN := hidU (fun B W (h : IsB W B #[.int .i64 x1, .int .i64 y1, .int .i64 x2, .int .i64 y2, .int .i64 x3, .int .i64 y3, .int .i64 x4, .int .i64 y4] 25) => ends4_any B x1 y1 x2 y2 x3 y3 x4 y4 W h)
  obtain ⟨e7, he7⟩ : ∃ x, x = ends7 (x1, y1) (x1, y1) [(x1, y1), (x2, y2), (x3, y3), (x4, y4)] := ⟨_, rfl⟩
  rw [← he7] at HN HE
  obtain ⟨r, hr⟩ : ∃ x, x = rmul (a, b) (c, d) (a', b') (c', d') := ⟨_, rfl⟩
  rw [← hr] at HE ⊢
  clear hp hq hr he7
  obtain ⟨⟨e1, e2⟩, ⟨e3, e4⟩, e5⟩ := e7
  unfold ans7 at HN
  obtain ⟨⟨r1, r2⟩, ⟨r3, r4⟩, r5⟩ := r
  simp only at HN ⊢
  go_enter Try.func7, Try.ntmps7
  go_upto_region 1 with fail
  obtain ⟨W0, hW⟩ : ∃ Y, Y = ((w.alloc (.cells #[.int .i64 a, .int .i64 b, .int .i64 c, .int .i64 d] 27)).alloc (.cells #[.int .i64 a', .int .i64 b', .int .i64 c', .int .i64 d'] 27)).alloc (.cells #[.int .i64 0, .int .i64 0, .int .i64 0, .int .i64 0] 27) := ⟨_, rfl⟩
  obtain ⟨P, hP⟩ : ∃ P, P = w.heap.size := ⟨_, rfl⟩
  have K0 : Hid (IsB W0 P #[.int .i64 a, .int .i64 b, .int .i64 c, .int .i64 d] 27) := by show IsB _ _ _ _; rw [hW, hP]; exact (IsB.new w _ _).below (((b0_any _ _).alloc (by simp) _))
  have K1 : Hid (IsB W0 (P + 1) #[.int .i64 a', .int .i64 b', .int .i64 c', .int .i64 d'] 27) := by show IsB _ _ _ _; rw [hW, hP]; exact (IsB.new2c w _ _ _).below ((b0_any _ _))
  have KR : Hid (IsB W0 (P + 1 + 1) #[.int .i64 0, .int .i64 0, .int .i64 0, .int .i64 0] 27) := by show IsB _ _ _ _; rw [hW, hP]; exact (IsB.new3c w _ _ _ _)
  have HB : Hid (Below w.heap.size w W0) := by show Below _ _ _; rw [hW]; exact (((b0_any w _).alloc (by simp) _).alloc (by simp <;> omega) _)
  rw [← hW, ← hP]
  clear hW
  obtain ⟨Q, hQ⟩ : ∃ Q, Q = P + 1 := ⟨_, rfl⟩
  obtain ⟨R, hR⟩ : ∃ R, R = P + 1 + 1 := ⟨_, rfl⟩
  rw [← hR] at KR ⊢
  rw [← hQ] at K1 ⊢
  have HRw : Hid (w.heap.size ≤ R) := by show _ ≤ _; omega
  clear hP hQ hR
  obtain ⟨z0, z1, z2, z3⟩ := K0.out.c4
  go_wp2_with fail
  refine (HP.out _).mono ?_
  rintro e v1 ⟨rfl, hb⟩
  clear z0 z1 z2 z3
  replace K0 := hidU (K0.out.below hb)
  replace K1 := hidU (K1.out.below hb)
  replace KR := hidU (KR.out.below hb)
  replace HB := hidU (HB.out.trans (hb.mono HB.out.size))
  clear hb
  obtain ⟨f0, f1, f2, f3⟩ := KR.out.f4
  obtain ⟨y0, yy1, yy2, yy3⟩ := KR.out.c4
  cases p
  · skip
    go_wp2
    obtain ⟨rfl, rfl, rfl, rfl, rfl⟩ := inj7 HE.out
    obtain ⟨q0, q1, q2, q3⟩ := (KR.out.set4 (.int .i64 0) (.int .i64 0) (.int .i64 0) (.int .i64 0)).c4
    exact bodyPost_ret (v := .tuple #[.agg #[.int .i64 0, .int .i64 0, .int .i64 0, .int .i64 0], .bool false]) (by simp [results, Try.results7, go_sem, q0, q1, q2, q3]) rfl ⟨rfl, below_set4 HB.out HRw.out _ _ _ _⟩
  clear f0 f1 f2 f3 y0 yy1 yy2 yy3
  obtain ⟨z0, z1, z2, z3⟩ := K1.out.c4
  go_wp2_with fail
  refine (HQ.out _).mono ?_
  rintro e v2 ⟨rfl, hb⟩
  clear z0 z1 z2 z3
  replace K0 := hidU (K0.out.below hb)
  replace K1 := hidU (K1.out.below hb)
  replace KR := hidU (KR.out.below hb)
  replace HB := hidU (HB.out.trans (hb.mono HB.out.size))
  clear hb
  obtain ⟨f0, f1, f2, f3⟩ := KR.out.f4
  obtain ⟨y0, yy1, yy2, yy3⟩ := KR.out.c4
  cases q
  · skip
    go_wp2
    obtain ⟨rfl, rfl, rfl, rfl, rfl⟩ := inj7 HE.out
    obtain ⟨q0, q1, q2, q3⟩ := (KR.out.set4 (.int .i64 0) (.int .i64 0) (.int .i64 0) (.int .i64 0)).c4
    exact bodyPost_ret (v := .tuple #[.agg #[.int .i64 0, .int .i64 0, .int .i64 0, .int .i64 0], .bool false]) (by simp [results, Try.results7, go_sem, q0, q1, q2, q3]) rfl ⟨rfl, below_set4 HB.out HRw.out _ _ _ _⟩
  clear f0 f1 f2 f3 y0 yy1 yy2 yy3
  obtain ⟨z0, z1, z2, z3⟩ := K0.out.c4
  obtain ⟨y0, yy1, yy2, yy3⟩ := K1.out.c4
  go_wp2_with fail
  refine (H1.out _).mono ?_
  rintro e t1 ⟨rfl, hb⟩
  clear z0 z1 z2 z3 y0 yy1 yy2 yy3
  replace K0 := hidU (K0.out.below hb)
  replace K1 := hidU (K1.out.below hb)
  replace KR := hidU (KR.out.below hb)
  replace HB := hidU (HB.out.trans (hb.mono HB.out.size))
  clear hb
  have hb := b0_any t1 (.cells #[.int .i64 x1, .int .i64 y1] 25)
  go_upto_region 4 with fail
  obtain ⟨Y1, hY⟩ : ∃ Y, Y = t1.alloc (.cells #[.int .i64 x1, .int .i64 y1] 25) := ⟨_, rfl⟩
  obtain ⟨B1, hF⟩ : ∃ F, F = t1.heap.size := ⟨_, rfl⟩
  have M1 : Hid (IsB Y1 B1 #[.int .i64 x1, .int .i64 y1] 25) := by show IsB _ _ _ _; rw [hY, hF]; exact IsB.new _ _ _
  rw [← hY] at hb
  rw [← hY, ← hF]
  clear hY hF
  replace K0 := hidU (K0.out.below hb)
  replace K1 := hidU (K1.out.below hb)
  replace KR := hidU (KR.out.below hb)
  replace HB := hidU (HB.out.trans (hb.mono HB.out.size))
  clear hb
  obtain ⟨z0, z1, z2, z3⟩ := K0.out.c4
  obtain ⟨y0, yy1, yy2, yy3⟩ := K1.out.c4
  go_wp2_with fail
  refine (H2.out _).mono ?_
  rintro e t2 ⟨rfl, hb⟩
  clear z0 z1 z2 z3 y0 yy1 yy2 yy3
  replace K0 := hidU (K0.out.below hb)
  replace K1 := hidU (K1.out.below hb)
  replace KR := hidU (KR.out.below hb)
  replace M1 := hidU (M1.out.below hb)
  replace HB := hidU (HB.out.trans (hb.mono HB.out.size))
  clear hb
  have hb := b0_any t2 (.cells #[.int .i64 x2, .int .i64 y2] 25)
  go_upto_region 5 with fail
  obtain ⟨Y2, hY⟩ : ∃ Y, Y = t2.alloc (.cells #[.int .i64 x2, .int .i64 y2] 25) := ⟨_, rfl⟩
  obtain ⟨B2, hF⟩ : ∃ F, F = t2.heap.size := ⟨_, rfl⟩
  have M2 : Hid (IsB Y2 B2 #[.int .i64 x2, .int .i64 y2] 25) := by show IsB _ _ _ _; rw [hY, hF]; exact IsB.new _ _ _
  rw [← hY] at hb
  rw [← hY, ← hF]
  clear hY hF
  replace K0 := hidU (K0.out.below hb)
  replace K1 := hidU (K1.out.below hb)
  replace KR := hidU (KR.out.below hb)
  replace M1 := hidU (M1.out.below hb)
  replace HB := hidU (HB.out.trans (hb.mono HB.out.size))
  clear hb
  obtain ⟨z0, z1, z2, z3⟩ := K0.out.c4
  obtain ⟨y0, yy1, yy2, yy3⟩ := K1.out.c4
  go_wp2_with fail
  refine (H3.out _).mono ?_
  rintro e t3 ⟨rfl, hb⟩
  clear z0 z1 z2 z3 y0 yy1 yy2 yy3
  replace K0 := hidU (K0.out.below hb)
  replace K1 := hidU (K1.out.below hb)
  replace KR := hidU (KR.out.below hb)
  replace M1 := hidU (M1.out.below hb)
  replace M2 := hidU (M2.out.below hb)
  replace HB := hidU (HB.out.trans (hb.mono HB.out.size))
  clear hb
  have hb := b0_any t3 (.cells #[.int .i64 x3, .int .i64 y3] 25)
  go_upto_region 6 with fail
  obtain ⟨Y3, hY⟩ : ∃ Y, Y = t3.alloc (.cells #[.int .i64 x3, .int .i64 y3] 25) := ⟨_, rfl⟩
  obtain ⟨B3, hF⟩ : ∃ F, F = t3.heap.size := ⟨_, rfl⟩
  have M3 : Hid (IsB Y3 B3 #[.int .i64 x3, .int .i64 y3] 25) := by show IsB _ _ _ _; rw [hY, hF]; exact IsB.new _ _ _
  rw [← hY] at hb
  rw [← hY, ← hF]
  clear hY hF
  replace K0 := hidU (K0.out.below hb)
  replace K1 := hidU (K1.out.below hb)
  replace KR := hidU (KR.out.below hb)
  replace M1 := hidU (M1.out.below hb)
  replace M2 := hidU (M2.out.below hb)
  replace HB := hidU (HB.out.trans (hb.mono HB.out.size))
  clear hb
  obtain ⟨z0, z1, z2, z3⟩ := K0.out.c4
  obtain ⟨y0, yy1, yy2, yy3⟩ := K1.out.c4
  go_wp2_with fail
  refine (H4.out _).mono ?_
  rintro e t4 ⟨rfl, hb⟩
  clear z0 z1 z2 z3 y0 yy1 yy2 yy3
  replace K0 := hidU (K0.out.below hb)
  replace K1 := hidU (K1.out.below hb)
  replace KR := hidU (KR.out.below hb)
  replace M1 := hidU (M1.out.below hb)
  replace M2 := hidU (M2.out.below hb)
  replace M3 := hidU (M3.out.below hb)
  replace HB := hidU (HB.out.trans (hb.mono HB.out.size))
  clear hb
  have hb := b0_any t4 (.cells #[.int .i64 x4, .int .i64 y4] 25)
  go_upto_region 7 with fail
  obtain ⟨Y4, hY⟩ : ∃ Y, Y = t4.alloc (.cells #[.int .i64 x4, .int .i64 y4] 25) := ⟨_, rfl⟩
  obtain ⟨B4, hF⟩ : ∃ F, F = t4.heap.size := ⟨_, rfl⟩
  have M4 : Hid (IsB Y4 B4 #[.int .i64 x4, .int .i64 y4] 25) := by show IsB _ _ _ _; rw [hY, hF]; exact IsB.new _ _ _
  rw [← hY] at hb
  rw [← hY, ← hF]
  clear hY hF
  replace K0 := hidU (K0.out.below hb)
  replace K1 := hidU (K1.out.below hb)
  replace KR := hidU (KR.out.below hb)
  replace M1 := hidU (M1.out.below hb)
  replace M2 := hidU (M2.out.below hb)
  replace M3 := hidU (M3.out.below hb)
  replace HB := hidU (HB.out.trans (hb.mono HB.out.size))
  clear hb
  obtain ⟨z10, z11⟩ := M1.out.c2
  obtain ⟨z20, z21⟩ := M2.out.c2
  obtain ⟨z30, z31⟩ := M3.out.c2
  obtain ⟨z40, z41⟩ := M4.out.c2
  have hb := b0_any Y4 (.cells #[.int .i64 x1, .int .i64 y1, .int .i64 x2, .int .i64 y2, .int .i64 x3, .int .i64 y3, .int .i64 x4, .int .i64 y4] 25)
  have KN := hidU (IsB.new Y4 #[.int .i64 x1, .int .i64 y1, .int .i64 x2, .int .i64 y2, .int .i64 x3, .int .i64 y3, .int .i64 x4, .int .i64 y4] 25)
  go_wp2_with fail
  refine (HN.out _ _ KN.out).mono ?_
  rintro e v9 ⟨rfl, hb2⟩
  replace hb := hb.trans (hb2.mono hb.size)
  clear z10 z11 z20 z21 z30 z31 z40 z41 hb2
  replace KR := hidU (KR.out.below hb)
  replace HB := hidU (HB.out.trans (hb.mono HB.out.size))
  clear hb
  obtain ⟨f0, f1, f2, f3⟩ := KR.out.f4
  obtain ⟨y0, yy1, yy2, yy3⟩ := KR.out.c4
  go_wp2
  obtain ⟨rfl, rfl, rfl, rfl, rfl⟩ := inj7 HE.out
  obtain ⟨q0, q1, q2, q3⟩ := (KR.out.set4 (.int .i64 r1) (.int .i64 r2) (.int .i64 r3) (.int .i64 r4)).c4
  exact bodyPost_ret (v := .tuple #[.agg #[.int .i64 r1, .int .i64 r2, .int .i64 r3, .int .i64 r4], .bool r5]) (by simp [results, Try.results7, go_sem, q0, q1, q2, q3]) rfl ⟨rfl, below_set4 HB.out HRw.out _ _ _ _⟩
set_option maxRecDepth 100000 in
set_option maxHeartbeats 4000000 in
theorem iMeet_any (a b c d a' b' c' d' : Int) (w : World) :
    Calls Try.prog 8 #[.agg #[.int .i64 a, .int .i64 b, .int .i64 c, .int .i64 d], .agg #[.int .i64 a', .int .i64 b', .int .i64 c', .int .i64 d']] w fun e w' => e = .returned (.tuple #[.agg #[.int .i64 (rmeet (a, b) (c, d) (a', b') (c', d')).1.1, .int .i64 (rmeet (a, b) (c, d) (a', b') (c', d')).1.2, .int .i64 (rmeet (a, b) (c, d) (a', b') (c', d')).2.1.1, .int .i64 (rmeet (a, b) (c, d) (a', b') (c', d')).2.1.2], .bool (rmeet (a, b) (c, d) (a', b') (c', d')).2.2]) ∧ Below w.heap.size w w' := by
  have HE : Hid (_ = rmeet (a, b) (c, d) (a', b') (c', d')) := rmeet_prog (a, b) (c, d) (a', b') (c', d')
  have H1 := hidU (fun B W (h : IsB W B #[.int .i64 a, .int .i64 b, .int .i64 a', .int .i64 b'] 25) => ends2_any B a b a' b' W h)
  have H2 := hidU (fun B W (h : IsB W B #[.int .i64 c, .int .i64 d, .int .i64 c', .int .i64 d'] 25) => ends2_any B c d c' d' W h)
  obtain ⟨e7, he7⟩ : ∃ x, x = ends7 (a, b) (a, b) [(a, b), (a', b')] := ⟨_, rfl⟩
  obtain ⟨f7, hf7⟩ : ∃ x, x = ends7 (c, d) (c, d) [(c, d), (c', d')] := ⟨_, rfl⟩
  rw [← he7] at H1
  rw [← hf7] at H2
  rw [← he7, ← hf7] at HE
  obtain ⟨r, hr⟩ : ∃ x, x = rmeet (a, b) (c, d) (a', b') (c', d') := ⟨_, rfl⟩
  rw [← hr] at HE ⊢
  clear hr he7 hf7
  obtain ⟨⟨e1, e2⟩, ⟨e3, e4⟩, e5⟩ := e7
  obtain ⟨⟨g1, g2⟩, ⟨g3, g4⟩, g5⟩ := f7
  unfold ans7 at H1 H2
  simp only at H1 H2 HE
  have H3 := hidU (fun W => iRng_any e3 e4 g1 g2 W)
  obtain ⟨o, ho⟩ : ∃ x, x = rng7 (e3, e4) (g1, g2) := ⟨_, rfl⟩
  rw [← ho] at H3 HE
  clear ho
  obtain ⟨⟨r1, r2⟩, ⟨r3, r4⟩, r5⟩ := r
  simp only
  go_enter Try.func8, Try.ntmps8
  go_upto_region 1 with fail
  obtain ⟨W0, hW⟩ : ∃ Y, Y = ((w.alloc (.cells #[.int .i64 a, .int .i64 b, .int .i64 c, .int .i64 d] 27)).alloc (.cells #[.int .i64 a', .int .i64 b', .int .i64 c', .int .i64 d'] 27)).alloc (.cells #[.int .i64 0, .int .i64 0, .int .i64 0, .int .i64 0] 27) := ⟨_, rfl⟩
  obtain ⟨P, hP⟩ : ∃ P, P = w.heap.size := ⟨_, rfl⟩
  have K0 : Hid (IsB W0 P #[.int .i64 a, .int .i64 b, .int .i64 c, .int .i64 d] 27) := by show IsB _ _ _ _; rw [hW, hP]; exact (IsB.new w _ _).below (((b0_any _ _).alloc (by simp) _))
  have K1 : Hid (IsB W0 (P + 1) #[.int .i64 a', .int .i64 b', .int .i64 c', .int .i64 d'] 27) := by show IsB _ _ _ _; rw [hW, hP]; exact (IsB.new2c w _ _ _).below ((b0_any _ _))
  have KR : Hid (IsB W0 (P + 1 + 1) #[.int .i64 0, .int .i64 0, .int .i64 0, .int .i64 0] 27) := by show IsB _ _ _ _; rw [hW, hP]; exact (IsB.new3c w _ _ _ _)
  have HB : Hid (Below w.heap.size w W0) := by show Below _ _ _; rw [hW]; exact (((b0_any w _).alloc (by simp) _).alloc (by simp <;> omega) _)
  rw [← hW, ← hP]
  clear hW
  obtain ⟨Q, hQ⟩ : ∃ Q, Q = P + 1 := ⟨_, rfl⟩
  obtain ⟨R, hR⟩ : ∃ R, R = P + 1 + 1 := ⟨_, rfl⟩
  rw [← hR] at KR ⊢
  rw [← hQ] at K1 ⊢
  have HRw : Hid (w.heap.size ≤ R) := by show _ ≤ _; omega
  clear hP hQ hR
  obtain ⟨z0, z1, z2, z3⟩ := K0.out.c4
  obtain ⟨y0, yy1, yy2, yy3⟩ := K1.out.c4
  have hb := b0_any W0 (.cells #[.int .i64 a, .int .i64 b, .int .i64 a', .int .i64 b'] 25)
  have KN := hidU (IsB.new W0 #[.int .i64 a, .int .i64 b, .int .i64 a', .int .i64 b'] 25)
  go_wp2_with fail
  refine (H1.out _ _ KN.out).mono ?_
  rintro e t1 ⟨rfl, hb2⟩
  replace hb := hb.trans (hb2.mono hb.size)
  clear z0 z1 z2 z3 y0 yy1 yy2 yy3 hb2 KN
  replace K0 := hidU (K0.out.below hb)
  replace K1 := hidU (K1.out.below hb)
  replace KR := hidU (KR.out.below hb)
  replace HB := hidU (HB.out.trans (hb.mono HB.out.size))
  clear hb
  have hb := b0_any t1 (.cells #[.int .i64 e1, .int .i64 e2, .int .i64 e3, .int .i64 e4] 27)
  go_upto_region 2 with fail
  obtain ⟨Y1, hY⟩ : ∃ Y, Y = t1.alloc (.cells #[.int .i64 e1, .int .i64 e2, .int .i64 e3, .int .i64 e4] 27) := ⟨_, rfl⟩
  obtain ⟨B1, hF⟩ : ∃ F, F = t1.heap.size := ⟨_, rfl⟩
  have M1 : Hid (IsB Y1 B1 #[.int .i64 e1, .int .i64 e2, .int .i64 e3, .int .i64 e4] 27) := by show IsB _ _ _ _; rw [hY, hF]; exact IsB.new _ _ _
  rw [← hY] at hb
  rw [← hY, ← hF]
  clear hY hF
  replace K0 := hidU (K0.out.below hb)
  replace K1 := hidU (K1.out.below hb)
  replace KR := hidU (KR.out.below hb)
  replace HB := hidU (HB.out.trans (hb.mono HB.out.size))
  clear hb
  obtain ⟨z0, z1, z2, z3⟩ := K0.out.c4
  obtain ⟨y0, yy1, yy2, yy3⟩ := K1.out.c4
  have hb := b0_any Y1 (.cells #[.int .i64 c, .int .i64 d, .int .i64 c', .int .i64 d'] 25)
  have KN := hidU (IsB.new Y1 #[.int .i64 c, .int .i64 d, .int .i64 c', .int .i64 d'] 25)
  go_wp2_with fail
  refine (H2.out _ _ KN.out).mono ?_
  rintro e t2 ⟨rfl, hb2⟩
  replace hb := hb.trans (hb2.mono hb.size)
  clear z0 z1 z2 z3 y0 yy1 yy2 yy3 hb2 KN
  replace K0 := hidU (K0.out.below hb)
  replace K1 := hidU (K1.out.below hb)
  replace KR := hidU (KR.out.below hb)
  replace M1 := hidU (M1.out.below hb)
  replace HB := hidU (HB.out.trans (hb.mono HB.out.size))
  clear hb
  have hb := b0_any t2 (.cells #[.int .i64 g1, .int .i64 g2, .int .i64 g3, .int .i64 g4] 27)
  go_upto_region 3 with fail
  obtain ⟨Y2, hY⟩ : ∃ Y, Y = t2.alloc (.cells #[.int .i64 g1, .int .i64 g2, .int .i64 g3, .int .i64 g4] 27) := ⟨_, rfl⟩
  obtain ⟨B2, hF⟩ : ∃ F, F = t2.heap.size := ⟨_, rfl⟩
  have M2 : Hid (IsB Y2 B2 #[.int .i64 g1, .int .i64 g2, .int .i64 g3, .int .i64 g4] 27) := by show IsB _ _ _ _; rw [hY, hF]; exact IsB.new _ _ _
  rw [← hY] at hb
  rw [← hY, ← hF]
  clear hY hF
  replace K0 := hidU (K0.out.below hb)
  replace K1 := hidU (K1.out.below hb)
  replace KR := hidU (KR.out.below hb)
  replace M1 := hidU (M1.out.below hb)
  replace HB := hidU (HB.out.trans (hb.mono HB.out.size))
  clear hb
  obtain ⟨z0, z1, z2, z3⟩ := M1.out.c4
  obtain ⟨y0, yy1, yy2, yy3⟩ := M2.out.c4
  have hb := b0_any Y2 (.cells #[.int .i64 e3, .int .i64 e4, .int .i64 g1, .int .i64 g2] 27)
  go_upto_region 4 with fail
  obtain ⟨Y3, hY⟩ : ∃ Y, Y = Y2.alloc (.cells #[.int .i64 e3, .int .i64 e4, .int .i64 g1, .int .i64 g2] 27) := ⟨_, rfl⟩
  obtain ⟨B3, hF⟩ : ∃ F, F = Y2.heap.size := ⟨_, rfl⟩
  have M3 : Hid (IsB Y3 B3 #[.int .i64 e3, .int .i64 e4, .int .i64 g1, .int .i64 g2] 27) := by show IsB _ _ _ _; rw [hY, hF]; exact IsB.new _ _ _
  rw [← hY] at hb
  rw [← hY, ← hF]
  clear hY hF z0 z1 z2 z3 y0 yy1 yy2 yy3
  replace KR := hidU (KR.out.below hb)
  replace HB := hidU (HB.out.trans (hb.mono HB.out.size))
  clear hb
  obtain ⟨z0, z1, z2, z3⟩ := M3.out.c4
  go_wp2_with fail
  refine (H3.out _).mono ?_
  rintro e v3 ⟨rfl, hb⟩
  clear z0 z1 z2 z3
  replace KR := hidU (KR.out.below hb)
  replace M3 := hidU (M3.out.below hb)
  replace HB := hidU (HB.out.trans (hb.mono HB.out.size))
  clear hb
  obtain ⟨f0, f1, f2, f3⟩ := KR.out.f4
  obtain ⟨y0, yy1, yy2, yy3⟩ := KR.out.c4
  obtain ⟨z0, z1, z2, z3⟩ := M3.out.c4
  cases o
  · skip
    go_wp2
    obtain ⟨rfl, rfl, rfl, rfl, rfl⟩ := inj7 HE.out.symm
    obtain ⟨q0, q1, q2, q3⟩ := (KR.out.set4 (.int .i64 0) (.int .i64 0) (.int .i64 0) (.int .i64 0)).c4
    exact bodyPost_ret (v := .tuple #[.agg #[.int .i64 0, .int .i64 0, .int .i64 0, .int .i64 0], .bool false]) (by simp [results, Try.results8, go_sem, q0, q1, q2, q3]) rfl ⟨rfl, below_set4 HB.out HRw.out _ _ _ _⟩
  go_wp2
  obtain ⟨rfl, rfl, rfl, rfl, rfl⟩ := inj7 HE.out.symm
  obtain ⟨q0, q1, q2, q3⟩ := (KR.out.set4 (.int .i64 r1) (.int .i64 r2) (.int .i64 r3) (.int .i64 r4)).c4
  exact bodyPost_ret (v := .tuple #[.agg #[.int .i64 r1, .int .i64 r2, .int .i64 r3, .int .i64 r4], .bool true]) (by simp [results, Try.results8, go_sem, q0, q1, q2, q3]) rfl ⟨rfl, below_set4 HB.out HRw.out _ _ _ _⟩
end Go.Proofs.Ytgbdebjnlfeedaa
