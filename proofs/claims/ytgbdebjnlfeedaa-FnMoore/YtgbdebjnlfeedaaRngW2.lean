/- The walks of the model's RangeAdd, RangeMul and Meet. -/
import Derived.Test.YtgbdebjnlfeedaaRngW1
import Derived.Test.YtgbdebjnlfeedaaCalcW
import Derived.Deep.DeepCutAuto
import Derived.Deep.RegionHeld3
namespace Go.Proofs.Ytgbdebjnlfeedaa
open Go.RowKit Go.Proofs.Ytgbdebjnlfeedaa.RM

theorem IsB.grownK {W W' : World} {B K : Nat} {vs : Array Value} {t : TypeId} (h : IsB W B vs t) (hg : W.grownBy W' (some K)) (hne : B ≠ K) : IsB W' B vs t := (hg.block B h.lt (by simpa using hne)).trans h
theorem IsB.other4 {W : World} {K B : Nat} {vs : Array Value} {t : TypeId} (h : IsB W K vs t) (hne : K ≠ B) (b0 b1 b2 b3 : Value) : IsB ((((W.setCell ⟨B, 0, none⟩ b0).setCell ⟨B, 1, none⟩ b1).setCell ⟨B, 2, none⟩ b2).setCell ⟨B, 3, none⟩ b3) K vs t :=
  (((h.other hne 0 b0).other hne 1 b1).other hne 2 b2).other hne 3 b3
theorem IsB.other2 {W : World} {K B : Nat} {vs : Array Value} {t : TypeId} (h : IsB W K vs t) (hne : K ≠ B) (b0 b1 : Value) : IsB ((W.setCell ⟨B, 0, none⟩ b0).setCell ⟨B, 1, none⟩ b1) K vs t :=
  (h.other hne 0 b0).other hne 1 b1
theorem kF_yes {g : Bool} (h : g = true) (n d : Int) : kN g n = n ∧ kD g d = d := by subst h; exact ⟨rfl, rfl⟩
/-- the model's sum and product, as its reckoning tells them -/
def kF (g : Bool) (p : P7) : P7 := (kN g p.1, kD g p.2)
theorem kF_true (p : P7) : kF true p = p := rfl
theorem radd_k (a b c d : P7) : radd a b c d = if (rng7 a b && rng7 c d && addG a c && addG b d) = true then (kF (addG a c) (addF a c), kF (addG b d) (addF b d), true) else no7 := by
  unfold radd
  cases addG a c
  · simp
  cases addG b d
  · simp
  rfl
theorem rmul_k (a b c d : P7) : rmul a b c d = if (rng7 a b && rng7 c d && mulG a c && mulG a d && mulG b c && mulG b d) = true then (lst7 (lst7 (kF (mulG a c) (mulF a c)) (kF (mulG a d) (mulF a d))) (lst7 (kF (mulG b c) (mulF b c)) (kF (mulG b d) (mulF b d))), mst7 (mst7 (kF (mulG a c) (mulF a c)) (kF (mulG a d) (mulF a d))) (mst7 (kF (mulG b c) (mulF b c)) (kF (mulG b d) (mulF b d))), true) else no7 := by
  unfold rmul
  cases mulG a c
  · simp
  cases mulG a d
  · simp
  cases mulG b c
  · simp
  cases mulG b d
  · simp
  rfl
theorem rmeet_k (a b c d : P7) : rmeet a b c d = if (rng7 a b && rng7 c d && rng7 (mst7 a c) (lst7 b d)) = true then (mst7 a c, lst7 b d, true) else no7 := rfl
theorem cAddB (K : Nat) (bd : Bool) (a b c d : Int) (w : World) (hK : IsB w K #[.bool bd] 47) :
    Calls Try.prog 30 #[.pointer (some ⟨K, 0, none⟩), .agg #[.int .i64 a, .int .i64 b], .agg #[.int .i64 c, .int .i64 d]] w fun e w' =>
      e = .returned (.agg #[.int .i64 (kF (addG (a, b) (c, d)) (addF (a, b) (c, d))).1, .int .i64 (kF (addG (a, b) (c, d)) (addF (a, b) (c, d))).2]) ∧ IsB w' K #[.bool (bd || !addG (a, b) (c, d))] 47 ∧ w.grownBy w' (some K) := cAdd_any K bd a b c d w hK
theorem cMulB (K : Nat) (bd : Bool) (a b c d : Int) (w : World) (hK : IsB w K #[.bool bd] 47) :
    Calls Try.prog 36 #[.pointer (some ⟨K, 0, none⟩), .agg #[.int .i64 a, .int .i64 b], .agg #[.int .i64 c, .int .i64 d]] w fun e w' =>
      e = .returned (.agg #[.int .i64 (kF (mulG (a, b) (c, d)) (mulF (a, b) (c, d))).1, .int .i64 (kF (mulG (a, b) (c, d)) (mulF (a, b) (c, d))).2]) ∧ IsB w' K #[.bool (bd || !mulG (a, b) (c, d))] 47 ∧ w.grownBy w' (some K) := cMul_any K bd a b c d w hK
theorem inj7 {r1 r2 r3 r4 x1 x2 y1 y2 : Int} {r5 o : Bool} (h : (((r1, r2), (r3, r4), r5) : A7) = ((x1, x2), (y1, y2), o)) : r1 = x1 ∧ r2 = x2 ∧ r3 = y1 ∧ r4 = y2 ∧ r5 = o := by
  injection h with h1 h2
  injection h1 with h3 h4
  injection h2 with h5 h6
  injection h5 with h7 h8
  exact ⟨h3, h4, h7, h8, h6⟩

set_option maxRecDepth 100000 in
set_option maxHeartbeats 4000000 in
theorem sRadd_any (a b c d a' b' c' d' : Int) (w : World) :
    Calls Try.prog 11 #[.agg #[.int .i64 a, .int .i64 b, .int .i64 c, .int .i64 d], .agg #[.int .i64 a', .int .i64 b', .int .i64 c', .int .i64 d']] w fun e w' => e = .returned (.tuple #[.agg #[.int .i64 (radd (a, b) (c, d) (a', b') (c', d')).1.1, .int .i64 (radd (a, b) (c, d) (a', b') (c', d')).1.2, .int .i64 (radd (a, b) (c, d) (a', b') (c', d')).2.1.1, .int .i64 (radd (a, b) (c, d) (a', b') (c', d')).2.1.2], .bool (radd (a, b) (c, d) (a', b') (c', d')).2.2]) ∧ Below w.heap.size w w' := by
  have HP := hidU (fun W => sRng_any a b c d W)
  have HQ := hidU (fun W => sRng_any a' b' c' d' W)
  have HE : Hid (radd (a, b) (c, d) (a', b') (c', d') = _) := radd_k (a, b) (c, d) (a', b') (c', d')
  have H1 := hidU (fun W K (h : IsB W K #[.bool false] 47) => cAddB K false a b a' b' W h)
  obtain ⟨p, hp⟩ : ∃ x, x = rng7 (a, b) (c, d) := ⟨_, rfl⟩
  obtain ⟨q, hq⟩ : ∃ x, x = rng7 (a', b') (c', d') := ⟨_, rfl⟩
  obtain ⟨g1, hg1⟩ : ∃ x, x = addG (a, b) (a', b') := ⟨_, rfl⟩
  have H2 := hidU (fun W K (h : IsB W K #[.bool (!g1)] 47) => cAddB K (!g1) c d c' d' W h)
  obtain ⟨g2, hg2⟩ : ∃ x, x = addG (c, d) (c', d') := ⟨_, rfl⟩
  rw [← hp] at HP
  rw [← hq] at HQ
  rw [← hg1, Bool.false_or] at H1
  rw [← hg2] at H2
  rw [← hp, ← hq, ← hg1, ← hg2] at HE
  obtain ⟨xy1, h1⟩ : ∃ x, x = kF g1 (addF (a, b) (a', b')) := ⟨_, rfl⟩
  obtain ⟨xy2, h2⟩ : ∃ x, x = kF g2 (addF (c, d) (c', d')) := ⟨_, rfl⟩
  rw [← h1] at H1
  rw [← h2] at H2
  rw [← h1, ← h2] at HE
  obtain ⟨r, hr⟩ : ∃ x, x = radd (a, b) (c, d) (a', b') (c', d') := ⟨_, rfl⟩
  rw [← hr] at HE ⊢
  clear hp hq hg1 hg2 h1 h2 hr
  obtain ⟨x1, y1⟩ := xy1
  obtain ⟨x2, y2⟩ := xy2
  obtain ⟨⟨r1, r2⟩, ⟨r3, r4⟩, r5⟩ := r
  simp only at H1 H2 ⊢
  go_enter Try.func11, Try.ntmps11
  go_upto_region 2 with fail
  obtain ⟨W0, hW⟩ : ∃ Y, Y = (((w.alloc (.cells #[.int .i64 a, .int .i64 b, .int .i64 c, .int .i64 d] 27)).alloc (.cells #[.int .i64 a', .int .i64 b', .int .i64 c', .int .i64 d'] 27)).alloc (.cells #[.int .i64 0, .int .i64 0, .int .i64 0, .int .i64 0] 27)).alloc (.cells #[.bool false] 47) := ⟨_, rfl⟩
  obtain ⟨P, hP⟩ : ∃ P, P = w.heap.size := ⟨_, rfl⟩
  have K0 : Hid (IsB W0 P #[.int .i64 a, .int .i64 b, .int .i64 c, .int .i64 d] 27) := by show IsB _ _ _ _; rw [hW, hP]; exact (IsB.new w _ _).below (((b0_any _ _).alloc (by simp) _).alloc (by simp <;> omega) _)
  have K1 : Hid (IsB W0 (P + 1) #[.int .i64 a', .int .i64 b', .int .i64 c', .int .i64 d'] 27) := by show IsB _ _ _ _; rw [hW, hP]; exact (IsB.new2c w _ _ _).below ((b0_any _ _).alloc (by simp) _)
  have KR : Hid (IsB W0 (P + 1 + 1) #[.int .i64 0, .int .i64 0, .int .i64 0, .int .i64 0] 27) := by show IsB _ _ _ _; rw [hW, hP]; exact (IsB.new3c w _ _ _ _).below (b0_any _ _)
  have HB : Hid (Below w.heap.size w W0) := by show Below _ _ _; rw [hW]; exact (((b0_any w _).alloc (by simp) _).alloc (by simp <;> omega) _).alloc (by simp <;> omega) _
  have KK : Hid (IsB W0 (P + 1 + 1 + 1) #[.bool false] 47) := by show IsB _ _ _ _; rw [hW, hP]; have h4 := IsB.new (((w.alloc (.cells #[.int .i64 a, .int .i64 b, .int .i64 c, .int .i64 d] 27)).alloc (.cells #[.int .i64 a', .int .i64 b', .int .i64 c', .int .i64 d'] 27)).alloc (.cells #[.int .i64 0, .int .i64 0, .int .i64 0, .int .i64 0] 27)) #[.bool false] 47; simpa using h4
  rw [← hW, ← hP]
  clear hW
  obtain ⟨Q, hQ⟩ : ∃ Q, Q = P + 1 := ⟨_, rfl⟩
  obtain ⟨R, hR⟩ : ∃ R, R = P + 1 + 1 := ⟨_, rfl⟩
  obtain ⟨K, hKK⟩ : ∃ K, K = P + 1 + 1 + 1 := ⟨_, rfl⟩
  rw [← hKK] at KK ⊢
  rw [← hR] at KR ⊢
  rw [← hQ] at K1 ⊢
  have HRw : Hid (w.heap.size ≤ R) := by show _ ≤ _; omega
  have HKw : Hid (w.heap.size ≤ K) := by show _ ≤ _; omega
  have HPK : Hid (P ≠ K) := by show _ ≠ _; omega
  have HQK : Hid (Q ≠ K) := by show _ ≠ _; omega
  have HRK : Hid (R ≠ K) := by show _ ≠ _; omega
  clear hP hQ hR hKK
  go_upto_region 2 with fail
  go_cut [7] (fun s7 wx => ∃ (T : Nat), s7 = .pointer (some ⟨T, 0, none⟩) ∧ Hid (IsB wx T #[.int .i64 x1, .int .i64 y1, .int .i64 x2, .int .i64 y2] 27) ∧ Hid (IsB wx P #[.int .i64 a, .int .i64 b, .int .i64 c, .int .i64 d] 27) ∧ Hid (IsB wx Q #[.int .i64 a', .int .i64 b', .int .i64 c', .int .i64 d'] 27) ∧ Hid (IsB wx R #[.int .i64 0, .int .i64 0, .int .i64 0, .int .i64 0] 27) ∧ Hid (IsB wx K #[.bool (!g1 || !g2)] 47) ∧ Hid (Below w.heap.size w wx))
  case first =>
    have hb := (Below.refl W0.heap.size W0).drew
    replace K0 := hidU (K0.out.below hb)
    replace K1 := hidU (K1.out.below hb)
    replace KR := hidU (KR.out.below hb)
    replace KK := hidU (KK.out.below hb)
    replace HB := hidU (HB.out.trans (hb.mono HB.out.size))
    clear hb
    refine wp_region_noPanic ?_
    refine wp_region_held_drew (S := fun W => IsB W P #[.int .i64 a, .int .i64 b, .int .i64 c, .int .i64 d] 27 ∧ IsB W Q #[.int .i64 a', .int .i64 b', .int .i64 c', .int .i64 d'] 27) (by kernel_rfl) ⟨K0.out, K1.out⟩ (fun hHeld => ?_)
    obtain ⟨wd, hwd⟩ : ∃ u, u = W0.drew := ⟨_, rfl⟩
    rw [← hwd] at K0 K1 KR KK HB hHeld ⊢
    clear hwd
    refine wpAnyH_take (i := 0) (v := ?_) rfl (by kernel_rfl) (by kernel_rfl) (by kernel_rfl) (fun _ _ _ h => h) (Or.inl ⟨by kernel_rfl, ?_⟩) hHeld ?_
    rotate_left
    · intro wz hSw; obtain ⟨hS0, hS1⟩ := hSw; obtain ⟨p0_0, p0_1, p0_2, p0_3⟩ := hS0.c4; obtain ⟨p1_0, p1_1, p1_2, p1_3⟩ := hS1.c4; clear hS0 hS1; go_simp; all_goals (try with_reducible rfl)
    (try simp only [List.getElem_toArray]); (try simp only [List.getElem_cons_succ]); (try simp only [List.getElem_cons_zero]); (try simp only [Act.put]); (try simp only [List.setIfInBounds_toArray]); (try simp only [List.set_cons_succ]); (try simp only [List.set_cons_zero])
    refine wpAnyH_take (i := 1) (v := ?_) rfl (by kernel_rfl) (by kernel_rfl) (by kernel_rfl) (fun _ _ _ h => h) (Or.inl ⟨by kernel_rfl, ?_⟩) hHeld ?_
    rotate_left
    · intro wz hSw; obtain ⟨hS0, hS1⟩ := hSw; obtain ⟨p0_0, p0_1, p0_2, p0_3⟩ := hS0.c4; obtain ⟨p1_0, p1_1, p1_2, p1_3⟩ := hS1.c4; clear hS0 hS1; go_simp; all_goals (try with_reducible rfl)
    (try simp only [List.getElem_toArray]); (try simp only [List.getElem_cons_succ]); (try simp only [List.getElem_cons_zero]); (try simp only [Act.put]); (try simp only [List.setIfInBounds_toArray]); (try simp only [List.set_cons_succ]); (try simp only [List.set_cons_zero])
    refine wpAnyH_take (i := 2) (v := ?_) rfl (by kernel_rfl) (by kernel_rfl) (by kernel_rfl) (fun _ _ _ h => h) (Or.inl ⟨by kernel_rfl, ?_⟩) hHeld ?_
    rotate_left
    · intro wz hSw; obtain ⟨hS0, hS1⟩ := hSw; obtain ⟨p0_0, p0_1, p0_2, p0_3⟩ := hS0.c4; obtain ⟨p1_0, p1_1, p1_2, p1_3⟩ := hS1.c4; clear hS0 hS1; go_simp; all_goals (try with_reducible rfl)
    (try simp only [List.getElem_toArray]); (try simp only [List.getElem_cons_succ]); (try simp only [List.getElem_cons_zero]); (try simp only [Act.put]); (try simp only [List.setIfInBounds_toArray]); (try simp only [List.set_cons_succ]); (try simp only [List.set_cons_zero])
    refine wpAnyH_take (i := 3) (v := ?_) rfl (by kernel_rfl) (by kernel_rfl) (by kernel_rfl) (fun _ _ _ h => h) (Or.inl ⟨by kernel_rfl, ?_⟩) hHeld ?_
    rotate_left
    · intro wz hSw; obtain ⟨hS0, hS1⟩ := hSw; obtain ⟨p0_0, p0_1, p0_2, p0_3⟩ := hS0.c4; obtain ⟨p1_0, p1_1, p1_2, p1_3⟩ := hS1.c4; clear hS0 hS1; go_simp; all_goals (try with_reducible rfl)
    (try simp only [List.getElem_toArray]); (try simp only [List.getElem_cons_succ]); (try simp only [List.getElem_cons_zero]); (try simp only [Act.put]); (try simp only [List.setIfInBounds_toArray]); (try simp only [List.set_cons_succ]); (try simp only [List.set_cons_zero])
    refine wpAnyH_take (i := 4) (v := ?_) rfl (by kernel_rfl) (by kernel_rfl) (by kernel_rfl) (fun _ _ _ h => h) (Or.inl ⟨by kernel_rfl, ?_⟩) hHeld ?_
    rotate_left
    · intro wz hSw; obtain ⟨hS0, hS1⟩ := hSw; obtain ⟨p0_0, p0_1, p0_2, p0_3⟩ := hS0.c4; obtain ⟨p1_0, p1_1, p1_2, p1_3⟩ := hS1.c4; clear hS0 hS1; go_simp; all_goals (try with_reducible rfl)
    (try simp only [List.getElem_toArray]); (try simp only [List.getElem_cons_succ]); (try simp only [List.getElem_cons_zero]); (try simp only [Act.put]); (try simp only [List.setIfInBounds_toArray]); (try simp only [List.set_cons_succ]); (try simp only [List.set_cons_zero])
    refine wpAnyH_take (i := 6) (v := ?_) rfl (by kernel_rfl) (by kernel_rfl) (by kernel_rfl) (fun _ _ _ h => h) (Or.inl ⟨by kernel_rfl, ?_⟩) hHeld ?_
    rotate_left
    · intro wz hSw; obtain ⟨hS0, hS1⟩ := hSw; obtain ⟨p0_0, p0_1, p0_2, p0_3⟩ := hS0.c4; obtain ⟨p1_0, p1_1, p1_2, p1_3⟩ := hS1.c4; clear hS0 hS1; go_simp; all_goals (try with_reducible rfl)
    (try simp only [List.getElem_toArray]); (try simp only [List.getElem_cons_succ]); (try simp only [List.getElem_cons_zero]); (try simp only [Act.put]); (try simp only [List.setIfInBounds_toArray]); (try simp only [List.set_cons_succ]); (try simp only [List.set_cons_zero])
    refine wpAnyH_take (i := 7) (v := ?_) rfl (by kernel_rfl) (by kernel_rfl) (by kernel_rfl) (fun _ _ _ h => h) (Or.inl ⟨by kernel_rfl, ?_⟩) hHeld ?_
    rotate_left
    · intro wz hSw; obtain ⟨hS0, hS1⟩ := hSw; obtain ⟨p0_0, p0_1, p0_2, p0_3⟩ := hS0.c4; obtain ⟨p1_0, p1_1, p1_2, p1_3⟩ := hS1.c4; clear hS0 hS1; go_simp; all_goals (try with_reducible rfl)
    (try simp only [List.getElem_toArray]); (try simp only [List.getElem_cons_succ]); (try simp only [List.getElem_cons_zero]); (try simp only [Act.put]); (try simp only [List.setIfInBounds_toArray]); (try simp only [List.set_cons_succ]); (try simp only [List.set_cons_zero])
    refine wpAnyH_take (i := 8) (v := ?_) rfl (by kernel_rfl) (by kernel_rfl) (by kernel_rfl) (fun _ _ _ h => h) (Or.inl ⟨by kernel_rfl, ?_⟩) hHeld ?_
    rotate_left
    · intro wz hSw; obtain ⟨hS0, hS1⟩ := hSw; obtain ⟨p0_0, p0_1, p0_2, p0_3⟩ := hS0.c4; obtain ⟨p1_0, p1_1, p1_2, p1_3⟩ := hS1.c4; clear hS0 hS1; go_simp; all_goals (try with_reducible rfl)
    (try simp only [List.getElem_toArray]); (try simp only [List.getElem_cons_succ]); (try simp only [List.getElem_cons_zero]); (try simp only [Act.put]); (try simp only [List.setIfInBounds_toArray]); (try simp only [List.set_cons_succ]); (try simp only [List.set_cons_zero])
    refine wpAnyH_take (i := 9) (v := ?_) rfl (by kernel_rfl) (by kernel_rfl) (by kernel_rfl) (fun _ _ _ h => h) (Or.inl ⟨by kernel_rfl, ?_⟩) hHeld ?_
    rotate_left
    · intro wz hSw; obtain ⟨hS0, hS1⟩ := hSw; obtain ⟨p0_0, p0_1, p0_2, p0_3⟩ := hS0.c4; obtain ⟨p1_0, p1_1, p1_2, p1_3⟩ := hS1.c4; clear hS0 hS1; go_simp; all_goals (try with_reducible rfl)
    (try simp only [List.getElem_toArray]); (try simp only [List.getElem_cons_succ]); (try simp only [List.getElem_cons_zero]); (try simp only [Act.put]); (try simp only [List.setIfInBounds_toArray]); (try simp only [List.set_cons_succ]); (try simp only [List.set_cons_zero])
    refine wpAnyH_take (i := 10) (v := ?_) rfl (by kernel_rfl) (by kernel_rfl) (by kernel_rfl) (fun _ _ _ h => h) (Or.inl ⟨by kernel_rfl, ?_⟩) hHeld ?_
    rotate_left
    · intro wz hSw; obtain ⟨hS0, hS1⟩ := hSw; obtain ⟨p0_0, p0_1, p0_2, p0_3⟩ := hS0.c4; obtain ⟨p1_0, p1_1, p1_2, p1_3⟩ := hS1.c4; clear hS0 hS1; go_simp; all_goals (try with_reducible rfl)
    (try simp only [List.getElem_toArray]); (try simp only [List.getElem_cons_succ]); (try simp only [List.getElem_cons_zero]); (try simp only [Act.put]); (try simp only [List.setIfInBounds_toArray]); (try simp only [List.set_cons_succ]); (try simp only [List.set_cons_zero])
    refine wpAnyH_ready (rs := [5, 13]) (by kernel_rfl) (by simp) (AllReadyH.cons rfl (fun Kc hKc => ?_) (AllReadyH.cons rfl (fun Kc hKc => ?_) AllReadyH.nil))
    · go_simp
      refine (H1.out _ _ KK.out).mono ?_
      rintro e u1 ⟨rfl, hk, hg⟩
      replace K0 := hidU (K0.out.grownK hg HPK.out)
      replace K1 := hidU (K1.out.grownK hg HQK.out)
      replace KR := hidU (KR.out.grownK hg HRK.out)
      replace HB := hidU (HB.out.grown hg HB.out.size (fun j ej => by cases ej; exact HKw.out))
      have KK' : Hid (IsB u1 K #[.bool (!g1)] 47) := hk
      replace KK := KK'
      clear hk hg KK'
      go_wp2_with fail
      refine hKc.out _ _ ⟨K0.out, K1.out⟩ (fun hHeld => ?_)
      clear hKc Kc
      (try simp only [List.getElem_toArray]); (try simp only [List.getElem_cons_succ]); (try simp only [List.getElem_cons_zero]); (try simp only [Act.put]); (try simp only [List.setIfInBounds_toArray]); (try simp only [List.set_cons_succ]); (try simp only [List.set_cons_zero])
      refine wpAnyH_ready (rs := [11, 13]) (by kernel_rfl) (by simp) (AllReadyH.cons rfl (fun Kc hKc => ?_) (AllReadyH.cons rfl (fun Kc hKc => ?_) AllReadyH.nil))
      · go_simp
        refine (H2.out _ _ KK.out).mono ?_
        rintro e u2 ⟨rfl, hk, hg⟩
        replace K0 := hidU (K0.out.grownK hg HPK.out)
        replace K1 := hidU (K1.out.grownK hg HQK.out)
        replace KR := hidU (KR.out.grownK hg HRK.out)
        replace HB := hidU (HB.out.grown hg HB.out.size (fun j ej => by cases ej; exact HKw.out))
        have KK' : Hid (IsB u2 K #[.bool (!g1 || !g2)] 47) := hk
        replace KK := KK'
        clear hk hg KK'
        go_wp2_with fail
        refine hKc.out _ _ ⟨K0.out, K1.out⟩ (fun hHeld => ?_)
        clear hKc Kc
        (try simp only [List.getElem_toArray]); (try simp only [List.getElem_cons_succ]); (try simp only [List.getElem_cons_zero]); (try simp only [Act.put]); (try simp only [List.setIfInBounds_toArray]); (try simp only [List.set_cons_succ]); (try simp only [List.set_cons_zero])
        refine wpAnyH_take (i := 12) (v := ?_) rfl (by kernel_rfl) (by kernel_rfl) (by kernel_rfl) (fun _ _ _ h => h) (Or.inl ⟨by kernel_rfl, ?_⟩) hHeld ?_
        rotate_left
        · intro wz hSw; obtain ⟨hS0, hS1⟩ := hSw; obtain ⟨p0_0, p0_1, p0_2, p0_3⟩ := hS0.c4; obtain ⟨p1_0, p1_1, p1_2, p1_3⟩ := hS1.c4; clear hS0 hS1; go_simp; all_goals (try with_reducible rfl)
        (try simp only [List.getElem_toArray]); (try simp only [List.getElem_cons_succ]); (try simp only [List.getElem_cons_zero]); (try simp only [Act.put]); (try simp only [List.setIfInBounds_toArray]); (try simp only [List.set_cons_succ]); (try simp only [List.set_cons_zero])
        refine wpAnyH_ready (rs := [13]) (by kernel_rfl) (by simp) (AllReadyH.cons rfl (fun Kc hKc => ?_) AllReadyH.nil)
        go_simp
        obtain ⟨A, hA⟩ : ∃ A, A = u2.heap.size := ⟨_, rfl⟩
        obtain ⟨u3, hu⟩ : ∃ u, u = u2.alloc (.cells #[.int .i64 0, .int .i64 0, .int .i64 0, .int .i64 0] 27) := ⟨_, rfl⟩
        have hb : Below u2.heap.size u2 u3 := by rw [hu]; exact b0_any _ _
        have KA : Hid (IsB u3 A #[.int .i64 0, .int .i64 0, .int .i64 0, .int .i64 0] 27) := by show IsB _ _ _ _; rw [hu, hA]; exact IsB.new _ _ _
        have HAw : Hid (w.heap.size ≤ A) := by show _ ≤ _; rw [hA]; exact HB.out.size
        have HNEK0 : Hid (P ≠ A) := by show _ ≠ _; have := K0.out.lt; rw [hA]; omega
        have HNEK1 : Hid (Q ≠ A) := by show _ ≠ _; have := K1.out.lt; rw [hA]; omega
        have HNEKR : Hid (R ≠ A) := by show _ ≠ _; have := KR.out.lt; rw [hA]; omega
        have HNEKK : Hid (K ≠ A) := by show _ ≠ _; have := KK.out.lt; rw [hA]; omega
        rw [← hu, ← hA]
        clear hu hA
        replace K0 := hidU (K0.out.below hb)
        replace K1 := hidU (K1.out.below hb)
        replace KR := hidU (KR.out.below hb)
        replace KK := hidU (KK.out.below hb)
        replace HB := hidU (HB.out.trans (hb.mono HB.out.size))
        clear hb
        refine hKc.out _ _ ⟨K0.out, K1.out⟩ (fun hHeld => ?_)
        clear hKc Kc
        (try simp only [List.getElem_toArray]); (try simp only [List.getElem_cons_succ]); (try simp only [List.getElem_cons_zero]); (try simp only [Act.put]); (try simp only [List.setIfInBounds_toArray]); (try simp only [List.set_cons_succ]); (try simp only [List.set_cons_zero])
        obtain ⟨z0, z1, z2, z3⟩ := KA.out.c4
        obtain ⟨f0, f1, f2, f3⟩ := KA.out.f4
        have KA2 := hidU (KA.out.set4 (.int .i64 x1) (.int .i64 y1) (.int .i64 x2) (.int .i64 y2))
        have K0b := hidU (K0.out.other4 (show P ≠ A from HNEK0.out) (.int .i64 x1) (.int .i64 y1) (.int .i64 x2) (.int .i64 y2))
        have K1b := hidU (K1.out.other4 (show Q ≠ A from HNEK1.out) (.int .i64 x1) (.int .i64 y1) (.int .i64 x2) (.int .i64 y2))
        have KRb := hidU (KR.out.other4 (show R ≠ A from HNEKR.out) (.int .i64 x1) (.int .i64 y1) (.int .i64 x2) (.int .i64 y2))
        have KKb := hidU (KK.out.other4 (show K ≠ A from HNEKK.out) (.int .i64 x1) (.int .i64 y1) (.int .i64 x2) (.int .i64 y2))
        have HB2 := hidU (below_set4 HB.out HAw.out (.int .i64 x1) (.int .i64 y1) (.int .i64 x2) (.int .i64 y2))
        refine wpAnyH_ready (rs := [14]) (by kernel_rfl) (by simp) (AllReadyH.cons rfl (fun Kc hKc => ?_) AllReadyH.nil)
        go_simp
        refine hKc.out _ _ ⟨K0b.out, K1b.out⟩ (fun hHeld => ?_)
        clear hKc Kc
        (try simp only [List.getElem_toArray]); (try simp only [List.getElem_cons_succ]); (try simp only [List.getElem_cons_zero]); (try simp only [Act.put]); (try simp only [List.setIfInBounds_toArray]); (try simp only [List.set_cons_succ]); (try simp only [List.set_cons_zero])
        clear z0 f0 z1 f1 z2 f2 z3 f3
        refine wpAnyH_done (by kernel_rfl) ?_ _
        refine NoPanic.normal ?_
        go_wp2_with fail
        go_meet
        case rel => exact ⟨_, rfl, KA2.out, K0b.out, K1b.out, KRb.out, KKb.out, HB2.out⟩
      · go_simp
        obtain ⟨A, hA⟩ : ∃ A, A = u1.heap.size := ⟨_, rfl⟩
        obtain ⟨u4, hu⟩ : ∃ u, u = u1.alloc (.cells #[.int .i64 0, .int .i64 0, .int .i64 0, .int .i64 0] 27) := ⟨_, rfl⟩
        have hb : Below u1.heap.size u1 u4 := by rw [hu]; exact b0_any _ _
        have KA : Hid (IsB u4 A #[.int .i64 0, .int .i64 0, .int .i64 0, .int .i64 0] 27) := by show IsB _ _ _ _; rw [hu, hA]; exact IsB.new _ _ _
        have HAw : Hid (w.heap.size ≤ A) := by show _ ≤ _; rw [hA]; exact HB.out.size
        have HNEK0 : Hid (P ≠ A) := by show _ ≠ _; have := K0.out.lt; rw [hA]; omega
        have HNEK1 : Hid (Q ≠ A) := by show _ ≠ _; have := K1.out.lt; rw [hA]; omega
        have HNEKR : Hid (R ≠ A) := by show _ ≠ _; have := KR.out.lt; rw [hA]; omega
        have HNEKK : Hid (K ≠ A) := by show _ ≠ _; have := KK.out.lt; rw [hA]; omega
        rw [← hu, ← hA]
        clear hu hA
        replace K0 := hidU (K0.out.below hb)
        replace K1 := hidU (K1.out.below hb)
        replace KR := hidU (KR.out.below hb)
        replace KK := hidU (KK.out.below hb)
        replace HB := hidU (HB.out.trans (hb.mono HB.out.size))
        clear hb
        refine hKc.out _ _ ⟨K0.out, K1.out⟩ (fun hHeld => ?_)
        clear hKc Kc
        (try simp only [List.getElem_toArray]); (try simp only [List.getElem_cons_succ]); (try simp only [List.getElem_cons_zero]); (try simp only [Act.put]); (try simp only [List.setIfInBounds_toArray]); (try simp only [List.set_cons_succ]); (try simp only [List.set_cons_zero])
        refine wpAnyH_ready (rs := [11]) (by kernel_rfl) (by simp) (AllReadyH.cons rfl (fun Kc hKc => ?_) AllReadyH.nil)
        go_simp
        refine (H2.out _ _ KK.out).mono ?_
        rintro e u5 ⟨rfl, hk, hg⟩
        replace K0 := hidU (K0.out.grownK hg HPK.out)
        replace K1 := hidU (K1.out.grownK hg HQK.out)
        replace KR := hidU (KR.out.grownK hg HRK.out)
        replace KA := hidU (KA.out.grownK hg HNEKK.out.symm)
        replace HB := hidU (HB.out.grown hg HB.out.size (fun j ej => by cases ej; exact HKw.out))
        have KK' : Hid (IsB u5 K #[.bool (!g1 || !g2)] 47) := hk
        replace KK := KK'
        clear hk hg KK'
        go_wp2_with fail
        refine hKc.out _ _ ⟨K0.out, K1.out⟩ (fun hHeld => ?_)
        clear hKc Kc
        (try simp only [List.getElem_toArray]); (try simp only [List.getElem_cons_succ]); (try simp only [List.getElem_cons_zero]); (try simp only [Act.put]); (try simp only [List.setIfInBounds_toArray]); (try simp only [List.set_cons_succ]); (try simp only [List.set_cons_zero])
        refine wpAnyH_take (i := 12) (v := ?_) rfl (by kernel_rfl) (by kernel_rfl) (by kernel_rfl) (fun _ _ _ h => h) (Or.inl ⟨by kernel_rfl, ?_⟩) hHeld ?_
        rotate_left
        · intro wz hSw; obtain ⟨hS0, hS1⟩ := hSw; obtain ⟨p0_0, p0_1, p0_2, p0_3⟩ := hS0.c4; obtain ⟨p1_0, p1_1, p1_2, p1_3⟩ := hS1.c4; clear hS0 hS1; go_simp; all_goals (try with_reducible rfl)
        (try simp only [List.getElem_toArray]); (try simp only [List.getElem_cons_succ]); (try simp only [List.getElem_cons_zero]); (try simp only [Act.put]); (try simp only [List.setIfInBounds_toArray]); (try simp only [List.set_cons_succ]); (try simp only [List.set_cons_zero])
        obtain ⟨z0, z1, z2, z3⟩ := KA.out.c4
        obtain ⟨f0, f1, f2, f3⟩ := KA.out.f4
        have KA2 := hidU (KA.out.set4 (.int .i64 x1) (.int .i64 y1) (.int .i64 x2) (.int .i64 y2))
        have K0b := hidU (K0.out.other4 (show P ≠ A from HNEK0.out) (.int .i64 x1) (.int .i64 y1) (.int .i64 x2) (.int .i64 y2))
        have K1b := hidU (K1.out.other4 (show Q ≠ A from HNEK1.out) (.int .i64 x1) (.int .i64 y1) (.int .i64 x2) (.int .i64 y2))
        have KRb := hidU (KR.out.other4 (show R ≠ A from HNEKR.out) (.int .i64 x1) (.int .i64 y1) (.int .i64 x2) (.int .i64 y2))
        have KKb := hidU (KK.out.other4 (show K ≠ A from HNEKK.out) (.int .i64 x1) (.int .i64 y1) (.int .i64 x2) (.int .i64 y2))
        have HB2 := hidU (below_set4 HB.out HAw.out (.int .i64 x1) (.int .i64 y1) (.int .i64 x2) (.int .i64 y2))
        refine wpAnyH_ready (rs := [14]) (by kernel_rfl) (by simp) (AllReadyH.cons rfl (fun Kc hKc => ?_) AllReadyH.nil)
        go_simp
        refine hKc.out _ _ ⟨K0b.out, K1b.out⟩ (fun hHeld => ?_)
        clear hKc Kc
        (try simp only [List.getElem_toArray]); (try simp only [List.getElem_cons_succ]); (try simp only [List.getElem_cons_zero]); (try simp only [Act.put]); (try simp only [List.setIfInBounds_toArray]); (try simp only [List.set_cons_succ]); (try simp only [List.set_cons_zero])
        clear z0 f0 z1 f1 z2 f2 z3 f3
        refine wpAnyH_done (by kernel_rfl) ?_ _
        refine NoPanic.normal ?_
        go_wp2_with fail
        go_meet
        case rel => exact ⟨_, rfl, KA2.out, K0b.out, K1b.out, KRb.out, KKb.out, HB2.out⟩
    · go_simp
      obtain ⟨A, hA⟩ : ∃ A, A = wd.heap.size := ⟨_, rfl⟩
      obtain ⟨u6, hu⟩ : ∃ u, u = wd.alloc (.cells #[.int .i64 0, .int .i64 0, .int .i64 0, .int .i64 0] 27) := ⟨_, rfl⟩
      have hb : Below wd.heap.size wd u6 := by rw [hu]; exact b0_any _ _
      have KA : Hid (IsB u6 A #[.int .i64 0, .int .i64 0, .int .i64 0, .int .i64 0] 27) := by show IsB _ _ _ _; rw [hu, hA]; exact IsB.new _ _ _
      have HAw : Hid (w.heap.size ≤ A) := by show _ ≤ _; rw [hA]; exact HB.out.size
      have HNEK0 : Hid (P ≠ A) := by show _ ≠ _; have := K0.out.lt; rw [hA]; omega
      have HNEK1 : Hid (Q ≠ A) := by show _ ≠ _; have := K1.out.lt; rw [hA]; omega
      have HNEKR : Hid (R ≠ A) := by show _ ≠ _; have := KR.out.lt; rw [hA]; omega
      have HNEKK : Hid (K ≠ A) := by show _ ≠ _; have := KK.out.lt; rw [hA]; omega
      rw [← hu, ← hA]
      clear hu hA
      replace K0 := hidU (K0.out.below hb)
      replace K1 := hidU (K1.out.below hb)
      replace KR := hidU (KR.out.below hb)
      replace KK := hidU (KK.out.below hb)
      replace HB := hidU (HB.out.trans (hb.mono HB.out.size))
      clear hb
      refine hKc.out _ _ ⟨K0.out, K1.out⟩ (fun hHeld => ?_)
      clear hKc Kc
      (try simp only [List.getElem_toArray]); (try simp only [List.getElem_cons_succ]); (try simp only [List.getElem_cons_zero]); (try simp only [Act.put]); (try simp only [List.setIfInBounds_toArray]); (try simp only [List.set_cons_succ]); (try simp only [List.set_cons_zero])
      refine wpAnyH_ready (rs := [5]) (by kernel_rfl) (by simp) (AllReadyH.cons rfl (fun Kc hKc => ?_) AllReadyH.nil)
      go_simp
      refine (H1.out _ _ KK.out).mono ?_
      rintro e u7 ⟨rfl, hk, hg⟩
      replace K0 := hidU (K0.out.grownK hg HPK.out)
      replace K1 := hidU (K1.out.grownK hg HQK.out)
      replace KR := hidU (KR.out.grownK hg HRK.out)
      replace KA := hidU (KA.out.grownK hg HNEKK.out.symm)
      replace HB := hidU (HB.out.grown hg HB.out.size (fun j ej => by cases ej; exact HKw.out))
      have KK' : Hid (IsB u7 K #[.bool (!g1)] 47) := hk
      replace KK := KK'
      clear hk hg KK'
      go_wp2_with fail
      refine hKc.out _ _ ⟨K0.out, K1.out⟩ (fun hHeld => ?_)
      clear hKc Kc
      (try simp only [List.getElem_toArray]); (try simp only [List.getElem_cons_succ]); (try simp only [List.getElem_cons_zero]); (try simp only [Act.put]); (try simp only [List.setIfInBounds_toArray]); (try simp only [List.set_cons_succ]); (try simp only [List.set_cons_zero])
      refine wpAnyH_ready (rs := [11]) (by kernel_rfl) (by simp) (AllReadyH.cons rfl (fun Kc hKc => ?_) AllReadyH.nil)
      go_simp
      refine (H2.out _ _ KK.out).mono ?_
      rintro e u8 ⟨rfl, hk, hg⟩
      replace K0 := hidU (K0.out.grownK hg HPK.out)
      replace K1 := hidU (K1.out.grownK hg HQK.out)
      replace KR := hidU (KR.out.grownK hg HRK.out)
      replace KA := hidU (KA.out.grownK hg HNEKK.out.symm)
      replace HB := hidU (HB.out.grown hg HB.out.size (fun j ej => by cases ej; exact HKw.out))
      have KK' : Hid (IsB u8 K #[.bool (!g1 || !g2)] 47) := hk
      replace KK := KK'
      clear hk hg KK'
      go_wp2_with fail
      refine hKc.out _ _ ⟨K0.out, K1.out⟩ (fun hHeld => ?_)
      clear hKc Kc
      (try simp only [List.getElem_toArray]); (try simp only [List.getElem_cons_succ]); (try simp only [List.getElem_cons_zero]); (try simp only [Act.put]); (try simp only [List.setIfInBounds_toArray]); (try simp only [List.set_cons_succ]); (try simp only [List.set_cons_zero])
      refine wpAnyH_take (i := 12) (v := ?_) rfl (by kernel_rfl) (by kernel_rfl) (by kernel_rfl) (fun _ _ _ h => h) (Or.inl ⟨by kernel_rfl, ?_⟩) hHeld ?_
      rotate_left
      · intro wz hSw; obtain ⟨hS0, hS1⟩ := hSw; obtain ⟨p0_0, p0_1, p0_2, p0_3⟩ := hS0.c4; obtain ⟨p1_0, p1_1, p1_2, p1_3⟩ := hS1.c4; clear hS0 hS1; go_simp; all_goals (try with_reducible rfl)
      (try simp only [List.getElem_toArray]); (try simp only [List.getElem_cons_succ]); (try simp only [List.getElem_cons_zero]); (try simp only [Act.put]); (try simp only [List.setIfInBounds_toArray]); (try simp only [List.set_cons_succ]); (try simp only [List.set_cons_zero])
      obtain ⟨z0, z1, z2, z3⟩ := KA.out.c4
      obtain ⟨f0, f1, f2, f3⟩ := KA.out.f4
      have KA2 := hidU (KA.out.set4 (.int .i64 x1) (.int .i64 y1) (.int .i64 x2) (.int .i64 y2))
      have K0b := hidU (K0.out.other4 (show P ≠ A from HNEK0.out) (.int .i64 x1) (.int .i64 y1) (.int .i64 x2) (.int .i64 y2))
      have K1b := hidU (K1.out.other4 (show Q ≠ A from HNEK1.out) (.int .i64 x1) (.int .i64 y1) (.int .i64 x2) (.int .i64 y2))
      have KRb := hidU (KR.out.other4 (show R ≠ A from HNEKR.out) (.int .i64 x1) (.int .i64 y1) (.int .i64 x2) (.int .i64 y2))
      have KKb := hidU (KK.out.other4 (show K ≠ A from HNEKK.out) (.int .i64 x1) (.int .i64 y1) (.int .i64 x2) (.int .i64 y2))
      have HB2 := hidU (below_set4 HB.out HAw.out (.int .i64 x1) (.int .i64 y1) (.int .i64 x2) (.int .i64 y2))
      refine wpAnyH_ready (rs := [14]) (by kernel_rfl) (by simp) (AllReadyH.cons rfl (fun Kc hKc => ?_) AllReadyH.nil)
      go_simp
      refine hKc.out _ _ ⟨K0b.out, K1b.out⟩ (fun hHeld => ?_)
      clear hKc Kc
      (try simp only [List.getElem_toArray]); (try simp only [List.getElem_cons_succ]); (try simp only [List.getElem_cons_zero]); (try simp only [Act.put]); (try simp only [List.setIfInBounds_toArray]); (try simp only [List.set_cons_succ]); (try simp only [List.set_cons_zero])
      clear z0 f0 z1 f1 z2 f2 z3 f3
      refine wpAnyH_done (by kernel_rfl) ?_ _
      refine NoPanic.normal ?_
      go_wp2_with fail
      go_meet
      case rel => exact ⟨_, rfl, KA2.out, K0b.out, K1b.out, KRb.out, KKb.out, HB2.out⟩
  case rest =>
    obtain ⟨T, rfl, KT, K0, K1, KR, KK, HB⟩ := hcut
    clear H1 H2
    obtain ⟨z0, z1, z2, z3⟩ := K0.out.c4
    go_wp2_with fail
    refine (HP.out _).mono ?_
    rintro e v1 ⟨rfl, hb⟩
    clear z0 z1 z2 z3
    replace KT := hidU (KT.out.below hb)
    replace K0 := hidU (K0.out.below hb)
    replace K1 := hidU (K1.out.below hb)
    replace KR := hidU (KR.out.below hb)
    replace KK := hidU (KK.out.below hb)
    replace HB := hidU (HB.out.trans (hb.mono HB.out.size))
    clear hb
    obtain ⟨f0, f1, f2, f3⟩ := KR.out.f4
    obtain ⟨y0, yy1, yy2, y3⟩ := KR.out.c4
    cases p
    · skip
      go_wp2
      obtain ⟨rfl, rfl, rfl, rfl, rfl⟩ := inj7 HE.out
      obtain ⟨q0, q1, q2, q3⟩ := (KR.out.set4 (.int .i64 0) (.int .i64 0) (.int .i64 0) (.int .i64 0)).c4
      exact bodyPost_ret (v := .tuple #[.agg #[.int .i64 0, .int .i64 0, .int .i64 0, .int .i64 0], .bool false]) (by simp [results, Try.results11, go_sem, q0, q1, q2, q3]) rfl ⟨rfl, below_set4 HB.out HRw.out _ _ _ _⟩
    obtain ⟨z0, z1, z2, z3⟩ := K1.out.c4
    clear f0 f1 f2 f3 y0 yy1 yy2 y3
    go_wp2_with fail
    refine (HQ.out _).mono ?_
    rintro e v2 ⟨rfl, hb⟩
    clear z0 z1 z2 z3
    replace KT := hidU (KT.out.below hb)
    replace K0 := hidU (K0.out.below hb)
    replace K1 := hidU (K1.out.below hb)
    replace KR := hidU (KR.out.below hb)
    replace KK := hidU (KK.out.below hb)
    replace HB := hidU (HB.out.trans (hb.mono HB.out.size))
    clear hb
    obtain ⟨f0, f1, f2, f3⟩ := KR.out.f4
    obtain ⟨y0, yy1, yy2, y3⟩ := KR.out.c4
    cases q
    · skip
      go_wp2
      obtain ⟨rfl, rfl, rfl, rfl, rfl⟩ := inj7 HE.out
      obtain ⟨q0, q1, q2, q3⟩ := (KR.out.set4 (.int .i64 0) (.int .i64 0) (.int .i64 0) (.int .i64 0)).c4
      exact bodyPost_ret (v := .tuple #[.agg #[.int .i64 0, .int .i64 0, .int .i64 0, .int .i64 0], .bool false]) (by simp [results, Try.results11, go_sem, q0, q1, q2, q3]) rfl ⟨rfl, below_set4 HB.out HRw.out _ _ _ _⟩
    have k0 := KK.out.cell 0 rfl
    have fk := KK.out.frozen 0
    obtain ⟨z0, z1, z2, z3⟩ := KT.out.c4
    cases g1
    · skip
      go_wp2
      obtain ⟨rfl, rfl, rfl, rfl, rfl⟩ := inj7 HE.out
      obtain ⟨q0, q1, q2, q3⟩ := (KR.out.set4 (.int .i64 0) (.int .i64 0) (.int .i64 0) (.int .i64 0)).c4
      exact bodyPost_ret (v := .tuple #[.agg #[.int .i64 0, .int .i64 0, .int .i64 0, .int .i64 0], .bool false]) (by simp [results, Try.results11, go_sem, q0, q1, q2, q3]) rfl ⟨rfl, below_set4 HB.out HRw.out _ _ _ _⟩
    cases g2
    · skip
      go_wp2
      obtain ⟨rfl, rfl, rfl, rfl, rfl⟩ := inj7 HE.out
      obtain ⟨q0, q1, q2, q3⟩ := (KR.out.set4 (.int .i64 0) (.int .i64 0) (.int .i64 0) (.int .i64 0)).c4
      exact bodyPost_ret (v := .tuple #[.agg #[.int .i64 0, .int .i64 0, .int .i64 0, .int .i64 0], .bool false]) (by simp [results, Try.results11, go_sem, q0, q1, q2, q3]) rfl ⟨rfl, below_set4 HB.out HRw.out _ _ _ _⟩
    go_wp2
    obtain ⟨rfl, rfl, rfl, rfl, rfl⟩ := inj7 HE.out
    obtain ⟨q0, q1, q2, q3⟩ := (KR.out.set4 (.int .i64 r1) (.int .i64 r2) (.int .i64 r3) (.int .i64 r4)).c4
    exact bodyPost_ret (v := .tuple #[.agg #[.int .i64 r1, .int .i64 r2, .int .i64 r3, .int .i64 r4], .bool true]) (by simp [results, Try.results11, go_sem, q0, q1, q2, q3]) rfl ⟨rfl, below_set4 HB.out HRw.out _ _ _ _⟩
set_option maxRecDepth 100000 in
set_option maxHeartbeats 4000000 in
theorem sRmul_any (a b c d a' b' c' d' : Int) (w : World) :
    Calls Try.prog 16 #[.agg #[.int .i64 a, .int .i64 b, .int .i64 c, .int .i64 d], .agg #[.int .i64 a', .int .i64 b', .int .i64 c', .int .i64 d']] w fun e w' => e = .returned (.tuple #[.agg #[.int .i64 (rmul (a, b) (c, d) (a', b') (c', d')).1.1, .int .i64 (rmul (a, b) (c, d) (a', b') (c', d')).1.2, .int .i64 (rmul (a, b) (c, d) (a', b') (c', d')).2.1.1, .int .i64 (rmul (a, b) (c, d) (a', b') (c', d')).2.1.2], .bool (rmul (a, b) (c, d) (a', b') (c', d')).2.2]) ∧ Below w.heap.size w w' := by
  have HP := hidU (fun W => sRng_any a b c d W)
  have HQ := hidU (fun W => sRng_any a' b' c' d' W)
  have HE : Hid (rmul (a, b) (c, d) (a', b') (c', d') = _) := rmul_k (a, b) (c, d) (a', b') (c', d')
  obtain ⟨p, hp⟩ : ∃ x, x = rng7 (a, b) (c, d) := ⟨_, rfl⟩
  obtain ⟨q, hq⟩ : ∃ x, x = rng7 (a', b') (c', d') := ⟨_, rfl⟩
  rw [← hp] at HP
  rw [← hq] at HQ
  rw [← hp, ← hq] at HE
  obtain ⟨g1, hg1⟩ : ∃ x, x = mulG (a, b) (a', b') := ⟨_, rfl⟩
  have H1 := hidU (fun W K (h : IsB W K #[.bool (false)] 47) => cMulB K (false) a b a' b' W h)
  obtain ⟨xy1, h1⟩ : ∃ x, x = kF g1 (mulF (a, b) (a', b')) := ⟨_, rfl⟩
  rw [← hg1, Bool.false_or, ← h1] at H1
  rw [← hg1, ← h1] at HE
  clear hg1 h1
  obtain ⟨x1, y1⟩ := xy1
  simp only at H1
  obtain ⟨g2, hg2⟩ : ∃ x, x = mulG (a, b) (c', d') := ⟨_, rfl⟩
  have H2 := hidU (fun W K (h : IsB W K #[.bool (!g1)] 47) => cMulB K (!g1) a b c' d' W h)
  obtain ⟨xy2, h2⟩ : ∃ x, x = kF g2 (mulF (a, b) (c', d')) := ⟨_, rfl⟩
  rw [← hg2, ← h2] at H2
  rw [← hg2, ← h2] at HE
  clear hg2 h2
  obtain ⟨x2, y2⟩ := xy2
  simp only at H2
  obtain ⟨g3, hg3⟩ : ∃ x, x = mulG (c, d) (a', b') := ⟨_, rfl⟩
  have H3 := hidU (fun W K (h : IsB W K #[.bool (!g1 || !g2)] 47) => cMulB K (!g1 || !g2) c d a' b' W h)
  obtain ⟨xy3, h3⟩ : ∃ x, x = kF g3 (mulF (c, d) (a', b')) := ⟨_, rfl⟩
  rw [← hg3, ← h3] at H3
  rw [← hg3, ← h3] at HE
  clear hg3 h3
  obtain ⟨x3, y3⟩ := xy3
  simp only at H3
  obtain ⟨g4, hg4⟩ : ∃ x, x = mulG (c, d) (c', d') := ⟨_, rfl⟩
  have H4 := hidU (fun W K (h : IsB W K #[.bool (!g1 || !g2 || !g3)] 47) => cMulB K (!g1 || !g2 || !g3) c d c' d' W h)
  obtain ⟨xy4, h4⟩ : ∃ x, x = kF g4 (mulF (c, d) (c', d')) := ⟨_, rfl⟩
  rw [← hg4, ← h4] at H4
  rw [← hg4, ← h4] at HE
  clear hg4 h4
  obtain ⟨x4, y4⟩ := xy4
  simp only at H4
  obtain ⟨r, hr⟩ : ∃ x, x = rmul (a, b) (c, d) (a', b') (c', d') := ⟨_, rfl⟩
  rw [← hr] at HE ⊢
  clear hp hq hr
  have L1 := hidU (fun W => lst7_any x1 y1 x2 y2 W)
  obtain ⟨mn1, h1⟩ : ∃ x, x = lst7 (x1, y1) (x2, y2) := ⟨_, rfl⟩
  rw [← h1] at L1 HE
  clear h1
  obtain ⟨m1, n1⟩ := mn1
  simp only at L1
  have L2 := hidU (fun W => lst7_any x3 y3 x4 y4 W)
  obtain ⟨mn2, h2⟩ : ∃ x, x = lst7 (x3, y3) (x4, y4) := ⟨_, rfl⟩
  rw [← h2] at L2 HE
  clear h2
  obtain ⟨m2, n2⟩ := mn2
  simp only at L2
  have L3 := hidU (fun W => lst7_any m1 n1 m2 n2 W)
  obtain ⟨mn3, h3⟩ : ∃ x, x = lst7 (m1, n1) (m2, n2) := ⟨_, rfl⟩
  rw [← h3] at L3 HE
  clear h3
  obtain ⟨m3, n3⟩ := mn3
  simp only at L3
  have L4 := hidU (fun W => mst7_any x1 y1 x2 y2 W)
  obtain ⟨mn4, h4⟩ : ∃ x, x = mst7 (x1, y1) (x2, y2) := ⟨_, rfl⟩
  rw [← h4] at L4 HE
  clear h4
  obtain ⟨m4, n4⟩ := mn4
  simp only at L4
  have L5 := hidU (fun W => mst7_any x3 y3 x4 y4 W)
  obtain ⟨mn5, h5⟩ : ∃ x, x = mst7 (x3, y3) (x4, y4) := ⟨_, rfl⟩
  rw [← h5] at L5 HE
  clear h5
  obtain ⟨m5, n5⟩ := mn5
  simp only at L5
  have L6 := hidU (fun W => mst7_any m4 n4 m5 n5 W)
  obtain ⟨mn6, h6⟩ : ∃ x, x = mst7 (m4, n4) (m5, n5) := ⟨_, rfl⟩
  rw [← h6] at L6 HE
  clear h6
  obtain ⟨m6, n6⟩ := mn6
  simp only at L6
  obtain ⟨⟨r1, r2⟩, ⟨r3, r4⟩, r5⟩ := r
  simp only
  go_enter Try.func16, Try.ntmps16
  go_upto_region 2 with fail
  obtain ⟨W0, hW⟩ : ∃ Y, Y = (((w.alloc (.cells #[.int .i64 a, .int .i64 b, .int .i64 c, .int .i64 d] 27)).alloc (.cells #[.int .i64 a', .int .i64 b', .int .i64 c', .int .i64 d'] 27)).alloc (.cells #[.int .i64 0, .int .i64 0, .int .i64 0, .int .i64 0] 27)).alloc (.cells #[.bool false] 47) := ⟨_, rfl⟩
  obtain ⟨P, hP⟩ : ∃ P, P = w.heap.size := ⟨_, rfl⟩
  have K0 : Hid (IsB W0 P #[.int .i64 a, .int .i64 b, .int .i64 c, .int .i64 d] 27) := by show IsB _ _ _ _; rw [hW, hP]; exact (IsB.new w _ _).below (((b0_any _ _).alloc (by simp) _).alloc (by simp <;> omega) _)
  have K1 : Hid (IsB W0 (P + 1) #[.int .i64 a', .int .i64 b', .int .i64 c', .int .i64 d'] 27) := by show IsB _ _ _ _; rw [hW, hP]; exact (IsB.new2c w _ _ _).below ((b0_any _ _).alloc (by simp) _)
  have KR : Hid (IsB W0 (P + 1 + 1) #[.int .i64 0, .int .i64 0, .int .i64 0, .int .i64 0] 27) := by show IsB _ _ _ _; rw [hW, hP]; exact (IsB.new3c w _ _ _ _).below (b0_any _ _)
  have HB : Hid (Below w.heap.size w W0) := by show Below _ _ _; rw [hW]; exact (((b0_any w _).alloc (by simp) _).alloc (by simp <;> omega) _).alloc (by simp <;> omega) _
  have KK : Hid (IsB W0 (P + 1 + 1 + 1) #[.bool false] 47) := by show IsB _ _ _ _; rw [hW, hP]; have h4 := IsB.new (((w.alloc (.cells #[.int .i64 a, .int .i64 b, .int .i64 c, .int .i64 d] 27)).alloc (.cells #[.int .i64 a', .int .i64 b', .int .i64 c', .int .i64 d'] 27)).alloc (.cells #[.int .i64 0, .int .i64 0, .int .i64 0, .int .i64 0] 27)) #[.bool false] 47; simpa using h4
  rw [← hW, ← hP]
  clear hW
  obtain ⟨Q, hQ⟩ : ∃ Q, Q = P + 1 := ⟨_, rfl⟩
  obtain ⟨R, hR⟩ : ∃ R, R = P + 1 + 1 := ⟨_, rfl⟩
  obtain ⟨K, hKK⟩ : ∃ K, K = P + 1 + 1 + 1 := ⟨_, rfl⟩
  rw [← hKK] at KK ⊢
  rw [← hR] at KR ⊢
  rw [← hQ] at K1 ⊢
  have HRw : Hid (w.heap.size ≤ R) := by show _ ≤ _; omega
  have HKw : Hid (w.heap.size ≤ K) := by show _ ≤ _; omega
  have HPK : Hid (P ≠ K) := by show _ ≠ _; omega
  have HQK : Hid (Q ≠ K) := by show _ ≠ _; omega
  have HRK : Hid (R ≠ K) := by show _ ≠ _; omega
  clear hP hQ hR hKK
  obtain ⟨z0, z1, z2, z3⟩ := K0.out.c4
  obtain ⟨y0, yy1, yy2, y3⟩ := K1.out.c4
  go_wp2_with fail
  refine (H1.out _ _ KK.out).mono ?_
  rintro e v1 ⟨rfl, hk, hg⟩
  clear z0 z1 z2 z3 y0 yy1 yy2 y3
  replace K0 := hidU (K0.out.grownK hg HPK.out)
  replace K1 := hidU (K1.out.grownK hg HQK.out)
  replace KR := hidU (KR.out.grownK hg HRK.out)
  replace HB := hidU (HB.out.grown hg HB.out.size (fun j ej => by cases ej; exact HKw.out))
  replace KK := hidU hk
  clear hk hg
  have hb := b0_any v1 (.cells #[.int .i64 x1, .int .i64 y1] 25)
  go_upto_region 3 with fail
  obtain ⟨Y1, hY⟩ : ∃ Y, Y = v1.alloc (.cells #[.int .i64 x1, .int .i64 y1] 25) := ⟨_, rfl⟩
  obtain ⟨B1, hF⟩ : ∃ F, F = v1.heap.size := ⟨_, rfl⟩
  have M1 : Hid (IsB Y1 B1 #[.int .i64 x1, .int .i64 y1] 25) := by show IsB _ _ _ _; rw [hY, hF]; exact IsB.new _ _ _
  have HMK1 : Hid (B1 ≠ K) := by show _ ≠ _; have := KK.out.lt; rw [hF]; omega
  have HMR1 : Hid (B1 ≠ R) := by show _ ≠ _; have := KR.out.lt; rw [hF]; omega
  rw [← hY] at hb
  rw [← hY, ← hF]
  clear hY hF
  replace K0 := hidU (K0.out.below hb)
  replace K1 := hidU (K1.out.below hb)
  replace KR := hidU (KR.out.below hb)
  replace KK := hidU (KK.out.below hb)
  replace HB := hidU (HB.out.trans (hb.mono HB.out.size))
  clear hb
  obtain ⟨z0, z1, z2, z3⟩ := K0.out.c4
  obtain ⟨y0, yy1, yy2, y3⟩ := K1.out.c4
  go_wp2_with fail
  refine (H2.out _ _ KK.out).mono ?_
  rintro e v2 ⟨rfl, hk, hg⟩
  clear z0 z1 z2 z3 y0 yy1 yy2 y3
  replace K0 := hidU (K0.out.grownK hg HPK.out)
  replace K1 := hidU (K1.out.grownK hg HQK.out)
  replace KR := hidU (KR.out.grownK hg HRK.out)
  replace M1 := hidU (M1.out.grownK hg HMK1.out)
  replace HB := hidU (HB.out.grown hg HB.out.size (fun j ej => by cases ej; exact HKw.out))
  replace KK := hidU hk
  clear hk hg
  have hb := b0_any v2 (.cells #[.int .i64 x2, .int .i64 y2] 25)
  go_upto_region 4 with fail
  obtain ⟨Y2, hY⟩ : ∃ Y, Y = v2.alloc (.cells #[.int .i64 x2, .int .i64 y2] 25) := ⟨_, rfl⟩
  obtain ⟨B2, hF⟩ : ∃ F, F = v2.heap.size := ⟨_, rfl⟩
  have M2 : Hid (IsB Y2 B2 #[.int .i64 x2, .int .i64 y2] 25) := by show IsB _ _ _ _; rw [hY, hF]; exact IsB.new _ _ _
  have HMK2 : Hid (B2 ≠ K) := by show _ ≠ _; have := KK.out.lt; rw [hF]; omega
  have HMR2 : Hid (B2 ≠ R) := by show _ ≠ _; have := KR.out.lt; rw [hF]; omega
  rw [← hY] at hb
  rw [← hY, ← hF]
  clear hY hF
  replace K0 := hidU (K0.out.below hb)
  replace K1 := hidU (K1.out.below hb)
  replace KR := hidU (KR.out.below hb)
  replace KK := hidU (KK.out.below hb)
  replace M1 := hidU (M1.out.below hb)
  replace HB := hidU (HB.out.trans (hb.mono HB.out.size))
  clear hb
  obtain ⟨z0, z1, z2, z3⟩ := K0.out.c4
  obtain ⟨y0, yy1, yy2, y3⟩ := K1.out.c4
  go_wp2_with fail
  refine (H3.out _ _ KK.out).mono ?_
  rintro e v3 ⟨rfl, hk, hg⟩
  clear z0 z1 z2 z3 y0 yy1 yy2 y3
  replace K0 := hidU (K0.out.grownK hg HPK.out)
  replace K1 := hidU (K1.out.grownK hg HQK.out)
  replace KR := hidU (KR.out.grownK hg HRK.out)
  replace M1 := hidU (M1.out.grownK hg HMK1.out)
  replace M2 := hidU (M2.out.grownK hg HMK2.out)
  replace HB := hidU (HB.out.grown hg HB.out.size (fun j ej => by cases ej; exact HKw.out))
  replace KK := hidU hk
  clear hk hg
  have hb := b0_any v3 (.cells #[.int .i64 x3, .int .i64 y3] 25)
  go_upto_region 5 with fail
  obtain ⟨Y3, hY⟩ : ∃ Y, Y = v3.alloc (.cells #[.int .i64 x3, .int .i64 y3] 25) := ⟨_, rfl⟩
  obtain ⟨B3, hF⟩ : ∃ F, F = v3.heap.size := ⟨_, rfl⟩
  have M3 : Hid (IsB Y3 B3 #[.int .i64 x3, .int .i64 y3] 25) := by show IsB _ _ _ _; rw [hY, hF]; exact IsB.new _ _ _
  have HMK3 : Hid (B3 ≠ K) := by show _ ≠ _; have := KK.out.lt; rw [hF]; omega
  have HMR3 : Hid (B3 ≠ R) := by show _ ≠ _; have := KR.out.lt; rw [hF]; omega
  rw [← hY] at hb
  rw [← hY, ← hF]
  clear hY hF
  replace K0 := hidU (K0.out.below hb)
  replace K1 := hidU (K1.out.below hb)
  replace KR := hidU (KR.out.below hb)
  replace KK := hidU (KK.out.below hb)
  replace M1 := hidU (M1.out.below hb)
  replace M2 := hidU (M2.out.below hb)
  replace HB := hidU (HB.out.trans (hb.mono HB.out.size))
  clear hb
  obtain ⟨z0, z1, z2, z3⟩ := K0.out.c4
  obtain ⟨y0, yy1, yy2, y3⟩ := K1.out.c4
  go_wp2_with fail
  refine (H4.out _ _ KK.out).mono ?_
  rintro e v4 ⟨rfl, hk, hg⟩
  clear z0 z1 z2 z3 y0 yy1 yy2 y3
  replace K0 := hidU (K0.out.grownK hg HPK.out)
  replace K1 := hidU (K1.out.grownK hg HQK.out)
  replace KR := hidU (KR.out.grownK hg HRK.out)
  replace M1 := hidU (M1.out.grownK hg HMK1.out)
  replace M2 := hidU (M2.out.grownK hg HMK2.out)
  replace M3 := hidU (M3.out.grownK hg HMK3.out)
  replace HB := hidU (HB.out.grown hg HB.out.size (fun j ej => by cases ej; exact HKw.out))
  replace KK := hidU hk
  clear hk hg
  have hb := b0_any v4 (.cells #[.int .i64 x4, .int .i64 y4] 25)
  go_upto_region 6 with fail
  obtain ⟨Y4, hY⟩ : ∃ Y, Y = v4.alloc (.cells #[.int .i64 x4, .int .i64 y4] 25) := ⟨_, rfl⟩
  obtain ⟨B4, hF⟩ : ∃ F, F = v4.heap.size := ⟨_, rfl⟩
  have M4 : Hid (IsB Y4 B4 #[.int .i64 x4, .int .i64 y4] 25) := by show IsB _ _ _ _; rw [hY, hF]; exact IsB.new _ _ _
  have HMK4 : Hid (B4 ≠ K) := by show _ ≠ _; have := KK.out.lt; rw [hF]; omega
  have HMR4 : Hid (B4 ≠ R) := by show _ ≠ _; have := KR.out.lt; rw [hF]; omega
  rw [← hY] at hb
  rw [← hY, ← hF]
  clear hY hF
  replace K0 := hidU (K0.out.below hb)
  replace K1 := hidU (K1.out.below hb)
  replace KR := hidU (KR.out.below hb)
  replace KK := hidU (KK.out.below hb)
  replace M1 := hidU (M1.out.below hb)
  replace M2 := hidU (M2.out.below hb)
  replace M3 := hidU (M3.out.below hb)
  replace HB := hidU (HB.out.trans (hb.mono HB.out.size))
  clear hb
  obtain ⟨z0, z1, z2, z3⟩ := K0.out.c4
  go_wp2_with fail
  refine (HP.out _).mono ?_
  rintro e t1 ⟨rfl, hb⟩
  clear z0 z1 z2 z3
  replace K0 := hidU (K0.out.below hb)
  replace K1 := hidU (K1.out.below hb)
  replace KR := hidU (KR.out.below hb)
  replace KK := hidU (KK.out.below hb)
  replace M1 := hidU (M1.out.below hb)
  replace M2 := hidU (M2.out.below hb)
  replace M3 := hidU (M3.out.below hb)
  replace M4 := hidU (M4.out.below hb)
  replace HB := hidU (HB.out.trans (hb.mono HB.out.size))
  clear hb
  obtain ⟨f0, f1, f2, f3⟩ := KR.out.f4
  obtain ⟨y0, yy1, yy2, yy3⟩ := KR.out.c4
  cases p
  · skip
    go_wp2
    obtain ⟨rfl, rfl, rfl, rfl, rfl⟩ := inj7 HE.out
    obtain ⟨q0, q1, q2, q3⟩ := (KR.out.set4 (.int .i64 0) (.int .i64 0) (.int .i64 0) (.int .i64 0)).c4
    exact bodyPost_ret (v := .tuple #[.agg #[.int .i64 0, .int .i64 0, .int .i64 0, .int .i64 0], .bool false]) (by simp [results, Try.results16, go_sem, q0, q1, q2, q3]) rfl ⟨rfl, below_set4 HB.out HRw.out _ _ _ _⟩
  obtain ⟨z0, z1, z2, z3⟩ := K1.out.c4
  clear f0 f1 f2 f3 y0 yy1 yy2 yy3
  go_wp2_with fail
  refine (HQ.out _).mono ?_
  rintro e t2 ⟨rfl, hb⟩
  clear z0 z1 z2 z3
  replace K0 := hidU (K0.out.below hb)
  replace K1 := hidU (K1.out.below hb)
  replace KR := hidU (KR.out.below hb)
  replace KK := hidU (KK.out.below hb)
  replace M1 := hidU (M1.out.below hb)
  replace M2 := hidU (M2.out.below hb)
  replace M3 := hidU (M3.out.below hb)
  replace M4 := hidU (M4.out.below hb)
  replace HB := hidU (HB.out.trans (hb.mono HB.out.size))
  clear hb
  obtain ⟨f0, f1, f2, f3⟩ := KR.out.f4
  obtain ⟨y0, yy1, yy2, yy3⟩ := KR.out.c4
  cases q
  · skip
    go_wp2
    obtain ⟨rfl, rfl, rfl, rfl, rfl⟩ := inj7 HE.out
    obtain ⟨q0, q1, q2, q3⟩ := (KR.out.set4 (.int .i64 0) (.int .i64 0) (.int .i64 0) (.int .i64 0)).c4
    exact bodyPost_ret (v := .tuple #[.agg #[.int .i64 0, .int .i64 0, .int .i64 0, .int .i64 0], .bool false]) (by simp [results, Try.results16, go_sem, q0, q1, q2, q3]) rfl ⟨rfl, below_set4 HB.out HRw.out _ _ _ _⟩
  have k0 := KK.out.cell 0 rfl
  have fk := KK.out.frozen 0
  cases g1
  · skip
    go_wp2
    obtain ⟨rfl, rfl, rfl, rfl, rfl⟩ := inj7 HE.out
    obtain ⟨q0, q1, q2, q3⟩ := (KR.out.set4 (.int .i64 0) (.int .i64 0) (.int .i64 0) (.int .i64 0)).c4
    exact bodyPost_ret (v := .tuple #[.agg #[.int .i64 0, .int .i64 0, .int .i64 0, .int .i64 0], .bool false]) (by simp [results, Try.results16, go_sem, q0, q1, q2, q3]) rfl ⟨rfl, below_set4 HB.out HRw.out _ _ _ _⟩
  cases g2
  · skip
    go_wp2
    obtain ⟨rfl, rfl, rfl, rfl, rfl⟩ := inj7 HE.out
    obtain ⟨q0, q1, q2, q3⟩ := (KR.out.set4 (.int .i64 0) (.int .i64 0) (.int .i64 0) (.int .i64 0)).c4
    exact bodyPost_ret (v := .tuple #[.agg #[.int .i64 0, .int .i64 0, .int .i64 0, .int .i64 0], .bool false]) (by simp [results, Try.results16, go_sem, q0, q1, q2, q3]) rfl ⟨rfl, below_set4 HB.out HRw.out _ _ _ _⟩
  cases g3
  · skip
    go_wp2
    obtain ⟨rfl, rfl, rfl, rfl, rfl⟩ := inj7 HE.out
    obtain ⟨q0, q1, q2, q3⟩ := (KR.out.set4 (.int .i64 0) (.int .i64 0) (.int .i64 0) (.int .i64 0)).c4
    exact bodyPost_ret (v := .tuple #[.agg #[.int .i64 0, .int .i64 0, .int .i64 0, .int .i64 0], .bool false]) (by simp [results, Try.results16, go_sem, q0, q1, q2, q3]) rfl ⟨rfl, below_set4 HB.out HRw.out _ _ _ _⟩
  cases g4
  · skip
    go_wp2
    obtain ⟨rfl, rfl, rfl, rfl, rfl⟩ := inj7 HE.out
    obtain ⟨q0, q1, q2, q3⟩ := (KR.out.set4 (.int .i64 0) (.int .i64 0) (.int .i64 0) (.int .i64 0)).c4
    exact bodyPost_ret (v := .tuple #[.agg #[.int .i64 0, .int .i64 0, .int .i64 0, .int .i64 0], .bool false]) (by simp [results, Try.results16, go_sem, q0, q1, q2, q3]) rfl ⟨rfl, below_set4 HB.out HRw.out _ _ _ _⟩
  clear f0 f1 f2 f3 y0 yy1 yy2 yy3
  go_upto_region 8 with fail
  clear K0 K1 KK k0 fk HP HQ H1 H2 H3 H4 HPK HQK HRK HKw HMK1 HMK2 HMK3 HMK4
  have hb := (Below.refl t2.heap.size t2).drew
  replace M1 := hidU (M1.out.below hb)
  replace M2 := hidU (M2.out.below hb)
  replace M3 := hidU (M3.out.below hb)
  replace M4 := hidU (M4.out.below hb)
  replace KR := hidU (KR.out.below hb)
  replace HB := hidU (HB.out.trans (hb.mono HB.out.size))
  clear hb
  have HNE : Hid (B1 ≠ R ∧ B2 ≠ R ∧ B3 ≠ R ∧ B4 ≠ R) := ⟨HMR1.out, HMR2.out, HMR3.out, HMR4.out⟩
  refine wp_region_noPanic ?_
  refine wp_region_held_drew (S := fun W => IsB W B1 #[.int .i64 x1, .int .i64 y1] 25 ∧ IsB W B2 #[.int .i64 x2, .int .i64 y2] 25 ∧ IsB W B3 #[.int .i64 x3, .int .i64 y3] 25 ∧ IsB W B4 #[.int .i64 x4, .int .i64 y4] 25) (by kernel_rfl) ⟨M1.out, M2.out, M3.out, M4.out⟩ (fun hHeld => ?_)
  obtain ⟨wd, hwd⟩ : ∃ u, u = t2.drew := ⟨_, rfl⟩
  rw [← hwd] at M1 M2 M3 M4 KR HB hHeld ⊢
  clear hwd
  refine wpAnyH_take (i := 0) (v := ?_) rfl (by kernel_rfl) (by kernel_rfl) (by kernel_rfl) (fun _ _ _ h => h) (Or.inl ⟨by kernel_rfl, ?_⟩) hHeld ?_
  rotate_left
  · intro wz hSw; obtain ⟨hS0, hS1, hS2, hS3⟩ := hSw; obtain ⟨p0_0, p0_1⟩ := hS0.c2; obtain ⟨p1_0, p1_1⟩ := hS1.c2; obtain ⟨p2_0, p2_1⟩ := hS2.c2; obtain ⟨p3_0, p3_1⟩ := hS3.c2; clear hS0 hS1 hS2 hS3; go_simp; all_goals (try with_reducible rfl)
  (try simp only [List.getElem_toArray]); (try simp only [List.getElem_cons_succ]); (try simp only [List.getElem_cons_zero]); (try simp only [Act.put]); (try simp only [List.setIfInBounds_toArray]); (try simp only [List.set_cons_succ]); (try simp only [List.set_cons_zero])
  refine wpAnyH_take (i := 1) (v := ?_) rfl (by kernel_rfl) (by kernel_rfl) (by kernel_rfl) (fun _ _ _ h => h) (Or.inl ⟨by kernel_rfl, ?_⟩) hHeld ?_
  rotate_left
  · intro wz hSw; obtain ⟨hS0, hS1, hS2, hS3⟩ := hSw; obtain ⟨p0_0, p0_1⟩ := hS0.c2; obtain ⟨p1_0, p1_1⟩ := hS1.c2; obtain ⟨p2_0, p2_1⟩ := hS2.c2; obtain ⟨p3_0, p3_1⟩ := hS3.c2; clear hS0 hS1 hS2 hS3; go_simp; all_goals (try with_reducible rfl)
  (try simp only [List.getElem_toArray]); (try simp only [List.getElem_cons_succ]); (try simp only [List.getElem_cons_zero]); (try simp only [Act.put]); (try simp only [List.setIfInBounds_toArray]); (try simp only [List.set_cons_succ]); (try simp only [List.set_cons_zero])
  refine wpAnyH_take (i := 3) (v := ?_) rfl (by kernel_rfl) (by kernel_rfl) (by kernel_rfl) (fun _ _ _ h => h) (Or.inl ⟨by kernel_rfl, ?_⟩) hHeld ?_
  rotate_left
  · intro wz hSw; obtain ⟨hS0, hS1, hS2, hS3⟩ := hSw; obtain ⟨p0_0, p0_1⟩ := hS0.c2; obtain ⟨p1_0, p1_1⟩ := hS1.c2; obtain ⟨p2_0, p2_1⟩ := hS2.c2; obtain ⟨p3_0, p3_1⟩ := hS3.c2; clear hS0 hS1 hS2 hS3; go_simp; all_goals (try with_reducible rfl)
  (try simp only [List.getElem_toArray]); (try simp only [List.getElem_cons_succ]); (try simp only [List.getElem_cons_zero]); (try simp only [Act.put]); (try simp only [List.setIfInBounds_toArray]); (try simp only [List.set_cons_succ]); (try simp only [List.set_cons_zero])
  refine wpAnyH_take (i := 4) (v := ?_) rfl (by kernel_rfl) (by kernel_rfl) (by kernel_rfl) (fun _ _ _ h => h) (Or.inl ⟨by kernel_rfl, ?_⟩) hHeld ?_
  rotate_left
  · intro wz hSw; obtain ⟨hS0, hS1, hS2, hS3⟩ := hSw; obtain ⟨p0_0, p0_1⟩ := hS0.c2; obtain ⟨p1_0, p1_1⟩ := hS1.c2; obtain ⟨p2_0, p2_1⟩ := hS2.c2; obtain ⟨p3_0, p3_1⟩ := hS3.c2; clear hS0 hS1 hS2 hS3; go_simp; all_goals (try with_reducible rfl)
  (try simp only [List.getElem_toArray]); (try simp only [List.getElem_cons_succ]); (try simp only [List.getElem_cons_zero]); (try simp only [Act.put]); (try simp only [List.setIfInBounds_toArray]); (try simp only [List.set_cons_succ]); (try simp only [List.set_cons_zero])
  refine wpAnyH_take (i := 7) (v := ?_) rfl (by kernel_rfl) (by kernel_rfl) (by kernel_rfl) (fun _ _ _ h => h) (Or.inl ⟨by kernel_rfl, ?_⟩) hHeld ?_
  rotate_left
  · intro wz hSw; obtain ⟨hS0, hS1, hS2, hS3⟩ := hSw; obtain ⟨p0_0, p0_1⟩ := hS0.c2; obtain ⟨p1_0, p1_1⟩ := hS1.c2; obtain ⟨p2_0, p2_1⟩ := hS2.c2; obtain ⟨p3_0, p3_1⟩ := hS3.c2; clear hS0 hS1 hS2 hS3; go_simp; all_goals (try with_reducible rfl)
  (try simp only [List.getElem_toArray]); (try simp only [List.getElem_cons_succ]); (try simp only [List.getElem_cons_zero]); (try simp only [Act.put]); (try simp only [List.setIfInBounds_toArray]); (try simp only [List.set_cons_succ]); (try simp only [List.set_cons_zero])
  refine wpAnyH_take (i := 8) (v := ?_) rfl (by kernel_rfl) (by kernel_rfl) (by kernel_rfl) (fun _ _ _ h => h) (Or.inl ⟨by kernel_rfl, ?_⟩) hHeld ?_
  rotate_left
  · intro wz hSw; obtain ⟨hS0, hS1, hS2, hS3⟩ := hSw; obtain ⟨p0_0, p0_1⟩ := hS0.c2; obtain ⟨p1_0, p1_1⟩ := hS1.c2; obtain ⟨p2_0, p2_1⟩ := hS2.c2; obtain ⟨p3_0, p3_1⟩ := hS3.c2; clear hS0 hS1 hS2 hS3; go_simp; all_goals (try with_reducible rfl)
  (try simp only [List.getElem_toArray]); (try simp only [List.getElem_cons_succ]); (try simp only [List.getElem_cons_zero]); (try simp only [Act.put]); (try simp only [List.setIfInBounds_toArray]); (try simp only [List.set_cons_succ]); (try simp only [List.set_cons_zero])
  refine wpAnyH_take (i := 10) (v := ?_) rfl (by kernel_rfl) (by kernel_rfl) (by kernel_rfl) (fun _ _ _ h => h) (Or.inl ⟨by kernel_rfl, ?_⟩) hHeld ?_
  rotate_left
  · intro wz hSw; obtain ⟨hS0, hS1, hS2, hS3⟩ := hSw; obtain ⟨p0_0, p0_1⟩ := hS0.c2; obtain ⟨p1_0, p1_1⟩ := hS1.c2; obtain ⟨p2_0, p2_1⟩ := hS2.c2; obtain ⟨p3_0, p3_1⟩ := hS3.c2; clear hS0 hS1 hS2 hS3; go_simp; all_goals (try with_reducible rfl)
  (try simp only [List.getElem_toArray]); (try simp only [List.getElem_cons_succ]); (try simp only [List.getElem_cons_zero]); (try simp only [Act.put]); (try simp only [List.setIfInBounds_toArray]); (try simp only [List.set_cons_succ]); (try simp only [List.set_cons_zero])
  refine wpAnyH_take (i := 11) (v := ?_) rfl (by kernel_rfl) (by kernel_rfl) (by kernel_rfl) (fun _ _ _ h => h) (Or.inl ⟨by kernel_rfl, ?_⟩) hHeld ?_
  rotate_left
  · intro wz hSw; obtain ⟨hS0, hS1, hS2, hS3⟩ := hSw; obtain ⟨p0_0, p0_1⟩ := hS0.c2; obtain ⟨p1_0, p1_1⟩ := hS1.c2; obtain ⟨p2_0, p2_1⟩ := hS2.c2; obtain ⟨p3_0, p3_1⟩ := hS3.c2; clear hS0 hS1 hS2 hS3; go_simp; all_goals (try with_reducible rfl)
  (try simp only [List.getElem_toArray]); (try simp only [List.getElem_cons_succ]); (try simp only [List.getElem_cons_zero]); (try simp only [Act.put]); (try simp only [List.setIfInBounds_toArray]); (try simp only [List.set_cons_succ]); (try simp only [List.set_cons_zero])
  refine wpAnyH_ready (rs := [2]) (by kernel_rfl) (by simp) (AllReadyH.cons rfl (fun Kc hKc => ?_) AllReadyH.nil)
  go_simp
  refine (L1.out _).mono ?_
  rintro e u0 ⟨rfl, hb⟩
  replace M1 := hidU (M1.out.below hb)
  replace M2 := hidU (M2.out.below hb)
  replace M3 := hidU (M3.out.below hb)
  replace M4 := hidU (M4.out.below hb)
  replace KR := hidU (KR.out.below hb)
  replace HB := hidU (HB.out.trans (hb.mono HB.out.size))
  clear hb
  go_wp2_with fail
  refine hKc.out _ _ ⟨M1.out, M2.out, M3.out, M4.out⟩ (fun hHeld => ?_)
  clear hKc Kc
  (try simp only [List.getElem_toArray]); (try simp only [List.getElem_cons_succ]); (try simp only [List.getElem_cons_zero]); (try simp only [Act.put]); (try simp only [List.setIfInBounds_toArray]); (try simp only [List.set_cons_succ]); (try simp only [List.set_cons_zero])
  refine wpAnyH_ready (rs := [5]) (by kernel_rfl) (by simp) (AllReadyH.cons rfl (fun Kc hKc => ?_) AllReadyH.nil)
  go_simp
  refine (L2.out _).mono ?_
  rintro e u1 ⟨rfl, hb⟩
  replace M1 := hidU (M1.out.below hb)
  replace M2 := hidU (M2.out.below hb)
  replace M3 := hidU (M3.out.below hb)
  replace M4 := hidU (M4.out.below hb)
  replace KR := hidU (KR.out.below hb)
  replace HB := hidU (HB.out.trans (hb.mono HB.out.size))
  clear hb
  go_wp2_with fail
  refine hKc.out _ _ ⟨M1.out, M2.out, M3.out, M4.out⟩ (fun hHeld => ?_)
  clear hKc Kc
  (try simp only [List.getElem_toArray]); (try simp only [List.getElem_cons_succ]); (try simp only [List.getElem_cons_zero]); (try simp only [Act.put]); (try simp only [List.setIfInBounds_toArray]); (try simp only [List.set_cons_succ]); (try simp only [List.set_cons_zero])
  refine wpAnyH_ready (rs := [6]) (by kernel_rfl) (by simp) (AllReadyH.cons rfl (fun Kc hKc => ?_) AllReadyH.nil)
  go_simp
  refine (L3.out _).mono ?_
  rintro e u2 ⟨rfl, hb⟩
  replace M1 := hidU (M1.out.below hb)
  replace M2 := hidU (M2.out.below hb)
  replace M3 := hidU (M3.out.below hb)
  replace M4 := hidU (M4.out.below hb)
  replace KR := hidU (KR.out.below hb)
  replace HB := hidU (HB.out.trans (hb.mono HB.out.size))
  clear hb
  go_wp2_with fail
  refine hKc.out _ _ ⟨M1.out, M2.out, M3.out, M4.out⟩ (fun hHeld => ?_)
  clear hKc Kc
  (try simp only [List.getElem_toArray]); (try simp only [List.getElem_cons_succ]); (try simp only [List.getElem_cons_zero]); (try simp only [Act.put]); (try simp only [List.setIfInBounds_toArray]); (try simp only [List.set_cons_succ]); (try simp only [List.set_cons_zero])
  refine wpAnyH_ready (rs := [9]) (by kernel_rfl) (by simp) (AllReadyH.cons rfl (fun Kc hKc => ?_) AllReadyH.nil)
  go_simp
  refine (L4.out _).mono ?_
  rintro e u3 ⟨rfl, hb⟩
  replace M1 := hidU (M1.out.below hb)
  replace M2 := hidU (M2.out.below hb)
  replace M3 := hidU (M3.out.below hb)
  replace M4 := hidU (M4.out.below hb)
  replace KR := hidU (KR.out.below hb)
  replace HB := hidU (HB.out.trans (hb.mono HB.out.size))
  clear hb
  go_wp2_with fail
  refine hKc.out _ _ ⟨M1.out, M2.out, M3.out, M4.out⟩ (fun hHeld => ?_)
  clear hKc Kc
  (try simp only [List.getElem_toArray]); (try simp only [List.getElem_cons_succ]); (try simp only [List.getElem_cons_zero]); (try simp only [Act.put]); (try simp only [List.setIfInBounds_toArray]); (try simp only [List.set_cons_succ]); (try simp only [List.set_cons_zero])
  refine wpAnyH_ready (rs := [12]) (by kernel_rfl) (by simp) (AllReadyH.cons rfl (fun Kc hKc => ?_) AllReadyH.nil)
  go_simp
  refine (L5.out _).mono ?_
  rintro e u4 ⟨rfl, hb⟩
  replace M1 := hidU (M1.out.below hb)
  replace M2 := hidU (M2.out.below hb)
  replace M3 := hidU (M3.out.below hb)
  replace M4 := hidU (M4.out.below hb)
  replace KR := hidU (KR.out.below hb)
  replace HB := hidU (HB.out.trans (hb.mono HB.out.size))
  clear hb
  go_wp2_with fail
  refine hKc.out _ _ ⟨M1.out, M2.out, M3.out, M4.out⟩ (fun hHeld => ?_)
  clear hKc Kc
  (try simp only [List.getElem_toArray]); (try simp only [List.getElem_cons_succ]); (try simp only [List.getElem_cons_zero]); (try simp only [Act.put]); (try simp only [List.setIfInBounds_toArray]); (try simp only [List.set_cons_succ]); (try simp only [List.set_cons_zero])
  refine wpAnyH_ready (rs := [13]) (by kernel_rfl) (by simp) (AllReadyH.cons rfl (fun Kc hKc => ?_) AllReadyH.nil)
  go_simp
  refine (L6.out _).mono ?_
  rintro e u5 ⟨rfl, hb⟩
  replace M1 := hidU (M1.out.below hb)
  replace M2 := hidU (M2.out.below hb)
  replace M3 := hidU (M3.out.below hb)
  replace M4 := hidU (M4.out.below hb)
  replace KR := hidU (KR.out.below hb)
  replace HB := hidU (HB.out.trans (hb.mono HB.out.size))
  clear hb
  go_wp2_with fail
  refine hKc.out _ _ ⟨M1.out, M2.out, M3.out, M4.out⟩ (fun hHeld => ?_)
  clear hKc Kc
  (try simp only [List.getElem_toArray]); (try simp only [List.getElem_cons_succ]); (try simp only [List.getElem_cons_zero]); (try simp only [Act.put]); (try simp only [List.setIfInBounds_toArray]); (try simp only [List.set_cons_succ]); (try simp only [List.set_cons_zero])
  refine wpAnyH_take (i := 14) (v := ?_) rfl (by kernel_rfl) (by kernel_rfl) (by kernel_rfl) (fun _ _ _ h => h) (Or.inl ⟨by kernel_rfl, ?_⟩) hHeld ?_
  rotate_left
  · intro wz hSw; obtain ⟨hS0, hS1, hS2, hS3⟩ := hSw; obtain ⟨p0_0, p0_1⟩ := hS0.c2; obtain ⟨p1_0, p1_1⟩ := hS1.c2; obtain ⟨p2_0, p2_1⟩ := hS2.c2; obtain ⟨p3_0, p3_1⟩ := hS3.c2; clear hS0 hS1 hS2 hS3; go_simp; all_goals (try with_reducible rfl)
  (try simp only [List.getElem_toArray]); (try simp only [List.getElem_cons_succ]); (try simp only [List.getElem_cons_zero]); (try simp only [Act.put]); (try simp only [List.setIfInBounds_toArray]); (try simp only [List.set_cons_succ]); (try simp only [List.set_cons_zero])
  obtain ⟨f0, f1, f2, f3⟩ := KR.out.f4
  obtain ⟨z0, z1, z2, z3⟩ := KR.out.c4
  obtain ⟨e1, e2, e3, e4⟩ := HNE.out
  have Mb1 := hidU (M1.out.other4 e1 (.int .i64 m3) (.int .i64 n3) (.int .i64 m6) (.int .i64 n6))
  have Mb2 := hidU (M2.out.other4 e2 (.int .i64 m3) (.int .i64 n3) (.int .i64 m6) (.int .i64 n6))
  have Mb3 := hidU (M3.out.other4 e3 (.int .i64 m3) (.int .i64 n3) (.int .i64 m6) (.int .i64 n6))
  have Mb4 := hidU (M4.out.other4 e4 (.int .i64 m3) (.int .i64 n3) (.int .i64 m6) (.int .i64 n6))
  clear e1 e2 e3 e4
  refine wpAnyH_ready (rs := [15]) (by kernel_rfl) (by simp) (AllReadyH.cons rfl (fun Kc hKc => ?_) AllReadyH.nil)
  go_simp
  refine hKc.out _ _ ⟨Mb1.out, Mb2.out, Mb3.out, Mb4.out⟩ (fun hHeld => ?_)
  clear hKc Kc
  (try simp only [List.getElem_toArray]); (try simp only [List.getElem_cons_succ]); (try simp only [List.getElem_cons_zero]); (try simp only [Act.put]); (try simp only [List.setIfInBounds_toArray]); (try simp only [List.set_cons_succ]); (try simp only [List.set_cons_zero])
  refine wpAnyH_take (i := 16) (v := ?_) rfl (by kernel_rfl) (by kernel_rfl) (by kernel_rfl) (fun _ _ _ h => h) (Or.inl ⟨by kernel_rfl, ?_⟩) hHeld ?_
  rotate_left
  · intro wz hSw; obtain ⟨hS0, hS1, hS2, hS3⟩ := hSw; obtain ⟨p0_0, p0_1⟩ := hS0.c2; obtain ⟨p1_0, p1_1⟩ := hS1.c2; obtain ⟨p2_0, p2_1⟩ := hS2.c2; obtain ⟨p3_0, p3_1⟩ := hS3.c2; clear hS0 hS1 hS2 hS3; go_simp; all_goals (try with_reducible rfl)
  (try simp only [List.getElem_toArray]); (try simp only [List.getElem_cons_succ]); (try simp only [List.getElem_cons_zero]); (try simp only [Act.put]); (try simp only [List.setIfInBounds_toArray]); (try simp only [List.set_cons_succ]); (try simp only [List.set_cons_zero])
  refine wpAnyH_done (by kernel_rfl) ?_ _
  refine NoPanic.normal ?_
  clear hHeld
  go_wp2
  obtain ⟨rfl, rfl, rfl, rfl, rfl⟩ := inj7 HE.out
  obtain ⟨q0, q1, q2, q3⟩ := (KR.out.set4 (.int .i64 r1) (.int .i64 r2) (.int .i64 r3) (.int .i64 r4)).c4
  exact bodyPost_ret (v := .tuple #[.agg #[.int .i64 r1, .int .i64 r2, .int .i64 r3, .int .i64 r4], .bool true]) (by simp [results, Try.results16, go_sem, q0, q1, q2, q3]) rfl ⟨rfl, below_set4 HB.out HRw.out _ _ _ _⟩
set_option maxRecDepth 100000 in
set_option maxHeartbeats 4000000 in
theorem sMeet_any (a b c d a' b' c' d' : Int) (w : World) :
    Calls Try.prog 17 #[.agg #[.int .i64 a, .int .i64 b, .int .i64 c, .int .i64 d], .agg #[.int .i64 a', .int .i64 b', .int .i64 c', .int .i64 d']] w fun e w' => e = .returned (.tuple #[.agg #[.int .i64 (rmeet (a, b) (c, d) (a', b') (c', d')).1.1, .int .i64 (rmeet (a, b) (c, d) (a', b') (c', d')).1.2, .int .i64 (rmeet (a, b) (c, d) (a', b') (c', d')).2.1.1, .int .i64 (rmeet (a, b) (c, d) (a', b') (c', d')).2.1.2], .bool (rmeet (a, b) (c, d) (a', b') (c', d')).2.2]) ∧ Below w.heap.size w w' := by
  have HP := hidU (fun W => sRng_any a b c d W)
  have HQ := hidU (fun W => sRng_any a' b' c' d' W)
  have HE : Hid (rmeet (a, b) (c, d) (a', b') (c', d') = _) := rmeet_k (a, b) (c, d) (a', b') (c', d')
  have H1 := hidU (fun W => mst7_any a b a' b' W)
  have H2 := hidU (fun W => lst7_any c d c' d' W)
  obtain ⟨p, hp⟩ : ∃ x, x = rng7 (a, b) (c, d) := ⟨_, rfl⟩
  obtain ⟨q, hq⟩ : ∃ x, x = rng7 (a', b') (c', d') := ⟨_, rfl⟩
  rw [← hp] at HP
  rw [← hq] at HQ
  rw [← hp, ← hq] at HE
  obtain ⟨xy1, h1⟩ : ∃ x, x = mst7 (a, b) (a', b') := ⟨_, rfl⟩
  obtain ⟨xy2, h2⟩ : ∃ x, x = lst7 (c, d) (c', d') := ⟨_, rfl⟩
  rw [← h1] at H1
  rw [← h2] at H2
  rw [← h1, ← h2] at HE
  obtain ⟨r, hr⟩ : ∃ x, x = rmeet (a, b) (c, d) (a', b') (c', d') := ⟨_, rfl⟩
  rw [← hr] at HE ⊢
  clear hp hq h1 h2 hr
  obtain ⟨x1, y1⟩ := xy1
  obtain ⟨x2, y2⟩ := xy2
  have H3 := hidU (fun W => sRng_any x1 y1 x2 y2 W)
  obtain ⟨o, ho⟩ : ∃ x, x = rng7 (x1, y1) (x2, y2) := ⟨_, rfl⟩
  rw [← ho] at H3 HE
  clear ho
  obtain ⟨⟨r1, r2⟩, ⟨r3, r4⟩, r5⟩ := r
  simp only at H1 H2 ⊢
  go_enter Try.func17, Try.ntmps17
  go_upto_region 1 with fail
  obtain ⟨W0, hW⟩ : ∃ Y, Y = ((w.alloc (.cells #[.int .i64 a, .int .i64 b, .int .i64 c, .int .i64 d] 27)).alloc (.cells #[.int .i64 a', .int .i64 b', .int .i64 c', .int .i64 d'] 27)).alloc (.cells #[.int .i64 0, .int .i64 0, .int .i64 0, .int .i64 0] 27) := ⟨_, rfl⟩
  obtain ⟨P, hP⟩ : ∃ P, P = w.heap.size := ⟨_, rfl⟩
  have K0 : Hid (IsB W0 P #[.int .i64 a, .int .i64 b, .int .i64 c, .int .i64 d] 27) := by show IsB _ _ _ _; rw [hW, hP]; exact (IsB.new w _ _).below (((b0_any _ _).alloc (by simp) _))
  have K1 : Hid (IsB W0 (P + 1) #[.int .i64 a', .int .i64 b', .int .i64 c', .int .i64 d'] 27) := by show IsB _ _ _ _; rw [hW, hP]; exact (IsB.new2c w _ _ _).below ((b0_any _ _))
  have KR : Hid (IsB W0 (P + 1 + 1) #[.int .i64 0, .int .i64 0, .int .i64 0, .int .i64 0] 27) := by show IsB _ _ _ _; rw [hW, hP]; exact (IsB.new3c w _ _ _ _)
  have HB : Hid (Below w.heap.size w W0) := by show Below _ _ _; rw [hW]; exact (((b0_any w _).alloc (by simp) _).alloc (by simp <;> omega) _)
  rw [← hW, ← hP]
  clear hW
  obtain ⟨Q, hQ⟩ : ∃ Q, Q = P + 1 := ⟨_, rfl⟩
  obtain ⟨R, hR⟩ : ∃ R, R = P + 1 + 1 := ⟨_, rfl⟩
  rw [← hR] at KR ⊢
  rw [← hQ] at K1 ⊢
  have HRw : Hid (w.heap.size ≤ R) := by show _ ≤ _; omega
  clear hP hQ hR
  obtain ⟨z0, z1, z2, z3⟩ := K0.out.c4
  go_wp2_with fail
  refine (HP.out _).mono ?_
  rintro e v1 ⟨rfl, hb⟩
  clear z0 z1 z2 z3
  replace K0 := hidU (K0.out.below hb)
  replace K1 := hidU (K1.out.below hb)
  replace KR := hidU (KR.out.below hb)
  replace HB := hidU (HB.out.trans (hb.mono HB.out.size))
  clear hb
  obtain ⟨f0, f1, f2, f3⟩ := KR.out.f4
  obtain ⟨y0, yy1, yy2, y3⟩ := KR.out.c4
  cases p
  · skip
    go_wp2
    obtain ⟨rfl, rfl, rfl, rfl, rfl⟩ := inj7 HE.out
    obtain ⟨q0, q1, q2, q3⟩ := (KR.out.set4 (.int .i64 0) (.int .i64 0) (.int .i64 0) (.int .i64 0)).c4
    exact bodyPost_ret (v := .tuple #[.agg #[.int .i64 0, .int .i64 0, .int .i64 0, .int .i64 0], .bool false]) (by simp [results, Try.results17, go_sem, q0, q1, q2, q3]) rfl ⟨rfl, below_set4 HB.out HRw.out _ _ _ _⟩
  clear f0 f1 f2 f3 y0 yy1 yy2 y3
  obtain ⟨z0, z1, z2, z3⟩ := K1.out.c4
  go_wp2_with fail
  refine (HQ.out _).mono ?_
  rintro e v2 ⟨rfl, hb⟩
  clear z0 z1 z2 z3
  replace K0 := hidU (K0.out.below hb)
  replace K1 := hidU (K1.out.below hb)
  replace KR := hidU (KR.out.below hb)
  replace HB := hidU (HB.out.trans (hb.mono HB.out.size))
  clear hb
  obtain ⟨f0, f1, f2, f3⟩ := KR.out.f4
  obtain ⟨y0, yy1, yy2, y3⟩ := KR.out.c4
  cases q
  · skip
    go_wp2
    obtain ⟨rfl, rfl, rfl, rfl, rfl⟩ := inj7 HE.out
    obtain ⟨q0, q1, q2, q3⟩ := (KR.out.set4 (.int .i64 0) (.int .i64 0) (.int .i64 0) (.int .i64 0)).c4
    exact bodyPost_ret (v := .tuple #[.agg #[.int .i64 0, .int .i64 0, .int .i64 0, .int .i64 0], .bool false]) (by simp [results, Try.results17, go_sem, q0, q1, q2, q3]) rfl ⟨rfl, below_set4 HB.out HRw.out _ _ _ _⟩
  clear f0 f1 f2 f3 y0 yy1 yy2 y3
  go_upto_region 3 with fail
  go_cut [6] (fun s6 wx => ∃ (T : Nat), s6 = .pointer (some ⟨T, 0, none⟩) ∧ Hid (IsB wx T #[.int .i64 x1, .int .i64 y1, .int .i64 x2, .int .i64 y2] 27) ∧ Hid (IsB wx P #[.int .i64 a, .int .i64 b, .int .i64 c, .int .i64 d] 27) ∧ Hid (IsB wx Q #[.int .i64 a', .int .i64 b', .int .i64 c', .int .i64 d'] 27) ∧ Hid (IsB wx R #[.int .i64 0, .int .i64 0, .int .i64 0, .int .i64 0] 27) ∧ Hid (Below w.heap.size w wx))
  case first =>
    have hb := (Below.refl v2.heap.size v2).drew
    replace K0 := hidU (K0.out.below hb)
    replace K1 := hidU (K1.out.below hb)
    replace KR := hidU (KR.out.below hb)
    replace HB := hidU (HB.out.trans (hb.mono HB.out.size))
    clear hb
    refine wp_region_noPanic ?_
    refine wp_region_held_drew (S := fun W => IsB W P #[.int .i64 a, .int .i64 b, .int .i64 c, .int .i64 d] 27 ∧ IsB W Q #[.int .i64 a', .int .i64 b', .int .i64 c', .int .i64 d'] 27) (by kernel_rfl) ⟨K0.out, K1.out⟩ (fun hHeld => ?_)
    obtain ⟨wd, hwd⟩ : ∃ u, u = v2.drew := ⟨_, rfl⟩
    rw [← hwd] at K0 K1 KR HB hHeld ⊢
    clear hwd
    refine wpAnyH_take (i := 0) (v := ?_) rfl (by kernel_rfl) (by kernel_rfl) (by kernel_rfl) (fun _ _ _ h => h) (Or.inl ⟨by kernel_rfl, ?_⟩) hHeld ?_
    rotate_left
    · intro wz hSw; obtain ⟨hS0, hS1⟩ := hSw; obtain ⟨p0_0, p0_1, p0_2, p0_3⟩ := hS0.c4; obtain ⟨p1_0, p1_1, p1_2, p1_3⟩ := hS1.c4; clear hS0 hS1; go_simp; all_goals (try with_reducible rfl)
    (try simp only [List.getElem_toArray]); (try simp only [List.getElem_cons_succ]); (try simp only [List.getElem_cons_zero]); (try simp only [Act.put]); (try simp only [List.setIfInBounds_toArray]); (try simp only [List.set_cons_succ]); (try simp only [List.set_cons_zero])
    refine wpAnyH_take (i := 1) (v := ?_) rfl (by kernel_rfl) (by kernel_rfl) (by kernel_rfl) (fun _ _ _ h => h) (Or.inl ⟨by kernel_rfl, ?_⟩) hHeld ?_
    rotate_left
    · intro wz hSw; obtain ⟨hS0, hS1⟩ := hSw; obtain ⟨p0_0, p0_1, p0_2, p0_3⟩ := hS0.c4; obtain ⟨p1_0, p1_1, p1_2, p1_3⟩ := hS1.c4; clear hS0 hS1; go_simp; all_goals (try with_reducible rfl)
    (try simp only [List.getElem_toArray]); (try simp only [List.getElem_cons_succ]); (try simp only [List.getElem_cons_zero]); (try simp only [Act.put]); (try simp only [List.setIfInBounds_toArray]); (try simp only [List.set_cons_succ]); (try simp only [List.set_cons_zero])
    refine wpAnyH_take (i := 2) (v := ?_) rfl (by kernel_rfl) (by kernel_rfl) (by kernel_rfl) (fun _ _ _ h => h) (Or.inl ⟨by kernel_rfl, ?_⟩) hHeld ?_
    rotate_left
    · intro wz hSw; obtain ⟨hS0, hS1⟩ := hSw; obtain ⟨p0_0, p0_1, p0_2, p0_3⟩ := hS0.c4; obtain ⟨p1_0, p1_1, p1_2, p1_3⟩ := hS1.c4; clear hS0 hS1; go_simp; all_goals (try with_reducible rfl)
    (try simp only [List.getElem_toArray]); (try simp only [List.getElem_cons_succ]); (try simp only [List.getElem_cons_zero]); (try simp only [Act.put]); (try simp only [List.setIfInBounds_toArray]); (try simp only [List.set_cons_succ]); (try simp only [List.set_cons_zero])
    refine wpAnyH_take (i := 3) (v := ?_) rfl (by kernel_rfl) (by kernel_rfl) (by kernel_rfl) (fun _ _ _ h => h) (Or.inl ⟨by kernel_rfl, ?_⟩) hHeld ?_
    rotate_left
    · intro wz hSw; obtain ⟨hS0, hS1⟩ := hSw; obtain ⟨p0_0, p0_1, p0_2, p0_3⟩ := hS0.c4; obtain ⟨p1_0, p1_1, p1_2, p1_3⟩ := hS1.c4; clear hS0 hS1; go_simp; all_goals (try with_reducible rfl)
    (try simp only [List.getElem_toArray]); (try simp only [List.getElem_cons_succ]); (try simp only [List.getElem_cons_zero]); (try simp only [Act.put]); (try simp only [List.setIfInBounds_toArray]); (try simp only [List.set_cons_succ]); (try simp only [List.set_cons_zero])
    refine wpAnyH_take (i := 5) (v := ?_) rfl (by kernel_rfl) (by kernel_rfl) (by kernel_rfl) (fun _ _ _ h => h) (Or.inl ⟨by kernel_rfl, ?_⟩) hHeld ?_
    rotate_left
    · intro wz hSw; obtain ⟨hS0, hS1⟩ := hSw; obtain ⟨p0_0, p0_1, p0_2, p0_3⟩ := hS0.c4; obtain ⟨p1_0, p1_1, p1_2, p1_3⟩ := hS1.c4; clear hS0 hS1; go_simp; all_goals (try with_reducible rfl)
    (try simp only [List.getElem_toArray]); (try simp only [List.getElem_cons_succ]); (try simp only [List.getElem_cons_zero]); (try simp only [Act.put]); (try simp only [List.setIfInBounds_toArray]); (try simp only [List.set_cons_succ]); (try simp only [List.set_cons_zero])
    refine wpAnyH_take (i := 6) (v := ?_) rfl (by kernel_rfl) (by kernel_rfl) (by kernel_rfl) (fun _ _ _ h => h) (Or.inl ⟨by kernel_rfl, ?_⟩) hHeld ?_
    rotate_left
    · intro wz hSw; obtain ⟨hS0, hS1⟩ := hSw; obtain ⟨p0_0, p0_1, p0_2, p0_3⟩ := hS0.c4; obtain ⟨p1_0, p1_1, p1_2, p1_3⟩ := hS1.c4; clear hS0 hS1; go_simp; all_goals (try with_reducible rfl)
    (try simp only [List.getElem_toArray]); (try simp only [List.getElem_cons_succ]); (try simp only [List.getElem_cons_zero]); (try simp only [Act.put]); (try simp only [List.setIfInBounds_toArray]); (try simp only [List.set_cons_succ]); (try simp only [List.set_cons_zero])
    refine wpAnyH_take (i := 7) (v := ?_) rfl (by kernel_rfl) (by kernel_rfl) (by kernel_rfl) (fun _ _ _ h => h) (Or.inl ⟨by kernel_rfl, ?_⟩) hHeld ?_
    rotate_left
    · intro wz hSw; obtain ⟨hS0, hS1⟩ := hSw; obtain ⟨p0_0, p0_1, p0_2, p0_3⟩ := hS0.c4; obtain ⟨p1_0, p1_1, p1_2, p1_3⟩ := hS1.c4; clear hS0 hS1; go_simp; all_goals (try with_reducible rfl)
    (try simp only [List.getElem_toArray]); (try simp only [List.getElem_cons_succ]); (try simp only [List.getElem_cons_zero]); (try simp only [Act.put]); (try simp only [List.setIfInBounds_toArray]); (try simp only [List.set_cons_succ]); (try simp only [List.set_cons_zero])
    refine wpAnyH_take (i := 8) (v := ?_) rfl (by kernel_rfl) (by kernel_rfl) (by kernel_rfl) (fun _ _ _ h => h) (Or.inl ⟨by kernel_rfl, ?_⟩) hHeld ?_
    rotate_left
    · intro wz hSw; obtain ⟨hS0, hS1⟩ := hSw; obtain ⟨p0_0, p0_1, p0_2, p0_3⟩ := hS0.c4; obtain ⟨p1_0, p1_1, p1_2, p1_3⟩ := hS1.c4; clear hS0 hS1; go_simp; all_goals (try with_reducible rfl)
    (try simp only [List.getElem_toArray]); (try simp only [List.getElem_cons_succ]); (try simp only [List.getElem_cons_zero]); (try simp only [Act.put]); (try simp only [List.setIfInBounds_toArray]); (try simp only [List.set_cons_succ]); (try simp only [List.set_cons_zero])
    refine wpAnyH_ready (rs := [4, 11]) (by kernel_rfl) (by simp) (AllReadyH.cons rfl (fun Kc hKc => ?_) (AllReadyH.cons rfl (fun Kc hKc => ?_) AllReadyH.nil))
    · go_simp
      refine (H1.out _).mono ?_
      rintro e u1 ⟨rfl, hb⟩
      replace K0 := hidU (K0.out.below hb)
      replace K1 := hidU (K1.out.below hb)
      replace KR := hidU (KR.out.below hb)
      replace HB := hidU (HB.out.trans (hb.mono HB.out.size))
      clear hb
      go_wp2_with fail
      refine hKc.out _ _ ⟨K0.out, K1.out⟩ (fun hHeld => ?_)
      clear hKc Kc
      (try simp only [List.getElem_toArray]); (try simp only [List.getElem_cons_succ]); (try simp only [List.getElem_cons_zero]); (try simp only [Act.put]); (try simp only [List.setIfInBounds_toArray]); (try simp only [List.set_cons_succ]); (try simp only [List.set_cons_zero])
      refine wpAnyH_ready (rs := [9, 11]) (by kernel_rfl) (by simp) (AllReadyH.cons rfl (fun Kc hKc => ?_) (AllReadyH.cons rfl (fun Kc hKc => ?_) AllReadyH.nil))
      · go_simp
        refine (H2.out _).mono ?_
        rintro e u2 ⟨rfl, hb⟩
        replace K0 := hidU (K0.out.below hb)
        replace K1 := hidU (K1.out.below hb)
        replace KR := hidU (KR.out.below hb)
        replace HB := hidU (HB.out.trans (hb.mono HB.out.size))
        clear hb
        go_wp2_with fail
        refine hKc.out _ _ ⟨K0.out, K1.out⟩ (fun hHeld => ?_)
        clear hKc Kc
        (try simp only [List.getElem_toArray]); (try simp only [List.getElem_cons_succ]); (try simp only [List.getElem_cons_zero]); (try simp only [Act.put]); (try simp only [List.setIfInBounds_toArray]); (try simp only [List.set_cons_succ]); (try simp only [List.set_cons_zero])
        refine wpAnyH_take (i := 10) (v := ?_) rfl (by kernel_rfl) (by kernel_rfl) (by kernel_rfl) (fun _ _ _ h => h) (Or.inl ⟨by kernel_rfl, ?_⟩) hHeld ?_
        rotate_left
        · intro wz hSw; obtain ⟨hS0, hS1⟩ := hSw; obtain ⟨p0_0, p0_1, p0_2, p0_3⟩ := hS0.c4; obtain ⟨p1_0, p1_1, p1_2, p1_3⟩ := hS1.c4; clear hS0 hS1; go_simp; all_goals (try with_reducible rfl)
        (try simp only [List.getElem_toArray]); (try simp only [List.getElem_cons_succ]); (try simp only [List.getElem_cons_zero]); (try simp only [Act.put]); (try simp only [List.setIfInBounds_toArray]); (try simp only [List.set_cons_succ]); (try simp only [List.set_cons_zero])
        refine wpAnyH_ready (rs := [11]) (by kernel_rfl) (by simp) (AllReadyH.cons rfl (fun Kc hKc => ?_) AllReadyH.nil)
        go_simp
        obtain ⟨A, hA⟩ : ∃ A, A = u2.heap.size := ⟨_, rfl⟩
        obtain ⟨u3, hu⟩ : ∃ u, u = u2.alloc (.cells #[.int .i64 0, .int .i64 0, .int .i64 0, .int .i64 0] 27) := ⟨_, rfl⟩
        have hb : Below u2.heap.size u2 u3 := by rw [hu]; exact b0_any _ _
        have KA : Hid (IsB u3 A #[.int .i64 0, .int .i64 0, .int .i64 0, .int .i64 0] 27) := by show IsB _ _ _ _; rw [hu, hA]; exact IsB.new _ _ _
        have HAw : Hid (w.heap.size ≤ A) := by show _ ≤ _; rw [hA]; exact HB.out.size
        have HNEK0 : Hid (P ≠ A) := by show _ ≠ _; have := K0.out.lt; rw [hA]; omega
        have HNEK1 : Hid (Q ≠ A) := by show _ ≠ _; have := K1.out.lt; rw [hA]; omega
        have HNEKR : Hid (R ≠ A) := by show _ ≠ _; have := KR.out.lt; rw [hA]; omega
        rw [← hu, ← hA]
        clear hu hA
        replace K0 := hidU (K0.out.below hb)
        replace K1 := hidU (K1.out.below hb)
        replace KR := hidU (KR.out.below hb)
        replace HB := hidU (HB.out.trans (hb.mono HB.out.size))
        clear hb
        refine hKc.out _ _ ⟨K0.out, K1.out⟩ (fun hHeld => ?_)
        clear hKc Kc
        (try simp only [List.getElem_toArray]); (try simp only [List.getElem_cons_succ]); (try simp only [List.getElem_cons_zero]); (try simp only [Act.put]); (try simp only [List.setIfInBounds_toArray]); (try simp only [List.set_cons_succ]); (try simp only [List.set_cons_zero])
        obtain ⟨z0, z1, z2, z3⟩ := KA.out.c4
        obtain ⟨f0, f1, f2, f3⟩ := KA.out.f4
        have KA2 := hidU (KA.out.set4 (.int .i64 x1) (.int .i64 y1) (.int .i64 x2) (.int .i64 y2))
        have K0b := hidU (K0.out.other4 (show P ≠ A from HNEK0.out) (.int .i64 x1) (.int .i64 y1) (.int .i64 x2) (.int .i64 y2))
        have K1b := hidU (K1.out.other4 (show Q ≠ A from HNEK1.out) (.int .i64 x1) (.int .i64 y1) (.int .i64 x2) (.int .i64 y2))
        have KRb := hidU (KR.out.other4 (show R ≠ A from HNEKR.out) (.int .i64 x1) (.int .i64 y1) (.int .i64 x2) (.int .i64 y2))
        have HB2 := hidU (below_set4 HB.out HAw.out (.int .i64 x1) (.int .i64 y1) (.int .i64 x2) (.int .i64 y2))
        refine wpAnyH_ready (rs := [12]) (by kernel_rfl) (by simp) (AllReadyH.cons rfl (fun Kc hKc => ?_) AllReadyH.nil)
        go_simp
        refine hKc.out _ _ ⟨K0b.out, K1b.out⟩ (fun hHeld => ?_)
        clear hKc Kc
        (try simp only [List.getElem_toArray]); (try simp only [List.getElem_cons_succ]); (try simp only [List.getElem_cons_zero]); (try simp only [Act.put]); (try simp only [List.setIfInBounds_toArray]); (try simp only [List.set_cons_succ]); (try simp only [List.set_cons_zero])
        clear z0 f0 z1 f1 z2 f2 z3 f3
        refine wpAnyH_done (by kernel_rfl) ?_ _
        refine NoPanic.normal ?_
        go_wp2_with fail
        go_meet
        case rel => exact ⟨_, rfl, KA2.out, K0b.out, K1b.out, KRb.out, HB2.out⟩
      · go_simp
        obtain ⟨A, hA⟩ : ∃ A, A = u1.heap.size := ⟨_, rfl⟩
        obtain ⟨u4, hu⟩ : ∃ u, u = u1.alloc (.cells #[.int .i64 0, .int .i64 0, .int .i64 0, .int .i64 0] 27) := ⟨_, rfl⟩
        have hb : Below u1.heap.size u1 u4 := by rw [hu]; exact b0_any _ _
        have KA : Hid (IsB u4 A #[.int .i64 0, .int .i64 0, .int .i64 0, .int .i64 0] 27) := by show IsB _ _ _ _; rw [hu, hA]; exact IsB.new _ _ _
        have HAw : Hid (w.heap.size ≤ A) := by show _ ≤ _; rw [hA]; exact HB.out.size
        have HNEK0 : Hid (P ≠ A) := by show _ ≠ _; have := K0.out.lt; rw [hA]; omega
        have HNEK1 : Hid (Q ≠ A) := by show _ ≠ _; have := K1.out.lt; rw [hA]; omega
        have HNEKR : Hid (R ≠ A) := by show _ ≠ _; have := KR.out.lt; rw [hA]; omega
        rw [← hu, ← hA]
        clear hu hA
        replace K0 := hidU (K0.out.below hb)
        replace K1 := hidU (K1.out.below hb)
        replace KR := hidU (KR.out.below hb)
        replace HB := hidU (HB.out.trans (hb.mono HB.out.size))
        clear hb
        refine hKc.out _ _ ⟨K0.out, K1.out⟩ (fun hHeld => ?_)
        clear hKc Kc
        (try simp only [List.getElem_toArray]); (try simp only [List.getElem_cons_succ]); (try simp only [List.getElem_cons_zero]); (try simp only [Act.put]); (try simp only [List.setIfInBounds_toArray]); (try simp only [List.set_cons_succ]); (try simp only [List.set_cons_zero])
        refine wpAnyH_ready (rs := [9]) (by kernel_rfl) (by simp) (AllReadyH.cons rfl (fun Kc hKc => ?_) AllReadyH.nil)
        go_simp
        refine (H2.out _).mono ?_
        rintro e u5 ⟨rfl, hb⟩
        replace K0 := hidU (K0.out.below hb)
        replace K1 := hidU (K1.out.below hb)
        replace KR := hidU (KR.out.below hb)
        replace KA := hidU (KA.out.below hb)
        replace HB := hidU (HB.out.trans (hb.mono HB.out.size))
        clear hb
        go_wp2_with fail
        refine hKc.out _ _ ⟨K0.out, K1.out⟩ (fun hHeld => ?_)
        clear hKc Kc
        (try simp only [List.getElem_toArray]); (try simp only [List.getElem_cons_succ]); (try simp only [List.getElem_cons_zero]); (try simp only [Act.put]); (try simp only [List.setIfInBounds_toArray]); (try simp only [List.set_cons_succ]); (try simp only [List.set_cons_zero])
        refine wpAnyH_take (i := 10) (v := ?_) rfl (by kernel_rfl) (by kernel_rfl) (by kernel_rfl) (fun _ _ _ h => h) (Or.inl ⟨by kernel_rfl, ?_⟩) hHeld ?_
        rotate_left
        · intro wz hSw; obtain ⟨hS0, hS1⟩ := hSw; obtain ⟨p0_0, p0_1, p0_2, p0_3⟩ := hS0.c4; obtain ⟨p1_0, p1_1, p1_2, p1_3⟩ := hS1.c4; clear hS0 hS1; go_simp; all_goals (try with_reducible rfl)
        (try simp only [List.getElem_toArray]); (try simp only [List.getElem_cons_succ]); (try simp only [List.getElem_cons_zero]); (try simp only [Act.put]); (try simp only [List.setIfInBounds_toArray]); (try simp only [List.set_cons_succ]); (try simp only [List.set_cons_zero])
        obtain ⟨z0, z1, z2, z3⟩ := KA.out.c4
        obtain ⟨f0, f1, f2, f3⟩ := KA.out.f4
        have KA2 := hidU (KA.out.set4 (.int .i64 x1) (.int .i64 y1) (.int .i64 x2) (.int .i64 y2))
        have K0b := hidU (K0.out.other4 (show P ≠ A from HNEK0.out) (.int .i64 x1) (.int .i64 y1) (.int .i64 x2) (.int .i64 y2))
        have K1b := hidU (K1.out.other4 (show Q ≠ A from HNEK1.out) (.int .i64 x1) (.int .i64 y1) (.int .i64 x2) (.int .i64 y2))
        have KRb := hidU (KR.out.other4 (show R ≠ A from HNEKR.out) (.int .i64 x1) (.int .i64 y1) (.int .i64 x2) (.int .i64 y2))
        have HB2 := hidU (below_set4 HB.out HAw.out (.int .i64 x1) (.int .i64 y1) (.int .i64 x2) (.int .i64 y2))
        refine wpAnyH_ready (rs := [12]) (by kernel_rfl) (by simp) (AllReadyH.cons rfl (fun Kc hKc => ?_) AllReadyH.nil)
        go_simp
        refine hKc.out _ _ ⟨K0b.out, K1b.out⟩ (fun hHeld => ?_)
        clear hKc Kc
        (try simp only [List.getElem_toArray]); (try simp only [List.getElem_cons_succ]); (try simp only [List.getElem_cons_zero]); (try simp only [Act.put]); (try simp only [List.setIfInBounds_toArray]); (try simp only [List.set_cons_succ]); (try simp only [List.set_cons_zero])
        clear z0 f0 z1 f1 z2 f2 z3 f3
        refine wpAnyH_done (by kernel_rfl) ?_ _
        refine NoPanic.normal ?_
        go_wp2_with fail
        go_meet
        case rel => exact ⟨_, rfl, KA2.out, K0b.out, K1b.out, KRb.out, HB2.out⟩
    · go_simp
      obtain ⟨A, hA⟩ : ∃ A, A = wd.heap.size := ⟨_, rfl⟩
      obtain ⟨u6, hu⟩ : ∃ u, u = wd.alloc (.cells #[.int .i64 0, .int .i64 0, .int .i64 0, .int .i64 0] 27) := ⟨_, rfl⟩
      have hb : Below wd.heap.size wd u6 := by rw [hu]; exact b0_any _ _
      have KA : Hid (IsB u6 A #[.int .i64 0, .int .i64 0, .int .i64 0, .int .i64 0] 27) := by show IsB _ _ _ _; rw [hu, hA]; exact IsB.new _ _ _
      have HAw : Hid (w.heap.size ≤ A) := by show _ ≤ _; rw [hA]; exact HB.out.size
      have HNEK0 : Hid (P ≠ A) := by show _ ≠ _; have := K0.out.lt; rw [hA]; omega
      have HNEK1 : Hid (Q ≠ A) := by show _ ≠ _; have := K1.out.lt; rw [hA]; omega
      have HNEKR : Hid (R ≠ A) := by show _ ≠ _; have := KR.out.lt; rw [hA]; omega
      rw [← hu, ← hA]
      clear hu hA
      replace K0 := hidU (K0.out.below hb)
      replace K1 := hidU (K1.out.below hb)
      replace KR := hidU (KR.out.below hb)
      replace HB := hidU (HB.out.trans (hb.mono HB.out.size))
      clear hb
      refine hKc.out _ _ ⟨K0.out, K1.out⟩ (fun hHeld => ?_)
      clear hKc Kc
      (try simp only [List.getElem_toArray]); (try simp only [List.getElem_cons_succ]); (try simp only [List.getElem_cons_zero]); (try simp only [Act.put]); (try simp only [List.setIfInBounds_toArray]); (try simp only [List.set_cons_succ]); (try simp only [List.set_cons_zero])
      refine wpAnyH_ready (rs := [4]) (by kernel_rfl) (by simp) (AllReadyH.cons rfl (fun Kc hKc => ?_) AllReadyH.nil)
      go_simp
      refine (H1.out _).mono ?_
      rintro e u7 ⟨rfl, hb⟩
      replace K0 := hidU (K0.out.below hb)
      replace K1 := hidU (K1.out.below hb)
      replace KR := hidU (KR.out.below hb)
      replace KA := hidU (KA.out.below hb)
      replace HB := hidU (HB.out.trans (hb.mono HB.out.size))
      clear hb
      go_wp2_with fail
      refine hKc.out _ _ ⟨K0.out, K1.out⟩ (fun hHeld => ?_)
      clear hKc Kc
      (try simp only [List.getElem_toArray]); (try simp only [List.getElem_cons_succ]); (try simp only [List.getElem_cons_zero]); (try simp only [Act.put]); (try simp only [List.setIfInBounds_toArray]); (try simp only [List.set_cons_succ]); (try simp only [List.set_cons_zero])
      refine wpAnyH_ready (rs := [9]) (by kernel_rfl) (by simp) (AllReadyH.cons rfl (fun Kc hKc => ?_) AllReadyH.nil)
      go_simp
      refine (H2.out _).mono ?_
      rintro e u8 ⟨rfl, hb⟩
      replace K0 := hidU (K0.out.below hb)
      replace K1 := hidU (K1.out.below hb)
      replace KR := hidU (KR.out.below hb)
      replace KA := hidU (KA.out.below hb)
      replace HB := hidU (HB.out.trans (hb.mono HB.out.size))
      clear hb
      go_wp2_with fail
      refine hKc.out _ _ ⟨K0.out, K1.out⟩ (fun hHeld => ?_)
      clear hKc Kc
      (try simp only [List.getElem_toArray]); (try simp only [List.getElem_cons_succ]); (try simp only [List.getElem_cons_zero]); (try simp only [Act.put]); (try simp only [List.setIfInBounds_toArray]); (try simp only [List.set_cons_succ]); (try simp only [List.set_cons_zero])
      refine wpAnyH_take (i := 10) (v := ?_) rfl (by kernel_rfl) (by kernel_rfl) (by kernel_rfl) (fun _ _ _ h => h) (Or.inl ⟨by kernel_rfl, ?_⟩) hHeld ?_
      rotate_left
      · intro wz hSw; obtain ⟨hS0, hS1⟩ := hSw; obtain ⟨p0_0, p0_1, p0_2, p0_3⟩ := hS0.c4; obtain ⟨p1_0, p1_1, p1_2, p1_3⟩ := hS1.c4; clear hS0 hS1; go_simp; all_goals (try with_reducible rfl)
      (try simp only [List.getElem_toArray]); (try simp only [List.getElem_cons_succ]); (try simp only [List.getElem_cons_zero]); (try simp only [Act.put]); (try simp only [List.setIfInBounds_toArray]); (try simp only [List.set_cons_succ]); (try simp only [List.set_cons_zero])
      obtain ⟨z0, z1, z2, z3⟩ := KA.out.c4
      obtain ⟨f0, f1, f2, f3⟩ := KA.out.f4
      have KA2 := hidU (KA.out.set4 (.int .i64 x1) (.int .i64 y1) (.int .i64 x2) (.int .i64 y2))
      have K0b := hidU (K0.out.other4 (show P ≠ A from HNEK0.out) (.int .i64 x1) (.int .i64 y1) (.int .i64 x2) (.int .i64 y2))
      have K1b := hidU (K1.out.other4 (show Q ≠ A from HNEK1.out) (.int .i64 x1) (.int .i64 y1) (.int .i64 x2) (.int .i64 y2))
      have KRb := hidU (KR.out.other4 (show R ≠ A from HNEKR.out) (.int .i64 x1) (.int .i64 y1) (.int .i64 x2) (.int .i64 y2))
      have HB2 := hidU (below_set4 HB.out HAw.out (.int .i64 x1) (.int .i64 y1) (.int .i64 x2) (.int .i64 y2))
      refine wpAnyH_ready (rs := [12]) (by kernel_rfl) (by simp) (AllReadyH.cons rfl (fun Kc hKc => ?_) AllReadyH.nil)
      go_simp
      refine hKc.out _ _ ⟨K0b.out, K1b.out⟩ (fun hHeld => ?_)
      clear hKc Kc
      (try simp only [List.getElem_toArray]); (try simp only [List.getElem_cons_succ]); (try simp only [List.getElem_cons_zero]); (try simp only [Act.put]); (try simp only [List.setIfInBounds_toArray]); (try simp only [List.set_cons_succ]); (try simp only [List.set_cons_zero])
      clear z0 f0 z1 f1 z2 f2 z3 f3
      refine wpAnyH_done (by kernel_rfl) ?_ _
      refine NoPanic.normal ?_
      go_wp2_with fail
      go_meet
      case rel => exact ⟨_, rfl, KA2.out, K0b.out, K1b.out, KRb.out, HB2.out⟩
  case rest =>
    obtain ⟨T, rfl, KT, K0, K1, KR, HB⟩ := hcut
    clear H1 H2
    obtain ⟨z0, z1, z2, z3⟩ := KT.out.c4
    go_wp2_with fail
    refine (H3.out _).mono ?_
    rintro e v3 ⟨rfl, hb⟩
    clear z0 z1 z2 z3
    replace KT := hidU (KT.out.below hb)
    replace KR := hidU (KR.out.below hb)
    replace HB := hidU (HB.out.trans (hb.mono HB.out.size))
    clear hb
    obtain ⟨f0, f1, f2, f3⟩ := KR.out.f4
    obtain ⟨y0, yy1, yy2, y3⟩ := KR.out.c4
    obtain ⟨z0, z1, z2, z3⟩ := KT.out.c4
    cases o
    · skip
      go_wp2
      obtain ⟨rfl, rfl, rfl, rfl, rfl⟩ := inj7 HE.out
      obtain ⟨q0, q1, q2, q3⟩ := (KR.out.set4 (.int .i64 0) (.int .i64 0) (.int .i64 0) (.int .i64 0)).c4
      exact bodyPost_ret (v := .tuple #[.agg #[.int .i64 0, .int .i64 0, .int .i64 0, .int .i64 0], .bool false]) (by simp [results, Try.results17, go_sem, q0, q1, q2, q3]) rfl ⟨rfl, below_set4 HB.out HRw.out _ _ _ _⟩
    go_wp2
    obtain ⟨rfl, rfl, rfl, rfl, rfl⟩ := inj7 HE.out
    obtain ⟨q0, q1, q2, q3⟩ := (KR.out.set4 (.int .i64 r1) (.int .i64 r2) (.int .i64 r3) (.int .i64 r4)).c4
    exact bodyPost_ret (v := .tuple #[.agg #[.int .i64 r1, .int .i64 r2, .int .i64 r3, .int .i64 r4], .bool true]) (by simp [results, Try.results17, go_sem, q0, q1, q2, q3]) rfl ⟨rfl, below_set4 HB.out HRw.out _ _ _ _⟩
end Go.Proofs.Ytgbdebjnlfeedaa
