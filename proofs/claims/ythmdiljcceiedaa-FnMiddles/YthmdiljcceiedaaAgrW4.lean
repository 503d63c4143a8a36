/- The walk of the model's Middle. -/
import Derived.Test.YthmdiljcceiedaaAgrW3
import Derived.Test.YthmdiljcceiedaaTimW3
import Derived.Test.YthmdiljcceiedaaPtW4
import Derived.Test.YthmdiljcceiedaaFitMath
namespace Go.Proofs.Ythmdiljcceiedaa
open Go.RowKit Go.Proofs.Ythmdiljcceiedaa.RM

/-- a quotient as the model keeps it -/
def d1V (a c : Fr) : Fr := keepF (divK a c) (divP a c)
/-- the half of a sum, and was something too great -/
def hlfV (s t : Fr) : Fr × Bool := (d1V (a1V s t) (2, 1), (false || !addK s t) || !divK (a1V s t) (2, 1))
/-- the middle of n that are sorted -/
def mdlV (l : List Fr) (n : Nat) : Fr × Bool := if n % 2 = 1 then (fr l (n / 2), false) else hlfV (fr l (n / 2 - 1)) (fr l (n / 2))
def midC (ls : List Fr) : Bool := decide (1 ≤ ls.length ∧ ls.length ≤ 12) && allOk ls
def midO (ls : List Fr) : Bool := midC ls && !(mdlV (srtR ls ls.length) ls.length).2
def midA (ls : List Fr) : Fr := if midO ls = true then (mdlV (srtR ls ls.length) ls.length).1 else (0, 0)
theorem midA_no {ls : List Fr} (h : midO ls = false) : midA ls = (0, 0) := by unfold midA; rw [h]; rfl
theorem midA_yes {ls : List Fr} (h : midO ls = true) : midA ls = (mdlV (srtR ls ls.length) ls.length).1 := by unfold midA; rw [if_pos h]
theorem midC_len {ls : List Fr} (h : ¬ (1 ≤ ls.length ∧ ls.length ≤ 12)) : midC ls = false := by unfold midC; rw [decide_eq_false h]; rfl
theorem midC_ok {ls : List Fr} (h : 1 ≤ ls.length ∧ ls.length ≤ 12) : midC ls = allOk ls := by unfold midC; rw [decide_eq_true h]; rfl
theorem mid_ret {ls : List Fr} (h : midO ls = false) : Ending.returned (.tuple #[.agg #[.int .i64 0, .int .i64 0], .bool false]) = .returned (.tuple #[.agg #[.int .i64 (midA ls).1, .int .i64 (midA ls).2], .bool (midO ls)]) := by rw [midA_no h, h]
theorem mid_yes {ls : List Fr} {a b : Int} {bd : Bool} (hc : midC ls = true) (hv : mdlV (srtR ls ls.length) ls.length = ((a, b), bd)) (hb : bd = false) : Ending.returned (.tuple #[.agg #[.int .i64 a, .int .i64 b], .bool true]) = .returned (.tuple #[.agg #[.int .i64 (midA ls).1, .int .i64 (midA ls).2], .bool (midO ls)]) := by
  have ho : midO ls = true := by unfold midO; rw [hc, hv, hb]; rfl
  rw [midA_yes ho, ho, hv]
theorem mid_too {ls : List Fr} {a : Fr} {bd : Bool} (hv : mdlV (srtR ls ls.length) ls.length = (a, bd)) (hb : bd = true) : midO ls = false := by unfold midO; rw [hv, hb]; simp
theorem kDivA (K : Nat) (bd : Bool) (x1 x2 y1 y2 : Int) (w : World) (hK : IsK w K bd) :
    Calls Try.prog 32 #[.pointer (some ⟨K, 0, none⟩), .agg #[.int .i64 x1, .int .i64 x2], .agg #[.int .i64 y1, .int .i64 y2]] w fun e w' =>
      e = .returned (.agg #[.int .i64 (d1V (x1, x2) (y1, y2)).1, .int .i64 (d1V (x1, x2) (y1, y2)).2]) ∧ IsK w' K (bd || !divK (x1, x2) (y1, y2)) ∧ w.grownBy w' (some K) := cDiv_any K bd x1 x2 y1 y2 w hK
theorem midStep (K : Nat) (s t a : Fr) (r : Fr × Bool) (ha : a = a1V s t) (hr : r = hlfV s t) :
    (∀ W : World, IsK W K false → Calls Try.prog 33 #[.pointer (some ⟨K, 0, none⟩), .agg #[.int .i64 s.1, .int .i64 s.2], .agg #[.int .i64 t.1, .int .i64 t.2]] W fun e w' => e = .returned (.agg #[.int .i64 a.1, .int .i64 a.2]) ∧ IsK w' K (false || !addK s t) ∧ W.grownBy w' (some K)) ∧
    (∀ W : World, IsK W K (false || !addK s t) → Calls Try.prog 32 #[.pointer (some ⟨K, 0, none⟩), .agg #[.int .i64 a.1, .int .i64 a.2], .agg #[.int .i64 2, .int .i64 1]] W fun e w' => e = .returned (.agg #[.int .i64 r.1.1, .int .i64 r.1.2]) ∧ IsK w' K r.2 ∧ W.grownBy w' (some K)) := by
  subst ha
  subst hr
  exact ⟨fun W hW => kAdd K _ _ _ _ _ W hW, fun W hW => kDivA K _ _ _ _ _ W hW⟩

set_option maxRecDepth 100000 in
set_option maxHeartbeats 8000000 in
theorem sMiddle_any (v : Value) (ls : List Fr) (w : World) (h : RdR w v ls) :
    Calls Try.prog 10 #[v] w fun e w' => e = .returned (.tuple #[.agg #[.int .i64 (midA ls).1, .int .i64 (midA ls).2], .bool (midO ls)]) ∧ Below w.heap.size w w' := by
  have HAL := hidP (fun W (hW : Below w.heap.size w W) => sAll_any v ls ls.length W (h.below hW))
  have HAE : Hid (allB ls ls.length = allOk ls) := by show _ = _; unfold allB; rw [decide_eq_true (Or.inr rfl), Bool.true_and]
  rw [HAE.out] at HAL
  have HSO := hidP (fun W (hW : Below w.heap.size w W) (hl : ls.length ≤ 900) => sSorted_any v ls W (h.below hW) hl)
  obtain ⟨a, c, rfl, h2, h3, h4, h5⟩ := h
  unfold maxLen at h2
  have HN := hidP (mid_ret (ls := ls))
  obtain ⟨q, hq⟩ : ∃ q, q = allOk ls := ⟨_, rfl⟩
  have HQ := hidP hq
  rw [← hq] at HAL
  clear h5 h3 h4 hq HAE
  obtain ⟨L, hL⟩ : ∃ L, L = ls.length := ⟨_, rfl⟩
  have HL := hidP hL
  rw [← hL] at h2 HAL HSO ⊢
  clear hL
  obtain ⟨Rb, hRb⟩ : ∃ R, R = w.heap.size := ⟨_, rfl⟩
  obtain ⟨X, hX⟩ : ∃ X, X = w.alloc (.cells #[.int .i64 0, .int .i64 0] 27) := ⟨_, rfl⟩
  have hZ : Hid (IsR X Rb 0 0) := by show IsR _ _ _ _; rw [hX, hRb]; exact IsR.new w 0 0
  have hB : Hid (Below w.heap.size w X) := by show Below _ _ _; rw [hX]; exact b0P _ _
  have hwR : w.heap.size ≤ Rb := by omega
  go_enter Try.func10, Try.ntmps10
  by_cases n0 : L < 1
  · have HF : Hid (midO ls = false) := by show _ = _; unfold midO; rw [midC_len (by have := HL.out; omega)]; rfl
    go_wp2
    exact bodyPost_ret (v := .tuple #[.agg #[.int .i64 0, .int .i64 0], .bool false]) (by simp [results, Try.results10, go_sem]) rfl ⟨HN.out HF.out, (Below.refl _ _).alloc (Nat.le_refl _) _⟩
  by_cases n1 : 12 < L
  · have HF : Hid (midO ls = false) := by show _ = _; unfold midO; rw [midC_len (by have := HL.out; omega)]; rfl
    go_wp2
    exact bodyPost_ret (v := .tuple #[.agg #[.int .i64 0, .int .i64 0], .bool false]) (by simp [results, Try.results10, go_sem]) rfl ⟨HN.out HF.out, (Below.refl _ _).alloc (Nat.le_refl _) _⟩
  have HMC : Hid (midC ls = q) := by show _ = _; rw [midC_ok (by have := HL.out; omega), ← HQ.out]
  go_wp2_with fail
  rw [← hX, ← hRb]
  clear hX hRb
  refine (HAL.out _ hB.out).mono ?_
  rintro e w1 ⟨rfl, hb⟩
  replace hZ := hidP (hZ.out.below hb)
  replace hB := hidP (hB.out.trans (hb.mono hB.out.size))
  clear hb HAL
  cases q
  · have HF : Hid (midO ls = false) := by show _ = _; unfold midO; rw [HMC.out]; rfl
    have z0 := hZ.out.c0
    have z1 := hZ.out.c1
    have z2 := hZ.out.f0
    have z3 := hZ.out.f1
    go_wp2
    have y0 := ((hZ.out.set0 0).set1 0).c0
    have y1 := ((hZ.out.set0 0).set1 0).c1
    exact bodyPost_ret (v := .tuple #[.agg #[.int .i64 0, .int .i64 0], .bool false]) (by simp [results, Try.results10, go_sem, y0, y1]) rfl ⟨HN.out HF.out, (hB.out.setCell (p := ⟨Rb, 0, none⟩) hwR _).setCell (p := ⟨Rb, 1, none⟩) hwR _⟩
  obtain ⟨S, hS⟩ : ∃ S, S = srtR ls L := ⟨_, rfl⟩
  have HSE : Hid (srtR ls ls.length = S) := by show _ = _; rw [← HL.out, hS]
  have HSL : Hid (S.length = L) := by show _ = _; rw [hS, srtR_len]
  rw [← hS] at HSO
  clear hS HQ
  go_wp2_with fail
  refine (HSO.out _ hB.out (by omega)).mono ?_
  rintro e w2 ⟨u, rfl, ho, hb⟩
  have hsz := hB.out.size
  have hRw := hZ.out.lt
  replace hZ := hidP (hZ.out.below hb)
  replace hB := hidP (hB.out.trans (hb.mono hB.out.size))
  obtain ⟨gs, cs, hos⟩ := own_some ho (by omega)
  subst hos
  have hO := hidP (own_le ho hsz)
  have hRg : Rb ≠ gs := by have := (ho.lt gs rfl).1; omega
  have hgw := (ho.lt gs rfl).1
  have hgl := (ho.lt gs rfl).2
  clear ho hb HSO hsz hRw
  have hLm : L / 2 < L := by omega
  by_cases hodd : L % 2 = 1
  · have hbo : ((L : Int) % 2 == 1) = true := by simp; omega
    have HV : Hid (mdlV (srtR ls ls.length) ls.length = (fr S (L / 2), false)) := by show _ = _; rw [HSE.out, ← HL.out]; unfold mdlV; rw [if_pos hodd]
    obtain ⟨s1, s2⟩ := own_R hO.out HSL.out (L / 2) hLm
    obtain ⟨y, hy⟩ : ∃ y, y = fr S (L / 2) := ⟨_, rfl⟩
    rw [show S[L / 2]?.getD (0, 0) = y from hy.symm] at s1 s2
    rw [← hy] at HV
    clear hy hodd
    obtain ⟨y1, y2⟩ := y
    dsimp only at s1 s2
    have z0 := hZ.out.c0
    have z1 := hZ.out.c1
    have z2 := hZ.out.f0
    have z3 := hZ.out.f1
    have y0' := ((hZ.out.set0 y1).set1 y2).c0
    have y1' := ((hZ.out.set0 y1).set1 y2).c1
    go_wp2
    exact bodyPost_ret (v := .tuple #[.agg #[.int .i64 y1, .int .i64 y2], .bool true]) (by simp [results, Try.results10, go_sem, y0', y1']) rfl ⟨mid_yes HMC.out HV.out rfl, (hB.out.setCell (p := ⟨Rb, 0, none⟩) hwR _).setCell (p := ⟨Rb, 1, none⟩) hwR _⟩
  have hbo : ((L : Int) % 2 == 1) = false := by simp; omega
  go_upto_region 8 with fail
  have HV : Hid (mdlV (srtR ls ls.length) ls.length = hlfV (fr S (L / 2 - 1)) (fr S (L / 2))) := by show _ = _; rw [HSE.out, ← HL.out]; unfold mdlV; rw [if_neg hodd]
  obtain ⟨m, hm⟩ : ∃ m, m = L / 2 := ⟨_, rfl⟩
  obtain ⟨m1, hm1⟩ : ∃ m1, m1 = L / 2 - 1 := ⟨_, rfl⟩
  have hmL : m < L := by omega
  have hm1L : m1 < L := by omega
  have hw1 : IntKind.i64.wrap ((L : Int) / 2) = (m : Int) := by rw [IntKind.wrap_i64]; omega
  have hw2 : IntKind.i64.wrap ((m : Int) - 1) = (m1 : Int) := by rw [IntKind.wrap_i64]; omega
  rw [← hm1, ← hm] at HV
  clear hm hm1 hLm
  obtain ⟨s1, s2⟩ := own_R hO.out HSL.out m1 hm1L
  obtain ⟨t1, t2⟩ := own_R hO.out HSL.out m hmL
  obtain ⟨x, hx⟩ : ∃ y, y = fr S m1 := ⟨_, rfl⟩
  obtain ⟨y, hy⟩ : ∃ y, y = fr S m := ⟨_, rfl⟩
  rw [show S[m1]?.getD (0, 0) = x from hx.symm] at s1 s2
  rw [show S[m]?.getD (0, 0) = y from hy.symm] at t1 t2
  rw [← hx, ← hy] at HV
  obtain ⟨aa, haa⟩ : ∃ z, z = a1V x y := ⟨_, rfl⟩
  obtain ⟨rr, hrr⟩ : ∃ z, z = hlfV x y := ⟨_, rfl⟩
  clear hx hy hodd hO HSL HSE
  obtain ⟨K, hK⟩ : ∃ K, K = w2.heap.size := ⟨_, rfl⟩
  obtain ⟨HAD, HDV⟩ := midStep K x y aa rr haa hrr
  rw [← hrr] at HV
  obtain ⟨bd1, hbd1⟩ : ∃ z, z = (false || !addK x y) := ⟨_, rfl⟩
  rw [← hbd1] at HAD HDV
  replace HAD := hidP HAD
  replace HDV := hidP HDV
  clear haa hrr hbd1
  obtain ⟨x1, x2⟩ := x
  obtain ⟨y1, y2⟩ := y
  obtain ⟨a1, a2⟩ := aa
  obtain ⟨⟨r1, r2⟩, ro⟩ := rr
  dsimp only at s1 s2 t1 t2 HAD HDV
  have hb := b0P w2 (.cells #[.bool false] 50)
  obtain ⟨wr, hwr⟩ : ∃ X, X = w2.alloc (.cells #[.bool false] 50) := ⟨_, rfl⟩
  have kk : Hid (IsK wr K false) := by show IsK _ _ _; rw [hwr, hK]; exact IsK.new w2 false
  rw [← hwr] at hb
  have c1 := cell_keep hb s1
  have c2 := cell_keep hb s2
  have c3 := cell_keep hb t1
  have c4 := cell_keep hb t2
  have hRK : Rb ≠ K := by have := hZ.out.lt; omega
  have hgK : gs ≠ K := by omega
  have hgK2 : gs < K := by omega
  have hwK : w.heap.size ≤ K := by have := hB.out.size; omega
  replace hZ := hidP (hZ.out.below hb)
  replace hB := hidP (hB.out.trans (hb.mono hB.out.size))
  clear hb s1 s2 t1 t2
  rw [← hwr, ← hK]
  clear hwr hK
  refine wp_region_noPanic ?_
  refine wp_region_held_drew (S := (fun w' => w'.cell? ⟨gs, m1 * 2, none⟩ = some (.int .i64 x1) ∧ w'.cell? ⟨gs, m1 * 2 + 1, none⟩ = some (.int .i64 x2) ∧ w'.cell? ⟨gs, m * 2, none⟩ = some (.int .i64 y1) ∧ w'.cell? ⟨gs, m * 2 + 1, none⟩ = some (.int .i64 y2))) (by kernel_rfl) ?_ (fun hHeld => ?_)
  · (try dsimp only)
    refine ⟨?_, ?_, ?_, ?_⟩ <;> (repeat (with_reducible (first | exact c1 | exact c2 | exact c3 | exact c4 | refine cell_dr ?_ | refine cell_stb ?_ ?_ | refine cell_al _ ?_ | (show _ ≠ _; omega))))
  have hbd := (Below.refl wr.heap.size wr).drew
  replace hZ := hidP (hZ.out.below hbd)
  replace kk := hidP (kk.out.below hbd)
  replace hB := hidP (hB.out.trans (hbd.mono hB.out.size))
  clear hbd
  replace c1 := cell_dr c1
  replace c2 := cell_dr c2
  replace c3 := cell_dr c3
  replace c4 := cell_dr c4
  obtain ⟨wd, hwd⟩ : ∃ u, u = wr.drew := ⟨_, rfl⟩
  rw [← hwd] at hZ kk hB c1 c2 c3 c4 hHeld ⊢
  clear hwd
  refine wpAnyH_take (i := 0) (v := ?_) rfl (by kernel_rfl) (by kernel_rfl) (by kernel_rfl) (fun _ _ _ h => h) (Or.inl ⟨by kernel_rfl, ?_⟩) hHeld ?_
  rotate_left
  · intro wz hSw; (try dsimp only at hSw); go_simp; all_goals (try with_reducible rfl)
  (try simp only [List.getElem_toArray]); (try simp only [List.getElem_cons_succ]); (try simp only [List.getElem_cons_zero]); (try simp only [Act.put]); (try simp only [List.setIfInBounds_toArray]); (try simp only [List.set_cons_succ]); (try simp only [List.set_cons_zero])
  refine wpAnyH_take (i := 1) (v := ?_) rfl (by kernel_rfl) (by kernel_rfl) (by kernel_rfl) (fun _ _ _ h => h) (Or.inl ⟨by kernel_rfl, ?_⟩) hHeld ?_
  rotate_left
  · intro wz hSw; (try dsimp only at hSw); go_simp; all_goals (try with_reducible rfl)
  (try simp only [List.getElem_toArray]); (try simp only [List.getElem_cons_succ]); (try simp only [List.getElem_cons_zero]); (try simp only [Act.put]); (try simp only [List.setIfInBounds_toArray]); (try simp only [List.set_cons_succ]); (try simp only [List.set_cons_zero])
  refine wpAnyH_take (i := 2) (v := ?_) rfl (by kernel_rfl) (by kernel_rfl) (by kernel_rfl) (fun _ _ _ h => h) (Or.inl ⟨by kernel_rfl, ?_⟩) hHeld ?_
  rotate_left
  · intro wz hSw; (try dsimp only at hSw); go_simp; all_goals (try with_reducible rfl)
  (try simp only [List.getElem_toArray]); (try simp only [List.getElem_cons_succ]); (try simp only [List.getElem_cons_zero]); (try simp only [Act.put]); (try simp only [List.setIfInBounds_toArray]); (try simp only [List.set_cons_succ]); (try simp only [List.set_cons_zero])
  refine wpAnyH_take (i := 3) (v := ?_) rfl (by kernel_rfl) (by kernel_rfl) (by kernel_rfl) (fun _ _ _ h => h) (Or.inl ⟨by kernel_rfl, ?_⟩) hHeld ?_
  rotate_left
  · intro wz hSw; (try dsimp only at hSw); go_simp; all_goals (try with_reducible rfl)
  (try simp only [List.getElem_toArray]); (try simp only [List.getElem_cons_succ]); (try simp only [List.getElem_cons_zero]); (try simp only [Act.put]); (try simp only [List.setIfInBounds_toArray]); (try simp only [List.set_cons_succ]); (try simp only [List.set_cons_zero])
  refine wpAnyH_take (i := 4) (v := ?_) rfl (by kernel_rfl) (by kernel_rfl) (by kernel_rfl) (fun _ _ _ h => h) (Or.inl ⟨by kernel_rfl, ?_⟩) hHeld ?_
  rotate_left
  · intro wz hSw; (try dsimp only at hSw); go_simp; all_goals (try with_reducible rfl)
  (try simp only [List.getElem_toArray]); (try simp only [List.getElem_cons_succ]); (try simp only [List.getElem_cons_zero]); (try simp only [Act.put]); (try simp only [List.setIfInBounds_toArray]); (try simp only [List.set_cons_succ]); (try simp only [List.set_cons_zero])
  refine wpAnyH_take (i := 5) (v := ?_) rfl (by kernel_rfl) (by kernel_rfl) (by kernel_rfl) (fun _ _ _ h => h) (Or.inl ⟨by kernel_rfl, ?_⟩) hHeld ?_
  rotate_left
  · intro wz hSw; (try dsimp only at hSw); go_simp; all_goals (try with_reducible rfl)
  (try simp only [List.getElem_toArray]); (try simp only [List.getElem_cons_succ]); (try simp only [List.getElem_cons_zero]); (try simp only [Act.put]); (try simp only [List.setIfInBounds_toArray]); (try simp only [List.set_cons_succ]); (try simp only [List.set_cons_zero])
  refine wpAnyH_take (i := 6) (v := ?_) rfl (by kernel_rfl) (by kernel_rfl) (by kernel_rfl) (fun _ _ _ h => h) (Or.inl ⟨by kernel_rfl, ?_⟩) hHeld ?_
  rotate_left
  · intro wz hSw; (try dsimp only at hSw); go_simp; all_goals (try with_reducible rfl)
  (try simp only [List.getElem_toArray]); (try simp only [List.getElem_cons_succ]); (try simp only [List.getElem_cons_zero]); (try simp only [Act.put]); (try simp only [List.setIfInBounds_toArray]); (try simp only [List.set_cons_succ]); (try simp only [List.set_cons_zero])
  refine wpAnyH_take (i := 7) (v := ?_) rfl (by kernel_rfl) (by kernel_rfl) (by kernel_rfl) (fun _ _ _ h => h) (Or.inl ⟨by kernel_rfl, ?_⟩) hHeld ?_
  rotate_left
  · intro wz hSw; (try dsimp only at hSw); go_simp; all_goals (try with_reducible rfl)
  (try simp only [List.getElem_toArray]); (try simp only [List.getElem_cons_succ]); (try simp only [List.getElem_cons_zero]); (try simp only [Act.put]); (try simp only [List.setIfInBounds_toArray]); (try simp only [List.set_cons_succ]); (try simp only [List.set_cons_zero])
  refine wpAnyH_take (i := 8) (v := ?_) rfl (by kernel_rfl) (by kernel_rfl) (by kernel_rfl) (fun _ _ _ h => h) (Or.inl ⟨by kernel_rfl, ?_⟩) hHeld ?_
  rotate_left
  · intro wz hSw; (try dsimp only at hSw); go_simp; all_goals (try with_reducible rfl)
  (try simp only [List.getElem_toArray]); (try simp only [List.getElem_cons_succ]); (try simp only [List.getElem_cons_zero]); (try simp only [Act.put]); (try simp only [List.setIfInBounds_toArray]); (try simp only [List.set_cons_succ]); (try simp only [List.set_cons_zero])
  refine wpAnyH_take (i := 9) (v := ?_) rfl (by kernel_rfl) (by kernel_rfl) (by kernel_rfl) (fun _ _ _ h => h) (Or.inl ⟨by kernel_rfl, ?_⟩) hHeld ?_
  rotate_left
  · intro wz hSw; (try dsimp only at hSw); go_simp; all_goals (try with_reducible rfl)
  (try simp only [List.getElem_toArray]); (try simp only [List.getElem_cons_succ]); (try simp only [List.getElem_cons_zero]); (try simp only [Act.put]); (try simp only [List.setIfInBounds_toArray]); (try simp only [List.set_cons_succ]); (try simp only [List.set_cons_zero])
  refine wpAnyH_take (i := 10) (v := ?_) rfl (by kernel_rfl) (by kernel_rfl) (by kernel_rfl) (fun _ _ _ h => h) (Or.inl ⟨by kernel_rfl, ?_⟩) hHeld ?_
  rotate_left
  · intro wz hSw; (try dsimp only at hSw); go_simp; all_goals (try with_reducible rfl)
  (try simp only [List.getElem_toArray]); (try simp only [List.getElem_cons_succ]); (try simp only [List.getElem_cons_zero]); (try simp only [Act.put]); (try simp only [List.setIfInBounds_toArray]); (try simp only [List.set_cons_succ]); (try simp only [List.set_cons_zero])
  refine wpAnyH_take (i := 11) (v := ?_) rfl (by kernel_rfl) (by kernel_rfl) (by kernel_rfl) (fun _ _ _ h => h) (Or.inl ⟨by kernel_rfl, ?_⟩) hHeld ?_
  rotate_left
  · intro wz hSw; (try dsimp only at hSw); go_simp; all_goals (try with_reducible rfl)
  (try simp only [List.getElem_toArray]); (try simp only [List.getElem_cons_succ]); (try simp only [List.getElem_cons_zero]); (try simp only [Act.put]); (try simp only [List.setIfInBounds_toArray]); (try simp only [List.set_cons_succ]); (try simp only [List.set_cons_zero])
  refine wpAnyH_take (i := 12) (v := ?_) rfl (by kernel_rfl) (by kernel_rfl) (by kernel_rfl) (fun _ _ _ h => h) (Or.inl ⟨by kernel_rfl, ?_⟩) hHeld ?_
  rotate_left
  · intro wz hSw; (try dsimp only at hSw); go_simp; all_goals (try with_reducible rfl)
  (try simp only [List.getElem_toArray]); (try simp only [List.getElem_cons_succ]); (try simp only [List.getElem_cons_zero]); (try simp only [Act.put]); (try simp only [List.setIfInBounds_toArray]); (try simp only [List.set_cons_succ]); (try simp only [List.set_cons_zero])
  refine wpAnyH_take (i := 14) (v := ?_) rfl (by kernel_rfl) (by kernel_rfl) (by kernel_rfl) (fun _ _ _ h => h) (Or.inl ⟨by kernel_rfl, ?_⟩) hHeld ?_
  rotate_left
  · intro wz hSw; (try dsimp only at hSw); go_simp; all_goals (try with_reducible rfl)
  (try simp only [List.getElem_toArray]); (try simp only [List.getElem_cons_succ]); (try simp only [List.getElem_cons_zero]); (try simp only [Act.put]); (try simp only [List.setIfInBounds_toArray]); (try simp only [List.set_cons_succ]); (try simp only [List.set_cons_zero])
  refine wpAnyH_ready (rs := [13, 16]) (by kernel_rfl) (by simp) (AllReadyH.cons rfl (fun Kc hKc => ?_) (AllReadyH.cons rfl (fun Kc hKc => ?_) AllReadyH.nil))
  ·
    go_simp
    (go_at_call 33; refine (HAD.out _ kk.out).mono ?_; rintro e u1 ⟨rfl, kk', g2⟩)
    have c1 := cell_g g2 c1 hgK
    have c2 := cell_g g2 c2 hgK
    have c3 := cell_g g2 c3 hgK
    have c4 := cell_g g2 c4 hgK
    have hZ := hidP (IsR.grown (by exact hZ.out) g2 hRK)
    have hB := hidP (hB.out.trans (below_grownK g2 hwK hB.out.size))
    have kk := hidP kk'
    clear g2 kk'
    go_wp2_with fail
    refine hKc.out _ _ ?_ (fun hHeld => ?_)
    · (try dsimp only)
      refine ⟨?_, ?_, ?_, ?_⟩ <;> (repeat (with_reducible (first | exact c1 | exact c2 | exact c3 | exact c4 | refine cell_dr ?_ | refine cell_stb ?_ ?_ | refine cell_al _ ?_ | (show _ ≠ _; omega))))
    clear hKc Kc
    (try simp only [List.getElem_toArray]); (try simp only [List.getElem_cons_succ]); (try simp only [List.getElem_cons_zero]); (try simp only [Act.put]); (try simp only [List.setIfInBounds_toArray]); (try simp only [List.set_cons_succ]); (try simp only [List.set_cons_zero])
    refine wpAnyH_ready (rs := [15, 16]) (by kernel_rfl) (by simp) (AllReadyH.cons rfl (fun Kc hKc => ?_) (AllReadyH.cons rfl (fun Kc hKc => ?_) AllReadyH.nil))
    ·
      go_simp
      (go_at_call 32; refine (HDV.out _ kk.out).mono ?_; rintro e u2 ⟨rfl, kk', g2⟩)
      have c1 := cell_g g2 c1 hgK
      have c2 := cell_g g2 c2 hgK
      have c3 := cell_g g2 c3 hgK
      have c4 := cell_g g2 c4 hgK
      have hZ := hidP (IsR.grown (by exact hZ.out) g2 hRK)
      have hB := hidP (hB.out.trans (below_grownK g2 hwK hB.out.size))
      have kk := hidP kk'
      clear g2 kk'
      go_wp2_with fail
      refine hKc.out _ _ ?_ (fun hHeld => ?_)
      · (try dsimp only)
        refine ⟨?_, ?_, ?_, ?_⟩ <;> (repeat (with_reducible (first | exact c1 | exact c2 | exact c3 | exact c4 | refine cell_dr ?_ | refine cell_stb ?_ ?_ | refine cell_al _ ?_ | (show _ ≠ _; omega))))
      clear hKc Kc
      (try simp only [List.getElem_toArray]); (try simp only [List.getElem_cons_succ]); (try simp only [List.getElem_cons_zero]); (try simp only [Act.put]); (try simp only [List.setIfInBounds_toArray]); (try simp only [List.set_cons_succ]); (try simp only [List.set_cons_zero])
      refine wpAnyH_ready (rs := [16]) (by kernel_rfl) (by simp) (AllReadyH.cons rfl (fun Kc hKc => ?_) AllReadyH.nil)
      go_simp
      obtain ⟨A, hA'⟩ : ∃ A, A = u2.heap.size := ⟨_, rfl⟩
      obtain ⟨u3, hu⟩ : ∃ u, u = u2.alloc (.cells #[.int .i64 0, .int .i64 0] 27) := ⟨_, rfl⟩
      have hb : Below u2.heap.size u2 u3 := by rw [hu]; exact b0P _ _
      have hA : Hid (IsR u3 A 0 0) := by show IsR _ _ _ _; rw [hu, hA']; exact IsR.new _ _ _
      have hAw : w.heap.size ≤ A := by rw [hA']; exact hB.out.size
      have hAK : A ≠ K := by have := kk.out.lt; omega
      have hKltA : K < A := by have := kk.out.lt; omega
      have hAhZ := hZ.out.lt
      rw [← hA'] at hAhZ
      rw [← hu, ← hA']
      have hZ := hidP (hZ.out.below hb)
      have c1 := cell_keep hb c1
      have c2 := cell_keep hb c2
      have c3 := cell_keep hb c3
      have c4 := cell_keep hb c4
      have kk := hidP (kk.out.below hb)
      have hB := hidP (hB.out.trans (hb.mono hB.out.size))
      clear hb hu hA'
      refine hKc.out _ _ ?_ (fun hHeld => ?_)
      · (try dsimp only)
        refine ⟨?_, ?_, ?_, ?_⟩ <;> (repeat (with_reducible (first | exact c1 | exact c2 | exact c3 | exact c4 | refine cell_dr ?_ | refine cell_stb ?_ ?_ | refine cell_al _ ?_ | (show _ ≠ _; omega))))
      clear hKc Kc
      (try simp only [List.getElem_toArray]); (try simp only [List.getElem_cons_succ]); (try simp only [List.getElem_cons_zero]); (try simp only [Act.put]); (try simp only [List.setIfInBounds_toArray]); (try simp only [List.set_cons_succ]); (try simp only [List.set_cons_zero])
      have f0 := hA.out.f0
      have f1 := hA.out.f1
      have g0 := hA.out.c0
      have g1 := hA.out.c1
      refine wpAnyH_ready (rs := [17]) (by kernel_rfl) (by simp) (AllReadyH.cons rfl (fun Kc hKc => ?_) AllReadyH.nil)
      go_simp
      refine hKc.out _ _ ?_ (fun hHeld => ?_)
      · (try dsimp only)
        refine ⟨?_, ?_, ?_, ?_⟩ <;> (repeat (with_reducible (first | exact c1 | exact c2 | exact c3 | exact c4 | refine cell_dr ?_ | refine cell_stb ?_ ?_ | refine cell_al _ ?_ | (show _ ≠ _; omega))))
      clear hKc Kc
      (try simp only [List.getElem_toArray]); (try simp only [List.getElem_cons_succ]); (try simp only [List.getElem_cons_zero]); (try simp only [Act.put]); (try simp only [List.setIfInBounds_toArray]); (try simp only [List.set_cons_succ]); (try simp only [List.set_cons_zero])
      refine wpAnyH_done (by kernel_rfl) ?_ _
      refine NoPanic.normal ?_
      clear hHeld
      have kc := ((kk.out.other hAK.symm 0 (.int .i64 r1)).other hAK.symm 1 (.int .i64 r2)).cell
      have K9 := hidP ((kk.out.other hAK.symm 0 (.int .i64 r1)).other hAK.symm 1 (.int .i64 r2))
      have hRA : Rb ≠ A := by omega
      have Z9 := hidP ((hZ.out.other hRA 0 (.int .i64 r1)).other hRA 1 (.int .i64 r2))
      have A9 := hidP ((hA.out.set0 r1).set1 r2)
      have B9 := hidP ((hB.out.setCell (p := ⟨A, 0, none⟩) hAw (.int .i64 r1)).setCell (p := ⟨A, 1, none⟩) hAw (.int .i64 r2))
      have z0 := Z9.out.c0
      have z1 := Z9.out.c1
      have z2 := Z9.out.f0
      have z3 := Z9.out.f1
      have q0 := A9.out.c0
      have q1 := A9.out.c1
      cases ro
      · have v0 := ((Z9.out.set0 r1).set1 r2).c0
        have v1 := ((Z9.out.set0 r1).set1 r2).c1
        go_wp2
        exact bodyPost_ret (v := .tuple #[.agg #[.int .i64 r1, .int .i64 r2], .bool true]) (by simp [results, Try.results10, go_sem, v0, v1]) rfl ⟨mid_yes HMC.out HV.out rfl, (B9.out.setCell (p := ⟨Rb, 0, none⟩) hwR _).setCell (p := ⟨Rb, 1, none⟩) hwR _⟩
      · have v0 := ((Z9.out.set0 0).set1 0).c0
        have v1 := ((Z9.out.set0 0).set1 0).c1
        go_wp2
        exact bodyPost_ret (v := .tuple #[.agg #[.int .i64 0, .int .i64 0], .bool false]) (by simp [results, Try.results10, go_sem, v0, v1]) rfl ⟨HN.out (mid_too HV.out rfl), (B9.out.setCell (p := ⟨Rb, 0, none⟩) hwR _).setCell (p := ⟨Rb, 1, none⟩) hwR _⟩
    ·
      go_simp
      obtain ⟨A, hA'⟩ : ∃ A, A = u1.heap.size := ⟨_, rfl⟩
      obtain ⟨u4, hu⟩ : ∃ u, u = u1.alloc (.cells #[.int .i64 0, .int .i64 0] 27) := ⟨_, rfl⟩
      have hb : Below u1.heap.size u1 u4 := by rw [hu]; exact b0P _ _
      have hA : Hid (IsR u4 A 0 0) := by show IsR _ _ _ _; rw [hu, hA']; exact IsR.new _ _ _
      have hAw : w.heap.size ≤ A := by rw [hA']; exact hB.out.size
      have hAK : A ≠ K := by have := kk.out.lt; omega
      have hKltA : K < A := by have := kk.out.lt; omega
      have hAhZ := hZ.out.lt
      rw [← hA'] at hAhZ
      rw [← hu, ← hA']
      have hZ := hidP (hZ.out.below hb)
      have c1 := cell_keep hb c1
      have c2 := cell_keep hb c2
      have c3 := cell_keep hb c3
      have c4 := cell_keep hb c4
      have kk := hidP (kk.out.below hb)
      have hB := hidP (hB.out.trans (hb.mono hB.out.size))
      clear hb hu hA'
      refine hKc.out _ _ ?_ (fun hHeld => ?_)
      · (try dsimp only)
        refine ⟨?_, ?_, ?_, ?_⟩ <;> (repeat (with_reducible (first | exact c1 | exact c2 | exact c3 | exact c4 | refine cell_dr ?_ | refine cell_stb ?_ ?_ | refine cell_al _ ?_ | (show _ ≠ _; omega))))
      clear hKc Kc
      (try simp only [List.getElem_toArray]); (try simp only [List.getElem_cons_succ]); (try simp only [List.getElem_cons_zero]); (try simp only [Act.put]); (try simp only [List.setIfInBounds_toArray]); (try simp only [List.set_cons_succ]); (try simp only [List.set_cons_zero])
      refine wpAnyH_ready (rs := [15]) (by kernel_rfl) (by simp) (AllReadyH.cons rfl (fun Kc hKc => ?_) AllReadyH.nil)
      go_simp
      (go_at_call 32; refine (HDV.out _ kk.out).mono ?_; rintro e u5 ⟨rfl, kk', g2⟩)
      have c1 := cell_g g2 c1 hgK
      have c2 := cell_g g2 c2 hgK
      have c3 := cell_g g2 c3 hgK
      have c4 := cell_g g2 c4 hgK
      have hZ := hidP (IsR.grown (by exact hZ.out) g2 hRK)
      have hA := hidP (IsR.grown (by exact hA.out) g2 hAK)
      have hB := hidP (hB.out.trans (below_grownK g2 hwK hB.out.size))
      have kk := hidP kk'
      clear g2 kk'
      go_wp2_with fail
      refine hKc.out _ _ ?_ (fun hHeld => ?_)
      · (try dsimp only)
        refine ⟨?_, ?_, ?_, ?_⟩ <;> (repeat (with_reducible (first | exact c1 | exact c2 | exact c3 | exact c4 | refine cell_dr ?_ | refine cell_stb ?_ ?_ | refine cell_al _ ?_ | (show _ ≠ _; omega))))
      clear hKc Kc
      (try simp only [List.getElem_toArray]); (try simp only [List.getElem_cons_succ]); (try simp only [List.getElem_cons_zero]); (try simp only [Act.put]); (try simp only [List.setIfInBounds_toArray]); (try simp only [List.set_cons_succ]); (try simp only [List.set_cons_zero])
      have f0 := hA.out.f0
      have f1 := hA.out.f1
      have g0 := hA.out.c0
      have g1 := hA.out.c1
      refine wpAnyH_ready (rs := [17]) (by kernel_rfl) (by simp) (AllReadyH.cons rfl (fun Kc hKc => ?_) AllReadyH.nil)
      go_simp
      refine hKc.out _ _ ?_ (fun hHeld => ?_)
      · (try dsimp only)
        refine ⟨?_, ?_, ?_, ?_⟩ <;> (repeat (with_reducible (first | exact c1 | exact c2 | exact c3 | exact c4 | refine cell_dr ?_ | refine cell_stb ?_ ?_ | refine cell_al _ ?_ | (show _ ≠ _; omega))))
      clear hKc Kc
      (try simp only [List.getElem_toArray]); (try simp only [List.getElem_cons_succ]); (try simp only [List.getElem_cons_zero]); (try simp only [Act.put]); (try simp only [List.setIfInBounds_toArray]); (try simp only [List.set_cons_succ]); (try simp only [List.set_cons_zero])
      refine wpAnyH_done (by kernel_rfl) ?_ _
      refine NoPanic.normal ?_
      clear hHeld
      have kc := ((kk.out.other hAK.symm 0 (.int .i64 r1)).other hAK.symm 1 (.int .i64 r2)).cell
      have K9 := hidP ((kk.out.other hAK.symm 0 (.int .i64 r1)).other hAK.symm 1 (.int .i64 r2))
      have hRA : Rb ≠ A := by omega
      have Z9 := hidP ((hZ.out.other hRA 0 (.int .i64 r1)).other hRA 1 (.int .i64 r2))
      have A9 := hidP ((hA.out.set0 r1).set1 r2)
      have B9 := hidP ((hB.out.setCell (p := ⟨A, 0, none⟩) hAw (.int .i64 r1)).setCell (p := ⟨A, 1, none⟩) hAw (.int .i64 r2))
      have z0 := Z9.out.c0
      have z1 := Z9.out.c1
      have z2 := Z9.out.f0
      have z3 := Z9.out.f1
      have q0 := A9.out.c0
      have q1 := A9.out.c1
      cases ro
      · have v0 := ((Z9.out.set0 r1).set1 r2).c0
        have v1 := ((Z9.out.set0 r1).set1 r2).c1
        go_wp2
        exact bodyPost_ret (v := .tuple #[.agg #[.int .i64 r1, .int .i64 r2], .bool true]) (by simp [results, Try.results10, go_sem, v0, v1]) rfl ⟨mid_yes HMC.out HV.out rfl, (B9.out.setCell (p := ⟨Rb, 0, none⟩) hwR _).setCell (p := ⟨Rb, 1, none⟩) hwR _⟩
      · have v0 := ((Z9.out.set0 0).set1 0).c0
        have v1 := ((Z9.out.set0 0).set1 0).c1
        go_wp2
        exact bodyPost_ret (v := .tuple #[.agg #[.int .i64 0, .int .i64 0], .bool false]) (by simp [results, Try.results10, go_sem, v0, v1]) rfl ⟨HN.out (mid_too HV.out rfl), (B9.out.setCell (p := ⟨Rb, 0, none⟩) hwR _).setCell (p := ⟨Rb, 1, none⟩) hwR _⟩
  ·
    go_simp
    obtain ⟨A, hA'⟩ : ∃ A, A = wd.heap.size := ⟨_, rfl⟩
    obtain ⟨u6, hu⟩ : ∃ u, u = wd.alloc (.cells #[.int .i64 0, .int .i64 0] 27) := ⟨_, rfl⟩
    have hb : Below wd.heap.size wd u6 := by rw [hu]; exact b0P _ _
    have hA : Hid (IsR u6 A 0 0) := by show IsR _ _ _ _; rw [hu, hA']; exact IsR.new _ _ _
    have hAw : w.heap.size ≤ A := by rw [hA']; exact hB.out.size
    have hAK : A ≠ K := by have := kk.out.lt; omega
    have hKltA : K < A := by have := kk.out.lt; omega
    have hAhZ := hZ.out.lt
    rw [← hA'] at hAhZ
    rw [← hu, ← hA']
    have hZ := hidP (hZ.out.below hb)
    have c1 := cell_keep hb c1
    have c2 := cell_keep hb c2
    have c3 := cell_keep hb c3
    have c4 := cell_keep hb c4
    have kk := hidP (kk.out.below hb)
    have hB := hidP (hB.out.trans (hb.mono hB.out.size))
    clear hb hu hA'
    refine hKc.out _ _ ?_ (fun hHeld => ?_)
    · (try dsimp only)
      refine ⟨?_, ?_, ?_, ?_⟩ <;> (repeat (with_reducible (first | exact c1 | exact c2 | exact c3 | exact c4 | refine cell_dr ?_ | refine cell_stb ?_ ?_ | refine cell_al _ ?_ | (show _ ≠ _; omega))))
    clear hKc Kc
    (try simp only [List.getElem_toArray]); (try simp only [List.getElem_cons_succ]); (try simp only [List.getElem_cons_zero]); (try simp only [Act.put]); (try simp only [List.setIfInBounds_toArray]); (try simp only [List.set_cons_succ]); (try simp only [List.set_cons_zero])
    refine wpAnyH_ready (rs := [13]) (by kernel_rfl) (by simp) (AllReadyH.cons rfl (fun Kc hKc => ?_) AllReadyH.nil)
    go_simp
    (go_at_call 33; refine (HAD.out _ kk.out).mono ?_; rintro e u7 ⟨rfl, kk', g2⟩)
    have c1 := cell_g g2 c1 hgK
    have c2 := cell_g g2 c2 hgK
    have c3 := cell_g g2 c3 hgK
    have c4 := cell_g g2 c4 hgK
    have hZ := hidP (IsR.grown (by exact hZ.out) g2 hRK)
    have hA := hidP (IsR.grown (by exact hA.out) g2 hAK)
    have hB := hidP (hB.out.trans (below_grownK g2 hwK hB.out.size))
    have kk := hidP kk'
    clear g2 kk'
    go_wp2_with fail
    refine hKc.out _ _ ?_ (fun hHeld => ?_)
    · (try dsimp only)
      refine ⟨?_, ?_, ?_, ?_⟩ <;> (repeat (with_reducible (first | exact c1 | exact c2 | exact c3 | exact c4 | refine cell_dr ?_ | refine cell_stb ?_ ?_ | refine cell_al _ ?_ | (show _ ≠ _; omega))))
    clear hKc Kc
    (try simp only [List.getElem_toArray]); (try simp only [List.getElem_cons_succ]); (try simp only [List.getElem_cons_zero]); (try simp only [Act.put]); (try simp only [List.setIfInBounds_toArray]); (try simp only [List.set_cons_succ]); (try simp only [List.set_cons_zero])
    refine wpAnyH_ready (rs := [15]) (by kernel_rfl) (by simp) (AllReadyH.cons rfl (fun Kc hKc => ?_) AllReadyH.nil)
    go_simp
    (go_at_call 32; refine (HDV.out _ kk.out).mono ?_; rintro e u8 ⟨rfl, kk', g2⟩)
    have c1 := cell_g g2 c1 hgK
    have c2 := cell_g g2 c2 hgK
    have c3 := cell_g g2 c3 hgK
    have c4 := cell_g g2 c4 hgK
    have hZ := hidP (IsR.grown (by exact hZ.out) g2 hRK)
    have hA := hidP (IsR.grown (by exact hA.out) g2 hAK)
    have hB := hidP (hB.out.trans (below_grownK g2 hwK hB.out.size))
    have kk := hidP kk'
    clear g2 kk'
    go_wp2_with fail
    refine hKc.out _ _ ?_ (fun hHeld => ?_)
    · (try dsimp only)
      refine ⟨?_, ?_, ?_, ?_⟩ <;> (repeat (with_reducible (first | exact c1 | exact c2 | exact c3 | exact c4 | refine cell_dr ?_ | refine cell_stb ?_ ?_ | refine cell_al _ ?_ | (show _ ≠ _; omega))))
    clear hKc Kc
    (try simp only [List.getElem_toArray]); (try simp only [List.getElem_cons_succ]); (try simp only [List.getElem_cons_zero]); (try simp only [Act.put]); (try simp only [List.setIfInBounds_toArray]); (try simp only [List.set_cons_succ]); (try simp only [List.set_cons_zero])
    have f0 := hA.out.f0
    have f1 := hA.out.f1
    have g0 := hA.out.c0
    have g1 := hA.out.c1
    refine wpAnyH_ready (rs := [17]) (by kernel_rfl) (by simp) (AllReadyH.cons rfl (fun Kc hKc => ?_) AllReadyH.nil)
    go_simp
    refine hKc.out _ _ ?_ (fun hHeld => ?_)
    · (try dsimp only)
      refine ⟨?_, ?_, ?_, ?_⟩ <;> (repeat (with_reducible (first | exact c1 | exact c2 | exact c3 | exact c4 | refine cell_dr ?_ | refine cell_stb ?_ ?_ | refine cell_al _ ?_ | (show _ ≠ _; omega))))
    clear hKc Kc
    (try simp only [List.getElem_toArray]); (try simp only [List.getElem_cons_succ]); (try simp only [List.getElem_cons_zero]); (try simp only [Act.put]); (try simp only [List.setIfInBounds_toArray]); (try simp only [List.set_cons_succ]); (try simp only [List.set_cons_zero])
    refine wpAnyH_done (by kernel_rfl) ?_ _
    refine NoPanic.normal ?_
    clear hHeld
    have kc := ((kk.out.other hAK.symm 0 (.int .i64 r1)).other hAK.symm 1 (.int .i64 r2)).cell
    have K9 := hidP ((kk.out.other hAK.symm 0 (.int .i64 r1)).other hAK.symm 1 (.int .i64 r2))
    have hRA : Rb ≠ A := by omega
    have Z9 := hidP ((hZ.out.other hRA 0 (.int .i64 r1)).other hRA 1 (.int .i64 r2))
    have A9 := hidP ((hA.out.set0 r1).set1 r2)
    have B9 := hidP ((hB.out.setCell (p := ⟨A, 0, none⟩) hAw (.int .i64 r1)).setCell (p := ⟨A, 1, none⟩) hAw (.int .i64 r2))
    have z0 := Z9.out.c0
    have z1 := Z9.out.c1
    have z2 := Z9.out.f0
    have z3 := Z9.out.f1
    have q0 := A9.out.c0
    have q1 := A9.out.c1
    cases ro
    · have v0 := ((Z9.out.set0 r1).set1 r2).c0
      have v1 := ((Z9.out.set0 r1).set1 r2).c1
      go_wp2
      exact bodyPost_ret (v := .tuple #[.agg #[.int .i64 r1, .int .i64 r2], .bool true]) (by simp [results, Try.results10, go_sem, v0, v1]) rfl ⟨mid_yes HMC.out HV.out rfl, (B9.out.setCell (p := ⟨Rb, 0, none⟩) hwR _).setCell (p := ⟨Rb, 1, none⟩) hwR _⟩
    · have v0 := ((Z9.out.set0 0).set1 0).c0
      have v1 := ((Z9.out.set0 0).set1 0).c1
      go_wp2
      exact bodyPost_ret (v := .tuple #[.agg #[.int .i64 0, .int .i64 0], .bool false]) (by simp [results, Try.results10, go_sem, v0, v1]) rfl ⟨HN.out (mid_too HV.out rfl), (B9.out.setCell (p := ⟨Rb, 0, none⟩) hwR _).setCell (p := ⟨Rb, 1, none⟩) hwR _⟩
end Go.Proofs.Ythmdiljcceiedaa
