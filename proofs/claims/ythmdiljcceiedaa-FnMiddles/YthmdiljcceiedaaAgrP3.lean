/- The walk of the program's Middle. -/
import Derived.Test.YthmdiljcceiedaaSortR
import Derived.Test.YthmdiljcceiedaaAgrP2
import Derived.Test.YthmdiljcceiedaaAgrW4
import Derived.Test.YthmdiljcceiedaaRowUp
import Derived.Test.YthmdiljcceiedaaRatioW5
namespace Go.Proofs.Ythmdiljcceiedaa
open Go.RowKit Go.Proofs.Ythmdiljcceiedaa.RM

theorem hidM {p : Prop} (h : p) : Hid p := h
theorem bM (u : World) (o : Obj) : Below u.heap.size u (u.alloc o) := (Below.refl _ _).alloc (Nat.le_refl _) o
theorem addP_no {s t : Fr} (h : addK s t = false) : addP s t = (0, 0) := by unfold addP; rw [(op_zero h).1, (op_zero h).2]
theorem divP_no {s t : Fr} (h : divK s t = false) : divP s t = (0, 0) := by unfold divP; rw [(op_zero h).1, (op_zero h).2]
theorem divK_zero (t : Fr) : divK (0, 0) t = false := by unfold divK; rw [show two 0 0 t.1 t.2 = false from by show (okB 0 0 && _) = false; rw [show okB 0 0 = false by decide]; rfl]; rfl
theorem hlf_prog (s t : Fr) : (hlfV s t).2 = !divK (addP s t) (2, 1) ∧ (divK (addP s t) (2, 1) = true → (hlfV s t).1 = divP (addP s t) (2, 1)) := by
  cases h : addK s t
  · rw [addP_no h, divK_zero]
    refine ⟨?_, fun k => by cases k⟩
    unfold hlfV
    rw [h]
    rfl
  · have e : a1V s t = addP s t := by unfold a1V; exact keepF_yes h
    unfold hlfV d1V
    rw [e, h]
    refine ⟨rfl, fun k => ?_⟩
    exact keepF_yes k
theorem mid_even {ls : List Fr} {s t a : Fr} {o : Bool} (hc : midC ls = true) (hv : mdlV (srtR ls ls.length) ls.length = hlfV s t) (ha : a = divP (addP s t) (2, 1)) (ho : o = divK (addP s t) (2, 1)) :
    Ending.returned (.tuple #[.agg #[.int .i64 a.1, .int .i64 a.2], .bool o]) = .returned (.tuple #[.agg #[.int .i64 (midA ls).1, .int .i64 (midA ls).2], .bool (midO ls)]) := by
  obtain ⟨k1, k2⟩ := hlf_prog s t
  have h1 : midO ls = o := by unfold midO; rw [hc, hv, k1, ← ho]; simp
  cases o
  · rw [midA_no h1, h1, ha, divP_no ho.symm]
  · rw [midA_yes h1, h1, hv, k2 ho.symm, ha]

set_option maxRecDepth 100000 in
set_option maxHeartbeats 8000000 in
theorem iMiddle_any (v : Value) (ls : List Fr) (w : World) (h : RdR w v ls) :
    Calls Try.prog 6 #[v] w fun e w' => e = .returned (.tuple #[.agg #[.int .i64 (midA ls).1, .int .i64 (midA ls).2], .bool (midO ls)]) ∧ Below w.heap.size w w' := by
  have HU := hidM (fun W (hW : Below w.heap.size w W) => iUp12_any v ls W (h.below hW))
  have HCL := hidM (fun W (hW : Below w.heap.size w W) (h1 : 1 ≤ ls.length) (h9 : ls.length ≤ 900) => clone_any v ls W (h.below hW) h1 h9)
  obtain ⟨a, c, rfl, _⟩ := h
  have HN := hidM (mid_ret (ls := ls))
  obtain ⟨q, hq⟩ : ∃ q, q = midC ls := ⟨_, rfl⟩
  have HQ := hidM hq
  have HU' : Hid (∀ W, Below w.heap.size w W → Calls Try.prog 21 #[.slice a ls.length c, .int .i64 12] W fun e w' => e = .returned (.bool q) ∧ Below W.heap.size W w') := by
    intro W hW; have := HU.out W hW; rw [hq]; exact this
  clear hq HU
  obtain ⟨L, hL⟩ : ∃ L, L = ls.length := ⟨_, rfl⟩
  have HL := hidM hL
  rw [← hL] at HU' HCL ⊢
  clear hL
  obtain ⟨Rb, hRb⟩ : ∃ R, R = w.heap.size := ⟨_, rfl⟩
  obtain ⟨X, hX⟩ : ∃ X, X = w.alloc (.cells #[.int .i64 0, .int .i64 0] 27) := ⟨_, rfl⟩
  have hZ : Hid (IsR X Rb 0 0) := by show IsR _ _ _ _; rw [hX, hRb]; exact IsR.new w 0 0
  have hB : Hid (Below w.heap.size w X) := by show Below _ _ _; rw [hX]; exact bM _ _
  have hwR : w.heap.size ≤ Rb := by omega
  go_enter Try.func6, Try.ntmps6
  go_wp2_with fail
  rw [← hX, ← hRb]
  clear hX hRb
  refine (HU'.out _ hB.out).mono ?_
  rintro e w1 ⟨rfl, hb⟩
  replace hZ := hidM (hZ.out.below hb)
  replace hB := hidM (hB.out.trans (hb.mono hB.out.size))
  clear hb HU'
  cases q
  · have HF : Hid (midO ls = false) := by show _ = _; unfold midO; rw [← HQ.out]; rfl
    have z0 := hZ.out.c0
    have z1 := hZ.out.c1
    have z2 := hZ.out.f0
    have z3 := hZ.out.f1
    go_wp2
    have y0 := ((hZ.out.set0 0).set1 0).c0
    have y1 := ((hZ.out.set0 0).set1 0).c1
    exact bodyPost_ret (v := .tuple #[.agg #[.int .i64 0, .int .i64 0], .bool false]) (by simp [results, Try.results6, go_sem, y0, y1]) rfl ⟨HN.out HF.out, (hB.out.setCell (p := ⟨Rb, 0, none⟩) hwR _).setCell (p := ⟨Rb, 1, none⟩) hwR _⟩
  have hmc : (1 ≤ L ∧ L ≤ 12) ∧ allOk ls = true := by
    have := HQ.out
    unfold midC at this
    have t := this.symm
    rw [Bool.and_eq_true, decide_eq_true_eq] at t
    rw [HL.out]; exact t
  obtain ⟨⟨n0, n1⟩, hok⟩ := hmc
  have HOK := hidM hok
  have HMC := hidM HQ.out.symm
  clear hok HQ
  go_wp2_with fail
  refine (HCL.out _ hB.out n0 (by omega)).mono ?_
  rintro e w2 ⟨gs, cs, rfl, ho, hb⟩
  have hsz := hB.out.size
  have hRw := hZ.out.lt
  replace hZ := hidM (hZ.out.below hb)
  replace hB := hidM (hB.out.trans (hb.mono hB.out.size))
  have hO := hidM (own_le ho hsz)
  have hRg : Rb ≠ gs := by have := (ho.lt gs rfl).1; omega
  have hgw : w.heap.size ≤ gs := by have := (ho.lt gs rfl).1; omega
  clear ho hb HCL hsz hRw
  have HSR := hidM (sortR_any hO.out HOK.out (by have := HL.out; omega))
  go_wp2_with fail
  refine HSR.out.mono ?_
  rintro e w3 ⟨rfl, ho, hg⟩
  replace hZ : Hid (IsR w3 Rb 0 0) := hZ.out.grown hg hRg
  replace hB := hidM (hB.out.grown hg hB.out.size (fun j e => by cases e; exact hgw))
  clear hO HSR hg
  have hO := hidM ho
  clear ho
  obtain ⟨S, hS⟩ : ∃ S, S = srtR ls ls.length := ⟨_, rfl⟩
  have HSE : Hid (srtR ls ls.length = S) := hS.symm
  have HSL : Hid (S.length = L) := by show _ = _; rw [hS, srtR_len, HL.out]
  rw [← hS] at hO
  clear hS HOK
  have hLm : L / 2 < L := by omega
  have HMD := hidM hLm
  obtain ⟨s1, s2⟩ := own_R hO.out HSL.out (L / 2) hLm
  obtain ⟨y, hy⟩ : ∃ y, y = fr S (L / 2) := ⟨_, rfl⟩
  rw [show S[L / 2]?.getD (0, 0) = y from hy.symm] at s1 s2
  have HY := hidM hy
  clear hy
  obtain ⟨y1, y2⟩ := y
  dsimp only at s1 s2
  go_upto_region 6 with fail
  obtain ⟨T, hT⟩ : ∃ T, T = w3.heap.size := ⟨_, rfl⟩
  obtain ⟨X4, hX4⟩ : ∃ X, X = w3.alloc (.cells #[.int .i64 y1, .int .i64 y2] 27) := ⟨_, rfl⟩
  have hb : Below w3.heap.size w3 X4 := by rw [hX4]; exact bM _ _
  have hU : Hid (IsR X4 T y1 y2) := by show IsR _ _ _ _; rw [hX4, hT]; exact IsR.new w3 _ _
  replace hZ := hidM (hZ.out.below hb)
  replace hB := hidM (hB.out.trans (hb.mono hB.out.size))
  replace hO := hidM (own_below hO.out hb)
  rw [← hX4, ← hT]
  clear hX4 hT hb s1 s2 hLm
  by_cases hodd : L % 2 = 1
  · have hbo : ((L : Int) % 2 == 1) = true := by simp; omega
    have HV : Hid (mdlV (srtR ls ls.length) ls.length = ((y1, y2), false)) := by show _ = _; rw [HSE.out, ← HL.out]; unfold mdlV; rw [if_pos hodd, ← HY.out]
    clear hodd
    have u0 := hU.out.c0
    have u1 := hU.out.c1
    have z0 := hZ.out.c0
    have z1 := hZ.out.c1
    have z2 := hZ.out.f0
    have z3 := hZ.out.f1
    have y0' := ((hZ.out.set0 y1).set1 y2).c0
    have y1' := ((hZ.out.set0 y1).set1 y2).c1
    go_wp2
    exact bodyPost_ret (v := .tuple #[.agg #[.int .i64 y1, .int .i64 y2], .bool true]) (by simp [results, Try.results6, go_sem, y0', y1']) rfl ⟨mid_yes HMC.out HV.out rfl, (hB.out.setCell (p := ⟨Rb, 0, none⟩) hwR _).setCell (p := ⟨Rb, 1, none⟩) hwR _⟩
  have hbo : ((L : Int) % 2 == 1) = false := by simp; omega
  go_upto_region 8 with fail
  have HV : Hid (mdlV (srtR ls ls.length) ls.length = hlfV (fr S (L / 2 - 1)) (y1, y2)) := by show _ = _; rw [HSE.out, ← HL.out]; unfold mdlV; rw [if_neg hodd, HY.out]
  obtain ⟨m, hm⟩ : ∃ m, m = L / 2 := ⟨_, rfl⟩
  obtain ⟨m1, hm1⟩ : ∃ m1, m1 = L / 2 - 1 := ⟨_, rfl⟩
  have hm1L : m1 < L := by omega
  have hw1 : IntKind.i64.wrap ((L : Int) / 2) = (m : Int) := by rw [IntKind.wrap_i64]; omega
  have hw2 : IntKind.i64.wrap ((m : Int) - 1) = (m1 : Int) := by rw [IntKind.wrap_i64]; omega
  rw [← hm1] at HV
  clear hm hm1 hodd HY HMD
  obtain ⟨s1, s2⟩ := own_R hO.out HSL.out m1 hm1L
  obtain ⟨x, hx⟩ : ∃ y, y = fr S m1 := ⟨_, rfl⟩
  rw [show S[m1]?.getD (0, 0) = x from hx.symm] at s1 s2
  rw [← hx] at HV
  obtain ⟨x1, x2⟩ := x
  dsimp only at s1 s2
  clear hx hO HSL HSE
  have HAD : Hid (∀ W, Calls Try.prog 26 #[.agg #[.int .i64 x1, .int .i64 x2], .agg #[.int .i64 y1, .int .i64 y2]] W fun e w' => e = .returned (.tuple #[.agg #[.int .i64 (addP (x1, x2) (y1, y2)).1, .int .i64 (addP (x1, x2) (y1, y2)).2], .bool (addK (x1, x2) (y1, y2))]) ∧ Below W.heap.size W w') := fun W => iAdd_any x1 x2 y1 y2 W
  have HDV : Hid (∀ W, Calls Try.prog 27 #[.agg #[.int .i64 (addP (x1, x2) (y1, y2)).1, .int .i64 (addP (x1, x2) (y1, y2)).2], .agg #[.int .i64 2, .int .i64 1]] W fun e w' => e = .returned (.tuple #[.agg #[.int .i64 (divP (addP (x1, x2) (y1, y2)) (2, 1)).1, .int .i64 (divP (addP (x1, x2) (y1, y2)) (2, 1)).2], .bool (divK (addP (x1, x2) (y1, y2)) (2, 1))]) ∧ Below W.heap.size W w') := fun W => iDiv_any _ _ 2 1 W
  obtain ⟨dd, hdd⟩ : ∃ d, d = divP (addP (x1, x2) (y1, y2)) (2, 1) := ⟨_, rfl⟩
  obtain ⟨dk, hdk⟩ : ∃ d, d = divK (addP (x1, x2) (y1, y2)) (2, 1) := ⟨_, rfl⟩
  have HRET := hidM (mid_even HMC.out HV.out hdd hdk)
  rw [← hdd, ← hdk] at HDV
  obtain ⟨aa, haa⟩ : ∃ d, d = addP (x1, x2) (y1, y2) := ⟨_, rfl⟩
  obtain ⟨ak, hak⟩ : ∃ d, d = addK (x1, x2) (y1, y2) := ⟨_, rfl⟩
  rw [← haa] at HDV HAD
  rw [← hak] at HAD
  clear hdd hdk haa hak HV HMC
  obtain ⟨a1, a2⟩ := aa
  obtain ⟨d1, d2⟩ := dd
  dsimp only at HAD HDV HRET
  go_cut [6, 7] (fun s6 s7 wx => ∃ A : Nat, s6 = .pointer (some ⟨A, 0, none⟩) ∧ s7 = .bool ak ∧ Hid (IsR wx A a1 a2) ∧ Hid (IsR wx Rb 0 0) ∧ Hid (Below w.heap.size w wx))
  case first =>
    have c1 := s1
    have c2 := s2
    have c3 := hU.out.c0
    have c4 := hU.out.c1
    have hb := (Below.refl X4.heap.size X4).drew
    clear s1 s2 hU
    refine wp_region_noPanic ?_
    refine wp_region_held_drew (S := (fun w' => w'.cell? ⟨gs, m1 * 2, none⟩ = some (.int .i64 x1) ∧ w'.cell? ⟨gs, m1 * 2 + 1, none⟩ = some (.int .i64 x2) ∧ w'.cell? ⟨T, 0, none⟩ = some (.int .i64 y1) ∧ w'.cell? ⟨T, 1, none⟩ = some (.int .i64 y2))) (by kernel_rfl) ?_ (fun hHeld => ?_)
    · (try dsimp only)
      refine ⟨?_, ?_, ?_, ?_⟩ <;> (repeat (with_reducible (first | exact c1 | exact c2 | exact c3 | exact c4 | refine cell_dr ?_ | refine cell_stb ?_ ?_ | refine cell_al _ ?_ | (show _ ≠ _; omega))))
    replace c1 := cell_dr c1
    replace c2 := cell_dr c2
    replace c3 := cell_dr c3
    replace c4 := cell_dr c4
    replace hZ := hidM (hZ.out.below hb)
    replace hB := hidM (hB.out.trans (hb.mono hB.out.size))
    clear hb
    obtain ⟨wd, hwd⟩ : ∃ u, u = X4.drew := ⟨_, rfl⟩
    rw [← hwd] at hB hZ c1 c2 c3 c4 hHeld ⊢
    clear hwd
    refine wpAnyH_take (i := 0) (v := ?_) rfl (by kernel_rfl) (by kernel_rfl) (by kernel_rfl) (fun _ _ _ h => h) (Or.inl ⟨by kernel_rfl, ?_⟩) hHeld ?_
    rotate_left
    · intro wz hSw; (try dsimp only at hSw); go_simp; all_goals (try with_reducible rfl)
    (try simp only [List.getElem_toArray]); (try simp only [List.getElem_cons_succ]); (try simp only [List.getElem_cons_zero]); (try simp only [Act.put]); (try simp only [List.setIfInBounds_toArray]); (try simp only [List.set_cons_succ]); (try simp only [List.set_cons_zero])
    refine wpAnyH_take (i := 1) (v := ?_) rfl (by kernel_rfl) (by kernel_rfl) (by kernel_rfl) (fun _ _ _ h => h) (Or.inl ⟨by kernel_rfl, ?_⟩) hHeld ?_
    rotate_left
    · intro wz hSw; (try dsimp only at hSw); go_simp; all_goals (try with_reducible rfl)
    (try simp only [List.getElem_toArray]); (try simp only [List.getElem_cons_succ]); (try simp only [List.getElem_cons_zero]); (try simp only [Act.put]); (try simp only [List.setIfInBounds_toArray]); (try simp only [List.set_cons_succ]); (try simp only [List.set_cons_zero])
    refine wpAnyH_take (i := 2) (v := ?_) rfl (by kernel_rfl) (by kernel_rfl) (by kernel_rfl) (fun _ _ _ h => h) (Or.inl ⟨by kernel_rfl, ?_⟩) hHeld ?_
    rotate_left
    · intro wz hSw; (try dsimp only at hSw); go_simp; all_goals (try with_reducible rfl)
    (try simp only [List.getElem_toArray]); (try simp only [List.getElem_cons_succ]); (try simp only [List.getElem_cons_zero]); (try simp only [Act.put]); (try simp only [List.setIfInBounds_toArray]); (try simp only [List.set_cons_succ]); (try simp only [List.set_cons_zero])
    refine wpAnyH_take (i := 3) (v := ?_) rfl (by kernel_rfl) (by kernel_rfl) (by kernel_rfl) (fun _ _ _ h => h) (Or.inl ⟨by kernel_rfl, ?_⟩) hHeld ?_
    rotate_left
    · intro wz hSw; (try dsimp only at hSw); go_simp; all_goals (try with_reducible rfl)
    (try simp only [List.getElem_toArray]); (try simp only [List.getElem_cons_succ]); (try simp only [List.getElem_cons_zero]); (try simp only [Act.put]); (try simp only [List.setIfInBounds_toArray]); (try simp only [List.set_cons_succ]); (try simp only [List.set_cons_zero])
    refine wpAnyH_take (i := 4) (v := ?_) rfl (by kernel_rfl) (by kernel_rfl) (by kernel_rfl) (fun _ _ _ h => h) (Or.inl ⟨by kernel_rfl, ?_⟩) hHeld ?_
    rotate_left
    · intro wz hSw; (try dsimp only at hSw); go_simp; all_goals (try with_reducible rfl)
    (try simp only [List.getElem_toArray]); (try simp only [List.getElem_cons_succ]); (try simp only [List.getElem_cons_zero]); (try simp only [Act.put]); (try simp only [List.setIfInBounds_toArray]); (try simp only [List.set_cons_succ]); (try simp only [List.set_cons_zero])
    refine wpAnyH_take (i := 5) (v := ?_) rfl (by kernel_rfl) (by kernel_rfl) (by kernel_rfl) (fun _ _ _ h => h) (Or.inl ⟨by kernel_rfl, ?_⟩) hHeld ?_
    rotate_left
    · intro wz hSw; (try dsimp only at hSw); go_simp; all_goals (try with_reducible rfl)
    (try simp only [List.getElem_toArray]); (try simp only [List.getElem_cons_succ]); (try simp only [List.getElem_cons_zero]); (try simp only [Act.put]); (try simp only [List.setIfInBounds_toArray]); (try simp only [List.set_cons_succ]); (try simp only [List.set_cons_zero])
    refine wpAnyH_take (i := 6) (v := ?_) rfl (by kernel_rfl) (by kernel_rfl) (by kernel_rfl) (fun _ _ _ h => h) (Or.inl ⟨by kernel_rfl, ?_⟩) hHeld ?_
    rotate_left
    · intro wz hSw; (try dsimp only at hSw); go_simp; all_goals (try with_reducible rfl)
    (try simp only [List.getElem_toArray]); (try simp only [List.getElem_cons_succ]); (try simp only [List.getElem_cons_zero]); (try simp only [Act.put]); (try simp only [List.setIfInBounds_toArray]); (try simp only [List.set_cons_succ]); (try simp only [List.set_cons_zero])
    refine wpAnyH_take (i := 7) (v := ?_) rfl (by kernel_rfl) (by kernel_rfl) (by kernel_rfl) (fun _ _ _ h => h) (Or.inl ⟨by kernel_rfl, ?_⟩) hHeld ?_
    rotate_left
    · intro wz hSw; (try dsimp only at hSw); go_simp; all_goals (try with_reducible rfl)
    (try simp only [List.getElem_toArray]); (try simp only [List.getElem_cons_succ]); (try simp only [List.getElem_cons_zero]); (try simp only [Act.put]); (try simp only [List.setIfInBounds_toArray]); (try simp only [List.set_cons_succ]); (try simp only [List.set_cons_zero])
    refine wpAnyH_ready (rs := [8, 12]) (by kernel_rfl) (by simp) (AllReadyH.cons rfl (fun Kc hKc => ?_) (AllReadyH.cons rfl (fun Kc hKc => ?_) AllReadyH.nil))
    ·
      go_simp
      (go_at_call 26; refine (HAD.out _).mono ?_; rintro e u1 ⟨rfl, hb⟩)
      replace c1 := cell_keep hb c1
      replace c2 := cell_keep hb c2
      replace c3 := cell_keep hb c3
      replace c4 := cell_keep hb c4
      replace hZ := hidM (hZ.out.below hb)
      replace hB := hidM (hB.out.trans (hb.mono hB.out.size))
      clear hb
      go_wp2_with fail
      refine hKc.out _ _ ?_ (fun hHeld => ?_)
      · (try dsimp only)
        refine ⟨?_, ?_, ?_, ?_⟩ <;> (repeat (with_reducible (first | exact c1 | exact c2 | exact c3 | exact c4 | refine cell_dr ?_ | refine cell_stb ?_ ?_ | refine cell_al _ ?_ | (show _ ≠ _; omega))))
      clear hKc Kc
      (try simp only [List.getElem_toArray]); (try simp only [List.getElem_cons_succ]); (try simp only [List.getElem_cons_zero]); (try simp only [Act.put]); (try simp only [List.setIfInBounds_toArray]); (try simp only [List.set_cons_succ]); (try simp only [List.set_cons_zero])
      refine wpAnyH_take (i := 9) (v := ?_) rfl (by kernel_rfl) (by kernel_rfl) (by kernel_rfl) (fun _ _ _ h => h) (Or.inl ⟨by kernel_rfl, ?_⟩) hHeld ?_
      rotate_left
      · intro wz hSw; (try dsimp only at hSw); go_simp; all_goals (try with_reducible rfl)
      (try simp only [List.getElem_toArray]); (try simp only [List.getElem_cons_succ]); (try simp only [List.getElem_cons_zero]); (try simp only [Act.put]); (try simp only [List.setIfInBounds_toArray]); (try simp only [List.set_cons_succ]); (try simp only [List.set_cons_zero])
      refine wpAnyH_take (i := 10) (v := ?_) rfl (by kernel_rfl) (by kernel_rfl) (by kernel_rfl) (fun _ _ _ h => h) (Or.inl ⟨by kernel_rfl, ?_⟩) hHeld ?_
      rotate_left
      · intro wz hSw; (try dsimp only at hSw); go_simp; all_goals (try with_reducible rfl)
      (try simp only [List.getElem_toArray]); (try simp only [List.getElem_cons_succ]); (try simp only [List.getElem_cons_zero]); (try simp only [Act.put]); (try simp only [List.setIfInBounds_toArray]); (try simp only [List.set_cons_succ]); (try simp only [List.set_cons_zero])
      refine wpAnyH_take (i := 11) (v := ?_) rfl (by kernel_rfl) (by kernel_rfl) (by kernel_rfl) (fun _ _ _ h => h) (Or.inl ⟨by kernel_rfl, ?_⟩) hHeld ?_
      rotate_left
      · intro wz hSw; (try dsimp only at hSw); go_simp; all_goals (try with_reducible rfl)
      (try simp only [List.getElem_toArray]); (try simp only [List.getElem_cons_succ]); (try simp only [List.getElem_cons_zero]); (try simp only [Act.put]); (try simp only [List.setIfInBounds_toArray]); (try simp only [List.set_cons_succ]); (try simp only [List.set_cons_zero])
      refine wpAnyH_ready (rs := [12]) (by kernel_rfl) (by simp) (AllReadyH.cons rfl (fun Kc hKc => ?_) AllReadyH.nil)
      go_simp
      obtain ⟨Ab, hA'⟩ : ∃ A, A = u1.heap.size := ⟨_, rfl⟩
      obtain ⟨u2, hu⟩ : ∃ u, u = u1.alloc (.cells #[.int .i64 0, .int .i64 0] 27) := ⟨_, rfl⟩
      have hb : Below u1.heap.size u1 u2 := by rw [hu]; exact bM _ _
      have HA : Hid (IsR u2 Ab 0 0) := by show IsR _ _ _ _; rw [hu, hA']; exact IsR.new _ _ _
      have hAw : w.heap.size ≤ Ab := by rw [hA']; exact hB.out.size
      have hKA := World.block_lt_of_cell? u1 _ c1
      have hTA := World.block_lt_of_cell? u1 _ c3
      dsimp only at hKA hTA
      have hRA : Rb ≠ Ab := by have := hZ.out.lt; omega
      have hgA : gs ≠ Ab := by omega
      have hTA' : T ≠ Ab := by omega
      rw [← hu, ← hA']
      replace c1 := cell_keep hb c1
      replace c2 := cell_keep hb c2
      replace c3 := cell_keep hb c3
      replace c4 := cell_keep hb c4
      replace hZ := hidM (hZ.out.below hb)
      replace hB := hidM (hB.out.trans (hb.mono hB.out.size))
      clear hb
      clear hu hA' hKA hTA
      refine hKc.out _ _ ?_ (fun hHeld => ?_)
      · (try dsimp only)
        refine ⟨?_, ?_, ?_, ?_⟩ <;> (repeat (with_reducible (first | exact c1 | exact c2 | exact c3 | exact c4 | refine cell_dr ?_ | refine cell_stb ?_ ?_ | refine cell_al _ ?_ | (show _ ≠ _; omega))))
      clear hKc Kc
      (try simp only [List.getElem_toArray]); (try simp only [List.getElem_cons_succ]); (try simp only [List.getElem_cons_zero]); (try simp only [Act.put]); (try simp only [List.setIfInBounds_toArray]); (try simp only [List.set_cons_succ]); (try simp only [List.set_cons_zero])
      have f0 := HA.out.f0
      have f1' := HA.out.f1
      have g0 := HA.out.c0
      have g1 := HA.out.c1
      refine wpAnyH_ready (rs := [13]) (by kernel_rfl) (by simp) (AllReadyH.cons rfl (fun Kc hKc => ?_) AllReadyH.nil)
      go_simp
      refine hKc.out _ _ ?_ (fun hHeld => ?_)
      · (try dsimp only)
        refine ⟨?_, ?_, ?_, ?_⟩ <;> (repeat (with_reducible (first | exact c1 | exact c2 | exact c3 | exact c4 | refine cell_dr ?_ | refine cell_stb ?_ ?_ | refine cell_al _ ?_ | (show _ ≠ _; omega))))
      clear hKc Kc
      (try simp only [List.getElem_toArray]); (try simp only [List.getElem_cons_succ]); (try simp only [List.getElem_cons_zero]); (try simp only [Act.put]); (try simp only [List.setIfInBounds_toArray]); (try simp only [List.set_cons_succ]); (try simp only [List.set_cons_zero])
      refine wpAnyH_take (i := 14) (v := ?_) rfl (by kernel_rfl) (by kernel_rfl) (by kernel_rfl) (fun _ _ _ h => h) (Or.inl ⟨by kernel_rfl, ?_⟩) hHeld ?_
      rotate_left
      · intro wz hSw; (try dsimp only at hSw); go_simp; all_goals (try with_reducible rfl)
      (try simp only [List.getElem_toArray]); (try simp only [List.getElem_cons_succ]); (try simp only [List.getElem_cons_zero]); (try simp only [Act.put]); (try simp only [List.setIfInBounds_toArray]); (try simp only [List.set_cons_succ]); (try simp only [List.set_cons_zero])
      refine wpAnyH_done (by kernel_rfl) ?_ _
      refine NoPanic.normal ?_
      go_wp2_with fail
      go_meet
      case rel =>
        exact ⟨Ab, rfl, rfl, (HA.out.set0 a1).set1 a2, (hZ.out.other hRA 0 _).other hRA 1 _, (hB.out.setCell (p := ⟨Ab, 0, none⟩) hAw _).setCell (p := ⟨Ab, 1, none⟩) hAw _⟩
    ·
      go_simp
      obtain ⟨Ab, hA'⟩ : ∃ A, A = wd.heap.size := ⟨_, rfl⟩
      obtain ⟨u3, hu⟩ : ∃ u, u = wd.alloc (.cells #[.int .i64 0, .int .i64 0] 27) := ⟨_, rfl⟩
      have hb : Below wd.heap.size wd u3 := by rw [hu]; exact bM _ _
      have HA : Hid (IsR u3 Ab 0 0) := by show IsR _ _ _ _; rw [hu, hA']; exact IsR.new _ _ _
      have hAw : w.heap.size ≤ Ab := by rw [hA']; exact hB.out.size
      have hKA := World.block_lt_of_cell? wd _ c1
      have hTA := World.block_lt_of_cell? wd _ c3
      dsimp only at hKA hTA
      have hRA : Rb ≠ Ab := by have := hZ.out.lt; omega
      have hgA : gs ≠ Ab := by omega
      have hTA' : T ≠ Ab := by omega
      rw [← hu, ← hA']
      replace c1 := cell_keep hb c1
      replace c2 := cell_keep hb c2
      replace c3 := cell_keep hb c3
      replace c4 := cell_keep hb c4
      replace hZ := hidM (hZ.out.below hb)
      replace hB := hidM (hB.out.trans (hb.mono hB.out.size))
      clear hb
      clear hu hA' hKA hTA
      refine hKc.out _ _ ?_ (fun hHeld => ?_)
      · (try dsimp only)
        refine ⟨?_, ?_, ?_, ?_⟩ <;> (repeat (with_reducible (first | exact c1 | exact c2 | exact c3 | exact c4 | refine cell_dr ?_ | refine cell_stb ?_ ?_ | refine cell_al _ ?_ | (show _ ≠ _; omega))))
      clear hKc Kc
      (try simp only [List.getElem_toArray]); (try simp only [List.getElem_cons_succ]); (try simp only [List.getElem_cons_zero]); (try simp only [Act.put]); (try simp only [List.setIfInBounds_toArray]); (try simp only [List.set_cons_succ]); (try simp only [List.set_cons_zero])
      refine wpAnyH_ready (rs := [8]) (by kernel_rfl) (by simp) (AllReadyH.cons rfl (fun Kc hKc => ?_) AllReadyH.nil)
      go_simp
      (go_at_call 26; refine (HAD.out _).mono ?_; rintro e u4 ⟨rfl, hb⟩)
      replace c1 := cell_keep hb c1
      replace c2 := cell_keep hb c2
      replace c3 := cell_keep hb c3
      replace c4 := cell_keep hb c4
      replace hZ := hidM (hZ.out.below hb)
      replace HA := hidM (HA.out.below hb)
      replace hB := hidM (hB.out.trans (hb.mono hB.out.size))
      clear hb
      go_wp2_with fail
      refine hKc.out _ _ ?_ (fun hHeld => ?_)
      · (try dsimp only)
        refine ⟨?_, ?_, ?_, ?_⟩ <;> (repeat (with_reducible (first | exact c1 | exact c2 | exact c3 | exact c4 | refine cell_dr ?_ | refine cell_stb ?_ ?_ | refine cell_al _ ?_ | (show _ ≠ _; omega))))
      clear hKc Kc
      (try simp only [List.getElem_toArray]); (try simp only [List.getElem_cons_succ]); (try simp only [List.getElem_cons_zero]); (try simp only [Act.put]); (try simp only [List.setIfInBounds_toArray]); (try simp only [List.set_cons_succ]); (try simp only [List.set_cons_zero])
      refine wpAnyH_take (i := 9) (v := ?_) rfl (by kernel_rfl) (by kernel_rfl) (by kernel_rfl) (fun _ _ _ h => h) (Or.inl ⟨by kernel_rfl, ?_⟩) hHeld ?_
      rotate_left
      · intro wz hSw; (try dsimp only at hSw); go_simp; all_goals (try with_reducible rfl)
      (try simp only [List.getElem_toArray]); (try simp only [List.getElem_cons_succ]); (try simp only [List.getElem_cons_zero]); (try simp only [Act.put]); (try simp only [List.setIfInBounds_toArray]); (try simp only [List.set_cons_succ]); (try simp only [List.set_cons_zero])
      refine wpAnyH_take (i := 10) (v := ?_) rfl (by kernel_rfl) (by kernel_rfl) (by kernel_rfl) (fun _ _ _ h => h) (Or.inl ⟨by kernel_rfl, ?_⟩) hHeld ?_
      rotate_left
      · intro wz hSw; (try dsimp only at hSw); go_simp; all_goals (try with_reducible rfl)
      (try simp only [List.getElem_toArray]); (try simp only [List.getElem_cons_succ]); (try simp only [List.getElem_cons_zero]); (try simp only [Act.put]); (try simp only [List.setIfInBounds_toArray]); (try simp only [List.set_cons_succ]); (try simp only [List.set_cons_zero])
      refine wpAnyH_take (i := 11) (v := ?_) rfl (by kernel_rfl) (by kernel_rfl) (by kernel_rfl) (fun _ _ _ h => h) (Or.inl ⟨by kernel_rfl, ?_⟩) hHeld ?_
      rotate_left
      · intro wz hSw; (try dsimp only at hSw); go_simp; all_goals (try with_reducible rfl)
      (try simp only [List.getElem_toArray]); (try simp only [List.getElem_cons_succ]); (try simp only [List.getElem_cons_zero]); (try simp only [Act.put]); (try simp only [List.setIfInBounds_toArray]); (try simp only [List.set_cons_succ]); (try simp only [List.set_cons_zero])
      have f0 := HA.out.f0
      have f1' := HA.out.f1
      have g0 := HA.out.c0
      have g1 := HA.out.c1
      refine wpAnyH_ready (rs := [13]) (by kernel_rfl) (by simp) (AllReadyH.cons rfl (fun Kc hKc => ?_) AllReadyH.nil)
      go_simp
      refine hKc.out _ _ ?_ (fun hHeld => ?_)
      · (try dsimp only)
        refine ⟨?_, ?_, ?_, ?_⟩ <;> (repeat (with_reducible (first | exact c1 | exact c2 | exact c3 | exact c4 | refine cell_dr ?_ | refine cell_stb ?_ ?_ | refine cell_al _ ?_ | (show _ ≠ _; omega))))
      clear hKc Kc
      (try simp only [List.getElem_toArray]); (try simp only [List.getElem_cons_succ]); (try simp only [List.getElem_cons_zero]); (try simp only [Act.put]); (try simp only [List.setIfInBounds_toArray]); (try simp only [List.set_cons_succ]); (try simp only [List.set_cons_zero])
      refine wpAnyH_take (i := 14) (v := ?_) rfl (by kernel_rfl) (by kernel_rfl) (by kernel_rfl) (fun _ _ _ h => h) (Or.inl ⟨by kernel_rfl, ?_⟩) hHeld ?_
      rotate_left
      · intro wz hSw; (try dsimp only at hSw); go_simp; all_goals (try with_reducible rfl)
      (try simp only [List.getElem_toArray]); (try simp only [List.getElem_cons_succ]); (try simp only [List.getElem_cons_zero]); (try simp only [Act.put]); (try simp only [List.setIfInBounds_toArray]); (try simp only [List.set_cons_succ]); (try simp only [List.set_cons_zero])
      refine wpAnyH_done (by kernel_rfl) ?_ _
      refine NoPanic.normal ?_
      go_wp2_with fail
      go_meet
      case rel =>
        exact ⟨Ab, rfl, rfl, (HA.out.set0 a1).set1 a2, (hZ.out.other hRA 0 _).other hRA 1 _, (hB.out.setCell (p := ⟨Ab, 0, none⟩) hAw _).setCell (p := ⟨Ab, 1, none⟩) hAw _⟩
  case rest =>
    clear s1 s2 hU hZ hB
    rename_i wc
    obtain ⟨A, rfl, rfl, HA, hZ, hB⟩ := hcut
    have c1 := HA.out.c0
    have c2 := HA.out.c1
    go_wp2_with fail
    refine (HDV.out _).mono ?_
    rintro e w5 ⟨rfl, hb⟩
    replace hZ := hidM (hZ.out.below hb)
    replace hB := hidM (hB.out.trans (hb.mono hB.out.size))
    clear hb c1 c2 HA
    have z0 := hZ.out.c0
    have z1 := hZ.out.c1
    have z2 := hZ.out.f0
    have z3 := hZ.out.f1
    have y0' := ((hZ.out.set0 d1).set1 d2).c0
    have y1' := ((hZ.out.set0 d1).set1 d2).c1
    go_wp2
    exact bodyPost_ret (v := .tuple #[.agg #[.int .i64 d1, .int .i64 d2], .bool dk]) (by simp [results, Try.results6, go_sem, y0', y1']) rfl ⟨HRET.out, (hB.out.setCell (p := ⟨Rb, 0, none⟩) hwR _).setCell (p := ⟨Rb, 1, none⟩) hwR _⟩
end Go.Proofs.Ythmdiljcceiedaa
