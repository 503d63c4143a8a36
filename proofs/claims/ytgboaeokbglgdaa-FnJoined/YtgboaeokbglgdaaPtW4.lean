/- The walk of the model's Vary; what lies inside, told without a new world. -/
import Derived.Test.YtgboaeokbglgdaaPtW3
import Derived.Test.YtgboaeokbglgdaaCalcW
import Derived.Test.YtgboaeokbglgdaaBudMath
import Derived.Test.YtgboaeokbglgdaaTimW1
namespace Go.Proofs.Ytgboaeokbglgdaa
open Go.RowKit Go.Proofs.Ytgboaeokbglgdaa.RM

theorem b0P (u : World) (o : Obj) : Below u.heap.size u (u.alloc o) := (Below.refl _ _).alloc (Nat.le_refl _) o
theorem kMul9 (K : Nat) (bd : Bool) (x y : Fr) (w : World) (hK : IsK w K bd) :
    Calls Try.prog 31 #[.pointer (some ⟨K, 0, none⟩), .agg #[.int .i64 x.1, .int .i64 x.2], .agg #[.int .i64 y.1, .int .i64 y.2]] w fun e w' =>
      e = .returned (.agg #[.int .i64 (keepF (mulK x y) (mulP x y)).1, .int .i64 (keepF (mulK x y) (mulP x y)).2]) ∧ IsK w' K (bd || !mulK x y) ∧ w.grownBy w' (some K) := cMul_any K bd x.1 x.2 y.1 y.2 w hK
theorem kSub9 (K : Nat) (bd : Bool) (x y : Fr) (w : World) (hK : IsK w K bd) :
    Calls Try.prog 30 #[.pointer (some ⟨K, 0, none⟩), .agg #[.int .i64 x.1, .int .i64 x.2], .agg #[.int .i64 y.1, .int .i64 y.2]] w fun e w' =>
      e = .returned (.agg #[.int .i64 (keepF (subK x y) (subP x y)).1, .int .i64 (keepF (subK x y) (subP x y)).2]) ∧ IsK w' K (bd || !subK x y) ∧ w.grownBy w' (some K) := cSub_any K bd x.1 x.2 y.1 y.2 w hK
theorem cell_gP {K : Nat} {W W' : World} (hg : W.grownBy W' (some K)) {b o : Nat} {v : Value} (h : W.cell? ⟨b, o, none⟩ = some v) (hne : b ≠ K) : W'.cell? ⟨b, o, none⟩ = some v :=
  (g_cell hg o (World.block_lt_of_cell? W _ h) (by simpa using hne)).trans h
/-- the variance as the model reckons it: its number, was something too great -/
def vryV (q m : Fr) : Fr × Bool := (keepF (subK q (p1V m m)) (subP q (p1V m m)), (!mulK m m) || !subK q (p1V m m))
def vryO (ps : List Fr) : Bool := sprB ps && ((momA ps 1).2 && ((momA ps 2).2 && !(vryV (momA ps 2).1 (momA ps 1).1).2))
def vryA (ps : List Fr) : Fr := if vryO ps = true then (vryV (momA ps 2).1 (momA ps 1).1).1 else (0, 0)
theorem vryA_no {ps : List Fr} (h : vryO ps = false) : vryA ps = (0, 0) := by unfold vryA; rw [h]; rfl
theorem vryA_yes {ps : List Fr} (h : vryO ps = true) : vryA ps = (vryV (momA ps 2).1 (momA ps 1).1).1 := by unfold vryA; rw [if_pos h]

set_option maxRecDepth 100000 in
set_option maxHeartbeats 8000000 in
theorem sVary_any (v : Value) (ps : List Fr) (w : World) (h : RdR w v ps) :
    Calls Try.prog 16 #[v] w fun e w' => e = .returned (.tuple #[.agg #[.int .i64 (vryA ps).1, .int .i64 (vryA ps).2], .bool (vryO ps)]) ∧ Below w.heap.size w w' := by
  have HSP := hidP (fun W (hW : Below w.heap.size w W) => sSpr_any v ps W (h.below hW))
  have H := hidP h
  obtain ⟨pa, na, ca, rfl⟩ : ∃ a n c, v = .slice a n c := by obtain ⟨a, c, rfl, _⟩ := h; exact ⟨a, _, c, rfl⟩
  obtain ⟨q, hq⟩ : ∃ q, q = sprB ps := ⟨_, rfl⟩
  rw [← hq] at HSP
  have HQ := hidP hq
  have BB : Below w.heap.size w (w.alloc (.cells #[.int .i64 0, .int .i64 0] 30)) := b0P _ _
  have ZR := IsR.new w 0 0
  clear h hq
  go_enter Try.func16, Try.ntmps16
  go_wp2_with fail
  refine (HSP.out _ BB).mono ?_
  rintro e w1 ⟨rfl, hb⟩
  replace ZR := ZR.below hb
  replace BB := BB.trans (hb.mono BB.size)
  clear hb HSP
  cases q
  · have HO : Hid (vryO ps = false) := by show _ = _; unfold vryO; rw [← HQ.out]; rfl
    have HA := hidP (vryA_no HO.out)
    have z0 := ZR.c0
    have z1 := ZR.c1
    have z2 := ZR.f0
    have z3 := ZR.f1
    go_wp2
    exact bodyPost_ret (v := .tuple #[.agg #[.int .i64 0, .int .i64 0], .bool false]) (by simp [results, Try.results16, go_sem, z0, z1]) rfl ⟨ret_fb9 (by rw [HA.out]) (by rw [HA.out]) HO.out.symm, (BB.setCell (p := ⟨w.heap.size, 0, none⟩) (Nat.le_refl _) _).setCell (p := ⟨w.heap.size, 1, none⟩) (Nat.le_refl _) _⟩
  obtain ⟨p1, p2, p3⟩ := sprB_out HQ.out.symm
  have H1 := hidP (fun W (hW : Below w.heap.size w W) => sMom_any _ ps 1 W (H.out.below hW) p1.2 p2 (by decide))
  have H2 := hidP (fun W (hW : Below w.heap.size w W) => sMom_any _ ps 2 W (H.out.below hW) p1.2 p2 (by decide))
  obtain ⟨⟨⟨m1, m2⟩, mo⟩, hm⟩ : ∃ z, z = momA ps 1 := ⟨_, rfl⟩
  obtain ⟨⟨⟨q1, q2⟩, qo⟩, hqm⟩ : ∃ z, z = momA ps 2 := ⟨_, rfl⟩
  have HVO : Hid (vryO ps = (mo && (qo && !(vryV (q1, q2) (m1, m2)).2))) := by show _ = _; unfold vryO; rw [← HQ.out, ← hm, ← hqm]; rfl
  have HVA : Hid ((vryV (momA ps 2).1 (momA ps 1).1).1 = (vryV (q1, q2) (m1, m2)).1) := by show _ = _; rw [← hm, ← hqm]
  rw [← hm] at H1
  rw [← hqm] at H2
  clear p1 p2 p3 hm hqm
  go_wp2_with fail
  refine (H1.out _ BB).mono ?_
  rintro e w2 ⟨rfl, hb⟩
  replace ZR := ZR.below hb
  replace BB := BB.trans (hb.mono BB.size)
  clear hb
  have hb := b0P w2 (.cells #[.int .i64 m1, .int .i64 m2] 30)
  go_upto_region 4 with fail
  obtain ⟨Y2, hY⟩ : ∃ Y, Y = w2.alloc (.cells #[.int .i64 m1, .int .i64 m2] 30) := ⟨_, rfl⟩
  obtain ⟨Mb, hMb⟩ : ∃ M, M = w2.heap.size := ⟨_, rfl⟩
  have ZM : IsR Y2 Mb m1 m2 := by rw [hY, hMb]; exact IsR.new _ _ _
  rw [← hY] at hb
  rw [← hY, ← hMb]
  have hRM : w.heap.size < Mb := by rw [hMb]; exact ZR.lt
  replace ZR := ZR.below hb
  replace BB := BB.trans (hb.mono BB.size)
  clear hb hY hMb
  go_wp2_with fail
  refine (H2.out _ BB).mono ?_
  rintro e w5 ⟨rfl, hb⟩
  replace ZR := ZR.below hb
  replace ZM := ZM.below hb
  replace BB := BB.trans (hb.mono BB.size)
  clear hb
  have hb := b0P w5 (.cells #[.int .i64 q1, .int .i64 q2] 30)
  go_upto_region 5 with fail
  obtain ⟨Y5, hY⟩ : ∃ Y, Y = w5.alloc (.cells #[.int .i64 q1, .int .i64 q2] 30) := ⟨_, rfl⟩
  obtain ⟨Qb, hQb⟩ : ∃ M, M = w5.heap.size := ⟨_, rfl⟩
  have ZQ : IsR Y5 Qb q1 q2 := by rw [hY, hQb]; exact IsR.new _ _ _
  have hMQ : Mb < Qb := by rw [hQb]; exact ZM.lt
  rw [← hY] at hb
  rw [← hY, ← hQb]
  replace ZR := ZR.below hb
  replace ZM := ZM.below hb
  replace BB := BB.trans (hb.mono BB.size)
  clear hb hY hQb
  have hb := b0P Y5 (.cells #[.bool false] 50)
  go_upto_region 6 with fail
  obtain ⟨wx0, hY⟩ : ∃ Y, Y = Y5.alloc (.cells #[.bool false] 50) := ⟨_, rfl⟩
  obtain ⟨K, hKb⟩ : ∃ M, M = Y5.heap.size := ⟨_, rfl⟩
  have KK : IsK wx0 K false := by rw [hY, hKb]; exact IsK.new _ _
  have hQK : Qb < K := by rw [hKb]; exact ZQ.lt
  rw [← hY] at hb
  rw [← hY, ← hKb]
  replace ZR := ZR.below hb
  replace ZM := ZM.below hb
  replace ZQ := ZQ.below hb
  replace BB := BB.trans (hb.mono BB.size)
  have hwK : w.heap.size ≤ K := by omega
  clear hb hY hKb H1 H2
  have hv : vryV (q1, q2) (m1, m2) = (keepF (subK (q1, q2) (p1V (m1, m2) (m1, m2))) (subP (q1, q2) (p1V (m1, m2) (m1, m2))), (!mulK (m1, m2) (m1, m2)) || !subK (q1, q2) (p1V (m1, m2) (m1, m2))) := rfl
  have HM := hidP (fun W (hK : IsK W K false) => kMul9 K false (m1, m2) (m1, m2) W hK)
  obtain ⟨mm, hmm⟩ : ∃ z, z = p1V (m1, m2) (m1, m2) := ⟨_, rfl⟩
  obtain ⟨f1, hf1⟩ : ∃ z, z = !mulK (m1, m2) (m1, m2) := ⟨_, rfl⟩
  rw [show keepF (mulK (m1, m2) (m1, m2)) (mulP (m1, m2) (m1, m2)) = mm from hmm.symm, Bool.false_or, ← hf1] at HM
  rw [← hmm, ← hf1] at hv
  obtain ⟨mm1, mm2⟩ := mm
  have HS := hidP (fun W (hK : IsK W K f1) => kSub9 K f1 (q1, q2) (mm1, mm2) W hK)
  obtain ⟨⟨v1, v2⟩, hvv⟩ : ∃ z, z = keepF (subK (q1, q2) (mm1, mm2)) (subP (q1, q2) (mm1, mm2)) := ⟨_, rfl⟩
  obtain ⟨f2, hf2⟩ : ∃ z, z = (f1 || !subK (q1, q2) (mm1, mm2)) := ⟨_, rfl⟩
  rw [← hvv, ← hf2] at HS hv
  have HV := hidP hv
  dsimp only at HM HS
  clear hv hmm hf1 hvv hf2
  rw [HV.out] at HVO HVA
  go_cut [9] (fun s9 wx => ∃ P : Nat, s9 = .pointer (some ⟨P, 0, none⟩) ∧ Hid (IsR wx P v1 v2) ∧ Hid (IsK wx K f2) ∧ Hid (IsR wx w.heap.size 0 0) ∧ Hid (Below w.heap.size w wx))
  case first =>
    have c1 := ZM.c0
    have c2 := ZM.c1
    have c3 := ZQ.c0
    have c4 := ZQ.c1
    refine wp_region_noPanic ?_
    refine wp_region_held_drew (S := (fun w' => w'.cell? ⟨Mb, 0, none⟩ = some (.int .i64 m1) ∧ w'.cell? ⟨Mb, 1, none⟩ = some (.int .i64 m2) ∧ w'.cell? ⟨Qb, 0, none⟩ = some (.int .i64 q1) ∧ w'.cell? ⟨Qb, 1, none⟩ = some (.int .i64 q2))) (by kernel_rfl) ?_ (fun hHeld => ?_)
    · (try dsimp only)
      refine ⟨?_, ?_, ?_, ?_⟩ <;> (repeat (with_reducible (first | exact c1 | exact c2 | exact c3 | exact c4 | refine cell_dr ?_ | refine cell_al _ ?_ | refine cell_stb ?_ ?_ | (show _ ≠ _; omega))))
    have hb := (Below.refl wx0.heap.size wx0).drew
    replace KK := KK.below hb
    replace ZR := ZR.below hb
    replace ZM := ZM.below hb
    replace ZQ := ZQ.below hb
    replace BB := BB.trans (hb.mono BB.size)
    clear hb
    obtain ⟨wd, hwd⟩ : ∃ u, u = wx0.drew := ⟨_, rfl⟩
    have c1 := ZM.c0
    have c2 := ZM.c1
    have c3 := ZQ.c0
    have c4 := ZQ.c1
    rw [← hwd] at KK ZR ZM ZQ BB c1 c2 c3 c4 hHeld ⊢
    clear hwd
    refine wpAnyH_take (i := 0) (v := ?_) rfl (by kernel_rfl) (by kernel_rfl) (by kernel_rfl) (fun _ _ _ h => h) (Or.inl ⟨by kernel_rfl, ?_⟩) hHeld ?_
    rotate_left
    · intro wz hSw; (try dsimp only at hSw); go_simp; all_goals (try with_reducible rfl)
    (try simp only [List.getElem_toArray]); (try simp only [List.getElem_cons_succ]); (try simp only [List.getElem_cons_zero]); (try simp only [Act.put]); (try simp only [List.setIfInBounds_toArray]); (try simp only [List.set_cons_succ]); (try simp only [List.set_cons_zero])
    refine wpAnyH_take (i := 1) (v := ?_) rfl (by kernel_rfl) (by kernel_rfl) (by kernel_rfl) (fun _ _ _ h => h) (Or.inl ⟨by kernel_rfl, ?_⟩) hHeld ?_
    rotate_left
    · intro wz hSw; (try dsimp only at hSw); go_simp; all_goals (try with_reducible rfl)
    (try simp only [List.getElem_toArray]); (try simp only [List.getElem_cons_succ]); (try simp only [List.getElem_cons_zero]); (try simp only [Act.put]); (try simp only [List.setIfInBounds_toArray]); (try simp only [List.set_cons_succ]); (try simp only [List.set_cons_zero])
    refine wpAnyH_take (i := 2) (v := ?_) rfl (by kernel_rfl) (by kernel_rfl) (by kernel_rfl) (fun _ _ _ h => h) (Or.inl ⟨by kernel_rfl, ?_⟩) hHeld ?_
    rotate_left
    · intro wz hSw; (try dsimp only at hSw); go_simp; all_goals (try with_reducible rfl)
    (try simp only [List.getElem_toArray]); (try simp only [List.getElem_cons_succ]); (try simp only [List.getElem_cons_zero]); (try simp only [Act.put]); (try simp only [List.setIfInBounds_toArray]); (try simp only [List.set_cons_succ]); (try simp only [List.set_cons_zero])
    refine wpAnyH_take (i := 3) (v := ?_) rfl (by kernel_rfl) (by kernel_rfl) (by kernel_rfl) (fun _ _ _ h => h) (Or.inl ⟨by kernel_rfl, ?_⟩) hHeld ?_
    rotate_left
    · intro wz hSw; (try dsimp only at hSw); go_simp; all_goals (try with_reducible rfl)
    (try simp only [List.getElem_toArray]); (try simp only [List.getElem_cons_succ]); (try simp only [List.getElem_cons_zero]); (try simp only [Act.put]); (try simp only [List.setIfInBounds_toArray]); (try simp only [List.set_cons_succ]); (try simp only [List.set_cons_zero])
    refine wpAnyH_take (i := 4) (v := ?_) rfl (by kernel_rfl) (by kernel_rfl) (by kernel_rfl) (fun _ _ _ h => h) (Or.inl ⟨by kernel_rfl, ?_⟩) hHeld ?_
    rotate_left
    · intro wz hSw; (try dsimp only at hSw); go_simp; all_goals (try with_reducible rfl)
    (try simp only [List.getElem_toArray]); (try simp only [List.getElem_cons_succ]); (try simp only [List.getElem_cons_zero]); (try simp only [Act.put]); (try simp only [List.setIfInBounds_toArray]); (try simp only [List.set_cons_succ]); (try simp only [List.set_cons_zero])
    refine wpAnyH_ready (rs := [5, 7]) (by kernel_rfl) (by simp) (AllReadyH.cons rfl (fun Kc hKc => ?_) (AllReadyH.cons rfl (fun Kc hKc => ?_) AllReadyH.nil))
    · go_simp
      (go_at_call 31; refine (HM.out _ (by exact KK)).mono ?_; rintro e w3 ⟨rfl, k2, g2⟩)
      replace KK := k2
      have c1 := cell_gP g2 c1 (by omega)
      have c2 := cell_gP g2 c2 (by omega)
      have c3 := cell_gP g2 c3 (by omega)
      have c4 := cell_gP g2 c4 (by omega)
      replace ZR := ZR.grown g2 (by omega)
      replace ZM := ZM.grown g2 (by omega)
      replace ZQ := ZQ.grown g2 (by omega)
      replace BB := BB.trans (below_grownK g2 hwK BB.size)
      have hsz := BB.size
      have hgs := g2.size
      clear g2 k2
      go_wp2_with fail
      refine hKc.out _ _ ?_ (fun hHeld => ?_)
      · (try dsimp only)
        refine ⟨?_, ?_, ?_, ?_⟩ <;> (repeat (with_reducible (first | exact c1 | exact c2 | exact c3 | exact c4 | refine cell_dr ?_ | refine cell_al _ ?_ | refine cell_stb ?_ ?_ | (show _ ≠ _; omega))))
      clear hKc Kc
      (try simp only [List.getElem_toArray]); (try simp only [List.getElem_cons_succ]); (try simp only [List.getElem_cons_zero]); (try simp only [Act.put]); (try simp only [List.setIfInBounds_toArray]); (try simp only [List.set_cons_succ]); (try simp only [List.set_cons_zero])
      refine wpAnyH_ready (rs := [6, 7]) (by kernel_rfl) (by simp) (AllReadyH.cons rfl (fun Kc hKc => ?_) (AllReadyH.cons rfl (fun Kc hKc => ?_) AllReadyH.nil))
      · go_simp
        (go_at_call 30; refine (HS.out _ (by exact KK)).mono ?_; rintro e w4 ⟨rfl, k2, g2⟩)
        replace KK := k2
        have c1 := cell_gP g2 c1 (by omega)
        have c2 := cell_gP g2 c2 (by omega)
        have c3 := cell_gP g2 c3 (by omega)
        have c4 := cell_gP g2 c4 (by omega)
        replace ZR := ZR.grown g2 (by omega)
        replace ZM := ZM.grown g2 (by omega)
        replace ZQ := ZQ.grown g2 (by omega)
        replace BB := BB.trans (below_grownK g2 hwK BB.size)
        have hsz := BB.size
        have hgs := g2.size
        clear g2 k2
        go_wp2_with fail
        refine hKc.out _ _ ?_ (fun hHeld => ?_)
        · (try dsimp only)
          refine ⟨?_, ?_, ?_, ?_⟩ <;> (repeat (with_reducible (first | exact c1 | exact c2 | exact c3 | exact c4 | refine cell_dr ?_ | refine cell_al _ ?_ | refine cell_stb ?_ ?_ | (show _ ≠ _; omega))))
        clear hKc Kc
        (try simp only [List.getElem_toArray]); (try simp only [List.getElem_cons_succ]); (try simp only [List.getElem_cons_zero]); (try simp only [Act.put]); (try simp only [List.setIfInBounds_toArray]); (try simp only [List.set_cons_succ]); (try simp only [List.set_cons_zero])
        refine wpAnyH_ready (rs := [7]) (by kernel_rfl) (by simp) (AllReadyH.cons rfl (fun Kc hKc => ?_) AllReadyH.nil)
        go_simp
        refine hKc.out _ _ ?_ (fun hHeld => ?_)
        · (try dsimp only)
          refine ⟨?_, ?_, ?_, ?_⟩ <;> (repeat (with_reducible (first | exact c1 | exact c2 | exact c3 | exact c4 | refine cell_dr ?_ | refine cell_al _ ?_ | refine cell_stb ?_ ?_ | (show _ ≠ _; omega))))
        clear hKc Kc
        (try simp only [List.getElem_toArray]); (try simp only [List.getElem_cons_succ]); (try simp only [List.getElem_cons_zero]); (try simp only [Act.put]); (try simp only [List.setIfInBounds_toArray]); (try simp only [List.set_cons_succ]); (try simp only [List.set_cons_zero])
        refine wpAnyH_ready (rs := [8]) (by kernel_rfl) (by simp) (AllReadyH.cons rfl (fun Kc hKc => ?_) AllReadyH.nil)
        go_simp
        refine hKc.out _ _ ?_ (fun hHeld => ?_)
        · (try dsimp only)
          refine ⟨?_, ?_, ?_, ?_⟩ <;> (repeat (with_reducible (first | exact c1 | exact c2 | exact c3 | exact c4 | refine cell_dr ?_ | refine cell_al _ ?_ | refine cell_stb ?_ ?_ | (show _ ≠ _; omega))))
        clear hKc Kc
        (try simp only [List.getElem_toArray]); (try simp only [List.getElem_cons_succ]); (try simp only [List.getElem_cons_zero]); (try simp only [Act.put]); (try simp only [List.setIfInBounds_toArray]); (try simp only [List.set_cons_succ]); (try simp only [List.set_cons_zero])
        refine wpAnyH_done (by kernel_rfl) ?_ _
        refine NoPanic.normal ?_
        go_wp2
        go_meet
        case rel => exact ⟨w4.heap.size, rfl, IsR.new w4 v1 v2, KK.below (b0P _ _), ZR.below (b0P _ _), BB.trans ((b0P _ _).mono BB.size)⟩
      · go_simp
        refine hKc.out _ _ ?_ (fun hHeld => ?_)
        · (try dsimp only)
          refine ⟨?_, ?_, ?_, ?_⟩ <;> (repeat (with_reducible (first | exact c1 | exact c2 | exact c3 | exact c4 | refine cell_dr ?_ | refine cell_al _ ?_ | refine cell_stb ?_ ?_ | (show _ ≠ _; omega))))
        clear hKc Kc
        (try simp only [List.getElem_toArray]); (try simp only [List.getElem_cons_succ]); (try simp only [List.getElem_cons_zero]); (try simp only [Act.put]); (try simp only [List.setIfInBounds_toArray]); (try simp only [List.set_cons_succ]); (try simp only [List.set_cons_zero])
        have hb := b0P w3 (.cells #[.int .i64 0, .int .i64 0] 30)
        have ZP := IsR.new w3 0 0
        have hKn : K < w3.heap.size := KK.lt
        have hwn := BB.size
        replace KK := KK.below hb
        replace ZR := ZR.below hb
        replace ZM := ZM.below hb
        replace ZQ := ZQ.below hb
        replace BB := BB.trans (hb.mono BB.size)
        have c1 := cell_al (.cells #[.int .i64 0, .int .i64 0] 30) c1
        have c2 := cell_al (.cells #[.int .i64 0, .int .i64 0] 30) c2
        have c3 := cell_al (.cells #[.int .i64 0, .int .i64 0] 30) c3
        have c4 := cell_al (.cells #[.int .i64 0, .int .i64 0] 30) c4
        clear hb
        refine wpAnyH_ready (rs := [6]) (by kernel_rfl) (by simp) (AllReadyH.cons rfl (fun Kc hKc => ?_) AllReadyH.nil)
        go_simp
        (go_at_call 30; refine (HS.out _ (by exact KK)).mono ?_; rintro e w4 ⟨rfl, k2, g2⟩)
        replace KK := k2
        have c1 := cell_gP g2 c1 (by omega)
        have c2 := cell_gP g2 c2 (by omega)
        have c3 := cell_gP g2 c3 (by omega)
        have c4 := cell_gP g2 c4 (by omega)
        replace ZR := ZR.grown g2 (by omega)
        replace ZM := ZM.grown g2 (by omega)
        replace ZQ := ZQ.grown g2 (by omega)
        replace BB := BB.trans (below_grownK g2 hwK BB.size)
        have hsz := BB.size
        have hgs := g2.size
        replace ZP := ZP.grown g2 (by omega)
        clear g2 k2
        go_wp2_with fail
        refine hKc.out _ _ ?_ (fun hHeld => ?_)
        · (try dsimp only)
          refine ⟨?_, ?_, ?_, ?_⟩ <;> (repeat (with_reducible (first | exact c1 | exact c2 | exact c3 | exact c4 | refine cell_dr ?_ | refine cell_al _ ?_ | refine cell_stb ?_ ?_ | (show _ ≠ _; omega))))
        clear hKc Kc
        (try simp only [List.getElem_toArray]); (try simp only [List.getElem_cons_succ]); (try simp only [List.getElem_cons_zero]); (try simp only [Act.put]); (try simp only [List.setIfInBounds_toArray]); (try simp only [List.set_cons_succ]); (try simp only [List.set_cons_zero])
        have p0 := ZP.c0
        have p1 := ZP.c1
        have p2 := ZP.f0
        have p3 := ZP.f1
        refine wpAnyH_ready (rs := [8]) (by kernel_rfl) (by simp) (AllReadyH.cons rfl (fun Kc hKc => ?_) AllReadyH.nil)
        go_simp
        refine hKc.out _ _ ?_ (fun hHeld => ?_)
        · (try dsimp only)
          refine ⟨?_, ?_, ?_, ?_⟩ <;> (repeat (with_reducible (first | exact c1 | exact c2 | exact c3 | exact c4 | refine cell_dr ?_ | refine cell_al _ ?_ | refine cell_stb ?_ ?_ | (show _ ≠ _; omega))))
        clear hKc Kc
        (try simp only [List.getElem_toArray]); (try simp only [List.getElem_cons_succ]); (try simp only [List.getElem_cons_zero]); (try simp only [Act.put]); (try simp only [List.setIfInBounds_toArray]); (try simp only [List.set_cons_succ]); (try simp only [List.set_cons_zero])
        refine wpAnyH_done (by kernel_rfl) ?_ _
        refine NoPanic.normal ?_
        go_wp2
        go_meet
        case rel => exact ⟨w3.heap.size, rfl, (ZP.set0 v1).set1 v2, (KK.other (by omega) 0 _).other (by omega) 1 _, (ZR.other (by omega) 0 _).other (by omega) 1 _, (BB.setCell (p := ⟨w3.heap.size, 0, none⟩) (by show _ ≤ w3.heap.size; omega) _).setCell (p := ⟨w3.heap.size, 1, none⟩) (by show _ ≤ w3.heap.size; omega) _⟩
    · go_simp
      refine hKc.out _ _ ?_ (fun hHeld => ?_)
      · (try dsimp only)
        refine ⟨?_, ?_, ?_, ?_⟩ <;> (repeat (with_reducible (first | exact c1 | exact c2 | exact c3 | exact c4 | refine cell_dr ?_ | refine cell_al _ ?_ | refine cell_stb ?_ ?_ | (show _ ≠ _; omega))))
      clear hKc Kc
      (try simp only [List.getElem_toArray]); (try simp only [List.getElem_cons_succ]); (try simp only [List.getElem_cons_zero]); (try simp only [Act.put]); (try simp only [List.setIfInBounds_toArray]); (try simp only [List.set_cons_succ]); (try simp only [List.set_cons_zero])
      have hb := b0P wd (.cells #[.int .i64 0, .int .i64 0] 30)
      have ZP := IsR.new wd 0 0
      have hKn : K < wd.heap.size := KK.lt
      have hwn := BB.size
      replace KK := KK.below hb
      replace ZR := ZR.below hb
      replace ZM := ZM.below hb
      replace ZQ := ZQ.below hb
      replace BB := BB.trans (hb.mono BB.size)
      have c1 := cell_al (.cells #[.int .i64 0, .int .i64 0] 30) c1
      have c2 := cell_al (.cells #[.int .i64 0, .int .i64 0] 30) c2
      have c3 := cell_al (.cells #[.int .i64 0, .int .i64 0] 30) c3
      have c4 := cell_al (.cells #[.int .i64 0, .int .i64 0] 30) c4
      clear hb
      refine wpAnyH_ready (rs := [5]) (by kernel_rfl) (by simp) (AllReadyH.cons rfl (fun Kc hKc => ?_) AllReadyH.nil)
      go_simp
      (go_at_call 31; refine (HM.out _ (by exact KK)).mono ?_; rintro e w3 ⟨rfl, k2, g2⟩)
      replace KK := k2
      have c1 := cell_gP g2 c1 (by omega)
      have c2 := cell_gP g2 c2 (by omega)
      have c3 := cell_gP g2 c3 (by omega)
      have c4 := cell_gP g2 c4 (by omega)
      replace ZR := ZR.grown g2 (by omega)
      replace ZM := ZM.grown g2 (by omega)
      replace ZQ := ZQ.grown g2 (by omega)
      replace BB := BB.trans (below_grownK g2 hwK BB.size)
      have hsz := BB.size
      have hgs := g2.size
      replace ZP := ZP.grown g2 (by omega)
      clear g2 k2
      go_wp2_with fail
      refine hKc.out _ _ ?_ (fun hHeld => ?_)
      · (try dsimp only)
        refine ⟨?_, ?_, ?_, ?_⟩ <;> (repeat (with_reducible (first | exact c1 | exact c2 | exact c3 | exact c4 | refine cell_dr ?_ | refine cell_al _ ?_ | refine cell_stb ?_ ?_ | (show _ ≠ _; omega))))
      clear hKc Kc
      (try simp only [List.getElem_toArray]); (try simp only [List.getElem_cons_succ]); (try simp only [List.getElem_cons_zero]); (try simp only [Act.put]); (try simp only [List.setIfInBounds_toArray]); (try simp only [List.set_cons_succ]); (try simp only [List.set_cons_zero])
      refine wpAnyH_ready (rs := [6]) (by kernel_rfl) (by simp) (AllReadyH.cons rfl (fun Kc hKc => ?_) AllReadyH.nil)
      go_simp
      (go_at_call 30; refine (HS.out _ (by exact KK)).mono ?_; rintro e w4 ⟨rfl, k2, g2⟩)
      replace KK := k2
      have c1 := cell_gP g2 c1 (by omega)
      have c2 := cell_gP g2 c2 (by omega)
      have c3 := cell_gP g2 c3 (by omega)
      have c4 := cell_gP g2 c4 (by omega)
      replace ZR := ZR.grown g2 (by omega)
      replace ZM := ZM.grown g2 (by omega)
      replace ZQ := ZQ.grown g2 (by omega)
      replace BB := BB.trans (below_grownK g2 hwK BB.size)
      have hsz := BB.size
      have hgs := g2.size
      replace ZP := ZP.grown g2 (by omega)
      clear g2 k2
      go_wp2_with fail
      refine hKc.out _ _ ?_ (fun hHeld => ?_)
      · (try dsimp only)
        refine ⟨?_, ?_, ?_, ?_⟩ <;> (repeat (with_reducible (first | exact c1 | exact c2 | exact c3 | exact c4 | refine cell_dr ?_ | refine cell_al _ ?_ | refine cell_stb ?_ ?_ | (show _ ≠ _; omega))))
      clear hKc Kc
      (try simp only [List.getElem_toArray]); (try simp only [List.getElem_cons_succ]); (try simp only [List.getElem_cons_zero]); (try simp only [Act.put]); (try simp only [List.setIfInBounds_toArray]); (try simp only [List.set_cons_succ]); (try simp only [List.set_cons_zero])
      have p0 := ZP.c0
      have p1 := ZP.c1
      have p2 := ZP.f0
      have p3 := ZP.f1
      refine wpAnyH_ready (rs := [8]) (by kernel_rfl) (by simp) (AllReadyH.cons rfl (fun Kc hKc => ?_) AllReadyH.nil)
      go_simp
      refine hKc.out _ _ ?_ (fun hHeld => ?_)
      · (try dsimp only)
        refine ⟨?_, ?_, ?_, ?_⟩ <;> (repeat (with_reducible (first | exact c1 | exact c2 | exact c3 | exact c4 | refine cell_dr ?_ | refine cell_al _ ?_ | refine cell_stb ?_ ?_ | (show _ ≠ _; omega))))
      clear hKc Kc
      (try simp only [List.getElem_toArray]); (try simp only [List.getElem_cons_succ]); (try simp only [List.getElem_cons_zero]); (try simp only [Act.put]); (try simp only [List.setIfInBounds_toArray]); (try simp only [List.set_cons_succ]); (try simp only [List.set_cons_zero])
      refine wpAnyH_done (by kernel_rfl) ?_ _
      refine NoPanic.normal ?_
      go_wp2
      go_meet
      case rel => exact ⟨wd.heap.size, rfl, (ZP.set0 v1).set1 v2, (KK.other (by omega) 0 _).other (by omega) 1 _, (ZR.other (by omega) 0 _).other (by omega) 1 _, (BB.setCell (p := ⟨wd.heap.size, 0, none⟩) (by show _ ≤ wd.heap.size; omega) _).setCell (p := ⟨wd.heap.size, 1, none⟩) (by show _ ≤ wd.heap.size; omega) _⟩
  case rest =>
    clear KK ZR ZM ZQ BB HM HS
    obtain ⟨P, rfl, hP, hK, hZ, hB⟩ := hcut
    have BB : Below w.heap.size w wc := hB.out
    have kc := hK.out.cell
    have y0 := hP.out.c0
    have y1 := hP.out.c1
    have z0 := hZ.out.c0
    have z1 := hZ.out.c1
    have z2 := hZ.out.f0
    have z3 := hZ.out.f1
    clear hP hK hZ hB
    cases mo
    · have HA := hidP (vryA_no HVO.out)
      go_wp2
      exact bodyPost_ret (v := .tuple #[.agg #[.int .i64 0, .int .i64 0], .bool false]) (by simp [results, Try.results16, go_sem, z0, z1]) rfl ⟨ret_fb9 (by rw [HA.out]) (by rw [HA.out]) HVO.out.symm, (BB.setCell (p := ⟨w.heap.size, 0, none⟩) (Nat.le_refl _) _).setCell (p := ⟨w.heap.size, 1, none⟩) (Nat.le_refl _) _⟩
    cases qo
    · have HA := hidP (vryA_no HVO.out)
      go_wp2
      exact bodyPost_ret (v := .tuple #[.agg #[.int .i64 0, .int .i64 0], .bool false]) (by simp [results, Try.results16, go_sem, z0, z1]) rfl ⟨ret_fb9 (by rw [HA.out]) (by rw [HA.out]) HVO.out.symm, (BB.setCell (p := ⟨w.heap.size, 0, none⟩) (Nat.le_refl _) _).setCell (p := ⟨w.heap.size, 1, none⟩) (Nat.le_refl _) _⟩
    cases f2
    · have HA := hidP ((vryA_yes HVO.out).trans HVA.out)
      go_wp2
      exact bodyPost_ret (v := .tuple #[.agg #[.int .i64 v1, .int .i64 v2], .bool true]) (by simp [results, Try.results16, go_sem, z0, z1]) rfl ⟨ret_fb9 (by rw [HA.out]) (by rw [HA.out]) HVO.out.symm, (BB.setCell (p := ⟨w.heap.size, 0, none⟩) (Nat.le_refl _) _).setCell (p := ⟨w.heap.size, 1, none⟩) (Nat.le_refl _) _⟩
    · have HA := hidP (vryA_no HVO.out)
      go_wp2
      exact bodyPost_ret (v := .tuple #[.agg #[.int .i64 0, .int .i64 0], .bool false]) (by simp [results, Try.results16, go_sem, z0, z1]) rfl ⟨ret_fb9 (by rw [HA.out]) (by rw [HA.out]) HVO.out.symm, (BB.setCell (p := ⟨w.heap.size, 0, none⟩) (Nat.le_refl _) _).setCell (p := ⟨w.heap.size, 1, none⟩) (Nat.le_refl _) _⟩
end Go.Proofs.Ytgboaeokbglgdaa
