/- The walk of the program's Vary. -/
import Derived.Test.YtgboaeokbglgdaaPtI2
import Derived.Test.YtgboaeokbglgdaaPtW4
namespace Go.Proofs.Ytgboaeokbglgdaa
open Go.RowKit Go.Proofs.Ytgboaeokbglgdaa.RM

theorem red_no0 {n d : Int} (h : redOk n d = false) : redN n d = 0 ∧ redD n d = 0 := by unfold redN redD; rw [h]; exact ⟨rfl, rfl⟩
theorem ok_00 : okB 0 0 = false := okB_no (fun k => by omega)
theorem opP_no {t : Bool} {x y : Int} (h : opOk t x y = false) : opN t x y = 0 ∧ opD t x y = 0 := by
  cases t
  · exact ⟨rfl, rfl⟩
  · exact red_no0 h
theorem mulP_none {x y : Fr} (h : mulK x y = false) : mulP x y = (0, 0) := by
  have := opP_no h
  unfold mulP; rw [this.1, this.2]
theorem subP_none {x y : Fr} (h : subK x y = false) : subP x y = (0, 0) := by
  have := opP_no h
  unfold subP; rw [this.1, this.2]
theorem subK_r0 (q : Fr) : subK q (0, 0) = false := by
  unfold subK
  rw [two_no2 ok_00]; rfl
theorem subK_l0 (q : Fr) : subK (0, 0) q = false := by
  unfold subK
  rw [two_no1 ok_00]; rfl
theorem mulK_r0 (q : Fr) : mulK q (0, 0) = false := by
  unfold mulK
  rw [two_no2 ok_00]; rfl
theorem mom_no0 {ps : List Fr} {p : Nat} (h : (momA ps p).2 = false) : (momA ps p).1 = (0, 0) := by
  have := red_no0 h
  show (redN _ _, redD _ _) = _
  rw [this.1, this.2]
/-- the program's last step tells what the model tells -/
theorem vary_link (ps : List Fr) : subK (wmA ps 2) (mulP (menA ps) (menA ps)) = vryO ps ∧ subP (wmA ps 2) (mulP (menA ps) (menA ps)) = vryA ps := by
  have key : subK (wmA ps 2) (mulP (menA ps) (menA ps)) = vryO ps ∧ (vryO ps = true → subP (wmA ps 2) (mulP (menA ps) (menA ps)) = (vryV (momA ps 2).1 (momA ps 1).1).1) := by
    by_cases hs : sprB ps = true
    · have hq : wmA ps 2 = (momA ps 2).1 := if_pos hs
      have hm : menA ps = (momA ps 1).1 := if_pos hs
      rw [hq, hm]
      by_cases h1 : (momA ps 1).2 = true
      · by_cases h2 : (momA ps 2).2 = true
        · have hv : vryO ps = !(vryV (momA ps 2).1 (momA ps 1).1).2 := by unfold vryO; rw [hs, h1, h2]; rfl
          rw [hv]
          generalize (momA ps 2).1 = q
          generalize (momA ps 1).1 = m
          by_cases hk : mulK m m = true
          · have hp : p1V m m = mulP m m := keepF_yes hk
            have e : vryV q m = (keepF (subK q (mulP m m)) (subP q (mulP m m)), !subK q (mulP m m)) := by
              unfold vryV; rw [hp, hk]; rfl
            rw [e]
            dsimp only
            refine ⟨by simp, fun h => ?_⟩
            rw [Bool.not_not] at h
            exact (keepF_yes h).symm
          · have hk' : mulK m m = false := by simpa using hk
            rw [mulP_none hk', subK_r0]
            have e : (vryV q m).2 = true := by show ((!mulK m m) || !subK q (p1V m m)) = true; rw [hk']; rfl
            rw [e]
            exact ⟨rfl, fun h => by cases h⟩
        · have h2' : (momA ps 2).2 = false := by simpa using h2
          have hv : vryO ps = false := by unfold vryO; rw [hs, h1, h2']; rfl
          rw [hv, mom_no0 h2', subK_l0]
          exact ⟨rfl, fun h => by cases h⟩
      · have h1' : (momA ps 1).2 = false := by simpa using h1
        have hv : vryO ps = false := by unfold vryO; rw [hs, h1']; rfl
        rw [hv, mom_no0 h1', mulP_none (mulK_r0 _), subK_r0]
        exact ⟨rfl, fun h => by cases h⟩
    · have hs' : sprB ps = false := by simpa using hs
      have hq : wmA ps 2 = (0, 0) := if_neg hs
      have hv : vryO ps = false := by unfold vryO; rw [hs']; rfl
      rw [hq, hv, subK_l0]
      exact ⟨rfl, fun h => by cases h⟩
  refine ⟨key.1, ?_⟩
  by_cases h : vryO ps = true
  · rw [key.2 h, vryA_yes h]
  · have h' : vryO ps = false := by simpa using h
    rw [vryA_no h', subP_none (by rw [key.1, h'])]

set_option maxRecDepth 100000 in
set_option maxHeartbeats 4000000 in
theorem iVary_any (v : Value) (ps : List Fr) (w : World) (h : RdR w v ps) :
    Calls Try.prog 8 #[v] w fun e w' => e = .returned (.tuple #[.agg #[.int .i64 (vryA ps).1, .int .i64 (vryA ps).2], .bool (vryO ps)]) ∧ Below w.heap.size w w' := by
  have H1 := hidP (fun W (hW : Below w.heap.size w W) => iWm2_any v ps W (h.below hW))
  have H2 := hidP (fun W (hW : Below w.heap.size w W) => iMean_any v ps W (h.below hW))
  have HL := vary_link ps
  obtain ⟨⟨q1, q2⟩, hq⟩ : ∃ z, z = wmA ps 2 := ⟨_, rfl⟩
  obtain ⟨qo, hqo⟩ : ∃ z, z = wmO ps 2 := ⟨_, rfl⟩
  obtain ⟨⟨m1, m2⟩, hm⟩ : ∃ z, z = menA ps := ⟨_, rfl⟩
  obtain ⟨mo, hmo⟩ : ∃ z, z = menO ps := ⟨_, rfl⟩
  rw [← hq, ← hqo] at H1
  rw [← hm, ← hmo] at H2
  rw [← hq, ← hm] at HL
  dsimp only at H1 H2
  have H3 : Hid (∀ W, Calls Try.prog 24 #[.agg #[.int .i64 m1, .int .i64 m2], .agg #[.int .i64 m1, .int .i64 m2]] W fun e w' => e = .returned (.tuple #[.agg #[.int .i64 (mulP (m1, m2) (m1, m2)).1, .int .i64 (mulP (m1, m2) (m1, m2)).2], .bool (mulK (m1, m2) (m1, m2))]) ∧ Below W.heap.size W w') := fun W => iMul_any m1 m2 m1 m2 W
  obtain ⟨⟨s1, s2⟩, hs⟩ : ∃ z, z = mulP (m1, m2) (m1, m2) := ⟨_, rfl⟩
  obtain ⟨so, hso⟩ : ∃ z, z = mulK (m1, m2) (m1, m2) := ⟨_, rfl⟩
  rw [← hs] at HL
  rw [← hs, ← hso] at H3
  dsimp only at H3
  have H4 : Hid (∀ W, Calls Try.prog 25 #[.agg #[.int .i64 q1, .int .i64 q2], .agg #[.int .i64 s1, .int .i64 s2]] W fun e w' => e = .returned (.tuple #[.agg #[.int .i64 (subP (q1, q2) (s1, s2)).1, .int .i64 (subP (q1, q2) (s1, s2)).2], .bool (subK (q1, q2) (s1, s2))]) ∧ Below W.heap.size W w') := fun W => iSub_any q1 q2 s1 s2 W
  rw [HL.1, HL.2] at H4
  obtain ⟨⟨v1, v2⟩, hv⟩ : ∃ z, z = vryA ps := ⟨_, rfl⟩
  obtain ⟨vo, hvo⟩ : ∃ z, z = vryO ps := ⟨_, rfl⟩
  rw [← hv, ← hvo] at H4 ⊢
  dsimp only at H4 ⊢
  clear HL hq hqo hm hmo hs hso hv hvo
  obtain ⟨a, c, rfl, _⟩ := h
  have BB : Below w.heap.size w (w.alloc (.cells #[.int .i64 0, .int .i64 0] 30)) := b0P _ _
  have ZR := IsR.new w 0 0
  go_enter Try.func8, Try.ntmps8
  go_wp2_with fail
  refine (H1.out _ BB).mono ?_
  rintro e w1 ⟨rfl, hb⟩
  replace ZR := ZR.below hb
  replace BB := BB.trans (hb.mono BB.size)
  clear hb H1
  have hb := b0P w1 (.cells #[.int .i64 q1, .int .i64 q2] 30)
  go_upto_region 2 with fail
  obtain ⟨Y1, hY⟩ : ∃ Y, Y = w1.alloc (.cells #[.int .i64 q1, .int .i64 q2] 30) := ⟨_, rfl⟩
  obtain ⟨Qb, hQb⟩ : ∃ M, M = w1.heap.size := ⟨_, rfl⟩
  have ZQ : IsR Y1 Qb q1 q2 := by rw [hY, hQb]; exact IsR.new _ _ _
  rw [← hY] at hb
  rw [← hY, ← hQb]
  replace ZR := ZR.below hb
  replace BB := BB.trans (hb.mono BB.size)
  clear hb hY hQb
  go_wp2_with fail
  refine (H2.out _ BB).mono ?_
  rintro e w2 ⟨rfl, hb⟩
  replace ZR := ZR.below hb
  replace ZQ := ZQ.below hb
  replace BB := BB.trans (hb.mono BB.size)
  clear hb H2
  have hb := b0P w2 (.cells #[.int .i64 m1, .int .i64 m2] 30)
  go_upto_region 3 with fail
  obtain ⟨Y2, hY⟩ : ∃ Y, Y = w2.alloc (.cells #[.int .i64 m1, .int .i64 m2] 30) := ⟨_, rfl⟩
  obtain ⟨Mb, hMb⟩ : ∃ M, M = w2.heap.size := ⟨_, rfl⟩
  have ZM : IsR Y2 Mb m1 m2 := by rw [hY, hMb]; exact IsR.new _ _ _
  rw [← hY] at hb
  rw [← hY, ← hMb]
  replace ZR := ZR.below hb
  replace ZQ := ZQ.below hb
  replace BB := BB.trans (hb.mono BB.size)
  clear hb hY hMb
  have c1 := ZM.c0
  have c2 := ZM.c1
  go_wp2_with fail
  refine (H3.out _).mono ?_
  rintro e w3 ⟨rfl, hb⟩
  replace ZR := ZR.below hb
  replace ZQ := ZQ.below hb
  replace BB := BB.trans (hb.mono BB.size)
  clear hb H3 c1 c2
  have hb := b0P w3 (.cells #[.int .i64 s1, .int .i64 s2] 30)
  go_upto_region 4 with fail
  obtain ⟨Y3, hY⟩ : ∃ Y, Y = w3.alloc (.cells #[.int .i64 s1, .int .i64 s2] 30) := ⟨_, rfl⟩
  obtain ⟨Sb, hSb⟩ : ∃ M, M = w3.heap.size := ⟨_, rfl⟩
  have ZS : IsR Y3 Sb s1 s2 := by rw [hY, hSb]; exact IsR.new _ _ _
  rw [← hY] at hb
  rw [← hY, ← hSb]
  replace ZR := ZR.below hb
  replace ZQ := ZQ.below hb
  replace BB := BB.trans (hb.mono BB.size)
  clear hb hY hSb
  have c1 := ZQ.c0
  have c2 := ZQ.c1
  have c3 := ZS.c0
  have c4 := ZS.c1
  go_wp2_with fail
  refine (H4.out _).mono ?_
  rintro e w4 ⟨rfl, hb⟩
  replace ZR := ZR.below hb
  replace BB := BB.trans (hb.mono BB.size)
  clear hb H4 c1 c2 c3 c4
  have z0 := ZR.c0
  have z1 := ZR.c1
  have z2 := ZR.f0
  have z3 := ZR.f1
  go_wp2
  exact bodyPost_ret (v := .tuple #[.agg #[.int .i64 v1, .int .i64 v2], .bool vo]) (by simp [results, Try.results8, go_sem, z0, z1]) rfl ⟨rfl, (BB.setCell (p := ⟨w.heap.size, 0, none⟩) (Nat.le_refl _) _).setCell (p := ⟨w.heap.size, 1, none⟩) (Nat.le_refl _) _⟩
end Go.Proofs.Ytgboaeokbglgdaa
