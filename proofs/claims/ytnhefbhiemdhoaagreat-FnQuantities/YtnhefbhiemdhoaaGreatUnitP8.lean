/- A unit text is read: the walk. -/
import Derived.Test.YtnhefbhiemdhoaaGreatUnitP8a
import Derived.Test.YtnhefbhiemdhoaaGreatUnitB18
namespace Go.Proofs.YtnhefbhiemdhoaaGreat
open Go.RowKit Go.MapKept Go.Proofs.YtnhefbhiemdhoaaGreat.RM

set_option maxRecDepth 100000 in
set_option maxHeartbeats 2000000 in
theorem unitOf_any (s : ByteArray) (w : World) (hs : s.size ≤ 1048576) (ha : ∀ b ∈ s.data.toList, b.toNat < 128) :
    Calls Tryz.prog 27 #[.string s] w fun e w' => e = .returned (.tuple #[uVal ((unitI s.data.toList).getD .zero), .bool (unitI s.data.toList).isSome]) ∧ Below w.heap.size w w' := by
  have b0 : ∀ (u : World) (o : Obj), Below u.heap.size u (u.alloc o) := fun u o => (Below.refl _ _).alloc (Nat.le_refl _) o
  by_cases h1 : s.data.toList = [49]
  · have hy : s.toList = [49] := by rw [ByteArray.toList_eq]; exact h1
    have hu : unitI s.data.toList = some oneV := by rw [unitI, if_pos h1]
    rw [hu]
    clear hu h1 ha
    go_enter Tryz.func27, Tryz.ntmps27
    go_wp2
    refine wp_scope_labels (fun _ _ _ => False) (fun _ _ _ => 0) (fun _ _ _ h => h.elim) ?_
    go_wp2
    rw [jumps_ret]
    exact bodyPost_ret (v := .tuple #[.agg #[.int .i64 1, .int .i64 1, .int .i64 0, .int .i64 0, .int .i64 0, .int .i64 0, .int .i64 0], .bool true]) (by simp [results, Tryz.results27, go_sem]) rfl ⟨rfl, (b0 _ _).alloc (by simp) _⟩
  · obtain ⟨o, ho⟩ : ∃ o, o = unitI s.data.toList := ⟨_, rfl⟩
    have HO : Hid (o = uo (s.data.toList.length + 1) s.data.toList false oneV) := by show _ = _; rw [ho, unitI, if_neg h1]
    have hne : ¬ s.toList = [49] := by rw [ByteArray.toList_eq]; exact h1
    have hnb : (s.toList == [49]) = false := beq_eq_false_iff_ne.2 hne
    rw [← ho]
    clear ho h1 hne
    have HA := hidU ha
    clear ha
    go_enter Tryz.func27, Tryz.ntmps27
    go_wp2
    refine wp_scope_labels (JA w s o) muA ?_ ?_
    · intro l a wr hJ
      obtain ⟨Z, T, M, hJ⟩ := hJ
      match l, hJ with
      | 1, hJ =>
        obtain ⟨⟨v1, v3, v4, v6, v7, v8, v9, v10, v11, v12, v13, v14, v15, v16, v17, v18, v19, v20, v21, v22, v23, v24, v25, v26, v27, v28, v29, v30, v31, v32, v33, v34, v35, v36, v37, v38, rfl⟩, st, u, p, dv, P, n, HOr, hn, HS⟩ := hJ
        refine ⟨_, rfl, ?_⟩
        obtain ⟨m, rfl⟩ : ∃ m, n = m + 1 := ⟨n - 1, by omega⟩
        have HR := hidU (readWord_any T M st u p dv P wr HS.out.1 (show st.data.toList.length ≤ _ from HS.out.2.2.2.2.1) HS.out.2.2.2.1)
        have hUO : uo (m + 1) st.data.toList dv P = if (wordI (hdW st.data.toList)).2 = true then (if (passL 94 (tlW st.data.toList)).2 = true then powU (uo m) (passL 94 (tlW st.data.toList)).1 (wordI (hdW st.data.toList)).1 dv P else partU (uo m) (passL 94 (tlW st.data.toList)).1 (wordI (hdW st.data.toList)).1 1 dv P) else none := rfl
        have hVD := okD_word (hdW st.data.toList)
        obtain ⟨⟨V, vo⟩, hV⟩ : ∃ q, q = wordI (hdW st.data.toList) := ⟨_, rfl⟩
        rw [← hV] at HR hUO hVD
        simp only at HR hUO hVD
        have HO1 := hidU (HOr.out.trans hUO)
        clear hV hUO HOr
        have hVD2 := hidU hVD
        clear hVD
        go_wp2_with fail
        refine HR.out.mono ?_
        rintro e w1 ⟨s1, rfl, hs1, hT1, hg1⟩
        have HS1 := hidU (StU.step HS.out hT1 hg1 hVD2.out HS.out.2.2.1 (by rw [hs1]; exact fun b hb => tlW_mem hb) (by rw [hs1]; exact tlW_len _))
        have hl1 : s1.data.toList.length ≤ st.data.toList.length := by rw [hs1]; exact tlW_len _
        rw [← hs1] at HO1
        clear hT1 hg1 hs1 HR
        cases vo with
        | false =>
          have HON := hidU (show o = none by rw [HO1.out]; simp)
          clear HO1
          go_wp2
          refine wp_goto ?_
          refine (show JA w s o 0 _ _ ∧ muA 0 _ _ < muA 1 _ _ from ?_)
          exact ⟨⟨Z, T, M, ⟨_, _, _, _, _, _, _, _, _, _, _, _, _, _, _, _, _, _, _, _, _, _, _, _, _, _, _, _, _, _, _, _, _, _, _, _, rfl⟩, HON.out, HS1.out.z⟩, by show muU T 0 _ < muU T 1 _; unfold muU; simp; try omega⟩
        | true =>
          have HO2 := hidU (show o = (if (passL 94 s1.data.toList).2 = true then powU (uo m) (passL 94 s1.data.toList).1 V dv P else partU (uo m) (passL 94 s1.data.toList).1 V 1 dv P) by rw [HO1.out, if_pos rfl])
          clear HO1
          have HP := hidU (show Calls Tryz.prog 55 #[.pointer (some ⟨T, 0, none⟩), .int .u8 94] w1 fun e w' => ∃ s', e = .returned (.bool (passL 94 s1.data.toList).2) ∧ s'.data.toList = (passL 94 s1.data.toList).1 ∧ IsT w' T M s' V 1 dv P ∧ w1.grownBy w' (some T) from passes_any T M s1 V 1 dv P 94 w1 HS1.out.1)
          have hpl := passL_len 94 s1.data.toList
          have hpm := fun b => @passL_mem 94 b s1.data.toList
          generalize passL 94 s1.data.toList = q at HP HO2 hpl hpm
          obtain ⟨l2, pb⟩ := q
          simp only at HP HO2 hpl hpm
          go_wp2_with fail
          refine HP.out.mono ?_
          rintro e w2 ⟨s2, rfl, hs2, hT2, hg2⟩
          have HS2 := hidU (StU.step HS1.out hT2 hg2 HS1.out.2.1 HS1.out.2.2.1 (by rw [hs2]; exact hpm) (by rw [hs2]; exact hpl.1))
          have hl2 : s2.data.toList.length ≤ s1.data.toList.length := by rw [hs2]; exact hpl.1
          rw [← hs2] at HO2
          clear hT2 hg2 hs2 HP hpl hpm
          cases pb with
          | true =>
            have HOp := hidU (show o = powU (uo m) s2.data.toList V dv P by rw [HO2.out, if_pos rfl])
            clear HO2
            go_wp2
            refine wp_goto ?_
            refine (show JA w s o 2 _ _ ∧ muA 2 _ _ < muA 1 _ _ from ?_)
            exact ⟨⟨Z, T, M, ⟨_, _, _, _, _, _, _, _, _, _, _, _, _, _, _, _, _, _, _, _, _, _, _, _, _, _, _, _, _, _, _, _, _, _, _, _, rfl⟩, _, _, _, _, _, m, HOp.out, by omega, HS2.out⟩, by show muU T 2 _ < muU T 1 _; unfold muU; rw [restN_is HS2.out.1, restN_is HS.out.1, if_neg (by decide), if_neg (by decide), if_neg (by decide), if_pos rfl]; omega⟩
          | false =>
            have HOp := hidU (show o = partU (uo m) s2.data.toList V 1 dv P by rw [HO2.out, if_neg (by simp)])
            clear HO2
            go_wp2
            refine wp_goto ?_
            refine (show JA w s o 3 _ _ ∧ muA 3 _ _ < muA 1 _ _ from ?_)
            exact ⟨⟨Z, T, M, ⟨_, _, _, _, _, _, _, _, _, _, _, _, _, _, _, _, _, _, _, _, _, _, _, _, _, _, _, _, _, _, _, _, _, _, _, _, rfl⟩, _, _, _, _, _, m, HOp.out, by omega, ⟨by decide, by decide⟩, HS2.out⟩, by show muU T 3 _ < muU T 1 _; unfold muU; rw [restN_is HS2.out.1, restN_is HS.out.1, if_neg (by decide), if_neg (by decide), if_neg (by decide), if_pos rfl]; omega⟩
      | 2, hJ =>
        obtain ⟨⟨v1, v3, v4, v6, v7, v8, v9, v10, v11, v12, v13, v14, v15, v16, v17, v18, v19, v20, v21, v22, v23, v24, v25, v26, v27, v28, v29, v30, v31, v32, v33, v34, v35, v36, v37, v38, rfl⟩, st, u, p0, dv, P, m, HOr, hn, HS⟩ := hJ
        refine ⟨_, rfl, ?_⟩
        have HPw := hidU (readPower_any T M st u p0 dv P wr HS.out.1)
        go_wp2_with fail
        refine HPw.out.mono ?_
        rintro e w1 ⟨s1, p, rfl, hT1, hg1, hq1⟩
        cases hpw : powL st.data.toList with
        | none =>
          have HON := hidU (show o = none by rw [HOr.out, powU, hpw])
          clear HOr hpw
          go_wp2
          refine wp_goto ?_
          refine (show JA w s o 0 _ _ ∧ muA 0 _ _ < muA 2 _ _ from ?_)
          exact ⟨⟨Z, T, M, ⟨_, _, _, _, _, _, _, _, _, _, _, _, _, _, _, _, _, _, _, _, _, _, _, _, _, _, _, _, _, _, _, _, _, _, _, _, rfl⟩, HON.out, HS.out.zg hg1⟩, by show muU T 0 _ < muU T 2 _; unfold muU; simp; try omega⟩
        | some q =>
          obtain ⟨rfl, hs1⟩ := hq1 q hpw
          obtain ⟨hp1, hp2, hp3, hp4⟩ := powL_out hpw
          have HSx := hidU (StU.step HS.out hT1 hg1 HS.out.2.1 HS.out.2.2.1 (by rw [hs1]; exact hp4) (by rw [hs1]; exact hp3))
          have hlx : s1.data.toList.length ≤ st.data.toList.length := by rw [hs1]; exact hp3
          have HOx := hidU (show o = partU (uo m) s1.data.toList u q.1 dv P by rw [HOr.out, powU, hpw, hs1])
          have hpx : q.1 ≠ 0 ∧ -9 ≤ q.1 ∧ q.1 ≤ 9 := ⟨hp1, hp2⟩
          generalize q.1 = p at HSx HOx hpx
          clear hpw hs1 hp1 hp2 hp3 hp4 hq1 hT1 hg1 HOr HPw
          go_wp2
          go_step3
          have HMu := hidU (multiply_any T M s1 u p dv P w1 HSx.out.1 hpx.1 hpx.2 HSx.out.2.1 HSx.out.2.2.1)
          go_wp2_with fail
          refine HMu.out.mono ?_
          rintro e w3 ⟨P2, rfl, hT3, hg3, hq⟩
          cases hmp : mulP u p dv P with
          | none =>
            have HON := hidU (show o = none by rw [HOx.out, partU, hmp])
            clear hq hmp HMu HOx
            go_wp2
            refine wp_goto ?_
            refine (show JA w s o 0 _ _ ∧ muA 0 _ _ < muA 2 _ _ from ?_)
            exact ⟨⟨Z, T, M, ⟨_, _, _, _, _, _, _, _, _, _, _, _, _, _, _, _, _, _, _, _, _, _, _, _, _, _, _, _, _, _, _, _, _, _, _, _, rfl⟩, HON.out, HSx.out.zg hg3⟩, by show muU T 0 _ < muU T 2 _; unfold muU; simp; try omega⟩
          | some Q =>
            obtain ⟨rfl, hQ⟩ := hq Q hmp
            have HOQ := hidU (show o = (match s1.data.toList with | [] => some P2 | b :: r' => if b = 46 then uo m r' dv P2 else if b = 47 ∧ dv = false then uo m r' true P2 else none) by rw [HOx.out, partU, hmp]; rfl)
            have HS3 := hidU (StU.step HSx.out hT3 hg3 HSx.out.2.1 hQ (fun b hb => hb) (Nat.le_refl _))
            have c1 := HS3.out.1.1.cell (v := .string s1) 1 rfl
            have c10 := HS3.out.1.1.cell (v := .bool dv) 10 rfl
            have f10 := HS3.out.1.1.frozen 10
            clear hT3 hg3 hq hQ hmp HMu HOx
            cases hl : s1.data.toList with
            | nil =>
              have he := emp_nil hl
              have HSO := hidU (show o = some P2 by rw [HOQ.out, hl])
              clear HOQ hl
              obtain ⟨rn, rd, rx0, rx1, rx2, rx3, rx4⟩ := P2
              have hZ := HS3.out.2.2.2.2.2.1
              have hZw := HS3.out.2.2.2.2.2.2.2.2.1
              have HZ5 := hidU (IsB.seven ⟨rn, rd, rx0, rx1, rx2, rx3, rx4⟩ hZ)
              have HB5 := hidU ((((((((HS3.out.2.2.2.2.2.2.1.setCell (p := ⟨Z, 0, none⟩) hZw (.int .i64 rn)).setCell (p := ⟨Z, 1, none⟩) hZw (.int .i64 rd)).setCell (p := ⟨Z, 2, none⟩) hZw (.int .i64 rx0)).setCell (p := ⟨Z, 3, none⟩) hZw (.int .i64 rx1)).setCell (p := ⟨Z, 4, none⟩) hZw (.int .i64 rx2)).setCell (p := ⟨Z, 5, none⟩) hZw (.int .i64 rx3)).setCell (p := ⟨Z, 6, none⟩) hZw (.int .i64 rx4)))
              have z0 := hZ.cell (v := .int .i64 0) 0 rfl
              have z1 := hZ.cell (v := .int .i64 0) 1 rfl
              have z2 := hZ.cell (v := .int .i64 0) 2 rfl
              have z3 := hZ.cell (v := .int .i64 0) 3 rfl
              have z4 := hZ.cell (v := .int .i64 0) 4 rfl
              have z5 := hZ.cell (v := .int .i64 0) 5 rfl
              have z6 := hZ.cell (v := .int .i64 0) 6 rfl
              have fz0 := hZ.frozen 0
              have fz1 := hZ.frozen 1
              have fz2 := hZ.frozen 2
              have fz3 := hZ.frozen 3
              have fz4 := hZ.frozen 4
              have fz5 := hZ.frozen 5
              have fz6 := hZ.frozen 6
              have b0' := HS3.out.1.1.cell (v := .int .i64 rn) 11 rfl
              have b1' := HS3.out.1.1.cell (v := .int .i64 rd) 12 rfl
              have b2' := HS3.out.1.1.cell (v := .int .i64 rx0) 13 rfl
              have b3' := HS3.out.1.1.cell (v := .int .i64 rx1) 14 rfl
              have b4' := HS3.out.1.1.cell (v := .int .i64 rx2) 15 rfl
              have b5' := HS3.out.1.1.cell (v := .int .i64 rx3) 16 rfl
              have b6' := HS3.out.1.1.cell (v := .int .i64 rx4) 17 rfl
              clear hZ hZw
              go_wp2
              have q0 := HZ5.out.cell (v := .int .i64 rn) 0 rfl
              have q1 := HZ5.out.cell (v := .int .i64 rd) 1 rfl
              have q2 := HZ5.out.cell (v := .int .i64 rx0) 2 rfl
              have q3 := HZ5.out.cell (v := .int .i64 rx1) 3 rfl
              have q4 := HZ5.out.cell (v := .int .i64 rx2) 4 rfl
              have q5 := HZ5.out.cell (v := .int .i64 rx3) 5 rfl
              have q6 := HZ5.out.cell (v := .int .i64 rx4) 6 rfl
              rw [HSO.out]
              exact bodyPost_ret (v := .tuple #[.agg #[.int .i64 rn, .int .i64 rd, .int .i64 rx0, .int .i64 rx1, .int .i64 rx2, .int .i64 rx3, .int .i64 rx4], .bool true]) (by simp [results, Tryz.results27, go_sem, q0, q1, q2, q3, q4, q5, q6]) rfl ⟨rfl, HB5.out⟩
            | cons b r =>
              obtain ⟨he, hs0, hz1⟩ := emp_cons hl
              have HP := hidU (show Calls Tryz.prog 55 #[.pointer (some ⟨T, 0, none⟩), .int .u8 46] w3 fun e w' => ∃ s', e = .returned (.bool (passL 46 s1.data.toList).2) ∧ s'.data.toList = (passL 46 s1.data.toList).1 ∧ IsT w' T M s' u p dv P2 ∧ w3.grownBy w' (some T) from passes_any T M s1 u p dv P2 46 w3 HS3.out.1)
              rw [hl, passL_cons] at HP
              rw [hl] at HOQ
              by_cases h46 : b = 46
              · rw [if_pos h46] at HP
                have HOR := hidU (show o = uo m r dv P2 by rw [HOQ.out]; simp [h46])
                clear HOQ
                go_wp2_with fail
                refine HP.out.mono ?_
                rintro e w4 ⟨s4, rfl, hs4, hT4, hg4⟩
                have hs4' : s4.data.toList = r := hs4
                have HS4 := hidU (StU.step HS3.out hT4 hg4 HS3.out.2.1 HS3.out.2.2.1 (by rw [hs4', hl]; exact fun c hc => List.mem_cons_of_mem _ hc) (by rw [hs4', hl]; simp))
                have hlen : s4.data.toList.length < s1.data.toList.length := by rw [hs4', hl]; simp
                rw [← hs4'] at HOR
                clear HP hl hs4 hs4' hT4 hg4 c1 c10 f10 he hs0 hz1
                go_wp2
                refine wp_goto ?_
                refine (show JA w s o 1 _ _ ∧ muA 1 _ _ < muA 2 _ _ from ?_)
                exact ⟨⟨Z, T, M, ⟨_, _, _, _, _, _, _, _, _, _, _, _, _, _, _, _, _, _, _, _, _, _, _, _, _, _, _, _, _, _, _, _, _, _, _, _, rfl⟩, _, _, _, _, _, m, HOR.out, by omega, HS4.out⟩, by show muU T 1 _ < muU T 2 _; unfold muU; rw [restN_is HS4.out.1, restN_is HS.out.1, if_neg (by decide), if_pos rfl, if_neg (by decide), if_neg (by decide)]; omega⟩
              · rw [if_neg h46] at HP
                go_wp2_with fail
                refine HP.out.mono ?_
                rintro e w4 ⟨s4, rfl, hs4, hT4, hg4⟩
                have hs4' : s4.data.toList = b :: r := hs4
                have HS4 := hidU (StU.step HS3.out hT4 hg4 HS3.out.2.1 HS3.out.2.2.1 (by rw [hs4', hl]; exact fun c hc => hc) (by rw [hs4', hl]; exact Nat.le_refl _))
                clear HP hs4 hT4 hg4 c1 c10 f10
                have c10 := HS4.out.1.1.cell (v := .bool dv) 10 rfl
                have f10 := HS4.out.1.1.frozen 10
                cases dv with
                | true =>
                  have HON := hidU (show o = none by rw [HOQ.out]; simp [h46])
                  clear HOQ hl
                  have hZ := HS4.out.2.2.2.2.2.1
                  have hZw := HS4.out.2.2.2.2.2.2.2.2.1
                  have HZ5 := hidU (IsB.seven ⟨0, 0, 0, 0, 0, 0, 0⟩ hZ)
                  have HB5 := hidU ((((((((HS4.out.2.2.2.2.2.2.1.setCell (p := ⟨Z, 0, none⟩) hZw (.int .i64 0)).setCell (p := ⟨Z, 1, none⟩) hZw (.int .i64 0)).setCell (p := ⟨Z, 2, none⟩) hZw (.int .i64 0)).setCell (p := ⟨Z, 3, none⟩) hZw (.int .i64 0)).setCell (p := ⟨Z, 4, none⟩) hZw (.int .i64 0)).setCell (p := ⟨Z, 5, none⟩) hZw (.int .i64 0)).setCell (p := ⟨Z, 6, none⟩) hZw (.int .i64 0)))
                  have z0 := hZ.cell (v := .int .i64 0) 0 rfl
                  have z1 := hZ.cell (v := .int .i64 0) 1 rfl
                  have z2 := hZ.cell (v := .int .i64 0) 2 rfl
                  have z3 := hZ.cell (v := .int .i64 0) 3 rfl
                  have z4 := hZ.cell (v := .int .i64 0) 4 rfl
                  have z5 := hZ.cell (v := .int .i64 0) 5 rfl
                  have z6 := hZ.cell (v := .int .i64 0) 6 rfl
                  have fz0 := hZ.frozen 0
                  have fz1 := hZ.frozen 1
                  have fz2 := hZ.frozen 2
                  have fz3 := hZ.frozen 3
                  have fz4 := hZ.frozen 4
                  have fz5 := hZ.frozen 5
                  have fz6 := hZ.frozen 6
                  clear hZ hZw
                  go_wp2
                  go_step3
                  go_wp2
                  have q0 := HZ5.out.cell (v := .int .i64 0) 0 rfl
                  have q1 := HZ5.out.cell (v := .int .i64 0) 1 rfl
                  have q2 := HZ5.out.cell (v := .int .i64 0) 2 rfl
                  have q3 := HZ5.out.cell (v := .int .i64 0) 3 rfl
                  have q4 := HZ5.out.cell (v := .int .i64 0) 4 rfl
                  have q5 := HZ5.out.cell (v := .int .i64 0) 5 rfl
                  have q6 := HZ5.out.cell (v := .int .i64 0) 6 rfl
                  rw [HON.out]
                  exact bodyPost_ret (v := .tuple #[.agg #[.int .i64 0, .int .i64 0, .int .i64 0, .int .i64 0, .int .i64 0, .int .i64 0, .int .i64 0], .bool false]) (by simp [results, Tryz.results27, go_sem, q0, q1, q2, q3, q4, q5, q6]) rfl ⟨rfl, HB5.out⟩
                | false =>
                  have HP := hidU (show Calls Tryz.prog 55 #[.pointer (some ⟨T, 0, none⟩), .int .u8 47] w4 fun e w' => ∃ s', e = .returned (.bool (passL 47 s4.data.toList).2) ∧ s'.data.toList = (passL 47 s4.data.toList).1 ∧ IsT w' T M s' u p false P2 ∧ w4.grownBy w' (some T) from passes_any T M s4 u p false P2 47 w4 HS4.out.1)
                  rw [hs4', passL_cons] at HP
                  by_cases h47 : b = 47
                  · rw [if_pos h47] at HP
                    have HOR := hidU (show o = uo m r true P2 by rw [HOQ.out]; simp [h47])
                    clear HOQ
                    go_wp2_with fail
                    refine HP.out.mono ?_
                    rintro e w5 ⟨s5, rfl, hs5, hT5, hg5⟩
                    have hs5' : s5.data.toList = r := hs5
                    have HS5 := hidU (StU.step HS4.out (hT5.divides true) (hg5.trans (set_grown _ _ _ _)) HS4.out.2.1 HS4.out.2.2.1 (by rw [hs5', hs4']; exact fun c hc => List.mem_cons_of_mem _ hc) (by rw [hs5', hs4']; simp))
                    have hlen : s5.data.toList.length < s1.data.toList.length := by rw [hs5', hl]; simp
                    have c10 := hT5.1.cell (v := .bool false) 10 rfl
                    have f10 := hT5.1.frozen 10
                    rw [← hs5'] at HOR
                    clear HP hl hs5 hs5' hT5 hg5 he hs0 hz1
                    go_wp2
                    refine wp_goto ?_
                    refine (show JA w s o 1 _ _ ∧ muA 1 _ _ < muA 2 _ _ from ?_)
                    exact ⟨⟨Z, T, M, ⟨_, _, _, _, _, _, _, _, _, _, _, _, _, _, _, _, _, _, _, _, _, _, _, _, _, _, _, _, _, _, _, _, _, _, _, _, rfl⟩, _, _, _, _, _, m, HOR.out, by omega, HS5.out⟩, by show muU T 1 _ < muU T 2 _; unfold muU; rw [restN_is HS5.out.1, restN_is HS.out.1, if_neg (by decide), if_pos rfl, if_neg (by decide), if_neg (by decide)]; omega⟩
                  · rw [if_neg h47] at HP
                    have HON := hidU (show o = none by rw [HOQ.out]; simp [h46, h47])
                    clear HOQ
                    go_wp2_with fail
                    refine HP.out.mono ?_
                    rintro e w5 ⟨s5, rfl, hs5, hT5, hg5⟩
                    have hs5' : s5.data.toList = b :: r := hs5
                    have HS5 := hidU (StU.step HS4.out hT5 hg5 HS4.out.2.1 HS4.out.2.2.1 (by rw [hs5', hs4']; exact fun c hc => hc) (by rw [hs5', hs4']; exact Nat.le_refl _))
                    clear HP hl hs5 hT5 hg5 c10 f10
                    have hZ := HS5.out.2.2.2.2.2.1
                    have hZw := HS5.out.2.2.2.2.2.2.2.2.1
                    have HZ5 := hidU (IsB.seven ⟨0, 0, 0, 0, 0, 0, 0⟩ hZ)
                    have HB5 := hidU ((((((((HS5.out.2.2.2.2.2.2.1.setCell (p := ⟨Z, 0, none⟩) hZw (.int .i64 0)).setCell (p := ⟨Z, 1, none⟩) hZw (.int .i64 0)).setCell (p := ⟨Z, 2, none⟩) hZw (.int .i64 0)).setCell (p := ⟨Z, 3, none⟩) hZw (.int .i64 0)).setCell (p := ⟨Z, 4, none⟩) hZw (.int .i64 0)).setCell (p := ⟨Z, 5, none⟩) hZw (.int .i64 0)).setCell (p := ⟨Z, 6, none⟩) hZw (.int .i64 0)))
                    have z0 := hZ.cell (v := .int .i64 0) 0 rfl
                    have z1 := hZ.cell (v := .int .i64 0) 1 rfl
                    have z2 := hZ.cell (v := .int .i64 0) 2 rfl
                    have z3 := hZ.cell (v := .int .i64 0) 3 rfl
                    have z4 := hZ.cell (v := .int .i64 0) 4 rfl
                    have z5 := hZ.cell (v := .int .i64 0) 5 rfl
                    have z6 := hZ.cell (v := .int .i64 0) 6 rfl
                    have fz0 := hZ.frozen 0
                    have fz1 := hZ.frozen 1
                    have fz2 := hZ.frozen 2
                    have fz3 := hZ.frozen 3
                    have fz4 := hZ.frozen 4
                    have fz5 := hZ.frozen 5
                    have fz6 := hZ.frozen 6
                    clear hZ hZw
                    go_wp2
                    go_step3
                    go_wp2
                    have q0 := HZ5.out.cell (v := .int .i64 0) 0 rfl
                    have q1 := HZ5.out.cell (v := .int .i64 0) 1 rfl
                    have q2 := HZ5.out.cell (v := .int .i64 0) 2 rfl
                    have q3 := HZ5.out.cell (v := .int .i64 0) 3 rfl
                    have q4 := HZ5.out.cell (v := .int .i64 0) 4 rfl
                    have q5 := HZ5.out.cell (v := .int .i64 0) 5 rfl
                    have q6 := HZ5.out.cell (v := .int .i64 0) 6 rfl
                    rw [HON.out]
                    exact bodyPost_ret (v := .tuple #[.agg #[.int .i64 0, .int .i64 0, .int .i64 0, .int .i64 0, .int .i64 0, .int .i64 0, .int .i64 0], .bool false]) (by simp [results, Tryz.results27, go_sem, q0, q1, q2, q3, q4, q5, q6]) rfl ⟨rfl, HB5.out⟩
      | 3, hJ =>
        obtain ⟨⟨v1, v3, v4, v6, v7, v8, v9, v10, v11, v12, v13, v14, v15, v16, v17, v18, v19, v20, v21, v22, v23, v24, v25, v26, v27, v28, v29, v30, v31, v32, v33, v34, v35, v36, v37, v38, rfl⟩, st, u, p, dv, P, m, HOr, hn, hpx, HS⟩ := hJ
        refine ⟨_, rfl, ?_⟩
        have HMu := hidU (multiply_any T M st u p dv P wr HS.out.1 hpx.1 hpx.2 HS.out.2.1 HS.out.2.2.1)
        go_wp2_with fail
        refine HMu.out.mono ?_
        rintro e w3 ⟨P2, rfl, hT3, hg3, hq⟩
        cases hmp : mulP u p dv P with
        | none =>
          have HON := hidU (show o = none by rw [HOr.out, partU, hmp])
          clear hq hmp HMu HOr
          go_wp2
          refine wp_goto ?_
          refine (show JA w s o 0 _ _ ∧ muA 0 _ _ < muA 3 _ _ from ?_)
          exact ⟨⟨Z, T, M, ⟨_, _, _, _, _, _, _, _, _, _, _, _, _, _, _, _, _, _, _, _, _, _, _, _, _, _, _, _, _, _, _, _, _, _, _, _, rfl⟩, HON.out, HS.out.zg hg3⟩, by show muU T 0 _ < muU T 3 _; unfold muU; simp; try omega⟩
        | some Q =>
          obtain ⟨rfl, hQ⟩ := hq Q hmp
          have HOQ := hidU (show o = (match st.data.toList with | [] => some P2 | b :: r' => if b = 46 then uo m r' dv P2 else if b = 47 ∧ dv = false then uo m r' true P2 else none) by rw [HOr.out, partU, hmp]; rfl)
          have HS3 := hidU (StU.step HS.out hT3 hg3 HS.out.2.1 hQ (fun b hb => hb) (Nat.le_refl _))
          have c1 := HS3.out.1.1.cell (v := .string st) 1 rfl
          have c10 := HS3.out.1.1.cell (v := .bool dv) 10 rfl
          have f10 := HS3.out.1.1.frozen 10
          clear hT3 hg3 hq hQ hmp HMu HOr
          cases hl : st.data.toList with
          | nil =>
            have he := emp_nil hl
            have HSO := hidU (show o = some P2 by rw [HOQ.out, hl])
            clear HOQ hl
            obtain ⟨rn, rd, rx0, rx1, rx2, rx3, rx4⟩ := P2
            have hZ := HS3.out.2.2.2.2.2.1
            have hZw := HS3.out.2.2.2.2.2.2.2.2.1
            have HZ5 := hidU (IsB.seven ⟨rn, rd, rx0, rx1, rx2, rx3, rx4⟩ hZ)
            have HB5 := hidU ((((((((HS3.out.2.2.2.2.2.2.1.setCell (p := ⟨Z, 0, none⟩) hZw (.int .i64 rn)).setCell (p := ⟨Z, 1, none⟩) hZw (.int .i64 rd)).setCell (p := ⟨Z, 2, none⟩) hZw (.int .i64 rx0)).setCell (p := ⟨Z, 3, none⟩) hZw (.int .i64 rx1)).setCell (p := ⟨Z, 4, none⟩) hZw (.int .i64 rx2)).setCell (p := ⟨Z, 5, none⟩) hZw (.int .i64 rx3)).setCell (p := ⟨Z, 6, none⟩) hZw (.int .i64 rx4)))
            have z0 := hZ.cell (v := .int .i64 0) 0 rfl
            have z1 := hZ.cell (v := .int .i64 0) 1 rfl
            have z2 := hZ.cell (v := .int .i64 0) 2 rfl
            have z3 := hZ.cell (v := .int .i64 0) 3 rfl
            have z4 := hZ.cell (v := .int .i64 0) 4 rfl
            have z5 := hZ.cell (v := .int .i64 0) 5 rfl
            have z6 := hZ.cell (v := .int .i64 0) 6 rfl
            have fz0 := hZ.frozen 0
            have fz1 := hZ.frozen 1
            have fz2 := hZ.frozen 2
            have fz3 := hZ.frozen 3
            have fz4 := hZ.frozen 4
            have fz5 := hZ.frozen 5
            have fz6 := hZ.frozen 6
            have b0' := HS3.out.1.1.cell (v := .int .i64 rn) 11 rfl
            have b1' := HS3.out.1.1.cell (v := .int .i64 rd) 12 rfl
            have b2' := HS3.out.1.1.cell (v := .int .i64 rx0) 13 rfl
            have b3' := HS3.out.1.1.cell (v := .int .i64 rx1) 14 rfl
            have b4' := HS3.out.1.1.cell (v := .int .i64 rx2) 15 rfl
            have b5' := HS3.out.1.1.cell (v := .int .i64 rx3) 16 rfl
            have b6' := HS3.out.1.1.cell (v := .int .i64 rx4) 17 rfl
            clear hZ hZw
            go_wp2
            have q0 := HZ5.out.cell (v := .int .i64 rn) 0 rfl
            have q1 := HZ5.out.cell (v := .int .i64 rd) 1 rfl
            have q2 := HZ5.out.cell (v := .int .i64 rx0) 2 rfl
            have q3 := HZ5.out.cell (v := .int .i64 rx1) 3 rfl
            have q4 := HZ5.out.cell (v := .int .i64 rx2) 4 rfl
            have q5 := HZ5.out.cell (v := .int .i64 rx3) 5 rfl
            have q6 := HZ5.out.cell (v := .int .i64 rx4) 6 rfl
            rw [HSO.out]
            exact bodyPost_ret (v := .tuple #[.agg #[.int .i64 rn, .int .i64 rd, .int .i64 rx0, .int .i64 rx1, .int .i64 rx2, .int .i64 rx3, .int .i64 rx4], .bool true]) (by simp [results, Tryz.results27, go_sem, q0, q1, q2, q3, q4, q5, q6]) rfl ⟨rfl, HB5.out⟩
          | cons b r =>
            obtain ⟨he, hs0, hz1⟩ := emp_cons hl
            have HP := hidU (show Calls Tryz.prog 55 #[.pointer (some ⟨T, 0, none⟩), .int .u8 46] w3 fun e w' => ∃ s', e = .returned (.bool (passL 46 st.data.toList).2) ∧ s'.data.toList = (passL 46 st.data.toList).1 ∧ IsT w' T M s' u p dv P2 ∧ w3.grownBy w' (some T) from passes_any T M st u p dv P2 46 w3 HS3.out.1)
            rw [hl, passL_cons] at HP
            rw [hl] at HOQ
            by_cases h46 : b = 46
            · rw [if_pos h46] at HP
              have HOR := hidU (show o = uo m r dv P2 by rw [HOQ.out]; simp [h46])
              clear HOQ
              go_wp2_with fail
              refine HP.out.mono ?_
              rintro e w4 ⟨s4, rfl, hs4, hT4, hg4⟩
              have hs4' : s4.data.toList = r := hs4
              have HS4 := hidU (StU.step HS3.out hT4 hg4 HS3.out.2.1 HS3.out.2.2.1 (by rw [hs4', hl]; exact fun c hc => List.mem_cons_of_mem _ hc) (by rw [hs4', hl]; simp))
              have hlen : s4.data.toList.length < st.data.toList.length := by rw [hs4', hl]; simp
              rw [← hs4'] at HOR
              clear HP hl hs4 hs4' hT4 hg4 c1 c10 f10 he hs0 hz1
              go_wp2
              refine wp_goto ?_
              refine (show JA w s o 1 _ _ ∧ muA 1 _ _ < muA 3 _ _ from ?_)
              exact ⟨⟨Z, T, M, ⟨_, _, _, _, _, _, _, _, _, _, _, _, _, _, _, _, _, _, _, _, _, _, _, _, _, _, _, _, _, _, _, _, _, _, _, _, rfl⟩, _, _, _, _, _, m, HOR.out, by omega, HS4.out⟩, by show muU T 1 _ < muU T 3 _; unfold muU; rw [restN_is HS4.out.1, restN_is HS.out.1, if_neg (by decide), if_pos rfl, if_neg (by decide), if_neg (by decide)]; omega⟩
            · rw [if_neg h46] at HP
              go_wp2_with fail
              refine HP.out.mono ?_
              rintro e w4 ⟨s4, rfl, hs4, hT4, hg4⟩
              have hs4' : s4.data.toList = b :: r := hs4
              have HS4 := hidU (StU.step HS3.out hT4 hg4 HS3.out.2.1 HS3.out.2.2.1 (by rw [hs4', hl]; exact fun c hc => hc) (by rw [hs4', hl]; exact Nat.le_refl _))
              clear HP hs4 hT4 hg4 c1 c10 f10
              have c10 := HS4.out.1.1.cell (v := .bool dv) 10 rfl
              have f10 := HS4.out.1.1.frozen 10
              cases dv with
              | true =>
                have HON := hidU (show o = none by rw [HOQ.out]; simp [h46])
                clear HOQ hl
                have hZ := HS4.out.2.2.2.2.2.1
                have hZw := HS4.out.2.2.2.2.2.2.2.2.1
                have HZ5 := hidU (IsB.seven ⟨0, 0, 0, 0, 0, 0, 0⟩ hZ)
                have HB5 := hidU ((((((((HS4.out.2.2.2.2.2.2.1.setCell (p := ⟨Z, 0, none⟩) hZw (.int .i64 0)).setCell (p := ⟨Z, 1, none⟩) hZw (.int .i64 0)).setCell (p := ⟨Z, 2, none⟩) hZw (.int .i64 0)).setCell (p := ⟨Z, 3, none⟩) hZw (.int .i64 0)).setCell (p := ⟨Z, 4, none⟩) hZw (.int .i64 0)).setCell (p := ⟨Z, 5, none⟩) hZw (.int .i64 0)).setCell (p := ⟨Z, 6, none⟩) hZw (.int .i64 0)))
                have z0 := hZ.cell (v := .int .i64 0) 0 rfl
                have z1 := hZ.cell (v := .int .i64 0) 1 rfl
                have z2 := hZ.cell (v := .int .i64 0) 2 rfl
                have z3 := hZ.cell (v := .int .i64 0) 3 rfl
                have z4 := hZ.cell (v := .int .i64 0) 4 rfl
                have z5 := hZ.cell (v := .int .i64 0) 5 rfl
                have z6 := hZ.cell (v := .int .i64 0) 6 rfl
                have fz0 := hZ.frozen 0
                have fz1 := hZ.frozen 1
                have fz2 := hZ.frozen 2
                have fz3 := hZ.frozen 3
                have fz4 := hZ.frozen 4
                have fz5 := hZ.frozen 5
                have fz6 := hZ.frozen 6
                clear hZ hZw
                go_wp2
                go_step3
                go_wp2
                have q0 := HZ5.out.cell (v := .int .i64 0) 0 rfl
                have q1 := HZ5.out.cell (v := .int .i64 0) 1 rfl
                have q2 := HZ5.out.cell (v := .int .i64 0) 2 rfl
                have q3 := HZ5.out.cell (v := .int .i64 0) 3 rfl
                have q4 := HZ5.out.cell (v := .int .i64 0) 4 rfl
                have q5 := HZ5.out.cell (v := .int .i64 0) 5 rfl
                have q6 := HZ5.out.cell (v := .int .i64 0) 6 rfl
                rw [HON.out]
                exact bodyPost_ret (v := .tuple #[.agg #[.int .i64 0, .int .i64 0, .int .i64 0, .int .i64 0, .int .i64 0, .int .i64 0, .int .i64 0], .bool false]) (by simp [results, Tryz.results27, go_sem, q0, q1, q2, q3, q4, q5, q6]) rfl ⟨rfl, HB5.out⟩
              | false =>
                have HP := hidU (show Calls Tryz.prog 55 #[.pointer (some ⟨T, 0, none⟩), .int .u8 47] w4 fun e w' => ∃ s', e = .returned (.bool (passL 47 s4.data.toList).2) ∧ s'.data.toList = (passL 47 s4.data.toList).1 ∧ IsT w' T M s' u p false P2 ∧ w4.grownBy w' (some T) from passes_any T M s4 u p false P2 47 w4 HS4.out.1)
                rw [hs4', passL_cons] at HP
                by_cases h47 : b = 47
                · rw [if_pos h47] at HP
                  have HOR := hidU (show o = uo m r true P2 by rw [HOQ.out]; simp [h47])
                  clear HOQ
                  go_wp2_with fail
                  refine HP.out.mono ?_
                  rintro e w5 ⟨s5, rfl, hs5, hT5, hg5⟩
                  have hs5' : s5.data.toList = r := hs5
                  have HS5 := hidU (StU.step HS4.out (hT5.divides true) (hg5.trans (set_grown _ _ _ _)) HS4.out.2.1 HS4.out.2.2.1 (by rw [hs5', hs4']; exact fun c hc => List.mem_cons_of_mem _ hc) (by rw [hs5', hs4']; simp))
                  have hlen : s5.data.toList.length < st.data.toList.length := by rw [hs5', hl]; simp
                  have c10 := hT5.1.cell (v := .bool false) 10 rfl
                  have f10 := hT5.1.frozen 10
                  rw [← hs5'] at HOR
                  clear HP hl hs5 hs5' hT5 hg5 he hs0 hz1
                  go_wp2
                  refine wp_goto ?_
                  refine (show JA w s o 1 _ _ ∧ muA 1 _ _ < muA 3 _ _ from ?_)
                  exact ⟨⟨Z, T, M, ⟨_, _, _, _, _, _, _, _, _, _, _, _, _, _, _, _, _, _, _, _, _, _, _, _, _, _, _, _, _, _, _, _, _, _, _, _, rfl⟩, _, _, _, _, _, m, HOR.out, by omega, HS5.out⟩, by show muU T 1 _ < muU T 3 _; unfold muU; rw [restN_is HS5.out.1, restN_is HS.out.1, if_neg (by decide), if_pos rfl, if_neg (by decide), if_neg (by decide)]; omega⟩
                · rw [if_neg h47] at HP
                  have HON := hidU (show o = none by rw [HOQ.out]; simp [h46, h47])
                  clear HOQ
                  go_wp2_with fail
                  refine HP.out.mono ?_
                  rintro e w5 ⟨s5, rfl, hs5, hT5, hg5⟩
                  have hs5' : s5.data.toList = b :: r := hs5
                  have HS5 := hidU (StU.step HS4.out hT5 hg5 HS4.out.2.1 HS4.out.2.2.1 (by rw [hs5', hs4']; exact fun c hc => hc) (by rw [hs5', hs4']; exact Nat.le_refl _))
                  clear HP hl hs5 hT5 hg5 c10 f10
                  have hZ := HS5.out.2.2.2.2.2.1
                  have hZw := HS5.out.2.2.2.2.2.2.2.2.1
                  have HZ5 := hidU (IsB.seven ⟨0, 0, 0, 0, 0, 0, 0⟩ hZ)
                  have HB5 := hidU ((((((((HS5.out.2.2.2.2.2.2.1.setCell (p := ⟨Z, 0, none⟩) hZw (.int .i64 0)).setCell (p := ⟨Z, 1, none⟩) hZw (.int .i64 0)).setCell (p := ⟨Z, 2, none⟩) hZw (.int .i64 0)).setCell (p := ⟨Z, 3, none⟩) hZw (.int .i64 0)).setCell (p := ⟨Z, 4, none⟩) hZw (.int .i64 0)).setCell (p := ⟨Z, 5, none⟩) hZw (.int .i64 0)).setCell (p := ⟨Z, 6, none⟩) hZw (.int .i64 0)))
                  have z0 := hZ.cell (v := .int .i64 0) 0 rfl
                  have z1 := hZ.cell (v := .int .i64 0) 1 rfl
                  have z2 := hZ.cell (v := .int .i64 0) 2 rfl
                  have z3 := hZ.cell (v := .int .i64 0) 3 rfl
                  have z4 := hZ.cell (v := .int .i64 0) 4 rfl
                  have z5 := hZ.cell (v := .int .i64 0) 5 rfl
                  have z6 := hZ.cell (v := .int .i64 0) 6 rfl
                  have fz0 := hZ.frozen 0
                  have fz1 := hZ.frozen 1
                  have fz2 := hZ.frozen 2
                  have fz3 := hZ.frozen 3
                  have fz4 := hZ.frozen 4
                  have fz5 := hZ.frozen 5
                  have fz6 := hZ.frozen 6
                  clear hZ hZw
                  go_wp2
                  go_step3
                  go_wp2
                  have q0 := HZ5.out.cell (v := .int .i64 0) 0 rfl
                  have q1 := HZ5.out.cell (v := .int .i64 0) 1 rfl
                  have q2 := HZ5.out.cell (v := .int .i64 0) 2 rfl
                  have q3 := HZ5.out.cell (v := .int .i64 0) 3 rfl
                  have q4 := HZ5.out.cell (v := .int .i64 0) 4 rfl
                  have q5 := HZ5.out.cell (v := .int .i64 0) 5 rfl
                  have q6 := HZ5.out.cell (v := .int .i64 0) 6 rfl
                  rw [HON.out]
                  exact bodyPost_ret (v := .tuple #[.agg #[.int .i64 0, .int .i64 0, .int .i64 0, .int .i64 0, .int .i64 0, .int .i64 0, .int .i64 0], .bool false]) (by simp [results, Tryz.results27, go_sem, q0, q1, q2, q3, q4, q5, q6]) rfl ⟨rfl, HB5.out⟩
      | 0, hJ =>
        obtain ⟨⟨v1, v3, v4, v6, v7, v8, v9, v10, v11, v12, v13, v14, v15, v16, v17, v18, v19, v20, v21, v22, v23, v24, v25, v26, v27, v28, v29, v30, v31, v32, v33, v34, v35, v36, v37, v38, rfl⟩, HON, HS⟩ := hJ
        refine ⟨_, rfl, ?_⟩
        have hZ := HS.out.1
        have hZw := HS.out.2.2
        have HZ5 := hidU (IsB.seven ⟨0, 0, 0, 0, 0, 0, 0⟩ hZ)
        have HB5 := hidU ((((((((HS.out.2.1.setCell (p := ⟨Z, 0, none⟩) hZw (.int .i64 0)).setCell (p := ⟨Z, 1, none⟩) hZw (.int .i64 0)).setCell (p := ⟨Z, 2, none⟩) hZw (.int .i64 0)).setCell (p := ⟨Z, 3, none⟩) hZw (.int .i64 0)).setCell (p := ⟨Z, 4, none⟩) hZw (.int .i64 0)).setCell (p := ⟨Z, 5, none⟩) hZw (.int .i64 0)).setCell (p := ⟨Z, 6, none⟩) hZw (.int .i64 0)))
        have z0 := hZ.cell (v := .int .i64 0) 0 rfl
        have z1 := hZ.cell (v := .int .i64 0) 1 rfl
        have z2 := hZ.cell (v := .int .i64 0) 2 rfl
        have z3 := hZ.cell (v := .int .i64 0) 3 rfl
        have z4 := hZ.cell (v := .int .i64 0) 4 rfl
        have z5 := hZ.cell (v := .int .i64 0) 5 rfl
        have z6 := hZ.cell (v := .int .i64 0) 6 rfl
        have fz0 := hZ.frozen 0
        have fz1 := hZ.frozen 1
        have fz2 := hZ.frozen 2
        have fz3 := hZ.frozen 3
        have fz4 := hZ.frozen 4
        have fz5 := hZ.frozen 5
        have fz6 := hZ.frozen 6
        clear hZ hZw
        go_wp2
        have q0 := HZ5.out.cell (v := .int .i64 0) 0 rfl
        have q1 := HZ5.out.cell (v := .int .i64 0) 1 rfl
        have q2 := HZ5.out.cell (v := .int .i64 0) 2 rfl
        have q3 := HZ5.out.cell (v := .int .i64 0) 3 rfl
        have q4 := HZ5.out.cell (v := .int .i64 0) 4 rfl
        have q5 := HZ5.out.cell (v := .int .i64 0) 5 rfl
        have q6 := HZ5.out.cell (v := .int .i64 0) 6 rfl
        rw [HON.out]
        exact bodyPost_ret (v := .tuple #[.agg #[.int .i64 0, .int .i64 0, .int .i64 0, .int .i64 0, .int .i64 0, .int .i64 0, .int .i64 0], .bool false]) (by simp [results, Tryz.results27, go_sem, q0, q1, q2, q3, q4, q5, q6]) rfl ⟨rfl, HB5.out⟩
    · go_upto_region 4 with fail
      obtain ⟨Z, hZ⟩ : ∃ Z, Z = w.heap.size := ⟨_, rfl⟩
      obtain ⟨O, hOe⟩ : ∃ O, O = w.heap.size + 1 := ⟨_, rfl⟩
      obtain ⟨X, hX⟩ : ∃ X, X = (w.alloc (Obj.cells #[Value.int IntKind.i64 0, Value.int IntKind.i64 0, Value.int IntKind.i64 0, Value.int IntKind.i64 0, Value.int IntKind.i64 0, Value.int IntKind.i64 0, Value.int IntKind.i64 0] 55)).alloc (Obj.cells #[Value.int IntKind.i64 1, Value.int IntKind.i64 1, Value.int IntKind.i64 0, Value.int IntKind.i64 0, Value.int IntKind.i64 0, Value.int IntKind.i64 0, Value.int IntKind.i64 0] 55) := ⟨_, rfl⟩
      have hZB : IsB X Z #[.int .i64 0, .int .i64 0, .int .i64 0, .int .i64 0, .int .i64 0, .int .i64 0, .int .i64 0] 55 := by rw [hX, hZ]; exact (IsB.new w _ _).below (b0 _ _)
      have hOB : IsB X O #[.int .i64 1, .int .i64 1, .int .i64 0, .int .i64 0, .int .i64 0, .int .i64 0, .int .i64 0] 55 := by rw [hX, hOe]; have := IsB.new (w.alloc (Obj.cells #[.int .i64 0, .int .i64 0, .int .i64 0, .int .i64 0, .int .i64 0, .int .i64 0, .int .i64 0] 55)) #[.int .i64 1, .int .i64 1, .int .i64 0, .int .i64 0, .int .i64 0, .int .i64 0, .int .i64 0] 55; simpa using this
      have hBX : Below w.heap.size w X := by rw [hX]; exact (b0 _ _).alloc (by simp) _
      have hZw : w.heap.size ≤ Z := by omega
      rw [← hX, ← hOe, ← hZ]
      clear hX hOe hZ
      have o0 := hOB.cell (v := .int .i64 1) 0 rfl
      have o1 := hOB.cell (v := .int .i64 1) 1 rfl
      have o2 := hOB.cell (v := .int .i64 0) 2 rfl
      have o3 := hOB.cell (v := .int .i64 0) 3 rfl
      have o4 := hOB.cell (v := .int .i64 0) 4 rfl
      have o5 := hOB.cell (v := .int .i64 0) 5 rfl
      have o6 := hOB.cell (v := .int .i64 0) 6 rfl
      have HZB := hidU hZB
      have HOB := hidU hOB
      have HBX := hidU hBX
      clear hZB hOB hBX
      refine wp_region_noPanic ?_
      refine wp_region_held_drew (S := (fun w' => w'.cell? ⟨O, 0, none⟩ = some (.int .i64 1) ∧ w'.cell? ⟨O, 1, none⟩ = some (.int .i64 1) ∧ w'.cell? ⟨O, 2, none⟩ = some (.int .i64 0) ∧ w'.cell? ⟨O, 3, none⟩ = some (.int .i64 0) ∧ w'.cell? ⟨O, 4, none⟩ = some (.int .i64 0) ∧ w'.cell? ⟨O, 5, none⟩ = some (.int .i64 0) ∧ w'.cell? ⟨O, 6, none⟩ = some (.int .i64 0))) (by kernel_rfl) ⟨o0, o1, o2, o3, o4, o5, o6⟩ (fun hHeld => ?_)
      refine wpAnyH_take (i := 1) (v := ?_) rfl (by kernel_rfl) (by kernel_rfl) (by kernel_rfl) (fun _ _ _ h => h) (Or.inl ⟨by kernel_rfl, ?_⟩) hHeld ?_
      rotate_left
      · intro wz hSw; (try dsimp only at hSw); go_simp; all_goals (try with_reducible rfl)
      (try simp only [List.getElem_toArray]); (try simp only [List.getElem_cons_succ]); (try simp only [List.getElem_cons_zero]); (try simp only [Act.put]); (try simp only [List.setIfInBounds_toArray]); (try simp only [List.set_cons_succ]); (try simp only [List.set_cons_zero])
      refine wpAnyH_take (i := 2) (v := ?_) rfl (by kernel_rfl) (by kernel_rfl) (by kernel_rfl) (fun _ _ _ h => h) (Or.inl ⟨by kernel_rfl, ?_⟩) hHeld ?_
      rotate_left
      · intro wz hSw; (try dsimp only at hSw); go_simp; all_goals (try with_reducible rfl)
      (try simp only [List.getElem_toArray]); (try simp only [List.getElem_cons_succ]); (try simp only [List.getElem_cons_zero]); (try simp only [Act.put]); (try simp only [List.setIfInBounds_toArray]); (try simp only [List.set_cons_succ]); (try simp only [List.set_cons_zero])
      refine wpAnyH_ready (rs := [0, 4]) (by kernel_rfl) (by simp) (AllReadyH.cons rfl (fun Kc hKc => ?_) (AllReadyH.cons rfl (fun Kc hKc => ?_) AllReadyH.nil))
      · go_simp
        (go_at_call 53; refine (units_any _).mono ?_)
        rintro e w1 ⟨M, rfl, hM0, hM, hbu⟩
        have hb1 : Below X.heap.size X w1 := ((Below.refl _ _).drew).trans hbu
        have hz := HZB.out.below hb1
        have hob := HOB.out.below hb1
        have hbb := HBX.out.trans (hb1.mono HBX.out.size)
        clear HZB HOB HBX o0 o1 o2 o3 o4 o5 o6
        have o0 := hob.cell (v := .int .i64 1) 0 rfl
        have o1 := hob.cell (v := .int .i64 1) 1 rfl
        have o2 := hob.cell (v := .int .i64 0) 2 rfl
        have o3 := hob.cell (v := .int .i64 0) 3 rfl
        have o4 := hob.cell (v := .int .i64 0) 4 rfl
        have o5 := hob.cell (v := .int .i64 0) 5 rfl
        have o6 := hob.cell (v := .int .i64 0) 6 rfl
        have HZB := hidU hz
        have HOB := hidU hob
        have HBX := hidU hbb
        clear hz hob hbb
        clear hb1 hbu hM0
        go_wp2_with fail
        refine hKc.out _ _ ⟨o0, o1, o2, o3, o4, o5, o6⟩ (fun hHeld => ?_)
        clear hKc Kc
        (try simp only [List.getElem_toArray]); (try simp only [List.getElem_cons_succ]); (try simp only [List.getElem_cons_zero]); (try simp only [Act.put]); (try simp only [List.setIfInBounds_toArray]); (try simp only [List.set_cons_succ]); (try simp only [List.set_cons_zero])
        refine wpAnyH_take (i := 3) (v := ?_) rfl (by kernel_rfl) (by kernel_rfl) (by kernel_rfl) (fun _ _ _ h => h) (Or.inl ⟨by kernel_rfl, ?_⟩) hHeld ?_
        rotate_left
        · intro wz hSw; (try dsimp only at hSw); go_simp; all_goals (try with_reducible rfl)
        (try simp only [List.getElem_toArray]); (try simp only [List.getElem_cons_succ]); (try simp only [List.getElem_cons_zero]); (try simp only [Act.put]); (try simp only [List.setIfInBounds_toArray]); (try simp only [List.set_cons_succ]); (try simp only [List.set_cons_zero])
        refine wpAnyH_ready (rs := [4]) (by kernel_rfl) (by simp) (AllReadyH.cons rfl (fun Kc hKc => ?_) AllReadyH.nil)
        go_simp
        obtain ⟨Y, hY⟩ : ∃ Y, Y = w1.alloc (.cells #[.map none, .string ⟨#[]⟩, .int .i64 0, .int .i64 0, .int .i64 0, .int .i64 0, .int .i64 0, .int .i64 0, .int .i64 0, .int .i64 0, .bool false, .int .i64 0, .int .i64 0, .int .i64 0, .int .i64 0, .int .i64 0, .int .i64 0, .int .i64 0] 89) := ⟨_, rfl⟩
        obtain ⟨T, hTe⟩ : ∃ T, T = w1.heap.size := ⟨_, rfl⟩
        have hby : Below w1.heap.size w1 Y := by rw [hY]; exact b0 _ _
        have hTB : IsB Y T #[.map none, .string ⟨#[]⟩, .int .i64 0, .int .i64 0, .int .i64 0, .int .i64 0, .int .i64 0, .int .i64 0, .int .i64 0, .int .i64 0, .bool false, .int .i64 0, .int .i64 0, .int .i64 0, .int .i64 0, .int .i64 0, .int .i64 0, .int .i64 0] 89 := by rw [hY, hTe]; exact IsB.new _ _ _
        have HTB := hidU hTB
        replace hM := hM.below hby
        have hZT : Z ≠ T := by have := HZB.out.lt; omega
        have hOT : O ≠ T := by have := HOB.out.lt; omega
        have hMT : M ≠ T := by intro e; have h1 : Y.heap[T]? = _ := hTB; have h2 : Y.heap[M]? = _ := hM; rw [e, h1] at h2; cases h2
        have hwT : w.heap.size ≤ T := by have := HBX.out.size; omega
        rw [← hY, ← hTe]
        clear hTB hY hTe
        have hz := HZB.out.below hby
        have hob := HOB.out.below hby
        have hbb := HBX.out.trans (hby.mono HBX.out.size)
        clear HZB HOB HBX o0 o1 o2 o3 o4 o5 o6
        have o0 := hob.cell (v := .int .i64 1) 0 rfl
        have o1 := hob.cell (v := .int .i64 1) 1 rfl
        have o2 := hob.cell (v := .int .i64 0) 2 rfl
        have o3 := hob.cell (v := .int .i64 0) 3 rfl
        have o4 := hob.cell (v := .int .i64 0) 4 rfl
        have o5 := hob.cell (v := .int .i64 0) 5 rfl
        have o6 := hob.cell (v := .int .i64 0) 6 rfl
        have HZB := hidU hz
        have HOB := hidU hob
        have HBX := hidU hbb
        clear hz hob hbb
        clear hby
        refine hKc.out _ _ ⟨o0, o1, o2, o3, o4, o5, o6⟩ (fun hHeld => ?_)
        clear hKc Kc
        (try simp only [List.getElem_toArray]); (try simp only [List.getElem_cons_succ]); (try simp only [List.getElem_cons_zero]); (try simp only [Act.put]); (try simp only [List.setIfInBounds_toArray]); (try simp only [List.set_cons_succ]); (try simp only [List.set_cons_zero])
        refine wpAnyH_ready (rs := [5]) (by kernel_rfl) (by simp) (AllReadyH.cons rfl (fun Kc hKc => ?_) AllReadyH.nil)
        refine step_store rfl _ _ _ rfl _ _ rfl rfl (run_store18 _ T M s HTB.out) ?_
        have hz := s18_other (.map (some M)) (.string s) (.int .i64 0) (.int .i64 0) (.int .i64 0) (.int .i64 0) (.int .i64 0) (.int .i64 0) (.int .i64 0) (.int .i64 0) (.bool false) (.int .i64 1) (.int .i64 1) (.int .i64 0) (.int .i64 0) (.int .i64 0) (.int .i64 0) (.int .i64 0) HZB.out hZT
        have hob := s18_other (.map (some M)) (.string s) (.int .i64 0) (.int .i64 0) (.int .i64 0) (.int .i64 0) (.int .i64 0) (.int .i64 0) (.int .i64 0) (.int .i64 0) (.bool false) (.int .i64 1) (.int .i64 1) (.int .i64 0) (.int .i64 0) (.int .i64 0) (.int .i64 0) (.int .i64 0) HOB.out hOT
        have hbb := s18_below (.map (some M)) (.string s) (.int .i64 0) (.int .i64 0) (.int .i64 0) (.int .i64 0) (.int .i64 0) (.int .i64 0) (.int .i64 0) (.int .i64 0) (.bool false) (.int .i64 1) (.int .i64 1) (.int .i64 0) (.int .i64 0) (.int .i64 0) (.int .i64 0) (.int .i64 0) HBX.out hwT
        have hm := s18_map (.map (some M)) (.string s) (.int .i64 0) (.int .i64 0) (.int .i64 0) (.int .i64 0) (.int .i64 0) (.int .i64 0) (.int .i64 0) (.int .i64 0) (.bool false) (.int .i64 1) (.int .i64 1) (.int .i64 0) (.int .i64 0) (.int .i64 0) (.int .i64 0) (.int .i64 0) hM hMT
        have ht := s18_own (.map (some M)) (.string s) (.int .i64 0) (.int .i64 0) (.int .i64 0) (.int .i64 0) (.int .i64 0) (.int .i64 0) (.int .i64 0) (.int .i64 0) (.bool false) (.int .i64 1) (.int .i64 1) (.int .i64 0) (.int .i64 0) (.int .i64 0) (.int .i64 0) (.int .i64 0) (.map none) (.string ⟨#[]⟩) (.int .i64 0) (.int .i64 0) (.int .i64 0) (.int .i64 0) (.int .i64 0) (.int .i64 0) (.int .i64 0) (.int .i64 0) (.bool false) (.int .i64 0) (.int .i64 0) (.int .i64 0) (.int .i64 0) (.int .i64 0) (.int .i64 0) (.int .i64 0) HTB.out
        clear HZB HOB HBX hM HTB o0 o1 o2 o3 o4 o5 o6
        have o0 := hob.cell (v := .int .i64 1) 0 rfl
        have o1 := hob.cell (v := .int .i64 1) 1 rfl
        have o2 := hob.cell (v := .int .i64 0) 2 rfl
        have o3 := hob.cell (v := .int .i64 0) 3 rfl
        have o4 := hob.cell (v := .int .i64 0) 4 rfl
        have o5 := hob.cell (v := .int .i64 0) 5 rfl
        have o6 := hob.cell (v := .int .i64 0) 6 rfl
        refine hKc.out _ _ ⟨o0, o1, o2, o3, o4, o5, o6⟩ (fun hHeld => ?_)
        clear hKc Kc hHeld o0 o1 o2 o3 o4 o5 o6
        (try simp only [List.getElem_toArray]); (try simp only [List.getElem_cons_succ]); (try simp only [List.getElem_cons_zero]); (try simp only [Act.put]); (try simp only [List.setIfInBounds_toArray]); (try simp only [List.set_cons_succ]); (try simp only [List.set_cons_zero])
        refine wpAnyH_done (by kernel_rfl) ?_ _
        refine NoPanic.normal ?_
        have HS : Hid (StU w Z T M (s18 Y T (.map (some M)) (.string s) (.int .i64 0) (.int .i64 0) (.int .i64 0) (.int .i64 0) (.int .i64 0) (.int .i64 0) (.int .i64 0) (.int .i64 0) (.bool false) (.int .i64 1) (.int .i64 1) (.int .i64 0) (.int .i64 0) (.int .i64 0) (.int .i64 0) (.int .i64 0)) s ⟨0, 0, 0, 0, 0, 0, 0⟩ 0 false oneV) := ⟨⟨ht, hm⟩, okD_zero, by unfold okD oneV; simp, HA.out, hs, hz, hbb, hZT, hZw, hwT⟩
        clear ht hm hz hob hbb
        go_wp2
        go_step3
        rename_i K0 hK0
        refine hK0 _ _ ?_
        exact unit_word w s o _ _ _ _ rfl ⟨Z, T, M, ⟨_, _, _, _, _, _, _, _, _, _, _, _, _, _, _, _, _, _, _, _, _, _, _, _, _, _, _, _, _, _, _, _, _, _, _, _, rfl⟩, _, _, _, _, _, _, HO, Nat.lt_succ_self _, HS⟩
      · go_simp
        obtain ⟨Y, hY⟩ : ∃ Y, Y = (X.alloc (.cells #[.map none, .string ⟨#[]⟩, .int .i64 0, .int .i64 0, .int .i64 0, .int .i64 0, .int .i64 0, .int .i64 0, .int .i64 0, .int .i64 0, .bool false, .int .i64 0, .int .i64 0, .int .i64 0, .int .i64 0, .int .i64 0, .int .i64 0, .int .i64 0] 89)).drew := ⟨_, rfl⟩
        obtain ⟨T, hTe⟩ : ∃ T, T = X.heap.size := ⟨_, rfl⟩
        have hby : Below X.heap.size X Y := by rw [hY]; exact (b0 _ _).drew
        have hTB : IsB Y T #[.map none, .string ⟨#[]⟩, .int .i64 0, .int .i64 0, .int .i64 0, .int .i64 0, .int .i64 0, .int .i64 0, .int .i64 0, .int .i64 0, .bool false, .int .i64 0, .int .i64 0, .int .i64 0, .int .i64 0, .int .i64 0, .int .i64 0, .int .i64 0] 89 := by rw [hY, hTe]; exact (IsB.new _ _ _).drew
        have HTB := hidU hTB
        have hZT : Z ≠ T := by have := HZB.out.lt; omega
        have hOT : O ≠ T := by have := HOB.out.lt; omega
        have hwT : w.heap.size ≤ T := by have := HBX.out.size; omega
        rw [← hY, ← hTe]
        clear hTB hY hTe
        have hz := HZB.out.below hby
        have hob := HOB.out.below hby
        have hbb := HBX.out.trans (hby.mono HBX.out.size)
        clear HZB HOB HBX o0 o1 o2 o3 o4 o5 o6
        have o0 := hob.cell (v := .int .i64 1) 0 rfl
        have o1 := hob.cell (v := .int .i64 1) 1 rfl
        have o2 := hob.cell (v := .int .i64 0) 2 rfl
        have o3 := hob.cell (v := .int .i64 0) 3 rfl
        have o4 := hob.cell (v := .int .i64 0) 4 rfl
        have o5 := hob.cell (v := .int .i64 0) 5 rfl
        have o6 := hob.cell (v := .int .i64 0) 6 rfl
        have HZB := hidU hz
        have HOB := hidU hob
        have HBX := hidU hbb
        clear hz hob hbb
        clear hby
        refine hKc.out _ _ ⟨o0, o1, o2, o3, o4, o5, o6⟩ (fun hHeld => ?_)
        clear hKc Kc
        (try simp only [List.getElem_toArray]); (try simp only [List.getElem_cons_succ]); (try simp only [List.getElem_cons_zero]); (try simp only [Act.put]); (try simp only [List.setIfInBounds_toArray]); (try simp only [List.set_cons_succ]); (try simp only [List.set_cons_zero])
        refine wpAnyH_ready (rs := [0]) (by kernel_rfl) (by simp) (AllReadyH.cons rfl (fun Kc hKc => ?_) AllReadyH.nil)
        go_simp
        (go_at_call 53; refine (units_any _).mono ?_)
        rintro e w1 ⟨M, rfl, hM0, hM, hb1⟩
        replace HTB := hidU (HTB.out.below hb1)
        have hMT : M ≠ T := by intro e; have h1 : w1.heap[T]? = _ := HTB.out; have h2 : w1.heap[M]? = _ := hM; rw [e, h1] at h2; cases h2
        have hz := HZB.out.below hb1
        have hob := HOB.out.below hb1
        have hbb := HBX.out.trans (hb1.mono HBX.out.size)
        clear HZB HOB HBX o0 o1 o2 o3 o4 o5 o6
        have o0 := hob.cell (v := .int .i64 1) 0 rfl
        have o1 := hob.cell (v := .int .i64 1) 1 rfl
        have o2 := hob.cell (v := .int .i64 0) 2 rfl
        have o3 := hob.cell (v := .int .i64 0) 3 rfl
        have o4 := hob.cell (v := .int .i64 0) 4 rfl
        have o5 := hob.cell (v := .int .i64 0) 5 rfl
        have o6 := hob.cell (v := .int .i64 0) 6 rfl
        have HZB := hidU hz
        have HOB := hidU hob
        have HBX := hidU hbb
        clear hz hob hbb
        clear hb1 hM0
        go_wp2_with fail
        refine hKc.out _ _ ⟨o0, o1, o2, o3, o4, o5, o6⟩ (fun hHeld => ?_)
        clear hKc Kc
        (try simp only [List.getElem_toArray]); (try simp only [List.getElem_cons_succ]); (try simp only [List.getElem_cons_zero]); (try simp only [Act.put]); (try simp only [List.setIfInBounds_toArray]); (try simp only [List.set_cons_succ]); (try simp only [List.set_cons_zero])
        refine wpAnyH_take (i := 3) (v := ?_) rfl (by kernel_rfl) (by kernel_rfl) (by kernel_rfl) (fun _ _ _ h => h) (Or.inl ⟨by kernel_rfl, ?_⟩) hHeld ?_
        rotate_left
        · intro wz hSw; (try dsimp only at hSw); go_simp; all_goals (try with_reducible rfl)
        (try simp only [List.getElem_toArray]); (try simp only [List.getElem_cons_succ]); (try simp only [List.getElem_cons_zero]); (try simp only [Act.put]); (try simp only [List.setIfInBounds_toArray]); (try simp only [List.set_cons_succ]); (try simp only [List.set_cons_zero])
        refine wpAnyH_ready (rs := [5]) (by kernel_rfl) (by simp) (AllReadyH.cons rfl (fun Kc hKc => ?_) AllReadyH.nil)
        refine step_store rfl _ _ _ rfl _ _ rfl rfl (run_store18 _ T M s HTB.out) ?_
        have hz := s18_other (.map (some M)) (.string s) (.int .i64 0) (.int .i64 0) (.int .i64 0) (.int .i64 0) (.int .i64 0) (.int .i64 0) (.int .i64 0) (.int .i64 0) (.bool false) (.int .i64 1) (.int .i64 1) (.int .i64 0) (.int .i64 0) (.int .i64 0) (.int .i64 0) (.int .i64 0) HZB.out hZT
        have hob := s18_other (.map (some M)) (.string s) (.int .i64 0) (.int .i64 0) (.int .i64 0) (.int .i64 0) (.int .i64 0) (.int .i64 0) (.int .i64 0) (.int .i64 0) (.bool false) (.int .i64 1) (.int .i64 1) (.int .i64 0) (.int .i64 0) (.int .i64 0) (.int .i64 0) (.int .i64 0) HOB.out hOT
        have hbb := s18_below (.map (some M)) (.string s) (.int .i64 0) (.int .i64 0) (.int .i64 0) (.int .i64 0) (.int .i64 0) (.int .i64 0) (.int .i64 0) (.int .i64 0) (.bool false) (.int .i64 1) (.int .i64 1) (.int .i64 0) (.int .i64 0) (.int .i64 0) (.int .i64 0) (.int .i64 0) HBX.out hwT
        have hm := s18_map (.map (some M)) (.string s) (.int .i64 0) (.int .i64 0) (.int .i64 0) (.int .i64 0) (.int .i64 0) (.int .i64 0) (.int .i64 0) (.int .i64 0) (.bool false) (.int .i64 1) (.int .i64 1) (.int .i64 0) (.int .i64 0) (.int .i64 0) (.int .i64 0) (.int .i64 0) hM hMT
        have ht := s18_own (.map (some M)) (.string s) (.int .i64 0) (.int .i64 0) (.int .i64 0) (.int .i64 0) (.int .i64 0) (.int .i64 0) (.int .i64 0) (.int .i64 0) (.bool false) (.int .i64 1) (.int .i64 1) (.int .i64 0) (.int .i64 0) (.int .i64 0) (.int .i64 0) (.int .i64 0) (.map none) (.string ⟨#[]⟩) (.int .i64 0) (.int .i64 0) (.int .i64 0) (.int .i64 0) (.int .i64 0) (.int .i64 0) (.int .i64 0) (.int .i64 0) (.bool false) (.int .i64 0) (.int .i64 0) (.int .i64 0) (.int .i64 0) (.int .i64 0) (.int .i64 0) (.int .i64 0) HTB.out
        clear HZB HOB HBX hM HTB o0 o1 o2 o3 o4 o5 o6
        have o0 := hob.cell (v := .int .i64 1) 0 rfl
        have o1 := hob.cell (v := .int .i64 1) 1 rfl
        have o2 := hob.cell (v := .int .i64 0) 2 rfl
        have o3 := hob.cell (v := .int .i64 0) 3 rfl
        have o4 := hob.cell (v := .int .i64 0) 4 rfl
        have o5 := hob.cell (v := .int .i64 0) 5 rfl
        have o6 := hob.cell (v := .int .i64 0) 6 rfl
        refine hKc.out _ _ ⟨o0, o1, o2, o3, o4, o5, o6⟩ (fun hHeld => ?_)
        clear hKc Kc hHeld o0 o1 o2 o3 o4 o5 o6
        (try simp only [List.getElem_toArray]); (try simp only [List.getElem_cons_succ]); (try simp only [List.getElem_cons_zero]); (try simp only [Act.put]); (try simp only [List.setIfInBounds_toArray]); (try simp only [List.set_cons_succ]); (try simp only [List.set_cons_zero])
        refine wpAnyH_done (by kernel_rfl) ?_ _
        refine NoPanic.normal ?_
        have HS : Hid (StU w Z T M (s18 w1 T (.map (some M)) (.string s) (.int .i64 0) (.int .i64 0) (.int .i64 0) (.int .i64 0) (.int .i64 0) (.int .i64 0) (.int .i64 0) (.int .i64 0) (.bool false) (.int .i64 1) (.int .i64 1) (.int .i64 0) (.int .i64 0) (.int .i64 0) (.int .i64 0) (.int .i64 0)) s ⟨0, 0, 0, 0, 0, 0, 0⟩ 0 false oneV) := ⟨⟨ht, hm⟩, okD_zero, by unfold okD oneV; simp, HA.out, hs, hz, hbb, hZT, hZw, hwT⟩
        clear ht hm hz hob hbb
        go_wp2
        go_step3
        rename_i K0 hK0
        refine hK0 _ _ ?_
        exact unit_word w s o _ _ _ _ rfl ⟨Z, T, M, ⟨_, _, _, _, _, _, _, _, _, _, _, _, _, _, _, _, _, _, _, _, _, _, _, _, _, _, _, _, _, _, _, _, _, _, _, _, rfl⟩, _, _, _, _, _, _, HO, Nat.lt_succ_self _, HS⟩
end Go.Proofs.YtnhefbhiemdhoaaGreat
