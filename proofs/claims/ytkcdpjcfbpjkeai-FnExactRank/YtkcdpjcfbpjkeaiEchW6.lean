/- The walk of choose. -/
import Derived.Test.YtkcdpjcfbpjkeaiEchW5
import Derived.Deep.DeepMust
namespace Go.Proofs.Ytkcdpjcfbpjkeai
open Go.RowKit Go.Proofs.Ytkcdpjcfbpjkeai.RM
theorem hid {p : Prop} (h : p) : Hid p := h
theorem infoInt : (Try.prog.info? 3).map (fun i => (i.zero, i.size, i.bytes)) = some (some (.int .i64 0), 1, 8) := by kernel_rfl


set_option maxRecDepth 1000000 in
set_option maxHeartbeats 4000000 in
theorem choose_any (base E i col L : Nat) (v vc vf : Value) (us : List Value) (rows : List (List Fr)) (ch fe : List Nat) (w : World) (h : EchS w base E v vc vf us rows ch fe) (hne : ∀ f, f ∈ fe → col ≠ f) (hi : ch.length ≤ i) (hi2 : i < rows.length) (hcol : col < L) (hL1 : L ≤ 1000) (hR : rows.length ≤ 1000) (hL : ∀ x, x < rows.length → (rw' rows x).length = L) :
    Calls Try.prog 78 #[.pointer (some ⟨E, 0, none⟩), .int .i64 i, .int .i64 col] w fun e w' => e = .returned (.bool (stepB rows ch.length i col)) ∧ (stepB rows ch.length i col = true → ∃ vc' us', EchS w' base E v vc' vf us' (stepT rows ch.length i col) (ch ++ [col]) fe) ∧ Below base w w' := by
  have hbl : base ≤ w.heap.size := by have := (cells3 h.blk).2.2.2.2.2.2; have := h.lo; omega
  obtain ⟨e0, e1, e2, z0, z1, z2, hEl⟩ := cells3 h.blk
  have hul := h.tab.len
  obtain ⟨G, cG, rfl⟩ := own_some h.tab.outer (by omega)
  have hGE : G ≠ E := own_ne h.tab.outer h.blk (by decide) G rfl
  have hGl : G < w.heap.size := (h.tab.outer.lt G rfl).2
  obtain ⟨ac, cc, rfl⟩ := own_shape h.cho
  obtain ⟨nf, hnf⟩ : ∃ n, n = ch.length := ⟨_, rfl⟩
  obtain ⟨N, hN⟩ : ∃ n, n = us.length := ⟨_, rfl⟩
  have HH : Hid (EchS w base E _ _ vf us rows ch fe) := h
  have HNF : Hid (nf = ch.length) := hnf
  have HNN : Hid (N = us.length) := hN
  have hul2 : N = rows.length := hN.trans hul
  rw [← hnf] at hi e1 ⊢
  rw [← hN] at e0
  have ci := h.tab.outer.cellAt i (by omega)
  have zi := h.tab.outer.frozenAt i
  have cf := h.tab.outer.cellAt nf (by omega)
  have zf := h.tab.outer.frozenAt nf
  obtain ⟨ai, di, hui⟩ := own_shape (h.tab.inner i (by omega))
  obtain ⟨af, df, huf⟩ := own_shape (h.tab.inner nf (by omega))
  rw [hL i (by omega)] at hui
  rw [hL nf (by omega)] at huf
  rw [show us[i]? = some (vl us i) by unfold vl; rw [List.getElem?_eq_getElem (by omega)]; rfl, hui] at ci
  rw [show us[nf]? = some (vl us nf) by unfold vl; rw [List.getElem?_eq_getElem (by omega)]; rfl, huf] at cf
  have HUI : Hid (vl us i = _) := hui
  have HUF : Hid (vl us nf = _) := huf
  have HL : Hid (∀ x, x < rows.length → (rw' rows x).length = L) := hL
  have hR2 : N ≤ 1000 := by omega
  have hi3 : i < N := by omega
  have hnN : nf < N := by omega
  have cf2 : (w.setCell ⟨G, i, none⟩ (.slice af L df)).cell? ⟨G, nf, none⟩ = some (.slice af L df) := by
    by_cases e : i = nf
    · rw [e]; exact World.cell?_setCell_same _ _ _ cf
    · rw [World.cell?_setCell_other _ _ _ _ (by intro h; cases h; exact e rfl)]; exact cf
  have zf2 : (w.setCell ⟨G, i, none⟩ (.slice af L df)).frozen? ⟨G, nf, none⟩ = false := by simp [zf]
  clear h hnf hN hui huf hL hul hul2
  have HI2 : Hid (i < rows.length ∧ rows.length ≤ 1000) := ⟨hi2, hR⟩
  clear hi2 hR
  go_enter Try.func78, Try.ntmps78
  go_upto_region 2 with fail
  go_region
  obtain ⟨n1, n2⟩ := HI2.out
  have HX := (HH.out.swap (i := i) (r := nf) (by rw [← HNN.out]; exact hi3) (by rw [← HNN.out]; exact hnN)).below ((Below.refl _ _).drew)
  rw [HUI.out, HUF.out] at HX
  have BX : Below base w (((w.setCell ⟨G, i, none⟩ (.slice af L df)).setCell ⟨G, nf, none⟩ (.slice ai L di)).drew) := (((Below.refl _ _).setCell (p := ⟨G, i, none⟩) (by show base ≤ G; exact (HH.out.tab.outer.lt G rfl).1) _).setCell (p := ⟨G, nf, none⟩) (by show base ≤ G; exact (HH.out.tab.outer.lt G rfl).1) _).drew
  obtain ⟨X, hX⟩ : ∃ X, X = ((w.setCell ⟨G, i, none⟩ (.slice af L df)).setCell ⟨G, nf, none⟩ (.slice ai L di)).drew := ⟨_, rfl⟩
  rw [← hX] at HX BX ⊢
  clear hX e0 e1 e2 z0 z1 z2 hEl ci zi cf zf cf2 zf2 hGl
  obtain ⟨us2, hus2⟩ : ∃ u, u = (us.set i (.slice af L df)).set nf (.slice ai L di) := ⟨_, rfl⟩
  have hvf : vl us2 nf = .slice ai L di := by rw [hus2, vl_set _ _ _ _ (by rw [List.length_set, ← HNN.out]; exact hnN), if_pos rfl]
  have hl2 : us2.length = N := by rw [hus2, List.length_set, List.length_set]; exact HNN.out.symm
  rw [← hus2] at HX
  clear hus2
  rw [← HNN.out, ← HNF.out] at HX
  obtain ⟨e0, e1, e2, z0, z1, z2, hEl⟩ := cells3 HX.blk
  have HC := HX.cho
  rw [← HNF.out] at HC
  have HVF := hid hvf
  have HL2 := hid hl2
  have HHX : Hid (EchS X base E (.slice (some ⟨G, 0, none⟩) N cG) (.slice ac nf cc) vf us2 (swapT rows i nf) ch fe) := HX
  have HBX := hid BX
  have HNE := hid hne
  have hsz := BX.size
  clear hvf hl2 HX BX hne n1 n2
  obtain ⟨t0, hti, htz0, htz1, htz2⟩ := info_parts infoInt
  have HCC := hid HC
  clear HC
  go_upto_region 4 with (at_builtin; go_must (refine wpList_append_own _ rfl _ _ 73 rfl base 3 t0 (.int .i64 0) 1 8 Try.underlying73 hti htz0 htz1 htz2 rfl (by decide) _ _ _ rfl (World.ownsRow.alloc HCC.out _) ⟨X.heap.size, 0, none⟩ 1 1 [.int .i64 col] rfl rfl (cell_one_new _ _ _) (by simp [Value.oneCell']) (by unfold maxLen; omega) (by omega) (by simp; omega) ?_); intro v' w3 hown' hgrow _; go_must (obtain ⟨a3, c3, rfl⟩ := own_shape hown'); go_must (have hb3 := HHX.out.grownBlk hgrow); obtain ⟨q0, q1, q2, y0, y1, y2, hq⟩ := cells3 hb3)
  have HY := HHX.out.push hown' (by rw [HNF.out]; simp) hgrow HNE.out
  have BY : Below base w (w3.setCell ⟨E, 1, none⟩ (.slice a3 (nf + 1) c3)) := (HBX.out.trans (below_appended HCC.out (by omega) hgrow)).setCell (p := ⟨E, 1, none⟩) (by show base ≤ E; exact HH.out.lo) _
  obtain ⟨Y, hY⟩ : ∃ Y, Y = w3.setCell ⟨E, 1, none⟩ (.slice a3 (nf + 1) c3) := ⟨_, rfl⟩
  rw [← hY] at HY BY ⊢
  clear hY hown' hgrow hb3 q0 q1 q2 y0 y1 y2 hq e0 e1 e2 z0 z1 z2 hEl hsz HBX HHX HCC HH w3 hti htz0 htz1 htz2 t0 HUI HUF
  obtain ⟨e0, e1, e2, z0, z1, z2, hEl⟩ := cells3 HY.blk
  obtain ⟨n1, n2⟩ := HI2.out
  have hul : us2.length = rows.length := by have := HY.tab.len; rw [swapT_len] at this; exact this
  have hNr : N = rows.length := HL2.out.symm.trans hul
  obtain ⟨R, hR⟩ : ∃ R, R = rw' rows i := ⟨_, rfl⟩
  have hRs : rw' (swapT rows i nf) nf = R := by rw [rw_exch rows i nf nf n1 (by omega), hR]; simp [exch]
  have hRl : R.length = L := by rw [hR]; exact HL.out i n1
  have hrow := HY.tab.inner nf (by omega)
  rw [HVF.out, hRs, hRl] at hrow
  obtain ⟨bR, cR, eR⟩ := own_some hrow (by omega)
  cases eR
  have hbR : base ≤ bR := (hrow.lt bR rfl).1
  obtain ⟨g1, g2⟩ := own_R hrow hRl col hcol
  obtain ⟨f, hf⟩ : ∃ f, f = fr R col := ⟨_, rfl⟩
  rw [show R[col]?.getD (0, 0) = f from hf.symm] at g1 g2
  obtain ⟨f1, f2⟩ := f
  have hoo := HY.tab.outer
  rw [HL2.out] at hoo
  have cG' := hoo.cellAt nf (by omega)
  clear hoo
  rw [show us2[nf]? = some (vl us2 nf) by unfold vl; rw [List.getElem?_eq_getElem (by omega)]; rfl, HVF.out] at cG'
  have hdv := divRow_any (.slice (some ⟨bR, 0, none⟩) L di) R f1 f2 base Y (by omega) (by rw [hRl]; exact hrow)
  have HDV := hid hdv
  have HYY : Hid (EchS Y base E (.slice (some ⟨G, 0, none⟩) N cG) (.slice a3 (nf + 1) c3) vf us2 (swapT rows i nf) (ch ++ [col]) fe) := HY
  have HBY : Hid (Below base w Y) := BY
  have HRD : Hid (R = rw' rows i ∧ (f1, f2) = fr R col ∧ R.length = L ∧ N = rows.length) := ⟨hR, hf, hRl, hNr⟩
  clear HY BY hul hNr hR hRs hRl hrow hf hdv n1 n2
  obtain ⟨q, hq⟩ : ∃ q, q = divB R (f1, f2) := ⟨_, rfl⟩
  have HQ : Hid (q = divB R (f1, f2)) := hq
  clear hq
  have hYs : base ≤ Y.heap.size := by have := HBY.out.size; omega
  cases q
  · go_wp2_with (go_at_call 86; refine (HDV.out).mono ?_; rintro e w5 ⟨re, dv5, gr5⟩; rw [← HQ.out] at re; subst re)
    have hB : stepB rows nf i col = false := stepB_div (by rw [← HRD.out.1, ← HRD.out.2.1]; exact HQ.out.symm)
    refine bodyPost_ret (results_tmp rfl _ _ _) rfl ?_
    refine ⟨by rw [hB]; rfl, ?_, HBY.out.grown gr5 hYs (fun k e => by cases e; exact hbR)⟩
    intro h
    rw [hB] at h
    cases h
  · go_upto_region 7 with (go_at_call 86; refine (HDV.out).mono ?_; rintro e w5 ⟨re, dv5, gr5⟩; rw [← HQ.out] at re; subst re)
    have r5 := dv5 HQ.out.symm
    have S5 := HYY.out.turn (k := nf) (ps := divR R (f1, f2)) (by rw [HL2.out]; exact hnN) (by rw [HVF.out, divR_len]; exact r5) (by rw [HVF.out]; exact gr5)
    have hz := stepP_zero rows nf i col (by have := HRD.out.2.2.2; omega)
    rw [← HRD.out.1, ← HRD.out.2.1] at hz
    rw [hz] at S5
    have B5 : Below base w w5 := HBY.out.grown gr5 hYs (fun k e => by cases e; exact hbR)
    clear r5 hz gr5 dv5 e0 e1 e2 z0 z1 z2 hEl g1 g2 cG' HDV HYY HBY
    obtain ⟨e0, e1, e2, z0, z1, z2, hEl⟩ := cells3 S5.blk
    have HS5 := hid S5
    have HB5 := hid B5
    clear S5 B5
    obtain ⟨D, hD⟩ : ∃ D, D = divR R (f1, f2) := ⟨_, rfl⟩
    have HD := hid hD
    have hDl : D.length = L := by rw [hD, divR_len]; exact HRD.out.2.2.1
    have HDL := hid hDl
    clear hD hDl e1 e2 z0 z1 z2
    go_wp2
    clear e0
    go_loopw [71] (fun x wr => ∃ k : Nat, k ≤ N ∧ x = .int .i64 k ∧ Hid (EchS wr base E (.slice (some ⟨G, 0, none⟩) N cG) (.slice a3 (nf + 1) c3) vf us2 (stepP rows nf i col k) (ch ++ [col]) fe) ∧ Hid (Below base w wr) ∧ Hid (∀ x, x < k → x ≠ nf → takeB (rw' (swapT rows i nf) x) (fr (rw' (swapT rows i nf) x) col) D = true)) (fun x _ => N - (intOf x).toNat)
    case atStart => exact ⟨0, Nat.zero_le _, rfl, HS5.out, HB5.out, fun x hx => by omega⟩
    case round =>
      clear HS5 HB5 hEl hYs
      obtain ⟨k, hk, rfl, hS, hB, hT⟩ := hrel
      by_cases hlt : k < N
      · have hNr := HRD.out.2.2.2
        have ho := hS.out.tab.outer
        rw [HL2.out] at ho
        have ck := ho.cellAt k (by omega)
        have hin := hS.out.tab.inner k (by rw [HL2.out]; exact hlt)
        have hOk : k ≠ nf → rw' (stepP rows nf i col k) k = rw' (swapT rows i nf) k := fun h => by rw [stepP_at _ _ _ _ _ _ (by omega), if_neg h, if_neg (Nat.lt_irrefl _)]
        have hOl : (rw' (swapT rows i nf) k).length = L := by
          rw [rw_exch _ _ _ _ HI2.out.1 (by omega)]
          exact HL.out _ (exch_lt HI2.out.1 (by omega) (by omega))
        have hkl : (rw' (stepP rows nf i col k) k).length = L := by
          by_cases h : k = nf
          · rw [stepP_at _ _ _ _ _ _ (by omega), if_pos h, divR_len]; exact HL.out i HI2.out.1
          · rw [hOk h]; exact hOl
        rw [hkl] at hin
        obtain ⟨bk, dk, ek⟩ := own_some hin (by omega)
        rw [show us2[k]? = some (vl us2 k) by unfold vl; rw [List.getElem?_eq_getElem (by have := HL2.out; omega)]; rfl, ek] at ck
        have hsz := hB.out.size
        have hws : base ≤ wr.heap.size := by omega
        by_cases hkn : k = nf
        · subst hkn
          clear hin hOk hOl hkl ek ho hNr
          go_wp2
          go_roundw
          case rel => exact ⟨k + 1, by omega, by go_num, by rw [← stepP_skip]; exact hS.out, hB.out, fun x hx hne => hT.out x (by omega) hne⟩
          case measure => simp [intOf]; omega
        · have hkn2 : (k : Int) ≠ (nf : Int) := by omega
          rw [hOk hkn, ek] at hin
          obtain ⟨O, hO⟩ : ∃ O, O = rw' (swapT rows i nf) k := ⟨_, rfl⟩
          rw [← hO] at hin hOl
          obtain ⟨g1, g2⟩ := own_R hin hOl col hcol
          obtain ⟨f, hf⟩ : ∃ f, f = fr O col := ⟨_, rfl⟩
          rw [show O[col]?.getD (0, 0) = f from hf.symm] at g1 g2
          obtain ⟨t1, t2⟩ := f
          have hrw := hS.out.tab.inner nf (by rw [HL2.out]; exact hnN)
          rw [stepP_at _ _ _ _ _ _ (by omega), if_pos rfl, ← HRD.out.1, ← HRD.out.2.1, ← HD.out, HVF.out] at hrw
          have htk := takeRow_any (.slice (some ⟨bk, 0, none⟩) L dk) (.slice (some ⟨bR, 0, none⟩) L di) O D t1 t2 base base wr (by rw [HDL.out, hOl]) (by omega) (by rw [hOl]; exact hin) hrw (by
            intro b e1 e2
            exact hS.out.tab.apart k nf (by rw [HL2.out]; exact hlt) (by rw [HL2.out]; exact hnN) hkn b (by rw [ek]; exact e1) (by rw [HVF.out]; exact e2))
          have hbk : base ≤ bk := (hin.lt bk rfl).1
          have HTK := hid htk
          have HOO : Hid (O = rw' (swapT rows i nf) k ∧ (t1, t2) = fr O col ∧ O.length = L ∧ N = rows.length ∧ vl us2 k = .slice (some ⟨bk, 0, none⟩) L dk) := ⟨hO, hf, hOl, hNr, ek⟩
          clear hin hOk hkl ek ho hNr hO hf hrw htk hOl
          obtain ⟨q, hq⟩ : ∃ q, q = takeB O (t1, t2) D := ⟨_, rfl⟩
          have HQ2 : Hid (q = takeB O (t1, t2) D) := hq
          clear hq
          cases q
          · go_wp2_with (go_at_call 87; refine (HTK.out).mono ?_; rintro e w6 ⟨re, tk6, gr6⟩; rw [← HQ2.out] at re; subst re)
            have hBf : stepB rows nf i col = false := stepB_take (k := k) (by have := HOO.out.2.2.2.1; omega) hkn (by rw [← HOO.out.1, ← HOO.out.2.1, ← HRD.out.1, ← HRD.out.2.1, ← HD.out]; exact HQ2.out.symm)
            refine bodyPost_ret (results_tmp rfl _ _ _) rfl ?_
            refine ⟨by rw [hBf]; rfl, ?_, hB.out.grown gr6 hws (fun k e => by cases e; exact hbk)⟩
            intro h
            rw [hBf] at h
            cases h
          · go_wp2_with (go_at_call 87; refine (HTK.out).mono ?_; rintro e w6 ⟨re, tk6, gr6⟩; rw [← HQ2.out] at re; subst re)
            go_roundw
            case rel =>
              have r6 := tk6 HQ2.out.symm
              have S6 := hS.out.turn (k := k) (ps := takeR O (t1, t2) D) (by rw [HL2.out]; exact hlt) (by rw [HOO.out.2.2.2.2, show (takeR O (t1, t2) D).length = O.length by simp [takeR]]; exact r6) (by rw [HOO.out.2.2.2.2]; exact gr6)
              have hz := stepP_set rows nf i col k (by have := HOO.out.2.2.2.1; omega) hkn
              rw [← HOO.out.1, ← HOO.out.2.1, ← HRD.out.1, ← HRD.out.2.1, ← HD.out] at hz
              rw [hz] at S6
              refine ⟨k + 1, by omega, by go_num, S6, hB.out.grown gr6 hws (fun k e => by cases e; exact hbk), fun x hx hne => ?_⟩
              by_cases e : x = k
              · subst e
                rw [← HOO.out.1, ← HOO.out.2.1]
                exact HQ2.out.symm
              · exact hT.out x (by omega) hne
            case measure => simp [intOf]; omega
      · obtain rfl : k = N := by omega
        have hNr := HRD.out.2.2.2
        have hBt : stepB rows nf i col = true := stepB_yes (by rw [← HRD.out.1, ← HRD.out.2.1]; exact HQ.out.symm) (fun x hx hne => by
          rw [← HRD.out.1, ← HRD.out.2.1, ← HD.out]
          exact hT.out x (by omega) hne)
        clear hNr
        go_wp2
        refine bodyPost_ret (results_tmp rfl _ _ _) rfl ?_
        refine ⟨by rw [hBt]; rfl, fun _ => ?_, hB.out⟩
        have S7 := hS.out
        rw [show stepP rows nf i col k = stepT rows nf i col by rw [HRD.out.2.2.2]; exact stepP_all _ _ _ _] at S7
        rw [← HNN.out]
        exact ⟨_, us2, S7⟩
end Go.Proofs.Ytkcdpjcfbpjkeai
