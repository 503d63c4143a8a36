/- The walk of the program's Alone. -/
import Derived.Test.YtkcdpjcfbpjkeanBudP7
namespace Go.Proofs.Ytkcdpjcfbpjkean
open Go.RowKit Go.Proofs.Ytkcdpjcfbpjkean.RM

theorem aloneC_row (vs : List Fr) : rowB vs = aloneC vs := by
  unfold rowB aloneC allB
  rw [decide_eq_true (show (vs.length : Int) < 0 ∨ (vs.length : Int) = vs.length from .inr rfl), Bool.true_and]
/-- the rows of Alone when k of them are done -/
def alnP (vs : List Fr) (k : Nat) : List (List Fr) := (List.range vs.length).map (fun i => if i < k then aloneR vs vs.length i else [])
theorem alnP_len (vs : List Fr) (k : Nat) : (alnP vs k).length = vs.length := by simp [alnP]
theorem alnP_zero (vs : List Fr) : alnP vs 0 = List.replicate vs.length [] := by
  apply List.ext_getElem
  · simp [alnP]
  · intro i h1 h2
    simp [alnP]
theorem alnP_all (vs : List Fr) : alnP vs vs.length = aloneT vs vs.length := by
  unfold alnP aloneT
  apply List.ext_getElem
  · simp
  · intro i h1 h2
    simp only [List.getElem_map, List.getElem_range]
    rw [if_pos (by simpa using h1)]
theorem alnP_set (vs : List Fr) (k : Nat) : (alnP vs k).set k (aloneR vs vs.length k) = alnP vs (k + 1) := by
  apply List.ext_getElem
  · simp [alnP]
  · intro i h1 h2
    simp only [alnP, List.getElem_set, List.getElem_map, List.getElem_range]
    by_cases e : k = i
    · subst e
      rw [if_pos rfl, if_pos (by omega)]
    · rw [if_neg e]
      by_cases h3 : i < k
      · rw [if_pos h3, if_pos (by omega)]
      · rw [if_neg h3, if_neg (by omega)]
/-- a row of which j noughts are laid -/
def fllR (n j : Nat) : List Fr := (List.range n).map (fun i => if i < j then (0, 1) else (0, 0))
theorem fllR_len (n j : Nat) : (fllR n j).length = n := by simp [fllR]
theorem fllR_zero (n : Nat) : fllR n 0 = List.replicate n (0, 0) := by
  apply List.ext_getElem
  · simp [fllR]
  · intro i h1 h2
    simp [fllR]
theorem fllR_all (n : Nat) : fllR n n = List.replicate n (0, 1) := by
  apply List.ext_getElem
  · simp [fllR]
  · intro i h1 h2
    simp only [fllR, List.getElem_map, List.getElem_range, List.getElem_replicate]
    rw [if_pos (by simpa [fllR] using h1)]
theorem fllR_set (n j : Nat) : (fllR n j).set j (0, 1) = fllR n (j + 1) := by
  apply List.ext_getElem
  · simp [fllR]
  · intro i h1 h2
    simp only [fllR, List.getElem_set, List.getElem_map, List.getElem_range]
    by_cases e : j = i
    · subst e
      rw [if_pos rfl, if_pos (by omega)]
    · rw [if_neg e]
      by_cases h3 : i < j
      · rw [if_pos h3, if_pos (by omega)]
      · rw [if_neg h3, if_neg (by omega)]

set_option maxRecDepth 100000 in
set_option maxHeartbeats 4000000 in
theorem iAlone_any (v : Value) (vs : List Fr) (w : World) (h : RdR w v vs) :
    Calls Try.prog 21 #[v] w fun e w' => ∃ vm us, e = .returned vm ∧ Tab w' w.heap.size vm us (aloneA vs) ∧ Below w.heap.size w w' := by
  obtain ⟨i0, hi, hz0, hz1, hz2⟩ := info_parts infoF
  obtain ⟨t0, hti, htz0, htz1, htz2⟩ := info_parts infoT
  have b0 : ∀ {u : World} (o : Obj), Below u.heap.size u (u.alloc o) := fun o => (Below.refl _ _).alloc (Nat.le_refl _) o
  have HR := hidW8 (fun W (hW : Below w.heap.size w W) => iRow_any v vs W (h.below hW))
  obtain ⟨q, hq⟩ : ∃ q, q = rowB vs := ⟨_, rfl⟩
  rw [← hq] at HR
  have HQ : Hid (aloneC vs = q) := by show _ = _; rw [hq, aloneC_row]
  obtain ⟨a, c, rfl, h2, _, _, h5⟩ := h
  have H5 : Hid (∀ j, j < vs.length → ∃ b off, a = some ⟨b, off, none⟩ ∧ w.cell? ⟨b, off + j * 2, none⟩ = some (.int .i64 (fr vs j).1) ∧ w.cell? ⟨b, off + j * 2 + 1, none⟩ = some (.int .i64 (fr vs j).2)) := h5
  unfold maxLen at h2
  clear h5 hq
  cases q
  · have HA := hidW8 (aloneA_no HQ.out)
    clear H5
    go_enter Try.func21, Try.ntmps21
    go_wp2_with fail
    refine (HR.out _ (Below.refl _ _)).mono ?_
    rintro e w1 ⟨rfl, hb⟩
    go_wp2
    refine bodyPost_ret (results_tmp rfl _ _ _) rfl ⟨.slice (some ⟨w1.heap.size, 0, none⟩) 0 0, [], rfl, ?_, hb.alloc hb.size _⟩
    rw [HA.out]
    exact Tab.lit hb.size
  have HA := hidW8 (aloneA_yes HQ.out)
  have h6 : vs.length ≤ 6 := by
    have := HQ.out
    unfold aloneC at this
    rw [Bool.and_eq_true, decide_eq_true_eq] at this
    exact this.1.2
  obtain ⟨L, hL⟩ : ∃ L, L = vs.length := ⟨_, rfl⟩
  have HL := hidW8 hL
  have HAL : Hid (∀ k, (alnP vs k).length = L) := fun k => by rw [alnP_len, hL]
  have HA0 : Hid (alnP vs 0 = List.replicate L []) := by show _ = _; rw [alnP_zero, hL]
  have HAS : Hid (∀ k, (alnP vs k).set k (aloneR vs L k) = alnP vs (k + 1)) := fun k => by rw [hL]; exact alnP_set vs k
  have HAA : Hid (aloneA vs = alnP vs L) := by show _ = _; rw [HA.out, hL, alnP_all]
  rw [← hL] at h2 h6 H5 HR ⊢
  clear hL HA
  go_enter Try.func21, Try.ntmps21
  go_wp2_with fail
  refine (HR.out _ (Below.refl _ _)).mono ?_
  rintro e w2 ⟨rfl, hbb⟩
  have hs2 := hbb.size
  clear HR
  go_wp2_with (at_make; refine wpList_make_full _ rfl _ _ 25 rfl w.heap.size 35 t0 (.slice none 0 0) 1 Try.underlying25 hti htz0 htz1 .i64 .i64 _ _ L rfl rfl rfl rfl (by rw [htz2]; omega) (by unfold maxLen; omega) hs2 ?_; intro w3 hown hgrow)
  obtain ⟨G, hG⟩ : ∃ G, G = w2.heap.size := ⟨_, rfl⟩
  have o0 : Tab w3 w.heap.size (.slice (some ⟨G, 0, none⟩) L L) (List.replicate L (.slice none 0 0)) (alnP vs 0) := by
    rw [HA0.out, hG]; refine Tab.made ?_; rw [← madeT]; exact hown
  have B3 : Below w.heap.size w w3 := hbb.grown hgrow hs2 (fun k e => by cases e)
  have hwG : w.heap.size ≤ G := by omega
  rw [← hG]
  clear hown hgrow hG hbb hs2
  go_loopw [16] (fun i wr => ∃ (k : Nat) (us : List Value), k ≤ L ∧ i = .int .i64 k ∧ Hid (Tab wr w.heap.size (.slice (some ⟨G, 0, none⟩) L L) us (alnP vs k)) ∧ Hid (Below w.heap.size w wr)) (fun i _ => L - (intOf i).toNat)
  case atStart => exact ⟨0, _, Nat.zero_le _, rfl, o0, B3⟩
  case round =>
    clear o0 B3
    obtain ⟨k, us, hk, rfl, hT, hB⟩ := hrel
    by_cases hlt : k < L
    · obtain ⟨vb, vo, rfl, c1, c2⟩ := H5.out k hlt
      replace c1 := cell_keep hB.out c1
      replace c2 := cell_keep hB.out c2
      obtain ⟨p, hp⟩ : ∃ p, p = fr vs k := ⟨_, rfl⟩
      rw [← hp] at c1 c2
      have HP := hidW8 hp
      obtain ⟨v1, v2⟩ := p
      dsimp only at c1 c2
      have hsz0 := hB.out.size
      have hlu : us.length = L := hT.out.len.trans (HAL.out _)
      clear hp
      obtain ⟨Vb, hVb⟩ : ∃ V, V = wr.heap.size := ⟨_, rfl⟩
      obtain ⟨Y, hY⟩ : ∃ Y, Y = (wr.alloc (.cells #[.int .i64 v1, .int .i64 v2] 32)) := ⟨_, rfl⟩
      have hby : Below wr.heap.size wr Y := by rw [hY]; exact b0 _
      have V0 : IsR Y Vb v1 v2 := by rw [hY, hVb]; exact IsR.new wr v1 v2
      have TY := hT.out.below hby
      have BY := hB.out.trans (hby.mono hsz0)
      have hsz := BY.size
      have hVY := V0.lt
      have HTL : Hid (∀ i, i < us.length → ∀ b, (vl us i).ownBlock = some b → b < Vb) := fun i hi b hb => by rw [hVb]; exact hT.out.lt i hi b hb
      have hGV : G < Vb := by rw [hVb]; exact (World.ownsRow.lt hT.out.outer G rfl).2
      have hwV : w.heap.size ≤ Vb := by omega
      have HYY : Hid (Y = (wr.alloc (.cells #[.int .i64 v1, .int .i64 v2] 32))) := hY
      have hYs : Y.heap.size = Vb + 1 := by rw [hY, hVb]; simp
      clear hby hT hB hsz0
      go_wp2_with (at_make; rw [← HYY.out]; refine wpList_make_full _ rfl _ _ 35 rfl w.heap.size 32 i0 (.agg #[.int .i64 0, .int .i64 0]) 2 Try.underlying35 hi hz0 hz1 .i64 .i64 _ _ L rfl rfl rfl rfl (by rw [hz2]; omega) (by unfold maxLen; omega) hsz ?_; intro w4 hown hgrow; have hbg : Below Y.heap.size Y w4 := (Below.refl _ _).grown hgrow (Nat.le_refl _) (fun k e => by cases e); have T4 := TY.below hbg; have V4 := V0.below hbg; have ho := T4.outer; rw [hlu] at ho; have d1 := ho.cellAt k (by omega); have f1 := ho.frozenAt k; rw [List.getElem?_eq_getElem (by omega)] at d1)
      obtain ⟨Gk, hGk⟩ : ∃ g, g = Y.heap.size := ⟨_, rfl⟩
      have hVG : Vb < Gk := by omega
      obtain ⟨x, hx⟩ : ∃ x : Value, x = .slice (some ⟨Gk, 0, none⟩) L L := ⟨_, rfl⟩
      have ox : w4.ownsRow w.heap.size 32 2 x (fllR L 0).length (cellsR (fllR L 0)) := by
        rw [fllR_len, fllR_zero, hx, hGk, ← madeF]; exact hown
      have T5 := T4.put (k := k) (by omega) ox (fun i hi _ b' hb' hb2 => by
        have h1 := HTL.out i hi b' hb'
        rw [hx] at hb2
        simp [Value.ownBlock] at hb2
        omega)
      have B5 : Below w.heap.size w (w4.setCell ⟨G, k, none⟩ x) := (BY.trans (hbg.mono hsz)).setCell (p := ⟨G, k, none⟩) hwG _
      have V5 : IsR (w4.setCell ⟨G, k, none⟩ x) Vb v1 v2 := V4.other (by omega) k x
      obtain ⟨us', hus⟩ : ∃ us', us' = us.set k x := ⟨_, rfl⟩
      have HUK : Hid (vl us' k = .slice (some ⟨Gk, 0, none⟩) L L ∧ us'.length = L) := by
        refine ⟨?_, by rw [hus, List.length_set]; exact hlu⟩
        rw [hus, vl_set _ _ _ _ (by omega), if_pos rfl, hx]
      rw [← hus] at T5
      rw [← hVb, show Vb + 1 = Gk by omega, ← hx]
      have hxe : x = .slice (some ⟨Gk, 0, none⟩) L L := hx
      obtain ⟨X5, hX5⟩ : ∃ X, X = w4.setCell ⟨G, k, none⟩ x := ⟨_, rfl⟩
      have c5 : X5.cell? ⟨G, k, none⟩ = some x := by
        have ho5 := T5.outer
        rw [HUK.out.2] at ho5
        have := ho5.cellAt k (by omega)
        rw [List.getElem?_eq_getElem (by rw [HUK.out.2]; exact hlt), show us'[k]'(by rw [HUK.out.2]; exact hlt) = vl us' k by simp [vl, List.getElem?_eq_getElem (show k < us'.length by rw [HUK.out.2]; exact hlt)], HUK.out.1, ← hx] at this
        rw [hX5]; exact this
      rw [← hX5] at T5 B5 V5 ⊢
      clear hx hX5 hus ho d1 f1 T4 hbg hown hgrow ox hGk V4 V0 TY BY hsz hVY HTL hY HYY hVb hYs
      subst hxe
      go_wp2
      go_loopw [32] (fun i wr => ∃ j : Nat, j ≤ L ∧ i = .int .i64 j ∧ Hid (Tab wr w.heap.size (.slice (some ⟨G, 0, none⟩) L L) us' ((alnP vs k).set k (fllR L j))) ∧ Hid (IsR wr Vb v1 v2) ∧ Hid (Below w.heap.size w wr)) (fun i _ => L - (intOf i).toNat)
      case atStart => exact ⟨0, Nat.zero_le _, rfl, T5, V5, B5⟩
      case round =>
        clear T5 B5 V5 c5
        obtain ⟨j, hj, rfl, hT, hV, hB⟩ := hrel
        have hsz := hB.out.size
        have T6 := hT.out
        have ho := T6.outer
        rw [HUK.out.2] at ho
        have d1 := ho.cellAt k (by omega)
        rw [List.getElem?_eq_getElem (by rw [HUK.out.2]; exact hlt), show us'[k]'(by rw [HUK.out.2]; exact hlt) = vl us' k by simp [vl, List.getElem?_eq_getElem (show k < us'.length by rw [HUK.out.2]; exact hlt)], HUK.out.1] at d1
        have hin := T6.inner k (by rw [HUK.out.2]; exact hlt)
        rw [rw_set _ _ _ _ (by rw [HAL.out]; exact hlt), if_pos rfl, fllR_len, HUK.out.1] at hin
        have HIN : Hid _ := hin
        have hgk : w.heap.size ≤ Gk := (World.ownsRow.lt HIN.out Gk rfl).1
        by_cases hjl : j < L
        · obtain ⟨n1, n2⟩ := own_R hin (fllR_len _ _) j hjl
          have f1 := hin.frozenAt (j * 2)
          have f2 := hin.frozenAt (j * 2 + 1)
          generalize ((fllR L j)[j]?.getD (0, 0)).1 = y1 at n1
          generalize ((fllR L j)[j]?.getD (0, 0)).2 = y2 at n2
          clear ho hin
          go_wp2
          go_roundw
          case rel =>
            have oI : wr.ownsRow w.heap.size 32 2 (.slice (some ⟨Gk, 0, none⟩) L L) L (cellsR (fllR L j)) := HIN.out
            obtain ⟨p1, p2⟩ := oI.stored (j * 2) (.int .i64 0)
            obtain ⟨p3, p4⟩ := p1.stored (j * 2 + 1) (.int .i64 1)
            rw [cellsR_set _ _ _ _ (by rw [fllR_len]; exact hjl), fllR_set] at p3
            have T7 := T6.turn (k := k) (ps := fllR L (j + 1)) (by rw [HUK.out.2]; exact hlt) (by rw [fllR_len, HUK.out.1]; exact p3) (by rw [HUK.out.1]; exact p2.trans p4)
            rw [set_set'] at T7
            exact ⟨j + 1, by omega, by go_num, T7, (hV.out.other (by omega) _ _).other (by omega) _ _, (hB.out.setCell (p := ⟨Gk, j * 2, none⟩) hgk _).setCell (p := ⟨Gk, j * 2 + 1, none⟩) hgk _⟩
          case measure => simp [intOf]; omega
        · obtain rfl : j = L := by omega
          obtain ⟨n1, n2⟩ := own_R hin (fllR_len _ _) k hlt
          have f1 := hin.frozenAt (k * 2)
          have f2 := hin.frozenAt (k * 2 + 1)
          generalize ((fllR j j)[k]?.getD (0, 0)).1 = y1 at n1
          generalize ((fllR j j)[k]?.getD (0, 0)).2 = y2 at n2
          have e0 := hV.out.c0
          have e1 := hV.out.c1
          clear ho hin
          go_wp2
          go_region
          all_goals go_wp2
          all_goals
            go_roundw
            case rel =>
              have hdr : Below wr.heap.size wr wr.drew := (Below.refl _ _).drew
              have TD := T6.below hdr
              have oD := own_below HIN.out hdr
              obtain ⟨p1, p2⟩ := oD.stored (k * 2) (.int .i64 v1)
              obtain ⟨p3, p4⟩ := p1.stored (k * 2 + 1) (.int .i64 v2)
              rw [cellsR_set _ _ _ _ (by rw [fllR_len]; exact hlt), show ((v1, v2) : Fr) = fr vs k from HP.out] at p3
              have T7 := TD.turn (k := k) (ps := (fllR j j).set k (fr vs k)) (by rw [HUK.out.2]; exact hlt) (by rw [List.length_set, fllR_len, HUK.out.1]; exact p3) (by rw [HUK.out.1]; exact p2.trans p4)
              rw [set_set', fllR_all, show (List.replicate j ((0, 1) : Fr)).set k (fr vs k) = aloneR vs j k from rfl, HAS.out] at T7
              exact ⟨k + 1, us', by omega, by go_num, T7, ((hB.out.trans (hdr.mono hsz)).setCell (p := ⟨Gk, k * 2, none⟩) hgk _).setCell (p := ⟨Gk, k * 2 + 1, none⟩) hgk _⟩
            case measure => simp [intOf]; omega
    · obtain rfl : k = L := by omega
      go_wp2
      refine bodyPost_ret (results_tmp rfl _ _ _) rfl ⟨_, us, rfl, ?_, hB.out⟩
      rw [HAA.out]
      exact hT.out
end Go.Proofs.Ytkcdpjcfbpjkean
