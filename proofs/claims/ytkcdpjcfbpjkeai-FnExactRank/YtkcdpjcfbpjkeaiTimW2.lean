/- The walk of the program's Times. -/
import Derived.Test.YtkcdpjcfbpjkeaiTimW1
namespace Go.Proofs.Ytkcdpjcfbpjkeai
open Go.RowKit Go.Proofs.Ytkcdpjcfbpjkeai.RM

theorem Tab.empty {W : World} {base : Nat} {v : Value} (h : W.ownsRow base 63 1 v 0 []) : Tab W base v [] [] :=
  ⟨h, rfl, fun _ hi => absurd hi (Nat.not_lt_zero _), fun _ _ hi => absurd hi (Nat.not_lt_zero _)⟩
/-- the literal without a row -/
theorem Tab.lit {W : World} {base : Nat} (hb : base ≤ W.heap.size) : Tab (W.alloc (.cells #[] 63)) base (.slice (some ⟨W.heap.size, 0, none⟩) 0 0) [] [] :=
  Tab.empty (World.ownsRow_lit W (base := base) (e := 63) (size := 1) #[] 0 hb (Nat.zero_le _) rfl)
/-- the rows that are reckoned when k of them have been -/
def timP (a b : List (List Fr)) (k : Nat) : List (List Fr) := (List.range a.length).map (fun i => if i < k then timRow a b i (rw' b 0).length else [])
theorem timP_len (a b : List (List Fr)) (k : Nat) : (timP a b k).length = a.length := by simp [timP]
theorem timP_zero (a b : List (List Fr)) : timP a b 0 = List.replicate a.length [] := by
  apply List.ext_getElem
  · simp [timP]
  · intro i h1 h2
    simp [timP]
theorem timP_all (a b : List (List Fr)) : timP a b a.length = timT a b a.length := by
  apply List.ext_getElem
  · rw [timP_len, timT_len]
  · intro i h1 h2
    rw [timP_len] at h1
    simp [timP, timT, h1]
theorem timP_set (a b : List (List Fr)) (k : Nat) : (timP a b k).set k (timRow a b k (rw' b 0).length) = timP a b (k + 1) := by
  apply List.ext_getElem
  · simp [timP]
  · intro i h1 h2
    simp only [timP, List.getElem_set, List.getElem_map, List.getElem_range]
    by_cases e : k = i
    · subst e
      rw [if_pos rfl, if_pos (by omega)]
    · rw [if_neg e]
      by_cases h3 : i < k
      · rw [if_pos h3, if_pos (by omega)]
      · rw [if_neg h3, if_neg (by omega)]
/-- the entries that are reckoned when j of them have been -/
def timQ (a b : List (List Fr)) (i L j : Nat) : List Fr := (List.range L).map (fun x => if x < j then (timE a b i x).1 else (0, 0))
theorem timQ_len (a b : List (List Fr)) (i L j : Nat) : (timQ a b i L j).length = L := by simp [timQ]
theorem timQ_zero (a b : List (List Fr)) (i L : Nat) : timQ a b i L 0 = List.replicate L (0, 0) := by
  apply List.ext_getElem
  · simp [timQ]
  · intro x h1 h2
    simp [timQ]
theorem timQ_all (a b : List (List Fr)) (i L : Nat) : timQ a b i L L = timRow a b i L := by
  apply List.ext_getElem
  · rw [timQ_len, timRow_len]
  · intro x h1 h2
    rw [timQ_len] at h1
    simp [timQ, timRow, h1]
theorem timQ_set (a b : List (List Fr)) (i L j : Nat) : (timQ a b i L j).set j (timE a b i j).1 = timQ a b i L (j + 1) := by
  apply List.ext_getElem
  · simp [timQ]
  · intro x h1 h2
    simp only [timQ, List.getElem_set, List.getElem_map, List.getElem_range]
    by_cases e : j = x
    · subst e
      rw [if_pos rfl, if_pos (by omega)]
    · rw [if_neg e]
      by_cases h3 : x < j
      · rw [if_pos h3, if_pos (by omega)]
      · rw [if_neg h3, if_neg (by omega)]
theorem set_set' {α : Type} (l : List α) (k : Nat) (x y : α) : (l.set k x).set k y = l.set k y := by simp
theorem ret_tb {v : Value} {b b' : Bool} (h : b = b') : Ending.returned (.tuple #[v, .bool b]) = .returned (.tuple #[v, .bool b']) := by rw [h]

set_option maxRecDepth 100000 in
set_option maxHeartbeats 1000000 in
theorem iTimes_any (va vb : Value) (a b : List (List Fr)) (w : World) (ha : RdT w va a) (hb : RdT w vb b) :
    Calls Try.prog 21 #[va, vb] w fun e w' => ∃ v us, e = .returned (.tuple #[v, .bool (timO a b)]) ∧ Tab w' w.heap.size v us (timA a b) ∧ Below w.heap.size w w' := by
  obtain ⟨i0, hi, hz0, hz1, hz2⟩ := info_parts infoF
  obtain ⟨t0, hti, htz0, htz1, htz2⟩ := info_parts infoT
  have HA : Hid (RdT w va a) := ha
  have HB : Hid (RdT w vb b) := hb
  obtain ⟨pa, ca, rfl, ha2, _, _, ha5⟩ := ha
  obtain ⟨pb, cb, rfl, hb2, _, _, hb5⟩ := hb
  have HA5 : Hid (∀ i, i < a.length → ∃ b off u, pa = some ⟨b, off, none⟩ ∧ w.cell? ⟨b, off + i, none⟩ = some u ∧ RdR w u (rw' a i)) := ha5
  have HB5 : Hid (∀ i, i < b.length → ∃ b' off u, pb = some ⟨b', off, none⟩ ∧ w.cell? ⟨b', off + i, none⟩ = some u ∧ RdR w u (rw' b i)) := hb5
  unfold maxLen at ha2 hb2
  obtain ⟨qa, hqa⟩ : ∃ q, q = tabB a 6 := ⟨_, rfl⟩
  obtain ⟨qb, hqb⟩ : ∃ q, q = tabB b 6 := ⟨_, rfl⟩
  have HQA : Hid (qa = tabB a 6) := hqa
  have HQB : Hid (qb = tabB b 6) := hqb
  have CA : Hid (∀ W : World, RdT W (.slice pa a.length ca) a → Calls Try.prog 18 #[.slice pa a.length ca] W fun e w' => e = .returned (.bool qa) ∧ Below W.heap.size W w') := by
    intro W hW; rw [hqa]; exact iTab_any _ a W hW
  have CB : Hid (∀ W : World, RdT W (.slice pb b.length cb) b → Calls Try.prog 18 #[.slice pb b.length cb] W fun e w' => e = .returned (.bool qb) ∧ Below W.heap.size W w') := by
    intro W hW; rw [hqb]; exact iTab_any _ b W hW
  clear ha5 hb5 hqa hqb
  cases qa
  · have HO : Hid (timO a b = false) := timO_no (by unfold timC; rw [← HQA.out]; rfl)
    go_enter Try.func21, Try.ntmps21
    go_wp2_with fail
    refine (CA.out _ HA.out).mono ?_
    rintro e w1 ⟨rfl, hb1⟩
    go_wp2
    have HAN : Hid (timA a b = []) := timA_no HO.out
    refine bodyPost_ret (v := .tuple #[.slice (some ⟨w1.heap.size, 0, none⟩) 0 0, .bool false]) (by simp [results, Try.results21, go_sem]) rfl ⟨.slice (some ⟨w1.heap.size, 0, none⟩) 0 0, [], ret_tb HO.out.symm, ?_, hb1.alloc hb1.size _⟩
    rw [HAN.out]
    exact Tab.lit hb1.size
  cases qb
  · have HO : Hid (timO a b = false) := timO_no (by unfold timC; rw [← HQB.out]; simp)
    go_enter Try.func21, Try.ntmps21
    go_wp2_with fail
    refine (CA.out _ HA.out).mono ?_
    rintro e w1 ⟨rfl, hb1⟩
    go_wp2_with fail
    refine (CB.out _ (HB.out.below hb1)).mono ?_
    rintro e w2 ⟨rfl, hb2'⟩
    have hbb := hb1.trans (hb2'.mono hb1.size)
    clear hb1 hb2'
    go_wp2
    have HAN : Hid (timA a b = []) := timA_no HO.out
    refine bodyPost_ret (v := .tuple #[.slice (some ⟨w2.heap.size, 0, none⟩) 0 0, .bool false]) (by simp [results, Try.results21, go_sem]) rfl ⟨.slice (some ⟨w2.heap.size, 0, none⟩) 0 0, [], ret_tb HO.out.symm, ?_, hbb.alloc hbb.size _⟩
    rw [HAN.out]
    exact Tab.lit hbb.size
  obtain ⟨⟨ta1, ta2, ta3, ta4⟩, tar⟩ := tabB_out HQA.out.symm
  obtain ⟨⟨tb1, tb2, tb3, tb4⟩, tbr⟩ := tabB_out HQB.out.symm
  obtain ⟨ba, offa, ua, rfl, ca0, ⟨pa0, ca0', rfl, ma2, ma3, ma4, _⟩⟩ := HA5.out 0 (by omega)
  rw [Nat.add_zero] at ca0
  obtain ⟨La, hLa⟩ : ∃ L, L = (rw' a 0).length := ⟨_, rfl⟩
  have HLA : Hid (La = (rw' a 0).length) := hLa
  rw [← hLa] at ca0 ta3 ta4
  have TAR : Hid (∀ k, k < a.length → (rw' a k).length = La) := fun k hk => by rw [(tar k hk).1, hLa]
  clear hLa ma2 ma3 ma4 tar
  by_cases hne : La = b.length
  case neg =>
    have HO : Hid (timO a b = false) := timO_no (by unfold timC; rw [decide_eq_false (by rw [← HLA.out]; exact hne)]; simp)
    have hne' : ¬ (La : Int) = b.length := by omega
    clear hne tbr
    go_enter Try.func21, Try.ntmps21
    go_wp2_with fail
    refine (CA.out _ HA.out).mono ?_
    rintro e w1 ⟨rfl, hb1⟩
    go_wp2_with fail
    refine (CB.out _ (HB.out.below hb1)).mono ?_
    rintro e w2 ⟨rfl, hb2'⟩
    have hbb := hb1.trans (hb2'.mono hb1.size)
    have hc0 := cell_keep hbb ca0
    clear hb1 hb2'
    go_wp2
    have HAN : Hid (timA a b = []) := timA_no HO.out
    refine bodyPost_ret (v := .tuple #[.slice (some ⟨w2.heap.size, 0, none⟩) 0 0, .bool false]) (by simp [results, Try.results21, go_sem]) rfl ⟨.slice (some ⟨w2.heap.size, 0, none⟩) 0 0, [], ret_tb HO.out.symm, ?_, hbb.alloc hbb.size _⟩
    rw [HAN.out]
    exact Tab.lit hbb.size
  have HC : Hid (timC a b = true) := by
    show _ = _
    unfold timC
    rw [← HQA.out, ← HQB.out, decide_eq_true (by rw [← HLA.out]; exact hne)]; rfl
  have hne' : (La : Int) = b.length := by omega
  obtain ⟨bb, offb, ub, rfl, cb0, ⟨pb0, cb0', rfl, mb2, mb3, mb4, _⟩⟩ := HB5.out 0 (by omega)
  rw [Nat.add_zero] at cb0
  obtain ⟨L, hL⟩ : ∃ L, L = (rw' b 0).length := ⟨_, rfl⟩
  have HL : Hid (L = (rw' b 0).length) := hL
  rw [← hL] at cb0 tb3 tb4
  have TBR : Hid (∀ k, k < b.length → (rw' b k).length = L) := fun k hk => by rw [(tbr k hk).1, hL]
  have hL6 : L ≤ 6 := by omega
  clear hL mb2 mb3 mb4 tbr tb4 ta4
  go_enter Try.func21, Try.ntmps21
  go_wp2_with fail
  refine (CA.out _ HA.out).mono ?_
  rintro e w1 ⟨rfl, hb1⟩
  go_wp2_with fail
  refine (CB.out _ (HB.out.below hb1)).mono ?_
  rintro e w2 ⟨rfl, hb2'⟩
  have hbb := hb1.trans (hb2'.mono hb1.size)
  have hc0 := cell_keep hbb ca0
  have hs2 := hbb.size
  clear hb1 hb2' CA CB
  go_wp2_with (at_make; refine wpList_make_full _ rfl _ _ 35 rfl w.heap.size 63 t0 (.slice none 0 0) 1 Try.underlying35 hti htz0 htz1 .i64 .i64 _ _ a.length rfl rfl rfl rfl (by rw [htz2]; omega) (by unfold maxLen; omega) hs2 ?_; intro w3 hown hgrow)
  obtain ⟨G, hG⟩ : ∃ G, G = w2.heap.size := ⟨_, rfl⟩
  have o0 : Tab w3 w.heap.size (.slice (some ⟨G, 0, none⟩) a.length a.length) (List.replicate a.length (.slice none 0 0)) (timP a b 0) := by
    rw [timP_zero, hG]; refine Tab.made ?_; rw [← madeT]; exact hown
  have B3 : Below w.heap.size w w3 := hbb.grown hgrow hs2 (fun k e => by cases e)
  have hwG : w.heap.size ≤ G := by omega
  rw [← hG]
  clear hown hgrow hG hbb hs2 hc0
  go_loopw [35] (fun i wr => ∃ (k : Nat) (us : List Value), k ≤ a.length ∧ i = .int .i64 k ∧ Hid (Tab wr w.heap.size (.slice (some ⟨G, 0, none⟩) a.length a.length) us (timP a b k)) ∧ Hid (badT' a b k = false) ∧ Hid (Below w.heap.size w wr)) (fun i _ => a.length - (intOf i).toNat)
  case atStart => exact ⟨0, _, Nat.zero_le _, rfl, o0, rfl, B3⟩
  case round =>
    clear o0 B3
    obtain ⟨k, us, hk, rfl, hT, hBad, hB⟩ := hrel
    by_cases hlt : k < a.length
    · obtain ⟨ba', offa', ur, e, c1, hrow⟩ := HA5.out k hlt
      cases e
      obtain ⟨pr, cr, rfl, mr2, _, _, _⟩ := id hrow
      unfold maxLen at mr2
      have HROW : Hid (RdR w (.slice pr (rw' a k).length cr) (rw' a k)) := hrow
      replace c1 := cell_keep hB.out c1
      have c0 := cell_keep hB.out cb0
      have hsz := hB.out.size
      have hlu : us.length = a.length := hT.out.len.trans (timP_len _ _ _)
      clear hrow
      go_wp2_with (at_make; refine wpList_make_full _ rfl _ _ 63 rfl w.heap.size 24 i0 (.agg #[.int .i64 0, .int .i64 0]) 2 Try.underlying63 hi hz0 hz1 .i64 .i64 _ _ L rfl rfl rfl rfl (by rw [hz2]; omega) (by unfold maxLen; omega) hsz ?_; intro w4 hown hgrow; have hbg : Below wr.heap.size wr w4 := (Below.refl _ _).grown hgrow (Nat.le_refl _) (fun k e => by cases e); have T4 := hT.out.below hbg; have ho := T4.outer; rw [hlu] at ho; have d1 := ho.cellAt k (by omega); have f1 := ho.frozenAt k; rw [List.getElem?_eq_getElem (by omega)] at d1)
      obtain ⟨Gk, hGk⟩ : ∃ g, g = wr.heap.size := ⟨_, rfl⟩
      obtain ⟨x, hx⟩ : ∃ x : Value, x = .slice (some ⟨Gk, 0, none⟩) L L := ⟨_, rfl⟩
      have ox : w4.ownsRow w.heap.size 24 2 x (timQ a b k L 0).length (cellsR (timQ a b k L 0)) := by
        rw [timQ_len, timQ_zero, hx, hGk, ← madeF]; exact hown
      have T5 := T4.put (k := k) (by omega) ox (fun i hi _ b' hb' hb2 => by
        have h1 := hT.out.lt i hi b' hb'
        rw [hx] at hb2
        simp [Value.ownBlock] at hb2
        omega)
      have B5 : Below w.heap.size w (w4.setCell ⟨G, k, none⟩ x) := (hB.out.trans (hbg.mono hsz)).setCell (p := ⟨G, k, none⟩) hwG _
      obtain ⟨us', hus⟩ : ∃ us', us' = us.set k x := ⟨_, rfl⟩
      have HUK : Hid (vl us' k = .slice (some ⟨Gk, 0, none⟩) L L ∧ us'.length = a.length) := by
        refine ⟨?_, by rw [hus, List.length_set]; exact hlu⟩
        rw [hus, vl_set _ _ _ _ (by omega), if_pos rfl, hx]
      rw [← hus] at T5
      rw [← hGk, ← hx]
      have hxe : x = .slice (some ⟨Gk, 0, none⟩) L L := hx
      obtain ⟨X5, hX5⟩ : ∃ X, X = w4.setCell ⟨G, k, none⟩ x := ⟨_, rfl⟩
      rw [← hX5] at T5 B5 ⊢
      clear hx hX5 hus ho d1 f1 T4 hbg hown hgrow c1 c0 ox hGk
      subst hxe
      have hkb : (rw' a k).length = b.length := by rw [TAR.out k hlt]; exact hne
      obtain ⟨m, hm⟩ : ∃ m, b.length = m + 1 := ⟨b.length - 1, by omega⟩
      have HD : Hid (∀ (j : Nat) (W : World), j < L → Below w.heap.size w W → Calls Try.prog 52 #[.slice pr (rw' a k).length cr, .slice (some ⟨bb, offb, none⟩) b.length cb, .int .i64 j] W fun e w' => e = .returned (.tuple #[.agg #[.int .i64 (pdot (rw' a k) b j (m + 1)).1.1, .int .i64 (pdot (rw' a k) b j (m + 1)).1.2], .bool (pdot (rw' a k) b j (m + 1)).2]) ∧ Below W.heap.size W w') := by
        intro j W hj hW
        have := iDot_any (.slice pr (rw' a k).length cr) _ (rw' a k) b j W (HROW.out.below hW) (HB.out.below hW) (by omega) (fun i hi => by rw [TBR.out i hi]; exact hj)
        rw [hkb, hm] at this
        rw [hkb, hm]
        exact this
      have HE : Hid (∀ j, timE a b k j = sdot (rw' a k) b j m) := by intro j; unfold timE; rw [hm]; rfl
      clear hkb hm
      go_loopw [53] (fun i wr => ∃ j : Nat, j ≤ L ∧ i = .int .i64 j ∧ Hid (Tab wr w.heap.size (.slice (some ⟨G, 0, none⟩) a.length a.length) us' ((timP a b k).set k (timQ a b k L j))) ∧ Hid (badR a b k j = false) ∧ Hid (Below w.heap.size w wr)) (fun i _ => L - (intOf i).toNat)
      case atStart => exact ⟨0, Nat.zero_le _, rfl, T5, rfl, B5⟩
      case round =>
        clear T5 B5 hT hB hsz
        obtain ⟨j, hj, rfl, hT, hBr, hB⟩ := hrel
        have hsz := hB.out.size
        by_cases hjl : j < L
        · have hdb := dot_both (rw' a k) b j m
          rw [← HE.out j] at hdb
          obtain ⟨q, hq⟩ : ∃ q, q = pdot (rw' a k) b j (m + 1) := ⟨_, rfl⟩
          have HDJ : Hid (∀ W : World, Below w.heap.size w W → Calls Try.prog 52 #[.slice pr (rw' a k).length cr, .slice (some ⟨bb, offb, none⟩) b.length cb, .int .i64 j] W fun e w' => e = .returned (.tuple #[.agg #[.int .i64 q.1.1, .int .i64 q.1.2], .bool q.2]) ∧ Below W.heap.size W w') := by
            intro W hW; rw [hq]; exact HD.out j W hjl hW
          rw [← hq] at hdb
          clear hq
          rcases hdb with ⟨h1, rfl⟩ | ⟨h1, rfl, h3⟩
          · have HO : Hid (timO a b = false) := timO_bad hlt (by rw [← HL.out]; exact hjl) h1
            have HAN : Hid (timA a b = []) := timA_no HO.out
            clear h1
            go_wp2_with fail
            refine (HDJ.out _ hB.out).mono ?_
            rintro e w6 ⟨rfl, hb6⟩
            have B6 := (hB.out.trans (hb6.mono hsz)).alloc (hB.out.trans (hb6.mono hsz)).size (.cells #[.int .i64 0, .int .i64 0] 24)
            clear hb6
            go_wp2
            refine bodyPost_ret (v := .tuple #[.slice (some ⟨w6.heap.size + 1, 0, none⟩) 0 0, .bool false]) (by simp [results, Try.results21, go_sem]) rfl ⟨.slice (some ⟨w6.heap.size + 1, 0, none⟩) 0 0, [], ret_tb HO.out.symm, ?_, B6.alloc B6.size _⟩
            rw [HAN.out]
            simpa using Tab.lit B6.size
          · have HS1 : Hid ((timE a b k j).2 = false) := h1
            obtain ⟨s, hs⟩ : ∃ s, s = (timE a b k j).1 := ⟨_, rfl⟩
            have HSV : Hid (s = (timE a b k j).1) := hs
            rw [← hs] at HDJ
            clear h1 h3 hs
            obtain ⟨s1, s2⟩ := s
            go_wp2_with fail
            refine (HDJ.out _ hB.out).mono ?_
            rintro e w6 ⟨rfl, hb6⟩
            have hbx : Below wr.heap.size wr (w6.alloc (.cells #[.int .i64 s1, .int .i64 s2] 24)) := hb6.alloc hb6.size _
            have T6 := hT.out.below hbx
            have B6 := hB.out.trans (hbx.mono hsz)
            clear hb6 hbx
            have ho := T6.outer
            rw [HUK.out.2] at ho
            have d1 := ho.cellAt k (by omega)
            rw [List.getElem?_eq_getElem (by rw [HUK.out.2]; exact hlt), show us'[k]'(by rw [HUK.out.2]; exact hlt) = vl us' k by simp [vl, List.getElem?_eq_getElem (show k < us'.length by rw [HUK.out.2]; exact hlt)], HUK.out.1] at d1
            have hin := T6.inner k (by rw [HUK.out.2]; exact hlt)
            rw [rw_set _ _ _ _ (by rw [timP_len]; exact hlt), if_pos rfl, timQ_len, HUK.out.1] at hin
            obtain ⟨n1, n2⟩ := own_R hin (timQ_len _ _ _ _ _) j hjl
            have f1 := hin.frozenAt (j * 2)
            have f2 := hin.frozenAt (j * 2 + 1)
            generalize ((timQ a b k L j)[j]?.getD (0, 0)).1 = y1 at n1
            generalize ((timQ a b k L j)[j]?.getD (0, 0)).2 = y2 at n2
            have HIN : Hid _ := hin
            clear ho hin
            go_wp2
            go_region
            all_goals go_wp2
            all_goals
              go_roundw
              case rel =>
                have hdr : Below (w6.alloc (.cells #[.int .i64 s1, .int .i64 s2] 24)).heap.size (w6.alloc (.cells #[.int .i64 s1, .int .i64 s2] 24)) (w6.alloc (.cells #[.int .i64 s1, .int .i64 s2] 24)).drew := (Below.refl _ _).drew
                have TD := T6.below hdr
                have oD := own_below HIN.out hdr
                obtain ⟨p1, p2⟩ := oD.stored (j * 2) (.int .i64 s1)
                obtain ⟨p3, p4⟩ := p1.stored (j * 2 + 1) (.int .i64 s2)
                rw [cellsR_set _ _ _ _ (by rw [timQ_len]; exact hjl), show ((s1, s2) : Fr) = (timE a b k j).1 from HSV.out, timQ_set] at p3
                have T7 := TD.turn (k := k) (ps := timQ a b k L (j + 1)) (by rw [HUK.out.2]; exact hlt) (by rw [timQ_len, HUK.out.1]; exact p3) (by rw [HUK.out.1]; exact p2.trans p4)
                rw [set_set'] at T7
                have hgk : w.heap.size ≤ Gk := (World.ownsRow.lt HIN.out Gk rfl).1
                refine ⟨j + 1, by omega, by go_num, T7, ?_, ((B6.trans (hdr.mono B6.size)).setCell (p := ⟨Gk, j * 2, none⟩) hgk _).setCell (p := ⟨Gk, j * 2 + 1, none⟩) hgk _⟩
                show badR a b k (j + 1) = false
                rw [badR_succ, hBr.out, HS1.out]; rfl
              case measure => simp [intOf]; omega
        · obtain rfl : j = L := by omega
          go_wp2
          go_roundw
          case rel =>
            refine ⟨k + 1, us', by omega, by go_num, ?_, ?_, hB.out⟩
            · have := hT.out
              rw [timQ_all, HL.out, timP_set] at this
              exact this
            · show badT' a b (k + 1) = false
              rw [badT_succ, hBad.out, ← HL.out, hBr.out]; rfl
          case measure => simp [intOf]; omega
    · obtain rfl : k = a.length := by omega
      have HO : Hid (timO a b = true) := by show _ = _; unfold timO; rw [HC.out, hBad.out]; rfl
      have HAN : Hid (timA a b = timT a b a.length) := timA_yes HO.out
      go_wp2
      refine bodyPost_ret (v := .tuple #[.slice (some ⟨G, 0, none⟩) a.length a.length, .bool true]) (by simp [results, Try.results21, go_sem]) rfl ⟨_, us, ret_tb HO.out.symm, ?_, hB.out⟩
      rw [HAN.out, ← timP_all]
      exact hT.out
end Go.Proofs.Ytkcdpjcfbpjkeai
