/- The walk of the program's Carried. -/
import Derived.Test.YtkcdpjcfbpjkeanBudP9
namespace Go.Proofs.Ytkcdpjcfbpjkean
open Go.RowKit Go.Proofs.Ytkcdpjcfbpjkean.RM

/-- what two rows of shares have together -/
def carE (S rows : List (List Fr)) (i j : Nat) : Fr × Bool := sumV (rw' S i) rows (rw' S j) false rows.length
def carRow (S rows : List (List Fr)) (i m : Nat) : List Fr := (List.range m).map fun j => (carE S rows i j).1
theorem crsV_bad (S rows : List (List Fr)) (i : Nat) : ∀ k, (crsV S rows i true k).2 = true
  | 0 => rfl
  | k + 1 => by
    show (sumV _ rows _ (crsV S rows i true k).2 rows.length).2 = true
    rw [crsV_bad S rows i k]; exact sumV_bad _ _ _ _
theorem crsV_mono (S rows : List (List Fr)) (i : Nat) (bd : Bool) : ∀ k n, k ≤ n → (crsV S rows i bd k).2 = true → (crsV S rows i bd n).2 = true
  | k, n, hkn, h => by
    induction n with
    | zero => obtain rfl : k = 0 := by omega
              exact h
    | succ n ih =>
      by_cases e : k = n + 1
      · subst e; exact h
      · have := ih (by omega)
        show (sumV _ rows _ (crsV S rows i bd n).2 rows.length).2 = true
        rw [this]; exact sumV_bad _ _ _ _
theorem crsV_good (S rows : List (List Fr)) (i : Nat) : ∀ k, (∀ j, j < k → (carE S rows i j).2 = false) → crsV S rows i false k = (carRow S rows i k, false)
  | 0, _ => rfl
  | k + 1, h => by
    have := crsV_good S rows i k (fun j hj => h j (by omega))
    show ((crsV S rows i false k).1 ++ [(sumV (rw' S i) rows (rw' S k) (crsV S rows i false k).2 rows.length).1], (sumV (rw' S i) rows (rw' S k) (crsV S rows i false k).2 rows.length).2) = _
    rw [this]
    unfold carRow
    rw [List.range_succ, List.map_append]
    show (_, (carE S rows i k).2) = _
    rw [h k (by omega)]; rfl
theorem carV_mono (S rows : List (List Fr)) : ∀ k n, k ≤ n → (carV S rows k).2 = true → (carV S rows n).2 = true
  | k, n, hkn, h => by
    induction n with
    | zero => obtain rfl : k = 0 := by omega
              exact h
    | succ n ih =>
      by_cases e : k = n + 1
      · subst e; exact h
      · have := ih (by omega)
        show (crsV S rows n (carV S rows n).2 S.length).2 = true
        rw [this]; exact crsV_bad _ _ _ _
theorem carV_good (S rows : List (List Fr)) : ∀ k, (∀ i, i < k → ∀ j, j < S.length → (carE S rows i j).2 = false) → carV S rows k = ((List.range k).map fun i => carRow S rows i S.length, false)
  | 0, _ => rfl
  | k + 1, h => by
    have := carV_good S rows k (fun i hi => h i (by omega))
    show ((carV S rows k).1 ++ [(crsV S rows k (carV S rows k).2 S.length).1], (crsV S rows k (carV S rows k).2 S.length).2) = _
    rw [this]
    dsimp only
    rw [crsV_good S rows k S.length (h k (by omega)), List.range_succ, List.map_append]; rfl
theorem carO_bad {S rows : List (List Fr)} {k j : Nat} (hk : k < S.length) (hj : j < S.length) (h : ∀ i, i < k → ∀ x, x < S.length → (carE S rows i x).2 = false) (h2 : ∀ x, x < j → (carE S rows k x).2 = false) (hb : (carE S rows k j).2 = true) : carO S rows = false := by
  have h1 : (crsV S rows k false (j + 1)).2 = true := by
    show (sumV _ rows _ (crsV S rows k false j).2 rows.length).2 = true
    rw [crsV_good S rows k j h2]; exact hb
  have h3 : (carV S rows (k + 1)).2 = true := by
    show (crsV S rows k (carV S rows k).2 S.length).2 = true
    rw [carV_good S rows k h]; exact crsV_mono S rows k false (j + 1) _ (by omega) h1
  unfold carO
  rw [carV_mono S rows (k + 1) S.length (by omega) h3]; simp
/-- the cover when k of its rows are laid -/
def carP (S rows : List (List Fr)) (k : Nat) : List (List Fr) := (List.range S.length).map (fun i => if i < k then carRow S rows i S.length else [])
theorem carP_len (S rows : List (List Fr)) (k : Nat) : (carP S rows k).length = S.length := by simp [carP]
theorem carP_zero (S rows : List (List Fr)) : carP S rows 0 = List.replicate S.length [] := by
  apply List.ext_getElem
  · simp [carP]
  · intro i h1 h2
    simp [carP]
theorem carP_all (S rows : List (List Fr)) : carP S rows S.length = (List.range S.length).map fun i => carRow S rows i S.length := by
  apply List.ext_getElem
  · simp [carP]
  · intro i h1 h2
    simp only [carP, List.getElem_map, List.getElem_range]
    rw [if_pos (by simpa [carP] using h1)]
theorem carP_set (S rows : List (List Fr)) (k : Nat) : (carP S rows k).set k (carRow S rows k S.length) = carP S rows (k + 1) := by
  apply List.ext_getElem
  · simp [carP]
  · intro i h1 h2
    simp only [carP, List.getElem_set, List.getElem_map, List.getElem_range]
    by_cases e : k = i
    · subst e
      rw [if_pos rfl, if_pos (by omega)]
    · rw [if_neg e]
      by_cases h3 : i < k
      · rw [if_pos h3, if_pos (by omega)]
      · rw [if_neg h3, if_neg (by omega)]
/-- a row of the cover when j of its numbers are laid -/
def carQ (S rows : List (List Fr)) (i L j : Nat) : List Fr := (List.range L).map (fun x => if x < j then (carE S rows i x).1 else (0, 0))
theorem carQ_len (S rows : List (List Fr)) (i L j : Nat) : (carQ S rows i L j).length = L := by simp [carQ]
theorem carQ_zero (S rows : List (List Fr)) (i L : Nat) : carQ S rows i L 0 = List.replicate L (0, 0) := by
  apply List.ext_getElem
  · simp [carQ]
  · intro x h1 h2
    simp [carQ]
theorem carQ_all (S rows : List (List Fr)) (i L : Nat) : carQ S rows i L L = carRow S rows i L := by
  apply List.ext_getElem
  · simp [carQ, carRow]
  · intro x h1 h2
    simp only [carQ, carRow, List.getElem_map, List.getElem_range]
    rw [if_pos (by simpa [carQ] using h1)]
theorem carQ_set (S rows : List (List Fr)) (i L j : Nat) : (carQ S rows i L j).set j (carE S rows i j).1 = carQ S rows i L (j + 1) := by
  apply List.ext_getElem
  · simp [carQ]
  · intro x h1 h2
    simp only [carQ, List.getElem_set, List.getElem_map, List.getElem_range]
    by_cases e : j = x
    · subst e
      rw [if_pos rfl, if_pos (by omega)]
    · rw [if_neg e]
      by_cases h3 : x < j
      · rw [if_pos h3, if_pos (by omega)]
      · rw [if_neg h3, if_neg (by omega)]
theorem carC_out {S rows : List (List Fr)} (h : carC S rows = true) : (1 ≤ S.length ∧ S.length ≤ 6) ∧ (1 ≤ rows.length ∧ rows.length ≤ 6) ∧ (∀ k, k < rows.length → (rw' rows k).length = rows.length) ∧ (∀ k, k < S.length → (rw' S k).length = rows.length) := by
  unfold carC at h
  rw [Bool.and_eq_true, Bool.and_eq_true, decide_eq_true_eq] at h
  obtain ⟨⟨h1, h2⟩, h3⟩ := h
  obtain ⟨⟨a1, a2, _⟩, a5⟩ := tabB_out h1
  obtain ⟨c1, c2, _⟩ := covB_out h2
  exact ⟨⟨a1, a2⟩, c1, fun k hk => (c2 k hk).1, fun k hk => (a5 k hk).1.trans h3⟩

set_option maxRecDepth 100000 in
set_option maxHeartbeats 4000000 in
theorem iCar_any (u v : Value) (S rows : List (List Fr)) (w : World) (h0 : RdT w u S) (h : RdT w v rows) :
    Calls Try.prog 29 #[u, v] w fun e w' => ∃ vm us, e = .returned (.tuple #[vm, .bool (carO S rows)]) ∧ Tab w' w.heap.size vm us (carA S rows) ∧ Below w.heap.size w w' := by
  obtain ⟨i0, hi, hz0, hz1, hz2⟩ := info_parts infoF
  obtain ⟨t0, hti, htz0, htz1, htz2⟩ := info_parts infoT
  have CC := hidW8 (fun W (hW : Below w.heap.size w W) => cby_any v u rows S W (h.below hW) (h0.below hW))
  obtain ⟨q, hq⟩ : ∃ q, q = carC S rows := ⟨_, rfl⟩
  rw [← hq] at CC
  have HQ := hidW8 hq
  have H0 := hidW8 h0
  have H1 := hidW8 h
  obtain ⟨pa, ca, rfl, ha2, _, _, ha5⟩ := h0
  obtain ⟨pt, nt, ct, rfl⟩ : ∃ a n c, v = .slice a n c := by obtain ⟨a, c, rfl, _⟩ := h; exact ⟨a, _, c, rfl⟩
  have HA5 : Hid (∀ i, i < S.length → ∃ b off u, pa = some ⟨b, off, none⟩ ∧ w.cell? ⟨b, off + i, none⟩ = some u ∧ RdR w u (rw' S i)) := ha5
  unfold maxLen at ha2
  clear ha5 hq h
  cases q
  · have HO : Hid (carO S rows = false) := carO_no HQ.out.symm
    have HAN : Hid (carA S rows = []) := by show _ = _; unfold carA; rw [HO.out]; rfl
    go_enter Try.func29, Try.ntmps29
    go_wp2_with fail
    refine (CC.out _ (Below.refl _ _)).mono ?_
    rintro e w1 ⟨rfl, hb1⟩
    go_wp2
    refine bodyPost_ret (v := .tuple #[.slice (some ⟨w1.heap.size, 0, none⟩) 0 0, .bool false]) (by simp [results, Try.results29, go_sem]) rfl ⟨.slice (some ⟨w1.heap.size, 0, none⟩) 0 0, [], ret_tb HO.out.symm, ?_, hb1.alloc hb1.size _⟩
    rw [HAN.out]
    exact Tab.lit hb1.size
  obtain ⟨⟨s1, s2⟩, ⟨r1, r2⟩, hrl, hsl⟩ := carC_out HQ.out.symm
  have HD : Hid (∀ (i j : Nat) (x y : Value) (W : World), i < S.length → j < S.length → Below w.heap.size w W → RdR W x (rw' S i) → RdR W y (rw' S j) → Calls Try.prog 41 #[x, .slice pt nt ct, y] W fun e w' =>
      e = .returned (.tuple #[.agg #[.int .i64 (togP (rw' S i) rows (rw' S j)).1.1, .int .i64 (togP (rw' S i) rows (rw' S j)).1.2], .bool (togP (rw' S i) rows (rw' S j)).2]) ∧ Below W.heap.size W w') :=
    fun i j x y W hi hj hW hx hy => tog_any x _ y (rw' S i) (rw' S j) rows W hx (H1.out.below hW) hy r1 r2 hrl (hsl i hi) (hsl j hj)
  have HE : Hid (∀ i j, togP (rw' S i) rows (rw' S j) = if (carE S rows i j).2 = true then ((0, 0), false) else ((carE S rows i j).1, true)) := fun i j => rfl
  have HPL : Hid (∀ k, (carP S rows k).length = S.length) := carP_len S rows
  have HP0 : Hid (carP S rows 0 = List.replicate S.length []) := carP_zero S rows
  have HPS : Hid (∀ k, (carP S rows k).set k (carRow S rows k S.length) = carP S rows (k + 1)) := carP_set S rows
  obtain ⟨L, hL⟩ : ∃ L, L = S.length := ⟨_, rfl⟩
  have HL := hidW8 hL
  rw [← hL] at ha2 s1 s2 HA5 CC H0 HD HPL HP0 HPS ⊢
  clear r1 r2 hrl hsl hL
  go_enter Try.func29, Try.ntmps29
  go_wp2_with fail
  refine (CC.out _ (Below.refl _ _)).mono ?_
  rintro e w2 ⟨rfl, hbb⟩
  have hs2 := hbb.size
  clear CC
  go_wp2_with (at_make; refine wpList_make_full _ rfl _ _ 25 rfl w.heap.size 35 t0 (.slice none 0 0) 1 Try.underlying25 hti htz0 htz1 .i64 .i64 _ _ L rfl rfl rfl rfl (by rw [htz2]; omega) (by unfold maxLen; omega) hs2 ?_; intro w3 hown hgrow)
  obtain ⟨G, hG⟩ : ∃ G, G = w2.heap.size := ⟨_, rfl⟩
  have o0 : Tab w3 w.heap.size (.slice (some ⟨G, 0, none⟩) L L) (List.replicate L (.slice none 0 0)) (carP S rows 0) := by
    rw [HP0.out, hG]; refine Tab.made ?_; rw [← madeT]; exact hown
  have B3 : Below w.heap.size w w3 := hbb.grown hgrow hs2 (fun k e => by cases e)
  have hwG : w.heap.size ≤ G := by omega
  rw [← hG]
  clear hown hgrow hG hbb hs2
  go_loopw [23] (fun i wr => ∃ (k : Nat) (us : List Value), k ≤ L ∧ i = .int .i64 k ∧ Hid (Tab wr w.heap.size (.slice (some ⟨G, 0, none⟩) L L) us (carP S rows k)) ∧ Hid (∀ i, i < k → ∀ j, j < L → (carE S rows i j).2 = false) ∧ Hid (Below w.heap.size w wr)) (fun i _ => L - (intOf i).toNat)
  case atStart => exact ⟨0, _, Nat.zero_le _, rfl, o0, fun i hi => absurd hi (Nat.not_lt_zero _), B3⟩
  case round =>
    clear o0 B3
    obtain ⟨k, us, hk, rfl, hT, hBad, hB⟩ := hrel
    by_cases hlt : k < L
    · obtain ⟨ba, offa, ur, rfl, c1, hrow⟩ := HA5.out k hlt
      obtain ⟨pr, nr, cr, rfl⟩ : ∃ a n c, ur = .slice a n c := by obtain ⟨a, c, rfl, _⟩ := hrow; exact ⟨a, _, c, rfl⟩
      have HROW : Hid (RdR w (.slice pr nr cr) (rw' S k)) := hrow
      replace c1 := cell_keep hB.out c1
      have hsz := hB.out.size
      have hlu : us.length = L := hT.out.len.trans (HPL.out _)
      clear hrow
      go_wp2_with (at_make; refine wpList_make_full _ rfl _ _ 35 rfl w.heap.size 32 i0 (.agg #[.int .i64 0, .int .i64 0]) 2 Try.underlying35 hi hz0 hz1 .i64 .i64 _ _ L rfl rfl rfl rfl (by rw [hz2]; omega) (by unfold maxLen; omega) hsz ?_; intro w4 hown hgrow; have hbg : Below wr.heap.size wr w4 := (Below.refl _ _).grown hgrow (Nat.le_refl _) (fun k e => by cases e); have T4 := hT.out.below hbg; have ho := T4.outer; rw [hlu] at ho; have d1 := ho.cellAt k (by omega); have f1 := ho.frozenAt k; rw [List.getElem?_eq_getElem (by omega)] at d1)
      obtain ⟨Gk, hGk⟩ : ∃ g, g = wr.heap.size := ⟨_, rfl⟩
      obtain ⟨x, hx⟩ : ∃ x : Value, x = .slice (some ⟨Gk, 0, none⟩) L L := ⟨_, rfl⟩
      have ox : w4.ownsRow w.heap.size 32 2 x (carQ S rows k L 0).length (cellsR (carQ S rows k L 0)) := by
        rw [carQ_len, carQ_zero, hx, hGk, ← madeF]; exact hown
      have T5 := T4.put (k := k) (by omega) ox (fun i hi _ b' hb' hb2 => by
        have h1 := hT.out.lt i hi b' hb'
        rw [hx] at hb2
        simp [Value.ownBlock] at hb2
        omega)
      have B5 : Below w.heap.size w (w4.setCell ⟨G, k, none⟩ x) := (hB.out.trans (hbg.mono hsz)).setCell (p := ⟨G, k, none⟩) hwG _
      obtain ⟨us', hus⟩ : ∃ us', us' = us.set k x := ⟨_, rfl⟩
      have HUK : Hid (vl us' k = .slice (some ⟨Gk, 0, none⟩) L L ∧ us'.length = L) := by
        refine ⟨?_, by rw [hus, List.length_set]; exact hlu⟩
        rw [hus, vl_set _ _ _ _ (by omega), if_pos rfl, hx]
      rw [← hus] at T5
      rw [← hGk, ← hx]
      have hxe : x = .slice (some ⟨Gk, 0, none⟩) L L := hx
      obtain ⟨X5, hX5⟩ : ∃ X, X = w4.setCell ⟨G, k, none⟩ x := ⟨_, rfl⟩
      rw [← hX5] at T5 B5 ⊢
      clear hx hX5 hus ho d1 f1 T4 hbg hown hgrow c1 ox hGk
      subst hxe
      go_loopw [36] (fun i wr => ∃ j : Nat, j ≤ L ∧ i = .int .i64 j ∧ Hid (Tab wr w.heap.size (.slice (some ⟨G, 0, none⟩) L L) us' ((carP S rows k).set k (carQ S rows k L j))) ∧ Hid (∀ x, x < j → (carE S rows k x).2 = false) ∧ Hid (Below w.heap.size w wr)) (fun i _ => L - (intOf i).toNat)
      case atStart => exact ⟨0, Nat.zero_le _, rfl, T5, fun i hi => absurd hi (Nat.not_lt_zero _), B5⟩
      case round =>
        clear T5 B5 hT hB hsz
        obtain ⟨j, hj, rfl, hT, hBr, hB⟩ := hrel
        have hsz := hB.out.size
        by_cases hjl : j < L
        · obtain ⟨ba', offa', ur', e, c2, hrow'⟩ := HA5.out j hjl
          cases e
          replace c2 := cell_keep hB.out c2
          obtain ⟨pr', nr', cr', rfl⟩ : ∃ a n c, ur' = .slice a n c := by obtain ⟨a, c, rfl, _⟩ := hrow'; exact ⟨a, _, c, rfl⟩
          have HDJ : Hid (∀ W : World, Below w.heap.size w W → Calls Try.prog 41 #[.slice pr nr cr, .slice pt nt ct, .slice pr' nr' cr'] W fun e w' => e = .returned (.tuple #[.agg #[.int .i64 (togP (rw' S k) rows (rw' S j)).1.1, .int .i64 (togP (rw' S k) rows (rw' S j)).1.2], .bool (togP (rw' S k) rows (rw' S j)).2]) ∧ Below W.heap.size W w') :=
            fun W hW => HD.out k j _ _ W hlt hjl hW (HROW.out.below hW) (hrow'.below hW)
          clear hrow'
          have hdb := HE.out k j
          rcases Bool.eq_false_or_eq_true (carE S rows k j).2 with h1 | h1
          · have HO : Hid (carO S rows = false) := carO_bad (by rw [← HL.out]; exact hlt) (by rw [← HL.out]; exact hjl) (by rw [← HL.out]; exact hBad.out) hBr.out h1
            have HAN : Hid (carA S rows = []) := by show _ = _; unfold carA; rw [HO.out]; rfl
            rw [if_pos h1] at hdb
            rw [hdb] at HDJ
            clear h1 hdb
            go_wp2_with fail
            refine (HDJ.out _ hB.out).mono ?_
            rintro e w6 ⟨rfl, hb6⟩
            have B6 := (hB.out.trans (hb6.mono hsz)).alloc (hB.out.trans (hb6.mono hsz)).size (.cells #[.int .i64 0, .int .i64 0] 32)
            clear hb6
            go_wp2
            refine bodyPost_ret (v := .tuple #[.slice (some ⟨w6.heap.size + 1, 0, none⟩) 0 0, .bool false]) (by simp [results, Try.results29, go_sem]) rfl ⟨.slice (some ⟨w6.heap.size + 1, 0, none⟩) 0 0, [], ret_tb HO.out.symm, ?_, B6.alloc B6.size _⟩
            rw [HAN.out]
            simpa using Tab.lit B6.size
          · have HS1 : Hid ((carE S rows k j).2 = false) := h1
            obtain ⟨s, hs⟩ : ∃ s, s = (carE S rows k j).1 := ⟨_, rfl⟩
            have HSV : Hid (s = (carE S rows k j).1) := hs
            rw [if_neg (by rw [h1]; decide), ← hs] at hdb
            rw [hdb] at HDJ
            clear h1 hs hdb
            obtain ⟨s1, s2⟩ := s
            go_wp2_with fail
            refine (HDJ.out _ hB.out).mono ?_
            rintro e w6 ⟨rfl, hb6⟩
            have hbx : Below wr.heap.size wr (w6.alloc (.cells #[.int .i64 s1, .int .i64 s2] 32)) := hb6.alloc hb6.size _
            have T6 := hT.out.below hbx
            have B6 := hB.out.trans (hbx.mono hsz)
            clear hb6 hbx
            have ho := T6.outer
            rw [HUK.out.2] at ho
            have d1 := ho.cellAt k (by omega)
            rw [List.getElem?_eq_getElem (by rw [HUK.out.2]; exact hlt), show us'[k]'(by rw [HUK.out.2]; exact hlt) = vl us' k by simp [vl, List.getElem?_eq_getElem (show k < us'.length by rw [HUK.out.2]; exact hlt)], HUK.out.1] at d1
            have hin := T6.inner k (by rw [HUK.out.2]; exact hlt)
            rw [rw_set _ _ _ _ (by rw [HPL.out]; exact hlt), if_pos rfl, carQ_len, HUK.out.1] at hin
            obtain ⟨n1, n2⟩ := own_R hin (carQ_len _ _ _ _ _) j hjl
            have f1 := hin.frozenAt (j * 2)
            have f2 := hin.frozenAt (j * 2 + 1)
            generalize ((carQ S rows k L j)[j]?.getD (0, 0)).1 = y1 at n1
            generalize ((carQ S rows k L j)[j]?.getD (0, 0)).2 = y2 at n2
            have HIN : Hid _ := hin
            clear ho hin
            go_wp2
            go_region
            all_goals go_wp2
            all_goals
              go_roundw
              case rel =>
                have hdr : Below (w6.alloc (.cells #[.int .i64 s1, .int .i64 s2] 32)).heap.size (w6.alloc (.cells #[.int .i64 s1, .int .i64 s2] 32)) (w6.alloc (.cells #[.int .i64 s1, .int .i64 s2] 32)).drew := (Below.refl _ _).drew
                have TD := T6.below hdr
                have oD := own_below HIN.out hdr
                obtain ⟨p1, p2⟩ := oD.stored (j * 2) (.int .i64 s1)
                obtain ⟨p3, p4⟩ := p1.stored (j * 2 + 1) (.int .i64 s2)
                rw [cellsR_set _ _ _ _ (by rw [carQ_len]; exact hjl), show ((s1, s2) : Fr) = (carE S rows k j).1 from HSV.out, carQ_set] at p3
                have T7 := TD.turn (k := k) (ps := carQ S rows k L (j + 1)) (by rw [HUK.out.2]; exact hlt) (by rw [carQ_len, HUK.out.1]; exact p3) (by rw [HUK.out.1]; exact p2.trans p4)
                rw [set_set'] at T7
                have hgk : w.heap.size ≤ Gk := (World.ownsRow.lt HIN.out Gk rfl).1
                refine ⟨j + 1, by omega, by go_num, T7, ?_, ((B6.trans (hdr.mono B6.size)).setCell (p := ⟨Gk, j * 2, none⟩) hgk _).setCell (p := ⟨Gk, j * 2 + 1, none⟩) hgk _⟩
                intro x hx
                by_cases e : x = j
                · subst e; exact HS1.out
                · exact hBr.out x (by omega)
              case measure => simp [intOf]; omega
        · obtain rfl : j = L := by omega
          go_wp2
          go_roundw
          case rel =>
            refine ⟨k + 1, us', by omega, by go_num, ?_, ?_, hB.out⟩
            · have := hT.out
              rw [carQ_all, HPS.out] at this
              exact this
            · intro i hi x hx
              by_cases e : i = k
              · subst e; exact hBr.out x hx
              · exact hBad.out i (by omega) x hx
          case measure => simp [intOf]; omega
    · obtain rfl : k = L := by omega
      have HV := hidW8 (carV_good S rows k (by rw [← HL.out]; exact hBad.out))
      have HO : Hid (carO S rows = true) := by show _ = _; unfold carO; rw [← HQ.out, ← HL.out, HV.out]; rfl
      have HAN : Hid (carA S rows = carP S rows k) := by show _ = _; unfold carA; rw [HO.out, if_pos rfl, ← HL.out, HV.out]; dsimp only; rw [HL.out, carP_all]
      go_wp2
      refine bodyPost_ret (v := .tuple #[.slice (some ⟨G, 0, none⟩) k k, .bool true]) (by simp [results, Try.results29, go_sem]) rfl ⟨_, us, ret_tb HO.out.symm, ?_, hB.out⟩
      rw [HAN.out]
      exact hT.out
end Go.Proofs.Ytkcdpjcfbpjkean
