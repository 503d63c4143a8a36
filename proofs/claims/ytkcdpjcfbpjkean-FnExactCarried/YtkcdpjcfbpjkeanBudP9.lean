/- The walk of the program's Parts. -/
import Derived.Test.YtkcdpjcfbpjkeanBudP8
import Derived.Test.YtkcdpjcfbpjkeanBudW5
namespace Go.Proofs.Ytkcdpjcfbpjkean
open Go.RowKit Go.Proofs.Ytkcdpjcfbpjkean.RM

theorem stpV_bad {m : Fr × Bool} (h : m.2 = true) (a c b : Fr) : (stpV m a c b).2 = true := by unfold stpV; dsimp only; rw [h]; simp
theorem rowV_bad (a : Fr) (r bs : List Fr) {m : Fr × Bool} (h : m.2 = true) : ∀ b, (rowV a r bs m b).2 = true
  | 0 => h
  | b + 1 => stpV_bad (rowV_bad a r bs h b) _ _ _
theorem sumV_bad (ps : List Fr) (rows : List (List Fr)) (bs : List Fr) : ∀ k, (sumV ps rows bs true k).2 = true
  | 0 => rfl
  | k + 1 => rowV_bad _ _ _ (sumV_bad ps rows bs k) _
theorem partS_bad (ps : List Fr) (rows : List (List Fr)) (i : Nat) : (partS ps rows i true).2 = true := rowV_bad _ _ _ rfl _
theorem prtV_bad (ps : List Fr) (rows : List (List Fr)) : ∀ k n, k ≤ n → (prtV ps rows k).2 = true → (prtV ps rows n).2 = true
  | k, n, hkn, h => by
    induction n with
    | zero => obtain rfl : k = 0 := by omega
              exact h
    | succ n ih =>
      by_cases e : k = n + 1
      · subst e; exact h
      · have := ih (by omega)
        show (partS ps rows n (prtV ps rows n).2).2 = true
        rw [this]; exact partS_bad ps rows n
theorem prtV_good (ps : List Fr) (rows : List (List Fr)) : ∀ k, (∀ i, i < k → (partS ps rows i false).2 = false) → prtV ps rows k = ((List.range k).map fun i => (partS ps rows i false).1, false)
  | 0, _ => rfl
  | k + 1, h => by
    have := prtV_good ps rows k (fun i hi => h i (by omega))
    show ((prtV ps rows k).1 ++ [(partS ps rows k (prtV ps rows k).2).1], (partS ps rows k (prtV ps rows k).2).2) = _
    rw [this, List.range_succ, List.map_append]
    dsimp only
    rw [h k (by omega)]; rfl
theorem prtO_bad {ps : List Fr} {rows : List (List Fr)} {k : Nat} (hk : k < rows.length) (h : ∀ i, i < k → (partS ps rows i false).2 = false) (hb : (partS ps rows k false).2 = true) : prtO ps rows = false := by
  have h1 : (prtV ps rows (k + 1)).2 = true := by
    show (partS ps rows k (prtV ps rows k).2).2 = true
    rw [prtV_good ps rows k h]; exact hb
  unfold prtO
  rw [prtV_bad ps rows (k + 1) rows.length (by omega) h1]; simp
/-- the parts when k of them are laid -/
def prtQ (ps : List Fr) (rows : List (List Fr)) (k : Nat) : List Fr := (List.range rows.length).map fun i => if i < k then (partS ps rows i false).1 else (0, 0)
theorem prtQ_len (ps : List Fr) (rows : List (List Fr)) (k : Nat) : (prtQ ps rows k).length = rows.length := by simp [prtQ]
theorem prtQ_zero (ps : List Fr) (rows : List (List Fr)) : prtQ ps rows 0 = List.replicate rows.length (0, 0) := by
  apply List.ext_getElem
  · simp [prtQ]
  · intro i h1 h2
    simp [prtQ]
theorem prtQ_all (ps : List Fr) (rows : List (List Fr)) : prtQ ps rows rows.length = (List.range rows.length).map fun i => (partS ps rows i false).1 := by
  apply List.ext_getElem
  · simp [prtQ]
  · intro i h1 h2
    simp only [prtQ, List.getElem_map, List.getElem_range]
    rw [if_pos (by simpa [prtQ] using h1)]
theorem prtQ_set (ps : List Fr) (rows : List (List Fr)) (k : Nat) : (prtQ ps rows k).set k (partS ps rows k false).1 = prtQ ps rows (k + 1) := by
  apply List.ext_getElem
  · simp [prtQ]
  · intro i h1 h2
    simp only [prtQ, List.getElem_set, List.getElem_map, List.getElem_range]
    by_cases e : k = i
    · subst e
      rw [if_pos rfl, if_pos (by omega)]
    · rw [if_neg e]
      by_cases h3 : i < k
      · rw [if_pos h3, if_pos (by omega)]
      · rw [if_neg h3, if_neg (by omega)]

set_option maxRecDepth 100000 in
set_option maxHeartbeats 4000000 in
theorem iParts_any (u v : Value) (ps : List Fr) (rows : List (List Fr)) (w : World) (h0 : RdR w u ps) (h : RdT w v rows) :
    Calls Try.prog 26 #[u, v] w fun e w' => ∃ vm, e = .returned (.tuple #[vm, .bool (prtO ps rows)]) ∧ w'.ownsRow w.heap.size 32 2 vm (prtA ps rows).length (cellsR (prtA ps rows)) ∧ Below w.heap.size w w' := by
  obtain ⟨i0, hi, hz0, hz1, hz2⟩ := info_parts infoF
  have b0 : ∀ {u : World} (o : Obj), Below u.heap.size u (u.alloc o) := fun o => (Below.refl _ _).alloc (Nat.le_refl _) o
  have HT : Hid (∀ (W : World) (b : Nat), Below w.heap.size w W → W.cell? ⟨b, 0, none⟩ = some u → Calls Try.prog 40 #[v, .slice (some ⟨b, 0, none⟩) 1 1] W fun e w' => e = .returned (.bool (toldC ps rows)) ∧ Below W.heap.size W w') := by
    intro W b hW hc
    have := cby_any v (.slice (some ⟨b, 0, none⟩) 1 1) rows [ps] W (h.below hW) (RdT.one hc (h0.below hW))
    rw [car_one8] at this
    exact this
  obtain ⟨q, hq⟩ : ∃ q, q = toldC ps rows := ⟨_, rfl⟩
  rw [← hq] at HT
  have HQ := hidW8 hq
  have H0 := hidW8 h0
  have H1 := hidW8 h
  cases q
  · have HO : Hid (prtO ps rows = false) := by show _ = _; unfold prtO; rw [← HQ.out]; rfl
    have HAN := hidW8 (prtA_no HO.out)
    obtain ⟨pa, na, ca, rfl⟩ : ∃ a n c, u = .slice a n c := by obtain ⟨a, c, rfl, _⟩ := h0; exact ⟨a, _, c, rfl⟩
    obtain ⟨pt, nt, ct, rfl⟩ : ∃ a n c, v = .slice a n c := by obtain ⟨a, c, rfl, _⟩ := h; exact ⟨a, _, c, rfl⟩
    clear h0 h hq
    go_enter Try.func26, Try.ntmps26
    go_wp2_with fail
    obtain ⟨N, hN⟩ : ∃ N, N = w.heap.size := ⟨_, rfl⟩
    obtain ⟨X1, hX1⟩ : ∃ X, X = w.alloc (.cells #[.slice pa na ca] 35) := ⟨_, rfl⟩
    obtain ⟨X, hX⟩ : ∃ X, X = X1.alloc (.cells #[.slice pa na ca] 35) := ⟨_, rfl⟩
    have e1 : X1.heap.size = N + 1 := by rw [hX1, hN]; simp
    have d1 : X.cell? ⟨N + 1, 0, none⟩ = some (.slice pa na ca) := by rw [hX, ← e1]; simp [go_sem]
    have B0 : Below w.heap.size w X := by rw [hX, hX1]; exact ((Below.refl _ _).alloc (Nat.le_refl _) _).alloc (by simp) _
    rw [← hX1, ← hX, ← hN]
    clear hX1 hX hN e1
    refine (HT.out X (N + 1) B0 d1).mono ?_
    rintro e w1 ⟨rfl, hb⟩
    have B1 := B0.trans (hb.mono B0.size)
    clear hb B0 d1
    go_wp2
    refine bodyPost_ret (v := .tuple #[.slice (some ⟨w1.heap.size, 0, none⟩) 0 0, .bool false]) (by simp [results, Try.results26, go_sem]) rfl ⟨.slice (some ⟨w1.heap.size, 0, none⟩) 0 0, ret_tb HO.out.symm, ?_, B1.alloc B1.size _⟩
    rw [HAN.out]
    exact litB w1 _ B1.size
  obtain ⟨t1, t2, t3, t4, t5⟩ := toldC_out HQ.out.symm
  obtain ⟨pa, ca, rfl, ha2, _, _, _⟩ := h0
  obtain ⟨pt, ct, rfl, ht2, _, _, ht5⟩ := h
  unfold maxLen at ha2 ht2
  have HT5 : Hid (∀ i, i < rows.length → ∃ b off u, pt = some ⟨b, off, none⟩ ∧ w.cell? ⟨b, off + i, none⟩ = some u ∧ RdR w u (rw' rows i)) := ht5
  have HLR : Hid (∀ k, k < rows.length → (rw' rows k).length = rows.length) := fun k hk => (t4 k hk).1
  have HLP := hidW8 t2
  have HPQ : Hid (∀ k, (prtQ ps rows k).length = rows.length) := prtQ_len ps rows
  have HP0 : Hid (prtQ ps rows 0 = List.replicate rows.length (0, 0)) := prtQ_zero ps rows
  rw [t2] at HT H0 ha2 ⊢
  obtain ⟨L, hL⟩ : ∃ L, L = rows.length := ⟨_, rfl⟩
  have HL := hidW8 hL
  rw [← hL] at ha2 ht2 HT5 HLR t1 HT HLP HPQ HP0 H0 H1 ⊢
  clear ht5 t2 t3 t4 t5 hq hL
  go_enter Try.func26, Try.ntmps26
  go_wp2_with fail
  obtain ⟨N, hN⟩ : ∃ N, N = w.heap.size := ⟨_, rfl⟩
  obtain ⟨X1, hX1⟩ : ∃ X, X = w.alloc (.cells #[.slice pa L ca] 35) := ⟨_, rfl⟩
  obtain ⟨X, hX⟩ : ∃ X, X = X1.alloc (.cells #[.slice pa L ca] 35) := ⟨_, rfl⟩
  have e1 : X1.heap.size = N + 1 := by rw [hX1, hN]; simp
  have d1 : X.cell? ⟨N + 1, 0, none⟩ = some (.slice pa L ca) := by rw [hX, ← e1]; simp [go_sem]
  have d0 : X1.cell? ⟨N, 0, none⟩ = some (.slice pa L ca) := by rw [hX1, hN]; simp [go_sem]
  replace d0 := cell_keep (show Below X1.heap.size X1 X by rw [hX]; exact b0 _) d0
  have B0 : Below w.heap.size w X := by rw [hX, hX1]; exact ((Below.refl _ _).alloc (Nat.le_refl _) _).alloc (by simp) _
  have hwN : w.heap.size ≤ N := by omega
  rw [← hX1, ← hX, ← hN]
  clear hX1 hX hN e1
  refine (HT.out X (N + 1) B0 d1).mono ?_
  rintro e w1 ⟨rfl, hb⟩
  have B1 := B0.trans (hb.mono B0.size)
  have hs1 := B1.size
  have D0 := cell_keep hb d0
  have l0 := World.block_lt_of_cell? w1 _ D0
  dsimp only at l0
  clear hb B0 d1 d0 HT
  go_wp2_with (at_make; refine wpList_make_full _ rfl _ _ 35 rfl w.heap.size 32 i0 (.agg #[.int .i64 0, .int .i64 0]) 2 Try.underlying35 hi hz0 hz1 .i64 .i64 _ _ L rfl rfl rfl rfl (by rw [hz2]; omega) (by unfold maxLen; omega) hs1 ?_; intro w3 hown hgrow)
  obtain ⟨G, hG⟩ : ∃ G, G = w1.heap.size := ⟨_, rfl⟩
  have o0 : w3.ownsRow w.heap.size 32 2 (.slice (some ⟨G, 0, none⟩) L L) L (cellsR (prtQ ps rows 0)) := by
    rw [HP0.out, hG, ← madeF]; exact hown
  have hbg : Below w1.heap.size w1 w3 := (Below.refl _ _).grown hgrow (Nat.le_refl _) (fun k e => by cases e)
  have B3 : Below w.heap.size w w3 := B1.trans (hbg.mono hs1)
  have D3 := cell_keep hbg D0
  have hwG : w.heap.size ≤ G := by omega
  have hNG : N < G := by omega
  rw [← hG]
  clear hown hgrow hG hbg hs1 D0 B1 l0
  go_loopw [22] (fun i wr => ∃ k : Nat, k ≤ L ∧ i = .int .i64 k ∧ Hid (wr.ownsRow w.heap.size 32 2 (.slice (some ⟨G, 0, none⟩) L L) L (cellsR (prtQ ps rows k))) ∧ Hid (∀ i, i < k → (partS ps rows i false).2 = false) ∧ Hid (wr.cell? ⟨N, 0, none⟩ = some (.slice pa L ca)) ∧ Hid (Below w.heap.size w wr)) (fun i _ => L - (intOf i).toNat)
  case atStart => exact ⟨0, Nat.zero_le _, rfl, o0, fun i hi => absurd hi (Nat.not_lt_zero _), D3, B3⟩
  case round =>
    clear o0 D3 B3
    obtain ⟨k, hk, rfl, hO, hP, hN, hB⟩ := hrel
    have hsz := hB.out.size
    by_cases hlt : k < L
    · obtain ⟨tb, to', ur, rfl, c1, hrow⟩ := HT5.out k hlt
      obtain ⟨pr, cr, rfl, mr2, _, _, _⟩ := id hrow
      rw [HLR.out k hlt] at hrow mr2 c1
      have HROW := hidW8 hrow
      unfold maxLen at mr2
      replace c1 := cell_keep hB.out c1
      obtain ⟨f, hf⟩ : ∃ f : Nat → Fr, f = fun b => tbP (fr ps k) (fr (rw' rows k) b) (fr ps b) := ⟨_, rfl⟩
      have HREL : Hid (RelS (pfold f L) (partS ps rows k false)) := by
        show RelS _ _
        rw [HL.out]
        exact fold_part f ps rows k (fun b hb => by rw [hf])
      have HF : Hid (∀ (W : World) (Bi Br : Nat), Below w.heap.size w W → W.cell? ⟨N, 0, none⟩ = some (.slice pa L ca) → W.cell? ⟨Bi, 0, none⟩ = some (.int .i64 k) → W.cell? ⟨Br, 0, none⟩ = some (.slice pr L cr) → ∀ j, j < L →
          Calls Try.prog 48 #[.int .i64 j, .pointer (some ⟨N, 0, none⟩), .pointer (some ⟨Bi, 0, none⟩), .pointer (some ⟨Br, 0, none⟩)] W fun e w' => e = .returned (.agg #[.int .i64 (f j).1, .int .i64 (f j).2]) ∧ Below W.heap.size W w') := by
        intro W Bi Br hW c1 c2 c3 j hj
        rw [hf]
        exact parF_any N Bi Br _ _ ps (rw' rows k) k j W c1 c2 c3 (H0.out.below hW) (HROW.out.below hW) (by rw [HLP.out]; exact hlt) (by rw [HLP.out]; exact hj) (by rw [HLR.out k hlt]; exact hj)
      have HI : Hid (∀ W : World, Below w.heap.size w W → Calls Try.prog 47 #[.slice pr L cr] W fun e w' => ∃ g xs, e = .returned (.slice (some ⟨g, 0, none⟩) L L) ∧ w'.ownsRow W.heap.size 3 1 (.slice (some ⟨g, 0, none⟩) L L) L xs ∧ (∀ j, j < L → xs[j]? = some (.int .i64 j)) ∧ Below W.heap.size W w') := by
        intro W hW
        have := idx_any _ (rw' rows k) W (HROW.out.below hW) (by rw [HLR.out k hlt]; omega)
        rw [HLR.out k hlt] at this
        exact this
      obtain ⟨q, hq⟩ : ∃ q, q = pfold f L := ⟨_, rfl⟩
      have HQF := hidW8 hq
      rw [← hq] at HREL
      clear hrow hf hq
      go_wp2_with fail
      obtain ⟨Ib, hIb⟩ : ∃ N, N = wr.heap.size := ⟨_, rfl⟩
      obtain ⟨Y1, hY1⟩ : ∃ X, X = wr.alloc (.cells #[.int .i64 k] 3) := ⟨_, rfl⟩
      obtain ⟨Y, hY⟩ : ∃ X, X = Y1.alloc (.cells #[.slice pr L cr] 35) := ⟨_, rfl⟩
      have e1 : Y1.heap.size = Ib + 1 := by rw [hY1, hIb]; simp
      have y1 : Below wr.heap.size wr Y1 := by rw [hY1]; exact b0 _
      have y2 : Below Y1.heap.size Y1 Y := by rw [hY]; exact b0 _
      have d1 : Y1.cell? ⟨Ib, 0, none⟩ = some (.int .i64 k) := by rw [hY1, hIb]; simp [go_sem]
      replace d1 := cell_keep y2 d1
      have d2 : Y.cell? ⟨Ib + 1, 0, none⟩ = some (.slice pr L cr) := by rw [hY, ← e1]; simp [go_sem]
      have hby : Below wr.heap.size wr Y := y1.trans (y2.mono (by omega))
      have d0 := cell_keep hby hN.out
      have OY := own_below hO.out hby
      have BY := hB.out.trans (hby.mono hsz)
      rw [← hY1, ← hY, ← hIb]
      clear hIb hY1 hY e1 y1 y2 hby hN hO hB hsz c1
      refine (HI.out _ BY).mono ?_
      rintro e w4 ⟨g, xs, rfl, hown, hxs, hb⟩
      have B4 := BY.trans (hb.mono BY.size)
      have O4 := own_below OY hb
      have D0 := cell_keep hb d0
      have D1 := cell_keep hb d1
      have D2 := cell_keep hb d2
      have HC := hidW8 (totI_any f g L L xs hxs (.pointer (some ⟨N, 0, none⟩)) (.pointer (some ⟨Ib, 0, none⟩)) (.pointer (some ⟨Ib + 1, 0, none⟩)) _ w4 (by omega) hown (fun j hj W hW => HF.out W Ib (Ib + 1) (B4.trans (hW.mono B4.size)) (cell_keep hW D0) (cell_keep hW D1) (cell_keep hW D2) j hj))
      rw [← HQF.out] at HC
      clear hb BY OY d0 d1 d2 hown hxs HF HI HQF
      rcases HREL.out with ⟨h1, rfl⟩ | ⟨h1, rfl⟩
      · have HO : Hid (prtO ps rows = false) := prtO_bad (by rw [← HL.out]; exact hlt) hP.out h1
        have HAN := hidW8 (prtA_no HO.out)
        clear h1 HREL
        go_wp2_with fail
        refine HC.out.mono ?_
        rintro e w5 ⟨rfl, hb⟩
        have B5 := (B4.trans (hb.mono B4.size)).alloc (B4.trans (hb.mono B4.size)).size (.cells #[.int .i64 0, .int .i64 0] 32)
        clear hb HC
        go_wp2
        refine bodyPost_ret (v := .tuple #[.slice (some ⟨w5.heap.size + 1, 0, none⟩) 0 0, .bool false]) (by simp [results, Try.results26, go_sem]) rfl ⟨.slice (some ⟨w5.heap.size + 1, 0, none⟩) 0 0, ret_tb HO.out.symm, ?_, B5.alloc B5.size _⟩
        rw [HAN.out]
        simpa using litB (w5.alloc (.cells #[.int .i64 0, .int .i64 0] 32)) _ B5.size
      · have HP1 := hidW8 h1
        obtain ⟨s, hs⟩ : ∃ s, s = (partS ps rows k false).1 := ⟨_, rfl⟩
        have HSV := hidW8 hs
        rw [← hs] at HC
        clear h1 HREL hs
        obtain ⟨s1, s2⟩ := s
        go_wp2_with fail
        refine HC.out.mono ?_
        rintro e w5 ⟨rfl, hb⟩
        have hbx : Below w4.heap.size w4 (w5.alloc (.cells #[.int .i64 s1, .int .i64 s2] 32)) := hb.alloc hb.size _
        have O6 := own_below O4 hbx
        have B6 := B4.trans (hbx.mono B4.size)
        have E0 := cell_keep hbx D0
        have E1 := cell_keep hbx D1
        have l5 := hb.size
        have l4 := World.block_lt_of_cell? w4 _ D1
        dsimp only at l4
        have l3 := (World.ownsRow.lt O4 G rfl).2
        obtain ⟨n1, n2⟩ := own_R O6 (HPQ.out _) k hlt
        have f1 := O6.frozenAt (k * 2)
        have f2 := O6.frozenAt (k * 2 + 1)
        generalize ((prtQ ps rows k)[k]?.getD (0, 0)).1 = y1 at n1
        generalize ((prtQ ps rows k)[k]?.getD (0, 0)).2 = y2 at n2
        have l0 := World.block_lt_of_cell? w4 _ D0
        dsimp only at l0
        clear hb hbx HC O4 B4 D0 D1 D2
        go_wp2
        go_roundw
        case rel =>
          obtain ⟨p1, p2⟩ := O6.stored (k * 2) (.int .i64 s1)
          obtain ⟨p3, p4⟩ := p1.stored (k * 2 + 1) (.int .i64 s2)
          rw [cellsR_set _ _ _ _ (by rw [HPQ.out]; exact hlt), show ((s1, s2) : Fr) = (partS ps rows k false).1 from HSV.out, prtQ_set] at p3
          refine ⟨k + 1, by omega, by go_num, p3, ?_, ?_, (B6.setCell (p := ⟨G, k * 2, none⟩) hwG _).setCell (p := ⟨G, k * 2 + 1, none⟩) hwG _⟩
          · intro i hi
            by_cases e : i = k
            · subst e; exact HP1.out
            · exact hP.out i (by omega)
          · show World.cell? _ _ = _
            exact cell_stb (cell_stb E0 (by show _ ≠ _; omega)) (by show _ ≠ _; omega)
        case measure => simp [intOf]; omega
    · obtain rfl : k = L := by omega
      have HO : Hid (prtO ps rows = true) := by show _ = _; unfold prtO; rw [← HQ.out, ← HL.out, prtV_good ps rows k hP.out]; rfl
      have HAN : Hid (prtA ps rows = prtQ ps rows k) := by show _ = _; rw [prtA_yes HO.out, ← HL.out, prtV_good ps rows k hP.out]; dsimp only; rw [HL.out, prtQ_all]
      go_wp2
      refine bodyPost_ret (v := .tuple #[.slice (some ⟨G, 0, none⟩) k k, .bool true]) (by simp [results, Try.results26, go_sem]) rfl ⟨.slice (some ⟨G, 0, none⟩) k k, ret_tb HO.out.symm, ?_, hB.out⟩
      rw [HAN.out, HPQ.out]
      exact hO.out
end Go.Proofs.Ytkcdpjcfbpjkean
