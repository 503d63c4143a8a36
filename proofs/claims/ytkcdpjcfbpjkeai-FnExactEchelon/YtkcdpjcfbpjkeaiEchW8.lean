/- The walk of the program's echelonOf. -/
import Derived.Test.YtkcdpjcfbpjkeaiEchW6
import Derived.Test.YtkcdpjcfbpjkeaiEchW7
import Derived.Test.YtkcdpjcfbpjkeaiEchM3
import Derived.Deep.LoopGhost
import Derived.WalkMore
namespace Go.Proofs.Ytkcdpjcfbpjkeai
open Go.RowKit Go.Proofs.Ytkcdpjcfbpjkeai.RM

theorem own_nil {W : World} {base : Nat} {e : TypeId} {size : Nat} : W.ownsRow base e size (.slice none 0 0) 0 [] := ⟨by simp, .inl ⟨rfl, rfl⟩⟩
/-- what echelonOf answers -/
def IEchP (w : World) (rows : List (List Fr)) (e : Ending) (w' : World) : Prop :=
  ∃ vm vc vf us, e = .returned (.tuple #[.agg #[vm, vc, vf], .bool (echO rows)]) ∧ Tab w' w.heap.size vm us (echA rows) ∧ w'.ownsRow w.heap.size 3 1 vc (echCh rows).length (natV (echCh rows)) ∧ w'.ownsRow w.heap.size 3 1 vf (echFe rows).length (natV (echFe rows)) ∧ Below w.heap.size w w'
theorem IEchP.no {w w' : World} {rows : List (List Fr)} (h : echO rows = false) (hb : Below w.heap.size w w') : IEchP w rows (.returned (.tuple #[.agg #[.slice none 0 0, .slice none 0 0, .slice none 0 0], .bool false])) w' := by
  obtain ⟨h1, h2, h3⟩ := echO_no h
  refine ⟨_, _, _, [], by rw [h], ?_, ?_, ?_, hb⟩
  · rw [h1]; exact Tab.empty own_nil
  · rw [h2]; exact own_nil
  · rw [h3]; exact own_nil
theorem IEchP.yes {w w' : World} {rows R : List (List Fr)} {ch fe : List Nat} {L B : Nat} {vm vc vf : Value} {us : List Value} (ht : tabB rows 6 = true) (hL : L = (rw' rows 0).length) (hi : EInv rows L L R ch fe) (hB : w.heap.size ≤ B) (t : Tab w' B vm us R) (hc : w'.ownsRow B 3 1 vc ch.length (natV ch)) (hf : w'.ownsRow B 3 1 vf fe.length (natV fe)) (hb : Below w.heap.size w w') :
    IEchP w rows (.returned (.tuple #[.agg #[vm, vc, vf], .bool true])) w' := by
  obtain ⟨k1, k2, k3⟩ := ech_yes hi.stop
  have ho : echO rows = true := by unfold echO; rw [ht, k1]; rfl
  obtain ⟨h1, h2, h3⟩ := echO_yes ho
  refine ⟨vm, vc, vf, us, by rw [ho], ?_, ?_, ?_, hb⟩
  · rw [h1, k2]; exact t.le hB
  · rw [h2, k3]; exact own_le hc hB
  · rw [h3, k3, ← hL, ← hi.fes]; exact own_le hf hB

set_option maxRecDepth 1000000 in
set_option maxHeartbeats 4000000 in
theorem iEch_any (v : Value) (rows : List (List Fr)) (w : World) (h : RdT w v rows) :
    Calls Try.prog 56 #[v] w fun e w' => IEchP w rows e w' := by
  have HA : Hid (RdT w v rows) := h
  obtain ⟨pa, ca, rfl, -, -, -, -⟩ := h
  obtain ⟨qa, hqa⟩ : ∃ q, q = tabB rows 6 := ⟨_, rfl⟩
  have HQA : Hid (qa = tabB rows 6) := hqa
  have CA : Hid (∀ W : World, RdT W (.slice pa rows.length ca) rows → Calls Try.prog 18 #[.slice pa rows.length ca] W fun e w' => e = .returned (.bool qa) ∧ Below W.heap.size W w') := by
    intro W hW; rw [hqa]; exact iTab_any _ rows W hW
  clear hqa
  cases qa
  · have HO : Hid (echO rows = false) := by show _ = _; unfold echO; rw [← HQA.out]; rfl
    go_enter Try.func56, Try.ntmps56
    go_wp2
    go_step3
    go_wp2_with (go_at_call 18; refine (CA.out _ (HA.out.below ((Below.refl _ _).alloc (Nat.le_refl _) _))).mono ?_; rintro e w1 ⟨rfl, hb1⟩; have hbk := (hb1.block w.heap.size (by simp)).trans (World.alloc_heap_new w (.cells #[.slice none 0 0, .slice none 0 0, .slice none 0 0] 77)); have B1 : Below w.heap.size w w1 := ((Below.refl _ _).alloc (Nat.le_refl _) _).trans (hb1.mono (by simp)); obtain ⟨e0, e1, e2, z0, z1, z2, hEl⟩ := cells3 hbk; clear hb1 hbk)
    try rw [Exit.noGoto_ret]
    exact bodyPost_ret (v := .tuple #[.agg #[.slice none 0 0, .slice none 0 0, .slice none 0 0], .bool false]) (by simp [results, Try.results56, go_sem, e0, e1, e2]) rfl (IEchP.no HO.out (((B1.setCell (p := ⟨w.heap.size, 0, none⟩) (Nat.le_refl _) _).setCell (p := ⟨w.heap.size, 1, none⟩) (Nat.le_refl _) _).setCell (p := ⟨w.heap.size, 2, none⟩) (Nat.le_refl _) _))
  obtain ⟨⟨ta1, ta2, ta3, ta4⟩, tar⟩ := tabB_out HQA.out.symm
  obtain ⟨L, hL⟩ : ∃ L, L = (rw' rows 0).length := ⟨_, rfl⟩
  have HL : Hid (L = (rw' rows 0).length) := hL
  rw [← hL] at ta3 ta4
  have TAR : Hid (∀ k, k < rows.length → (rw' rows k).length = L) := fun k hk => by rw [(tar k hk).1, hL]
  have hL6 : L ≤ 6 := by omega
  clear tar ta4 hL
  go_enter Try.func56, Try.ntmps56
  go_wp2
  go_step3
  go_upto_region 3 with (go_at_call 18; refine (CA.out _ (HA.out.below ((Below.refl _ _).alloc (Nat.le_refl _) _))).mono ?_; rintro e w1 ⟨rfl, hb1⟩)
  have hbk := (hb1.block w.heap.size (by simp)).trans (World.alloc_heap_new w (.cells #[.slice none 0 0, .slice none 0 0, .slice none 0 0] 77))
  have hR0 : w.heap.size < w1.heap.size := by have := hb1.size; simp at this; omega
  have B1 : Below w.heap.size w w1 := ((Below.refl _ _).alloc (Nat.le_refl _) _).trans (hb1.mono (by simp))
  clear hb1
  have HCP := hid (iCopied_any (.slice pa rows.length ca) rows w1 (HA.out.below B1) (by omega) (fun i hi => by rw [TAR.out i hi]; omega))
  go_upto_region 4 with (go_at_call 77; refine (HCP.out).mono ?_; rintro e w2 ⟨u, us, rfl, T2, hb2⟩; obtain ⟨G, cG, rfl⟩ := own_some T2.outer (by rw [T2.len]; omega))
  have hbk2 := (hb2.block w.heap.size hR0).trans hbk
  have hul := T2.len
  obtain ⟨N, hN⟩ : ∃ n, n = us.length := ⟨_, rfl⟩
  have hNr : N = rows.length := hN.trans hul
  have hs2 : w1.heap.size ≤ w2.heap.size := hb2.size
  have S0 := EchS.first (base := w1.heap.size) (World.alloc_heap_new w2 (.cells #[.slice (some ⟨G, 0, none⟩) us.length cG, .slice none 0 0, .slice none 0 0] 77)) hs2 (T2.below ((Below.refl _ _).alloc (Nat.le_refl _) _))
  have hbk3 : (w2.alloc (.cells #[.slice (some ⟨G, 0, none⟩) us.length cG, .slice none 0 0, .slice none 0 0] 77)).heap[w.heap.size]? = some (.cells #[.slice none 0 0, .slice none 0 0, .slice none 0 0] 77 (0, 0)) := by rw [Below.heap_alloc _ _ _ (by omega)]; exact hbk2
  have B3 : Below w.heap.size w (w2.alloc (.cells #[.slice (some ⟨G, 0, none⟩) us.length cG, .slice none 0 0, .slice none 0 0] 77)) := (B1.trans (hb2.mono B1.size)).alloc (by omega) _
  obtain ⟨X, hX⟩ : ∃ X, X = w2.alloc (.cells #[.slice (some ⟨G, 0, none⟩) us.length cG, .slice none 0 0, .slice none 0 0] 77) := ⟨_, rfl⟩
  obtain ⟨E, hE⟩ : ∃ E, E = w2.heap.size := ⟨_, rfl⟩
  rw [← hX, ← hE] at S0
  rw [← hX] at hbk3 B3
  have hXB : w1.heap.size ≤ X.heap.size := by rw [hX]; simp; omega
  rw [← hX, ← hE, ← hN]
  clear hX hbk2 hbk hb2 HCP T2
  obtain ⟨B, hB⟩ : ∃ B, B = w1.heap.size := ⟨_, rfl⟩
  rw [← hB] at S0 hR0 hs2 hXB
  have hwB : w.heap.size ≤ B := by omega
  rw [← hN] at S0
  have hdim := TAR.out
  have I0 := EInv.start (rows0 := rows) (L := L) HL.out hdim
  have ho := S0.tab.outer
  rw [← hN] at ho
  have c0 := ho.cellAt 0 (by omega)
  obtain ⟨b0, d0, hu0⟩ := own_some (S0.tab.inner 0 (by omega)) (by rw [hdim 0 (by omega)]; omega)
  rw [hdim 0 (by omega)] at hu0
  rw [show us[0]? = some (vl us 0) by unfold vl; rw [List.getElem?_eq_getElem (by omega)]; rfl, hu0] at c0
  obtain ⟨e0, e1, e2, z0, z1, z2, hEl⟩ := cells3 S0.blk
  have HS0 := hid S0
  have HI0 := hid I0
  have HB3 := hid B3
  have HBK := hid hbk3
  have HNN := hid hNr
  have hN6 : N ≤ 6 := by omega
  have hN1 : 1 ≤ N := by omega
  clear S0 I0 B3 hbk3 hdim ho hu0 hul hB B1 hE hN hNr
  go_step3
  go_wp2
  clear c0 e0 e1 e2 z0 z1 z2 hEl
  go_loopg [19] L (fun g i wr => ∃ (col : Nat) (vc vf : Value) (us' : List Value) (R : List (List Fr)) (ch fe : List Nat), col + g = L ∧ i = .int .i64 col ∧ Hid (EchS wr B E (.slice (some ⟨G, 0, none⟩) N cG) vc vf us' R ch fe) ∧ Hid (EInv rows L col R ch fe) ∧ Hid (Below B X wr))
  case atStart => exact ⟨0, _, _, us, rows, [], [], by omega, rfl, HS0.out, HI0.out, Below.refl _ _⟩
  case round =>
    clear HS0 HI0
    obtain ⟨col, vc, vf, us', R, ch, fe, hcg, rfl, hS, hI, hBl⟩ := hrel
    cases gk with
    | zero =>
      obtain rfl : col = L := by omega
      obtain ⟨e0, e1, e2, z0, z1, z2, hEl⟩ := cells3 hS.out.blk
      have hr := (hBl.out.block w.heap.size hR0).trans HBK.out
      obtain ⟨r0, r1, r2, y0, y1, y2, _⟩ := cells3 hr
      obtain ⟨ac, cc, rfl⟩ := own_shape hS.out.cho
      obtain ⟨af, cf, rfl⟩ := own_shape hS.out.fre
      go_wp2
      have hg : wr.grownBy (((wr.setCell ⟨w.heap.size, 0, none⟩ (.slice (some ⟨G, 0, none⟩) N cG)).setCell ⟨w.heap.size, 1, none⟩ (.slice ac ch.length cc)).setCell ⟨w.heap.size, 2, none⟩ (.slice af fe.length cf)) (some w.heap.size) := g_set (g_set (g_set (g_refl wr _) (.inr rfl) 0 _) (.inr rfl) 1 _) (.inr rfl) 2 _
      try rw [Exit.noGoto_ret]
      exact bodyPost_ret (v := .tuple #[.agg #[.slice (some ⟨G, 0, none⟩) N cG, .slice ac ch.length cc, .slice af fe.length cf], .bool true]) (by simp [results, Try.results56, go_sem, r0, r1, r2]) rfl (IEchP.yes HQA.out.symm HL.out hI.out hwB (hS.out.tab.g hg hR0) (own_g hg hS.out.cho hR0) (own_g hg hS.out.fre hR0) ((((HB3.out.trans (hBl.out.mono hwB)).setCell (p := ⟨w.heap.size, 0, none⟩) (Nat.le_refl _) _).setCell (p := ⟨w.heap.size, 1, none⟩) (Nat.le_refl _) _).setCell (p := ⟨w.heap.size, 2, none⟩) (Nat.le_refl _) _))
    | succ g =>
      have hlt : col < L := by omega
      have hcl1 := hI.out.cl
      have hRl := hI.out.len
      have hchs : Hid (∀ c, c ∈ ch → c ≠ col) := hI.out.cn
      have hfes : Hid (∀ f, f ∈ fe → col ≠ f) := hI.out.fl
      have hus : us'.length = N := by have := hS.out.tab.len; have := HNN.out; omega
      obtain ⟨nf, hnf⟩ : ∃ n, n = ch.length := ⟨_, rfl⟩
      have HNF : Hid (nf = ch.length) := hnf
      have hnN : nf ≤ N := by have := HNN.out; omega
      have HUS := hid hus
      have HRL : Hid (R.length = N) := by show _ = _; have := HNN.out; omega
      obtain ⟨ac, cc, rfl⟩ := own_shape hS.out.cho
      obtain ⟨e0, e1, e2, z0, z1, z2, hEl⟩ := cells3 hS.out.blk
      rw [← hnf] at e1 hS
      clear hcl1 hRl hnf hus
      go_wp2
      clear e0 e1 e2 z0 z1 z2 hEl
      go_loopg [6] (N - nf) (fun g2 i wr2 => ∃ k : Nat, nf ≤ k ∧ k + g2 = N ∧ i = .int .i64 k ∧ Hid (EchS wr2 B E (.slice (some ⟨G, 0, none⟩) N cG) (.slice ac nf cc) vf us' R ch fe) ∧ Hid (Below B X wr2) ∧ Hid (∀ x, nf ≤ x → x < k → (fr (rw' R x) col).1 = 0))
      case atStart => exact ⟨nf, Nat.le_refl _, by omega, rfl, hS.out, hBl.out, fun x h1 h2 => by omega⟩
      case round =>
        clear hS hBl
        obtain ⟨k, hk1, hkg, rfl, hS, hBl, hZ⟩ := hrel
        cases gk with
        | zero =>
          obtain rfl : k = N := by omega
          obtain ⟨af, cf, rfl⟩ := own_shape hS.out.fre
          obtain ⟨nff, hnff⟩ : ∃ n, n = fe.length := ⟨_, rfl⟩
          have hff : nff ≤ 6 := by
            have h1 := hI.out.fes
            have h2 : (freeC col ch).length ≤ col := by unfold freeC; have := List.length_filter_le (fun c => !ch.contains c) (List.range col); simpa using this
            rw [hnff, h1]; omega
          have HFC : Hid (wr.ownsRow B 3 1 (.slice af nff cf) nff (natV fe)) := by show World.ownsRow _ _ _ _ _ _ _; rw [hnff]; exact hS.out.fre
          have HNFF := hid hnff
          obtain ⟨e0, e1, e2, z0, z1, z2, hEl⟩ := cells3 hS.out.blk
          rw [← hnff] at e2 hS
          have hws : B ≤ wr.heap.size := by have := hBl.out.size; omega
          obtain ⟨t0, hti, htz0, htz1, htz2⟩ := info_parts infoInt
          clear hnff
          go_wp2_with (at_builtin; go_must (refine wpList_append_own _ rfl _ _ 73 rfl B 3 t0 (.int .i64 0) 1 8 Try.underlying73 hti htz0 htz1 htz2 rfl (by decide) _ _ _ rfl (World.ownsRow.alloc HFC.out _) ⟨wr.heap.size, 0, none⟩ 1 1 [.int .i64 col] rfl rfl (cell_one_new _ _ _) (by simp [Value.oneCell']) (by unfold maxLen; omega) (by omega) (by simp; omega) ?_); intro v' w3 hown' hgrow _; go_must (obtain ⟨a3, c3, rfl⟩ := own_shape hown'); go_must (have hb3 := hS.out.grownBlkF hgrow); obtain ⟨q0, q1, q2, y0, y1, y2, hq⟩ := cells3 hb3)
          go_roundg g
          case measure => omega
          case rel => exact ⟨col + 1, _, .slice a3 (nff + 1) c3, us', R, ch, fe ++ [col], by omega, by go_num, hS.out.pushF hown' (by rw [HNFF.out]; simp) hgrow hchs.out, hI.out.free hlt (fun x h1 h2 => hZ.out x (by rw [HNF.out]; exact h1) (by rw [HRL.out] at h2; exact h2)), (hBl.out.trans (below_appended HFC.out hws hgrow)).setCell (p := ⟨E, 2, none⟩) (by show B ≤ E; exact hS.out.lo) _⟩
        | succ g2 =>
          have hkN : k < N := by omega
          obtain ⟨e0, e1, e2, z0, z1, z2, hEl⟩ := cells3 hS.out.blk
          have ho := hS.out.tab.outer
          rw [HUS.out] at ho
          have ck := ho.cellAt k (by omega)
          have hin := hS.out.tab.inner k (by rw [HUS.out]; exact hkN)
          have hRL := hI.out.row k (by rw [HRL.out]; exact hkN)
          rw [hRL] at hin
          obtain ⟨bk, dk, ek⟩ := own_some hin (by omega)
          rw [show us'[k]? = some (vl us' k) by unfold vl; rw [List.getElem?_eq_getElem (by have := HUS.out; omega)]; rfl, ek] at ck
          rw [ek] at hin
          obtain ⟨g1, g2'⟩ := own_R hin hRL col hlt
          obtain ⟨f, hf⟩ : ∃ f, f = fr (rw' R k) col := ⟨_, rfl⟩
          rw [show (rw' R k)[col]?.getD (0, 0) = f from hf.symm] at g1 g2'
          obtain ⟨f1, f2⟩ := f
          have HF := hid hf
          clear ho hin hRL ek hf
          by_cases hf0 : f1 = 0
          · subst hf0
            go_wp2
            go_roundg g2
            case measure => omega
            case rel =>
              refine ⟨k + 1, by omega, by omega, by go_num, hS.out, hBl.out, fun x h1 h2 => ?_⟩
              by_cases e : x = k
              · subst e; rw [← HF.out]
              · exact hZ.out x h1 (by omega)
          · have hpv : (fr (rw' R k) col).1 ≠ 0 := by rw [← HF.out]; exact hf0
            have HCH := hid (choose_any B E k col L _ _ vf us' R ch fe wr hS.out hfes.out (by rw [← HNF.out]; exact hk1) (by rw [HRL.out]; exact hkN) hlt (by omega) (by rw [HRL.out]; omega) (hI.out.row))
            have HPV := hid hpv
            clear hpv
            obtain ⟨q, hq⟩ : ∃ q, q = stepB R ch.length k col := ⟨_, rfl⟩
            have HQ := hid hq
            clear hq
            cases q
            · go_wp2_with (go_at_call 78; refine (HCH.out).mono ?_; rintro e w5 ⟨re, _, hb5⟩; rw [← HQ.out] at re; subst re; obtain ⟨r0, r1, r2, y0, y1, y2, _⟩ := cells3 (((hBl.out.trans hb5).block w.heap.size hR0).trans HBK.out))
              have hno := (ech_no (hI.out.no hlt (by rw [← HNF.out]; exact hk1) (by rw [HRL.out]; exact hkN) (by rw [← HNF.out]; exact hZ.out) HPV.out HQ.out.symm)).1
              have hO : echO rows = false := by unfold echO; rw [hno, Bool.and_false]
              try rw [Exit.noGoto_ret]
              exact bodyPost_ret (v := .tuple #[.agg #[.slice none 0 0, .slice none 0 0, .slice none 0 0], .bool false]) (by simp [results, Try.results56, go_sem, r0, r1, r2]) rfl (IEchP.no hO ((((HB3.out.trans ((hBl.out.trans hb5).mono hwB)).setCell (p := ⟨w.heap.size, 0, none⟩) (Nat.le_refl _) _).setCell (p := ⟨w.heap.size, 1, none⟩) (Nat.le_refl _) _).setCell (p := ⟨w.heap.size, 2, none⟩) (Nat.le_refl _) _))
            · go_wp2_with (go_at_call 78; refine (HCH.out).mono ?_; rintro e w5 ⟨re, st5, hb5⟩; rw [← HQ.out] at re; subst re)
              obtain ⟨vc', us'', S5⟩ := st5 HQ.out.symm
              go_roundg g
              case measure => omega
              case rel => exact ⟨col + 1, vc', vf, us'', _, _, fe, by omega, by go_num, S5, hI.out.yes hlt (by rw [← HNF.out]; exact hk1) (by rw [HRL.out]; exact hkN) (by rw [← HNF.out]; exact hZ.out) HPV.out HQ.out.symm, hBl.out.trans hb5⟩
end Go.Proofs.Ytkcdpjcfbpjkeai
