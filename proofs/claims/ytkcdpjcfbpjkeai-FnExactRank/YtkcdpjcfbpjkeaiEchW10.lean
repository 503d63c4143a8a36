/- The walk of the model's l3Echelon. -/
import Derived.Test.YtkcdpjcfbpjkeaiEchW9
import Derived.Deep.DeepMust
import Derived.Deep.LoopGhost
import Derived.Deep.RegionWith
namespace Go.Proofs.Ytkcdpjcfbpjkeai
open Go.RowKit Go.Proofs.Ytkcdpjcfbpjkeai.RM

set_option maxRecDepth 1000000 in
set_option maxHeartbeats 4000000 in
theorem sEch_any (v : Value) (rows : List (List Fr)) (L : Nat) (w : World) (h : RdT w v rows) (hn1 : 1 ≤ rows.length) (hn2 : rows.length ≤ 1000) (hL1 : 1 ≤ L) (hL2 : L ≤ 1000) (hd : ∀ x, x < rows.length → (rw' rows x).length = L) :
    Calls Try.prog 55 #[v] w fun e w' => SEchP w rows e w' := by
  obtain ⟨i0, hi, hz0, hz1, hz2⟩ := info_parts infoF
  obtain ⟨t0, hti, htz0, htz1, htz2⟩ := info_parts infoT
  obtain ⟨pa, ca, rfl, -, -, -, h5⟩ := h
  have H5 : Hid (∀ i, i < rows.length → ∃ b off u, pa = some ⟨b, off, none⟩ ∧ w.cell? ⟨b, off + i, none⟩ = some u ∧ RdR w u (rw' rows i)) := h5
  have HD : Hid (∀ x, x < rows.length → (rw' rows x).length = L) := hd
  have b0 : ∀ (u : World) (o : Obj), Below u.heap.size u (u.alloc o) := fun u o => (Below.refl _ _).alloc (Nat.le_refl _) o
  obtain ⟨N, hN⟩ : ∃ n, n = rows.length := ⟨_, rfl⟩
  have HN := hid hN
  have H5N : Hid (∀ i, i < N → ∃ b off u, pa = some ⟨b, off, none⟩ ∧ w.cell? ⟨b, off + i, none⟩ = some u ∧ RdR w u (rw' rows i)) := by show ∀ i, _; rw [hN]; exact h5
  rw [← hN] at hn1 hn2 ⊢
  clear h5 hd hN
  go_enter Try.func55, Try.ntmps55
  go_wp2
  have o0 : Tab (w.alloc (.cells #[] 63)) w.heap.size (.slice (some ⟨w.heap.size, 0, none⟩) 0 0) [] (rows.take 0) := Tab.lit (Nat.le_refl _)
  have B0 : Below w.heap.size w (w.alloc (.cells #[] 63)) := b0 _ _
  go_loopg [5, 6] N (fun g q i wr => ∃ (o : Value) (k : Nat) (us : List Value), k + g = N ∧ i = .int .i64 k ∧ o = q ∧ us.length = k ∧ Hid (Tab wr w.heap.size o us (rows.take k)) ∧ Hid (Below w.heap.size w wr))
  case atStart => exact ⟨_, 0, [], by omega, rfl, rfl, rfl, o0, B0⟩
  case round =>
    clear o0 B0
    obtain ⟨o, k, us, hkg, rfl, rfl, hus, hT, hB⟩ := hrel
    have hsz := hB.out.size
    cases gk with
    | zero =>
      obtain rfl : k = N := by omega
      obtain ⟨G, cG, rfl⟩ := own_some hT.out.outer (by omega)
      rw [hus]
      have T0 : Tab wr w.heap.size (.slice (some ⟨G, 0, none⟩) k cG) us rows := by
        have := hT.out
        rw [HN.out, List.take_length] at this
        rw [hus] at this
        rw [HN.out]
        rw [HN.out] at this
        exact this
      have B1 := hB.out
      clear hT hB H5 H5N
      go_wp2
      obtain ⟨K, hK⟩ : ∃ K, K = wr.heap.size := ⟨_, rfl⟩
      obtain ⟨X, hX⟩ : ∃ X, X = (wr.alloc (.cells #[.bool false] 69)).alloc (.cells #[] 3) := ⟨_, rfl⟩
      have S0 : SEch X w.heap.size K false (.slice (some ⟨G, 0, none⟩) k cG) (.slice (some ⟨K + 1, 0, none⟩) 0 0) us rows [] := by
        have h4 := World.ownsRow_lit (wr.alloc (.cells #[.bool false] 69)) (base := w.heap.size) (e := 3) (size := 1) #[] 0 (by simp; omega) (Nat.zero_le _) rfl
        refine ⟨?_, ?_, by omega, ?_⟩
        · rw [hX]; exact (T0.below (b0 _ _)).below (b0 _ _)
        · rw [hX, hK]; exact (IsK.new wr false).below (b0 _ _)
        · rw [hX, hK]; simpa [natV] using h4
      have BX : Below w.heap.size w X := by rw [hX]; exact (B1.alloc hsz _).alloc (by simp; omega) _
      rw [← hX, ← hK]
      have I0 := EInv.start (rows0 := rows) (L := L) (HD.out 0 (by have := HN.out; omega)).symm HD.out
      obtain ⟨N, hN⟩ : ∃ n, n = k := ⟨_, rfl⟩
      rw [← hN] at S0 hn1 hn2 HN ⊢
      have hKl : w.heap.size ≤ K := by omega
      clear T0 B1 hX hN hus hsz hK
      go_loopg [8, 9] L (fun g q i wr => ∃ (col : Nat) (vc : Value) (us' : List Value) (R : List (List Fr)) (ch fe : List Nat), col + g = L ∧ i = .int .i64 col ∧ vc = q ∧ Hid (SEch wr w.heap.size K false (.slice (some ⟨G, 0, none⟩) N cG) vc us' R ch) ∧ Hid (EInv rows L col R ch fe) ∧ Hid (Below w.heap.size w wr))
      case atStart => exact ⟨0, _, us, rows, [], [], by omega, rfl, rfl, S0, I0, BX⟩
      case round =>
        clear S0 I0 BX
        obtain ⟨col, vc, us', R, ch, fe, hcg, rfl, rfl, hS, hI, hB⟩ := hrel
        have hRl := hI.out.len
        have hus : us'.length = N := by have := hS.out.tab.len; have := HN.out; omega
        have HRL : Hid (R.length = N) := by show _ = _; have := HN.out; omega
        have HUS := hid hus
        have ho := hS.out.tab.outer
        rw [hus] at ho
        have c0 := ho.cellAt 0 (by omega)
        obtain ⟨br0, dr0, hu0⟩ := own_some (hS.out.tab.inner 0 (by omega)) (by rw [hI.out.row 0 (by have := HRL.out; omega)]; omega)
        rw [hI.out.row 0 (by have := HRL.out; omega)] at hu0
        rw [show us'[0]? = some (vl us' 0) by unfold vl; rw [List.getElem?_eq_getElem (by omega)]; rfl, hu0] at c0
        clear ho hu0 hRl
        cases gk with
        | zero =>
          obtain rfl : col = L := by omega
          clear hus
          go_wp2
          obtain ⟨k1, k2, k3⟩ := ech_yes hI.out.stop
          refine bodyPost_ret (v := .tuple #[.slice (some ⟨G, 0, none⟩) N cG, vc, .bool true]) (by simp [results, Try.results55, go_sem]) rfl ⟨_, vc, us', by rw [k1], ?_, ?_, hB.out⟩
          · rw [k2]; exact hS.out.tab
          · rw [k3]; exact hS.out.cho
        | succ g =>
          have hlt : col < L := by omega
          have hcl1 := hI.out.cl
          obtain ⟨nf, hnf⟩ : ∃ n, n = ch.length := ⟨_, rfl⟩
          have HNF : Hid (nf = ch.length) := hnf
          have hnN : nf ≤ N := by have := HRL.out; omega
          obtain ⟨ac, cc, rfl⟩ := own_shape hS.out.cho
          rw [← hnf] at hS ⊢
          clear hcl1 hnf hus
          go_wp2
          clear c0
          go_loopg [11] (N - nf) (fun g2 i wr2 => ∃ r : Nat, nf ≤ r ∧ r + g2 = N ∧ i = .int .i64 r ∧ Hid (SEch wr2 w.heap.size K false (.slice (some ⟨G, 0, none⟩) N cG) (.slice ac nf cc) us' R ch) ∧ Hid (Below w.heap.size w wr2) ∧ Hid (∀ x, nf ≤ x → x < r → (fr (rw' R x) col).1 = 0))
          case atStart => exact ⟨nf, Nat.le_refl _, by omega, rfl, hS.out, hB.out, fun x h1 h2 => by omega⟩
          case round =>
            clear hS hB
            obtain ⟨r, hr1, hrg, rfl, hS, hB, hZ⟩ := hrel
            cases gk with
            | zero =>
              obtain rfl : r = N := by omega
              go_wp2
              go_roundg g
              case measure => omega
              case rel => exact ⟨col + 1, _, us', R, ch, fe ++ [col], by omega, by go_num, rfl, hS.out, hI.out.free hlt (fun x h1 h2 => hZ.out x (by rw [HNF.out]; exact h1) (by rw [HRL.out] at h2; exact h2)), hB.out⟩
            | succ g2 =>
              have hrN : r < N := by omega
              have ho := hS.out.tab.outer
              rw [HUS.out] at ho
              have ck := ho.cellAt r (by omega)
              have hin := hS.out.tab.inner r (by rw [HUS.out]; exact hrN)
              have hRL := hI.out.row r (by rw [HRL.out]; exact hrN)
              rw [hRL] at hin
              obtain ⟨bk, dk, ek⟩ := own_some hin (by omega)
              have hur : us'[r]? = some (vl us' r) := by unfold vl; rw [List.getElem?_eq_getElem (by have := HUS.out; omega)]; rfl
              rw [hur, ek] at ck
              rw [ek] at hin
              obtain ⟨g1, g2'⟩ := own_R hin hRL col hlt
              obtain ⟨f, hf⟩ : ∃ f, f = fr (rw' R r) col := ⟨_, rfl⟩
              rw [show (rw' R r)[col]?.getD (0, 0) = f from hf.symm] at g1 g2'
              obtain ⟨f1, f2⟩ := f
              have HF := hid hf
              have HEK := hid ek
              have HRL' := hid hRL
              have hHO := hid ho
              clear ho hin hRL ek hf hur
              by_cases hf0 : f1 = 0
              · subst hf0
                go_wp2
                go_roundg g2
                case measure => omega
                case rel =>
                  refine ⟨r + 1, by omega, by omega, by go_num, hS.out, hB.out, fun x h1 h2 => ?_⟩
                  by_cases e : x = r
                  · subst e; rw [← HF.out]
                  · exact hZ.out x h1 (by omega)
              · have hpv : (fr (rw' R r) col).1 ≠ 0 := by rw [← HF.out]; exact hf0
                have HPV := hid hpv
                have hnN' : nf < N := by omega
                have cf := hHO.out.cellAt nf (by omega)
                have zr := hHO.out.frozenAt r
                have zf := hHO.out.frozenAt nf
                have hinf := hS.out.tab.inner nf (by rw [HUS.out]; exact hnN')
                rw [hI.out.row nf (by rw [HRL.out]; exact hnN')] at hinf
                obtain ⟨bf, df, ef⟩ := own_some hinf (by omega)
                rw [show us'[nf]? = some (vl us' nf) by unfold vl; rw [List.getElem?_eq_getElem (by have := HUS.out; omega)]; rfl, ef] at cf
                have cf2 : (wr.setCell ⟨G, r, none⟩ (.slice (some ⟨bf, 0, none⟩) L df)).cell? ⟨G, nf, none⟩ = some (.slice (some ⟨bf, 0, none⟩) L df) := by
                  by_cases e : r = nf
                  · rw [e]; exact World.cell?_setCell_same _ _ _ cf
                  · rw [World.cell?_setCell_other _ _ _ _ (by intro h; cases h; exact e rfl)]; exact cf
                have zf2 : (wr.setCell ⟨G, r, none⟩ (.slice (some ⟨bf, 0, none⟩) L df)).frozen? ⟨G, nf, none⟩ = false := by simp [zf]
                have HEF := hid ef
                clear hinf ef hpv
                go_upto_region 19 with fail
                have HX := hS.out.swap (i := r) (r := nf) (by rw [HUS.out]; exact hrN) (by rw [HUS.out]; exact hnN')
                rw [HEF.out, HEK.out] at HX
                have BX : Below w.heap.size w ((wr.setCell ⟨G, r, none⟩ (.slice (some ⟨bf, 0, none⟩) L df)).setCell ⟨G, nf, none⟩ (.slice (some ⟨bk, 0, none⟩) L dk)) := (hB.out.setCell (p := ⟨G, r, none⟩) (by show _ ≤ G; exact (hS.out.tab.outer.lt G rfl).1) _).setCell (p := ⟨G, nf, none⟩) (by show _ ≤ G; exact (hS.out.tab.outer.lt G rfl).1) _
                obtain ⟨X, hX⟩ : ∃ X, X = (wr.setCell ⟨G, r, none⟩ (.slice (some ⟨bf, 0, none⟩) L df)).setCell ⟨G, nf, none⟩ (.slice (some ⟨bk, 0, none⟩) L dk) := ⟨_, rfl⟩
                rw [← hX] at HX BX ⊢
                clear hX cf2 zf2 cf zf zr ck g1 g2'
                obtain ⟨us2, hus2⟩ : ∃ u, u = (us'.set r (.slice (some ⟨bf, 0, none⟩) L df)).set nf (.slice (some ⟨bk, 0, none⟩) L dk) := ⟨_, rfl⟩
                have hvf : vl us2 nf = .slice (some ⟨bk, 0, none⟩) L dk := by rw [hus2, vl_set _ _ _ _ (by rw [List.length_set, HUS.out]; exact hnN'), if_pos rfl]
                have hl2 : us2.length = N := by rw [hus2, List.length_set, List.length_set]; exact HUS.out
                rw [← hus2] at HX
                clear hus2
                obtain ⟨Rr, hRr⟩ : ∃ x, x = rw' R r := ⟨_, rfl⟩
                have hRs : rw' (swapT R r nf) nf = Rr := by rw [rw_exch R r nf nf (by rw [HRL.out]; exact hrN) (by rw [HRL.out]; exact hnN'), hRr]; simp [exch]
                have hRrl : Rr.length = L := by rw [hRr]; exact HRL'.out
                have hrow := HX.tab.inner nf (by omega)
                rw [hvf, hRs, hRrl] at hrow
                obtain ⟨g1, g2'⟩ := own_R hrow hRrl col hlt
                rw [show Rr[col]?.getD (0, 0) = (f1, f2) by rw [hRr]; exact HF.out.symm] at g1 g2'
                have hFs := HX.tab.lt nf (by omega)
                rw [hvf] at hFs
                have hbF : bk < X.heap.size := hFs bk rfl
                have hbw : w.heap.size ≤ bk := (hrow.lt bk rfl).1
                have hKF : K < X.heap.size := HX.kk.lt
                have HRR := hid hRr
                have HVF := hid hvf
                have HL2 := hid hl2
                have HRRL := hid hRrl
                have HHX := hid HX
                have HBX := hid BX
                clear hFs hRs hRr hvf hl2 hRrl hrow HX BX hS hB HEK HEF hHO
                go_wp2
                obtain ⟨F, hF⟩ : ∃ F, F = X.heap.size := ⟨_, rfl⟩
                obtain ⟨Y, hY⟩ : ∃ Y, Y = X.alloc (.cells #[.int .i64 f1, .int .i64 f2] 24) := ⟨_, rfl⟩
                have rF : IsR Y F f1 f2 := by rw [hY, hF]; exact IsR.new X f1 f2
                have SY : SEch Y w.heap.size K false (.slice (some ⟨G, 0, none⟩) N cG) (.slice ac nf cc) us2 ((swapT R r nf).set nf (upto (sDivF Rr (f1, f2)) Rr 0)) ch := by
                  rw [upto_zero, set_same _ _ _ (by rw [swapT_len, HRL.out]; exact hnN') (by rw [rw_exch R r nf nf (by rw [HRL.out]; exact hrN) (by rw [HRL.out]; exact hnN'), HRR.out]; simp [exch]), hY]
                  exact HHX.out.below (b0 _ _)
                have BY : Below w.heap.size w Y := by rw [hY]; exact HBX.out.alloc (by have := HBX.out.size; omega) _
                rw [← hY, ← hF]
                rw [← hF] at hbF hKF
                clear hY hF HHX HBX g1 g2'
                go_loopg [14] L (fun g3 i wr2 => ∃ j : Nat, j + g3 = L ∧ i = .int .i64 j ∧ Hid (SEch wr2 w.heap.size K (xTo (sDivB Rr (f1, f2)) j) (.slice (some ⟨G, 0, none⟩) N cG) (.slice ac nf cc) us2 ((swapT R r nf).set nf (upto (sDivF Rr (f1, f2)) Rr j)) ch) ∧ Hid (IsR wr2 F f1 f2) ∧ Hid (Below w.heap.size w wr2))
                case atStart => exact ⟨0, by omega, rfl, SY, rF, BY⟩
                case round =>
                  clear SY rF BY
                  obtain ⟨j, hjg, rfl, hS, hF, hB⟩ := hrel
                  cases gk with
                  | zero =>
                    obtain rfl : j = L := by omega
                    obtain ⟨T, hT⟩ : ∃ T, T = (swapT R r nf).set nf (upto (sDivF Rr (f1, f2)) Rr j) := ⟨_, rfl⟩
                    obtain ⟨bd1, hbd1⟩ : ∃ q, q = xTo (sDivB Rr (f1, f2)) j := ⟨_, rfl⟩
                    have hTd : T = tabD R nf r col := by
                      rw [hT]; unfold tabD
                      rw [← HRR.out, HRRL.out, show fr Rr col = (f1, f2) by rw [HRR.out]; exact HF.out.symm]
                    have HBD : Hid (bd1 = xTo (sDivB (rw' R r) (fr (rw' R r) col)) (rw' R r).length) := by
                      show _ = _
                      rw [hbd1, ← HRR.out, HRRL.out, show fr Rr col = (f1, f2) by rw [HRR.out]; exact HF.out.symm]
                    have hTn : T.length = N := by rw [hTd, tabD_len]; exact HRL.out
                    have hTr : ∀ x, x < N → (rw' T x).length = j := by
                      intro x hx
                      rw [hT, rw_set _ _ _ _ (by rw [swapT_len, HRL.out]; exact hnN')]
                      split
                      · rw [upto_len]; exact HRRL.out
                      · rw [rw_exch R r nf x (by rw [HRL.out]; exact hrN) (by rw [HRL.out]; exact hnN')]
                        exact hI.out.row _ (exch_lt (by rw [HRL.out]; exact hrN) (by rw [HRL.out]; exact hnN') (by rw [HRL.out]; exact hx))
                    rw [← hT, ← hbd1] at hS
                    have HTD := hid hTd
                    have HTN := hid hTn
                    have HTR : Hid (∀ x, x < N → (rw' T x).length = j) := hTr
                    clear hT hbd1 hTd hTn hTr hF
                    go_wp2
                    go_loopg [15] N (fun g4 i wr2 => ∃ i' : Nat, i' + g4 = N ∧ i = .int .i64 i' ∧ Hid (SEch wr2 w.heap.size K (bd1 || xTo (sRowB T nf col) i') (.slice (some ⟨G, 0, none⟩) N cG) (.slice ac nf cc) us2 (uptoT (sRowF T nf col) T i') ch) ∧ Hid (Below w.heap.size w wr2))
                    case atStart => exact ⟨0, by omega, rfl, by rw [uptoT_zero, xTo_zero, Bool.or_false]; exact hS.out, hB.out⟩
                    case round =>
                      clear hS hB
                      obtain ⟨i, hig, rfl, hS, hB⟩ := hrel
                      cases gk with
                      | zero =>
                        obtain rfl : i = N := by omega
                        obtain ⟨fl, hfl⟩ : ∃ q, q = (bd1 || xTo (sRowB T nf col) i) := ⟨_, rfl⟩
                        rw [← hfl] at hS
                        have hst := sStep_flag R nf r col (by rw [HRL.out]; exact hnN')
                        rw [← HBD.out, ← HTD.out, HRL.out, ← hfl] at hst
                        have HST := hid hst
                        have k0 := hS.out.kk.cell
                        clear hst hfl
                        cases fl
                        · have hb : stepB R nf r col = true := by have := HST.out.1; simpa using this.symm
                          have HBT := hid hb
                          obtain ⟨t3, hti', htz0', htz1', htz2'⟩ := info_parts infoInt
                          have hws := hB.out.size
                          have HFC : Hid (wr.ownsRow w.heap.size 3 1 (.slice ac nf cc) nf (natV ch)) := by show World.ownsRow _ _ _ _ _ _ _; rw [HNF.out]; have := hS.out.cho; rw [← HNF.out] at this ⊢; exact this
                          clear hb
                          go_wp2_with (at_builtin; go_must (refine wpList_append_own _ rfl _ _ 73 rfl w.heap.size 3 t3 (.int .i64 0) 1 8 Try.underlying73 hti' htz0' htz1' htz2' rfl (by decide) _ _ _ rfl (World.ownsRow.alloc HFC.out _) ⟨wr.heap.size, 0, none⟩ 1 1 [.int .i64 col] rfl rfl (cell_one_new _ _ _) (by simp [Value.oneCell']) (by unfold maxLen; omega) (by omega) (by simp; omega) ?_); intro v' w3 hown' hgrow _)
                          go_roundg g
                          case measure => omega
                          case rel =>
                            have SP := hS.out.push hown' (by rw [HNF.out]; simp) hgrow
                            rw [HST.out.2 HBT.out] at SP
                            exact ⟨col + 1, v', us2, _, _, fe, by omega, by go_num, rfl, SP, (by have h9 := hI.out.yes hlt (by rw [← HNF.out]; exact hr1) (by rw [HRL.out]; exact hrN) (by rw [← HNF.out]; exact hZ.out) HPV.out (by rw [← HNF.out]; exact HBT.out); rw [← HNF.out] at h9; exact h9), hB.out.trans (below_appended HFC.out hws hgrow)⟩
                        · have hb : stepB R nf r col = false := by have := HST.out.1; simpa using this.symm
                          have hno := ech_no (hI.out.no hlt (by rw [← HNF.out]; exact hr1) (by rw [HRL.out]; exact hrN) (by rw [← HNF.out]; exact hZ.out) HPV.out (by rw [← HNF.out]; exact hb))
                          have HNO := hid hno
                          have hws := hB.out.size
                          clear hb hno
                          go_wp2
                          refine bodyPost_ret (v := .tuple #[.slice (some ⟨wr.heap.size, 0, none⟩) 0 0, .slice (some ⟨wr.heap.size + 1, 0, none⟩) 0 0, .bool false]) (by simp [results, Try.results55, go_sem]) rfl ⟨_, _, [], by rw [HNO.out.1], ?_, ?_, (hB.out.alloc hws _).alloc (by simp; omega) _⟩
                          · rw [HNO.out.2.1]; exact (Tab.lit hws).below (b0 _ _)
                          · rw [HNO.out.2.2]
                            have h4 := World.ownsRow_lit (wr.alloc (.cells #[] 63)) (base := w.heap.size) (e := 3) (size := 1) #[] 0 (by simp; omega) (Nat.zero_le _) rfl
                            simpa [natV] using h4
                      | succ g4 =>
                        have hiN : i < N := by omega
                        have ho := hS.out.tab.outer
                        rw [HL2.out] at ho
                        have ci := ho.cellAt i (by omega)
                        have hin := hS.out.tab.inner i (by rw [HL2.out]; exact hiN)
                        rw [uptoT_at _ _ _ _ (by rw [HTN.out]; exact hiN), if_neg (Nat.lt_irrefl _), HTR.out i hiN] at hin
                        obtain ⟨bi, di, ei⟩ := own_some hin (by omega)
                        rw [show us2[i]? = some (vl us2 i) by unfold vl; rw [List.getElem?_eq_getElem (by have := HL2.out; omega)]; rfl, ei] at ci
                        rw [ei] at hin
                        obtain ⟨Ri, hRi⟩ : ∃ x, x = rw' T i := ⟨_, rfl⟩
                        have hRil : Ri.length = j := by rw [hRi]; exact HTR.out i hiN
                        rw [← hRi] at hin
                        obtain ⟨g1, g2'⟩ := own_R hin hRil col hlt
                        obtain ⟨y, hy⟩ : ∃ y, y = fr Ri col := ⟨_, rfl⟩
                        rw [show Ri[col]?.getD (0, 0) = y from hy.symm] at g1 g2'
                        obtain ⟨y1, y2⟩ := y
                        have hwi : w.heap.size ≤ bi := (hin.lt bi rfl).1
                        have hbi : bi < wr.heap.size := (hin.lt bi rfl).2
                        have hbk2 : bk < wr.heap.size := by
                          have := hS.out.tab.lt nf (by rw [HL2.out]; exact hnN')
                          rw [HVF.out] at this
                          exact this bk rfl
                        have hbiK : bi ≠ K := own_ne hin hS.out.kk.blk (by decide) bi rfl
                        have hbkK : bk ≠ K := by
                          have h1 := hS.out.tab.inner nf (by rw [HL2.out]; exact hnN')
                          rw [HVF.out] at h1
                          exact own_ne h1 hS.out.kk.blk (by decide) bk rfl
                        have hGK : G ≠ K := own_ne hS.out.tab.outer hS.out.kk.blk (by decide) G rfl
                        have hK2 := hS.out.kk.lt
                        have HRI : Hid (Ri = rw' T i ∧ Ri.length = j ∧ (y1, y2) = fr Ri col ∧ vl us2 i = .slice (some ⟨bi, 0, none⟩) j di) := ⟨hRi, hRil, hy, ei⟩
                        clear ho hin ei hRi hRil hy
                        go_wp2
                        obtain ⟨F2, hF2⟩ : ∃ F, F = wr.heap.size := ⟨_, rfl⟩
                        obtain ⟨Y, hY⟩ : ∃ Y, Y = wr.alloc (.cells #[.int .i64 y1, .int .i64 y2] 24) := ⟨_, rfl⟩
                        have rF : IsR Y F2 y1 y2 := by rw [hY, hF2]; exact IsR.new wr y1 y2
                        have SY := hS.out.below (b0 wr (.cells #[.int .i64 y1, .int .i64 y2] 24))
                        have BY : Below w.heap.size w Y := by rw [hY]; exact hB.out.alloc (by have := hB.out.size; omega) _
                        rw [← hY] at SY
                        rw [← hY, ← hF2]
                        rw [← hF2] at hbi hbk2 hK2
                        clear hY hF2 hS hB g1 g2' ci
                        by_cases hin : i = nf
                        · subst hin
                          go_loopg [17] 0 (fun g5 z wr2 => z = .int .i64 0 ∧ Hid (SEch wr2 w.heap.size K (bd1 || xTo (sRowB T i col) i) (.slice (some ⟨G, 0, none⟩) N cG) (.slice ac i cc) us2 (uptoT (sRowF T i col) T i) ch) ∧ Hid (Below w.heap.size w wr2))
                          case atStart => exact ⟨rfl, SY, BY⟩
                          case round =>
                            clear SY BY rF
                            obtain ⟨rfl, hS, hB⟩ := hrel
                            go_wp2
                            go_roundg g4
                            case measure => omega
                            case rel =>
                              refine ⟨i + 1, by omega, by go_num, ?_, hB.out⟩
                              rw [← uptoT_same _ _ _ (by rw [HTN.out]; exact hiN) (by unfold sRowF; rw [if_pos rfl]), xTo_succ, show sRowB T i col i = false by unfold sRowB; simp, Bool.or_false]
                              exact hS.out
                        · have hin2 : (i : Int) ≠ (nf : Int) := by omega
                          obtain ⟨Xr, hXr⟩ : ∃ x, x = rw' T nf := ⟨_, rfl⟩
                          have hXl : Xr.length = j := by rw [hXr]; exact HTR.out nf hnN'
                          obtain ⟨bd2, hbd2⟩ : ∃ q, q = (bd1 || xTo (sRowB T nf col) i) := ⟨_, rfl⟩
                          have HBD2 := hid hbd2
                          have HXR : Hid (Xr = rw' T nf ∧ Xr.length = j) := ⟨hXr, hXl⟩
                          have SY2 : SEch Y w.heap.size K (bd2 || xTo (sTakeB Ri (y1, y2) Xr) 0) (.slice (some ⟨G, 0, none⟩) N cG) (.slice ac nf cc) us2 ((uptoT (sRowF T nf col) T i).set i (upto (sTakeF Ri (y1, y2) Xr) Ri 0)) ch := by
                            rw [xTo_zero, Bool.or_false, upto_zero, set_same _ _ _ (by rw [uptoT_len, HTN.out]; exact hiN) (by rw [uptoT_at _ _ _ _ (by rw [HTN.out]; exact hiN), if_neg (Nat.lt_irrefl _), HRI.out.1]), hbd2]
                            exact SY
                          clear hXr hXl hbd2 SY
                          go_loopg [17] j (fun g5 z wr2 => ∃ m : Nat, m + g5 = j ∧ z = .int .i64 m ∧ Hid (SEch wr2 w.heap.size K (bd2 || xTo (sTakeB Ri (y1, y2) Xr) m) (.slice (some ⟨G, 0, none⟩) N cG) (.slice ac nf cc) us2 ((uptoT (sRowF T nf col) T i).set i (upto (sTakeF Ri (y1, y2) Xr) Ri m)) ch) ∧ Hid (IsR wr2 F2 y1 y2) ∧ Hid (Below w.heap.size w wr2))
                          case atStart => exact ⟨0, by omega, rfl, SY2, rF, BY⟩
                          case round =>
                            clear SY2 rF BY
                            obtain ⟨m, hmg, rfl, hS, hF2, hB⟩ := hrel
                            cases gk with
                            | zero =>
                              obtain rfl : m = j := by omega
                              go_wp2
                              go_roundg g4
                              case measure => omega
                              case rel =>
                                have hrf : upto (sTakeF Ri (y1, y2) Xr) Ri m = sRowF T nf col i := by
                                  unfold sRowF
                                  rw [if_neg hin, ← HRI.out.1, ← HXR.out.1, HRI.out.2.1, HRI.out.2.2.1]
                                have hrb : xTo (sTakeB Ri (y1, y2) Xr) m = sRowB T nf col i := by
                                  unfold sRowB
                                  rw [decide_eq_false hin, Bool.not_false, Bool.true_and, ← HRI.out.1, ← HXR.out.1, HRI.out.2.1, HRI.out.2.2.1]
                                have S7 := hS.out
                                rw [hrf, uptoT_set _ _ _ (by rw [HTN.out]; exact hiN), hrb, HBD2.out, Bool.or_assoc, ← xTo_succ] at S7
                                exact ⟨i + 1, by omega, by go_num, S7, hB.out⟩
                            | succ g5 =>
                              have hmj : m < j := by omega
                              have ho := hS.out.tab.outer
                              rw [HL2.out] at ho
                              have ci := ho.cellAt i (by omega)
                              rw [show us2[i]? = some (vl us2 i) by unfold vl; rw [List.getElem?_eq_getElem (by have := HL2.out; omega)]; rfl, HRI.out.2.2.2] at ci
                              have hrow := hS.out.tab.inner i (by rw [HL2.out]; exact hiN)
                              rw [HRI.out.2.2.2, rw_set _ _ _ _ (by rw [uptoT_len, HTN.out]; exact hiN), if_pos rfl, upto_len, HRI.out.2.1] at hrow
                              have hul : (upto (sTakeF Ri (y1, y2) Xr) Ri m).length = j := by rw [upto_len]; exact HRI.out.2.1
                              obtain ⟨c1, c2⟩ := own_R hrow hul m hmj
                              obtain ⟨o, hoo⟩ : ∃ x, x = fr Ri m := ⟨_, rfl⟩
                              rw [show (upto (sTakeF Ri (y1, y2) Xr) Ri m)[m]?.getD (0, 0) = o by rw [hoo]; have := upto_at (sTakeF Ri (y1, y2) Xr) Ri m m (by rw [HRI.out.2.1]; exact hmj); rw [if_neg (Nat.lt_irrefl _)] at this; exact this] at c1 c2
                              have hxr := hS.out.tab.inner nf (by rw [HL2.out]; exact hnN')
                              have hxt : rw' ((uptoT (sRowF T nf col) T i).set i (upto (sTakeF Ri (y1, y2) Xr) Ri m)) nf = Xr := by
                                rw [rw_set _ _ _ _ (by rw [uptoT_len, HTN.out]; exact hiN), if_neg hin, uptoT_at _ _ _ _ (by rw [HTN.out]; exact hnN'), HXR.out.1]
                                split
                                · unfold sRowF; rw [if_pos rfl]
                                · rfl
                              rw [HVF.out, hxt, HXR.out.2] at hxr
                              obtain ⟨x1c, x2c⟩ := own_R hxr HXR.out.2 m hmj
                              obtain ⟨x, hx⟩ : ∃ x, x = fr Xr m := ⟨_, rfl⟩
                              rw [show Xr[m]?.getD (0, 0) = x from hx.symm] at x1c x2c
                              obtain ⟨x1, x2⟩ := x
                              obtain ⟨o1, o2⟩ := o
                              obtain ⟨bd, hbd⟩ : ∃ q, q = (bd2 || xTo (sTakeB Ri (y1, y2) Xr) m) := ⟨_, rfl⟩
                              obtain ⟨p, hp⟩ : ∃ q, q = sTakeP (y1, y2) (x1, x2) := ⟨_, rfl⟩
                              obtain ⟨mb, hmb⟩ : ∃ q, q = !mulK (y1, y2) (x1, x2) := ⟨_, rfl⟩
                              obtain ⟨s, hs⟩ : ∃ q, q = sTakeE (o1, o2) (y1, y2) (x1, x2) := ⟨_, rfl⟩
                              obtain ⟨sb, hsb⟩ : ∃ q, q = !subK (o1, o2) (sTakeP (y1, y2) (x1, x2)) := ⟨_, rfl⟩
                              have HM : Hid (∀ W : World, IsK W K bd → Calls Try.prog 50 #[.pointer (some ⟨K, 0, none⟩), .agg #[.int .i64 y1, .int .i64 y2], .agg #[.int .i64 x1, .int .i64 x2]] W fun e w' => e = .returned (.agg #[.int .i64 p.1, .int .i64 p.2]) ∧ IsK w' K (bd || mb) ∧ W.grownBy w' (some K)) := by
                                intro W hW; rw [hp, hmb]; exact kMul K bd y1 y2 x1 x2 W hW
                              have HSB : Hid (∀ W : World, IsK W K (bd || mb) → Calls Try.prog 76 #[.pointer (some ⟨K, 0, none⟩), .agg #[.int .i64 o1, .int .i64 o2], .agg #[.int .i64 p.1, .int .i64 p.2]] W fun e w' => e = .returned (.agg #[.int .i64 s.1, .int .i64 s.2]) ∧ IsK w' K (bd || mb || sb) ∧ W.grownBy w' (some K)) := by
                                intro W hW
                                rw [hs, hsb]
                                have := kSub K (bd || mb) o1 o2 p.1 p.2 W hW
                                rw [show ((p.1, p.2) : Fr) = sTakeP (y1, y2) (x1, x2) from hp] at this
                                exact this
                              have HQ : Hid (s = sTakeF Ri (y1, y2) Xr m ∧ (bd || mb || sb) = (bd2 || xTo (sTakeB Ri (y1, y2) Xr) (m + 1))) := by
                                refine ⟨by unfold sTakeF; rw [← hx, ← hoo]; exact hs, ?_⟩
                                rw [xTo_succ, hbd, hmb, hsb]
                                unfold sTakeB
                                rw [← hx, ← hoo]
                                unfold sTakeX
                                simp only [Bool.or_assoc]
                              rw [← hbd] at hS
                              obtain ⟨s1, s2⟩ := s
                              obtain ⟨p1, p2⟩ := p
                              have fr1 := hrow.frozenAt (m * 2)
                              have fr2 := hrow.frozenAt (m * 2 + 1)
                              have d0 := hF2.out.c0
                              have d1 := hF2.out.c1
                              have HROW := hid hrow
                              have HUL := hid hul
                              have hFK : F2 ≠ K := by omega
                              have hGbi : G ≠ bi := fun e => own_unlike hS.out.tab.outer hrow (by decide) (b := G) rfl (by rw [e]; rfl)
                              have hkbi : bk ≠ bi := fun e => hS.out.tab.apart nf i (by rw [HL2.out]; exact hnN') (by rw [HL2.out]; exact hiN) (fun h => hin h.symm) bk (by rw [HVF.out]; rfl) (by rw [HRI.out.2.2.2, e]; rfl)
                              clear hx hoo hbd hp hmb hs hsb hrow hul hxr hxt ho
                              go_wp2
                              --R31
                              refine wp_region_noPanic ?_
                              refine wp_region_held_drew (S := (fun w' => w'.cell? ⟨G, i, none⟩ = some (.slice (some ⟨bi, 0, none⟩) j di) ∧ w'.cell? ⟨F2, 0, none⟩ = some (.int .i64 y1) ∧ w'.cell? ⟨F2, 1, none⟩ = some (.int .i64 y2) ∧ w'.cell? ⟨bk, m * 2, none⟩ = some (.int .i64 x1) ∧ w'.cell? ⟨bk, m * 2 + 1, none⟩ = some (.int .i64 x2))) (by kernel_rfl) ?_ (fun hHeld => ?_)
                              · (try dsimp only)
                                refine ⟨?_, ?_, ?_, ?_, ?_⟩ <;> (repeat (with_reducible (first | exact ci | exact d0 | exact d1 | exact x1c | exact x2c | refine cell_dr ?_ | refine cell_al _ ?_ | refine cell_stb ?_ ?_ | (show _ ≠ _; omega))))
                              refine wpAnyH_take (i := 0) (v := ?_) rfl (by kernel_rfl) (by kernel_rfl) (by kernel_rfl) (fun _ _ _ h => h) (Or.inl ⟨by kernel_rfl, ?_⟩) hHeld ?_
                              rotate_left
                              · intro wz hSw; (try dsimp only at hSw); go_simp; all_goals (try with_reducible rfl)
                              (try simp only [List.getElem_toArray]); (try simp only [List.getElem_cons_succ]); (try simp only [List.getElem_cons_zero]); (try simp only [Act.put]); (try simp only [List.setIfInBounds_toArray]); (try simp only [List.set_cons_succ]); (try simp only [List.set_cons_zero])
                              refine wpAnyH_take (i := 1) (v := ?_) rfl (by kernel_rfl) (by kernel_rfl) (by kernel_rfl) (fun _ _ _ h => h) (Or.inl ⟨by kernel_rfl, ?_⟩) hHeld ?_
                              rotate_left
                              · intro wz hSw; (try dsimp only at hSw); go_simp; all_goals (try with_reducible rfl)
                              (try simp only [List.getElem_toArray]); (try simp only [List.getElem_cons_succ]); (try simp only [List.getElem_cons_zero]); (try simp only [Act.put]); (try simp only [List.setIfInBounds_toArray]); (try simp only [List.set_cons_succ]); (try simp only [List.set_cons_zero])
                              refine wpAnyH_take (i := 2) (v := ?_) rfl (by kernel_rfl) (by kernel_rfl) (by kernel_rfl) (fun _ _ _ h => h) (Or.inl ⟨by kernel_rfl, ?_⟩) hHeld ?_
                              rotate_left
                              · intro wz hSw; (try dsimp only at hSw); go_simp; all_goals (try with_reducible rfl)
                              (try simp only [List.getElem_toArray]); (try simp only [List.getElem_cons_succ]); (try simp only [List.getElem_cons_zero]); (try simp only [Act.put]); (try simp only [List.setIfInBounds_toArray]); (try simp only [List.set_cons_succ]); (try simp only [List.set_cons_zero])
                              refine wpAnyH_take (i := 3) (v := ?_) rfl (by kernel_rfl) (by kernel_rfl) (by kernel_rfl) (fun _ _ _ h => h) (Or.inl ⟨by kernel_rfl, ?_⟩) hHeld ?_
                              rotate_left
                              · intro wz hSw; (try dsimp only at hSw); go_simp; all_goals (try with_reducible rfl)
                              (try simp only [List.getElem_toArray]); (try simp only [List.getElem_cons_succ]); (try simp only [List.getElem_cons_zero]); (try simp only [Act.put]); (try simp only [List.setIfInBounds_toArray]); (try simp only [List.set_cons_succ]); (try simp only [List.set_cons_zero])
                              refine wpAnyH_take (i := 4) (v := ?_) rfl (by kernel_rfl) (by kernel_rfl) (by kernel_rfl) (fun _ _ _ h => h) (Or.inl ⟨by kernel_rfl, ?_⟩) hHeld ?_
                              rotate_left
                              · intro wz hSw; (try dsimp only at hSw); go_simp; all_goals (try with_reducible rfl)
                              (try simp only [List.getElem_toArray]); (try simp only [List.getElem_cons_succ]); (try simp only [List.getElem_cons_zero]); (try simp only [Act.put]); (try simp only [List.setIfInBounds_toArray]); (try simp only [List.set_cons_succ]); (try simp only [List.set_cons_zero])
                              refine wpAnyH_take (i := 5) (v := ?_) rfl (by kernel_rfl) (by kernel_rfl) (by kernel_rfl) (fun _ _ _ h => h) (Or.inl ⟨by kernel_rfl, ?_⟩) hHeld ?_
                              rotate_left
                              · intro wz hSw; (try dsimp only at hSw); go_simp; all_goals (try with_reducible rfl)
                              (try simp only [List.getElem_toArray]); (try simp only [List.getElem_cons_succ]); (try simp only [List.getElem_cons_zero]); (try simp only [Act.put]); (try simp only [List.setIfInBounds_toArray]); (try simp only [List.set_cons_succ]); (try simp only [List.set_cons_zero])
                              refine wpAnyH_take (i := 6) (v := ?_) rfl (by kernel_rfl) (by kernel_rfl) (by kernel_rfl) (fun _ _ _ h => h) (Or.inl ⟨by kernel_rfl, ?_⟩) hHeld ?_
                              rotate_left
                              · intro wz hSw; (try dsimp only at hSw); go_simp; all_goals (try with_reducible rfl)
                              (try simp only [List.getElem_toArray]); (try simp only [List.getElem_cons_succ]); (try simp only [List.getElem_cons_zero]); (try simp only [Act.put]); (try simp only [List.setIfInBounds_toArray]); (try simp only [List.set_cons_succ]); (try simp only [List.set_cons_zero])
                              refine wpAnyH_take (i := 7) (v := ?_) rfl (by kernel_rfl) (by kernel_rfl) (by kernel_rfl) (fun _ _ _ h => h) (Or.inl ⟨by kernel_rfl, ?_⟩) hHeld ?_
                              rotate_left
                              · intro wz hSw; (try dsimp only at hSw); go_simp; all_goals (try with_reducible rfl)
                              (try simp only [List.getElem_toArray]); (try simp only [List.getElem_cons_succ]); (try simp only [List.getElem_cons_zero]); (try simp only [Act.put]); (try simp only [List.setIfInBounds_toArray]); (try simp only [List.set_cons_succ]); (try simp only [List.set_cons_zero])
                              refine wpAnyH_take (i := 8) (v := ?_) rfl (by kernel_rfl) (by kernel_rfl) (by kernel_rfl) (fun _ _ _ h => h) (Or.inl ⟨by kernel_rfl, ?_⟩) hHeld ?_
                              rotate_left
                              · intro wz hSw; (try dsimp only at hSw); go_simp; all_goals (try with_reducible rfl)
                              (try simp only [List.getElem_toArray]); (try simp only [List.getElem_cons_succ]); (try simp only [List.getElem_cons_zero]); (try simp only [Act.put]); (try simp only [List.setIfInBounds_toArray]); (try simp only [List.set_cons_succ]); (try simp only [List.set_cons_zero])
                              refine wpAnyH_take (i := 9) (v := ?_) rfl (by kernel_rfl) (by kernel_rfl) (by kernel_rfl) (fun _ _ _ h => h) (Or.inl ⟨by kernel_rfl, ?_⟩) hHeld ?_
                              rotate_left
                              · intro wz hSw; (try dsimp only at hSw); go_simp; all_goals (try with_reducible rfl)
                              (try simp only [List.getElem_toArray]); (try simp only [List.getElem_cons_succ]); (try simp only [List.getElem_cons_zero]); (try simp only [Act.put]); (try simp only [List.setIfInBounds_toArray]); (try simp only [List.set_cons_succ]); (try simp only [List.set_cons_zero])
                              refine wpAnyH_take (i := 10) (v := ?_) rfl (by kernel_rfl) (by kernel_rfl) (by kernel_rfl) (fun _ _ _ h => h) (Or.inl ⟨by kernel_rfl, ?_⟩) hHeld ?_
                              rotate_left
                              · intro wz hSw; (try dsimp only at hSw); go_simp; all_goals (try with_reducible rfl)
                              (try simp only [List.getElem_toArray]); (try simp only [List.getElem_cons_succ]); (try simp only [List.getElem_cons_zero]); (try simp only [Act.put]); (try simp only [List.setIfInBounds_toArray]); (try simp only [List.set_cons_succ]); (try simp only [List.set_cons_zero])
                              refine wpAnyH_take (i := 11) (v := ?_) rfl (by kernel_rfl) (by kernel_rfl) (by kernel_rfl) (fun _ _ _ h => h) (Or.inl ⟨by kernel_rfl, ?_⟩) hHeld ?_
                              rotate_left
                              · intro wz hSw; (try dsimp only at hSw); go_simp; all_goals (try with_reducible rfl)
                              (try simp only [List.getElem_toArray]); (try simp only [List.getElem_cons_succ]); (try simp only [List.getElem_cons_zero]); (try simp only [Act.put]); (try simp only [List.setIfInBounds_toArray]); (try simp only [List.set_cons_succ]); (try simp only [List.set_cons_zero])
                              refine wpAnyH_take (i := 13) (v := ?_) rfl (by kernel_rfl) (by kernel_rfl) (by kernel_rfl) (fun _ _ _ h => h) (Or.inl ⟨by kernel_rfl, ?_⟩) hHeld ?_
                              rotate_left
                              · intro wz hSw; (try dsimp only at hSw); go_simp; all_goals (try with_reducible rfl)
                              (try simp only [List.getElem_toArray]); (try simp only [List.getElem_cons_succ]); (try simp only [List.getElem_cons_zero]); (try simp only [Act.put]); (try simp only [List.setIfInBounds_toArray]); (try simp only [List.set_cons_succ]); (try simp only [List.set_cons_zero])
                              refine wpAnyH_take (i := 14) (v := ?_) rfl (by kernel_rfl) (by kernel_rfl) (by kernel_rfl) (fun _ _ _ h => h) (Or.inl ⟨by kernel_rfl, ?_⟩) hHeld ?_
                              rotate_left
                              · intro wz hSw; (try dsimp only at hSw); go_simp; all_goals (try with_reducible rfl)
                              (try simp only [List.getElem_toArray]); (try simp only [List.getElem_cons_succ]); (try simp only [List.getElem_cons_zero]); (try simp only [Act.put]); (try simp only [List.setIfInBounds_toArray]); (try simp only [List.set_cons_succ]); (try simp only [List.set_cons_zero])
                              refine wpAnyH_take (i := 15) (v := ?_) rfl (by kernel_rfl) (by kernel_rfl) (by kernel_rfl) (fun _ _ _ h => h) (Or.inl ⟨by kernel_rfl, ?_⟩) hHeld ?_
                              rotate_left
                              · intro wz hSw; (try dsimp only at hSw); go_simp; all_goals (try with_reducible rfl)
                              (try simp only [List.getElem_toArray]); (try simp only [List.getElem_cons_succ]); (try simp only [List.getElem_cons_zero]); (try simp only [Act.put]); (try simp only [List.setIfInBounds_toArray]); (try simp only [List.set_cons_succ]); (try simp only [List.set_cons_zero])
                              refine wpAnyH_take (i := 16) (v := ?_) rfl (by kernel_rfl) (by kernel_rfl) (by kernel_rfl) (fun _ _ _ h => h) (Or.inl ⟨by kernel_rfl, ?_⟩) hHeld ?_
                              rotate_left
                              · intro wz hSw; (try dsimp only at hSw); go_simp; all_goals (try with_reducible rfl)
                              (try simp only [List.getElem_toArray]); (try simp only [List.getElem_cons_succ]); (try simp only [List.getElem_cons_zero]); (try simp only [Act.put]); (try simp only [List.setIfInBounds_toArray]); (try simp only [List.set_cons_succ]); (try simp only [List.set_cons_zero])
                              refine wpAnyH_take (i := 17) (v := ?_) rfl (by kernel_rfl) (by kernel_rfl) (by kernel_rfl) (fun _ _ _ h => h) (Or.inl ⟨by kernel_rfl, ?_⟩) hHeld ?_
                              rotate_left
                              · intro wz hSw; (try dsimp only at hSw); go_simp; all_goals (try with_reducible rfl)
                              (try simp only [List.getElem_toArray]); (try simp only [List.getElem_cons_succ]); (try simp only [List.getElem_cons_zero]); (try simp only [Act.put]); (try simp only [List.setIfInBounds_toArray]); (try simp only [List.set_cons_succ]); (try simp only [List.set_cons_zero])
                              refine wpAnyH_take (i := 18) (v := ?_) rfl (by kernel_rfl) (by kernel_rfl) (by kernel_rfl) (fun _ _ _ h => h) (Or.inl ⟨by kernel_rfl, ?_⟩) hHeld ?_
                              rotate_left
                              · intro wz hSw; (try dsimp only at hSw); go_simp; all_goals (try with_reducible rfl)
                              (try simp only [List.getElem_toArray]); (try simp only [List.getElem_cons_succ]); (try simp only [List.getElem_cons_zero]); (try simp only [Act.put]); (try simp only [List.setIfInBounds_toArray]); (try simp only [List.set_cons_succ]); (try simp only [List.set_cons_zero])
                              refine wpAnyH_ready (rs := [12, 19]) (by kernel_rfl) (by simp) (AllReadyH.cons rfl (fun Kc hKc => ?_) (AllReadyH.cons rfl (fun Kc hKc => ?_) AllReadyH.nil))
                              · go_simp
                                refine hKc.out _ _ ?_ (fun hHeld => ?_)
                                · (try dsimp only)
                                  refine ⟨?_, ?_, ?_, ?_, ?_⟩ <;> (repeat (with_reducible (first | exact ci | exact d0 | exact d1 | exact x1c | exact x2c | refine cell_dr ?_ | refine cell_al _ ?_ | refine cell_stb ?_ ?_ | (show _ ≠ _; omega))))
                                clear hKc Kc
                                (try simp only [List.getElem_toArray]); (try simp only [List.getElem_cons_succ]); (try simp only [List.getElem_cons_zero]); (try simp only [Act.put]); (try simp only [List.setIfInBounds_toArray]); (try simp only [List.set_cons_succ]); (try simp only [List.set_cons_zero])
                                refine wpAnyH_ready (rs := [19]) (by kernel_rfl) (by simp) (AllReadyH.cons rfl (fun Kc hKc => ?_) AllReadyH.nil)
                                go_simp
                                (go_at_call 50; refine (HM.out _ (IsK.below (by exact hS.out.kk) ((Below.refl _ _).drew))).mono ?_; rintro e w5 ⟨rfl, k5, g5⟩)
                                have ci := cell_g g5 ci hGK
                                have d0 := cell_g g5 d0 hFK
                                have d1 := cell_g g5 d1 hFK
                                have x1c := cell_g g5 x1c hbkK
                                have x2c := cell_g g5 x2c hbkK
                                have c1 := cell_g g5 c1 hbiK
                                have c2 := cell_g g5 c2 hbiK
                                have S5 := hid (SEch.call (hS.out.below ((Below.refl _ _).drew)) k5 g5)
                                have F5 := hid (IsR.grown (hF2.out.below ((Below.refl _ _).drew)) g5 hFK)
                                have B5 : Below w.heap.size w w5 := (hB.out.drew).trans (below_grownK g5 hKl (by simpa using hB.out.size))
                                have r5 := hid (own_gkR (own_below HROW.out ((Below.refl _ _).drew)) g5 hbiK)
                                clear g5 k5
                                go_wp2_with fail
                                refine hKc.out _ _ ?_ (fun hHeld => ?_)
                                · (try dsimp only)
                                  refine ⟨?_, ?_, ?_, ?_, ?_⟩ <;> (repeat (with_reducible (first | exact ci | exact d0 | exact d1 | exact x1c | exact x2c | refine cell_dr ?_ | refine cell_al _ ?_ | refine cell_stb ?_ ?_ | (show _ ≠ _; omega))))
                                clear hKc Kc
                                (try simp only [List.getElem_toArray]); (try simp only [List.getElem_cons_succ]); (try simp only [List.getElem_cons_zero]); (try simp only [Act.put]); (try simp only [List.setIfInBounds_toArray]); (try simp only [List.set_cons_succ]); (try simp only [List.set_cons_zero])
                                refine wpAnyH_ready (rs := [20]) (by kernel_rfl) (by simp) (AllReadyH.cons rfl (fun Kc hKc => ?_) AllReadyH.nil)
                                go_simp
                                (go_at_call 76; refine (HSB.out _ (by exact S5.out.kk)).mono ?_; rintro e w6 ⟨rfl, k6, g6⟩)
                                have ci := cell_g g6 ci hGK
                                have d0 := cell_g g6 d0 hFK
                                have d1 := cell_g g6 d1 hFK
                                have x1c := cell_g g6 x1c hbkK
                                have x2c := cell_g g6 x2c hbkK
                                have c1 := cell_g g6 c1 hbiK
                                have c2 := cell_g g6 c2 hbiK
                                have S6' := hid (SEch.call S5.out k6 g6)
                                have F6' := hid (IsR.grown F5.out g6 hFK)
                                have B6 : Below w.heap.size w w6 := B5.trans (below_grownK g6 hKl B5.size)
                                have R6 := hid (own_gkR r5.out g6 hbiK)
                                have fr3 := R6.out.frozenAt (m * 2)
                                have fr4 := R6.out.frozenAt (m * 2 + 1)
                                clear g6 k6
                                go_wp2_with fail
                                refine hKc.out _ _ ?_ (fun hHeld => ?_)
                                · (try dsimp only)
                                  refine ⟨?_, ?_, ?_, ?_, ?_⟩ <;> (repeat (with_reducible (first | exact ci | exact d0 | exact d1 | exact x1c | exact x2c | refine cell_dr ?_ | refine cell_al _ ?_ | refine cell_stb ?_ ?_ | (show _ ≠ _; omega))))
                                clear hKc Kc
                                (try simp only [List.getElem_toArray]); (try simp only [List.getElem_cons_succ]); (try simp only [List.getElem_cons_zero]); (try simp only [Act.put]); (try simp only [List.setIfInBounds_toArray]); (try simp only [List.set_cons_succ]); (try simp only [List.set_cons_zero])
                                refine wpAnyH_take (i := 21) (v := ?_) rfl (by kernel_rfl) (by kernel_rfl) (by kernel_rfl) (fun _ _ _ h => h) (Or.inl ⟨by kernel_rfl, ?_⟩) hHeld ?_
                                rotate_left
                                · intro wz hSw; (try dsimp only at hSw); go_simp; all_goals (try with_reducible rfl)
                                (try simp only [List.getElem_toArray]); (try simp only [List.getElem_cons_succ]); (try simp only [List.getElem_cons_zero]); (try simp only [Act.put]); (try simp only [List.setIfInBounds_toArray]); (try simp only [List.set_cons_succ]); (try simp only [List.set_cons_zero])
                                refine wpAnyH_ready (rs := [22]) (by kernel_rfl) (by simp) (AllReadyH.cons rfl (fun Kc hKc => ?_) AllReadyH.nil)
                                go_simp
                                refine hKc.out _ _ ?_ (fun hHeld => ?_)
                                · (try dsimp only)
                                  refine ⟨?_, ?_, ?_, ?_, ?_⟩ <;> (repeat (with_reducible (first | exact ci | exact d0 | exact d1 | exact x1c | exact x2c | refine cell_dr ?_ | refine cell_al _ ?_ | refine cell_stb ?_ ?_ | (show _ ≠ _; omega))))
                                clear hKc Kc
                                (try simp only [List.getElem_toArray]); (try simp only [List.getElem_cons_succ]); (try simp only [List.getElem_cons_zero]); (try simp only [Act.put]); (try simp only [List.setIfInBounds_toArray]); (try simp only [List.set_cons_succ]); (try simp only [List.set_cons_zero])
                                refine wpAnyH_done (by kernel_rfl) ?_ _
                                refine NoPanic.normal ?_
                                go_wp2
                                go_roundg g5
                                case measure => omega
                                case rel =>
                                  obtain ⟨q1, q2⟩ := R6.out.stored (m * 2) (.int .i64 s1)
                                  obtain ⟨q3, q4⟩ := q1.stored (m * 2 + 1) (.int .i64 s2)
                                  rw [cellsR_set _ _ _ _ (by rw [HUL.out]; exact hmj), HQ.out.1, upto_set _ _ _ (by rw [HRI.out.2.1]; exact hmj)] at q3
                                  have S8 := S6'.out.turn (k := i) (ps := upto (sTakeF Ri (y1, y2) Xr) Ri (m + 1)) (by rw [HL2.out]; exact hiN) (by rw [upto_len, HRI.out.2.1, HRI.out.2.2.2]; exact q3) (by rw [HRI.out.2.2.2]; exact q2.trans q4)
                                  rw [set_set', HQ.out.2] at S8
                                  exact ⟨m + 1, by omega, by go_num, S8, (F6'.out.other (by omega) _ _).other (by omega) _ _, (B6.setCell (p := ⟨bi, m * 2, none⟩) hwi _).setCell (p := ⟨bi, m * 2 + 1, none⟩) hwi _⟩
                              · go_simp
                                (go_at_call 50; refine (HM.out _ (IsK.below (by exact hS.out.kk) ((Below.refl _ _).drew))).mono ?_; rintro e w5 ⟨rfl, k5, g5⟩)
                                have ci := cell_g g5 ci hGK
                                have d0 := cell_g g5 d0 hFK
                                have d1 := cell_g g5 d1 hFK
                                have x1c := cell_g g5 x1c hbkK
                                have x2c := cell_g g5 x2c hbkK
                                have c1 := cell_g g5 c1 hbiK
                                have c2 := cell_g g5 c2 hbiK
                                have S5 := hid (SEch.call (hS.out.below ((Below.refl _ _).drew)) k5 g5)
                                have F5 := hid (IsR.grown (hF2.out.below ((Below.refl _ _).drew)) g5 hFK)
                                have B5 : Below w.heap.size w w5 := (hB.out.drew).trans (below_grownK g5 hKl (by simpa using hB.out.size))
                                have r5 := hid (own_gkR (own_below HROW.out ((Below.refl _ _).drew)) g5 hbiK)
                                clear g5 k5
                                go_wp2_with fail
                                refine hKc.out _ _ ?_ (fun hHeld => ?_)
                                · (try dsimp only)
                                  refine ⟨?_, ?_, ?_, ?_, ?_⟩ <;> (repeat (with_reducible (first | exact ci | exact d0 | exact d1 | exact x1c | exact x2c | refine cell_dr ?_ | refine cell_al _ ?_ | refine cell_stb ?_ ?_ | (show _ ≠ _; omega))))
                                clear hKc Kc
                                (try simp only [List.getElem_toArray]); (try simp only [List.getElem_cons_succ]); (try simp only [List.getElem_cons_zero]); (try simp only [Act.put]); (try simp only [List.setIfInBounds_toArray]); (try simp only [List.set_cons_succ]); (try simp only [List.set_cons_zero])
                                refine wpAnyH_ready (rs := [12]) (by kernel_rfl) (by simp) (AllReadyH.cons rfl (fun Kc hKc => ?_) AllReadyH.nil)
                                go_simp
                                refine hKc.out _ _ ?_ (fun hHeld => ?_)
                                · (try dsimp only)
                                  refine ⟨?_, ?_, ?_, ?_, ?_⟩ <;> (repeat (with_reducible (first | exact ci | exact d0 | exact d1 | exact x1c | exact x2c | refine cell_dr ?_ | refine cell_al _ ?_ | refine cell_stb ?_ ?_ | (show _ ≠ _; omega))))
                                clear hKc Kc
                                (try simp only [List.getElem_toArray]); (try simp only [List.getElem_cons_succ]); (try simp only [List.getElem_cons_zero]); (try simp only [Act.put]); (try simp only [List.setIfInBounds_toArray]); (try simp only [List.set_cons_succ]); (try simp only [List.set_cons_zero])
                                refine wpAnyH_ready (rs := [20]) (by kernel_rfl) (by simp) (AllReadyH.cons rfl (fun Kc hKc => ?_) AllReadyH.nil)
                                go_simp
                                (go_at_call 76; refine (HSB.out _ (by exact S5.out.kk)).mono ?_; rintro e w6 ⟨rfl, k6, g6⟩)
                                have ci := cell_g g6 ci hGK
                                have d0 := cell_g g6 d0 hFK
                                have d1 := cell_g g6 d1 hFK
                                have x1c := cell_g g6 x1c hbkK
                                have x2c := cell_g g6 x2c hbkK
                                have c1 := cell_g g6 c1 hbiK
                                have c2 := cell_g g6 c2 hbiK
                                have S6' := hid (SEch.call S5.out k6 g6)
                                have F6' := hid (IsR.grown F5.out g6 hFK)
                                have B6 : Below w.heap.size w w6 := B5.trans (below_grownK g6 hKl B5.size)
                                have R6 := hid (own_gkR r5.out g6 hbiK)
                                have fr3 := R6.out.frozenAt (m * 2)
                                have fr4 := R6.out.frozenAt (m * 2 + 1)
                                clear g6 k6
                                go_wp2_with fail
                                refine hKc.out _ _ ?_ (fun hHeld => ?_)
                                · (try dsimp only)
                                  refine ⟨?_, ?_, ?_, ?_, ?_⟩ <;> (repeat (with_reducible (first | exact ci | exact d0 | exact d1 | exact x1c | exact x2c | refine cell_dr ?_ | refine cell_al _ ?_ | refine cell_stb ?_ ?_ | (show _ ≠ _; omega))))
                                clear hKc Kc
                                (try simp only [List.getElem_toArray]); (try simp only [List.getElem_cons_succ]); (try simp only [List.getElem_cons_zero]); (try simp only [Act.put]); (try simp only [List.setIfInBounds_toArray]); (try simp only [List.set_cons_succ]); (try simp only [List.set_cons_zero])
                                refine wpAnyH_take (i := 21) (v := ?_) rfl (by kernel_rfl) (by kernel_rfl) (by kernel_rfl) (fun _ _ _ h => h) (Or.inl ⟨by kernel_rfl, ?_⟩) hHeld ?_
                                rotate_left
                                · intro wz hSw; (try dsimp only at hSw); go_simp; all_goals (try with_reducible rfl)
                                (try simp only [List.getElem_toArray]); (try simp only [List.getElem_cons_succ]); (try simp only [List.getElem_cons_zero]); (try simp only [Act.put]); (try simp only [List.setIfInBounds_toArray]); (try simp only [List.set_cons_succ]); (try simp only [List.set_cons_zero])
                                refine wpAnyH_ready (rs := [22]) (by kernel_rfl) (by simp) (AllReadyH.cons rfl (fun Kc hKc => ?_) AllReadyH.nil)
                                go_simp
                                refine hKc.out _ _ ?_ (fun hHeld => ?_)
                                · (try dsimp only)
                                  refine ⟨?_, ?_, ?_, ?_, ?_⟩ <;> (repeat (with_reducible (first | exact ci | exact d0 | exact d1 | exact x1c | exact x2c | refine cell_dr ?_ | refine cell_al _ ?_ | refine cell_stb ?_ ?_ | (show _ ≠ _; omega))))
                                clear hKc Kc
                                (try simp only [List.getElem_toArray]); (try simp only [List.getElem_cons_succ]); (try simp only [List.getElem_cons_zero]); (try simp only [Act.put]); (try simp only [List.setIfInBounds_toArray]); (try simp only [List.set_cons_succ]); (try simp only [List.set_cons_zero])
                                refine wpAnyH_done (by kernel_rfl) ?_ _
                                refine NoPanic.normal ?_
                                go_wp2
                                go_roundg g5
                                case measure => omega
                                case rel =>
                                  obtain ⟨q1, q2⟩ := R6.out.stored (m * 2) (.int .i64 s1)
                                  obtain ⟨q3, q4⟩ := q1.stored (m * 2 + 1) (.int .i64 s2)
                                  rw [cellsR_set _ _ _ _ (by rw [HUL.out]; exact hmj), HQ.out.1, upto_set _ _ _ (by rw [HRI.out.2.1]; exact hmj)] at q3
                                  have S8 := S6'.out.turn (k := i) (ps := upto (sTakeF Ri (y1, y2) Xr) Ri (m + 1)) (by rw [HL2.out]; exact hiN) (by rw [upto_len, HRI.out.2.1, HRI.out.2.2.2]; exact q3) (by rw [HRI.out.2.2.2]; exact q2.trans q4)
                                  rw [set_set', HQ.out.2] at S8
                                  exact ⟨m + 1, by omega, by go_num, S8, (F6'.out.other (by omega) _ _).other (by omega) _ _, (B6.setCell (p := ⟨bi, m * 2, none⟩) hwi _).setCell (p := ⟨bi, m * 2 + 1, none⟩) hwi _⟩
                              --R31E
                  | succ g3 =>
                    have hjL : j < L := by omega
                    have hrow := hS.out.tab.inner nf (by rw [HL2.out]; exact hnN')
                    rw [HVF.out, rw_set _ _ _ _ (by rw [swapT_len, HRL.out]; exact hnN'), if_pos rfl, upto_len, HRRL.out] at hrow
                    have hul : (upto (sDivF Rr (f1, f2)) Rr j).length = L := by rw [upto_len]; exact HRRL.out
                    obtain ⟨c1, c2⟩ := own_R hrow hul j hjL
                    obtain ⟨x, hx⟩ : ∃ x, x = fr Rr j := ⟨_, rfl⟩
                    rw [show (upto (sDivF Rr (f1, f2)) Rr j)[j]?.getD (0, 0) = x by rw [hx]; have := upto_at (sDivF Rr (f1, f2)) Rr j j (by rw [HRRL.out]; exact hjL); rw [if_neg (Nat.lt_irrefl _)] at this; exact this] at c1 c2
                    obtain ⟨x1, x2⟩ := x
                    obtain ⟨q, hq⟩ : ∃ q, q = sDivE (x1, x2) (f1, f2) := ⟨_, rfl⟩
                    obtain ⟨xb, hxb⟩ : ∃ q, q = !divK (x1, x2) (f1, f2) := ⟨_, rfl⟩
                    obtain ⟨bd, hbd⟩ : ∃ q, q = xTo (sDivB Rr (f1, f2)) j := ⟨_, rfl⟩
                    have HDV : Hid (∀ W : World, IsK W K bd → Calls Try.prog 75 #[.pointer (some ⟨K, 0, none⟩), .agg #[.int .i64 x1, .int .i64 x2], .agg #[.int .i64 f1, .int .i64 f2]] W fun e w' => e = .returned (.agg #[.int .i64 q.1, .int .i64 q.2]) ∧ IsK w' K (bd || xb) ∧ W.grownBy w' (some K)) := by
                      intro W hW; rw [hq, hxb]; exact kDiv K bd x1 x2 f1 f2 W hW
                    have HQ : Hid (q = sDivF Rr (f1, f2) j ∧ (bd || xb) = xTo (sDivB Rr (f1, f2)) (j + 1)) := by
                      refine ⟨by unfold sDivF; rw [← hx]; exact hq, ?_⟩
                      rw [xTo_succ, ← hbd, hxb]
                      unfold sDivB
                      rw [← hx]
                    rw [← hbd] at hS
                    obtain ⟨q1, q2⟩ := q
                    have fr1 := hrow.frozenAt (j * 2)
                    have fr2 := hrow.frozenAt (j * 2 + 1)
                    have d0 := hF.out.c0
                    have d1 := hF.out.c1
                    have HROW := hid hrow
                    have HUL := hid hul
                    have hbK : bk ≠ K := own_ne hrow hS.out.kk.blk (by decide) bk rfl
                    have hFK : F ≠ K := by omega
                    clear hx hq hxb hbd hrow hul
                    go_wp2
                    go_region_with (go_at_call 75; refine (HDV.out _ (by first | exact hS.out.kk | exact hS.out.kk.below ((Below.refl _ _).drew))).mono ?_; rintro e w5 ⟨rfl, k5, g5⟩; have S5 := SEch.call (by first | exact hS.out | exact hS.out.below ((Below.refl _ _).drew)) k5 g5; have F5 := IsR.grown (by first | exact hF.out | exact hF.out.below ((Below.refl _ _).drew)) g5 hFK; have B5 : Below w.heap.size w w5 := Below.trans (by first | exact hB.out | exact hB.out.drew) (below_grownK g5 hKl (by simpa using hB.out.size)); have r5 := S5.tab.inner nf (by rw [HL2.out]; exact hnN'); rw [HVF.out, rw_set _ _ _ _ (by rw [swapT_len, HRL.out]; exact hnN'), if_pos rfl, upto_len, HRRL.out] at r5; have c3 := cell_g g5 (by first | exact c1 | exact cell_dr c1) hbK; have c4 := cell_g g5 (by first | exact c2 | exact cell_dr c2) hbK; have fr3 := r5.frozenAt (j * 2); have fr4 := r5.frozenAt (j * 2 + 1); have d2 := F5.c0; have d3 := F5.c1; have HR5 := hid r5; clear r5)
                    all_goals go_wp2
                    all_goals
                      go_roundg g3
                      case measure => omega
                      case rel =>
                        obtain ⟨p1, p2⟩ := HR5.out.stored (j * 2) (.int .i64 q1)
                        obtain ⟨p3, p4⟩ := p1.stored (j * 2 + 1) (.int .i64 q2)
                        rw [cellsR_set _ _ _ _ (by rw [HUL.out]; exact hjL), HQ.out.1, upto_set _ _ _ (by rw [HRRL.out]; exact hjL)] at p3
                        have S6 := S5.turn (k := nf) (ps := upto (sDivF Rr (f1, f2)) Rr (j + 1)) (by rw [HL2.out]; exact hnN') (by rw [upto_len, HRRL.out, HVF.out]; exact p3) (by rw [HVF.out]; exact p2.trans p4)
                        rw [set_set', HQ.out.2] at S6
                        exact ⟨j + 1, by omega, by go_num, S6, (F5.other (by omega) _ _).other (by omega) _ _, (B5.setCell (p := ⟨bk, j * 2, none⟩) hbw _).setCell (p := ⟨bk, j * 2 + 1, none⟩) hbw _⟩
    | succ g =>
      have hlt : k < N := by omega
      obtain ⟨bs, offs, u, rfl, c1, hu⟩ := H5N.out k hlt
      obtain ⟨ar, cr, rfl, m2, m3, m4, _⟩ := id hu
      obtain ⟨-, b2, off2, rfl, hsrc⟩ := row_src hu rfl (by rw [HD.out k (by have := HN.out; omega)]; exact hL1)
      have hrl := HD.out k (by have := HN.out; omega)
      have HS : Hid (∀ W : World, Below w.heap.size w W → ∀ j u, (cellsR (rw' rows k))[j]? = some u → W.cell? ((⟨b2, off2, none⟩ : Addr).add j) = some u) := by
        intro W hW j u' hj
        have h1 := hsrc j u' hj
        obtain ⟨a1, a2, a3, a4⟩ : ∃ a1 a2, (⟨b2, off2, none⟩ : Addr).add j = ⟨a1, a2, none⟩ ∧ True := by
          refine ⟨b2, off2 + j, ?_, trivial⟩
          by_cases i0 : j = 0 <;> simp [Addr.add, i0]
        rw [a3] at h1 ⊢
        exact cell_keep hW h1
      rw [hrl] at c1
      replace c1 := cell_keep hB.out c1
      have HRL := hid hrl
      obtain ⟨ao, co, rfl⟩ := own_shape hT.out.outer
      have hlo : ∀ b, (Value.slice ao us.length co).ownBlock = some b → b < wr.heap.size := fun b e => (hT.out.outer.lt b e).2
      have HLO := hid hlo
      have HUS := hid hus
      have hT' : Hid (wr.ownsRow w.heap.size 63 1 (.slice ao k co) k us) := by show World.ownsRow _ _ _ _ _ _ _; rw [← hus]; exact hT.out.outer
      rw [hus]
      clear hsrc hu m2 m3 m4 hrl hus hlo
      have hk6 : k < 1000 := by omega
      replace c1 : ∀ o : Obj, (wr.alloc o).cell? ⟨bs, offs + k, none⟩ = some (.slice (some ⟨b2, off2, none⟩) L cr) := fun o => cell_keep (b0 _ o) c1
      go_wp2_with (first | (at_builtin; refine wpList_append_own _ rfl _ _ 63 rfl wr.heap.size 24 i0 (.agg #[.int .i64 0, .int .i64 0]) 2 16 Try.underlying63 hi hz0 hz1 hz2 rfl (by decide) _ _ _ rfl (World.ownsRow_lit wr (base := wr.heap.size) (e := 24) (size := 2) #[] 0 (Nat.le_refl _) (Nat.zero_le _) rfl) ⟨b2, off2, none⟩ L cr (cellsR (rw' rows k)) rfl (by rw [cellsR_len, HRL.out]) (HS.out _ (hB.out.trans ((b0 _ _).mono hsz))) (cellsR_one _) (by unfold maxLen; omega) (by omega) (by simp) ?_; intro v1 w3 hown1 hgrow1 _; replace hown1 : w3.ownsRow wr.heap.size 24 2 v1 L (cellsR (rw' rows k)) := (by simpa using hown1); obtain ⟨a1, c1', rfl⟩ := own_shape hown1; have T3 : Tab w3 w.heap.size (.slice ao us.length co) us (rows.take k) := (hT.out.below (b0 _ _)).kept hgrow1 (fun b e h2 => by cases e; exact Nat.lt_irrefl _ (HLO.out _ h2)) (fun i hi b e h2 => by cases e; exact Nat.lt_irrefl _ (hT.out.lt i hi _ h2)); have B3 : Below w.heap.size w w3 := (hB.out.trans ((b0 _ _).mono hsz)).grown hgrow1 (by simp; omega) (fun b e => by cases e; exact hsz); have hs3 := B3.size; have hs4 := hgrow1.size; have HO1 := hid hown1; have o3 : Hid (w3.ownsRow w.heap.size 63 1 (.slice ao k co) k us) := (by show World.ownsRow _ _ _ _ _ _ _; rw [← HUS.out]; exact T3.outer); have HT3 := hid T3; clear T3 hown1) | (at_builtin; refine wpList_append_own _ rfl _ _ 35 rfl w.heap.size 63 t0 (.slice none 0 0) 1 24 Try.underlying35 hti htz0 htz1 htz2 rfl (by decide) _ _ _ rfl (World.ownsRow.alloc o3.out _) ⟨w3.heap.size, 0, none⟩ 1 1 [.slice a1 L c1'] rfl rfl (cell_one_new _ _ _) (by simp [Value.oneCell']) (by unfold maxLen; omega) (by omega) (by simp; omega) ?_; intro v2 w4 hown2 hgrow2 _))
      go_roundg g
      case measure => omega
      case rel =>
        have hu3 : w3.ownsRow w.heap.size 24 2 (.slice a1 L c1') (rw' rows k).length (cellsR (rw' rows k)) := by
          rw [HRL.out]
          exact own_le HO1.out hsz
        have T4 := HT3.out.append (u := .slice a1 L c1') (ps := rw' rows k) hu3 (fun i hi b e h2 => by
          have h1 := hT.out.lt i hi b e
          have h3 := (HO1.out.lt b h2).1
          omega) (by rw [HUS.out]; exact hown2) (by rw [HUS.out]; exact hgrow2)
        rw [takeS rows k (by have := HN.out; omega)] at T4
        exact ⟨v2, k + 1, us ++ [Value.slice a1 L c1'], by omega, by go_num, rfl, by simp [HUS.out], T4, B3.trans ((below_appended o3.out hs3 hgrow2))⟩
end Go.Proofs.Ytkcdpjcfbpjkeai
