/- Several texts of this proof laid one behind the other: each has its own heading below. -/
import Derived.Test.YtbbkejfcheobaakPk3
import Derived.Maps.AppendAt
import Derived.Deep.RegionWith
import Derived.Test.YtbbkejfcheobaakPk1

/- The walk of the model's Kernel. -/
namespace Go.Proofs.Ytbbkejfcheobaak
open Go.RowKit Go.Proofs.Ytbbkejfcheobaak.RM

/-- the blocks from lo up to hi stand -/
def Mid (lo hi : Nat) (a b : World) : Prop := hi ≤ b.heap.size ∧ ∀ k, lo ≤ k → k < hi → b.heap[k]? = a.heap[k]?
theorem Mid.cell {lo hi : Nat} {a b : World} (h : Mid lo hi a b) {g o : Nat} {v : Value} (hc : a.cell? ⟨g, o, none⟩ = some v) (h1 : lo ≤ g) (h2 : g < hi) : b.cell? ⟨g, o, none⟩ = some v :=
  (World.cell?_of_block (w := a) (a := ⟨g, o, none⟩) (h.2 g h1 h2)).trans hc
theorem Mid.below {lo hi S : Nat} {a b c : World} (h : Mid lo hi a b) (hb : Below S b c) (hS : hi ≤ S) : Mid lo hi a c :=
  ⟨Nat.le_trans h.1 hb.size, fun k h1 h2 => (hb.block k (by omega)).trans (h.2 k h1 h2)⟩
theorem own_low {S : Nat} {W W' : World} {base e size n : Nat} {v : Value} {xs : List Value} (h : W.ownsRow base e size v n xs) (hu : ∀ b, v.ownBlock = some b → b < S) (hb : Below S W W') : W'.ownsRow base e size v n xs := by
  refine ⟨h.1, ?_⟩
  rcases h.2 with k | ⟨g, cap, cur, e1, e2, e3, r⟩
  · exact .inl k
  · subst e1
    exact .inr ⟨g, cap, cur, rfl, e2, (hb.block g (hu g rfl)).trans e3, r⟩
theorem Tab.low {S : Nat} {W W' : World} {base : Nat} {v : Value} {us : List Value} {rows : List (List Fr)} (h : Tab W base v us rows) (hu : Under S v us) (hb : Below S W W') : Tab W' base v us rows :=
  ⟨own_low h.outer hu.1 hb, h.len, fun i hi => own_low (h.inner i hi) (hu.2 i hi) hb, h.apart⟩
theorem rep_succ (n : Nat) (x : Fr) : List.replicate (n + 1) x = List.replicate n x ++ [x] := by
  rw [List.replicate_succ']

set_option maxRecDepth 1000000 in
set_option maxHeartbeats 4000000 in
theorem sKernel_any (v : Value) (rows : List (List Fr)) (w : World) (h : RdT w v rows) :
    Calls Try.prog 29 #[v] w fun e w' => ∃ vm us, e = .returned vm ∧ Tab w' w.heap.size vm us (kerA rows) ∧ Below w.heap.size w w' := by
  obtain ⟨i0, hi, hz0, hz1, hz2⟩ := info_parts infoF
  obtain ⟨t0, hti, htz0, htz1, htz2⟩ := info_parts infoT
  have b0 : ∀ (u : World) (o : Obj), Below u.heap.size u (u.alloc o) := fun u o => (Below.refl _ _).alloc (Nat.le_refl _) o
  have HR := hid h
  obtain ⟨qa, hqa⟩ : ∃ q, q = tabB rows 6 := ⟨_, rfl⟩
  have HQA := hid hqa
  have T0 : Tab (w.alloc (.cells #[] 45)) w.heap.size (.slice (some ⟨w.heap.size, 0, none⟩) 0 0) [] [] := Tab.lit (Nat.le_refl _)
  have HT0 := hid T0
  have CA : Hid (∀ W : World, Below w.heap.size w W → Calls Try.prog 52 #[v] W fun e w' => e = .returned (.bool qa) ∧ Below W.heap.size W w') := by
    intro W hW; rw [hqa]; exact sTab_any v rows W (h.below hW)
  clear hqa T0
  cases qa
  · have HO : Hid (echO rows = false) := by show _ = _; unfold echO; rw [← HQA.out]; rfl
    have HAN := hid (kerA_no HO.out)
    clear h
    go_enter Try.func29, Try.ntmps29
    go_wp2_with (go_at_call 52; refine (CA.out _ (b0 _ _)).mono ?_; rintro e w1 ⟨rfl, hb⟩)
    go_ret
    refine ⟨_, [], rfl, ?_, (b0 _ _).trans (hb.mono (by simp))⟩
    rw [HAN.out]
    exact HT0.out.below hb
  have HO : Hid (echO rows = echK rows) := by show _ = _; unfold echO; rw [← HQA.out]; rfl
  obtain ⟨q, hq⟩ : ∃ q, q = echK rows := ⟨_, rfl⟩
  have HQ := hid hq
  have HSE : Hid (∀ W : World, Below w.heap.size w W → Calls Try.prog 53 #[v] W fun e w' => SEchP W rows e w') := by
    intro W hW; exact sEchO_any v rows W (h.below hW) HQA.out.symm
  obtain ⟨⟨t1, t2, t3, t4⟩, tr⟩ := tabB_out HQA.out.symm
  obtain ⟨pa, ca, rfl, -, -, -, h5⟩ := h
  obtain ⟨ba, offa, ua, rfl, ca0, ⟨pa0, ca0', rfl, -, -, -, -⟩⟩ := h5 0 (by omega)
  rw [Nat.add_zero] at ca0
  obtain ⟨L, hL⟩ : ∃ L, L = (rw' rows 0).length := ⟨_, rfl⟩
  have HL := hid hL
  rw [← hL] at ca0 t3 t4
  have hL6 : L ≤ 6 := by omega
  clear hq h5 tr hL t4
  cases q
  · have HAN := hid (kerA_no (HO.out.trans HQ.out.symm))
    go_enter Try.func29, Try.ntmps29
    go_wp2_with (first | (go_at_call 52; refine (CA.out _ (b0 _ _)).mono ?_; rintro e w1 ⟨rfl, hb⟩; have B1 : Below w.heap.size w w1 := (b0 _ _).trans (hb.mono (by simp))) | (go_at_call 53; refine (HSE.out _ (by first | exact B1)).mono ?_; rintro e w2 ⟨vm, vc, us, rfl, t, c, hb2⟩; rw [← HQ.out]; clear c t))
    go_ret
    refine ⟨_, [], rfl, ?_, B1.trans (hb2.mono B1.size)⟩
    rw [HAN.out]
    exact (HT0.out.below hb).below hb2
  obtain ⟨d1, d2, d3, d4⟩ := ech_dims HQA.out.symm HQ.out.symm
  have hrise := ech_rises HQ.out.symm
  have HKA := hid (kerA_yes (HO.out.trans HQ.out.symm))
  obtain ⟨R, hR⟩ : ∃ R, R = echR rows := ⟨_, rfl⟩
  obtain ⟨C, hC⟩ : ∃ C, C = echC rows := ⟨_, rfl⟩
  have HSE2 : Hid (∀ W : World, Below w.heap.size w W → Calls Try.prog 53 #[.slice (some ⟨ba, offa, none⟩) rows.length ca] W fun e w' => ∃ vm vc us, e = .returned (.tuple #[vm, vc, .bool true]) ∧ Tab w' W.heap.size vm us R ∧ w'.ownsRow W.heap.size 3 1 vc C.length (natV C) ∧ Below W.heap.size W w') := by
    intro W hW
    refine (HSE.out W hW).mono ?_
    rintro e w2 ⟨vm, vc, us, rfl, t, c, hb2⟩
    rw [← HQ.out]
    rw [hR, hC]
    exact ⟨vm, vc, us, rfl, t, c, hb2⟩
  rw [← hR] at d1 d2 HKA
  rw [← hC] at d3 d4 hrise HKA
  rw [← HL.out] at d2 d4 HKA
  have HRI := hid hrise
  have HD : Hid (R.length = rows.length ∧ (∀ x, x < R.length → (rw' R x).length = L) ∧ C.length ≤ rows.length ∧ ∀ c, c ∈ C → c < L) := ⟨d1, d2, d3, d4⟩
  clear d1 d2 d3 d4 hrise hR hC HSE
  go_enter Try.func29, Try.ntmps29
  go_wp2_with (first | (go_at_call 52; refine (CA.out _ (b0 _ _)).mono ?_; rintro e w1 ⟨rfl, hb⟩; have B1 : Below w.heap.size w w1 := (b0 _ _).trans (hb.mono (by simp)); have hs1 := hb.size; have T1 := hid (HT0.out.below hb); clear hb) | (go_at_call 53; refine (HSE2.out _ (by first | exact B1)).mono ?_; rintro e w2 ⟨vm, vc, us, rfl, t, c, hb2⟩; have T := hid t; have CC := hid c; have B2 := B1.trans (hb2.mono B1.size); have T2 := hid (T1.out.below hb2); have hs2 := hb2.size; obtain ⟨ac, cc, rfl⟩ := own_shape c; obtain ⟨G, cG, rfl⟩ := own_some t.outer (by rw [t.len]; have := HD.out.1; omega); clear c t hb2 T1))
  have hw1 : w.heap.size < w1.heap.size := by simp at hs1; omega
  have hG1 : w1.heap.size ≤ G := (T.out.outer.lt G rfl).1
  have hG2 : G < w2.heap.size := (T.out.outer.lt G rfl).2
  have hul := T.out.len
  have HTf : Hid (∀ k, k < R.length → ∃ g d, w1.heap.size ≤ g ∧ g < w2.heap.size ∧ w2.cell? ⟨G, k, none⟩ = some (.slice (some ⟨g, 0, none⟩) L d) ∧ ∀ col, col < L → w2.cell? ⟨g, col * 2, none⟩ = some (.int .i64 (fr (rw' R k) col).1) ∧ w2.cell? ⟨g, col * 2 + 1, none⟩ = some (.int .i64 (fr (rw' R k) col).2)) := by
    intro k hk
    have ck := T.out.outer.cellAt k (by omega)
    have hin := T.out.inner k (by omega)
    rw [HD.out.2.1 k hk] at hin
    obtain ⟨g, d, ek⟩ := own_some hin (by omega)
    rw [show us[k]? = some (vl us k) by unfold vl; rw [List.getElem?_eq_getElem (by omega)]; rfl, ek] at ck
    rw [ek] at hin
    exact ⟨g, d, (hin.lt g rfl).1, (hin.lt g rfl).2, ck, fun col hcol => own_R hin (HD.out.2.1 k hk) col hcol⟩
  have HCf : Hid (∀ k, k < C.length → ∃ g, ac = some ⟨g, 0, none⟩ ∧ w1.heap.size ≤ g ∧ g < w2.heap.size ∧ w2.cell? ⟨g, k, none⟩ = some (.int .i64 (nt C k : Int)) ∧ nt C k < L) := by
    intro k hk
    obtain ⟨g, c', e⟩ := own_some CC.out (by omega)
    cases e
    exact ⟨g, rfl, (CC.out.lt g rfl).1, (CC.out.lt g rfl).2, nat_at CC.out k hk, HD.out.2.2.2 _ (nt_mem hk)⟩
  obtain ⟨nc, hnc⟩ : ∃ n, n = C.length := ⟨_, rfl⟩
  obtain ⟨N, hN⟩ : ∃ n, n = us.length := ⟨_, rfl⟩
  have HN : Hid (nc = C.length ∧ N = us.length ∧ us.length = R.length) := ⟨hnc, hN, hul⟩
  have hncN : nc ≤ N := by have := HD.out; omega
  have hN6 : N ≤ 6 := by have := HD.out; omega
  rw [← hnc, ← hN]
  have M0 : Mid w1.heap.size w2.heap.size w2 w2 := ⟨Nat.le_refl _, fun _ _ _ => rfl⟩
  clear hnc hN hul T CC hs1
  go_loopg [3, 7, 8] L (fun g o a i wr => ∃ (out : Value) (us' : List Value) (at' col : Nat), col + g = L ∧ i = .int .i64 col ∧ a = .int .i64 at' ∧ out = o ∧ Hid (us'.length = (freeC col C).length) ∧ Hid (Tab wr w.heap.size out us' ((freeC col C).map (kerRow R C L))) ∧ Hid (∀ b, out.ownBlock = some b → b = w.heap.size ∨ w2.heap.size ≤ b) ∧ Hid (atP C at' col) ∧ Hid (Mid w1.heap.size w2.heap.size w2 wr) ∧ Hid (Below w.heap.size w wr))
  case atStart => exact ⟨_, [], 0, 0, by omega, rfl, rfl, rfl, rfl, T2.out, fun b e => by cases e; exact .inl rfl, atP_zero C, M0, B2⟩
  case round =>
    clear T2 M0 B2
    obtain ⟨out, us', at', col, hcg, rfl, rfl, rfl, hul, hT, hOB, hA, hM, hB⟩ := hrel
    have ca := cell_keep hB.out ca0
    cases gk with
    | zero =>
      obtain rfl : col = L := by omega
      go_wp2
      go_ret
      refine ⟨_, us', rfl, ?_, hB.out⟩
      rw [HKA.out]
      exact hT.out
    | succ g =>
      have hcol : col < L := by omega
      have hac := hA.out.1
      by_cases hat : at' < nc
      · obtain ⟨gc, rfl, m1, m2, m3, m4⟩ := HCf.out at' (by have := HN.out; omega)
        replace m3 := hM.out.cell m3 m1 m2
        obtain ⟨x, hx⟩ : ∃ x, x = nt C at' := ⟨_, rfl⟩
        have HX := hid hx
        rw [← hx] at m3 m4
        clear hx
        by_cases hxc : x = col
        · subst hxc
          go_wp2
          go_roundg g
          case measure => omega
          case rel =>
            obtain ⟨a1, a2⟩ := atP_yes HRI.out hA.out (by have := HN.out; omega) HX.out.symm
            refine ⟨out, us', at' + 1, x + 1, by omega, by go_num, by go_num, rfl, ?_, ?_, hOB.out, a1, hM.out, hB.out⟩
            · rw [freeC_in a2]; exact hul.out
            · rw [freeC_in a2]; exact hT.out
        · have hxc2 : (x : Int) ≠ (col : Int) := by omega
          have hbe : ((x : Int) == (col : Int)) = false := by simpa using hxc2
          have hno := atP_no HRI.out hA.out (fun _ => by rw [← HX.out]; exact hxc)
          have HNO := hid hno
          clear hno
          go_upto_region 13 with fail
          obtain ⟨V, hVV⟩ : ∃ V, V = wr := ⟨_, rfl⟩
          subst hVV
          have hsz := hB.out.size
          obtain ⟨Sk, hSk⟩ : ∃ g, g = V.heap.size := ⟨_, rfl⟩
          have hSk2 : w2.heap.size ≤ Sk := by rw [hSk]; exact hM.out.1
          have hwSk : w.heap.size ≤ Sk := by omega
          have hU : Under Sk out us' := by rw [hSk]; exact hT.out.under
          have HU := hid hU
          have r0 : (V.alloc (.cells #[] 37)).ownsRow Sk 37 2 (.slice (some ⟨Sk, 0, none⟩) 0 0) 0 (cellsR (List.replicate 0 (0, 1))) := by
            rw [hSk]; exact World.ownsRow_lit V (base := V.heap.size) (e := 37) (size := 2) #[] 0 (Nat.le_refl _) (Nat.zero_le _) rfl
          have B0 : Below Sk V (V.alloc (.cells #[] 37)) := by rw [hSk]; exact b0 _ _
          have hs0 : Sk ≤ (V.alloc (.cells #[] 37)).heap.size := by rw [hSk]; simp
          go_wp2
          rw [← hSk]
          clear hSk hU
          go_loopg [9, 10] L (fun g2 r j wz => ∃ (rv : Value) (m : Nat), m + g2 = L ∧ j = .int .i64 m ∧ rv = r ∧ Hid (wz.ownsRow Sk 37 2 rv m (cellsR (List.replicate m (0, 1)))) ∧ Hid (Below Sk V wz) ∧ Sk ≤ wz.heap.size)
          case atStart => exact ⟨_, 0, by omega, rfl, rfl, r0, B0, hs0⟩
          case round =>
            clear r0 B0 hs0
            obtain ⟨rv, m, hmg, rfl, rfl, hO, hZ, hs0⟩ := hrel
            have ca2 := (hZ.out.cell (p := ⟨ba, offa, none⟩) (by have := World.block_lt_of_cell? w _ ca0; have h9 : ba < w.heap.size := this; show ba < Sk; omega)).trans ca
            cases gk with
            | zero =>
              obtain rfl : m = L := by omega
              obtain ⟨gv, cv, rfl⟩ := own_some hO.out (by omega)
              have hgv : Sk ≤ gv := (hO.out.lt gv rfl).1
              go_upto_region 19 with (go_at_call 55; refine (one_any _).mono ?_; rintro e w4 ⟨rfl, hb4⟩; have O4 := own_below hO.out hb4; obtain ⟨o1, o2⟩ := own_R O4 (by simp) col hcol; have z1 := O4.frozenAt (col * 2); have z2 := O4.frozenAt (col * 2 + 1); have HO4 := hid O4; clear O4)
              obtain ⟨s1, s2⟩ := row_set HO4.out (by simp) col hcol 1 1
              have B4 : Below Sk V ((w4.setCell ⟨gv, col * 2, none⟩ (.int .i64 1)).setCell ⟨gv, col * 2 + 1, none⟩ (.int .i64 1)) := ((hZ.out.trans (hb4.mono hs0)).setCell (p := ⟨gv, col * 2, none⟩) hgv _).setCell (p := ⟨gv, col * 2 + 1, none⟩) hgv _
              obtain ⟨Y, hY⟩ : ∃ Y, Y = (w4.setCell ⟨gv, col * 2, none⟩ (.int .i64 1)).setCell ⟨gv, col * 2 + 1, none⟩ (.int .i64 1) := ⟨_, rfl⟩
              rw [← hY] at s1 B4 ⊢
              obtain ⟨bs, hbs⟩ : ∃ b, b = (List.replicate m ((0, 1) : Fr)).set col (1, 1) := ⟨_, rfl⟩
              have HBS := hid hbs
              have hbl : bs.length = m := by rw [hbs, List.length_set]; simp
              have HBL := hid hbl
              rw [← hbs] at s1
              clear hY hbs hbl hb4 HO4 s2 o1 o2 z1 z2 hO hZ hs0 ca2
              go_wp2
              go_loopg [11] nc (fun g3 i wz => ∃ m3 : Nat, m3 + g3 = nc ∧ i = .int .i64 m3 ∧ Hid (wz.ownsRow Sk 37 2 (.slice (some ⟨gv, 0, none⟩) m cv) m (cellsR (setsK R C col m3 bs))) ∧ Hid (Below Sk V wz))
              case atStart => exact ⟨0, by omega, rfl, s1, B4⟩
              case round =>
                clear s1 B4
                obtain ⟨m3, hm3, rfl, hO, hZ⟩ := hrel
                have hgw : gv < wr.heap.size := (hO.out.lt gv rfl).2
                cases gk with
                | zero =>
                  obtain rfl : m3 = nc := by omega
                  have TZ := hT.out.low HU.out hZ.out
                  have hul6 : us'.length ≤ 6 := by rw [hul.out]; have := freeC_len col C; omega
                  obtain ⟨ao, co, rfl⟩ := own_shape TZ.outer
                  have HTZ := hid TZ
                  obtain ⟨nu, hnu⟩ : ∃ n, n = us'.length := ⟨_, rfl⟩
                  have HNU := hid hnu
                  have hou : Hid (wr.ownsRow w.heap.size 45 1 (.slice ao nu co) nu us') := by show World.ownsRow _ _ _ _ _ _ _; rw [hnu]; exact TZ.outer
                  rw [← hnu] at hul6 ⊢
                  clear TZ hnu
                  go_wp2_with (at_builtin; go_must (refine wpList_append_own_at _ rfl _ _ 44 rfl w.heap.size 45 t0 (.slice none 0 0) 1 24 Try.underlying44 hti htz0 htz1 htz2 rfl (by decide) _ _ _ rfl (World.ownsRow.alloc hou.out _) ⟨wr.heap.size, 0, none⟩ 1 1 [.slice (some ⟨gv, 0, none⟩) m cv] rfl rfl (cell_one_new _ _ _) (by simp [Value.oneCell']) (by unfold maxLen; omega) (by omega) (by simp; omega) ?_); intro v' w5 hown' hgrow _ hbl)
                  go_roundg g
                  case measure => omega
                  case rel =>
                    have hrow : setsK R C col m3 bs = kerRow R C m col := by unfold kerRow; rw [HN.out.1, HBS.out]
                    have T5 := HTZ.out.append (u := .slice (some ⟨gv, 0, none⟩) m cv) (ps := kerRow R C m col) (by rw [kerRow_len, ← hrow]; exact own_le hO.out hwSk) (fun i hi b e h2 => by
                      have h1 := HU.out.2 i hi b e
                      have h3 := (hO.out.lt b h2).1
                      omega) (by rw [← HNU.out]; exact hown') (by rw [← HNU.out]; exact hgrow)
                    have BW : Below w.heap.size w wr := hB.out.trans (hZ.out.mono hwSk)
                    refine ⟨v', us' ++ [Value.slice (some ⟨gv, 0, none⟩) m cv], at', col + 1, by omega, by go_num, rfl, rfl, ?_, ?_, ?_, HNO.out.1, ?_, BW.trans (below_appended hou.out BW.size hgrow)⟩
                    · show _ = _
                      rw [freeC_out HNO.out.2, List.length_append, List.length_append, hul.out]; rfl
                    · rw [freeC_out HNO.out.2, List.map_append]
                      exact T5
                    · intro b hb
                      rcases hbl with h1 | h1
                      · rw [h1] at hb; exact hOB.out b (by rw [← HNU.out]; exact hb)
                      · rw [h1] at hb
                        injection hb with hb
                        right
                        have := hZ.out.size
                        simp at hb
                        omega
                    · refine ⟨by have := hZ.out.size; have := hgrow.size; simp at this; omega, fun k h1 h2 => ?_⟩
                      have e1 := (hM.out.below hZ.out hSk2).2 k h1 h2
                      have hk : k < wr.heap.size := by have := hZ.out.size; omega
                      refine (hgrow.block k (by simp; omega) (fun e => ?_)).trans ((Below.heap_alloc _ _ _ hk).trans e1)
                      rcases hOB.out k (by rw [← HNU.out]; exact e.symm) with h3 | h3 <;> omega
                | succ g3 =>
                  have hmc : m3 < nc := by omega
                  have MZ := hM.out.below hZ.out hSk2
                  obtain ⟨gc2, e, m1, m2, f1, f2⟩ := HCf.out m3 (by have := HN.out.1; omega)
                  cases e
                  replace f1 := MZ.cell f1 m1 m2
                  obtain ⟨gr, dr, q1, q2, q3, q4⟩ := HTf.out m3 (by have := HN.out; omega)
                  obtain ⟨q5, q6⟩ := q4 col hcol
                  replace q3 := MZ.cell q3 hG1 hG2
                  replace q5 := MZ.cell q5 q1 q2
                  replace q6 := MZ.cell q6 q1 q2
                  obtain ⟨x, hx⟩ : ∃ x, x = nt C m3 := ⟨_, rfl⟩
                  obtain ⟨p, hp⟩ : ∃ p, p = fr (rw' R m3) col := ⟨_, rfl⟩
                  have HXP : Hid (x = nt C m3 ∧ p = fr (rw' R m3) col) := ⟨hx, hp⟩
                  rw [← hx] at f1 f2
                  rw [← hp] at q5 q6
                  obtain ⟨p1, p2⟩ := p
                  have hsl : (setsK R C col m3 bs).length = m := by rw [setsK_len]; exact HBL.out
                  have HSL := hid hsl
                  have hmN : m3 < N := by omega
                  obtain ⟨o1, o2⟩ := own_R hO.out hsl x f2
                  have z1 := hO.out.frozenAt (x * 2)
                  have z2 := hO.out.frozenAt (x * 2 + 1)
                  generalize ((setsK R C col m3 bs)[x]?.getD (0, 0)).1 = y1 at o1
                  generalize ((setsK R C col m3 bs)[x]?.getD (0, 0)).2 = y2 at o2
                  clear hx hp hsl MZ q4
                  go_wp2
                  go_region_with (go_at_call 56; refine (mirS_any p1 p2 _).mono ?_; rintro e w4 ⟨rfl, hb4⟩; have O4 := own_below (by first | exact hO.out | exact own_below hO.out ((Below.refl _ _).drew)) hb4; have z3 := O4.frozenAt (x * 2); have z4 := O4.frozenAt (x * 2 + 1); have c1 := cell_keep hb4 (by first | exact o1 | exact cell_dr o1); have c2 := cell_keep hb4 (by first | exact o2 | exact cell_dr o2); have c3 := cell_keep hb4 (by first | exact f1 | exact cell_dr f1); have B4 : Below Sk V w4 := Below.trans (by first | exact hZ.out | exact hZ.out.drew) (hb4.mono (by simp; omega)); have HO4 := hid O4; clear O4)
                  all_goals go_wp2
                  all_goals
                    go_roundg g3
                    case measure => omega
                    case rel =>
                      obtain ⟨s1, s2⟩ := row_set HO4.out HSL.out x f2 (wrap64 (-p1)) p2
                      refine ⟨m3 + 1, by omega, by go_num, ?_, (B4.setCell (p := ⟨gv, x * 2, none⟩) hgv _).setCell (p := ⟨gv, x * 2 + 1, none⟩) hgv _⟩
                      show World.ownsRow _ _ _ _ _ _ _
                      have e1 : setsK R C col (m3 + 1) bs = (setsK R C col m3 bs).set x (wrap64 (-p1), p2) := by
                        simp only [setsK]
                        rw [← HXP.out.1, ← HXP.out.2]
                        rfl
                      rw [e1]
                      exact s1
            | succ g2 =>
              have hmL : m < L := by omega
              obtain ⟨av, cv, rfl⟩ := own_shape hO.out
              go_wp2_with (first | (go_at_call 54; refine (zero_any _).mono ?_; rintro e w4 ⟨rfl, hb4⟩; have O4 := hid (own_below hO.out hb4); have hs4 : Sk ≤ w4.heap.size := Nat.le_trans hs0 hb4.size) | (at_builtin; refine wpList_append_own _ rfl _ _ 45 rfl Sk 37 i0 (.agg #[.int .i64 0, .int .i64 0]) 2 16 Try.underlying45 hi hz0 hz1 hz2 rfl (by decide) _ _ _ rfl (own_below O4.out (b0 _ _)) ⟨w4.heap.size, 0, none⟩ 1 1 [.int .i64 0, .int .i64 1] rfl rfl (cell_twoF _ _ _ _) (by intro u hu; simp at hu; rcases hu with rfl | rfl <;> rfl) (by unfold maxLen; omega) (by omega) (by simp; omega) ?_; intro v' w5 hown' hgrow _))
              go_roundg g2
              case measure => omega
              case rel =>
                refine ⟨v', m + 1, by omega, by go_num, rfl, ?_, hZ.out.trans ((hb4.mono hs0).trans (below_appended O4.out hs4 hgrow)), by have := hgrow.size; simp at this; omega⟩
                show World.ownsRow _ _ _ _ _ _ _
                rw [rep_succ, cellsR_append]
                exact hown'
      · have hno := atP_no HRI.out hA.out (fun h => absurd (by have := HN.out; omega) hat)
        have HNO := hid hno
        clear hno
        go_upto_region 13 with fail
        obtain ⟨V, hVV⟩ : ∃ V, V = wr := ⟨_, rfl⟩
        subst hVV
        have hsz := hB.out.size
        obtain ⟨Sk, hSk⟩ : ∃ g, g = V.heap.size := ⟨_, rfl⟩
        have hSk2 : w2.heap.size ≤ Sk := by rw [hSk]; exact hM.out.1
        have hwSk : w.heap.size ≤ Sk := by omega
        have hU : Under Sk out us' := by rw [hSk]; exact hT.out.under
        have HU := hid hU
        have r0 : (V.alloc (.cells #[] 37)).ownsRow Sk 37 2 (.slice (some ⟨Sk, 0, none⟩) 0 0) 0 (cellsR (List.replicate 0 (0, 1))) := by
          rw [hSk]; exact World.ownsRow_lit V (base := V.heap.size) (e := 37) (size := 2) #[] 0 (Nat.le_refl _) (Nat.zero_le _) rfl
        have B0 : Below Sk V (V.alloc (.cells #[] 37)) := by rw [hSk]; exact b0 _ _
        have hs0 : Sk ≤ (V.alloc (.cells #[] 37)).heap.size := by rw [hSk]; simp
        go_wp2
        rw [← hSk]
        clear hSk hU
        go_loopg [9, 10] L (fun g2 r j wz => ∃ (rv : Value) (m : Nat), m + g2 = L ∧ j = .int .i64 m ∧ rv = r ∧ Hid (wz.ownsRow Sk 37 2 rv m (cellsR (List.replicate m (0, 1)))) ∧ Hid (Below Sk V wz) ∧ Sk ≤ wz.heap.size)
        case atStart => exact ⟨_, 0, by omega, rfl, rfl, r0, B0, hs0⟩
        case round =>
          clear r0 B0 hs0
          obtain ⟨rv, m, hmg, rfl, rfl, hO, hZ, hs0⟩ := hrel
          have ca2 := (hZ.out.cell (p := ⟨ba, offa, none⟩) (by have := World.block_lt_of_cell? w _ ca0; have h9 : ba < w.heap.size := this; show ba < Sk; omega)).trans ca
          cases gk with
          | zero =>
            obtain rfl : m = L := by omega
            obtain ⟨gv, cv, rfl⟩ := own_some hO.out (by omega)
            have hgv : Sk ≤ gv := (hO.out.lt gv rfl).1
            go_upto_region 19 with (go_at_call 55; refine (one_any _).mono ?_; rintro e w4 ⟨rfl, hb4⟩; have O4 := own_below hO.out hb4; obtain ⟨o1, o2⟩ := own_R O4 (by simp) col hcol; have z1 := O4.frozenAt (col * 2); have z2 := O4.frozenAt (col * 2 + 1); have HO4 := hid O4; clear O4)
            obtain ⟨s1, s2⟩ := row_set HO4.out (by simp) col hcol 1 1
            have B4 : Below Sk V ((w4.setCell ⟨gv, col * 2, none⟩ (.int .i64 1)).setCell ⟨gv, col * 2 + 1, none⟩ (.int .i64 1)) := ((hZ.out.trans (hb4.mono hs0)).setCell (p := ⟨gv, col * 2, none⟩) hgv _).setCell (p := ⟨gv, col * 2 + 1, none⟩) hgv _
            obtain ⟨Y, hY⟩ : ∃ Y, Y = (w4.setCell ⟨gv, col * 2, none⟩ (.int .i64 1)).setCell ⟨gv, col * 2 + 1, none⟩ (.int .i64 1) := ⟨_, rfl⟩
            rw [← hY] at s1 B4 ⊢
            obtain ⟨bs, hbs⟩ : ∃ b, b = (List.replicate m ((0, 1) : Fr)).set col (1, 1) := ⟨_, rfl⟩
            have HBS := hid hbs
            have hbl : bs.length = m := by rw [hbs, List.length_set]; simp
            have HBL := hid hbl
            rw [← hbs] at s1
            clear hY hbs hbl hb4 HO4 s2 o1 o2 z1 z2 hO hZ hs0 ca2
            go_wp2
            go_loopg [11] nc (fun g3 i wz => ∃ m3 : Nat, m3 + g3 = nc ∧ i = .int .i64 m3 ∧ Hid (wz.ownsRow Sk 37 2 (.slice (some ⟨gv, 0, none⟩) m cv) m (cellsR (setsK R C col m3 bs))) ∧ Hid (Below Sk V wz))
            case atStart => exact ⟨0, by omega, rfl, s1, B4⟩
            case round =>
              clear s1 B4
              obtain ⟨m3, hm3, rfl, hO, hZ⟩ := hrel
              have hgw : gv < wr.heap.size := (hO.out.lt gv rfl).2
              cases gk with
              | zero =>
                obtain rfl : m3 = nc := by omega
                have TZ := hT.out.low HU.out hZ.out
                have hul6 : us'.length ≤ 6 := by rw [hul.out]; have := freeC_len col C; omega
                obtain ⟨ao, co, rfl⟩ := own_shape TZ.outer
                have HTZ := hid TZ
                obtain ⟨nu, hnu⟩ : ∃ n, n = us'.length := ⟨_, rfl⟩
                have HNU := hid hnu
                have hou : Hid (wr.ownsRow w.heap.size 45 1 (.slice ao nu co) nu us') := by show World.ownsRow _ _ _ _ _ _ _; rw [hnu]; exact TZ.outer
                rw [← hnu] at hul6 ⊢
                clear TZ hnu
                go_wp2_with (at_builtin; go_must (refine wpList_append_own_at _ rfl _ _ 44 rfl w.heap.size 45 t0 (.slice none 0 0) 1 24 Try.underlying44 hti htz0 htz1 htz2 rfl (by decide) _ _ _ rfl (World.ownsRow.alloc hou.out _) ⟨wr.heap.size, 0, none⟩ 1 1 [.slice (some ⟨gv, 0, none⟩) m cv] rfl rfl (cell_one_new _ _ _) (by simp [Value.oneCell']) (by unfold maxLen; omega) (by omega) (by simp; omega) ?_); intro v' w5 hown' hgrow _ hbl)
                go_roundg g
                case measure => omega
                case rel =>
                  have hrow : setsK R C col m3 bs = kerRow R C m col := by unfold kerRow; rw [HN.out.1, HBS.out]
                  have T5 := HTZ.out.append (u := .slice (some ⟨gv, 0, none⟩) m cv) (ps := kerRow R C m col) (by rw [kerRow_len, ← hrow]; exact own_le hO.out hwSk) (fun i hi b e h2 => by
                    have h1 := HU.out.2 i hi b e
                    have h3 := (hO.out.lt b h2).1
                    omega) (by rw [← HNU.out]; exact hown') (by rw [← HNU.out]; exact hgrow)
                  have BW : Below w.heap.size w wr := hB.out.trans (hZ.out.mono hwSk)
                  refine ⟨v', us' ++ [Value.slice (some ⟨gv, 0, none⟩) m cv], at', col + 1, by omega, by go_num, rfl, rfl, ?_, ?_, ?_, HNO.out.1, ?_, BW.trans (below_appended hou.out BW.size hgrow)⟩
                  · show _ = _
                    rw [freeC_out HNO.out.2, List.length_append, List.length_append, hul.out]; rfl
                  · rw [freeC_out HNO.out.2, List.map_append]
                    exact T5
                  · intro b hb
                    rcases hbl with h1 | h1
                    · rw [h1] at hb; exact hOB.out b (by rw [← HNU.out]; exact hb)
                    · rw [h1] at hb
                      injection hb with hb
                      right
                      have := hZ.out.size
                      simp at hb
                      omega
                  · refine ⟨by have := hZ.out.size; have := hgrow.size; simp at this; omega, fun k h1 h2 => ?_⟩
                    have e1 := (hM.out.below hZ.out hSk2).2 k h1 h2
                    have hk : k < wr.heap.size := by have := hZ.out.size; omega
                    refine (hgrow.block k (by simp; omega) (fun e => ?_)).trans ((Below.heap_alloc _ _ _ hk).trans e1)
                    rcases hOB.out k (by rw [← HNU.out]; exact e.symm) with h3 | h3 <;> omega
              | succ g3 =>
                have hmc : m3 < nc := by omega
                have MZ := hM.out.below hZ.out hSk2
                obtain ⟨gc2, e, m1, m2, f1, f2⟩ := HCf.out m3 (by have := HN.out.1; omega)
                cases e
                replace f1 := MZ.cell f1 m1 m2
                obtain ⟨gr, dr, q1, q2, q3, q4⟩ := HTf.out m3 (by have := HN.out; omega)
                obtain ⟨q5, q6⟩ := q4 col hcol
                replace q3 := MZ.cell q3 hG1 hG2
                replace q5 := MZ.cell q5 q1 q2
                replace q6 := MZ.cell q6 q1 q2
                obtain ⟨x, hx⟩ : ∃ x, x = nt C m3 := ⟨_, rfl⟩
                obtain ⟨p, hp⟩ : ∃ p, p = fr (rw' R m3) col := ⟨_, rfl⟩
                have HXP : Hid (x = nt C m3 ∧ p = fr (rw' R m3) col) := ⟨hx, hp⟩
                rw [← hx] at f1 f2
                rw [← hp] at q5 q6
                obtain ⟨p1, p2⟩ := p
                have hsl : (setsK R C col m3 bs).length = m := by rw [setsK_len]; exact HBL.out
                have HSL := hid hsl
                have hmN : m3 < N := by omega
                obtain ⟨o1, o2⟩ := own_R hO.out hsl x f2
                have z1 := hO.out.frozenAt (x * 2)
                have z2 := hO.out.frozenAt (x * 2 + 1)
                generalize ((setsK R C col m3 bs)[x]?.getD (0, 0)).1 = y1 at o1
                generalize ((setsK R C col m3 bs)[x]?.getD (0, 0)).2 = y2 at o2
                clear hx hp hsl MZ q4
                go_wp2
                go_region_with (go_at_call 56; refine (mirS_any p1 p2 _).mono ?_; rintro e w4 ⟨rfl, hb4⟩; have O4 := own_below (by first | exact hO.out | exact own_below hO.out ((Below.refl _ _).drew)) hb4; have z3 := O4.frozenAt (x * 2); have z4 := O4.frozenAt (x * 2 + 1); have c1 := cell_keep hb4 (by first | exact o1 | exact cell_dr o1); have c2 := cell_keep hb4 (by first | exact o2 | exact cell_dr o2); have c3 := cell_keep hb4 (by first | exact f1 | exact cell_dr f1); have B4 : Below Sk V w4 := Below.trans (by first | exact hZ.out | exact hZ.out.drew) (hb4.mono (by simp; omega)); have HO4 := hid O4; clear O4)
                all_goals go_wp2
                all_goals
                  go_roundg g3
                  case measure => omega
                  case rel =>
                    obtain ⟨s1, s2⟩ := row_set HO4.out HSL.out x f2 (wrap64 (-p1)) p2
                    refine ⟨m3 + 1, by omega, by go_num, ?_, (B4.setCell (p := ⟨gv, x * 2, none⟩) hgv _).setCell (p := ⟨gv, x * 2 + 1, none⟩) hgv _⟩
                    show World.ownsRow _ _ _ _ _ _ _
                    have e1 : setsK R C col (m3 + 1) bs = (setsK R C col m3 bs).set x (wrap64 (-p1), p2) := by
                      simp only [setsK]
                      rw [← HXP.out.1, ← HXP.out.2]
                      rfl
                    rw [e1]
                    exact s1
          | succ g2 =>
            have hmL : m < L := by omega
            obtain ⟨av, cv, rfl⟩ := own_shape hO.out
            go_wp2_with (first | (go_at_call 54; refine (zero_any _).mono ?_; rintro e w4 ⟨rfl, hb4⟩; have O4 := hid (own_below hO.out hb4); have hs4 : Sk ≤ w4.heap.size := Nat.le_trans hs0 hb4.size) | (at_builtin; refine wpList_append_own _ rfl _ _ 45 rfl Sk 37 i0 (.agg #[.int .i64 0, .int .i64 0]) 2 16 Try.underlying45 hi hz0 hz1 hz2 rfl (by decide) _ _ _ rfl (own_below O4.out (b0 _ _)) ⟨w4.heap.size, 0, none⟩ 1 1 [.int .i64 0, .int .i64 1] rfl rfl (cell_twoF _ _ _ _) (by intro u hu; simp at hu; rcases hu with rfl | rfl <;> rfl) (by unfold maxLen; omega) (by omega) (by simp; omega) ?_; intro v' w5 hown' hgrow _))
            go_roundg g2
            case measure => omega
            case rel =>
              refine ⟨v', m + 1, by omega, by go_num, rfl, ?_, hZ.out.trans ((hb4.mono hs0).trans (below_appended O4.out hs4 hgrow)), by have := hgrow.size; simp at this; omega⟩
              show World.ownsRow _ _ _ _ _ _ _
              rw [rep_succ, cellsR_append]
              exact hown'
end Go.Proofs.Ytbbkejfcheobaak

/- The walk of the model's Groups. -/
namespace Go.Proofs.Ytbbkejfcheobaak
open Go.RowKit Go.Proofs.Ytbbkejfcheobaak.RM

theorem hidM {p : Prop} (h : p) : Hid p := h
/-- the first j numbers of row i of the table of dimensions -/
def dimP (L : List (List Int)) (i j : Nat) : List Fr := (List.range j).map fun c => (fi (ri L c) i, 1)
theorem dimP_len (L : List (List Int)) (i j : Nat) : (dimP L i j).length = j := by simp [dimP]
theorem dimP_more (L : List (List Int)) (i j : Nat) : dimP L i (j + 1) = dimP L i j ++ [(fi (ri L j) i, 1)] := by simp [dimP, List.range_succ]
def nmJ (ps : List Fr) (j : Nat) : List Int := (List.range j).map (nmF ps)
theorem nmJ_len (ps : List Fr) (j : Nat) : (nmJ ps j).length = j := by simp [nmJ]
theorem nmJ_more (ps : List Fr) (j : Nat) : cI (nmJ ps (j + 1)) = cI (nmJ ps j) ++ [.int .i64 (nmF ps j)] := by simp [nmJ, List.range_succ]
theorem nmJ_all (ps : List Fr) : nmJ ps ps.length = lwK ps 0 := by simp [nmJ, lwK]
theorem dimT_take (L : List (List Int)) (k : Nat) (h : k < 5) : (dimT L).take (k + 1) = (dimT L).take k ++ [dimP L k L.length] := by
  have hl : k < (dimT L).length := by rw [(dimT_shape L).1]; exact h
  rw [List.take_succ_eq_append_getElem hl]
  congr 1
  simp [dimT, dimK, dimR, dimP]

set_option maxRecDepth 100000 in
set_option maxHeartbeats 8000000 in
theorem sGroups_any (v : Value) (us : List Value) (L : List (List Int)) (base : Nat) (w : World) (h : TabI w base v us L) :
    Calls Try.prog 8 #[v] w fun e w' => ∃ u vs, e = .returned (.tuple #[u, .bool (grO L)]) ∧ TabI w' w.heap.size u vs (grA L) ∧ Below w.heap.size w w' := by
  have b0 : ∀ (u : World) (o : Obj), Below u.heap.size u (u.alloc o) := fun u o => (Below.refl _ _).alloc (Nat.le_refl _) o
  obtain ⟨i0, hi, hz0, hz1, hz2⟩ := info_parts infoU
  obtain ⟨i1, ji, jz0, jz1, jz2⟩ := info_parts infoF
  obtain ⟨i2, ki, kz0, kz1, kz2⟩ := info_parts infoT
  obtain ⟨i3, li, lz0, lz1, lz2⟩ := info_parts infoI
  have HT := hidM h
  obtain ⟨q, hq⟩ : ∃ q, q = dimsB L := ⟨_, rfl⟩
  have HQ := hidM hq
  have HDo : Hid (∀ W : World, Below w.heap.size w W → Calls Try.prog 27 #[v] W fun e w' => e = .returned (.bool q) ∧ Below W.heap.size W w') := by
    intro W hW; rw [hq]; exact sDims_any v us L base W (HT.out.below hW)
  clear h hq
  obtain ⟨S0, hS0⟩ : ∃ S, S = w.heap.size := ⟨_, rfl⟩
  obtain ⟨X0, hX0⟩ : ∃ X, X = w.alloc (.cells #[] 29) := ⟨_, rfl⟩
  have O0 : Hid (TabI X0 S0 (.slice (some ⟨S0, 0, none⟩) 0 0) [] []) := by show TabI _ _ _ _ _; rw [hX0, hS0]; exact TabI.lit (Nat.le_refl _)
  have BW : Hid (Below w.heap.size w X0) := by show Below _ _ _; rw [hX0]; exact b0 _ _
  have hS0w : w.heap.size ≤ S0 := by omega
  have hS0x : S0 < X0.heap.size := by rw [hX0, hS0]; simp
  cases q
  · have hno : grO L = false := by unfold grO; rw [← HQ.out]; rfl
    rw [grA_no hno, hno]
    clear hno
    go_enter Try.func8, Try.ntmps8
    go_upto_region 2 with fail
    rw [← hX0, ← hS0]
    clear hX0 hS0
    go_wp2_with fail
    refine (HDo.out _ BW.out).mono ?_
    rintro e w1 ⟨rfl, hb⟩
    have B1 := hidM hb
    clear hb
    go_wp2
    go_ret2
    exact ⟨_, [], rfl, (O0.out.below B1.out).le hS0w, BW.out.trans (B1.out.mono BW.out.size)⟩
  · obtain ⟨hd1, hd2⟩ := dimsB_out HQ.out.symm
    obtain ⟨n, hn⟩ : ∃ n, n = L.length := ⟨_, rfl⟩
    have HN := hidM hn
    have HIN : Hid (∀ k, k < n → ∃ g c, vl us k = .slice (some ⟨g, 0, none⟩) 5 c ∧ ∀ j, j < 5 → w.cell? ⟨g, j, none⟩ = some (.int .i64 (fi (ri L k) j))) := by
      intro k hk
      have hin := HT.out.inner k (by have := HT.out.len; omega)
      have h5 := (dim_at (hd2 k (by omega))).1
      rw [h5] at hin
      obtain ⟨g, c, e⟩ := own_some hin (by omega)
      rw [e] at hin ⊢
      exact ⟨g, c, rfl, fun j hj => own_int hin h5 j hj⟩
    obtain ⟨a, c, rfl, hv⟩ := HT.out.vals
    rw [← hn] at hv HDo ⊢
    have hn6 : n ≤ 6 := by omega
    have hn1 : 1 ≤ n := by omega
    have H5 := hidM hv
    obtain ⟨M, hM⟩ : ∃ M, M = dimT L := ⟨_, rfl⟩
    have HM := hidM hM
    obtain ⟨p, hp⟩ : ∃ p, p = echO M := ⟨_, rfl⟩
    have HPq := hidM hp
    have hgr : grO L = p := by unfold grO; rw [← HQ.out, ← hM, ← hp]; rfl
    have HGR := hidM hgr
    clear hd1 hd2 hM hp hgr hn hv HT
    rw [HGR.out]
    go_enter Try.func8, Try.ntmps8
    go_upto_region 2 with fail
    rw [← hX0, ← hS0]
    clear hX0 hS0
    go_wp2_with fail
    refine (HDo.out _ BW.out).mono ?_
    rintro e w1 ⟨rfl, hb⟩
    have HX := hidM hb
    have hSX : X0.heap.size ≤ w1.heap.size := hb.size
    clear hb HDo
    go_upto_region 5 with fail
    obtain ⟨S1, hS1⟩ : ∃ S, S = w1.heap.size := ⟨_, rfl⟩
    obtain ⟨X1, hX1⟩ : ∃ X, X = w1.alloc (.cells #[] 45) := ⟨_, rfl⟩
    have T0 : Hid (Tab X1 S1 (.slice (some ⟨S1, 0, none⟩) 0 0) [] []) := by show Tab _ _ _ _ _; rw [hX1, hS1]; exact Tab.lit (Nat.le_refl _)
    replace HX : Hid (Below X0.heap.size X0 X1) := by show Below _ _ _; rw [hX1]; exact HX.out.alloc HX.out.size _
    have hS1x : S1 ≤ X1.heap.size := by rw [hX1, hS1]; simp
    rw [← hS1] at hSX
    rw [← hX1, ← hS1]
    clear hX1 hS1
    have hML : M.length = 5 := by rw [HM.out]; exact (dimT_shape L).1
    have HML := hidM hML
    clear hML
    go_wp2
    go_loopw [5, 6] (fun g i wr => ∃ (o : Value) (k : Nat) (ws : List Value), o = g ∧ k ≤ 5 ∧ i = .int .i64 k ∧ Hid (ws.length = k) ∧ Hid (Tab wr S1 o ws (M.take k)) ∧ Hid (Below X0.heap.size X0 wr) ∧ Hid (S1 ≤ wr.heap.size)) (fun _ i _ => 5 - (intOf i).toNat)
    case atStart => exact ⟨_, 0, [], rfl, by omega, rfl, rfl, T0.out, HX.out, hS1x⟩
    case round =>
      clear T0 HX hS1x
      obtain ⟨o, k, ws, rfl, hk, rfl, hws, hT, hX, hS1x⟩ := hrel
      by_cases hlt : k < 5
      · obtain ⟨Wr, hVV⟩ : ∃ V, V = wr := ⟨_, rfl⟩
        subst hVV
        obtain ⟨Sr, hSr⟩ : ∃ S, S = Wr.heap.size := ⟨_, rfl⟩
        have HSR := hidM hSr
        obtain ⟨V, hV⟩ : ∃ V, V = Wr.alloc (.cells #[] 37) := ⟨_, rfl⟩
        have r0 : Hid (V.ownsRow Sr 37 2 (.slice (some ⟨Sr, 0, none⟩) 0 0) 0 (cellsR (dimP L k 0))) := by
          show World.ownsRow _ _ _ _ _ _ _
          rw [hV, hSr]; exact World.ownsRow_lit Wr (base := Wr.heap.size) (e := 37) (size := 2) #[] 0 (Nat.le_refl _) (Nat.zero_le _) rfl
        have BV : Hid (Below Sr Wr V) := by show Below _ _ _; rw [hV, hSr]; exact b0 _ _
        have hSV : Sr ≤ V.heap.size := by rw [hV, hSr]; simp
        have hwX : w.heap.size ≤ Sr := by have := BW.out.size; have := hX.out.size; omega
        have hk5 : decide ((k : Int) < 5) = true := by simp; omega
        go_upto_region 9 with fail
        rw [← hV, ← hSr]
        clear hV hSr
        go_wp2
        go_loopw [7, 8] (fun g i wz => ∃ (r : Value) (j : Nat), r = g ∧ j ≤ n ∧ i = .int .i64 j ∧ Hid (wz.ownsRow Sr 37 2 r j (cellsR (dimP L k j))) ∧ Hid (Below Sr Wr wz) ∧ Hid (Sr ≤ wz.heap.size)) (fun _ i _ => n - (intOf i).toNat)
        case atStart => exact ⟨_, 0, rfl, Nat.zero_le _, rfl, r0.out, BV.out, hSV⟩
        case round =>
          clear r0 BV hSV
          obtain ⟨r, j, rfl, hj, rfl, hO, hZ, hsz⟩ := hrel
          have hsz := hsz.out
          have BWZ : Hid (Below w.heap.size w Wr) := BW.out.trans (hX.out.mono BW.out.size)
          have BZ : Hid (Below w.heap.size w wr) := BWZ.out.trans (hZ.out.mono hwX)
          by_cases hjn : j < n
          · obtain ⟨g, cg, ed, hd⟩ := HIN.out j hjn
            obtain ⟨g1, e1, c1⟩ := H5.out j hjn
            subst e1
            rw [ed] at c1
            have d1 := cell_keep BZ.out (hd k hlt)
            replace c1 := cell_keep BZ.out c1
            obtain ⟨p, hp⟩ : ∃ p, p = fi (ri L j) k := ⟨_, rfl⟩
            have HP := hidM hp
            rw [← hp] at d1
            obtain ⟨ra, rc, rfl⟩ := own_shape hO.out
            clear hd ed hp
            have hj7 : j + 1 ≤ maxLen := by unfold maxLen; omega
            go_wp2_with (at_builtin; refine wpList_append_own _ rfl _ _ 45 rfl Sr 37 i1 (.agg #[.int .i64 0, .int .i64 0]) 2 16 Try.underlying45 ji jz0 jz1 jz2 rfl (by decide) _ _ _ rfl (World.ownsRow.alloc hO.out _) ⟨wr.heap.size, 0, none⟩ 1 1 [.int .i64 p, .int .i64 1] rfl rfl (cell_twoF _ _ _ _) (by intro u hu; simp at hu; rcases hu with rfl | rfl <;> rfl) hj7 (by omega) (by simp; omega) ?_; intro v' w5 hown' hgrow _)
            go_roundw
            case rel =>
              refine ⟨v', j + 1, rfl, by omega, by go_num, ?_, hZ.out.trans (below_appended hO.out hsz hgrow), ?_⟩
              · show World.ownsRow _ _ _ _ _ _ _
                rw [dimP_more, cellsR_append, ← HP.out]
                exact hown'
              · show _ ≤ _
                have := hgrow.size; simp at this; omega
            case measure => simp [intOf]; omega
          · obtain rfl : j = n := by omega
            obtain ⟨ra, rc, rfl⟩ := own_shape hO.out
            have T2 : Hid (Tab wr S1 o ws (M.take k)) := Tab.below hT.out (by rw [← HSR.out]; exact hZ.out)
            obtain ⟨oa, oc, rfl⟩ := own_shape T2.out.outer
            have hwl0 : ws.length + 1 ≤ 6 := by rw [hws.out]; omega
            have hwl : ws.length + 1 ≤ maxLen := by unfold maxLen; omega
            go_wp2_with (at_builtin; refine wpList_append_own _ rfl _ _ 44 rfl S1 45 i2 (.slice none 0 0) 1 24 Try.underlying44 ki kz0 kz1 kz2 rfl (by decide) _ _ _ rfl (World.ownsRow.alloc T2.out.outer _) ⟨wr.heap.size, 0, none⟩ 1 1 [.slice ra j rc] rfl rfl (cell_one_new _ _ _) (by simp [Value.oneCell']) hwl (by omega) (by have := hS1x.out; have := HSR.out; simp; omega) ?_; intro v' w5 hown' hgrow _)
            go_roundw
            case rel =>
              have hS1r : S1 ≤ Sr := by have := hS1x.out; have := HSR.out; omega
              have T5 := T2.out.append (ps := dimP L k j) (u := .slice ra j rc) (by rw [dimP_len]; exact own_le hO.out hS1r) (fun i hi b e h2 => by
                have h1 := hT.out.lt i hi b e
                have h3 := (hO.out.lt b h2).1
                have := HSR.out
                omega) hown' hgrow
              have et : M.take (k + 1) = M.take k ++ [dimP L k j] := by rw [HM.out, HN.out]; exact dimT_take L k hlt
              have BA := below_appended T2.out.outer (by omega) hgrow
              refine ⟨_, k + 1, ws ++ [.slice ra j rc], rfl, by omega, by go_num, ?_, ?_, ?_, ?_⟩
              · show _ = _
                rw [List.length_append, hws.out]; rfl
              · show Tab _ _ _ _ _
                rw [et]; exact T5
              · show Below _ _ _
                exact (hX.out.trans (hZ.out.mono (by have := hX.out.size; have := HSR.out; omega))).trans (BA.mono hSX)
              · show _ ≤ _
                have := BA.size; omega
            case measure => simp [intOf]; omega
      · obtain rfl : k = 5 := by omega
        have hT5 : Tab wr S1 o ws M := by have := hT.out; rw [← HML.out, List.take_length] at this; exact this
        have T5 := hidM hT5
        have HRD := hidM (Tab.read hT5)
        have HRK := hidM (sRank_any o M wr HRD.out)
        have BW1 : Hid (Below w.heap.size w wr) := BW.out.trans (hX.out.mono BW.out.size)
        have hsz := hS1x.out
        clear hT hT5 hlt hk
        cases p
        · have hrk : rkI M = -1 := by unfold rkI; rw [← HPq.out]; rfl
          rw [hrk] at HRK
          clear hrk
          go_wp2_with (go_at_call 28; refine HRK.out.mono ?_; rintro e w6 ⟨rfl, hb6⟩)
          go_ret2
          refine ⟨_, [], rfl, ?_, BW1.out.trans (hb6.mono BW1.out.size)⟩
          rw [grA_no HGR.out]
          exact ((O0.out.below hX.out).below hb6).le hS0w
        · have hrk : 0 ≤ rkI M := by unfold rkI; rw [← HPq.out]; exact Int.natCast_nonneg _
          obtain ⟨rk, hrk2⟩ : ∃ r, r = rkI M := ⟨_, rfl⟩
          rw [← hrk2] at HRK hrk
          have hrk3 : ¬ rk < 0 := by omega
          have hGA := grA_yes HGR.out
          rw [← HM.out] at hGA
          obtain ⟨K, hK⟩ : ∃ K, K = kerA M := ⟨_, rfl⟩
          have HGA : Hid (grA L = K.map lwF) := by show _ = _; rw [hGA, hK]
          have HKN : Hid (∀ W : World, Below wr.heap.size wr W → Calls Try.prog 29 #[o] W fun e w' => ∃ vm us, e = .returned vm ∧ Tab w' W.heap.size vm us K ∧ Below W.heap.size W w') := by
            intro W hW; rw [hK]; exact sKernel_any o M W (HRD.out.below hW)
          have HSM : Hid (∀ i, i < K.length → Small (rw' K i) ∧ (rw' K i).length = n) := by
            intro i hi
            have h1 : echO (dimT L) = true := by rw [← HM.out]; exact HPq.out.symm
            have h2 := ker_small HQ.out.symm h1 i (by rw [← HM.out, ← hK]; exact hi)
            rw [← HM.out, ← hK] at h2
            rw [HN.out]; exact h2
          have hKl : K.length ≤ 1048576 := by rw [hK]; exact (kerA_small M).1
          obtain ⟨kn, hkn⟩ : ∃ n, n = K.length := ⟨_, rfl⟩
          have HKL := hidM hkn
          rw [← hkn] at hKl
          clear hrk hrk2 hGA hK hkn
          go_wp2_with (first | (go_at_call 28; refine HRK.out.mono ?_; rintro e w6 ⟨rfl, hb6⟩) | (go_at_call 29; refine (HKN.out _ hb6).mono ?_; rintro e w7 ⟨vm, us4, rfl, tk, hb7⟩))
          have TI0 : Hid (TabI w7 S0 (.slice (some ⟨S0, 0, none⟩) 0 0) [] []) := ((O0.out.below hX.out).below hb6).below hb7
          have B7 : Hid (Below w.heap.size w w7) := (BW1.out.trans (hb6.mono BW1.out.size)).trans (hb7.mono (by have := BW1.out.size; have := hb6.size; omega))
          have hS7 : Hid (S0 ≤ w7.heap.size) := by show _ ≤ _; have := hX.out.size; have := hb6.size; have := hb7.size; omega
          obtain ⟨B, hB5⟩ : ∃ B, B = w6.heap.size := ⟨_, rfl⟩
          rw [← hB5] at tk
          have TK := hidM tk
          have hku : us4.length = kn := by rw [tk.len, HKL.out]
          obtain ⟨ak, ck, rfl⟩ := own_shape tk.outer
          rw [hku] at TK ⊢
          have HKU := hidM hku
          clear tk hku hB5 hb7 hb6 hX hS1x T5 HRD HRK HKN BW1 hsz O0 BW HPq hS0x hSX H5 HIN
          go_wp2
          go_loopw [4, 10] (fun g i wr => ∃ (o : Value) (k : Nat) (ws : List Value), o = g ∧ k ≤ kn ∧ i = .int .i64 k ∧ Hid (ws.length = k) ∧ Hid (TabI wr S0 o ws ((K.take k).map lwF)) ∧ Hid (Tab wr B (.slice ak kn ck) us4 K) ∧ Hid (Below w.heap.size w wr) ∧ Hid (S0 ≤ wr.heap.size)) (fun _ i _ => kn - (intOf i).toNat)
          case atStart => exact ⟨_, 0, [], rfl, Nat.zero_le _, rfl, rfl, TI0.out, TK.out, B7.out, hS7.out⟩
          case round =>
            clear TI0 TK B7 hS7
            obtain ⟨o3, k, ws3, rfl, hk, rfl, hws3, hO, hT, hB, hS⟩ := hrel
            by_cases hlt : k < kn
            · obtain ⟨Wr, hVV⟩ : ∃ V, V = wr := ⟨_, rfl⟩
              subst hVV
              have hku := HKU.out
              obtain ⟨g, cg, eg⟩ := own_some hT.out.outer (by omega)
              injection eg with e1 e2 e3
              subst e1
              clear e2 e3
              have ho := hT.out.outer
              rw [hku] at ho
              have d1 := ho.cellAt k (by omega)
              rw [List.getElem?_eq_getElem (by omega), show us4[k] = vl us4 k by simp [vl, List.getElem?_eq_getElem (show k < us4.length by omega)]] at d1
              have hin := hT.out.inner k (by omega)
              obtain ⟨sm1, sm2⟩ := HSM.out k (by have := HKL.out; omega)
              obtain ⟨ps, hps⟩ : ∃ ps, ps = rw' K k := ⟨_, rfl⟩
              have HPS := hidM hps
              rw [← hps] at hin sm1 sm2
              rw [sm2] at hin
              obtain ⟨y, cy, ey⟩ := own_some hin (by omega)
              rw [ey] at d1 hin
              have HS := hidM sm1
              have HPN := hidM sm2
              have HRow : Hid (∀ j, j < n → Wr.cell? ⟨y, j * 2, none⟩ = some (.int .i64 (fr ps j).1) ∧ Wr.cell? ⟨y, j * 2 + 1, none⟩ = some (.int .i64 (fr ps j).2)) := fun j hj => own_R hin sm2 j hj
              have HC1 := hidM d1
              have hkn : decide ((k : Int) < kn) = true := by simp; omega
              have B0 : Hid (Below Wr.heap.size Wr Wr) := Below.refl _ _
              clear ho hin ey hps sm1 sm2 hku d1
              go_wp2
              go_loopw [11, 12] (fun m i wz => ∃ j : Nat, j ≤ n ∧ i = .int .i64 j ∧ m = .int .i64 (lcF ps j) ∧ Hid (Below Wr.heap.size Wr wz)) (fun _ i _ => n - (intOf i).toNat)
              case atStart => exact ⟨0, Nat.zero_le _, rfl, rfl, B0.out⟩
              case round =>
                clear B0
                obtain ⟨j, hj, rfl, rfl, hZ⟩ := hrel
                have d1 := cell_keep hZ.out HC1.out
                by_cases hjn : j < n
                · have d2 := cell_keep hZ.out (HRow.out j hjn).2
                  obtain ⟨l1, l2⟩ := lcF_small HS.out (k := j) (by have := HPN.out; omega)
                  obtain ⟨m1, m2⟩ := lcF_small HS.out (k := j + 1) (by have := HPN.out; omega)
                  have hd1 := HS.out.den j (by have := HPN.out; omega)
                  have hd2 : (fr ps j).2 ≤ 7085880 := by
                    obtain ⟨D, d1, d2, d3⟩ := HS.out.dvd
                    have := Int.le_of_dvd (by omega) (d3 j (by have := HPN.out; omega))
                    omega
                  have hm := lcF_model HS.out (k := j) (by have := HPN.out; omega)
                  have hg0 : 0 < gcdi (lcF ps j) (fr ps j).2 := gcdi_pos_r _ _ (by omega)
                  obtain ⟨l, hll⟩ : ∃ l, l = lcF ps j := ⟨_, rfl⟩
                  obtain ⟨l', hll'⟩ : ∃ l, l = lcF ps (j + 1) := ⟨_, rfl⟩
                  obtain ⟨G, hG⟩ : ∃ G, G = gcdi (lcF ps j) (fr ps j).2 := ⟨_, rfl⟩
                  obtain ⟨p2, hp2⟩ : ∃ p, p = (fr ps j).2 := ⟨_, rfl⟩
                  have HC : Hid (∀ u : World, Calls Try.prog 30 #[.int .i64 l, .int .i64 p2] u fun e w' => e = .returned (.int .i64 G) ∧ w' = u) := by
                    intro u
                    rw [hG, hll, hp2]
                    exact shared_any _ _ u (by omega) (by omega) (by omega) (by omega)
                  rw [← hll] at l1 l2 ⊢
                  rw [← hll'] at m1 m2
                  rw [← hG] at hg0
                  rw [← hp2] at d2 hd1 hd2
                  have hq : l / G * p2 = l' := by rw [← Int.tdiv_eq_ediv_of_nonneg (by omega), hG, hll, hp2, hll']; exact hm
                  have HLL := hidM hll'
                  have hGn : ¬ G = 0 := by omega
                  have hval : wrap64 (l / G * p2) = l' := by rw [hq]; unfold wrap64; omega
                  have hval2 : wrap64 (l.tdiv G * p2) = l' := by rw [Int.tdiv_eq_ediv_of_nonneg (by omega)]; exact hval
                  have hbig : ¬ l' > 1000000000 := by omega
                  clear hll hll' hG hp2 hm hq
                  go_upto_region 26 with (go_at_call 30; refine (HC.out _).mono ?_; rintro e w4 ⟨rfl, hw4⟩; subst hw4)
                  first | rw [hval] | rw [hval2]
                  clear hval hval2
                  go_wp2
                  go_roundw
                  case rel => exact ⟨j + 1, by omega, by go_num, by rw [HLL.out], hZ.out⟩
                  case measure => simp [intOf]; omega
                · obtain rfl : j = n := by omega
                  obtain ⟨l1, l2⟩ := lcF_small HS.out (k := j) (by have := HPN.out; omega)
                  have hq0 : ∀ x, x < j → lcF ps j / (fr ps x).2 * 1 = lcF ps j / (fr ps x).2 ∧ (fr ps x).1 * (lcF ps j / (fr ps x).2) = nmF ps x ∧ 1 ≤ (fr ps x).2 := by
                    intro x hx
                    have hd1 := HS.out.den x (by have := HPN.out; omega)
                    refine ⟨Int.mul_one _, ?_, hd1⟩
                    have := nmF_model ps x
                    rw [HPN.out, Int.tdiv_eq_ediv_of_nonneg (by omega)] at this
                    exact this
                  obtain ⟨l, hll⟩ : ∃ l, l = lcF ps j := ⟨_, rfl⟩
                  rw [← hll] at l1 l2 hq0 ⊢
                  have HQ0 := hidM hq0
                  obtain ⟨Sr, hSr⟩ : ∃ S, S = wr.heap.size := ⟨_, rfl⟩
                  have HSR := hidM hSr
                  obtain ⟨V, hV⟩ : ∃ V, V = wr.alloc (.cells #[] 2) := ⟨_, rfl⟩
                  have R0 : Hid (V.ownsRow Sr 2 1 (.slice (some ⟨Sr, 0, none⟩) 0 0) 0 (cI (nmJ ps 0))) := by
                    show World.ownsRow _ _ _ _ _ _ _
                    rw [hV, hSr]; exact World.ownsRow_lit wr (base := wr.heap.size) (e := 2) (size := 1) #[] 0 (Nat.le_refl _) (Nat.zero_le _) rfl
                  have hWS : Wr.heap.size ≤ Sr := by rw [hSr]; exact hZ.out.size
                  have BV : Hid (Below Wr.heap.size Wr V) := by show Below _ _ _; rw [hV]; exact hZ.out.alloc hZ.out.size _
                  have hSV : Hid (Sr ≤ V.heap.size) := by show _ ≤ _; rw [hV, hSr]; simp
                  clear hq0 hll
                  go_upto_region 30 with fail
                  rw [← hV, ← hSr]
                  clear hV hSr hZ hjn d1
                  go_wp2
                  go_loopw [14, 15, 16] (fun d g i wz => ∃ (r : Value) (x : Nat), r = g ∧ x ≤ j ∧ i = .int .i64 x ∧ d = .int .i64 (gdF ps x) ∧ Hid (wz.ownsRow Sr 2 1 r x (cI (nmJ ps x))) ∧ Hid (Below Wr.heap.size Wr wz) ∧ Hid (Sr ≤ wz.heap.size)) (fun _ _ i _ => j - (intOf i).toNat)
                  case atStart => exact ⟨_, 0, rfl, Nat.zero_le _, rfl, rfl, R0.out, BV.out, hSV.out⟩
                  case round =>
                    clear R0 BV hSV
                    obtain ⟨r, x, rfl, hx, rfl, rfl, hR, hZ, hSV⟩ := hrel
                    have d1 := cell_keep hZ.out HC1.out
                    obtain ⟨g1, g2, -⟩ := gdF_small HS.out x (by have := HPN.out; omega)
                    by_cases hxj : x < j
                    · have d2 := cell_keep hZ.out (HRow.out x hxj).1
                      have d3 := cell_keep hZ.out (HRow.out x hxj).2
                      obtain ⟨-, hq1, hd1⟩ := HQ0.out x hxj
                      obtain ⟨n1, n2⟩ := nmF_small HS.out (k := x) (by have := HPN.out; omega)
                      have hgn : gdF ps (x + 1) = gcdi (gdF ps x) (nmF ps x) := rfl
                      obtain ⟨z, hz⟩ : ∃ y, y = nmF ps x := ⟨_, rfl⟩
                      obtain ⟨d, hdd⟩ : ∃ y, y = gdF ps x := ⟨_, rfl⟩
                      obtain ⟨d', hdd'⟩ : ∃ y, y = gdF ps (x + 1) := ⟨_, rfl⟩
                      obtain ⟨p1, hp1⟩ : ∃ p, p = (fr ps x).1 := ⟨_, rfl⟩
                      obtain ⟨p2, hp2⟩ : ∃ p, p = (fr ps x).2 := ⟨_, rfl⟩
                      rw [← hp1] at d2 hq1
                      rw [← hp2] at d3 hq1 hd1
                      rw [← hz] at n1 n2 hq1 hgn
                      rw [← hdd] at g1 g2 hgn ⊢
                      rw [← hdd'] at hgn
                      have hval : wrap64 (p1 * (l / p2)) = z := by rw [hq1]; unfold wrap64; omega
                      have hval2 : wrap64 (p1 * (l.tdiv p2)) = z := by rw [Int.tdiv_eq_ediv_of_nonneg (by omega)]; exact hval
                      have HC : Hid (∀ u : World, Calls Try.prog 30 #[.int .i64 d, .int .i64 z] u fun e w' => e = .returned (.int .i64 d') ∧ w' = u) := by
                        intro u
                        rw [hgn]
                        exact shared_any _ _ u (by omega) (by omega) (by omega) (by omega)
                      have HZD := hidM (And.intro hz hdd')
                      have hp2n : ¬ p2 = 0 := by omega
                      clear hz hdd hdd' hp1 hp2 hq1 hgn
                      go_upto_region 33 with fail
                      go_region
                      all_goals first | rw [hval] | rw [hval2]
                      have B5 : Below wr.heap.size wr wr.drew := (Below.refl _ _).drew
                      have R5 : Hid (wr.drew.ownsRow Sr 2 1 r x (cI (nmJ ps x))) := own_below hR.out B5
                      have Z5 : Hid (Below Wr.heap.size Wr wr.drew) := hZ.out.trans (B5.mono hZ.out.size)
                      have hs5 : Sr ≤ wr.drew.heap.size := by have := hSV.out; have := B5.size; omega
                      clear B5 hR hZ hSV d1 d2 d3 hval hval2
                      generalize wr.drew = X5 at R5 Z5 hs5 ⊢
                      obtain ⟨ra, rc, rfl⟩ := own_shape R5.out
                      have hx7 : x + 1 ≤ maxLen := by unfold maxLen; omega
                      go_wp2_with (first | (go_at_call 30; refine (HC.out _).mono ?_; rintro e w4 ⟨rfl, hw4⟩; subst hw4) | (at_builtin; refine wpList_append_own _ rfl _ _ 29 rfl Sr 2 i3 (.int .i64 0) 1 8 Try.underlying29 li lz0 lz1 lz2 rfl (by decide) _ _ _ rfl (World.ownsRow.alloc R5.out _) ⟨_, 0, none⟩ 1 1 [.int .i64 z] rfl rfl (cell_one_new _ _ _) (by simp [Value.oneCell']) hx7 (by omega) (by simp; omega) ?_; intro v' w5 hown' hgrow _))
                      go_roundw
                      case rel =>
                        have BA := below_appended R5.out hs5 hgrow
                        refine ⟨v', x + 1, rfl, by omega, by go_num, by rw [HZD.out.2], ?_, Z5.out.trans (BA.mono hWS), ?_⟩
                        · show World.ownsRow _ _ _ _ _ _ _
                          rw [nmJ_more, ← HZD.out.1]
                          exact hown'
                        · show _ ≤ _
                          have := BA.size; omega
                      case measure => simp [intOf]; omega
                    · obtain rfl : x = j := by omega
                      obtain ⟨gv, cv, rfl⟩ := own_some hR.out (by omega)
                      have hgv := (hR.out.lt gv rfl).1
                      have OL : Hid (wr.ownsRow Sr 2 1 (.slice (some ⟨gv, 0, none⟩) x cv) x (cI (lwK ps 0))) := by
                        show World.ownsRow _ _ _ _ _ _ _
                        rw [← nmJ_all, HPN.out]; exact hR.out
                      have hgd := gdF_pos HS.out
                      rw [HPN.out] at hgd
                      obtain ⟨d, hdd⟩ : ∃ y, y = gdF ps x := ⟨_, rfl⟩
                      have HDD : Hid (d = gdF ps ps.length) := by show _ = _; rw [HPN.out]; exact hdd
                      rw [← hdd] at hgd g1 g2 ⊢
                      clear hR hdd HQ0 HRow HC1
                      go_wp2
                      go_loopw [18] (fun i wz => ∃ z : Nat, z ≤ x ∧ i = .int .i64 z ∧ Hid (wz.ownsRow Sr 2 1 (.slice (some ⟨gv, 0, none⟩) x cv) x (cI (lwK ps z))) ∧ Hid (Below Wr.heap.size Wr wz) ∧ Hid (Sr ≤ wz.heap.size)) (fun i _ => x - (intOf i).toNat)
                      case atStart => exact ⟨0, Nat.zero_le _, rfl, OL.out, hZ.out, hSV.out⟩
                      case round =>
                        clear OL hZ hSV d1
                        obtain ⟨z, hz, rfl, hR, hZ, hSV⟩ := hrel
                        by_cases hlz : z < x
                        · obtain ⟨n1, n2⟩ := nmF_small HS.out (k := z) (by have := HPN.out; omega)
                          have d1 := hR.out.cellAt z (by omega)
                          rw [List.getElem?_map, List.getElem?_eq_getElem (by rw [lwK_len, HPN.out]; exact hlz)] at d1
                          have ev : (lwK ps z)[z]'(by rw [lwK_len, HPN.out]; exact hlz) = nmF ps z := by
                            have := lwK_at ps z (by have := HPN.out; omega)
                            rw [List.getElem?_eq_getElem (by rw [lwK_len, HPN.out]; exact hlz)] at this
                            exact this
                          rw [ev] at d1
                          have f1 := hR.out.frozenAt z
                          obtain ⟨q, hq⟩ : ∃ y, y = nmF ps z := ⟨_, rfl⟩
                          have HYY := hidM hq
                          rw [← hq] at n1 n2 d1
                          simp only [Option.map_some] at d1
                          have hdn : ¬ d = 0 := by omega
                          have hq0 : -7085880000000000 ≤ q.tdiv d ∧ q.tdiv d ≤ 7085880000000000 := by
                            have h1 := Int.natAbs_tdiv_le_natAbs q d
                            omega
                          obtain ⟨hq1, hq2⟩ := hq0
                          clear ev hq
                          have O4 : Hid ((wr.setCell ⟨gv, z, none⟩ (.int .i64 (q.tdiv d))).ownsRow Sr 2 1 (.slice (some ⟨gv, 0, none⟩) x cv) x (cI (lwK ps (z + 1)))) := by
                            show World.ownsRow _ _ _ _ _ _ _
                            rw [← lwK_set, cI, List.map_set, ← HYY.out, ← HDD.out]
                            exact (hR.out.stored z (.int .i64 (q.tdiv d))).1
                          have hwr : wrap64 (q.tdiv d) = q.tdiv d := by unfold wrap64; omega
                          have hgW : Wr.heap.size ≤ gv := by omega
                          have hS6 : Hid (Sr ≤ (wr.setCell ⟨gv, z, none⟩ (.int .i64 (q.tdiv d))).heap.size) := by show _ ≤ _; have := hSV.out; simp; omega
                          go_wp2
                          go_roundw
                          case rel => exact ⟨z + 1, by omega, by go_num, by first | exact O4.out | (rw [hwr]; exact O4.out), by first | exact hZ.out.setCell (p := ⟨gv, z, none⟩) hgW _, by first | exact hS6.out | (rw [hwr]; exact hS6.out)⟩
                          case measure => simp [intOf]; omega
                        · obtain rfl : z = x := by omega
                          have OU : Hid (wr.ownsRow Sr 2 1 (.slice (some ⟨gv, 0, none⟩) z cv) z (cI (lwF ps))) := by
                            show World.ownsRow _ _ _ _ _ _ _
                            have := hR.out
                            have e := lwK_all ps
                            rw [HPN.out] at e
                            rw [e] at this
                            exact this
                          have O5 := hidM (hO.out.below hZ.out)
                          have T5 := hidM (hT.out.below hZ.out)
                          have hWw : w.heap.size ≤ Wr.heap.size := hB.out.size
                          have B5 := hidM (hB.out.trans (hZ.out.mono hWw))
                          have hSS : S0 ≤ Sr := by have := hS.out; omega
                          have hS5 : S0 ≤ wr.heap.size := by have := hSV.out; omega
                          have hlt5 : ∀ i, i < ws3.length → ∀ b, (vl ws3 i).ownBlock = some b → (Value.slice (some ⟨gv, 0, none⟩) z cv).ownBlock ≠ some b := by
                            intro i hi b h1 h2
                            have h3 := hO.out.lt i hi b h1
                            have h4 := (OU.out.lt b h2).1
                            omega
                          have HLT := hidM hlt5
                          have hjm : ws3.length + 1 ≤ 1048577 := by have := hws3.out; omega
                          have hjm2 : ws3.length + 1 ≤ maxLen := by unfold maxLen; omega
                          have hll : (lwF ps).length = z := by simp [lwF, HPN.out]
                          obtain ⟨oa, oc, rfl⟩ := own_shape O5.out.outer
                          clear hlt5 hR hO hT hZ
                          go_wp2_with (at_builtin; refine wpList_append_own _ rfl _ _ 22 rfl S0 29 i0 (.slice none 0 0) 1 24 Try.underlying22 hi hz0 hz1 hz2 rfl (by decide) _ _ _ rfl (O5.out.outer.alloc _) ⟨wr.heap.size, 0, none⟩ 1 1 [.slice (some ⟨gv, 0, none⟩) z cv] rfl rfl (cell_one_new _ _ _) (by simp [Value.oneCell']) hjm2 (by omega) (by simp; omega) ?_; intro v' w6 hown' hgrow _)
                          go_roundw
                          case rel =>
                            have A5 := O5.out.append (ps := lwF ps) (u := .slice (some ⟨gv, 0, none⟩) z cv) (own_le (by rw [hll]; exact OU.out) hSS) HLT.out hown' hgrow
                            rw [HPS.out, ← take_map K k (by have := HKL.out; omega)] at A5
                            have T6 := T5.out.apartI O5.out.outer hgrow
                            have hbA := below_appended O5.out.outer hS5 hgrow
                            refine ⟨_, k + 1, ws3 ++ [_], rfl, by omega, by go_num, ?_, A5, T6, B5.out.trans (hbA.mono hS0w), ?_⟩
                            · show _ = _
                              rw [List.length_append, hws3.out]; rfl
                            · show _ ≤ _
                              have := hbA.size
                              omega
                          case measure => simp [intOf]; omega
            · obtain rfl : k = kn := by omega
              have hO' := hO.out
              rw [HKL.out, List.take_length] at hO'
              have HO := hidM hO'
              clear hO'
              go_wp2
              go_ret2
              refine ⟨_, ws3, rfl, ?_, hB.out⟩
              rw [HGA.out]
              exact HO.out.le hS0w
end Go.Proofs.Ytbbkejfcheobaak
