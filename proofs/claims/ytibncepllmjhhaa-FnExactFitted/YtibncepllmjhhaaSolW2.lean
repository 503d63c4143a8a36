/- The walk of the model's Solved. -/
import Derived.Test.YtibncepllmjhhaaSolW1
import Derived.Deep.RegionLaw
namespace Go
open Go.RowKit
/-- append to a row of the call's own, as one step of a region that draws -/
theorem step_append_ownS {P : Program} {ops : Array Oper} {o : Oper} {a : Act} {w : World} {K : Act → World → Prop} {Q : Exit → Act → World → Prop} {E : Prop}
    (hg : o.guard = none) (s x : Operand) (t : TypeId) (hop : o.op = Op.call { callee := Callee.builtin Builtin.append, args := #[s, x], argTypes := #[t, t] })
    (base : Nat) (e : TypeId) (i : TypeInfo) (z : Value) (size bytes : Nat) (ht : P.underlying t = some (.slice e)) (hi : P.info? e = some i) (hz : i.zero = some z)
    (hsize : i.size = size) (hby : i.bytes = bytes) (hzs : z.cells.size = size) (hsz : 0 < size)
    (v : Value) (n : Nat) (xs : List Value) (hs : a.eval s = v) (hown : w.ownsRow base e size v n xs)
    (ad : Addr) (m c : Nat) (news : List Value) (hx : a.eval x = .slice (some ad) m c) (hl : news.length = m * size) (hnews : ∀ j u, news[j]? = some u → w.cell? (ad.add j) = some u) (h1 : ∀ u ∈ news, u.oneCell' = true)
    (h63 : n + m ≤ maxLen) (hbytes : (n + m) * bytes ≤ 140737488355328) (hbase : base ≤ w.heap.size)
    (hK : ∀ v' w', w'.ownsRow base e size v' (n + m) (xs ++ news) → w.grownBy w' v.ownBlock → K (a.put o.dst v') w') :
    if Region.wanted o (yielded ops a.tmps) = true then Oper.wp P o a w K Q else E := by
  have hw : Region.wanted o (yielded ops a.tmps) = true := by simp [Region.wanted, hg]
  rw [if_pos hw]
  obtain ⟨v', w', hrun, h2, h3, _⟩ := run_append_own (P := P) (w := w) base t o.type e i z size bytes ht hi hz hsize hby hzs hsz v n xs hown ad m c news hl hnews h1 h63 hbytes hbase
  unfold Oper.wp
  simp [execOp, hop, resolve, invoke, builtin, hs, hx, hrun, Result.andThen]
  exact hK _ _ h2 h3
end Go
namespace Go.Proofs.Ytibncepllmjhhaa
open Go.RowKit Go.Proofs.Ytibncepllmjhhaa.RM

theorem own_empty {U : World} {base b : Nat} (h : U.heap[b]? = some (.cells #[] 33 (0, 0))) (hb : base ≤ b) : U.ownsRow base 33 2 (.slice (some ⟨b, 0, none⟩) 0 0) 0 [] :=
  ⟨rfl, .inr ⟨b, 0, #[], rfl, hb, h, Nat.le_refl _, Nat.zero_le _, rfl, rfl⟩⟩

set_option maxRecDepth 1000000 in
set_option maxHeartbeats 4000000 in
theorem sL3Solved_any (va vb : Value) (rows : List (List Fr)) (right : List Fr) (w : World) (ha : RdT w va rows) (hb : RdR w vb right) (hn1 : 1 ≤ rows.length) (hn2 : rows.length ≤ 900) (hd : ∀ k, k < rows.length → (rw' rows k).length = rows.length) (hr : right.length = rows.length) (hO : tabB (wideT rows right) 6 = true) :
    Calls Try.prog 49 #[va, vb] w fun e w' => ∃ v, e = .returned (.tuple #[v, .bool (echK (wideT rows right) && solF rows.length (echC (wideT rows right)))]) ∧ w'.ownsRow w.heap.size 33 2 v (if echK (wideT rows right) && solF rows.length (echC (wideT rows right)) then solX rows right else []).length (cellsR (if echK (wideT rows right) && solF rows.length (echC (wideT rows right)) then solX rows right else [])) ∧ Below w.heap.size w w' := by
  obtain ⟨i0, hi, hz0, hz1, hz2⟩ := info_parts infoF
  obtain ⟨t0, hti, htz0, htz1, htz2⟩ := info_parts infoT
  have b0 : ∀ (u : World) (o : Obj), Below u.heap.size u (u.alloc o) := fun u o => (Below.refl _ _).alloc (Nat.le_refl _) o
  obtain ⟨pa, ca, rfl, -, -, -, h5⟩ := ha
  obtain ⟨pb, cb, rfl, -, -, -, h6⟩ := hb
  have H6 : Hid (∀ j, j < right.length → ∃ b off, pb = some ⟨b, off, none⟩ ∧ w.cell? ⟨b, off + j * 2, none⟩ = some (.int .i64 (fr right j).1) ∧ w.cell? ⟨b, off + j * 2 + 1, none⟩ = some (.int .i64 (fr right j).2)) := h6
  have H5 : Hid (∀ i, i < rows.length → ∃ b off u, pa = some ⟨b, off, none⟩ ∧ w.cell? ⟨b, off + i, none⟩ = some u ∧ RdR w u (rw' rows i)) := h5
  obtain ⟨n, hn⟩ : ∃ n, n = rows.length := ⟨_, rfl⟩
  rw [← hn] at hn1 hn2 hd
  have TRn : Hid (∀ k, k < n → (rw' rows k).length = n) := fun k hk => hd k (by omega)
  have HN : Hid (n = rows.length ∧ right.length = n) := ⟨hn, by omega⟩
  obtain ⟨T, hT⟩ : ∃ T, T = wideT rows right := ⟨_, rfl⟩
  have HT : Hid (T = wideT rows right ∧ T.length = n ∧ ∀ k, k < n → rw' T k = rw' rows k ++ [fr right k]) := ⟨hT, by rw [hT, wideT_len, hn], fun k hk => by rw [hT, wideT_at _ _ _ (by omega)]⟩
  obtain ⟨q, hq⟩ : ∃ q, q = (echK T && solF n (echC T)) := ⟨_, rfl⟩
  obtain ⟨xs, hxs⟩ : ∃ xs, xs = (if q then solX rows right else []) := ⟨_, rfl⟩
  have HQ := hid hq
  have HO6 : Hid (tabB T 6 = true) := by show _ = _; rw [hT]; exact hO
  have HXS := hid hxs
  rw [← hT, show rows.length = n from hn.symm, hr, ← hn, ← hq, ← hxs]
  clear h5 h6 hd hr hn hT hq hxs hO
  go_enter Try.func49, Try.ntmps49
  go_wp2
  have o0 : Tab (w.alloc (.cells #[] 36)) w.heap.size (.slice (some ⟨w.heap.size, 0, none⟩) 0 0) [] (T.take 0) := Tab.lit (Nat.le_refl _)
  have B0 : Below w.heap.size w (w.alloc (.cells #[] 36)) := b0 _ _
  go_loopg [6, 7] n (fun g q i wr => ∃ (o : Value) (k : Nat) (us : List Value), k + g = n ∧ i = .int .i64 k ∧ o = q ∧ us.length = k ∧ Hid (Tab wr w.heap.size o us (T.take k)) ∧ Hid (Below w.heap.size w wr))
  case atStart => exact ⟨_, 0, [], by omega, rfl, rfl, rfl, o0, B0⟩
  case round =>
    clear o0 B0
    obtain ⟨o, k, us, hkg, rfl, rfl, hus, hT, hB⟩ := hrel
    have hsz := hB.out.size
    cases gk with
    | zero =>
      obtain rfl : k = n := by omega
      have hT0 : Tab wr w.heap.size o us T := by
        have h9 := hT.out
        rwa [List.take_of_length_le (by rw [HT.out.2.1]; exact Nat.le_refl _)] at h9
      have RD := hid hT0.read
      have HTW := hid hT0
      obtain ⟨ao, co, rfl⟩ := own_shape hT0.outer
      have HUS := hid hus
      rw [hus] at RD HTW
      rw [hus]
      clear hT hT0 hus
      obtain ⟨kk, hkk⟩ : ∃ b, b = echK T := ⟨_, rfl⟩
      have HK := hid hkk
      obtain ⟨C, hC⟩ : ∃ C, C = echC T := ⟨_, rfl⟩
      obtain ⟨R, hR⟩ : ∃ R, R = echR T := ⟨_, rfl⟩
      have HCR : Hid (C = echC T ∧ R = echR T) := ⟨hC, hR⟩
      obtain ⟨nc, hnc⟩ : ∃ x, x = C.length := ⟨_, rfl⟩
      have HNC := hid hnc
      have HSE : Hid (Calls Try.prog 70 #[.slice ao k co] wr fun e w' => ∃ vm vc us', e = .returned (.tuple #[vm, vc, .bool kk]) ∧ Tab w' wr.heap.size vm us' R ∧ w'.ownsRow wr.heap.size 3 1 vc nc (natV C) ∧ Below wr.heap.size wr w') := by
        show Calls _ _ _ _ _
        refine (sEchO_any _ T wr RD.out HO6.out).mono ?_
        rintro e w2 ⟨vm, vc, us2, rfl, t, c, hb2⟩
        rw [hkk, hnc, hC, hR]
        exact ⟨vm, vc, us2, rfl, t, c, hb2⟩
      have HDM : Hid (kk = true → R.length = k ∧ (∀ x, x < k → (rw' R x).length = k + 1) ∧ rises C ∧ ∀ c, c ∈ C → c < k + 1) := by
        intro e
        have hl0 : (rw' T 0).length = k + 1 := by rw [HT.out.2.2 0 (by omega), List.length_append, TRn.out 0 (by omega)]; rfl
        obtain ⟨d1, d2, d3, d4⟩ := ech_dims HO6.out (hkk.symm.trans e)
        have h9 := HT.out.2.1
        rw [hl0] at d2 d4
        rw [hC, hR]
        exact ⟨d1.trans h9, fun x hx => d2 x (by rw [d1, h9]; exact hx), ech_rises (hkk.symm.trans e), d4⟩
      clear hkk hC hR hnc
      cases kk
      · obtain rfl : q = false := by rw [HQ.out, ← HK.out]; rfl
        obtain rfl : xs = [] := by rw [HXS.out]; rfl
        go_wp2_with (go_at_call 70; refine HSE.out.mono ?_; rintro e w2 ⟨vm, vc, us2, rfl, t, c, hb2⟩; clear t c)
        refine bodyPost_ret (v := .tuple #[.slice (some ⟨w2.heap.size, 0, none⟩) 0 0, .bool false]) (by simp [results, Try.results49, go_sem]) rfl ⟨_, rfl, ?_, ?_⟩
        · exact own_empty (World.alloc_heap_new _ _) (by have := hb2.size; omega)
        · exact (hB.out.trans (hb2.mono hsz)).trans ((b0 _ _).mono (by have := hb2.size; omega))
      · obtain ⟨d1, d2, d3, d4⟩ := HDM.out rfl
        have hsm := solF_model hn1 d3 d4
        rw [← HNC.out] at hsm
        have HSM : Hid (q = (decide (nc = k) && decide (nt C (k - 1) = k - 1))) := by show _ = _; rw [HQ.out, ← HK.out, ← HCR.out.1, hsm]; rfl
        obtain ⟨m, hm⟩ : ∃ m, m = k - 1 := ⟨_, rfl⟩
        have hm1 : (k : Int) - 1 = (m : Int) := by omega
        have hmk : m < k := by omega
        have HMM := hid hm
        have HR1 : Hid (R.length = k ∧ (∀ x, x < k → (rw' R x).length = k + 1)) := ⟨d1, d2⟩
        clear hsm hm d1 d2 d3 d4
        have done : q = false → ∀ w2 : World, Below wr.heap.size wr w2 → ∃ v, Ending.returned (.tuple #[.slice (some ⟨w2.heap.size, 0, none⟩) 0 0, .bool false]) = .returned (.tuple #[v, .bool q]) ∧ (w2.alloc (.cells #[] 33)).ownsRow w.heap.size 33 2 v xs.length (cellsR xs) ∧ Below w.heap.size w (w2.alloc (.cells #[] 33)) := by
          intro hq w2 hb2
          have hs2 := hb2.size
          rw [HXS.out, hq]
          exact ⟨_, rfl, own_empty (World.alloc_heap_new _ _) (by omega), (hB.out.trans (hb2.mono hsz)).trans ((b0 _ _).mono (by omega))⟩
        have HDN := hid done
        clear done
        by_cases hcn : nc = k
        · subst hcn
          obtain ⟨x, hx⟩ : ∃ x, x = nt C m := ⟨_, rfl⟩
          have HX := hid hx
          clear hx
          by_cases hxm : x = m
          · subst hxm
            have HQT : Hid (q = true) := by show _ = _; rw [HSM.out, ← HMM.out, ← HX.out]; simp
            go_wp2_with (go_at_call 70; refine HSE.out.mono ?_; rintro e w2 ⟨vm, vc, us2, rfl, t, c, hb2⟩; have TM := hid t; have CC := hid c; have hs2 := hb2.size; have B2 := hid (hB.out.trans (hb2.mono hsz)); obtain ⟨gc, cc, rfl⟩ := own_some c (by omega); have c2 := nat_at (by rw [← HNC.out]; exact c) x (by rw [← HNC.out]; exact hmk); rw [← HX.out] at c2; clear t c)
            obtain ⟨e1, e2⟩ := HR1.out
            have hul := TM.out.len
            obtain ⟨G, cG, rfl⟩ := own_some TM.out.outer (by omega)
            have hu2 : us2.length = nc := by omega
            have HTf : Hid (∀ k, k < nc → ∃ g d, w2.cell? ⟨G, k, none⟩ = some (.slice (some ⟨g, 0, none⟩) (nc + 1) d) ∧ w2.cell? ⟨g, nc * 2, none⟩ = some (.int .i64 (fr (rw' R k) nc).1) ∧ w2.cell? ⟨g, nc * 2 + 1, none⟩ = some (.int .i64 (fr (rw' R k) nc).2)) := by
              intro k hk
              have ck := TM.out.outer.cellAt k (by omega)
              have hin := TM.out.inner k (by omega)
              rw [e2 k hk] at hin
              obtain ⟨g, d, ek⟩ := own_some hin (by omega)
              rw [show us2[k]? = some (vl us2 k) by unfold vl; rw [List.getElem?_eq_getElem (by omega)]; rfl, ek] at ck
              rw [ek] at hin
              obtain ⟨q2, q3⟩ := own_R hin (e2 k hk) nc (by omega)
              exact ⟨g, d, ck, q2, q3⟩
            rw [hu2]
            obtain ⟨S2, hS2⟩ : ∃ g, g = w2.heap.size := ⟨_, rfl⟩
            have o0 : (w2.alloc (.cells #[] 33)).ownsRow S2 33 2 (.slice (some ⟨S2, 0, none⟩) 0 0) 0 (cellsR ((List.range 0).map fun i => fr (rw' R i) nc)) := by rw [hS2]; exact own_empty (World.alloc_heap_new _ _) (Nat.le_refl _)
            have B0 : Below S2 w2 (w2.alloc (.cells #[] 33)) := by rw [hS2]; exact b0 _ _
            have hwS : w.heap.size ≤ S2 := by omega
            have hS20 : S2 ≤ (w2.alloc (.cells #[] 33)).heap.size := by rw [hS2]; simp
            rw [← hS2]
            have HS2 := hid hS2
            clear e1 e2 hul hu2 hS2
            go_loopg [12, 13] nc (fun g o i wz => ∃ (v : Value) (j : Nat), j + g = nc ∧ i = .int .i64 j ∧ v = o ∧ Hid (wz.ownsRow S2 33 2 v j (cellsR ((List.range j).map fun i => fr (rw' R i) nc))) ∧ Hid (Below S2 w2 wz) ∧ S2 ≤ wz.heap.size)
            case atStart => exact ⟨_, 0, by omega, rfl, rfl, o0, B0, hS20⟩
            case round =>
              clear o0 B0 hS20
              obtain ⟨v, j, hjg, rfl, rfl, hO, hB3, hs3⟩ := hrel
              obtain ⟨av, cv, rfl⟩ := own_shape hO.out
              cases gk with
              | zero =>
                obtain rfl : j = nc := by omega
                go_wp2
                refine bodyPost_ret (v := .tuple #[.slice av j cv, .bool true]) (by simp [results, Try.results49, go_sem]) rfl ⟨_, by rw [HQT.out], ?_, B2.out.trans (hB3.out.mono hwS)⟩
                have e : xs = (List.range j).map fun i => fr (rw' R i) j := by
                  rw [HXS.out, HQT.out, if_pos rfl]
                  unfold solX
                  rw [← HN.out.1, ← HT.out.1, ← HCR.out.2]
                rw [e, List.length_map, List.length_range]
                exact own_le hO.out hwS
              | succ g =>
                have hjn : j < nc := by omega
                obtain ⟨gr, dr, q1, q2, q3⟩ := HTf.out j hjn
                replace q1 := cell_keep (by rw [← HS2.out]; exact hB3.out) q1
                replace q2 := cell_keep (by rw [← HS2.out]; exact hB3.out) q2
                replace q3 := cell_keep (by rw [← HS2.out]; exact hB3.out) q3
                obtain ⟨p, hp⟩ : ∃ p, p = fr (rw' R j) nc := ⟨_, rfl⟩
                have HP := hid hp
                rw [← hp] at q2 q3
                obtain ⟨p1, p2⟩ := p
                clear hp
                go_wp2_with (at_builtin; refine wpList_append_own _ rfl _ _ 36 rfl S2 33 i0 (.agg #[.int .i64 0, .int .i64 0]) 2 16 Try.underlying36 hi hz0 hz1 hz2 rfl (by decide) _ _ _ rfl (World.ownsRow.alloc hO.out _) ⟨_, 0, none⟩ 1 1 [.int .i64 p1, .int .i64 p2] rfl rfl (cell_twoF _ _ _ _) (by intro u hu; simp at hu; rcases hu with rfl | rfl <;> rfl) (by unfold maxLen; omega) (by omega) (by simp; omega) ?_; intro v' w5 hown' hgrow _)
                go_roundg g
                case measure => omega
                case rel =>
                  refine ⟨v', j + 1, by omega, by go_num, rfl, ?_, ?_, ?_⟩
                  · show World.ownsRow _ _ _ _ _ _ _
                    rw [List.range_succ, List.map_append, cellsR_append, List.map_singleton, ← HP.out]
                    exact hown'
                  · exact Below.grown (hB3.out.trans ((b0 _ _).mono hs3)) hgrow (by simp; omega) (fun b e => (hO.out.lt b e).1)
                  · have := hgrow.size
                    simp at this
                    omega
          · have hbe : ((x : Int) == (m : Int)) = false := by simpa using (show (x : Int) ≠ (m : Int) by omega)
            have hqf : q = false := by rw [HSM.out, ← HMM.out, ← HX.out]; simp [hxm]
            have HQF := hid hqf
            clear hqf
            go_wp2_with (go_at_call 70; refine HSE.out.mono ?_; rintro e w2 ⟨vm, vc, us2, rfl, t, c, hb2⟩; have hs2 := hb2.size; obtain ⟨gc, cc, rfl⟩ := own_some c (by omega); have c2 := nat_at (by rw [← HNC.out]; exact c) m (by rw [← HNC.out]; exact hmk); rw [← HX.out] at c2; clear t c)
            refine bodyPost_ret (v := .tuple #[.slice (some ⟨w2.heap.size, 0, none⟩) 0 0, .bool false]) (by simp [results, Try.results49, go_sem]) rfl (HDN.out HQF.out _ hb2)
        · have hbe : ((nc : Int) == (k : Int)) = false := by simpa using (show (nc : Int) ≠ (k : Int) by omega)
          have hqf : q = false := by rw [HSM.out]; simp [hcn]
          have HQF := hid hqf
          clear hqf
          go_wp2_with (go_at_call 70; refine HSE.out.mono ?_; rintro e w2 ⟨vm, vc, us2, rfl, t, c, hb2⟩; have hs2 := hb2.size; obtain ⟨ac, cc, rfl⟩ := own_shape c; clear t c)
          refine bodyPost_ret (v := .tuple #[.slice (some ⟨w2.heap.size, 0, none⟩) 0 0, .bool false]) (by simp [results, Try.results49, go_sem]) rfl (HDN.out HQF.out _ hb2)
    | succ g =>
      have hkn : k < n := by omega
      obtain ⟨b, off, u, rfl, c1, hu⟩ := H5.out k (by have := HN.out.1; omega)
      obtain ⟨ar, cr, rfl, -, -, -, -⟩ := id hu
      obtain ⟨-, br, offr, rfl, hsrc⟩ := row_src hu rfl (by rw [TRn.out k hkn]; exact hn1)
      rw [TRn.out k hkn] at c1
      obtain ⟨b2, off2, rfl, y1, y2⟩ := H6.out k (by have := HN.out.2; omega)
      have HSR : Hid (∀ W : World, Below w.heap.size w W → ∀ j u, (cellsR (rw' rows k))[j]? = some u → W.cell? ((⟨br, offr, none⟩ : Addr).add j) = some u) := by
        intro W hW j u' hj
        have h1 := hsrc j u' hj
        have e : (⟨br, offr, none⟩ : Addr).add j = ⟨br, offr + j, none⟩ := by by_cases i0 : j = 0 <;> simp [Addr.add, i0]
        rw [e] at h1 ⊢
        exact cell_keep hW h1
      have hlb := World.block_lt_of_cell? w _ c1
      have hl2 := World.block_lt_of_cell? w _ y1
      dsimp only at hlb hl2
      replace c1 := cell_keep hB.out c1
      replace y1 := cell_keep hB.out y1
      replace y2 := cell_keep hB.out y2
      have c1' : ∀ o : Obj, (wr.alloc o).cell? ⟨b, off + k, none⟩ = _ := fun o => cell_keep (b0 _ o) c1
      have c1'' : ∀ o o' : Obj, ((wr.alloc o).alloc o').cell? ⟨b, off + k, none⟩ = _ := fun o o' => cell_keep (b0 _ o') (cell_keep (b0 _ o) c1)
      have y1' : ∀ o : Obj, (wr.alloc o).cell? ⟨b2, off2 + k * 2, none⟩ = _ := fun o => cell_keep (b0 _ o) y1
      have y2' : ∀ o : Obj, (wr.alloc o).cell? ⟨b2, off2 + k * 2 + 1, none⟩ = _ := fun o => cell_keep (b0 _ o) y2
      obtain ⟨r, hr⟩ : ∃ r, r = fr right k := ⟨_, rfl⟩
      have HR := hid hr
      rw [← hr] at y1 y2 y1' y2'
      obtain ⟨r1, r2⟩ := r
      obtain ⟨ao, co, rfl⟩ := own_shape hT.out.outer
      have HUS := hid hus
      have hT' : Hid (Tab wr w.heap.size (.slice ao k co) us (T.take k)) := by have h9 := hT.out; rw [hus] at h9; exact h9
      have HO' : Hid (wr.ownsRow w.heap.size 36 1 (.slice ao k co) k us) := by have h9 := hT.out.outer; rw [hus] at h9; exact h9
      have hrl : Hid ((cellsR (rw' rows k)).length = n * 2) := by show _ = _; rw [cellsR_len, TRn.out k hkn]
      rw [hus]
      have hk9 : k < 900 := by omega
      clear hsrc hu hr hus hT
      go_wp2
      go_region_law (first
        | (refine step_append_ownS rfl (.tmp 22) (.tmp 26) 36 rfl wr.heap.size 33 i0 (.agg #[.int .i64 0, .int .i64 0]) 2 16 Try.underlying36 hi hz0 hz1 hz2 rfl (by decide) _ 0 [] (by simp [Act.eval]) (own_empty (b := wr.heap.size) (World.alloc_heap_new wr _) (by omega)) ⟨br, offr, none⟩ n cr (cellsR (rw' rows k)) (by simp [Act.eval]) hrl.out (HSR.out _ (hB.out.trans (Below.mono (by first | exact (b0 _ _).drew | exact b0 _ _) hsz))) (cellsR_one _) (by unfold maxLen; omega) (by omega) (by simp; try omega) ?_; intro v1 w4 hown1 hgrow1; have Bw4 : Below wr.heap.size wr w4 := Below.grown (by first | exact (b0 _ _).drew | exact b0 _ _) hgrow1 (by simp; try omega) (fun b e => by cases e; simp; try omega); replace hown1 : w4.ownsRow wr.heap.size 33 2 v1 n (cellsR (rw' rows k)) := (by simpa using hown1); obtain ⟨a1, c1x, rfl⟩ := own_shape hown1; have z1 := cell_keep Bw4 y1; have z2 := cell_keep Bw4 y2; have hs4 := Bw4.size; have HOW := hid hown1; clear hown1)
        | (refine step_append_ownS rfl (.tmp 22) (.tmp 26) 36 rfl wr.heap.size 33 i0 (.agg #[.int .i64 0, .int .i64 0]) 2 16 Try.underlying36 hi hz0 hz1 hz2 rfl (by decide) _ 0 [] (by simp [Act.eval]) (own_empty (b := wr.heap.size) ((Below.heap_alloc _ _ _ (by simp)).trans (World.alloc_heap_new wr _)) (by omega)) ⟨br, offr, none⟩ n cr (cellsR (rw' rows k)) (by simp [Act.eval]) hrl.out (HSR.out _ (hB.out.trans (Below.mono (by first | exact ((b0 _ _).trans ((b0 _ _).mono (by simp))).drew | exact (b0 _ _).trans ((b0 _ _).mono (by simp))) hsz))) (cellsR_one _) (by unfold maxLen; omega) (by omega) (by simp; try omega) ?_; intro v1 w4 hown1 hgrow1; have Bw4 : Below wr.heap.size wr w4 := Below.grown (by first | exact ((b0 _ _).trans ((b0 _ _).mono (by simp))).drew | exact (b0 _ _).trans ((b0 _ _).mono (by simp))) hgrow1 (by simp; try omega) (fun b e => by cases e; simp; try omega); replace hown1 : w4.ownsRow wr.heap.size 33 2 v1 n (cellsR (rw' rows k)) := (by simpa using hown1); obtain ⟨a1, c1x, rfl⟩ := own_shape hown1; have z1 := cell_keep Bw4 y1; have z2 := cell_keep Bw4 y2; have hs4 := Bw4.size; have HOW := hid hown1; clear hown1; have hc2 : ∀ j u, [Value.int .i64 r1, Value.int .i64 r2][j]? = some u → w4.cell? ((⟨wr.heap.size + 1, 0, none⟩ : Addr).add j) = some u := (by intro j u h; have h9 := cell_twoF (wr.alloc (.cells #[] 33)) (.int .i64 r1) (.int .i64 r2) 33 j u h; rw [show (wr.alloc (.cells #[] 33)).heap.size = wr.heap.size + 1 by simp] at h9; have e9 : (⟨wr.heap.size + 1, 0, none⟩ : Addr).add j = ⟨wr.heap.size + 1, j, none⟩ := (by by_cases i0 : j = 0 <;> simp [Addr.add, i0]); rw [e9] at h9 ⊢; exact cell_g hgrow1 h9 (by simp <;> omega)); have HC2 := hid hc2; clear hc2)
        | (refine step_append_ownS rfl (.tmp 22) (.tmp 26) 36 rfl wr.heap.size 33 i0 (.agg #[.int .i64 0, .int .i64 0]) 2 16 Try.underlying36 hi hz0 hz1 hz2 rfl (by decide) _ 0 [] (by simp [Act.eval]) (own_empty (b := (wr.heap.size + 1)) (by have h9 := World.alloc_heap_new (wr.alloc (.cells #[.int .i64 r1, .int .i64 r2] 33)) (.cells #[] 33); rw [show (wr.alloc (.cells #[.int .i64 r1, .int .i64 r2] 33)).heap.size = wr.heap.size + 1 by simp] at h9; exact h9) (by omega)) ⟨br, offr, none⟩ n cr (cellsR (rw' rows k)) (by simp [Act.eval]) hrl.out (HSR.out _ (hB.out.trans (Below.mono (by first | exact ((b0 _ _).trans ((b0 _ _).mono (by simp))).drew | exact (b0 _ _).trans ((b0 _ _).mono (by simp))) hsz))) (cellsR_one _) (by unfold maxLen; omega) (by omega) (by simp; try omega) ?_; intro v1 w4 hown1 hgrow1; have Bw4 : Below wr.heap.size wr w4 := Below.grown (by first | exact ((b0 _ _).trans ((b0 _ _).mono (by simp))).drew | exact (b0 _ _).trans ((b0 _ _).mono (by simp))) hgrow1 (by simp; try omega) (fun b e => by cases e; simp; try omega); replace hown1 : w4.ownsRow wr.heap.size 33 2 v1 n (cellsR (rw' rows k)) := (by simpa using hown1); obtain ⟨a1, c1x, rfl⟩ := own_shape hown1; have z1 := cell_keep Bw4 y1; have z2 := cell_keep Bw4 y2; have hs4 := Bw4.size; have HOW := hid hown1; clear hown1; have hc2 : ∀ j u, [Value.int .i64 r1, Value.int .i64 r2][j]? = some u → w4.cell? ((⟨wr.heap.size, 0, none⟩ : Addr).add j) = some u := (by intro j u h; have h9 := cell_twoF wr (.int .i64 r1) (.int .i64 r2) 33 j u h; have e9 : (⟨wr.heap.size, 0, none⟩ : Addr).add j = ⟨wr.heap.size, j, none⟩ := (by by_cases i0 : j = 0 <;> simp [Addr.add, i0]); rw [e9] at h9 ⊢; exact cell_g hgrow1 (cell_al _ h9) (by simp <;> omega)); have HC2 := hid hc2; clear hc2)
        | (refine step_append_ownS rfl (.tmp 27) (.tmp 32) 36 rfl wr.heap.size 33 i0 (.agg #[.int .i64 0, .int .i64 0]) 2 16 Try.underlying36 hi hz0 hz1 hz2 rfl (by decide) (.slice a1 n c1x) n (cellsR (rw' rows k)) (by simp [Act.eval]) (own_below HOW.out (by first | exact (b0 _ _).drew | exact b0 _ _)) ⟨w4.heap.size, 0, none⟩ 1 1 [.int .i64 r1, .int .i64 r2] (by simp [Act.eval]) rfl (fun j u h => by first | exact cell_dr (cell_twoF w4 _ _ _ j u h) | exact cell_twoF w4 _ _ _ j u h) (by intro u hu; simp at hu; rcases hu with rfl | rfl <;> rfl) (by unfold maxLen; omega) (by omega) (by first | omega | (simp; omega)) ?_; intro v2 w5 hown2 hgrow2; have Bw5 : Below wr.heap.size wr w5 := Below.grown (by first | exact (Bw4.trans ((b0 _ _).mono hs4)).drew | exact Bw4.trans ((b0 _ _).mono hs4)) hgrow2 (by first | omega | (simp; omega)) (fun b e => (HOW.out.lt b e).1); obtain ⟨a2, c2x, rfl⟩ := own_shape hown2; have HO2 := hid hown2; have hs5 := Bw5.size; clear hown2)
        | (refine step_append_ownS rfl (.tmp 27) (.tmp 32) 36 rfl wr.heap.size 33 i0 (.agg #[.int .i64 0, .int .i64 0]) 2 16 Try.underlying36 hi hz0 hz1 hz2 rfl (by decide) (.slice a1 n c1x) n (cellsR (rw' rows k)) (by simp [Act.eval]) (by first | exact HOW.out | exact own_below HOW.out ((Below.refl _ _).drew)) ⟨(wr.heap.size + 1), 0, none⟩ 1 1 [.int .i64 r1, .int .i64 r2] (by simp [Act.eval]) rfl (fun j u h => by first | exact HC2.out j u h | exact cell_dr (HC2.out j u h)) (by intro u hu; simp at hu; rcases hu with rfl | rfl <;> rfl) (by unfold maxLen; omega) (by omega) (by first | omega | (simp; omega)) ?_; intro v2 w5 hown2 hgrow2; have Bw5 : Below wr.heap.size wr w5 := Below.grown (by first | exact Bw4 | exact Bw4.drew) hgrow2 (by first | omega | (simp; omega)) (fun b e => (HOW.out.lt b e).1); obtain ⟨a2, c2x, rfl⟩ := own_shape hown2; have HO2 := hid hown2; have hs5 := Bw5.size; clear hown2)
        | (refine step_append_ownS rfl (.tmp 27) (.tmp 32) 36 rfl wr.heap.size 33 i0 (.agg #[.int .i64 0, .int .i64 0]) 2 16 Try.underlying36 hi hz0 hz1 hz2 rfl (by decide) (.slice a1 n c1x) n (cellsR (rw' rows k)) (by simp [Act.eval]) (by first | exact HOW.out | exact own_below HOW.out ((Below.refl _ _).drew)) ⟨wr.heap.size, 0, none⟩ 1 1 [.int .i64 r1, .int .i64 r2] (by simp [Act.eval]) rfl (fun j u h => by first | exact HC2.out j u h | exact cell_dr (HC2.out j u h)) (by intro u hu; simp at hu; rcases hu with rfl | rfl <;> rfl) (by unfold maxLen; omega) (by omega) (by first | omega | (simp; omega)) ?_; intro v2 w5 hown2 hgrow2; have Bw5 : Below wr.heap.size wr w5 := Below.grown (by first | exact Bw4 | exact Bw4.drew) hgrow2 (by first | omega | (simp; omega)) (fun b e => (HOW.out.lt b e).1); obtain ⟨a2, c2x, rfl⟩ := own_shape hown2; have HO2 := hid hown2; have hs5 := Bw5.size; clear hown2)
        | (refine step_append_ownS rfl (.tmp 21) (.tmp 34) 75 rfl w.heap.size 36 t0 (.slice none 0 0) 1 24 Try.underlying75 hti htz0 htz1 htz2 rfl (by decide) _ k us (by simp [Act.eval]) (own_below (own_below HO'.out Bw5) (by first | exact (b0 _ _).drew | exact b0 _ _)) ⟨w5.heap.size, 0, none⟩ 1 1 [.slice a2 (n + 1) c2x] (by simp [Act.eval]) rfl (fun j u h => by first | exact cell_dr (cell_one_new w5 _ _ j u h) | exact cell_one_new w5 _ _ j u h) (by simp [Value.oneCell']) (by unfold maxLen; omega) (by omega) (by simp; omega) ?_; intro v3 w6 hown3 hgrow3))
      all_goals go_wp2
      all_goals
        go_roundg g
        case measure => omega
        case rel =>
          have how : w5.ownsRow w.heap.size 33 2 (.slice a2 (n + 1) c2x) (rw' T k).length (cellsR (rw' T k)) := by
            rw [HT.out.2.2 k hkn, List.length_append, TRn.out k hkn, cellsR_append, ← HR.out]
            exact own_le HO2.out hsz
          have T5 := hT'.out.below Bw5
          have T6 := T5.append how (fun i hi b hb hb2 => by
            have h1 := (hT'.out.inner i hi).lt b hb
            have h2 := (HO2.out.lt b hb2).1
            omega) (by rw [HUS.out]; exact hown3) hgrow3
          refine ⟨v3, k + 1, us ++ [.slice a2 (n + 1) c2x], by omega, by go_num, rfl, by simp [HUS.out], ?_, ?_⟩
          · rw [← takeS T k (by rw [HT.out.2.1]; exact hkn)]
            exact T6
          · exact Below.grown (by first | exact ((hB.out.trans (Bw5.mono hsz)).trans ((b0 _ _).mono (by omega))).drew | exact (hB.out.trans (Bw5.mono hsz)).trans ((b0 _ _).mono (by omega))) hgrow3 (by simp; omega) (fun b e => (hT'.out.outer.lt b e).1)
end Go.Proofs.Ytibncepllmjhhaa
