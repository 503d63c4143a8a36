/- The walk of the program's Solved. -/
import Derived.Test.YtibncepllmjhhaaSolMath
import Derived.Test.YtibncepllmjhhaaKerW1
import Derived.Deep.RegionLawGrows
import Derived.Deep.DeepMust
import Derived.Deep.LoopGhost
namespace Go.Proofs.Ytibncepllmjhhaa
open Go.RowKit Go.Proofs.Ytibncepllmjhhaa.RM

/-- what both answer -/
def SolP (w : World) (rows : List (List Fr)) (right : List Fr) (e : Ending) (w' : World) : Prop :=
  ∃ v, e = .returned (.tuple #[v, .bool (solO rows right)]) ∧ w'.ownsRow w.heap.size 33 2 v (solA rows right).length (cellsR (solA rows right)) ∧ Below w.heap.size w w'
theorem SolP.no {w W : World} {rows : List (List Fr)} {right : List Fr} (h : solO rows right = false) (hb : Below w.heap.size w W) :
    SolP w rows right (.returned (.tuple #[.slice (some ⟨W.heap.size, 0, none⟩) 0 0, .bool false])) (W.alloc (.cells #[] 33)) := by
  refine ⟨_, by rw [h], ?_, hb.alloc hb.size _⟩
  rw [solA_no h]
  exact World.ownsRow_lit W (base := w.heap.size) (e := 33) (size := 2) #[] 0 hb.size (Nat.zero_le _) rfl

set_option maxRecDepth 1000000 in
set_option maxHeartbeats 4000000 in
theorem iSolved_any (va vb : Value) (rows : List (List Fr)) (right : List Fr) (w : World) (ha : RdT w va rows) (hb : RdR w vb right) :
    Calls Try.prog 53 #[va, vb] w fun e w' => SolP w rows right e w' := by
  obtain ⟨i0, hi, hz0, hz1, hz2⟩ := info_parts infoF
  obtain ⟨t0, hti, htz0, htz1, htz2⟩ := info_parts infoT
  have b0 : ∀ (u : World) (o : Obj), Below u.heap.size u (u.alloc o) := fun u o => (Below.refl _ _).alloc (Nat.le_refl _) o
  have HA := hid ha
  obtain ⟨qa, hqa⟩ : ∃ q, q = tabB rows 6 := ⟨_, rfl⟩
  have HQA := hid hqa
  have CA : Hid (Calls Try.prog 72 #[va] w fun e w' => e = .returned (.bool qa) ∧ Below w.heap.size w w') := by
    rw [hqa]; exact iTab_any _ rows w ha
  obtain ⟨pa, ca, rfl, -, -, -, h5⟩ := ha
  have H5 : Hid (∀ i, i < rows.length → ∃ b off u, pa = some ⟨b, off, none⟩ ∧ w.cell? ⟨b, off + i, none⟩ = some u ∧ RdR w u (rw' rows i)) := h5
  obtain ⟨pb, cb, rfl, -, -, -, h6⟩ := hb
  have H6 : Hid (∀ j, j < right.length → ∃ b off, pb = some ⟨b, off, none⟩ ∧ w.cell? ⟨b, off + j * 2, none⟩ = some (.int .i64 (fr right j).1) ∧ w.cell? ⟨b, off + j * 2 + 1, none⟩ = some (.int .i64 (fr right j).2)) := h6
  obtain ⟨n, hn⟩ : ∃ n, n = rows.length := ⟨_, rfl⟩
  obtain ⟨mr, hmr⟩ : ∃ n, n = right.length := ⟨_, rfl⟩
  have HN : Hid (n = rows.length ∧ mr = right.length) := ⟨hn, hmr⟩
  have no : ∀ {W : World}, ¬ (rows.length ≤ 5 ∧ tabB rows 6 = true ∧ (rw' rows 0).length = rows.length ∧ right.length = rows.length) → solO rows right = false := fun {W} h => by unfold solO; rw [solC_no h]; rfl
  rw [← hn] at CA ⊢
  rw [← hmr]
  by_cases n5 : 5 < (n : Int)
  · have HO := hid (no (W := w) (fun h => by omega))
    clear hqa h5 h6 hn hmr no
    go_enter Try.func53, Try.ntmps53
    go_wp2
    refine bodyPost_ret (v := .tuple #[.slice (some ⟨w.heap.size, 0, none⟩) 0 0, .bool false]) (by simp [results, Try.results53, go_sem]) rfl (SolP.no HO.out (Below.refl _ _))
  cases qa
  · have HO := hid (no (W := w) (fun h => by rw [h.2.1] at hqa; cases hqa))
    clear hqa h5 h6 hn hmr no
    go_enter Try.func53, Try.ntmps53
    go_wp2_with (go_at_call 72; refine (CA.out).mono ?_; rintro e w1 ⟨rfl, hb⟩)
    refine bodyPost_ret (v := .tuple #[.slice (some ⟨w1.heap.size, 0, none⟩) 0 0, .bool false]) (by simp [results, Try.results53, go_sem]) rfl (SolP.no HO.out hb)
  obtain ⟨⟨t1, t2, t3, t4⟩, tr⟩ := tabB_out hqa.symm
  obtain ⟨ba, offa, ua, e, ca0, ⟨pa0, ca0', rfl, -, -, -, -⟩⟩ := h5 0 (by omega)
  subst e
  rw [Nat.add_zero] at ca0
  obtain ⟨L, hL⟩ : ∃ L, L = (rw' rows 0).length := ⟨_, rfl⟩
  have HL := hid hL
  have TR : Hid (∀ k, k < rows.length → (rw' rows k).length = L) := fun k hk => by rw [(tr k hk).1, hL]
  rw [← hL] at ca0 t3 t4
  have hn1 : 1 ≤ n := by omega
  by_cases hLn : L = n
  case neg =>
    have HO := hid (no (W := w) (fun h => hLn (by rw [hL, h.2.2.1, hn])))
    have hLn' : ¬ (L : Int) = (n : Int) := by omega
    clear hqa h5 h6 hn hmr no tr hL hLn t4 t3 t2 t1
    go_enter Try.func53, Try.ntmps53
    go_wp2_with (go_at_call 72; refine (CA.out).mono ?_; rintro e w1 ⟨rfl, hb⟩; have c0 := cell_keep hb ca0)
    refine bodyPost_ret (v := .tuple #[.slice (some ⟨w1.heap.size, 0, none⟩) 0 0, .bool false]) (by simp [results, Try.results53, go_sem]) rfl (SolP.no HO.out hb)
  by_cases hmn : mr = n
  case neg =>
    have HO := hid (no (W := w) (fun h => hmn (by rw [hmr, h.2.2.2, hn])))
    have hmn' : ¬ (mr : Int) = (n : Int) := by omega
    subst hLn
    clear hqa h5 h6 hn hmr no tr hL hmn t4 t3 t2 t1
    go_enter Try.func53, Try.ntmps53
    go_wp2_with (go_at_call 72; refine (CA.out).mono ?_; rintro e w1 ⟨rfl, hb⟩; have c0 := cell_keep hb ca0)
    refine bodyPost_ret (v := .tuple #[.slice (some ⟨w1.heap.size, 0, none⟩) 0 0, .bool false]) (by simp [results, Try.results53, go_sem]) rfl (SolP.no HO.out hb)
  have hC : solC rows right = true := by
    unfold solC
    rw [← hqa, decide_eq_true (show rows.length ≤ 5 by omega), decide_eq_true (show (rw' rows 0).length = rows.length by omega), decide_eq_true (show right.length = rows.length by omega)]
    rfl
  have HC := hid hC
  have hn5 : n ≤ 5 := by omega
  obtain ⟨T, hT⟩ : ∃ T, T = wideT rows right := ⟨_, rfl⟩
  have HT : Hid (T = wideT rows right ∧ T.length = n ∧ ∀ k, k < n → rw' T k = rw' rows k ++ [fr right k]) := ⟨hT, by rw [hT, wideT_len, hn], fun k hk => by rw [hT, wideT_at _ _ _ (by omega)]⟩
  have HSO : Hid (solO rows right = (echO T && solF n (echC T))) := by show _ = _; unfold solO; rw [hC, hT, hn]; rfl
  have TRn : Hid (∀ k, k < n → (rw' rows k).length = n) := fun k hk => by rw [TR.out k (by omega), hLn]
  subst hLn
  subst hmn
  clear hqa h5 h6 hmr hn no tr hL t4 t3 t2 t1 hC hT TR
  go_enter Try.func53, Try.ntmps53
  go_upto_region 4 with (go_at_call 72; refine (CA.out).mono ?_; rintro e w1 ⟨rfl, hb⟩; have c0 := cell_keep hb ca0)
  have B1 := hb
  have hs1 := hb.size
  clear c0 hb CA
  go_wp2_with (at_make; refine wpList_make_full _ rfl _ _ 75 rfl w.heap.size 36 t0 (.slice none 0 0) 1 Try.underlying75 hti htz0 htz1 .i64 .i64 _ _ mr rfl rfl rfl rfl (by rw [htz2]; omega) (by unfold maxLen; omega) hs1 ?_; intro w3 hown hgrow)
  have B3 : Below w.heap.size w w3 := B1.grown hgrow hs1 (fun b e => by cases e)
  obtain ⟨Gk, hGk⟩ : ∃ g, g = w1.heap.size := ⟨_, rfl⟩
  have o0 : Tab w3 w.heap.size (.slice (some ⟨Gk, 0, none⟩) mr mr) (List.replicate mr (.slice none 0 0)) (cpyT T 0) := by
    rw [cpyT_zero, HT.out.2.1, hGk]; refine Tab.made ?_; rw [← madeT]; exact hown
  have hwR : w.heap.size ≤ Gk := by omega
  rw [← hGk]
  clear hGk hown hgrow B1 hs1
  go_loopg [43] mr (fun g i wr => ∃ (k : Nat) (us' : List Value), k + g = mr ∧ i = .int .i64 k ∧ Hid (Tab wr w.heap.size (.slice (some ⟨Gk, 0, none⟩) mr mr) us' (cpyT T k)) ∧ Hid (Below w.heap.size w wr))
  case atStart => exact ⟨0, _, by omega, rfl, o0, B3⟩
  case round =>
    clear o0 B3
    obtain ⟨k, us', hkg, rfl, hO, hB⟩ := hrel
    have hsz := hB.out.size
    cases gk with
    | zero =>
      obtain rfl : k = mr := by omega
      have TT : Tab wr w.heap.size (.slice (some ⟨Gk, 0, none⟩) k k) us' T := by
        have := hO.out
        rw [show cpyT T k = T by have := cpyT_all T; rw [HT.out.2.1] at this; exact this] at this
        exact this
      have HE := hid (iEch_any (.slice (some ⟨Gk, 0, none⟩) k k) T wr TT.read)
      obtain ⟨q, hq⟩ : ∃ q, q = echO T := ⟨_, rfl⟩
      have HQ := hid hq
      clear hq TT hO H5 H6
      cases q
      · have HO : Hid (solO rows right = false) := by show _ = _; rw [HSO.out, ← HQ.out]; rfl
        go_wp2_with (go_at_call 73; refine (HE.out).mono ?_; rintro e w4 ⟨vm, vc, vf, us, rfl, t, c, f, hb4⟩; rw [← HQ.out]; obtain ⟨am, cm, rfl⟩ := own_shape t.outer; obtain ⟨ac, cc, rfl⟩ := own_shape c; obtain ⟨af, cf, rfl⟩ := own_shape f; clear c f t)
        have B4 := (hB.out.trans (hb4.mono hsz)).alloc (hB.out.trans (hb4.mono hsz)).size (.cells #[.slice am us.length cm, .slice ac (echCh T).length cc, .slice af (echFe T).length cf] 91)
        have hno := SolP.no (rows := rows) (right := right) HO.out B4
        refine bodyPost_ret (v := .tuple #[.slice (some ⟨w4.heap.size + 1, 0, none⟩) 0 0, .bool false]) (by simp [results, Try.results53, go_sem]) rfl ?_
        simpa using hno
      · have hk2 : tabB T 6 = true ∧ echK T = true := by have := HQ.out.symm; unfold echO at this; rw [Bool.and_eq_true] at this; exact this
        obtain ⟨d1, d2, d3, d4⟩ := ech_dims hk2.1 hk2.2
        obtain ⟨e1, e2, e3⟩ := echO_yes HQ.out.symm
        have hL0 : (rw' T 0).length = k + 1 := by rw [HT.out.2.2 0 (by omega), List.length_append, TRn.out 0 (by omega)]; rfl
        rw [hL0] at d2 d4 e3
        rw [HT.out.2.1] at d1
        obtain ⟨F, hF⟩ : ∃ F, F = freeC (k + 1) (echC T) := ⟨_, rfl⟩
        obtain ⟨R, hR⟩ : ∃ R, R = echR T := ⟨_, rfl⟩
        rw [← hF] at e3
        rw [← hR] at e1 d1 d2
        have HE2 : Hid (Calls Try.prog 73 #[.slice (some ⟨Gk, 0, none⟩) k k] wr fun e w' => ∃ vm vc vf us, e = .returned (.tuple #[.agg #[vm, vc, vf], .bool true]) ∧ Tab w' wr.heap.size vm us R ∧ w'.ownsRow wr.heap.size 3 1 vc (echCh T).length (natV (echCh T)) ∧ w'.ownsRow wr.heap.size 3 1 vf F.length (natV F) ∧ Below wr.heap.size wr w') := by
          refine (HE.out).mono ?_
          rintro e w' ⟨vm, vc, vf, us, rfl, t, c, f, hb⟩
          rw [← HQ.out]
          rw [e1] at t
          rw [e3] at f
          exact ⟨vm, vc, vf, us, rfl, t, c, f, hb⟩
        have HSF : Hid (solO rows right = decide (F = [k])) := by
          show _ = _
          rw [HSO.out, ← HQ.out, Bool.true_and]
          unfold solF
          rw [hF]
        have HRR : Hid (R = echR T ∧ R.length = k ∧ ∀ x, x < k → (rw' R x).length = k + 1) := ⟨hR, d1, fun x hx => d2 x (by omega)⟩
        have hFl : F.length ≤ 6 := by rw [hF]; have := freeC_len (k + 1) (echC T); omega
        clear hk2 d1 d2 d3 d4 e1 e2 e3 hL0 hF hR HE
        obtain ⟨nf, hnf⟩ : ∃ n, n = F.length := ⟨_, rfl⟩
        have HNF := hid hnf
        rw [← hnf] at hFl
        by_cases hF1 : nf = 1
        case neg =>
          have HO : Hid (solO rows right = false) := by show _ = _; rw [HSF.out]; exact decide_eq_false (fun h => hF1 (by rw [hnf, h]; rfl))
          have hF2 : ¬ (nf : Int) = 1 := by omega
          clear hF1 hnf
          go_wp2_with (go_at_call 73; refine (HE2.out).mono ?_; rintro e w4 ⟨vm, vc, vf, us, rfl, t, c, f, hb4⟩; obtain ⟨am, cm, rfl⟩ := own_shape t.outer; obtain ⟨ac, cc, rfl⟩ := own_shape c; rw [← HNF.out] at f; obtain ⟨af, cf, rfl⟩ := own_shape f; clear c f t)
          have B4 := (hB.out.trans (hb4.mono hsz)).alloc (hB.out.trans (hb4.mono hsz)).size (.cells #[.slice am us.length cm, .slice ac (echCh T).length cc, .slice af nf cf] 91)
          have hno := SolP.no (rows := rows) (right := right) HO.out B4
          refine bodyPost_ret (v := .tuple #[.slice (some ⟨w4.heap.size + 1, 0, none⟩) 0 0, .bool false]) (by simp [results, Try.results53, go_sem]) rfl ?_
          simpa using hno
        subst hF1
        obtain ⟨x, hx⟩ : ∃ x, x = nt F 0 := ⟨_, rfl⟩
        have HX := hid hx
        have hFx : F = [x] := by
          match F, hnf with
          | [y], _ => rw [hx]; rfl
        have HFX := hid hFx
        have hxk : (x : Int) ≤ 6 ∨ True := .inr trivial
        clear hx hFx hnf hxk
        by_cases hxk : x = k
        case neg =>
          have HO : Hid (solO rows right = false) := by show _ = _; rw [HSF.out, HFX.out]; exact decide_eq_false (fun h => hxk (by simpa using h))
          have hxk2 : ¬ (x : Int) = (k : Int) := by omega
          go_wp2_with (go_at_call 73; refine (HE2.out).mono ?_; rintro e w4 ⟨vm, vc, vf, us, rfl, t, c, f, hb4⟩; obtain ⟨am, cm, rfl⟩ := own_shape t.outer; obtain ⟨ac, cc, rfl⟩ := own_shape c; obtain ⟨gf, cf, rfl⟩ := own_some f (by rw [HFX.out]; exact Nat.one_pos); have fx := nat_at f 0 (by rw [HFX.out]; exact Nat.one_pos); rw [← HX.out] at fx; rw [← HNF.out]; replace fx : ∀ o : Obj, (w4.alloc o).cell? ⟨gf, 0, none⟩ = some (.int .i64 (x : Int)) := (fun o => cell_keep (b0 _ o) fx); clear c f t)
          have B4 := (hB.out.trans (hb4.mono hsz)).alloc (hB.out.trans (hb4.mono hsz)).size (.cells #[.slice am us.length cm, .slice ac (echCh T).length cc, .slice (some ⟨gf, 0, none⟩) 1 cf] 91)
          have hno := SolP.no (rows := rows) (right := right) HO.out B4
          refine bodyPost_ret (v := .tuple #[.slice (some ⟨w4.heap.size + 1, 0, none⟩) 0 0, .bool false]) (by simp [results, Try.results53, go_sem]) rfl ?_
          simpa using hno
        subst hxk
        have HO : Hid (solO rows right = true) := by show _ = _; rw [HSF.out, HFX.out]; exact decide_eq_true rfl
        have HSA := hid (solA_yes HO.out)
        go_upto_region 13 with (go_at_call 73; refine (HE2.out).mono ?_; rintro e w4 ⟨vm, vc, vf, us, rfl, t, c, f, hb4⟩; obtain ⟨G, cG, rfl⟩ := own_some t.outer (by rw [t.len, HRR.out.2.1]; omega); obtain ⟨ac, cc, rfl⟩ := own_shape c; obtain ⟨gf, cf, rfl⟩ := own_some f (by rw [HFX.out]; exact Nat.one_pos); have fx := nat_at f 0 (by rw [HFX.out]; exact Nat.one_pos); rw [← HX.out] at fx; rw [← HNF.out]; replace fx : ∀ o : Obj, (w4.alloc o).cell? ⟨gf, 0, none⟩ = some (.int .i64 (x : Int)) := (fun o => cell_keep (b0 _ o) fx))
        obtain ⟨N, hN⟩ : ∃ n, n = us.length := ⟨_, rfl⟩
        have hNx : N = x := by have := t.len; have := HRR.out.2.1; omega
        obtain ⟨E, hE⟩ : ∃ E, E = w4.heap.size := ⟨_, rfl⟩
        obtain ⟨X, hX⟩ : ∃ X, X = w4.alloc (.cells #[.slice (some ⟨G, 0, none⟩) us.length cG, .slice ac (echCh T).length cc, .slice (some ⟨gf, 0, none⟩) 1 cf] 91) := ⟨_, rfl⟩
        have hblk : X.heap[E]? = some (.cells #[.slice (some ⟨G, 0, none⟩) us.length cG, .slice ac (echCh T).length cc, .slice (some ⟨gf, 0, none⟩) 1 cf] 91 (0, 0)) := by rw [hX, hE]; exact World.alloc_heap_new w4 _
        have TX := t.below (b0 w4 (.cells #[.slice (some ⟨G, 0, none⟩) us.length cG, .slice ac (echCh T).length cc, .slice (some ⟨gf, 0, none⟩) 1 cf] 91))
        have BX : Below w.heap.size w X := by rw [hX]; exact (hB.out.trans (hb4.mono hsz)).alloc (hB.out.trans (hb4.mono hsz)).size _
        rw [← hX] at TX
        rw [← hX, ← hE, ← hN]
        rw [← hN] at hblk
        have hXs : E < X.heap.size := (cells3 hblk).2.2.2.2.2.2
        have hus : us.length = x := by omega
        subst hNx
        have HTf : Hid (∀ k, k < N → ∃ g d, g < X.heap.size ∧ X.cell? ⟨G, k, none⟩ = some (.slice (some ⟨g, 0, none⟩) (N + 1) d) ∧ X.cell? ⟨g, N * 2, none⟩ = some (.int .i64 (fr (rw' R k) N).1) ∧ X.cell? ⟨g, N * 2 + 1, none⟩ = some (.int .i64 (fr (rw' R k) N).2)) := by
          intro k hk
          have ck := TX.outer.cellAt k (by omega)
          have hin := TX.inner k (by omega)
          rw [HRR.out.2.2 k hk] at hin
          obtain ⟨g, d, ek⟩ := own_some hin (by omega)
          rw [show us[k]? = some (vl us k) by unfold vl; rw [List.getElem?_eq_getElem (by omega)]; rfl, ek] at ck
          rw [ek] at hin
          obtain ⟨h1, h2⟩ := own_R hin (HRR.out.2.2 k hk) N (by omega)
          exact ⟨g, d, (hin.lt g rfl).2, ck, h1, h2⟩
        have hGX : G < X.heap.size := (TX.outer.lt G rfl).2
        clear hX hE hN t c f hb4 fx TX hus hsz hB
        go_wp2_with (at_make; refine wpList_make_full _ rfl _ _ 36 rfl w.heap.size 33 i0 (.agg #[.int .i64 0, .int .i64 0]) 2 Try.underlying36 hi hz0 hz1 .i64 .i64 _ _ N rfl rfl rfl rfl (by rw [hz2]; omega) (by unfold maxLen; omega) BX.size ?_; intro w5 hown hgrow; have hblk5 := (hgrow.block E hXs (by simp)).trans hblk; obtain ⟨p0, p1, p2, y0, y1, y2, hEl5⟩ := cells3 hblk5)
        have B5 : Below w.heap.size w w5 := BX.grown hgrow BX.size (fun b e => by cases e)
        have X5 : Below X.heap.size X w5 := (Below.refl _ _).grown hgrow (Nat.le_refl _) (fun b e => by cases e)
        obtain ⟨Rw, hRw⟩ : ∃ g, g = X.heap.size := ⟨_, rfl⟩
        have o5 : w5.ownsRow w.heap.size 33 2 (.slice (some ⟨Rw, 0, none⟩) N N) N (cellsR (upto (fun i => fr (rw' R i) N) (List.replicate N (0, 0)) 0)) := by
          rw [upto_zero, ← madeF, hRw]; exact hown
        have hXR : X.heap.size ≤ Rw := by omega
        have hwR2 : w.heap.size ≤ Rw := by have := BX.size; omega
        rw [← hRw]
        clear hRw hown hgrow hblk hblk5 p0 p1 p2 y0 y1 y2 hEl5 hXs
        go_loopg [89] N (fun g i wr => ∃ k : Nat, k + g = N ∧ i = .int .i64 k ∧ Hid (wr.ownsRow w.heap.size 33 2 (.slice (some ⟨Rw, 0, none⟩) N N) N (cellsR (upto (fun i => fr (rw' R i) N) (List.replicate N (0, 0)) k))) ∧ Hid (Below X.heap.size X wr) ∧ Hid (Below w.heap.size w wr))
        case atStart => exact ⟨0, by omega, rfl, o5, X5, B5⟩
        case round =>
          clear o5 X5 B5
          obtain ⟨k, hkg3, rfl, hO, hX, hB⟩ := hrel
          cases gk with
          | zero =>
            obtain rfl : k = N := by omega
            go_wp2
            refine bodyPost_ret (v := .tuple #[.slice (some ⟨Rw, 0, none⟩) k k, .bool true]) (by simp [results, Try.results53, go_sem]) rfl ⟨_, by rw [HO.out], ?_, hB.out⟩
            rw [HSA.out]
            have e1 : upto (fun i => fr (rw' R i) k) (List.replicate k (0, 0)) k = solX rows right := by
              have := upto_all (fun i => fr (rw' R i) k) (List.replicate k (0, 0))
              rw [List.length_replicate] at this
              rw [this]
              unfold solX
              rw [← HN.out.1, ← HT.out.1, ← HRR.out.1]
            rw [solX_len, ← HN.out.1, ← e1]
            exact hO.out
          | succ g =>
            have hkn : k < N := by omega
            obtain ⟨g0, d0, q1, q2, q3, q4⟩ := HTf.out k hkn
            replace q2 := cell_keep hX.out q2
            replace q3 := cell_keep hX.out q3
            replace q4 := cell_keep hX.out q4
            obtain ⟨p, hp⟩ : ∃ p, p = fr (rw' R k) N := ⟨_, rfl⟩
            have HP := hid hp
            rw [← hp] at q3 q4
            obtain ⟨p1, p2⟩ := p
            have hsl : (upto (fun i => fr (rw' R i) N) (List.replicate N ((0, 0) : Fr)) k).length = N := by rw [upto_len]; simp
            have HSL := hid hsl
            obtain ⟨o1, o2⟩ := own_R hO.out hsl k hkn
            have z1 := hO.out.frozenAt (k * 2)
            have z2 := hO.out.frozenAt (k * 2 + 1)
            generalize ((upto (fun i => fr (rw' R i) N) (List.replicate N ((0, 0) : Fr)) k)[k]?.getD (0, 0)).1 = y1 at o1
            generalize ((upto (fun i => fr (rw' R i) N) (List.replicate N ((0, 0) : Fr)) k)[k]?.getD (0, 0)).2 = y2 at o2
            clear hp hsl
            go_wp2
            go_roundg g
            case measure => omega
            case rel =>
              obtain ⟨s1, s2⟩ := row_set hO.out HSL.out k hkn p1 p2
              refine ⟨k + 1, by omega, by go_num, ?_, (hX.out.setCell (p := ⟨Rw, k * 2, none⟩) hXR _).setCell (p := ⟨Rw, k * 2 + 1, none⟩) hXR _, (hB.out.setCell (p := ⟨Rw, k * 2, none⟩) hwR2 _).setCell (p := ⟨Rw, k * 2 + 1, none⟩) hwR2 _⟩
              show World.ownsRow _ _ _ _ _ _ _
              rw [← upto_set _ _ _ (by simpa using hkn), ← HP.out]
              exact s1
    | succ g =>
      have hkn : k < mr := by omega
      obtain ⟨b, off, u, e, c1, hu⟩ := H5.out k (by have := HN.out.1; omega)
      cases e
      obtain ⟨ar, cr, rfl, -, mm3, -, -⟩ := id hu
      obtain ⟨-, br, offr, rfl, hsrc⟩ := row_src hu rfl (by rw [TRn.out k hkn]; exact hn1)
      rw [TRn.out k hkn] at c1 mm3
      obtain ⟨b2, off2, rfl, y1, y2⟩ := H6.out k (by have := HN.out.2; omega)
      have HSR : Hid (∀ W : World, Below w.heap.size w W → ∀ j u, (cellsR (rw' rows k))[j]? = some u → W.cell? ((⟨br, offr, none⟩ : Addr).add j) = some u) := by
        intro W hW j u' hj
        have h1 := hsrc j u' hj
        have e : (⟨br, offr, none⟩ : Addr).add j = ⟨br, offr + j, none⟩ := by by_cases i0 : j = 0 <;> simp [Addr.add, i0]
        rw [e] at h1 ⊢
        exact cell_keep hW h1
      replace c1 := cell_keep hB.out c1
      replace y1 := cell_keep hB.out y1
      replace y2 := cell_keep hB.out y2
      obtain ⟨r, hr⟩ : ∃ r, r = fr right k := ⟨_, rfl⟩
      have HR := hid hr
      rw [← hr] at y1 y2
      obtain ⟨r1, r2⟩ := r
      have hlu : us'.length = mr := by have := hO.out.len; rw [cpyT_len, HT.out.2.1] at this; exact this
      have HLU := hid hlu
      have hrl : Hid ((cellsR (rw' rows k)).length = mr * 2) := by show _ = _; rw [cellsR_len, TRn.out k hkn]
      clear hsrc hu hr hlu
      go_wp2
      go_region_law (refine step_append_grows rfl (.tmp 53) (.tmp 58) 36 rfl 33 i0 (.agg #[.int .i64 0, .int .i64 0]) 2 16 Try.underlying36 hi hz0 hz1 hz2 rfl (by decide) (some ⟨br, offr, none⟩) mr mr (cellsR (rw' rows k)) (by simp [Act.eval]) (fun h => by cases h) hrl.out (fun b e => by cases e; exact HSR.out _ (by first | exact (hB.out.trans ((b0 _ _).mono hsz)).drew | exact hB.out.trans ((b0 _ _).mono hsz))) ⟨wr.heap.size, 0, none⟩ 1 1 [.int .i64 r1, .int .i64 r2] (by simp [Act.eval]) rfl (fun j u h => by first | exact cell_dr (cell_twoF wr _ _ _ j u h) | exact cell_twoF wr _ _ _ j u h) (by intro u hu; simp at hu; rcases hu with rfl | rfl <;> rfl) (by omega) (by unfold maxLen; omega) (by omega) ?_; intro v' w4 hown hgrow; obtain ⟨av, cv, rfl⟩ := own_shape hown; have Bx : Below wr.heap.size wr w4 := Below.grown (by first | exact (b0 _ _).drew | exact b0 _ _) hgrow (by simp) (fun b e => by cases e); have T4 := hO.out.below Bx; have ho := T4.outer; rw [HLU.out] at ho; have d1 := ho.cellAt k (by omega); have f1 := ho.frozenAt k; rw [List.getElem?_eq_getElem (by have := HLU.out; omega)] at d1; have HT4 := hid T4; have HOW := hid hown; clear T4 ho hown)
      all_goals go_wp2
      all_goals
        go_roundg g
        case measure => omega
        case rel =>
          have how : w4.ownsRow wr.heap.size 33 2 (.slice av (mr + 1) cv) (rw' T k).length (cellsR (rw' T k)) := by
            rw [HT.out.2.2 k hkn, List.length_append, TRn.out k hkn, cellsR_append, ← HR.out]
            have := own_le HOW.out (base' := wr.heap.size) (by simp)
            exact this
          have T5 := HT4.out.put (k := k) (by rw [HLU.out]; exact hkn) (own_le how hsz) (fun i hi _ b hb hb2 => by
            have h1 := hO.out.lt i hi b hb
            have h2 := (how.lt b hb2).1
            omega)
          rw [cpyT_set] at T5
          exact ⟨k + 1, _, by omega, by go_num, T5, (hB.out.trans (Bx.mono hsz)).setCell (p := ⟨Gk, k, none⟩) hwR _⟩
end Go.Proofs.Ytibncepllmjhhaa
