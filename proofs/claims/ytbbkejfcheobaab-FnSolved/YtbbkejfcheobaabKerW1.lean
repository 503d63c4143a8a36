/- The walk of the program's kernelRow. -/
import Derived.Test.YtbbkejfcheobaabKerMath
import Derived.Deep.DeepMust
import Derived.Deep.LoopGhost
namespace Go.Proofs.Ytbbkejfcheobaab
open Go.RowKit Go.Proofs.Ytbbkejfcheobaab.RM

theorem mirI_any (n d : Int) (w : World) :
    Calls Try.prog 51 #[.agg #[.int .i64 n, .int .i64 d]] w fun e w' => e = .returned (.agg #[.int .i64 (wrap64 (-n)), .int .i64 d]) ∧ Below w.heap.size w w' := by
  go_enter Try.func51, Try.ntmps51
  go_wp2
  exact bodyPost_ret (v := .agg #[.int .i64 (wrap64 (-n)), .int .i64 d]) (by simp [results, Try.results51, go_sem]) rfl ⟨rfl, ((Below.refl _ _).alloc (Nat.le_refl _) _).alloc (by simp) _⟩
theorem mirS_any (n d : Int) (w : World) :
    Calls Try.prog 53 #[.agg #[.int .i64 n, .int .i64 d]] w fun e w' => e = .returned (.agg #[.int .i64 (wrap64 (-n)), .int .i64 d]) ∧ Below w.heap.size w w' := by
  go_enter Try.func53, Try.ntmps53
  go_wp2
  exact bodyPost_ret (v := .agg #[.int .i64 (wrap64 (-n)), .int .i64 d]) (by simp [results, Try.results53, go_sem]) rfl ⟨rfl, ((Below.refl _ _).alloc (Nat.le_refl _) _).alloc (by simp) _⟩
/-- a number of a list of columns, as it is read -/
theorem nat_at {W : World} {base g n c : Nat} {C : List Nat} (h : W.ownsRow base 3 1 (.slice (some ⟨g, 0, none⟩) n c) C.length (natV C)) (k : Nat) (hk : k < C.length) : W.cell? ⟨g, k, none⟩ = some (.int .i64 (nt C k : Int)) := by
  have hn : n = C.length := by
    rcases h.2 with ⟨e, _⟩ | ⟨g', c', cur, e, _⟩ <;> cases e; rfl
  subst hn
  have h1 := h.cellAt k (by omega)
  rw [h1]
  unfold natV nt
  rw [List.getElem?_map, List.getElem?_eq_getElem hk]
  rfl
/-- two cells of a row are stored -/
theorem row_set {W : World} {base g L c : Nat} {ps : List Fr} (h : W.ownsRow base 25 2 (.slice (some ⟨g, 0, none⟩) L c) L (cellsR ps)) (hl : ps.length = L) (k : Nat) (hk : k < L) (x y : Int) :
    ((W.setCell ⟨g, k * 2, none⟩ (.int .i64 x)).setCell ⟨g, k * 2 + 1, none⟩ (.int .i64 y)).ownsRow base 25 2 (.slice (some ⟨g, 0, none⟩) L c) L (cellsR (ps.set k (x, y))) ∧ W.grownBy ((W.setCell ⟨g, k * 2, none⟩ (.int .i64 x)).setCell ⟨g, k * 2 + 1, none⟩ (.int .i64 y)) (some g) := by
  obtain ⟨p1, p2⟩ := h.stored (k * 2) (.int .i64 x)
  obtain ⟨p3, p4⟩ := p1.stored (k * 2 + 1) (.int .i64 y)
  rw [cellsR_set _ _ _ _ (by rw [hl]; exact hk)] at p3
  exact ⟨p3, p2.trans p4⟩
theorem blk_set {W : World} {E b : Nat} {cs : Array Value} {t : TypeId} (h : W.heap[E]? = some (.cells cs t (0, 0))) (hne : E ≠ b) (o : Nat) (v : Value) : (W.setCell ⟨b, o, none⟩ v).heap[E]? = some (.cells cs t (0, 0)) := (Below.heap_setCell W ⟨b, o, none⟩ v E hne).trans h

set_option maxRecDepth 1000000 in
set_option maxHeartbeats 4000000 in
theorem kerRow_any (vm vc vf : Value) (us : List Value) (R : List (List Fr)) (C F : List Nat) (L col b1 b2 b3 : Nat) (w : World) (ht : Tab w b1 vm us R) (hc : w.ownsRow b2 3 1 vc C.length (natV C)) (hf : w.ownsRow b3 3 1 vf F.length (natV F))
    (hL1 : 1 ≤ L) (hL2 : L ≤ 1000) (hR : 1 ≤ R.length) (hRL : ∀ x, x < R.length → (rw' R x).length = L) (hCR : C.length ≤ R.length) (hR2 : R.length ≤ 1000) (hCL : ∀ c, c ∈ C → c < L) (hFL : ∀ c, c ∈ F → c < L) (hF2 : F.length ≤ 1000) (hcol : col < L) :
    Calls Try.prog 96 #[.agg #[vm, vc, vf], .int .i64 col] w fun e w' => ∃ g, e = .returned (.slice (some ⟨g, 0, none⟩) L L) ∧ w'.ownsRow w.heap.size 25 2 (.slice (some ⟨g, 0, none⟩) L L) L (cellsR (setsK R C col C.length ((setsF F F.length (List.replicate L (0, 0))).set col (1, 1)))) ∧ Below w.heap.size w w' := by
  obtain ⟨i0, hi, hz0, hz1, hz2⟩ := info_parts infoF
  have hul := ht.len
  obtain ⟨G, cG, rfl⟩ := own_some ht.outer (by omega)
  obtain ⟨ac, cc, rfl⟩ := own_shape hc
  obtain ⟨af, cf, rfl⟩ := own_shape hf
  obtain ⟨N, hN⟩ : ∃ n, n = us.length := ⟨_, rfl⟩
  obtain ⟨nc, hnc⟩ : ∃ n, n = C.length := ⟨_, rfl⟩
  obtain ⟨nf, hnf⟩ : ∃ n, n = F.length := ⟨_, rfl⟩
  have ho := ht.outer
  have c0 := ho.cellAt 0 (by omega)
  obtain ⟨g0, d0, e0⟩ := own_some (ht.inner 0 (by omega)) (by rw [hRL 0 (by omega)]; omega)
  rw [hRL 0 (by omega)] at e0
  rw [show us[0]? = some (vl us 0) by unfold vl; rw [List.getElem?_eq_getElem (by omega)]; rfl, e0] at c0
  have HT : Hid (∀ k, k < R.length → ∃ g d, w.cell? ⟨G, k, none⟩ = some (.slice (some ⟨g, 0, none⟩) L d) ∧ w.cell? ⟨g, col * 2, none⟩ = some (.int .i64 (fr (rw' R k) col).1) ∧ w.cell? ⟨g, col * 2 + 1, none⟩ = some (.int .i64 (fr (rw' R k) col).2)) := by
    intro k hk
    have ck := ho.cellAt k (by omega)
    have hin := ht.inner k (by omega)
    rw [hRL k hk] at hin
    obtain ⟨g, d, ek⟩ := own_some hin (by omega)
    rw [show us[k]? = some (vl us k) by unfold vl; rw [List.getElem?_eq_getElem (by omega)]; rfl, ek] at ck
    rw [ek] at hin
    obtain ⟨h1, h2⟩ := own_R hin (hRL k hk) col hcol
    exact ⟨g, d, ck, h1, h2⟩
  have HC : Hid (∀ k, k < C.length → ∃ g, ac = some ⟨g, 0, none⟩ ∧ w.cell? ⟨g, k, none⟩ = some (.int .i64 (nt C k : Int)) ∧ nt C k < L) := by
    intro k hk
    obtain ⟨g, c', e⟩ := own_some hc (by omega)
    cases e
    exact ⟨g, rfl, nat_at hc k hk, hCL _ (nt_mem hk)⟩
  have HF : Hid (∀ k, k < F.length → ∃ g, af = some ⟨g, 0, none⟩ ∧ w.cell? ⟨g, k, none⟩ = some (.int .i64 (nt F k : Int)) ∧ nt F k < L) := by
    intro k hk
    obtain ⟨g, c', e⟩ := own_some hf (by omega)
    cases e
    exact ⟨g, rfl, nat_at hf k hk, hFL _ (nt_mem hk)⟩
  have HN : Hid (N = us.length ∧ us.length = R.length ∧ nc = C.length ∧ nf = F.length) := ⟨hN, hul, hnc, hnf⟩
  rw [← hN, ← hnc, ← hnf]
  have hN1 : 1 ≤ N := by omega
  have hN2 : N ≤ 1000 := by omega
  have hncN : nc ≤ N := by omega
  have hnf2 : nf ≤ 1000 := by omega
  clear ht hc hf ho e0 hul hN hnc hnf hR hRL hCR hR2 hCL hFL hF2
  go_enter Try.func96, Try.ntmps96
  go_upto_region 1 with fail
  obtain ⟨E, hE⟩ : ∃ E, E = w.heap.size := ⟨_, rfl⟩
  obtain ⟨X, hX⟩ : ∃ X, X = w.alloc (.cells #[.slice (some ⟨G, 0, none⟩) N cG, .slice ac nc cc, .slice af nf cf] 80) := ⟨_, rfl⟩
  have hblk : X.heap[E]? = some (.cells #[.slice (some ⟨G, 0, none⟩) N cG, .slice ac nc cc, .slice af nf cf] 80 (0, 0)) := by rw [hX, hE]; exact World.alloc_heap_new w _
  have BX : Below w.heap.size w X := by rw [hX]; exact (Below.refl _ _).alloc (Nat.le_refl _) _
  have hXs : X.heap.size = E + 1 := by rw [hX, hE]; simp
  rw [← hX, ← hE]
  have c0X := cell_keep BX c0
  obtain ⟨r0, r1, r2, z0, z1, z2, hEl⟩ := cells3 hblk
  have hwE : w.heap.size ≤ E := by omega
  have HXS := hid hXs
  clear hX hE hXs
  go_wp2_with (at_make; refine wpList_make_full _ rfl _ _ 44 rfl w.heap.size 25 i0 (.agg #[.int .i64 0, .int .i64 0]) 2 Try.underlying44 hi hz0 hz1 .i64 .i64 _ _ L rfl rfl rfl rfl (by rw [hz2]; omega) (by unfold maxLen; omega) BX.size ?_; intro w3 hown hgrow; have hblk3 := (hgrow.block E hEl (by simp)).trans hblk; obtain ⟨p0, p1, p2, y0, y1, y2, hEl3⟩ := cells3 hblk3)
  have B3 : Below w.heap.size w w3 := BX.grown hgrow BX.size (fun b e => by cases e)
  obtain ⟨Rw, hRw⟩ : ∃ g, g = X.heap.size := ⟨_, rfl⟩
  have o0 : w3.ownsRow w.heap.size 25 2 (.slice (some ⟨Rw, 0, none⟩) L L) L (cellsR (setsF F 0 (List.replicate L (0, 0)))) := by
    rw [hRw]; show World.ownsRow _ _ _ _ _ _ _; rw [show setsF F 0 (List.replicate L ((0, 0) : Fr)) = List.replicate L (0, 0) from rfl, ← madeF]; exact hown
  have hER : E ≠ Rw := by have := HXS.out; omega
  have hwR : w.heap.size ≤ Rw := by have := HXS.out; omega
  rw [← hRw]
  clear hRw hown hgrow hblk HXS r0 r1 r2 z0 z1 z2 hEl c0X BX p0 p1 p2 y0 y1 y2 hEl3
  go_loopg [19] nf (fun g i wr => ∃ k : Nat, k + g = nf ∧ i = .int .i64 k ∧ Hid (wr.ownsRow w.heap.size 25 2 (.slice (some ⟨Rw, 0, none⟩) L L) L (cellsR (setsF F k (List.replicate L (0, 0))))) ∧ Hid (wr.heap[E]? = some (.cells #[.slice (some ⟨G, 0, none⟩) N cG, .slice ac nc cc, .slice af nf cf] 80 (0, 0))) ∧ Hid (Below w.heap.size w wr))
  case atStart => exact ⟨0, by omega, rfl, o0, hblk3, B3⟩
  case round =>
    clear o0 hblk3 B3
    obtain ⟨kf, hkg, rfl, hO, hK, hB⟩ := hrel
    cases gk with
    | zero =>
      obtain rfl : kf = nf := by omega
      have hsl : (setsF F kf (List.replicate L ((0, 0) : Fr))).length = L := by rw [setsF_len]; simp
      obtain ⟨o1, o2⟩ := own_R hO.out hsl col hcol
      have z1 := hO.out.frozenAt (col * 2)
      have z2 := hO.out.frozenAt (col * 2 + 1)
      generalize ((setsF F kf (List.replicate L ((0, 0) : Fr)))[col]?.getD (0, 0)).1 = y1 at o1
      generalize ((setsF F kf (List.replicate L ((0, 0) : Fr)))[col]?.getD (0, 0)).2 = y2 at o2
      obtain ⟨s1, s2⟩ := row_set hO.out hsl col hcol 1 1
      have K2 := blk_set (blk_set hK.out hER (col * 2) (.int .i64 1)) hER (col * 2 + 1) (.int .i64 1)
      have B2 := (hB.out.setCell (p := ⟨Rw, col * 2, none⟩) hwR (.int .i64 1)).setCell (p := ⟨Rw, col * 2 + 1, none⟩) hwR (.int .i64 1)
      clear hsl
      go_upto_region 8 with fail
      obtain ⟨Y, hY⟩ : ∃ Y, Y = (wr.setCell ⟨Rw, col * 2, none⟩ (.int .i64 1)).setCell ⟨Rw, col * 2 + 1, none⟩ (.int .i64 1) := ⟨_, rfl⟩
      rw [← hY] at s1 K2 B2 ⊢
      clear hY o1 o2 z1 z2 s2 hO hK hB
      obtain ⟨bs, hbs⟩ : ∃ b, b = (setsF F kf (List.replicate L ((0, 0) : Fr))).set col (1, 1) := ⟨_, rfl⟩
      have HBS := hid hbs
      have hbl : bs.length = L := by rw [hbs, List.length_set, setsF_len]; simp
      have HBL := hid hbl
      rw [← hbs] at s1
      obtain ⟨r0, r1, r2, _, _, _, hEl⟩ := cells3 K2
      clear hbs hbl
      go_wp2
      clear r0 r1 r2 hEl
      go_loopg [35] nc (fun g i wr => ∃ k : Nat, k + g = nc ∧ i = .int .i64 k ∧ Hid (wr.ownsRow w.heap.size 25 2 (.slice (some ⟨Rw, 0, none⟩) L L) L (cellsR (setsK R C col k bs))) ∧ Hid (wr.heap[E]? = some (.cells #[.slice (some ⟨G, 0, none⟩) N cG, .slice ac nc cc, .slice af kf cf] 80 (0, 0))) ∧ Hid (Below w.heap.size w wr))
      case atStart => exact ⟨0, by omega, rfl, s1, K2, B2⟩
      case round =>
        clear s1 K2 B2
        obtain ⟨k, hkg2, rfl, hO, hK, hB⟩ := hrel
        cases gk with
        | zero =>
          obtain rfl : k = nc := by omega
          go_wp2
          go_ret
          refine ⟨Rw, rfl, ?_, hB.out⟩
          have := hO.out
          rw [HBS.out] at this
          exact this
        | succ g =>
          have hkn : k < nc := by omega
          obtain ⟨gc, rfl, f1, f2⟩ := HC.out k (by have := HN.out.2.2.1; omega)
          replace f1 := cell_keep hB.out f1
          obtain ⟨gr, dr, t1, t2, t3⟩ := HT.out k (by have := HN.out; omega)
          replace t1 := cell_keep hB.out t1
          replace t2 := cell_keep hB.out t2
          replace t3 := cell_keep hB.out t3
          obtain ⟨x, hx⟩ : ∃ x, x = nt C k := ⟨_, rfl⟩
          obtain ⟨p, hp⟩ : ∃ p, p = fr (rw' R k) col := ⟨_, rfl⟩
          have HX : Hid (x = nt C k ∧ p = fr (rw' R k) col) := ⟨hx, hp⟩
          rw [← hx] at f1 f2
          rw [← hp] at t2 t3
          obtain ⟨p1, p2⟩ := p
          have hsl : (setsK R C col k bs).length = L := by rw [setsK_len]; exact HBL.out
          have HSL := hid hsl
          have hkN : k < N := by omega
          obtain ⟨r0, r1, r2, _, _, _, hEl⟩ := cells3 hK.out
          clear hx hp hsl
          go_wp2_with (go_at_call 51; refine (mirI_any p1 p2 _).mono ?_; rintro e w4 ⟨rfl, hb4⟩; have O4 : w4.ownsRow w.heap.size 25 2 (.slice (some ⟨Rw, 0, none⟩) L L) L (cellsR (setsK R C col k bs)) := own_below hO.out hb4; obtain ⟨o1, o2⟩ := own_R O4 HSL.out x f2; have z1 := O4.frozenAt (x * 2); have z2 := O4.frozenAt (x * 2 + 1); have HO4 := hid O4; clear O4)
          go_roundg g
          case measure => omega
          case rel =>
            obtain ⟨s1, s2⟩ := row_set HO4.out HSL.out x f2 (wrap64 (-p1)) p2
            have B4 := hB.out.trans (hb4.mono hB.out.size)
            refine ⟨k + 1, by omega, by go_num, ?_, blk_set (blk_set ((hb4.block E (cells3 hK.out).2.2.2.2.2.2).trans hK.out) hER _ _) hER _ _, (B4.setCell (p := ⟨Rw, x * 2, none⟩) hwR _).setCell (p := ⟨Rw, x * 2 + 1, none⟩) hwR _⟩
            show World.ownsRow _ _ _ _ _ _ _
            have e1 : setsK R C col (k + 1) bs = (setsK R C col k bs).set x (wrap64 (-p1), p2) := by
              simp only [setsK]
              rw [← HX.out.1, ← HX.out.2]
              rfl
            rw [e1]
            exact s1
    | succ g =>
      have hkn : kf < nf := by omega
      obtain ⟨gf, rfl, f1, f2⟩ := HF.out kf (by have := HN.out.2.2.2; omega)
      replace f1 := cell_keep hB.out f1
      obtain ⟨x, hx⟩ : ∃ x, x = nt F kf := ⟨_, rfl⟩
      have HX := hid hx
      rw [← hx] at f1 f2
      have hsl : (setsF F kf (List.replicate L ((0, 0) : Fr))).length = L := by rw [setsF_len]; simp
      obtain ⟨o1, o2⟩ := own_R hO.out hsl x f2
      have z1 := hO.out.frozenAt (x * 2)
      have z2 := hO.out.frozenAt (x * 2 + 1)
      generalize ((setsF F kf (List.replicate L ((0, 0) : Fr)))[x]?.getD (0, 0)).1 = y1 at o1
      generalize ((setsF F kf (List.replicate L ((0, 0) : Fr)))[x]?.getD (0, 0)).2 = y2 at o2
      have HSL := hid hsl
      clear hx hsl
      go_wp2
      go_roundg g
      case measure => omega
      case rel =>
        obtain ⟨s1, s2⟩ := row_set hO.out HSL.out x f2 0 1
        refine ⟨kf + 1, by omega, by go_num, ?_, blk_set (blk_set hK.out hER _ _) hER _ _, (hB.out.setCell (p := ⟨Rw, x * 2, none⟩) hwR _).setCell (p := ⟨Rw, x * 2 + 1, none⟩) hwR _⟩
        show World.ownsRow _ _ _ _ _ _ _
        rw [HX.out] at s1 ⊢
        exact s1
end Go.Proofs.Ytbbkejfcheobaab
