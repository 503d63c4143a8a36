/- Several texts of this proof laid one behind the other: each has its own heading below. -/
import Derived.Test.YtbbkejfcheobaabPk4
import Derived.Deep.DeepMust
import Derived.Deep.LoopGhost
import Derived.Test.YtbbkejfcheobaabPk1
import Derived.Maps.AppendAt
import Derived.Deep.RegionWith

/- The walk of the program's kernelRow. -/
namespace Go.Proofs.Ytbbkejfcheobaab
open Go.RowKit Go.Proofs.Ytbbkejfcheobaab.RM

theorem mirI_any (n d : Int) (w : World) :
    Calls Try.prog 51 #[.agg #[.int .i64 n, .int .i64 d]] w fun e w' => e = .returned (.agg #[.int .i64 (wrap64 (-n)), .int .i64 d]) ∧ Below w.heap.size w w' := by
  go_enter Try.func51, Try.ntmps51
  go_wp2
  exact bodyPost_ret (v := .agg #[.int .i64 (wrap64 (-n)), .int .i64 d]) (by simp [results, Try.results51, go_sem]) rfl ⟨rfl, ((Below.refl _ _).alloc (Nat.le_refl _) _).alloc (by simp) _⟩
theorem mirS_any (n d : Int) (w : World) :
    Calls Try.prog 53 #[.agg #[.int .i64 n, .int .i64 d]] w fun e w' => e = .returned (.agg #[.int .i64 (wrap64 (-n)), .int .i64 d]) ∧ Below w.heap.size w w' := by
  go_enter Try.func53, Try.ntmps53
  go_wp2
  exact bodyPost_ret (v := .agg #[.int .i64 (wrap64 (-n)), .int .i64 d]) (by simp [results, Try.results53, go_sem]) rfl ⟨rfl, ((Below.refl _ _).alloc (Nat.le_refl _) _).alloc (by simp) _⟩
/-- a number of a list of columns, as it is read -/
theorem nat_at {W : World} {base g n c : Nat} {C : List Nat} (h : W.ownsRow base 3 1 (.slice (some ⟨g, 0, none⟩) n c) C.length (natV C)) (k : Nat) (hk : k < C.length) : W.cell? ⟨g, k, none⟩ = some (.int .i64 (nt C k : Int)) := by
  have hn : n = C.length := by
    rcases h.2 with ⟨e, _⟩ | ⟨g', c', cur, e, _⟩ <;> cases e; rfl
  subst hn
  have h1 := h.cellAt k (by omega)
  rw [h1]
  unfold natV nt
  rw [List.getElem?_map, List.getElem?_eq_getElem hk]
  rfl
/-- two cells of a row are stored -/
theorem row_set {W : World} {base g L c : Nat} {ps : List Fr} (h : W.ownsRow base 25 2 (.slice (some ⟨g, 0, none⟩) L c) L (cellsR ps)) (hl : ps.length = L) (k : Nat) (hk : k < L) (x y : Int) :
    ((W.setCell ⟨g, k * 2, none⟩ (.int .i64 x)).setCell ⟨g, k * 2 + 1, none⟩ (.int .i64 y)).ownsRow base 25 2 (.slice (some ⟨g, 0, none⟩) L c) L (cellsR (ps.set k (x, y))) ∧ W.grownBy ((W.setCell ⟨g, k * 2, none⟩ (.int .i64 x)).setCell ⟨g, k * 2 + 1, none⟩ (.int .i64 y)) (some g) := by
  obtain ⟨p1, p2⟩ := h.stored (k * 2) (.int .i64 x)
  obtain ⟨p3, p4⟩ := p1.stored (k * 2 + 1) (.int .i64 y)
  rw [cellsR_set _ _ _ _ (by rw [hl]; exact hk)] at p3
  exact ⟨p3, p2.trans p4⟩
theorem blk_set {W : World} {E b : Nat} {cs : Array Value} {t : TypeId} (h : W.heap[E]? = some (.cells cs t (0, 0))) (hne : E ≠ b) (o : Nat) (v : Value) : (W.setCell ⟨b, o, none⟩ v).heap[E]? = some (.cells cs t (0, 0)) := (Below.heap_setCell W ⟨b, o, none⟩ v E hne).trans h

set_option maxRecDepth 1000000 in
set_option maxHeartbeats 4000000 in
theorem kerRow_any (vm vc vf : Value) (us : List Value) (R : List (List Fr)) (C F : List Nat) (L col b1 b2 b3 : Nat) (w : World) (ht : Tab w b1 vm us R) (hc : w.ownsRow b2 3 1 vc C.length (natV C)) (hf : w.ownsRow b3 3 1 vf F.length (natV F))
    (hL1 : 1 ≤ L) (hL2 : L ≤ 1000) (hR : 1 ≤ R.length) (hRL : ∀ x, x < R.length → (rw' R x).length = L) (hCR : C.length ≤ R.length) (hR2 : R.length ≤ 1000) (hCL : ∀ c, c ∈ C → c < L) (hFL : ∀ c, c ∈ F → c < L) (hF2 : F.length ≤ 1000) (hcol : col < L) :
    Calls Try.prog 96 #[.agg #[vm, vc, vf], .int .i64 col] w fun e w' => ∃ g, e = .returned (.slice (some ⟨g, 0, none⟩) L L) ∧ w'.ownsRow w.heap.size 25 2 (.slice (some ⟨g, 0, none⟩) L L) L (cellsR (setsK R C col C.length ((setsF F F.length (List.replicate L (0, 0))).set col (1, 1)))) ∧ Below w.heap.size w w' := by
  obtain ⟨i0, hi, hz0, hz1, hz2⟩ := info_parts infoF
  have hul := ht.len
  obtain ⟨G, cG, rfl⟩ := own_some ht.outer (by omega)
  obtain ⟨ac, cc, rfl⟩ := own_shape hc
  obtain ⟨af, cf, rfl⟩ := own_shape hf
  obtain ⟨N, hN⟩ : ∃ n, n = us.length := ⟨_, rfl⟩
  obtain ⟨nc, hnc⟩ : ∃ n, n = C.length := ⟨_, rfl⟩
  obtain ⟨nf, hnf⟩ : ∃ n, n = F.length := ⟨_, rfl⟩
  have ho := ht.outer
  have c0 := ho.cellAt 0 (by omega)
  obtain ⟨g0, d0, e0⟩ := own_some (ht.inner 0 (by omega)) (by rw [hRL 0 (by omega)]; omega)
  rw [hRL 0 (by omega)] at e0
  rw [show us[0]? = some (vl us 0) by unfold vl; rw [List.getElem?_eq_getElem (by omega)]; rfl, e0] at c0
  have HT : Hid (∀ k, k < R.length → ∃ g d, w.cell? ⟨G, k, none⟩ = some (.slice (some ⟨g, 0, none⟩) L d) ∧ w.cell? ⟨g, col * 2, none⟩ = some (.int .i64 (fr (rw' R k) col).1) ∧ w.cell? ⟨g, col * 2 + 1, none⟩ = some (.int .i64 (fr (rw' R k) col).2)) := by
    intro k hk
    have ck := ho.cellAt k (by omega)
    have hin := ht.inner k (by omega)
    rw [hRL k hk] at hin
    obtain ⟨g, d, ek⟩ := own_some hin (by omega)
    rw [show us[k]? = some (vl us k) by unfold vl; rw [List.getElem?_eq_getElem (by omega)]; rfl, ek] at ck
    rw [ek] at hin
    obtain ⟨h1, h2⟩ := own_R hin (hRL k hk) col hcol
    exact ⟨g, d, ck, h1, h2⟩
  have HC : Hid (∀ k, k < C.length → ∃ g, ac = some ⟨g, 0, none⟩ ∧ w.cell? ⟨g, k, none⟩ = some (.int .i64 (nt C k : Int)) ∧ nt C k < L) := by
    intro k hk
    obtain ⟨g, c', e⟩ := own_some hc (by omega)
    cases e
    exact ⟨g, rfl, nat_at hc k hk, hCL _ (nt_mem hk)⟩
  have HF : Hid (∀ k, k < F.length → ∃ g, af = some ⟨g, 0, none⟩ ∧ w.cell? ⟨g, k, none⟩ = some (.int .i64 (nt F k : Int)) ∧ nt F k < L) := by
    intro k hk
    obtain ⟨g, c', e⟩ := own_some hf (by omega)
    cases e
    exact ⟨g, rfl, nat_at hf k hk, hFL _ (nt_mem hk)⟩
  have HN : Hid (N = us.length ∧ us.length = R.length ∧ nc = C.length ∧ nf = F.length) := ⟨hN, hul, hnc, hnf⟩
  rw [← hN, ← hnc, ← hnf]
  have hN1 : 1 ≤ N := by omega
  have hN2 : N ≤ 1000 := by omega
  have hncN : nc ≤ N := by omega
  have hnf2 : nf ≤ 1000 := by omega
  clear ht hc hf ho e0 hul hN hnc hnf hR hRL hCR hR2 hCL hFL hF2
  go_enter Try.func96, Try.ntmps96
  go_upto_region 1 with fail
  obtain ⟨E, hE⟩ : ∃ E, E = w.heap.size := ⟨_, rfl⟩
  obtain ⟨X, hX⟩ : ∃ X, X = w.alloc (.cells #[.slice (some ⟨G, 0, none⟩) N cG, .slice ac nc cc, .slice af nf cf] 80) := ⟨_, rfl⟩
  have hblk : X.heap[E]? = some (.cells #[.slice (some ⟨G, 0, none⟩) N cG, .slice ac nc cc, .slice af nf cf] 80 (0, 0)) := by rw [hX, hE]; exact World.alloc_heap_new w _
  have BX : Below w.heap.size w X := by rw [hX]; exact (Below.refl _ _).alloc (Nat.le_refl _) _
  have hXs : X.heap.size = E + 1 := by rw [hX, hE]; simp
  rw [← hX, ← hE]
  have c0X := cell_keep BX c0
  obtain ⟨r0, r1, r2, z0, z1, z2, hEl⟩ := cells3 hblk
  have hwE : w.heap.size ≤ E := by omega
  have HXS := hid hXs
  clear hX hE hXs
  go_wp2_with (at_make; refine wpList_make_full _ rfl _ _ 44 rfl w.heap.size 25 i0 (.agg #[.int .i64 0, .int .i64 0]) 2 Try.underlying44 hi hz0 hz1 .i64 .i64 _ _ L rfl rfl rfl rfl (by rw [hz2]; omega) (by unfold maxLen; omega) BX.size ?_; intro w3 hown hgrow; have hblk3 := (hgrow.block E hEl (by simp)).trans hblk; obtain ⟨p0, p1, p2, y0, y1, y2, hEl3⟩ := cells3 hblk3)
  have B3 : Below w.heap.size w w3 := BX.grown hgrow BX.size (fun b e => by cases e)
  obtain ⟨Rw, hRw⟩ : ∃ g, g = X.heap.size := ⟨_, rfl⟩
  have o0 : w3.ownsRow w.heap.size 25 2 (.slice (some ⟨Rw, 0, none⟩) L L) L (cellsR (setsF F 0 (List.replicate L (0, 0)))) := by
    rw [hRw]; show World.ownsRow _ _ _ _ _ _ _; rw [show setsF F 0 (List.replicate L ((0, 0) : Fr)) = List.replicate L (0, 0) from rfl, ← madeF]; exact hown
  have hER : E ≠ Rw := by have := HXS.out; omega
  have hwR : w.heap.size ≤ Rw := by have := HXS.out; omega
  rw [← hRw]
  clear hRw hown hgrow hblk HXS r0 r1 r2 z0 z1 z2 hEl c0X BX p0 p1 p2 y0 y1 y2 hEl3
  go_loopg [19] nf (fun g i wr => ∃ k : Nat, k + g = nf ∧ i = .int .i64 k ∧ Hid (wr.ownsRow w.heap.size 25 2 (.slice (some ⟨Rw, 0, none⟩) L L) L (cellsR (setsF F k (List.replicate L (0, 0))))) ∧ Hid (wr.heap[E]? = some (.cells #[.slice (some ⟨G, 0, none⟩) N cG, .slice ac nc cc, .slice af nf cf] 80 (0, 0))) ∧ Hid (Below w.heap.size w wr))
  case atStart => exact ⟨0, by omega, rfl, o0, hblk3, B3⟩
  case round =>
    clear o0 hblk3 B3
    obtain ⟨kf, hkg, rfl, hO, hK, hB⟩ := hrel
    cases gk with
    | zero =>
      obtain rfl : kf = nf := by omega
      have hsl : (setsF F kf (List.replicate L ((0, 0) : Fr))).length = L := by rw [setsF_len]; simp
      obtain ⟨o1, o2⟩ := own_R hO.out hsl col hcol
      have z1 := hO.out.frozenAt (col * 2)
      have z2 := hO.out.frozenAt (col * 2 + 1)
      generalize ((setsF F kf (List.replicate L ((0, 0) : Fr)))[col]?.getD (0, 0)).1 = y1 at o1
      generalize ((setsF F kf (List.replicate L ((0, 0) : Fr)))[col]?.getD (0, 0)).2 = y2 at o2
      obtain ⟨s1, s2⟩ := row_set hO.out hsl col hcol 1 1
      have K2 := blk_set (blk_set hK.out hER (col * 2) (.int .i64 1)) hER (col * 2 + 1) (.int .i64 1)
      have B2 := (hB.out.setCell (p := ⟨Rw, col * 2, none⟩) hwR (.int .i64 1)).setCell (p := ⟨Rw, col * 2 + 1, none⟩) hwR (.int .i64 1)
      clear hsl
      go_upto_region 8 with fail
      obtain ⟨Y, hY⟩ : ∃ Y, Y = (wr.setCell ⟨Rw, col * 2, none⟩ (.int .i64 1)).setCell ⟨Rw, col * 2 + 1, none⟩ (.int .i64 1) := ⟨_, rfl⟩
      rw [← hY] at s1 K2 B2 ⊢
      clear hY o1 o2 z1 z2 s2 hO hK hB
      obtain ⟨bs, hbs⟩ : ∃ b, b = (setsF F kf (List.replicate L ((0, 0) : Fr))).set col (1, 1) := ⟨_, rfl⟩
      have HBS := hid hbs
      have hbl : bs.length = L := by rw [hbs, List.length_set, setsF_len]; simp
      have HBL := hid hbl
      rw [← hbs] at s1
      obtain ⟨r0, r1, r2, _, _, _, hEl⟩ := cells3 K2
      clear hbs hbl
      go_wp2
      clear r0 r1 r2 hEl
      go_loopg [35] nc (fun g i wr => ∃ k : Nat, k + g = nc ∧ i = .int .i64 k ∧ Hid (wr.ownsRow w.heap.size 25 2 (.slice (some ⟨Rw, 0, none⟩) L L) L (cellsR (setsK R C col k bs))) ∧ Hid (wr.heap[E]? = some (.cells #[.slice (some ⟨G, 0, none⟩) N cG, .slice ac nc cc, .slice af kf cf] 80 (0, 0))) ∧ Hid (Below w.heap.size w wr))
      case atStart => exact ⟨0, by omega, rfl, s1, K2, B2⟩
      case round =>
        clear s1 K2 B2
        obtain ⟨k, hkg2, rfl, hO, hK, hB⟩ := hrel
        cases gk with
        | zero =>
          obtain rfl : k = nc := by omega
          go_wp2
          go_ret
          refine ⟨Rw, rfl, ?_, hB.out⟩
          have := hO.out
          rw [HBS.out] at this
          exact this
        | succ g =>
          have hkn : k < nc := by omega
          obtain ⟨gc, rfl, f1, f2⟩ := HC.out k (by have := HN.out.2.2.1; omega)
          replace f1 := cell_keep hB.out f1
          obtain ⟨gr, dr, t1, t2, t3⟩ := HT.out k (by have := HN.out; omega)
          replace t1 := cell_keep hB.out t1
          replace t2 := cell_keep hB.out t2
          replace t3 := cell_keep hB.out t3
          obtain ⟨x, hx⟩ : ∃ x, x = nt C k := ⟨_, rfl⟩
          obtain ⟨p, hp⟩ : ∃ p, p = fr (rw' R k) col := ⟨_, rfl⟩
          have HX : Hid (x = nt C k ∧ p = fr (rw' R k) col) := ⟨hx, hp⟩
          rw [← hx] at f1 f2
          rw [← hp] at t2 t3
          obtain ⟨p1, p2⟩ := p
          have hsl : (setsK R C col k bs).length = L := by rw [setsK_len]; exact HBL.out
          have HSL := hid hsl
          have hkN : k < N := by omega
          obtain ⟨r0, r1, r2, _, _, _, hEl⟩ := cells3 hK.out
          clear hx hp hsl
          go_wp2_with (go_at_call 51; refine (mirI_any p1 p2 _).mono ?_; rintro e w4 ⟨rfl, hb4⟩; have O4 : w4.ownsRow w.heap.size 25 2 (.slice (some ⟨Rw, 0, none⟩) L L) L (cellsR (setsK R C col k bs)) := own_below hO.out hb4; obtain ⟨o1, o2⟩ := own_R O4 HSL.out x f2; have z1 := O4.frozenAt (x * 2); have z2 := O4.frozenAt (x * 2 + 1); have HO4 := hid O4; clear O4)
          go_roundg g
          case measure => omega
          case rel =>
            obtain ⟨s1, s2⟩ := row_set HO4.out HSL.out x f2 (wrap64 (-p1)) p2
            have B4 := hB.out.trans (hb4.mono hB.out.size)
            refine ⟨k + 1, by omega, by go_num, ?_, blk_set (blk_set ((hb4.block E (cells3 hK.out).2.2.2.2.2.2).trans hK.out) hER _ _) hER _ _, (B4.setCell (p := ⟨Rw, x * 2, none⟩) hwR _).setCell (p := ⟨Rw, x * 2 + 1, none⟩) hwR _⟩
            show World.ownsRow _ _ _ _ _ _ _
            have e1 : setsK R C col (k + 1) bs = (setsK R C col k bs).set x (wrap64 (-p1), p2) := by
              simp only [setsK]
              rw [← HX.out.1, ← HX.out.2]
              rfl
            rw [e1]
            exact s1
    | succ g =>
      have hkn : kf < nf := by omega
      obtain ⟨gf, rfl, f1, f2⟩ := HF.out kf (by have := HN.out.2.2.2; omega)
      replace f1 := cell_keep hB.out f1
      obtain ⟨x, hx⟩ : ∃ x, x = nt F kf := ⟨_, rfl⟩
      have HX := hid hx
      rw [← hx] at f1 f2
      have hsl : (setsF F kf (List.replicate L ((0, 0) : Fr))).length = L := by rw [setsF_len]; simp
      obtain ⟨o1, o2⟩ := own_R hO.out hsl x f2
      have z1 := hO.out.frozenAt (x * 2)
      have z2 := hO.out.frozenAt (x * 2 + 1)
      generalize ((setsF F kf (List.replicate L ((0, 0) : Fr)))[x]?.getD (0, 0)).1 = y1 at o1
      generalize ((setsF F kf (List.replicate L ((0, 0) : Fr)))[x]?.getD (0, 0)).2 = y2 at o2
      have HSL := hid hsl
      clear hx hsl
      go_wp2
      go_roundg g
      case measure => omega
      case rel =>
        obtain ⟨s1, s2⟩ := row_set hO.out HSL.out x f2 0 1
        refine ⟨kf + 1, by omega, by go_num, ?_, blk_set (blk_set hK.out hER _ _) hER _ _, (hB.out.setCell (p := ⟨Rw, x * 2, none⟩) hwR _).setCell (p := ⟨Rw, x * 2 + 1, none⟩) hwR _⟩
        show World.ownsRow _ _ _ _ _ _ _
        rw [HX.out] at s1 ⊢
        exact s1
end Go.Proofs.Ytbbkejfcheobaab

/- The walks of the program's kernel and Kernel. -/
namespace Go.Proofs.Ytbbkejfcheobaab
open Go.RowKit Go.Proofs.Ytbbkejfcheobaab.RM

theorem rw_map (f : Nat → List Fr) (F : List Nat) (k : Nat) (h : k < F.length) : rw' (F.map f) k = f (nt F k) := by
  show (List.map _ _)[k]?.getD [] = _
  unfold nt
  rw [List.getElem?_map, List.getElem?_eq_getElem h]
  rfl

set_option maxRecDepth 1000000 in
set_option maxHeartbeats 4000000 in
theorem kernel_any (vm vc vf : Value) (us : List Value) (R : List (List Fr)) (C : List Nat) (L b1 b2 b3 : Nat) (w : World) (ht : Tab w b1 vm us R) (hc : w.ownsRow b2 3 1 vc C.length (natV C)) (hf : w.ownsRow b3 3 1 vf (freeC L C).length (natV (freeC L C)))
    (hL1 : 1 ≤ L) (hL2 : L ≤ 1000) (hR : 1 ≤ R.length) (hRL : ∀ x, x < R.length → (rw' R x).length = L) (hCR : C.length ≤ R.length) (hR2 : R.length ≤ 1000) (hCL : ∀ c, c ∈ C → c < L) :
    Calls Try.prog 65 #[.agg #[vm, vc, vf]] w fun e w' => ∃ v us', e = .returned v ∧ Tab w' w.heap.size v us' ((freeC L C).map (kerRow R C L)) ∧ Below w.heap.size w w' := by
  obtain ⟨t0, hti, htz0, htz1, htz2⟩ := info_parts infoT
  obtain ⟨F, hF⟩ : ∃ F, F = freeC L C := ⟨_, rfl⟩
  rw [← hF] at hf ⊢
  have hF2 : F.length ≤ 1000 := by rw [hF]; have := freeC_len L C; omega
  have hFL : ∀ c, c ∈ F → c < L := by intro c h; rw [hF] at h; exact (freeC_mem.1 h).1
  have HK : Hid (∀ (W : World) (col : Nat), Below w.heap.size w W → col < L → Calls Try.prog 96 #[.agg #[vm, vc, vf], .int .i64 col] W fun e w' => ∃ g, e = .returned (.slice (some ⟨g, 0, none⟩) L L) ∧ w'.ownsRow W.heap.size 25 2 (.slice (some ⟨g, 0, none⟩) L L) L (cellsR (kerRow R C L col)) ∧ Below W.heap.size W w') := by
    intro W col hW hcol
    have := kerRow_any vm vc vf us R C F L col b1 b2 b3 W (ht.below hW) (own_below hc hW) (own_below hf hW) hL1 hL2 hR hRL hCR hR2 hCL hFL hF2 hcol
    rw [show setsK R C col C.length ((setsF F F.length (List.replicate L ((0, 0) : Fr))).set col (1, 1)) = kerRow R C L col by rw [hF]; exact kerRow_impl R C L col hCL hcol] at this
    exact this
  obtain ⟨G, cG, rfl⟩ := own_some ht.outer (by rw [ht.len]; omega)
  obtain ⟨ac, cc, rfl⟩ := own_shape hc
  obtain ⟨af, cf, rfl⟩ := own_shape hf
  have HFC : Hid (∀ k, k < F.length → ∃ g, af = some ⟨g, 0, none⟩ ∧ w.cell? ⟨g, k, none⟩ = some (.int .i64 (nt F k : Int)) ∧ nt F k < L) := by
    intro k hk
    obtain ⟨g, c', e⟩ := own_some hf (by omega)
    cases e
    exact ⟨g, rfl, nat_at hf k hk, hFL _ (nt_mem hk)⟩
  obtain ⟨T, hT⟩ : ∃ T, T = F.map (kerRow R C L) := ⟨_, rfl⟩
  have hTl : T.length = F.length := by rw [hT, List.length_map]
  have HT : Hid (∀ k, k < F.length → rw' T k = kerRow R C L (nt F k)) := by intro k hk; rw [hT]; exact rw_map _ _ _ hk
  rw [← hT]
  obtain ⟨nf, hnf⟩ : ∃ n, n = F.length := ⟨_, rfl⟩
  have HN : Hid (nf = F.length ∧ T.length = F.length) := ⟨hnf, hTl⟩
  rw [← hnf] at hF2 HK ⊢
  obtain ⟨N, hN⟩ : ∃ n, n = us.length := ⟨_, rfl⟩
  obtain ⟨nc, hnc⟩ : ∃ n, n = C.length := ⟨_, rfl⟩
  rw [← hN, ← hnc] at HK ⊢
  clear ht hc hf hR hRL hCR hR2 hCL hFL hF hT hTl hnf hN hnc
  go_enter Try.func65, Try.ntmps65
  go_upto_region 1 with fail
  obtain ⟨E, hE⟩ : ∃ E, E = w.heap.size := ⟨_, rfl⟩
  obtain ⟨X, hX⟩ : ∃ X, X = w.alloc (.cells #[.slice (some ⟨G, 0, none⟩) N cG, .slice ac nc cc, .slice af nf cf] 80) := ⟨_, rfl⟩
  have hblk : X.heap[E]? = some (.cells #[.slice (some ⟨G, 0, none⟩) N cG, .slice ac nc cc, .slice af nf cf] 80 (0, 0)) := by rw [hX, hE]; exact World.alloc_heap_new w _
  have BX : Below w.heap.size w X := by rw [hX]; exact (Below.refl _ _).alloc (Nat.le_refl _) _
  have hXs : X.heap.size = E + 1 := by rw [hX, hE]; simp
  rw [← hX, ← hE]
  obtain ⟨r0, r1, r2, z0, z1, z2, hEl⟩ := cells3 hblk
  have HXS := hid hXs
  have hwE : w.heap.size ≤ E := by omega
  clear hX hE hXs
  go_wp2_with (at_make; refine wpList_make_full _ rfl _ _ 33 rfl w.heap.size 44 t0 (.slice none 0 0) 1 Try.underlying33 hti htz0 htz1 .i64 .i64 _ _ nf rfl rfl rfl rfl (by rw [htz2]; omega) (by unfold maxLen; omega) BX.size ?_; intro w3 hown hgrow; have hblk3 := (hgrow.block E hEl (by simp)).trans hblk; obtain ⟨p0, p1, p2, y0, y1, y2, hEl3⟩ := cells3 hblk3)
  have B3 : Below w.heap.size w w3 := BX.grown hgrow BX.size (fun b e => by cases e)
  obtain ⟨Gk, hGk⟩ : ∃ g, g = X.heap.size := ⟨_, rfl⟩
  have o0 : Tab w3 w.heap.size (.slice (some ⟨Gk, 0, none⟩) nf nf) (List.replicate nf (.slice none 0 0)) (cpyT T 0) := by
    rw [cpyT_zero, HN.out.2, ← HN.out.1, hGk]; refine Tab.made ?_; rw [← madeT]; exact hown
  have hER : E ≠ Gk := by have := HXS.out; omega
  have hwR : w.heap.size ≤ Gk := by have := HXS.out; omega
  rw [← hGk]
  clear hGk hown hgrow hblk HXS r0 r1 r2 z0 z1 z2 hEl BX p0 p1 p2 y0 y1 y2 hEl3
  go_loopg [13] nf (fun g i wr => ∃ (k : Nat) (us' : List Value), k + g = nf ∧ i = .int .i64 k ∧ Hid (Tab wr w.heap.size (.slice (some ⟨Gk, 0, none⟩) nf nf) us' (cpyT T k)) ∧ Hid (wr.heap[E]? = some (.cells #[.slice (some ⟨G, 0, none⟩) N cG, .slice ac nc cc, .slice af nf cf] 80 (0, 0))) ∧ Hid (Below w.heap.size w wr))
  case atStart => exact ⟨0, _, by omega, rfl, o0, hblk3, B3⟩
  case round =>
    clear o0 hblk3 B3
    obtain ⟨k, us', hkg, rfl, hT, hK, hB⟩ := hrel
    cases gk with
    | zero =>
      obtain rfl : k = nf := by omega
      go_wp2
      go_ret
      have := hT.out
      rw [show cpyT T k = T by rw [HN.out.1, ← HN.out.2]; exact cpyT_all T] at this
      exact ⟨_, us', rfl, this, hB.out⟩
    | succ g =>
      have hkn : k < nf := by omega
      obtain ⟨gf, rfl, f1, f2⟩ := HFC.out k (by have := HN.out.1; omega)
      replace f1 := cell_keep hB.out f1
      obtain ⟨x, hx⟩ : ∃ x, x = nt F k := ⟨_, rfl⟩
      have HX := hid hx
      rw [← hx] at f1 f2
      have hlu : us'.length = nf := by have := hT.out.len; rw [cpyT_len] at this; have := HN.out; omega
      have HLU := hid hlu
      have HKR := hid (HK.out wr x hB.out f2)
      obtain ⟨r0, r1, r2, _, _, _, hEl⟩ := cells3 hK.out
      have hsz := hB.out.size
      clear hx hlu
      go_wp2_with (go_at_call 96; refine (HKR.out).mono ?_; rintro e w4 ⟨gr, rfl, orow, hb4⟩; have T4 := hT.out.below hb4; have ho := T4.outer; rw [HLU.out] at ho; have d1 := ho.cellAt k (by omega); have f3 := ho.frozenAt k; rw [List.getElem?_eq_getElem (by have := HLU.out; omega)] at d1; have HT4 := hid T4; have HOR := hid orow; clear T4 ho orow)
      go_roundg g
      case measure => omega
      case rel =>
        have T5 := HT4.out.put (k := k) (u := .slice (some ⟨gr, 0, none⟩) L L) (ps := kerRow R C L x) (by rw [HLU.out]; exact hkn) (by rw [kerRow_len]; exact own_le HOR.out hsz) (fun i hi _ b hb hb2 => by
          have h1 := hT.out.lt i hi b hb
          have h2 := (HOR.out.lt b hb2).1
          omega)
        rw [show kerRow R C L x = rw' T k by rw [HT.out k (by have := HN.out.1; omega), HX.out], cpyT_set] at T5
        exact ⟨k + 1, _, by omega, by go_num, T5, blk_set ((hb4.block E (cells3 hK.out).2.2.2.2.2.2).trans hK.out) hER _ _, (hB.out.trans (hb4.mono hsz)).setCell (p := ⟨Gk, k, none⟩) hwR _⟩

set_option maxRecDepth 100000 in
set_option maxHeartbeats 1000000 in
theorem iKernel_any (v : Value) (rows : List (List Fr)) (w : World) (h : RdT w v rows) :
    Calls Try.prog 19 #[v] w fun e w' => ∃ vm us, e = .returned vm ∧ Tab w' w.heap.size vm us (kerA rows) ∧ Below w.heap.size w w' := by
  have HE := hid (iEch_any v rows w h)
  obtain ⟨q, hq⟩ : ∃ q, q = echO rows := ⟨_, rfl⟩
  have HQ := hid hq
  clear hq h
  cases q
  · have HAN := hid (kerA_no HQ.out.symm)
    go_enter Try.func19, Try.ntmps19
    go_wp2_with (go_at_call 64; refine (HE.out).mono ?_; rintro e w1 ⟨vm, vc, vf, us, rfl, t, c, f, hb⟩; rw [← HQ.out]; obtain ⟨am, cm, rfl⟩ := own_shape t.outer; obtain ⟨ac, cc, rfl⟩ := own_shape c; obtain ⟨af, cf, rfl⟩ := own_shape f; have hs := hb.size; clear c f)
    have h4 := Tab.lit (W := w1.alloc (.cells #[.slice am us.length cm, .slice ac (echCh rows).length cc, .slice af (echFe rows).length cf] 80)) (base := w.heap.size) (by simp; omega)
    go_ret
    refine ⟨_, [], rfl, ?_, (hb.alloc hs _).alloc (by simp; omega) _⟩
    rw [HAN.out]
    simpa using h4
  · have hk : tabB rows 6 = true ∧ echK rows = true := by have := HQ.out.symm; unfold echO at this; rw [Bool.and_eq_true] at this; exact this
    obtain ⟨⟨t1, t2, t3, t4⟩, tr⟩ := tabB_out hk.1
    obtain ⟨d1, d2, d3, d4⟩ := ech_dims hk.1 hk.2
    obtain ⟨e1, e2, e3⟩ := echO_yes HQ.out.symm
    have HE2 : Hid (∀ (W : World) (vm vc vf : Value) (us : List Value) (b : Nat), Tab W b vm us (echA rows) → W.ownsRow b 3 1 vc (echCh rows).length (natV (echCh rows)) → W.ownsRow b 3 1 vf (echFe rows).length (natV (echFe rows)) → Calls Try.prog 65 #[.agg #[vm, vc, vf]] W fun e w' => ∃ v us', e = .returned v ∧ Tab w' W.heap.size v us' (kerA rows) ∧ Below W.heap.size W w') := by
      intro W vm vc vf us b ht hc hf
      rw [e1] at ht
      rw [e2] at hc
      rw [e3] at hf
      rw [kerA_yes HQ.out.symm]
      exact kernel_any vm vc vf us (echR rows) (echC rows) (rw' rows 0).length b b b W ht hc hf t3 (by omega) (by omega) d2 (by omega) (by omega) d4
    clear hk t1 t2 t3 t4 tr d1 d2 d3 d4 e1 e2 e3
    go_enter Try.func19, Try.ntmps19
    go_wp2_with (first | (go_at_call 64; refine (HE.out).mono ?_; rintro e w1 ⟨vm, vc, vf, us, rfl, t, c, f, hb⟩; rw [← HQ.out]; obtain ⟨am, cm, rfl⟩ := own_shape t.outer; obtain ⟨ac, cc, rfl⟩ := own_shape c; obtain ⟨af, cf, rfl⟩ := own_shape f; have hs := hb.size; have T := hid t; have CC := hid c; have FF := hid f; clear c f t) | (go_at_call 65; refine (HE2.out _ _ _ _ us _ (T.out.below ((Below.refl _ _).alloc (Nat.le_refl _) _)) (CC.out.alloc _) (FF.out.alloc _)).mono ?_; rintro e w2 ⟨v2, us2, rfl, t2, hb2⟩))
    go_ret
    exact ⟨v2, us2, rfl, t2.le (by simp; omega), (hb.alloc hs _).trans (hb2.mono (by simp; omega))⟩
end Go.Proofs.Ytbbkejfcheobaab

/- The walk of the program's Groups. -/
namespace Go.Proofs.Ytbbkejfcheobaab
open Go.RowKit Go.Proofs.Ytbbkejfcheobaab.RM

theorem hidH {p : Prop} (h : p) : Hid p := h
theorem ri_app (rows : List (List Int)) (ps : List Int) (i : Nat) (h : i < rows.length + 1) : ri (rows ++ [ps]) i = if i < rows.length then ri rows i else ps := by
  unfold ri
  by_cases e : i < rows.length
  · rw [if_pos e, List.getElem?_append_left e]
  · rw [if_neg e, List.getElem?_append_right (by omega), show i - rows.length = 0 by omega]; rfl
theorem TabI.empty {W : World} {base : Nat} {v : Value} (h : W.ownsRow base 57 1 v 0 []) : TabI W base v [] [] :=
  ⟨h, rfl, fun _ hi => absurd hi (Nat.not_lt_zero _), fun _ _ hi => absurd hi (Nat.not_lt_zero _)⟩
theorem TabI.lit {W : World} {base : Nat} (hb : base ≤ W.heap.size) : TabI (W.alloc (.cells #[] 57)) base (.slice (some ⟨W.heap.size, 0, none⟩) 0 0) [] [] :=
  TabI.empty (World.ownsRow_lit W (base := base) (e := 57) (size := 1) #[] 0 hb (Nat.zero_le _) rfl)
/-- a row of its own is laid behind the table -/
theorem TabI.append {W w' : World} {base : Nat} {v v' : Value} {us : List Value} {rows : List (List Int)} {u : Value} {ps : List Int} {tmp : Obj} (h : TabI W base v us rows)
    (hu : W.ownsRow base 2 1 u ps.length (cI ps)) (ha : ∀ i, i < us.length → ∀ b, (vl us i).ownBlock = some b → u.ownBlock ≠ some b)
    (hown : w'.ownsRow base 57 1 v' (us.length + 1) (us ++ [u])) (hgrow : (W.alloc tmp).grownBy w' v.ownBlock) : TabI w' base v' (us ++ [u]) (rows ++ [ps]) := by
  have keep : ∀ {m : Nat} {x : Value} {xs : List Value}, W.ownsRow base 2 1 x m xs → w'.ownsRow base 2 1 x m xs := fun hx => own_oth (hx.alloc tmp) (h.outer.alloc tmp) (by decide) hgrow
  have hl := h.len
  refine ⟨by rw [List.length_append]; exact hown, by simp [hl], fun i hi => ?_, fun i j hi hj hne b hb => ?_⟩
  · rw [List.length_append, List.length_singleton] at hi
    rw [vl_app _ _ _ hi, ri_app _ _ _ (by omega)]
    by_cases e : i < us.length
    · rw [if_pos e, if_pos (by omega)]; exact keep (h.inner i e)
    · rw [if_neg e, if_neg (by omega)]; exact keep hu
  · rw [List.length_append, List.length_singleton] at hi hj
    rw [vl_app _ _ _ hi] at hb
    rw [vl_app _ _ _ hj]
    by_cases e : i < us.length
    · rw [if_pos e] at hb
      by_cases e2 : j < us.length
      · rw [if_pos e2]; exact h.apart i j e e2 hne b hb
      · rw [if_neg e2]; exact ha i e b hb
    · rw [if_neg e] at hb
      rw [if_pos (by omega)]
      intro h2
      exact ha j (by omega) b h2 hb
/-- a table of fractions stays where a table of numbers grows -/
theorem Tab.apartI {W W' : World} {B base n : Nat} {v o : Value} {us xs : List Value} {rows : List (List Fr)} {tmp : Obj} (h : Tab W B v us rows) (ho : W.ownsRow base 57 1 o n xs) (hg : (W.alloc tmp).grownBy W' o.ownBlock) : Tab W' B v us rows := by
  have h2 := h.below ((Below.refl _ _).alloc (Nat.le_refl _) tmp)
  have o2 := ho.alloc tmp
  exact h2.kept hg (fun k e1 e2 => own_unlike h2.outer o2 (by decide) e2 e1) (fun i hi k e1 e2 => own_unlike (h2.inner i hi) o2 (by decide) e2 e1)
theorem take_map (K : List (List Fr)) (k : Nat) (h : k < K.length) : (K.take (k + 1)).map lwF = (K.take k).map lwF ++ [lwF (rw' K k)] := by
  rw [List.take_succ_eq_append_getElem h, List.map_append]
  simp [rw', h]
/-- the rows of the kernel of a table of dimensions -/
theorem ker_small {L : List (List Int)} (hd : dimsB L = true) (h : echO (dimT L) = true) (i : Nat) (hi : i < (kerA (dimT L)).length) : Small (rw' (kerA (dimT L)) i) ∧ (rw' (kerA (dimT L)) i).length = L.length := by
  obtain ⟨hd1, hd2⟩ := dimsB_out hd
  obtain ⟨s1, s2⟩ := dimT_shape L
  have hL : (rw' (dimT L) 0).length = L.length := (s2 0 (by omega)).1
  have hint : ∀ i, i < (dimT L).length → ∀ j, j < (rw' (dimT L) 0).length → (fr (rw' (dimT L) i) j).2 = 1 ∧ ((fr (rw' (dimT L) i) j).1).natAbs ≤ 9 := by
    intro i hi j hj
    rw [s1] at hi
    rw [hL] at hj
    rw [(s2 i hi).2 j hj]
    have := (dim_at (hd2 j hj)).2 i hi
    refine ⟨rfl, ?_⟩
    show (fi (ri L j) i).natAbs ≤ 9
    unfold fi
    omega
  rw [kerA_yes h] at hi ⊢
  rw [List.length_map] at hi
  obtain ⟨hm1, hm2⟩ := freeC_mem.1 (List.getElem_mem hi)
  have e : rw' ((freeC (rw' (dimT L) 0).length (echC (dimT L))).map (kerRow (echR (dimT L)) (echC (dimT L)) (rw' (dimT L) 0).length)) i = kerRow (echR (dimT L)) (echC (dimT L)) (rw' (dimT L) 0).length (freeC (rw' (dimT L) 0).length (echC (dimT L)))[i] := by
    show (List.map _ _)[i]?.getD [] = _
    rw [List.getElem?_map, List.getElem?_eq_getElem hi]
    rfl
  rw [e]
  obtain ⟨col, hcol⟩ : ∃ c, c = (freeC (rw' (dimT L) 0).length (echC (dimT L)))[i] := ⟨_, rfl⟩
  rw [← hcol] at hm1 hm2 ⊢
  have hdv := ker_den h (by rw [s1]; omega) hint hm1 hm2
  have h' := h
  unfold echO at h'
  rw [Bool.and_eq_true] at h'
  have hB := (ech_keeps rfl h'.1 h'.2).2
  obtain ⟨k1, k2, k3⟩ := kerRow_at (R := echR (dimT L)) (ech_rises h'.2) hB.chs hm1 hm2
  have hlen := kerRow_len (echR (dimT L)) (echC (dimT L)) (rw' (dimT L) 0).length col
  have hok : ∀ k, k < (rw' (dimT L) 0).length → okF (fr (kerRow (echR (dimT L)) (echC (dimT L)) (rw' (dimT L) 0).length col) k) = true := by
    intro k hk
    by_cases e1 : k = col
    · rw [e1, k1]; decide
    · by_cases e2 : k ∈ echC (dimT L)
      · obtain ⟨x, hx, rfl⟩ := mem_nt e2
        rw [k2 x hx]
        have hb : okF (fr (rw' (echR (dimT L)) x) col) = true := hB.ok x (by have := hB.cl; omega) col hm1
        obtain ⟨q1, q2, q3, q4, q5⟩ := okB_out hb
        unfold mirF okF
        simp only
        have hw : wrap64 (-(fr (rw' (echR (dimT L)) x) col).1) = -(fr (rw' (echR (dimT L)) x) col).1 := by unfold wrap64; omega
        rw [hw]
        exact okB_mk ⟨q1, q2, by omega, by omega, by rw [gcdi_neg_l]; exact q5⟩
      · rw [k3 k hk e1 e2]; decide
  refine ⟨⟨fun k hk => ?_, fun k hk => ?_, ⟨col, by rw [hlen]; exact hm1, by rw [k1]; decide⟩, ?_⟩, by rw [hlen, hL]⟩
  · rw [hlen] at hk
    exact (okB_out (hok k hk)).1
  · rw [hlen] at hk
    exact ⟨(okB_out (hok k hk)).2.2.1, (okB_out (hok k hk)).2.2.2.1⟩
  · rw [hlen]
    exact hdv
def grO (L : List (List Int)) : Bool := dimsB L && echO (dimT L)
def grA (L : List (List Int)) : List (List Int) := if grO L then (kerA (dimT L)).map lwF else []
theorem grA_no {L : List (List Int)} (h : grO L = false) : grA L = [] := by simp [grA, h]
theorem grA_yes {L : List (List Int)} (h : grO L = true) : grA L = (kerA (dimT L)).map lwF := by simp [grA, h]

set_option maxRecDepth 100000 in
set_option maxHeartbeats 4000000 in
theorem iGroups_any (v : Value) (us : List Value) (L : List (List Int)) (w : World) (h : RdD w v us L) :
    Calls Try.prog 38 #[v] w fun e w' => ∃ u vs, e = .returned (.tuple #[u, .bool (grO L)]) ∧ TabI w' w.heap.size u vs (grA L) ∧ Below w.heap.size w w' := by
  have b0 : ∀ (u : World) (o : Obj), Below u.heap.size u (u.alloc o) := fun u o => (Below.refl _ _).alloc (Nat.le_refl _) o
  obtain ⟨i0, hi, hz0, hz1, hz2⟩ := info_parts infoU
  have HT := hidH h
  obtain ⟨q, hq⟩ : ∃ q, q = dimsB L := ⟨_, rfl⟩
  have HQ := hidH hq
  have HDo : Hid (∀ W : World, Below w.heap.size w W → Calls Try.prog 77 #[v] W fun e w' => e = .returned (.bool q) ∧ Below W.heap.size W w') := by
    intro W hW; rw [hq]; exact iDims_any v us L W (HT.out.below hW)
  clear h hq
  cases q
  · have hno : grO L = false := by unfold grO; rw [← HQ.out]; rfl
    rw [grA_no hno, hno]
    clear hno
    go_enter Try.func38, Try.ntmps38
    go_wp2_with fail
    refine (HDo.out _ (Below.refl _ _)).mono ?_
    rintro e w1 ⟨rfl, hb⟩
    go_wp2
    go_ret2
    exact ⟨_, [], rfl, TabI.lit hb.size, hb.alloc hb.size _⟩
  · obtain ⟨hd1, hd2⟩ := dimsB_out HQ.out.symm
    have HDT : Hid (∀ W : World, Below w.heap.size w W → Calls Try.prog 78 #[v] W fun e w' => ∃ u vs, e = .returned u ∧ Tab w' W.heap.size u vs (dimT L) ∧ Below W.heap.size W w') := by
      intro W hW; exact iDimTab_any v us L W (HT.out.below hW) hd1.2 (fun k hk => (dim_at (hd2 k hk)).1)
    obtain ⟨M, hM⟩ : ∃ M, M = dimT L := ⟨_, rfl⟩
    rw [← hM] at HDT
    have HM := hidH hM
    obtain ⟨p, hp⟩ : ∃ p, p = echO M := ⟨_, rfl⟩
    have HPq := hidH hp
    have hgr : grO L = p := by unfold grO; rw [← HQ.out, ← hM, ← hp]; rfl
    have HGR := hidH hgr
    clear hd1 hd2 hM hp hgr
    cases p
    · rw [grA_no HGR.out, HGR.out]
      go_enter Try.func38, Try.ntmps38
      go_wp2_with fail
      refine (HDo.out _ (Below.refl _ _)).mono ?_
      rintro e w1 ⟨rfl, hb⟩
      have HB := hidH hb
      clear hb HDo
      go_wp2_with fail
      refine (HDT.out _ HB.out).mono ?_
      rintro e w2 ⟨um, vs, rfl, tm, hb⟩
      have HTM := hidH (Tab.read tm)
      replace HB := hidH (HB.out.trans (hb.mono HB.out.size))
      clear tm hb HDT
      go_wp2_with fail
      refine (iEch_any um M _ HTM.out).mono ?_
      rintro e w3 ⟨vm, vc, vf, us3, rfl, t, c, f, hb⟩
      rw [← HPq.out]
      obtain ⟨am, cm, rfl⟩ := own_shape t.outer
      obtain ⟨ac, cc, rfl⟩ := own_shape c
      obtain ⟨af, cf, rfl⟩ := own_shape f
      replace HB := hidH (HB.out.trans (hb.mono HB.out.size))
      have hs := HB.out.size
      clear c f t hb
      go_wp2
      go_ret2
      have tl := TabI.lit (W := w3.alloc (.cells #[.slice am us3.length cm, .slice ac (echCh M).length cc, .slice af (echFe M).length cf] 80)) (base := w.heap.size) (HB.out.alloc hs (.cells #[.slice am us3.length cm, .slice ac (echCh M).length cc, .slice af (echFe M).length cf] 80)).size
      rw [show (w3.alloc (.cells #[.slice am us3.length cm, .slice ac (echCh M).length cc, .slice af (echFe M).length cf] 80)).heap.size = w3.heap.size + 1 by simp] at tl
      exact ⟨_, [], rfl, tl, (HB.out.alloc hs _).alloc (HB.out.alloc hs (.cells #[.slice am us3.length cm, .slice ac (echCh M).length cc, .slice af (echFe M).length cf] 80)).size _⟩
    · have hGA := grA_yes HGR.out
      rw [← HM.out] at hGA
      have hk : tabB M 6 = true ∧ echK M = true := by have := HPq.out.symm; unfold echO at this; rw [Bool.and_eq_true] at this; exact this
      obtain ⟨⟨t1, t2, t3, t4⟩, tr⟩ := tabB_out hk.1
      obtain ⟨d1, d2, d3, d4⟩ := ech_dims hk.1 hk.2
      obtain ⟨e1, e2, e3⟩ := echO_yes HPq.out.symm
      obtain ⟨K, hK⟩ : ∃ K, K = kerA M := ⟨_, rfl⟩
      have HSM : Hid (∀ i, i < K.length → Small (rw' K i) ∧ (rw' K i).length ≤ 1000) := by
        intro i hi
        have h1 : echO (dimT L) = true := by rw [← HM.out]; exact HPq.out.symm
        have h2 := ker_small HQ.out.symm h1 i (by rw [← HM.out, ← hK]; exact hi)
        rw [← HM.out, ← hK] at h2
        have h3 := (dimsB_out HQ.out.symm).1.2
        exact ⟨h2.1, by omega⟩
      have hKl : K.length ≤ 1048576 := by rw [hK]; exact (kerA_small M).1
      have HE2 : Hid (∀ (W : World) (vm vc vf : Value) (us : List Value) (b : Nat), Tab W b vm us (echA M) → W.ownsRow b 3 1 vc (echCh M).length (natV (echCh M)) → W.ownsRow b 3 1 vf (echFe M).length (natV (echFe M)) → Calls Try.prog 65 #[.agg #[vm, vc, vf]] W fun e w' => ∃ v us', e = .returned v ∧ Tab w' W.heap.size v us' K ∧ Below W.heap.size W w') := by
        intro W vm vc vf us b ht hc hf
        rw [e1] at ht
        rw [e2] at hc
        rw [e3] at hf
        rw [hK, kerA_yes HPq.out.symm]
        exact kernel_any vm vc vf us (echR M) (echC M) (rw' M 0).length b b b W ht hc hf t3 (by omega) (by omega) d2 (by omega) (by omega) d4
      have HGA : Hid (grA L = K.map lwF) := by show _ = _; rw [hGA, hK]
      rw [HGA.out, HGR.out]
      clear hk t1 t2 t3 t4 tr d1 d2 d3 d4 e1 e2 e3 hGA hK
      go_enter Try.func38, Try.ntmps38
      go_wp2_with fail
      refine (HDo.out _ (Below.refl _ _)).mono ?_
      rintro e w1 ⟨rfl, hb⟩
      have HB := hidH hb
      clear hb HDo
      go_wp2_with fail
      refine (HDT.out _ HB.out).mono ?_
      rintro e w2 ⟨um, vs, rfl, tm, hb⟩
      have HTM := hidH (Tab.read tm)
      replace HB := hidH (HB.out.trans (hb.mono HB.out.size))
      clear tm hb HDT
      go_wp2_with fail
      refine (iEch_any um M _ HTM.out).mono ?_
      rintro e w3 ⟨vm, vc, vf, us3, rfl, t, c, f, hb⟩
      rw [← HPq.out]
      obtain ⟨am, cm, rfl⟩ := own_shape t.outer
      obtain ⟨ac, cc, rfl⟩ := own_shape c
      obtain ⟨af, cf, rfl⟩ := own_shape f
      replace HB := hidH (HB.out.trans (hb.mono HB.out.size))
      have hs := HB.out.size
      have T := hidH t
      have CC := hidH c
      have FF := hidH f
      clear c f t hb HTM
      go_wp2_with fail
      have hbY : Below w3.heap.size w3 ((w3.alloc (.cells #[.slice am us3.length cm, .slice ac (echCh M).length cc, .slice af (echFe M).length cf] 80)).alloc (.cells #[] 57)) := ((Below.refl _ _).alloc (Nat.le_refl _) _).alloc (by simp) _
      refine (HE2.out _ _ _ _ us3 _ (T.out.below hbY) (own_below CC.out hbY) (own_below FF.out hbY)).mono ?_
      rintro e w4 ⟨vk, us4, rfl, tk, hb4⟩
      have o0 := TabI.lit (W := w3.alloc (.cells #[.slice am us3.length cm, .slice ac (echCh M).length cc, .slice af (echFe M).length cf] 80)) (base := w3.heap.size) (by simp)
      have O0 := hidH (o0.below hb4)
      have B4 := hidH (HB.out.trans ((hbY.trans (hb4.mono hbY.size)).mono hs))
      have hS3 : w.heap.size ≤ w3.heap.size := hs
      have hS4 : w3.heap.size ≤ w4.heap.size := (hbY.trans (hb4.mono hbY.size)).size
      obtain ⟨S, hS⟩ : ∃ S, S = w3.heap.size := ⟨_, rfl⟩
      have hz1' : (w3.alloc (.cells #[.slice am us3.length cm, .slice ac (echCh M).length cc, .slice af (echFe M).length cf] 80)).heap.size = w3.heap.size + 1 := by simp
      rw [hz1', ← hS] at O0
      rw [← hS] at hS3 hS4 ⊢
      have TK := hidH tk
      obtain ⟨B, hB5⟩ : ∃ B, B = ((w3.alloc (.cells #[.slice am us3.length cm, .slice ac (echCh M).length cc, .slice af (echFe M).length cf] 80)).alloc (.cells #[] 57)).heap.size := ⟨_, rfl⟩
      rw [← hB5] at TK
      have hku : us4.length = K.length := tk.len
      obtain ⟨ak, ck, rfl⟩ := own_shape tk.outer
      rw [hku] at TK ⊢
      clear hb4 tk o0 hbY hs hS hz1' hB5 T CC FF HE2 HB
      obtain ⟨kn, hkn⟩ : ∃ n, n = K.length := ⟨_, rfl⟩
      have HKN := hidH hkn
      rw [← hkn] at TK hku hKl ⊢
      have HKU := hidH hku
      clear hkn hku
      go_wp2
      go_loopw [6, 26] (fun g i wr => ∃ (o : Value) (k : Nat) (ws : List Value), o = g ∧ k ≤ kn ∧ i = .int .i64 k ∧ Hid (ws.length = k) ∧ Hid (TabI wr S o ws ((K.take k).map lwF)) ∧ Hid (Tab wr B (.slice ak kn ck) us4 K) ∧ Hid (Below w.heap.size w wr) ∧ Hid (S ≤ wr.heap.size)) (fun _ i _ => kn - (intOf i).toNat)
      case atStart => exact ⟨_, 0, [], rfl, Nat.zero_le _, rfl, rfl, O0.out, TK.out, B4.out, hS4⟩
      case round =>
        clear O0 TK B4 hS4
        obtain ⟨o, k, ws, rfl, hk, rfl, hws, hO, hT, hB, hS4⟩ := hrel
        have hsz := hB.out.size
        have hS5 := hS4.out
        by_cases hlt : k < kn
        · have hku := HKU.out
          obtain ⟨g, cg, eg⟩ := own_some hT.out.outer (by omega)
          injection eg with e1 e2 e3
          subst e1
          clear e2 e3
          have ho := hT.out.outer
          rw [hku] at ho
          have d1 := ho.cellAt k (by omega)
          rw [List.getElem?_eq_getElem (by omega), show us4[k] = vl us4 k by simp [vl, List.getElem?_eq_getElem (show k < us4.length by omega)]] at d1
          have hin := (RdR.own (hT.out.inner k (by omega))).1
          obtain ⟨y, hy⟩ : ∃ y, y = vl us4 k := ⟨_, rfl⟩
          rw [← hy] at d1 hin
          obtain ⟨sm1, sm2⟩ := HSM.out k (by have := HKN.out; omega)
          have HL := hidH (iLeast_any y (rw' K k) wr hin sm1 sm2)
          have hll : (lwF (rw' K k)).length = (rw' K k).length := by simp [lwF]
          obtain ⟨r, hr⟩ : ∃ r, r = lwF (rw' K k) := ⟨_, rfl⟩
          rw [← hr] at HL hll
          have HRR := hidH hr
          rw [← hll] at HL
          clear ho hin hy hr sm1 sm2 hll hku
          go_wp2_with fail
          refine HL.out.mono ?_
          rintro e w5 ⟨u, rfl, ou, hb5⟩
          have OU := hidH ou
          have O5 := hidH (hO.out.below hb5)
          have T5 := hidH (hT.out.below hb5)
          have B5 := hidH (hB.out.trans (hb5.mono hsz))
          have hs5 := hb5.size
          have hlt5 : ∀ i, i < ws.length → ∀ b, (vl ws i).ownBlock = some b → u.ownBlock ≠ some b := by
            intro i hi b h1 h2
            have h3 := hO.out.lt i hi b h1
            have h4 := (ou.lt b h2).1
            omega
          have HLT := hidH hlt5
          obtain ⟨ua, uc, rfl⟩ := own_shape ou
          clear ou hb5 hlt5 hO hT hB d1 HL
          have hjm : ws.length + 1 ≤ 1048577 := by have := hws.out; omega
          have hjm2 : ws.length + 1 ≤ maxLen := by unfold maxLen; omega
          obtain ⟨oa, oc, rfl⟩ := own_shape O5.out.outer
          go_wp2_with (at_builtin; refine wpList_append_own _ rfl _ _ 53 rfl S 57 i0 (.slice none 0 0) 1 24 Try.underlying53 hi hz0 hz1 hz2 rfl (by decide) _ _ _ rfl (O5.out.outer.alloc _) ⟨w5.heap.size, 0, none⟩ 1 1 [.slice ua r.length uc] rfl rfl (cell_one_new _ _ _) (by simp [Value.oneCell']) hjm2 (by omega) (by simp; omega) ?_; intro v' w6 hown' hgrow _; obtain ⟨va', vc', rfl⟩ := own_shape hown')
          go_roundw
          case rel =>
            have A5 := O5.out.append (ps := r) (u := .slice ua r.length uc) (own_le OU.out (by omega)) HLT.out hown' hgrow
            rw [HRR.out, ← take_map K k (by have := HKN.out; omega)] at A5
            have T6 := T5.out.apartI O5.out.outer hgrow
            have hbA := below_appended O5.out.outer (by omega) hgrow
            refine ⟨_, k + 1, ws ++ [_], rfl, by omega, by go_num, ?_, A5, T6, B5.out.trans (hbA.mono (by omega)), ?_⟩
            · show _ = _
              rw [List.length_append, hws.out]; rfl
            · show _ ≤ _
              have := hbA.size
              omega
          case measure => simp [intOf]; omega
        · obtain rfl : k = kn := by omega
          have hO' := hO.out
          rw [HKN.out, List.take_length] at hO'
          have HO := hidH hO'
          clear hO'
          go_wp2
          go_ret2
          exact ⟨_, ws, rfl, HO.out.le hS3, hB.out⟩
end Go.Proofs.Ytbbkejfcheobaab

/- The walk of the model's Kernel. -/
namespace Go.Proofs.Ytbbkejfcheobaab
open Go.RowKit Go.Proofs.Ytbbkejfcheobaab.RM

/-- the blocks from lo up to hi stand -/
def Mid (lo hi : Nat) (a b : World) : Prop := hi ≤ b.heap.size ∧ ∀ k, lo ≤ k → k < hi → b.heap[k]? = a.heap[k]?
theorem Mid.cell {lo hi : Nat} {a b : World} (h : Mid lo hi a b) {g o : Nat} {v : Value} (hc : a.cell? ⟨g, o, none⟩ = some v) (h1 : lo ≤ g) (h2 : g < hi) : b.cell? ⟨g, o, none⟩ = some v :=
  (World.cell?_of_block (w := a) (a := ⟨g, o, none⟩) (h.2 g h1 h2)).trans hc
theorem Mid.below {lo hi S : Nat} {a b c : World} (h : Mid lo hi a b) (hb : Below S b c) (hS : hi ≤ S) : Mid lo hi a c :=
  ⟨Nat.le_trans h.1 hb.size, fun k h1 h2 => (hb.block k (by omega)).trans (h.2 k h1 h2)⟩
theorem own_low {S : Nat} {W W' : World} {base e size n : Nat} {v : Value} {xs : List Value} (h : W.ownsRow base e size v n xs) (hu : ∀ b, v.ownBlock = some b → b < S) (hb : Below S W W') : W'.ownsRow base e size v n xs := by
  refine ⟨h.1, ?_⟩
  rcases h.2 with k | ⟨g, cap, cur, e1, e2, e3, r⟩
  · exact .inl k
  · subst e1
    exact .inr ⟨g, cap, cur, rfl, e2, (hb.block g (hu g rfl)).trans e3, r⟩
theorem Tab.low {S : Nat} {W W' : World} {base : Nat} {v : Value} {us : List Value} {rows : List (List Fr)} (h : Tab W base v us rows) (hu : Under S v us) (hb : Below S W W') : Tab W' base v us rows :=
  ⟨own_low h.outer hu.1 hb, h.len, fun i hi => own_low (h.inner i hi) (hu.2 i hi) hb, h.apart⟩
theorem rep_succ (n : Nat) (x : Fr) : List.replicate (n + 1) x = List.replicate n x ++ [x] := by
  rw [List.replicate_succ']

set_option maxRecDepth 1000000 in
set_option maxHeartbeats 4000000 in
theorem sKernel_any (v : Value) (rows : List (List Fr)) (w : World) (h : RdT w v rows) :
    Calls Try.prog 26 #[v] w fun e w' => ∃ vm us, e = .returned vm ∧ Tab w' w.heap.size vm us (kerA rows) ∧ Below w.heap.size w w' := by
  obtain ⟨i0, hi, hz0, hz1, hz2⟩ := info_parts infoF
  obtain ⟨t0, hti, htz0, htz1, htz2⟩ := info_parts infoT
  have b0 : ∀ (u : World) (o : Obj), Below u.heap.size u (u.alloc o) := fun u o => (Below.refl _ _).alloc (Nat.le_refl _) o
  have HR := hid h
  obtain ⟨qa, hqa⟩ : ∃ q, q = tabB rows 6 := ⟨_, rfl⟩
  have HQA := hid hqa
  have T0 : Tab (w.alloc (.cells #[] 44)) w.heap.size (.slice (some ⟨w.heap.size, 0, none⟩) 0 0) [] [] := Tab.lit (Nat.le_refl _)
  have HT0 := hid T0
  have CA : Hid (∀ W : World, Below w.heap.size w W → Calls Try.prog 24 #[v] W fun e w' => e = .returned (.bool qa) ∧ Below W.heap.size W w') := by
    intro W hW; rw [hqa]; exact sTab_any v rows W (h.below hW)
  clear hqa T0
  cases qa
  · have HO : Hid (echO rows = false) := by show _ = _; unfold echO; rw [← HQA.out]; rfl
    have HAN := hid (kerA_no HO.out)
    clear h
    go_enter Try.func26, Try.ntmps26
    go_wp2_with (go_at_call 24; refine (CA.out _ (b0 _ _)).mono ?_; rintro e w1 ⟨rfl, hb⟩)
    go_ret
    refine ⟨_, [], rfl, ?_, (b0 _ _).trans (hb.mono (by simp))⟩
    rw [HAN.out]
    exact HT0.out.below hb
  have HO : Hid (echO rows = echK rows) := by show _ = _; unfold echO; rw [← HQA.out]; rfl
  obtain ⟨q, hq⟩ : ∃ q, q = echK rows := ⟨_, rfl⟩
  have HQ := hid hq
  have HSE : Hid (∀ W : World, Below w.heap.size w W → Calls Try.prog 70 #[v] W fun e w' => SEchP W rows e w') := by
    intro W hW; exact sEchO_any v rows W (h.below hW) HQA.out.symm
  obtain ⟨⟨t1, t2, t3, t4⟩, tr⟩ := tabB_out HQA.out.symm
  obtain ⟨pa, ca, rfl, -, -, -, h5⟩ := h
  obtain ⟨ba, offa, ua, rfl, ca0, ⟨pa0, ca0', rfl, -, -, -, -⟩⟩ := h5 0 (by omega)
  rw [Nat.add_zero] at ca0
  obtain ⟨L, hL⟩ : ∃ L, L = (rw' rows 0).length := ⟨_, rfl⟩
  have HL := hid hL
  rw [← hL] at ca0 t3 t4
  have hL6 : L ≤ 6 := by omega
  clear hq h5 tr hL t4
  cases q
  · have HAN := hid (kerA_no (HO.out.trans HQ.out.symm))
    go_enter Try.func26, Try.ntmps26
    go_wp2_with (first | (go_at_call 24; refine (CA.out _ (b0 _ _)).mono ?_; rintro e w1 ⟨rfl, hb⟩; have B1 : Below w.heap.size w w1 := (b0 _ _).trans (hb.mono (by simp))) | (go_at_call 70; refine (HSE.out _ (by first | exact B1)).mono ?_; rintro e w2 ⟨vm, vc, us, rfl, t, c, hb2⟩; rw [← HQ.out]; clear c t))
    go_ret
    refine ⟨_, [], rfl, ?_, B1.trans (hb2.mono B1.size)⟩
    rw [HAN.out]
    exact (HT0.out.below hb).below hb2
  obtain ⟨d1, d2, d3, d4⟩ := ech_dims HQA.out.symm HQ.out.symm
  have hrise := ech_rises HQ.out.symm
  have HKA := hid (kerA_yes (HO.out.trans HQ.out.symm))
  obtain ⟨R, hR⟩ : ∃ R, R = echR rows := ⟨_, rfl⟩
  obtain ⟨C, hC⟩ : ∃ C, C = echC rows := ⟨_, rfl⟩
  have HSE2 : Hid (∀ W : World, Below w.heap.size w W → Calls Try.prog 70 #[.slice (some ⟨ba, offa, none⟩) rows.length ca] W fun e w' => ∃ vm vc us, e = .returned (.tuple #[vm, vc, .bool true]) ∧ Tab w' W.heap.size vm us R ∧ w'.ownsRow W.heap.size 3 1 vc C.length (natV C) ∧ Below W.heap.size W w') := by
    intro W hW
    refine (HSE.out W hW).mono ?_
    rintro e w2 ⟨vm, vc, us, rfl, t, c, hb2⟩
    rw [← HQ.out]
    rw [hR, hC]
    exact ⟨vm, vc, us, rfl, t, c, hb2⟩
  rw [← hR] at d1 d2 HKA
  rw [← hC] at d3 d4 hrise HKA
  rw [← HL.out] at d2 d4 HKA
  have HRI := hid hrise
  have HD : Hid (R.length = rows.length ∧ (∀ x, x < R.length → (rw' R x).length = L) ∧ C.length ≤ rows.length ∧ ∀ c, c ∈ C → c < L) := ⟨d1, d2, d3, d4⟩
  clear d1 d2 d3 d4 hrise hR hC HSE
  go_enter Try.func26, Try.ntmps26
  go_wp2_with (first | (go_at_call 24; refine (CA.out _ (b0 _ _)).mono ?_; rintro e w1 ⟨rfl, hb⟩; have B1 : Below w.heap.size w w1 := (b0 _ _).trans (hb.mono (by simp)); have hs1 := hb.size; have T1 := hid (HT0.out.below hb); clear hb) | (go_at_call 70; refine (HSE2.out _ (by first | exact B1)).mono ?_; rintro e w2 ⟨vm, vc, us, rfl, t, c, hb2⟩; have T := hid t; have CC := hid c; have B2 := B1.trans (hb2.mono B1.size); have T2 := hid (T1.out.below hb2); have hs2 := hb2.size; obtain ⟨ac, cc, rfl⟩ := own_shape c; obtain ⟨G, cG, rfl⟩ := own_some t.outer (by rw [t.len]; have := HD.out.1; omega); clear c t hb2 T1))
  have hw1 : w.heap.size < w1.heap.size := by simp at hs1; omega
  have hG1 : w1.heap.size ≤ G := (T.out.outer.lt G rfl).1
  have hG2 : G < w2.heap.size := (T.out.outer.lt G rfl).2
  have hul := T.out.len
  have HTf : Hid (∀ k, k < R.length → ∃ g d, w1.heap.size ≤ g ∧ g < w2.heap.size ∧ w2.cell? ⟨G, k, none⟩ = some (.slice (some ⟨g, 0, none⟩) L d) ∧ ∀ col, col < L → w2.cell? ⟨g, col * 2, none⟩ = some (.int .i64 (fr (rw' R k) col).1) ∧ w2.cell? ⟨g, col * 2 + 1, none⟩ = some (.int .i64 (fr (rw' R k) col).2)) := by
    intro k hk
    have ck := T.out.outer.cellAt k (by omega)
    have hin := T.out.inner k (by omega)
    rw [HD.out.2.1 k hk] at hin
    obtain ⟨g, d, ek⟩ := own_some hin (by omega)
    rw [show us[k]? = some (vl us k) by unfold vl; rw [List.getElem?_eq_getElem (by omega)]; rfl, ek] at ck
    rw [ek] at hin
    exact ⟨g, d, (hin.lt g rfl).1, (hin.lt g rfl).2, ck, fun col hcol => own_R hin (HD.out.2.1 k hk) col hcol⟩
  have HCf : Hid (∀ k, k < C.length → ∃ g, ac = some ⟨g, 0, none⟩ ∧ w1.heap.size ≤ g ∧ g < w2.heap.size ∧ w2.cell? ⟨g, k, none⟩ = some (.int .i64 (nt C k : Int)) ∧ nt C k < L) := by
    intro k hk
    obtain ⟨g, c', e⟩ := own_some CC.out (by omega)
    cases e
    exact ⟨g, rfl, (CC.out.lt g rfl).1, (CC.out.lt g rfl).2, nat_at CC.out k hk, HD.out.2.2.2 _ (nt_mem hk)⟩
  obtain ⟨nc, hnc⟩ : ∃ n, n = C.length := ⟨_, rfl⟩
  obtain ⟨N, hN⟩ : ∃ n, n = us.length := ⟨_, rfl⟩
  have HN : Hid (nc = C.length ∧ N = us.length ∧ us.length = R.length) := ⟨hnc, hN, hul⟩
  have hncN : nc ≤ N := by have := HD.out; omega
  have hN6 : N ≤ 6 := by have := HD.out; omega
  rw [← hnc, ← hN]
  have M0 : Mid w1.heap.size w2.heap.size w2 w2 := ⟨Nat.le_refl _, fun _ _ _ => rfl⟩
  clear hnc hN hul T CC hs1
  go_loopg [3, 7, 8] L (fun g o a i wr => ∃ (out : Value) (us' : List Value) (at' col : Nat), col + g = L ∧ i = .int .i64 col ∧ a = .int .i64 at' ∧ out = o ∧ Hid (us'.length = (freeC col C).length) ∧ Hid (Tab wr w.heap.size out us' ((freeC col C).map (kerRow R C L))) ∧ Hid (∀ b, out.ownBlock = some b → b = w.heap.size ∨ w2.heap.size ≤ b) ∧ Hid (atP C at' col) ∧ Hid (Mid w1.heap.size w2.heap.size w2 wr) ∧ Hid (Below w.heap.size w wr))
  case atStart => exact ⟨_, [], 0, 0, by omega, rfl, rfl, rfl, rfl, T2.out, fun b e => by cases e; exact .inl rfl, atP_zero C, M0, B2⟩
  case round =>
    clear T2 M0 B2
    obtain ⟨out, us', at', col, hcg, rfl, rfl, rfl, hul, hT, hOB, hA, hM, hB⟩ := hrel
    have ca := cell_keep hB.out ca0
    cases gk with
    | zero =>
      obtain rfl : col = L := by omega
      go_wp2
      go_ret
      refine ⟨_, us', rfl, ?_, hB.out⟩
      rw [HKA.out]
      exact hT.out
    | succ g =>
      have hcol : col < L := by omega
      have hac := hA.out.1
      by_cases hat : at' < nc
      · obtain ⟨gc, rfl, m1, m2, m3, m4⟩ := HCf.out at' (by have := HN.out; omega)
        replace m3 := hM.out.cell m3 m1 m2
        obtain ⟨x, hx⟩ : ∃ x, x = nt C at' := ⟨_, rfl⟩
        have HX := hid hx
        rw [← hx] at m3 m4
        clear hx
        by_cases hxc : x = col
        · subst hxc
          go_wp2
          go_roundg g
          case measure => omega
          case rel =>
            obtain ⟨a1, a2⟩ := atP_yes HRI.out hA.out (by have := HN.out; omega) HX.out.symm
            refine ⟨out, us', at' + 1, x + 1, by omega, by go_num, by go_num, rfl, ?_, ?_, hOB.out, a1, hM.out, hB.out⟩
            · rw [freeC_in a2]; exact hul.out
            · rw [freeC_in a2]; exact hT.out
        · have hxc2 : (x : Int) ≠ (col : Int) := by omega
          have hbe : ((x : Int) == (col : Int)) = false := by simpa using hxc2
          have hno := atP_no HRI.out hA.out (fun _ => by rw [← HX.out]; exact hxc)
          have HNO := hid hno
          clear hno
          go_upto_region 13 with fail
          obtain ⟨V, hVV⟩ : ∃ V, V = wr := ⟨_, rfl⟩
          subst hVV
          have hsz := hB.out.size
          obtain ⟨Sk, hSk⟩ : ∃ g, g = V.heap.size := ⟨_, rfl⟩
          have hSk2 : w2.heap.size ≤ Sk := by rw [hSk]; exact hM.out.1
          have hwSk : w.heap.size ≤ Sk := by omega
          have hU : Under Sk out us' := by rw [hSk]; exact hT.out.under
          have HU := hid hU
          have r0 : (V.alloc (.cells #[] 25)).ownsRow Sk 25 2 (.slice (some ⟨Sk, 0, none⟩) 0 0) 0 (cellsR (List.replicate 0 (0, 1))) := by
            rw [hSk]; exact World.ownsRow_lit V (base := V.heap.size) (e := 25) (size := 2) #[] 0 (Nat.le_refl _) (Nat.zero_le _) rfl
          have B0 : Below Sk V (V.alloc (.cells #[] 25)) := by rw [hSk]; exact b0 _ _
          have hs0 : Sk ≤ (V.alloc (.cells #[] 25)).heap.size := by rw [hSk]; simp
          go_wp2
          rw [← hSk]
          clear hSk hU
          go_loopg [9, 10] L (fun g2 r j wz => ∃ (rv : Value) (m : Nat), m + g2 = L ∧ j = .int .i64 m ∧ rv = r ∧ Hid (wz.ownsRow Sk 25 2 rv m (cellsR (List.replicate m (0, 1)))) ∧ Hid (Below Sk V wz) ∧ Sk ≤ wz.heap.size)
          case atStart => exact ⟨_, 0, by omega, rfl, rfl, r0, B0, hs0⟩
          case round =>
            clear r0 B0 hs0
            obtain ⟨rv, m, hmg, rfl, rfl, hO, hZ, hs0⟩ := hrel
            have ca2 := (hZ.out.cell (p := ⟨ba, offa, none⟩) (by have := World.block_lt_of_cell? w _ ca0; have h9 : ba < w.heap.size := this; show ba < Sk; omega)).trans ca
            cases gk with
            | zero =>
              obtain rfl : m = L := by omega
              obtain ⟨gv, cv, rfl⟩ := own_some hO.out (by omega)
              have hgv : Sk ≤ gv := (hO.out.lt gv rfl).1
              go_upto_region 19 with (go_at_call 71; refine (one_any _).mono ?_; rintro e w4 ⟨rfl, hb4⟩; have O4 := own_below hO.out hb4; obtain ⟨o1, o2⟩ := own_R O4 (by simp) col hcol; have z1 := O4.frozenAt (col * 2); have z2 := O4.frozenAt (col * 2 + 1); have HO4 := hid O4; clear O4)
              obtain ⟨s1, s2⟩ := row_set HO4.out (by simp) col hcol 1 1
              have B4 : Below Sk V ((w4.setCell ⟨gv, col * 2, none⟩ (.int .i64 1)).setCell ⟨gv, col * 2 + 1, none⟩ (.int .i64 1)) := ((hZ.out.trans (hb4.mono hs0)).setCell (p := ⟨gv, col * 2, none⟩) hgv _).setCell (p := ⟨gv, col * 2 + 1, none⟩) hgv _
              obtain ⟨Y, hY⟩ : ∃ Y, Y = (w4.setCell ⟨gv, col * 2, none⟩ (.int .i64 1)).setCell ⟨gv, col * 2 + 1, none⟩ (.int .i64 1) := ⟨_, rfl⟩
              rw [← hY] at s1 B4 ⊢
              obtain ⟨bs, hbs⟩ : ∃ b, b = (List.replicate m ((0, 1) : Fr)).set col (1, 1) := ⟨_, rfl⟩
              have HBS := hid hbs
              have hbl : bs.length = m := by rw [hbs, List.length_set]; simp
              have HBL := hid hbl
              rw [← hbs] at s1
              clear hY hbs hbl hb4 HO4 s2 o1 o2 z1 z2 hO hZ hs0 ca2
              go_wp2
              go_loopg [11] nc (fun g3 i wz => ∃ m3 : Nat, m3 + g3 = nc ∧ i = .int .i64 m3 ∧ Hid (wz.ownsRow Sk 25 2 (.slice (some ⟨gv, 0, none⟩) m cv) m (cellsR (setsK R C col m3 bs))) ∧ Hid (Below Sk V wz))
              case atStart => exact ⟨0, by omega, rfl, s1, B4⟩
              case round =>
                clear s1 B4
                obtain ⟨m3, hm3, rfl, hO, hZ⟩ := hrel
                have hgw : gv < wr.heap.size := (hO.out.lt gv rfl).2
                cases gk with
                | zero =>
                  obtain rfl : m3 = nc := by omega
                  have TZ := hT.out.low HU.out hZ.out
                  have hul6 : us'.length ≤ 6 := by rw [hul.out]; have := freeC_len col C; omega
                  obtain ⟨ao, co, rfl⟩ := own_shape TZ.outer
                  have HTZ := hid TZ
                  obtain ⟨nu, hnu⟩ : ∃ n, n = us'.length := ⟨_, rfl⟩
                  have HNU := hid hnu
                  have hou : Hid (wr.ownsRow w.heap.size 44 1 (.slice ao nu co) nu us') := by show World.ownsRow _ _ _ _ _ _ _; rw [hnu]; exact TZ.outer
                  rw [← hnu] at hul6 ⊢
                  clear TZ hnu
                  go_wp2_with (at_builtin; go_must (refine wpList_append_own_at _ rfl _ _ 33 rfl w.heap.size 44 t0 (.slice none 0 0) 1 24 Try.underlying33 hti htz0 htz1 htz2 rfl (by decide) _ _ _ rfl (World.ownsRow.alloc hou.out _) ⟨wr.heap.size, 0, none⟩ 1 1 [.slice (some ⟨gv, 0, none⟩) m cv] rfl rfl (cell_one_new _ _ _) (by simp [Value.oneCell']) (by unfold maxLen; omega) (by omega) (by simp; omega) ?_); intro v' w5 hown' hgrow _ hbl)
                  go_roundg g
                  case measure => omega
                  case rel =>
                    have hrow : setsK R C col m3 bs = kerRow R C m col := by unfold kerRow; rw [HN.out.1, HBS.out]
                    have T5 := HTZ.out.append (u := .slice (some ⟨gv, 0, none⟩) m cv) (ps := kerRow R C m col) (by rw [kerRow_len, ← hrow]; exact own_le hO.out hwSk) (fun i hi b e h2 => by
                      have h1 := HU.out.2 i hi b e
                      have h3 := (hO.out.lt b h2).1
                      omega) (by rw [← HNU.out]; exact hown') (by rw [← HNU.out]; exact hgrow)
                    have BW : Below w.heap.size w wr := hB.out.trans (hZ.out.mono hwSk)
                    refine ⟨v', us' ++ [Value.slice (some ⟨gv, 0, none⟩) m cv], at', col + 1, by omega, by go_num, rfl, rfl, ?_, ?_, ?_, HNO.out.1, ?_, BW.trans (below_appended hou.out BW.size hgrow)⟩
                    · show _ = _
                      rw [freeC_out HNO.out.2, List.length_append, List.length_append, hul.out]; rfl
                    · rw [freeC_out HNO.out.2, List.map_append]
                      exact T5
                    · intro b hb
                      rcases hbl with h1 | h1
                      · rw [h1] at hb; exact hOB.out b (by rw [← HNU.out]; exact hb)
                      · rw [h1] at hb
                        injection hb with hb
                        right
                        have := hZ.out.size
                        simp at hb
                        omega
                    · refine ⟨by have := hZ.out.size; have := hgrow.size; simp at this; omega, fun k h1 h2 => ?_⟩
                      have e1 := (hM.out.below hZ.out hSk2).2 k h1 h2
                      have hk : k < wr.heap.size := by have := hZ.out.size; omega
                      refine (hgrow.block k (by simp; omega) (fun e => ?_)).trans ((Below.heap_alloc _ _ _ hk).trans e1)
                      rcases hOB.out k (by rw [← HNU.out]; exact e.symm) with h3 | h3 <;> omega
                | succ g3 =>
                  have hmc : m3 < nc := by omega
                  have MZ := hM.out.below hZ.out hSk2
                  obtain ⟨gc2, e, m1, m2, f1, f2⟩ := HCf.out m3 (by have := HN.out.1; omega)
                  cases e
                  replace f1 := MZ.cell f1 m1 m2
                  obtain ⟨gr, dr, q1, q2, q3, q4⟩ := HTf.out m3 (by have := HN.out; omega)
                  obtain ⟨q5, q6⟩ := q4 col hcol
                  replace q3 := MZ.cell q3 hG1 hG2
                  replace q5 := MZ.cell q5 q1 q2
                  replace q6 := MZ.cell q6 q1 q2
                  obtain ⟨x, hx⟩ : ∃ x, x = nt C m3 := ⟨_, rfl⟩
                  obtain ⟨p, hp⟩ : ∃ p, p = fr (rw' R m3) col := ⟨_, rfl⟩
                  have HXP : Hid (x = nt C m3 ∧ p = fr (rw' R m3) col) := ⟨hx, hp⟩
                  rw [← hx] at f1 f2
                  rw [← hp] at q5 q6
                  obtain ⟨p1, p2⟩ := p
                  have hsl : (setsK R C col m3 bs).length = m := by rw [setsK_len]; exact HBL.out
                  have HSL := hid hsl
                  have hmN : m3 < N := by omega
                  obtain ⟨o1, o2⟩ := own_R hO.out hsl x f2
                  have z1 := hO.out.frozenAt (x * 2)
                  have z2 := hO.out.frozenAt (x * 2 + 1)
                  generalize ((setsK R C col m3 bs)[x]?.getD (0, 0)).1 = y1 at o1
                  generalize ((setsK R C col m3 bs)[x]?.getD (0, 0)).2 = y2 at o2
                  clear hx hp hsl MZ q4
                  go_wp2
                  go_region_with (go_at_call 53; refine (mirS_any p1 p2 _).mono ?_; rintro e w4 ⟨rfl, hb4⟩; have O4 := own_below (by first | exact hO.out | exact own_below hO.out ((Below.refl _ _).drew)) hb4; have z3 := O4.frozenAt (x * 2); have z4 := O4.frozenAt (x * 2 + 1); have c1 := cell_keep hb4 (by first | exact o1 | exact cell_dr o1); have c2 := cell_keep hb4 (by first | exact o2 | exact cell_dr o2); have c3 := cell_keep hb4 (by first | exact f1 | exact cell_dr f1); have B4 : Below Sk V w4 := Below.trans (by first | exact hZ.out | exact hZ.out.drew) (hb4.mono (by simp; omega)); have HO4 := hid O4; clear O4)
                  all_goals go_wp2
                  all_goals
                    go_roundg g3
                    case measure => omega
                    case rel =>
                      obtain ⟨s1, s2⟩ := row_set HO4.out HSL.out x f2 (wrap64 (-p1)) p2
                      refine ⟨m3 + 1, by omega, by go_num, ?_, (B4.setCell (p := ⟨gv, x * 2, none⟩) hgv _).setCell (p := ⟨gv, x * 2 + 1, none⟩) hgv _⟩
                      show World.ownsRow _ _ _ _ _ _ _
                      have e1 : setsK R C col (m3 + 1) bs = (setsK R C col m3 bs).set x (wrap64 (-p1), p2) := by
                        simp only [setsK]
                        rw [← HXP.out.1, ← HXP.out.2]
                        rfl
                      rw [e1]
                      exact s1
            | succ g2 =>
              have hmL : m < L := by omega
              obtain ⟨av, cv, rfl⟩ := own_shape hO.out
              go_wp2_with (first | (go_at_call 54; refine (zero_any _).mono ?_; rintro e w4 ⟨rfl, hb4⟩; have O4 := hid (own_below hO.out hb4); have hs4 : Sk ≤ w4.heap.size := Nat.le_trans hs0 hb4.size) | (at_builtin; refine wpList_append_own _ rfl _ _ 44 rfl Sk 25 i0 (.agg #[.int .i64 0, .int .i64 0]) 2 16 Try.underlying44 hi hz0 hz1 hz2 rfl (by decide) _ _ _ rfl (own_below O4.out (b0 _ _)) ⟨w4.heap.size, 0, none⟩ 1 1 [.int .i64 0, .int .i64 1] rfl rfl (cell_twoF _ _ _ _) (by intro u hu; simp at hu; rcases hu with rfl | rfl <;> rfl) (by unfold maxLen; omega) (by omega) (by simp; omega) ?_; intro v' w5 hown' hgrow _))
              go_roundg g2
              case measure => omega
              case rel =>
                refine ⟨v', m + 1, by omega, by go_num, rfl, ?_, hZ.out.trans ((hb4.mono hs0).trans (below_appended O4.out hs4 hgrow)), by have := hgrow.size; simp at this; omega⟩
                show World.ownsRow _ _ _ _ _ _ _
                rw [rep_succ, cellsR_append]
                exact hown'
      · have hno := atP_no HRI.out hA.out (fun h => absurd (by have := HN.out; omega) hat)
        have HNO := hid hno
        clear hno
        go_upto_region 13 with fail
        obtain ⟨V, hVV⟩ : ∃ V, V = wr := ⟨_, rfl⟩
        subst hVV
        have hsz := hB.out.size
        obtain ⟨Sk, hSk⟩ : ∃ g, g = V.heap.size := ⟨_, rfl⟩
        have hSk2 : w2.heap.size ≤ Sk := by rw [hSk]; exact hM.out.1
        have hwSk : w.heap.size ≤ Sk := by omega
        have hU : Under Sk out us' := by rw [hSk]; exact hT.out.under
        have HU := hid hU
        have r0 : (V.alloc (.cells #[] 25)).ownsRow Sk 25 2 (.slice (some ⟨Sk, 0, none⟩) 0 0) 0 (cellsR (List.replicate 0 (0, 1))) := by
          rw [hSk]; exact World.ownsRow_lit V (base := V.heap.size) (e := 25) (size := 2) #[] 0 (Nat.le_refl _) (Nat.zero_le _) rfl
        have B0 : Below Sk V (V.alloc (.cells #[] 25)) := by rw [hSk]; exact b0 _ _
        have hs0 : Sk ≤ (V.alloc (.cells #[] 25)).heap.size := by rw [hSk]; simp
        go_wp2
        rw [← hSk]
        clear hSk hU
        go_loopg [9, 10] L (fun g2 r j wz => ∃ (rv : Value) (m : Nat), m + g2 = L ∧ j = .int .i64 m ∧ rv = r ∧ Hid (wz.ownsRow Sk 25 2 rv m (cellsR (List.replicate m (0, 1)))) ∧ Hid (Below Sk V wz) ∧ Sk ≤ wz.heap.size)
        case atStart => exact ⟨_, 0, by omega, rfl, rfl, r0, B0, hs0⟩
        case round =>
          clear r0 B0 hs0
          obtain ⟨rv, m, hmg, rfl, rfl, hO, hZ, hs0⟩ := hrel
          have ca2 := (hZ.out.cell (p := ⟨ba, offa, none⟩) (by have := World.block_lt_of_cell? w _ ca0; have h9 : ba < w.heap.size := this; show ba < Sk; omega)).trans ca
          cases gk with
          | zero =>
            obtain rfl : m = L := by omega
            obtain ⟨gv, cv, rfl⟩ := own_some hO.out (by omega)
            have hgv : Sk ≤ gv := (hO.out.lt gv rfl).1
            go_upto_region 19 with (go_at_call 71; refine (one_any _).mono ?_; rintro e w4 ⟨rfl, hb4⟩; have O4 := own_below hO.out hb4; obtain ⟨o1, o2⟩ := own_R O4 (by simp) col hcol; have z1 := O4.frozenAt (col * 2); have z2 := O4.frozenAt (col * 2 + 1); have HO4 := hid O4; clear O4)
            obtain ⟨s1, s2⟩ := row_set HO4.out (by simp) col hcol 1 1
            have B4 : Below Sk V ((w4.setCell ⟨gv, col * 2, none⟩ (.int .i64 1)).setCell ⟨gv, col * 2 + 1, none⟩ (.int .i64 1)) := ((hZ.out.trans (hb4.mono hs0)).setCell (p := ⟨gv, col * 2, none⟩) hgv _).setCell (p := ⟨gv, col * 2 + 1, none⟩) hgv _
            obtain ⟨Y, hY⟩ : ∃ Y, Y = (w4.setCell ⟨gv, col * 2, none⟩ (.int .i64 1)).setCell ⟨gv, col * 2 + 1, none⟩ (.int .i64 1) := ⟨_, rfl⟩
            rw [← hY] at s1 B4 ⊢
            obtain ⟨bs, hbs⟩ : ∃ b, b = (List.replicate m ((0, 1) : Fr)).set col (1, 1) := ⟨_, rfl⟩
            have HBS := hid hbs
            have hbl : bs.length = m := by rw [hbs, List.length_set]; simp
            have HBL := hid hbl
            rw [← hbs] at s1
            clear hY hbs hbl hb4 HO4 s2 o1 o2 z1 z2 hO hZ hs0 ca2
            go_wp2
            go_loopg [11] nc (fun g3 i wz => ∃ m3 : Nat, m3 + g3 = nc ∧ i = .int .i64 m3 ∧ Hid (wz.ownsRow Sk 25 2 (.slice (some ⟨gv, 0, none⟩) m cv) m (cellsR (setsK R C col m3 bs))) ∧ Hid (Below Sk V wz))
            case atStart => exact ⟨0, by omega, rfl, s1, B4⟩
            case round =>
              clear s1 B4
              obtain ⟨m3, hm3, rfl, hO, hZ⟩ := hrel
              have hgw : gv < wr.heap.size := (hO.out.lt gv rfl).2
              cases gk with
              | zero =>
                obtain rfl : m3 = nc := by omega
                have TZ := hT.out.low HU.out hZ.out
                have hul6 : us'.length ≤ 6 := by rw [hul.out]; have := freeC_len col C; omega
                obtain ⟨ao, co, rfl⟩ := own_shape TZ.outer
                have HTZ := hid TZ
                obtain ⟨nu, hnu⟩ : ∃ n, n = us'.length := ⟨_, rfl⟩
                have HNU := hid hnu
                have hou : Hid (wr.ownsRow w.heap.size 44 1 (.slice ao nu co) nu us') := by show World.ownsRow _ _ _ _ _ _ _; rw [hnu]; exact TZ.outer
                rw [← hnu] at hul6 ⊢
                clear TZ hnu
                go_wp2_with (at_builtin; go_must (refine wpList_append_own_at _ rfl _ _ 33 rfl w.heap.size 44 t0 (.slice none 0 0) 1 24 Try.underlying33 hti htz0 htz1 htz2 rfl (by decide) _ _ _ rfl (World.ownsRow.alloc hou.out _) ⟨wr.heap.size, 0, none⟩ 1 1 [.slice (some ⟨gv, 0, none⟩) m cv] rfl rfl (cell_one_new _ _ _) (by simp [Value.oneCell']) (by unfold maxLen; omega) (by omega) (by simp; omega) ?_); intro v' w5 hown' hgrow _ hbl)
                go_roundg g
                case measure => omega
                case rel =>
                  have hrow : setsK R C col m3 bs = kerRow R C m col := by unfold kerRow; rw [HN.out.1, HBS.out]
                  have T5 := HTZ.out.append (u := .slice (some ⟨gv, 0, none⟩) m cv) (ps := kerRow R C m col) (by rw [kerRow_len, ← hrow]; exact own_le hO.out hwSk) (fun i hi b e h2 => by
                    have h1 := HU.out.2 i hi b e
                    have h3 := (hO.out.lt b h2).1
                    omega) (by rw [← HNU.out]; exact hown') (by rw [← HNU.out]; exact hgrow)
                  have BW : Below w.heap.size w wr := hB.out.trans (hZ.out.mono hwSk)
                  refine ⟨v', us' ++ [Value.slice (some ⟨gv, 0, none⟩) m cv], at', col + 1, by omega, by go_num, rfl, rfl, ?_, ?_, ?_, HNO.out.1, ?_, BW.trans (below_appended hou.out BW.size hgrow)⟩
                  · show _ = _
                    rw [freeC_out HNO.out.2, List.length_append, List.length_append, hul.out]; rfl
                  · rw [freeC_out HNO.out.2, List.map_append]
                    exact T5
                  · intro b hb
                    rcases hbl with h1 | h1
                    · rw [h1] at hb; exact hOB.out b (by rw [← HNU.out]; exact hb)
                    · rw [h1] at hb
                      injection hb with hb
                      right
                      have := hZ.out.size
                      simp at hb
                      omega
                  · refine ⟨by have := hZ.out.size; have := hgrow.size; simp at this; omega, fun k h1 h2 => ?_⟩
                    have e1 := (hM.out.below hZ.out hSk2).2 k h1 h2
                    have hk : k < wr.heap.size := by have := hZ.out.size; omega
                    refine (hgrow.block k (by simp; omega) (fun e => ?_)).trans ((Below.heap_alloc _ _ _ hk).trans e1)
                    rcases hOB.out k (by rw [← HNU.out]; exact e.symm) with h3 | h3 <;> omega
              | succ g3 =>
                have hmc : m3 < nc := by omega
                have MZ := hM.out.below hZ.out hSk2
                obtain ⟨gc2, e, m1, m2, f1, f2⟩ := HCf.out m3 (by have := HN.out.1; omega)
                cases e
                replace f1 := MZ.cell f1 m1 m2
                obtain ⟨gr, dr, q1, q2, q3, q4⟩ := HTf.out m3 (by have := HN.out; omega)
                obtain ⟨q5, q6⟩ := q4 col hcol
                replace q3 := MZ.cell q3 hG1 hG2
                replace q5 := MZ.cell q5 q1 q2
                replace q6 := MZ.cell q6 q1 q2
                obtain ⟨x, hx⟩ : ∃ x, x = nt C m3 := ⟨_, rfl⟩
                obtain ⟨p, hp⟩ : ∃ p, p = fr (rw' R m3) col := ⟨_, rfl⟩
                have HXP : Hid (x = nt C m3 ∧ p = fr (rw' R m3) col) := ⟨hx, hp⟩
                rw [← hx] at f1 f2
                rw [← hp] at q5 q6
                obtain ⟨p1, p2⟩ := p
                have hsl : (setsK R C col m3 bs).length = m := by rw [setsK_len]; exact HBL.out
                have HSL := hid hsl
                have hmN : m3 < N := by omega
                obtain ⟨o1, o2⟩ := own_R hO.out hsl x f2
                have z1 := hO.out.frozenAt (x * 2)
                have z2 := hO.out.frozenAt (x * 2 + 1)
                generalize ((setsK R C col m3 bs)[x]?.getD (0, 0)).1 = y1 at o1
                generalize ((setsK R C col m3 bs)[x]?.getD (0, 0)).2 = y2 at o2
                clear hx hp hsl MZ q4
                go_wp2
                go_region_with (go_at_call 53; refine (mirS_any p1 p2 _).mono ?_; rintro e w4 ⟨rfl, hb4⟩; have O4 := own_below (by first | exact hO.out | exact own_below hO.out ((Below.refl _ _).drew)) hb4; have z3 := O4.frozenAt (x * 2); have z4 := O4.frozenAt (x * 2 + 1); have c1 := cell_keep hb4 (by first | exact o1 | exact cell_dr o1); have c2 := cell_keep hb4 (by first | exact o2 | exact cell_dr o2); have c3 := cell_keep hb4 (by first | exact f1 | exact cell_dr f1); have B4 : Below Sk V w4 := Below.trans (by first | exact hZ.out | exact hZ.out.drew) (hb4.mono (by simp; omega)); have HO4 := hid O4; clear O4)
                all_goals go_wp2
                all_goals
                  go_roundg g3
                  case measure => omega
                  case rel =>
                    obtain ⟨s1, s2⟩ := row_set HO4.out HSL.out x f2 (wrap64 (-p1)) p2
                    refine ⟨m3 + 1, by omega, by go_num, ?_, (B4.setCell (p := ⟨gv, x * 2, none⟩) hgv _).setCell (p := ⟨gv, x * 2 + 1, none⟩) hgv _⟩
                    show World.ownsRow _ _ _ _ _ _ _
                    have e1 : setsK R C col (m3 + 1) bs = (setsK R C col m3 bs).set x (wrap64 (-p1), p2) := by
                      simp only [setsK]
                      rw [← HXP.out.1, ← HXP.out.2]
                      rfl
                    rw [e1]
                    exact s1
          | succ g2 =>
            have hmL : m < L := by omega
            obtain ⟨av, cv, rfl⟩ := own_shape hO.out
            go_wp2_with (first | (go_at_call 54; refine (zero_any _).mono ?_; rintro e w4 ⟨rfl, hb4⟩; have O4 := hid (own_below hO.out hb4); have hs4 : Sk ≤ w4.heap.size := Nat.le_trans hs0 hb4.size) | (at_builtin; refine wpList_append_own _ rfl _ _ 44 rfl Sk 25 i0 (.agg #[.int .i64 0, .int .i64 0]) 2 16 Try.underlying44 hi hz0 hz1 hz2 rfl (by decide) _ _ _ rfl (own_below O4.out (b0 _ _)) ⟨w4.heap.size, 0, none⟩ 1 1 [.int .i64 0, .int .i64 1] rfl rfl (cell_twoF _ _ _ _) (by intro u hu; simp at hu; rcases hu with rfl | rfl <;> rfl) (by unfold maxLen; omega) (by omega) (by simp; omega) ?_; intro v' w5 hown' hgrow _))
            go_roundg g2
            case measure => omega
            case rel =>
              refine ⟨v', m + 1, by omega, by go_num, rfl, ?_, hZ.out.trans ((hb4.mono hs0).trans (below_appended O4.out hs4 hgrow)), by have := hgrow.size; simp at this; omega⟩
              show World.ownsRow _ _ _ _ _ _ _
              rw [rep_succ, cellsR_append]
              exact hown'
end Go.Proofs.Ytbbkejfcheobaab
