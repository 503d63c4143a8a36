/- The walks of the program's kernel and Kernel. -/
import Derived.Test.YtbbkejfcheobaakKerW1
namespace Go.Proofs.Ytbbkejfcheobaak
open Go.RowKit Go.Proofs.Ytbbkejfcheobaak.RM

theorem rw_map (f : Nat → List Fr) (F : List Nat) (k : Nat) (h : k < F.length) : rw' (F.map f) k = f (nt F k) := by
  show (List.map _ _)[k]?.getD [] = _
  unfold nt
  rw [List.getElem?_map, List.getElem?_eq_getElem h]
  rfl

set_option maxRecDepth 1000000 in
set_option maxHeartbeats 4000000 in
theorem kernel_any (vm vc vf : Value) (us : List Value) (R : List (List Fr)) (C : List Nat) (L b1 b2 b3 : Nat) (w : World) (ht : Tab w b1 vm us R) (hc : w.ownsRow b2 3 1 vc C.length (natV C)) (hf : w.ownsRow b3 3 1 vf (freeC L C).length (natV (freeC L C)))
    (hL1 : 1 ≤ L) (hL2 : L ≤ 1000) (hR : 1 ≤ R.length) (hRL : ∀ x, x < R.length → (rw' R x).length = L) (hCR : C.length ≤ R.length) (hR2 : R.length ≤ 1000) (hCL : ∀ c, c ∈ C → c < L) :
    Calls Try.prog 34 #[.agg #[vm, vc, vf]] w fun e w' => ∃ v us', e = .returned v ∧ Tab w' w.heap.size v us' ((freeC L C).map (kerRow R C L)) ∧ Below w.heap.size w w' := by
  obtain ⟨t0, hti, htz0, htz1, htz2⟩ := info_parts infoT
  obtain ⟨F, hF⟩ : ∃ F, F = freeC L C := ⟨_, rfl⟩
  rw [← hF] at hf ⊢
  have hF2 : F.length ≤ 1000 := by rw [hF]; have := freeC_len L C; omega
  have hFL : ∀ c, c ∈ F → c < L := by intro c h; rw [hF] at h; exact (freeC_mem.1 h).1
  have HK : Hid (∀ (W : World) (col : Nat), Below w.heap.size w W → col < L → Calls Try.prog 61 #[.agg #[vm, vc, vf], .int .i64 col] W fun e w' => ∃ g, e = .returned (.slice (some ⟨g, 0, none⟩) L L) ∧ w'.ownsRow W.heap.size 37 2 (.slice (some ⟨g, 0, none⟩) L L) L (cellsR (kerRow R C L col)) ∧ Below W.heap.size W w') := by
    intro W col hW hcol
    have := kerRow_any vm vc vf us R C F L col b1 b2 b3 W (ht.below hW) (own_below hc hW) (own_below hf hW) hL1 hL2 hR hRL hCR hR2 hCL hFL hF2 hcol
    rw [show setsK R C col C.length ((setsF F F.length (List.replicate L ((0, 0) : Fr))).set col (1, 1)) = kerRow R C L col by rw [hF]; exact kerRow_impl R C L col hCL hcol] at this
    exact this
  obtain ⟨G, cG, rfl⟩ := own_some ht.outer (by rw [ht.len]; omega)
  obtain ⟨ac, cc, rfl⟩ := own_shape hc
  obtain ⟨af, cf, rfl⟩ := own_shape hf
  have HFC : Hid (∀ k, k < F.length → ∃ g, af = some ⟨g, 0, none⟩ ∧ w.cell? ⟨g, k, none⟩ = some (.int .i64 (nt F k : Int)) ∧ nt F k < L) := by
    intro k hk
    obtain ⟨g, c', e⟩ := own_some hf (by omega)
    cases e
    exact ⟨g, rfl, nat_at hf k hk, hFL _ (nt_mem hk)⟩
  obtain ⟨T, hT⟩ : ∃ T, T = F.map (kerRow R C L) := ⟨_, rfl⟩
  have hTl : T.length = F.length := by rw [hT, List.length_map]
  have HT : Hid (∀ k, k < F.length → rw' T k = kerRow R C L (nt F k)) := by intro k hk; rw [hT]; exact rw_map _ _ _ hk
  rw [← hT]
  obtain ⟨nf, hnf⟩ : ∃ n, n = F.length := ⟨_, rfl⟩
  have HN : Hid (nf = F.length ∧ T.length = F.length) := ⟨hnf, hTl⟩
  rw [← hnf] at hF2 HK ⊢
  obtain ⟨N, hN⟩ : ∃ n, n = us.length := ⟨_, rfl⟩
  obtain ⟨nc, hnc⟩ : ∃ n, n = C.length := ⟨_, rfl⟩
  rw [← hN, ← hnc] at HK ⊢
  clear ht hc hf hR hRL hCR hR2 hCL hFL hF hT hTl hnf hN hnc
  go_enter Try.func34, Try.ntmps34
  go_upto_region 1 with fail
  obtain ⟨E, hE⟩ : ∃ E, E = w.heap.size := ⟨_, rfl⟩
  obtain ⟨X, hX⟩ : ∃ X, X = w.alloc (.cells #[.slice (some ⟨G, 0, none⟩) N cG, .slice ac nc cc, .slice af nf cf] 51) := ⟨_, rfl⟩
  have hblk : X.heap[E]? = some (.cells #[.slice (some ⟨G, 0, none⟩) N cG, .slice ac nc cc, .slice af nf cf] 51 (0, 0)) := by rw [hX, hE]; exact World.alloc_heap_new w _
  have BX : Below w.heap.size w X := by rw [hX]; exact (Below.refl _ _).alloc (Nat.le_refl _) _
  have hXs : X.heap.size = E + 1 := by rw [hX, hE]; simp
  rw [← hX, ← hE]
  obtain ⟨r0, r1, r2, z0, z1, z2, hEl⟩ := cells3 hblk
  have HXS := hid hXs
  have hwE : w.heap.size ≤ E := by omega
  clear hX hE hXs
  go_wp2_with (at_make; refine wpList_make_full _ rfl _ _ 44 rfl w.heap.size 45 t0 (.slice none 0 0) 1 Try.underlying44 hti htz0 htz1 .i64 .i64 _ _ nf rfl rfl rfl rfl (by rw [htz2]; omega) (by unfold maxLen; omega) BX.size ?_; intro w3 hown hgrow; have hblk3 := (hgrow.block E hEl (by simp)).trans hblk; obtain ⟨p0, p1, p2, y0, y1, y2, hEl3⟩ := cells3 hblk3)
  have B3 : Below w.heap.size w w3 := BX.grown hgrow BX.size (fun b e => by cases e)
  obtain ⟨Gk, hGk⟩ : ∃ g, g = X.heap.size := ⟨_, rfl⟩
  have o0 : Tab w3 w.heap.size (.slice (some ⟨Gk, 0, none⟩) nf nf) (List.replicate nf (.slice none 0 0)) (cpyT T 0) := by
    rw [cpyT_zero, HN.out.2, ← HN.out.1, hGk]; refine Tab.made ?_; rw [← madeT]; exact hown
  have hER : E ≠ Gk := by have := HXS.out; omega
  have hwR : w.heap.size ≤ Gk := by have := HXS.out; omega
  rw [← hGk]
  clear hGk hown hgrow hblk HXS r0 r1 r2 z0 z1 z2 hEl BX p0 p1 p2 y0 y1 y2 hEl3
  go_loopg [13] nf (fun g i wr => ∃ (k : Nat) (us' : List Value), k + g = nf ∧ i = .int .i64 k ∧ Hid (Tab wr w.heap.size (.slice (some ⟨Gk, 0, none⟩) nf nf) us' (cpyT T k)) ∧ Hid (wr.heap[E]? = some (.cells #[.slice (some ⟨G, 0, none⟩) N cG, .slice ac nc cc, .slice af nf cf] 51 (0, 0))) ∧ Hid (Below w.heap.size w wr))
  case atStart => exact ⟨0, _, by omega, rfl, o0, hblk3, B3⟩
  case round =>
    clear o0 hblk3 B3
    obtain ⟨k, us', hkg, rfl, hT, hK, hB⟩ := hrel
    cases gk with
    | zero =>
      obtain rfl : k = nf := by omega
      go_wp2
      go_ret
      have := hT.out
      rw [show cpyT T k = T by rw [HN.out.1, ← HN.out.2]; exact cpyT_all T] at this
      exact ⟨_, us', rfl, this, hB.out⟩
    | succ g =>
      have hkn : k < nf := by omega
      obtain ⟨gf, rfl, f1, f2⟩ := HFC.out k (by have := HN.out.1; omega)
      replace f1 := cell_keep hB.out f1
      obtain ⟨x, hx⟩ : ∃ x, x = nt F k := ⟨_, rfl⟩
      have HX := hid hx
      rw [← hx] at f1 f2
      have hlu : us'.length = nf := by have := hT.out.len; rw [cpyT_len] at this; have := HN.out; omega
      have HLU := hid hlu
      have HKR := hid (HK.out wr x hB.out f2)
      obtain ⟨r0, r1, r2, _, _, _, hEl⟩ := cells3 hK.out
      have hsz := hB.out.size
      clear hx hlu
      go_wp2_with (go_at_call 61; refine (HKR.out).mono ?_; rintro e w4 ⟨gr, rfl, orow, hb4⟩; have T4 := hT.out.below hb4; have ho := T4.outer; rw [HLU.out] at ho; have d1 := ho.cellAt k (by omega); have f3 := ho.frozenAt k; rw [List.getElem?_eq_getElem (by have := HLU.out; omega)] at d1; have HT4 := hid T4; have HOR := hid orow; clear T4 ho orow)
      go_roundg g
      case measure => omega
      case rel =>
        have T5 := HT4.out.put (k := k) (u := .slice (some ⟨gr, 0, none⟩) L L) (ps := kerRow R C L x) (by rw [HLU.out]; exact hkn) (by rw [kerRow_len]; exact own_le HOR.out hsz) (fun i hi _ b hb hb2 => by
          have h1 := hT.out.lt i hi b hb
          have h2 := (HOR.out.lt b hb2).1
          omega)
        rw [show kerRow R C L x = rw' T k by rw [HT.out k (by have := HN.out.1; omega), HX.out], cpyT_set] at T5
        exact ⟨k + 1, _, by omega, by go_num, T5, blk_set ((hb4.block E (cells3 hK.out).2.2.2.2.2.2).trans hK.out) hER _ _, (hB.out.trans (hb4.mono hsz)).setCell (p := ⟨Gk, k, none⟩) hwR _⟩

end Go.Proofs.Ytbbkejfcheobaak
