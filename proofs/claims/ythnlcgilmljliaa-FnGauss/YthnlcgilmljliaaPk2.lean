/- Several texts of this proof laid one behind the other: each has its own heading below. -/
import Derived.Test.YthnlcgilmljliaaPk1
import Derived.Test.YthnlcgilmljliaaSpW0
import Derived.Deep.RegionHeld3

/- Curves and spots that are drawn. -/
namespace Go.Proofs.Ythnlcgilmljliaa
open Go.RowKit Go.Proofs.Ythnlcgilmljliaa.RM

theorem hidG {p : Prop} (h : p) : Hid p := h
set_option maxHeartbeats 800000 in
theorem small_any (cb : Nat) (a : Option Addr) (len cap : Nat) (zs : List Int) (w : World) (hc : Cur w cb a len cap zs) :
    Calls Try.prog 57 #[.pointer (some ⟨cb, 0, none⟩)] w fun e w' => ∃ n d : Int, e = .returned (.agg #[.int .i64 n, .int .i64 d]) ∧ Cur w' cb a len cap zs ∧ Ex cb w w' := by
  have HC : Hid (Cur (w.alloc (.cells #[.int .i64 0, .int .i64 0] 33)) cb a len cap zs) := hc.below ((Below.refl _ _).alloc (Nat.le_refl _) _)
  have hlt := hc.lt
  have HROW : Hid (∀ b off, a = some ⟨b, off, none⟩ → 0 < zs.length → b < w.heap.size) := hc.2.1.lt
  clear hc
  go_enter Try.func57, Try.ntmps57
  go_wp2_with fail
  refine (from_any cb _ _ a len cap zs _ HC.out (by omega) (by omega) (by omega)).mono ?_
  rintro e w1 ⟨x, rfl, hx0, hx1, hC1, hE1⟩
  have HC1 : Hid (Cur w1 cb a len cap zs) := hC1
  have HE1 : Hid (Ex cb w w1) := (Ex.alloc (Ex.refl cb w) _).trans hE1
  have c0 : w1.cell? ⟨w.heap.size, 0, none⟩ = some (.int .i64 0) := by refine hE1.cell ?_ (by omega); simp [go_sem]
  have c1 : w1.cell? ⟨w.heap.size, 1, none⟩ = some (.int .i64 0) := by refine hE1.cell ?_ (by omega); simp [go_sem]
  have f0 : w1.frozen? ⟨w.heap.size, 0, none⟩ = false := by refine hE1.frozen (v := .int .i64 0) ?_ ?_ (by omega) <;> simp [go_sem]
  have f1 : w1.frozen? ⟨w.heap.size, 1, none⟩ = false := by refine hE1.frozen (v := .int .i64 0) ?_ ?_ (by omega) <;> simp [go_sem]
  clear hC1 hE1 HC
  go_wp2_with fail
  refine (below_any cb _ a len cap zs _ HC1.out (by omega)).mono ?_
  rintro e w2 ⟨y, rfl, hy0, hy1, hC2, hE2⟩
  have HC2 : Hid (Cur w2 cb a len cap zs) := hC2
  have HE2 : Hid (Ex cb w w2) := HE1.out.trans hE2
  have d0 := hE2.cell c0 (by omega)
  have d1 := hE2.cell c1 (by omega)
  have k0 := hE2.frozen c0 f0 (by omega)
  have k1 := hE2.frozen c1 f1 (by omega)
  clear hC2 hE2 HC1 HE1 c0 c1 f0 f1
  go_wp2_with fail
  refine (sRed_any _ _ _).mono ?_
  rintro e w3 ⟨rfl, hb3⟩
  obtain ⟨rn, hrn⟩ : ∃ z, z = redN x (1 + y) := ⟨_, rfl⟩
  obtain ⟨rd, hrd⟩ : ∃ z, z = redD x (1 + y) := ⟨_, rfl⟩
  obtain ⟨ro, hro⟩ : ∃ z, z = redOk x (1 + y) := ⟨_, rfl⟩
  rw [← hrn, ← hrd, ← hro]
  have HC3 : Hid (Cur w3 cb a len cap zs) := HC2.out.below hb3
  have HE3 : Hid (Ex cb w w3) := HE2.out.trans (Ex.of_below hb3)
  have e0 := cell_later hb3 d0
  have e1 := cell_later hb3 d1
  have q0 : w3.frozen? ⟨w.heap.size, 0, none⟩ = false := (Ex.of_below (cb := cb) hb3).frozen d0 k0 (by omega)
  have q1 : w3.frozen? ⟨w.heap.size, 1, none⟩ = false := (Ex.of_below (cb := cb) hb3).frozen d1 k1 (by omega)
  have hsz : w.heap.size < w3.heap.size := lt_cell e0
  clear hb3 HC2 HE2 d0 d1 k0 k1 hrn hrd hro
  have r0 : (((w3.setCell ⟨w.heap.size, 0, none⟩ (.int .i64 rn)).setCell ⟨w.heap.size, 1, none⟩ (.int .i64 rd)).alloc (.cells #[.int .i64 rn, .int .i64 rd] 33)).cell? ⟨w.heap.size, 0, none⟩ = some (.int .i64 rn) := cell_al _ (new2 e0 e1).1
  have r01 : (((w3.setCell ⟨w.heap.size, 0, none⟩ (.int .i64 rn)).setCell ⟨w.heap.size, 1, none⟩ (.int .i64 rd)).alloc (.cells #[.int .i64 rn, .int .i64 rd] 33)).cell? ⟨w.heap.size, 1, none⟩ = some (.int .i64 rd) := cell_al _ (new2 e0 e1).2
  go_wp2
  refine bodyPost_ret (v := .agg #[.int .i64 rn, .int .i64 rd]) (by simp [results, Try.results57, go_sem, r0, r01]) rfl ⟨_, _, rfl, ?_, ?_⟩
  · exact HC3.out.ex (x := w.heap.size) ((((Ex.refl _ w3).setCell (.inl rfl) _).setCell (.inl rfl) _).alloc _) (by omega) (fun b off e hz => by have := HROW.out b off e hz; omega)
  · exact ((HE3.out.setCell (.inr (Nat.le_refl _)) _).setCell (.inr (Nat.le_refl _)) _).alloc _

theorem cellsS_snoc (ss : List Sp) (x y z u : Int) : cellsS (ss ++ [((x, y), (z, u))]) = cellsS ss ++ [Value.int .i64 x, .int .i64 y, .int .i64 z, .int .i64 u] := by simp [cellsS]
theorem cell_fourF (w : World) (a b c d : Value) (t : TypeId) : ∀ j u, [a, b, c, d][j]? = some u → (w.alloc (.cells #[a, b, c, d] t)).cell? ((⟨w.heap.size, 0, none⟩ : Addr).add j) = some u := by
  intro j u h
  match j, h with
  | 0, h => simp at h; subst h; simp [go_sem, Addr.add]
  | 1, h => simp at h; subst h; simp [go_sem, Addr.add]
  | 2, h => simp at h; subst h; simp [go_sem, Addr.add]
  | 3, h => simp at h; subst h; simp [go_sem, Addr.add]
set_option maxRecDepth 100000 in
set_option maxHeartbeats 4000000 in
theorem dCurve_any (cb : Nat) (a : Option Addr) (len cap : Nat) (zs : List Int) (w : World) (hc : Cur w cb a len cap zs) :
    Calls Try.prog 31 #[.pointer (some ⟨cb, 0, none⟩)] w fun e w' => ∃ (v : Value) (ps : List Fr), e = .returned v ∧ w'.ownsRow w.heap.size 33 2 v ps.length (cellsR ps) ∧ Cur w' cb a len cap zs ∧ Ex cb w w' := by
  obtain ⟨i0, hi, hz0, hz1, hz2⟩ := info_parts infoF
  have b0 : ∀ (u : World) (o : Obj), Below u.heap.size u (u.alloc o) := fun u o => (Below.refl _ _).alloc (Nat.le_refl _) o
  have hlt := hc.lt
  have HROW : Hid (∀ b off, a = some ⟨b, off, none⟩ → 0 < zs.length → b < w.heap.size) := hc.2.1.lt
  have HC : Hid (Cur w cb a len cap zs) := hc
  clear hc
  have o0 : (w.alloc (.cells #[] 33)).ownsRow w.heap.size 33 2 (.slice (some ⟨w.heap.size, 0, none⟩) 0 0) ([] : List Fr).length (cellsR []) := ⟨rfl, .inr ⟨w.heap.size, 0, #[], rfl, Nat.le_refl _, World.alloc_heap_new w _, Nat.le_refl _, Nat.zero_le _, rfl, rfl⟩⟩
  have C0 := hidG (HC.out.below (b0 _ (.cells #[] 33)))
  have E0 := hidG ((Ex.refl cb w).alloc (.cells #[] 33))
  have O0 := hidG o0
  clear o0 HC
  go_enter Try.func31, Try.ntmps31
  go_wp2_with fail
  refine (below_any cb _ a len cap zs _ C0.out (by omega)).mono ?_
  rintro e w2 ⟨n, rfl, n0, n1, hC', hE⟩
  replace O0 := hidG (ownEx O0.out hE hlt)
  replace C0 := hidG hC'
  replace E0 := hidG (E0.out.trans hE)
  clear hC' hE
  go_wp2
  go_loopw [3, 4] (fun o i wr => ∃ (ps : List Fr) (m : Int), i = .int .i64 m ∧ 0 ≤ m ∧ ps.length + m ≤ 6 ∧ Hid (wr.ownsRow w.heap.size 33 2 o ps.length (cellsR ps)) ∧ Hid (Cur wr cb a len cap zs) ∧ Hid (Ex cb w wr)) (fun _ i _ => (intOf i).toNat)
  case atStart => exact ⟨[], 1 + n, rfl, by omega, by simp; omega, O0.out, C0.out, E0.out⟩
  case round =>
    clear O0 C0 E0
    obtain ⟨ps, m, rfl, hm0, hm2, hO, HC, HE⟩ := hrel
    have hsz := HE.out.size
    have hkm : ps.length + 1 ≤ maxLen := by unfold maxLen; omega
    by_cases hlt2 : 0 < m
    · go_wp2_with fail
      refine (small_any cb a len cap zs _ HC.out).mono ?_
      rintro e w4 ⟨x, y, rfl, hC', hE⟩
      have hO2 := hidG (ownEx hO.out hE hlt)
      have hE2 := hidG (HE.out.trans hE)
      have hC2 := hidG hC'
      have hs2 := hE2.out.size
      clear hC' hE
      go_wp2_with (at_builtin; refine wpList_append_own _ rfl _ _ 27 rfl w.heap.size 33 i0 (.agg #[.int .i64 0, .int .i64 0]) 2 16 Try.underlying27 hi hz0 hz1 hz2 rfl (by decide) _ _ _ rfl (World.ownsRow.alloc hO2.out _) ⟨w4.heap.size, 0, none⟩ 1 1 [.int .i64 x, .int .i64 y] rfl rfl (cell_twoF _ _ _ _) (by intro u hu; simp at hu; rcases hu with rfl | rfl <;> rfl) (by omega) (by omega) (by simp; omega) ?_; intro v' w5 hown' hgrow _; have HC5 := hidG (curRow hC2.out hO2.out hlt HROW.out hgrow); have HE5 := hidG (exRow hE2.out hO2.out (Nat.le_refl _) hgrow); have HO5 := hidG hown'; clear hown' hgrow)
      have hn5 : (ps ++ [(x, y)]).length = ps.length + 1 := by simp
      have hO6 : Hid (w5.ownsRow w.heap.size 33 2 v' (ps ++ [(x, y)]).length (cellsR (ps ++ [(x, y)]))) := by
        show World.ownsRow _ _ _ _ _ _ _
        rw [cellsR_snoc]
        simpa using HO5.out
      clear HO5
      go_roundw
      case rel => exact ⟨ps ++ [(x, y)], m - 1, by go_num, by omega, by rw [hn5]; omega, hO6.out, HC5.out, HE5.out⟩
      case measure => simp [intOf]; omega
    · go_wp2_with fail
      refine (once_any cb _ a len cap zs _ HC.out (by omega)).mono ?_
      rintro e w3 ⟨z, rfl, hC', hE⟩
      replace hO := hidG (ownEx hO.out hE hlt)
      replace HC := hidG hC'
      replace HE := hidG (HE.out.trans hE)
      clear hC' hE
      cases z
      · go_wp2
        refine bodyPost_ret (results_tmp rfl _ _ _) rfl ⟨_, ps, rfl, ?_, HC.out, HE.out⟩
        exact hO.out
      go_wp2_with fail
      refine (drawAny_any cb a len cap zs _ HC.out).mono ?_
      rintro e w4 ⟨x, y, rfl, hC', hE⟩
      have hO2 := hidG (ownEx hO.out hE hlt)
      have hE2 := hidG (HE.out.trans hE)
      have hC2 := hidG hC'
      have hs2 := hE2.out.size
      clear hC' hE
      go_wp2_with (at_builtin; refine wpList_append_own _ rfl _ _ 27 rfl w.heap.size 33 i0 (.agg #[.int .i64 0, .int .i64 0]) 2 16 Try.underlying27 hi hz0 hz1 hz2 rfl (by decide) _ _ _ rfl (World.ownsRow.alloc hO2.out _) ⟨w4.heap.size, 0, none⟩ 1 1 [.int .i64 x, .int .i64 y] rfl rfl (cell_twoF _ _ _ _) (by intro u hu; simp at hu; rcases hu with rfl | rfl <;> rfl) (by omega) (by omega) (by simp; omega) ?_; intro v' w5 hown' hgrow _; have HC5 := hidG (curRow hC2.out hO2.out hlt HROW.out hgrow); have HE5 := hidG (exRow hE2.out hO2.out (Nat.le_refl _) hgrow); have HO5 := hidG hown'; clear hown' hgrow)
      refine bodyPost_ret (results_tmp rfl _ _ _) rfl ⟨_, ps ++ [(x, y)], rfl, ?_, HC5.out, HE5.out⟩
      rw [cellsR_snoc]
      simpa using HO5.out
/-- one of the two fractions of a spot is put -/
theorem own_putX {W : World} {base g n c : Nat} {ss : List Sp} (h : W.ownsRow base 54 4 (.slice (some ⟨g, 0, none⟩) n c) n (cellsS ss)) (hl : ss.length = n) (hn : 0 < n) (x1 x2 : Int) :
    ∃ s2 : List Sp, s2.length = n ∧ ((W.setCell ⟨g, 0, none⟩ (.int .i64 x1)).setCell ⟨g, 1, none⟩ (.int .i64 x2)).ownsRow base 54 4 (.slice (some ⟨g, 0, none⟩) n c) n (cellsS s2) := by
  obtain ⟨p1, _⟩ := h.stored 0 (.int .i64 x1)
  obtain ⟨p2, _⟩ := p1.stored 1 (.int .i64 x2)
  cases ss with
  | nil => simp at hl; omega
  | cons s r =>
    obtain ⟨⟨s1, s2⟩, s3, s4⟩ := s
    exact ⟨((x1, x2), (s3, s4)) :: r, by simpa using hl, p2⟩
theorem own_putY {W : World} {base g n c : Nat} {ss : List Sp} (h : W.ownsRow base 54 4 (.slice (some ⟨g, 0, none⟩) n c) n (cellsS ss)) (hl : ss.length = n) (hn : 0 < n) (x1 x2 : Int) :
    ∃ s2 : List Sp, s2.length = n ∧ ((W.setCell ⟨g, 2, none⟩ (.int .i64 x1)).setCell ⟨g, 3, none⟩ (.int .i64 x2)).ownsRow base 54 4 (.slice (some ⟨g, 0, none⟩) n c) n (cellsS s2) := by
  obtain ⟨p1, _⟩ := h.stored 2 (.int .i64 x1)
  obtain ⟨p2, _⟩ := p1.stored 3 (.int .i64 x2)
  cases ss with
  | nil => simp at hl; omega
  | cons s r =>
    obtain ⟨⟨s1, s2⟩, s3, s4⟩ := s
    exact ⟨((s1, s2), (x1, x2)) :: r, by simpa using hl, p2⟩

set_option maxRecDepth 100000 in
set_option maxHeartbeats 4000000 in
theorem dSpots_any (cb : Nat) (a : Option Addr) (len cap : Nat) (zs : List Int) (w : World) (hc : Cur w cb a len cap zs) :
    Calls Try.prog 25 #[.pointer (some ⟨cb, 0, none⟩)] w fun e w' => ∃ (v : Value) (ss : List Sp), e = .returned v ∧ RdS w' v ss ∧ Cur w' cb a len cap zs ∧ Ex cb w w' ∧ ∀ b, v.ownBlock = some b → w.heap.size ≤ b := by
  obtain ⟨i0, hi, hz0, hz1, hz2⟩ := info_parts infoS
  have b0 : ∀ (u : World) (o : Obj), Below u.heap.size u (u.alloc o) := fun u o => (Below.refl _ _).alloc (Nat.le_refl _) o
  have hlt := hc.lt
  have HROW : Hid (∀ b off, a = some ⟨b, off, none⟩ → 0 < zs.length → b < w.heap.size) := hc.2.1.lt
  have HC : Hid (Cur w cb a len cap zs) := hc
  clear hc
  have o0 : (w.alloc (.cells #[] 54)).ownsRow w.heap.size 54 4 (.slice (some ⟨w.heap.size, 0, none⟩) 0 0) ([] : List Sp).length (cellsS []) := ⟨rfl, .inr ⟨w.heap.size, 0, #[], rfl, Nat.le_refl _, World.alloc_heap_new w _, Nat.le_refl _, Nat.zero_le _, rfl, rfl⟩⟩
  have C0 := hidG (HC.out.below (b0 _ (.cells #[] 54)))
  have E0 := hidG ((Ex.refl cb w).alloc (.cells #[] 54))
  have O0 := hidG o0
  clear o0 HC
  go_enter Try.func25, Try.ntmps25
  go_wp2_with fail
  refine (below_any cb _ a len cap zs _ C0.out (by omega)).mono ?_
  rintro e w2 ⟨n, rfl, n0, n1, hC', hE⟩
  replace O0 := hidG (ownEx O0.out hE hlt)
  replace C0 := hidG hC'
  replace E0 := hidG (E0.out.trans hE)
  clear hC' hE
  go_wp2
  go_loopw [3, 4] (fun o i wr => ∃ (ss : List Sp) (m : Int), i = .int .i64 m ∧ 0 ≤ m ∧ 1 ≤ ss.length + m ∧ ss.length + m ≤ 6 ∧ Hid (wr.ownsRow w.heap.size 54 4 o ss.length (cellsS ss)) ∧ Hid (Cur wr cb a len cap zs) ∧ Hid (Ex cb w wr)) (fun _ i _ => (intOf i).toNat)
  case atStart => exact ⟨[], 2 + n, rfl, by omega, by simp; omega, by simp; omega, O0.out, C0.out, E0.out⟩
  case round =>
    clear O0 C0 E0
    obtain ⟨ss, m, rfl, hm0, hm1, hm2, hO, HC, HE⟩ := hrel
    have hsz := HE.out.size
    have hkm : ss.length + 1 ≤ maxLen := by unfold maxLen; omega
    by_cases hlt2 : 0 < m
    · go_wp2_with fail
      refine (from_any cb (-3) 7 a len cap zs _ HC.out (by omega) (by omega) (by omega)).mono ?_
      rintro e w3 ⟨x, rfl, x0, x1, hC', hE⟩
      replace hO := hidG (ownEx hO.out hE hlt)
      replace HE := hidG (HE.out.trans hE)
      replace HC := hidG hC'
      clear hC' hE
      go_wp2_with fail
      refine (small_any cb a len cap zs _ HC.out).mono ?_
      rintro e w4 ⟨y, z, rfl, hC', hE⟩
      have hO2 := hidG (ownEx hO.out hE hlt)
      have hE2 := hidG (HE.out.trans hE)
      have hC2 := hidG hC'
      have hs2 := hE2.out.size
      clear hC' hE
      go_wp2_with (at_builtin; refine wpList_append_own _ rfl _ _ 24 rfl w.heap.size 54 i0 (.agg #[.int .i64 0, .int .i64 0, .int .i64 0, .int .i64 0]) 4 32 Try.underlying24 hi hz0 hz1 hz2 rfl (by decide) _ _ _ rfl (World.ownsRow.alloc hO2.out _) ⟨w4.heap.size, 0, none⟩ 1 1 [.int .i64 x, .int .i64 1, .int .i64 y, .int .i64 z] rfl rfl (cell_fourF _ _ _ _ _ _) (by intro u hu; simp at hu; rcases hu with rfl | rfl | rfl | rfl <;> rfl) (by omega) (by omega) (by simp; omega) ?_; intro v' w5 hown' hgrow _; have HC5 := hidG (curRow hC2.out hO2.out hlt HROW.out hgrow); have HE5 := hidG (exRow hE2.out hO2.out (Nat.le_refl _) hgrow); have HO5 := hidG hown'; clear hown' hgrow)
      have hn5 : (ss ++ [((x, 1), (y, z))]).length = ss.length + 1 := by simp
      have hO6 : Hid (w5.ownsRow w.heap.size 54 4 v' (ss ++ [((x, 1), (y, z))]).length (cellsS (ss ++ [((x, 1), (y, z))]))) := by
        show World.ownsRow _ _ _ _ _ _ _
        rw [cellsS_snoc]
        simpa using HO5.out
      clear HO5
      go_roundw
      case rel => exact ⟨ss ++ [((x, 1), (y, z))], m - 1, by go_num, by omega, by rw [hn5]; omega, by rw [hn5]; omega, hO6.out, HC5.out, HE5.out⟩
      case measure => simp [intOf]; omega
    · have hl0 : 1 ≤ ss.length := by omega
      obtain ⟨L, hL⟩ : ∃ L, L = ss.length := ⟨_, rfl⟩
      rw [← hL] at hO hm1 hm2 hl0
      have HL := hidG hL.symm
      obtain ⟨gb, gc, rfl⟩ := own_some hO.out (by omega)
      have hgb := (hO.out.lt gb rfl).1
      clear hL
      go_wp2_with fail
      refine (once_any cb _ a len cap zs _ HC.out (by omega)).mono ?_
      rintro e w3 ⟨z, rfl, hC', hE⟩
      replace hO := hidG (ownEx hO.out hE hlt)
      replace HC := hidG hC'
      replace HE := hidG (HE.out.trans hE)
      clear hC' hE
      cases z
      · go_wp2
        refine bodyPost_ret (results_tmp rfl _ _ _) rfl ⟨_, ss, rfl, ?_, HC.out, HE.out, fun b e => by cases e; exact hgb⟩
        exact (RdS.own hO.out).1
      go_wp2_with fail
      refine (below_any cb _ a len cap zs _ HC.out (by omega)).mono ?_
      rintro e w4 ⟨x, rfl, x0, x1, hC', hE⟩
      replace hO := hidG (ownEx hO.out hE hlt)
      replace HC := hidG hC'
      replace HE := hidG (HE.out.trans hE)
      clear hC' hE
      have hx : x = 0 ∨ x = 1 ∨ x = 2 := by omega
      clear x0 x1
      rcases hx with rfl | rfl | rfl
      · go_wp2_with fail
        refine (drawAny_any cb a len cap zs _ HC.out).mono ?_
        rintro e w5 ⟨y, z, rfl, hC', hE⟩
        replace hO := hidG (ownEx hO.out hE hlt)
        replace HC := hidG hC'
        replace HE := hidG (HE.out.trans hE)
        clear hC' hE
        have f0 := hO.out.frozenAt 0
        have f1 := hO.out.frozenAt 1
        obtain ⟨d0, d1, d2, d3⟩ := own_S hO.out HL.out 0 (by omega)
        simp only [Nat.zero_mul, Nat.zero_add] at d0 d1 d2 d3
        generalize (sp ss 0).1.1 = q0 at d0
        generalize (sp ss 0).1.2 = q1 at d1
        generalize (sp ss 0).2.1 = q2 at d2
        generalize (sp ss 0).2.2 = q3 at d3
        obtain ⟨s2, hs2, hO2⟩ := own_putX hO.out HL.out (by omega) y z
        have HO2 := hidG hO2
        have HCS : Hid (Cur ((w5.setCell ⟨gb, 0, none⟩ (.int .i64 y)).setCell ⟨gb, 1, none⟩ (.int .i64 z)) cb a len cap zs) := curSet (curSet HC.out (show cb ≠ gb by omega) (fun b' off e hz => by have := HROW.out b' off e hz; omega)) (show cb ≠ gb by omega) (fun b' off e hz => by have := HROW.out b' off e hz; omega)
        have HES : Hid (Ex cb w ((w5.setCell ⟨gb, 0, none⟩ (.int .i64 y)).setCell ⟨gb, 1, none⟩ (.int .i64 z))) := exSet (exSet HE.out hgb) hgb
        clear hO hO2 HC HE
        go_wp2
        refine bodyPost_ret (results_tmp rfl _ _ _) rfl ⟨_, s2, rfl, ?_, HCS.out, HES.out, fun b e => by cases e; exact hgb⟩
        obtain ⟨h1, _⟩ := RdS.own HO2.out
        exact h1
      · have hL1 : (1 : Int) ≤ (L : Int) := by omega
        have hcap : L ≤ gc := by
          rcases hO.out.2 with ⟨h, _⟩ | ⟨g', c', cur, h, _, _, h3, _⟩
          · cases h
          · cases h; exact h3
        have hcap2 : gc ≤ maxLen := by
          rcases hO.out.2 with ⟨h, _⟩ | ⟨g', c', cur, h, _, _, h3, h4, _⟩
          · cases h
          · cases h; exact h4
        have hR : RdS w4 (.slice (some ⟨gb, 0, none⟩) 1 gc) (ss.take 1) := by
          have hl1 : (ss.take 1).length = 1 := by rw [List.length_take, HL.out]; omega
          refine ⟨_, gc, by rw [hl1], by rw [hl1]; unfold maxLen; omega, by rw [hl1]; omega, hcap2, fun j hj => ?_⟩
          rw [hl1] at hj
          obtain rfl : j = 0 := by omega
          obtain ⟨d0, d1, d2, d3⟩ := own_S hO.out HL.out 0 (by omega)
          have e : sp (ss.take 1) 0 = sp ss 0 := by unfold sp; rw [List.getElem?_take, if_pos (by omega)]
          rw [e]
          exact ⟨gb, 0, rfl, by simpa using d0, by simpa using d1, by simpa using d2, by simpa using d3⟩
        have HR := hidG hR
        unfold maxLen at hcap2
        clear hR
        go_wp2
        refine bodyPost_ret (results_tmp rfl _ _ _) rfl ⟨_, ss.take 1, rfl, ?_, HC.out, HE.out, fun b e => by cases e; exact hgb⟩
        exact HR.out
      · go_wp2_with fail
        refine (drawAny_any cb a len cap zs _ HC.out).mono ?_
        rintro e w5 ⟨y, z, rfl, hC', hE⟩
        replace hO := hidG (ownEx hO.out hE hlt)
        replace HC := hidG hC'
        replace HE := hidG (HE.out.trans hE)
        clear hC' hE
        have f0 := hO.out.frozenAt 2
        have f1 := hO.out.frozenAt 3
        obtain ⟨d0, d1, d2, d3⟩ := own_S hO.out HL.out 0 (by omega)
        simp only [Nat.zero_mul, Nat.zero_add] at d0 d1 d2 d3
        generalize (sp ss 0).1.1 = q0 at d0
        generalize (sp ss 0).1.2 = q1 at d1
        generalize (sp ss 0).2.1 = q2 at d2
        generalize (sp ss 0).2.2 = q3 at d3
        obtain ⟨s2, hs2, hO2⟩ := own_putY hO.out HL.out (by omega) y z
        have HO2 := hidG hO2
        have HCS : Hid (Cur ((w5.setCell ⟨gb, 2, none⟩ (.int .i64 y)).setCell ⟨gb, 3, none⟩ (.int .i64 z)) cb a len cap zs) := curSet (curSet HC.out (show cb ≠ gb by omega) (fun b' off e hz => by have := HROW.out b' off e hz; omega)) (show cb ≠ gb by omega) (fun b' off e hz => by have := HROW.out b' off e hz; omega)
        have HES : Hid (Ex cb w ((w5.setCell ⟨gb, 2, none⟩ (.int .i64 y)).setCell ⟨gb, 3, none⟩ (.int .i64 z))) := exSet (exSet HE.out hgb) hgb
        clear hO hO2 HC HE
        go_wp2
        refine bodyPost_ret (results_tmp rfl _ _ _) rfl ⟨_, s2, rfl, ?_, HCS.out, HES.out, fun b e => by cases e; exact hgb⟩
        obtain ⟨h1, _⟩ := RdS.own HO2.out
        exact h1
end Go.Proofs.Ythnlcgilmljliaa

/- What is drawn for the laws of lines. -/
namespace Go.Proofs.Ythnlcgilmljliaa
open Go.RowKit Go.Proofs.Ythnlcgilmljliaa.RM

/-- a row of spots stays readable under a draw -/
theorem RdS.ex {w w' : World} {cb : Nat} {v : Value} {ss : List Sp} (h : RdS w v ss) (hx : Ex cb w w') (hne : ∀ b off c n, v = .slice (some ⟨b, off, none⟩) n c → b ≠ cb) : RdS w' v ss := by
  obtain ⟨a, c, rfl, h2, h3, h4, h5⟩ := h
  refine ⟨a, c, rfl, h2, h3, h4, fun j hj => ?_⟩
  obtain ⟨b, off, rfl, k1, k2, k3, k4⟩ := h5 j hj
  have := hne b off c _ rfl
  exact ⟨b, off, rfl, hx.cell k1 this, hx.cell k2 this, hx.cell k3 this, hx.cell k4 this⟩

set_option maxRecDepth 100000 in
set_option maxHeartbeats 2000000 in
theorem dMiss_any (a : Option Addr) (len cap : Nat) (zs : List Int) (w : World) (hr : IsRow .u8 w a len cap zs) :
    Calls Try.prog 7 #[.slice a len cap] w fun e w' => ∃ (v : Value) (cs : List Fr) (z : Value) (ss : List Sp), e = .returned (.tuple #[v, z]) ∧ RdR w' v cs ∧ RdS w' z ss ∧ Below w.heap.size w w' := by
  have HR : Hid (IsRow .u8 w a len cap zs) := hr
  clear hr
  go_enter Try.func7, Try.ntmps7
  go_wp2_with fail
  refine (new_any a len cap zs _ HR.out).mono ?_
  rintro e w1 ⟨rfl, hC1, B1, hs1⟩
  obtain ⟨cb, hcb⟩ : ∃ b, b = w.heap.size := ⟨_, rfl⟩
  rw [← hcb] at hC1
  have HC : Hid (Cur w1 cb a len cap zs) := hC1
  have HB := hidG B1
  have hcw : w.heap.size ≤ cb := by omega
  rw [← hcb]
  clear hC1 HR B1 hcb
  go_wp2_with fail
  refine (dCurve_any cb a len cap zs _ HC.out).mono ?_
  rintro e w2 ⟨v, cs, rfl, hO, hC', hE⟩
  have hlt := HC.out.lt
  have HO := hidG hO
  replace HC := hidG hC'
  replace HB := hidG (Ex.below HB.out hE hcw)
  clear hO hC' hE
  go_wp2_with fail
  refine (dSpots_any cb a len cap zs _ HC.out).mono ?_
  rintro e w3 ⟨z, ss, rfl, hS, hC', hE, _⟩
  have HRD := hidG (RdR.own (ownEx HO.out hE hlt)).1
  have HSD := hidG hS
  replace HB := hidG (Ex.below HB.out hE hcw)
  clear hC' hE HO hS
  go_wp2
  exact bodyPost_ret (v := .tuple #[v, z]) (by simp [results, Try.results7, go_sem]) rfl ⟨v, cs, z, ss, rfl, HRD.out, HSD.out, HB.out⟩

set_option maxRecDepth 100000 in
set_option maxHeartbeats 2000000 in
theorem dCurveAt_any (a : Option Addr) (len cap : Nat) (zs : List Int) (w : World) (hr : IsRow .u8 w a len cap zs) :
    Calls Try.prog 10 #[.slice a len cap] w fun e w' => ∃ (v : Value) (cs : List Fr) (p q : Int), e = .returned (.tuple #[v, .agg #[.int .i64 p, .int .i64 q]]) ∧ RdR w' v cs ∧ Below w.heap.size w w' := by
  have BB : Below w.heap.size w (w.alloc (.cells #[.int .i64 0, .int .i64 0] 33)) := (Below.refl _ _).alloc (Nat.le_refl _) _
  have HR := hidG (hr.below BB)
  have ZR := hidG (IsR.new w 0 0)
  obtain ⟨X, hX⟩ : ∃ X, X = w.alloc (.cells #[.int .i64 0, .int .i64 0] 33) := ⟨_, rfl⟩
  obtain ⟨Rb, hRb⟩ : ∃ R, R = w.heap.size := ⟨_, rfl⟩
  rw [← hX] at BB HR ZR
  rw [← hRb] at ZR
  have HB := hidG BB
  have hwR : w.heap.size ≤ Rb := by omega
  clear hr BB
  go_enter Try.func10, Try.ntmps10
  go_wp2_with fail
  rw [← hX, ← hRb]
  clear hX hRb
  refine (new_any a len cap zs _ HR.out).mono ?_
  rintro e w1 ⟨rfl, hC1, B1, hs1⟩
  have hRX := ZR.out.lt
  replace ZR := hidG (ZR.out.below B1)
  have hXw := HB.out.size
  replace HB := hidG (HB.out.trans (B1.mono hXw))
  obtain ⟨cb, hcb⟩ : ∃ b, b = X.heap.size := ⟨_, rfl⟩
  rw [← hcb] at hC1
  have HC : Hid (Cur w1 cb a len cap zs) := hC1
  have hcw : w.heap.size ≤ cb := by omega
  have hRc : Rb < cb := by omega
  rw [← hcb]
  clear hC1 HR B1 hcb hRX hXw
  go_wp2_with fail
  refine (dCurve_any cb a len cap zs _ HC.out).mono ?_
  rintro e w2 ⟨v, cs, rfl, hO, hC', hE⟩
  have hlt := HC.out.lt
  have HO := hidG hO
  replace HC := hidG hC'
  replace HB := hidG (Ex.below HB.out hE hcw)
  replace ZR := hidG (isR_ex ZR.out hE (by omega))
  clear hO hC' hE
  go_wp2_with fail
  refine (drawAny_any cb a len cap zs _ HC.out).mono ?_
  rintro e w3 ⟨p, q, rfl, hC', hE⟩
  replace HO := hidG (ownEx HO.out hE hlt)
  replace HB := hidG (Ex.below HB.out hE hcw)
  replace ZR := hidG (isR_ex ZR.out hE (by omega))
  have hRO : Hid (∀ b, v.ownBlock = some b → b ≠ Rb) := fun b e => by have := (HO.out.lt b e).1; omega
  clear hC' hE
  have z0 := ZR.out.c0
  have z1 := ZR.out.c1
  have z2 := ZR.out.f0
  have z3 := ZR.out.f1
  have HO2 := hidG (HO.out.kept (row := some Rb) (grown_set w3 Rb 0 (.int .i64 p)) (.inr fun e => hRO.out Rb e rfl))
  have HO3 := hidG (HO2.out.kept (row := some Rb) (grown_set _ Rb 1 (.int .i64 q)) (.inr fun e => hRO.out Rb e rfl))
  have Z3 := (ZR.out.set0 p).set1 q
  have y0 := Z3.c0
  have y1 := Z3.c1
  go_wp2
  refine bodyPost_ret (v := .tuple #[v, .agg #[.int .i64 p, .int .i64 q]]) (by simp [results, Try.results10, go_sem, y0, y1]) rfl ⟨v, cs, p, q, rfl, ?_, (HB.out.setCell (p := ⟨Rb, 0, none⟩) hwR _).setCell (p := ⟨Rb, 1, none⟩) hwR _⟩
  exact (RdR.own HO3.out).1

theorem cell_eight (w : World) (B : Nat) (hB : B = w.heap.size) (t : TypeId) (x : Int) (h0 : 0 ≤ x) (h1 : x < 8) : ∃ n : Int, (w.alloc (.cells #[.int .i64 0, .int .i64 1, .int .i64 2, .int .i64 2, .int .i64 3, .int .i64 4, .int .i64 5, .int .i64 (-1)] t)).cell? ⟨B, x.toNat, none⟩ = some (.int .i64 n) := by
  subst hB
  have hx : x = 0 ∨ x = 1 ∨ x = 2 ∨ x = 3 ∨ x = 4 ∨ x = 5 ∨ x = 6 ∨ x = 7 := by omega
  rcases hx with rfl | rfl | rfl | rfl | rfl | rfl | rfl | rfl
  · exact ⟨0, by simp [go_sem]⟩
  · exact ⟨1, by simp [go_sem]⟩
  · exact ⟨2, by simp [go_sem]⟩
  · exact ⟨2, by simp [go_sem]⟩
  · exact ⟨3, by simp [go_sem]⟩
  · exact ⟨4, by simp [go_sem]⟩
  · exact ⟨5, by simp [go_sem]⟩
  · exact ⟨-1, by simp [go_sem]⟩

set_option maxRecDepth 100000 in
set_option maxHeartbeats 4000000 in
theorem dFitted_any (a : Option Addr) (len cap : Nat) (zs : List Int) (w : World) (hr : IsRow .u8 w a len cap zs) :
    Calls Try.prog 5 #[.slice a len cap] w fun e w' => ∃ (z : Value) (ss : List Sp) (n : Int), e = .returned (.tuple #[z, .int .i64 n]) ∧ RdS w' z ss ∧ Below w.heap.size w w' := by
  have HR : Hid (IsRow .u8 w a len cap zs) := hr
  clear hr
  go_enter Try.func5, Try.ntmps5
  go_wp2_with fail
  refine (new_any a len cap zs _ HR.out).mono ?_
  rintro e w1 ⟨rfl, hC1, B1, hs1⟩
  obtain ⟨cb, hcb⟩ : ∃ b, b = w.heap.size := ⟨_, rfl⟩
  rw [← hcb] at hC1
  have HC : Hid (Cur w1 cb a len cap zs) := hC1
  have HB := hidG B1
  have hcw : w.heap.size ≤ cb := by omega
  rw [← hcb]
  clear hC1 HR B1 hcb
  go_wp2_with fail
  refine (dSpots_any cb a len cap zs _ HC.out).mono ?_
  rintro e w2 ⟨z, ss, rfl, hS, hC', hE, hob⟩
  have hlt := HC.out.lt
  have HS := hidG hS
  have HNE : Hid (∀ b off c n, z = .slice (some ⟨b, off, none⟩) n c → b ≠ cb) := by
    intro b off c n e1 e2
    subst e1
    have := hob b (by simp [Value.ownBlock])
    omega
  replace HC := hidG hC'
  replace HB := hidG (Ex.below HB.out hE hcw)
  clear hS hC' hE hob hlt
  go_upto_region 3 with fail
  refine wp_region_noPanic ?_
  refine wp_region_held_drew (S := (fun _ => True)) (by kernel_rfl) ?_ (fun hHeld => ?_)
  · (try dsimp only)
    all_goals trivial
  have hb := (Below.refl w2.heap.size w2).drew
  replace HC := hidG (HC.out.below hb)
  replace HS := hidG (HS.out.below hb)
  replace HB := hidG (HB.out.trans (hb.mono HB.out.size))
  clear hb
  obtain ⟨wd, hwd⟩ : ∃ u, u = w2.drew := ⟨_, rfl⟩
  rw [← hwd] at HC HS HB ⊢
  clear hwd
  refine wpAnyH_take (i := 0) (v := ?_) rfl (by kernel_rfl) (by kernel_rfl) (by kernel_rfl) (fun _ _ _ h => h) (Or.inl ⟨by kernel_rfl, ?_⟩) hHeld ?_
  rotate_left
  · intro wz hSw; (try dsimp only at hSw); go_simp; all_goals (try with_reducible rfl)
  (try simp only [List.getElem_toArray]); (try simp only [List.getElem_cons_succ]); (try simp only [List.getElem_cons_zero]); (try simp only [Act.put]); (try simp only [List.setIfInBounds_toArray]); (try simp only [List.set_cons_succ]); (try simp only [List.set_cons_zero])
  refine wpAnyH_take (i := 2) (v := ?_) rfl (by kernel_rfl) (by kernel_rfl) (by kernel_rfl) (fun _ _ _ h => h) (Or.inl ⟨by kernel_rfl, ?_⟩) hHeld ?_
  rotate_left
  · intro wz hSw; (try dsimp only at hSw); go_simp; all_goals (try with_reducible rfl)
  (try simp only [List.getElem_toArray]); (try simp only [List.getElem_cons_succ]); (try simp only [List.getElem_cons_zero]); (try simp only [Act.put]); (try simp only [List.setIfInBounds_toArray]); (try simp only [List.set_cons_succ]); (try simp only [List.set_cons_zero])
  refine wpAnyH_ready (rs := [1, 3]) (by kernel_rfl) (by simp) (AllReadyH.cons rfl (fun Kc hKc => ?_) (AllReadyH.cons rfl (fun Kc hKc => ?_) AllReadyH.nil))
  ·
    go_simp
    obtain ⟨B, hBB⟩ : ∃ A, A = wd.heap.size := ⟨_, rfl⟩
    obtain ⟨u1, hu⟩ : ∃ u, u = wd.alloc (.cells #[.int .i64 0, .int .i64 1, .int .i64 2, .int .i64 2, .int .i64 3, .int .i64 4, .int .i64 5, .int .i64 (-1)] 2) := ⟨_, rfl⟩
    have hb : Below wd.heap.size wd u1 := by rw [hu]; exact (Below.refl _ _).alloc (Nat.le_refl _) _
    have HX : Hid (∀ x : Int, 0 ≤ x → x < 8 → ∃ n : Int, u1.cell? ⟨B, x.toNat, none⟩ = some (.int .i64 n)) := by intro x h0 h1; rw [hu]; exact cell_eight _ B hBB _ x h0 h1
    have hBc : B ≠ cb := by have := HC.out.lt; omega
    rw [← hu, ← hBB]
    replace HC := hidG (HC.out.below hb)
    replace HS := hidG (HS.out.below hb)
    replace HB := hidG (HB.out.trans (hb.mono HB.out.size))
    clear hb hu hBB
    refine hKc.out _ _ ?_ (fun hHeld => ?_)
    · all_goals trivial
    clear hKc Kc
    (try simp only [List.getElem_toArray]); (try simp only [List.getElem_cons_succ]); (try simp only [List.getElem_cons_zero]); (try simp only [Act.put]); (try simp only [List.setIfInBounds_toArray]); (try simp only [List.set_cons_succ]); (try simp only [List.set_cons_zero])
    refine wpAnyH_ready (rs := [3]) (by kernel_rfl) (by simp) (AllReadyH.cons rfl (fun Kc hKc => ?_) AllReadyH.nil)
    go_simp
    (go_at_call 26; refine (below_any cb _ a len cap zs _ HC.out (by omega)).mono ?_; rintro e u2 ⟨x, rfl, x0, x1, hC', hE⟩)
    replace HS := hidG (HS.out.ex hE HNE.out)
    replace HC := hidG hC'
    replace HB := hidG (Ex.below HB.out hE hcw)
    obtain ⟨m, hm⟩ := HX.out x x0 x1
    replace hm := hE.cell hm hBc
    clear hC' hE
    go_wp2_with fail
    refine hKc.out _ _ ?_ (fun hHeld => ?_)
    · all_goals trivial
    clear hKc Kc
    (try simp only [List.getElem_toArray]); (try simp only [List.getElem_cons_succ]); (try simp only [List.getElem_cons_zero]); (try simp only [Act.put]); (try simp only [List.setIfInBounds_toArray]); (try simp only [List.set_cons_succ]); (try simp only [List.set_cons_zero])
    refine wpAnyH_take (i := 6) (v := ?_) rfl (by kernel_rfl) (by kernel_rfl) (by kernel_rfl) (fun _ _ _ h => h) (Or.inl ⟨by kernel_rfl, ?_⟩) hHeld ?_
    rotate_left
    · intro wz hSw; (try dsimp only at hSw); go_simp; all_goals (try with_reducible rfl)
    (try simp only [List.getElem_toArray]); (try simp only [List.getElem_cons_succ]); (try simp only [List.getElem_cons_zero]); (try simp only [Act.put]); (try simp only [List.setIfInBounds_toArray]); (try simp only [List.set_cons_succ]); (try simp only [List.set_cons_zero])
    obtain ⟨i, rfl⟩ : ∃ i : Nat, x = i := ⟨x.toNat, by omega⟩
    rw [Int.toNat_natCast] at hm
    refine wpAnyH_take (i := 4) (v := ?_) rfl (by kernel_rfl) (by kernel_rfl) (by kernel_rfl) (fun _ _ _ h => h) (Or.inl ⟨by kernel_rfl, ?_⟩) hHeld ?_
    rotate_left
    · intro wz hSw; (try dsimp only at hSw); go_simp; all_goals (try with_reducible rfl)
    (try simp only [List.getElem_toArray]); (try simp only [List.getElem_cons_succ]); (try simp only [List.getElem_cons_zero]); (try simp only [Act.put]); (try simp only [List.setIfInBounds_toArray]); (try simp only [List.set_cons_succ]); (try simp only [List.set_cons_zero])
    refine wpAnyH_ready (rs := [5]) (by kernel_rfl) (by simp) (AllReadyH.cons rfl (fun Kc hKc => ?_) AllReadyH.nil)
    go_simp
    refine hKc.out _ _ ?_ (fun hHeld => ?_)
    · all_goals trivial
    clear hKc Kc
    (try simp only [List.getElem_toArray]); (try simp only [List.getElem_cons_succ]); (try simp only [List.getElem_cons_zero]); (try simp only [Act.put]); (try simp only [List.setIfInBounds_toArray]); (try simp only [List.set_cons_succ]); (try simp only [List.set_cons_zero])
    refine wpAnyH_take (i := 7) (v := ?_) rfl (by kernel_rfl) (by kernel_rfl) (by kernel_rfl) (fun _ _ _ h => h) (Or.inl ⟨by kernel_rfl, ?_⟩) hHeld ?_
    rotate_left
    · intro wz hSw; (try dsimp only at hSw); go_simp; all_goals (try with_reducible rfl)
    (try simp only [List.getElem_toArray]); (try simp only [List.getElem_cons_succ]); (try simp only [List.getElem_cons_zero]); (try simp only [Act.put]); (try simp only [List.setIfInBounds_toArray]); (try simp only [List.set_cons_succ]); (try simp only [List.set_cons_zero])
    refine wpAnyH_done (by kernel_rfl) ?_ _
    refine NoPanic.normal ?_
    go_wp2
    exact bodyPost_ret (v := .tuple #[z, .int .i64 m]) (by simp [results, Try.results5, go_sem]) rfl ⟨z, ss, m, rfl, HS.out, HB.out⟩
  ·
    go_simp
    (go_at_call 26; refine (below_any cb _ a len cap zs _ HC.out (by omega)).mono ?_; rintro e u3 ⟨x, rfl, x0, x1, hC', hE⟩)
    replace HS := hidG (HS.out.ex hE HNE.out)
    replace HC := hidG hC'
    replace HB := hidG (Ex.below HB.out hE hcw)
    clear hC' hE
    go_wp2_with fail
    refine hKc.out _ _ ?_ (fun hHeld => ?_)
    · all_goals trivial
    clear hKc Kc
    (try simp only [List.getElem_toArray]); (try simp only [List.getElem_cons_succ]); (try simp only [List.getElem_cons_zero]); (try simp only [Act.put]); (try simp only [List.setIfInBounds_toArray]); (try simp only [List.set_cons_succ]); (try simp only [List.set_cons_zero])
    refine wpAnyH_take (i := 6) (v := ?_) rfl (by kernel_rfl) (by kernel_rfl) (by kernel_rfl) (fun _ _ _ h => h) (Or.inl ⟨by kernel_rfl, ?_⟩) hHeld ?_
    rotate_left
    · intro wz hSw; (try dsimp only at hSw); go_simp; all_goals (try with_reducible rfl)
    (try simp only [List.getElem_toArray]); (try simp only [List.getElem_cons_succ]); (try simp only [List.getElem_cons_zero]); (try simp only [Act.put]); (try simp only [List.setIfInBounds_toArray]); (try simp only [List.set_cons_succ]); (try simp only [List.set_cons_zero])
    refine wpAnyH_ready (rs := [1]) (by kernel_rfl) (by simp) (AllReadyH.cons rfl (fun Kc hKc => ?_) AllReadyH.nil)
    go_simp
    obtain ⟨B, hBB⟩ : ∃ A, A = u3.heap.size := ⟨_, rfl⟩
    obtain ⟨u4, hu⟩ : ∃ u, u = u3.alloc (.cells #[.int .i64 0, .int .i64 1, .int .i64 2, .int .i64 2, .int .i64 3, .int .i64 4, .int .i64 5, .int .i64 (-1)] 2) := ⟨_, rfl⟩
    have hb : Below u3.heap.size u3 u4 := by rw [hu]; exact (Below.refl _ _).alloc (Nat.le_refl _) _
    have HX : Hid (∀ x : Int, 0 ≤ x → x < 8 → ∃ n : Int, u4.cell? ⟨B, x.toNat, none⟩ = some (.int .i64 n)) := by intro x h0 h1; rw [hu]; exact cell_eight _ B hBB _ x h0 h1
    have hBc : B ≠ cb := by have := HC.out.lt; omega
    rw [← hu, ← hBB]
    replace HC := hidG (HC.out.below hb)
    replace HS := hidG (HS.out.below hb)
    replace HB := hidG (HB.out.trans (hb.mono HB.out.size))
    clear hb hu hBB
    refine hKc.out _ _ ?_ (fun hHeld => ?_)
    · all_goals trivial
    clear hKc Kc
    (try simp only [List.getElem_toArray]); (try simp only [List.getElem_cons_succ]); (try simp only [List.getElem_cons_zero]); (try simp only [Act.put]); (try simp only [List.setIfInBounds_toArray]); (try simp only [List.set_cons_succ]); (try simp only [List.set_cons_zero])
    obtain ⟨m, hm⟩ := HX.out x x0 x1
    obtain ⟨i, rfl⟩ : ∃ i : Nat, x = i := ⟨x.toNat, by omega⟩
    rw [Int.toNat_natCast] at hm
    refine wpAnyH_take (i := 4) (v := ?_) rfl (by kernel_rfl) (by kernel_rfl) (by kernel_rfl) (fun _ _ _ h => h) (Or.inl ⟨by kernel_rfl, ?_⟩) hHeld ?_
    rotate_left
    · intro wz hSw; (try dsimp only at hSw); go_simp; all_goals (try with_reducible rfl)
    (try simp only [List.getElem_toArray]); (try simp only [List.getElem_cons_succ]); (try simp only [List.getElem_cons_zero]); (try simp only [Act.put]); (try simp only [List.setIfInBounds_toArray]); (try simp only [List.set_cons_succ]); (try simp only [List.set_cons_zero])
    refine wpAnyH_ready (rs := [5]) (by kernel_rfl) (by simp) (AllReadyH.cons rfl (fun Kc hKc => ?_) AllReadyH.nil)
    go_simp
    refine hKc.out _ _ ?_ (fun hHeld => ?_)
    · all_goals trivial
    clear hKc Kc
    (try simp only [List.getElem_toArray]); (try simp only [List.getElem_cons_succ]); (try simp only [List.getElem_cons_zero]); (try simp only [Act.put]); (try simp only [List.setIfInBounds_toArray]); (try simp only [List.set_cons_succ]); (try simp only [List.set_cons_zero])
    refine wpAnyH_take (i := 7) (v := ?_) rfl (by kernel_rfl) (by kernel_rfl) (by kernel_rfl) (fun _ _ _ h => h) (Or.inl ⟨by kernel_rfl, ?_⟩) hHeld ?_
    rotate_left
    · intro wz hSw; (try dsimp only at hSw); go_simp; all_goals (try with_reducible rfl)
    (try simp only [List.getElem_toArray]); (try simp only [List.getElem_cons_succ]); (try simp only [List.getElem_cons_zero]); (try simp only [Act.put]); (try simp only [List.setIfInBounds_toArray]); (try simp only [List.set_cons_succ]); (try simp only [List.set_cons_zero])
    refine wpAnyH_done (by kernel_rfl) ?_ _
    refine NoPanic.normal ?_
    go_wp2
    exact bodyPost_ret (v := .tuple #[z, .int .i64 m]) (by simp [results, Try.results5, go_sem]) rfl ⟨z, ss, m, rfl, HS.out, HB.out⟩
end Go.Proofs.Ythnlcgilmljliaa
