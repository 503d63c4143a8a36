/- Lists of points that are drawn. -/
import Derived.Test.YtgboaeokbglgdaaDrawW9
import Derived.Test.YtgboaeokbglgdaaPtW1
namespace Go.Proofs.Ytgboaeokbglgdaa
open Go.RowKit Go.Proofs.Ytgboaeokbglgdaa.RM

set_option maxRecDepth 100000 in
set_option maxHeartbeats 4000000 in
theorem dPts_any (cb : Nat) (a : Option Addr) (len cap : Nat) (zs : List Int) (w : World) (hc : Cur w cb a len cap zs) :
    Calls Try.prog 34 #[.pointer (some ⟨cb, 0, none⟩)] w fun e w' => ∃ (v : Value) (ps : List Fr), e = .returned v ∧ w'.ownsRow w.heap.size 44 2 v ps.length (cellsR ps) ∧ 1 ≤ ps.length ∧ ps.length ≤ 6 ∧ Cur w' cb a len cap zs ∧ Ex cb w w' := by
  obtain ⟨i0, hi, hz0, hz1, hz2⟩ := info_parts infoQ
  have b0 : ∀ (u : World) (o : Obj), Below u.heap.size u (u.alloc o) := fun u o => (Below.refl _ _).alloc (Nat.le_refl _) o
  have hlt := hc.lt
  have HROW : Hid (∀ b off, a = some ⟨b, off, none⟩ → 0 < zs.length → b < w.heap.size) := hc.2.1.lt
  have HC : Hid (Cur w cb a len cap zs) := hc
  clear hc
  have o0 : (w.alloc (.cells #[] 44)).ownsRow w.heap.size 44 2 (.slice (some ⟨w.heap.size, 0, none⟩) 0 0) ([] : List Fr).length (cellsR []) := ⟨rfl, .inr ⟨w.heap.size, 0, #[], rfl, Nat.le_refl _, World.alloc_heap_new w _, Nat.le_refl _, Nat.zero_le _, rfl, rfl⟩⟩
  have C0 := hidW (HC.out.below (b0 _ (.cells #[] 44)))
  have E0 := hidW ((Ex.refl cb w).alloc (.cells #[] 44))
  have O0 := hidW o0
  clear o0 HC
  go_enter Try.func34, Try.ntmps34
  go_wp2_with fail
  refine (from_any cb (-8) 9 a len cap zs _ C0.out (by omega) (by omega) (by omega)).mono ?_
  rintro e w1 ⟨x, rfl, x0, x1, hC', hE⟩
  replace O0 := hidW (ownEx O0.out hE hlt)
  replace C0 := hidW hC'
  replace E0 := hidW (E0.out.trans hE)
  clear hC' hE
  go_wp2_with fail
  refine (below_any cb _ a len cap zs _ C0.out (by omega)).mono ?_
  rintro e w2 ⟨n, rfl, n0, n1, hC', hE⟩
  replace O0 := hidW (ownEx O0.out hE hlt)
  replace C0 := hidW hC'
  replace E0 := hidW (E0.out.trans hE)
  clear hC' hE
  go_wp2
  go_loopw [3, 4, 5] (fun o y i wr => ∃ (ps : List Fr) (x m : Int), i = .int .i64 m ∧ y = .int .i64 x ∧ -100 ≤ x ∧ x ≤ 9 + 3 * (ps.length : Int) ∧ 0 ≤ m ∧ 1 ≤ ps.length + m ∧ ps.length + m ≤ 6 ∧ Hid (wr.ownsRow w.heap.size 44 2 o ps.length (cellsR ps)) ∧ Hid (Cur wr cb a len cap zs) ∧ Hid (Ex cb w wr)) (fun _ _ i _ => (intOf i).toNat)
  case atStart => exact ⟨[], x, 1 + n, rfl, rfl, by omega, by simp; omega, by omega, by simp; omega, by simp; omega, O0.out, C0.out, E0.out⟩
  case round =>
    clear O0 C0 E0
    obtain ⟨ps, x, m, rfl, rfl, hx0, hx1, hm0, hm1, hm2, hO, HC, HE⟩ := hrel
    have hsz := HE.out.size
    by_cases hlt2 : 0 < m
    · have hkm : ps.length + 1 ≤ maxLen := by unfold maxLen; omega
      go_wp2_with fail
      refine (below_any cb _ a len cap zs _ HC.out (by omega)).mono ?_
      rintro e w4 ⟨y, rfl, y0, y1, hC', hE⟩
      have hO2 := hidW (ownEx hO.out hE hlt)
      have hE2 := hidW (HE.out.trans hE)
      have hC2 := hidW hC'
      have hs2 := hE2.out.size
      clear hC' hE
      go_wp2_with (at_builtin; refine wpList_append_own _ rfl _ _ 24 rfl w.heap.size 44 i0 (.agg #[.int .i64 0, .int .i64 0]) 2 16 Try.underlying24 hi hz0 hz1 hz2 rfl (by decide) _ _ _ rfl (World.ownsRow.alloc hO2.out _) ⟨w4.heap.size, 0, none⟩ 1 1 [.int .i64 x, .int .i64 (1 + y)] rfl rfl (cell_twoF _ _ _ _) (by intro u hu; simp at hu; rcases hu with rfl | rfl <;> rfl) (by omega) (by omega) (by simp; omega) ?_; intro v' w5 hown' hgrow _; have HC5 := hidW (curRow hC2.out hO2.out hlt HROW.out hgrow); have HE5 := hidW (exRow hE2.out hO2.out (Nat.le_refl _) hgrow); have HO5 := hidW hown'; clear hown' hgrow)
      have hn5 : (ps ++ [(x, 1 + y)]).length = ps.length + 1 := by simp
      have hO6 : Hid (w5.ownsRow w.heap.size 44 2 v' (ps ++ [(x, 1 + y)]).length (cellsR (ps ++ [(x, 1 + y)]))) := by
        show World.ownsRow _ _ _ _ _ _ _
        rw [cellsR_snoc]
        simpa using HO5.out
      clear HO5
      refine (below_any cb _ a len cap zs _ HC5.out (by omega)).mono ?_
      rintro e w6 ⟨z, rfl, z0, z1, hC', hE⟩
      have hO7 := hidW (ownEx hO6.out hE hlt)
      have hE7 := hidW (HE5.out.trans hE)
      have hC7 := hidW hC'
      clear hC' hE hO6
      go_wp2
      go_roundw
      case rel => exact ⟨ps ++ [(x, 1 + y)], x + 1 + z, m - 1, by go_num, rfl, by omega, by rw [hn5]; omega, by omega, by rw [hn5]; omega, by rw [hn5]; omega, hO7.out, hC7.out, hE7.out⟩
      case measure => simp [intOf]; omega
    · go_wp2
      refine bodyPost_ret (results_tmp rfl _ _ _) rfl ⟨_, rfl, ps, ?_, by omega, by omega, HC.out, HE.out⟩
      exact hO.out

/-- one number of a point is put -/
theorem own_put1 {W : World} {base g n c : Nat} {ps : List Fr} (h : W.ownsRow base 44 2 (.slice (some ⟨g, 0, none⟩) n c) n (cellsR ps)) (hl : ps.length = n) (k : Nat) (hk : k < n) (x : Int) :
    (W.setCell ⟨g, k * 2, none⟩ (.int .i64 x)).ownsRow base 44 2 (.slice (some ⟨g, 0, none⟩) n c) n (cellsR (ps.set k (x, (ps[k]?.getD (0, 0)).2))) := by
  obtain ⟨_, o2⟩ := own_Q h hl k hk
  obtain ⟨y, hy⟩ : ∃ y, y = (ps[k]?.getD (0, 0)).2 := ⟨_, rfl⟩
  rw [← hy] at o2 ⊢
  obtain ⟨p1, _⟩ := h.stored (k * 2) (.int .i64 x)
  have e2 : ((cellsR ps).set (k * 2) (.int .i64 x))[k * 2 + 1]? = some (.int .i64 y) := by
    rw [List.getElem?_set, if_neg (by omega), ← h.cellAt (k * 2 + 1) (by omega)]; exact o2
  have e3 := cellsR_set ps k x y (by rw [hl]; exact hk)
  have e4 : ((cellsR ps).set (k * 2) (.int .i64 x)).set (k * 2 + 1) (.int .i64 y) = (cellsR ps).set (k * 2) (.int .i64 x) := by
    apply List.ext_getElem?
    intro j
    rw [List.getElem?_set]
    by_cases e : k * 2 + 1 = j
    · subst e
      rw [if_pos rfl, if_pos (List.getElem?_eq_some_iff.1 e2).1, e2]
    · rw [if_neg e]
  rw [e4] at e3
  rw [e3] at p1
  exact p1
theorem own_put2 {W : World} {base g n c : Nat} {ps : List Fr} (h : W.ownsRow base 44 2 (.slice (some ⟨g, 0, none⟩) n c) n (cellsR ps)) (hl : ps.length = n) (k : Nat) (hk : k < n) (y : Int) :
    (W.setCell ⟨g, k * 2 + 1, none⟩ (.int .i64 y)).ownsRow base 44 2 (.slice (some ⟨g, 0, none⟩) n c) n (cellsR (ps.set k ((ps[k]?.getD (0, 0)).1, y))) := by
  obtain ⟨o1, _⟩ := own_Q h hl k hk
  obtain ⟨x, hx⟩ : ∃ x, x = (ps[k]?.getD (0, 0)).1 := ⟨_, rfl⟩
  rw [← hx] at o1 ⊢
  obtain ⟨p1, _⟩ := h.stored (k * 2 + 1) (.int .i64 y)
  have e2 : (cellsR ps)[k * 2]? = some (.int .i64 x) := by
    rw [← h.cellAt (k * 2) (by omega)]; exact o1
  have e3 := cellsR_set ps k x y (by rw [hl]; exact hk)
  have e4 : (cellsR ps).set (k * 2) (.int .i64 x) = cellsR ps := by
    apply List.ext_getElem?
    intro j
    rw [List.getElem?_set]
    by_cases e : k * 2 = j
    · subst e
      rw [if_pos rfl, if_pos (List.getElem?_eq_some_iff.1 e2).1, e2]
    · rw [if_neg e]
  rw [e4] at e3
  rw [e3] at p1
  exact p1

set_option maxRecDepth 100000 in
set_option maxHeartbeats 8000000 in
theorem dPtsAny_any (cb : Nat) (a : Option Addr) (len cap : Nat) (zs : List Int) (w : World) (hc : Cur w cb a len cap zs) :
    Calls Try.prog 19 #[.pointer (some ⟨cb, 0, none⟩)] w fun e w' => ∃ (v : Value) (ps : List Fr), e = .returned v ∧ w'.ownsRow w.heap.size 44 2 v ps.length (cellsR ps) ∧ ps.length ≤ 50 ∧ Cur w' cb a len cap zs ∧ Ex cb w w' := by
  obtain ⟨i0, hi, hz0, hz1, hz2⟩ := info_parts infoQ
  have b0 : ∀ (u : World) (o : Obj), Below u.heap.size u (u.alloc o) := fun u o => (Below.refl _ _).alloc (Nat.le_refl _) o
  have hlt := hc.lt
  have HROW : Hid (∀ b off, a = some ⟨b, off, none⟩ → 0 < zs.length → b < w.heap.size) := hc.2.1.lt
  have HC : Hid (Cur w cb a len cap zs) := hc
  clear hc
  go_enter Try.func19, Try.ntmps19
  go_wp2_with fail
  refine (dPts_any cb a len cap zs _ HC.out).mono ?_
  rintro e w1 ⟨v, ps, rfl, hO, l0, l1, hC', hE⟩
  obtain ⟨L, hL⟩ : ∃ L, L = ps.length := ⟨_, rfl⟩
  rw [← hL] at hO l0 l1
  obtain ⟨g, c, rfl⟩ := own_some hO (by omega)
  have HL := hidW hL.symm
  have hg := (hO.lt g rfl).1
  replace HC := hidW hC'
  have HE := hidW hE
  have HO := hidW hO
  clear hC' hE hO hL
  go_wp2_with fail
  refine (once_any cb _ a len cap zs _ HC.out (by omega)).mono ?_
  rintro e w2 ⟨z, rfl, hC', hE⟩
  replace HO := hidW (ownEx HO.out hE hlt)
  replace HC := hidW hC'
  replace HE := hidW (HE.out.trans hE)
  clear hC' hE
  cases z
  · go_wp2
    refine bodyPost_ret (results_tmp rfl _ _ _) rfl ⟨_, ps, rfl, ?_, by rw [HL.out]; omega, HC.out, HE.out⟩
    rw [HL.out]; exact HO.out
  go_wp2_with fail
  refine (below_any cb _ a len cap zs _ HC.out (by omega)).mono ?_
  rintro e w3 ⟨x, rfl, x0, x1, hC', hE⟩
  replace HO := hidW (ownEx HO.out hE hlt)
  replace HC := hidW hC'
  replace HE := hidW (HE.out.trans hE)
  clear hC' hE
  have hx : x = 0 ∨ x = 1 ∨ x = 2 ∨ x = 3 := by omega
  clear x0 x1
  rcases hx with rfl | rfl | rfl | rfl
  · have hW := b0 w3 (.cells #[.int .i64 (-1000), .int .i64 (-1001), .int .i64 99] 2)
    have O4 := hidW (own_below HO.out hW)
    have C4 := hidW (HC.out.below hW)
    have E4 := hidW (HE.out.trans (Ex.of_below (cb := cb) hW))
    obtain ⟨B, hB⟩ : ∃ B, B = w3.heap.size := ⟨_, rfl⟩
    obtain ⟨X, hX⟩ : ∃ X, X = w3.alloc (.cells #[.int .i64 (-1000), .int .i64 (-1001), .int .i64 99] 2) := ⟨_, rfl⟩
    have k0 : X.cell? ⟨B, 0, none⟩ = some (.int .i64 (-1000)) := by rw [hX, hB]; simp [go_sem]
    have k1 : X.cell? ⟨B, 1, none⟩ = some (.int .i64 (-1001)) := by rw [hX, hB]; simp [go_sem]
    have k2 : X.cell? ⟨B, 2, none⟩ = some (.int .i64 99) := by rw [hX, hB]; simp [go_sem]
    have hBc : B ≠ cb := by rw [hB]; have := HC.out.lt; omega
    have hgB : g < B := by rw [hB]; exact (HO.out.lt g rfl).2
    rw [← hX] at O4 C4 E4
    clear HO HC HE hW
    go_wp2_with fail
    rw [← hX, ← hB]
    clear hX hB
    refine (below_any cb _ a len cap zs _ C4.out (by omega)).mono ?_
    rintro e w4 ⟨x, rfl, x0, x1, hC', hE⟩
    have HO := hidW (ownEx O4.out hE hlt)
    have HC := hidW hC'
    have HE := hidW (E4.out.trans hE)
    replace k0 := hE.cell k0 hBc
    replace k1 := hE.cell k1 hBc
    replace k2 := hE.cell k2 hBc
    clear O4 C4 E4 hC' hE
    have hx : x = 0 ∨ x = 1 ∨ x = 2 := by omega
    clear x0 x1
    have hf := HO.out.frozenAt 0
    have hcc := (own_Q HO.out HL.out 0 (by omega)).1
    simp only [Nat.zero_mul] at hcc
    generalize (ps[0]?.getD (0, 0)).1 = old at hcc
    have HP : Hid (∀ y : Int, ∃ qs : List Fr, (w4.setCell ⟨g, 0, none⟩ (.int .i64 y)).ownsRow w.heap.size 44 2 (.slice (some ⟨g, 0, none⟩) L c) qs.length (cellsR qs) ∧ qs.length ≤ 50) := by
      intro y
      have := own_put1 HO.out HL.out 0 (by omega) y
      rw [Nat.zero_mul] at this
      exact ⟨_, by rw [List.length_set, HL.out]; exact this, by rw [List.length_set, HL.out]; omega⟩
    have HCS : Hid (∀ y : Int, Cur (w4.setCell ⟨g, 0, none⟩ (.int .i64 y)) cb a len cap zs) := fun y => curSet HC.out (show cb ≠ g by omega) (fun b' off e hz => by have := HROW.out b' off e hz; omega)
    have HES : Hid (∀ y : Int, Ex cb w (w4.setCell ⟨g, 0, none⟩ (.int .i64 y))) := fun y => exSet HE.out hg
    rcases hx with rfl | rfl | rfl
    · obtain ⟨qs, q1, q2⟩ := HP.out ((-1000))
      have Q1 := hidW q1
      clear q1
      go_wp2
      refine bodyPost_ret (results_tmp rfl _ _ _) rfl ⟨_, qs, rfl, ?_, q2, HCS.out _, HES.out _⟩
      exact Q1.out
    · obtain ⟨qs, q1, q2⟩ := HP.out ((-1001))
      have Q1 := hidW q1
      clear q1
      go_wp2
      refine bodyPost_ret (results_tmp rfl _ _ _) rfl ⟨_, qs, rfl, ?_, q2, HCS.out _, HES.out _⟩
      exact Q1.out
    · obtain ⟨qs, q1, q2⟩ := HP.out (99)
      have Q1 := hidW q1
      clear q1
      go_wp2
      refine bodyPost_ret (results_tmp rfl _ _ _) rfl ⟨_, qs, rfl, ?_, q2, HCS.out _, HES.out _⟩
      exact Q1.out
  · have hW := b0 w3 (.cells #[.int .i64 0, .int .i64 999964, .int .i64 1000000, .int .i64 4611686018427387904, .int .i64 (-1)] 2)
    have O4 := hidW (own_below HO.out hW)
    have C4 := hidW (HC.out.below hW)
    have E4 := hidW (HE.out.trans (Ex.of_below (cb := cb) hW))
    obtain ⟨B, hB⟩ : ∃ B, B = w3.heap.size := ⟨_, rfl⟩
    obtain ⟨X, hX⟩ : ∃ X, X = w3.alloc (.cells #[.int .i64 0, .int .i64 999964, .int .i64 1000000, .int .i64 4611686018427387904, .int .i64 (-1)] 2) := ⟨_, rfl⟩
    have k0 : X.cell? ⟨B, 0, none⟩ = some (.int .i64 0) := by rw [hX, hB]; simp [go_sem]
    have k1 : X.cell? ⟨B, 1, none⟩ = some (.int .i64 999964) := by rw [hX, hB]; simp [go_sem]
    have k2 : X.cell? ⟨B, 2, none⟩ = some (.int .i64 1000000) := by rw [hX, hB]; simp [go_sem]
    have k3 : X.cell? ⟨B, 3, none⟩ = some (.int .i64 4611686018427387904) := by rw [hX, hB]; simp [go_sem]
    have k4 : X.cell? ⟨B, 4, none⟩ = some (.int .i64 (-1)) := by rw [hX, hB]; simp [go_sem]
    have hBc : B ≠ cb := by rw [hB]; have := HC.out.lt; omega
    have hgB : g < B := by rw [hB]; exact (HO.out.lt g rfl).2
    rw [← hX] at O4 C4 E4
    clear HO HC HE hW
    go_wp2_with fail
    rw [← hX, ← hB]
    clear hX hB
    refine (below_any cb _ a len cap zs _ C4.out (by omega)).mono ?_
    rintro e w4 ⟨x, rfl, x0, x1, hC', hE⟩
    have HO := hidW (ownEx O4.out hE hlt)
    have HC := hidW hC'
    have HE := hidW (E4.out.trans hE)
    replace k0 := hE.cell k0 hBc
    replace k1 := hE.cell k1 hBc
    replace k2 := hE.cell k2 hBc
    replace k3 := hE.cell k3 hBc
    replace k4 := hE.cell k4 hBc
    clear O4 C4 E4 hC' hE
    have hx : x = 0 ∨ x = 1 ∨ x = 2 ∨ x = 3 ∨ x = 4 := by omega
    clear x0 x1
    have hf := HO.out.frozenAt ((L - 1) * 2 + 1)
    obtain ⟨m, rfl⟩ : ∃ m, L = m + 1 := ⟨L - 1, by omega⟩
    rw [Nat.add_sub_cancel] at hf
    have hcc := (own_Q HO.out HL.out m (by omega)).2
    generalize (ps[m]?.getD (0, 0)).2 = old at hcc
    have HP : Hid (∀ y : Int, ∃ qs : List Fr, (w4.setCell ⟨g, m * 2 + 1, none⟩ (.int .i64 y)).ownsRow w.heap.size 44 2 (.slice (some ⟨g, 0, none⟩) (m + 1) c) qs.length (cellsR qs) ∧ qs.length ≤ 50) := by
      intro y
      have := own_put2 HO.out HL.out m (by omega) y
      exact ⟨_, by rw [List.length_set, HL.out]; exact this, by rw [List.length_set, HL.out]; omega⟩
    have HCS : Hid (∀ y : Int, Cur (w4.setCell ⟨g, m * 2 + 1, none⟩ (.int .i64 y)) cb a len cap zs) := fun y => curSet HC.out (show cb ≠ g by omega) (fun b' off e hz => by have := HROW.out b' off e hz; omega)
    have HES : Hid (∀ y : Int, Ex cb w (w4.setCell ⟨g, m * 2 + 1, none⟩ (.int .i64 y))) := fun y => exSet HE.out hg
    rcases hx with rfl | rfl | rfl | rfl | rfl
    · obtain ⟨qs, q1, q2⟩ := HP.out (0)
      have Q1 := hidW q1
      clear q1
      go_wp2
      refine bodyPost_ret (results_tmp rfl _ _ _) rfl ⟨_, qs, rfl, ?_, q2, HCS.out _, HES.out _⟩
      exact Q1.out
    · obtain ⟨qs, q1, q2⟩ := HP.out (999964)
      have Q1 := hidW q1
      clear q1
      go_wp2
      refine bodyPost_ret (results_tmp rfl _ _ _) rfl ⟨_, qs, rfl, ?_, q2, HCS.out _, HES.out _⟩
      exact Q1.out
    · obtain ⟨qs, q1, q2⟩ := HP.out (1000000)
      have Q1 := hidW q1
      clear q1
      go_wp2
      refine bodyPost_ret (results_tmp rfl _ _ _) rfl ⟨_, qs, rfl, ?_, q2, HCS.out _, HES.out _⟩
      exact Q1.out
    · obtain ⟨qs, q1, q2⟩ := HP.out (4611686018427387904)
      have Q1 := hidW q1
      clear q1
      go_wp2
      refine bodyPost_ret (results_tmp rfl _ _ _) rfl ⟨_, qs, rfl, ?_, q2, HCS.out _, HES.out _⟩
      exact Q1.out
    · obtain ⟨qs, q1, q2⟩ := HP.out ((-1))
      have Q1 := hidW q1
      clear q1
      go_wp2
      refine bodyPost_ret (results_tmp rfl _ _ _) rfl ⟨_, qs, rfl, ?_, q2, HCS.out _, HES.out _⟩
      exact Q1.out
  · have hW := b0 w3 (.cells #[] 44)
    have o0 : (w3.alloc (.cells #[] 44)).ownsRow w.heap.size 44 2 (.slice (some ⟨w3.heap.size, 0, none⟩) 0 0) ([] : List Fr).length (cellsR []) := ⟨rfl, .inr ⟨w3.heap.size, 0, #[], rfl, HE.out.size, World.alloc_heap_new w3 _, Nat.le_refl _, Nat.zero_le _, rfl, rfl⟩⟩
    have O4 := hidW o0
    have C4 := hidW (HC.out.below hW)
    have E4 := hidW (HE.out.trans (Ex.of_below (cb := cb) hW))
    clear o0 hW HO HC HE
    go_wp2
    refine bodyPost_ret (results_tmp rfl _ _ _) rfl ⟨_, [], rfl, ?_, by show 0 ≤ 50; omega, C4.out, E4.out⟩
    exact O4.out
  · have hW := b0 w3 (.cells #[] 44)
    have o0 : (w3.alloc (.cells #[] 44)).ownsRow w.heap.size 44 2 (.slice (some ⟨w3.heap.size, 0, none⟩) 0 0) ([] : List Fr).length (cellsR []) := ⟨rfl, .inr ⟨w3.heap.size, 0, #[], rfl, HE.out.size, World.alloc_heap_new w3 _, Nat.le_refl _, Nat.zero_le _, rfl, rfl⟩⟩
    have O4 := hidW o0
    have C4 := hidW (HC.out.below hW)
    have E4 := hidW (HE.out.trans (Ex.of_below (cb := cb) hW))
    clear o0 hW HO HC HE
    go_wp2
    go_loopw [3, 4] (fun o i wr => ∃ qs : List Fr, i = .int .i64 qs.length ∧ qs.length ≤ 42 ∧ Hid (wr.ownsRow w.heap.size 44 2 o qs.length (cellsR qs)) ∧ Hid (Cur wr cb a len cap zs) ∧ Hid (Ex cb w wr)) (fun _ i _ => 43 - (intOf i).toNat)
    case atStart => exact ⟨[], rfl, by show 0 ≤ 42; omega, O4.out, C4.out, E4.out⟩
    case round =>
      clear O4 C4 E4
      obtain ⟨qs, rfl, hq, hO, HC, HE⟩ := hrel
      obtain ⟨k, hk⟩ : ∃ k, k = qs.length := ⟨_, rfl⟩
      have HK := hidW hk
      rw [← hk] at hq ⊢
      clear hk
      go_wp2_with fail
      refine (below_any cb _ a len cap zs _ HC.out (by omega)).mono ?_
      rintro e w4 ⟨y, rfl, y0, y1, hC', hE⟩
      have hO2 := hidW (ownEx hO.out hE hlt)
      have hE2 := hidW (HE.out.trans hE)
      have hC2 := hidW hC'
      have hs2 := hE2.out.size
      clear hC' hE hO HC HE
      by_cases hlt2 : (k : Int) < 40 + y
      · have hkm : qs.length + 1 ≤ maxLen := by unfold maxLen; have := HK.out; omega
        have hql : qs.length ≤ 42 := by have := HK.out; omega
        go_wp2_with (at_builtin; refine wpList_append_own _ rfl _ _ 24 rfl w.heap.size 44 i0 (.agg #[.int .i64 0, .int .i64 0]) 2 16 Try.underlying24 hi hz0 hz1 hz2 rfl (by decide) _ _ _ rfl (World.ownsRow.alloc hO2.out _) ⟨w4.heap.size, 0, none⟩ 1 1 [.int .i64 k, .int .i64 1] rfl rfl (cell_twoF _ _ _ _) (by intro u hu; simp at hu; rcases hu with rfl | rfl <;> rfl) (by omega) (by omega) (by simp; omega) ?_; intro v' w5 hown' hgrow _)
        go_roundw
        case rel =>
          have hn5 : (qs ++ [((k : Int), (1 : Int))]).length = k + 1 := by simp [← HK.out]
          refine ⟨qs ++ [((k : Int), (1 : Int))], by rw [hn5]; go_num, by rw [hn5]; omega, ?_, curRow hC2.out hO2.out hlt HROW.out hgrow, exRow hE2.out hO2.out (Nat.le_refl _) hgrow⟩
          show World.ownsRow _ _ _ _ _ _ _
          rw [cellsR_snoc]
          simpa using hown'
        case measure => simp [intOf]; omega
      · go_wp2
        refine bodyPost_ret (results_tmp rfl _ _ _) rfl ⟨_, qs, rfl, ?_, by have := HK.out; omega, hC2.out, hE2.out⟩
        exact hO2.out
end Go.Proofs.Ytgboaeokbglgdaa
