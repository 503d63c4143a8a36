/- What is drawn for the laws of agreement: claims. -/
import Derived.Test.YthfdpdnphnjebaaDrawR
import Derived.Test.YthfdpdnphnjebaaDrawW9
import Derived.Test.YthfdpdnphnjebaaRgW0
import Derived.Test.YthfdpdnphnjebaaAgrMath
namespace Go.Proofs.Ythfdpdnphnjebaa
open Go.RowKit Go.Proofs.Ythfdpdnphnjebaa.RM

theorem hidD {p : Prop} (h : p) : Hid p := h
theorem cellsS_snocA (ss : List Sp) (x y z u : Int) : cellsS (ss ++ [((x, y), (z, u))]) = cellsS ss ++ [Value.int .i64 x, .int .i64 y, .int .i64 z, .int .i64 u] := by simp [cellsS]
theorem cell_fourA (w : World) (a b c d : Value) (t : TypeId) : ∀ j u, [a, b, c, d][j]? = some u → (w.alloc (.cells #[a, b, c, d] t)).cell? ((⟨w.heap.size, 0, none⟩ : Addr).add j) = some u := by
  intro j u h
  match j, h with
  | 0, h => simp at h; subst h; simp [go_sem, Addr.add]
  | 1, h => simp at h; subst h; simp [go_sem, Addr.add]
  | 2, h => simp at h; subst h; simp [go_sem, Addr.add]
  | 3, h => simp at h; subst h; simp [go_sem, Addr.add]

theorem own_stD {W : World} {base e size n b : Nat} {v : Value} {xs : List Value} (h : W.ownsRow base e size v n xs) (hne : ∀ j, v.ownBlock = some j → j ≠ b) (o : Nat) (x : Value) : (W.setCell ⟨b, o, none⟩ x).ownsRow base e size v n xs :=
  h.kept (row := some b) ⟨rfl, rfl, rfl, by simp, fun k _ hk => Below.heap_setCell W ⟨b, o, none⟩ x k (by show k ≠ b; simpa using hk)⟩ (.inr (fun e => hne b e rfl))
set_option maxRecDepth 100000 in
set_option maxHeartbeats 8000000 in
theorem dClaims_any (cb : Nat) (a : Option Addr) (len cap : Nat) (zs : List Int) (w : World) (hc : Cur w cb a len cap zs) :
    Calls Try.prog 19 #[.pointer (some ⟨cb, 0, none⟩)] w fun e w' => ∃ (v : Value) (ss : List Sp), e = .returned v ∧ w'.ownsRow w.heap.size 29 4 v ss.length (cellsS ss) ∧ ss.length ≤ 20 ∧ Cur w' cb a len cap zs ∧ Ex cb w w' := by
  obtain ⟨i0, hi, hz0, hz1, hz2⟩ := info_parts infoRg
  have b0 : ∀ (u : World) (o : Obj), Below u.heap.size u (u.alloc o) := fun u o => (Below.refl _ _).alloc (Nat.le_refl _) o
  have hlt := hc.lt
  have HROW : Hid (∀ b off, a = some ⟨b, off, none⟩ → 0 < zs.length → b < w.heap.size) := hc.2.1.lt
  have HC : Hid (Cur w cb a len cap zs) := hc
  clear hc
  have o0 : (w.alloc (.cells #[] 29)).ownsRow w.heap.size 29 4 (.slice (some ⟨w.heap.size, 0, none⟩) 0 0) ([] : List Sp).length (cellsS []) := ⟨rfl, .inr ⟨w.heap.size, 0, #[], rfl, Nat.le_refl _, World.alloc_heap_new w _, Nat.le_refl _, Nat.zero_le _, rfl, rfl⟩⟩
  have C0 := hidD (HC.out.below (b0 _ (.cells #[] 29)))
  have E0 := hidD ((Ex.refl cb w).alloc (.cells #[] 29))
  have O0 := hidD o0
  clear o0 HC
  go_enter Try.func19, Try.ntmps19
  go_wp2_with fail
  refine (below_any cb _ a len cap zs _ C0.out (by omega)).mono ?_
  rintro e w2 ⟨n, rfl, n0, n1, hC', hE⟩
  replace O0 := hidD (ownEx O0.out hE hlt)
  replace C0 := hidD hC'
  replace E0 := hidD (E0.out.trans hE)
  clear hC' hE
  go_wp2
  go_loopw [3, 4] (fun o i wr => ∃ (ss : List Sp) (m : Int), i = .int .i64 m ∧ 0 ≤ m ∧ ss.length + m ≤ 7 ∧ Hid (wr.ownsRow w.heap.size 29 4 o ss.length (cellsS ss)) ∧ Hid (Cur wr cb a len cap zs) ∧ Hid (Ex cb w wr)) (fun _ i _ => (intOf i).toNat)
  case atStart => exact ⟨[], n, rfl, by omega, by simp; omega, O0.out, C0.out, E0.out⟩
  case round =>
    clear O0 C0 E0
    obtain ⟨ss, m, rfl, hm0, hm2, hO, HC, HE⟩ := hrel
    have hsz := HE.out.size
    have hkm : ss.length + 1 ≤ maxLen := by unfold maxLen; omega
    by_cases hlt2 : 0 < m
    ·
      go_wp2_with fail
      refine (draw7_any cb a len cap zs _ HC.out).mono ?_
      rintro e w4 ⟨x, y, z, u, rfl, hC', hE⟩
      have hO2 := hidD (ownEx hO.out hE hlt)
      have hE2 := hidD (HE.out.trans hE)
      have hC2 := hidD hC'
      have hs2 := hE2.out.size
      clear hC' hE
      go_wp2_with (at_builtin; refine wpList_append_own _ rfl _ _ 24 rfl w.heap.size 29 i0 (.agg #[.int .i64 0, .int .i64 0, .int .i64 0, .int .i64 0]) 4 32 Try.underlying24 hi hz0 hz1 hz2 rfl (by decide) _ _ _ rfl (World.ownsRow.alloc hO2.out _) ⟨w4.heap.size, 0, none⟩ 1 1 [.int .i64 x, .int .i64 y, .int .i64 z, .int .i64 u] rfl rfl (cell_fourA _ _ _ _ _ _) (by intro u hu; simp at hu; rcases hu with rfl | rfl | rfl | rfl <;> rfl) (by omega) (by omega) (by simp; omega) ?_; intro v' w5 hown' hgrow _; have HC5 := hidD (curRow hC2.out hO2.out hlt HROW.out hgrow); have HE5 := hidD (exRow hE2.out hO2.out (Nat.le_refl _) hgrow); have HO5 := hidD hown'; clear hown' hgrow)
      have hn5 : (ss ++ [((x, y), (z, u))]).length = ss.length + 1 := by simp
      have hO6 : Hid (w5.ownsRow w.heap.size 29 4 v' (ss ++ [((x, y), (z, u))]).length (cellsS (ss ++ [((x, y), (z, u))]))) := by
        show World.ownsRow _ _ _ _ _ _ _
        rw [cellsS_snocA]
        simpa using HO5.out
      clear HO5
      go_roundw
      case rel => exact ⟨ss ++ [((x, y), (z, u))], m - 1, by go_num, by omega, by rw [hn5]; omega, hO6.out, HC5.out, HE5.out⟩
      case measure => simp [intOf]; omega
    · go_wp2_with fail
      refine (once_any cb _ a len cap zs _ HC.out (by omega)).mono ?_
      rintro e w3 ⟨z, rfl, hC', hE⟩
      replace hO := hidD (ownEx hO.out hE hlt)
      replace HC := hidD hC'
      replace HE := hidD (HE.out.trans hE)
      clear hC' hE
      have hl8 : ss.length ≤ 8 := by omega
      cases z
      ·
        go_wp2_with fail
        refine (once_any cb _ a len cap zs _ HC.out (by omega)).mono ?_
        rintro e w6 ⟨z3, rfl, hC', hE⟩
        have hO7 := hidD (ownEx hO.out hE hlt)
        have HC7 := hidD hC'
        have HE7 := hidD (HE.out.trans hE)
        clear hC' hE
        cases z3
        · go_wp2
          refine bodyPost_ret (results_tmp rfl _ _ _) rfl ⟨_, ss, rfl, ?_, by omega, HC7.out, HE7.out⟩
          exact hO7.out
        · have o1 : (w6.alloc (.cells #[] 29)).ownsRow w.heap.size 29 4 (.slice (some ⟨w6.heap.size, 0, none⟩) 0 0) ([] : List Sp).length (cellsS []) := ⟨rfl, .inr ⟨w6.heap.size, 0, #[], rfl, HE7.out.size, World.alloc_heap_new w6 _, Nat.le_refl _, Nat.zero_le _, rfl, rfl⟩⟩
          have O1 := hidD o1
          have C1 := hidD (HC7.out.below (b0 _ (.cells #[] 29)))
          have E1 := hidD (HE7.out.alloc (.cells #[] 29))
          clear o1
          go_wp2
          go_loopw [3, 5] (fun o i wr => ∃ (sq : List Sp) (k : Nat), i = .int .i64 k ∧ sq.length = k ∧ k ≤ 13 ∧ Hid (wr.ownsRow w.heap.size 29 4 o sq.length (cellsS sq)) ∧ Hid (Cur wr cb a len cap zs) ∧ Hid (Ex cb w wr)) (fun _ i _ => 14 - (intOf i).toNat)
          case atStart => exact ⟨[], 0, rfl, rfl, by omega, O1.out, C1.out, E1.out⟩
          case round =>
            clear O1 C1 E1
            obtain ⟨sq, k, rfl, hsk, hk, hO1, HC1, HE1⟩ := hrel
            have hkm1 : sq.length + 1 ≤ maxLen := by unfold maxLen; omega
            go_wp2_with fail
            refine (below_any cb _ a len cap zs _ HC1.out (by omega)).mono ?_
            rintro e w7 ⟨n2, rfl, n20, n21, hC', hE⟩
            replace hO1 := hidD (ownEx hO1.out hE hlt)
            replace HC1 := hidD hC'
            replace HE1 := hidD (HE1.out.trans hE)
            clear hC' hE
            have hsz1 := HE1.out.size
            by_cases hk2 : (k : Int) < 12 + n2
            ·
              go_wp2_with fail
              refine (draw7_any cb a len cap zs _ HC1.out).mono ?_
              rintro e w4 ⟨x, y, z, u, rfl, hC', hE⟩
              have hO2 := hidD (ownEx hO1.out hE hlt)
              have hE2 := hidD (HE1.out.trans hE)
              have hC2 := hidD hC'
              have hs2 := hE2.out.size
              clear hC' hE
              go_wp2_with (at_builtin; refine wpList_append_own _ rfl _ _ 24 rfl w.heap.size 29 i0 (.agg #[.int .i64 0, .int .i64 0, .int .i64 0, .int .i64 0]) 4 32 Try.underlying24 hi hz0 hz1 hz2 rfl (by decide) _ _ _ rfl (World.ownsRow.alloc hO2.out _) ⟨w4.heap.size, 0, none⟩ 1 1 [.int .i64 x, .int .i64 y, .int .i64 z, .int .i64 u] rfl rfl (cell_fourA _ _ _ _ _ _) (by intro u hu; simp at hu; rcases hu with rfl | rfl | rfl | rfl <;> rfl) (by omega) (by omega) (by simp; omega) ?_; intro v' w5 hown' hgrow _; have HC5 := hidD (curRow hC2.out hO2.out hlt HROW.out hgrow); have HE5 := hidD (exRow hE2.out hO2.out (Nat.le_refl _) hgrow); have HO5 := hidD hown'; clear hown' hgrow)
              have hn5 : (sq ++ [((x, y), (z, u))]).length = sq.length + 1 := by simp
              have hO6 : Hid (w5.ownsRow w.heap.size 29 4 v' (sq ++ [((x, y), (z, u))]).length (cellsS (sq ++ [((x, y), (z, u))]))) := by
                show World.ownsRow _ _ _ _ _ _ _
                rw [cellsS_snocA]
                simpa using HO5.out
              clear HO5
              go_roundw
              case rel => exact ⟨sq ++ [((x, y), (z, u))], k + 1, by go_num, by rw [hn5, hsk], by omega, hO6.out, HC5.out, HE5.out⟩
              case measure => simp [intOf]; omega
            · go_wp2
              refine bodyPost_ret (results_tmp rfl _ _ _) rfl ⟨_, sq, rfl, ?_, by omega, HC1.out, HE1.out⟩
              exact hO1.out
      ·
        go_wp2_with fail
        refine (drawAny7_any cb a len cap zs _ HC.out).mono ?_
        rintro e w4 ⟨x, y, z, u, rfl, hC', hE⟩
        have hO2 := hidD (ownEx hO.out hE hlt)
        have hE2 := hidD (HE.out.trans hE)
        have hC2 := hidD hC'
        have hs2 := hE2.out.size
        clear hC' hE
        go_wp2_with (at_builtin; refine wpList_append_own _ rfl _ _ 24 rfl w.heap.size 29 i0 (.agg #[.int .i64 0, .int .i64 0, .int .i64 0, .int .i64 0]) 4 32 Try.underlying24 hi hz0 hz1 hz2 rfl (by decide) _ _ _ rfl (World.ownsRow.alloc hO2.out _) ⟨w4.heap.size, 0, none⟩ 1 1 [.int .i64 x, .int .i64 y, .int .i64 z, .int .i64 u] rfl rfl (cell_fourA _ _ _ _ _ _) (by intro u hu; simp at hu; rcases hu with rfl | rfl | rfl | rfl <;> rfl) (by omega) (by omega) (by simp; omega) ?_; intro v' w5 hown' hgrow _; have HC5 := hidD (curRow hC2.out hO2.out hlt HROW.out hgrow); have HE5 := hidD (exRow hE2.out hO2.out (Nat.le_refl _) hgrow); have HO5 := hidD hown'; clear hown' hgrow)
        have hn5 : (ss ++ [((x, y), (z, u))]).length = ss.length + 1 := by simp
        have hO6 : Hid (w5.ownsRow w.heap.size 29 4 v' (ss ++ [((x, y), (z, u))]).length (cellsS (ss ++ [((x, y), (z, u))]))) := by
          show World.ownsRow _ _ _ _ _ _ _
          rw [cellsS_snocA]
          simpa using HO5.out
        clear HO5
        clear hO HC HE hO2 hE2 hC2
        obtain ⟨s9, hs9⟩ : ∃ s, s = ss ++ [((x, y), (z, u))] := ⟨_, rfl⟩
        rw [← hs9] at hn5 hO6
        clear hs9
        go_wp2_with fail
        refine (once_any cb _ a len cap zs _ HC5.out (by omega)).mono ?_
        rintro e w6 ⟨z3, rfl, hC', hE⟩
        have hO7 := hidD (ownEx hO6.out hE hlt)
        have HC7 := hidD hC'
        have HE7 := hidD (HE5.out.trans hE)
        clear hC' hE
        cases z3
        · go_wp2
          refine bodyPost_ret (results_tmp rfl _ _ _) rfl ⟨_, s9, rfl, ?_, by rw [hn5]; omega, HC7.out, HE7.out⟩
          exact hO7.out
        · have o1 : (w6.alloc (.cells #[] 29)).ownsRow w.heap.size 29 4 (.slice (some ⟨w6.heap.size, 0, none⟩) 0 0) ([] : List Sp).length (cellsS []) := ⟨rfl, .inr ⟨w6.heap.size, 0, #[], rfl, HE7.out.size, World.alloc_heap_new w6 _, Nat.le_refl _, Nat.zero_le _, rfl, rfl⟩⟩
          have O1 := hidD o1
          have C1 := hidD (HC7.out.below (b0 _ (.cells #[] 29)))
          have E1 := hidD (HE7.out.alloc (.cells #[] 29))
          clear o1
          go_wp2
          go_loopw [3, 5] (fun o i wr => ∃ (sq : List Sp) (k : Nat), i = .int .i64 k ∧ sq.length = k ∧ k ≤ 13 ∧ Hid (wr.ownsRow w.heap.size 29 4 o sq.length (cellsS sq)) ∧ Hid (Cur wr cb a len cap zs) ∧ Hid (Ex cb w wr)) (fun _ i _ => 14 - (intOf i).toNat)
          case atStart => exact ⟨[], 0, rfl, rfl, by omega, O1.out, C1.out, E1.out⟩
          case round =>
            clear O1 C1 E1
            obtain ⟨sq, k, rfl, hsk, hk, hO1, HC1, HE1⟩ := hrel
            have hkm1 : sq.length + 1 ≤ maxLen := by unfold maxLen; omega
            go_wp2_with fail
            refine (below_any cb _ a len cap zs _ HC1.out (by omega)).mono ?_
            rintro e w7 ⟨n2, rfl, n20, n21, hC', hE⟩
            replace hO1 := hidD (ownEx hO1.out hE hlt)
            replace HC1 := hidD hC'
            replace HE1 := hidD (HE1.out.trans hE)
            clear hC' hE
            have hsz1 := HE1.out.size
            by_cases hk2 : (k : Int) < 12 + n2
            ·
              go_wp2_with fail
              refine (draw7_any cb a len cap zs _ HC1.out).mono ?_
              rintro e w4 ⟨x, y, z, u, rfl, hC', hE⟩
              have hO2 := hidD (ownEx hO1.out hE hlt)
              have hE2 := hidD (HE1.out.trans hE)
              have hC2 := hidD hC'
              have hs2 := hE2.out.size
              clear hC' hE
              go_wp2_with (at_builtin; refine wpList_append_own _ rfl _ _ 24 rfl w.heap.size 29 i0 (.agg #[.int .i64 0, .int .i64 0, .int .i64 0, .int .i64 0]) 4 32 Try.underlying24 hi hz0 hz1 hz2 rfl (by decide) _ _ _ rfl (World.ownsRow.alloc hO2.out _) ⟨w4.heap.size, 0, none⟩ 1 1 [.int .i64 x, .int .i64 y, .int .i64 z, .int .i64 u] rfl rfl (cell_fourA _ _ _ _ _ _) (by intro u hu; simp at hu; rcases hu with rfl | rfl | rfl | rfl <;> rfl) (by omega) (by omega) (by simp; omega) ?_; intro v' w5 hown' hgrow _; have HC5 := hidD (curRow hC2.out hO2.out hlt HROW.out hgrow); have HE5 := hidD (exRow hE2.out hO2.out (Nat.le_refl _) hgrow); have HO5 := hidD hown'; clear hown' hgrow)
              have hn5 : (sq ++ [((x, y), (z, u))]).length = sq.length + 1 := by simp
              have hO6 : Hid (w5.ownsRow w.heap.size 29 4 v' (sq ++ [((x, y), (z, u))]).length (cellsS (sq ++ [((x, y), (z, u))]))) := by
                show World.ownsRow _ _ _ _ _ _ _
                rw [cellsS_snocA]
                simpa using HO5.out
              clear HO5
              go_roundw
              case rel => exact ⟨sq ++ [((x, y), (z, u))], k + 1, by go_num, by rw [hn5, hsk], by omega, hO6.out, HC5.out, HE5.out⟩
              case measure => simp [intOf]; omega
            · go_wp2
              refine bodyPost_ret (results_tmp rfl _ _ _) rfl ⟨_, sq, rfl, ?_, by omega, HC1.out, HE1.out⟩
              exact hO1.out
theorem IsR.exA {w w' : World} {cb R : Nat} {n d : Int} (h : IsR w R n d) (hx : Ex cb w w') (hne : R ≠ cb) : IsR w' R n d := (hx.2.2.2.2 R h.lt hne).trans h
/-- a row of ranges stays readable under a draw -/
theorem RdS.exA {w w' : World} {cb : Nat} {v : Value} {ss : List Sp} (h : RdS w v ss) (hx : Ex cb w w') (hne : ∀ b off c n, v = .slice (some ⟨b, off, none⟩) n c → b ≠ cb) : RdS w' v ss := by
  obtain ⟨a, c, rfl, h2, h3, h4, h5⟩ := h
  refine ⟨a, c, rfl, h2, h3, h4, fun j hj => ?_⟩
  obtain ⟨b, off, rfl, k1, k2, k3, k4⟩ := h5 j hj
  have := hne b off c _ rfl
  exact ⟨b, off, rfl, hx.cell k1 this, hx.cell k2 this, hx.cell k3 this, hx.cell k4 this⟩
set_option maxRecDepth 100000 in
set_option maxHeartbeats 2000000 in
theorem dAgreed_any (a : Option Addr) (len cap : Nat) (zs : List Int) (w : World) (hr : IsRow .u8 w a len cap zs) :
    Calls Try.prog 5 #[.slice a len cap] w fun e w' => ∃ (v : Value) (ss : List Sp), e = .returned v ∧ w'.ownsRow w.heap.size 29 4 v ss.length (cellsS ss) ∧ ss.length ≤ 20 ∧ Below w.heap.size w w' := by
  have HR : Hid (IsRow .u8 w a len cap zs) := hr
  clear hr
  go_enter Try.func5, Try.ntmps5
  go_wp2_with fail
  refine (new_any a len cap zs _ HR.out).mono ?_
  rintro e w1 ⟨rfl, hC1, B1, hs1⟩
  obtain ⟨cb, hcb⟩ : ∃ b, b = w.heap.size := ⟨_, rfl⟩
  rw [← hcb] at hC1
  have HC : Hid (Cur w1 cb a len cap zs) := hC1
  have HB := hidD B1
  have hcw : w.heap.size ≤ cb := by omega
  rw [← hcb]
  clear hC1 HR B1 hcb
  go_wp2_with fail
  refine (dClaims_any cb a len cap zs _ HC.out).mono ?_
  rintro e w2 ⟨v, ss, rfl, hO, hl, hC', hE⟩
  have HO := hidD (own_le hO HB.out.size)
  replace HB := hidD (Ex.below HB.out hE hcw)
  clear hO hC' hE
  go_wp2
  refine bodyPost_ret (results_tmp rfl _ _ _) rfl ⟨v, ss, rfl, ?_, hl, HB.out⟩
  exact HO.out

set_option maxRecDepth 100000 in
set_option maxHeartbeats 2000000 in
theorem dDeep_any (a : Option Addr) (len cap : Nat) (zs : List Int) (w : World) (hr : IsRow .u8 w a len cap zs) :
    Calls Try.prog 7 #[.slice a len cap] w fun e w' => ∃ (v : Value) (ss : List Sp) (p q : Int), e = .returned (.tuple #[v, .agg #[.int .i64 p, .int .i64 q]]) ∧ RdS w' v ss ∧ ss.length ≤ 20 ∧ Below w.heap.size w w' := by
  have BB : Below w.heap.size w (w.alloc (.cells #[.int .i64 0, .int .i64 0] 27)) := (Below.refl _ _).alloc (Nat.le_refl _) _
  have HR := hidD (hr.below BB)
  have ZR := hidD (IsR.new w 0 0)
  obtain ⟨X, hX⟩ : ∃ X, X = w.alloc (.cells #[.int .i64 0, .int .i64 0] 27) := ⟨_, rfl⟩
  obtain ⟨Rb, hRb⟩ : ∃ R, R = w.heap.size := ⟨_, rfl⟩
  rw [← hX] at BB HR ZR
  rw [← hRb] at ZR
  have hRw : w.heap.size ≤ Rb := by omega
  have hXs : X.heap.size = Rb + 1 := by rw [hX, hRb]; simp
  clear hr
  go_enter Try.func7, Try.ntmps7
  go_wp2_with fail
  rw [← hX, ← hRb]
  clear hX hRb
  refine (new_any a len cap zs _ HR.out).mono ?_
  rintro e w1 ⟨rfl, hC1, B1, hs1⟩
  obtain ⟨cb, hcb⟩ : ∃ b, b = X.heap.size := ⟨_, rfl⟩
  rw [← hcb] at hC1
  have HC : Hid (Cur w1 cb a len cap zs) := hC1
  replace ZR := hidD (ZR.out.below B1)
  have HB := hidD (BB.trans (B1.mono BB.size))
  have hcw : w.heap.size ≤ cb := by have := BB.size; omega
  have hRc : Rb ≠ cb := by omega
  rw [← hcb]
  clear hC1 HR B1 hcb BB
  go_wp2_with fail
  refine (dClaims_any cb a len cap zs _ HC.out).mono ?_
  rintro e w2 ⟨v, ss, rfl, hO, hl, hC', hE⟩
  have hlt := HC.out.lt
  have HO := hidD hO
  replace HC := hidD hC'
  replace HB := hidD (Ex.below HB.out hE hcw)
  replace ZR := hidD (ZR.out.exA hE hRc)
  clear hO hC' hE
  go_wp2_with fail
  refine (drawAny_any cb a len cap zs _ HC.out).mono ?_
  rintro e w3 ⟨x, y, rfl, hC', hE⟩
  have HRD := hidD (RdS.ownRg (ownEx HO.out hE hlt)).1
  have HOW := hidD (ownEx HO.out hE hlt)
  replace HB := hidD (Ex.below HB.out hE hcw)
  replace ZR := hidD (ZR.out.exA hE hRc)
  clear hC' hE HO
  have f0 := ZR.out.f0
  have f1 := ZR.out.f1
  have g0 := ZR.out.c0
  have g1 := ZR.out.c1
  have HZ := hidD ((ZR.out.set0 x).set1 y)
  have HO9 := hidD (own_stD (own_stD HOW.out (b := Rb) (fun j e => by have := (HOW.out.lt j e).1; omega) 0 (.int .i64 x)) (b := Rb) (fun j e => by have := (HOW.out.lt j e).1; omega) 1 (.int .i64 y))
  have HB9 := hidD ((HB.out.setCell (p := ⟨Rb, 0, none⟩) hRw (.int .i64 x)).setCell (p := ⟨Rb, 1, none⟩) hRw (.int .i64 y))
  have y0 := HZ.out.c0
  have y1 := HZ.out.c1
  go_wp2
  exact bodyPost_ret (v := .tuple #[v, .agg #[.int .i64 x, .int .i64 y]]) (by simp [results, Try.results7, go_sem, y0, y1]) rfl ⟨v, ss, x, y, rfl, (RdS.ownRg HO9.out).1, hl, HB9.out⟩
end Go.Proofs.Ythfdpdnphnjebaa
