/- The walks of the small functions under Nearest: the order of two fractions, the comparisons, the parts between two fractions. -/
import Derived.Test.YtllgbfoffebojaaOrdMath
import Derived.Test.YtllgbfoffebojaaTermsW
import Derived.Deep.RegionWith
import Derived.Deep.CutRange
import Derived.Deep.RegionHeld3
import Derived.Deep.DeepCutAuto
namespace Go.Proofs.Ytllgbfoffebojaa
open Go.RowKit Go.Proofs.Ytllgbfoffebojaa.RM

theorem below_alR {w w' : World} (o : Obj) (h : Below w.heap.size w w') : Below w.heap.size w (w'.alloc o) := h.alloc h.size _
theorem nan_any (x : Int) (w : World) : Calls Try.prog 83 #[.int .i64 x] w fun e w' => e = .returned (.bool false) ∧ w' = w := by
  have h : (x != x) = false := by simp
  go_enter Try.func83, Try.ntmps83
  go_wp2
  go_ret
  exact ⟨rfl, rfl⟩
theorem compare_any (x y : Int) (w : World) : Calls Try.prog 78 #[.int .i64 x, .int .i64 y] w fun e w' => e = .returned (.int .i64 (cmpI x y)) ∧ w' = w := by
  by_cases h1 : x < y
  · rw [show cmpI x y = -1 from if_pos h1]
    go_enter Try.func78, Try.ntmps78
    go_wp2_with (go_at_call 83; refine (nan_any _ _).mono ?_; rintro e w' ⟨rfl, rfl⟩)
    go_ret
    exact ⟨rfl, rfl⟩
  · by_cases h2 : y < x
    · rw [show cmpI x y = 1 from by unfold cmpI; rw [if_neg h1, if_pos h2]]
      go_enter Try.func78, Try.ntmps78
      go_wp2_with (go_at_call 83; refine (nan_any _ _).mono ?_; rintro e w' ⟨rfl, rfl⟩)
      go_ret
      exact ⟨rfl, rfl⟩
    · rw [show cmpI x y = 0 from by unfold cmpI; rw [if_neg h1, if_neg h2]]
      go_enter Try.func78, Try.ntmps78
      go_wp2_with (go_at_call 83; refine (nan_any _ _).mono ?_; rintro e w' ⟨rfl, rfl⟩)
      go_ret
      exact ⟨rfl, rfl⟩
set_option maxHeartbeats 1000000 in
theorem or_any (g : Nat) (a b c : Int) (w : World) (h0 : w.cell? ⟨g, 0, none⟩ = some (.int .i64 a)) (h1 : w.cell? ⟨g, 1, none⟩ = some (.int .i64 b)) (h2 : w.cell? ⟨g, 2, none⟩ = some (.int .i64 c)) :
    Calls Try.prog 80 #[.slice (some ⟨g, 0, none⟩) 3 3] w fun e w' => e = .returned (.int .i64 (orI a b c)) ∧ w' = w := by
  go_enter Try.func80, Try.ntmps80
  go_wp2
  go_loop [8] (fun i => ∃ k : Nat, k ≤ 3 ∧ i = .int .i64 k ∧ Hid ((0 < k → a = 0) ∧ (1 < k → b = 0) ∧ (2 < k → c = 0))) (fun i => 3 - (intOf i).toNat)
  case atStart => exact ⟨0, by omega, rfl, by omega, by omega, by omega⟩
  case round =>
    obtain ⟨k, hk, rfl, HK⟩ := hrel
    have hk' : k = 0 ∨ k = 1 ∨ k = 2 ∨ k = 3 := by omega
    rcases hk' with rfl | rfl | rfl | rfl
    · by_cases ha : a = 0
      · have h : (a != 0) = false := by simpa using ha
        go_wp2
        go_round
        case rel => exact ⟨1, by omega, by go_num, fun _ => ha, by omega, by omega⟩
        case measure => simp [intOf]
      · have h : (a != 0) = true := by simpa using ha
        have e : Hid (a = orI a b c) := (if_pos ha).symm
        go_wp2
        go_ret
        exact ⟨ret_int e.out, rfl⟩
    · have ha := HK.out.1 (by omega)
      by_cases hb : b = 0
      · have h : (b != 0) = false := by simpa using hb
        go_wp2
        go_round
        case rel => exact ⟨2, by omega, by go_num, fun _ => ha, fun _ => hb, by omega⟩
        case measure => simp [intOf]
      · have h : (b != 0) = true := by simpa using hb
        have e : Hid (b = orI a b c) := by show _ = _; unfold orI; rw [if_neg (by simpa using ha), if_pos hb]
        clear ha
        go_wp2
        go_ret
        exact ⟨ret_int e.out, rfl⟩
    · have ha := HK.out.1 (by omega)
      have hb := HK.out.2.1 (by omega)
      by_cases hc : c = 0
      · have h : (c != 0) = false := by simpa using hc
        go_wp2
        go_round
        case rel => exact ⟨3, by omega, by go_num, fun _ => ha, fun _ => hb, fun _ => hc⟩
        case measure => simp [intOf]
      · have h : (c != 0) = true := by simpa using hc
        have e : Hid (c = orI a b c) := by show _ = _; unfold orI; rw [if_neg (by simpa using ha), if_neg (by simpa using hb)]
        clear ha hb
        go_wp2
        go_ret
        exact ⟨ret_int e.out, rfl⟩
    · have ha := HK.out.1 (by omega)
      have hb := HK.out.2.1 (by omega)
      have hc := HK.out.2.2 (by omega)
      have e : Hid (0 = orI a b c) := by show _ = _; unfold orI; rw [if_neg (by simpa using ha), if_neg (by simpa using hb), hc]
      clear ha hb hc
      go_wp2
      go_ret
      exact ⟨ret_int e.out, rfl⟩

set_option maxHeartbeats 2000000 in
theorem order_any (p0 d0 q0 e0 : Int) (w : World) (a1 : 0 ≤ p0) (a2 : p0 ≤ 4611686018427387904) (a3 : 1 ≤ d0) (a4 : d0 ≤ 4611686018427387904) (a5 : 0 ≤ q0) (a6 : q0 ≤ 4611686018427387904) (a7 : 1 ≤ e0) (a8 : e0 ≤ 4611686018427387904) :
    Calls Try.prog 81 #[.int .i64 p0, .int .i64 d0, .int .i64 q0, .int .i64 e0] w fun e w' => e = .returned (.int .i64 (ordI p0 d0 q0 e0)) ∧ w' = w := by
  go_enter Try.func81, Try.ntmps81
  go_wp2
  go_loop [0, 1, 2, 3, 9] (fun x1 x2 x3 x4 x5 => ∃ p d q e s : Int, x1 = .int .i64 p ∧ x2 = .int .i64 d ∧ x3 = .int .i64 q ∧ x4 = .int .i64 e ∧ x5 = .int .i64 s ∧ 0 ≤ p ∧ p ≤ 4611686018427387904 ∧ 1 ≤ d ∧ d ≤ 4611686018427387904 ∧ 0 ≤ q ∧ q ≤ 4611686018427387904 ∧ 1 ≤ e ∧ e ≤ 4611686018427387904 ∧ -1 ≤ s ∧ s ≤ 1 ∧ Hid (s * ordI p d q e = ordI p0 d0 q0 e0)) (fun _ x2 _ _ _ => (intOf x2).toNat)
  case atStart => exact ⟨_, _, _, _, _, rfl, rfl, rfl, rfl, rfl, a1, a2, a3, a4, a5, a6, a7, a8, by omega, by omega, by show _ = _; rw [Int.one_mul]⟩
  case round =>
    obtain ⟨p, d, q, e, s, rfl, rfl, rfl, rfl, rfl, b1, b2, b3, b4, b5, b6, b7, b8, s1, s2, HO⟩ := hrel
    clear a1 a2 a3 a4 a5 a6 a7 a8
    have i0 : 0 ≤ p / d := Int.ediv_nonneg b1 (by omega)
    have k0 : 0 ≤ q / e := Int.ediv_nonneg b5 (by omega)
    have i1 : p / d ≤ p := Int.ediv_le_self _ b1
    have k1 : q / e ≤ q := Int.ediv_le_self _ b5
    have i2 : p / d * d ≤ p := Int.ediv_mul_le p (by omega)
    have k2 : q / e * e ≤ q := Int.ediv_mul_le q (by omega)
    have i3 : 0 ≤ p / d * d := Int.mul_nonneg i0 (by omega)
    have k3 : 0 ≤ q / e * e := Int.mul_nonneg k0 (by omega)
    have EP : Hid (p - p / d * d = p % d) := left_eq p d
    have EQ : Hid (q - q / e * e = q % e) := left_eq q e
    have m1 := Int.emod_lt_of_pos p (show 0 < d by omega)
    have m2 := Int.emod_lt_of_pos q (show 0 < e by omega)
    by_cases c1 : p / d < q / e
    · have := ord_lt b3 b7 c1
      go_wp2
      go_ret
      exact ⟨ret_int (by rw [← HO.out, this]; omega), rfl⟩
    by_cases c2 : q / e < p / d
    · have := ord_gt b3 b7 c2
      go_wp2
      go_ret
      exact ⟨ret_int (by rw [← HO.out, this]; omega), rfl⟩
    have HR : Hid (s * ordI (p % d) d (q % e) e = ordI p0 d0 q0 e0) := by show _ = _; rw [← HO.out, ord_rest (show p / d = q / e by omega)]
    clear HO
    by_cases z1 : p - p / d * d = 0
    · have t1 : (p - p / d * d == 0) = true := by simpa using z1
      by_cases z2 : q - q / e * e = 0
      · have t2 : (q - q / e * e == 0) = true := by simpa using z2
        have h := HR.out
        rw [← EP.out, ← EQ.out, z1, z2, ord_zz] at h
        clear z1 z2
        go_wp2
        go_ret
        exact ⟨ret_int (by omega), rfl⟩
      · have t2 : (q - q / e * e == 0) = false := by simpa using z2
        have h := HR.out
        rw [← EP.out, z1, ord_z1 b3 (by rw [← EQ.out]; omega)] at h
        clear z1 z2
        go_wp2
        go_ret
        exact ⟨ret_int (by omega), rfl⟩
    · have t1 : (p - p / d * d == 0) = false := by simpa using z1
      by_cases z2 : q - q / e * e = 0
      · have t2 : (q - q / e * e == 0) = true := by simpa using z2
        have h := HR.out
        rw [← EQ.out, z2, ord_z2 b7 (by rw [← EP.out]; omega)] at h
        clear z1 z2
        go_wp2
        go_ret
        exact ⟨ret_int (by omega), rfl⟩
      · have t2 : (q - q / e * e == 0) = false := by simpa using z2
        have hp : 1 ≤ p % d := by rw [← EP.out]; omega
        have hq : 1 ≤ q % e := by rw [← EQ.out]; omega
        clear z1 z2
        go_wp2
        go_round
        case rel =>
          rw [EP.out, EQ.out]
          exact ⟨_, _, _, _, _, rfl, rfl, rfl, rfl, rfl, by omega, b4, hp, by omega, by omega, b8, hq, by omega, by omega, by omega, by show _ = _; rw [ord_turn, ← HR.out]; exact Int.neg_mul_neg _ _⟩
        case measure => simp only [intOf]; rw [EP.out]; omega

set_option maxHeartbeats 1000000 in
theorem partsTo_any (p q n d : Int) (w : World) (h1 : -1000000000 ≤ p) (h2 : p ≤ 1000000000) (h3 : 0 ≤ q) (h4 : q ≤ 1000000000) (h5 : -2000000000 ≤ n) (h6 : n ≤ 2000000000) (h7 : 0 ≤ d) (h8 : d ≤ 1000000000) :
    Calls Try.prog 79 #[.agg #[.int .i64 p, .int .i64 q], .agg #[.int .i64 n, .int .i64 d]] w fun e w' => e = .returned (.int .i64 (iabs (p * d - n * q))) ∧ Below w.heap.size w w' := by
  obtain ⟨m1, m2⟩ := mul_bd2 p d (by omega) (by omega) (by omega) h8
  obtain ⟨m3, m4⟩ := mul_bd2 n q h5 h6 (by omega) h4
  by_cases c : p * d - n * q < 0
  · rw [show iabs (p * d - n * q) = -(p * d - n * q) from if_pos c]
    go_enter Try.func79, Try.ntmps79
    go_wp2
    go_ret
    exact ⟨rfl, ((Below.refl _ _).alloc (Nat.le_refl _) _).alloc (by simp) _⟩
  · rw [show iabs (p * d - n * q) = p * d - n * q from if_neg c]
    go_enter Try.func79, Try.ntmps79
    go_wp2
    go_ret
    exact ⟨rfl, ((Below.refl _ _).alloc (Nat.le_refl _) _).alloc (by simp) _⟩

set_option maxHeartbeats 1000000 in
theorem withParts_any (hn hd n d t : Int) (w : World) (a1 : -2000000000 ≤ hn) (a2 : hn ≤ 2000000000) (a3 : -2000000000 ≤ hd) (a4 : hd ≤ 2000000000) (a5 : -4000000000 ≤ t * n) (a6 : t * n ≤ 4000000000) (a7 : -4000000000 ≤ t * d) (a8 : t * d ≤ 4000000000) :
    Calls Try.prog 70 #[.agg #[.int .i64 hn, .int .i64 hd], .agg #[.int .i64 n, .int .i64 d], .int .i64 t] w fun e w' => e = .returned (.agg #[.int .i64 (hn + t * n), .int .i64 (hd + t * d)]) ∧ Below w.heap.size w w' := by
  go_enter Try.func70, Try.ntmps70
  go_wp2
  exact bodyPost_ret (v := .agg #[.int .i64 (hn + t * n), .int .i64 (hd + t * d)]) (by simp [results, Try.results70, go_sem]) rfl ⟨rfl, below_alR _ (below_alR _ (below_alR _ (Below.refl _ _)))⟩

set_option maxRecDepth 100000 in
set_option maxHeartbeats 2000000 in
/-- the program's choice -/
theorem nearer_any (p q n d xn xd : Int) (w : World) (h1 : -1000000000 ≤ p) (h2 : p ≤ 1000000000) (h3 : 0 ≤ q) (h4 : q ≤ 1000000000) (h5 : -2000000000 ≤ n) (h6 : n ≤ 2000000000) (h7 : 0 ≤ d) (h8 : d ≤ 1000000000) (h9 : -2000000000 ≤ xn) (h10 : xn ≤ 2000000000) (h11 : 0 ≤ xd) (h12 : xd ≤ 1000000000)
    (m1 : iabs (p * d - n * q) * xd ≤ 1000000000) (m2 : iabs (p * xd - xn * q) * d ≤ 1000000000) :
    Calls Try.prog 71 #[.agg #[.int .i64 p, .int .i64 q], .agg #[.int .i64 n, .int .i64 d], .agg #[.int .i64 xn, .int .i64 xd]] w fun e w' =>
      e = .returned (.agg #[.int .i64 (selI (nearB (iabs (p * d - n * q)) xd (iabs (p * xd - xn * q)) d n xn) n xn), .int .i64 (selI (nearB (iabs (p * d - n * q)) xd (iabs (p * xd - xn * q)) d n xn) d xd)]) ∧ Below w.heap.size w w' := by
  obtain ⟨A, hA⟩ : ∃ A, A = iabs (p * d - n * q) := ⟨_, rfl⟩
  obtain ⟨B', hB⟩ : ∃ B, B = iabs (p * xd - xn * q) := ⟨_, rfl⟩
  have HA : Hid (∀ u : World, Calls Try.prog 79 #[.agg #[.int .i64 p, .int .i64 q], .agg #[.int .i64 n, .int .i64 d]] u fun e w' => e = .returned (.int .i64 A) ∧ Below u.heap.size u w') := by
    intro u; rw [hA]; exact partsTo_any p q n d u h1 h2 h3 h4 h5 h6 h7 h8
  have HB : Hid (∀ u : World, Calls Try.prog 79 #[.agg #[.int .i64 p, .int .i64 q], .agg #[.int .i64 xn, .int .i64 xd]] u fun e w' => e = .returned (.int .i64 B') ∧ Below u.heap.size u w') := by
    intro u; rw [hB]; exact partsTo_any p q xn xd u h1 h2 h3 h4 h9 h10 h11 h12
  have A0 : 0 ≤ A := by rw [hA]; exact iabs_nn _
  have B0 : 0 ≤ B' := by rw [hB]; exact iabs_nn _
  rw [← hA] at m1 ⊢
  rw [← hB] at m2 ⊢
  clear hA hB
  have m3 := Int.mul_nonneg A0 h11
  have m4 := Int.mul_nonneg B0 h7
  go_enter Try.func71, Try.ntmps71
  go_upto_region 1 with fail
  obtain ⟨a, ha⟩ : ∃ a, a = w.heap.size := ⟨_, rfl⟩
  obtain ⟨W, hW⟩ : ∃ W, W = (((w.alloc (.cells #[.int .i64 p, .int .i64 q] 25)).alloc (.cells #[.int .i64 n, .int .i64 d] 25)).alloc (.cells #[.int .i64 xn, .int .i64 xd] 25)).alloc (.cells #[.int .i64 0, .int .i64 0] 25) := ⟨_, rfl⟩
  have B : Below w.heap.size w W := by rw [hW]; exact below_alR _ (below_alR _ (below_alR _ (below_alR _ (Below.refl _ _))))
  have b0 : ∀ {u : World} (o : Obj), Below u.heap.size u (u.alloc o) := fun o => below_alR o (Below.refl _ _)
  have r0 : IsR W a p q := by rw [hW, ha]; exact (((IsR.new w p q).below (b0 _)).below (b0 _)).below (b0 _)
  have r1 : IsR W (a + 1) n d := by rw [hW, ha]; simpa using (((IsR.new (w.alloc (.cells #[.int .i64 p, .int .i64 q] 25)) n d).below (b0 _)).below (b0 (.cells #[.int .i64 0, .int .i64 0] 25)))
  have r2 : IsR W (a + 1 + 1) xn xd := by rw [hW, ha]; simpa using (IsR.new ((w.alloc (.cells #[.int .i64 p, .int .i64 q] 25)).alloc (.cells #[.int .i64 n, .int .i64 d] 25)) xn xd).below (b0 (.cells #[.int .i64 0, .int .i64 0] 25))
  have r3 : IsR W (a + 1 + 1 + 1) 0 0 := by rw [hW, ha]; simpa using IsR.new (((w.alloc (.cells #[.int .i64 p, .int .i64 q] 25)).alloc (.cells #[.int .i64 n, .int .i64 d] 25)).alloc (.cells #[.int .i64 xn, .int .i64 xd] 25)) 0 0
  have hwa : w.heap.size ≤ a := by omega
  rw [← hW, ← ha]
  have k00 := r0.c0
  have k01 := r0.c1
  have k10 := r1.c0
  have k11 := r1.c1
  have k20 := r2.c0
  have k21 := r2.c1
  clear hW ha r0 r1 r2
  have eA : IntKind.i64.wrap (A * xd) = A * xd := by rw [IntKind.wrap_i64]; generalize A * xd = z at *; omega
  have eB : IntKind.i64.wrap (B' * d) = B' * d := by rw [IntKind.wrap_i64]; generalize B' * d = z at *; omega
  go_cut [7] (fun s7 wx => s7 = .int .i64 (cmpI (A * xd) (B' * d)) ∧ Hid (Below w.heap.size w wx) ∧ Hid (IsR wx (a + 1 + 1 + 1) 0 0) ∧ wx.cell? ⟨a, 0, none⟩ = some (.int .i64 p) ∧ wx.cell? ⟨a, 1, none⟩ = some (.int .i64 q) ∧ wx.cell? ⟨a + 1, 0, none⟩ = some (.int .i64 n) ∧ wx.cell? ⟨a + 1, 1, none⟩ = some (.int .i64 d) ∧ wx.cell? ⟨a + 1 + 1, 0, none⟩ = some (.int .i64 xn) ∧ wx.cell? ⟨a + 1 + 1, 1, none⟩ = some (.int .i64 xd))
  case first =>
    refine wp_region_noPanic ?_
    refine wp_region_held_drew (S := (fun w' => w'.cell? ⟨a, 0, none⟩ = some (.int .i64 p) ∧ w'.cell? ⟨a, 1, none⟩ = some (.int .i64 q) ∧ w'.cell? ⟨a + 1, 0, none⟩ = some (.int .i64 n) ∧ w'.cell? ⟨a + 1, 1, none⟩ = some (.int .i64 d) ∧ w'.cell? ⟨a + 1 + 1, 0, none⟩ = some (.int .i64 xn) ∧ w'.cell? ⟨a + 1 + 1, 1, none⟩ = some (.int .i64 xd))) (by kernel_rfl) ?_ (fun hHeld => ?_)
    · (try dsimp only)
      refine ⟨?_, ?_, ?_, ?_, ?_, ?_⟩ <;> (repeat (with_reducible (first | refine cell_dr ?_ | exact k00 | exact k01 | exact k10 | exact k11 | exact k20 | exact k21)))
    refine wpAnyH_take (i := 0) (v := ?_) rfl (by kernel_rfl) (by kernel_rfl) (by kernel_rfl) (fun _ _ _ h => h) (Or.inl ⟨by kernel_rfl, ?_⟩) hHeld ?_
    rotate_left
    · intro wz hSw; (try dsimp only at hSw); go_simp; all_goals (try with_reducible rfl)
    (try simp only [List.getElem_toArray]); (try simp only [List.getElem_cons_succ]); (try simp only [List.getElem_cons_zero]); (try simp only [Act.put]); (try simp only [List.setIfInBounds_toArray]); (try simp only [List.set_cons_succ]); (try simp only [List.set_cons_zero])
    refine wpAnyH_take (i := 1) (v := ?_) rfl (by kernel_rfl) (by kernel_rfl) (by kernel_rfl) (fun _ _ _ h => h) (Or.inl ⟨by kernel_rfl, ?_⟩) hHeld ?_
    rotate_left
    · intro wz hSw; (try dsimp only at hSw); go_simp; all_goals (try with_reducible rfl)
    (try simp only [List.getElem_toArray]); (try simp only [List.getElem_cons_succ]); (try simp only [List.getElem_cons_zero]); (try simp only [Act.put]); (try simp only [List.setIfInBounds_toArray]); (try simp only [List.set_cons_succ]); (try simp only [List.set_cons_zero])
    refine wpAnyH_take (i := 3) (v := ?_) rfl (by kernel_rfl) (by kernel_rfl) (by kernel_rfl) (fun _ _ _ h => h) (Or.inl ⟨by kernel_rfl, ?_⟩) hHeld ?_
    rotate_left
    · intro wz hSw; (try dsimp only at hSw); go_simp; all_goals (try with_reducible rfl)
    (try simp only [List.getElem_toArray]); (try simp only [List.getElem_cons_succ]); (try simp only [List.getElem_cons_zero]); (try simp only [Act.put]); (try simp only [List.setIfInBounds_toArray]); (try simp only [List.set_cons_succ]); (try simp only [List.set_cons_zero])
    refine wpAnyH_take (i := 4) (v := ?_) rfl (by kernel_rfl) (by kernel_rfl) (by kernel_rfl) (fun _ _ _ h => h) (Or.inl ⟨by kernel_rfl, ?_⟩) hHeld ?_
    rotate_left
    · intro wz hSw; (try dsimp only at hSw); go_simp; all_goals (try with_reducible rfl)
    (try simp only [List.getElem_toArray]); (try simp only [List.getElem_cons_succ]); (try simp only [List.getElem_cons_zero]); (try simp only [Act.put]); (try simp only [List.setIfInBounds_toArray]); (try simp only [List.set_cons_succ]); (try simp only [List.set_cons_zero])
    refine wpAnyH_take (i := 6) (v := ?_) rfl (by kernel_rfl) (by kernel_rfl) (by kernel_rfl) (fun _ _ _ h => h) (Or.inl ⟨by kernel_rfl, ?_⟩) hHeld ?_
    rotate_left
    · intro wz hSw; (try dsimp only at hSw); go_simp; all_goals (try with_reducible rfl)
    (try simp only [List.getElem_toArray]); (try simp only [List.getElem_cons_succ]); (try simp only [List.getElem_cons_zero]); (try simp only [Act.put]); (try simp only [List.setIfInBounds_toArray]); (try simp only [List.set_cons_succ]); (try simp only [List.set_cons_zero])
    refine wpAnyH_take (i := 7) (v := ?_) rfl (by kernel_rfl) (by kernel_rfl) (by kernel_rfl) (fun _ _ _ h => h) (Or.inl ⟨by kernel_rfl, ?_⟩) hHeld ?_
    rotate_left
    · intro wz hSw; (try dsimp only at hSw); go_simp; all_goals (try with_reducible rfl)
    (try simp only [List.getElem_toArray]); (try simp only [List.getElem_cons_succ]); (try simp only [List.getElem_cons_zero]); (try simp only [Act.put]); (try simp only [List.setIfInBounds_toArray]); (try simp only [List.set_cons_succ]); (try simp only [List.set_cons_zero])
    refine wpAnyH_take (i := 9) (v := ?_) rfl (by kernel_rfl) (by kernel_rfl) (by kernel_rfl) (fun _ _ _ h => h) (Or.inl ⟨by kernel_rfl, ?_⟩) hHeld ?_
    rotate_left
    · intro wz hSw; (try dsimp only at hSw); go_simp; all_goals (try with_reducible rfl)
    (try simp only [List.getElem_toArray]); (try simp only [List.getElem_cons_succ]); (try simp only [List.getElem_cons_zero]); (try simp only [Act.put]); (try simp only [List.setIfInBounds_toArray]); (try simp only [List.set_cons_succ]); (try simp only [List.set_cons_zero])
    refine wpAnyH_take (i := 10) (v := ?_) rfl (by kernel_rfl) (by kernel_rfl) (by kernel_rfl) (fun _ _ _ h => h) (Or.inl ⟨by kernel_rfl, ?_⟩) hHeld ?_
    rotate_left
    · intro wz hSw; (try dsimp only at hSw); go_simp; all_goals (try with_reducible rfl)
    (try simp only [List.getElem_toArray]); (try simp only [List.getElem_cons_succ]); (try simp only [List.getElem_cons_zero]); (try simp only [Act.put]); (try simp only [List.setIfInBounds_toArray]); (try simp only [List.set_cons_succ]); (try simp only [List.set_cons_zero])
    refine wpAnyH_ready (rs := [2]) (by kernel_rfl) (by simp) (AllReadyH.cons rfl (fun K hK => ?_) AllReadyH.nil)
    go_simp
    (go_at_call 79; refine (HA.out _).mono ?_; rintro e wN ⟨rfl, hbN⟩; replace k00 : wN.cell? ⟨a, 0, none⟩ = some (.int .i64 p) := (by first | exact cell_later hbN k00 | exact cell_later hbN (cell_dr k00)); replace k01 : wN.cell? ⟨a, 1, none⟩ = some (.int .i64 q) := (by first | exact cell_later hbN k01 | exact cell_later hbN (cell_dr k01)); replace k10 : wN.cell? ⟨a + 1, 0, none⟩ = some (.int .i64 n) := (by first | exact cell_later hbN k10 | exact cell_later hbN (cell_dr k10)); replace k11 : wN.cell? ⟨a + 1, 1, none⟩ = some (.int .i64 d) := (by first | exact cell_later hbN k11 | exact cell_later hbN (cell_dr k11)); replace k20 : wN.cell? ⟨a + 1 + 1, 0, none⟩ = some (.int .i64 xn) := (by first | exact cell_later hbN k20 | exact cell_later hbN (cell_dr k20)); replace k21 : wN.cell? ⟨a + 1 + 1, 1, none⟩ = some (.int .i64 xd) := (by first | exact cell_later hbN k21 | exact cell_later hbN (cell_dr k21)); replace r3 : IsR wN (a + 1 + 1 + 1) 0 0 := IsR.below (by exact r3) hbN; replace B : Below w.heap.size w wN := (by first | exact Below.trans B (hbN.mono B.size) | exact Below.trans B.drew (hbN.mono B.drew.size)); clear hbN)
    go_wp2_with fail
    refine hK.out _ _ ?_ (fun hHeld => ?_)
    · (try dsimp only)
      refine ⟨?_, ?_, ?_, ?_, ?_, ?_⟩ <;> (repeat (with_reducible (first | refine cell_dr ?_ | exact k00 | exact k01 | exact k10 | exact k11 | exact k20 | exact k21)))
    clear hK K
    (try simp only [List.getElem_toArray]); (try simp only [List.getElem_cons_succ]); (try simp only [List.getElem_cons_zero]); (try simp only [Act.put]); (try simp only [List.setIfInBounds_toArray]); (try simp only [List.set_cons_succ]); (try simp only [List.set_cons_zero])
    refine wpAnyH_take (i := 5) (v := ?_) rfl (by kernel_rfl) (by kernel_rfl) (by kernel_rfl) (fun _ _ _ h => h) (Or.inl ⟨by kernel_rfl, ?_⟩) hHeld ?_
    rotate_left
    · intro wz hSw; (try dsimp only at hSw); go_simp; all_goals (try with_reducible rfl)
    (try simp only [List.getElem_toArray]); (try simp only [List.getElem_cons_succ]); (try simp only [List.getElem_cons_zero]); (try simp only [Act.put]); (try simp only [List.setIfInBounds_toArray]); (try simp only [List.set_cons_succ]); (try simp only [List.set_cons_zero])
    refine wpAnyH_ready (rs := [8]) (by kernel_rfl) (by simp) (AllReadyH.cons rfl (fun K hK => ?_) AllReadyH.nil)
    go_simp
    (go_at_call 79; refine (HB.out _).mono ?_; rintro e wN ⟨rfl, hbN⟩; replace k00 : wN.cell? ⟨a, 0, none⟩ = some (.int .i64 p) := (by first | exact cell_later hbN k00 | exact cell_later hbN (cell_dr k00)); replace k01 : wN.cell? ⟨a, 1, none⟩ = some (.int .i64 q) := (by first | exact cell_later hbN k01 | exact cell_later hbN (cell_dr k01)); replace k10 : wN.cell? ⟨a + 1, 0, none⟩ = some (.int .i64 n) := (by first | exact cell_later hbN k10 | exact cell_later hbN (cell_dr k10)); replace k11 : wN.cell? ⟨a + 1, 1, none⟩ = some (.int .i64 d) := (by first | exact cell_later hbN k11 | exact cell_later hbN (cell_dr k11)); replace k20 : wN.cell? ⟨a + 1 + 1, 0, none⟩ = some (.int .i64 xn) := (by first | exact cell_later hbN k20 | exact cell_later hbN (cell_dr k20)); replace k21 : wN.cell? ⟨a + 1 + 1, 1, none⟩ = some (.int .i64 xd) := (by first | exact cell_later hbN k21 | exact cell_later hbN (cell_dr k21)); replace r3 : IsR wN (a + 1 + 1 + 1) 0 0 := IsR.below (by exact r3) hbN; replace B : Below w.heap.size w wN := (by first | exact Below.trans B (hbN.mono B.size) | exact Below.trans B.drew (hbN.mono B.drew.size)); clear hbN)
    go_wp2_with fail
    refine hK.out _ _ ?_ (fun hHeld => ?_)
    · (try dsimp only)
      refine ⟨?_, ?_, ?_, ?_, ?_, ?_⟩ <;> (repeat (with_reducible (first | refine cell_dr ?_ | exact k00 | exact k01 | exact k10 | exact k11 | exact k20 | exact k21)))
    clear hK K
    (try simp only [List.getElem_toArray]); (try simp only [List.getElem_cons_succ]); (try simp only [List.getElem_cons_zero]); (try simp only [Act.put]); (try simp only [List.setIfInBounds_toArray]); (try simp only [List.set_cons_succ]); (try simp only [List.set_cons_zero])
    refine wpAnyH_take (i := 11) (v := ?_) rfl (by kernel_rfl) (by kernel_rfl) (by kernel_rfl) (fun _ _ _ h => h) (Or.inl ⟨by kernel_rfl, ?_⟩) hHeld ?_
    rotate_left
    · intro wz hSw; (try dsimp only at hSw); go_simp; all_goals (try with_reducible rfl)
    (try simp only [List.getElem_toArray]); (try simp only [List.getElem_cons_succ]); (try simp only [List.getElem_cons_zero]); (try simp only [Act.put]); (try simp only [List.setIfInBounds_toArray]); (try simp only [List.set_cons_succ]); (try simp only [List.set_cons_zero])
    refine wpAnyH_ready (rs := [12]) (by kernel_rfl) (by simp) (AllReadyH.cons rfl (fun K hK => ?_) AllReadyH.nil)
    go_simp
    (go_at_call 78; refine (compare_any _ _ _).mono ?_; rintro e wN ⟨rfl, hwN⟩; obtain rfl := hwN.symm; clear hwN)
    go_wp2_with fail
    refine hK.out _ _ ?_ (fun hHeld => ?_)
    · (try dsimp only)
      refine ⟨?_, ?_, ?_, ?_, ?_, ?_⟩ <;> (repeat (with_reducible (first | refine cell_dr ?_ | exact k00 | exact k01 | exact k10 | exact k11 | exact k20 | exact k21)))
    clear hK K
    (try simp only [List.getElem_toArray]); (try simp only [List.getElem_cons_succ]); (try simp only [List.getElem_cons_zero]); (try simp only [Act.put]); (try simp only [List.setIfInBounds_toArray]); (try simp only [List.set_cons_succ]); (try simp only [List.set_cons_zero])
    refine wpAnyH_take (i := 13) (v := ?_) rfl (by kernel_rfl) (by kernel_rfl) (by kernel_rfl) (fun _ _ _ h => h) (Or.inl ⟨by kernel_rfl, ?_⟩) hHeld ?_
    rotate_left
    · intro wz hSw; (try dsimp only at hSw); go_simp; all_goals (try with_reducible rfl)
    (try simp only [List.getElem_toArray]); (try simp only [List.getElem_cons_succ]); (try simp only [List.getElem_cons_zero]); (try simp only [Act.put]); (try simp only [List.setIfInBounds_toArray]); (try simp only [List.set_cons_succ]); (try simp only [List.set_cons_zero])
    refine wpAnyH_done (by kernel_rfl) ?_ _
    refine NoPanic.normal ?_
    go_wp2_with fail
    go_meet
    case rel => exact ⟨rfl, B, r3, k00, k01, k10, k11, k20, k21⟩
  case rest =>
    clear k00 k01 k10 k11 k20 k21 B r3
    obtain ⟨rfl, B, r3, k00, k01, k10, k11, k20, k21⟩ := hcut
    obtain ⟨o1, ho1⟩ : ∃ z, z = cmpI (A * xd) (B' * d) := ⟨_, rfl⟩
    rw [← ho1]
    have HO : Hid (nearB A xd B' d n xn = decide (orI o1 (cmpI d xd) (cmpI n xn) < 0)) := by show _ = _; rw [ho1]; rfl
    clear ho1 m1 m2 m3 m4
    go_upto_region 2 with fail
    go_cut [34] (fun s34 wx => s34 = .bool (decide (orI o1 (cmpI d xd) (cmpI n xn) < 0)) ∧ Hid (Below w.heap.size w wx) ∧ Hid (IsR wx (a + 1 + 1 + 1) 0 0) ∧ wx.cell? ⟨a, 0, none⟩ = some (.int .i64 p) ∧ wx.cell? ⟨a, 1, none⟩ = some (.int .i64 q) ∧ wx.cell? ⟨a + 1, 0, none⟩ = some (.int .i64 n) ∧ wx.cell? ⟨a + 1, 1, none⟩ = some (.int .i64 d) ∧ wx.cell? ⟨a + 1 + 1, 0, none⟩ = some (.int .i64 xn) ∧ wx.cell? ⟨a + 1 + 1, 1, none⟩ = some (.int .i64 xd))
    case first =>
      go_region_held3 (fun w' => w'.cell? ⟨a, 0, none⟩ = some (.int .i64 p) ∧ w'.cell? ⟨a, 1, none⟩ = some (.int .i64 q) ∧ w'.cell? ⟨a + 1, 0, none⟩ = some (.int .i64 n) ∧ w'.cell? ⟨a + 1, 1, none⟩ = some (.int .i64 d) ∧ w'.cell? ⟨a + 1 + 1, 0, none⟩ = some (.int .i64 xn) ∧ w'.cell? ⟨a + 1 + 1, 1, none⟩ = some (.int .i64 xd)) (refine ⟨?_, ?_, ?_, ?_, ?_, ?_⟩ <;> (repeat (with_reducible (first | refine cell_dr ?_ | refine cell_al _ ?_ | exact k00 | exact k01 | exact k10 | exact k11 | exact k20 | exact k21))))
        (first | (go_at_call 78; refine (compare_any _ _ _).mono ?_; rintro e wN ⟨rfl, hwN⟩; obtain rfl := hwN.symm; clear hwN) | (go_at_call 80; refine (or_any _ o1 (cmpI d xd) (cmpI n xn) _ (by simp [go_sem]) (by simp [go_sem]) (by simp [go_sem])).mono ?_; rintro e wN ⟨rfl, hwN⟩; obtain rfl := hwN.symm; clear hwN))
      all_goals (go_wp2_with fail)
      all_goals
        go_meet
        case rel => exact ⟨rfl, (below_alN _ B.out).drew, r3.out.below (below_alR _ (Below.refl _ _)).drew, cell_dr (cell_al _ k00), cell_dr (cell_al _ k01), cell_dr (cell_al _ k10), cell_dr (cell_al _ k11), cell_dr (cell_al _ k20), cell_dr (cell_al _ k21)⟩
    case rest =>
      clear k00 k01 k10 k11 k20 k21 B r3
      obtain ⟨rfl, B, r3, k00, k01, k10, k11, k20, k21⟩ := hcut
      have e0 := r3.out.c0
      have e1 := r3.out.c1
      have f0 := r3.out.f0
      have f1 := r3.out.f1
      have hwa3 : w.heap.size ≤ a + 1 + 1 + 1 := by omega
      by_cases hb : orI o1 (cmpI d xd) (cmpI n xn) < 0
      · have HO' : Hid (nearB A xd B' d n xn = true) := by show _ = _; rw [HO.out, decide_eq_true hb]
        clear HO
        go_wp2
        refine bodyPost_ret (v := .agg #[.int .i64 n, .int .i64 d]) (by simp [results, Try.results71, go_sem, e0, e1]) rfl ⟨?_, (B.out.setCell (p := ⟨a + 1 + 1 + 1, 0, none⟩) hwa3 _).setCell (p := ⟨a + 1 + 1 + 1, 1, none⟩) hwa3 _⟩
        rw [HO'.out]; rfl
      · have HO' : Hid (nearB A xd B' d n xn = false) := by show _ = _; rw [HO.out, decide_eq_false hb]
        clear HO
        go_wp2
        refine bodyPost_ret (v := .agg #[.int .i64 xn, .int .i64 xd]) (by simp [results, Try.results71, go_sem, e0, e1]) rfl ⟨?_, (B.out.setCell (p := ⟨a + 1 + 1 + 1, 0, none⟩) hwa3 _).setCell (p := ⟨a + 1 + 1 + 1, 1, none⟩) hwa3 _⟩
        rw [HO'.out]; rfl
end Go.Proofs.Ytllgbfoffebojaa
