/- The walk of the law FnBetween. -/
import Derived.Test.YtmlnabgmibhfhabDrawW6
import Derived.Test.YtmlnabgmibhfhabBetwW4
import Derived.Test.YtmlnabgmibhfhabBetwLaw
namespace Go.Proofs.Ytmlnabgmibhfhab
open Go.RowKit Go.Proofs.Ytmlnabgmibhfhab.RM

theorem bigB_any (a : Option Addr) (len cap : Nat) (w : World) :
    Calls Try.prog 4 #[.slice a len cap] w fun e w' => e = .returned (.bool (decide (4096 < (len : Int)))) ∧ w' = w := by
  by_cases h : 4096 < (len : Int)
  · rw [decide_eq_true h]
    go_enter Try.func4, Try.ntmps4
    go_wp2
    go_ret
    exact ⟨rfl, rfl⟩
  · rw [decide_eq_false h]
    go_enter Try.func4, Try.ntmps4
    go_wp2
    go_ret
    exact ⟨rfl, rfl⟩
/-- how large the numbers of the tried fraction are -/
theorem try_bd {a b k : Int} (hk : okB a b = true) (k0 : 1 ≤ k) (k1 : k ≤ 40) :
    -50000000000 ≤ a / b * k ∧ a / b * k ≤ 50000000000 ∧ -1000000000000000000 ≤ a / b * b ∧ a / b * b ≤ 1000000000000000000 ∧ 0 ≤ a - a / b * b ∧ a - a / b * b ≤ 1000000000 ∧
    0 ≤ (a - a / b * b) * k ∧ (a - a / b * b) * k ≤ 40000000000 ∧ 0 ≤ ((a - a / b * b) * k).tdiv b ∧ ((a - a / b * b) * k).tdiv b ≤ 40000000000 := by
  obtain ⟨b1, b9, a8, a9, _⟩ := okB_out hk
  obtain ⟨W8, W9⟩ := flo_bd hk
  rw [flo_ok hk] at W8 W9
  have h1 := ediv_le a b b1
  have h2 := lt_ediv a b b1
  have h3 : (a / b + 1) * b = a / b * b + b := by rw [Int.add_mul, Int.one_mul]
  have h4 := mul_bd (a / b) b W8 W9 (by omega) b9
  have h5 : -1000000000 * k ≤ a / b * k := Int.mul_le_mul_of_nonneg_right W8 (by omega)
  have h6 : a / b * k ≤ 1000000000 * k := Int.mul_le_mul_of_nonneg_right W9 (by omega)
  have h7 := mul_in (show 0 ≤ a - a / b * b by omega) (show a - a / b * b ≤ 1000000000 by omega) (show 0 ≤ k by omega) k1
  have h8 : ((a - a / b * b) * k).tdiv b = ((a - a / b * b) * k) / b := Int.tdiv_eq_ediv_of_nonneg h7.1
  have h9 := Int.ediv_nonneg h7.1 (show 0 ≤ b by omega)
  have h10 := Int.ediv_le_self b h7.1
  rw [h8]
  omega

set_option maxRecDepth 100000 in
set_option maxHeartbeats 4000000 in
theorem lawBetw (a0 : Option Addr) (len cap : Nat) (zs : List Int) (w : World) (hr : IsRow .u8 w a0 len cap zs) :
    Calls Try.prog 3 #[.slice a0 len cap] w fun e w' => e = .returned (.bool true) ∧ Below w.heap.size w w' := by
  have b0 : ∀ {u : World} (o : Obj), Below u.heap.size u (u.alloc o) := fun o => below_alR o (Below.refl _ _)
  by_cases hl : 4096 < (len : Int)
  · have hbig : decide (4096 < (len : Int)) = true := decide_eq_true hl
    clear hl hr
    go_enter Try.func3, Try.ntmps3
    go_wp2_with fail
    refine (bigB_any _ _ _ _).mono ?_
    rintro e w1 ⟨rfl, hw⟩
    obtain rfl := hw.symm
    go_wp2
    go_ret
    exact ⟨rfl, Below.refl _ _⟩
  have hbig : decide (4096 < (len : Int)) = false := decide_eq_false hl
  have HR : Hid (IsRow .u8 w a0 len cap zs) := hr
  clear hl hr
  go_enter Try.func3, Try.ntmps3
  go_wp2_with fail
  refine (bigB_any _ _ _ _).mono ?_
  rintro e w0 ⟨rfl, hw⟩
  obtain rfl := hw.symm
  clear hw
  go_wp2_with fail
  refine (dBetw_any a0 len cap zs _ HR.out).mono ?_
  rintro e w1 ⟨a, b, c, d, rfl, B1⟩
  obtain ⟨A, hA⟩ : ∃ A, A = w1.heap.size := ⟨_, rfl⟩
  obtain ⟨X1, hX1⟩ : ∃ X, X = (w1.alloc (.cells #[.int .i64 a, .int .i64 b] 25)).alloc (.cells #[.int .i64 c, .int .i64 d] 25) := ⟨_, rfl⟩
  have rA : IsR X1 A a b := by rw [hX1, hA]; exact (IsR.new w1 a b).below (b0 _)
  have rC : IsR X1 (A + 1) c d := by rw [hX1, hA]; simpa using IsR.new (w1.alloc (.cells #[.int .i64 a, .int .i64 b] 25)) c d
  replace B1 : Below w.heap.size w X1 := by rw [hX1]; exact (B1.alloc B1.size _).alloc (by have := B1.size; simp; omega) _
  obtain ⟨xn, hxn⟩ : ∃ z, z = btN a b c d := ⟨_, rfl⟩
  obtain ⟨xd, hxd⟩ : ∃ z, z = btD a b c d := ⟨_, rfl⟩
  obtain ⟨xo, hxo⟩ : ∃ z, z = btB a b c d := ⟨_, rfl⟩
  have HI : Hid (∀ u : World, Calls Try.prog 6 #[.agg #[.int .i64 a, .int .i64 b], .agg #[.int .i64 c, .int .i64 d]] u fun e w' => e = .returned (.tuple #[.agg #[.int .i64 xn, .int .i64 xd], .bool xo]) ∧ Below u.heap.size u w') := by
    intro u; rw [hxn, hxd, hxo]; exact iBetw_any a b c d u
  have HS : Hid (∀ u : World, Calls Try.prog 7 #[.agg #[.int .i64 a, .int .i64 b], .agg #[.int .i64 c, .int .i64 d]] u fun e w' => e = .returned (.tuple #[.agg #[.int .i64 xn, .int .i64 xd], .bool xo]) ∧ Below u.heap.size u w') := by
    intro u; rw [hxn, hxd, hxo]; exact sBetw_any a b c d u
  have HN : Hid (xo = false → xn = 0 ∧ xd = 0) := by
    intro h; rw [hxo] at h; rw [hxn, hxd]; unfold btN btD; rw [h]; exact ⟨rfl, rfl⟩
  have HL : Hid (xo = true → okB a b = true ∧ lessB a b xn xd = true ∧ lessB xn xd c d = true ∧ ∀ k m : Int, 0 < m → m < xd → redOk k m = true → lessB a b (redN k m) (redD k m) = true → lessB (redN k m) (redD k m) c d = false) := by
    intro h; rw [hxo] at h; rw [hxn, hxd]
    have hl := h
    unfold btB at hl
    rw [Bool.and_eq_true] at hl
    exact ⟨(lessB_out hl.1).1, (betw_less h).1, (betw_less h).2, fun k m h1 h2 h3 h4 => betw_least h h1 h2 h3 h4⟩
  clear hxn hxd hxo
  have e1 : (xn != xn) = false := by simp
  have e2 : (xd != xd) = false := by simp
  have e3 : (xo != xo) = false := by simp
  have rAa := rA.c0
  have rAb := rA.c1
  have rAl := rA.lt
  have rCa := rC.c0
  have rCb := rC.c1
  have rCl := rC.lt
  go_wp2_with fail
  rw [← hX1, ← hA]
  clear hX1 hA
  refine (HI.out _).mono ?_
  rintro e w2 ⟨rfl, hb⟩
  replace B1 := B1.trans (hb.mono B1.size)
  replace rA := rA.below hb
  replace rC := rC.below hb
  clear hb
  clear rAa rAb rAl rCa rCb rCl
  have rAa := rA.c0
  have rAb := rA.c1
  have rAl := rA.lt
  have rCa := rC.c0
  have rCb := rC.c1
  have rCl := rC.lt
  obtain ⟨X, hX⟩ : ∃ X, X = w2.heap.size := ⟨_, rfl⟩
  obtain ⟨X2, hX2⟩ : ∃ Y, Y = w2.alloc (.cells #[.int .i64 xn, .int .i64 xd] 25) := ⟨_, rfl⟩
  have hbx : Below w2.heap.size w2 X2 := by rw [hX2]; exact b0 _
  have rX : IsR X2 X xn xd := by rw [hX2, hX]; exact IsR.new w2 xn xd
  replace B1 := B1.trans (hbx.mono B1.size)
  replace rA := rA.below hbx
  replace rC := rC.below hbx
  clear hbx
  go_wp2_with fail
  rw [← hX2, ← hX]
  clear hX2 hX
  refine (HS.out _).mono ?_
  rintro e w3 ⟨rfl, hb⟩
  replace B1 := B1.trans (hb.mono B1.size)
  replace rA := rA.below hb
  replace rC := rC.below hb
  replace rX := rX.below hb
  clear hb
  clear rAa rAb rAl rCa rCb rCl
  cases xo
  · obtain ⟨z1, z2⟩ := HN.out rfl
    subst z1 z2
    clear HN HL HI HS
    have rXa := rX.c0
    have rXb := rX.c1
    have rXl := rX.lt
    go_wp2
    go_ret
    exact ⟨rfl, B1.alloc B1.size _⟩
  · obtain ⟨o1, l1, l2, hleast⟩ := HL.out rfl
    have HT : Hid (∀ k m : Int, 0 < m → m < xd → redOk k m = true → lessB a b (redN k m) (redD k m) = true → lessB (redN k m) (redD k m) c d = false) := hleast
    have HK : Hid (okB a b = true) := o1
    have HL1 : Hid (∀ u : World, Calls Try.prog 8 #[.agg #[.int .i64 a, .int .i64 b], .agg #[.int .i64 xn, .int .i64 xd]] u fun e w' => e = .returned (.bool true) ∧ Below u.heap.size u w') := by
      intro u; have := iLess_any a b xn xd u; rw [l1] at this; exact this
    have HL2 : Hid (∀ u : World, Calls Try.prog 8 #[.agg #[.int .i64 xn, .int .i64 xd], .agg #[.int .i64 c, .int .i64 d]] u fun e w' => e = .returned (.bool true) ∧ Below u.heap.size u w') := by
      intro u; have := iLess_any xn xd c d u; rw [l2] at this; exact this
    clear l1 l2 hleast HL HN HI HS o1
    have rAa := rA.c0
    have rAb := rA.c1
    have rAl := rA.lt
    have rCa := rC.c0
    have rCb := rC.c1
    have rCl := rC.lt
    have rXa := rX.c0
    have rXb := rX.c1
    have rXl := rX.lt
    go_wp2_with fail
    refine (HL1.out _).mono ?_
    rintro e w4 ⟨rfl, hb⟩
    replace B1 := (B1.alloc B1.size (.cells #[.int .i64 xn, .int .i64 xd] 25)).trans (hb.mono (by have := B1.size; simp; omega))
    replace rA := (rA.below (b0 (.cells #[.int .i64 xn, .int .i64 xd] 25))).below hb
    replace rC := (rC.below (b0 (.cells #[.int .i64 xn, .int .i64 xd] 25))).below hb
    replace rX := (rX.below (b0 (.cells #[.int .i64 xn, .int .i64 xd] 25))).below hb
    clear hb
    clear rAa rAb rAl rCa rCb rCl rXa rXb rXl
    have rAa := rA.c0
    have rAb := rA.c1
    have rAl := rA.lt
    have rCa := rC.c0
    have rCb := rC.c1
    have rCl := rC.lt
    have rXa := rX.c0
    have rXb := rX.c1
    have rXl := rX.lt
    go_wp2_with fail
    refine (HL2.out _).mono ?_
    rintro e w5 ⟨rfl, hb⟩
    replace B1 := B1.trans (hb.mono B1.size)
    replace rA := (rA).below hb
    replace rC := (rC).below hb
    replace rX := (rX).below hb
    clear hb
    clear rAa rAb rAl rCa rCb rCl rXa rXb rXl
    go_wp2
    go_loopw [9] (fun y wr => ∃ k : Int, y = .int .i64 k ∧ 1 ≤ k ∧ k ≤ 41 ∧ Hid (Below w.heap.size w wr) ∧ Hid (IsR wr A a b) ∧ Hid (IsR wr (A + 1) c d) ∧ Hid (IsR wr X xn xd)) (fun y _ => (41 - intOf y).toNat)
    case atStart => exact ⟨1, rfl, by omega, by omega, B1, rA, rC, rX⟩
    case round =>
      clear B1 rA rC rX
      obtain ⟨k, rfl, k0, k1, B1, rA, rC, rX⟩ := hrel
      replace B1 := B1.out
      replace rA := rA.out
      replace rC := rC.out
      replace rX := rX.out
      by_cases hk1 : k < xd
      · by_cases hk2 : k ≤ 40
        · obtain ⟨p1, p2, p3, p4, p5, p6, p7, p8, p9, p10⟩ := try_bd HK.out k0 (show k ≤ 40 by omega)
          obtain ⟨b1, b9, a8, a9, _⟩ := okB_out HK.out
          have hbz : ¬ b = 0 := by omega
          obtain ⟨W8, W9⟩ := flo_bd HK.out
          have HF' : ∀ u : World, Calls Try.prog 9 #[.agg #[.int .i64 a, .int .i64 b]] u fun e w' => e = .returned (.int .i64 (a / b)) ∧ Below u.heap.size u w' := by
            intro u; have := sFloor_any a b u; rw [flo_ok HK.out] at this; exact this
          rw [flo_ok HK.out] at W8 W9
          generalize a / b = W at *
          have HF : Hid _ := HF'
          clear HF'
          obtain ⟨M, hM⟩ : ∃ M, M = a - W * b := ⟨_, rfl⟩
          rw [← hM] at p5 p6 p7 p8 p9 p10
          obtain ⟨Q, hQ⟩ : ∃ Q, Q = (M * k).tdiv b := ⟨_, rfl⟩
          rw [← hQ] at p9 p10
          have w1' : IntKind.i64.wrap (W * k) = W * k := by rw [IntKind.wrap_i64]; omega
          have w2' : IntKind.i64.wrap (W * b) = W * b := by rw [IntKind.wrap_i64]; omega
          have w3' : IntKind.i64.wrap M = M := by rw [IntKind.wrap_i64]; omega
          have w4' : IntKind.i64.wrap (M * k) = M * k := by rw [IntKind.wrap_i64]; omega
          have w5' : IntKind.i64.wrap Q = Q := by rw [IntKind.wrap_i64]; omega
          have w6' : IntKind.i64.wrap (W * k + Q) = W * k + Q := by rw [IntKind.wrap_i64]; omega
          have hMr : a - W * b = M := hM.symm
          have hQr : (M * k).tdiv b = Q := hQ.symm
          clear hM hQ
          have rAa := rA.c0
          have rAb := rA.c1
          have rAl := rA.lt
          have rCa := rC.c0
          have rCb := rC.c1
          have rCl := rC.lt
          have rXa := rX.c0
          have rXb := rX.c1
          have rXl := rX.lt
          go_wp2
          refine wp_region_noPanic ?_
          refine wp_region_held_drew (S := (fun w' => w'.cell? ⟨A, 0, none⟩ = some (.int .i64 a) ∧ w'.cell? ⟨A, 1, none⟩ = some (.int .i64 b))) (by kernel_rfl) ?_ (fun hHeld => ?_)
          · (try dsimp only)
            refine ⟨?_, ?_⟩ <;> (repeat (with_reducible (first | refine cell_dr ?_ | exact rAa | exact rAb)))
          obtain ⟨X', hX'⟩ : ∃ X', X' = wr.drew := ⟨_, rfl⟩
          replace rA : IsR X' A a b := by rw [hX']; exact rA
          replace rC : IsR X' (A + 1) c d := by rw [hX']; exact rC
          replace rX : IsR X' X xn xd := by rw [hX']; exact rX
          replace B1 : Below w.heap.size w X' := by rw [hX']; exact B1.drew
          rw [← hX'] at hHeld ⊢
          clear hX'
          clear rAa rAb rAl rCa rCb rCl rXa rXb rXl
          have rAa := rA.c0
          have rAb := rA.c1
          have rAl := rA.lt
          have rCa := rC.c0
          have rCb := rC.c1
          have rCl := rC.lt
          have rXa := rX.c0
          have rXb := rX.c1
          have rXl := rX.lt
          refine wpAnyH_take (i := 0) (v := ?_) rfl (by kernel_rfl) (by kernel_rfl) (by kernel_rfl) (fun _ _ _ h => h) (Or.inl ⟨by kernel_rfl, ?_⟩) hHeld ?_
          rotate_left
          · intro wz hSw; (try dsimp only at hSw); go_simp; all_goals (try with_reducible rfl)
          (try simp only [List.getElem_toArray]); (try simp only [List.getElem_cons_succ]); (try simp only [List.getElem_cons_zero]); (try simp only [Act.put]); (try simp only [List.setIfInBounds_toArray]); (try simp only [List.set_cons_succ]); (try simp only [List.set_cons_zero])
          refine wpAnyH_take (i := 2) (v := ?_) rfl (by kernel_rfl) (by kernel_rfl) (by kernel_rfl) (fun _ _ _ h => h) (Or.inl ⟨by kernel_rfl, ?_⟩) hHeld ?_
          rotate_left
          · intro wz hSw; (try dsimp only at hSw); go_simp; all_goals (try with_reducible rfl)
          (try simp only [List.getElem_toArray]); (try simp only [List.getElem_cons_succ]); (try simp only [List.getElem_cons_zero]); (try simp only [Act.put]); (try simp only [List.setIfInBounds_toArray]); (try simp only [List.set_cons_succ]); (try simp only [List.set_cons_zero])
          refine wpAnyH_take (i := 4) (v := ?_) rfl (by kernel_rfl) (by kernel_rfl) (by kernel_rfl) (fun _ _ _ h => h) (Or.inl ⟨by kernel_rfl, ?_⟩) hHeld ?_
          rotate_left
          · intro wz hSw; (try dsimp only at hSw); go_simp; all_goals (try with_reducible rfl)
          (try simp only [List.getElem_toArray]); (try simp only [List.getElem_cons_succ]); (try simp only [List.getElem_cons_zero]); (try simp only [Act.put]); (try simp only [List.setIfInBounds_toArray]); (try simp only [List.set_cons_succ]); (try simp only [List.set_cons_zero])
          refine wpAnyH_take (i := 5) (v := ?_) rfl (by kernel_rfl) (by kernel_rfl) (by kernel_rfl) (fun _ _ _ h => h) (Or.inl ⟨by kernel_rfl, ?_⟩) hHeld ?_
          rotate_left
          · intro wz hSw; (try dsimp only at hSw); go_simp; all_goals (try with_reducible rfl)
          (try simp only [List.getElem_toArray]); (try simp only [List.getElem_cons_succ]); (try simp only [List.getElem_cons_zero]); (try simp only [Act.put]); (try simp only [List.setIfInBounds_toArray]); (try simp only [List.set_cons_succ]); (try simp only [List.set_cons_zero])
          refine wpAnyH_take (i := 6) (v := ?_) rfl (by kernel_rfl) (by kernel_rfl) (by kernel_rfl) (fun _ _ _ h => h) (Or.inl ⟨by kernel_rfl, ?_⟩) hHeld ?_
          rotate_left
          · intro wz hSw; (try dsimp only at hSw); go_simp; all_goals (try with_reducible rfl)
          (try simp only [List.getElem_toArray]); (try simp only [List.getElem_cons_succ]); (try simp only [List.getElem_cons_zero]); (try simp only [Act.put]); (try simp only [List.setIfInBounds_toArray]); (try simp only [List.set_cons_succ]); (try simp only [List.set_cons_zero])
          refine wpAnyH_take (i := 8) (v := ?_) rfl (by kernel_rfl) (by kernel_rfl) (by kernel_rfl) (fun _ _ _ h => h) (Or.inl ⟨by kernel_rfl, ?_⟩) hHeld ?_
          rotate_left
          · intro wz hSw; (try dsimp only at hSw); go_simp; all_goals (try with_reducible rfl)
          (try simp only [List.getElem_toArray]); (try simp only [List.getElem_cons_succ]); (try simp only [List.getElem_cons_zero]); (try simp only [Act.put]); (try simp only [List.setIfInBounds_toArray]); (try simp only [List.set_cons_succ]); (try simp only [List.set_cons_zero])
          refine wpAnyH_take (i := 9) (v := ?_) rfl (by kernel_rfl) (by kernel_rfl) (by kernel_rfl) (fun _ _ _ h => h) (Or.inl ⟨by kernel_rfl, ?_⟩) hHeld ?_
          rotate_left
          · intro wz hSw; (try dsimp only at hSw); go_simp; all_goals (try with_reducible rfl)
          (try simp only [List.getElem_toArray]); (try simp only [List.getElem_cons_succ]); (try simp only [List.getElem_cons_zero]); (try simp only [Act.put]); (try simp only [List.setIfInBounds_toArray]); (try simp only [List.set_cons_succ]); (try simp only [List.set_cons_zero])
          refine wpAnyH_take (i := 12) (v := ?_) rfl (by kernel_rfl) (by kernel_rfl) (by kernel_rfl) (fun _ _ _ h => h) (Or.inl ⟨by kernel_rfl, ?_⟩) hHeld ?_
          rotate_left
          · intro wz hSw; (try dsimp only at hSw); go_simp; all_goals (try with_reducible rfl)
          (try simp only [List.getElem_toArray]); (try simp only [List.getElem_cons_succ]); (try simp only [List.getElem_cons_zero]); (try simp only [Act.put]); (try simp only [List.setIfInBounds_toArray]); (try simp only [List.set_cons_succ]); (try simp only [List.set_cons_zero])
          refine wpAnyH_take (i := 14) (v := ?_) rfl (by kernel_rfl) (by kernel_rfl) (by kernel_rfl) (fun _ _ _ h => h) (Or.inl ⟨by kernel_rfl, ?_⟩) hHeld ?_
          rotate_left
          · intro wz hSw; (try dsimp only at hSw); go_simp; all_goals (try with_reducible rfl)
          (try simp only [List.getElem_toArray]); (try simp only [List.getElem_cons_succ]); (try simp only [List.getElem_cons_zero]); (try simp only [Act.put]); (try simp only [List.setIfInBounds_toArray]); (try simp only [List.set_cons_succ]); (try simp only [List.set_cons_zero])
          refine wpAnyH_take (i := 15) (v := ?_) rfl (by kernel_rfl) (by kernel_rfl) (by kernel_rfl) (fun _ _ _ h => h) (Or.inl ⟨by kernel_rfl, ?_⟩) hHeld ?_
          rotate_left
          · intro wz hSw; (try dsimp only at hSw); go_simp; all_goals (try with_reducible rfl)
          (try simp only [List.getElem_toArray]); (try simp only [List.getElem_cons_succ]); (try simp only [List.getElem_cons_zero]); (try simp only [Act.put]); (try simp only [List.setIfInBounds_toArray]); (try simp only [List.set_cons_succ]); (try simp only [List.set_cons_zero])
          refine wpAnyH_ready (rs := [1]) (by kernel_rfl) (by simp) (AllReadyH.cons rfl (fun Kc hKc => ?_) AllReadyH.nil)
          go_simp
          (go_at_call 9; refine (HF.out _).mono ?_; rintro e w6 ⟨rfl, hb⟩)
          replace B1 := B1.trans (hb.mono B1.size)
          replace rA := (rA).below hb
          replace rC := (rC).below hb
          replace rX := (rX).below hb
          clear hb
          clear rAa rAb rAl rCa rCb rCl rXa rXb rXl
          have rAa := rA.c0
          have rAb := rA.c1
          have rAl := rA.lt
          have rCa := rC.c0
          have rCb := rC.c1
          have rCl := rC.lt
          have rXa := rX.c0
          have rXb := rX.c1
          have rXl := rX.lt
          go_wp2_with fail
          refine hKc.out _ _ ?_ (fun hHeld => ?_)
          · (try dsimp only)
            refine ⟨?_, ?_⟩ <;> (repeat (with_reducible (first | refine cell_dr ?_ | exact rAa | exact rAb)))
          clear hKc Kc
          (try simp only [List.getElem_toArray]); (try simp only [List.getElem_cons_succ]); (try simp only [List.getElem_cons_zero]); (try simp only [Act.put]); (try simp only [List.setIfInBounds_toArray]); (try simp only [List.set_cons_succ]); (try simp only [List.set_cons_zero])
          refine wpAnyH_take (i := 3) (v := (.int .i64 (W * k))) rfl (by kernel_rfl) (by kernel_rfl) (by kernel_rfl) (fun _ _ _ h => h) (Or.inl ⟨by kernel_rfl, ?_⟩) hHeld ?_
          skip
          · intro wz hSw; (try dsimp only at hSw); go_simp; all_goals (try with_reducible rfl); all_goals (try simp only [w1', w2', w3', w4', w5', w6', hMr, hQr, if_neg hbz]); all_goals (try rfl)
          (try simp only [List.getElem_toArray]); (try simp only [List.getElem_cons_succ]); (try simp only [List.getElem_cons_zero]); (try simp only [Act.put]); (try simp only [List.setIfInBounds_toArray]); (try simp only [List.set_cons_succ]); (try simp only [List.set_cons_zero])
          refine wpAnyH_ready (rs := [7]) (by kernel_rfl) (by simp) (AllReadyH.cons rfl (fun Kc hKc => ?_) AllReadyH.nil)
          go_simp
          (go_at_call 9; refine (HF.out _).mono ?_; rintro e w7 ⟨rfl, hb⟩)
          replace B1 := B1.trans (hb.mono B1.size)
          replace rA := (rA).below hb
          replace rC := (rC).below hb
          replace rX := (rX).below hb
          clear hb
          clear rAa rAb rAl rCa rCb rCl rXa rXb rXl
          have rAa := rA.c0
          have rAb := rA.c1
          have rAl := rA.lt
          have rCa := rC.c0
          have rCb := rC.c1
          have rCl := rC.lt
          have rXa := rX.c0
          have rXb := rX.c1
          have rXl := rX.lt
          go_wp2_with fail
          refine hKc.out _ _ ?_ (fun hHeld => ?_)
          · (try dsimp only)
            refine ⟨?_, ?_⟩ <;> (repeat (with_reducible (first | refine cell_dr ?_ | exact rAa | exact rAb)))
          clear hKc Kc
          (try simp only [List.getElem_toArray]); (try simp only [List.getElem_cons_succ]); (try simp only [List.getElem_cons_zero]); (try simp only [Act.put]); (try simp only [List.setIfInBounds_toArray]); (try simp only [List.set_cons_succ]); (try simp only [List.set_cons_zero])
          refine wpAnyH_take (i := 10) (v := (.int .i64 (W * b))) rfl (by kernel_rfl) (by kernel_rfl) (by kernel_rfl) (fun _ _ _ h => h) (Or.inl ⟨by kernel_rfl, ?_⟩) hHeld ?_
          skip
          · intro wz hSw; (try dsimp only at hSw); go_simp; all_goals (try with_reducible rfl); all_goals (try simp only [w1', w2', w3', w4', w5', w6', hMr, hQr, if_neg hbz]); all_goals (try rfl)
          (try simp only [List.getElem_toArray]); (try simp only [List.getElem_cons_succ]); (try simp only [List.getElem_cons_zero]); (try simp only [Act.put]); (try simp only [List.setIfInBounds_toArray]); (try simp only [List.set_cons_succ]); (try simp only [List.set_cons_zero])
          refine wpAnyH_take (i := 11) (v := (.int .i64 M)) rfl (by kernel_rfl) (by kernel_rfl) (by kernel_rfl) (fun _ _ _ h => h) (Or.inl ⟨by kernel_rfl, ?_⟩) hHeld ?_
          skip
          · intro wz hSw; (try dsimp only at hSw); go_simp; all_goals (try with_reducible rfl); all_goals (try simp only [w1', w2', w3', w4', w5', w6', hMr, hQr, if_neg hbz]); all_goals (try rfl)
          (try simp only [List.getElem_toArray]); (try simp only [List.getElem_cons_succ]); (try simp only [List.getElem_cons_zero]); (try simp only [Act.put]); (try simp only [List.setIfInBounds_toArray]); (try simp only [List.set_cons_succ]); (try simp only [List.set_cons_zero])
          refine wpAnyH_take (i := 13) (v := (.int .i64 (M * k))) rfl (by kernel_rfl) (by kernel_rfl) (by kernel_rfl) (fun _ _ _ h => h) (Or.inl ⟨by kernel_rfl, ?_⟩) hHeld ?_
          skip
          · intro wz hSw; (try dsimp only at hSw); go_simp; all_goals (try with_reducible rfl); all_goals (try simp only [w1', w2', w3', w4', w5', w6', hMr, hQr, if_neg hbz]); all_goals (try rfl)
          (try simp only [List.getElem_toArray]); (try simp only [List.getElem_cons_succ]); (try simp only [List.getElem_cons_zero]); (try simp only [Act.put]); (try simp only [List.setIfInBounds_toArray]); (try simp only [List.set_cons_succ]); (try simp only [List.set_cons_zero])
          refine wpAnyH_take (i := 16) (v := (.int .i64 Q)) rfl (by kernel_rfl) (by kernel_rfl) (by kernel_rfl) (fun _ _ _ h => h) (Or.inl ⟨by kernel_rfl, ?_⟩) hHeld ?_
          skip
          · intro wz hSw; (try dsimp only at hSw); go_simp; all_goals (try with_reducible rfl); all_goals (try simp only [w1', w2', w3', w4', w5', w6', hMr, hQr, if_neg hbz]); all_goals (try rfl)
          (try simp only [List.getElem_toArray]); (try simp only [List.getElem_cons_succ]); (try simp only [List.getElem_cons_zero]); (try simp only [Act.put]); (try simp only [List.setIfInBounds_toArray]); (try simp only [List.set_cons_succ]); (try simp only [List.set_cons_zero])
          refine wpAnyH_take (i := 17) (v := (.int .i64 (W * k + Q))) rfl (by kernel_rfl) (by kernel_rfl) (by kernel_rfl) (fun _ _ _ h => h) (Or.inl ⟨by kernel_rfl, ?_⟩) hHeld ?_
          skip
          · intro wz hSw; (try dsimp only at hSw); go_simp; all_goals (try with_reducible rfl); all_goals (try simp only [w1', w2', w3', w4', w5', w6', hMr, hQr, if_neg hbz]); all_goals (try rfl)
          (try simp only [List.getElem_toArray]); (try simp only [List.getElem_cons_succ]); (try simp only [List.getElem_cons_zero]); (try simp only [Act.put]); (try simp only [List.setIfInBounds_toArray]); (try simp only [List.set_cons_succ]); (try simp only [List.set_cons_zero])
          refine wpAnyH_ready (rs := [18]) (by kernel_rfl) (by simp) (AllReadyH.cons rfl (fun Kc hKc => ?_) AllReadyH.nil)
          go_simp
          refine hKc.out _ _ ?_ (fun hHeld => ?_)
          · (try dsimp only)
            refine ⟨?_, ?_⟩ <;> (repeat (with_reducible (first | refine cell_dr ?_ | exact rAa | exact rAb)))
          clear hKc Kc
          (try simp only [List.getElem_toArray]); (try simp only [List.getElem_cons_succ]); (try simp only [List.getElem_cons_zero]); (try simp only [Act.put]); (try simp only [List.setIfInBounds_toArray]); (try simp only [List.set_cons_succ]); (try simp only [List.set_cons_zero])
          refine wpAnyH_done (by kernel_rfl) ?_ _
          refine NoPanic.normal ?_
          clear hHeld HF
          obtain ⟨N, hN⟩ : ∃ N, N = W * k + Q := ⟨_, rfl⟩
          have n1 : -60000000000 ≤ N := by omega
          have n2 : N ≤ 100000000000 := by omega
          rw [← hN]
          clear hN p1 p2 p3 p4 p5 p6 p7 p8 p9 p10 w1' w2' w3' w4' w5' w6' hMr hQr
          clear rAa rAb rAl rCa rCb rCl rXa rXb rXl
          go_wp2
          go_loopw [11] (fun y wr => ∃ j : Int, y = .int .i64 j ∧ N ≤ j ∧ j ≤ N + 2 ∧ Hid (Below w.heap.size w wr) ∧ Hid (IsR wr A a b) ∧ Hid (IsR wr (A + 1) c d) ∧ Hid (IsR wr X xn xd)) (fun y _ => (N + 2 - intOf y).toNat)
          case atStart => exact ⟨N, rfl, by omega, by omega, B1, rA, rC, rX⟩
          case round =>
            clear B1 rA rC rX
            obtain ⟨j, rfl, j0, j1, B1, rA, rC, rX⟩ := hrel
            replace B1 := B1.out
            replace rA := rA.out
            replace rC := rC.out
            replace rX := rX.out
            by_cases hj : j ≤ N + 1
            · have HL' := HT.out j k (by omega) hk1
              go_wp2_with fail
              refine (sRed_any _ _ _).mono ?_
              rintro e w8 ⟨rfl, hb⟩
              replace B1 := B1.trans (hb.mono B1.size)
              replace rA := (rA).below hb
              replace rC := (rC).below hb
              replace rX := (rX).below hb
              clear hb
              obtain ⟨rn, hrn⟩ : ∃ z, z = redN j k := ⟨_, rfl⟩
              obtain ⟨rd, hrd⟩ : ∃ z, z = redD j k := ⟨_, rfl⟩
              obtain ⟨ro, hro⟩ : ∃ z, z = redOk j k := ⟨_, rfl⟩
              rw [← hrn, ← hrd, ← hro]
              rw [← hrn, ← hrd, ← hro] at HL'
              clear hrn hrd hro
              obtain ⟨Z, hZ⟩ : ∃ Z, Z = w8.heap.size := ⟨_, rfl⟩
              obtain ⟨X8, hX8⟩ : ∃ Y, Y = w8.alloc (.cells #[.int .i64 rn, .int .i64 rd] 25) := ⟨_, rfl⟩
              have hb : Below w8.heap.size w8 X8 := by rw [hX8]; exact b0 _
              have rZ : IsR X8 Z rn rd := by rw [hX8, hZ]; exact IsR.new w8 rn rd
              have rAa := rA.c0
              have rAb := rA.c1
              have rAl := rA.lt
              have rCa := rC.c0
              have rCb := rC.c1
              have rCl := rC.lt
              have rXa := rX.c0
              have rXb := rX.c1
              have rXl := rX.lt
              replace B1 := B1.trans (hb.mono B1.size)
              replace rA := (rA).below hb
              replace rC := (rC).below hb
              replace rX := (rX).below hb
              clear hb
              have HLh : Hid (ro = true → lessB a b rn rd = true → lessB rn rd c d = false) := HL'
              clear HL'
              cases ro
              · go_wp2
                rw [← hX8]
                exact ⟨⟨j + 1, rfl, by omega, by omega, B1, rA, rC, rX⟩, by simp [intOf]; omega⟩
              · go_wp2_with fail
                rw [← hX8, ← hZ]
                clear hX8 hZ
                clear rAa rAb rAl rCa rCb rCl rXa rXb rXl
                refine (sLess_any a b rn rd _).mono ?_
                rintro e w9 ⟨rfl, hb⟩
                replace rZ := rZ.below hb
                replace B1 := B1.trans (hb.mono B1.size)
                replace rA := (rA).below hb
                replace rC := (rC).below hb
                replace rX := (rX).below hb
                clear hb
                obtain ⟨l1, hl1⟩ : ∃ z, z = lessB a b rn rd := ⟨_, rfl⟩
                rw [← hl1]
                cases l1
                · clear hl1
                  go_wp2
                  exact ⟨⟨j + 1, rfl, by omega, by omega, B1, rA, rC, rX⟩, by simp [intOf]; omega⟩
                · have hl2 := HLh.out (by simp) hl1.symm
                  clear hl1 HLh
                  have rAa := rA.c0
                  have rAb := rA.c1
                  have rAl := rA.lt
                  have rCa := rC.c0
                  have rCb := rC.c1
                  have rCl := rC.lt
                  have rXa := rX.c0
                  have rXb := rX.c1
                  have rXl := rX.lt
                  have rZa := rZ.c0
                  have rZb := rZ.c1
                  have rZl := rZ.lt
                  go_wp2_with fail
                  have HQ : ∀ u : World, Calls Try.prog 11 #[.agg #[.int .i64 rn, .int .i64 rd], .agg #[.int .i64 c, .int .i64 d]] u fun e w' => e = .returned (.bool false) ∧ Below u.heap.size u w' := by
                    intro u; have := sLess_any rn rd c d u; rw [hl2] at this; exact this
                  refine (HQ _).mono ?_
                  rintro e w10 ⟨rfl, hb⟩
                  clear HQ hl2
                  clear rAa rAb rAl rCa rCb rCl rXa rXb rXl rZa rZb rZl
                  replace B1 := B1.trans (hb.mono B1.size)
                  replace rA := (rA).below hb
                  replace rC := (rC).below hb
                  replace rX := (rX).below hb
                  clear hb
                  go_wp2
                  exact ⟨⟨j + 1, rfl, by omega, by omega, B1, rA, rC, rX⟩, by simp [intOf]; omega⟩
            · go_wp2
              exact ⟨⟨k + 1, rfl, by omega, by omega, B1, rA, rC, rX⟩, by simp [intOf]; omega⟩
        · have rXa := rX.c0
          have rXb := rX.c1
          have rXl := rX.lt
          go_wp2
          go_ret
          exact ⟨rfl, B1⟩
      · have rXa := rX.c0
        have rXb := rX.c1
        have rXl := rX.lt
        go_wp2
        go_ret
        exact ⟨rfl, B1⟩
end Go.Proofs.Ytmlnabgmibhfhab
