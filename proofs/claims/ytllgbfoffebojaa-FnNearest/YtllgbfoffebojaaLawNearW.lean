/- The walk of the law FnNearest. -/
import Derived.Test.YtllgbfoffebojaaDrawW8
import Derived.Test.YtllgbfoffebojaaNearBest
import Derived.Test.YtllgbfoffebojaaNearI
import Derived.Test.YtllgbfoffebojaaRatioOkW
import Derived.Test.YtllgbfoffebojaaRatioW5
namespace Go.Proofs.Ytllgbfoffebojaa
open Go.RowKit Go.Proofs.Ytllgbfoffebojaa.RM

set_option maxRecDepth 100000 in
set_option maxHeartbeats 4000000 in
theorem lawNear (a0 : Option Addr) (len cap : Nat) (zs : List Int) (w : World) (hr : IsRow .u8 w a0 len cap zs) :
    Calls Try.prog 6 #[.slice a0 len cap] w fun e w' => e = .returned (.bool true) ∧ Below w.heap.size w w' := by
  have b0 : ∀ {u : World} (o : Obj), Below u.heap.size u (u.alloc o) := fun o => (Below.refl _ _).alloc (Nat.le_refl _) o
  by_cases hl : 4096 < (len : Int)
  · have hbig : decide (4096 < (len : Int)) = true := decide_eq_true hl
    clear hl hr
    go_enter Try.func6, Try.ntmps6
    go_wp2_with fail
    refine (big_any _ _ _ _).mono ?_
    rintro e w1 ⟨rfl, hw⟩
    obtain rfl := hw.symm
    go_wp2
    go_ret
    exact ⟨rfl, Below.refl _ _⟩
  have hbig : decide (4096 < (len : Int)) = false := decide_eq_false hl
  have HR : Hid (IsRow .u8 w a0 len cap zs) := hr
  clear hl hr
  go_enter Try.func6, Try.ntmps6
  go_wp2_with fail
  refine (big_any _ _ _ _).mono ?_
  rintro e w0 ⟨rfl, hw⟩
  obtain rfl := hw.symm
  clear hw
  go_wp2_with fail
  refine (dNear_any a0 len cap zs _ HR.out).mono ?_
  rintro e w1 ⟨p, q, m, rfl, B1⟩
  obtain ⟨A, hA⟩ : ∃ A, A = w1.heap.size := ⟨_, rfl⟩
  obtain ⟨X1, hX1⟩ : ∃ X, X = w1.alloc (.cells #[.int .i64 p, .int .i64 q] 25) := ⟨_, rfl⟩
  have rA : IsR X1 A p q := by rw [hX1, hA]; exact IsR.new w1 p q
  replace B1 : Below w.heap.size w X1 := by rw [hX1]; exact B1.alloc B1.size _
  obtain ⟨xn, hxn⟩ : ∃ z, z = nrN p q m := ⟨_, rfl⟩
  obtain ⟨xd, hxd⟩ : ∃ z, z = nrD p q m := ⟨_, rfl⟩
  obtain ⟨xo, hxo⟩ : ∃ z, z = nrB p q m := ⟨_, rfl⟩
  have HI : Hid (∀ u : World, Calls Try.prog 41 #[.agg #[.int .i64 p, .int .i64 q], .int .i64 m] u fun e w' => e = .returned (.tuple #[.agg #[.int .i64 xn, .int .i64 xd], .bool xo]) ∧ Below u.heap.size u w') := by
    intro u; rw [hxn, hxd, hxo]; exact iNear_any p q m u
  have HS : Hid (∀ u : World, Calls Try.prog 42 #[.agg #[.int .i64 p, .int .i64 q], .int .i64 m] u fun e w' => e = .returned (.tuple #[.agg #[.int .i64 xn, .int .i64 xd], .bool xo]) ∧ Below u.heap.size u w') := by
    intro u; rw [hxn, hxd, hxo]; exact sNear_any p q m u
  have HN : Hid (xo = false → xn = 0 ∧ xd = 0) := by
    intro h; rw [hxo] at h; rw [hxn, hxd]; exact nr_no h
  have HL : Hid (xo = true → okB p q = true ∧ 1 ≤ m ∧ m ≤ 1000000000 ∧ near p q m = (xn, xd)) := by
    intro h; rw [hxo] at h; rw [hxn, hxd, (nr_yes h).1, (nr_yes h).2]
    unfold nrB at h
    rw [Bool.and_eq_true, decide_eq_true_eq] at h
    exact ⟨h.1, h.2.1, h.2.2, rfl⟩
  clear hxn hxd hxo
  have e1 : (xn != xn) = false := by simp
  have e2 : (xd != xd) = false := by simp
  have e3 : (xo != xo) = false := by simp
  have rAa := rA.c0
  have rAb := rA.c1
  have rAl := rA.lt
  go_wp2_with fail
  rw [← hX1, ← hA]
  clear hX1 hA
  refine (HI.out _).mono ?_
  rintro e w2 ⟨rfl, hb⟩
  replace B1 := B1.trans (hb.mono B1.size)
  replace rA := rA.below hb
  clear hb
  clear rAa rAb rAl
  obtain ⟨X, hX⟩ : ∃ P, P = w2.heap.size := ⟨_, rfl⟩
  obtain ⟨X2, hX2⟩ : ∃ X, X = w2.alloc (.cells #[.int .i64 xn, .int .i64 xd] 25) := ⟨_, rfl⟩
  have hb : Below w2.heap.size w2 X2 := by rw [hX2]; exact b0 _
  have rX : IsR X2 X xn xd := by rw [hX2, hX]; exact IsR.new w2 xn xd
  replace B1 := B1.trans (hb.mono B1.size)
  replace rA := rA.below hb
  clear hb
  have rAa := rA.c0
  have rAb := rA.c1
  have rAl := rA.lt
  rw [hX2] at rAa rAb rAl
  go_wp2_with fail
  rw [← hX2, ← hX]
  clear hX2 hX
  clear rAa rAb rAl
  refine (HS.out _).mono ?_
  rintro e w3 ⟨rfl, hb⟩
  replace B1 := B1.trans (hb.mono B1.size)
  replace rA := rA.below hb
  replace rX := rX.below hb
  clear hb
  cases xo
  · obtain ⟨z1, z2⟩ := HN.out rfl
    subst z1 z2
    clear HN HL HI HS
    have rXa := rX.c0
    have rXb := rX.c1
    have rXl := rX.lt
    go_wp2
    go_ret
    exact ⟨rfl, B1.alloc B1.size _⟩
  · obtain ⟨o1, m1, m2, hnear⟩ := HL.out rfl
    have np := near_prop o1 m1 m2
    rw [hnear] at np
    obtain ⟨d1, d2, okx, _⟩ := np
    dsimp only at d1 d2 okx
    have HOX : Hid (∀ u : World, Calls Try.prog 16 #[.agg #[.int .i64 xn, .int .i64 xd]] u fun e w' => e = .returned (.bool true) ∧ Below u.heap.size u w') := by
      intro u; have := iOk_any xn xd u; rw [okx] at this; exact this
    have HK : Hid (okB p q = true ∧ near p q m = (xn, xd)) := ⟨o1, hnear⟩
    clear HL HN HI HS o1 hnear okx
    have hgt : ¬ m < xd := by omega
    obtain ⟨Yb, hYb⟩ : ∃ P, P = w3.heap.size := ⟨_, rfl⟩
    obtain ⟨X3, hX3⟩ : ∃ X, X = w3.alloc (.cells #[.int .i64 xn, .int .i64 xd] 25) := ⟨_, rfl⟩
    have hb : Below w3.heap.size w3 X3 := by rw [hX3]; exact b0 _
    have rY : IsR X3 Yb xn xd := by rw [hX3, hYb]; exact IsR.new w3 xn xd
    replace B1 := B1.trans (hb.mono B1.size)
    replace rA := rA.below hb
    replace rX := rX.below hb
    clear hb
    have rXa := rX.c0
    have rXb := rX.c1
    have rXl := rX.lt
    rw [hX3] at rXa rXb rXl
    go_wp2_with fail
    rw [← hX3]
    clear hX3 hYb rY
    clear rXa rXb rXl
    clear e1 e2 e3
    refine (HOX.out _).mono ?_
    rintro e w4 ⟨rfl, hb⟩
    replace B1 := B1.trans (hb.mono B1.size)
    replace rA := rA.below hb
    replace rX := rX.below hb
    clear hb
    have rAa := rA.c0
    have rAb := rA.c1
    have rAl := rA.lt
    have rXa := rX.c0
    have rXb := rX.c1
    have rXl := rX.lt
    go_wp2_with fail
    obtain ⟨bn, hbn⟩ : ∃ z, z = opN (two xn xd p q) (xn * q - p * xd) (xd * q) := ⟨_, rfl⟩
    obtain ⟨bd, hbd⟩ : ∃ z, z = opD (two xn xd p q) (xn * q - p * xd) (xd * q) := ⟨_, rfl⟩
    obtain ⟨bo, hbo⟩ : ∃ z, z = opOk (two xn xd p q) (xn * q - p * xd) (xd * q) := ⟨_, rfl⟩
    have HSB : ∀ u : World, Calls Try.prog 18 #[.agg #[.int .i64 xn, .int .i64 xd], .agg #[.int .i64 p, .int .i64 q]] u fun e w' => e = .returned (.tuple #[.agg #[.int .i64 bn, .int .i64 bd], .bool bo]) ∧ Below u.heap.size u w' := by
      intro u; rw [hbn, hbd, hbo]; exact sSub_any xn xd p q u
    refine (HSB _).mono ?_
    rintro e w5 ⟨rfl, hb⟩
    replace B1 := B1.trans (hb.mono B1.size)
    replace rA := rA.below hb
    clear hb
    clear rAa rAb rAl rXa rXb rXl
    clear HSB HOX rX hgt
    have HNL : Hid (bo = true → -1000000000 ≤ bn ∧ bn ≤ 1000000000 ∧ ∀ (k d : Int), 1 ≤ d → d ≤ m → redOk k d = true → opOk (two (redN k d) (redD k d) p q) (redN k d * q - p * redD k d) (redD k d * q) = true → -1000000000 ≤ opN (two (redN k d) (redD k d) p q) (redN k d * q - p * redD k d) (redD k d * q) ∧ opN (two (redN k d) (redD k d) p q) (redN k d * q - p * redD k d) (redD k d * q) ≤ 1000000000 ∧ lessB (iabs (opN (two (redN k d) (redD k d) p q) (redN k d * q - p * redD k d) (redD k d * q))) (opD (two (redN k d) (redD k d) p q) (redN k d * q - p * redD k d) (redD k d * q)) (iabs bn) bd = false) := by
      intro h
      rw [hbo] at h
      rw [hbn, hbd]
      have ob := okB_out (op_right h)
      refine ⟨ob.2.2.1, ob.2.2.2.1, fun k d h1 h2 h3 h4 => ?_⟩
      have of := okB_out (op_right h4)
      exact ⟨of.2.2.1, of.2.2.2.1, near_law HK.out.1 m1 m2 HK.out.2 h1 h2 h3 h h4⟩
    clear hbn hbd hbo
    have hw5 : w.heap.size ≤ w5.heap.size := B1.size
    have hrA5 := rA.lt
    have rA0 := rA
    have B0 := B1
    obtain ⟨G, hG⟩ : ∃ P, P = w5.heap.size := ⟨_, rfl⟩
    obtain ⟨X5, hX5⟩ : ∃ X, X = w5.alloc (.cells #[.int .i64 bn, .int .i64 bd] 25) := ⟨_, rfl⟩
    have hb : Below w5.heap.size w5 X5 := by rw [hX5]; exact b0 _
    have rG : IsR X5 G bn bd := by rw [hX5, hG]; exact IsR.new w5 bn bd
    replace B1 := B1.trans (hb.mono B1.size)
    replace rA := rA.below hb
    clear hb
    cases bo
    · clear HNL
      go_wp2
      go_ret
      rw [← hX5]
      exact ⟨rfl, B1⟩
    · obtain ⟨hb1, hb2, _⟩ := HNL.out rfl
      replace HNL : Hid (∀ (k d : Int), 1 ≤ d → d ≤ m → redOk k d = true → opOk (two (redN k d) (redD k d) p q) (redN k d * q - p * redD k d) (redD k d * q) = true → -1000000000 ≤ opN (two (redN k d) (redD k d) p q) (redN k d * q - p * redD k d) (redD k d * q) ∧ opN (two (redN k d) (redD k d) p q) (redN k d * q - p * redD k d) (redD k d * q) ≤ 1000000000 ∧ lessB (iabs (opN (two (redN k d) (redD k d) p q) (redN k d * q - p * redD k d) (redD k d * q))) (opD (two (redN k d) (redD k d) p q) (redN k d * q - p * redD k d) (redD k d * q)) (iabs bn) bd = false) := (HNL.out rfl).2.2
      have hwG : w.heap.size ≤ G := by rw [hG]; exact hw5
      have hAG : A < G := by rw [hG]; exact hrA5
      by_cases hneg : bn < 0
      · have hgb : -1000000000 ≤ bn := hb1
        go_wp2
        obtain ⟨X9, hX9⟩ : ∃ X, X = w5.alloc (.cells #[.int .i64 (-bn), .int .i64 bd] 25) := ⟨_, rfl⟩
        have hb9 : Below w5.heap.size w5 X9 := by rw [hX9]; exact b0 _
        have rG' : IsR X9 G (iabs bn) bd := by rw [iabs_of_np (by omega), hX9, hG]; exact IsR.new w5 (-bn) bd
        have rA' : IsR X9 A p q := rA0.below hb9
        have B2 : Below w.heap.size w X9 := B0.trans (hb9.mono B0.size)
        rw [← hX9, ← hG]
        clear hX9 hb9
        clear hX5 hG rA rG B1 hb1 hb2 hneg rA0 B0
        go_loopw [11] (fun y wr => ∃ d : Int, y = .int .i64 d ∧ 1 ≤ d ∧ d ≤ 31 ∧ Hid (Below w.heap.size w wr) ∧ Hid (IsR wr A p q) ∧ Hid (IsR wr G (iabs bn) bd)) (fun y _ => (31 - intOf y).toNat)
        case atStart => exact ⟨1, rfl, by omega, by omega, B2, rA', rG'⟩
        case round =>
          clear B2 rA' rG'
          obtain ⟨d, rfl, hd1, hd31, B1, rA, rG⟩ := hrel
          replace B1 := B1.out
          replace rA := rA.out
          replace rG := rG.out
          by_cases hdm : d ≤ m
          · by_cases hd30 : d ≤ 30
            · obtain ⟨q1, q9, p8, p9, _⟩ := okB_out HK.out.1
              have hqz : ¬ q = 0 := by omega
              have t1 := tdiv_bd p q 1000000000 p8 p9
              have t2 := tmod_bd p q 1000000000 hqz (by omega) q9
              obtain ⟨T, hT⟩ : ∃ z, z = p.tdiv q := ⟨_, rfl⟩
              obtain ⟨U, hU⟩ : ∃ z, z = p.tmod q := ⟨_, rfl⟩
              rw [← hT] at t1
              rw [← hU] at t2
              obtain ⟨t3, t4⟩ := t1
              obtain ⟨t5, t6⟩ := t2
              have u1 := mul_bd T d t3 t4 (by omega) (by omega)
              have u2 := mul_bd U d t5 t6 (by omega) (by omega)
              have v1 : -1000000000 * d ≤ T * d := Int.mul_le_mul_of_nonneg_right t3 (by omega)
              have v2 : T * d ≤ 1000000000 * d := Int.mul_le_mul_of_nonneg_right t4 (by omega)
              have v3 : -1000000000 * d ≤ U * d := Int.mul_le_mul_of_nonneg_right t5 (by omega)
              have v4 : U * d ≤ 1000000000 * d := Int.mul_le_mul_of_nonneg_right t6 (by omega)
              obtain ⟨M1, hM1⟩ : ∃ z, z = T * d := ⟨_, rfl⟩
              obtain ⟨M2, hM2⟩ : ∃ z, z = U * d := ⟨_, rfl⟩
              rw [← hM1] at v1 v2
              rw [← hM2] at v3 v4
              have t7 := tdiv_bd M2 q 30000000000 (by omega) (by omega)
              obtain ⟨Q, hQ⟩ : ∃ z, z = M2.tdiv q := ⟨_, rfl⟩
              rw [← hQ] at t7
              obtain ⟨t8, t9⟩ := t7
              have hTr : p.tdiv q = T := hT.symm
              have hUr : p.tmod q = U := hU.symm
              have hM1r : T * d = M1 := hM1.symm
              have hM2r : U * d = M2 := hM2.symm
              have hQr : M2.tdiv q = Q := hQ.symm
              have wT : IntKind.i64.wrap T = T := by rw [IntKind.wrap_i64]; omega
              have wU : IntKind.i64.wrap U = U := by rw [IntKind.wrap_i64]; omega
              have w1' : IntKind.i64.wrap M1 = M1 := by rw [IntKind.wrap_i64]; omega
              have w2' : IntKind.i64.wrap M2 = M2 := by rw [IntKind.wrap_i64]; omega
              have w3' : IntKind.i64.wrap Q = Q := by rw [IntKind.wrap_i64]; omega
              have w4' : IntKind.i64.wrap (M1 + Q) = M1 + Q := by rw [IntKind.wrap_i64]; omega
              clear hT hU hM1 hM2 hQ u1 u2
              have rAa := rA.c0
              have rAb := rA.c1
              have rAl := rA.lt
              have rGa := rG.c0
              have rGb := rG.c1
              have rGl := rG.lt
              go_wp2
              go_quiet (fail)
              go_wp2
              obtain ⟨N, hN⟩ : ∃ N, N = M1 + Q := ⟨_, rfl⟩
              have n1 : -60000000000 ≤ N := by omega
              have n2 : N ≤ 60000000000 := by omega
              rw [← hN]
              clear hN hTr hUr hM1r hM2r hQr wT wU w1' w2' w3' w4' t3 t4 t5 t6 t8 t9 v1 v2 v3 v4 hqz
              clear rAa rAb rAl rGa rGb rGl
              have hdr : Below wr.heap.size wr (wr.drewN nq) := below_drewN (Below.refl _ _) _
              replace B1 := B1.trans (hdr.mono B1.size)
              replace rA := rA.below hdr
              replace rG := rG.below hdr
              clear hdr
              go_loopw [13] (fun y wr => ∃ j : Int, y = .int .i64 j ∧ N - 1 ≤ j ∧ j ≤ N + 2 ∧ Hid (Below w.heap.size w wr) ∧ Hid (IsR wr A p q) ∧ Hid (IsR wr G (iabs bn) bd)) (fun y _ => (N + 2 - intOf y).toNat)
              case atStart => exact ⟨N - 1, rfl, by omega, by omega, B1, rA, rG⟩
              case round =>
                clear B1 rA rG
                obtain ⟨j, rfl, j0, j1, B1, rA, rG⟩ := hrel
                replace B1 := B1.out
                replace rA := rA.out
                replace rG := rG.out
                by_cases hj : j ≤ N + 1
                · have HNL2 := HNL.out j d
                  go_wp2_with fail
                  refine (sRed_any _ _ _).mono ?_
                  rintro e w6 ⟨rfl, hb⟩
                  replace B1 := B1.trans (hb.mono B1.size)
                  replace rA := rA.below hb
                  replace rG := rG.below hb
                  clear hb
                  obtain ⟨yn, hyn⟩ : ∃ z, z = redN j d := ⟨_, rfl⟩
                  obtain ⟨yd, hyd⟩ : ∃ z, z = redD j d := ⟨_, rfl⟩
                  obtain ⟨yo, hyo⟩ : ∃ z, z = redOk j d := ⟨_, rfl⟩
                  rw [← hyn, ← hyd, ← hyo]
                  rw [← hyn, ← hyd, ← hyo] at HNL2
                  clear hyn hyd hyo
                  obtain ⟨Z, hZ⟩ : ∃ P, P = w6.heap.size := ⟨_, rfl⟩
                  obtain ⟨X6, hX6⟩ : ∃ X, X = w6.alloc (.cells #[.int .i64 yn, .int .i64 yd] 25) := ⟨_, rfl⟩
                  have hb : Below w6.heap.size w6 X6 := by rw [hX6]; exact b0 _
                  have rZ : IsR X6 Z yn yd := by rw [hX6, hZ]; exact IsR.new w6 yn yd
                  replace B1 := B1.trans (hb.mono B1.size)
                  replace rA := rA.below hb
                  replace rG := rG.below hb
                  clear hb
                  have rAa := rA.c0
                  have rAb := rA.c1
                  have rAl := rA.lt
                  rw [hX6] at rAa rAb rAl
                  go_wp2_with fail
                  rw [← hX6, ← hZ]
                  clear hX6 hZ
                  clear rAa rAb rAl
                  obtain ⟨fn, hfn⟩ : ∃ z, z = opN (two yn yd p q) (yn * q - p * yd) (yd * q) := ⟨_, rfl⟩
                  obtain ⟨fd, hfd⟩ : ∃ z, z = opD (two yn yd p q) (yn * q - p * yd) (yd * q) := ⟨_, rfl⟩
                  obtain ⟨fo, hfo⟩ : ∃ z, z = opOk (two yn yd p q) (yn * q - p * yd) (yd * q) := ⟨_, rfl⟩
                  have HSF : ∀ u : World, Calls Try.prog 18 #[.agg #[.int .i64 yn, .int .i64 yd], .agg #[.int .i64 p, .int .i64 q]] u fun e w' => e = .returned (.tuple #[.agg #[.int .i64 fn, .int .i64 fd], .bool fo]) ∧ Below u.heap.size u w' := by
                    intro u; rw [hfn, hfd, hfo]; exact sSub_any yn yd p q u
                  have hfz : fo = false → fn = 0 := by intro h; rw [hfo] at h; rw [hfn]; exact (op_zero h).1
                  have hfb : fo = true → -1000000000 ≤ fn ∧ fn ≤ 1000000000 := by intro h; rw [hfo] at h; rw [hfn]; have := okB_out (op_right h); exact ⟨this.2.2.1, this.2.2.2.1⟩
                  rw [← hfn, ← hfd, ← hfo] at HNL2
                  have hf1 : -1000000000 ≤ fn ∧ fn ≤ 1000000000 := by
                    cases fo
                    · rw [hfz rfl]; omega
                    · exact hfb rfl
                  obtain ⟨hf1, hf2⟩ := hf1
                  have HLF : Hid (yo = true → fo = true → ∀ u : World, Calls Try.prog 27 #[.agg #[.int .i64 (iabs fn), .int .i64 fd], .agg #[.int .i64 (iabs bn), .int .i64 bd]] u fun e w' => e = .returned (.bool false) ∧ Below u.heap.size u w') := by
                    intro h1 h2 u
                    have h3 := (HNL2 hd1 hdm h1 h2).2.2
                    have := sLess_any (iabs fn) fd (iabs bn) bd u
                    rw [h3] at this
                    exact this
                  refine (HSF _).mono ?_
                  rintro e w7 ⟨rfl, hb⟩
                  replace B1 := B1.trans (hb.mono B1.size)
                  replace rA := rA.below hb
                  replace rG := rG.below hb
                  clear hb
                  clear HSF hfn hfd hfo hfz hfb HNL2 rZ
                  have hw7 : w.heap.size ≤ w7.heap.size := B1.size
                  have hrA7 := rA.lt
                  have hrG7 := rG.lt
                  have rA0 := rA
                  have rG0 := rG
                  have B0 := B1
                  obtain ⟨F, hF⟩ : ∃ P, P = w7.heap.size := ⟨_, rfl⟩
                  obtain ⟨X7, hX7⟩ : ∃ X, X = w7.alloc (.cells #[.int .i64 fn, .int .i64 fd] 25) := ⟨_, rfl⟩
                  have hb : Below w7.heap.size w7 X7 := by rw [hX7]; exact b0 _
                  have rF : IsR X7 F fn fd := by rw [hX7, hF]; exact IsR.new w7 fn fd
                  replace B1 := B1.trans (hb.mono B1.size)
                  replace rA := rA.below hb
                  replace rG := rG.below hb
                  clear hb
                  have hwF : w.heap.size ≤ F := by rw [hF]; exact hw7
                  have hAF : A < F := by rw [hF]; exact hrA7
                  have hGF : G < F := by rw [hF]; exact hrG7
                  by_cases hneg : fn < 0
                  · go_upto_region 29 with fail
                    obtain ⟨X8, hX8⟩ : ∃ X, X = w7.alloc (.cells #[.int .i64 (-fn), .int .i64 fd] 25) := ⟨_, rfl⟩
                    have hb8 : Below w7.heap.size w7 X8 := by rw [hX8]; exact b0 _
                    replace rF : IsR X8 F (iabs fn) fd := by rw [iabs_of_np (by omega), hX8, hF]; exact IsR.new w7 (-fn) fd
                    replace rA := rA0.below hb8
                    replace rG := rG0.below hb8
                    replace B1 := B0.trans (hb8.mono B0.size)
                    rw [← hX8, ← hF]
                    clear hX8 hX7 hF hb8 rA0 rG0 B0
                    cases yo
                    · clear HLF
                      go_wp2
                      exact ⟨⟨j + 1, rfl, by omega, by omega, B1, rA, rG⟩, by simp [intOf]; omega⟩
                    · cases fo
                      · clear HLF
                        go_wp2
                        exact ⟨⟨j + 1, rfl, by omega, by omega, B1, rA, rG⟩, by simp [intOf]; omega⟩
                      · have rAa := rA.c0
                        have rAb := rA.c1
                        have rAl := rA.lt
                        have rGa := rG.c0
                        have rGb := rG.c1
                        have rGl := rG.lt
                        have rFa := rF.c0
                        have rFb := rF.c1
                        have rFl := rF.lt
                        have HQ := HLF.out (by rfl) (by rfl)
                        go_wp2_with fail
                        refine (HQ _).mono ?_
                        rintro e w9 ⟨rfl, hb⟩
                        clear HQ
                        clear rAa rAb rAl rGa rGb rGl rFa rFb rFl
                        replace B1 := B1.trans (hb.mono B1.size)
                        replace rA := rA.below hb
                        replace rG := rG.below hb
                        clear hb
                        go_wp2
                        exact ⟨⟨j + 1, rfl, by omega, by omega, B1, rA, rG⟩, by simp [intOf]; omega⟩
                  · go_upto_region 29 with fail
                    rw [← hX7, ← hF]
                    replace rF : IsR X7 F (iabs fn) fd := by rw [iabs_of_nn (by omega)]; exact rF
                    clear hX7 hF rA0 rG0 B0
                    cases yo
                    · clear HLF
                      go_wp2
                      exact ⟨⟨j + 1, rfl, by omega, by omega, B1, rA, rG⟩, by simp [intOf]; omega⟩
                    · cases fo
                      · clear HLF
                        go_wp2
                        exact ⟨⟨j + 1, rfl, by omega, by omega, B1, rA, rG⟩, by simp [intOf]; omega⟩
                      · have rAa := rA.c0
                        have rAb := rA.c1
                        have rAl := rA.lt
                        have rGa := rG.c0
                        have rGb := rG.c1
                        have rGl := rG.lt
                        have rFa := rF.c0
                        have rFb := rF.c1
                        have rFl := rF.lt
                        have HQ := HLF.out (by rfl) (by rfl)
                        go_wp2_with fail
                        refine (HQ _).mono ?_
                        rintro e w9 ⟨rfl, hb⟩
                        clear HQ
                        clear rAa rAb rAl rGa rGb rGl rFa rFb rFl
                        replace B1 := B1.trans (hb.mono B1.size)
                        replace rA := rA.below hb
                        replace rG := rG.below hb
                        clear hb
                        go_wp2
                        exact ⟨⟨j + 1, rfl, by omega, by omega, B1, rA, rG⟩, by simp [intOf]; omega⟩
                · go_wp2
                  exact ⟨⟨d + 1, rfl, by omega, by omega, B1, rA, rG⟩, by simp [intOf]; omega⟩
            · go_wp2
              go_ret
              exact ⟨rfl, B1⟩
          · go_wp2
            go_ret
            exact ⟨rfl, B1⟩
      · go_wp2
        rw [← hX5, ← hG]
        have rG' : IsR X5 G (iabs bn) bd := by rw [iabs_of_nn (by omega)]; exact rG
        have rA' := rA
        have B2 := B1
        clear hX5 hG rA rG B1 hb1 hb2 hneg rA0 B0
        go_loopw [11] (fun y wr => ∃ d : Int, y = .int .i64 d ∧ 1 ≤ d ∧ d ≤ 31 ∧ Hid (Below w.heap.size w wr) ∧ Hid (IsR wr A p q) ∧ Hid (IsR wr G (iabs bn) bd)) (fun y _ => (31 - intOf y).toNat)
        case atStart => exact ⟨1, rfl, by omega, by omega, B2, rA', rG'⟩
        case round =>
          clear B2 rA' rG'
          obtain ⟨d, rfl, hd1, hd31, B1, rA, rG⟩ := hrel
          replace B1 := B1.out
          replace rA := rA.out
          replace rG := rG.out
          by_cases hdm : d ≤ m
          · by_cases hd30 : d ≤ 30
            · obtain ⟨q1, q9, p8, p9, _⟩ := okB_out HK.out.1
              have hqz : ¬ q = 0 := by omega
              have t1 := tdiv_bd p q 1000000000 p8 p9
              have t2 := tmod_bd p q 1000000000 hqz (by omega) q9
              obtain ⟨T, hT⟩ : ∃ z, z = p.tdiv q := ⟨_, rfl⟩
              obtain ⟨U, hU⟩ : ∃ z, z = p.tmod q := ⟨_, rfl⟩
              rw [← hT] at t1
              rw [← hU] at t2
              obtain ⟨t3, t4⟩ := t1
              obtain ⟨t5, t6⟩ := t2
              have u1 := mul_bd T d t3 t4 (by omega) (by omega)
              have u2 := mul_bd U d t5 t6 (by omega) (by omega)
              have v1 : -1000000000 * d ≤ T * d := Int.mul_le_mul_of_nonneg_right t3 (by omega)
              have v2 : T * d ≤ 1000000000 * d := Int.mul_le_mul_of_nonneg_right t4 (by omega)
              have v3 : -1000000000 * d ≤ U * d := Int.mul_le_mul_of_nonneg_right t5 (by omega)
              have v4 : U * d ≤ 1000000000 * d := Int.mul_le_mul_of_nonneg_right t6 (by omega)
              obtain ⟨M1, hM1⟩ : ∃ z, z = T * d := ⟨_, rfl⟩
              obtain ⟨M2, hM2⟩ : ∃ z, z = U * d := ⟨_, rfl⟩
              rw [← hM1] at v1 v2
              rw [← hM2] at v3 v4
              have t7 := tdiv_bd M2 q 30000000000 (by omega) (by omega)
              obtain ⟨Q, hQ⟩ : ∃ z, z = M2.tdiv q := ⟨_, rfl⟩
              rw [← hQ] at t7
              obtain ⟨t8, t9⟩ := t7
              have hTr : p.tdiv q = T := hT.symm
              have hUr : p.tmod q = U := hU.symm
              have hM1r : T * d = M1 := hM1.symm
              have hM2r : U * d = M2 := hM2.symm
              have hQr : M2.tdiv q = Q := hQ.symm
              have wT : IntKind.i64.wrap T = T := by rw [IntKind.wrap_i64]; omega
              have wU : IntKind.i64.wrap U = U := by rw [IntKind.wrap_i64]; omega
              have w1' : IntKind.i64.wrap M1 = M1 := by rw [IntKind.wrap_i64]; omega
              have w2' : IntKind.i64.wrap M2 = M2 := by rw [IntKind.wrap_i64]; omega
              have w3' : IntKind.i64.wrap Q = Q := by rw [IntKind.wrap_i64]; omega
              have w4' : IntKind.i64.wrap (M1 + Q) = M1 + Q := by rw [IntKind.wrap_i64]; omega
              clear hT hU hM1 hM2 hQ u1 u2
              have rAa := rA.c0
              have rAb := rA.c1
              have rAl := rA.lt
              have rGa := rG.c0
              have rGb := rG.c1
              have rGl := rG.lt
              go_wp2
              go_quiet (fail)
              go_wp2
              obtain ⟨N, hN⟩ : ∃ N, N = M1 + Q := ⟨_, rfl⟩
              have n1 : -60000000000 ≤ N := by omega
              have n2 : N ≤ 60000000000 := by omega
              rw [← hN]
              clear hN hTr hUr hM1r hM2r hQr wT wU w1' w2' w3' w4' t3 t4 t5 t6 t8 t9 v1 v2 v3 v4 hqz
              clear rAa rAb rAl rGa rGb rGl
              have hdr : Below wr.heap.size wr (wr.drewN nq) := below_drewN (Below.refl _ _) _
              replace B1 := B1.trans (hdr.mono B1.size)
              replace rA := rA.below hdr
              replace rG := rG.below hdr
              clear hdr
              go_loopw [13] (fun y wr => ∃ j : Int, y = .int .i64 j ∧ N - 1 ≤ j ∧ j ≤ N + 2 ∧ Hid (Below w.heap.size w wr) ∧ Hid (IsR wr A p q) ∧ Hid (IsR wr G (iabs bn) bd)) (fun y _ => (N + 2 - intOf y).toNat)
              case atStart => exact ⟨N - 1, rfl, by omega, by omega, B1, rA, rG⟩
              case round =>
                clear B1 rA rG
                obtain ⟨j, rfl, j0, j1, B1, rA, rG⟩ := hrel
                replace B1 := B1.out
                replace rA := rA.out
                replace rG := rG.out
                by_cases hj : j ≤ N + 1
                · have HNL2 := HNL.out j d
                  go_wp2_with fail
                  refine (sRed_any _ _ _).mono ?_
                  rintro e w6 ⟨rfl, hb⟩
                  replace B1 := B1.trans (hb.mono B1.size)
                  replace rA := rA.below hb
                  replace rG := rG.below hb
                  clear hb
                  obtain ⟨yn, hyn⟩ : ∃ z, z = redN j d := ⟨_, rfl⟩
                  obtain ⟨yd, hyd⟩ : ∃ z, z = redD j d := ⟨_, rfl⟩
                  obtain ⟨yo, hyo⟩ : ∃ z, z = redOk j d := ⟨_, rfl⟩
                  rw [← hyn, ← hyd, ← hyo]
                  rw [← hyn, ← hyd, ← hyo] at HNL2
                  clear hyn hyd hyo
                  obtain ⟨Z, hZ⟩ : ∃ P, P = w6.heap.size := ⟨_, rfl⟩
                  obtain ⟨X6, hX6⟩ : ∃ X, X = w6.alloc (.cells #[.int .i64 yn, .int .i64 yd] 25) := ⟨_, rfl⟩
                  have hb : Below w6.heap.size w6 X6 := by rw [hX6]; exact b0 _
                  have rZ : IsR X6 Z yn yd := by rw [hX6, hZ]; exact IsR.new w6 yn yd
                  replace B1 := B1.trans (hb.mono B1.size)
                  replace rA := rA.below hb
                  replace rG := rG.below hb
                  clear hb
                  have rAa := rA.c0
                  have rAb := rA.c1
                  have rAl := rA.lt
                  rw [hX6] at rAa rAb rAl
                  go_wp2_with fail
                  rw [← hX6, ← hZ]
                  clear hX6 hZ
                  clear rAa rAb rAl
                  obtain ⟨fn, hfn⟩ : ∃ z, z = opN (two yn yd p q) (yn * q - p * yd) (yd * q) := ⟨_, rfl⟩
                  obtain ⟨fd, hfd⟩ : ∃ z, z = opD (two yn yd p q) (yn * q - p * yd) (yd * q) := ⟨_, rfl⟩
                  obtain ⟨fo, hfo⟩ : ∃ z, z = opOk (two yn yd p q) (yn * q - p * yd) (yd * q) := ⟨_, rfl⟩
                  have HSF : ∀ u : World, Calls Try.prog 18 #[.agg #[.int .i64 yn, .int .i64 yd], .agg #[.int .i64 p, .int .i64 q]] u fun e w' => e = .returned (.tuple #[.agg #[.int .i64 fn, .int .i64 fd], .bool fo]) ∧ Below u.heap.size u w' := by
                    intro u; rw [hfn, hfd, hfo]; exact sSub_any yn yd p q u
                  have hfz : fo = false → fn = 0 := by intro h; rw [hfo] at h; rw [hfn]; exact (op_zero h).1
                  have hfb : fo = true → -1000000000 ≤ fn ∧ fn ≤ 1000000000 := by intro h; rw [hfo] at h; rw [hfn]; have := okB_out (op_right h); exact ⟨this.2.2.1, this.2.2.2.1⟩
                  rw [← hfn, ← hfd, ← hfo] at HNL2
                  have hf1 : -1000000000 ≤ fn ∧ fn ≤ 1000000000 := by
                    cases fo
                    · rw [hfz rfl]; omega
                    · exact hfb rfl
                  obtain ⟨hf1, hf2⟩ := hf1
                  have HLF : Hid (yo = true → fo = true → ∀ u : World, Calls Try.prog 27 #[.agg #[.int .i64 (iabs fn), .int .i64 fd], .agg #[.int .i64 (iabs bn), .int .i64 bd]] u fun e w' => e = .returned (.bool false) ∧ Below u.heap.size u w') := by
                    intro h1 h2 u
                    have h3 := (HNL2 hd1 hdm h1 h2).2.2
                    have := sLess_any (iabs fn) fd (iabs bn) bd u
                    rw [h3] at this
                    exact this
                  refine (HSF _).mono ?_
                  rintro e w7 ⟨rfl, hb⟩
                  replace B1 := B1.trans (hb.mono B1.size)
                  replace rA := rA.below hb
                  replace rG := rG.below hb
                  clear hb
                  clear HSF hfn hfd hfo hfz hfb HNL2 rZ
                  have hw7 : w.heap.size ≤ w7.heap.size := B1.size
                  have hrA7 := rA.lt
                  have hrG7 := rG.lt
                  have rA0 := rA
                  have rG0 := rG
                  have B0 := B1
                  obtain ⟨F, hF⟩ : ∃ P, P = w7.heap.size := ⟨_, rfl⟩
                  obtain ⟨X7, hX7⟩ : ∃ X, X = w7.alloc (.cells #[.int .i64 fn, .int .i64 fd] 25) := ⟨_, rfl⟩
                  have hb : Below w7.heap.size w7 X7 := by rw [hX7]; exact b0 _
                  have rF : IsR X7 F fn fd := by rw [hX7, hF]; exact IsR.new w7 fn fd
                  replace B1 := B1.trans (hb.mono B1.size)
                  replace rA := rA.below hb
                  replace rG := rG.below hb
                  clear hb
                  have hwF : w.heap.size ≤ F := by rw [hF]; exact hw7
                  have hAF : A < F := by rw [hF]; exact hrA7
                  have hGF : G < F := by rw [hF]; exact hrG7
                  by_cases hneg : fn < 0
                  · go_upto_region 29 with fail
                    obtain ⟨X8, hX8⟩ : ∃ X, X = w7.alloc (.cells #[.int .i64 (-fn), .int .i64 fd] 25) := ⟨_, rfl⟩
                    have hb8 : Below w7.heap.size w7 X8 := by rw [hX8]; exact b0 _
                    replace rF : IsR X8 F (iabs fn) fd := by rw [iabs_of_np (by omega), hX8, hF]; exact IsR.new w7 (-fn) fd
                    replace rA := rA0.below hb8
                    replace rG := rG0.below hb8
                    replace B1 := B0.trans (hb8.mono B0.size)
                    rw [← hX8, ← hF]
                    clear hX8 hX7 hF hb8 rA0 rG0 B0
                    cases yo
                    · clear HLF
                      go_wp2
                      exact ⟨⟨j + 1, rfl, by omega, by omega, B1, rA, rG⟩, by simp [intOf]; omega⟩
                    · cases fo
                      · clear HLF
                        go_wp2
                        exact ⟨⟨j + 1, rfl, by omega, by omega, B1, rA, rG⟩, by simp [intOf]; omega⟩
                      · have rAa := rA.c0
                        have rAb := rA.c1
                        have rAl := rA.lt
                        have rGa := rG.c0
                        have rGb := rG.c1
                        have rGl := rG.lt
                        have rFa := rF.c0
                        have rFb := rF.c1
                        have rFl := rF.lt
                        have HQ := HLF.out (by rfl) (by rfl)
                        go_wp2_with fail
                        refine (HQ _).mono ?_
                        rintro e w9 ⟨rfl, hb⟩
                        clear HQ
                        clear rAa rAb rAl rGa rGb rGl rFa rFb rFl
                        replace B1 := B1.trans (hb.mono B1.size)
                        replace rA := rA.below hb
                        replace rG := rG.below hb
                        clear hb
                        go_wp2
                        exact ⟨⟨j + 1, rfl, by omega, by omega, B1, rA, rG⟩, by simp [intOf]; omega⟩
                  · go_upto_region 29 with fail
                    rw [← hX7, ← hF]
                    replace rF : IsR X7 F (iabs fn) fd := by rw [iabs_of_nn (by omega)]; exact rF
                    clear hX7 hF rA0 rG0 B0
                    cases yo
                    · clear HLF
                      go_wp2
                      exact ⟨⟨j + 1, rfl, by omega, by omega, B1, rA, rG⟩, by simp [intOf]; omega⟩
                    · cases fo
                      · clear HLF
                        go_wp2
                        exact ⟨⟨j + 1, rfl, by omega, by omega, B1, rA, rG⟩, by simp [intOf]; omega⟩
                      · have rAa := rA.c0
                        have rAb := rA.c1
                        have rAl := rA.lt
                        have rGa := rG.c0
                        have rGb := rG.c1
                        have rGl := rG.lt
                        have rFa := rF.c0
                        have rFb := rF.c1
                        have rFl := rF.lt
                        have HQ := HLF.out (by rfl) (by rfl)
                        go_wp2_with fail
                        refine (HQ _).mono ?_
                        rintro e w9 ⟨rfl, hb⟩
                        clear HQ
                        clear rAa rAb rAl rGa rGb rGl rFa rFb rFl
                        replace B1 := B1.trans (hb.mono B1.size)
                        replace rA := rA.below hb
                        replace rG := rG.below hb
                        clear hb
                        go_wp2
                        exact ⟨⟨j + 1, rfl, by omega, by omega, B1, rA, rG⟩, by simp [intOf]; omega⟩
                · go_wp2
                  exact ⟨⟨d + 1, rfl, by omega, by omega, B1, rA, rG⟩, by simp [intOf]; omega⟩
            · go_wp2
              go_ret
              exact ⟨rfl, B1⟩
          · go_wp2
            go_ret
            exact ⟨rfl, B1⟩
end Go.Proofs.Ytllgbfoffebojaa
