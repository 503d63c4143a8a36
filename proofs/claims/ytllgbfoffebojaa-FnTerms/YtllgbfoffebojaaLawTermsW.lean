/- The walk of the law FnTerms. -/
import Derived.Test.YtllgbfoffebojaaDrawW7
import Derived.Test.YtllgbfoffebojaaLikeW
import Derived.Test.YtllgbfoffebojaaTermLaw
import Derived.Deep.RegionHeld3
import Derived.Deep.DeepCutAuto
namespace Go.Proofs.Ytllgbfoffebojaa
open Go.RowKit Go.Proofs.Ytllgbfoffebojaa.RM

set_option maxRecDepth 100000 in
set_option maxHeartbeats 4000000 in
theorem lawTermsF (a0 : Option Addr) (len cap : Nat) (zs : List Int) (w : World) (hr : IsRow .u8 w a0 len cap zs) :
    Calls Try.prog 5 #[.slice a0 len cap] w fun e w' => e = .returned (.bool true) ∧ Below w.heap.size w w' := by
  have b0 : ∀ {u : World} (o : Obj), Below u.heap.size u (u.alloc o) := fun o => (Below.refl _ _).alloc (Nat.le_refl _) o
  by_cases hl : 4096 < (len : Int)
  · have hbig : decide (4096 < (len : Int)) = true := decide_eq_true hl
    clear hl hr
    go_enter Try.func5, Try.ntmps5
    go_wp2_with fail
    refine (big_any _ _ _ _).mono ?_
    rintro e w1 ⟨rfl, hw⟩
    obtain rfl := hw.symm
    go_wp2
    go_ret
    exact ⟨rfl, Below.refl _ _⟩
  have hbig : decide (4096 < (len : Int)) = false := decide_eq_false hl
  have HR : Hid (IsRow .u8 w a0 len cap zs) := hr
  clear hl hr
  go_enter Try.func5, Try.ntmps5
  go_wp2_with fail
  refine (big_any _ _ _ _).mono ?_
  rintro e w0 ⟨rfl, hw⟩
  obtain rfl := hw.symm
  clear hw
  go_wp2_with fail
  refine (dTerms_any a0 len cap zs _ HR.out).mono ?_
  rintro e w1 ⟨a, b, rfl, B1⟩
  obtain ⟨A, hA⟩ : ∃ A, A = w1.heap.size := ⟨_, rfl⟩
  obtain ⟨X1, hX1⟩ : ∃ X, X = w1.alloc (.cells #[.int .i64 a, .int .i64 b] 25) := ⟨_, rfl⟩
  have rA : IsR X1 A a b := by rw [hX1, hA]; exact IsR.new w1 a b
  replace B1 : Below w.heap.size w X1 := by rw [hX1]; exact B1.alloc B1.size _
  obtain ⟨T, hT⟩ : ∃ T, T = termsL a b := ⟨_, rfl⟩
  obtain ⟨N, hN⟩ : ∃ N, T.length = N := ⟨_, rfl⟩
  obtain ⟨Z, hZ⟩ : ∃ Z, Z = convs T N := ⟨_, rfl⟩
  have HN : Hid (T.length = N) := hN
  have HZ : Hid (Z.length = N) := by show _ = _; rw [hZ, convs_len]
  have hN2 : N ≤ 1000000000 := by rw [← hN, hT]; exact termsL_len a b
  have HT : Hid (∀ u : World, Calls Try.prog 31 #[.agg #[.int .i64 a, .int .i64 b]] u fun e w' => ∃ v, e = .returned v ∧ w'.ownsRow u.heap.size 2 1 v N (T.map (Value.int .i64)) ∧ Below u.heap.size u w') := by
    intro u; have := iTerms_any a b u; rw [← hT, hN] at this; exact this
  have HS : Hid (∀ u : World, Calls Try.prog 37 #[.agg #[.int .i64 a, .int .i64 b]] u fun e w' => ∃ v, e = .returned v ∧ w'.ownsRow u.heap.size 2 1 v N (T.map (Value.int .i64)) ∧ Below u.heap.size u w') := by
    intro u; have := sTerms_any a b u; rw [← hT, hN] at this; exact this
  have HC : Hid (∀ u : World, Calls Try.prog 34 #[.agg #[.int .i64 a, .int .i64 b]] u fun e w' => ∃ v, e = .returned v ∧ w'.ownsRow u.heap.size 25 2 v N (cellsR Z) ∧ Below u.heap.size u w') := by
    intro u; have := iConv_any a b u; rw [← hT, hN, ← hZ] at this; exact this
  have HD : Hid (∀ u : World, Calls Try.prog 39 #[.agg #[.int .i64 a, .int .i64 b]] u fun e w' => ∃ v, e = .returned v ∧ w'.ownsRow u.heap.size 25 2 v N (cellsR Z) ∧ Below u.heap.size u w') := by
    intro u; have := sConv_any a b u; rw [← hT, hN, ← hZ] at this; exact this
  have HTZ : Hid (T = termsL a b ∧ Z = convs T N) := ⟨hT, hZ⟩
  clear hT hN hZ
  have rAa := rA.c0
  have rAb := rA.c1
  have rAl := rA.lt
  go_wp2_with fail
  rw [← hX1, ← hA]
  clear hX1 hA
  refine (HT.out _).mono ?_
  rintro e w2 ⟨v4, rfl, o4, hb⟩
  replace B1 := B1.trans (hb.mono B1.size)
  replace rA := rA.below hb
  have O4 : Hid (w2.ownsRow X1.heap.size 2 1 v4 N (T.map (Value.int .i64))) := o4
  clear hb o4 rAa rAb rAl
  go_wp2_with fail
  refine (dFrom_any a0 len cap zs _ (HR.out.below B1)).mono ?_
  rintro e w3 ⟨v5, ts, rfl, o5, hts, hb⟩
  replace B1 := B1.trans (hb.mono B1.size)
  replace rA := rA.below hb
  replace O4 : Hid (w3.ownsRow X1.heap.size 2 1 v4 N (T.map (Value.int .i64))) := own_below O4.out hb
  have O5 : Hid (w3.ownsRow w2.heap.size 2 1 v5 ts.length (ts.map (Value.int .i64))) := o5
  obtain ⟨q, hq⟩ : ∃ q, q = fromT ts := ⟨_, rfl⟩
  obtain ⟨qn, qd, qo⟩ := q
  have HI : Hid (∀ u : World, u.ownsRow w2.heap.size 2 1 v5 ts.length (ts.map (Value.int .i64)) → Calls Try.prog 33 #[v5] u fun e w' => e = .returned (.tuple #[.agg #[.int .i64 qn, .int .i64 qd], .bool qo]) ∧ Below u.heap.size u w') := by
    intro u hu; have := iFrom_any v5 ts _ _ u rfl (by omega) hu; rw [← hq] at this; exact this
  have HF : Hid (∀ u : World, u.ownsRow w2.heap.size 2 1 v5 ts.length (ts.map (Value.int .i64)) → Calls Try.prog 35 #[v5] u fun e w' => e = .returned (.tuple #[.agg #[.int .i64 qn, .int .i64 qd], .bool qo]) ∧ Below u.heap.size u w') := by
    intro u hu; have := sFrom_any v5 ts _ _ u rfl (by omega) hu; rw [← hq] at this; exact this
  clear hb o5 hts hq
  go_wp2_with fail
  refine (HI.out _ O5.out).mono ?_
  rintro e w4 ⟨rfl, hb⟩
  obtain ⟨R, hR⟩ : ∃ R, R = w4.heap.size := ⟨_, rfl⟩
  obtain ⟨X4, hX4⟩ : ∃ X, X = w4.alloc (.cells #[.int .i64 qn, .int .i64 qd] 25) := ⟨_, rfl⟩
  have rR : IsR X4 R qn qd := by rw [hX4, hR]; exact IsR.new w4 qn qd
  have hbx : Below w4.heap.size w4 X4 := by rw [hX4]; exact b0 _
  replace hb : Below w3.heap.size w3 X4 := hb.trans (hbx.mono hb.size)
  replace B1 := B1.trans (hb.mono B1.size)
  replace rA := rA.below hb
  replace O4 : Hid (X4.ownsRow X1.heap.size 2 1 v4 N (T.map (Value.int .i64))) := own_below O4.out hb
  replace O5 : Hid (X4.ownsRow w2.heap.size 2 1 v5 ts.length (ts.map (Value.int .i64))) := own_below O5.out hb
  clear hb hbx HI
  have rAa := rA.c0
  have rAb := rA.c1
  have rAl := rA.lt
  rw [hX4] at rAa rAb rAl
  go_wp2_with fail
  rw [← hX4, ← hR]
  clear hX4 hR
  refine (HC.out _).mono ?_
  rintro e w5 ⟨v8, rfl, o8, hb⟩
  replace B1 := B1.trans (hb.mono B1.size)
  replace rA := rA.below hb
  replace rR := rR.below hb
  replace O4 : Hid (w5.ownsRow X1.heap.size 2 1 v4 N (T.map (Value.int .i64))) := own_below O4.out hb
  replace O5 : Hid (w5.ownsRow w2.heap.size 2 1 v5 ts.length (ts.map (Value.int .i64))) := own_below O5.out hb
  have O8 : Hid (w5.ownsRow X4.heap.size 25 2 v8 N (cellsR Z)) := o8
  clear hb o8 HC rAa rAb rAl
  go_wp2_with fail
  refine (HF.out _ O5.out).mono ?_
  rintro e w6 ⟨rfl, hb⟩
  obtain ⟨Y, hY⟩ : ∃ R, R = w6.heap.size := ⟨_, rfl⟩
  obtain ⟨X6, hX6⟩ : ∃ X, X = w6.alloc (.cells #[.int .i64 qn, .int .i64 qd] 25) := ⟨_, rfl⟩
  have rY : IsR X6 Y qn qd := by rw [hX6, hY]; exact IsR.new w6 qn qd
  have hbx : Below w6.heap.size w6 X6 := by rw [hX6]; exact b0 _
  replace hb : Below w5.heap.size w5 X6 := hb.trans (hbx.mono hb.size)
  replace B1 := B1.trans (hb.mono B1.size)
  replace rA := rA.below hb
  replace rR := rR.below hb
  replace O4 : Hid (X6.ownsRow X1.heap.size 2 1 v4 N (T.map (Value.int .i64))) := own_below O4.out hb
  replace O8 : Hid (X6.ownsRow X4.heap.size 25 2 v8 N (cellsR Z)) := own_below O8.out hb
  clear hb hbx HF O5
  have rAa := rA.c0
  have rAb := rA.c1
  have rAl := rA.lt
  have rRa := rR.c0
  have rRb := rR.c1
  have rRl := rR.lt
  rw [hX6] at rAa rAb rAl rRa rRb rRl
  have e1 : (qn != qn) = false := by simp
  have e2 : (qd != qd) = false := by simp
  have e3 : (qo != qo) = false := by simp
  go_wp2_with fail
  rw [← hX6, ← hY]
  clear hX6 hY
  clear rAa rAb rAl rRa rRb rRl e1 e2 e3
  refine (HS.out _).mono ?_
  rintro e w7 ⟨v9, rfl, o9, hb⟩
  replace B1 := B1.trans (hb.mono B1.size)
  replace rA := rA.below hb
  replace O4 : Hid (w7.ownsRow X1.heap.size 2 1 v4 N (T.map (Value.int .i64))) := own_below O4.out hb
  replace O8 : Hid (w7.ownsRow X4.heap.size 25 2 v8 N (cellsR Z)) := own_below O8.out hb
  have O9 : Hid (w7.ownsRow X6.heap.size 2 1 v9 N (T.map (Value.int .i64))) := o9
  clear hb o9 HS
  go_wp2_with fail
  refine (likeI_same v4 v9 T N _ _ _ HN.out hN2 O4.out O9.out).mono ?_
  rintro e w8 ⟨rfl, m8, hw8⟩
  have hb : Below w7.heap.size w7 w8 := by rw [hw8]; exact below_drewN (Below.refl _ _) _
  replace B1 := B1.trans (hb.mono B1.size)
  replace rA := rA.below hb
  replace O4 : Hid (w8.ownsRow X1.heap.size 2 1 v4 N (T.map (Value.int .i64))) := own_below O4.out hb
  replace O8 : Hid (w8.ownsRow X4.heap.size 25 2 v8 N (cellsR Z)) := own_below O8.out hb
  clear hb O9 hw8
  have rAa := rA.c0
  have rAb := rA.c1
  have rAl := rA.lt
  go_wp2_with fail
  refine (HD.out _).mono ?_
  rintro e w9 ⟨v10, rfl, o9, hb⟩
  replace B1 := B1.trans (hb.mono B1.size)
  replace rA := rA.below hb
  replace O4 : Hid (w9.ownsRow X1.heap.size 2 1 v4 N (T.map (Value.int .i64))) := own_below O4.out hb
  replace O8 : Hid (w9.ownsRow X4.heap.size 25 2 v8 N (cellsR Z)) := own_below O8.out hb
  have O9 : Hid (w9.ownsRow w8.heap.size 25 2 v10 N (cellsR Z)) := o9
  clear hb o9 HD rAa rAb rAl
  go_wp2_with fail
  refine (likeR_same v8 v10 Z N _ _ _ HZ.out hN2 O8.out O9.out).mono ?_
  rintro e w10 ⟨rfl, hb⟩
  replace B1 := B1.trans (hb.mono B1.size)
  replace rA := rA.below hb
  replace O4 : Hid (w10.ownsRow X1.heap.size 2 1 v4 N (T.map (Value.int .i64))) := own_below O4.out hb
  replace O8 : Hid (w10.ownsRow X4.heap.size 25 2 v8 N (cellsR Z)) := own_below O8.out hb
  clear hb O9
  obtain ⟨p4, c4, rfl⟩ := own_shape O4.out
  obtain ⟨p8, c8, rfl⟩ := own_shape O8.out
  by_cases hok : okB a b = true
  · obtain ⟨l1, l2, _⟩ := cf_ok hok
    obtain ⟨hT, hZ⟩ := HTZ.out
    rw [termsL_yes hok] at hT
    have hN1 : T.length = N := HN.out
    have hq : fromT T = (a, b, true) := by rw [hT]; exact fromT_all hok
    have HI : Hid (∀ (v : Value) (bs : Nat) (u : World), u.ownsRow bs 2 1 v N (T.map (Value.int .i64)) → Calls Try.prog 33 #[v] u fun e w' => e = .returned (.tuple #[.agg #[.int .i64 a, .int .i64 b], .bool true]) ∧ Below u.heap.size u w') := by
      intro v bs u hu; have := iFrom_any v T _ _ u hN1 hN2 hu; rw [hq] at this; exact this
    obtain ⟨M, rfl⟩ : ∃ M, N = M + 1 := ⟨N - 1, by rw [← hN1, hT]; omega⟩
    have HZc : Hid (∀ k, k < M + 1 → Z[k]?.getD (0, 0) = conv (cf a b) k) := by
      intro k hk
      rw [hZ, hT]
      simp [convs, hk]
    have HL : Hid (cf a b = T ∧ (cf a b).length = M + 1) := ⟨hT.symm, by rw [← hT]; exact hN1⟩
    have HOK : Hid (okB a b = true) := hok
    clear hT hZ hN1 hq hok l1 l2
    go_wp2_with fail
    refine (HI.out _ _ _ O4.out).mono ?_
    rintro e w11 ⟨rfl, hb⟩
    replace B1 := B1.trans (hb.mono B1.size)
    replace rA := rA.below hb
    replace O8 : Hid (w11.ownsRow X4.heap.size 25 2 (.slice p8 (M + 1) c8) (M + 1) (cellsR Z)) := own_below O8.out hb
    clear hb HI O4 HTZ
    obtain ⟨g, cc, e⟩ := own_some O8.out (by omega)
    cases e
    have hbx : Below w11.heap.size w11 (w11.alloc (.cells #[.int .i64 a, .int .i64 b] 25)) := b0 _
    replace O8 : Hid ((w11.alloc (.cells #[.int .i64 a, .int .i64 b] 25)).ownsRow X4.heap.size 25 2 (.slice (some ⟨g, 0, none⟩) (M + 1) c8) (M + 1) (cellsR Z)) := own_below O8.out hbx
    replace rA := rA.below hbx
    replace B1 := B1.trans (hbx.mono B1.size)
    obtain ⟨c1, c2⟩ := own_R O8.out HZ.out M (by omega)
    rw [HZc.out M (by omega), conv_last HOK.out (HL.out.2.symm)] at c1 c2
    have rAa := rA.c0
    have rAb := rA.c1
    have rAl := rA.lt
    have e1 : (a != a) = false := by simp
    have e2 : (b != b) = false := by simp
    clear hbx
    go_wp2
    go_quiet (fail)
    go_wp2
    clear c1 c2 rAa rAb rAl e1 e2
    go_loopw [13] (fun i wx => ∃ k : Nat, k ≤ M + 1 ∧ i = .int .i64 k ∧ Hid (Below w.heap.size w wx) ∧ Hid (IsR wx A a b) ∧ Hid (wx.ownsRow X4.heap.size 25 2 (.slice (some ⟨g, 0, none⟩) (M + 1) c8) (M + 1) (cellsR Z))) (fun i _ => (M + 1) - (intOf i).toNat)
    case atStart => exact ⟨0, Nat.zero_le _, rfl, below_drewN B1 _, rA.below (below_drewN (Below.refl _ _) _), own_drewN O8.out _⟩
    case round =>
      clear B1 rA O8
      obtain ⟨k, hk, rfl, B1, rA, O8⟩ := hrel
      by_cases hlt : k < M + 1
      · obtain ⟨c1, c2⟩ := own_R O8.out HZ.out k hlt
        rw [HZc.out k hlt] at c1 c2
        have hside := conv_side HOK.out (i := k) (by rw [HL.out.2]; exact hlt)
        obtain ⟨q, hq⟩ : ∃ q, q = conv (cf a b) k := ⟨_, rfl⟩
        rw [← hq] at c1 c2 hside
        obtain ⟨x, y⟩ := q
        dsimp only at c1 c2 hside
        have HQ : Hid (conv (cf a b) k = (x, y)) := hq.symm
        have HSD : Hid _ := hside
        have rAa := rA.out.c0
        have rAb := rA.out.c1
        have rAl := rA.out.lt
        clear hq hside
        go_upto_region 19 with fail
        go_cut [119] from 96 to 191 (fun c wx => c = .bool false ∧ Hid (Below w.heap.size w wx) ∧ Hid (IsR wx A a b) ∧ Hid (wx.ownsRow X4.heap.size 25 2 (.slice (some ⟨g, 0, none⟩) (M + 1) c8) (M + 1) (cellsR Z)))
        case first =>
          by_cases hxy : x = a ∧ y = b
          · obtain ⟨rfl, rfl⟩ := hxy
            have e1 : (x != x) = false := by simp
            have e2 : (y != y) = false := by simp
            go_quiet (fail)
            go_wp2
            go_meet
            case rel => exact ⟨rfl, below_drewN B1.out _, rA.out.below (below_drewN (Below.refl _ _) _), own_drewN O8.out _⟩
          · have hs := HSD.out hxy
            have n1 : (x != a || y != b) = true := by
              by_cases e : x = a
              · have : y ≠ b := fun h => hxy ⟨e, h⟩
                simp [e, this]
              · simp [e]
            have n2 : (x == a && y == b) = false := by
              rw [← Bool.not_eq_true]; intro h; simp at h; exact hxy h
            obtain ⟨ls, hls⟩ : ∃ ls, ls = decide ((k : Int) % 2 = 0) := ⟨_, rfl⟩
            have HLS : Hid (∀ u : World, Calls Try.prog 26 #[.agg #[.int .i64 x, .int .i64 y], .agg #[.int .i64 a, .int .i64 b]] u fun e w' => e = .returned (.bool ls) ∧ Below u.heap.size u w') := by
              intro u; have := iLess_any x y a b u; rw [show lessB x y a b = _ from hs, ← hls] at this; exact this
            have n4 : (k : Int).tmod 2 = (k : Int) % 2 := Int.tmod_eq_emod_of_nonneg (by omega)
            have n3 : (ls != decide ((k : Int) % 2 = 0)) = false := by rw [hls]; simp
            have HXY : Hid (x = a → ¬ y = b) := fun h1 h2 => hxy ⟨h1, h2⟩
            clear hs hxy
            --R19
            refine wp_region_noPanic ?_
            refine wp_region_held_drew (S := (fun w' => w'.cell? ⟨g, k * 2, none⟩ = some (.int .i64 x) ∧ w'.cell? ⟨g, k * 2 + 1, none⟩ = some (.int .i64 y) ∧ w'.cell? ⟨A, 0, none⟩ = some (.int .i64 a) ∧ w'.cell? ⟨A, 1, none⟩ = some (.int .i64 b))) (by kernel_rfl) ?_ (fun hHeld => ?_)
            · (try dsimp only)
              refine ⟨?_, ?_, ?_, ?_⟩ <;> (repeat (with_reducible (first | exact c1 | exact c2 | exact rAa | exact rAb | refine cell_dr ?_)))
            refine wpAnyH_take (i := 0) (v := ?_) rfl (by kernel_rfl) (by kernel_rfl) (by kernel_rfl) (fun _ _ _ h => h) (Or.inl ⟨by kernel_rfl, ?_⟩) hHeld ?_
            rotate_left
            · intro wz hSw; (try dsimp only at hSw); go_simp; all_goals (try with_reducible rfl)
            (try simp only [List.getElem_toArray]); (try simp only [List.getElem_cons_succ]); (try simp only [List.getElem_cons_zero]); (try simp only [Act.put]); (try simp only [List.setIfInBounds_toArray]); (try simp only [List.set_cons_succ]); (try simp only [List.set_cons_zero])
            refine wpAnyH_take (i := 1) (v := ?_) rfl (by kernel_rfl) (by kernel_rfl) (by kernel_rfl) (fun _ _ _ h => h) (Or.inl ⟨by kernel_rfl, ?_⟩) hHeld ?_
            rotate_left
            · intro wz hSw; (try dsimp only at hSw); go_simp; all_goals (try with_reducible rfl)
            (try simp only [List.getElem_toArray]); (try simp only [List.getElem_cons_succ]); (try simp only [List.getElem_cons_zero]); (try simp only [Act.put]); (try simp only [List.setIfInBounds_toArray]); (try simp only [List.set_cons_succ]); (try simp only [List.set_cons_zero])
            refine wpAnyH_take (i := 2) (v := ?_) rfl (by kernel_rfl) (by kernel_rfl) (by kernel_rfl) (fun _ _ _ h => h) (Or.inl ⟨by kernel_rfl, ?_⟩) hHeld ?_
            rotate_left
            · intro wz hSw; (try dsimp only at hSw); go_simp; all_goals (try with_reducible rfl)
            (try simp only [List.getElem_toArray]); (try simp only [List.getElem_cons_succ]); (try simp only [List.getElem_cons_zero]); (try simp only [Act.put]); (try simp only [List.setIfInBounds_toArray]); (try simp only [List.set_cons_succ]); (try simp only [List.set_cons_zero])
            refine wpAnyH_take (i := 3) (v := ?_) rfl (by kernel_rfl) (by kernel_rfl) (by kernel_rfl) (fun _ _ _ h => h) (Or.inl ⟨by kernel_rfl, ?_⟩) hHeld ?_
            rotate_left
            · intro wz hSw; (try dsimp only at hSw); go_simp; all_goals (try with_reducible rfl)
            (try simp only [List.getElem_toArray]); (try simp only [List.getElem_cons_succ]); (try simp only [List.getElem_cons_zero]); (try simp only [Act.put]); (try simp only [List.setIfInBounds_toArray]); (try simp only [List.set_cons_succ]); (try simp only [List.set_cons_zero])
            refine wpAnyH_take (i := 4) (v := ?_) rfl (by kernel_rfl) (by kernel_rfl) (by kernel_rfl) (fun _ _ _ h => h) (Or.inl ⟨by kernel_rfl, ?_⟩) hHeld ?_
            rotate_left
            · intro wz hSw; (try dsimp only at hSw); go_simp; all_goals (try with_reducible rfl)
            (try simp only [List.getElem_toArray]); (try simp only [List.getElem_cons_succ]); (try simp only [List.getElem_cons_zero]); (try simp only [Act.put]); (try simp only [List.setIfInBounds_toArray]); (try simp only [List.set_cons_succ]); (try simp only [List.set_cons_zero])
            refine wpAnyH_take (i := 5) (v := (.bool true)) rfl (by kernel_rfl) (by kernel_rfl) (by kernel_rfl) (fun _ _ _ h => h) (Or.inl ⟨by kernel_rfl, ?_⟩) hHeld ?_
            skip
            · intro wz hSw; (try dsimp only at hSw); go_simp; all_goals (try with_reducible rfl); all_goals (try simp only [n1, n2, n3, n4]); all_goals (try rfl); all_goals (try exact HXY.out)
            (try simp only [List.getElem_toArray]); (try simp only [List.getElem_cons_succ]); (try simp only [List.getElem_cons_zero]); (try simp only [Act.put]); (try simp only [List.setIfInBounds_toArray]); (try simp only [List.set_cons_succ]); (try simp only [List.set_cons_zero])
            refine wpAnyH_take (i := 6) (v := ?_) rfl (by kernel_rfl) (by kernel_rfl) (by kernel_rfl) (fun _ _ _ h => h) (Or.inl ⟨by kernel_rfl, ?_⟩) hHeld ?_
            rotate_left
            · intro wz hSw; (try dsimp only at hSw); go_simp; all_goals (try with_reducible rfl)
            (try simp only [List.getElem_toArray]); (try simp only [List.getElem_cons_succ]); (try simp only [List.getElem_cons_zero]); (try simp only [Act.put]); (try simp only [List.setIfInBounds_toArray]); (try simp only [List.set_cons_succ]); (try simp only [List.set_cons_zero])
            refine wpAnyH_take (i := 7) (v := ?_) rfl (by kernel_rfl) (by kernel_rfl) (by kernel_rfl) (fun _ _ _ h => h) (Or.inl ⟨by kernel_rfl, ?_⟩) hHeld ?_
            rotate_left
            · intro wz hSw; (try dsimp only at hSw); go_simp; all_goals (try with_reducible rfl)
            (try simp only [List.getElem_toArray]); (try simp only [List.getElem_cons_succ]); (try simp only [List.getElem_cons_zero]); (try simp only [Act.put]); (try simp only [List.setIfInBounds_toArray]); (try simp only [List.set_cons_succ]); (try simp only [List.set_cons_zero])
            refine wpAnyH_take (i := 8) (v := ?_) rfl (by kernel_rfl) (by kernel_rfl) (by kernel_rfl) (fun _ _ _ h => h) (Or.inl ⟨by kernel_rfl, ?_⟩) hHeld ?_
            rotate_left
            · intro wz hSw; (try dsimp only at hSw); go_simp; all_goals (try with_reducible rfl)
            (try simp only [List.getElem_toArray]); (try simp only [List.getElem_cons_succ]); (try simp only [List.getElem_cons_zero]); (try simp only [Act.put]); (try simp only [List.setIfInBounds_toArray]); (try simp only [List.set_cons_succ]); (try simp only [List.set_cons_zero])
            refine wpAnyH_take (i := 9) (v := ?_) rfl (by kernel_rfl) (by kernel_rfl) (by kernel_rfl) (fun _ _ _ h => h) (Or.inl ⟨by kernel_rfl, ?_⟩) hHeld ?_
            rotate_left
            · intro wz hSw; (try dsimp only at hSw); go_simp; all_goals (try with_reducible rfl)
            (try simp only [List.getElem_toArray]); (try simp only [List.getElem_cons_succ]); (try simp only [List.getElem_cons_zero]); (try simp only [Act.put]); (try simp only [List.setIfInBounds_toArray]); (try simp only [List.set_cons_succ]); (try simp only [List.set_cons_zero])
            refine wpAnyH_take (i := 10) (v := ?_) rfl (by kernel_rfl) (by kernel_rfl) (by kernel_rfl) (fun _ _ _ h => h) (Or.inl ⟨by kernel_rfl, ?_⟩) hHeld ?_
            rotate_left
            · intro wz hSw; (try dsimp only at hSw); go_simp; all_goals (try with_reducible rfl)
            (try simp only [List.getElem_toArray]); (try simp only [List.getElem_cons_succ]); (try simp only [List.getElem_cons_zero]); (try simp only [Act.put]); (try simp only [List.setIfInBounds_toArray]); (try simp only [List.set_cons_succ]); (try simp only [List.set_cons_zero])
            refine wpAnyH_take (i := 11) (v := ?_) rfl (by kernel_rfl) (by kernel_rfl) (by kernel_rfl) (fun _ _ _ h => h) (Or.inl ⟨by kernel_rfl, ?_⟩) hHeld ?_
            rotate_left
            · intro wz hSw; (try dsimp only at hSw); go_simp; all_goals (try with_reducible rfl)
            (try simp only [List.getElem_toArray]); (try simp only [List.getElem_cons_succ]); (try simp only [List.getElem_cons_zero]); (try simp only [Act.put]); (try simp only [List.setIfInBounds_toArray]); (try simp only [List.set_cons_succ]); (try simp only [List.set_cons_zero])
            refine wpAnyH_take (i := 13) (v := ?_) rfl (by kernel_rfl) (by kernel_rfl) (by kernel_rfl) (fun _ _ _ h => h) (Or.inl ⟨by kernel_rfl, ?_⟩) hHeld ?_
            rotate_left
            · intro wz hSw; (try dsimp only at hSw); go_simp; all_goals (try with_reducible rfl)
            (try simp only [List.getElem_toArray]); (try simp only [List.getElem_cons_succ]); (try simp only [List.getElem_cons_zero]); (try simp only [Act.put]); (try simp only [List.setIfInBounds_toArray]); (try simp only [List.set_cons_succ]); (try simp only [List.set_cons_zero])
            refine wpAnyH_take (i := 14) (v := (.int .i64 ((k : Int) % 2))) rfl (by kernel_rfl) (by kernel_rfl) (by kernel_rfl) (fun _ _ _ h => h) (Or.inl ⟨by kernel_rfl, ?_⟩) hHeld ?_
            skip
            · intro wz hSw; (try dsimp only at hSw); go_simp; all_goals (try with_reducible rfl); all_goals (try simp only [n1, n2, n3, n4]); all_goals (try rfl); all_goals (try exact HXY.out)
            (try simp only [List.getElem_toArray]); (try simp only [List.getElem_cons_succ]); (try simp only [List.getElem_cons_zero]); (try simp only [Act.put]); (try simp only [List.setIfInBounds_toArray]); (try simp only [List.set_cons_succ]); (try simp only [List.set_cons_zero])
            refine wpAnyH_take (i := 15) (v := (.bool (decide ((k : Int) % 2 = 0)))) rfl (by kernel_rfl) (by kernel_rfl) (by kernel_rfl) (fun _ _ _ h => h) (Or.inl ⟨by kernel_rfl, ?_⟩) hHeld ?_
            skip
            · intro wz hSw; (try dsimp only at hSw); go_simp; all_goals (try with_reducible rfl); all_goals (try simp only [n1, n2, n3, n4]); all_goals (try rfl); all_goals (try exact HXY.out)
            (try simp only [List.getElem_toArray]); (try simp only [List.getElem_cons_succ]); (try simp only [List.getElem_cons_zero]); (try simp only [Act.put]); (try simp only [List.setIfInBounds_toArray]); (try simp only [List.set_cons_succ]); (try simp only [List.set_cons_zero])
            refine wpAnyH_ready (rs := [12]) (by kernel_rfl) (by simp) (AllReadyH.cons rfl (fun Kc hKc => ?_) AllReadyH.nil)
            go_simp
            (go_at_call 26; refine (HLS.out _).mono ?_; rintro e w3 ⟨rfl, hb⟩)
            have hbd : Below wr.heap.size wr w3 := ((Below.refl wr.heap.size wr).drew).trans (hb.mono (by simp))
            have hB : Hid (Below w.heap.size w w3) := B1.out.trans (hbd.mono B1.out.size)
            have hA : Hid (IsR w3 A a b) := rA.out.below hbd
            have hO : Hid (w3.ownsRow X4.heap.size 25 2 (.slice (some ⟨g, 0, none⟩) (M + 1) c8) (M + 1) (cellsR Z)) := own_below O8.out hbd
            clear hb hbd c1 c2 rAa rAb rAl
            obtain ⟨c1, c2⟩ := own_R hO.out HZ.out k hlt
            rw [HZc.out k hlt, HQ.out] at c1 c2
            dsimp only at c1 c2
            have rAa := hA.out.c0
            have rAb := hA.out.c1
            go_wp2_with fail
            refine hKc.out _ _ ?_ (fun hHeld => ?_)
            · (try dsimp only)
              refine ⟨?_, ?_, ?_, ?_⟩ <;> (repeat (with_reducible (first | exact c1 | exact c2 | exact rAa | exact rAb | refine cell_dr ?_)))
            clear hKc Kc
            (try simp only [List.getElem_toArray]); (try simp only [List.getElem_cons_succ]); (try simp only [List.getElem_cons_zero]); (try simp only [Act.put]); (try simp only [List.setIfInBounds_toArray]); (try simp only [List.set_cons_succ]); (try simp only [List.set_cons_zero])
            refine wpAnyH_take (i := 16) (v := (.bool false)) rfl (by kernel_rfl) (by kernel_rfl) (by kernel_rfl) (fun _ _ _ h => h) (Or.inl ⟨by kernel_rfl, ?_⟩) hHeld ?_
            skip
            · intro wz hSw; (try dsimp only at hSw); go_simp; all_goals (try with_reducible rfl); all_goals (try simp only [n1, n2, n3, n4]); all_goals (try rfl); all_goals (try exact HXY.out)
            (try simp only [List.getElem_toArray]); (try simp only [List.getElem_cons_succ]); (try simp only [List.getElem_cons_zero]); (try simp only [Act.put]); (try simp only [List.setIfInBounds_toArray]); (try simp only [List.set_cons_succ]); (try simp only [List.set_cons_zero])
            refine wpAnyH_take (i := 17) (v := ?_) rfl (by kernel_rfl) (by kernel_rfl) (by kernel_rfl) (fun _ _ _ h => h) (Or.inl ⟨by kernel_rfl, ?_⟩) hHeld ?_
            rotate_left
            · intro wz hSw; (try dsimp only at hSw); go_simp; all_goals (try with_reducible rfl)
            (try simp only [List.getElem_toArray]); (try simp only [List.getElem_cons_succ]); (try simp only [List.getElem_cons_zero]); (try simp only [Act.put]); (try simp only [List.setIfInBounds_toArray]); (try simp only [List.set_cons_succ]); (try simp only [List.set_cons_zero])
            refine wpAnyH_done (by kernel_rfl) ?_ _
            refine NoPanic.normal ?_
            go_wp2
            go_meet
            case rel => exact ⟨rfl, hB.out, hA.out, hO.out⟩
        case rest =>
          clear B1 rA O8 c1 c2 rAa rAb rAl HSD
          obtain ⟨rfl, B1, rA, O8⟩ := hcut
          go_upto_region 21 with fail
          simp only [List.append_eq, List.cons_append, List.nil_append]
          go_cut [191] from 96 to 191 (fun c wx => c = .bool false ∧ Hid (Below w.heap.size w wx) ∧ Hid (IsR wx A a b) ∧ Hid (wx.ownsRow X4.heap.size 25 2 (.slice (some ⟨g, 0, none⟩) (M + 1) c8) (M + 1) (cellsR Z)))
          case first =>
            by_cases k0 : k = 0
            · subst k0
              have hz : ((0 : Nat) : Int) = 0 := rfl
              go_quiet (fail)
              go_wp2
              go_meet
              case rel => exact ⟨rfl, below_drewN B1.out _, rA.out.below (below_drewN (Below.refl _ _) _), own_drewN O8.out _⟩
            · obtain ⟨j, rfl⟩ : ∃ j, k = j + 1 := ⟨k - 1, by omega⟩
              clear k0
              obtain ⟨c1, c2⟩ := own_R O8.out HZ.out (j + 1) hlt
              rw [HZc.out (j + 1) hlt] at c1 c2
              obtain ⟨d1, d2⟩ := own_R O8.out HZ.out j (by omega)
              rw [HZc.out j (by omega)] at d1 d2
              have hn := conv_next HOK.out (i := j) (by rw [HL.out.2]; exact hlt)
              have ok1 := conv_ok' HOK.out (i := j + 1) (by rw [HL.out.2]; exact hlt)
              have ok0 := conv_ok' HOK.out (i := j) (by rw [HL.out.2]; omega)
              rw [HQ.out] at c1 c2 hn ok1
              obtain ⟨q, hq⟩ : ∃ q, q = conv (cf a b) j := ⟨_, rfl⟩
              rw [← hq] at d1 d2 hn ok0
              obtain ⟨x', y'⟩ := q
              dsimp only at c1 c2 d1 d2 hn ok1 ok0
              obtain ⟨p1, p2, p3, p4, _⟩ := okB_out ok1
              obtain ⟨q1, q2, q3, q4, _⟩ := okB_out ok0
              obtain ⟨hn1, hn2⟩ := hn
              have m1 := mul_bd x y' p3 p4 (by omega) q2
              have m2 := mul_bd x' y q3 q4 (by omega) p2
              clear hq ok1 ok0 p1 p2 p3 p4 q1 q2 q3 q4
              have hlt' : ¬ y < y' := by omega
              have hd : decide (y < y') = false := decide_eq_false hlt'
              obtain ⟨u1, hu1⟩ : ∃ z, z = x * y' := ⟨_, rfl⟩
              obtain ⟨u2, hu2⟩ : ∃ z, z = x' * y := ⟨_, rfl⟩
              rw [← hu1] at m1 hn2
              rw [← hu2] at m2 hn2
              replace hu1 := hu1.symm
              replace hu2 := hu2.symm
              have wa : IntKind.i64.wrap u1 = u1 := by rw [IntKind.wrap_i64]; omega
              have wb : IntKind.i64.wrap u2 = u2 := by rw [IntKind.wrap_i64]; omega
              have wc : IntKind.i64.wrap (u1 - u2) = u1 - u2 := by rw [IntKind.wrap_i64]; omega
              rcases hn2 with hn2 | hn2
              · have t1 : (u1 - u2 != 1) = false := by rw [hn2]; rfl
                go_quiet (fail)
                go_wp2
                go_meet
                case rel => exact ⟨rfl, below_drewN B1.out _, rA.out.below (below_drewN (Below.refl _ _) _), own_drewN O8.out _⟩
              · have t1 : (u1 - u2 != 1) = true := by rw [hn2]; rfl
                have t2 : (u1 - u2 != -1) = false := by rw [hn2]; rfl
                go_quiet (fail)
                go_wp2
                go_meet
                case rel => exact ⟨rfl, below_drewN B1.out _, rA.out.below (below_drewN (Below.refl _ _) _), own_drewN O8.out _⟩
          case rest =>
            obtain ⟨rfl, B1, rA, O8⟩ := hcut
            go_wp2
            go_roundw
            case rel => exact ⟨k + 1, by omega, by go_num, B1, rA, O8⟩
            case measure => simp [intOf]; omega
      · go_wp2
        go_ret
        exact ⟨rfl, B1.out⟩
  · rw [Bool.not_eq_true] at hok
    have hT := HTZ.out.1
    rw [termsL_no hok] at hT
    obtain rfl : N = 0 := by rw [← HN.out, hT]; rfl
    have HO : Hid (∀ u : World, Calls Try.prog 17 #[.agg #[.int .i64 a, .int .i64 b]] u fun e w' => e = .returned (.bool false) ∧ Below u.heap.size u w') := by
      intro u; have := sOk_any a b u; rw [hok] at this; exact this
    clear hT hok
    have rAa := rA.c0
    have rAb := rA.c1
    have rAl := rA.lt
    go_wp2_with fail
    refine (HO.out _).mono ?_
    rintro e w11 ⟨rfl, hb⟩
    replace B1 := B1.trans (hb.mono B1.size)
    clear hb rAa rAb rAl
    go_wp2
    go_ret
    exact ⟨rfl, B1⟩
end Go.Proofs.Ytllgbfoffebojaa
