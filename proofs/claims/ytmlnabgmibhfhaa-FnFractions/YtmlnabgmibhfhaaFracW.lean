/- The walk of the law of fractions: sums and products go both ways, what is taken or divided comes back. -/
import Derived.Test.YtmlnabgmibhfhaaDrawW5
import Derived.Test.YtmlnabgmibhfhaaRatioW5
import Derived.Test.YtmlnabgmibhfhaaRatioOkW
import Derived.Test.YtmlnabgmibhfhaaFracMath
import Derived.Deep.RegionHeld3
import Derived.Deep.DeepCutAuto
namespace Go.Proofs.Ytmlnabgmibhfhaa
open Go.RowKit Go.Proofs.Ytmlnabgmibhfhaa.RM

theorem two_comm (a b c d : Int) : two c d a b = two a b c d := by unfold two; exact Bool.and_comm _ _

theorem iOk_is {a b : Int} {x : Bool} (h : okB a b = x) (w : World) :
    Calls Try.prog 16 #[.agg #[.int .i64 a, .int .i64 b]] w fun e w' => e = .returned (.bool x) ∧ Below w.heap.size w w' := by
  rw [← h]; exact iOk_any a b w

set_option maxRecDepth 100000 in
set_option maxHeartbeats 12800000 in
theorem lawFractions (a0 : Option Addr) (len cap : Nat) (zs : List Int) (w : World) (hr : IsRow .u8 w a0 len cap zs) :
    Calls Try.prog 3 #[.slice a0 len cap] w fun e w' => e = .returned (.bool true) ∧ Below w.heap.size w w' := by
  by_cases hl : 4096 < (len : Int)
  · have hbig : decide (4096 < (len : Int)) = true := decide_eq_true hl
    clear hl
    go_enter Try.func3, Try.ntmps3
    go_wp2_with fail
    refine (big_any _ _ _ _).mono ?_
    rintro e w1 ⟨rfl, hw⟩
    obtain rfl := hw.symm
    go_wp2
    go_ret
    exact ⟨rfl, Below.refl _ _⟩
  · have hbig : decide (4096 < (len : Int)) = false := decide_eq_false hl
    have hlen : len ≤ 4096 := by omega
    have HR : Hid (IsRow .u8 w a0 len cap zs) := hr
    clear hl hr
    go_enter Try.func3, Try.ntmps3
    go_wp2_with fail
    refine (big_any _ _ _ _).mono ?_
    rintro e w0 ⟨rfl, hw⟩
    obtain rfl := hw.symm
    go_wp2_with fail
    refine (dAdd_any a0 len cap zs _ HR.out).mono ?_
    rintro e w1 ⟨a, b, c, d, rfl, B⟩
    obtain ⟨sN, hsN⟩ : ∃ x, x = opN (two a b c d) (a * d + c * b) (b * d) := ⟨_, rfl⟩
    obtain ⟨sD, hsD⟩ : ∃ x, x = opD (two a b c d) (a * d + c * b) (b * d) := ⟨_, rfl⟩
    obtain ⟨sO, hsO⟩ : ∃ x, x = opOk (two a b c d) (a * d + c * b) (b * d) := ⟨_, rfl⟩
    have CiAdd : Hid (∀ u : World, Calls Try.prog 9 #[.agg #[.int .i64 a, .int .i64 b], .agg #[.int .i64 c, .int .i64 d]] u fun e u' => e = .returned (.tuple #[.agg #[.int .i64 sN, .int .i64 sD], .bool sO]) ∧ Below u.heap.size u u') := by
      intro u; rw [hsN, hsD, hsO]; exact iAdd_any a b c d u
    have CsAdd : Hid (∀ u : World, Calls Try.prog 15 #[.agg #[.int .i64 a, .int .i64 b], .agg #[.int .i64 c, .int .i64 d]] u fun e u' => e = .returned (.tuple #[.agg #[.int .i64 sN, .int .i64 sD], .bool sO]) ∧ Below u.heap.size u u') := by
      intro u; rw [hsN, hsD, hsO]; exact sAdd_any a b c d u
    have esO : (sO != sO) = false := by simp
    obtain ⟨dN, hdN⟩ : ∃ x, x = opN (two a b c d) (a * d - c * b) (b * d) := ⟨_, rfl⟩
    obtain ⟨dD, hdD⟩ : ∃ x, x = opD (two a b c d) (a * d - c * b) (b * d) := ⟨_, rfl⟩
    obtain ⟨dO, hdO⟩ : ∃ x, x = opOk (two a b c d) (a * d - c * b) (b * d) := ⟨_, rfl⟩
    have CiSub : Hid (∀ u : World, Calls Try.prog 10 #[.agg #[.int .i64 a, .int .i64 b], .agg #[.int .i64 c, .int .i64 d]] u fun e u' => e = .returned (.tuple #[.agg #[.int .i64 dN, .int .i64 dD], .bool dO]) ∧ Below u.heap.size u u') := by
      intro u; rw [hdN, hdD, hdO]; exact iSub_any a b c d u
    have CsSub : Hid (∀ u : World, Calls Try.prog 18 #[.agg #[.int .i64 a, .int .i64 b], .agg #[.int .i64 c, .int .i64 d]] u fun e u' => e = .returned (.tuple #[.agg #[.int .i64 dN, .int .i64 dD], .bool dO]) ∧ Below u.heap.size u u') := by
      intro u; rw [hdN, hdD, hdO]; exact sSub_any a b c d u
    have edO : (dO != dO) = false := by simp
    obtain ⟨pN, hpN⟩ : ∃ x, x = opN (two a b c d) (a * c) (b * d) := ⟨_, rfl⟩
    obtain ⟨pD, hpD⟩ : ∃ x, x = opD (two a b c d) (a * c) (b * d) := ⟨_, rfl⟩
    obtain ⟨pO, hpO⟩ : ∃ x, x = opOk (two a b c d) (a * c) (b * d) := ⟨_, rfl⟩
    have CiMul : Hid (∀ u : World, Calls Try.prog 11 #[.agg #[.int .i64 a, .int .i64 b], .agg #[.int .i64 c, .int .i64 d]] u fun e u' => e = .returned (.tuple #[.agg #[.int .i64 pN, .int .i64 pD], .bool pO]) ∧ Below u.heap.size u u') := by
      intro u; rw [hpN, hpD, hpO]; exact iMul_any a b c d u
    have CsMul : Hid (∀ u : World, Calls Try.prog 19 #[.agg #[.int .i64 a, .int .i64 b], .agg #[.int .i64 c, .int .i64 d]] u fun e u' => e = .returned (.tuple #[.agg #[.int .i64 pN, .int .i64 pD], .bool pO]) ∧ Below u.heap.size u u') := by
      intro u; rw [hpN, hpD, hpO]; exact sMul_any a b c d u
    have epO : (pO != pO) = false := by simp
    obtain ⟨qN, hqN⟩ : ∃ x, x = opN (two a b c d) (a * d) (b * c) := ⟨_, rfl⟩
    obtain ⟨qD, hqD⟩ : ∃ x, x = opD (two a b c d) (a * d) (b * c) := ⟨_, rfl⟩
    obtain ⟨qO, hqO⟩ : ∃ x, x = opOk (two a b c d) (a * d) (b * c) := ⟨_, rfl⟩
    have CiDiv : Hid (∀ u : World, Calls Try.prog 12 #[.agg #[.int .i64 a, .int .i64 b], .agg #[.int .i64 c, .int .i64 d]] u fun e u' => e = .returned (.tuple #[.agg #[.int .i64 qN, .int .i64 qD], .bool qO]) ∧ Below u.heap.size u u') := by
      intro u; rw [hqN, hqD, hqO]; exact iDiv_any a b c d u
    have CsDiv : Hid (∀ u : World, Calls Try.prog 20 #[.agg #[.int .i64 a, .int .i64 b], .agg #[.int .i64 c, .int .i64 d]] u fun e u' => e = .returned (.tuple #[.agg #[.int .i64 qN, .int .i64 qD], .bool qO]) ∧ Below u.heap.size u u') := by
      intro u; rw [hqN, hqD, hqO]; exact sDiv_any a b c d u
    have eqO : (qO != qO) = false := by simp
    have CBack : Hid (∀ u : World, Calls Try.prog 9 #[.agg #[.int .i64 c, .int .i64 d], .agg #[.int .i64 a, .int .i64 b]] u fun e u' => e = .returned (.tuple #[.agg #[.int .i64 sN, .int .i64 sD], .bool sO]) ∧ Below u.heap.size u u') := by
      intro u; have := iAdd_any c d a b u; rw [two_comm a b c d, (add_comm2 a b c d).1, (add_comm2 a b c d).2] at this; rw [hsN, hsD, hsO]; exact this
    replace hsN : Hid (sN = opN (two a b c d) (a * d + c * b) (b * d)) := hsN
    replace hsD : Hid (sD = opD (two a b c d) (a * d + c * b) (b * d)) := hsD
    replace hsO : Hid (sO = opOk (two a b c d) (a * d + c * b) (b * d)) := hsO
    replace hdN : Hid (dN = opN (two a b c d) (a * d - c * b) (b * d)) := hdN
    replace hdD : Hid (dD = opD (two a b c d) (a * d - c * b) (b * d)) := hdD
    replace hdO : Hid (dO = opOk (two a b c d) (a * d - c * b) (b * d)) := hdO
    replace hpN : Hid (pN = opN (two a b c d) (a * c) (b * d)) := hpN
    replace hpD : Hid (pD = opD (two a b c d) (a * c) (b * d)) := hpD
    replace hpO : Hid (pO = opOk (two a b c d) (a * c) (b * d)) := hpO
    replace hqN : Hid (qN = opN (two a b c d) (a * d) (b * c)) := hqN
    replace hqD : Hid (qD = opD (two a b c d) (a * d) (b * c)) := hqD
    replace hqO : Hid (qO = opOk (two a b c d) (a * d) (b * c)) := hqO
    go_wp2_with fail
    refine (CiAdd.out _).mono ?_
    rintro e w2 ⟨rfl, hbN⟩
    obtain ⟨A, hA⟩ : ∃ A, A = w1.heap.size := ⟨_, rfl⟩
    have kA0 : w2.cell? ⟨A, 0, none⟩ = some (.int .i64 a) := by rw [hA]; refine cell_later hbN ?_; simp [go_sem]
    have kA1 : w2.cell? ⟨A, 1, none⟩ = some (.int .i64 b) := by rw [hA]; refine cell_later hbN ?_; simp [go_sem]
    have kC0 : w2.cell? ⟨A + 1, 0, none⟩ = some (.int .i64 c) := by rw [hA]; refine cell_later hbN ?_; simp [go_sem]
    have kC1 : w2.cell? ⟨A + 1, 1, none⟩ = some (.int .i64 d) := by rw [hA]; refine cell_later hbN ?_; simp [go_sem]
    replace B : Below w.heap.size w w2 := (B.trans ((below_alN _ (below_alN _ (Below.refl _ _))).mono B.size)).trans (hbN.mono (by have := B.size; simp <;> omega))
    rw [← hA]
    clear hbN hA
    have lkA0 := lt_cell kA0
    have lkC0 := lt_cell kC0
    go_wp2_with fail
    refine (CiSub.out _).mono ?_
    rintro e w3 ⟨rfl, hbN⟩
    clear lkA0 lkC0
    obtain ⟨S, hS⟩ : ∃ S, S = w2.heap.size := ⟨_, rfl⟩
    replace kA0 := cell_later hbN (cell_al _ kA0)
    replace kA1 := cell_later hbN (cell_al _ kA1)
    replace kC0 := cell_later hbN (cell_al _ kC0)
    replace kC1 := cell_later hbN (cell_al _ kC1)
    have kS0 : w3.cell? ⟨S, 0, none⟩ = some (.int .i64 sN) := by rw [hS]; refine cell_later hbN ?_; simp [go_sem]
    have kS1 : w3.cell? ⟨S, 1, none⟩ = some (.int .i64 sD) := by rw [hS]; refine cell_later hbN ?_; simp [go_sem]
    replace B : Below w.heap.size w w3 := (B.trans ((below_alN _ (Below.refl _ _)).mono B.size)).trans (hbN.mono (by have := B.size; simp <;> omega))
    rw [← hS]
    clear hbN hS
    have lkA0 := lt_cell kA0
    have lkC0 := lt_cell kC0
    have lkS0 := lt_cell kS0
    go_wp2_with fail
    refine (CiMul.out _).mono ?_
    rintro e w4 ⟨rfl, hbN⟩
    clear lkA0 lkC0 lkS0
    obtain ⟨D, hD⟩ : ∃ D, D = w3.heap.size := ⟨_, rfl⟩
    replace kA0 := cell_later hbN (cell_al _ kA0)
    replace kA1 := cell_later hbN (cell_al _ kA1)
    replace kC0 := cell_later hbN (cell_al _ kC0)
    replace kC1 := cell_later hbN (cell_al _ kC1)
    replace kS0 := cell_later hbN (cell_al _ kS0)
    replace kS1 := cell_later hbN (cell_al _ kS1)
    have kD0 : w4.cell? ⟨D, 0, none⟩ = some (.int .i64 dN) := by rw [hD]; refine cell_later hbN ?_; simp [go_sem]
    have kD1 : w4.cell? ⟨D, 1, none⟩ = some (.int .i64 dD) := by rw [hD]; refine cell_later hbN ?_; simp [go_sem]
    replace B : Below w.heap.size w w4 := (B.trans ((below_alN _ (Below.refl _ _)).mono B.size)).trans (hbN.mono (by have := B.size; simp <;> omega))
    rw [← hD]
    clear hbN hD
    have lkA0 := lt_cell kA0
    have lkC0 := lt_cell kC0
    have lkS0 := lt_cell kS0
    have lkD0 := lt_cell kD0
    go_wp2_with fail
    refine (CiDiv.out _).mono ?_
    rintro e w5 ⟨rfl, hbN⟩
    clear lkA0 lkC0 lkS0 lkD0
    obtain ⟨P, hP⟩ : ∃ P, P = w4.heap.size := ⟨_, rfl⟩
    replace kA0 := cell_later hbN (cell_al _ kA0)
    replace kA1 := cell_later hbN (cell_al _ kA1)
    replace kC0 := cell_later hbN (cell_al _ kC0)
    replace kC1 := cell_later hbN (cell_al _ kC1)
    replace kS0 := cell_later hbN (cell_al _ kS0)
    replace kS1 := cell_later hbN (cell_al _ kS1)
    replace kD0 := cell_later hbN (cell_al _ kD0)
    replace kD1 := cell_later hbN (cell_al _ kD1)
    have kP0 : w5.cell? ⟨P, 0, none⟩ = some (.int .i64 pN) := by rw [hP]; refine cell_later hbN ?_; simp [go_sem]
    have kP1 : w5.cell? ⟨P, 1, none⟩ = some (.int .i64 pD) := by rw [hP]; refine cell_later hbN ?_; simp [go_sem]
    replace B : Below w.heap.size w w5 := (B.trans ((below_alN _ (Below.refl _ _)).mono B.size)).trans (hbN.mono (by have := B.size; simp <;> omega))
    rw [← hP]
    clear hbN hP
    have lkA0 := lt_cell kA0
    have lkC0 := lt_cell kC0
    have lkS0 := lt_cell kS0
    have lkD0 := lt_cell kD0
    have lkP0 := lt_cell kP0
    go_wp2_with fail
    refine (dReduced_any a0 len cap zs _ (HR.out.below (B.trans ((below_alN _ (Below.refl _ _)).mono B.size)))).mono ?_
    rintro e w6 ⟨n, m, rfl, hbN⟩
    clear lkA0 lkC0 lkS0 lkD0 lkP0
    obtain ⟨Q, hQ⟩ : ∃ Q, Q = w5.heap.size := ⟨_, rfl⟩
    replace kA0 := cell_later hbN (cell_al _ kA0)
    replace kA1 := cell_later hbN (cell_al _ kA1)
    replace kC0 := cell_later hbN (cell_al _ kC0)
    replace kC1 := cell_later hbN (cell_al _ kC1)
    replace kS0 := cell_later hbN (cell_al _ kS0)
    replace kS1 := cell_later hbN (cell_al _ kS1)
    replace kD0 := cell_later hbN (cell_al _ kD0)
    replace kD1 := cell_later hbN (cell_al _ kD1)
    replace kP0 := cell_later hbN (cell_al _ kP0)
    replace kP1 := cell_later hbN (cell_al _ kP1)
    have kQ0 : w6.cell? ⟨Q, 0, none⟩ = some (.int .i64 qN) := by rw [hQ]; refine cell_later hbN ?_; simp [go_sem]
    have kQ1 : w6.cell? ⟨Q, 1, none⟩ = some (.int .i64 qD) := by rw [hQ]; refine cell_later hbN ?_; simp [go_sem]
    replace B : Below w.heap.size w w6 := (B.trans ((below_alN _ (Below.refl _ _)).mono B.size)).trans (hbN.mono (by have := B.size; simp <;> omega))
    rw [← hQ]
    clear hbN hQ
    have lkA0 := lt_cell kA0
    have lkC0 := lt_cell kC0
    have lkS0 := lt_cell kS0
    have lkD0 := lt_cell kD0
    have lkP0 := lt_cell kP0
    have lkQ0 := lt_cell kQ0
    obtain ⟨rN, hrN⟩ : ∃ x, x = redN n m := ⟨_, rfl⟩
    obtain ⟨rD, hrD⟩ : ∃ x, x = redD n m := ⟨_, rfl⟩
    obtain ⟨rO, hrO⟩ : ∃ x, x = redOk n m := ⟨_, rfl⟩
    have CiRed : Hid (∀ u : World, Calls Try.prog 14 #[.int .i64 n, .int .i64 m] u fun e u' => e = .returned (.tuple #[.agg #[.int .i64 rN, .int .i64 rD], .bool rO]) ∧ Below u.heap.size u u') := by
      intro u; rw [hrN, hrD, hrO]; exact iRed_any n m u
    have CsRed : Hid (∀ u : World, Calls Try.prog 21 #[.int .i64 n, .int .i64 m] u fun e u' => e = .returned (.tuple #[.agg #[.int .i64 rN, .int .i64 rD], .bool rO]) ∧ Below u.heap.size u u') := by
      intro u; rw [hrN, hrD, hrO]; exact sRed_any n m u
    have erO : (rO != rO) = false := by simp
    have hro : Hid (rO = true → okB rN rD = true) := by rw [hrN, hrD, hrO]; exact okB_redN
    clear hrN hrD hrO
    go_wp2_with fail
    refine (CiRed.out _).mono ?_
    rintro e w7 ⟨rfl, hbN⟩
    clear lkA0 lkC0 lkS0 lkD0 lkP0 lkQ0
    replace kA0 := cell_later hbN kA0
    replace kA1 := cell_later hbN kA1
    replace kC0 := cell_later hbN kC0
    replace kC1 := cell_later hbN kC1
    replace kS0 := cell_later hbN kS0
    replace kS1 := cell_later hbN kS1
    replace kD0 := cell_later hbN kD0
    replace kD1 := cell_later hbN kD1
    replace kP0 := cell_later hbN kP0
    replace kP1 := cell_later hbN kP1
    replace kQ0 := cell_later hbN kQ0
    replace kQ1 := cell_later hbN kQ1
    replace B : Below w.heap.size w w7 := B.trans (hbN.mono B.size)
    clear hbN
    have lkA0 := lt_cell kA0
    have lkC0 := lt_cell kC0
    have lkS0 := lt_cell kS0
    have lkD0 := lt_cell kD0
    have lkP0 := lt_cell kP0
    have lkQ0 := lt_cell kQ0
    go_wp2_with fail
    refine (CsAdd.out _).mono ?_
    rintro e w8 ⟨rfl, hbN⟩
    clear lkA0 lkC0 lkS0 lkD0 lkP0 lkQ0
    obtain ⟨R, hR⟩ : ∃ R, R = w7.heap.size := ⟨_, rfl⟩
    replace kA0 := cell_later hbN (cell_al _ kA0)
    replace kA1 := cell_later hbN (cell_al _ kA1)
    replace kC0 := cell_later hbN (cell_al _ kC0)
    replace kC1 := cell_later hbN (cell_al _ kC1)
    replace kS0 := cell_later hbN (cell_al _ kS0)
    replace kS1 := cell_later hbN (cell_al _ kS1)
    replace kD0 := cell_later hbN (cell_al _ kD0)
    replace kD1 := cell_later hbN (cell_al _ kD1)
    replace kP0 := cell_later hbN (cell_al _ kP0)
    replace kP1 := cell_later hbN (cell_al _ kP1)
    replace kQ0 := cell_later hbN (cell_al _ kQ0)
    replace kQ1 := cell_later hbN (cell_al _ kQ1)
    have kR0 : w8.cell? ⟨R, 0, none⟩ = some (.int .i64 rN) := by rw [hR]; refine cell_later hbN ?_; simp [go_sem]
    have kR1 : w8.cell? ⟨R, 1, none⟩ = some (.int .i64 rD) := by rw [hR]; refine cell_later hbN ?_; simp [go_sem]
    replace B : Below w.heap.size w w8 := (B.trans ((below_alN _ (Below.refl _ _)).mono B.size)).trans (hbN.mono (by have := B.size; simp <;> omega))
    rw [← hR]
    clear hbN hR
    have lkA0 := lt_cell kA0
    have lkC0 := lt_cell kC0
    have lkS0 := lt_cell kS0
    have lkD0 := lt_cell kD0
    have lkP0 := lt_cell kP0
    have lkQ0 := lt_cell kQ0
    have lkR0 := lt_cell kR0
    have eok : (okB a b != okB a b) = false := by simp
    go_upto_region 11 with fail
    clear lkA0 lkC0 lkS0 lkD0 lkP0 lkQ0 lkR0
    obtain ⟨W, hW⟩ : ∃ W, W = w8.alloc (.cells #[.int .i64 sN, .int .i64 sD] 25) := ⟨_, rfl⟩
    have hBW : Below w8.heap.size w8 W := by rw [hW]; exact below_alN _ (Below.refl _ _)
    obtain ⟨T, hT⟩ : ∃ T, T = w8.heap.size := ⟨_, rfl⟩
    replace kA0 := cell_later hBW kA0
    replace kA1 := cell_later hBW kA1
    replace kC0 := cell_later hBW kC0
    replace kC1 := cell_later hBW kC1
    replace kS0 := cell_later hBW kS0
    replace kS1 := cell_later hBW kS1
    replace kD0 := cell_later hBW kD0
    replace kD1 := cell_later hBW kD1
    replace kP0 := cell_later hBW kP0
    replace kP1 := cell_later hBW kP1
    replace kQ0 := cell_later hBW kQ0
    replace kQ1 := cell_later hBW kQ1
    replace kR0 := cell_later hBW kR0
    replace kR1 := cell_later hBW kR1
    have kT0 : W.cell? ⟨T, 0, none⟩ = some (.int .i64 sN) := by rw [hW, hT]; simp [go_sem]
    have kT1 : W.cell? ⟨T, 1, none⟩ = some (.int .i64 sD) := by rw [hW, hT]; simp [go_sem]
    replace B := B.trans (hBW.mono B.size)
    rw [← hW, ← hT]
    clear hW hBW hT
    refine wp_region_noPanic ?_
    refine wp_region_held_drew (S := (fun w' => w'.cell? ⟨A, 0, none⟩ = some (.int .i64 a) ∧ w'.cell? ⟨A, 1, none⟩ = some (.int .i64 b) ∧ w'.cell? ⟨S, 0, none⟩ = some (.int .i64 sN) ∧ w'.cell? ⟨S, 1, none⟩ = some (.int .i64 sD) ∧ w'.cell? ⟨T, 0, none⟩ = some (.int .i64 sN) ∧ w'.cell? ⟨T, 1, none⟩ = some (.int .i64 sD))) (by kernel_rfl) ?_ (fun hHeld => ?_)
    · (try dsimp only)
      refine ⟨?_, ?_, ?_, ?_, ?_, ?_⟩ <;> (repeat (with_reducible (first | refine cell_dr ?_ | exact kA0 | exact kA1 | exact kS0 | exact kS1 | exact kT0 | exact kT1)))
    refine wpAnyH_take (i := 0) (v := ?_) rfl (by kernel_rfl) (by kernel_rfl) (by kernel_rfl) (fun _ _ _ h => h) (Or.inl ⟨by kernel_rfl, ?_⟩) hHeld ?_
    rotate_left
    · intro wz hSw; (try dsimp only at hSw); go_simp; all_goals (try with_reducible rfl)
    (try simp only [List.getElem_toArray]); (try simp only [List.getElem_cons_succ]); (try simp only [List.getElem_cons_zero]); (try simp only [Act.put]); (try simp only [List.setIfInBounds_toArray]); (try simp only [List.set_cons_succ]); (try simp only [List.set_cons_zero])
    refine wpAnyH_take (i := 1) (v := ?_) rfl (by kernel_rfl) (by kernel_rfl) (by kernel_rfl) (fun _ _ _ h => h) (Or.inl ⟨by kernel_rfl, ?_⟩) hHeld ?_
    rotate_left
    · intro wz hSw; (try dsimp only at hSw); go_simp; all_goals (try with_reducible rfl)
    (try simp only [List.getElem_toArray]); (try simp only [List.getElem_cons_succ]); (try simp only [List.getElem_cons_zero]); (try simp only [Act.put]); (try simp only [List.setIfInBounds_toArray]); (try simp only [List.set_cons_succ]); (try simp only [List.set_cons_zero])
    refine wpAnyH_take (i := 2) (v := (.bool false)) rfl (by kernel_rfl) (by kernel_rfl) (by kernel_rfl) (fun _ _ _ h => h) (Or.inl ⟨by kernel_rfl, ?_⟩) hHeld ?_
    skip
    · intro wz hSw; (try dsimp only at hSw); go_simp; all_goals (try with_reducible rfl)
    (try simp only [List.getElem_toArray]); (try simp only [List.getElem_cons_succ]); (try simp only [List.getElem_cons_zero]); (try simp only [Act.put]); (try simp only [List.setIfInBounds_toArray]); (try simp only [List.set_cons_succ]); (try simp only [List.set_cons_zero])
    refine wpAnyH_take (i := 3) (v := (.bool false)) rfl (by kernel_rfl) (by kernel_rfl) (by kernel_rfl) (fun _ _ _ h => h) (Or.inl ⟨by kernel_rfl, ?_⟩) hHeld ?_
    skip
    · intro wz hSw; (try dsimp only at hSw); go_simp; all_goals (try with_reducible rfl)
    (try simp only [List.getElem_toArray]); (try simp only [List.getElem_cons_succ]); (try simp only [List.getElem_cons_zero]); (try simp only [Act.put]); (try simp only [List.setIfInBounds_toArray]); (try simp only [List.set_cons_succ]); (try simp only [List.set_cons_zero])
    refine wpAnyH_take (i := 4) (v := ?_) rfl (by kernel_rfl) (by kernel_rfl) (by kernel_rfl) (fun _ _ _ h => h) (Or.inl ⟨by kernel_rfl, ?_⟩) hHeld ?_
    rotate_left
    · intro wz hSw; (try dsimp only at hSw); go_simp; all_goals (try with_reducible rfl)
    (try simp only [List.getElem_toArray]); (try simp only [List.getElem_cons_succ]); (try simp only [List.getElem_cons_zero]); (try simp only [Act.put]); (try simp only [List.setIfInBounds_toArray]); (try simp only [List.set_cons_succ]); (try simp only [List.set_cons_zero])
    refine wpAnyH_take (i := 5) (v := ?_) rfl (by kernel_rfl) (by kernel_rfl) (by kernel_rfl) (fun _ _ _ h => h) (Or.inl ⟨by kernel_rfl, ?_⟩) hHeld ?_
    rotate_left
    · intro wz hSw; (try dsimp only at hSw); go_simp; all_goals (try with_reducible rfl)
    (try simp only [List.getElem_toArray]); (try simp only [List.getElem_cons_succ]); (try simp only [List.getElem_cons_zero]); (try simp only [Act.put]); (try simp only [List.setIfInBounds_toArray]); (try simp only [List.set_cons_succ]); (try simp only [List.set_cons_zero])
    refine wpAnyH_take (i := 6) (v := (.bool false)) rfl (by kernel_rfl) (by kernel_rfl) (by kernel_rfl) (fun _ _ _ h => h) (Or.inl ⟨by kernel_rfl, ?_⟩) hHeld ?_
    skip
    · intro wz hSw; (try dsimp only at hSw); go_simp; all_goals (try with_reducible rfl)
    (try simp only [List.getElem_toArray]); (try simp only [List.getElem_cons_succ]); (try simp only [List.getElem_cons_zero]); (try simp only [Act.put]); (try simp only [List.setIfInBounds_toArray]); (try simp only [List.set_cons_succ]); (try simp only [List.set_cons_zero])
    refine wpAnyH_take (i := 7) (v := (.bool false)) rfl (by kernel_rfl) (by kernel_rfl) (by kernel_rfl) (fun _ _ _ h => h) (Or.inl ⟨by kernel_rfl, ?_⟩) hHeld ?_
    skip
    · intro wz hSw; (try dsimp only at hSw); go_simp; all_goals (try with_reducible rfl)
    (try simp only [List.getElem_toArray]); (try simp only [List.getElem_cons_succ]); (try simp only [List.getElem_cons_zero]); (try simp only [Act.put]); (try simp only [List.setIfInBounds_toArray]); (try simp only [List.set_cons_succ]); (try simp only [List.set_cons_zero])
    refine wpAnyH_take (i := 8) (v := (.bool false)) rfl (by kernel_rfl) (by kernel_rfl) (by kernel_rfl) (fun _ _ _ h => h) (Or.inl ⟨by kernel_rfl, ?_⟩) hHeld ?_
    skip
    · intro wz hSw; (try dsimp only at hSw); go_simp; all_goals (try with_reducible rfl)
    (try simp only [List.getElem_toArray]); (try simp only [List.getElem_cons_succ]); (try simp only [List.getElem_cons_zero]); (try simp only [Act.put]); (try simp only [List.setIfInBounds_toArray]); (try simp only [List.set_cons_succ]); (try simp only [List.set_cons_zero])
    refine wpAnyH_take (i := 9) (v := ?_) rfl (by kernel_rfl) (by kernel_rfl) (by kernel_rfl) (fun _ _ _ h => h) (Or.inl ⟨by kernel_rfl, ?_⟩) hHeld ?_
    rotate_left
    · intro wz hSw; (try dsimp only at hSw); go_simp; all_goals (try with_reducible rfl)
    (try simp only [List.getElem_toArray]); (try simp only [List.getElem_cons_succ]); (try simp only [List.getElem_cons_zero]); (try simp only [Act.put]); (try simp only [List.setIfInBounds_toArray]); (try simp only [List.set_cons_succ]); (try simp only [List.set_cons_zero])
    refine wpAnyH_take (i := 11) (v := ?_) rfl (by kernel_rfl) (by kernel_rfl) (by kernel_rfl) (fun _ _ _ h => h) (Or.inl ⟨by kernel_rfl, ?_⟩) hHeld ?_
    rotate_left
    · intro wz hSw; (try dsimp only at hSw); go_simp; all_goals (try with_reducible rfl)
    (try simp only [List.getElem_toArray]); (try simp only [List.getElem_cons_succ]); (try simp only [List.getElem_cons_zero]); (try simp only [Act.put]); (try simp only [List.setIfInBounds_toArray]); (try simp only [List.set_cons_succ]); (try simp only [List.set_cons_zero])
    refine wpAnyH_ready (rs := [10]) (by kernel_rfl) (by simp) (AllReadyH.cons rfl (fun K hK => ?_) AllReadyH.nil)
    go_simp
    (go_at_call 16; refine (iOk_any a b _).mono ?_; rintro e wN ⟨rfl, hbN⟩; replace kA0 : wN.cell? ⟨A, 0, none⟩ = some (.int .i64 a) := (by first | exact cell_later hbN kA0 | exact cell_later hbN (cell_dr kA0)); replace kA1 : wN.cell? ⟨A, 1, none⟩ = some (.int .i64 b) := (by first | exact cell_later hbN kA1 | exact cell_later hbN (cell_dr kA1)); replace kC0 : wN.cell? ⟨A + 1, 0, none⟩ = some (.int .i64 c) := (by first | exact cell_later hbN kC0 | exact cell_later hbN (cell_dr kC0)); replace kC1 : wN.cell? ⟨A + 1, 1, none⟩ = some (.int .i64 d) := (by first | exact cell_later hbN kC1 | exact cell_later hbN (cell_dr kC1)); replace kS0 : wN.cell? ⟨S, 0, none⟩ = some (.int .i64 sN) := (by first | exact cell_later hbN kS0 | exact cell_later hbN (cell_dr kS0)); replace kS1 : wN.cell? ⟨S, 1, none⟩ = some (.int .i64 sD) := (by first | exact cell_later hbN kS1 | exact cell_later hbN (cell_dr kS1)); replace kD0 : wN.cell? ⟨D, 0, none⟩ = some (.int .i64 dN) := (by first | exact cell_later hbN kD0 | exact cell_later hbN (cell_dr kD0)); replace kD1 : wN.cell? ⟨D, 1, none⟩ = some (.int .i64 dD) := (by first | exact cell_later hbN kD1 | exact cell_later hbN (cell_dr kD1)); replace kP0 : wN.cell? ⟨P, 0, none⟩ = some (.int .i64 pN) := (by first | exact cell_later hbN kP0 | exact cell_later hbN (cell_dr kP0)); replace kP1 : wN.cell? ⟨P, 1, none⟩ = some (.int .i64 pD) := (by first | exact cell_later hbN kP1 | exact cell_later hbN (cell_dr kP1)); replace kQ0 : wN.cell? ⟨Q, 0, none⟩ = some (.int .i64 qN) := (by first | exact cell_later hbN kQ0 | exact cell_later hbN (cell_dr kQ0)); replace kQ1 : wN.cell? ⟨Q, 1, none⟩ = some (.int .i64 qD) := (by first | exact cell_later hbN kQ1 | exact cell_later hbN (cell_dr kQ1)); replace kR0 : wN.cell? ⟨R, 0, none⟩ = some (.int .i64 rN) := (by first | exact cell_later hbN kR0 | exact cell_later hbN (cell_dr kR0)); replace kR1 : wN.cell? ⟨R, 1, none⟩ = some (.int .i64 rD) := (by first | exact cell_later hbN kR1 | exact cell_later hbN (cell_dr kR1)); replace kT0 : wN.cell? ⟨T, 0, none⟩ = some (.int .i64 sN) := (by first | exact cell_later hbN kT0 | exact cell_later hbN (cell_dr kT0)); replace kT1 : wN.cell? ⟨T, 1, none⟩ = some (.int .i64 sD) := (by first | exact cell_later hbN kT1 | exact cell_later hbN (cell_dr kT1)); replace B : Below w.heap.size w wN := (by first | exact Below.trans B (hbN.mono B.size) | exact Below.trans B.drew (hbN.mono B.drew.size)); clear hbN)
    go_wp2_with fail
    refine hK.out _ _ ?_ (fun hHeld => ?_)
    · (try dsimp only)
      refine ⟨?_, ?_, ?_, ?_, ?_, ?_⟩ <;> (repeat (with_reducible (first | refine cell_dr ?_ | exact kA0 | exact kA1 | exact kS0 | exact kS1 | exact kT0 | exact kT1)))
    clear hK K
    (try simp only [List.getElem_toArray]); (try simp only [List.getElem_cons_succ]); (try simp only [List.getElem_cons_zero]); (try simp only [Act.put]); (try simp only [List.setIfInBounds_toArray]); (try simp only [List.set_cons_succ]); (try simp only [List.set_cons_zero])
    refine wpAnyH_ready (rs := [12]) (by kernel_rfl) (by simp) (AllReadyH.cons rfl (fun K hK => ?_) AllReadyH.nil)
    go_simp
    (go_at_call 17; refine (sOk_any a b _).mono ?_; rintro e wN ⟨rfl, hbN⟩; replace kA0 : wN.cell? ⟨A, 0, none⟩ = some (.int .i64 a) := (by first | exact cell_later hbN kA0 | exact cell_later hbN (cell_dr kA0)); replace kA1 : wN.cell? ⟨A, 1, none⟩ = some (.int .i64 b) := (by first | exact cell_later hbN kA1 | exact cell_later hbN (cell_dr kA1)); replace kC0 : wN.cell? ⟨A + 1, 0, none⟩ = some (.int .i64 c) := (by first | exact cell_later hbN kC0 | exact cell_later hbN (cell_dr kC0)); replace kC1 : wN.cell? ⟨A + 1, 1, none⟩ = some (.int .i64 d) := (by first | exact cell_later hbN kC1 | exact cell_later hbN (cell_dr kC1)); replace kS0 : wN.cell? ⟨S, 0, none⟩ = some (.int .i64 sN) := (by first | exact cell_later hbN kS0 | exact cell_later hbN (cell_dr kS0)); replace kS1 : wN.cell? ⟨S, 1, none⟩ = some (.int .i64 sD) := (by first | exact cell_later hbN kS1 | exact cell_later hbN (cell_dr kS1)); replace kD0 : wN.cell? ⟨D, 0, none⟩ = some (.int .i64 dN) := (by first | exact cell_later hbN kD0 | exact cell_later hbN (cell_dr kD0)); replace kD1 : wN.cell? ⟨D, 1, none⟩ = some (.int .i64 dD) := (by first | exact cell_later hbN kD1 | exact cell_later hbN (cell_dr kD1)); replace kP0 : wN.cell? ⟨P, 0, none⟩ = some (.int .i64 pN) := (by first | exact cell_later hbN kP0 | exact cell_later hbN (cell_dr kP0)); replace kP1 : wN.cell? ⟨P, 1, none⟩ = some (.int .i64 pD) := (by first | exact cell_later hbN kP1 | exact cell_later hbN (cell_dr kP1)); replace kQ0 : wN.cell? ⟨Q, 0, none⟩ = some (.int .i64 qN) := (by first | exact cell_later hbN kQ0 | exact cell_later hbN (cell_dr kQ0)); replace kQ1 : wN.cell? ⟨Q, 1, none⟩ = some (.int .i64 qD) := (by first | exact cell_later hbN kQ1 | exact cell_later hbN (cell_dr kQ1)); replace kR0 : wN.cell? ⟨R, 0, none⟩ = some (.int .i64 rN) := (by first | exact cell_later hbN kR0 | exact cell_later hbN (cell_dr kR0)); replace kR1 : wN.cell? ⟨R, 1, none⟩ = some (.int .i64 rD) := (by first | exact cell_later hbN kR1 | exact cell_later hbN (cell_dr kR1)); replace kT0 : wN.cell? ⟨T, 0, none⟩ = some (.int .i64 sN) := (by first | exact cell_later hbN kT0 | exact cell_later hbN (cell_dr kT0)); replace kT1 : wN.cell? ⟨T, 1, none⟩ = some (.int .i64 sD) := (by first | exact cell_later hbN kT1 | exact cell_later hbN (cell_dr kT1)); replace B : Below w.heap.size w wN := (by first | exact Below.trans B (hbN.mono B.size) | exact Below.trans B.drew (hbN.mono B.drew.size)); clear hbN)
    go_wp2_with fail
    refine hK.out _ _ ?_ (fun hHeld => ?_)
    · (try dsimp only)
      refine ⟨?_, ?_, ?_, ?_, ?_, ?_⟩ <;> (repeat (with_reducible (first | refine cell_dr ?_ | exact kA0 | exact kA1 | exact kS0 | exact kS1 | exact kT0 | exact kT1)))
    clear hK K
    (try simp only [List.getElem_toArray]); (try simp only [List.getElem_cons_succ]); (try simp only [List.getElem_cons_zero]); (try simp only [Act.put]); (try simp only [List.setIfInBounds_toArray]); (try simp only [List.set_cons_succ]); (try simp only [List.set_cons_zero])
    refine wpAnyH_take (i := 13) (v := (.bool false)) rfl (by kernel_rfl) (by kernel_rfl) (by kernel_rfl) (fun _ _ _ h => h) (Or.inl ⟨by kernel_rfl, ?_⟩) hHeld ?_
    skip
    · intro wz hSw; (try dsimp only at hSw); go_simp; all_goals (try with_reducible rfl)
    (try simp only [List.getElem_toArray]); (try simp only [List.getElem_cons_succ]); (try simp only [List.getElem_cons_zero]); (try simp only [Act.put]); (try simp only [List.setIfInBounds_toArray]); (try simp only [List.set_cons_succ]); (try simp only [List.set_cons_zero])
    refine wpAnyH_take (i := 14) (v := (.bool false)) rfl (by kernel_rfl) (by kernel_rfl) (by kernel_rfl) (fun _ _ _ h => h) (Or.inl ⟨by kernel_rfl, ?_⟩) hHeld ?_
    skip
    · intro wz hSw; (try dsimp only at hSw); go_simp; all_goals (try with_reducible rfl)
    (try simp only [List.getElem_toArray]); (try simp only [List.getElem_cons_succ]); (try simp only [List.getElem_cons_zero]); (try simp only [Act.put]); (try simp only [List.setIfInBounds_toArray]); (try simp only [List.set_cons_succ]); (try simp only [List.set_cons_zero])
    refine wpAnyH_done (by kernel_rfl) ?_ _
    refine NoPanic.normal ?_
    clear kT0 kT1
    have lkA0 := lt_cell kA0
    have lkC0 := lt_cell kC0
    have lkS0 := lt_cell kS0
    have lkD0 := lt_cell kD0
    have lkP0 := lt_cell kP0
    have lkQ0 := lt_cell kQ0
    have lkR0 := lt_cell kR0
    go_wp2_with fail
    refine (CsSub.out _).mono ?_
    rintro e w9 ⟨rfl, hbN⟩
    clear lkA0 lkC0 lkS0 lkD0 lkP0 lkQ0 lkR0
    replace kA0 := cell_later hbN kA0
    replace kA1 := cell_later hbN kA1
    replace kC0 := cell_later hbN kC0
    replace kC1 := cell_later hbN kC1
    replace kS0 := cell_later hbN kS0
    replace kS1 := cell_later hbN kS1
    replace kD0 := cell_later hbN kD0
    replace kD1 := cell_later hbN kD1
    replace kP0 := cell_later hbN kP0
    replace kP1 := cell_later hbN kP1
    replace kQ0 := cell_later hbN kQ0
    replace kQ1 := cell_later hbN kQ1
    replace kR0 := cell_later hbN kR0
    replace kR1 := cell_later hbN kR1
    replace B : Below w.heap.size w w9 := B.trans (hbN.mono B.size)
    clear hbN
    have lkA0 := lt_cell kA0
    have lkC0 := lt_cell kC0
    have lkS0 := lt_cell kS0
    have lkD0 := lt_cell kD0
    have lkP0 := lt_cell kP0
    have lkQ0 := lt_cell kQ0
    have lkR0 := lt_cell kR0
    go_wp2_with fail
    refine (CsMul.out _).mono ?_
    rintro e w10 ⟨rfl, hbN⟩
    clear lkA0 lkC0 lkS0 lkD0 lkP0 lkQ0 lkR0
    obtain ⟨E, hE⟩ : ∃ E, E = w9.heap.size := ⟨_, rfl⟩
    replace kA0 := cell_later hbN (cell_al _ kA0)
    replace kA1 := cell_later hbN (cell_al _ kA1)
    replace kC0 := cell_later hbN (cell_al _ kC0)
    replace kC1 := cell_later hbN (cell_al _ kC1)
    replace kS0 := cell_later hbN (cell_al _ kS0)
    replace kS1 := cell_later hbN (cell_al _ kS1)
    replace kD0 := cell_later hbN (cell_al _ kD0)
    replace kD1 := cell_later hbN (cell_al _ kD1)
    replace kP0 := cell_later hbN (cell_al _ kP0)
    replace kP1 := cell_later hbN (cell_al _ kP1)
    replace kQ0 := cell_later hbN (cell_al _ kQ0)
    replace kQ1 := cell_later hbN (cell_al _ kQ1)
    replace kR0 := cell_later hbN (cell_al _ kR0)
    replace kR1 := cell_later hbN (cell_al _ kR1)
    have kE0 : w10.cell? ⟨E, 0, none⟩ = some (.int .i64 dN) := by rw [hE]; refine cell_later hbN ?_; simp [go_sem]
    have kE1 : w10.cell? ⟨E, 1, none⟩ = some (.int .i64 dD) := by rw [hE]; refine cell_later hbN ?_; simp [go_sem]
    replace B : Below w.heap.size w w10 := (B.trans ((below_alN _ (Below.refl _ _)).mono B.size)).trans (hbN.mono (by have := B.size; simp <;> omega))
    rw [← hE]
    clear hbN hE
    have lkA0 := lt_cell kA0
    have lkC0 := lt_cell kC0
    have lkS0 := lt_cell kS0
    have lkD0 := lt_cell kD0
    have lkP0 := lt_cell kP0
    have lkQ0 := lt_cell kQ0
    have lkR0 := lt_cell kR0
    have lkE0 := lt_cell kE0
    clear lkD0 lkE0 kD0 kD1 kE0 kE1
    go_wp2_with fail
    refine (CsDiv.out _).mono ?_
    rintro e w11 ⟨rfl, hbN⟩
    clear lkA0 lkC0 lkS0 lkP0 lkQ0 lkR0
    obtain ⟨F, hF⟩ : ∃ F, F = w10.heap.size := ⟨_, rfl⟩
    replace kA0 := cell_later hbN (cell_al _ kA0)
    replace kA1 := cell_later hbN (cell_al _ kA1)
    replace kC0 := cell_later hbN (cell_al _ kC0)
    replace kC1 := cell_later hbN (cell_al _ kC1)
    replace kS0 := cell_later hbN (cell_al _ kS0)
    replace kS1 := cell_later hbN (cell_al _ kS1)
    replace kP0 := cell_later hbN (cell_al _ kP0)
    replace kP1 := cell_later hbN (cell_al _ kP1)
    replace kQ0 := cell_later hbN (cell_al _ kQ0)
    replace kQ1 := cell_later hbN (cell_al _ kQ1)
    replace kR0 := cell_later hbN (cell_al _ kR0)
    replace kR1 := cell_later hbN (cell_al _ kR1)
    have kF0 : w11.cell? ⟨F, 0, none⟩ = some (.int .i64 pN) := by rw [hF]; refine cell_later hbN ?_; simp [go_sem]
    have kF1 : w11.cell? ⟨F, 1, none⟩ = some (.int .i64 pD) := by rw [hF]; refine cell_later hbN ?_; simp [go_sem]
    replace B : Below w.heap.size w w11 := (B.trans ((below_alN _ (Below.refl _ _)).mono B.size)).trans (hbN.mono (by have := B.size; simp <;> omega))
    rw [← hF]
    clear hbN hF
    have lkA0 := lt_cell kA0
    have lkC0 := lt_cell kC0
    have lkS0 := lt_cell kS0
    have lkP0 := lt_cell kP0
    have lkQ0 := lt_cell kQ0
    have lkR0 := lt_cell kR0
    have lkF0 := lt_cell kF0
    clear lkP0 lkF0 kP0 kP1 kF0 kF1
    go_wp2_with fail
    refine (CsRed.out _).mono ?_
    rintro e w12 ⟨rfl, hbN⟩
    clear lkA0 lkC0 lkS0 lkQ0 lkR0
    obtain ⟨G, hG⟩ : ∃ G, G = w11.heap.size := ⟨_, rfl⟩
    replace kA0 := cell_later hbN (cell_al _ kA0)
    replace kA1 := cell_later hbN (cell_al _ kA1)
    replace kC0 := cell_later hbN (cell_al _ kC0)
    replace kC1 := cell_later hbN (cell_al _ kC1)
    replace kS0 := cell_later hbN (cell_al _ kS0)
    replace kS1 := cell_later hbN (cell_al _ kS1)
    replace kQ0 := cell_later hbN (cell_al _ kQ0)
    replace kQ1 := cell_later hbN (cell_al _ kQ1)
    replace kR0 := cell_later hbN (cell_al _ kR0)
    replace kR1 := cell_later hbN (cell_al _ kR1)
    have kG0 : w12.cell? ⟨G, 0, none⟩ = some (.int .i64 qN) := by rw [hG]; refine cell_later hbN ?_; simp [go_sem]
    have kG1 : w12.cell? ⟨G, 1, none⟩ = some (.int .i64 qD) := by rw [hG]; refine cell_later hbN ?_; simp [go_sem]
    replace B : Below w.heap.size w w12 := (B.trans ((below_alN _ (Below.refl _ _)).mono B.size)).trans (hbN.mono (by have := B.size; simp <;> omega))
    rw [← hG]
    clear hbN hG
    have lkA0 := lt_cell kA0
    have lkC0 := lt_cell kC0
    have lkS0 := lt_cell kS0
    have lkQ0 := lt_cell kQ0
    have lkR0 := lt_cell kR0
    have lkG0 := lt_cell kG0
    clear lkG0 kG0 kG1
    go_upto_region 23 with fail
    clear lkA0 lkC0 lkS0 lkQ0 lkR0
    obtain ⟨w13, hW⟩ : ∃ W, W = w12.alloc (.cells #[.int .i64 rN, .int .i64 rD] 25) := ⟨_, rfl⟩
    have hBW : Below w12.heap.size w12 w13 := by rw [hW]; exact below_alN _ (Below.refl _ _)
    obtain ⟨H, hT⟩ : ∃ T, T = w12.heap.size := ⟨_, rfl⟩
    replace kA0 := cell_later hBW kA0
    replace kA1 := cell_later hBW kA1
    replace kC0 := cell_later hBW kC0
    replace kC1 := cell_later hBW kC1
    replace kS0 := cell_later hBW kS0
    replace kS1 := cell_later hBW kS1
    replace kQ0 := cell_later hBW kQ0
    replace kQ1 := cell_later hBW kQ1
    replace kR0 := cell_later hBW kR0
    replace kR1 := cell_later hBW kR1
    have kH0 : w13.cell? ⟨H, 0, none⟩ = some (.int .i64 rN) := by rw [hW, hT]; simp [go_sem]
    have kH1 : w13.cell? ⟨H, 1, none⟩ = some (.int .i64 rD) := by rw [hW, hT]; simp [go_sem]
    replace B := B.trans (hBW.mono B.size)
    rw [← hW, ← hT]
    clear hW hBW hT
    have lkA0 := lt_cell kA0
    have lkC0 := lt_cell kC0
    have lkS0 := lt_cell kS0
    have lkQ0 := lt_cell kQ0
    have lkR0 := lt_cell kR0
    have lkH0 := lt_cell kH0
    go_cut [172] (fun s wx => s = .bool false ∧ Hid (Below w.heap.size w wx) ∧ wx.cell? ⟨A, 0, none⟩ = some (.int .i64 a) ∧ wx.cell? ⟨A, 1, none⟩ = some (.int .i64 b) ∧ wx.cell? ⟨A + 1, 0, none⟩ = some (.int .i64 c) ∧ wx.cell? ⟨A + 1, 1, none⟩ = some (.int .i64 d) ∧ wx.cell? ⟨S, 0, none⟩ = some (.int .i64 sN) ∧ wx.cell? ⟨S, 1, none⟩ = some (.int .i64 sD) ∧ wx.cell? ⟨Q, 0, none⟩ = some (.int .i64 qN) ∧ wx.cell? ⟨Q, 1, none⟩ = some (.int .i64 qD))
    case first => as_aux_lemma =>
      cases rO
      · go_wp2_with fail
        go_meet
        case rel => exact ⟨rfl, B, kA0, kA1, kC0, kC1, kS0, kS1, kQ0, kQ1⟩
      · go_wp2_with fail
        refine (iOk_is (hro.out (by simp)) _).mono ?_
        rintro e wN ⟨rfl, hbN⟩
        replace kA0 := cell_later hbN kA0
        replace kA1 := cell_later hbN kA1
        replace kC0 := cell_later hbN kC0
        replace kC1 := cell_later hbN kC1
        replace kS0 := cell_later hbN kS0
        replace kS1 := cell_later hbN kS1
        replace kQ0 := cell_later hbN kQ0
        replace kQ1 := cell_later hbN kQ1
        replace B := B.trans (hbN.mono B.size)
        clear hbN
        go_wp2_with fail
        go_meet
        case rel => exact ⟨rfl, B, kA0, kA1, kC0, kC1, kS0, kS1, kQ0, kQ1⟩
    case rest => as_aux_lemma =>
      clear kA0 kA1 kC0 kC1 kS0 kS1 kQ0 kQ1 kR0 kR1 kH0 kH1 lkA0 lkC0 lkS0 lkQ0 lkR0 lkH0 B
      obtain ⟨rfl, hcB, kA0, kA1, kC0, kC1, kS0, kS1, kQ0, kQ1⟩ := hcut
      have B := hcB.out
      clear hcB
      have lkA0 := lt_cell kA0
      have lkC0 := lt_cell kC0
      have lkS0 := lt_cell kS0
      have lkQ0 := lt_cell kQ0
      go_upto_if 173 with fail
      go_cut [] (fun wx => Hid (Below w.heap.size w wx) ∧ wx.cell? ⟨A, 0, none⟩ = some (.int .i64 a) ∧ wx.cell? ⟨A, 1, none⟩ = some (.int .i64 b) ∧ wx.cell? ⟨A + 1, 0, none⟩ = some (.int .i64 c) ∧ wx.cell? ⟨A + 1, 1, none⟩ = some (.int .i64 d) ∧ wx.cell? ⟨Q, 0, none⟩ = some (.int .i64 qN) ∧ wx.cell? ⟨Q, 1, none⟩ = some (.int .i64 qD))
      case first => as_aux_lemma =>
        cases sO
        · go_wp2_with fail
          go_meet
          case rel => exact ⟨B, kA0, kA1, kC0, kC1, kQ0, kQ1⟩
        · skip
          obtain ⟨xN, hxN⟩ : ∃ x, x = opN (two sN sD c d) (sN * d - c * sD) (sD * d) := ⟨_, rfl⟩
          obtain ⟨xD, hxD⟩ : ∃ x, x = opD (two sN sD c d) (sN * d - c * sD) (sD * d) := ⟨_, rfl⟩
          obtain ⟨xO, hxO⟩ : ∃ x, x = opOk (two sN sD c d) (sN * d - c * sD) (sD * d) := ⟨_, rfl⟩
          have hback : Hid (xO = true → a = xN ∧ b = xD) := by
            rw [hxN, hxD, hxO]; exact sub_back hsN.out hsD.out hsO.out.symm
          have CX : Hid (∀ u : World, Calls Try.prog 10 #[.agg #[.int .i64 sN, .int .i64 sD], .agg #[.int .i64 c, .int .i64 d]] u fun e u' => e = .returned (.tuple #[.agg #[.int .i64 xN, .int .i64 xD], .bool xO]) ∧ Below u.heap.size u u') := by
            intro u; rw [hxN, hxD, hxO]; exact iSub_any sN sD c d u
          clear hxN hxD hxO
          have exO : (xO != xO) = false := by simp
          cases xO
          · skip
            go_wp2_with fail
            refine (CX.out _).mono ?_
            rintro e w14 ⟨rfl, hbN⟩
            clear lkA0 lkC0 lkS0 lkQ0
            replace kA0 := cell_later hbN kA0
            replace kA1 := cell_later hbN kA1
            replace kC0 := cell_later hbN kC0
            replace kC1 := cell_later hbN kC1
            replace kS0 := cell_later hbN kS0
            replace kS1 := cell_later hbN kS1
            replace kQ0 := cell_later hbN kQ0
            replace kQ1 := cell_later hbN kQ1
            replace B : Below w.heap.size w w14 := B.trans (hbN.mono B.size)
            clear hbN
            have lkA0 := lt_cell kA0
            have lkC0 := lt_cell kC0
            have lkS0 := lt_cell kS0
            have lkQ0 := lt_cell kQ0
            go_wp2_with fail
            refine (CBack.out _).mono ?_
            rintro e w15 ⟨rfl, hbN⟩
            clear lkA0 lkC0 lkS0 lkQ0
            obtain ⟨U, hU⟩ : ∃ U, U = w14.heap.size := ⟨_, rfl⟩
            replace kA0 := cell_later hbN (cell_al _ kA0)
            replace kA1 := cell_later hbN (cell_al _ kA1)
            replace kC0 := cell_later hbN (cell_al _ kC0)
            replace kC1 := cell_later hbN (cell_al _ kC1)
            replace kS0 := cell_later hbN (cell_al _ kS0)
            replace kS1 := cell_later hbN (cell_al _ kS1)
            replace kQ0 := cell_later hbN (cell_al _ kQ0)
            replace kQ1 := cell_later hbN (cell_al _ kQ1)
            have kU0 : w15.cell? ⟨U, 0, none⟩ = some (.int .i64 xN) := by rw [hU]; refine cell_later hbN ?_; simp [go_sem]
            have kU1 : w15.cell? ⟨U, 1, none⟩ = some (.int .i64 xD) := by rw [hU]; refine cell_later hbN ?_; simp [go_sem]
            replace B : Below w.heap.size w w15 := (B.trans ((below_alN _ (Below.refl _ _)).mono B.size)).trans (hbN.mono (by have := B.size; simp <;> omega))
            rw [← hU]
            clear hbN hU
            have lkA0 := lt_cell kA0
            have lkC0 := lt_cell kC0
            have lkS0 := lt_cell kS0
            have lkQ0 := lt_cell kQ0
            have lkU0 := lt_cell kU0
            go_wp2_with fail
            go_meet
            case rel => exact ⟨B.trans ((below_alN _ (Below.refl _ _)).mono B.size), cell_al _ kA0, cell_al _ kA1, cell_al _ kC0, cell_al _ kC1, cell_al _ kQ0, cell_al _ kQ1⟩
          · skip
            obtain ⟨hxa, hxb⟩ := hback.out (by simp)
            subst hxa hxb
            go_wp2_with fail
            refine (CX.out _).mono ?_
            rintro e w14 ⟨rfl, hbN⟩
            clear lkA0 lkC0 lkS0 lkQ0
            replace kA0 := cell_later hbN kA0
            replace kA1 := cell_later hbN kA1
            replace kC0 := cell_later hbN kC0
            replace kC1 := cell_later hbN kC1
            replace kS0 := cell_later hbN kS0
            replace kS1 := cell_later hbN kS1
            replace kQ0 := cell_later hbN kQ0
            replace kQ1 := cell_later hbN kQ1
            replace B : Below w.heap.size w w14 := B.trans (hbN.mono B.size)
            clear hbN
            have lkA0 := lt_cell kA0
            have lkC0 := lt_cell kC0
            have lkS0 := lt_cell kS0
            have lkQ0 := lt_cell kQ0
            go_wp2_with fail
            refine (CBack.out _).mono ?_
            rintro e w15 ⟨rfl, hbN⟩
            clear lkA0 lkC0 lkS0 lkQ0
            obtain ⟨U, hU⟩ : ∃ U, U = w14.heap.size := ⟨_, rfl⟩
            replace kA0 := cell_later hbN (cell_al _ kA0)
            replace kA1 := cell_later hbN (cell_al _ kA1)
            replace kC0 := cell_later hbN (cell_al _ kC0)
            replace kC1 := cell_later hbN (cell_al _ kC1)
            replace kS0 := cell_later hbN (cell_al _ kS0)
            replace kS1 := cell_later hbN (cell_al _ kS1)
            replace kQ0 := cell_later hbN (cell_al _ kQ0)
            replace kQ1 := cell_later hbN (cell_al _ kQ1)
            have kU0 : w15.cell? ⟨U, 0, none⟩ = some (.int .i64 a) := by rw [hU]; refine cell_later hbN ?_; simp [go_sem]
            have kU1 : w15.cell? ⟨U, 1, none⟩ = some (.int .i64 b) := by rw [hU]; refine cell_later hbN ?_; simp [go_sem]
            replace B : Below w.heap.size w w15 := (B.trans ((below_alN _ (Below.refl _ _)).mono B.size)).trans (hbN.mono (by have := B.size; simp <;> omega))
            rw [← hU]
            clear hbN hU
            have lkA0 := lt_cell kA0
            have lkC0 := lt_cell kC0
            have lkS0 := lt_cell kS0
            have lkQ0 := lt_cell kQ0
            have lkU0 := lt_cell kU0
            go_wp2_with fail
            go_meet
            case rel => exact ⟨B.trans ((below_alN _ (Below.refl _ _)).mono B.size), cell_al _ kA0, cell_al _ kA1, cell_al _ kC0, cell_al _ kC1, cell_al _ kQ0, cell_al _ kQ1⟩
      case rest => as_aux_lemma =>
        clear kA0 kA1 kC0 kC1 kS0 kS1 kQ0 kQ1 lkA0 lkC0 lkS0 lkQ0 B
        obtain ⟨hcB, kA0, kA1, kC0, kC1, kQ0, kQ1⟩ := hcut
        have B := hcB.out
        clear hcB
        have lkA0 := lt_cell kA0
        have lkC0 := lt_cell kC0
        have lkQ0 := lt_cell kQ0
        go_upto_if 201 with fail
        go_cut [] (fun wx => Hid (Below w.heap.size w wx))
        case first => as_aux_lemma =>
          cases qO
          · go_wp2_with fail
            go_meet
            case rel => exact B
          · skip
            obtain ⟨xN, hxN⟩ : ∃ x, x = opN (two qN qD c d) (qN * c) (qD * d) := ⟨_, rfl⟩
            obtain ⟨xD, hxD⟩ : ∃ x, x = opD (two qN qD c d) (qN * c) (qD * d) := ⟨_, rfl⟩
            obtain ⟨xO, hxO⟩ : ∃ x, x = opOk (two qN qD c d) (qN * c) (qD * d) := ⟨_, rfl⟩
            have hback : Hid (xO = true → a = xN ∧ b = xD) := by
              rw [hxN, hxD, hxO]; exact mul_back hqN.out hqD.out hqO.out.symm
            have CX : Hid (∀ u : World, Calls Try.prog 11 #[.agg #[.int .i64 qN, .int .i64 qD], .agg #[.int .i64 c, .int .i64 d]] u fun e u' => e = .returned (.tuple #[.agg #[.int .i64 xN, .int .i64 xD], .bool xO]) ∧ Below u.heap.size u u') := by
              intro u; rw [hxN, hxD, hxO]; exact iMul_any qN qD c d u
            clear hxN hxD hxO
            have exO : (xO != xO) = false := by simp
            cases xO
            · skip
              go_wp2_with fail
              refine (CX.out _).mono ?_
              rintro e w14 ⟨rfl, hbN⟩
              clear lkA0 lkC0 lkQ0
              replace kA0 := cell_later hbN kA0
              replace kA1 := cell_later hbN kA1
              replace kC0 := cell_later hbN kC0
              replace kC1 := cell_later hbN kC1
              replace kQ0 := cell_later hbN kQ0
              replace kQ1 := cell_later hbN kQ1
              replace B : Below w.heap.size w w14 := B.trans (hbN.mono B.size)
              clear hbN
              have lkA0 := lt_cell kA0
              have lkC0 := lt_cell kC0
              have lkQ0 := lt_cell kQ0
              go_wp2_with fail
              go_meet
              case rel => exact B.trans ((below_alN _ (Below.refl _ _)).mono B.size)
            · skip
              obtain ⟨hxa, hxb⟩ := hback.out (by simp)
              subst hxa hxb
              go_wp2_with fail
              refine (CX.out _).mono ?_
              rintro e w14 ⟨rfl, hbN⟩
              clear lkA0 lkC0 lkQ0
              replace kA0 := cell_later hbN kA0
              replace kA1 := cell_later hbN kA1
              replace kC0 := cell_later hbN kC0
              replace kC1 := cell_later hbN kC1
              replace kQ0 := cell_later hbN kQ0
              replace kQ1 := cell_later hbN kQ1
              replace B : Below w.heap.size w w14 := B.trans (hbN.mono B.size)
              clear hbN
              have lkA0 := lt_cell kA0
              have lkC0 := lt_cell kC0
              have lkQ0 := lt_cell kQ0
              go_wp2_with fail
              go_meet
              case rel => exact B.trans ((below_alN _ (Below.refl _ _)).mono B.size)
        case rest => as_aux_lemma =>
          clear kA0 kA1 kC0 kC1 kQ0 kQ1 lkA0 lkC0 lkQ0 B
          have hcB := hcut
          have B := hcB.out
          clear hcB
          go_wp2_with fail
          refine (part_any a0 len cap zs _ _ (HR.out.below B) hlen (by omega) (by omega)).mono ?_
          rintro e w14 ⟨xn, xd, rfl, xk, x1, x2, x3, x4, hbN⟩
          replace B : Below w.heap.size w w14 := B.trans (hbN.mono B.size)
          clear hbN
          go_wp2_with fail
          refine (part_any a0 len cap zs _ _ (HR.out.below (B.trans ((below_alN _ (Below.refl _ _)).mono B.size))) hlen (by omega) (by omega)).mono ?_
          rintro e w15 ⟨yn, yd, rfl, yk, y1, y2, y3, y4, hbN⟩
          obtain ⟨X, hX⟩ : ∃ X, X = w14.heap.size := ⟨_, rfl⟩
          have kX0 : w15.cell? ⟨X, 0, none⟩ = some (.int .i64 xn) := by rw [hX]; refine cell_later hbN ?_; simp [go_sem]
          have kX1 : w15.cell? ⟨X, 1, none⟩ = some (.int .i64 xd) := by rw [hX]; refine cell_later hbN ?_; simp [go_sem]
          replace B : Below w.heap.size w w15 := (B.trans ((below_alN _ (Below.refl _ _)).mono B.size)).trans (hbN.mono (by have := B.size; simp <;> omega))
          rw [← hX]
          clear hbN hX
          have lkX0 := lt_cell kX0
          go_wp2_with fail
          refine (part_any a0 len cap zs _ _ (HR.out.below (B.trans ((below_alN _ (Below.refl _ _)).mono B.size))) hlen (by omega) (by omega)).mono ?_
          rintro e w16 ⟨zn, zd, rfl, zk, z1, z2, z3, z4, hbN⟩
          clear lkX0
          obtain ⟨Y, hY⟩ : ∃ Y, Y = w15.heap.size := ⟨_, rfl⟩
          replace kX0 := cell_later hbN (cell_al _ kX0)
          replace kX1 := cell_later hbN (cell_al _ kX1)
          have kY0 : w16.cell? ⟨Y, 0, none⟩ = some (.int .i64 yn) := by rw [hY]; refine cell_later hbN ?_; simp [go_sem]
          have kY1 : w16.cell? ⟨Y, 1, none⟩ = some (.int .i64 yd) := by rw [hY]; refine cell_later hbN ?_; simp [go_sem]
          replace B : Below w.heap.size w w16 := (B.trans ((below_alN _ (Below.refl _ _)).mono B.size)).trans (hbN.mono (by have := B.size; simp <;> omega))
          rw [← hY]
          clear hbN hY
          have lkX0 := lt_cell kX0
          have lkY0 := lt_cell kY0
          obtain ⟨sN', sD', lN, lD, mN, mD, nN, nD, tN, tD, ⟨g1, g2, g3, g4⟩, ⟨g5, g6, g7⟩, ⟨g8, g9, g10, g11⟩, ⟨g12, g13, g14, g15⟩, ⟨g16, g17, g18⟩, g19, g20⟩ := spread x1 x2 x3 x4 y1 y2 y3 y4 z1 z2 z3 z4
          have C1 : Hid (∀ u : World, Calls Try.prog 9 #[.agg #[.int .i64 yn, .int .i64 yd], .agg #[.int .i64 zn, .int .i64 zd]] u fun e u' => e = .returned (.tuple #[.agg #[.int .i64 sN', .int .i64 sD'], .bool true]) ∧ Below u.heap.size u u') := by
            intro u; have := iAdd_any yn yd zn zd u; rw [two_yes yk zk, (op_yes _ _).1, (op_yes _ _).2.1, (op_yes _ _).2.2, g1, g2, g3] at this; exact this
          have C2 : Hid (∀ u : World, Calls Try.prog 11 #[.agg #[.int .i64 xn, .int .i64 xd], .agg #[.int .i64 sN', .int .i64 sD']] u fun e u' => e = .returned (.tuple #[.agg #[.int .i64 lN, .int .i64 lD], .bool true]) ∧ Below u.heap.size u u') := by
            intro u; have := iMul_any xn xd sN' sD' u; rw [two_yes xk g4, (op_yes _ _).1, (op_yes _ _).2.1, (op_yes _ _).2.2, g5, g6, g7] at this; exact this
          have C3 : Hid (∀ u : World, Calls Try.prog 11 #[.agg #[.int .i64 xn, .int .i64 xd], .agg #[.int .i64 yn, .int .i64 yd]] u fun e u' => e = .returned (.tuple #[.agg #[.int .i64 mN, .int .i64 mD], .bool true]) ∧ Below u.heap.size u u') := by
            intro u; have := iMul_any xn xd yn yd u; rw [two_yes xk yk, (op_yes _ _).1, (op_yes _ _).2.1, (op_yes _ _).2.2, g8, g9, g10] at this; exact this
          have C4 : Hid (∀ u : World, Calls Try.prog 11 #[.agg #[.int .i64 xn, .int .i64 xd], .agg #[.int .i64 zn, .int .i64 zd]] u fun e u' => e = .returned (.tuple #[.agg #[.int .i64 nN, .int .i64 nD], .bool true]) ∧ Below u.heap.size u u') := by
            intro u; have := iMul_any xn xd zn zd u; rw [two_yes xk zk, (op_yes _ _).1, (op_yes _ _).2.1, (op_yes _ _).2.2, g12, g13, g14] at this; exact this
          have C5 : Hid (∀ u : World, Calls Try.prog 9 #[.agg #[.int .i64 mN, .int .i64 mD], .agg #[.int .i64 nN, .int .i64 nD]] u fun e u' => e = .returned (.tuple #[.agg #[.int .i64 lN, .int .i64 lD], .bool true]) ∧ Below u.heap.size u u') := by
            intro u; have := iAdd_any mN mD nN nD u; rw [two_yes g11 g15, (op_yes _ _).1, (op_yes _ _).2.1, (op_yes _ _).2.2, g16, g17, g18, ← g19, ← g20] at this; exact this
          clear g1 g2 g3 g4 g5 g6 g7 g8 g9 g10 g11 g12 g13 g14 g15 g16 g17 g18 g19 g20 xk yk zk x1 x2 x3 x4 y1 y2 y3 y4 z1 z2 z3 z4
          go_wp2_with fail
          refine (C1.out _).mono ?_
          rintro e w17 ⟨rfl, hbN⟩
          clear lkX0 lkY0
          obtain ⟨Z, hZ⟩ : ∃ Z, Z = w16.heap.size := ⟨_, rfl⟩
          replace kX0 := cell_later hbN (cell_al _ kX0)
          replace kX1 := cell_later hbN (cell_al _ kX1)
          replace kY0 := cell_later hbN (cell_al _ kY0)
          replace kY1 := cell_later hbN (cell_al _ kY1)
          have kZ0 : w17.cell? ⟨Z, 0, none⟩ = some (.int .i64 zn) := by rw [hZ]; refine cell_later hbN ?_; simp [go_sem]
          have kZ1 : w17.cell? ⟨Z, 1, none⟩ = some (.int .i64 zd) := by rw [hZ]; refine cell_later hbN ?_; simp [go_sem]
          replace B : Below w.heap.size w w17 := (B.trans ((below_alN _ (Below.refl _ _)).mono B.size)).trans (hbN.mono (by have := B.size; simp <;> omega))
          rw [← hZ]
          clear hbN hZ
          have lkX0 := lt_cell kX0
          have lkY0 := lt_cell kY0
          have lkZ0 := lt_cell kZ0
          go_wp2_with fail
          refine (C2.out _).mono ?_
          rintro e w18 ⟨rfl, hbN⟩
          clear lkX0 lkY0 lkZ0
          obtain ⟨M, hM⟩ : ∃ M, M = w17.heap.size := ⟨_, rfl⟩
          replace kX0 := cell_later hbN (cell_al _ kX0)
          replace kX1 := cell_later hbN (cell_al _ kX1)
          replace kY0 := cell_later hbN (cell_al _ kY0)
          replace kY1 := cell_later hbN (cell_al _ kY1)
          replace kZ0 := cell_later hbN (cell_al _ kZ0)
          replace kZ1 := cell_later hbN (cell_al _ kZ1)
          have kM0 : w18.cell? ⟨M, 0, none⟩ = some (.int .i64 sN') := by rw [hM]; refine cell_later hbN ?_; simp [go_sem]
          have kM1 : w18.cell? ⟨M, 1, none⟩ = some (.int .i64 sD') := by rw [hM]; refine cell_later hbN ?_; simp [go_sem]
          replace B : Below w.heap.size w w18 := (B.trans ((below_alN _ (Below.refl _ _)).mono B.size)).trans (hbN.mono (by have := B.size; simp <;> omega))
          rw [← hM]
          clear hbN hM
          have lkX0 := lt_cell kX0
          have lkY0 := lt_cell kY0
          have lkZ0 := lt_cell kZ0
          have lkM0 := lt_cell kM0
          go_wp2_with fail
          refine (C3.out _).mono ?_
          rintro e w19 ⟨rfl, hbN⟩
          clear lkX0 lkY0 lkZ0 lkM0
          obtain ⟨N, hN⟩ : ∃ N, N = w18.heap.size := ⟨_, rfl⟩
          replace kX0 := cell_later hbN (cell_al _ kX0)
          replace kX1 := cell_later hbN (cell_al _ kX1)
          replace kY0 := cell_later hbN (cell_al _ kY0)
          replace kY1 := cell_later hbN (cell_al _ kY1)
          replace kZ0 := cell_later hbN (cell_al _ kZ0)
          replace kZ1 := cell_later hbN (cell_al _ kZ1)
          replace kM0 := cell_later hbN (cell_al _ kM0)
          replace kM1 := cell_later hbN (cell_al _ kM1)
          have kN0 : w19.cell? ⟨N, 0, none⟩ = some (.int .i64 lN) := by rw [hN]; refine cell_later hbN ?_; simp [go_sem]
          have kN1 : w19.cell? ⟨N, 1, none⟩ = some (.int .i64 lD) := by rw [hN]; refine cell_later hbN ?_; simp [go_sem]
          replace B : Below w.heap.size w w19 := (B.trans ((below_alN _ (Below.refl _ _)).mono B.size)).trans (hbN.mono (by have := B.size; simp <;> omega))
          rw [← hN]
          clear hbN hN
          have lkX0 := lt_cell kX0
          have lkY0 := lt_cell kY0
          have lkZ0 := lt_cell kZ0
          have lkM0 := lt_cell kM0
          have lkN0 := lt_cell kN0
          go_wp2_with fail
          refine (C4.out _).mono ?_
          rintro e w20 ⟨rfl, hbN⟩
          clear lkX0 lkY0 lkZ0 lkM0 lkN0
          obtain ⟨O, hO⟩ : ∃ O, O = w19.heap.size := ⟨_, rfl⟩
          replace kX0 := cell_later hbN (cell_al _ kX0)
          replace kX1 := cell_later hbN (cell_al _ kX1)
          replace kY0 := cell_later hbN (cell_al _ kY0)
          replace kY1 := cell_later hbN (cell_al _ kY1)
          replace kZ0 := cell_later hbN (cell_al _ kZ0)
          replace kZ1 := cell_later hbN (cell_al _ kZ1)
          replace kM0 := cell_later hbN (cell_al _ kM0)
          replace kM1 := cell_later hbN (cell_al _ kM1)
          replace kN0 := cell_later hbN (cell_al _ kN0)
          replace kN1 := cell_later hbN (cell_al _ kN1)
          have kO0 : w20.cell? ⟨O, 0, none⟩ = some (.int .i64 mN) := by rw [hO]; refine cell_later hbN ?_; simp [go_sem]
          have kO1 : w20.cell? ⟨O, 1, none⟩ = some (.int .i64 mD) := by rw [hO]; refine cell_later hbN ?_; simp [go_sem]
          replace B : Below w.heap.size w w20 := (B.trans ((below_alN _ (Below.refl _ _)).mono B.size)).trans (hbN.mono (by have := B.size; simp <;> omega))
          rw [← hO]
          clear hbN hO
          have lkX0 := lt_cell kX0
          have lkY0 := lt_cell kY0
          have lkZ0 := lt_cell kZ0
          have lkM0 := lt_cell kM0
          have lkN0 := lt_cell kN0
          have lkO0 := lt_cell kO0
          go_wp2_with fail
          refine (C5.out _).mono ?_
          rintro e w21 ⟨rfl, hbN⟩
          clear lkX0 lkY0 lkZ0 lkM0 lkN0 lkO0
          obtain ⟨V, hV⟩ : ∃ V, V = w20.heap.size := ⟨_, rfl⟩
          replace kX0 := cell_later hbN (cell_al _ kX0)
          replace kX1 := cell_later hbN (cell_al _ kX1)
          replace kY0 := cell_later hbN (cell_al _ kY0)
          replace kY1 := cell_later hbN (cell_al _ kY1)
          replace kZ0 := cell_later hbN (cell_al _ kZ0)
          replace kZ1 := cell_later hbN (cell_al _ kZ1)
          replace kM0 := cell_later hbN (cell_al _ kM0)
          replace kM1 := cell_later hbN (cell_al _ kM1)
          replace kN0 := cell_later hbN (cell_al _ kN0)
          replace kN1 := cell_later hbN (cell_al _ kN1)
          replace kO0 := cell_later hbN (cell_al _ kO0)
          replace kO1 := cell_later hbN (cell_al _ kO1)
          have kV0 : w21.cell? ⟨V, 0, none⟩ = some (.int .i64 nN) := by rw [hV]; refine cell_later hbN ?_; simp [go_sem]
          have kV1 : w21.cell? ⟨V, 1, none⟩ = some (.int .i64 nD) := by rw [hV]; refine cell_later hbN ?_; simp [go_sem]
          replace B : Below w.heap.size w w21 := (B.trans ((below_alN _ (Below.refl _ _)).mono B.size)).trans (hbN.mono (by have := B.size; simp <;> omega))
          rw [← hV]
          clear hbN hV
          have lkX0 := lt_cell kX0
          have lkY0 := lt_cell kY0
          have lkZ0 := lt_cell kZ0
          have lkM0 := lt_cell kM0
          have lkN0 := lt_cell kN0
          have lkO0 := lt_cell kO0
          have lkV0 := lt_cell kV0
          go_wp2
          go_ret
          exact ⟨rfl, B.trans ((below_alN _ (Below.refl _ _)).mono B.size)⟩
end Go.Proofs.Ytmlnabgmibhfhaa
