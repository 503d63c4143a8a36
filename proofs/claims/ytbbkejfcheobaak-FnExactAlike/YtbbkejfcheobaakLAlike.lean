/- The walk of the law of Alike: both answers are the same list, the program's in memory of its own, and what was handed in stays. -/
import Derived.Test.YtbbkejfcheobaakAlikeW2
import Derived.Test.YtbbkejfcheobaakTabI3
namespace Go.Proofs.Ytbbkejfcheobaak
open Go.RowKit Go.Proofs.Ytbbkejfcheobaak.RM

set_option maxRecDepth 100000 in
set_option maxHeartbeats 4000000 in
theorem lawAlike (va : Value) (rw0 : List (List Int)) (a1 : Option Addr) (len1 cap1 : Nat) (zs1 : List Int) (w : World) (hr0 : InT w va rw0) (hr1 : IsRow .i64 w a1 len1 cap1 zs1) :
    Calls Try.prog 4 #[va, .slice a1 len1 cap1] w fun e w' => e = .returned (.bool true) ∧ Below w.heap.size w w' := by
  by_cases hl1 : 1048576 < (len1 : Int)
  · clear hr1 hr0
    go_enter Try.func4, Try.ntmps4
    go_wp2
    go_ret
    exact ⟨rfl, Below.refl _ _⟩
  have hl1' : len1 ≤ 1048576 := by omega
  have HA : Hid (InT w va rw0) := hr0
  have HR1 : Hid (IsRow .i64 w a1 len1 cap1 zs1) := hr1
  have hlen1 : (zs1.take len1).length = len1 := by
    rcases hr1 with ⟨rfl, _, _⟩ | ⟨b, off, _, h1, _, h3, _⟩
    · simp
    · rw [List.length_take]; omega
  clear hr0 hr1
  go_enter Try.func4, Try.ntmps4
  go_wp2_with fail
  refine (szU_any va rw0 1048576 _ HA.out (by omega) (by omega)).mono ?_
  rintro e wz ⟨r, rfl, r1, hcase, hw⟩
  obtain rfl := hw.symm
  clear hw
  rcases hcase with hneg | ⟨r0, la1, la2⟩
  · go_wp2
    go_ret
    exact ⟨rfl, Below.refl _ _⟩
  have LA : Hid (rw0.length ≤ 1048576 ∧ ∀ i, i < rw0.length → (ri rw0 i).length ≤ 1048576) := ⟨la1, la2⟩
  have HT0 : Hid (∀ W : World, Below w.heap.size w W → Calls Try.prog 9 #[va] W fun e w' => ∃ u us, e = .returned u ∧ TabI w' W.heap.size u us rw0 ∧ Below W.heap.size W w') := by
    intro W hW; exact toU_any va rw0 W (HA.out.below hW) la1 la2
  obtain ⟨ys1, hys1⟩ : ∃ ys, ys = zs1.take len1 := ⟨_, rfl⟩
  rw [← hys1] at hlen1
  have HN1 : Hid (ys1.length = len1) := hlen1
  have HT1 : Hid (∀ u : World, IsRow .i64 u a1 len1 cap1 zs1 → Calls Try.prog 15 #[.slice a1 len1 cap1] u fun e w' => ∃ v, e = .returned v ∧ w'.ownsRow u.heap.size 2 1 v len1 (ys1.map (Value.int .i64)) ∧ Below u.heap.size u w') := by
    intro u hu; rw [hys1]; exact toI_any a1 len1 cap1 zs1 u hu hl1'
  obtain ⟨rs, hrs⟩ : ∃ rs, rs = ansAlike rw0 ys1 := ⟨_, rfl⟩
  obtain ⟨rn, hrn⟩ : ∃ rn, rs.length = rn := ⟨_, rfl⟩
  have HRN : Hid (rs.length = rn) := hrn
  have hrn2 : rn ≤ 1000000000 := by rw [← hrn, hrs]; exact ansAlike_len rw0 ys1
  have HS : Hid (∀ (v0 v1 : Value) (us : List Value) (b0 b1 : Nat) (u : World), TabI u b0 v0 us rw0 → u.ownsRow b1 2 1 v1 len1 (ys1.map (Value.int .i64)) → Calls Try.prog 14 #[v0, v1] u fun e w' => RowP u rs e w') := by
    intro v0 v1 us b0 b1 u hu0 hu1; rw [hrs]; exact sAlike_any v0 v1 us rw0 ys1 b0 b1 _ u hu0 (by rw [← HN1.out] at hu1; exact hu1)
  have HI : Hid (∀ (v0 v1 : Value) (us : List Value) (b0 b1 : Nat) (u : World), TabI u b0 v0 us rw0 → u.ownsRow b1 2 1 v1 len1 (ys1.map (Value.int .i64)) → Calls Try.prog 16 #[v0, v1] u fun e w' => RowP u rs e w') := by
    intro v0 v1 us b0 b1 u hu0 hu1; rw [hrs]; exact iAlike_any v0 v1 us rw0 ys1 b0 b1 _ u hu0 (by rw [← HN1.out] at hu1; exact hu1)
  have bo : (offI rw0 rw0.length : Int) ≤ 1099511627776 := by
    have := offI_le la2 rw0.length (Nat.le_refl _)
    have : rw0.length * 1048576 ≤ 1048576 * 1048576 := Nat.mul_le_mul_right _ la1
    omega
  have B0 : Below w.heap.size w w := Below.refl _ _
  clear hys1 hlen1 hrs hrn la1 la2 HA hl1
  go_wp2_with fail
  refine (HT0.out _ B0).mono ?_
  rintro e w1 ⟨t0, ut0, rfl, o, hb⟩
  have Bw1 : Below w.heap.size w w1 := B0.trans (hb.mono B0.size)
  have T0 : Hid (TabI w1 w.heap.size t0 ut0 rw0) := o
  have UT0 : Hid (w.heap.size ≤ w1.heap.size ∧ Under w1.heap.size t0 ut0) := ⟨hb.size, o.under⟩
  clear hb o
  go_wp2_with fail
  refine (HT1.out _ (HR1.out.below Bw1)).mono ?_
  rintro e w2 ⟨t1, rfl, o, hb⟩
  have Bw2 : Below w.heap.size w w2 := Bw1.trans (hb.mono Bw1.size)
  replace T0 : Hid (TabI w2 w.heap.size t0 ut0 rw0) := T0.out.below hb
  have T1 : Hid (w2.ownsRow w1.heap.size 2 1 t1 len1 (ys1.map (Value.int .i64))) := o
  have UT1 : Hid (w1.heap.size ≤ w2.heap.size ∧ ∀ k, t1.ownBlock = some k → k < w2.heap.size) := ⟨hb.size, fun k hk => (o.lt k hk).2⟩
  clear hb o
  go_wp2_with fail
  refine (HS.out t0 t1 ut0 _ _ _ T0.out T1.out).mono ?_
  rintro e w3 ⟨o0, etO0, rfl, o, hb⟩
  rw [HRN.out] at o
  have Bw3 : Below w.heap.size w w3 := Bw2.trans (hb.mono Bw2.size)
  replace T0 : Hid (TabI w3 w.heap.size t0 ut0 rw0) := T0.out.below hb
  replace T1 : Hid (w3.ownsRow w1.heap.size 2 1 t1 len1 (ys1.map (Value.int .i64))) := own_below T1.out hb
  have O0 : Hid (w3.ownsRow w2.heap.size etO0 1 o0 rn (rs.map (Value.int .i64))) := o
  have UO0 : Hid (w2.heap.size ≤ w3.heap.size ∧ ∀ k, o0.ownBlock = some k → k < w3.heap.size) := ⟨hb.size, fun k hk => (o.lt k hk).2⟩
  clear hb o
  clear T0 UT0 T1 UT1
  go_wp2_with fail
  refine (HT0.out _ Bw3).mono ?_
  rintro e w4 ⟨x0, ux0, rfl, o, hb⟩
  have Bw4 : Below w.heap.size w w4 := Bw3.trans (hb.mono Bw3.size)
  replace O0 : Hid (w4.ownsRow w2.heap.size etO0 1 o0 rn (rs.map (Value.int .i64))) := own_below O0.out hb
  have X0 : Hid (TabI w4 w3.heap.size x0 ux0 rw0) := o
  have UX0 : Hid (w3.heap.size ≤ w4.heap.size ∧ Under w4.heap.size x0 ux0) := ⟨hb.size, o.under⟩
  clear hb o
  go_wp2_with fail
  refine (HT1.out _ (HR1.out.below Bw4)).mono ?_
  rintro e w5 ⟨x1, rfl, o, hb⟩
  have Bw5 : Below w.heap.size w w5 := Bw4.trans (hb.mono Bw4.size)
  replace O0 : Hid (w5.ownsRow w2.heap.size etO0 1 o0 rn (rs.map (Value.int .i64))) := own_below O0.out hb
  replace X0 : Hid (TabI w5 w3.heap.size x0 ux0 rw0) := X0.out.below hb
  have X1 : Hid (w5.ownsRow w4.heap.size 2 1 x1 len1 (ys1.map (Value.int .i64))) := o
  have UX1 : Hid (w4.heap.size ≤ w5.heap.size ∧ ∀ k, x1.ownBlock = some k → k < w5.heap.size) := ⟨hb.size, fun k hk => (o.lt k hk).2⟩
  clear hb o
  go_wp2_with fail
  refine (HI.out x0 x1 ux0 _ _ _ X0.out X1.out).mono ?_
  rintro e w6 ⟨g0, etG0, rfl, o, hb⟩
  rw [HRN.out] at o
  have Bw6 : Below w.heap.size w w6 := Bw5.trans (hb.mono Bw5.size)
  replace O0 : Hid (w6.ownsRow w2.heap.size etO0 1 o0 rn (rs.map (Value.int .i64))) := own_below O0.out hb
  replace X0 : Hid (TabI w6 w3.heap.size x0 ux0 rw0) := X0.out.below hb
  replace X1 : Hid (w6.ownsRow w4.heap.size 2 1 x1 len1 (ys1.map (Value.int .i64))) := own_below X1.out hb
  have G0 : Hid (w6.ownsRow w5.heap.size etG0 1 g0 rn (rs.map (Value.int .i64))) := o
  have UG0 : Hid (w5.heap.size ≤ w6.heap.size ∧ ∀ k, g0.ownBlock = some k → k < w6.heap.size) := ⟨hb.size, fun k hk => (o.lt k hk).2⟩
  clear hb o
  have SZ : Hid (w.heap.size ≤ w3.heap.size ∧ w3.heap.size ≤ w4.heap.size ∧ w4.heap.size ≤ w5.heap.size ∧ w5.heap.size ≤ w6.heap.size ∧ w2.heap.size ≤ w3.heap.size) := ⟨Bw3.size, UX0.out.1, UX1.out.1, UG0.out.1, UO0.out.1⟩
  have LBO0 : Hid (w.heap.size ≤ w2.heap.size) := by
    show _ ≤ _
    exact Bw2.size
  have LBX1 : Hid (w.heap.size ≤ w4.heap.size) := by
    show _ ≤ _
    exact Bw4.size
  have LBG0 : Hid (w.heap.size ≤ w5.heap.size) := by
    show _ ≤ _
    exact Bw5.size
  have D_O0_X1 : Hid (∀ k, o0.ownBlock = some k → x1.ownBlock ≠ some k) := by
    intro k h1 h2
    have q1 := UO0.out.2 k h1
    have q2 := (X1.out.lt k h2).1
    have q3 := SZ.out
    omega
  have D_O0_G0 : Hid (∀ k, o0.ownBlock = some k → g0.ownBlock ≠ some k) := by
    intro k h1 h2
    have q1 := UO0.out.2 k h1
    have q2 := (G0.out.lt k h2).1
    have q3 := SZ.out
    omega
  have D_X1_G0 : Hid (∀ k, x1.ownBlock = some k → g0.ownBlock ≠ some k) := by
    intro k h1 h2
    have q1 := UX1.out.2 k h1
    have q2 := (G0.out.lt k h2).1
    have q3 := SZ.out
    omega
  have SW : Hid (w6.heap.size ≤ w6.heap.size) := Nat.le_refl _
  go_wp2_with fail
  refine (eqG_same g0 o0 rs rn _ _ _ _ _ HRN.out (by omega) G0.out O0.out).mono ?_
  rintro e w7 ⟨rfl, mm, hw⟩
  have hb : Below w6.heap.size w6 w7 := by rw [hw]; exact below_drewN (Below.refl _ _) _
  have Bw7 : Below w.heap.size w w7 := Bw6.trans (hb.mono Bw6.size)
  replace SW : Hid (w6.heap.size ≤ w7.heap.size) := Nat.le_trans SW.out hb.size
  replace O0 : Hid (w7.ownsRow w2.heap.size etO0 1 o0 rn (rs.map (Value.int .i64))) := own_below O0.out hb
  replace X0 : Hid (TabI w7 w3.heap.size x0 ux0 rw0) := X0.out.below hb
  replace X1 : Hid (w7.ownsRow w4.heap.size 2 1 x1 len1 (ys1.map (Value.int .i64))) := own_below X1.out hb
  replace G0 : Hid (w7.ownsRow w5.heap.size etG0 1 g0 rn (rs.map (Value.int .i64))) := own_below G0.out hb
  clear hw hb
  go_wp2_with fail
  refine (HT0.out _ Bw7).mono ?_
  rintro e w8 ⟨y0, uy0, rfl, o, hb⟩
  have Bw8 : Below w.heap.size w w8 := Bw7.trans (hb.mono Bw7.size)
  replace SW : Hid (w6.heap.size ≤ w8.heap.size) := Nat.le_trans SW.out hb.size
  replace O0 : Hid (w8.ownsRow w2.heap.size etO0 1 o0 rn (rs.map (Value.int .i64))) := own_below O0.out hb
  replace X0 : Hid (TabI w8 w3.heap.size x0 ux0 rw0) := X0.out.below hb
  replace X1 : Hid (w8.ownsRow w4.heap.size 2 1 x1 len1 (ys1.map (Value.int .i64))) := own_below X1.out hb
  replace G0 : Hid (w8.ownsRow w5.heap.size etG0 1 g0 rn (rs.map (Value.int .i64))) := own_below G0.out hb
  have Y0 : Hid (TabI w8 w7.heap.size y0 uy0 rw0) := o
  have UY0 : Hid (w7.heap.size ≤ w8.heap.size ∧ Under w8.heap.size y0 uy0) := ⟨hb.size, o.under⟩
  clear hb o
  go_wp2_with fail
  refine (eqU_any x0 y0 ux0 uy0 _ _ rw0 _ LA.out.1 LA.out.2 X0.out Y0.out).mono ?_
  rintro e w9 ⟨rfl, hb⟩
  have Bw9 : Below w.heap.size w w9 := Bw8.trans (hb.mono Bw8.size)
  replace SW : Hid (w6.heap.size ≤ w9.heap.size) := Nat.le_trans SW.out hb.size
  replace O0 : Hid (w9.ownsRow w2.heap.size etO0 1 o0 rn (rs.map (Value.int .i64))) := own_below O0.out hb
  replace X0 : Hid (TabI w9 w3.heap.size x0 ux0 rw0) := X0.out.below hb
  replace X1 : Hid (w9.ownsRow w4.heap.size 2 1 x1 len1 (ys1.map (Value.int .i64))) := own_below X1.out hb
  replace G0 : Hid (w9.ownsRow w5.heap.size etG0 1 g0 rn (rs.map (Value.int .i64))) := own_below G0.out hb
  replace Y0 : Hid (TabI w9 w7.heap.size y0 uy0 rw0) := Y0.out.below hb
  clear hb
  clear Y0 UY0
  go_wp2_with fail
  refine (HT1.out _ (HR1.out.below Bw9)).mono ?_
  rintro e w10 ⟨y1, rfl, o, hb⟩
  have Bw10 : Below w.heap.size w w10 := Bw9.trans (hb.mono Bw9.size)
  replace SW : Hid (w6.heap.size ≤ w10.heap.size) := Nat.le_trans SW.out hb.size
  replace O0 : Hid (w10.ownsRow w2.heap.size etO0 1 o0 rn (rs.map (Value.int .i64))) := own_below O0.out hb
  replace X0 : Hid (TabI w10 w3.heap.size x0 ux0 rw0) := X0.out.below hb
  replace X1 : Hid (w10.ownsRow w4.heap.size 2 1 x1 len1 (ys1.map (Value.int .i64))) := own_below X1.out hb
  replace G0 : Hid (w10.ownsRow w5.heap.size etG0 1 g0 rn (rs.map (Value.int .i64))) := own_below G0.out hb
  have Y1 : Hid (w10.ownsRow w9.heap.size 2 1 y1 len1 (ys1.map (Value.int .i64))) := o
  have UY1 : Hid (w9.heap.size ≤ w10.heap.size ∧ ∀ k, y1.ownBlock = some k → k < w10.heap.size) := ⟨hb.size, fun k hk => (o.lt k hk).2⟩
  clear hb o
  go_wp2_with fail
  refine (eqG_same x1 y1 ys1 len1 _ _ _ _ _ HN1.out (by omega) X1.out Y1.out).mono ?_
  rintro e w11 ⟨rfl, mm, hw⟩
  have hb : Below w10.heap.size w10 w11 := by rw [hw]; exact below_drewN (Below.refl _ _) _
  have Bw11 : Below w.heap.size w w11 := Bw10.trans (hb.mono Bw10.size)
  replace SW : Hid (w6.heap.size ≤ w11.heap.size) := Nat.le_trans SW.out hb.size
  replace O0 : Hid (w11.ownsRow w2.heap.size etO0 1 o0 rn (rs.map (Value.int .i64))) := own_below O0.out hb
  replace X0 : Hid (TabI w11 w3.heap.size x0 ux0 rw0) := X0.out.below hb
  replace X1 : Hid (w11.ownsRow w4.heap.size 2 1 x1 len1 (ys1.map (Value.int .i64))) := own_below X1.out hb
  replace G0 : Hid (w11.ownsRow w5.heap.size etG0 1 g0 rn (rs.map (Value.int .i64))) := own_below G0.out hb
  replace Y1 : Hid (w11.ownsRow w9.heap.size 2 1 y1 len1 (ys1.map (Value.int .i64))) := own_below Y1.out hb
  clear hw hb
  clear Y1 UY1
  go_wp2_with fail
  refine (markU_any x0 ux0 rw0 w3.heap.size w4.heap.size 1 _ X0.out UX0.out.2 LA.out.1 LA.out.2 (by omega) (by omega)).mono ?_
  rintro e w12 ⟨rfl, tm, ho⟩
  have Bw12 : Below w.heap.size w w12 := Bw11.trans ((ho.below (by have := SZ.out; have := SW.out; omega)).mono (by have := SZ.out; omega))
  replace O0 : Hid (w12.ownsRow w2.heap.size etO0 1 o0 rn (rs.map (Value.int .i64))) := own_out O0.out ho (fun b hb => by exact .inl (by have := UO0.out.2 b hb; have := SZ.out; omega))
  replace X1 : Hid (w12.ownsRow w4.heap.size 2 1 x1 len1 (ys1.map (Value.int .i64))) := own_out X1.out ho (fun b hb => by exact .inr (by have := (X1.out.lt b hb).1; have := SZ.out; omega))
  replace G0 : Hid (w12.ownsRow w5.heap.size etG0 1 g0 rn (rs.map (Value.int .i64))) := own_out G0.out ho (fun b hb => by exact .inr (by have := (G0.out.lt b hb).1; have := SZ.out; omega))
  clear tm ho X0
  clear SW
  obtain ⟨k1, hk1⟩ : ∃ k, k = 1 + (offI rw0 rw0.length : Int) := ⟨_, rfl⟩
  have k10 : 0 ≤ k1 := by omega
  have k11 : k1 ≤ 3000000000000 := by omega
  rw [← hk1]
  clear hk1 UX0
  go_wp2_with fail
  refine (markG_any x1 ys1 len1 _ _ (k1) _ HN1.out (by omega) (by omega) (by omega) X1.out).mono ?_
  rintro e w13 ⟨rfl, o, hg⟩
  have hb : Below w.heap.size w12 w13 := below_wrote X1.out LBX1.out Bw12.size hg
  have Bw13 : Below w.heap.size w w13 := Bw12.trans hb
  replace O0 : Hid (w13.ownsRow w2.heap.size etO0 1 o0 rn (rs.map (Value.int .i64))) := own_sep O0.out X1.out D_O0_X1.out hg
  replace G0 : Hid (w13.ownsRow w5.heap.size etG0 1 g0 rn (rs.map (Value.int .i64))) := own_sep G0.out X1.out (fun k h1 h2 => D_X1_G0.out k h2 h1) hg
  replace X1 : Hid (w13.ownsRow w4.heap.size 2 1 x1 len1 ((mrk (k1) ys1 len1).map (Value.int .i64))) := o
  clear hb hg o
  clear X1
  go_wp2_with fail
  refine (eqG_same g0 o0 rs rn _ _ _ _ _ HRN.out (by omega) G0.out O0.out).mono ?_
  rintro e w14 ⟨rfl, mm, hw⟩
  have hb : Below w13.heap.size w13 w14 := by rw [hw]; exact below_drewN (Below.refl _ _) _
  have Bw14 : Below w.heap.size w w14 := Bw13.trans (hb.mono Bw13.size)
  replace O0 : Hid (w14.ownsRow w2.heap.size etO0 1 o0 rn (rs.map (Value.int .i64))) := own_below O0.out hb
  replace G0 : Hid (w14.ownsRow w5.heap.size etG0 1 g0 rn (rs.map (Value.int .i64))) := own_below G0.out hb
  clear hw hb
  go_wp2_with fail
  refine (markG_any g0 rs rn _ _ (1) _ HRN.out (by omega) (by omega) (by omega) G0.out).mono ?_
  rintro e w15 ⟨rfl, o, hg⟩
  have hb : Below w.heap.size w14 w15 := below_wrote G0.out LBG0.out Bw14.size hg
  have Bw15 : Below w.heap.size w w15 := Bw14.trans hb
  replace O0 : Hid (w15.ownsRow w2.heap.size etO0 1 o0 rn (rs.map (Value.int .i64))) := own_sep O0.out G0.out D_O0_G0.out hg
  replace G0 : Hid (w15.ownsRow w5.heap.size etG0 1 g0 rn ((mrk (1) rs rn).map (Value.int .i64))) := o
  clear hb hg o
  have hne : ((1 + (rn : Int)) != (1 + (rn : Int))) = false := by simp
  go_wp2_with fail
  refine (heldG_any g0 rs rn _ _ 1 _ HRN.out (by omega) (by omega) (by omega) G0.out).mono ?_
  rintro e w16 ⟨rfl, mm, hw⟩
  have hb : Below w15.heap.size w15 w16 := by rw [hw]; exact below_drewN (Below.refl _ _) _
  have Bw16 : Below w.heap.size w w16 := Bw15.trans (hb.mono Bw15.size)
  replace O0 : Hid (w16.ownsRow w2.heap.size etO0 1 o0 rn (rs.map (Value.int .i64))) := own_below O0.out hb
  replace G0 : Hid (w16.ownsRow w5.heap.size etG0 1 g0 rn ((mrk (1) rs rn).map (Value.int .i64))) := own_below G0.out hb
  clear hw hb
  go_wp2_with fail
  refine (HT0.out _ Bw16).mono ?_
  rintro e w17 ⟨z0, uz0, rfl, o, hb⟩
  have Bw17 : Below w.heap.size w w17 := Bw16.trans (hb.mono Bw16.size)
  replace O0 : Hid (w17.ownsRow w2.heap.size etO0 1 o0 rn (rs.map (Value.int .i64))) := own_below O0.out hb
  replace G0 : Hid (w17.ownsRow w5.heap.size etG0 1 g0 rn ((mrk (1) rs rn).map (Value.int .i64))) := own_below G0.out hb
  have Z0 : Hid (TabI w17 w16.heap.size z0 uz0 rw0) := o
  have UZ0 : Hid (w16.heap.size ≤ w17.heap.size ∧ Under w17.heap.size z0 uz0) := ⟨hb.size, o.under⟩
  clear hb o
  go_wp2_with fail
  refine (HT1.out _ (HR1.out.below Bw17)).mono ?_
  rintro e w18 ⟨z1, rfl, o, hb⟩
  have Bw18 : Below w.heap.size w w18 := Bw17.trans (hb.mono Bw17.size)
  replace O0 : Hid (w18.ownsRow w2.heap.size etO0 1 o0 rn (rs.map (Value.int .i64))) := own_below O0.out hb
  replace G0 : Hid (w18.ownsRow w5.heap.size etG0 1 g0 rn ((mrk (1) rs rn).map (Value.int .i64))) := own_below G0.out hb
  replace Z0 : Hid (TabI w18 w16.heap.size z0 uz0 rw0) := Z0.out.below hb
  have Z1 : Hid (w18.ownsRow w17.heap.size 2 1 z1 len1 (ys1.map (Value.int .i64))) := o
  have UZ1 : Hid (w17.heap.size ≤ w18.heap.size ∧ ∀ k, z1.ownBlock = some k → k < w18.heap.size) := ⟨hb.size, fun k hk => (o.lt k hk).2⟩
  clear hb o
  go_wp2_with fail
  refine (HI.out z0 z1 uz0 _ _ _ Z0.out Z1.out).mono ?_
  rintro e w19 ⟨h0, etH0, rfl, o, hb⟩
  rw [HRN.out] at o
  have Bw19 : Below w.heap.size w w19 := Bw18.trans (hb.mono Bw18.size)
  replace O0 : Hid (w19.ownsRow w2.heap.size etO0 1 o0 rn (rs.map (Value.int .i64))) := own_below O0.out hb
  replace G0 : Hid (w19.ownsRow w5.heap.size etG0 1 g0 rn ((mrk (1) rs rn).map (Value.int .i64))) := own_below G0.out hb
  replace Z0 : Hid (TabI w19 w16.heap.size z0 uz0 rw0) := Z0.out.below hb
  replace Z1 : Hid (w19.ownsRow w17.heap.size 2 1 z1 len1 (ys1.map (Value.int .i64))) := own_below Z1.out hb
  have H0 : Hid (w19.ownsRow w18.heap.size etH0 1 h0 rn (rs.map (Value.int .i64))) := o
  have UH0 : Hid (w18.heap.size ≤ w19.heap.size ∧ ∀ k, h0.ownBlock = some k → k < w19.heap.size) := ⟨hb.size, fun k hk => (o.lt k hk).2⟩
  clear hb o
  go_wp2_with fail
  refine (eqG_same h0 o0 rs rn _ _ _ _ _ HRN.out (by omega) H0.out O0.out).mono ?_
  rintro e w20 ⟨rfl, mm, hw⟩
  have hb : Below w19.heap.size w19 w20 := by rw [hw]; exact below_drewN (Below.refl _ _) _
  have Bw20 : Below w.heap.size w w20 := Bw19.trans (hb.mono Bw19.size)
  replace O0 : Hid (w20.ownsRow w2.heap.size etO0 1 o0 rn (rs.map (Value.int .i64))) := own_below O0.out hb
  replace G0 : Hid (w20.ownsRow w5.heap.size etG0 1 g0 rn ((mrk (1) rs rn).map (Value.int .i64))) := own_below G0.out hb
  replace Z0 : Hid (TabI w20 w16.heap.size z0 uz0 rw0) := Z0.out.below hb
  replace Z1 : Hid (w20.ownsRow w17.heap.size 2 1 z1 len1 (ys1.map (Value.int .i64))) := own_below Z1.out hb
  replace H0 : Hid (w20.ownsRow w18.heap.size etH0 1 h0 rn (rs.map (Value.int .i64))) := own_below H0.out hb
  clear hw hb
  go_wp2_with fail
  refine (heldG_any g0 rs rn _ _ 1 _ HRN.out (by omega) (by omega) (by omega) G0.out).mono ?_
  rintro e w21 ⟨rfl, mm, hw⟩
  have hb : Below w20.heap.size w20 w21 := by rw [hw]; exact below_drewN (Below.refl _ _) _
  have Bw21 : Below w.heap.size w w21 := Bw20.trans (hb.mono Bw20.size)
  replace O0 : Hid (w21.ownsRow w2.heap.size etO0 1 o0 rn (rs.map (Value.int .i64))) := own_below O0.out hb
  replace G0 : Hid (w21.ownsRow w5.heap.size etG0 1 g0 rn ((mrk (1) rs rn).map (Value.int .i64))) := own_below G0.out hb
  replace Z0 : Hid (TabI w21 w16.heap.size z0 uz0 rw0) := Z0.out.below hb
  replace Z1 : Hid (w21.ownsRow w17.heap.size 2 1 z1 len1 (ys1.map (Value.int .i64))) := own_below Z1.out hb
  replace H0 : Hid (w21.ownsRow w18.heap.size etH0 1 h0 rn (rs.map (Value.int .i64))) := own_below H0.out hb
  clear hw hb
  go_wp2
  go_ret
  exact ⟨rfl, Bw21⟩
end Go.Proofs.Ytbbkejfcheobaak
