/- The walk of the law of DimPower: both answers are the same list, the program's in memory of its own, and what was handed in stays. -/
import Derived.Test.YtoofkhghpdnkhajDimW6
import Derived.Test.YtoofkhghpdnkhajRowsI
import Derived.Test.YtoofkhghpdnkhajArgW
namespace Go.Proofs.Ytoofkhghpdnkhaj
open Go.RowKit Go.Proofs.Ytoofkhghpdnkhaj.RM

set_option maxRecDepth 100000 in
set_option maxHeartbeats 4000000 in
theorem lawDimPower (a0 : Option Addr) (len0 cap0 : Nat) (zs0 : List Int) (n1 : Int) (w : World) (hr0 : IsRow .i64 w a0 len0 cap0 zs0) :
    Calls Try.prog 7 #[.slice a0 len0 cap0, .int .i64 n1] w fun e w' => e = .returned (.bool true) ∧ Below w.heap.size w w' := by
  by_cases hl0 : 1048576 < (len0 : Int)
  · clear hr0
    go_enter Try.func7, Try.ntmps7
    go_wp2
    go_ret
    exact ⟨rfl, Below.refl _ _⟩
  have hl0' : len0 ≤ 1048576 := by omega
  have hlen0 : (zs0.take len0).length = len0 := by
    rcases hr0 with ⟨rfl, _, _⟩ | ⟨b, off, _, h1, _, h3, _⟩
    · simp
    · rw [List.length_take]; omega
  have HR0 : Hid (IsRow .i64 w a0 len0 cap0 zs0) := hr0
  obtain ⟨ys0, hys0⟩ : ∃ ys, ys = zs0.take len0 := ⟨_, rfl⟩
  rw [← hys0] at hlen0
  have HN0 : Hid (ys0.length = len0) := hlen0
  have HT0 : Hid (∀ u : World, IsRow .i64 u a0 len0 cap0 zs0 → Calls Try.prog 23 #[.slice a0 len0 cap0] u fun e w' => ∃ v, e = .returned v ∧ w'.ownsRow u.heap.size 2 1 v len0 (ys0.map (Value.int .i64)) ∧ Below u.heap.size u w') := by
    intro u hu; rw [hys0]; exact toI_any a0 len0 cap0 zs0 u hu hl0'
  obtain ⟨rs, hrs⟩ : ∃ rs, rs = ansDimPower ys0 n1 := ⟨_, rfl⟩
  obtain ⟨rn, hrn⟩ : ∃ rn, rs.length = rn := ⟨_, rfl⟩
  have HRN : Hid (rs.length = rn) := hrn
  have hrn2 : rn ≤ 1000000000 := by rw [← hrn, hrs]; exact ansDimPower_len ys0 n1
  have HS : Hid (∀ (v0 : Value) (b0 : Nat) (u : World), u.ownsRow b0 2 1 v0 len0 (ys0.map (Value.int .i64)) → Calls Try.prog 30 #[v0, .int .i64 n1] u fun e w' => RowP u rs e w') := by
    intro v0 b0 u hu0; rw [hrs]; exact sDimPower_any v0 ys0 n1 b0 _ u (by rw [← HN0.out] at hu0; exact hu0)
  have HI : Hid (∀ (v0 : Value) (b0 : Nat) (u : World), u.ownsRow b0 2 1 v0 len0 (ys0.map (Value.int .i64)) → Calls Try.prog 31 #[v0, .int .i64 n1] u fun e w' => RowP u rs e w') := by
    intro v0 b0 u hu0; rw [hrs]; exact iDimPower_any v0 ys0 n1 b0 _ u (by rw [← HN0.out] at hu0; exact hu0)
  clear hr0 hys0 hlen0 hrs hrn
  go_enter Try.func7, Try.ntmps7
  go_wp2_with fail
  refine (HT0.out _ HR0.out).mono ?_
  rintro e w1 ⟨t0, rfl, o, hb⟩
  have Bw1 : Below w.heap.size w w1 := hb
  have T0 : Hid (w1.ownsRow w.heap.size 2 1 t0 len0 (ys0.map (Value.int .i64))) := o
  have UT0 : Hid (w.heap.size ≤ w1.heap.size ∧ ∀ k, t0.ownBlock = some k → k < w1.heap.size) := ⟨hb.size, fun k hk => (o.lt k hk).2⟩
  clear hb o
  go_wp2_with fail
  refine (HS.out t0 _ _ T0.out).mono ?_
  rintro e w2 ⟨o0, etO0, rfl, o, hb⟩
  rw [HRN.out] at o
  have Bw2 : Below w.heap.size w w2 := Bw1.trans (hb.mono Bw1.size)
  replace T0 : Hid (w2.ownsRow w.heap.size 2 1 t0 len0 (ys0.map (Value.int .i64))) := own_below T0.out hb
  have O0 : Hid (w2.ownsRow w1.heap.size etO0 1 o0 rn (rs.map (Value.int .i64))) := o
  have UO0 : Hid (w1.heap.size ≤ w2.heap.size ∧ ∀ k, o0.ownBlock = some k → k < w2.heap.size) := ⟨hb.size, fun k hk => (o.lt k hk).2⟩
  clear hb o
  clear T0 UT0
  go_wp2_with fail
  refine (HT0.out _ (HR0.out.below Bw2)).mono ?_
  rintro e w3 ⟨x0, rfl, o, hb⟩
  have Bw3 : Below w.heap.size w w3 := Bw2.trans (hb.mono Bw2.size)
  replace O0 : Hid (w3.ownsRow w1.heap.size etO0 1 o0 rn (rs.map (Value.int .i64))) := own_below O0.out hb
  have X0 : Hid (w3.ownsRow w2.heap.size 2 1 x0 len0 (ys0.map (Value.int .i64))) := o
  have UX0 : Hid (w2.heap.size ≤ w3.heap.size ∧ ∀ k, x0.ownBlock = some k → k < w3.heap.size) := ⟨hb.size, fun k hk => (o.lt k hk).2⟩
  clear hb o
  go_wp2_with fail
  refine (HI.out x0 _ _ X0.out).mono ?_
  rintro e w4 ⟨g0, etG0, rfl, o, hb⟩
  rw [HRN.out] at o
  have Bw4 : Below w.heap.size w w4 := Bw3.trans (hb.mono Bw3.size)
  replace O0 : Hid (w4.ownsRow w1.heap.size etO0 1 o0 rn (rs.map (Value.int .i64))) := own_below O0.out hb
  replace X0 : Hid (w4.ownsRow w2.heap.size 2 1 x0 len0 (ys0.map (Value.int .i64))) := own_below X0.out hb
  have G0 : Hid (w4.ownsRow w3.heap.size etG0 1 g0 rn (rs.map (Value.int .i64))) := o
  have UG0 : Hid (w3.heap.size ≤ w4.heap.size ∧ ∀ k, g0.ownBlock = some k → k < w4.heap.size) := ⟨hb.size, fun k hk => (o.lt k hk).2⟩
  clear hb o
  have LBO0 : Hid (w.heap.size ≤ w1.heap.size) := by
    show _ ≤ _
    exact Bw1.size
  have LBX0 : Hid (w.heap.size ≤ w2.heap.size) := by
    show _ ≤ _
    exact Bw2.size
  have LBG0 : Hid (w.heap.size ≤ w3.heap.size) := by
    show _ ≤ _
    exact Bw3.size
  have D_O0_X0 : Hid (∀ k, o0.ownBlock = some k → x0.ownBlock ≠ some k) := by
    intro k h1 h2
    have q1 := UO0.out.2 k h1
    have q2 := (X0.out.lt k h2).1
    omega
  have D_O0_G0 : Hid (∀ k, o0.ownBlock = some k → g0.ownBlock ≠ some k) := by
    intro k h1 h2
    have q1 := UO0.out.2 k h1
    have q2 := (G0.out.lt k h2).1
    have q_X0 := UX0.out.1
    omega
  have D_X0_G0 : Hid (∀ k, x0.ownBlock = some k → g0.ownBlock ≠ some k) := by
    intro k h1 h2
    have q1 := UX0.out.2 k h1
    have q2 := (G0.out.lt k h2).1
    omega
  clear UO0
  clear UX0
  clear UG0
  go_wp2_with fail
  refine (eqG_same g0 o0 rs rn _ _ _ _ _ HRN.out (by omega) G0.out O0.out).mono ?_
  rintro e w5 ⟨rfl, mm, hw⟩
  have hb : Below w4.heap.size w4 w5 := by rw [hw]; exact below_drewN (Below.refl _ _) _
  have Bw5 : Below w.heap.size w w5 := Bw4.trans (hb.mono Bw4.size)
  replace O0 : Hid (w5.ownsRow w1.heap.size etO0 1 o0 rn (rs.map (Value.int .i64))) := own_below O0.out hb
  replace X0 : Hid (w5.ownsRow w2.heap.size 2 1 x0 len0 (ys0.map (Value.int .i64))) := own_below X0.out hb
  replace G0 : Hid (w5.ownsRow w3.heap.size etG0 1 g0 rn (rs.map (Value.int .i64))) := own_below G0.out hb
  clear hw hb
  go_wp2_with fail
  refine (HT0.out _ (HR0.out.below Bw5)).mono ?_
  rintro e w6 ⟨y0, rfl, o, hb⟩
  have Bw6 : Below w.heap.size w w6 := Bw5.trans (hb.mono Bw5.size)
  replace O0 : Hid (w6.ownsRow w1.heap.size etO0 1 o0 rn (rs.map (Value.int .i64))) := own_below O0.out hb
  replace X0 : Hid (w6.ownsRow w2.heap.size 2 1 x0 len0 (ys0.map (Value.int .i64))) := own_below X0.out hb
  replace G0 : Hid (w6.ownsRow w3.heap.size etG0 1 g0 rn (rs.map (Value.int .i64))) := own_below G0.out hb
  have Y0 : Hid (w6.ownsRow w5.heap.size 2 1 y0 len0 (ys0.map (Value.int .i64))) := o
  have UY0 : Hid (w5.heap.size ≤ w6.heap.size ∧ ∀ k, y0.ownBlock = some k → k < w6.heap.size) := ⟨hb.size, fun k hk => (o.lt k hk).2⟩
  clear hb o
  go_wp2_with fail
  refine (eqG_same x0 y0 ys0 len0 _ _ _ _ _ HN0.out (by omega) X0.out Y0.out).mono ?_
  rintro e w7 ⟨rfl, mm, hw⟩
  have hb : Below w6.heap.size w6 w7 := by rw [hw]; exact below_drewN (Below.refl _ _) _
  have Bw7 : Below w.heap.size w w7 := Bw6.trans (hb.mono Bw6.size)
  replace O0 : Hid (w7.ownsRow w1.heap.size etO0 1 o0 rn (rs.map (Value.int .i64))) := own_below O0.out hb
  replace X0 : Hid (w7.ownsRow w2.heap.size 2 1 x0 len0 (ys0.map (Value.int .i64))) := own_below X0.out hb
  replace G0 : Hid (w7.ownsRow w3.heap.size etG0 1 g0 rn (rs.map (Value.int .i64))) := own_below G0.out hb
  replace Y0 : Hid (w7.ownsRow w5.heap.size 2 1 y0 len0 (ys0.map (Value.int .i64))) := own_below Y0.out hb
  clear hw hb
  clear Y0 UY0
  go_wp2_with fail
  refine (markG_any x0 ys0 len0 _ _ (1) _ HN0.out (by omega) (by omega) (by omega) X0.out).mono ?_
  rintro e w8 ⟨rfl, o, hg⟩
  have hb : Below w.heap.size w7 w8 := below_wrote X0.out LBX0.out Bw7.size hg
  have Bw8 : Below w.heap.size w w8 := Bw7.trans hb
  replace O0 : Hid (w8.ownsRow w1.heap.size etO0 1 o0 rn (rs.map (Value.int .i64))) := own_sep O0.out X0.out D_O0_X0.out hg
  replace G0 : Hid (w8.ownsRow w3.heap.size etG0 1 g0 rn (rs.map (Value.int .i64))) := own_sep G0.out X0.out (fun k h1 h2 => D_X0_G0.out k h2 h1) hg
  replace X0 : Hid (w8.ownsRow w2.heap.size 2 1 x0 len0 ((mrk (1) ys0 len0).map (Value.int .i64))) := o
  clear hb hg o
  clear X0
  go_wp2_with fail
  refine (eqG_same g0 o0 rs rn _ _ _ _ _ HRN.out (by omega) G0.out O0.out).mono ?_
  rintro e w9 ⟨rfl, mm, hw⟩
  have hb : Below w8.heap.size w8 w9 := by rw [hw]; exact below_drewN (Below.refl _ _) _
  have Bw9 : Below w.heap.size w w9 := Bw8.trans (hb.mono Bw8.size)
  replace O0 : Hid (w9.ownsRow w1.heap.size etO0 1 o0 rn (rs.map (Value.int .i64))) := own_below O0.out hb
  replace G0 : Hid (w9.ownsRow w3.heap.size etG0 1 g0 rn (rs.map (Value.int .i64))) := own_below G0.out hb
  clear hw hb
  go_wp2_with fail
  refine (markG_any g0 rs rn _ _ (1) _ HRN.out (by omega) (by omega) (by omega) G0.out).mono ?_
  rintro e w10 ⟨rfl, o, hg⟩
  have hb : Below w.heap.size w9 w10 := below_wrote G0.out LBG0.out Bw9.size hg
  have Bw10 : Below w.heap.size w w10 := Bw9.trans hb
  replace O0 : Hid (w10.ownsRow w1.heap.size etO0 1 o0 rn (rs.map (Value.int .i64))) := own_sep O0.out G0.out D_O0_G0.out hg
  replace G0 : Hid (w10.ownsRow w3.heap.size etG0 1 g0 rn ((mrk (1) rs rn).map (Value.int .i64))) := o
  clear hb hg o
  have hne : ((1 + (rn : Int)) != (1 + (rn : Int))) = false := by simp
  go_wp2_with fail
  refine (heldG_any g0 rs rn _ _ 1 _ HRN.out (by omega) (by omega) (by omega) G0.out).mono ?_
  rintro e w11 ⟨rfl, mm, hw⟩
  have hb : Below w10.heap.size w10 w11 := by rw [hw]; exact below_drewN (Below.refl _ _) _
  have Bw11 : Below w.heap.size w w11 := Bw10.trans (hb.mono Bw10.size)
  replace O0 : Hid (w11.ownsRow w1.heap.size etO0 1 o0 rn (rs.map (Value.int .i64))) := own_below O0.out hb
  replace G0 : Hid (w11.ownsRow w3.heap.size etG0 1 g0 rn ((mrk (1) rs rn).map (Value.int .i64))) := own_below G0.out hb
  clear hw hb
  go_wp2_with fail
  refine (HT0.out _ (HR0.out.below Bw11)).mono ?_
  rintro e w12 ⟨z0, rfl, o, hb⟩
  have Bw12 : Below w.heap.size w w12 := Bw11.trans (hb.mono Bw11.size)
  replace O0 : Hid (w12.ownsRow w1.heap.size etO0 1 o0 rn (rs.map (Value.int .i64))) := own_below O0.out hb
  replace G0 : Hid (w12.ownsRow w3.heap.size etG0 1 g0 rn ((mrk (1) rs rn).map (Value.int .i64))) := own_below G0.out hb
  have Z0 : Hid (w12.ownsRow w11.heap.size 2 1 z0 len0 (ys0.map (Value.int .i64))) := o
  have UZ0 : Hid (w11.heap.size ≤ w12.heap.size ∧ ∀ k, z0.ownBlock = some k → k < w12.heap.size) := ⟨hb.size, fun k hk => (o.lt k hk).2⟩
  clear hb o
  go_wp2_with fail
  refine (HI.out z0 _ _ Z0.out).mono ?_
  rintro e w13 ⟨h0, etH0, rfl, o, hb⟩
  rw [HRN.out] at o
  have Bw13 : Below w.heap.size w w13 := Bw12.trans (hb.mono Bw12.size)
  replace O0 : Hid (w13.ownsRow w1.heap.size etO0 1 o0 rn (rs.map (Value.int .i64))) := own_below O0.out hb
  replace G0 : Hid (w13.ownsRow w3.heap.size etG0 1 g0 rn ((mrk (1) rs rn).map (Value.int .i64))) := own_below G0.out hb
  replace Z0 : Hid (w13.ownsRow w11.heap.size 2 1 z0 len0 (ys0.map (Value.int .i64))) := own_below Z0.out hb
  have H0 : Hid (w13.ownsRow w12.heap.size etH0 1 h0 rn (rs.map (Value.int .i64))) := o
  have UH0 : Hid (w12.heap.size ≤ w13.heap.size ∧ ∀ k, h0.ownBlock = some k → k < w13.heap.size) := ⟨hb.size, fun k hk => (o.lt k hk).2⟩
  clear hb o
  go_wp2_with fail
  refine (eqG_same h0 o0 rs rn _ _ _ _ _ HRN.out (by omega) H0.out O0.out).mono ?_
  rintro e w14 ⟨rfl, mm, hw⟩
  have hb : Below w13.heap.size w13 w14 := by rw [hw]; exact below_drewN (Below.refl _ _) _
  have Bw14 : Below w.heap.size w w14 := Bw13.trans (hb.mono Bw13.size)
  replace O0 : Hid (w14.ownsRow w1.heap.size etO0 1 o0 rn (rs.map (Value.int .i64))) := own_below O0.out hb
  replace G0 : Hid (w14.ownsRow w3.heap.size etG0 1 g0 rn ((mrk (1) rs rn).map (Value.int .i64))) := own_below G0.out hb
  replace Z0 : Hid (w14.ownsRow w11.heap.size 2 1 z0 len0 (ys0.map (Value.int .i64))) := own_below Z0.out hb
  replace H0 : Hid (w14.ownsRow w12.heap.size etH0 1 h0 rn (rs.map (Value.int .i64))) := own_below H0.out hb
  clear hw hb
  go_wp2_with fail
  refine (heldG_any g0 rs rn _ _ 1 _ HRN.out (by omega) (by omega) (by omega) G0.out).mono ?_
  rintro e w15 ⟨rfl, mm, hw⟩
  have hb : Below w14.heap.size w14 w15 := by rw [hw]; exact below_drewN (Below.refl _ _) _
  have Bw15 : Below w.heap.size w w15 := Bw14.trans (hb.mono Bw14.size)
  replace O0 : Hid (w15.ownsRow w1.heap.size etO0 1 o0 rn (rs.map (Value.int .i64))) := own_below O0.out hb
  replace G0 : Hid (w15.ownsRow w3.heap.size etG0 1 g0 rn ((mrk (1) rs rn).map (Value.int .i64))) := own_below G0.out hb
  replace Z0 : Hid (w15.ownsRow w11.heap.size 2 1 z0 len0 (ys0.map (Value.int .i64))) := own_below Z0.out hb
  replace H0 : Hid (w15.ownsRow w12.heap.size etH0 1 h0 rn (rs.map (Value.int .i64))) := own_below H0.out hb
  clear hw hb
  go_wp2
  go_ret
  exact ⟨rfl, Bw15⟩
end Go.Proofs.Ytoofkhghpdnkhaj
