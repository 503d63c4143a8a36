/- The walk of the law of Terms: both answers are the same list, the program's in memory of its own. -/
import Derived.Test.YtmlnabgmibhfhahRowsW
namespace Go.Proofs.Ytmlnabgmibhfhah
open Go.RowKit Go.Proofs.Ytmlnabgmibhfhah.RM

theorem toR_any (n d : Int) (w : World) :
    Calls Try.prog 8 #[.agg #[.int .i64 n, .int .i64 d]] w fun e w' => e = .returned (.agg #[.int .i64 n, .int .i64 d]) ∧ Below w.heap.size w w' := by
  go_enter Try.func8, Try.ntmps8
  go_wp2
  exact bodyPost_ret (v := .agg #[.int .i64 n, .int .i64 d]) (by simp [results, Try.results8, go_sem]) rfl ⟨rfl, (((Below.refl _ _).alloc (Nat.le_refl _) _).alloc (by simp) _).alloc (by simp <;> omega) _⟩
theorem keep2 {w w' : World} {x : Nat} {a b : Int} (hb : Below w.heap.size w w') (h : w.cell? ⟨x, 0, none⟩ = some (.int .i64 a) ∧ w.cell? ⟨x, 1, none⟩ = some (.int .i64 b)) : w'.cell? ⟨x, 0, none⟩ = some (.int .i64 a) ∧ w'.cell? ⟨x, 1, none⟩ = some (.int .i64 b) :=
  ⟨(hb.cell (p := ⟨x, 0, none⟩) (World.block_lt_of_cell? w _ h.1)).trans h.1, (hb.cell (p := ⟨x, 1, none⟩) (World.block_lt_of_cell? w _ h.2)).trans h.2⟩
/-- a row that lies ahead of another one is not turned with it -/
theorem own_apart {w w' : World} {base base' : Nat} {e : TypeId} {size size' : Nat} {v v' : Value} {n n' : Nat} {xs xs' : List Value} (h : w.ownsRow base e size v n xs) (h' : w.ownsRow base' e size' v' n' xs') (hlt : ∀ k, v.ownBlock = some k → k < base') (hg : w.grownBy w' v'.ownBlock) : w'.ownsRow base e size v n xs := by
  refine h.kept hg ?_
  by_cases k : v.ownBlock = none
  · exact .inl k
  · refine .inr fun e' => ?_
    obtain ⟨j, hj⟩ := Option.ne_none_iff_exists'.mp k
    have h1 := hlt j hj
    have h2 := (h'.lt j (e' ▸ hj)).1
    omega
theorem below_grown {w w' : World} {B base : Nat} {e : TypeId} {size : Nat} {v : Value} {n : Nat} {xs : List Value} (h : w.ownsRow base e size v n xs) (hB : B ≤ base) (hs : B ≤ w.heap.size) (hg : w.grownBy w' v.ownBlock) : Below B w w' :=
  (Below.refl B w).grown hg hs (fun j ej => by have := (h.lt j ej).1; omega)

set_option maxRecDepth 100000 in
set_option maxHeartbeats 2000000 in
theorem lawTerms (a b : Int) (w : World) :
    Calls Try.prog 4 #[.agg #[.int .i64 a, .int .i64 b]] w fun e w' => e = .returned (.bool true) ∧ Below w.heap.size w w' := by
  obtain ⟨zs, hzs⟩ : ∃ zs, zs = termsL a b := ⟨_, rfl⟩
  obtain ⟨n, hn⟩ : ∃ n, zs.length = n := ⟨_, rfl⟩
  have hn2 : n ≤ 1000000000 := by rw [← hn, hzs]; exact termsL_len a b
  have HS : Hid (∀ u : World, Calls Try.prog 10 #[.agg #[.int .i64 a, .int .i64 b]] u fun e w' => ∃ v, e = .returned v ∧ w'.ownsRow u.heap.size 2 1 v n (zs.map (Value.int .i64)) ∧ Below u.heap.size u w') := by
    intro u; have := sTerms_any a b u; rw [← hzs, hn] at this; exact this
  have HI : Hid (∀ u : World, Calls Try.prog 11 #[.agg #[.int .i64 a, .int .i64 b]] u fun e w' => ∃ v, e = .returned v ∧ w'.ownsRow u.heap.size 2 1 v n (zs.map (Value.int .i64)) ∧ Below u.heap.size u w') := by
    intro u; have := iTerms_any a b u; rw [← hzs, hn] at this; exact this
  have HN : Hid (zs.length = n) := hn
  clear hzs hn
  go_enter Try.func4, Try.ntmps4
  go_wp2_with fail
  refine (toR_any a b _).mono ?_
  rintro e w1 ⟨rfl, hb⟩
  have B1 : Below w.heap.size w w1 := ((Below.refl _ _).alloc (Nat.le_refl _) _).trans (hb.mono (by simp))
  obtain ⟨k0, k1⟩ := keep2 (x := w.heap.size) (a := a) (b := b) hb ⟨by simp [go_sem], by simp [go_sem]⟩
  clear hb
  go_wp2_with fail
  refine (HS.out _).mono ?_
  rintro e w2 ⟨v0, rfl, o0, hb⟩
  have B2 := B1.trans (hb.mono B1.size)
  obtain ⟨k0', k1'⟩ := keep2 hb ⟨k0, k1⟩
  have L0 : Hid (∀ k, v0.ownBlock = some k → k < w2.heap.size) := fun k hk => (o0.lt k hk).2
  have O0 : Hid (w2.ownsRow w1.heap.size 2 1 v0 n (zs.map (Value.int .i64))) := o0
  clear hb k0 k1 o0
  go_wp2_with fail
  refine (toR_any a b _).mono ?_
  rintro e w3 ⟨rfl, hb⟩
  have B3 := B2.trans (hb.mono B2.size)
  obtain ⟨k0, k1⟩ := keep2 hb ⟨k0', k1'⟩
  have L1 : Hid (∀ k, v0.ownBlock = some k → k < w3.heap.size) := fun k hk => Nat.lt_of_lt_of_le (L0.out k hk) hb.size
  replace O0 : Hid (w3.ownsRow w1.heap.size 2 1 v0 n (zs.map (Value.int .i64))) := own_below O0.out hb
  clear hb k0' k1' L0
  go_wp2_with fail
  refine (HI.out _).mono ?_
  rintro e w4 ⟨v1, rfl, o1, hb⟩
  have B4 := B3.trans (hb.mono B3.size)
  obtain ⟨k0', k1'⟩ := keep2 hb ⟨k0, k1⟩
  have hw3 : w.heap.size ≤ w3.heap.size := B3.size
  have hlt : w.heap.size < w3.heap.size := World.block_lt_of_cell? w3 _ k0
  have HW3 : Hid (w3.heap.size ≤ w4.heap.size) := hb.size
  replace O0 : Hid (w4.ownsRow w1.heap.size 2 1 v0 n (zs.map (Value.int .i64))) := own_below O0.out hb
  have O1 : Hid (w4.ownsRow w3.heap.size 2 1 v1 n (zs.map (Value.int .i64))) := o1
  clear hb k0 k1 o1
  go_wp2_with fail
  refine (eqI_same v1 v0 zs n _ _ _ HN.out hn2 O1.out O0.out).mono ?_
  rintro e w5 ⟨rfl, m5, hw5⟩
  have B5 : Below w.heap.size w w5 := by rw [hw5]; exact below_drewN B4 _
  obtain ⟨k0, k1⟩ : w5.cell? ⟨w.heap.size, 0, none⟩ = some (.int .i64 a) ∧ w5.cell? ⟨w.heap.size, 1, none⟩ = some (.int .i64 b) := by rw [hw5]; exact keep2 (below_drewN (Below.refl _ _) _) ⟨k0', k1'⟩
  replace O0 : Hid (w5.ownsRow w1.heap.size 2 1 v0 n (zs.map (Value.int .i64))) := by rw [hw5]; exact own_drewN O0.out _
  replace O1 : Hid (w5.ownsRow w3.heap.size 2 1 v1 n (zs.map (Value.int .i64))) := by rw [hw5]; exact own_drewN O1.out _
  replace HW3 : Hid (w3.heap.size ≤ w5.heap.size) := by show _ ≤ _; rw [hw5]; simpa using HW3.out
  clear hw5 k0' k1'
  go_wp2_with fail
  refine (markI_any v1 zs n _ _ HN.out hn2 O1.out).mono ?_
  rintro e w6 ⟨rfl, o1, hg⟩
  have hb6 : Below w3.heap.size w5 w6 := below_grown O1.out (Nat.le_refl _) HW3.out hg
  have B6 : Below w.heap.size w w6 := B5.trans (hb6.mono hw3)
  replace O0 : Hid (w6.ownsRow w1.heap.size 2 1 v0 n (zs.map (Value.int .i64))) := own_apart O0.out O1.out L1.out hg
  replace O1 : Hid (w6.ownsRow w3.heap.size 2 1 v1 n ((mrk 1 zs n).map (Value.int .i64))) := o1
  have k0' : w6.cell? ⟨w.heap.size, 0, none⟩ = some (.int .i64 a) := (hb6.cell (p := ⟨w.heap.size, 0, none⟩) hlt).trans k0
  have k1' : w6.cell? ⟨w.heap.size, 1, none⟩ = some (.int .i64 b) := (hb6.cell (p := ⟨w.heap.size, 1, none⟩) hlt).trans k1
  clear hb6 hg o1 k0 k1
  go_wp2_with fail
  refine (heldI_any v1 zs n _ _ HN.out hn2 O1.out).mono ?_
  rintro e w7 ⟨rfl, m7, hw7⟩
  have hb : Below w6.heap.size w6 w7 := by rw [hw7]; exact below_drewN (Below.refl _ _) _
  have B7 := B6.trans (hb.mono B6.size)
  obtain ⟨k0, k1⟩ := keep2 hb ⟨k0', k1'⟩
  replace O0 : Hid (w7.ownsRow w1.heap.size 2 1 v0 n (zs.map (Value.int .i64))) := own_below O0.out hb
  replace O1 : Hid (w7.ownsRow w3.heap.size 2 1 v1 n ((mrk 1 zs n).map (Value.int .i64))) := own_below O1.out hb
  clear hw7 hb k0' k1'
  have hne : ((1 + (n : Int)) != (1 + (n : Int))) = false := by simp
  go_wp2_with fail
  refine (toR_any a b _).mono ?_
  rintro e w8 ⟨rfl, hb⟩
  have B8 := B7.trans (hb.mono B7.size)
  replace O0 : Hid (w8.ownsRow w1.heap.size 2 1 v0 n (zs.map (Value.int .i64))) := own_below O0.out hb
  replace O1 : Hid (w8.ownsRow w3.heap.size 2 1 v1 n ((mrk 1 zs n).map (Value.int .i64))) := own_below O1.out hb
  clear hb k0 k1
  go_wp2_with fail
  refine (HI.out _).mono ?_
  rintro e w9 ⟨v2, rfl, o2, hb⟩
  have B9 := B8.trans (hb.mono B8.size)
  replace O0 : Hid (w9.ownsRow w1.heap.size 2 1 v0 n (zs.map (Value.int .i64))) := own_below O0.out hb
  replace O1 : Hid (w9.ownsRow w3.heap.size 2 1 v1 n ((mrk 1 zs n).map (Value.int .i64))) := own_below O1.out hb
  have O2 : Hid (w9.ownsRow w8.heap.size 2 1 v2 n (zs.map (Value.int .i64))) := o2
  clear hb o2
  go_wp2_with fail
  refine (eqI_same v2 v0 zs n _ _ _ HN.out hn2 O2.out O0.out).mono ?_
  rintro e w10 ⟨rfl, m10, hw10⟩
  have B10 : Below w.heap.size w w10 := by rw [hw10]; exact below_drewN B9 _
  replace O1 : Hid (w10.ownsRow w3.heap.size 2 1 v1 n ((mrk 1 zs n).map (Value.int .i64))) := by rw [hw10]; exact own_drewN O1.out _
  clear hw10 O0 O2
  go_wp2_with fail
  refine (heldI_any v1 zs n _ _ HN.out hn2 O1.out).mono ?_
  rintro e w11 ⟨rfl, m11, hw11⟩
  have B11 : Below w.heap.size w w11 := by rw [hw11]; exact below_drewN B10 _
  clear hw11
  go_wp2
  go_ret
  exact ⟨rfl, B11⟩
end Go.Proofs.Ytmlnabgmibhfhah
