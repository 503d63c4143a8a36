/- The walk of the law of FromTerms: both answers are the same, and the list that was handed in stays. -/
import Derived.Test.YtmlnabgmibhfhahFromWS
import Derived.Test.YtmlnabgmibhfhahFromWI
import Derived.Test.YtmlnabgmibhfhahArgW
namespace Go.Proofs.Ytmlnabgmibhfhah
open Go.RowKit Go.Proofs.Ytmlnabgmibhfhah.RM

set_option maxRecDepth 100000 in
set_option maxHeartbeats 2000000 in
theorem lawFromTerms (a : Option Addr) (len cap : Nat) (zs : List Int) (w : World) (hr : IsRow .i64 w a len cap zs) :
    Calls Try.prog 5 #[.slice a len cap] w fun e w' => e = .returned (.bool true) ∧ Below w.heap.size w w' := by
  by_cases hl : 1048576 < (len : Int)
  · clear hr
    go_enter Try.func5, Try.ntmps5
    go_wp2
    go_ret
    exact ⟨rfl, Below.refl _ _⟩
  have hl' : len ≤ 1048576 := by omega
  have hlen : (zs.take len).length = len := by
    rcases hr with ⟨rfl, _, _⟩ | ⟨b, off, _, h1, _, h3, _⟩
    · simp
    · rw [List.length_take]; omega
  have HR : Hid (IsRow .i64 w a len cap zs) := hr
  obtain ⟨ys, hys⟩ : ∃ ys, ys = zs.take len := ⟨_, rfl⟩
  rw [← hys] at hlen
  have HN : Hid (ys.length = len) := hlen
  have HT : Hid (∀ u : World, IsRow .i64 u a len cap zs → Calls Try.prog 16 #[.slice a len cap] u fun e w' => ∃ v, e = .returned v ∧ w'.ownsRow u.heap.size 2 1 v len (ys.map (Value.int .i64)) ∧ Below u.heap.size u w') := by
    intro u hu; rw [hys]; exact toI_any a len cap zs u hu hl'
  obtain ⟨q, hq⟩ : ∃ q, q = fromT ys := ⟨_, rfl⟩
  obtain ⟨qn, qd, qo⟩ := q
  have HS : Hid (∀ (v : Value) (b : Nat) (u : World), u.ownsRow b 2 1 v len (ys.map (Value.int .i64)) → Calls Try.prog 15 #[v] u fun e w' => e = .returned (.tuple #[.agg #[.int .i64 qn, .int .i64 qd], .bool qo]) ∧ Below u.heap.size u w') := by
    intro v b u hu; have := sFrom_any v ys len b u HN.out (by omega) hu; rw [← hq] at this; exact this
  have HI : Hid (∀ (v : Value) (b : Nat) (u : World), u.ownsRow b 2 1 v len (ys.map (Value.int .i64)) → Calls Try.prog 17 #[v] u fun e w' => e = .returned (.tuple #[.agg #[.int .i64 qn, .int .i64 qd], .bool qo]) ∧ Below u.heap.size u w') := by
    intro v b u hu; have := iFrom_any v ys len b u HN.out (by omega) hu; rw [← hq] at this; exact this
  have eq1 : (qo != qo) = false := by simp
  clear hr hys hq hlen
  go_enter Try.func5, Try.ntmps5
  go_wp2_with fail
  refine (HT.out _ HR.out).mono ?_
  rintro e w1 ⟨v0, rfl, o0, B1⟩
  go_wp2_with fail
  refine (HS.out v0 _ _ o0).mono ?_
  rintro e w2 ⟨rfl, hb⟩
  have B2 := B1.trans (hb.mono B1.size)
  have r0 := IsR.new w2 qn qd
  obtain ⟨X, hX⟩ : ∃ X, X = w2.heap.size := ⟨_, rfl⟩
  have B3 : Below w.heap.size w (w2.alloc (.cells #[.int .i64 qn, .int .i64 qd] 25)) := B2.alloc B2.size _
  rw [← hX] at r0
  obtain ⟨w3, hw3⟩ : ∃ w3, w3 = w2.alloc (.cells #[.int .i64 qn, .int .i64 qd] 25) := ⟨_, rfl⟩
  rw [← hw3] at r0 B3
  clear hb o0 B1 B2
  go_wp2_with fail
  rw [← hX, ← hw3]
  clear hX hw3
  refine (HT.out _ (HR.out.below B3)).mono ?_
  rintro e w4 ⟨v1, rfl, o1, hb⟩
  have B4 := B3.trans (hb.mono B3.size)
  have r1 := r0.below hb
  have O1 : Hid (w4.ownsRow w3.heap.size 2 1 v1 len (ys.map (Value.int .i64))) := o1
  clear hb o1 r0
  go_wp2_with fail
  refine (HI.out v1 _ _ O1.out).mono ?_
  rintro e w5 ⟨rfl, hb⟩
  have B5 := B4.trans (hb.mono B4.size)
  have r2 := r1.below hb
  have c0 := r2.c0
  have c1 := r2.c1
  replace O1 : Hid (w5.ownsRow w3.heap.size 2 1 v1 len (ys.map (Value.int .i64))) := own_below O1.out hb
  have hXl := r2.lt
  clear hb r1
  go_wp2_with fail
  refine (eq_same _ _ _).mono ?_
  rintro e w6 ⟨rfl, hb⟩
  have B6 := (B5.alloc B5.size (.cells #[.int .i64 qn, .int .i64 qd] 25)).trans (hb.mono (by have := B5.size; simp; omega))
  replace O1 : Hid (w6.ownsRow w3.heap.size 2 1 v1 len (ys.map (Value.int .i64))) := own_below (O1.out.alloc _) hb
  clear hb c0 c1 r2 hXl
  go_wp2_with fail
  refine (HT.out _ (HR.out.below B6)).mono ?_
  rintro e w7 ⟨v2, rfl, o2, hb⟩
  have B7 := B6.trans (hb.mono B6.size)
  replace O1 : Hid (w7.ownsRow w3.heap.size 2 1 v1 len (ys.map (Value.int .i64))) := own_below O1.out hb
  have O2 : Hid (w7.ownsRow w6.heap.size 2 1 v2 len (ys.map (Value.int .i64))) := o2
  clear hb o2
  go_wp2_with fail
  refine (eqI_same v1 v2 ys len _ _ _ HN.out (by omega) O1.out O2.out).mono ?_
  rintro e w8 ⟨rfl, m8, hw8⟩
  have B8 : Below w.heap.size w w8 := by rw [hw8]; exact below_drewN B7 _
  clear hw8
  go_wp2
  go_ret
  exact ⟨rfl, B8⟩
end Go.Proofs.Ytmlnabgmibhfhah
