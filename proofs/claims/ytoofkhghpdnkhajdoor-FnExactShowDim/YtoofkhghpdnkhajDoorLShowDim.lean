/- The walk of the law of ShowDim: both answer the same, and the list that was handed in stays. -/
import Derived.Test.YtoofkhghpdnkhajDoorDimS2
import Derived.Test.YtoofkhghpdnkhajDoorRowsI
import Derived.Test.YtoofkhghpdnkhajDoorArgW
namespace Go.Proofs.YtoofkhghpdnkhajDoor
open Go.RowKit Go.Proofs.YtoofkhghpdnkhajDoor.RM

set_option maxRecDepth 100000 in
set_option maxHeartbeats 2000000 in
theorem lawShowDim (a : Option Addr) (len cap : Nat) (zs : List Int) (w : World) (hr : IsRow .i64 w a len cap zs) (hP : PowD w.heap.size w) :
    Calls Tryd.prog 3 #[.slice a len cap] w fun e w' => e = .returned (.bool true) ∧ Below w.heap.size w w' := by
  by_cases hl : 1048576 < (len : Int)
  · clear hr
    go_enter Tryd.func3, Tryd.ntmps3
    go_wp2
    go_ret
    exact ⟨rfl, Below.refl _ _⟩
  have hl' : len ≤ 1048576 := by omega
  have hlen : (zs.take len).length = len := by
    rcases hr with ⟨rfl, _, _⟩ | ⟨b, off, _, h1, _, h3, _⟩
    · simp
    · rw [List.length_take]; omega
  have HR : Hid (IsRow .i64 w a len cap zs) := hr
  have HP := hidD hP
  obtain ⟨ys, hys⟩ : ∃ ys, ys = zs.take len := ⟨_, rfl⟩
  rw [← hys] at hlen
  have HN : Hid (ys.length = len) := hlen
  have HT : Hid (∀ u : World, IsRow .i64 u a len cap zs → Calls Tryd.prog 5 #[.slice a len cap] u fun e w' => ∃ v, e = .returned v ∧ w'.ownsRow u.heap.size 2 1 v len (ys.map (Value.int .i64)) ∧ Below u.heap.size u w') := by
    intro u hu; rw [hys]; exact toI_any a len cap zs u hu hl'
  obtain ⟨q, hq⟩ : ∃ q, q = (ByteArray.mk (showD ys).toArray) := ⟨_, rfl⟩
  have HS : Hid (∀ (v : Value) (b : Nat) (u : World), u.ownsRow b 2 1 v len (ys.map (Value.int .i64)) → Calls Tryd.prog 4 #[v] u fun e w' => e = .returned (.string q) ∧ Below u.heap.size u w') := by
    intro v b u hu; rw [hq]; exact sShowD_any v ys b 2 u (by rw [← HN.out] at hu; exact hu)
  have HI : Hid (∀ (v : Value) (b : Nat) (u : World), Below w.heap.size w u → u.ownsRow b 2 1 v len (ys.map (Value.int .i64)) → Calls Tryd.prog 6 #[v] u fun e w' => e = .returned (.string q) ∧ Below u.heap.size u w') := by
    intro v b u hb hu; rw [hq]; exact iShowD_any v ys b 2 w.heap.size u (by rw [← HN.out] at hu; exact hu) (HP.out.below hb) hb.size
  clear hr hys hq hlen hP
  go_enter Tryd.func3, Tryd.ntmps3
  go_wp2_with fail
  refine (HT.out _ HR.out).mono ?_
  rintro e w1 ⟨v0, rfl, o0, B1⟩
  go_wp2_with fail
  refine (HS.out v0 _ _ o0).mono ?_
  rintro e w2 ⟨rfl, hb⟩
  have B2 := B1.trans (hb.mono B1.size)
  clear hb o0 B1
  go_wp2_with fail
  refine (HT.out _ (HR.out.below B2)).mono ?_
  rintro e w4 ⟨v1, rfl, o1, hb⟩
  have B4 := B2.trans (hb.mono B2.size)
  have O1 : Hid (w4.ownsRow w2.heap.size 2 1 v1 len (ys.map (Value.int .i64))) := o1
  clear hb o1
  go_wp2_with fail
  refine (HI.out v1 _ _ B4 O1.out).mono ?_
  rintro e w5 ⟨rfl, hb⟩
  have B5 := B4.trans (hb.mono B4.size)
  replace O1 : Hid (w5.ownsRow w2.heap.size 2 1 v1 len (ys.map (Value.int .i64))) := own_below O1.out hb
  clear hb
  go_wp2_with fail
  refine (HT.out _ (HR.out.below B5)).mono ?_
  rintro e w7 ⟨v2, rfl, o2, hb⟩
  have B7 := B5.trans (hb.mono B5.size)
  replace O1 : Hid (w7.ownsRow w2.heap.size 2 1 v1 len (ys.map (Value.int .i64))) := own_below O1.out hb
  have O2 : Hid (w7.ownsRow w5.heap.size 2 1 v2 len (ys.map (Value.int .i64))) := o2
  clear hb o2
  go_wp2_with fail
  refine (eqG_same v1 v2 ys len _ _ _ _ _ HN.out (by omega) O1.out O2.out).mono ?_
  rintro e w8 ⟨rfl, m8, hw8⟩
  have B8 : Below w.heap.size w w8 := by rw [hw8]; exact below_drewN B7 _
  clear hw8
  go_wp2
  go_ret
  exact ⟨rfl, B8⟩
end Go.Proofs.YtoofkhghpdnkhajDoor
