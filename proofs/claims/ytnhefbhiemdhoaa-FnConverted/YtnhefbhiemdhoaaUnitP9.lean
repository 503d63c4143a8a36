/- What the program tells of a unit text: UnitOf, Dims, the zero of degrees. -/
import Derived.Test.YtnhefbhiemdhoaaUnitP8
import Derived.Test.YtnhefbhiemdhoaaUnitR
namespace Go.Proofs.Ytnhefbhiemdhoaa
open Go.RowKit Go.MapKept Go.Proofs.Ytnhefbhiemdhoaa.RM

/-- what is told of a unit text -/
def unitT (l : List UInt8) : Int × Int × List Int × Bool := told ((unitI l).getD .zero, (unitI l).isSome)

set_option maxRecDepth 100000 in
set_option maxHeartbeats 1000000 in
theorem iUnitOf_any (s : ByteArray) (w : World) (hs : s.size ≤ 1048576) (ha : ∀ b ∈ s.data.toList, b.toNat < 128) :
    Calls Try.prog 10 #[.string s] w fun e w' => ∃ v, e = .returned (.tuple #[.agg #[.int .i64 (unitT s.data.toList).1, .int .i64 (unitT s.data.toList).2.1], v, .bool (unitT s.data.toList).2.2.2]) ∧ RowU w' w.heap.size v (unitT s.data.toList).2.2.1 ∧ Below w.heap.size w w' := by
  have b0 : ∀ (u : World) (o : Obj), Below u.heap.size u (u.alloc o) := fun u o => (Below.refl _ _).alloc (Nat.le_refl _) o
  obtain ⟨p, hp⟩ : ∃ p, p = ((unitI s.data.toList).getD .zero, (unitI s.data.toList).isSome) := ⟨_, rfl⟩
  obtain ⟨q, hq⟩ : ∃ q, q = told p := ⟨_, rfl⟩
  have HW : Hid (∀ W, Calls Try.prog 23 #[.string s] W fun e w' => e = .returned (.tuple #[uVal p.1, .bool p.2]) ∧ Below W.heap.size W w') := fun W => by rw [hp]; exact unitOf_any s W hs ha
  have HS : Hid (∀ W, Calls Try.prog 27 #[uVal p.1, .bool p.2] W fun e w' => ∃ v, e = .returned (.tuple #[.agg #[.int .i64 q.1, .int .i64 q.2.1], v, .bool q.2.2.2]) ∧ RowU w' W.heap.size v q.2.2.1 ∧ Below W.heap.size W w') := fun W => by rw [hq]; exact shown_any p W
  rw [show unitT s.data.toList = q by rw [hq, hp]; rfl]
  clear hq hp ha
  obtain ⟨n, d, xs, o⟩ := q
  obtain ⟨u, b⟩ := p
  obtain ⟨V, hV⟩ : ∃ V, V = uVal u := ⟨_, rfl⟩
  simp only [← hV] at HW HS ⊢
  clear hV
  go_enter Try.func10, Try.ntmps10
  go_wp2_with fail
  refine (HW.out _).mono ?_
  rintro e w1 ⟨rfl, hb⟩
  have hZ : IsB w1 w.heap.size #[.int .i64 0, .int .i64 0] 25 := (IsB.new w _ _).below hb
  have hBw : Below w.heap.size w w1 := (b0 _ _).trans (hb.mono (by simp))
  obtain ⟨Z, hZe⟩ : ∃ Z, Z = w.heap.size := ⟨_, rfl⟩
  have hZw : Hid (w.heap.size ≤ Z) := Nat.le_of_eq hZe.symm
  rw [← hZe] at hZ ⊢
  clear hb hZe
  go_wp2_with fail
  refine (HS.out _).mono ?_
  rintro e w3 ⟨v, rfl, hv, hb⟩
  have hvZ := ((hv.other (show Z < w1.heap.size from hZ.lt) 0 (.int .i64 n)).other (show Z < w1.heap.size from hZ.lt) 1 (.int .i64 d)).mono hBw.size
  replace hZ := hZ.below hb
  replace hBw := hBw.trans (hb.mono hBw.size)
  have HV := hidU hvZ
  have HB := hidU ((hBw.setCell (p := ⟨Z, 0, none⟩) hZw.out (.int .i64 n)).setCell (p := ⟨Z, 1, none⟩) hZw.out (.int .i64 d))
  have z0 := hZ.cell (v := .int .i64 0) 0 rfl
  have z1 := hZ.cell (v := .int .i64 0) 1 rfl
  have f0 := hZ.frozen 0
  have f1 := hZ.frozen 1
  obtain ⟨e0, e1⟩ := new2 (n := .int .i64 n) (d := .int .i64 d) z0 z1
  clear hv hvZ hZ hBw hb
  go_wp2
  exact bodyPost_ret (v := .tuple #[.agg #[.int .i64 n, .int .i64 d], v, .bool o]) (by simp [results, Try.results10, go_sem, e0, e1]) rfl ⟨_, rfl, HV.out, HB.out⟩

set_option maxRecDepth 100000 in
set_option maxHeartbeats 1000000 in
theorem iDims_any (s : ByteArray) (w : World) (hs : s.size ≤ 1048576) (ha : ∀ b ∈ s.data.toList, b.toNat < 128) :
    Calls Try.prog 15 #[.string s] w fun e w' => ∃ v, e = .returned v ∧ RowU w' w.heap.size v (unitT s.data.toList).2.2.1 ∧ Below w.heap.size w w' := by
  have b0 : ∀ (u : World) (o : Obj), Below u.heap.size u (u.alloc o) := fun u o => (Below.refl _ _).alloc (Nat.le_refl _) o
  have HW := hidU (fun W => iUnitOf_any s W hs ha)
  obtain ⟨⟨n, d, xs, o⟩, hq⟩ : ∃ q, q = unitT s.data.toList := ⟨_, rfl⟩
  rw [← hq] at HW ⊢
  clear hq ha
  simp only at HW ⊢
  go_enter Try.func15, Try.ntmps15
  go_wp2_with fail
  refine (HW.out _).mono ?_
  rintro e w1 ⟨v, rfl, hv, hb⟩
  have HV := hidU hv
  have HB := hidU hb
  clear hv hb
  go_wp2
  go_ret
  exact ⟨v, rfl, HV.out.below (b0 _ _), HB.out.alloc HB.out.size _⟩

theorem zeroOf_any (s : ByteArray) (w : World) :
    Calls Try.prog 56 #[.string s] w fun e w' => e = .returned (.agg #[.int .i64 (if s.data.toList = [67] then 5463 else 0), .int .i64 (if s.data.toList = [67] then 20 else 1)]) ∧ Below w.heap.size w w' := by
  have b0 : ∀ (u : World) (o : Obj), Below u.heap.size u (u.alloc o) := fun u o => (Below.refl _ _).alloc (Nat.le_refl _) o
  by_cases h : s.data.toList = [67]
  · have hy : s.toList = [67] := by rw [ByteArray.toList_eq]; exact h
    rw [if_pos h, if_pos h]
    clear h
    go_enter Try.func56, Try.ntmps56
    go_wp2
    exact bodyPost_ret (v := .agg #[.int .i64 5463, .int .i64 20]) (by simp [results, Try.results56, go_sem]) rfl ⟨rfl, b0 _ _⟩
  · have hy : (s.toList == [67]) = false := beq_eq_false_iff_ne.2 (by rw [ByteArray.toList_eq]; exact h)
    rw [if_neg h, if_neg h]
    clear h
    go_enter Try.func56, Try.ntmps56
    go_wp2
    exact bodyPost_ret (v := .agg #[.int .i64 0, .int .i64 1]) (by simp [results, Try.results56, go_sem]) rfl ⟨rfl, b0 _ _⟩
end Go.Proofs.Ytnhefbhiemdhoaa
