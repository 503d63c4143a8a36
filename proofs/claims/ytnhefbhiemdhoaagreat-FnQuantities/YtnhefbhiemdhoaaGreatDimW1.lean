/- The walks of the program's dimensions: arrays of five numbers that are compared; the model's. -/
import Derived.Test.YtnhefbhiemdhoaaGreatRowsI
import Derived.Test.YtnhefbhiemdhoaaGreatDimMath
import Derived.Laws.CopyOwn
import Derived.Deep.DeepMust
import Derived.Deep.RegionWith
import Derived.ChangeKeysEq
namespace Go.Proofs.YtnhefbhiemdhoaaGreat
open Go.RowKit Go.Proofs.YtnhefbhiemdhoaaGreat.RM

theorem hidD {p : Prop} (h : p) : Hid p := h
/-- a number within -9 and 9 -/
def cl (x : Int) : Int := if -9 < (if x < 9 then x else 9) then (if x < 9 then x else 9) else -9
/-- five numbers as an array's value; a block that holds them -/
def arr (a b c d e : Int) : Array Value := #[.int .i64 a, .int .i64 b, .int .i64 c, .int .i64 d, .int .i64 e]
def IsD (W : World) (B : Nat) (a b c d e : Int) : Prop := W.heap[B]? = some (.cells (arr a b c d e) 53 (0, 0))
theorem IsD.lt {W : World} {B : Nat} {a b c d e : Int} (h : IsD W B a b c d e) : B < W.heap.size := (Array.getElem?_eq_some_iff.1 h).1
theorem IsD.below {W W' : World} {B : Nat} {a b c d e : Int} (h : IsD W B a b c d e) (hb : Below W.heap.size W W') : IsD W' B a b c d e := (hb.block B h.lt).trans h
theorem IsD.c {W : World} {B : Nat} {a b c d e : Int} (h : IsD W B a b c d e) : W.cell? ⟨B, 0, none⟩ = some (.int .i64 a) ∧ W.cell? ⟨B, 1, none⟩ = some (.int .i64 b) ∧ W.cell? ⟨B, 2, none⟩ = some (.int .i64 c) ∧ W.cell? ⟨B, 3, none⟩ = some (.int .i64 d) ∧ W.cell? ⟨B, 4, none⟩ = some (.int .i64 e) := by
  refine ⟨?_, ?_, ?_, ?_, ?_⟩ <;> simp [World.cell?, show W.heap[B]? = _ from h, arr]
theorem IsD.f {W : World} {B : Nat} {a b c d e : Int} (h : IsD W B a b c d e) (j : Nat) : W.frozen? ⟨B, j, none⟩ = false := by simp [World.frozen?, show W.heap[B]? = _ from h, arr]

theorem infoI2 : Tryz.prog.info? 2 = some (Tryz.prog.info? 2).get! := by kernel_rfl
theorem cellsI : Tryz.prog.cellsOf 2 = 1 := by kernel_rfl
theorem plainI : Tryz.prog.plainKey 2 = true := by kernel_rfl
theorem part1 {x0 x1 x2 x3 x4 : Int} {w : World} : (part 2 (arr x0 x1 x2 x3 x4) 0).run Tryz.prog w = .ok (.int .i64 x0) w ∧ (part 2 (arr x0 x1 x2 x3 x4) 1).run Tryz.prog w = .ok (.int .i64 x1) w ∧ (part 2 (arr x0 x1 x2 x3 x4) 2).run Tryz.prog w = .ok (.int .i64 x2) w ∧ (part 2 (arr x0 x1 x2 x3 x4) 3).run Tryz.prog w = .ok (.int .i64 x3) w ∧ (part 2 (arr x0 x1 x2 x3 x4) 4).run Tryz.prog w = .ok (.int .i64 x4) w :=
  ⟨run_part_plain w plainI rfl, run_part_plain w plainI rfl, run_part_plain w plainI rfl, run_part_plain w plainI rfl, run_part_plain w plainI rfl⟩
/-- two arrays of five are held against each other -/
theorem eq5 (s0 s1 s2 s3 s4 t0 t1 t2 t3 t4 : Int) (w : World) : (Op.equalIn 10000 53 (.agg #[.int .i64 s0, .int .i64 s1, .int .i64 s2, .int .i64 s3, .int .i64 s4]) (.agg #[.int .i64 t0, .int .i64 t1, .int .i64 t2, .int .i64 t3, .int .i64 t4])).run Tryz.prog w = .ok (s0 == t0 && (s1 == t1 && (s2 == t2 && (s3 == t3 && s4 == t4)))) w := by
  have h := run_equalIn_array w 9999 (t := 53) (arr s0 s1 s2 s3 s4) (arr t0 t1 t2 t3 t4) Tryz.underlying53 infoI2
  unfold arr at h
  rw [show (10000 : Nat) = 9999 + 1 from rfl, h]
  rw [cellsI, show List.range 5 = [0, 1, 2, 3, 4] from rfl]
  obtain ⟨p0, p1, p2, p3, p4⟩ := part1 (x0 := s0) (x1 := s1) (x2 := s2) (x3 := s3) (x4 := s4) (w := w)
  obtain ⟨q0, q1, q2, q3, q4⟩ := part1 (x0 := t0) (x1 := t1) (x2 := t2) (x3 := t3) (x4 := t4) (w := w)
  unfold arr at p0 p1 p2 p3 p4 q0 q1 q2 q3 q4
  have hi := fun (x y : Int) => run_equalIn_int (P := Tryz.prog) w 9998 2 .i64 .i64 x y Tryz.underlying2
  rw [show (9998 : Nat) + 1 = 9999 from rfl] at hi
  simp only [Op.eqItems, Sem.run_bind, p0, q0, Result.andThen_ok, hi]
  cases s0 == t0
  · simp
  simp only [Bool.not_true, Bool.false_eq_true, if_false, Sem.run_bind, p1, q1, Result.andThen_ok, hi, Bool.true_and]
  cases s1 == t1
  · simp
  simp only [Bool.not_true, Bool.false_eq_true, if_false, Sem.run_bind, p2, q2, Result.andThen_ok, hi, Bool.true_and]
  cases s2 == t2
  · simp
  simp only [Bool.not_true, Bool.false_eq_true, if_false, Sem.run_bind, p3, q3, Result.andThen_ok, hi, Bool.true_and]
  cases s3 == t3
  · simp
  simp only [Bool.not_true, Bool.false_eq_true, if_false, Sem.run_bind, p4, q4, Result.andThen_ok, hi, Bool.true_and]
  cases s4 == t4 <;> simp
/-- the first k of them turned -/
def pt (f : Int → Int) (j k : Nat) (x : Int) : Int := if j < k then f x else x
theorem IsD.set {W : World} {B : Nat} {a b c d e : Int} (h : IsD W B a b c d e) (j : Nat) (x : Int) : (W.setCell ⟨B, j, none⟩ (.int .i64 x)).heap[B]? = some (.cells ((arr a b c d e).setIfInBounds j (.int .i64 x)) 53 (0, 0)) := by
  obtain ⟨hlt, hk⟩ := Array.getElem?_eq_some_iff.1 h
  show (W.heap.modify B _)[B]? = _
  rw [Array.getElem?_eq_getElem (by rw [Array.size_modify]; exact hlt), Array.getElem_modify_self, hk]
  rfl
theorem IsD.other {W : World} {K b : Nat} {x1 x2 x3 x4 x5 : Int} (h : IsD W K x1 x2 x3 x4 x5) (hne : K ≠ b) (o : Nat) (v : Value) : IsD (W.setCell ⟨b, o, none⟩ v) K x1 x2 x3 x4 x5 := (Below.heap_setCell W ⟨b, o, none⟩ v K hne).trans h
theorem IsD.new (W : World) (a b c d e : Int) : IsD (W.alloc (.cells (arr a b c d e) 53)) W.heap.size a b c d e := World.alloc_heap_new W _

set_option maxRecDepth 100000 in
set_option maxHeartbeats 2000000 in
theorem lim_any (a b c d e : Int) (w : World) :
    Calls Tryz.prog 65 #[.agg (arr a b c d e)] w fun x w' => x = .returned (.agg (arr (cl a) (cl b) (cl c) (cl d) (cl e))) ∧ Below w.heap.size w w' := by
  have i0 : ∀ w, (Instr.index 53 (.agg #[.int .i64 a, .int .i64 b, .int .i64 c, .int .i64 d, .int .i64 e]) (.int .i64 0)).run Tryz.prog w = .ok (.int .i64 a) w := fun _ => by kernel_rfl
  have i1 : ∀ w, (Instr.index 53 (.agg #[.int .i64 a, .int .i64 b, .int .i64 c, .int .i64 d, .int .i64 e]) (.int .i64 1)).run Tryz.prog w = .ok (.int .i64 b) w := fun _ => by kernel_rfl
  have i2 : ∀ w, (Instr.index 53 (.agg #[.int .i64 a, .int .i64 b, .int .i64 c, .int .i64 d, .int .i64 e]) (.int .i64 2)).run Tryz.prog w = .ok (.int .i64 c) w := fun _ => by kernel_rfl
  have i3 : ∀ w, (Instr.index 53 (.agg #[.int .i64 a, .int .i64 b, .int .i64 c, .int .i64 d, .int .i64 e]) (.int .i64 3)).run Tryz.prog w = .ok (.int .i64 d) w := fun _ => by kernel_rfl
  have i4 : ∀ w, (Instr.index 53 (.agg #[.int .i64 a, .int .i64 b, .int .i64 c, .int .i64 d, .int .i64 e]) (.int .i64 4)).run Tryz.prog w = .ok (.int .i64 e) w := fun _ => by kernel_rfl
  have P0 := IsD.new w a b c d e
  have Q0 := IsD.new (w.alloc (.cells (arr a b c d e) 53)) 0 0 0 0 0
  have P1 := P0.below ((Below.refl _ _).alloc (Nat.le_refl _) (.cells (arr 0 0 0 0 0) 53))
  have B1 : Below w.heap.size w ((w.alloc (.cells (arr a b c d e) 53)).alloc (.cells (arr 0 0 0 0 0) 53)) := ((Below.refl _ _).alloc (Nat.le_refl _) _).alloc (by simp) _
  unfold arr at *
  clear P0
  go_enter Tryz.func65, Tryz.ntmps65
  go_wp2
  obtain ⟨X, hX⟩ : ∃ X, X = (w.alloc (.cells #[.int .i64 a, .int .i64 b, .int .i64 c, .int .i64 d, .int .i64 e] 53)).alloc (.cells #[.int .i64 0, .int .i64 0, .int .i64 0, .int .i64 0, .int .i64 0] 53) := ⟨_, rfl⟩
  obtain ⟨P, hP⟩ : ∃ P, P = w.heap.size := ⟨_, rfl⟩
  have hsz : (w.alloc (.cells #[.int .i64 a, .int .i64 b, .int .i64 c, .int .i64 d, .int .i64 e] 53)).heap.size = P + 1 := by simp [hP]
  rw [← hX, hsz] at Q0
  rw [← hX, ← hP] at P1
  rw [← hX] at B1
  rw [← hX, ← hP]
  have hwP : w.heap.size ≤ P := by omega
  clear hX hsz hP
  go_loopw [6] (fun i wr => ∃ k : Nat, k ≤ 5 ∧ i = .int .i64 k ∧ Hid (IsD wr P (pt cl 0 k a) (pt cl 1 k b) (pt cl 2 k c) (pt cl 3 k d) (pt cl 4 k e)) ∧ Hid (IsD wr (P + 1) 0 0 0 0 0) ∧ Hid (Below w.heap.size w wr)) (fun i _ => 5 - (intOf i).toNat)
  case atStart => exact ⟨0, Nat.zero_le _, rfl, P1, Q0, B1⟩
  case round =>
    clear P1 Q0 B1
    obtain ⟨k, hk, rfl, hP, hQ, hB⟩ := hrel
    obtain ⟨c0, c1, c2, c3, c4⟩ := hP.out.c
    have f0 := hP.out.f 0
    have f1 := hP.out.f 1
    have f2 := hP.out.f 2
    have f3 := hP.out.f 3
    have f4 := hP.out.f 4
    obtain rfl | rfl | rfl | rfl | rfl | rfl : k = 0 ∨ k = 1 ∨ k = 2 ∨ k = 3 ∨ k = 4 ∨ k = 5 := by omega
    · go_wp2
      go_roundw
      case rel => exact ⟨1, by omega, by go_num, hP.out.set 0 (cl a), hQ.out.other (by omega) _ _, hB.out.setCell (p := ⟨P, 0, none⟩) hwP _⟩
      case measure => simp [intOf]
    · go_wp2
      go_roundw
      case rel => exact ⟨2, by omega, by go_num, hP.out.set 1 (cl b), hQ.out.other (by omega) _ _, hB.out.setCell (p := ⟨P, 1, none⟩) hwP _⟩
      case measure => simp [intOf]
    · go_wp2
      go_roundw
      case rel => exact ⟨3, by omega, by go_num, hP.out.set 2 (cl c), hQ.out.other (by omega) _ _, hB.out.setCell (p := ⟨P, 2, none⟩) hwP _⟩
      case measure => simp [intOf]
    · go_wp2
      go_roundw
      case rel => exact ⟨4, by omega, by go_num, hP.out.set 3 (cl d), hQ.out.other (by omega) _ _, hB.out.setCell (p := ⟨P, 3, none⟩) hwP _⟩
      case measure => simp [intOf]
    · go_wp2
      go_roundw
      case rel => exact ⟨5, by omega, by go_num, hP.out.set 4 (cl e), hQ.out.other (by omega) _ _, hB.out.setCell (p := ⟨P, 4, none⟩) hwP _⟩
      case measure => simp [intOf]
    · have hQ2 := hQ.out
      obtain ⟨q0, q1, q2, q3, q4⟩ := hQ2.c
      have g0 := hQ2.f 0
      have g1 := hQ2.f 1
      have g2 := hQ2.f 2
      have g3 := hQ2.f 3
      have g4 := hQ2.f 4
      clear hQ2
      go_wp2
      exact bodyPost_ret (v := .agg #[.int .i64 (cl a), .int .i64 (cl b), .int .i64 (cl c), .int .i64 (cl d), .int .i64 (cl e)]) (by simp [results, Tryz.results65, go_sem, q0, q1, q2, q3, q4, pt]) rfl ⟨rfl, ((((hB.out.setCell (p := ⟨P + 1, 0, none⟩) (by show _ ≤ P + 1; omega) _).setCell (p := ⟨P + 1, 1, none⟩) (by show _ ≤ P + 1; omega) _).setCell (p := ⟨P + 1, 2, none⟩) (by show _ ≤ P + 1; omega) _).setCell (p := ⟨P + 1, 3, none⟩) (by show _ ≤ P + 1; omega) _).setCell (p := ⟨P + 1, 4, none⟩) (by show _ ≤ P + 1; omega) _⟩

/-- are all five within -9 and 9 -/
def lim5 (a b c d e : Int) : Bool := a == cl a && (b == cl b && (c == cl c && (d == cl d && e == cl e)))
/-- both of them, the first k added -/
def pt2 (f : Int → Int → Int) (j k : Nat) (x y : Int) : Int := if j < k then f x y else x
set_option maxRecDepth 100000 in
set_option maxHeartbeats 2000000 in
theorem dtimes_any (a b c d e a' b' c' d' e' : Int) (w : World) (ha : -9 ≤ a ∧ a ≤ 9) (hb : -9 ≤ b ∧ b ≤ 9) (hc : -9 ≤ c ∧ c ≤ 9) (hd : -9 ≤ d ∧ d ≤ 9) (he : -9 ≤ e ∧ e ≤ 9) (ha' : -9 ≤ a' ∧ a' ≤ 9) (hb' : -9 ≤ b' ∧ b' ≤ 9) (hc' : -9 ≤ c' ∧ c' ≤ 9) (hd' : -9 ≤ d' ∧ d' ≤ 9) (he' : -9 ≤ e' ∧ e' ≤ 9) :
    Calls Tryz.prog 33 #[.agg (arr a b c d e), .agg (arr a' b' c' d' e')] w fun x w' => x = .returned (.tuple #[.agg (arr (a + a') (b + b') (c + c') (d + d') (e + e')), .bool (lim5 (a + a') (b + b') (c + c') (d + d') (e + e'))]) ∧ Below w.heap.size w w' := by
  have i0 : ∀ w, (Instr.index 53 (.agg #[.int .i64 a', .int .i64 b', .int .i64 c', .int .i64 d', .int .i64 e']) (.int .i64 0)).run Tryz.prog w = .ok (.int .i64 a') w := fun _ => by kernel_rfl
  have i1 : ∀ w, (Instr.index 53 (.agg #[.int .i64 a', .int .i64 b', .int .i64 c', .int .i64 d', .int .i64 e']) (.int .i64 1)).run Tryz.prog w = .ok (.int .i64 b') w := fun _ => by kernel_rfl
  have i2 : ∀ w, (Instr.index 53 (.agg #[.int .i64 a', .int .i64 b', .int .i64 c', .int .i64 d', .int .i64 e']) (.int .i64 2)).run Tryz.prog w = .ok (.int .i64 c') w := fun _ => by kernel_rfl
  have i3 : ∀ w, (Instr.index 53 (.agg #[.int .i64 a', .int .i64 b', .int .i64 c', .int .i64 d', .int .i64 e']) (.int .i64 3)).run Tryz.prog w = .ok (.int .i64 d') w := fun _ => by kernel_rfl
  have i4 : ∀ w, (Instr.index 53 (.agg #[.int .i64 a', .int .i64 b', .int .i64 c', .int .i64 d', .int .i64 e']) (.int .i64 4)).run Tryz.prog w = .ok (.int .i64 e') w := fun _ => by kernel_rfl
  have P0 := IsD.new w a b c d e
  have P1 := P0.below ((Below.refl _ _).alloc (Nat.le_refl _) (.cells (arr a' b' c' d' e') 53))
  have P2 := P1.below ((Below.refl _ _).alloc (Nat.le_refl _) (.cells (arr 0 0 0 0 0) 53))
  have Q0 := IsD.new ((w.alloc (.cells (arr a b c d e) 53)).alloc (.cells (arr a' b' c' d' e') 53)) 0 0 0 0 0
  have B1 : Below w.heap.size w (((w.alloc (.cells (arr a b c d e) 53)).alloc (.cells (arr a' b' c' d' e') 53)).alloc (.cells (arr 0 0 0 0 0) 53)) := (((Below.refl _ _).alloc (Nat.le_refl _) _).alloc (by simp) _).alloc (by simp; omega) _
  obtain ⟨X, hX⟩ : ∃ X, X = ((w.alloc (.cells (arr a b c d e) 53)).alloc (.cells (arr a' b' c' d' e') 53)).alloc (.cells (arr 0 0 0 0 0) 53) := ⟨_, rfl⟩
  obtain ⟨P, hP⟩ : ∃ P, P = w.heap.size := ⟨_, rfl⟩
  have hsz : ((w.alloc (.cells (arr a b c d e) 53)).alloc (.cells (arr a' b' c' d' e') 53)).heap.size = P + 2 := by simp [hP]
  rw [← hX, hsz] at Q0
  rw [← hX, ← hP] at P2
  rw [← hX] at B1
  clear P0 P1 hsz
  unfold arr at hX ⊢
  go_enter Tryz.func33, Tryz.ntmps33
  go_wp2
  rw [← hX, ← hP]
  have hwP : w.heap.size ≤ P := by omega
  clear hX hP
  go_loopw [9] (fun i wr => ∃ k : Nat, k ≤ 5 ∧ i = .int .i64 k ∧ Hid (IsD wr P (pt2 (· + ·) 0 k a a') (pt2 (· + ·) 1 k b b') (pt2 (· + ·) 2 k c c') (pt2 (· + ·) 3 k d d') (pt2 (· + ·) 4 k e e')) ∧ Hid (IsD wr (P + 2) 0 0 0 0 0) ∧ Hid (Below w.heap.size w wr)) (fun i _ => 5 - (intOf i).toNat)
  case atStart => exact ⟨0, Nat.zero_le _, rfl, P2, Q0, B1⟩
  case round =>
    clear P2 Q0 B1
    obtain ⟨k, hk, rfl, hP, hQ, hB⟩ := hrel
    obtain ⟨c0, c1, c2, c3, c4⟩ := hP.out.c
    have f0 := hP.out.f 0
    have f1 := hP.out.f 1
    have f2 := hP.out.f 2
    have f3 := hP.out.f 3
    have f4 := hP.out.f 4
    obtain rfl | rfl | rfl | rfl | rfl | rfl : k = 0 ∨ k = 1 ∨ k = 2 ∨ k = 3 ∨ k = 4 ∨ k = 5 := by omega
    · simp only [pt2, Nat.reduceLT, if_false] at c0
      go_wp2
      go_roundw
      case rel => exact ⟨1, by omega, by go_num, hP.out.set 0 (a + a'), hQ.out.other (by omega) _ _, hB.out.setCell (p := ⟨P, 0, none⟩) hwP _⟩
      case measure => simp [intOf]
    · simp only [pt2, Nat.reduceLT, if_false] at c1
      go_wp2
      go_roundw
      case rel => exact ⟨2, by omega, by go_num, hP.out.set 1 (b + b'), hQ.out.other (by omega) _ _, hB.out.setCell (p := ⟨P, 1, none⟩) hwP _⟩
      case measure => simp [intOf]
    · simp only [pt2, Nat.reduceLT, if_false] at c2
      go_wp2
      go_roundw
      case rel => exact ⟨3, by omega, by go_num, hP.out.set 2 (c + c'), hQ.out.other (by omega) _ _, hB.out.setCell (p := ⟨P, 2, none⟩) hwP _⟩
      case measure => simp [intOf]
    · simp only [pt2, Nat.reduceLT, if_false] at c3
      go_wp2
      go_roundw
      case rel => exact ⟨4, by omega, by go_num, hP.out.set 3 (d + d'), hQ.out.other (by omega) _ _, hB.out.setCell (p := ⟨P, 3, none⟩) hwP _⟩
      case measure => simp [intOf]
    · simp only [pt2, Nat.reduceLT, if_false] at c4
      go_wp2
      go_roundw
      case rel => exact ⟨5, by omega, by go_num, hP.out.set 4 (e + e'), hQ.out.other (by omega) _ _, hB.out.setCell (p := ⟨P, 4, none⟩) hwP _⟩
      case measure => simp [intOf]
    · simp only [pt2, Nat.reduceLT, if_true] at c0 c1 c2 c3 c4
      obtain ⟨q0, q1, q2, q3, q4⟩ := hQ.out.c
      have g0 := hQ.out.f 0
      have g1 := hQ.out.f 1
      have g2 := hQ.out.f 2
      have g3 := hQ.out.f 3
      have g4 := hQ.out.f 4
      obtain ⟨s0, h0⟩ : ∃ s, s = a + a' := ⟨_, rfl⟩
      obtain ⟨s1, h1⟩ : ∃ s, s = b + b' := ⟨_, rfl⟩
      obtain ⟨s2, h2⟩ : ∃ s, s = c + c' := ⟨_, rfl⟩
      obtain ⟨s3, h3⟩ : ∃ s, s = d + d' := ⟨_, rfl⟩
      obtain ⟨s4, h4⟩ : ∃ s, s = e + e' := ⟨_, rfl⟩
      rw [← h0] at c0
      rw [← h1] at c1
      rw [← h2] at c2
      rw [← h3] at c3
      rw [← h4] at c4
      have HL : Hid (∀ u : World, Calls Tryz.prog 65 #[.agg #[.int .i64 s0, .int .i64 s1, .int .i64 s2, .int .i64 s3, .int .i64 s4]] u fun x w' => x = .returned (.agg #[.int .i64 (cl s0), .int .i64 (cl s1), .int .i64 (cl s2), .int .i64 (cl s3), .int .i64 (cl s4)]) ∧ Below u.heap.size u w') := fun u => lim_any s0 s1 s2 s3 s4 u
      have HD : Hid (IsD wr P s0 s1 s2 s3 s4) := by have := hP.out; simp only [pt2, Nat.reduceLT, if_true] at this; rw [h0, h1, h2, h3, h4]; exact this
      obtain ⟨q, hq⟩ : ∃ q, q = (s0 == cl s0 && (s1 == cl s1 && (s2 == cl s2 && (s3 == cl s3 && s4 == cl s4)))) := ⟨_, rfl⟩
      have hE := fun u : World => eq5 s0 s1 s2 s3 s4 (cl s0) (cl s1) (cl s2) (cl s3) (cl s4) u
      rw [← hq] at hE
      have HQ : Hid (q = lim5 s0 s1 s2 s3 s4 ∧ s0 = a + a' ∧ s1 = b + b' ∧ s2 = c + c' ∧ s3 = d + d' ∧ s4 = e + e') := ⟨hq, h0, h1, h2, h3, h4⟩
      clear h0 h1 h2 h3 h4 hP hq
      go_wp2
      go_region_with (go_at_call 65; refine (HL.out _).mono ?_; rintro x w1 ⟨rfl, hb⟩; have D1 : IsD w1 P s0 s1 s2 s3 s4 := IsD.below (by first | exact HD.out | exact HD.out.below ((Below.refl _ _).drew)) hb; have D2 : IsD w1 (P + 2) 0 0 0 0 0 := IsD.below (by first | exact hQ.out | exact hQ.out.below ((Below.refl _ _).drew)) hb; obtain ⟨d0, d1, d2, d3, d4⟩ := D1.c; obtain ⟨k0, k1, k2, k3, k4⟩ := D2.c; have l0 := D2.f 0; have l1 := D2.f 1; have l2 := D2.f 2; have l3 := D2.f 3; have l4 := D2.f 4; have B1 : Below w.heap.size w w1 := Below.trans (by first | exact hB.out | exact hB.out.drew) (hb.mono (by simpa using hB.out.size)))
      all_goals
        go_wp2
        obtain ⟨n1, n2, n3, n4, n5, n6⟩ := HQ.out
        rw [← n2, ← n3, ← n4, ← n5, ← n6, ← n1]
        exact bodyPost_ret (v := .tuple #[.agg #[.int .i64 s0, .int .i64 s1, .int .i64 s2, .int .i64 s3, .int .i64 s4], .bool q]) (by simp [results, Tryz.results33, go_sem, k0, k1, k2, k3, k4]) rfl ⟨rfl, ((((B1.setCell (p := ⟨P + 2, 0, none⟩) (by show _ ≤ P + 2; omega) _).setCell (p := ⟨P + 2, 1, none⟩) (by show _ ≤ P + 2; omega) _).setCell (p := ⟨P + 2, 2, none⟩) (by show _ ≤ P + 2; omega) _).setCell (p := ⟨P + 2, 3, none⟩) (by show _ ≤ P + 2; omega) _).setCell (p := ⟨P + 2, 4, none⟩) (by show _ ≤ P + 2; omega) _⟩
end Go.Proofs.YtnhefbhiemdhoaaGreat
