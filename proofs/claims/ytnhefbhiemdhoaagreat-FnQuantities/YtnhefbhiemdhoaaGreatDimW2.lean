/- The walks of the program's DimOk, DimTimes, DimPower. -/
import Derived.Test.YtnhefbhiemdhoaaGreatDimW1
import Derived.Deep.Cut
namespace Go.Proofs.YtnhefbhiemdhoaaGreat
open Go.RowKit Go.Proofs.YtnhefbhiemdhoaaGreat.RM

theorem cl_iff (x : Int) : (x == cl x) = in9 x := by
  unfold cl in9
  rw [Bool.eq_iff_iff]
  simp only [beq_iff_eq, Bool.and_eq_true, decide_eq_true_eq]
  split <;> split <;> omega
theorem dimB_five (a b c d e : Int) : dimB [a, b, c, d, e] = lim5 a b c d e := by
  unfold dimB lim5
  simp only [cl_iff, List.length_cons, List.length_nil, List.all_cons, List.all_nil]
  simp
theorem in9_out {x : Int} (h : in9 x = true) : -9 ≤ x ∧ x ≤ 9 := by
  unfold in9 at h
  simpa using h
theorem lim5_out {a b c d e : Int} (h : lim5 a b c d e = true) : (-9 ≤ a ∧ a ≤ 9) ∧ (-9 ≤ b ∧ b ≤ 9) ∧ (-9 ≤ c ∧ c ≤ 9) ∧ (-9 ≤ d ∧ d ≤ 9) ∧ (-9 ≤ e ∧ e ≤ 9) := by
  unfold lim5 at h
  simp only [cl_iff, Bool.and_eq_true] at h
  exact ⟨in9_out h.1, in9_out h.2.1, in9_out h.2.2.1, in9_out h.2.2.2.1, in9_out h.2.2.2.2⟩
/-- is it five noughts -/
def z5 (a b c d e : Int) : Bool := a == 0 && (b == 0 && (c == 0 && (d == 0 && e == 0)))
/-- do the powers make a dimension -/
def rq (a b c d e n : Int) : Bool := z5 a b c d e || (in9 n && lim5 (a * n) (b * n) (c * n) (d * n) (e * n))
theorem mul_b {x n : Int} (hx : -9 ≤ x ∧ x ≤ 9) (hn : -9 ≤ n ∧ n ≤ 9) : -81 ≤ x * n ∧ x * n ≤ 81 := by
  obtain ⟨h1, h2⟩ := hx
  obtain ⟨h3, h4⟩ := hn
  constructor
  · rcases Int.le_total 0 x with h | h
    · have := Int.mul_le_mul_of_nonneg_left h3 h; omega
    · have := Int.mul_le_mul_of_nonpos_left h h4; omega
  · rcases Int.le_total 0 x with h | h
    · have := Int.mul_le_mul_of_nonneg_left h4 h; omega
    · have := Int.mul_le_mul_of_nonpos_left h h3; omega

set_option maxRecDepth 100000 in
set_option maxHeartbeats 2000000 in
theorem raised_any (a b c d e n : Int) (w : World) (ha : -9 ≤ a ∧ a ≤ 9) (hb : -9 ≤ b ∧ b ≤ 9) (hc : -9 ≤ c ∧ c ≤ 9) (hd : -9 ≤ d ∧ d ≤ 9) (he : -9 ≤ e ∧ e ≤ 9) :
    Calls Tryz.prog 99 #[.agg (arr a b c d e), .int .i64 n] w fun x w' => ∃ s0 s1 s2 s3 s4, x = .returned (.tuple #[.agg (arr s0 s1 s2 s3 s4), .bool (rq a b c d e n)]) ∧ (rq a b c d e n = true → s0 = a * n ∧ s1 = b * n ∧ s2 = c * n ∧ s3 = d * n ∧ s4 = e * n) ∧ Below w.heap.size w w' := by
  obtain ⟨z, hz⟩ : ∃ z, z = z5 a b c d e := ⟨_, rfl⟩
  have hE0 := fun u : World => eq5 a b c d e 0 0 0 0 0 u
  rw [show (a == 0 && (b == 0 && (c == 0 && (d == 0 && e == 0)))) = z from hz.symm] at hE0
  have HZ := hidD hz
  have P0 := IsD.new w a b c d e
  have P1 := P0.below ((Below.refl _ _).alloc (Nat.le_refl _) (.cells (arr 0 0 0 0 0) 53))
  have Q1 := IsD.new (w.alloc (.cells (arr a b c d e) 53)) 0 0 0 0 0
  have B1 : Below w.heap.size w ((w.alloc (.cells (arr a b c d e) 53)).alloc (.cells (arr 0 0 0 0 0) 53)) := ((Below.refl _ _).alloc (Nat.le_refl _) _).alloc (by simp) _
  obtain ⟨X, hX⟩ : ∃ X, X = (w.alloc (.cells (arr a b c d e) 53)).alloc (.cells (arr 0 0 0 0 0) 53) := ⟨_, rfl⟩
  obtain ⟨P, hP⟩ : ∃ P, P = w.heap.size := ⟨_, rfl⟩
  have hsz : (w.alloc (.cells (arr a b c d e) 53)).heap.size = P + 1 := by simp [hP]
  rw [← hX, hsz] at Q1
  rw [← hX, ← hP] at P1
  rw [← hX] at B1
  clear P0 hsz hz
  unfold arr at hX ⊢
  go_enter Tryz.func99, Tryz.ntmps99
  go_upto_region 1 with fail
  rw [← hX, ← hP]
  have hwP : w.heap.size ≤ P := by omega
  clear hX hP
  obtain ⟨c0, c1, c2, c3, c4⟩ := P1.c
  obtain ⟨q0, q1, q2, q3, q4⟩ := Q1.c
  have f0 := P1.f 0
  have f1 := P1.f 1
  have f2 := P1.f 2
  have f3 := P1.f 3
  have f4 := P1.f 4
  have g0 := Q1.f 0
  have g1 := Q1.f 1
  have g2 := Q1.f 2
  have g3 := Q1.f 3
  have g4 := Q1.f 4
  cases z
  · by_cases hn : in9 n = true
    · have hn9 := in9_out hn
      have HN9 := hidD hn
      have m0 := mul_b ha hn9
      have m1 := mul_b hb hn9
      have m2 := mul_b hc hn9
      have m3 := mul_b hd hn9
      have m4 := mul_b he hn9
      clear hn
      go_wp2
      clear c0 c1 c2 c3 c4 q0 q1 q2 q3 q4 f0 f1 f2 f3 f4 g0 g1 g2 g3 g4
      go_loopw [18] (fun i wr => ∃ k : Nat, k ≤ 5 ∧ i = .int .i64 k ∧ Hid (IsD wr P (pt (· * n) 0 k a) (pt (· * n) 1 k b) (pt (· * n) 2 k c) (pt (· * n) 3 k d) (pt (· * n) 4 k e)) ∧ Hid (IsD wr (P + 1) 0 0 0 0 0) ∧ Hid (Below w.heap.size w wr)) (fun i _ => 5 - (intOf i).toNat)
      case atStart => exact ⟨0, Nat.zero_le _, rfl, P1, Q1, B1⟩
      case round =>
        clear P1 Q1 B1
        obtain ⟨k, hk, rfl, hP, hQ, hB⟩ := hrel
        obtain ⟨c0, c1, c2, c3, c4⟩ := hP.out.c
        have f0 := hP.out.f 0
        have f1 := hP.out.f 1
        have f2 := hP.out.f 2
        have f3 := hP.out.f 3
        have f4 := hP.out.f 4
        obtain rfl | rfl | rfl | rfl | rfl | rfl : k = 0 ∨ k = 1 ∨ k = 2 ∨ k = 3 ∨ k = 4 ∨ k = 5 := by omega
        · simp only [pt, Nat.reduceLT, if_false] at c0
          go_wp2
          go_roundw
          case rel => exact ⟨1, by omega, by go_num, hP.out.set 0 (a * n), hQ.out.other (by omega) _ _, hB.out.setCell (p := ⟨P, 0, none⟩) hwP _⟩
          case measure => simp [intOf]
        · simp only [pt, Nat.reduceLT, if_false] at c1
          go_wp2
          go_roundw
          case rel => exact ⟨2, by omega, by go_num, hP.out.set 1 (b * n), hQ.out.other (by omega) _ _, hB.out.setCell (p := ⟨P, 1, none⟩) hwP _⟩
          case measure => simp [intOf]
        · simp only [pt, Nat.reduceLT, if_false] at c2
          go_wp2
          go_roundw
          case rel => exact ⟨3, by omega, by go_num, hP.out.set 2 (c * n), hQ.out.other (by omega) _ _, hB.out.setCell (p := ⟨P, 2, none⟩) hwP _⟩
          case measure => simp [intOf]
        · simp only [pt, Nat.reduceLT, if_false] at c3
          go_wp2
          go_roundw
          case rel => exact ⟨4, by omega, by go_num, hP.out.set 3 (d * n), hQ.out.other (by omega) _ _, hB.out.setCell (p := ⟨P, 3, none⟩) hwP _⟩
          case measure => simp [intOf]
        · simp only [pt, Nat.reduceLT, if_false] at c4
          go_wp2
          go_roundw
          case rel => exact ⟨5, by omega, by go_num, hP.out.set 4 (e * n), hQ.out.other (by omega) _ _, hB.out.setCell (p := ⟨P, 4, none⟩) hwP _⟩
          case measure => simp [intOf]
        · simp only [pt, Nat.reduceLT, if_true] at c0 c1 c2 c3 c4
          obtain ⟨q0, q1, q2, q3, q4⟩ := hQ.out.c
          have g0 := hQ.out.f 0
          have g1 := hQ.out.f 1
          have g2 := hQ.out.f 2
          have g3 := hQ.out.f 3
          have g4 := hQ.out.f 4
          obtain ⟨s0, h0⟩ : ∃ s, s = a * n := ⟨_, rfl⟩
          obtain ⟨s1, h1⟩ : ∃ s, s = b * n := ⟨_, rfl⟩
          obtain ⟨s2, h2⟩ : ∃ s, s = c * n := ⟨_, rfl⟩
          obtain ⟨s3, h3⟩ : ∃ s, s = d * n := ⟨_, rfl⟩
          obtain ⟨s4, h4⟩ : ∃ s, s = e * n := ⟨_, rfl⟩
          rw [← h0] at c0
          rw [← h1] at c1
          rw [← h2] at c2
          rw [← h3] at c3
          rw [← h4] at c4
          have HL : Hid (∀ u : World, Calls Tryz.prog 65 #[.agg #[.int .i64 s0, .int .i64 s1, .int .i64 s2, .int .i64 s3, .int .i64 s4]] u fun x w' => x = .returned (.agg #[.int .i64 (cl s0), .int .i64 (cl s1), .int .i64 (cl s2), .int .i64 (cl s3), .int .i64 (cl s4)]) ∧ Below u.heap.size u w') := fun u => lim_any s0 s1 s2 s3 s4 u
          have HD : Hid (IsD wr P s0 s1 s2 s3 s4) := by have := hP.out; simp only [pt, Nat.reduceLT, if_true] at this; rw [h0, h1, h2, h3, h4]; exact this
          obtain ⟨q, hq⟩ : ∃ q, q = (s0 == cl s0 && (s1 == cl s1 && (s2 == cl s2 && (s3 == cl s3 && s4 == cl s4)))) := ⟨_, rfl⟩
          have hE := fun u : World => eq5 s0 s1 s2 s3 s4 (cl s0) (cl s1) (cl s2) (cl s3) (cl s4) u
          rw [← hq] at hE
          have HQ : Hid (q = rq a b c d e n ∧ s0 = a * n ∧ s1 = b * n ∧ s2 = c * n ∧ s3 = d * n ∧ s4 = e * n) := by
            refine ⟨?_, h0, h1, h2, h3, h4⟩
            unfold rq
            rw [← HZ.out, HN9.out, Bool.false_or, Bool.true_and, ← h0, ← h1, ← h2, ← h3, ← h4]
            exact hq
          clear h0 h1 h2 h3 h4 hP hq m0 m1 m2 m3 m4 hE0
          go_wp2
          go_region_with (go_at_call 65; refine (HL.out _).mono ?_; rintro x w1 ⟨rfl, hb⟩; have D1 : IsD w1 P s0 s1 s2 s3 s4 := IsD.below (by first | exact HD.out | exact HD.out.below ((Below.refl _ _).drew)) hb; have D2 : IsD w1 (P + 1) 0 0 0 0 0 := IsD.below (by first | exact hQ.out | exact hQ.out.below ((Below.refl _ _).drew)) hb; obtain ⟨d0, d1, d2, d3, d4⟩ := D1.c; obtain ⟨k0, k1, k2, k3, k4⟩ := D2.c; have l0 := D2.f 0; have l1 := D2.f 1; have l2 := D2.f 2; have l3 := D2.f 3; have l4 := D2.f 4; have B1 : Below w.heap.size w w1 := Below.trans (by first | exact hB.out | exact hB.out.drew) (hb.mono (by simpa using hB.out.size)))
          all_goals
            go_wp2
            obtain ⟨n1, n2, n3, n4, n5, n6⟩ := HQ.out
            exact bodyPost_ret (v := .tuple #[.agg #[.int .i64 s0, .int .i64 s1, .int .i64 s2, .int .i64 s3, .int .i64 s4], .bool q]) (by simp [results, Tryz.results99, go_sem, k0, k1, k2, k3, k4]) rfl ⟨s0, s1, s2, s3, s4, by rw [n1], fun _ => ⟨n2, n3, n4, n5, n6⟩, ((((B1.setCell (p := ⟨P + 1, 0, none⟩) (by show _ ≤ P + 1; omega) _).setCell (p := ⟨P + 1, 1, none⟩) (by show _ ≤ P + 1; omega) _).setCell (p := ⟨P + 1, 2, none⟩) (by show _ ≤ P + 1; omega) _).setCell (p := ⟨P + 1, 3, none⟩) (by show _ ≤ P + 1; omega) _).setCell (p := ⟨P + 1, 4, none⟩) (by show _ ≤ P + 1; omega) _⟩
    · have hq : rq a b c d e n = false := by
        unfold rq
        rw [Bool.not_eq_true] at hn
        rw [← HZ.out, hn]; rfl
      have HQ := hidD hq
      have hn2 : n < -9 ∨ 9 < n := by
        unfold in9 at hn
        simp at hn
        by_cases h : n < -9
        · exact .inl h
        · exact .inr (hn (by omega))
      clear hn hq
      by_cases h9 : n < -9
      · go_wp2
        exact bodyPost_ret (v := .tuple #[.agg #[.int .i64 0, .int .i64 0, .int .i64 0, .int .i64 0, .int .i64 0], .bool false]) (by simp [results, Tryz.results99, go_sem, q0, q1, q2, q3, q4]) rfl ⟨0, 0, 0, 0, 0, by rw [HQ.out], fun h => by rw [HQ.out] at h; exact absurd h (by simp), ((((B1.setCell (p := ⟨P + 1, 0, none⟩) (by show _ ≤ P + 1; omega) _).setCell (p := ⟨P + 1, 1, none⟩) (by show _ ≤ P + 1; omega) _).setCell (p := ⟨P + 1, 2, none⟩) (by show _ ≤ P + 1; omega) _).setCell (p := ⟨P + 1, 3, none⟩) (by show _ ≤ P + 1; omega) _).setCell (p := ⟨P + 1, 4, none⟩) (by show _ ≤ P + 1; omega) _⟩
      · have h10 : 9 < n := by omega
        go_wp2
        exact bodyPost_ret (v := .tuple #[.agg #[.int .i64 0, .int .i64 0, .int .i64 0, .int .i64 0, .int .i64 0], .bool false]) (by simp [results, Tryz.results99, go_sem, q0, q1, q2, q3, q4]) rfl ⟨0, 0, 0, 0, 0, by rw [HQ.out], fun h => by rw [HQ.out] at h; exact absurd h (by simp), ((((B1.setCell (p := ⟨P + 1, 0, none⟩) (by show _ ≤ P + 1; omega) _).setCell (p := ⟨P + 1, 1, none⟩) (by show _ ≤ P + 1; omega) _).setCell (p := ⟨P + 1, 2, none⟩) (by show _ ≤ P + 1; omega) _).setCell (p := ⟨P + 1, 3, none⟩) (by show _ ≤ P + 1; omega) _).setCell (p := ⟨P + 1, 4, none⟩) (by show _ ≤ P + 1; omega) _⟩
  · have hq : rq a b c d e n = true := by unfold rq; rw [← HZ.out]; rfl
    have h0 : a = 0 ∧ b = 0 ∧ c = 0 ∧ d = 0 ∧ e = 0 := by
      have := HZ.out.symm
      unfold z5 at this
      simpa using this
    have HQ : Hid (rq a b c d e n = true ∧ a = a * n ∧ b = b * n ∧ c = c * n ∧ d = d * n ∧ e = e * n) := by
      obtain ⟨rfl, rfl, rfl, rfl, rfl⟩ := h0
      exact ⟨hq, by simp, by simp, by simp, by simp, by simp⟩
    clear hq h0
    go_wp2
    exact bodyPost_ret (v := .tuple #[.agg #[.int .i64 a, .int .i64 b, .int .i64 c, .int .i64 d, .int .i64 e], .bool true]) (by simp [results, Tryz.results99, go_sem, q0, q1, q2, q3, q4]) rfl ⟨a, b, c, d, e, by rw [HQ.out.1], fun _ => HQ.out.2, ((((B1.setCell (p := ⟨P + 1, 0, none⟩) (by show _ ≤ P + 1; omega) _).setCell (p := ⟨P + 1, 1, none⟩) (by show _ ≤ P + 1; omega) _).setCell (p := ⟨P + 1, 2, none⟩) (by show _ ≤ P + 1; omega) _).setCell (p := ⟨P + 1, 3, none⟩) (by show _ ≤ P + 1; omega) _).setCell (p := ⟨P + 1, 4, none⟩) (by show _ ≤ P + 1; omega) _⟩
end Go.Proofs.YtnhefbhiemdhoaaGreat
