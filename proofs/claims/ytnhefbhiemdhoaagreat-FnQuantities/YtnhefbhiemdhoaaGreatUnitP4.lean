/- What is divided by a word: the word's inverse. -/
import Derived.Test.YtnhefbhiemdhoaaGreatUnitP3
namespace Go.Proofs.YtnhefbhiemdhoaaGreat
open Go.RowKit Go.MapKept Go.Proofs.YtnhefbhiemdhoaaGreat.RM

theorem rq_minus {a b c d e : Int} (ha : -9 ≤ a ∧ a ≤ 9) (hb : -9 ≤ b ∧ b ≤ 9) (hc : -9 ≤ c ∧ c ≤ 9) (hd : -9 ≤ d ∧ d ≤ 9) (he : -9 ≤ e ∧ e ≤ 9) : rq a b c d e (-1) = true := by
  have k : ∀ x : Int, -9 ≤ x ∧ x ≤ 9 → (x * -1 == cl (x * -1)) = true := fun x hx => by
    rw [beq_iff_eq]
    unfold cl
    split <;> split <;> omega
  unfold rq lim5
  rw [k a ha, k b hb, k c hc, k d hd, k e he]
  simp [in9]

set_option maxRecDepth 100000 in
set_option maxHeartbeats 1000000 in
theorem vinv_any (u : UV) (w : World) (hu : okD u) :
    Calls Tryz.prog 83 #[uVal u] w fun e w' => e = .returned (uVal (invV u)) ∧ Below w.heap.size w w' := by
  have b0 : ∀ (u : World) (o : Obj), Below u.heap.size u (u.alloc o) := fun u o => (Below.refl _ _).alloc (Nat.le_refl _) o
  obtain ⟨n, d, x0, x1, x2, x3, x4⟩ := u
  obtain ⟨ha0, ha1, ha2, ha3, ha4⟩ := hu
  have HD : Hid (∀ W, Calls Tryz.prog 99 #[.agg #[.int .i64 x0, .int .i64 x1, .int .i64 x2, .int .i64 x3, .int .i64 x4], .int .i64 (-1)] W fun x w' => x = .returned (.tuple #[.agg #[.int .i64 (-x0), .int .i64 (-x1), .int .i64 (-x2), .int .i64 (-x3), .int .i64 (-x4)], .bool true]) ∧ Below W.heap.size W w') := fun W => by
    refine (raised_any x0 x1 x2 x3 x4 (-1) W ha0 ha1 ha2 ha3 ha4).mono ?_
    rintro e w' ⟨s0, s1, s2, s3, s4, rfl, hs, hb⟩
    rw [rq_minus ha0 ha1 ha2 ha3 ha4] at hs ⊢
    obtain ⟨rfl, rfl, rfl, rfl, rfl⟩ := hs rfl
    refine ⟨?_, hb⟩
    simp [arr]
  clear ha0 ha1 ha2 ha3 ha4
  simp only [invV, uVal]
  obtain ⟨s0, h0⟩ : ∃ x, x = -x0 := ⟨_, rfl⟩
  obtain ⟨s1, h1⟩ : ∃ x, x = -x1 := ⟨_, rfl⟩
  obtain ⟨s2, h2⟩ : ∃ x, x = -x2 := ⟨_, rfl⟩
  obtain ⟨s3, h3⟩ : ∃ x, x = -x3 := ⟨_, rfl⟩
  obtain ⟨s4, h4⟩ : ∃ x, x = -x4 := ⟨_, rfl⟩
  rw [← h0, ← h1, ← h2, ← h3, ← h4] at HD ⊢
  clear h0 h1 h2 h3 h4
  go_enter Tryz.func83, Tryz.ntmps83
  go_wp2_with fail
  refine (HD.out _).mono ?_
  rintro e w2 ⟨rfl, hb⟩
  obtain ⟨A, hA⟩ : ∃ A, A = w.heap.size := ⟨_, rfl⟩
  have k1 : IsB w2 A #[.int .i64 n, .int .i64 d, .int .i64 x0, .int .i64 x1, .int .i64 x2, .int .i64 x3, .int .i64 x4] 55 := by rw [hA]; exact ((IsB.new w _ _).below (b0 _ _)).below hb
  have k3 : IsB w2 (A + 1) #[.int .i64 0, .int .i64 0, .int .i64 0, .int .i64 0, .int .i64 0, .int .i64 0, .int .i64 0] 55 := by
    rw [hA]
    have := IsB.new (w.alloc (.cells #[.int .i64 n, .int .i64 d, .int .i64 x0, .int .i64 x1, .int .i64 x2, .int .i64 x3, .int .i64 x4] 55)) #[.int .i64 0, .int .i64 0, .int .i64 0, .int .i64 0, .int .i64 0, .int .i64 0, .int .i64 0] 55
    exact (show IsB _ (w.heap.size + 1) _ _ by simpa using this).below hb
  have hB1 : Below w.heap.size w w2 := ((b0 _ _).alloc (by simp) _).trans (hb.mono (by simp; omega))
  have hAw : Hid (w.heap.size ≤ A + 1) := by show _ ≤ _; omega
  rw [← hA]
  have HB := hidU hB1
  clear hb hA hB1
  go_upto_region 2 with fail
  obtain ⟨X, hX⟩ : ∃ Y, Y = w2.alloc (.cells #[.int .i64 s0, .int .i64 s1, .int .i64 s2, .int .i64 s3, .int .i64 s4] 53) := ⟨_, rfl⟩
  obtain ⟨G, hG⟩ : ∃ F, F = w2.heap.size := ⟨_, rfl⟩
  have hb : Below w2.heap.size w2 X := by rw [hX]; exact b0 _ _
  replace k3 := k3.below hb
  replace k1 := k1.below hb
  have kg : IsB X G #[.int .i64 s0, .int .i64 s1, .int .i64 s2, .int .i64 s3, .int .i64 s4] 53 := by rw [hX, hG]; exact IsB.new _ _ _
  replace HB := hidU (HB.out.trans (hb.mono HB.out.size))
  rw [← hX, ← hG]
  clear hX hG hb
  obtain ⟨Z, hZ⟩ : ∃ Z, Z = A + 1 := ⟨_, rfl⟩
  rw [← hZ] at k3 hAw ⊢
  clear hZ
  have p0 := k1.cell (v := .int .i64 n) 0 rfl
  have p1 := k1.cell (v := .int .i64 d) 1 rfl
  have r0 := kg.cell (v := .int .i64 s0) 0 rfl
  have r1 := kg.cell (v := .int .i64 s1) 1 rfl
  have r2 := kg.cell (v := .int .i64 s2) 2 rfl
  have r3 := kg.cell (v := .int .i64 s3) 3 rfl
  have r4 := kg.cell (v := .int .i64 s4) 4 rfl
  have z0 := k3.cell (v := .int .i64 0) 0 rfl
  have f0 := k3.frozen 0
  have z1 := k3.cell (v := .int .i64 0) 1 rfl
  have f1 := k3.frozen 1
  have z2 := k3.cell (v := .int .i64 0) 2 rfl
  have f2 := k3.frozen 2
  have z3 := k3.cell (v := .int .i64 0) 3 rfl
  have f3 := k3.frozen 3
  have z4 := k3.cell (v := .int .i64 0) 4 rfl
  have f4 := k3.frozen 4
  have z5 := k3.cell (v := .int .i64 0) 5 rfl
  have f5 := k3.frozen 5
  have z6 := k3.cell (v := .int .i64 0) 6 rfl
  have f6 := k3.frozen 6
  have HZ4 : IsB (((((((X.setCell ⟨Z, 0, none⟩ (.int .i64 d)).setCell ⟨Z, 1, none⟩ (.int .i64 n)).setCell ⟨Z, 2, none⟩ (.int .i64 s0)).setCell ⟨Z, 3, none⟩ (.int .i64 s1)).setCell ⟨Z, 4, none⟩ (.int .i64 s2)).setCell ⟨Z, 5, none⟩ (.int .i64 s3)).setCell ⟨Z, 6, none⟩ (.int .i64 s4)) Z #[.int .i64 d, .int .i64 n, .int .i64 s0, .int .i64 s1, .int .i64 s2, .int .i64 s3, .int .i64 s4] 55 := (((((((k3.set 0 (.int .i64 d)).set 1 (.int .i64 n)).set 2 (.int .i64 s0)).set 3 (.int .i64 s1)).set 4 (.int .i64 s2)).set 5 (.int .i64 s3)).set 6 (.int .i64 s4))
  have HB4 : Below w.heap.size w (((((((X.setCell ⟨Z, 0, none⟩ (.int .i64 d)).setCell ⟨Z, 1, none⟩ (.int .i64 n)).setCell ⟨Z, 2, none⟩ (.int .i64 s0)).setCell ⟨Z, 3, none⟩ (.int .i64 s1)).setCell ⟨Z, 4, none⟩ (.int .i64 s2)).setCell ⟨Z, 5, none⟩ (.int .i64 s3)).setCell ⟨Z, 6, none⟩ (.int .i64 s4)) := (((((((HB.out.setCell hAw.out _).setCell hAw.out _).setCell hAw.out _).setCell hAw.out _).setCell hAw.out _).setCell hAw.out _).setCell hAw.out _)
  have HZ5 := hidU HZ4
  have HB5 := hidU HB4
  clear HZ4 HB4 k3 k1 kg HB
  go_wp2
  have q0 := HZ5.out.cell (v := .int .i64 d) 0 rfl
  have q1 := HZ5.out.cell (v := .int .i64 n) 1 rfl
  have q2 := HZ5.out.cell (v := .int .i64 s0) 2 rfl
  have q3 := HZ5.out.cell (v := .int .i64 s1) 3 rfl
  have q4 := HZ5.out.cell (v := .int .i64 s2) 4 rfl
  have q5 := HZ5.out.cell (v := .int .i64 s3) 5 rfl
  have q6 := HZ5.out.cell (v := .int .i64 s4) 6 rfl
  exact bodyPost_ret (v := .agg #[.int .i64 d, .int .i64 n, .int .i64 s0, .int .i64 s1, .int .i64 s2, .int .i64 s3, .int .i64 s4]) (by simp [results, Tryz.results83, go_sem, q0, q1, q2, q3, q4, q5, q6]) rfl ⟨rfl, HB5.out⟩
end Go.Proofs.YtnhefbhiemdhoaaGreat
