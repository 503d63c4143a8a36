/- The walks of DimOk, DimTimes, DimPower: the program's. -/
import Derived.Test.YtbbkejfcheobaabDimW3
namespace Go.Proofs.Ytbbkejfcheobaab
open Go.RowKit Go.Proofs.Ytbbkejfcheobaab.RM

set_option maxRecDepth 100000 in
set_option maxHeartbeats 1000000 in
theorem iDimOk_in (v : Value) (ys : List Int) (w : World) (h : DimIn w v ys) :
    Calls Try.prog 101 #[v] w fun e w' => e = .returned (.bool (dimB ys)) ∧ Below w.heap.size w w' := by
  have HD := hidD (dimOf_in v ys w h)
  obtain ⟨q, hq⟩ : ∃ q, q = dimB ys := ⟨_, rfl⟩
  have HQ := hidD hq
  rw [← hq]
  clear hq h
  go_enter Try.func101, Try.ntmps101
  go_wp2_with (go_at_call 103; refine (HD.out).mono ?_; rintro x w1 ⟨s0, s1, s2, s3, s4, rfl, hs, hb⟩; rw [← HQ.out]; unfold arr; clear hs)
  go_ret
  exact ⟨rfl, hb.alloc hb.size _⟩
theorem iDimOk_any (v : Value) (ys : List Int) (base : Nat) (et : TypeId) (w : World) (h : w.ownsRow base et 1 v ys.length (ys.map (Value.int .i64))) :
    Calls Try.prog 101 #[v] w fun e w' => e = .returned (.bool (dimB ys)) ∧ Below w.heap.size w w' := iDimOk_in v ys w (.of h)
theorem ansT_no {a b : List Int} (h : dimB a = false ∨ dimB b = false) : ansDimTimes a b = [] := by
  unfold ansDimTimes
  rcases h with h | h <;> simp [h]
theorem ansP_no {a : List Int} {n : Int} (h : dimB a = false) : ansDimPower a n = [] := by unfold ansDimPower; simp [h]
theorem ansT_five {a b c d e a' b' c' d' e' : Int} (h : dimB [a, b, c, d, e] = true) (h' : dimB [a', b', c', d', e'] = true) : ansDimTimes [a, b, c, d, e] [a', b', c', d', e'] = if lim5 (a + a') (b + b') (c + c') (d + d') (e + e') then [a + a', b + b', c + c', d + d', e + e'] else [] := by
  unfold ansDimTimes dimN
  rw [h, h']
  simp only [Bool.and_true, if_true, List.zipWith_cons_cons, List.zipWith_nil_right]
  rw [dimB_five]
theorem ansP_five {a b c d e n : Int} (h : dimB [a, b, c, d, e] = true) : ansDimPower [a, b, c, d, e] n = if rq a b c d e n then [a * n, b * n, c * n, d * n, e * n] else [] := by
  unfold ansDimPower dimN
  rw [h]
  simp only [if_true, List.all_cons, List.all_nil, Bool.and_true, List.map_cons, List.map_nil]
  rw [dimB_five]
  unfold rq
  cases hz : z5 a b c d e with
  | true =>
    have h0 : a = 0 ∧ b = 0 ∧ c = 0 ∧ d = 0 ∧ e = 0 := by
      unfold z5 at hz
      simpa using hz
    obtain ⟨rfl, rfl, rfl, rfl, rfl⟩ := h0
    have : lim5 (0 * n) (0 * n) (0 * n) (0 * n) (0 * n) = true := by simp only [Int.zero_mul]; decide
    rw [this]
    simp
  | false =>
    cases hn : in9 n with
    | true => simp
    | false =>
      have : ¬ (a = 0 ∧ b = 0 ∧ c = 0 ∧ d = 0 ∧ e = 0) := by
        intro h0
        unfold z5 at hz
        simp [h0] at hz
      simp
      intro h1 h2 h3 h4 h5
      exact absurd ⟨h1, h2, h3, h4, h5⟩ this

set_option maxRecDepth 100000 in
set_option maxHeartbeats 1000000 in
theorem iDimTimes_in (v0 v1 : Value) (ys0 ys1 : List Int) (w : World) (h0 : DimIn w v0 ys0) (h1 : DimIn w v1 ys1) :
    Calls Try.prog 82 #[v0, v1] w fun e w' => RowP w (ansDimTimes ys0 ys1) e w' := by
  have H0 := hidD h0
  have H1 := hidD h1
  obtain ⟨q0, hq0⟩ : ∃ q, q = dimB ys0 := ⟨_, rfl⟩
  obtain ⟨q1, hq1⟩ : ∃ q, q = dimB ys1 := ⟨_, rfl⟩
  have HQ0 := hidD hq0
  have HQ1 := hidD hq1
  clear hq0 hq1 h0 h1
  have no : (q0 && q1) = false → Calls Try.prog 82 #[v0, v1] w fun e w' => RowP w (ansDimTimes ys0 ys1) e w' := by
    intro hq
    have HN : Hid (ansDimTimes ys0 ys1 = []) := ansT_no (by rw [← HQ0.out, ← HQ1.out]; cases q0 <;> cases q1 <;> simp at hq ⊢)
    cases q0
    · clear hq
      go_enter Try.func82, Try.ntmps82
      go_upto_region 2 with (go_at_call 103; refine (dimOf_in v0 ys0 _ H0.out).mono ?_; rintro x w1 ⟨s0, s1, s2, s3, s4, rfl, hs, hb⟩; rw [← HQ0.out]; unfold arr; clear hs)
      have B1 := hb.alloc hb.size (.cells #[.int .i64 s0, .int .i64 s1, .int .i64 s2, .int .i64 s3, .int .i64 s4] 100)
      clear hb
      go_upto_region 3 with (go_at_call 103; refine (dimOf_in v1 ys1 _ (DimIn.below H1.out B1)).mono ?_; rintro x w2 ⟨t0, t1, t2, t3, t4, rfl, hs, hb⟩; rw [← HQ1.out]; unfold arr; clear hs)
      have B2 := (B1.trans (hb.mono B1.size)).alloc (B1.trans (hb.mono B1.size)).size (.cells #[.int .i64 t0, .int .i64 t1, .int .i64 t2, .int .i64 t3, .int .i64 t4] 100)
      clear hb
      go_wp2
      have h4 := World.ownsRow_lit (w2.alloc (.cells #[.int .i64 t0, .int .i64 t1, .int .i64 t2, .int .i64 t3, .int .i64 t4] 100)) (base := w.heap.size) (e := 2) (size := 1) #[] 0 B2.size (Nat.zero_le _) rfl
      go_ret
      refine ⟨_, 2, rfl, ?_, B2.alloc B2.size _⟩
      rw [HN.out]
      simpa using h4
    · cases q1
      · clear hq
        go_enter Try.func82, Try.ntmps82
        go_upto_region 2 with (go_at_call 103; refine (dimOf_in v0 ys0 _ H0.out).mono ?_; rintro x w1 ⟨s0, s1, s2, s3, s4, rfl, hs, hb⟩; rw [← HQ0.out]; unfold arr; clear hs)
        have B1 := hb.alloc hb.size (.cells #[.int .i64 s0, .int .i64 s1, .int .i64 s2, .int .i64 s3, .int .i64 s4] 100)
        clear hb
        go_upto_region 3 with (go_at_call 103; refine (dimOf_in v1 ys1 _ (DimIn.below H1.out B1)).mono ?_; rintro x w2 ⟨t0, t1, t2, t3, t4, rfl, hs, hb⟩; rw [← HQ1.out]; unfold arr; clear hs)
        have B2 := (B1.trans (hb.mono B1.size)).alloc (B1.trans (hb.mono B1.size)).size (.cells #[.int .i64 t0, .int .i64 t1, .int .i64 t2, .int .i64 t3, .int .i64 t4] 100)
        clear hb
        go_wp2
        have h4 := World.ownsRow_lit (w2.alloc (.cells #[.int .i64 t0, .int .i64 t1, .int .i64 t2, .int .i64 t3, .int .i64 t4] 100)) (base := w.heap.size) (e := 2) (size := 1) #[] 0 B2.size (Nat.zero_le _) rfl
        go_ret
        refine ⟨_, 2, rfl, ?_, B2.alloc B2.size _⟩
        rw [HN.out]
        simpa using h4
      · cases hq
  cases q0
  · exact no rfl
  cases q1
  · exact no rfl
  clear no
  obtain ⟨a, b, c, d, e, rfl⟩ := dim_out (by have := HQ0.out.symm; unfold dimB at this; rw [Bool.and_eq_true, decide_eq_true_eq] at this; exact this.1)
  obtain ⟨a', b', c', d', e', rfl⟩ := dim_out (by have := HQ1.out.symm; unfold dimB at this; rw [Bool.and_eq_true, decide_eq_true_eq] at this; exact this.1)
  obtain ⟨rs, hrs⟩ : ∃ rs, rs = ansDimTimes [a, b, c, d, e] [a', b', c', d', e'] := ⟨_, rfl⟩
  have HRS : Hid (rs = if lim5 (a + a') (b + b') (c + c') (d + d') (e + e') then [a + a', b + b', c + c', d + d', e + e'] else []) := by show _ = _; rw [hrs]; exact ansT_five HQ0.out.symm HQ1.out.symm
  rw [← hrs]
  clear hrs
  have l0 := HQ0.out.symm
  have l1 := HQ1.out.symm
  rw [dimB_five] at l0 l1
  have HL0 := hidD (lim5_out l0)
  have HL1 := hidD (lim5_out l1)
  clear l0 l1
  obtain ⟨⟨p1, p2⟩, ⟨p3, p4⟩, ⟨p5, p6⟩, ⟨p7, p8⟩, p9, p10⟩ := HL0.out
  obtain ⟨⟨r1, r2⟩, ⟨r3, r4⟩, ⟨r5, r6⟩, ⟨r7, r8⟩, r9, r10⟩ := HL1.out
  go_enter Try.func82, Try.ntmps82
  go_upto_region 2 with (go_at_call 103; refine (dimOf_in v0 [a, b, c, d, e] _ H0.out).mono ?_; rintro x w1 ⟨s0, s1, s2, s3, s4, rfl, hs, hb⟩; have hs := hs HQ0.out.symm; simp only [List.cons.injEq, and_true] at hs; obtain ⟨rfl, rfl, rfl, rfl, rfl⟩ := hs; rw [← HQ0.out]; unfold arr)
  have B1 := hb.alloc hb.size (.cells #[.int .i64 a, .int .i64 b, .int .i64 c, .int .i64 d, .int .i64 e] 100)
  have D0 : IsD (w1.alloc (.cells #[.int .i64 a, .int .i64 b, .int .i64 c, .int .i64 d, .int .i64 e] 100)) w1.heap.size a b c d e := IsD.new w1 a b c d e
  obtain ⟨P, hP⟩ : ∃ P, P = w1.heap.size := ⟨_, rfl⟩
  obtain ⟨X, hX⟩ : ∃ X, X = w1.alloc (.cells #[.int .i64 a, .int .i64 b, .int .i64 c, .int .i64 d, .int .i64 e] 100) := ⟨_, rfl⟩
  rw [← hX] at B1 ⊢
  rw [← hX, ← hP] at D0
  rw [← hP]
  clear hb hX hP
  go_upto_region 3 with (go_at_call 103; refine (dimOf_in v1 [a', b', c', d', e'] _ (DimIn.below H1.out B1)).mono ?_; rintro x w2 ⟨t0, t1, t2, t3, t4, rfl, hs, hb⟩; have hs := hs HQ1.out.symm; simp only [List.cons.injEq, and_true] at hs; obtain ⟨rfl, rfl, rfl, rfl, rfl⟩ := hs; rw [← HQ1.out]; unfold arr)
  have D1 : IsD (w2.alloc (.cells #[.int .i64 a', .int .i64 b', .int .i64 c', .int .i64 d', .int .i64 e'] 100)) w2.heap.size a' b' c' d' e' := IsD.new w2 a' b' c' d' e'
  have D2 := (D0.below hb).below ((Below.refl _ _).alloc (Nat.le_refl _) (.cells #[.int .i64 a', .int .i64 b', .int .i64 c', .int .i64 d', .int .i64 e'] 100))
  have B2 := (B1.trans (hb.mono B1.size)).alloc (B1.trans (hb.mono B1.size)).size (.cells #[.int .i64 a', .int .i64 b', .int .i64 c', .int .i64 d', .int .i64 e'] 100)
  obtain ⟨P', hP'⟩ : ∃ P, P = w2.heap.size := ⟨_, rfl⟩
  obtain ⟨Y, hY⟩ : ∃ Y, Y = w2.alloc (.cells #[.int .i64 a', .int .i64 b', .int .i64 c', .int .i64 d', .int .i64 e'] 100) := ⟨_, rfl⟩
  rw [← hY] at B2 D2 ⊢
  rw [← hY, ← hP'] at D1
  rw [← hP']
  clear hb hY hP' D0 B1
  obtain ⟨c0, c1, c2, c3, c4⟩ := D2.c
  obtain ⟨k0, k1, k2, k3, k4⟩ := D1.c
  go_wp2_with (first | (go_at_call 104; refine (dtimes_any a b c d e a' b' c' d' e' _ ⟨p1, p2⟩ ⟨p3, p4⟩ ⟨p5, p6⟩ ⟨p7, p8⟩ ⟨p9, p10⟩ ⟨r1, r2⟩ ⟨r3, r4⟩ ⟨r5, r6⟩ ⟨r7, r8⟩ ⟨r9, r10⟩).mono ?_; rintro x w3 ⟨rfl, hb3⟩; unfold arr) | (go_at_call 81; refine (listed_any (a + a') (b + b') (c + c') (d + d') (e + e') (lim5 (a + a') (b + b') (c + c') (d + d') (e + e')) _).mono ?_; rintro x w4 ⟨v, et, rfl, o, hb4⟩))
  go_ret
  rw [← HRS.out] at o
  exact ⟨v, et, rfl, own_le o (by have := B2.size; have := hb3.size; omega), (B2.trans (hb3.mono B2.size)).trans (hb4.mono (by have := B2.size; have := hb3.size; omega))⟩
theorem iDimTimes_any (v0 v1 : Value) (ys0 ys1 : List Int) (base0 base1 : Nat) (e0 e1 : TypeId) (w : World) (h0 : w.ownsRow base0 e0 1 v0 ys0.length (ys0.map (Value.int .i64))) (h1 : w.ownsRow base1 e1 1 v1 ys1.length (ys1.map (Value.int .i64))) :
    Calls Try.prog 82 #[v0, v1] w fun e w' => RowP w (ansDimTimes ys0 ys1) e w' := iDimTimes_in v0 v1 ys0 ys1 w (.of h0) (.of h1)

set_option maxRecDepth 100000 in
set_option maxHeartbeats 1000000 in
theorem iDimPower_in (v0 : Value) (ys0 : List Int) (n : Int) (w : World) (h0 : DimIn w v0 ys0) :
    Calls Try.prog 83 #[v0, .int .i64 n] w fun e w' => RowP w (ansDimPower ys0 n) e w' := by
  have H0 := hidD h0
  obtain ⟨q0, hq0⟩ : ∃ q, q = dimB ys0 := ⟨_, rfl⟩
  have HQ0 := hidD hq0
  clear hq0 h0
  cases q0
  · have HN : Hid (ansDimPower ys0 n = []) := ansP_no HQ0.out.symm
    go_enter Try.func83, Try.ntmps83
    go_upto_region 2 with (go_at_call 103; refine (dimOf_in v0 ys0 _ H0.out).mono ?_; rintro x w1 ⟨s0, s1, s2, s3, s4, rfl, hs, hb⟩; rw [← HQ0.out]; unfold arr; clear hs)
    have B1 := hb.alloc hb.size (.cells #[.int .i64 s0, .int .i64 s1, .int .i64 s2, .int .i64 s3, .int .i64 s4] 100)
    clear hb
    go_wp2
    have h4 := World.ownsRow_lit (w1.alloc (.cells #[.int .i64 s0, .int .i64 s1, .int .i64 s2, .int .i64 s3, .int .i64 s4] 100)) (base := w.heap.size) (e := 2) (size := 1) #[] 0 B1.size (Nat.zero_le _) rfl
    go_ret
    refine ⟨_, 2, rfl, ?_, B1.alloc B1.size _⟩
    rw [HN.out]
    simpa using h4
  · obtain ⟨a, b, c, d, e, rfl⟩ := dim_out (by have := HQ0.out.symm; unfold dimB at this; rw [Bool.and_eq_true, decide_eq_true_eq] at this; exact this.1)
    have l0 := HQ0.out.symm
    rw [dimB_five] at l0
    have HL0 := hidD (lim5_out l0)
    clear l0
    obtain ⟨q, hq⟩ : ∃ q, q = rq a b c d e n := ⟨_, rfl⟩
    have HQ := hidD hq
    obtain ⟨rs, hrs⟩ : ∃ rs, rs = ansDimPower [a, b, c, d, e] n := ⟨_, rfl⟩
    have HRS : Hid (rs = if q then [a * n, b * n, c * n, d * n, e * n] else []) := by show _ = _; rw [hrs, hq]; exact ansP_five HQ0.out.symm
    rw [← hrs]
    clear hq hrs
    go_enter Try.func83, Try.ntmps83
    go_upto_region 2 with (go_at_call 103; refine (dimOf_in v0 [a, b, c, d, e] _ H0.out).mono ?_; rintro x w1 ⟨s0, s1, s2, s3, s4, rfl, hs, hb⟩; have hs := hs HQ0.out.symm; simp only [List.cons.injEq, and_true] at hs; obtain ⟨rfl, rfl, rfl, rfl, rfl⟩ := hs; rw [← HQ0.out]; unfold arr)
    have B1 := hb.alloc hb.size (.cells #[.int .i64 a, .int .i64 b, .int .i64 c, .int .i64 d, .int .i64 e] 100)
    have D0 : IsD (w1.alloc (.cells #[.int .i64 a, .int .i64 b, .int .i64 c, .int .i64 d, .int .i64 e] 100)) w1.heap.size a b c d e := IsD.new w1 a b c d e
    obtain ⟨P, hP⟩ : ∃ P, P = w1.heap.size := ⟨_, rfl⟩
    obtain ⟨X, hX⟩ : ∃ X, X = w1.alloc (.cells #[.int .i64 a, .int .i64 b, .int .i64 c, .int .i64 d, .int .i64 e] 100) := ⟨_, rfl⟩
    rw [← hX] at B1 ⊢
    rw [← hX, ← hP] at D0
    rw [← hP]
    clear hb hX hP
    obtain ⟨c0, c1, c2, c3, c4⟩ := D0.c
    go_wp2_with (first | (go_at_call 105; refine (raised_any a b c d e n _ HL0.out.1 HL0.out.2.1 HL0.out.2.2.1 HL0.out.2.2.2.1 HL0.out.2.2.2.2).mono ?_; rintro x w3 ⟨s0, s1, s2, s3, s4, rfl, hs, hb3⟩; rw [← HQ.out] at hs ⊢; unfold arr; have HS := hidD hs; clear hs) | (go_at_call 81; refine (listed_any s0 s1 s2 s3 s4 q _).mono ?_; rintro x w4 ⟨v, et, rfl, o, hb4⟩))
    go_ret
    refine ⟨v, et, rfl, ?_, (B1.trans (hb3.mono B1.size)).trans (hb4.mono (by have := B1.size; have := hb3.size; omega))⟩
    have o2 := own_le o (show w.heap.size ≤ w3.heap.size by have := B1.size; have := hb3.size; omega)
    rw [HRS.out]
    cases q
    · exact o2
    · obtain ⟨n1, n2, n3, n4, n5⟩ := HS.out rfl
      rw [n1, n2, n3, n4, n5] at o2
      exact o2
theorem iDimPower_any (v0 : Value) (ys0 : List Int) (n : Int) (base0 : Nat) (e0 : TypeId) (w : World) (h0 : w.ownsRow base0 e0 1 v0 ys0.length (ys0.map (Value.int .i64))) :
    Calls Try.prog 83 #[v0, .int .i64 n] w fun e w' => RowP w (ansDimPower ys0 n) e w' := iDimPower_in v0 ys0 n w (.of h0)
end Go.Proofs.Ytbbkejfcheobaab
