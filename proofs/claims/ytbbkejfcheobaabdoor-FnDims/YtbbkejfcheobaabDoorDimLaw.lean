/- The law of dimensions, in plain lists: products either way, what is taken back, powers, and that what is shown tells them. -/
import Derived.Test.YtbbkejfcheobaabDoorDimStr
namespace Go.Proofs.YtbbkejfcheobaabDoor
open Go.Proofs.YtbbkejfcheobaabDoor.RM

theorem dims_five {ys : List Int} (h : dimB ys = true) : ∃ a b c d e, ys = [a, b, c, d, e] ∧ (-9 ≤ a ∧ a ≤ 9) ∧ (-9 ≤ b ∧ b ≤ 9) ∧ (-9 ≤ c ∧ c ≤ 9) ∧ (-9 ≤ d ∧ d ≤ 9) ∧ (-9 ≤ e ∧ e ≤ 9) := by
  unfold dimB at h
  rw [Bool.and_eq_true, decide_eq_true_eq, List.all_eq_true] at h
  obtain ⟨a, b, c, d, e, rfl⟩ := dim_out h.1
  have g : ∀ x, x ∈ [a, b, c, d, e] → -9 ≤ x ∧ x ≤ 9 := by
    intro x hx
    have := h.2 x hx
    unfold in9 at this
    simpa using this
  exact ⟨a, b, c, d, e, rfl, g a (by simp), g b (by simp), g c (by simp), g d (by simp), g e (by simp)⟩
theorem dimB_of {a b c d e : Int} (ha : -9 ≤ a ∧ a ≤ 9) (hb : -9 ≤ b ∧ b ≤ 9) (hc : -9 ≤ c ∧ c ≤ 9) (hd : -9 ≤ d ∧ d ≤ 9) (he : -9 ≤ e ∧ e ≤ 9) : dimB [a, b, c, d, e] = true := by
  unfold dimB in9
  simp [ha, hb, hc, hd, he]
theorem ansT_is {a b t : List Int} (ht : t = ansDimTimes a b) (hne : t ≠ []) : dimB a = true ∧ dimB b = true ∧ t = List.zipWith (· + ·) a b ∧ dimB t = true := by
  unfold ansDimTimes at ht
  cases h1 : dimB a with
  | false => rw [h1] at ht; exact absurd ht hne
  | true =>
    cases h2 : dimB b with
    | false => rw [h1, h2] at ht; exact absurd ht hne
    | true =>
      rw [h1, h2] at ht
      simp only [Bool.and_self, if_true] at ht
      unfold dimN at ht
      cases h3 : dimB (List.zipWith (· + ·) a b) with
      | false => rw [h3] at ht; exact absurd ht hne
      | true => rw [h3] at ht; exact ⟨rfl, rfl, ht, by rw [ht]; exact h3⟩
theorem ansP_is {a t : List Int} {n : Int} (ht : t = ansDimPower a n) (hne : t ≠ []) : dimB a = true ∧ (a.all fun x => decide (x = 0) || in9 n) = true ∧ t = a.map (· * n) ∧ dimB t = true := by
  unfold ansDimPower at ht
  cases h1 : dimB a with
  | false => rw [h1] at ht; exact absurd ht hne
  | true =>
    rw [h1] at ht
    simp only [if_true] at ht
    cases h2 : (a.all fun x => decide (x = 0) || in9 n) with
    | false => rw [h2] at ht; exact absurd ht hne
    | true =>
      rw [h2] at ht
      simp only [if_true] at ht
      unfold dimN at ht
      cases h3 : dimB (a.map (· * n)) with
      | false => rw [h3] at ht; exact absurd ht hne
      | true => rw [h3] at ht; exact ⟨rfl, rfl, ht, by rw [ht]; exact h3⟩
theorem ansT_comm (a b : List Int) : ansDimTimes b a = ansDimTimes a b := by
  unfold ansDimTimes
  rw [Bool.and_comm, List.zipWith_comm_of_comm (by intro x y; exact Int.add_comm x y)]
theorem ansT_yes {a b : List Int} (h1 : dimB a = true) (h2 : dimB b = true) (h3 : dimB (List.zipWith (· + ·) a b) = true) : ansDimTimes a b = List.zipWith (· + ·) a b := by
  unfold ansDimTimes dimN
  rw [h1, h2, h3]; rfl
theorem ansP_yes {a : List Int} {n : Int} (h1 : dimB a = true) (h2 : in9 n = true) (h3 : dimB (a.map (· * n)) = true) : ansDimPower a n = a.map (· * n) := by
  unfold ansDimPower dimN
  have : (a.all fun x => decide (x = 0) || in9 n) = true := by rw [List.all_eq_true]; intro x _; rw [h2]; simp
  rw [h1, this, h3]; rfl
/-- a product by the second one's power -1 is the first one -/
theorem dim_back {a b t : List Int} (ht : t = ansDimTimes a b) (hne : t ≠ []) : dimB t = true ∧ ansDimTimes t (ansDimPower b (-1)) = a := by
  obtain ⟨h1, h2, h3, h4⟩ := ansT_is ht hne
  refine ⟨h4, ?_⟩
  obtain ⟨a0, a1, a2, a3, a4, rfl, p0, p1, p2, p3, p4⟩ := dims_five h1
  obtain ⟨c0, c1, c2, c3, c4, rfl, q0, q1, q2, q3, q4⟩ := dims_five h2
  have hb : dimB [c0 * -1, c1 * -1, c2 * -1, c3 * -1, c4 * -1] = true := dimB_of (by omega) (by omega) (by omega) (by omega) (by omega)
  have e1 : ansDimPower [c0, c1, c2, c3, c4] (-1) = [c0 * -1, c1 * -1, c2 * -1, c3 * -1, c4 * -1] := ansP_yes h2 (by decide) hb
  rw [e1]
  have e2 : List.zipWith (· + ·) t [c0 * -1, c1 * -1, c2 * -1, c3 * -1, c4 * -1] = [a0, a1, a2, a3, a4] := by
    rw [h3]
    simp
    omega
  rw [ansT_yes h4 hb (by rw [e2]; exact h1), e2]
/-- the next power is a product -/
theorem dim_next {d y : List Int} {m : Int} (h0 : 0 ≤ m) (h2 : m < 3) (hy : y = ansDimPower d (m + 1)) (hne : y ≠ []) : ansDimTimes (ansDimPower d m) d = y ∧ dimB y = true ∧ dimB (ansDimPower d m) = true := by
  obtain ⟨k1, k2, k3, k4⟩ := ansP_is hy hne
  obtain ⟨a0, a1, a2, a3, a4, rfl, p0, p1, p2, p3, p4⟩ := dims_five k1
  have hy2 : y = [a0 * (m + 1), a1 * (m + 1), a2 * (m + 1), a3 * (m + 1), a4 * (m + 1)] := k3
  rw [hy2] at k4
  obtain ⟨b0, b1, b2, b3, b4, e, q0, q1, q2, q3, q4⟩ := dims_five k4
  simp only [List.cons.injEq, and_true] at e
  obtain ⟨rfl, rfl, rfl, rfl, rfl⟩ := e
  have hm : m = 0 ∨ m = 1 ∨ m = 2 := by omega
  have hx : dimB [a0 * m, a1 * m, a2 * m, a3 * m, a4 * m] = true := by
    rcases hm with rfl | rfl | rfl <;> exact dimB_of (by omega) (by omega) (by omega) (by omega) (by omega)
  have ex : ansDimPower [a0, a1, a2, a3, a4] m = [a0 * m, a1 * m, a2 * m, a3 * m, a4 * m] := ansP_yes k1 (by rcases hm with rfl | rfl | rfl <;> decide) hx
  have ez : List.zipWith (· + ·) [a0 * m, a1 * m, a2 * m, a3 * m, a4 * m] [a0, a1, a2, a3, a4] = y := by
    rw [hy2]
    simp [Int.mul_add]
  rw [ex]
  exact ⟨by rw [ansT_yes hx k1 (by rw [ez, hy2]; exact k4), ez], by rw [hy2]; exact k4, hx⟩

/-- a word of a dimension behind a blank -/
def sg' (k : Nat) (n : Int) : List UInt8 := if n = 0 then [] else 32 :: dl k :: Lib.itoa n
theorem tail_snoc (ws : List (List UInt8)) (x : List UInt8) : Lib.joinTail [32] (ws ++ [x]) = Lib.joinTail [32] ws ++ (32 :: x) := by
  simp [Lib.joinTail]
theorem tail_seg (ys : List Int) (k : Nat) : Lib.joinTail [32] (wdU ys (k + 1)) = Lib.joinTail [32] (wdU ys k) ++ sg' k (ky ys k) := by
  unfold sg'
  by_cases h : ky ys k = 0
  · rw [wdU_no h, if_pos h, List.append_nil]
  · rw [wdU_yes h, if_neg h, tail_snoc]
theorem tail_five (a b c d e : Int) : Lib.joinTail [32] (wdU [a, b, c, d, e] 5) = sg' 0 a ++ (sg' 1 b ++ (sg' 2 c ++ (sg' 3 d ++ (sg' 4 e ++ [])))) := by
  rw [tail_seg, tail_seg, tail_seg, tail_seg, tail_seg, wdU_zero]
  simp [Lib.joinTail, ky, List.append_assoc]
/-- what may follow word k -/
def Tl (k : Nat) (T : List UInt8) : Prop := T = [] ∨ ∃ j c, k < j ∧ j < 5 ∧ T = 32 :: dl j :: c
theorem Tl.seg {k : Nat} {n : Int} {T : List UInt8} (h : Tl (k + 1) T) (hk : k + 1 < 5) : Tl k (sg' (k + 1) n ++ T) := by
  unfold sg'
  by_cases e : n = 0
  · rw [if_pos e, List.nil_append]
    rcases h with h | ⟨j, c, h1, h2, h3⟩
    · exact .inl h
    · exact .inr ⟨j, c, by omega, h2, h3⟩
  · rw [if_neg e]
    exact .inr ⟨k + 1, Lib.itoa n ++ T, by omega, hk, rfl⟩
theorem dl_ne {j k : Nat} (h : j < 5) (h2 : k < 5) (hne : j ≠ k) : dl j ≠ dl k := by
  have hj : j = 0 ∨ j = 1 ∨ j = 2 ∨ j = 3 ∨ j = 4 := by omega
  have hk : k = 0 ∨ k = 1 ∨ k = 2 ∨ k = 3 ∨ k = 4 := by omega
  rcases hj with rfl | rfl | rfl | rfl | rfl <;> rcases hk with rfl | rfl | rfl | rfl | rfl <;> first | exact absurd rfl hne | decide
theorem itoa_pos {n : Int} (h0 : 0 ≤ n) (h1 : n ≤ 9) : Lib.itoa n = [UInt8.ofNat (48 + n.toNat)] := by
  unfold Lib.itoa
  rw [if_neg (by omega), Lib.decDigits_one (by omega)]
theorem itoa_neg {n : Int} (h0 : -9 ≤ n) (h1 : n < 0) : Lib.itoa n = [45, UInt8.ofNat (48 + n.natAbs)] := by
  unfold Lib.itoa
  rw [if_pos h1, Lib.decDigits_one (by omega)]
theorem dig_inj {u v : Nat} (hu : u ≤ 9) (hv : v ≤ 9) (h : UInt8.ofNat (48 + u) = UInt8.ofNat (48 + v)) : u = v := by
  have := congrArg UInt8.toNat h
  simp at this
  omega
theorem dig_ne {u : Nat} (hu : u ≤ 9) : (45 : UInt8) ≠ UInt8.ofNat (48 + u) := by
  intro h
  have := congrArg UInt8.toNat h
  simp at this
  omega
theorem itoa_front {a b : Int} {T T' : List UInt8} (ha : -9 ≤ a ∧ a ≤ 9) (hb : -9 ≤ b ∧ b ≤ 9) (h : Lib.itoa a ++ T = Lib.itoa b ++ T') : a = b ∧ T = T' := by
  by_cases sa : a < 0 <;> by_cases sb : b < 0
  · rw [itoa_neg ha.1 sa, itoa_neg hb.1 sb] at h
    simp only [List.cons_append, List.nil_append, List.cons.injEq, true_and] at h
    have := dig_inj (by omega) (by omega) h.1
    exact ⟨by omega, h.2⟩
  · rw [itoa_neg ha.1 sa, itoa_pos (by omega) hb.2] at h
    simp only [List.cons_append, List.nil_append, List.cons.injEq] at h
    exact absurd h.1 (dig_ne (by omega))
  · rw [itoa_pos (by omega) ha.2, itoa_neg hb.1 sb] at h
    simp only [List.cons_append, List.nil_append, List.cons.injEq] at h
    exact absurd h.1.symm (dig_ne (by omega))
  · rw [itoa_pos (by omega) ha.2, itoa_pos (by omega) hb.2] at h
    simp only [List.cons_append, List.nil_append, List.cons.injEq] at h
    have := dig_inj (by omega) (by omega) h.1
    exact ⟨by omega, h.2⟩
theorem seg_front {k : Nat} {a b : Int} {T T' : List UInt8} (hk : k < 5) (ha : -9 ≤ a ∧ a ≤ 9) (hb : -9 ≤ b ∧ b ≤ 9) (hT : Tl k T) (hT' : Tl k T') (h : sg' k a ++ T = sg' k b ++ T') : a = b ∧ T = T' := by
  unfold sg' at h
  by_cases ea : a = 0 <;> by_cases eb : b = 0
  · rw [if_pos ea, if_pos eb] at h
    exact ⟨by omega, h⟩
  · rw [if_pos ea, if_neg eb] at h
    rcases hT with rfl | ⟨j, c, h1, h2, rfl⟩
    · cases h
    · simp only [List.nil_append, List.cons_append, List.cons.injEq, true_and] at h
      exact absurd h.1 (dl_ne h2 hk (by omega))
  · rw [if_neg ea, if_pos eb] at h
    rcases hT' with rfl | ⟨j, c, h1, h2, rfl⟩
    · cases h
    · simp only [List.nil_append, List.cons_append, List.cons.injEq, true_and] at h
      exact absurd h.1.symm (dl_ne h2 hk (by omega))
  · rw [if_neg ea, if_neg eb] at h
    simp only [List.cons_append, List.cons.injEq, true_and] at h
    exact itoa_front ha hb h
theorem tail_tl (a b c d e : Int) : sg' 0 a ++ (sg' 1 b ++ (sg' 2 c ++ (sg' 3 d ++ (sg' 4 e ++ [])))) = [] ∨ ∃ j r, j < 5 ∧ sg' 0 a ++ (sg' 1 b ++ (sg' 2 c ++ (sg' 3 d ++ (sg' 4 e ++ [])))) = 32 :: dl j :: r := by
  have t4 : Tl 4 ([] : List UInt8) := .inl rfl
  have t0 : Tl 0 (sg' 1 b ++ (sg' 2 c ++ (sg' 3 d ++ (sg' 4 e ++ [])))) := Tl.seg (Tl.seg (Tl.seg (Tl.seg t4 (by omega)) (by omega)) (by omega)) (by omega)
  by_cases ea : a = 0
  · have e0 : sg' 0 a = [] := by unfold sg'; rw [if_pos ea]
    rw [e0, List.nil_append]
    rcases t0 with h | ⟨j, r, h1, h2, h3⟩
    · exact .inl h
    · exact .inr ⟨j, r, h2, h3⟩
  · have e0 : sg' 0 a = 32 :: dl 0 :: Lib.itoa a := by unfold sg'; rw [if_neg ea]
    rw [e0]
    exact .inr ⟨0, _, by omega, rfl⟩
theorem tails_inj {a b c d e a' b' c' d' e' : Int} (ha : -9 ≤ a ∧ a ≤ 9) (hb : -9 ≤ b ∧ b ≤ 9) (hc : -9 ≤ c ∧ c ≤ 9) (hd : -9 ≤ d ∧ d ≤ 9) (he : -9 ≤ e ∧ e ≤ 9) (ha' : -9 ≤ a' ∧ a' ≤ 9) (hb' : -9 ≤ b' ∧ b' ≤ 9) (hc' : -9 ≤ c' ∧ c' ≤ 9) (hd' : -9 ≤ d' ∧ d' ≤ 9) (he' : -9 ≤ e' ∧ e' ≤ 9)
    (h : sg' 0 a ++ (sg' 1 b ++ (sg' 2 c ++ (sg' 3 d ++ (sg' 4 e ++ [])))) = sg' 0 a' ++ (sg' 1 b' ++ (sg' 2 c' ++ (sg' 3 d' ++ (sg' 4 e' ++ []))))) : [a, b, c, d, e] = [a', b', c', d', e'] := by
  have t4 : Tl 4 ([] : List UInt8) := .inl rfl
  have t3 : ∀ x, Tl 3 (sg' 4 x ++ []) := fun x => Tl.seg t4 (by omega)
  have t2 : ∀ x y, Tl 2 (sg' 3 x ++ (sg' 4 y ++ [])) := fun x y => Tl.seg (t3 y) (by omega)
  have t1 : ∀ x y z, Tl 1 (sg' 2 x ++ (sg' 3 y ++ (sg' 4 z ++ []))) := fun x y z => Tl.seg (t2 y z) (by omega)
  have t0 : ∀ x y z u, Tl 0 (sg' 1 x ++ (sg' 2 y ++ (sg' 3 z ++ (sg' 4 u ++ [])))) := fun x y z u => Tl.seg (t1 y z u) (by omega)
  obtain ⟨rfl, h1⟩ := seg_front (by omega) ha ha' (t0 _ _ _ _) (t0 _ _ _ _) h
  obtain ⟨rfl, h2⟩ := seg_front (by omega) hb hb' (t1 _ _ _) (t1 _ _ _) h1
  obtain ⟨rfl, h3⟩ := seg_front (by omega) hc hc' (t2 _ _) (t2 _ _) h2
  obtain ⟨rfl, h4⟩ := seg_front (by omega) hd hd' (t3 _) (t3 _) h3
  obtain ⟨rfl, h5⟩ := seg_front (by omega) he he' t4 t4 h4
  rfl
theorem tail_txU {ys : List Int} (h : wdU ys 5 ≠ []) : Lib.joinTail [32] (wdU ys 5) = 32 :: txU ys 5 := by
  unfold txU
  cases hw : wdU ys 5 with
  | nil => exact absurd hw h
  | cons x r =>
    rw [Lib.join_cons]
    simp [Lib.joinTail]
/-- what is shown tells which it is -/
theorem showD_inj {x y : List Int} (hx : dimB x = true) (hy : dimB y = true) (h : showD x = showD y) : x = y := by
  obtain ⟨a, b, c, d, e, rfl, p0, p1, p2, p3, p4⟩ := dims_five hx
  obtain ⟨a', b', c', d', e', rfl, q0, q1, q2, q3, q4⟩ := dims_five hy
  unfold showD at h
  rw [hx, hy] at h
  simp only [if_true] at h
  have j1 := tail_five a b c d e
  have j2 := tail_five a' b' c' d' e'
  have clash : ∀ (u v w z t : Int), wdU [u, v, w, z, t] 5 ≠ [] → [49] ≠ txU [u, v, w, z, t] 5 := by
    intro u v w z t hw he
    have k1 := tail_txU hw
    rw [tail_five, ← he] at k1
    rcases tail_tl u v w z t with k2 | ⟨j, r, k2, k3⟩
    · rw [k2] at k1; cases k1
    · rw [k3] at k1
      simp only [List.cons.injEq, true_and] at k1
      have hj : j = 0 ∨ j = 1 ∨ j = 2 ∨ j = 3 ∨ j = 4 := by omega
      rcases hj with rfl | rfl | rfl | rfl | rfl <;> exact absurd k1.1 (by decide)
  by_cases w1 : wdU [a, b, c, d, e] 5 = [] <;> by_cases w2 : wdU [a', b', c', d', e'] 5 = []
  · refine tails_inj p0 p1 p2 p3 p4 q0 q1 q2 q3 q4 ?_
    rw [← j1, ← j2, w1, w2]
  · rw [if_pos w1, if_neg w2] at h
    exact absurd h (clash _ _ _ _ _ w2)
  · rw [if_neg w1, if_pos w2] at h
    exact absurd h.symm (clash _ _ _ _ _ w1)
  · rw [if_neg w1, if_neg w2] at h
    refine tails_inj p0 p1 p2 p3 p4 q0 q1 q2 q3 q4 ?_
    rw [← j1, ← j2, tail_txU w1, tail_txU w2, h]
end Go.Proofs.YtbbkejfcheobaabDoor
