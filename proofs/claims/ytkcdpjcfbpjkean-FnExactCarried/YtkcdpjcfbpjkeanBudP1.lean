/- The walks of the program's helpers of a budget: a product of three, the places of a cover, the numbers of a row. -/
import Derived.Test.YtkcdpjcfbpjkeanTimW3
import Derived.Test.YtkcdpjcfbpjkeanBudMath
import Derived.Test.YtkcdpjcfbpjkeanBudW1
namespace Go.Proofs.Ytkcdpjcfbpjkean
open Go.RowKit Go.Proofs.Ytkcdpjcfbpjkean.RM

/-- a product of three as the program has it -/
def tbP (a c b : Fr) : Fr := mulP (mulP a c) b
/-- a sum as the program goes on with it -/
def pfold (f : Nat → Fr) : Nat → Fr × Bool
  | 0 => ((0, 1), true)
  | k + 1 => (addP (pfold f k).1 (f k), addK (pfold f k).1 (f k))
/-- what program and model have of a sum on its way -/
def RelS (p m : Fr × Bool) : Prop := (m.2 = true ∧ p = ((0, 0), false)) ∨ (m.2 = false ∧ p = (m.1, true))
theorem RelS.step {p m : Fr × Bool} (h : RelS p m) (a c b : Fr) : RelS (addP p.1 (tbP a c b), addK p.1 (tbP a c b)) (stpV m a c b) := by
  unfold RelS stpV
  rcases h with ⟨h1, rfl⟩ | ⟨h1, rfl⟩
  · refine .inl ⟨by dsimp only; rw [h1]; simp, ?_⟩
    dsimp only
    rw [add_zero_l, add_none (add_zero_l _)]
  · dsimp only
    rw [h1]
    unfold p1V tbP
    cases e1 : mulK a c
    · refine .inl ⟨by simp, ?_⟩
      have z1 : mulP a c = (0, 0) := mul_none e1
      have z2 : mulP (mulP a c) b = (0, 0) := mul_none (by rw [z1]; unfold mulK opOk; rw [two_no1 okB_zero]; rfl)
      rw [z2, add_zero_r, add_none (add_zero_r _)]
    · rw [keepF_yes rfl]
      cases e2 : mulK (mulP a c) b
      · refine .inl ⟨by simp, ?_⟩
        rw [mul_none e2, add_zero_r, add_none (add_zero_r _)]
      · rw [keepF_yes rfl]
        cases e3 : addK m.1 (mulP (mulP a c) b)
        · exact .inl ⟨by simp, by rw [add_none e3]⟩
        · exact .inr ⟨by simp, by rw [keepF_yes rfl]⟩

/-- the places of a row of n numbers -/
def plcI (a : Nat) : Nat → List Fr
  | 0 => []
  | b + 1 => plcI a b ++ [((a : Int), (b : Int))]
def plcT (n : Nat) : Nat → List Fr
  | 0 => []
  | a + 1 => plcT n a ++ plcI a n
theorem plcI_len (a : Nat) : ∀ n, (plcI a n).length = n
  | 0 => rfl
  | n + 1 => by simp [plcI, plcI_len a n]
theorem plcT_len (n : Nat) : ∀ a, (plcT n a).length = a * n
  | 0 => by simp [plcT]
  | a + 1 => by simp [plcT, plcT_len n a, plcI_len, Nat.add_mul]
theorem fr_app1 (l r : List Fr) (i : Nat) (h : i < l.length) : fr (l ++ r) i = fr l i := by unfold fr; rw [List.getElem?_append_left h]
theorem fr_app2 (l r : List Fr) (i : Nat) (h : l.length ≤ i) : fr (l ++ r) i = fr r (i - l.length) := by unfold fr; rw [List.getElem?_append_right h]
theorem plcI_at (a : Nat) : ∀ n b, b < n → fr (plcI a n) b = ((a : Int), (b : Int))
  | n + 1, b, h => by
    show fr (plcI a n ++ [((a : Int), (n : Int))]) b = _
    by_cases e : b < n
    · rw [fr_app1 _ _ _ (by rw [plcI_len]; exact e)]; exact plcI_at a n b e
    · obtain rfl : b = n := by omega
      rw [fr_app2 _ _ _ (by rw [plcI_len]; exact Nat.le_refl _), plcI_len, Nat.sub_self]; rfl
theorem plcT_at (n : Nat) : ∀ k a b, a < k → b < n → fr (plcT n k) (a * n + b) = ((a : Int), (b : Int))
  | k + 1, a, b, ha, hb => by
    show fr (plcT n k ++ plcI k n) (a * n + b) = _
    by_cases e : a < k
    · have : a * n + b < k * n := by
        have : (a + 1) * n ≤ k * n := Nat.mul_le_mul_right n (by omega)
        rw [Nat.add_mul] at this; omega
      rw [fr_app1 _ _ _ (by rw [plcT_len]; exact this)]; exact plcT_at n k a b e hb
    · obtain rfl : a = k := by omega
      rw [fr_app2 _ _ _ (by rw [plcT_len]; omega), plcT_len, show a * n + b - a * n = b by omega]; exact plcI_at a n b hb

/-- a sum over places is the model's sum over rows -/
theorem fold_row (f : Nat → Fr) (a : Fr) (r bs : List Fr) (t0 : Nat) (m : Fr × Bool) (n : Nat) (h0 : RelS (pfold f t0) m) (hf : ∀ b, b < n → f (t0 + b) = tbP a (fr r b) (fr bs b)) :
    ∀ b, b ≤ n → RelS (pfold f (t0 + b)) (rowV a r bs m b)
  | 0, _ => h0
  | b + 1, hb => by
    have := (fold_row f a r bs t0 m n h0 hf b (by omega)).step a (fr r b) (fr bs b)
    show RelS (addP (pfold f (t0 + b)).1 (f (t0 + b)), addK (pfold f (t0 + b)).1 (f (t0 + b))) _
    rw [hf b (by omega)]
    exact this
theorem fold_sum (f : Nat → Fr) (ps : List Fr) (rows : List (List Fr)) (bs : List Fr) (hf : ∀ a, a < rows.length → ∀ b, b < rows.length → f (a * rows.length + b) = tbP (fr ps a) (fr (rw' rows a) b) (fr bs b)) :
    ∀ a, a ≤ rows.length → RelS (pfold f (a * rows.length)) (sumV ps rows bs false a)
  | 0, _ => by rw [Nat.zero_mul]; exact .inr ⟨rfl, rfl⟩
  | a + 1, ha => by
    have h0 := fold_sum f ps rows bs hf a (by omega)
    rw [Nat.add_mul, Nat.one_mul]
    exact fold_row f (fr ps a) (rw' rows a) bs (a * rows.length) _ rows.length h0 (hf a (by omega)) rows.length (Nat.le_refl _)
theorem fold_part (f : Nat → Fr) (ps : List Fr) (rows : List (List Fr)) (i : Nat) (hf : ∀ b, b < rows.length → f b = tbP (fr ps i) (fr (rw' rows i) b) (fr ps b)) :
    RelS (pfold f rows.length) (partS ps rows i false) := by
  have := fold_row f (fr ps i) (rw' rows i) ps 0 ((0, 1), false) rows.length (.inr ⟨rfl, rfl⟩) (fun b hb => by rw [Nat.zero_add]; exact hf b hb) rows.length (Nat.le_refl _)
  rw [Nat.zero_add] at this
  exact this

theorem ret_ag {a b a' b' : Int} (h1 : a = a') (h2 : b = b') : Ending.returned (.agg #[.int .i64 a, .int .i64 b]) = .returned (.agg #[.int .i64 a', .int .i64 b']) := by rw [h1, h2]

set_option maxRecDepth 100000 in
set_option maxHeartbeats 2000000 in
theorem tb_any (a1 a2 c1 c2 b1 b2 : Int) (w : World) :
    Calls Try.prog 49 #[.agg #[.int .i64 a1, .int .i64 a2], .agg #[.int .i64 c1, .int .i64 c2], .agg #[.int .i64 b1, .int .i64 b2]] w fun e w' =>
      e = .returned (.agg #[.int .i64 (tbP (a1, a2) (c1, c2) (b1, b2)).1, .int .i64 (tbP (a1, a2) (c1, c2) (b1, b2)).2]) ∧ Below w.heap.size w w' := by
  have b0 : ∀ {u : World} (o : Obj), Below u.heap.size u (u.alloc o) := fun o => (Below.refl _ _).alloc (Nat.le_refl _) o
  have H1 := hidW8 (fun W => mulC a1 a2 c1 c2 W)
  obtain ⟨p, hp⟩ : ∃ p, p = mulP (a1, a2) (c1, c2) := ⟨_, rfl⟩
  obtain ⟨po, hpo⟩ : ∃ p, p = mulK (a1, a2) (c1, c2) := ⟨_, rfl⟩
  have HQ : Hid (tbP (a1, a2) (c1, c2) (b1, b2) = mulP p (b1, b2)) := by show _ = _; rw [hp]; rfl
  rw [← hp, ← hpo] at H1
  obtain ⟨p1, p2⟩ := p
  have H2 := hidW8 (fun W => mulC p1 p2 b1 b2 W)
  rw [HQ.out]
  obtain ⟨q, hq⟩ : ∃ p, p = mulP (p1, p2) (b1, b2) := ⟨_, rfl⟩
  obtain ⟨qo, hqo⟩ : ∃ p, p = mulK (p1, p2) (b1, b2) := ⟨_, rfl⟩
  rw [← hq, ← hqo] at H2
  rw [← hq]
  obtain ⟨q1, q2⟩ := q
  clear hp hpo hq hqo HQ
  go_enter Try.func49, Try.ntmps49
  go_wp2_with fail
  obtain ⟨X, hX⟩ : ∃ X, X = (((w.alloc (.cells #[.int .i64 a1, .int .i64 a2] 32)).alloc (.cells #[.int .i64 c1, .int .i64 c2] 32)).alloc (.cells #[.int .i64 b1, .int .i64 b2] 32)).alloc (.cells #[.int .i64 0, .int .i64 0] 32) := ⟨_, rfl⟩
  have R2 : IsR X (w.heap.size + 2) b1 b2 := by
    rw [hX]
    have := (IsR.new ((w.alloc (.cells #[.int .i64 a1, .int .i64 a2] 32)).alloc (.cells #[.int .i64 c1, .int .i64 c2] 32)) b1 b2).below (b0 (.cells #[.int .i64 0, .int .i64 0] 32))
    simpa using this
  have R3 : IsR X (w.heap.size + 3) 0 0 := by
    rw [hX]
    have := IsR.new (((w.alloc (.cells #[.int .i64 a1, .int .i64 a2] 32)).alloc (.cells #[.int .i64 c1, .int .i64 c2] 32)).alloc (.cells #[.int .i64 b1, .int .i64 b2] 32)) 0 0
    simpa using this
  have B0 : Below w.heap.size w X := by rw [hX]; exact ((((Below.refl _ _).alloc (Nat.le_refl _) _).alloc (by simp) _).alloc (by simp; omega) _).alloc (by simp; omega) _
  rw [← hX]
  clear hX
  have hsX := B0.size
  refine (H1.out _).mono ?_
  rintro e w1 ⟨rfl, hb⟩
  have S2 := R2.below hb
  have S3 := R3.below hb
  have B1 := B0.trans (hb.mono hsX)
  have hs1 := B1.size
  have hsw := hb.size
  clear hb
  have P1 := IsR.new w1 p1 p2
  replace S2 := S2.below (b0 (.cells #[.int .i64 p1, .int .i64 p2] 32))
  replace S3 := S3.below (b0 (.cells #[.int .i64 p1, .int .i64 p2] 32))
  replace B1 := B1.trans ((b0 (u := w1) (.cells #[.int .i64 p1, .int .i64 p2] 32)).mono hs1)
  have z0 := S2.c0
  have z1 := S2.c1
  have hs2 := B1.size
  have hlt3 := R3.lt
  go_wp2_with fail
  refine (H2.out _).mono ?_
  rintro e w2 ⟨rfl, hb⟩
  have T3 := S3.below hb
  have T4 := P1.below hb
  have B2 := B1.trans (hb.mono hs2)
  have y0 := T3.c0
  have y1 := T3.c1
  have y2 := T3.f0
  have y3 := T3.f1
  have x0 := T4.c0
  have x1 := T4.c1
  have x2 := T4.f0
  have x3 := T4.f1
  have hne : w1.heap.size ≠ w.heap.size + 3 := by omega
  clear hb z0 z1
  go_wp2
  exact bodyPost_ret (v := .agg #[.int .i64 q1, .int .i64 q2]) (by simp [results, Try.results49, go_sem, y0, y1]) rfl ⟨rfl, (((B2.setCell (p := ⟨w1.heap.size, 0, none⟩) hs1 _).setCell (p := ⟨w1.heap.size, 1, none⟩) hs1 _).setCell (p := ⟨w.heap.size + 3, 0, none⟩) (by simp) _).setCell (p := ⟨w.heap.size + 3, 1, none⟩) (by simp) _⟩
end Go.Proofs.Ytkcdpjcfbpjkean
