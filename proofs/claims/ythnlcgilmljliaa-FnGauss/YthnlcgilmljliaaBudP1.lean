/- The walks of the program's helpers of a budget: a product of three, the places of a cover, the numbers of a row. -/
import Derived.Test.YthnlcgilmljliaaTimW3
import Derived.Test.YthnlcgilmljliaaBudMath
import Derived.Test.YthnlcgilmljliaaBudW1
namespace Go.Proofs.Ythnlcgilmljliaa
open Go.RowKit Go.Proofs.Ythnlcgilmljliaa.RM

/-- a product of three as the program has it -/
def tbP (a c b : Fr) : Fr := mulP (mulP a c) b
/-- a sum as the program goes on with it -/
def pfold (f : Nat → Fr) : Nat → Fr × Bool
  | 0 => ((0, 1), true)
  | k + 1 => (addP (pfold f k).1 (f k), addK (pfold f k).1 (f k))
/-- what program and model have of a sum on its way -/
def RelS (p m : Fr × Bool) : Prop := (m.2 = true ∧ p = ((0, 0), false)) ∨ (m.2 = false ∧ p = (m.1, true))
theorem RelS.step {p m : Fr × Bool} (h : RelS p m) (a c b : Fr) : RelS (addP p.1 (tbP a c b), addK p.1 (tbP a c b)) (stpV m a c b) := by
  unfold RelS stpV
  rcases h with ⟨h1, rfl⟩ | ⟨h1, rfl⟩
  · refine .inl ⟨by dsimp only; rw [h1]; simp, ?_⟩
    dsimp only
    rw [add_zero_l, add_none (add_zero_l _)]
  · dsimp only
    rw [h1]
    unfold p1V tbP
    cases e1 : mulK a c
    · refine .inl ⟨by simp, ?_⟩
      have z1 : mulP a c = (0, 0) := mul_none e1
      have z2 : mulP (mulP a c) b = (0, 0) := mul_none (by rw [z1]; unfold mulK opOk; rw [two_no1 okB_zero]; rfl)
      rw [z2, add_zero_r, add_none (add_zero_r _)]
    · rw [keepF_yes rfl]
      cases e2 : mulK (mulP a c) b
      · refine .inl ⟨by simp, ?_⟩
        rw [mul_none e2, add_zero_r, add_none (add_zero_r _)]
      · rw [keepF_yes rfl]
        cases e3 : addK m.1 (mulP (mulP a c) b)
        · exact .inl ⟨by simp, by rw [add_none e3]⟩
        · exact .inr ⟨by simp, by rw [keepF_yes rfl]⟩

/-- the places of a row of n numbers -/
def plcI (a : Nat) : Nat → List Fr
  | 0 => []
  | b + 1 => plcI a b ++ [((a : Int), (b : Int))]
def plcT (n : Nat) : Nat → List Fr
  | 0 => []
  | a + 1 => plcT n a ++ plcI a n
theorem plcI_len (a : Nat) : ∀ n, (plcI a n).length = n
  | 0 => rfl
  | n + 1 => by simp [plcI, plcI_len a n]
theorem plcT_len (n : Nat) : ∀ a, (plcT n a).length = a * n
  | 0 => by simp [plcT]
  | a + 1 => by simp [plcT, plcT_len n a, plcI_len, Nat.add_mul]
theorem fr_app1 (l r : List Fr) (i : Nat) (h : i < l.length) : fr (l ++ r) i = fr l i := by unfold fr; rw [List.getElem?_append_left h]
theorem fr_app2 (l r : List Fr) (i : Nat) (h : l.length ≤ i) : fr (l ++ r) i = fr r (i - l.length) := by unfold fr; rw [List.getElem?_append_right h]
theorem plcI_at (a : Nat) : ∀ n b, b < n → fr (plcI a n) b = ((a : Int), (b : Int))
  | n + 1, b, h => by
    show fr (plcI a n ++ [((a : Int), (n : Int))]) b = _
    by_cases e : b < n
    · rw [fr_app1 _ _ _ (by rw [plcI_len]; exact e)]; exact plcI_at a n b e
    · obtain rfl : b = n := by omega
      rw [fr_app2 _ _ _ (by rw [plcI_len]; exact Nat.le_refl _), plcI_len, Nat.sub_self]; rfl
theorem plcT_at (n : Nat) : ∀ k a b, a < k → b < n → fr (plcT n k) (a * n + b) = ((a : Int), (b : Int))
  | k + 1, a, b, ha, hb => by
    show fr (plcT n k ++ plcI k n) (a * n + b) = _
    by_cases e : a < k
    · have : a * n + b < k * n := by
        have : (a + 1) * n ≤ k * n := Nat.mul_le_mul_right n (by omega)
        rw [Nat.add_mul] at this; omega
      rw [fr_app1 _ _ _ (by rw [plcT_len]; exact this)]; exact plcT_at n k a b e hb
    · obtain rfl : a = k := by omega
      rw [fr_app2 _ _ _ (by rw [plcT_len]; omega), plcT_len, show a * n + b - a * n = b by omega]; exact plcI_at a n b hb

/-- a sum over places is the model's sum over rows -/
theorem fold_row (f : Nat → Fr) (a : Fr) (r bs : List Fr) (t0 : Nat) (m : Fr × Bool) (n : Nat) (h0 : RelS (pfold f t0) m) (hf : ∀ b, b < n → f (t0 + b) = tbP a (fr r b) (fr bs b)) :
    ∀ b, b ≤ n → RelS (pfold f (t0 + b)) (rowV a r bs m b)
  | 0, _ => h0
  | b + 1, hb => by
    have := (fold_row f a r bs t0 m n h0 hf b (by omega)).step a (fr r b) (fr bs b)
    show RelS (addP (pfold f (t0 + b)).1 (f (t0 + b)), addK (pfold f (t0 + b)).1 (f (t0 + b))) _
    rw [hf b (by omega)]
    exact this
theorem fold_sum (f : Nat → Fr) (ps : List Fr) (rows : List (List Fr)) (bs : List Fr) (hf : ∀ a, a < rows.length → ∀ b, b < rows.length → f (a * rows.length + b) = tbP (fr ps a) (fr (rw' rows a) b) (fr bs b)) :
    ∀ a, a ≤ rows.length → RelS (pfold f (a * rows.length)) (sumV ps rows bs false a)
  | 0, _ => by rw [Nat.zero_mul]; exact .inr ⟨rfl, rfl⟩
  | a + 1, ha => by
    have h0 := fold_sum f ps rows bs hf a (by omega)
    rw [Nat.add_mul, Nat.one_mul]
    exact fold_row f (fr ps a) (rw' rows a) bs (a * rows.length) _ rows.length h0 (hf a (by omega)) rows.length (Nat.le_refl _)
theorem fold_part (f : Nat → Fr) (ps : List Fr) (rows : List (List Fr)) (i : Nat) (hf : ∀ b, b < rows.length → f b = tbP (fr ps i) (fr (rw' rows i) b) (fr ps b)) :
    RelS (pfold f rows.length) (partS ps rows i false) := by
  have := fold_row f (fr ps i) (rw' rows i) ps 0 ((0, 1), false) rows.length (.inr ⟨rfl, rfl⟩) (fun b hb => by rw [Nat.zero_add]; exact hf b hb) rows.length (Nat.le_refl _)
  rw [Nat.zero_add] at this
  exact this

theorem ret_ag {a b a' b' : Int} (h1 : a = a') (h2 : b = b') : Ending.returned (.agg #[.int .i64 a, .int .i64 b]) = .returned (.agg #[.int .i64 a', .int .i64 b']) := by rw [h1, h2]

end Go.Proofs.Ythnlcgilmljliaa
