/- Row by column, as the program and as the model reckon it: the same where nothing is too great, and both know where something is. -/
import Derived.Test.YtkcdpjcfbpjkeanTabW2
namespace Go.Proofs.Ytkcdpjcfbpjkean
open Go.Proofs.Ytkcdpjcfbpjkean.RM

def mulP (x y : Fr) : Fr := (opN (two x.1 x.2 y.1 y.2) (x.1 * y.1) (x.2 * y.2), opD (two x.1 x.2 y.1 y.2) (x.1 * y.1) (x.2 * y.2))
def mulK (x y : Fr) : Bool := opOk (two x.1 x.2 y.1 y.2) (x.1 * y.1) (x.2 * y.2)
def addP (x y : Fr) : Fr := (opN (two x.1 x.2 y.1 y.2) (x.1 * y.2 + y.1 * x.2) (x.2 * y.2), opD (two x.1 x.2 y.1 y.2) (x.1 * y.2 + y.1 * x.2) (x.2 * y.2))
def addK (x y : Fr) : Bool := opOk (two x.1 x.2 y.1 y.2) (x.1 * y.2 + y.1 * x.2) (x.2 * y.2)
def subP (x y : Fr) : Fr := (opN (two x.1 x.2 y.1 y.2) (x.1 * y.2 - y.1 * x.2) (x.2 * y.2), opD (two x.1 x.2 y.1 y.2) (x.1 * y.2 - y.1 * x.2) (x.2 * y.2))
def subK (x y : Fr) : Bool := opOk (two x.1 x.2 y.1 y.2) (x.1 * y.2 - y.1 * x.2) (x.2 * y.2)
def divP (x y : Fr) : Fr := (opN (two x.1 x.2 y.1 y.2) (x.1 * y.2) (x.2 * y.1), opD (two x.1 x.2 y.1 y.2) (x.1 * y.2) (x.2 * y.1))
def divK (x y : Fr) : Bool := opOk (two x.1 x.2 y.1 y.2) (x.1 * y.2) (x.2 * y.1)
/-- what the model keeps of an answer: 0 where it says false -/
def keepF (o : Bool) (p : Fr) : Fr := (kN o p.1, kD o p.2)
theorem keepF_yes {o : Bool} {p : Fr} (h : o = true) : keepF o p = p := by unfold keepF kN kD; rw [if_pos h, if_pos h]
/-- is it right -/
def okF (p : Fr) : Bool := okB p.1 p.2
theorem mul_right {x y : Fr} (h : mulK x y = true) : okF (mulP x y) = true := op_right h
theorem add_right {x y : Fr} (h : addK x y = true) : okF (addP x y) = true := op_right h
theorem sub_right {x y : Fr} (h : subK x y = true) : okF (subP x y) = true := op_right h
theorem div_right {x y : Fr} (h : divK x y = true) : okF (divP x y) = true := op_right h
theorem mul_none {x y : Fr} (h : mulK x y = false) : mulP x y = (0, 0) := by unfold mulP; rw [(op_zero h).1, (op_zero h).2]
theorem add_none {x y : Fr} (h : addK x y = false) : addP x y = (0, 0) := by unfold addP; rw [(op_zero h).1, (op_zero h).2]
theorem add_zero_l (y : Fr) : addK (0, 0) y = false := by unfold addK opOk; rw [two_no1 okB_zero]; rfl
theorem add_zero_r (x : Fr) : addK x (0, 0) = false := by unfold addK opOk; rw [two_no2 okB_zero]; rfl
theorem sub_zero_r (x : Fr) : subK x (0, 0) = false := by unfold subK opOk; rw [two_no2 okB_zero]; rfl
theorem red_self {n d : Int} (h : okB n d = true) : redOk n d = true ∧ redN n d = n ∧ redD n d = d := by
  obtain ⟨h1, h2, h3, h4, h5⟩ := okB_out h
  have hs : sg n d = 1 := by rw [sg_pos (by omega), h5]
  have hi : redIn n d = true := redIn_mk ⟨by omega, by omega, by omega, by omega, by omega⟩
  have hb : bdB (n.tdiv (sg n d)) (d.tdiv (sg n d)) = true := by rw [hs, Int.tdiv_one, Int.tdiv_one]; exact bdB_mk ⟨h1, h2, h3, h4⟩
  obtain ⟨r1, r2, r3⟩ := red_yes hi hb
  rw [hs, Int.tdiv_one] at r2 r3
  exact ⟨r1, r2, r3⟩
/-- 0 and a right one -/
theorem add_null {p : Fr} (h : okF p = true) : addK (0, 1) p = true ∧ addP (0, 1) p = p := by
  have h0 : two 0 1 p.1 p.2 = true := two_yes (okB_whole (by omega) (by omega)) h
  obtain ⟨r1, r2, r3⟩ := red_self (show okB p.1 p.2 = true from h)
  have e1 : (0 : Int) * p.2 + p.1 * 1 = p.1 := by omega
  have e2 : (1 : Int) * p.2 = p.2 := by omega
  unfold addK addP
  show opOk (two 0 1 p.1 p.2) (0 * p.2 + p.1 * 1) (1 * p.2) = true ∧ (opN (two 0 1 p.1 p.2) (0 * p.2 + p.1 * 1) (1 * p.2), opD (two 0 1 p.1 p.2) (0 * p.2 + p.1 * 1) (1 * p.2)) = p
  rw [h0, e1, e2, (op_yes _ _).1, (op_yes _ _).2.1, (op_yes _ _).2.2, r1, r2, r3]
  exact ⟨rfl, rfl⟩
/-- the program's sum of k products -/
def pdot (row : List Fr) (b : List (List Fr)) (j : Nat) : Nat → Fr × Bool
  | 0 => ((0, 1), true)
  | k + 1 => (addP (pdot row b j k).1 (mulP (fr row k) (fr (rw' b k) j)), addK (pdot row b j k).1 (mulP (fr row k) (fr (rw' b k) j)))
/-- the model's sum of k + 1 products, and was something too great -/
def sdot (row : List Fr) (b : List (List Fr)) (j : Nat) : Nat → Fr × Bool
  | 0 => (keepF (mulK (fr row 0) (fr (rw' b 0) j)) (mulP (fr row 0) (fr (rw' b 0) j)), !mulK (fr row 0) (fr (rw' b 0) j))
  | k + 1 =>
    let p := keepF (mulK (fr row (k + 1)) (fr (rw' b (k + 1)) j)) (mulP (fr row (k + 1)) (fr (rw' b (k + 1)) j))
    let s := sdot row b j k
    (keepF (addK s.1 p) (addP s.1 p), s.2 || !mulK (fr row (k + 1)) (fr (rw' b (k + 1)) j) || !addK s.1 p)
theorem dot_both (row : List Fr) (b : List (List Fr)) (j : Nat) : ∀ k, ((sdot row b j k).2 = true ∧ pdot row b j (k + 1) = ((0, 0), false)) ∨ ((sdot row b j k).2 = false ∧ pdot row b j (k + 1) = ((sdot row b j k).1, true) ∧ okF (sdot row b j k).1 = true)
  | 0 => by
    by_cases h : mulK (fr row 0) (fr (rw' b 0) j) = true
    · have hr := mul_right h
      obtain ⟨a1, a2⟩ := add_null hr
      refine .inr ⟨by simp [sdot, h], ?_, ?_⟩
      · simp only [pdot, sdot]
        rw [a1, a2, keepF_yes h]
      · simp only [sdot]; rw [keepF_yes h]; exact hr
    · rw [Bool.not_eq_true] at h
      refine .inl ⟨by simp [sdot, h], ?_⟩
      simp only [pdot]
      rw [mul_none h, add_none (add_zero_r _), add_zero_r]
  | k + 1 => by
    have ih := dot_both row b j k
    rcases ih with ⟨h1, h2⟩ | ⟨h1, h2, h3⟩
    · refine .inl ⟨by simp [sdot, h1], ?_⟩
      rw [show pdot row b j (k + 1 + 1) = (addP (pdot row b j (k + 1)).1 (mulP (fr row (k + 1)) (fr (rw' b (k + 1)) j)), addK (pdot row b j (k + 1)).1 (mulP (fr row (k + 1)) (fr (rw' b (k + 1)) j))) from rfl, h2]
      rw [add_none (add_zero_l _), add_zero_l]
    · rw [show pdot row b j (k + 1 + 1) = (addP (pdot row b j (k + 1)).1 (mulP (fr row (k + 1)) (fr (rw' b (k + 1)) j)), addK (pdot row b j (k + 1)).1 (mulP (fr row (k + 1)) (fr (rw' b (k + 1)) j))) from rfl, h2]
      by_cases h : mulK (fr row (k + 1)) (fr (rw' b (k + 1)) j) = true
      · by_cases ha : addK (sdot row b j k).1 (mulP (fr row (k + 1)) (fr (rw' b (k + 1)) j)) = true
        · refine .inr ⟨by simp [sdot, h, h1, keepF_yes, ha], ?_, ?_⟩
          · simp only [sdot]
            rw [keepF_yes h, keepF_yes ha, ha]
          · simp only [sdot]
            rw [keepF_yes h, keepF_yes ha]
            exact add_right ha
        · rw [Bool.not_eq_true] at ha
          refine .inl ⟨by simp [sdot, h, keepF_yes, ha], ?_⟩
          rw [add_none ha, ha]
      · rw [Bool.not_eq_true] at h
        refine .inl ⟨by simp [sdot, h], ?_⟩
        rw [mul_none h, add_none (add_zero_r _), add_zero_r]
/-- the model's entry of row i, column j -/
def timE (a b : List (List Fr)) (i j : Nat) : Fr × Bool := sdot (rw' a i) b j (b.length - 1)
def timRow (a b : List (List Fr)) (i L : Nat) : List Fr := (List.range L).map fun j => (timE a b i j).1
/-- the product, of which k rows are reckoned -/
def timT (a b : List (List Fr)) (k : Nat) : List (List Fr) := (List.range k).map fun i => timRow a b i (rw' b 0).length
/-- may it be reckoned at all -/
def timC (a b : List (List Fr)) : Bool := tabB a 6 && tabB b 6 && decide ((rw' a 0).length = b.length)
/-- is one of the first j entries of row i too great -/
def badR (a b : List (List Fr)) (i j : Nat) : Bool := (List.range j).any fun x => (timE a b i x).2
/-- of the first i rows -/
def badT' (a b : List (List Fr)) (i : Nat) : Bool := (List.range i).any fun x => badR a b x (rw' b 0).length
theorem badR_succ (a b : List (List Fr)) (i j : Nat) : badR a b i (j + 1) = (badR a b i j || (timE a b i j).2) := by simp [badR, List.range_succ]
theorem badT_succ (a b : List (List Fr)) (i : Nat) : badT' a b (i + 1) = (badT' a b i || badR a b i (rw' b 0).length) := by simp [badT', List.range_succ]
theorem timRow_succ (a b : List (List Fr)) (i j : Nat) : timRow a b i (j + 1) = timRow a b i j ++ [(timE a b i j).1] := by simp [timRow, List.range_succ]
theorem timT_succ (a b : List (List Fr)) (k : Nat) : timT a b (k + 1) = timT a b k ++ [timRow a b k (rw' b 0).length] := by simp [timT, List.range_succ]
theorem timRow_len (a b : List (List Fr)) (i L : Nat) : (timRow a b i L).length = L := by simp [timRow]
theorem timT_len (a b : List (List Fr)) (k : Nat) : (timT a b k).length = k := by simp [timT]
/-- does it say true -/
def timO (a b : List (List Fr)) : Bool := timC a b && !badT' a b a.length
def timA (a b : List (List Fr)) : List (List Fr) := if timO a b = true then timT a b a.length else []
theorem any_mem {n i : Nat} {p : Nat → Bool} (hi : i < n) (h : p i = true) : (List.range n).any p = true := by
  rw [List.any_eq_true]; exact ⟨i, by simpa using hi, h⟩
/-- one entry that is too great -/
theorem timO_bad {a b : List (List Fr)} {i j : Nat} (hi : i < a.length) (hj : j < (rw' b 0).length) (h : (timE a b i j).2 = true) : timO a b = false := by
  unfold timO badT'
  rw [any_mem (p := fun x => badR a b x (rw' b 0).length) hi (any_mem (p := fun x => (timE a b i x).2) hj h)]
  simp
theorem timO_no {a b : List (List Fr)} (h : timC a b = false) : timO a b = false := by unfold timO; rw [h]; rfl
theorem timA_no {a b : List (List Fr)} (h : timO a b = false) : timA a b = [] := by unfold timA; rw [h]; rfl
theorem timA_yes {a b : List (List Fr)} (h : timO a b = true) : timA a b = timT a b a.length := by unfold timA; rw [if_pos h]
theorem timC_out {a b : List (List Fr)} (h : timC a b = true) : tabB a 6 = true ∧ tabB b 6 = true ∧ (rw' a 0).length = b.length := by
  unfold timC at h
  rw [Bool.and_eq_true, Bool.and_eq_true, decide_eq_true_eq] at h
  exact ⟨h.1.1, h.1.2, h.2⟩
end Go.Proofs.Ytkcdpjcfbpjkean
