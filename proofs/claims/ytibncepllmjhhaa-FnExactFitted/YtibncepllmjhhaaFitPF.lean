/- Fitted as the program reckons it, held together with the model. -/
import Derived.Test.YtibncepllmjhhaaFitPM
import Derived.Test.YtibncepllmjhhaaFitW7
namespace Go.Proofs.Ytibncepllmjhhaa
open Go.RowKit Go.Proofs.Ytibncepllmjhhaa.RM

def fitT (ss : List Sp) (n : Int) : List (List Fr) := (fitV ss n.toNat n.toNat).1.1
def fitR (ss : List Sp) (n : Int) : List Fr := (fitV ss n.toNat n.toNat).1.2
def fitO (ss : List Sp) (n : Int) : Bool := sptB ss && (inB n 1 4 && (!(fitV ss n.toNat n.toNat).2 && (echK (wideT (fitT ss n) (fitR ss n)) && solF (fitT ss n).length (echC (wideT (fitT ss n) (fitR ss n))))))
def fitA (ss : List Sp) (n : Int) : List Fr := if fitO ss n = true then solX (fitT ss n) (fitR ss n) else []
theorem fitA_no {ss : List Sp} {n : Int} (h : fitO ss n = false) : fitA ss n = [] := by unfold fitA; rw [h]; rfl
def oneF : Nat → Fr := fun _ => (1, 1)
theorem nrS_bd (s x : Fr) (p : Nat) (y : Fr) (bd f : Bool) : nrS s x p (y, bd || f) = ((nrS s x p (y, f)).1, bd || (nrS s x p (y, f)).2) := by
  unfold nrS
  dsimp only
  rw [pow_bd x (bd || f), pow_bd x f]
  simp [Bool.or_assoc]
theorem pqS_bd (s x : Fr) (n : Nat) (bd f : Bool) : pqS s x n (bd || f) = ((pqS s x n f).1, bd || (pqS s x n f).2) := by
  unfold pqS
  rw [pow_bd x (bd || f), pow_bd x f]
  simp [Bool.or_assoc]
theorem pq_bd (ss : List Sp) (n : Nat) (bd : Bool) : ∀ k, pqV ss n bd k = ((pqV ss n false k).1, bd || (pqV ss n false k).2)
  | 0 => by simp [pqV]
  | k + 1 => by
    show pqS (pqV ss n bd k).1 _ n (pqV ss n bd k).2 = _
    rw [pq_bd ss n bd k, pqS_bd]
    rfl
theorem rgt_bd (ss : List Sp) (p : Nat) (bd : Bool) : ∀ k, rgtV ss p bd k = ((rgtV ss p false k).1, bd || (rgtV ss p false k).2)
  | 0 => by simp [rgtV]
  | k + 1 => by
    show nrS (rgtV ss p bd k).1 _ p (_, (rgtV ss p bd k).2) = _
    rw [rgt_bd ss p bd k, nrS_bd]
    rfl
theorem pq_z (ss : List Sp) (n : Nat) : ∀ k, RelZ (spS oneF ss n k) (pqV ss n false k)
  | 0 => .inr ⟨rfl, rfl⟩
  | k + 1 => by
    have ih := pq_z ss n k
    refine RelZ.addZ (e := powV (sp ss k).1 (pqV ss n false k).2 n) ih (fun e => by rw [pow_bd, e]; rfl) (fun e => ?_)
    rw [e]
    show RelZ (mulP (powP (sp ss k).1 n) (1, 1)) _
    rcases pow_z (sp ss k).1 n with ⟨h1, h2⟩ | ⟨h1, h2⟩
    · exact .inl ⟨h1, by rw [h2, mulZl]⟩
    · exact .inr ⟨h1, by rw [h2, mul_unit (pow_ok _ _ h1)]⟩
theorem pq_ok {ss : List Sp} {n k : Nat} (h : (pqV ss n false (k + 1)).2 = false) : okF (pqV ss n false (k + 1)).1 = true := by
  have h' : ((powV (sp ss k).1 (pqV ss n false k).2 n).2 || !addK (pqV ss n false k).1 (powV (sp ss k).1 (pqV ss n false k).2 n).1) = false := h
  rw [Bool.or_eq_false_iff] at h'
  have hm := h'.2
  rw [Bool.not_eq_false'] at hm
  show okF (a1V (pqV ss n false k).1 (powV (sp ss k).1 (pqV ss n false k).2 n).1) = true
  unfold a1V
  rw [keepF_yes hm]
  exact add_right hm
theorem rgt_z (ss : List Sp) (p : Nat) : ∀ k, RelZ (spS (fun j => (sp ss j).2) ss p k) (rgtV ss p false k)
  | 0 => .inr ⟨rfl, rfl⟩
  | k + 1 => spS_step (rgt_z ss p k) (fun e => e) (fun e => .inr ⟨e, rfl⟩)
theorem rgt_ok {ss : List Sp} {p k : Nat} (h : (rgtV ss p false (k + 1)).2 = false) : okF (rgtV ss p false (k + 1)).1 = true := nrS_ok h
theorem frw_list (ss : List Sp) (p : Nat) (bd : Bool) : ∀ q, frwV ss p bd q = ((List.range q).map (fun i => (pqV ss (p + i) false ss.length).1), bd || (List.range q).any (fun i => (pqV ss (p + i) false ss.length).2))
  | 0 => by simp [frwV]
  | q + 1 => by
    show ((frwV ss p bd q).1 ++ [(pqV ss (p + q) (frwV ss p bd q).2 ss.length).1], (pqV ss (p + q) (frwV ss p bd q).2 ss.length).2) = _
    rw [frw_list ss p bd q, pq_bd]
    simp [List.range_succ, Bool.or_assoc]
theorem fit_list (ss : List Sp) (n : Nat) : ∀ p, fitV ss n p = (((List.range p).map (fun i => (List.range n).map fun j => (pqV ss (i + j) false ss.length).1), (List.range p).map (fun i => (rgtV ss i false ss.length).1)),
    (List.range p).any (fun i => (List.range n).any (fun j => (pqV ss (i + j) false ss.length).2) || (rgtV ss i false ss.length).2))
  | 0 => rfl
  | p + 1 => by
    show (((fitV ss n p).1.1 ++ [(frwV ss p (fitV ss n p).2 n).1], (fitV ss n p).1.2 ++ [(rgtV ss p (frwV ss p (fitV ss n p).2 n).2 ss.length).1]), (rgtV ss p (frwV ss p (fitV ss n p).2 n).2 ss.length).2) = _
    rw [fit_list ss n p, frw_list, rgt_bd]
    simp [List.range_succ, Bool.or_assoc]
/-- the rows that the program hands to Solved -/
def prgT (ss : List Sp) (n : Nat) : List (List Fr) := (List.range n).map fun p => (List.range n).map fun q => spS oneF ss (p + q) ss.length
theorem prgT_len (ss : List Sp) (n : Nat) : (prgT ss n).length = n := by simp [prgT]
theorem prgT_row (ss : List Sp) (n p : Nat) (h : p < n) : rw' (prgT ss n) p = (List.range n).map fun q => spS oneF ss (p + q) ss.length := by unfold rw' prgT; simp [h]
theorem prgT_rowlen (ss : List Sp) (n p : Nat) (h : p < n) : (rw' (prgT ss n) p).length = n := by rw [prgT_row _ _ _ h]; simp
theorem prgT_at (ss : List Sp) (n p q : Nat) (h : p < n) (hq : q < n) : fr (rw' (prgT ss n) p) q = spS oneF ss (p + q) ss.length := by rw [prgT_row _ _ _ h]; unfold fr; simp [hq]
def prgR (ss : List Sp) (n : Nat) : List Fr := smsL (fun j => (sp ss j).2) ss n
theorem prgR_len (ss : List Sp) (n : Nat) : (prgR ss n).length = n := smsL_len _ _ _
theorem fit_bad {ss : List Sp} {n : Nat} (h : (fitV ss n n).2 = true) : solO (prgT ss n) (prgR ss n) = false := by
  rw [fit_list] at h
  obtain ⟨i, hi, hq⟩ := List.any_eq_true.1 h
  rw [List.mem_range] at hi
  rw [Bool.or_eq_true] at hq
  rcases hq with hq | hq
  · obtain ⟨j, hj, hj2⟩ := List.any_eq_true.1 hq
    rw [List.mem_range] at hj
    have hz : spS oneF ss (i + j) ss.length = (0, 0) := by
      rcases pq_z ss (i + j) ss.length with ⟨_, k⟩ | ⟨k, _⟩
      · exact k
      · rw [hj2] at k; cases k
    have ht : tabB (prgT ss n) 6 = false := tabB_row (k := i) (by rw [prgT_len]; exact hi) (fun k => by
      have := allOk_at k.2 (k := j) (by rw [prgT_rowlen _ _ _ hi]; exact hj)
      rw [prgT_at _ _ _ _ hi hj, hz] at this
      exact absurd this (by decide))
    unfold solO
    rw [solC_no (fun k => by rw [ht] at k; exact absurd k.2.1 (by decide))]; rfl
  · have hz : spS (fun j => (sp ss j).2) ss i ss.length = (0, 0) := by
      rcases rgt_z ss i ss.length with ⟨_, k⟩ | ⟨k, _⟩
      · exact k
      · rw [hq] at k; cases k
    have ha : allOk (prgR ss n) = false := allOk_no (k := i) (by rw [prgR_len]; exact hi) (by unfold prgR; rw [smsL_at hi, hz]; exact okB_zero)
    unfold solO
    cases e : solC (prgT ss n) (prgR ss n)
    · rfl
    · rw [Bool.true_and]
      unfold echO
      rw [wide_tab e, ha]; rfl
theorem fit_good {ss : List Sp} {n : Nat} (hs : sptB ss = true) (h1 : 1 ≤ n) (h4 : n ≤ 4) (h : (fitV ss n n).2 = false) :
    prgT ss n = (fitV ss n n).1.1 ∧ prgR ss n = (fitV ss n n).1.2 ∧ solC (prgT ss n) (prgR ss n) = true ∧ tabB (wideT (prgT ss n) (prgR ss n)) 6 = true := by
  have hL : 1 ≤ ss.length := by have := (sptB_out hs).1.1; omega
  obtain ⟨l, hl⟩ : ∃ l, ss.length = l + 1 := ⟨ss.length - 1, by omega⟩
  rw [fit_list] at h ⊢
  dsimp only at h ⊢
  have ha : ∀ i, i < n → (∀ j, j < n → (pqV ss (i + j) false ss.length).2 = false) ∧ (rgtV ss i false ss.length).2 = false := by
    intro i hi
    have := List.any_eq_false.1 h i (List.mem_range.2 hi)
    rw [Bool.not_eq_true, Bool.or_eq_false_iff] at this
    refine ⟨fun j hj => ?_, this.2⟩
    have k := List.any_eq_false.1 this.1 j (List.mem_range.2 hj)
    rwa [Bool.not_eq_true] at k
  have hp : ∀ i j, i < n → j < n → spS oneF ss (i + j) ss.length = (pqV ss (i + j) false ss.length).1 := by
    intro i j hi hj
    rcases pq_z ss (i + j) ss.length with ⟨k, _⟩ | ⟨_, k⟩
    · rw [(ha i hi).1 j hj] at k; cases k
    · exact k
  have hr : ∀ i, i < n → spS (fun j => (sp ss j).2) ss i ss.length = (rgtV ss i false ss.length).1 := by
    intro i hi
    rcases rgt_z ss i ss.length with ⟨k, _⟩ | ⟨_, k⟩
    · rw [(ha i hi).2] at k; cases k
    · exact k
  have hC : solC (prgT ss n) (prgR ss n) = true := by
    have ht : tabB (prgT ss n) 6 = true := by
      refine tabB_yes ⟨by rw [prgT_len]; exact h1, by rw [prgT_len]; omega, by rw [prgT_rowlen _ _ _ (by omega)]; exact h1, by rw [prgT_rowlen _ _ _ (by omega)]; omega⟩ fun k hk => ?_
      rw [prgT_len] at hk
      refine ⟨by rw [prgT_rowlen _ _ _ hk, prgT_rowlen _ _ _ (by omega)], allOk_yes fun q hq => ?_⟩
      rw [prgT_rowlen _ _ _ hk] at hq
      rw [prgT_at _ _ _ _ hk hq, hp k q hk hq]
      have := (ha k hk).1 q hq
      rw [hl] at this ⊢
      exact pq_ok this
    unfold solC
    rw [prgT_len, prgT_rowlen _ _ _ (by omega), prgR_len, ht, decide_eq_true (show n ≤ 5 by omega), decide_eq_true (rfl : n = n)]; rfl
  refine ⟨?_, ?_, hC, ?_⟩
  · exact List.map_congr_left fun i hi => List.map_congr_left fun j hj => hp i j (List.mem_range.1 hi) (List.mem_range.1 hj)
  · exact List.map_congr_left fun i hi => hr i (List.mem_range.1 hi)
  · rw [wide_tab hC]
    refine allOk_yes fun k hk => ?_
    rw [prgR_len] at hk
    unfold prgR
    rw [smsL_at hk, hr k hk]
    have := (ha k hk).2
    rw [hl] at this ⊢
    exact rgt_ok this
theorem fit_told {ss : List Sp} {n : Int} (hs : sptB ss = true) (hi : inB n 1 4 = true) (h : (fitV ss n.toNat n.toNat).2 = false) : tabB (wideT (fitT ss n) (fitR ss n)) 6 = true := by
  have hn : 1 ≤ n ∧ n ≤ 4 := of_decide_eq_true hi
  obtain ⟨e1, e2, _, e4⟩ := fit_good hs (n := n.toNat) (by omega) (by omega) h
  unfold fitT fitR
  rw [← e1, ← e2]
  exact e4
/-- what Fitted answers, as the program goes -/
theorem fit_all {ss : List Sp} {n : Int} (hs : sptB ss = true) (hi : inB n 1 4 = true) : solO (prgT ss n.toNat) (prgR ss n.toNat) = fitO ss n ∧ solA (prgT ss n.toNat) (prgR ss n.toNat) = fitA ss n := by
  have hn : 1 ≤ n ∧ n ≤ 4 := of_decide_eq_true hi
  cases e : (fitV ss n.toNat n.toNat).2
  · obtain ⟨e1, e2, e3, e4⟩ := fit_good hs (n := n.toNat) (by omega) (by omega) e
    have hO : solO (prgT ss n.toNat) (prgR ss n.toNat) = fitO ss n := by
      unfold solO fitO echO
      rw [e3, e4, hs, hi, e]
      unfold fitT fitR
      rw [← e1, ← e2]
      simp
    refine ⟨hO, ?_⟩
    unfold solA fitA
    rw [hO]
    unfold fitT fitR
    rw [← e1, ← e2]
  · have hb := fit_bad e
    have hO : fitO ss n = false := by unfold fitO; rw [e]; simp
    rw [hb, hO, solA_no hb, fitA_no hO]
    exact ⟨rfl, rfl⟩
end Go.Proofs.Ytibncepllmjhhaa
