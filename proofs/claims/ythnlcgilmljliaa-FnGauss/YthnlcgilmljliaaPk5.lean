/- Several texts of this proof laid one behind the other: each has its own heading below. -/
import Derived.Test.YthnlcgilmljliaaFitW6
import Derived.Test.YthnlcgilmljliaaPk4
import Derived.Test.YthnlcgilmljliaaFitPM
import Derived.Test.YthnlcgilmljliaaRatioMath
import Derived.Test.YthnlcgilmljliaaRowsR
import Derived.Test.YthnlcgilmljliaaTabW0
import Derived.Test.YthnlcgilmljliaaPk1
import Derived.Deep.RegionWith
import Derived.Test.YthnlcgilmljliaaPk3

/- What the model's Fitted sets up; a table and a row of its own beside each other. -/
namespace Go.Proofs.Ythnlcgilmljliaa
open Go.RowKit Go.Proofs.Ythnlcgilmljliaa.RM

/-- one power more -/
def pqS (s x : Fr) (n : Nat) (bd : Bool) : Fr × Bool := (a1V s (powV x bd n).1, (powV x bd n).2 || !addK s (powV x bd n).1)
/-- the sum of the n-th powers of the first k -/
def pqV (ss : List Sp) (n : Nat) (bd : Bool) : Nat → Fr × Bool
  | 0 => ((0, 1), bd)
  | k + 1 => pqS (pqV ss n bd k).1 (sp ss k).1 n (pqV ss n bd k).2
/-- a row's first q sums -/
def frwV (ss : List Sp) (p : Nat) (bd : Bool) : Nat → List Fr × Bool
  | 0 => ([], bd)
  | q + 1 => ((frwV ss p bd q).1 ++ [(pqV ss (p + q) (frwV ss p bd q).2 ss.length).1], (pqV ss (p + q) (frwV ss p bd q).2 ss.length).2)
theorem frwV_len (ss : List Sp) (p : Nat) (bd : Bool) : ∀ q, (frwV ss p bd q).1.length = q
  | 0 => rfl
  | q + 1 => by simp [frwV, frwV_len ss p bd q]
/-- the right side's sum over the first k -/
def rgtV (ss : List Sp) (p : Nat) (bd : Bool) : Nat → Fr × Bool
  | 0 => ((0, 1), bd)
  | k + 1 => nrS (rgtV ss p bd k).1 (sp ss k).1 p ((sp ss k).2, (rgtV ss p bd k).2)
/-- the first p rows and right sides, and was something too great -/
def fitV (ss : List Sp) (n : Nat) : Nat → (List (List Fr) × List Fr) × Bool
  | 0 => (([], []), false)
  | p + 1 => (((fitV ss n p).1.1 ++ [(frwV ss p (fitV ss n p).2 n).1], (fitV ss n p).1.2 ++ [(rgtV ss p (frwV ss p (fitV ss n p).2 n).2 ss.length).1]), (rgtV ss p (frwV ss p (fitV ss n p).2 n).2 ss.length).2)
theorem fitV_lenT (ss : List Sp) (n : Nat) : ∀ p, (fitV ss n p).1.1.length = p
  | 0 => rfl
  | p + 1 => by simp [fitV, fitV_lenT ss n p]
theorem fitV_lenR (ss : List Sp) (n : Nat) : ∀ p, (fitV ss n p).1.2.length = p
  | 0 => rfl
  | p + 1 => by simp [fitV, fitV_lenR ss n p]
theorem fitV_row (ss : List Sp) (n : Nat) : ∀ p k, k < p → (rw' (fitV ss n p).1.1 k).length = n
  | 0, k, h => absurd h (Nat.not_lt_zero _)
  | p + 1, k, h => by
    show (rw' ((fitV ss n p).1.1 ++ [(frwV ss p (fitV ss n p).2 n).1]) k).length = n
    rw [rw_app _ _ _ (by rw [fitV_lenT]; omega), fitV_lenT]
    by_cases e : k < p
    · rw [if_pos e]; exact fitV_row ss n p k e
    · rw [if_neg e]; exact frwV_len _ _ _ _
/-- a table and a row beside it, each in blocks of its own -/
structure TR (W : World) (base : Nat) (tv : Value) (us : List Value) (T : List (List Fr)) (rv : Value) (R : List Fr) : Prop where
  tab : Tab W base tv us T
  rgt : W.ownsRow base 33 2 rv R.length (cellsR R)
  apart : ∀ i, i < us.length → ∀ b, (vl us i).ownBlock = some b → rv.ownBlock ≠ some b
theorem TR.below {W W' : World} {base : Nat} {tv rv : Value} {us : List Value} {T : List (List Fr)} {R : List Fr} (h : TR W base tv us T rv R) (hb : Below W.heap.size W W') : TR W' base tv us T rv R :=
  ⟨h.tab.below hb, own_below h.rgt hb, h.apart⟩
theorem TR.g {K : Nat} {W W' : World} {base : Nat} {tv rv : Value} {us : List Value} {T : List (List Fr)} {R : List Fr} (h : TR W base tv us T rv R) (hg : W.grownBy W' (some K)) (hb : K < base) : TR W' base tv us T rv R :=
  ⟨h.tab.g hg hb, own_g hg h.rgt hb, h.apart⟩
/-- all of it lies below S -/
def TRU (S : Nat) (tv : Value) (us : List Value) (rv : Value) : Prop := Under S tv us ∧ ∀ b, rv.ownBlock = some b → b < S
theorem TR.under {W : World} {base : Nat} {tv rv : Value} {us : List Value} {T : List (List Fr)} {R : List Fr} (h : TR W base tv us T rv R) : TRU W.heap.size tv us rv :=
  ⟨h.tab.under, fun b e => (World.ownsRow.lt h.rgt b e).2⟩
theorem TR.st {W : World} {base S : Nat} {tv rv : Value} {us : List Value} {T : List (List Fr)} {R : List Fr} (h : TR W base tv us T rv R) (hu : TRU S tv us rv) {B : Nat} (hB : S ≤ B) (o : Nat) (x : Value) : TR (W.setCell ⟨B, o, none⟩ x) base tv us T rv R :=
  ⟨h.tab.st (fun i hi b e => Nat.lt_of_lt_of_le (hu.1.2 i hi b e) hB) (fun b e => Nat.lt_of_lt_of_le (hu.1.1 b e) hB) o x, own_st h.rgt (fun b e => Nat.lt_of_lt_of_le (hu.2 b e) hB) o x, h.apart⟩
theorem TR.grown {W W' : World} {base S : Nat} {tv rv : Value} {us : List Value} {T : List (List Fr)} {R : List Fr} {row : Option Nat} (h : TR W base tv us T rv R) (hu : TRU S tv us rv) (hg : W.grownBy W' row) (hr : ∀ b, row = some b → S ≤ b) : TR W' base tv us T rv R := by
  have hne : ∀ k, row = some k → rv.ownBlock ≠ some k := fun k e h2 => by have := hr k e; have := hu.2 k h2; omega
  refine ⟨h.tab.kept hg (fun k e h2 => by have := hr k e; have := hu.1.1 k h2; omega) (fun i hi k e h2 => by have := hr k e; have := hu.1.2 i hi k h2; omega), h.rgt.kept hg ?_, h.apart⟩
  cases hrow : row with
  | none => by_cases k : rv.ownBlock = none
            · exact .inl k
            · exact .inr k
  | some k => exact .inr (hne k hrow)
theorem IsR.grownO {W W' : World} {R : Nat} {n d : Int} {row : Option Nat} (h : IsR W R n d) (hg : W.grownBy W' row) (hne : row ≠ some R) : IsR W' R n d := (hg.block R h.lt (fun e => hne e.symm)).trans h
/-- a row that lies above is appended to the table -/
theorem TR.row {W w' : World} {base S : Nat} {tv rv v' u : Value} {us : List Value} {T : List (List Fr)} {R ps : List Fr} {tmp : Obj} (h : TR W base tv us T rv R) (hu : TRU S tv us rv) (hS : base ≤ S) (ho : W.ownsRow S 33 2 u ps.length (cellsR ps))
    (hown : w'.ownsRow base 27 1 v' (us.length + 1) (us ++ [u])) (hgrow : (W.alloc tmp).grownBy w' tv.ownBlock) : TR w' base v' (us ++ [u]) (T ++ [ps]) rv R := by
  have hx : ∀ b, u.ownBlock = some b → S ≤ b := fun b e => (World.ownsRow.lt ho b e).1
  refine ⟨h.tab.append (own_le ho hS) (fun i hi b e h2 => ?_) hown hgrow, own_oth (h.rgt.alloc tmp) (h.tab.outer.alloc tmp) (by decide) hgrow, fun i hi b hb => ?_⟩
  · have := hx b h2; have := hu.1.2 i hi b e; omega
  · rw [List.length_append, List.length_singleton] at hi
    rw [vl_app _ _ _ hi] at hb
    by_cases e : i < us.length
    · rw [if_pos e] at hb; exact h.apart i e b hb
    · rw [if_neg e] at hb
      intro h2
      have := hx b hb; have := hu.2 b h2; omega
/-- a fraction is appended to the row beside -/
theorem TR.cell {W w' : World} {base : Nat} {tv rv v' : Value} {us : List Value} {T : List (List Fr)} {R : List Fr} {x : Fr} {tmp : Obj} (h : TR W base tv us T rv R)
    (hown : w'.ownsRow base 33 2 v' (R.length + 1) (cellsR R ++ [.int .i64 x.1, .int .i64 x.2])) (hgrow : (W.alloc tmp).grownBy w' rv.ownBlock) (hb : v'.ownBlock = rv.ownBlock ∨ v'.ownBlock = some (W.alloc tmp).heap.size) : TR w' base tv us T v' (R ++ [x]) := by
  have h2 := h.below (W' := W.alloc tmp) ((Below.refl _ _).alloc (Nat.le_refl _) _)
  refine ⟨h2.tab.kept hgrow (fun k e h3 => own_unlike h2.tab.outer h2.rgt (by decide) h3 e) (fun i hi k e h3 => h.apart i hi k h3 e), ?_, fun i hi b e h3 => ?_⟩
  · rw [cellsR_append, List.length_append]; exact hown
  · rcases hb with hb | hb
    · rw [hb] at h3; exact h.apart i hi b e h3
    · rw [hb] at h3
      injection h3 with h3
      have := (World.ownsRow.lt (h2.tab.inner i hi) b e).2
      omega
end Go.Proofs.Ythnlcgilmljliaa

/- Fitted as the program reckons it, held together with the model. -/
namespace Go.Proofs.Ythnlcgilmljliaa
open Go.RowKit Go.Proofs.Ythnlcgilmljliaa.RM

def fitT (ss : List Sp) (n : Int) : List (List Fr) := (fitV ss n.toNat n.toNat).1.1
def fitR (ss : List Sp) (n : Int) : List Fr := (fitV ss n.toNat n.toNat).1.2
def fitO (ss : List Sp) (n : Int) : Bool := sptB ss && (inB n 1 4 && (!(fitV ss n.toNat n.toNat).2 && (echK (wideT (fitT ss n) (fitR ss n)) && solF (fitT ss n).length (echC (wideT (fitT ss n) (fitR ss n))))))
def fitA (ss : List Sp) (n : Int) : List Fr := if fitO ss n = true then solX (fitT ss n) (fitR ss n) else []
theorem fitA_no {ss : List Sp} {n : Int} (h : fitO ss n = false) : fitA ss n = [] := by unfold fitA; rw [h]; rfl
def oneF : Nat → Fr := fun _ => (1, 1)
theorem nrS_bd (s x : Fr) (p : Nat) (y : Fr) (bd f : Bool) : nrS s x p (y, bd || f) = ((nrS s x p (y, f)).1, bd || (nrS s x p (y, f)).2) := by
  unfold nrS
  dsimp only
  rw [pow_bd x (bd || f), pow_bd x f]
  simp [Bool.or_assoc]
theorem pqS_bd (s x : Fr) (n : Nat) (bd f : Bool) : pqS s x n (bd || f) = ((pqS s x n f).1, bd || (pqS s x n f).2) := by
  unfold pqS
  rw [pow_bd x (bd || f), pow_bd x f]
  simp [Bool.or_assoc]
theorem pq_bd (ss : List Sp) (n : Nat) (bd : Bool) : ∀ k, pqV ss n bd k = ((pqV ss n false k).1, bd || (pqV ss n false k).2)
  | 0 => by simp [pqV]
  | k + 1 => by
    show pqS (pqV ss n bd k).1 _ n (pqV ss n bd k).2 = _
    rw [pq_bd ss n bd k, pqS_bd]
    rfl
theorem rgt_bd (ss : List Sp) (p : Nat) (bd : Bool) : ∀ k, rgtV ss p bd k = ((rgtV ss p false k).1, bd || (rgtV ss p false k).2)
  | 0 => by simp [rgtV]
  | k + 1 => by
    show nrS (rgtV ss p bd k).1 _ p (_, (rgtV ss p bd k).2) = _
    rw [rgt_bd ss p bd k, nrS_bd]
    rfl
theorem pq_z (ss : List Sp) (n : Nat) : ∀ k, RelZ (spS oneF ss n k) (pqV ss n false k)
  | 0 => .inr ⟨rfl, rfl⟩
  | k + 1 => by
    have ih := pq_z ss n k
    refine RelZ.addZ (e := powV (sp ss k).1 (pqV ss n false k).2 n) ih (fun e => by rw [pow_bd, e]; rfl) (fun e => ?_)
    rw [e]
    show RelZ (mulP (powP (sp ss k).1 n) (1, 1)) _
    rcases pow_z (sp ss k).1 n with ⟨h1, h2⟩ | ⟨h1, h2⟩
    · exact .inl ⟨h1, by rw [h2, mulZl]⟩
    · exact .inr ⟨h1, by rw [h2, mul_unit (pow_ok _ _ h1)]⟩
theorem pq_ok {ss : List Sp} {n k : Nat} (h : (pqV ss n false (k + 1)).2 = false) : okF (pqV ss n false (k + 1)).1 = true := by
  have h' : ((powV (sp ss k).1 (pqV ss n false k).2 n).2 || !addK (pqV ss n false k).1 (powV (sp ss k).1 (pqV ss n false k).2 n).1) = false := h
  rw [Bool.or_eq_false_iff] at h'
  have hm := h'.2
  rw [Bool.not_eq_false'] at hm
  show okF (a1V (pqV ss n false k).1 (powV (sp ss k).1 (pqV ss n false k).2 n).1) = true
  unfold a1V
  rw [keepF_yes hm]
  exact add_right hm
theorem rgt_z (ss : List Sp) (p : Nat) : ∀ k, RelZ (spS (fun j => (sp ss j).2) ss p k) (rgtV ss p false k)
  | 0 => .inr ⟨rfl, rfl⟩
  | k + 1 => spS_step (rgt_z ss p k) (fun e => e) (fun e => .inr ⟨e, rfl⟩)
theorem rgt_ok {ss : List Sp} {p k : Nat} (h : (rgtV ss p false (k + 1)).2 = false) : okF (rgtV ss p false (k + 1)).1 = true := nrS_ok h
theorem frw_list (ss : List Sp) (p : Nat) (bd : Bool) : ∀ q, frwV ss p bd q = ((List.range q).map (fun i => (pqV ss (p + i) false ss.length).1), bd || (List.range q).any (fun i => (pqV ss (p + i) false ss.length).2))
  | 0 => by simp [frwV]
  | q + 1 => by
    show ((frwV ss p bd q).1 ++ [(pqV ss (p + q) (frwV ss p bd q).2 ss.length).1], (pqV ss (p + q) (frwV ss p bd q).2 ss.length).2) = _
    rw [frw_list ss p bd q, pq_bd]
    simp [List.range_succ, Bool.or_assoc]
theorem fit_list (ss : List Sp) (n : Nat) : ∀ p, fitV ss n p = (((List.range p).map (fun i => (List.range n).map fun j => (pqV ss (i + j) false ss.length).1), (List.range p).map (fun i => (rgtV ss i false ss.length).1)),
    (List.range p).any (fun i => (List.range n).any (fun j => (pqV ss (i + j) false ss.length).2) || (rgtV ss i false ss.length).2))
  | 0 => rfl
  | p + 1 => by
    show (((fitV ss n p).1.1 ++ [(frwV ss p (fitV ss n p).2 n).1], (fitV ss n p).1.2 ++ [(rgtV ss p (frwV ss p (fitV ss n p).2 n).2 ss.length).1]), (rgtV ss p (frwV ss p (fitV ss n p).2 n).2 ss.length).2) = _
    rw [fit_list ss n p, frw_list, rgt_bd]
    simp [List.range_succ, Bool.or_assoc]
/-- the rows that the program hands to Solved -/
def prgT (ss : List Sp) (n : Nat) : List (List Fr) := (List.range n).map fun p => (List.range n).map fun q => spS oneF ss (p + q) ss.length
theorem prgT_len (ss : List Sp) (n : Nat) : (prgT ss n).length = n := by simp [prgT]
theorem prgT_row (ss : List Sp) (n p : Nat) (h : p < n) : rw' (prgT ss n) p = (List.range n).map fun q => spS oneF ss (p + q) ss.length := by unfold rw' prgT; simp [h]
theorem prgT_rowlen (ss : List Sp) (n p : Nat) (h : p < n) : (rw' (prgT ss n) p).length = n := by rw [prgT_row _ _ _ h]; simp
theorem prgT_at (ss : List Sp) (n p q : Nat) (h : p < n) (hq : q < n) : fr (rw' (prgT ss n) p) q = spS oneF ss (p + q) ss.length := by rw [prgT_row _ _ _ h]; unfold fr; simp [hq]
def prgR (ss : List Sp) (n : Nat) : List Fr := smsL (fun j => (sp ss j).2) ss n
theorem prgR_len (ss : List Sp) (n : Nat) : (prgR ss n).length = n := smsL_len _ _ _
theorem fit_bad {ss : List Sp} {n : Nat} (h : (fitV ss n n).2 = true) : solO (prgT ss n) (prgR ss n) = false := by
  rw [fit_list] at h
  obtain ⟨i, hi, hq⟩ := List.any_eq_true.1 h
  rw [List.mem_range] at hi
  rw [Bool.or_eq_true] at hq
  rcases hq with hq | hq
  · obtain ⟨j, hj, hj2⟩ := List.any_eq_true.1 hq
    rw [List.mem_range] at hj
    have hz : spS oneF ss (i + j) ss.length = (0, 0) := by
      rcases pq_z ss (i + j) ss.length with ⟨_, k⟩ | ⟨k, _⟩
      · exact k
      · rw [hj2] at k; cases k
    have ht : tabB (prgT ss n) 6 = false := tabB_row (k := i) (by rw [prgT_len]; exact hi) (fun k => by
      have := allOk_at k.2 (k := j) (by rw [prgT_rowlen _ _ _ hi]; exact hj)
      rw [prgT_at _ _ _ _ hi hj, hz] at this
      exact absurd this (by decide))
    unfold solO
    rw [solC_no (fun k => by rw [ht] at k; exact absurd k.2.1 (by decide))]; rfl
  · have hz : spS (fun j => (sp ss j).2) ss i ss.length = (0, 0) := by
      rcases rgt_z ss i ss.length with ⟨_, k⟩ | ⟨k, _⟩
      · exact k
      · rw [hq] at k; cases k
    have ha : allOk (prgR ss n) = false := allOk_no (k := i) (by rw [prgR_len]; exact hi) (by unfold prgR; rw [smsL_at hi, hz]; exact okB_zero)
    unfold solO
    cases e : solC (prgT ss n) (prgR ss n)
    · rfl
    · rw [Bool.true_and]
      unfold echO
      rw [wide_tab e, ha]; rfl
theorem fit_good {ss : List Sp} {n : Nat} (hs : sptB ss = true) (h1 : 1 ≤ n) (h4 : n ≤ 4) (h : (fitV ss n n).2 = false) :
    prgT ss n = (fitV ss n n).1.1 ∧ prgR ss n = (fitV ss n n).1.2 ∧ solC (prgT ss n) (prgR ss n) = true ∧ tabB (wideT (prgT ss n) (prgR ss n)) 6 = true := by
  have hL : 1 ≤ ss.length := by have := (sptB_out hs).1.1; omega
  obtain ⟨l, hl⟩ : ∃ l, ss.length = l + 1 := ⟨ss.length - 1, by omega⟩
  rw [fit_list] at h ⊢
  dsimp only at h ⊢
  have ha : ∀ i, i < n → (∀ j, j < n → (pqV ss (i + j) false ss.length).2 = false) ∧ (rgtV ss i false ss.length).2 = false := by
    intro i hi
    have := List.any_eq_false.1 h i (List.mem_range.2 hi)
    rw [Bool.not_eq_true, Bool.or_eq_false_iff] at this
    refine ⟨fun j hj => ?_, this.2⟩
    have k := List.any_eq_false.1 this.1 j (List.mem_range.2 hj)
    rwa [Bool.not_eq_true] at k
  have hp : ∀ i j, i < n → j < n → spS oneF ss (i + j) ss.length = (pqV ss (i + j) false ss.length).1 := by
    intro i j hi hj
    rcases pq_z ss (i + j) ss.length with ⟨k, _⟩ | ⟨_, k⟩
    · rw [(ha i hi).1 j hj] at k; cases k
    · exact k
  have hr : ∀ i, i < n → spS (fun j => (sp ss j).2) ss i ss.length = (rgtV ss i false ss.length).1 := by
    intro i hi
    rcases rgt_z ss i ss.length with ⟨k, _⟩ | ⟨_, k⟩
    · rw [(ha i hi).2] at k; cases k
    · exact k
  have hC : solC (prgT ss n) (prgR ss n) = true := by
    have ht : tabB (prgT ss n) 6 = true := by
      refine tabB_yes ⟨by rw [prgT_len]; exact h1, by rw [prgT_len]; omega, by rw [prgT_rowlen _ _ _ (by omega)]; exact h1, by rw [prgT_rowlen _ _ _ (by omega)]; omega⟩ fun k hk => ?_
      rw [prgT_len] at hk
      refine ⟨by rw [prgT_rowlen _ _ _ hk, prgT_rowlen _ _ _ (by omega)], allOk_yes fun q hq => ?_⟩
      rw [prgT_rowlen _ _ _ hk] at hq
      rw [prgT_at _ _ _ _ hk hq, hp k q hk hq]
      have := (ha k hk).1 q hq
      rw [hl] at this ⊢
      exact pq_ok this
    unfold solC
    rw [prgT_len, prgT_rowlen _ _ _ (by omega), prgR_len, ht, decide_eq_true (show n ≤ 5 by omega), decide_eq_true (rfl : n = n)]; rfl
  refine ⟨?_, ?_, hC, ?_⟩
  · exact List.map_congr_left fun i hi => List.map_congr_left fun j hj => hp i j (List.mem_range.1 hi) (List.mem_range.1 hj)
  · exact List.map_congr_left fun i hi => hr i (List.mem_range.1 hi)
  · rw [wide_tab hC]
    refine allOk_yes fun k hk => ?_
    rw [prgR_len] at hk
    unfold prgR
    rw [smsL_at hk, hr k hk]
    have := (ha k hk).2
    rw [hl] at this ⊢
    exact rgt_ok this
theorem fit_told {ss : List Sp} {n : Int} (hs : sptB ss = true) (hi : inB n 1 4 = true) (h : (fitV ss n.toNat n.toNat).2 = false) : tabB (wideT (fitT ss n) (fitR ss n)) 6 = true := by
  have hn : 1 ≤ n ∧ n ≤ 4 := of_decide_eq_true hi
  obtain ⟨e1, e2, _, e4⟩ := fit_good hs (n := n.toNat) (by omega) (by omega) h
  unfold fitT fitR
  rw [← e1, ← e2]
  exact e4
/-- what Fitted answers, as the program goes -/
theorem fit_all {ss : List Sp} {n : Int} (hs : sptB ss = true) (hi : inB n 1 4 = true) : solO (prgT ss n.toNat) (prgR ss n.toNat) = fitO ss n ∧ solA (prgT ss n.toNat) (prgR ss n.toNat) = fitA ss n := by
  have hn : 1 ≤ n ∧ n ≤ 4 := of_decide_eq_true hi
  cases e : (fitV ss n.toNat n.toNat).2
  · obtain ⟨e1, e2, e3, e4⟩ := fit_good hs (n := n.toNat) (by omega) (by omega) e
    have hO : solO (prgT ss n.toNat) (prgR ss n.toNat) = fitO ss n := by
      unfold solO fitO echO
      rw [e3, e4, hs, hi, e]
      unfold fitT fitR
      rw [← e1, ← e2]
      simp
    refine ⟨hO, ?_⟩
    unfold solA fitA
    rw [hO]
    unfold fitT fitR
    rw [← e1, ← e2]
  · have hb := fit_bad e
    have hO : fitO ss n = false := by unfold fitO; rw [e]; simp
    rw [hb, hO, solA_no hb, fitA_no hO]
    exact ⟨rfl, rfl⟩
end Go.Proofs.Ythnlcgilmljliaa

/- The order of fractions: sums keep it, and of two unlike ones one is less. -/
namespace Go.Proofs.Ythnlcgilmljliaa.RM
theorem lt_iff_mul {x y k : Int} (hk : 0 < k) : k * x < k * y ↔ x < y :=
  ⟨fun h => Int.lt_of_mul_lt_mul_left h (Int.le_of_lt hk), fun h => Int.mul_lt_mul_of_pos_left h hk⟩
theorem red_parts {x y : Int} (h : redOk x y = true) (hy : 0 < y) : 0 < gcdi x y ∧ gcdi x y * redN x y = x ∧ gcdi x y * redD x y = y := by
  have hs := sg_pos (n := x) (d := y) (by omega)
  have e1 : redN x y = x / sg x y := by unfold redN; rw [if_pos h]
  have e2 : redD x y = y / sg x y := by unfold redD; rw [if_pos h]
  rw [e1, e2, hs]
  exact ⟨gcdi_pos_r x y (by omega), Int.mul_ediv_cancel' (gcdi_dvd_l x y), Int.mul_ediv_cancel' (gcdi_dvd_r x y)⟩
theorem add_less {a b c d p q : Int} (hb : 0 < b) (hd : 0 < d) (hq : 0 < q) (hab : two a b c d = true) (h1 : redOk (a * q + p * b) (b * q) = true) (h2 : redOk (c * q + p * d) (d * q) = true) :
    lessB (redN (a * q + p * b) (b * q)) (redD (a * q + p * b) (b * q)) (redN (c * q + p * d) (d * q)) (redD (c * q + p * d) (d * q)) = lessB a b c d := by
  have t := two_yes (okB_redN h1) (okB_redN h2)
  obtain ⟨g1, n1, d1⟩ := red_parts h1 (Int.mul_pos hb hq)
  obtain ⟨g2, n2, d2⟩ := red_parts h2 (Int.mul_pos hd hq)
  unfold lessB
  rw [t, hab]
  generalize gcdi (a * q + p * b) (b * q) = k1 at *
  generalize gcdi (c * q + p * d) (d * q) = k2 at *
  generalize redN (a * q + p * b) (b * q) = N1 at *
  generalize redD (a * q + p * b) (b * q) = D1 at *
  generalize redN (c * q + p * d) (d * q) = N2 at *
  generalize redD (c * q + p * d) (d * q) = D2 at *
  have e : (N1 * D2 < N2 * D1) ↔ (a * d < c * b) := by
    rw [← lt_iff_mul (Int.mul_pos g1 g2), ← lt_iff_mul (Int.mul_pos hq hq) (x := a * d)]
    have e1 : k1 * k2 * (N1 * D2) = (a * q + p * b) * (d * q) := by rw [← n1, ← d2]; ac_rfl
    have e2 : k1 * k2 * (N2 * D1) = (c * q + p * d) * (b * q) := by rw [← n2, ← d1]; ac_rfl
    have e3 : (a * q + p * b) * (d * q) = q * q * (a * d) + p * b * d * q := by rw [Int.add_mul]; congr 1 <;> ac_rfl
    have e4 : (c * q + p * d) * (b * q) = q * q * (c * b) + p * b * d * q := by rw [Int.add_mul]; congr 1 <;> ac_rfl
    rw [e1, e2, e3, e4]
    omega
  simp only [e]
theorem less_same (a b : Int) : lessB a b a b = false := by unfold lessB; rw [decide_eq_false (by omega)]; simp
theorem dvd_cop {k m n : Int} (h : Int.gcd k m = 1) (hd : k ∣ m * n) : k ∣ n := by
  rw [← Int.natAbs_dvd_natAbs] at hd ⊢
  rw [Int.natAbs_mul] at hd
  exact Nat.Coprime.dvd_of_dvd_mul_left (by unfold Nat.Coprime; rw [Int.gcd_eq_natAbs_gcd_natAbs] at h; exact h) hd
theorem okB_eq {a b c d : Int} (h1 : okB a b = true) (h2 : okB c d = true) (h : a * d = c * b) : a = c ∧ b = d := by
  have p1 := okB_out h1
  have p2 := okB_out h2
  have g1 : Int.gcd a b = 1 := by have := p1.2.2.2.2; unfold gcdi at this; omega
  have g2 : Int.gcd c d = 1 := by have := p2.2.2.2.2; unfold gcdi at this; omega
  have d1 : b ∣ d := by
    have : b ∣ a * d := ⟨c, by rw [h]; ac_rfl⟩
    exact dvd_cop (by rw [Int.gcd_comm]; exact g1) this
  have d2 : d ∣ b := by
    have : d ∣ c * b := ⟨a, by rw [← h]; ac_rfl⟩
    exact dvd_cop (by rw [Int.gcd_comm]; exact g2) this
  have e : b = d := Int.dvd_antisymm (by omega) (by omega) d1 d2
  subst e
  exact ⟨Int.eq_of_mul_eq_mul_right (by omega) h, rfl⟩
theorem less_flip {a b c d : Int} (h1 : okB a b = true) (h2 : okB c d = true) (hne : ¬ (a = c ∧ b = d)) : lessB c d a b = !lessB a b c d := by
  have k : a * d ≠ c * b := fun h => hne (okB_eq h1 h2 h)
  unfold lessB
  rw [two_yes h1 h2, two_yes h2 h1]
  by_cases h : a * d < c * b
  · rw [decide_eq_true h, decide_eq_false (by omega)]; rfl
  · rw [decide_eq_false h, decide_eq_true (by omega)]; rfl
end Go.Proofs.Ythnlcgilmljliaa.RM

/- Fractions are a field, as far as they go: what is taken or divided comes back. -/
namespace Go.Proofs.Ythnlcgilmljliaa.RM
theorem mul_in (x y A B : Int) (h1 : -A ≤ x) (h2 : x ≤ A) (h3 : -B ≤ y) (h4 : y ≤ B) : -(A * B) ≤ x * y ∧ x * y ≤ A * B := by
  have hA : 0 ≤ A := by omega
  have hB : 0 ≤ B := by omega
  have k : (x * y).natAbs ≤ (A * B).natAbs := by
    rw [Int.natAbs_mul, Int.natAbs_mul]; exact Nat.mul_le_mul (by omega) (by omega)
  have hp : 0 ≤ A * B := Int.mul_nonneg hA hB
  generalize x * y = z at *
  generalize A * B = u at *
  omega
/-- what a reduced fraction times its divisor is -/
theorem red_sg {x y : Int} (h : redOk x y = true) : sg x y ≠ 0 ∧ sg x y * redN x y = x ∧ sg x y * redD x y = y := by
  have h' := h
  unfold redOk at h'
  rw [Bool.and_eq_true] at h'
  have hy := (redIn_out h'.1).1
  have e1 : redN x y = x / sg x y := by unfold redN; rw [if_pos h]
  have e2 : redD x y = y / sg x y := by unfold redD; rw [if_pos h]
  rw [e1, e2]
  exact ⟨sg_ne x y hy, Int.mul_ediv_cancel' (sg_dvd_l x y), Int.mul_ediv_cancel' (sg_dvd_r x y)⟩
theorem cancel {k x y : Int} (hk : k ≠ 0) (h : k * x = k * y) : x = y := Int.eq_of_mul_eq_mul_left hk h
theorem add_sub {a b c d : Int} (h1 : okB a b = true) (s : redOk (a * d + c * b) (b * d) = true)
    (t : redOk (redN (a * d + c * b) (b * d) * d - c * redD (a * d + c * b) (b * d)) (redD (a * d + c * b) (b * d) * d) = true) :
    redN (redN (a * d + c * b) (b * d) * d - c * redD (a * d + c * b) (b * d)) (redD (a * d + c * b) (b * d) * d) = a ∧
    redD (redN (a * d + c * b) (b * d) * d - c * redD (a * d + c * b) (b * d)) (redD (a * d + c * b) (b * d) * d) = b := by
  obtain ⟨k1, n1, d1⟩ := red_sg s
  obtain ⟨k2, n2, d2⟩ := red_sg t
  have ht := okB_redN t
  generalize redN (a * d + c * b) (b * d) = N at *
  generalize redD (a * d + c * b) (b * d) = D at *
  generalize sg (a * d + c * b) (b * d) = g at *
  generalize redN (N * d - c * D) (D * d) = X at *
  generalize redD (N * d - c * D) (D * d) = Y at *
  generalize sg (N * d - c * D) (D * d) = k at *
  refine okB_eq ht h1 (cancel (Int.mul_ne_zero k1 k2) ?_)
  have e1 : g * k * (X * b) = g * (N * d - c * D) * b := by rw [← n2]; ac_rfl
  have e2 : g * k * (a * Y) = a * (g * D) * d := by rw [show g * k * (a * Y) = a * g * (k * Y) from by ac_rfl, d2]; ac_rfl
  have e3 : g * (N * d - c * D) * b = (g * N * d - c * (g * D)) * b := by rw [Int.mul_sub]; congr 2 <;> ac_rfl
  rw [e1, e2, e3, n1, d1, Int.add_mul, show c * b * d = c * (b * d) from by ac_rfl, Int.add_sub_cancel]
  ac_rfl
theorem div_mul {a b c d : Int} (h1 : okB a b = true) (s : redOk (a * d) (b * c) = true)
    (t : redOk (redN (a * d) (b * c) * c) (redD (a * d) (b * c) * d) = true) :
    redN (redN (a * d) (b * c) * c) (redD (a * d) (b * c) * d) = a ∧ redD (redN (a * d) (b * c) * c) (redD (a * d) (b * c) * d) = b := by
  obtain ⟨k1, n1, d1⟩ := red_sg s
  obtain ⟨k2, n2, d2⟩ := red_sg t
  have ht := okB_redN t
  generalize redN (a * d) (b * c) = N at *
  generalize redD (a * d) (b * c) = D at *
  generalize sg (a * d) (b * c) = g at *
  generalize redN (N * c) (D * d) = X at *
  generalize redD (N * c) (D * d) = Y at *
  generalize sg (N * c) (D * d) = k at *
  refine okB_eq ht h1 (cancel (Int.mul_ne_zero k1 k2) ?_)
  have e1 : g * k * (X * b) = g * N * c * b := by rw [show g * k * (X * b) = g * (k * X) * b from by ac_rfl, n2]; ac_rfl
  have e2 : g * k * (a * Y) = a * (g * D) * d := by rw [show g * k * (a * Y) = a * g * (k * Y) from by ac_rfl, d2]; ac_rfl
  rw [e1, e2, n1, d1]
  ac_rfl
theorem add_comm2 (a b c d : Int) : c * b + a * d = a * d + c * b ∧ d * b = b * d := ⟨Int.add_comm _ _, Int.mul_comm _ _⟩
/-- of three small right fractions: the product over the sum is the sum of the products, and nothing is too great -/
theorem spread {a b c d p q : Int} (a1 : -6 ≤ a) (a2 : a ≤ 6) (b1 : 1 ≤ b) (b2 : b ≤ 4) (c1 : -6 ≤ c) (c2 : c ≤ 6) (d1 : 1 ≤ d) (d2 : d ≤ 4) (p1 : -6 ≤ p) (p2 : p ≤ 6) (q1 : 1 ≤ q) (q2 : q ≤ 4) :
    ∃ sN sD lN lD mN mD nN nD rN rD : Int,
      (redOk (c * q + p * d) (d * q) = true ∧ redN (c * q + p * d) (d * q) = sN ∧ redD (c * q + p * d) (d * q) = sD ∧ okB sN sD = true) ∧
      (redOk (a * sN) (b * sD) = true ∧ redN (a * sN) (b * sD) = lN ∧ redD (a * sN) (b * sD) = lD) ∧
      (redOk (a * c) (b * d) = true ∧ redN (a * c) (b * d) = mN ∧ redD (a * c) (b * d) = mD ∧ okB mN mD = true) ∧
      (redOk (a * p) (b * q) = true ∧ redN (a * p) (b * q) = nN ∧ redD (a * p) (b * q) = nD ∧ okB nN nD = true) ∧
      (redOk (mN * nD + nN * mD) (mD * nD) = true ∧ redN (mN * nD + nN * mD) (mD * nD) = rN ∧ redD (mN * nD + nN * mD) (mD * nD) = rD) ∧ lN = rN ∧ lD = rD := by
  have pos : ∀ {x y : Int}, 1 ≤ x → 1 ≤ y → 1 ≤ x * y := fun hx hy => Int.mul_pos (by omega) (by omega)
  have u1 := mul_in c q 6 4 c1 c2 (by omega) q2
  have u2 := mul_in p d 6 4 p1 p2 (by omega) d2
  have u3 := mul_in d q 4 4 (by omega) d2 (by omega) q2
  have u3' := pos d1 q1
  obtain ⟨s1, s2, s3, s4, s5, s6⟩ := red_small (x := c * q + p * d) (y := d * q) (m := 48) (by omega) (by omega) (by omega) u3' (by omega)
  obtain ⟨gs, gs1, gs2⟩ := red_sg s1
  have v1 := mul_in a (redN (c * q + p * d) (d * q)) 6 48 a1 a2 s3 s4
  have v2 := mul_in b (redD (c * q + p * d) (d * q)) 4 16 (by omega) b2 (by omega) (by omega)
  have v2' := pos b1 s5
  obtain ⟨l1, l2, l3, l4, l5, l6⟩ := red_small (x := a * redN (c * q + p * d) (d * q)) (y := b * redD (c * q + p * d) (d * q)) (m := 288) (by omega) (by omega) (by omega) v2' (by omega)
  obtain ⟨gl, gl1, gl2⟩ := red_sg l1
  have w1 := mul_in a c 6 6 a1 a2 c1 c2
  have w2 := mul_in b d 4 4 (by omega) b2 (by omega) d2
  have w2' := pos b1 d1
  obtain ⟨m1, m2, m3, m4, m5, m6⟩ := red_small (x := a * c) (y := b * d) (m := 36) (by omega) (by omega) (by omega) w2' (by omega)
  obtain ⟨gm, gm1, gm2⟩ := red_sg m1
  have x1 := mul_in a p 6 6 a1 a2 p1 p2
  have x2 := mul_in b q 4 4 (by omega) b2 (by omega) q2
  have x2' := pos b1 q1
  obtain ⟨n1, n2, n3, n4, n5, n6⟩ := red_small (x := a * p) (y := b * q) (m := 36) (by omega) (by omega) (by omega) x2' (by omega)
  obtain ⟨gn, gn1, gn2⟩ := red_sg n1
  have y1 := mul_in (redN (a * c) (b * d)) (redD (a * p) (b * q)) 36 16 m3 m4 (by omega) (by omega)
  have y2 := mul_in (redN (a * p) (b * q)) (redD (a * c) (b * d)) 36 16 n3 n4 (by omega) (by omega)
  have y3 := mul_in (redD (a * c) (b * d)) (redD (a * p) (b * q)) 16 16 (by omega) (by omega) (by omega) (by omega)
  have y3' := pos m5 n5
  obtain ⟨r1, r2, r3, r4, r5, r6⟩ := red_small (x := redN (a * c) (b * d) * redD (a * p) (b * q) + redN (a * p) (b * q) * redD (a * c) (b * d)) (y := redD (a * c) (b * d) * redD (a * p) (b * q)) (m := 1152) (by omega) (by omega) (by omega) y3' (by omega)
  obtain ⟨gr, gr1, gr2⟩ := red_sg r1
  refine ⟨_, _, _, _, _, _, _, _, _, _, ⟨s1, rfl, rfl, s2⟩, ⟨l1, rfl, rfl⟩, ⟨m1, rfl, rfl, m2⟩, ⟨n1, rfl, rfl, n2⟩, ⟨r1, rfl, rfl⟩, ?_⟩
  refine okB_eq l2 r2 ?_
  clear s1 s2 s3 s4 s5 s6 l1 l2 l3 l4 l5 l6 m1 m2 m3 m4 m5 m6 n1 n2 n3 n4 n5 n6 r1 r2 r3 r4 r5 r6 u1 u2 u3 u3' v1 v2 v2' w1 w2 w2' x1 x2 x2' y1 y2 y3 y3' pos
  generalize redN (c * q + p * d) (d * q) = sN at *
  generalize redD (c * q + p * d) (d * q) = sD at *
  generalize sg (c * q + p * d) (d * q) = ks at *
  generalize redN (a * sN) (b * sD) = lN at *
  generalize redD (a * sN) (b * sD) = lD at *
  generalize sg (a * sN) (b * sD) = kl at *
  generalize redN (a * c) (b * d) = mN at *
  generalize redD (a * c) (b * d) = mD at *
  generalize sg (a * c) (b * d) = km at *
  generalize redN (a * p) (b * q) = nN at *
  generalize redD (a * p) (b * q) = nD at *
  generalize sg (a * p) (b * q) = kn at *
  generalize redN (mN * nD + nN * mD) (mD * nD) = rN at *
  generalize redD (mN * nD + nN * mD) (mD * nD) = rD at *
  generalize sg (mN * nD + nN * mD) (mD * nD) = kr at *
  refine cancel (Int.mul_ne_zero (Int.mul_ne_zero gs gl) (Int.mul_ne_zero gr (Int.mul_ne_zero gm gn))) ?_
  have e1 : ks * kl * (kr * (km * kn)) * (lN * rD) = a * (ks * sN) * ((km * mD) * (kn * nD)) := by
    rw [show ks * kl * (kr * (km * kn)) * (lN * rD) = ks * (kl * lN) * ((km * kn) * (kr * rD)) from by ac_rfl, gl1, gr2]; ac_rfl
  have e2 : ks * kl * (kr * (km * kn)) * (rN * lD) = b * (ks * sD) * ((km * mN) * (kn * nD) + (kn * nN) * (km * mD)) := by
    rw [show ks * kl * (kr * (km * kn)) * (rN * lD) = ks * (kl * lD) * ((km * kn) * (kr * rN)) from by ac_rfl, gl2, gr1, Int.mul_add (km * kn)]
    congr 1
    · ac_rfl
    · congr 1 <;> ac_rfl
  rw [e1, e2, gs1, gs2, gm1, gm2, gn1, gn2, Int.mul_add a, Int.add_mul (a * (c * q)), Int.mul_add (b * (d * q))]
  congr 1 <;> ac_rfl
theorem op_true {t : Bool} {x y : Int} (h : opOk t x y = true) : t = true ∧ redOk x y = true ∧ opN t x y = redN x y ∧ opD t x y = redD x y := by
  unfold opOk at h
  rw [Bool.and_eq_true] at h
  obtain ⟨h1, h2⟩ := h
  subst h1
  exact ⟨rfl, h2, rfl, rfl⟩
theorem sub_back {a b c d N D : Int} (hN : N = opN (two a b c d) (a * d + c * b) (b * d)) (hD : D = opD (two a b c d) (a * d + c * b) (b * d)) (h : opOk (two a b c d) (a * d + c * b) (b * d) = true)
    (k : opOk (two N D c d) (N * d - c * D) (D * d) = true) : a = opN (two N D c d) (N * d - c * D) (D * d) ∧ b = opD (two N D c d) (N * d - c * D) (D * d) := by
  obtain ⟨t1, r1, e1, e2⟩ := op_true h
  obtain ⟨t2, r2, e3, e4⟩ := op_true k
  rw [e3, e4]
  rw [e1] at hN
  rw [e2] at hD
  subst hN hD
  have := add_sub (two_out t1).1 r1 r2
  exact ⟨this.1.symm, this.2.symm⟩
theorem mul_back {a b c d N D : Int} (hN : N = opN (two a b c d) (a * d) (b * c)) (hD : D = opD (two a b c d) (a * d) (b * c)) (h : opOk (two a b c d) (a * d) (b * c) = true)
    (k : opOk (two N D c d) (N * c) (D * d) = true) : a = opN (two N D c d) (N * c) (D * d) ∧ b = opD (two N D c d) (N * c) (D * d) := by
  obtain ⟨t1, r1, e1, e2⟩ := op_true h
  obtain ⟨t2, r2, e3, e4⟩ := op_true k
  rw [e3, e4]
  rw [e1] at hN
  rw [e2] at hD
  subst hN hD
  have := div_mul (two_out t1).1 r1 r2
  exact ⟨this.1.symm, this.2.symm⟩
end Go.Proofs.Ythnlcgilmljliaa.RM

/- Sums, tables of fractions as numbers, and what a column's step of the echelon keeps: the solutions, the dependence of rows, the units of the chosen columns. -/
namespace Go.Proofs.Ythnlcgilmljliaa
open Go.RowKit Go.Proofs.Ythnlcgilmljliaa.RM

/-- a sum of n -/
def sumN (f : Nat → Rat) : Nat → Rat
  | 0 => 0
  | n + 1 => sumN f n + f n
theorem sumN_congr {f g : Nat → Rat} : ∀ {n : Nat}, (∀ i, i < n → f i = g i) → sumN f n = sumN g n
  | 0, _ => rfl
  | n + 1, h => by
    simp only [sumN]
    rw [sumN_congr (fun i hi => h i (by omega)), h n (by omega)]
theorem sumN_zero {f : Nat → Rat} : ∀ {n : Nat}, (∀ i, i < n → f i = 0) → sumN f n = 0
  | 0, _ => rfl
  | n + 1, h => by
    simp only [sumN]
    rw [sumN_zero (fun i hi => h i (by omega)), h n (by omega)]
    grind
theorem sumN_add (f g : Nat → Rat) : ∀ n, sumN (fun i => f i + g i) n = sumN f n + sumN g n
  | 0 => by simp only [sumN]; grind
  | n + 1 => by simp only [sumN]; rw [sumN_add f g n]; grind
theorem sumN_sub (f g : Nat → Rat) : ∀ n, sumN (fun i => f i - g i) n = sumN f n - sumN g n
  | 0 => by simp only [sumN]; grind
  | n + 1 => by simp only [sumN]; rw [sumN_sub f g n]; grind
theorem sumN_mul (f : Nat → Rat) (c : Rat) : ∀ n, sumN (fun i => f i * c) n = sumN f n * c
  | 0 => by simp only [sumN]; grind
  | n + 1 => by simp only [sumN]; rw [sumN_mul f c n]; grind
theorem sumN_swap (f : Nat → Nat → Rat) (m : Nat) : ∀ n, sumN (fun i => sumN (fun j => f i j) m) n = sumN (fun j => sumN (fun i => f i j) n) m
  | 0 => by
    simp only [sumN]
    rw [sumN_zero (fun _ _ => rfl)]
  | n + 1 => by
    simp only [sumN]
    rw [sumN_swap f m n, ← sumN_add]
/-- one of them turned -/
theorem sumN_turn (f : Nat → Rat) (a : Nat) (c : Rat) : ∀ {n : Nat}, a < n → sumN (fun i => if i = a then c else f i) n = sumN f n - f a + c
  | 0, h => by omega
  | n + 1, h => by
    simp only [sumN]
    by_cases e : a = n
    · subst e
      rw [if_pos rfl, sumN_congr (g := f) (fun i hi => by rw [if_neg (by omega)])]
      grind
    · rw [if_neg (fun h => e h.symm), sumN_turn f a c (by omega)]
      grind
/-- just one is not 0 -/
theorem sumN_one {f : Nat → Rat} {a n : Nat} (ha : a < n) (h : ∀ i, i < n → i ≠ a → f i = 0) : sumN f n = f a := by
  have h1 : sumN f n = sumN (fun i => if i = a then f a else (fun _ => 0) i) n := sumN_congr (fun i hi => by
    by_cases e : i = a
    · rw [if_pos e, e]
    · rw [if_neg e, h i hi e])
  rw [h1, sumN_turn _ _ _ ha, sumN_zero (fun _ _ => rfl)]
  grind
/-- in another order: two were exchanged -/
theorem sumN_exch (f : Nat → Rat) (a b : Nat) {n : Nat} (ha : a < n) (hb : b < n) : sumN (fun i => f (exch a b i)) n = sumN f n := by
  by_cases e : a = b
  · subst e
    apply sumN_congr
    intro i _
    unfold exch
    split
    · rename_i h; rw [h]
    · rfl
  · have h1 : sumN (fun i => f (exch a b i)) n = sumN (fun i => if i = b then f a else (fun i => if i = a then f b else f i) i) n := sumN_congr (fun i hi => by
      unfold exch
      by_cases e1 : b = i
      · rw [if_pos e1, if_pos e1.symm]
      · rw [if_neg e1, if_neg (show ¬ i = b from fun h => e1 h.symm)]
        show _ = if i = a then f b else f i
        by_cases e2 : a = i
        · rw [if_pos e2, if_pos e2.symm]
        · rw [if_neg e2, if_neg (show ¬ i = a from fun h => e2 h.symm)])
    rw [h1, sumN_turn _ _ _ hb, sumN_turn _ _ _ ha, if_neg (fun h => e h.symm)]
    grind
/-- the number that a fraction is -/
def qf (p : Fr) : Rat := Rat.divInt p.1 p.2
theorem qf_red {x y : Int} (h : redOk x y = true) : qf (redN x y, redD x y) = Rat.divInt x y := by
  obtain ⟨h1, h2, h3⟩ := red_sg h
  have hb := okB_out (okB_redN h)
  have hy : y ≠ 0 := by
    intro h0
    have h4 : sg x y * redD x y = 0 := by rw [h3]; exact h0
    rcases Int.mul_eq_zero.1 h4 with k | k
    · exact h1 k
    · omega
  unfold qf
  rw [Rat.divInt_eq_divInt_iff (by show redD x y ≠ 0; omega) hy]
  show redN x y * y = x * redD x y
  obtain ⟨p, hp⟩ : ∃ p, p = redN x y := ⟨_, rfl⟩
  obtain ⟨q, hq⟩ : ∃ q, q = redD x y := ⟨_, rfl⟩
  obtain ⟨s, hs⟩ : ∃ s, s = sg x y := ⟨_, rfl⟩
  rw [← hp, ← hs] at h2
  rw [← hq, ← hs] at h3
  rw [← hp, ← hq]
  clear hp hq hs h1 hb hy h
  grind
theorem okF_ne {p : Fr} (h : okF p = true) : p.2 ≠ 0 := by have := okB_out h; omega
theorem op_parts {p q : Fr} {x y : Int} (h : opOk (two p.1 p.2 q.1 q.2) x y = true) : okF p = true ∧ okF q = true ∧ qf (opN (two p.1 p.2 q.1 q.2) x y, opD (two p.1 p.2 q.1 q.2) x y) = Rat.divInt x y := by
  obtain ⟨t, h2, h3, h4⟩ := op_true h
  obtain ⟨t1, t2⟩ := two_out t
  exact ⟨t1, t2, by rw [h3, h4]; exact qf_red h2⟩
theorem dz {n d : Int} (hd : d ≠ 0) : Rat.divInt n d = 0 ↔ n = 0 := by
  rw [show (0 : Rat) = Rat.divInt 0 1 from rfl, Rat.divInt_eq_divInt_iff hd (by decide)]
  omega
theorem qf_mul {p q : Fr} (h : mulK p q = true) : qf (mulP p q) = qf p * qf q := by
  obtain ⟨h1, h2, h3⟩ := op_parts h
  unfold mulP
  rw [h3]
  unfold qf
  rw [Rat.divInt_mul_divInt]
theorem qf_add {p q : Fr} (h : addK p q = true) : qf (addP p q) = qf p + qf q := by
  obtain ⟨h1, h2, h3⟩ := op_parts h
  unfold addP
  rw [h3]
  unfold qf
  rw [Rat.divInt_add_divInt _ _ (okF_ne h1) (okF_ne h2)]
theorem qf_sub {p q : Fr} (h : subK p q = true) : qf (subP p q) = qf p - qf q := by
  obtain ⟨h1, h2, h3⟩ := op_parts h
  unfold subP
  rw [h3]
  unfold qf
  rw [Rat.divInt_sub_divInt _ _ (okF_ne h1) (okF_ne h2)]
theorem qf_div {p q : Fr} (h : divK p q = true) : qf q ≠ 0 ∧ qf (divP p q) = qf p / qf q := by
  obtain ⟨h1, h2, h3⟩ := op_parts h
  have h4 : opOk (two p.1 p.2 q.1 q.2) (p.1 * q.2) (p.2 * q.1) = true := h
  obtain ⟨-, h5, -, -⟩ := op_true h4
  have hq : q.1 ≠ 0 := by
    intro h0
    unfold redOk at h5
    rw [Bool.and_eq_true] at h5
    have := (redIn_out h5.1).1
    rw [h0] at this
    omega
  unfold divP
  rw [h3]
  unfold qf
  have hz : Rat.divInt q.1 q.2 ≠ 0 := by
    intro h0
    rw [dz (okF_ne h2)] at h0
    exact hq h0
  refine ⟨hz, ?_⟩
  have hm : Rat.divInt (p.1 * q.2) (p.2 * q.1) * Rat.divInt q.1 q.2 = Rat.divInt p.1 p.2 := by
    rw [Rat.divInt_mul_divInt, Rat.divInt_eq_divInt_iff (by
      intro h0
      rcases Int.mul_eq_zero.1 h0 with k | k
      · rcases Int.mul_eq_zero.1 k with k | k
        · exact okF_ne h1 k
        · exact hq k
      · exact okF_ne h2 k) (okF_ne h1)]
    grind
  rw [← hm]
  grind
theorem qf_inj {p q : Fr} (h1 : okF p = true) (h2 : okF q = true) (h : qf p = qf q) : p = q := by
  unfold qf at h
  rw [Rat.divInt_eq_divInt_iff (okF_ne h1) (okF_ne h2)] at h
  obtain ⟨e1, e2⟩ := okB_eq h1 h2 h
  exact Prod.ext e1 e2
theorem qf_zero {p : Fr} (h : okF p = true) : qf p = 0 ↔ p.1 = 0 := by
  unfold qf
  rw [dz (okF_ne h)]
theorem qf_null : qf (0, 1) = 0 := by unfold qf; rfl
theorem qf_one : qf (1, 1) = 1 := by unfold qf; rfl
/-- a table as numbers -/
def mv (rows : List (List Fr)) (i j : Nat) : Rat := qf (fr (rw' rows i) j)
/-- what every column's step of the echelon is, in numbers -/
structure StepQ (m L at' r col : Nat) (M M' : Nat → Nat → Rat) : Prop where
  ha : at' < m
  hr : r < m
  hge : at' ≤ r
  hc : col < L
  f0 : M r col ≠ 0
  top : ∀ j, j < L → M' at' j = M r j / M r col
  oth : ∀ i, i < m → i ≠ at' → ∀ j, j < L → M' i j = M (exch r at' i) j - M (exch r at' i) col * M' at' j
/-- the same solutions -/
theorem StepQ.ker {m L at' r col : Nat} {M M' : Nat → Nat → Rat} (h : StepQ m L at' r col M M') (v : Nat → Rat) : (∀ i, i < m → sumN (fun j => M' i j * v j) L = 0) ↔ (∀ i, i < m → sumN (fun j => M i j * v j) L = 0) := by
  have e1 : sumN (fun j => M' at' j * v j) L = sumN (fun j => M r j * v j) L / M r col := by
    have := h.f0
    rw [show sumN (fun j => M r j * v j) L / M r col = sumN (fun j => M r j * v j) L * (1 / M r col) by grind, ← sumN_mul]
    apply sumN_congr
    intro j hj
    rw [h.top j hj]
    grind
  have e2 : ∀ i, i < m → i ≠ at' → sumN (fun j => M' i j * v j) L = sumN (fun j => M (exch r at' i) j * v j) L - M (exch r at' i) col * sumN (fun j => M' at' j * v j) L := by
    intro i hi hne
    rw [show M (exch r at' i) col * sumN (fun j => M' at' j * v j) L = sumN (fun j => M' at' j * v j) L * M (exch r at' i) col by grind, ← sumN_mul, ← sumN_sub]
    apply sumN_congr
    intro j hj
    rw [h.oth i hi hne j hj]
    grind
  have f0 := h.f0
  constructor
  · intro h0
    have hr0 : sumN (fun j => M r j * v j) L = 0 := by
      have := h0 at' h.ha
      rw [e1] at this
      grind
    intro i hi
    by_cases e : i = r
    · rw [e]; exact hr0
    · have hx : exch r at' (exch r at' i) = i := by
        unfold exch
        split <;> split <;> (try split) <;> omega
      have hne : exch r at' i ≠ at' := by
        unfold exch
        have := h.ha
        split
        · omega
        · split <;> omega
      have := e2 (exch r at' i) (exch_lt h.hr h.ha hi) hne
      rw [hx, h0 _ (exch_lt h.hr h.ha hi), h0 _ h.ha] at this
      grind
  · intro h0
    have ha0 : sumN (fun j => M' at' j * v j) L = 0 := by
      rw [e1, h0 r h.hr]
      grind
    intro i hi
    by_cases e : i = at'
    · rw [e]; exact ha0
    · rw [e2 i hi e, ha0, h0 _ (exch_lt h.hr h.ha hi)]
      grind
/-- rows of which some make up nothing, by the first n columns -/
def Dep (m n : Nat) (M : Nat → Nat → Rat) : Prop := ∃ y : Nat → Rat, (∃ i, i < m ∧ y i ≠ 0) ∧ ∀ j, j < n → sumN (fun i => y i * M i j) m = 0
theorem StepQ.dep {m L at' r col n : Nat} {M M' : Nat → Nat → Rat} (h : StepQ m L at' r col M M') (hn : n ≤ L) (hcn : col < n) (hd : Dep m n M) : Dep m n M' := by
  obtain ⟨y, ⟨k, hk, hy⟩, h0⟩ := hd
  have hx : ∀ i, exch r at' (exch r at' i) = i := by
    intro i
    unfold exch
    split <;> split <;> (try split) <;> omega
  have hsum : ∀ j, j < n → sumN (fun i => y (exch r at' i) * M (exch r at' i) j) m = 0 := by
    intro j hj
    rw [sumN_exch (fun i => y i * M i j) r at' h.hr h.ha]
    exact h0 j hj
  have hat : exch r at' at' = r := by unfold exch; rw [if_pos rfl]
  have f0 := h.f0
  refine ⟨fun i => if i = at' then 0 else y (exch r at' i), ?_, ?_⟩
  · apply Classical.byContradiction
    intro hn0
    have hz : ∀ i, i < m → i ≠ at' → y (exch r at' i) = 0 := by
      intro i hi hne
      apply Classical.byContradiction
      intro h1
      exact hn0 ⟨i, hi, by show (if i = at' then (0 : Rat) else _) ≠ 0; rw [if_neg hne]; exact h1⟩
    have hs := hsum col hcn
    rw [sumN_one h.ha (fun i hi hne => by rw [hz i hi hne]; grind), hat] at hs
    have hyr : y r = 0 := by grind
    apply hy
    by_cases e : k = r
    · rw [e]; exact hyr
    · have := hz (exch r at' k) (exch_lt h.hr h.ha hk) (by
        intro h1
        have h2 : exch r at' (exch r at' k) = exch r at' at' := by rw [h1]
        rw [hx, hat] at h2
        exact e h2)
      rw [hx] at this
      exact this
  · intro j hj
    have he : sumN (fun i => (if i = at' then 0 else y (exch r at' i)) * M' i j) m = sumN (fun i => y (exch r at' i) * M (exch r at' i) j - (y (exch r at' i) * M (exch r at' i) col) * M' at' j) m := by
      apply sumN_congr
      intro i hi
      by_cases e : i = at'
      · rw [if_pos e, e, hat, h.top j (by omega)]
        grind
      · rw [if_neg e, h.oth i hi e j (by omega)]
        grind
    rw [he, sumN_sub, sumN_mul, hsum j hj, hsum col hcn]
    grind
/-- the chosen columns are units -/
def Units (m : Nat) (M : Nat → Nat → Rat) (ch : List Nat) : Prop := ∀ k, k < ch.length → ∀ i, i < m → M i (nt ch k) = if i = k then 1 else 0
theorem nt_app {ch : List Nat} {c k : Nat} (h : k < ch.length) : nt (ch ++ [c]) k = nt ch k := by unfold nt; rw [List.getElem?_append_left h]
theorem nt_last (ch : List Nat) (c : Nat) : nt (ch ++ [c]) ch.length = c := by simp [nt]
theorem StepQ.units {m L r col : Nat} {M M' : Nat → Nat → Rat} {ch : List Nat} (h : StepQ m L ch.length r col M M') (hu : Units m M ch) (hl : ∀ c, c ∈ ch → c < L) : Units m M' (ch ++ [col]) := by
  have f0 := h.f0
  have hge := h.hge
  have hr := h.hr
  have ha := h.ha
  intro k hk i hi
  rw [List.length_append, List.length_singleton] at hk
  by_cases e : k < ch.length
  · rw [nt_app e]
    have hc : nt ch k < L := hl _ (nt_mem e)
    have htop : M' ch.length (nt ch k) = 0 := by
      rw [h.top _ hc, hu k e r h.hr, if_neg (by omega)]
      grind
    by_cases e2 : i = ch.length
    · rw [e2, htop, if_neg (by omega)]
    · rw [h.oth i hi e2 _ hc, htop, hu k e _ (exch_lt h.hr h.ha hi)]
      by_cases e3 : i = k
      · have : exch r ch.length i = i := by unfold exch; rw [if_neg (by omega), if_neg (by omega)]
        rw [this, if_pos e3]
        grind
      · have : exch r ch.length i ≠ k := by unfold exch; split <;> (try split) <;> omega
        rw [if_neg this, if_neg e3]
        grind
  · obtain rfl : k = ch.length := by omega
    rw [nt_last]
    have htop : M' ch.length col = 1 := by rw [h.top _ h.hc]; grind
    by_cases e2 : i = ch.length
    · rw [if_pos e2, e2, htop]
    · rw [if_neg e2, h.oth i hi e2 _ h.hc, htop]
      grind
/-- what every state of the echelon is -/
structure Base (m L : Nat) (rows : List (List Fr)) (ch : List Nat) (col : Nat) : Prop where
  len : rows.length = m
  row : ∀ x, x < m → (rw' rows x).length = L
  ok : ∀ x, x < m → ∀ j, j < L → okF (fr (rw' rows x) j) = true
  cl : ch.length ≤ m
  chs : ∀ c, c ∈ ch → c < col
theorem divR_at {row : List Fr} {f : Fr} {j : Nat} (hj : j < row.length) : fr (divR row f) j = divP (fr row j) f := by simp [divR, fr, hj]
theorem takeR_at {o w : List Fr} {t : Fr} {j : Nat} (hj : j < o.length) : fr (takeR o t w) j = takeE (fr o j) t (fr w j) := by simp [takeR, fr, hj]
theorem divB_at {row : List Fr} {f : Fr} (h : divB row f = true) {j : Nat} (hj : j < row.length) : divK (fr row j) f = true := all_at (p := fun p => divK p f) (d := ((0, 0) : Fr)) h hj
theorem takeB_at {o w : List Fr} {t : Fr} (h : takeB o t w = true) {j : Nat} (hj : j < o.length) : takeK (fr o j) t (fr w j) = true := by
  unfold takeB at h
  rw [List.all_eq_true] at h
  exact h j (by simpa using hj)
theorem qf_take {o t x : Fr} (h : takeK o t x = true) : qf (takeE o t x) = qf o - qf t * qf x ∧ okF (takeE o t x) = true := by
  unfold takeK at h
  have hm : mulK t x = true := by
    rw [← Bool.not_eq_false]
    intro h0
    rw [mul_none h0, sub_zero_r] at h
    cases h
  unfold takeE
  exact ⟨by rw [qf_sub h, qf_mul hm], sub_right h⟩
/-- one column's step, in numbers; the state behind it -/
theorem stepQ {m L r col : Nat} {rows : List (List Fr)} {ch : List Nat} (hB : Base m L rows ch col) (hc : col < L) (h1 : ch.length ≤ r) (h2 : r < m) (hb : stepB rows ch.length r col = true) :
    StepQ m L ch.length r col (mv rows) (mv (stepT rows ch.length r col)) ∧ Base m L (stepT rows ch.length r col) (ch ++ [col]) (col + 1) := by
  have ha : ch.length < m := by omega
  have hb' := hb
  unfold stepB at hb'
  rw [Bool.and_eq_true, List.all_eq_true] at hb'
  obtain ⟨hd, ht⟩ := hb'
  have hlr : (rw' rows r).length = L := hB.row r h2
  have hat : ∀ i, i < m → rw' (stepT rows ch.length r col) i = if i = ch.length then divR (rw' rows r) (fr (rw' rows r) col) else takeR (rw' (swapT rows r ch.length) i) (fr (rw' (swapT rows r ch.length) i) col) (divR (rw' rows r) (fr (rw' rows r) col)) := by
    intro i hi
    have hi2 : i < rows.length := by rw [hB.len]; exact hi
    rw [← stepP_all, stepP_at _ _ _ _ _ _ hi2, if_pos hi2]
  have htop : ∀ j, j < L → fr (rw' (stepT rows ch.length r col) ch.length) j = divP (fr (rw' rows r) j) (fr (rw' rows r) col) := by
    intro j hj
    rw [hat _ ha, if_pos rfl, divR_at (by omega)]
  have hkd : ∀ j, j < L → divK (fr (rw' rows r) j) (fr (rw' rows r) col) = true := fun j hj => divB_at hd (by omega)
  have hoth : ∀ i, i < m → i ≠ ch.length → ∀ j, j < L → fr (rw' (stepT rows ch.length r col) i) j = takeE (fr (rw' rows (exch r ch.length i)) j) (fr (rw' rows (exch r ch.length i)) col) (divP (fr (rw' rows r) j) (fr (rw' rows r) col)) ∧ takeK (fr (rw' rows (exch r ch.length i)) j) (fr (rw' rows (exch r ch.length i)) col) (divP (fr (rw' rows r) j) (fr (rw' rows r) col)) = true := by
    intro i hi hne j hj
    have hl := hB.row _ (exch_lt h2 ha hi)
    have hti := ht i (by simpa [hB.len] using hi)
    rw [rw_exch _ _ _ _ (by rw [hB.len]; exact h2) (by rw [hB.len]; exact ha)] at hti
    have hti2 : takeB (rw' rows (exch r ch.length i)) (fr (rw' rows (exch r ch.length i)) col) (divR (rw' rows r) (fr (rw' rows r) col)) = true := by
      simpa [hne] using hti
    have hk := takeB_at hti2 (j := j) (by omega)
    rw [divR_at (by omega)] at hk
    rw [hat i hi, if_neg hne, rw_exch _ _ _ _ (by rw [hB.len]; exact h2) (by rw [hB.len]; exact ha), takeR_at (by omega), divR_at (by omega)]
    exact ⟨rfl, hk⟩
  refine ⟨⟨ha, h2, h1, hc, (qf_div (hkd col hc)).1, fun j hj => ?_, fun i hi hne j hj => ?_⟩, ⟨by rw [stepT_len]; exact hB.len, fun x hx => ?_, fun x hx j hj => ?_, by simp; omega, fun c hx => ?_⟩⟩
  · show qf _ = _
    rw [htop j hj, (qf_div (hkd j hj)).2]
    rfl
  · obtain ⟨e1, e2⟩ := hoth i hi hne j hj
    show qf _ = _
    rw [e1, (qf_take e2).1]
    show _ = mv rows _ j - mv rows _ col * qf _
    rw [htop j hj]
    rfl
  · exact stepT_row (fun y hy => hB.row y (by rw [← hB.len]; exact hy)) (by rw [hB.len]; exact ha) (by rw [hB.len]; exact h2) x (by rw [stepT_len, hB.len]; exact hx)
  · by_cases e : x = ch.length
    · rw [e, htop j hj]
      exact div_right (hkd j hj)
    · obtain ⟨e1, e2⟩ := hoth x hx e j hj
      rw [e1]
      exact (qf_take e2).2
  · rw [List.mem_append] at hx
    rcases hx with hx | hx
    · have := hB.chs c hx; omega
    · simp at hx; omega
/-- what every step keeps, the whole echelon does -/
theorem ech_ind {m L : Nat} {P : Nat → List (List Fr) → List Nat → Prop}
    (free : ∀ col rows ch, Base m L rows ch col → col < L → (∀ x, ch.length ≤ x → x < m → (fr (rw' rows x) col).1 = 0) → P col rows ch → P (col + 1) rows ch)
    (yes : ∀ col rows ch r, Base m L rows ch col → col < L → ch.length ≤ r → r < m → (fr (rw' rows r) col).1 ≠ 0 → (∀ x, ch.length ≤ x → x < r → (fr (rw' rows x) col).1 = 0) → stepB rows ch.length r col = true → P col rows ch → P (col + 1) (stepT rows ch.length r col) (ch ++ [col])) :
    ∀ n col rows ch R C, col + n ≤ L → Base m L rows ch col → P col rows ch → echF n col rows ch = some (R, C) → P (col + n) R C ∧ Base m L R C (col + n)
  | 0, col, rows, ch, R, C, _, hB, hP, he => by
    simp only [echF] at he
    cases he
    exact ⟨hP, hB⟩
  | n + 1, col, rows, ch, R, C, hl, hB, hP, he => by
    have hp := piv_le (rows := rows) (col := col) (at' := ch.length) (by rw [hB.len]; exact hB.cl)
    by_cases hf : piv rows col ch.length = rows.length
    · rw [echF_free hf] at he
      have hz : ∀ x, ch.length ≤ x → x < m → (fr (rw' rows x) col).1 = 0 := by
        intro x h1 h2
        refine pivF_zero rows col (rows.length - ch.length) ch.length x h1 ?_
        show x < piv rows col ch.length
        rw [hf, hB.len]
        exact h2
      have := ech_ind free yes n (col + 1) rows ch R C (by omega) ⟨hB.len, hB.row, hB.ok, hB.cl, fun c hx => by have := hB.chs c hx; omega⟩ (free col rows ch hB (by omega) hz hP) he
      rw [show col + (n + 1) = col + 1 + n by omega]
      exact this
    · have hlt : piv rows col ch.length < m := by rw [← hB.len]; omega
      by_cases hs : stepB rows ch.length (piv rows col ch.length) col = true
      · rw [echF_yes rfl hf hs] at he
        obtain ⟨-, hB2⟩ := stepQ hB (by omega) hp.1 hlt hs
        have hne : (fr (rw' rows (piv rows col ch.length)) col).1 ≠ 0 := by
          apply pivF_at
          show piv rows col ch.length < _
          have := hB.cl
          rw [hB.len]
          omega
        have hzz : ∀ x, ch.length ≤ x → x < piv rows col ch.length → (fr (rw' rows x) col).1 = 0 := fun x h1 h2 => pivF_zero rows col _ _ x h1 h2
        have := ech_ind free yes n (col + 1) _ _ R C (by omega) hB2 (yes col rows ch _ hB (by omega) hp.1 hlt hne hzz hs hP) he
        rw [show col + (n + 1) = col + 1 + n by omega]
        exact this
      · rw [Bool.not_eq_true] at hs
        rw [echF_no rfl hf hs] at he
        cases he
theorem base_start {rows : List (List Fr)} {L : Nat} (hL : L = (rw' rows 0).length) (h : tabB rows 6 = true) : Base rows.length L rows [] 0 := by
  obtain ⟨-, hr⟩ := tabB_out h
  refine ⟨rfl, fun x hx => by rw [hL]; exact (hr x hx).1, fun x hx j hj => ?_, Nat.zero_le _, fun c hc => absurd hc (by simp)⟩
  exact allOk_at (hr x hx).2 (by rw [(hr x hx).1]; omega)
end Go.Proofs.Ythnlcgilmljliaa

/- What the law of Solved asks, without any program: what is solved solves; a table with two rows alike has no one solution; the rank is full. -/
namespace Go.Proofs.Ythnlcgilmljliaa
open Go.RowKit Go.Proofs.Ythnlcgilmljliaa.RM

theorem solO_out {rows : List (List Fr)} {right : List Fr} (h : solO rows right = true) : solC rows right = true ∧ tabB (wideT rows right) 6 = true ∧ echK (wideT rows right) = true ∧ solF rows.length (echC (wideT rows right)) = true := by
  unfold solO echO at h
  simpa [Bool.and_eq_true, and_assoc] using h
theorem echK_out {rows : List (List Fr)} (h : echK rows = true) : ech rows = some (echR rows, echC rows) := by
  unfold echK at h
  cases he : ech rows with
  | none => rw [he] at h; cases h
  | some p =>
    obtain ⟨R, C⟩ := p
    obtain ⟨-, e1, e2⟩ := ech_yes he
    rw [e1, e2]
/-- solutions, units and dependence at the echelon's end -/
theorem ech_keeps {rows : List (List Fr)} {L : Nat} (hL : L = (rw' rows 0).length) (ht : tabB rows 6 = true) (hk : echK rows = true) :
    ((∀ v : Nat → Rat, (∀ i, i < rows.length → sumN (fun j => mv (echR rows) i j * v j) L = 0) ↔ (∀ i, i < rows.length → sumN (fun j => mv rows i j * v j) L = 0)) ∧ Units rows.length (mv (echR rows)) (echC rows) ∧ ∀ k, k ≤ L → (∀ c, c ∈ echC rows → c < k) → Dep rows.length k (mv rows) → Dep rows.length k (mv (echR rows))) ∧ Base rows.length L (echR rows) (echC rows) L := by
  have he := echK_out hk
  unfold ech at he
  rw [← hL] at he
  have key := ech_ind (m := rows.length) (L := L) (P := fun col R C => (∀ v : Nat → Rat, (∀ i, i < rows.length → sumN (fun j => mv R i j * v j) L = 0) ↔ (∀ i, i < rows.length → sumN (fun j => mv rows i j * v j) L = 0)) ∧ Units rows.length (mv R) C ∧ ∀ k, k ≤ L → (∀ c, c ∈ C → c < k) → Dep rows.length k (mv rows) → Dep rows.length k (mv R))
    (fun col R C hB hc hz hP => hP)
    (fun col R C r hB hc h1 h2 hne hz hb hP => by
      obtain ⟨hs, hB2⟩ := stepQ hB hc h1 h2 hb
      refine ⟨fun v => (hs.ker v).trans (hP.1 v), hs.units hP.2.1 (fun c hx => by have := hB.chs c hx; omega), fun k hk hck hd => ?_⟩
      exact hs.dep hk (hck col (by simp)) (hP.2.2 k hk (fun c hx => hck c (by simp [hx])) hd))
    L 0 rows [] (echR rows) (echC rows) (by omega) (base_start hL ht) ⟨fun v => Iff.rfl, fun k hk => absurd hk (by simp), fun k hk hck hd => hd⟩ he
  rw [Nat.zero_add] at key
  exact key
/-- where it is solved the chosen columns are all but right's -/
theorem sol_cols {rows : List (List Fr)} {right : List Fr} (h : solO rows right = true) : (echC (wideT rows right)).length = rows.length ∧ (∀ i, i < rows.length → nt (echC (wideT rows right)) i = i) ∧ ∀ c, c ∈ echC (wideT rows right) → c < rows.length := by
  obtain ⟨h1, h2, h3, h4⟩ := solO_out h
  obtain ⟨s1, s2, s3, s4⟩ := solC_out h1
  obtain ⟨⟨t1, -⟩, -⟩ := tabB_out s2
  have hr := ech_rises h3
  have hl0 : (rw' (wideT rows right) 0).length = rows.length + 1 := by rw [wideT_at _ _ _ (by omega)]; simp [s3]
  have hB := (ech_keeps (L := rows.length + 1) hl0.symm h2 h3).2
  have hm := h4
  rw [solF_model t1 hr hB.chs, Bool.and_eq_true, decide_eq_true_eq, decide_eq_true_eq] at hm
  have hf := h4
  unfold solF at hf
  rw [decide_eq_true_eq] at hf
  have hin : ∀ x, x < rows.length → x ∈ echC (wideT rows right) := by
    intro x hx
    apply Classical.byContradiction
    intro hn
    have : x ∈ freeC (rows.length + 1) (echC (wideT rows right)) := freeC_mem.2 ⟨by omega, hn⟩
    rw [hf] at this
    simp at this
    omega
  obtain ⟨a1, a2⟩ := atP_run hr hin rows.length (Nat.le_refl _)
  refine ⟨hm.1, a2, fun c hx => ?_⟩
  obtain ⟨i, hi, he⟩ := mem_nt hx
  rw [← he, a2 i (by omega)]
  omega
/-- what is solved solves -/
theorem sol_solves {rows : List (List Fr)} {right : List Fr} (h : solO rows right = true) (i : Nat) (hi : i < rows.length) :
    sumN (fun k => mv rows i k * qf (fr (solX rows right) k)) rows.length = qf (fr right i) := by
  obtain ⟨h1, h2, h3, h4⟩ := solO_out h
  obtain ⟨s1, s2, s3, s4⟩ := solC_out h1
  obtain ⟨-, sr⟩ := tabB_out s2
  obtain ⟨c1, c2, c3⟩ := sol_cols h
  have hl0 : (rw' (wideT rows right) 0).length = rows.length + 1 := by rw [wideT_at _ _ _ (by omega)]; simp [s3]
  obtain ⟨⟨k1, k2, -⟩, hB⟩ := ech_keeps (L := rows.length + 1) hl0.symm h2 h3
  rw [wideT_len] at k1 k2 hB
  have hv := (k1 (fun j => if j = rows.length then -1 else qf (fr (solX rows right) j))).1 (by
    intro x hx
    simp only [sumN]
    rw [if_pos trivial]
    rw [sumN_one (a := x) hx (fun y hy hne => by
      rw [if_neg (by omega)]
      have := k2 y (by omega) x hx
      rw [c2 y hy, if_neg (by omega)] at this
      rw [this]
      grind)]
    rw [if_neg (by omega)]
    have := k2 x (by omega) x hx
    rw [c2 x hx, if_pos rfl] at this
    rw [this, solX_at _ _ _ hx]
    show 1 * mv (echR (wideT rows right)) x rows.length + mv (echR (wideT rows right)) x rows.length * -1 = 0
    grind) i hi
  simp only [sumN] at hv
  rw [if_pos trivial] at hv
  have hw : ∀ j, j < rows.length → mv (wideT rows right) i j = mv rows i j := by
    intro j hj
    unfold mv
    rw [wideT_at _ _ _ hi]
    unfold fr
    rw [List.getElem?_append_left (by rw [(sr i hi).1, s3]; exact hj)]
  have hb : mv (wideT rows right) i rows.length = qf (fr right i) := by
    unfold mv
    rw [wideT_at _ _ _ hi]
    congr 1
    have : (rw' rows i).length = rows.length := by rw [(sr i hi).1, s3]
    unfold fr
    rw [List.getElem?_append_right (by omega), this, Nat.sub_self]
    rfl
  rw [hb, sumN_congr (g := fun k => mv rows i k * qf (fr (solX rows right) k)) (fun j hj => by rw [if_neg (by omega), hw j hj])] at hv
  grind
/-- the table with its second row in the first one's place -/
def twiceT (rows : List (List Fr)) : List (List Fr) := rw' rows 1 :: rows.drop 1
theorem twice_len {rows : List (List Fr)} (h : 2 ≤ rows.length) : (twiceT rows).length = rows.length := by simp [twiceT]; omega
theorem twice_at {rows : List (List Fr)} {i : Nat} (h : i ≠ 0) : rw' (twiceT rows) i = rw' rows i := by
  obtain ⟨k, rfl⟩ : ∃ k, i = k + 1 := ⟨i - 1, by omega⟩
  simp [twiceT, rw']
theorem twice_zero (rows : List (List Fr)) : rw' (twiceT rows) 0 = rw' rows 1 := by simp [twiceT, rw']
theorem sol_twice {rows : List (List Fr)} {right : List Fr} (h2 : 2 ≤ rows.length) : solO (twiceT rows) right = false := by
  rw [← Bool.not_eq_true]
  intro h
  obtain ⟨h1, ht, h3, h4⟩ := solO_out h
  obtain ⟨s1, s2, s3, s4⟩ := solC_out h1
  obtain ⟨-, sr⟩ := tabB_out s2
  obtain ⟨c1, c2, c3⟩ := sol_cols h
  have hl := twice_len h2
  have hl0 : (rw' (wideT (twiceT rows) right) 0).length = (twiceT rows).length + 1 := by rw [wideT_at _ _ _ (by omega)]; simp [s3]
  obtain ⟨⟨k1, k2, k3⟩, hB⟩ := ech_keeps (L := (twiceT rows).length + 1) hl0.symm ht h3
  rw [wideT_len] at k2 k3
  have hsame : ∀ j, j < (twiceT rows).length → mv (wideT (twiceT rows) right) 0 j = mv (wideT (twiceT rows) right) 1 j := by
    intro j hj
    have e0 := (sr 0 (by omega)).1
    have e1 := (sr 1 (by omega)).1
    unfold mv
    rw [wideT_at _ _ _ (by omega), wideT_at _ _ _ (by omega)]
    unfold fr
    rw [List.getElem?_append_left (by omega), List.getElem?_append_left (by omega), twice_zero, twice_at (by decide)]
  have hd := k3 (twiceT rows).length (by omega) c3 ⟨fun i => if i = 0 then 1 else if i = 1 then -1 else 0, ⟨0, by omega, by show (if (0 : Nat) = 0 then (1 : Rat) else if (0 : Nat) = 1 then -1 else 0) ≠ 0; rw [if_pos rfl]; grind⟩, fun j hj => by
    have hs := hsame j hj
    generalize mv (wideT (twiceT rows) right) = M at *
    have e : sumN (fun i => (if i = 0 then (1 : Rat) else if i = 1 then -1 else 0) * M i j) (twiceT rows).length = sumN (fun i => if i = 0 then M 0 j else (fun i => if i = 1 then - M 1 j else (fun _ => 0) i) i) (twiceT rows).length := by
      apply sumN_congr
      intro i _
      by_cases e1 : i = 0
      · subst e1; rw [if_pos rfl, if_pos rfl]; grind
      · rw [if_neg e1, if_neg e1]
        show _ = if i = 1 then _ else _
        by_cases e2 : i = 1
        · subst e2; rw [if_pos rfl, if_pos rfl]; grind
        · rw [if_neg e2, if_neg e2]; grind
    rw [e, sumN_turn _ _ _ (by omega), sumN_turn _ _ _ (by omega), sumN_zero (fun _ _ => rfl), if_neg (by decide), hs]
    grind⟩
  obtain ⟨y, ⟨k, hk, hy⟩, h0⟩ := hd
  apply hy
  have := h0 k hk
  rw [sumN_one hk (fun i hi hne => by
    have hu := k2 k (by omega) i hi
    rw [c2 k hk, if_neg hne] at hu
    rw [hu]
    grind)] at this
  have hu := k2 k (by omega) k hk
  rw [c2 k hk, if_pos rfl] at hu
  rw [hu] at this
  grind
/-- the first L columns of a table are those of another one -/
structure Cut (m L : Nat) (rows wide : List (List Fr)) : Prop where
  l1 : rows.length = m
  l2 : wide.length = m
  r1 : ∀ i, i < m → (rw' rows i).length = L
  r2 : ∀ i, i < m → L ≤ (rw' wide i).length
  same : ∀ i, i < m → ∀ j, j < L → fr (rw' wide i) j = fr (rw' rows i) j
theorem Cut.pivF {m L col : Nat} {rows wide : List (List Fr)} (h : Cut m L rows wide) (hc : col < L) : ∀ n r, r + n ≤ m → pivF wide col n r = pivF rows col n r
  | 0, r, _ => rfl
  | n + 1, r, hr => by
    simp only [Go.Proofs.Ythnlcgilmljliaa.pivF]
    rw [h.same r (by omega) col hc, h.pivF hc n (r + 1) (by omega)]
theorem Cut.stepB {m L col at' r : Nat} {rows wide : List (List Fr)} (h : Cut m L rows wide) (hc : col < L) (ha : at' < m) (hr : r < m) (hb : stepB wide at' r col = true) : stepB rows at' r col = true := by
  unfold Go.Proofs.Ythnlcgilmljliaa.stepB at hb
  rw [Bool.and_eq_true, List.all_eq_true] at hb
  obtain ⟨hd, ht⟩ := hb
  have hd2 : divB (rw' rows r) (fr (rw' rows r) col) = true := by
    apply all_yes (p := fun p => divK p (fr (rw' rows r) col)) (d := ((0, 0) : Fr))
    intro k hk
    rw [h.r1 r hr] at hk
    have := divB_at hd (j := k) (by have := h.r2 r hr; omega)
    rw [h.same r hr k hk, h.same r hr col hc] at this
    exact this
  refine stepB_yes hd2 (fun k hk hne => ?_)
  rw [h.l1] at hk
  have hti := ht k (by simpa [h.l2] using hk)
  rw [rw_exch _ _ _ _ (by rw [h.l2]; exact hr) (by rw [h.l2]; exact ha)] at hti
  have hti2 : takeB (rw' wide (exch r at' k)) (fr (rw' wide (exch r at' k)) col) (divR (rw' wide r) (fr (rw' wide r) col)) = true := by simpa [hne] using hti
  rw [rw_exch _ _ _ _ (by rw [h.l1]; exact hr) (by rw [h.l1]; exact ha)]
  have hx := exch_lt hr ha hk
  unfold takeB
  rw [List.all_eq_true]
  intro j hj
  rw [List.mem_range, h.r1 _ hx] at hj
  have := takeB_at hti2 (j := j) (by have := h.r2 _ hx; omega)
  rw [divR_at (by have := h.r2 r hr; omega), h.same _ hx j hj, h.same _ hx col hc, h.same r hr j hj, h.same r hr col hc] at this
  rw [divR_at (by rw [h.r1 r hr]; exact hj)]
  exact this
theorem Cut.stepT {m L col at' r : Nat} {rows wide : List (List Fr)} (h : Cut m L rows wide) (hc : col < L) (ha : at' < m) (hr : r < m) : Cut m L (stepT rows at' r col) (stepT wide at' r col) := by
  have e1 : ∀ (T : List (List Fr)), T.length = m → ∀ i, i < m → rw' (Go.Proofs.Ythnlcgilmljliaa.stepT T at' r col) i = if i = at' then divR (rw' T r) (fr (rw' T r) col) else takeR (rw' T (exch r at' i)) (fr (rw' T (exch r at' i)) col) (divR (rw' T r) (fr (rw' T r) col)) := by
    intro T hT i hi
    have hi2 : i < T.length := by rw [hT]; exact hi
    rw [← stepP_all, stepP_at _ _ _ _ _ _ hi2, if_pos hi2, rw_exch _ _ _ _ (by rw [hT]; exact hr) (by rw [hT]; exact ha)]
  refine ⟨by rw [stepT_len]; exact h.l1, by rw [stepT_len]; exact h.l2, fun i hi => ?_, fun i hi => ?_, fun i hi j hj => ?_⟩
  · rw [e1 rows h.l1 i hi]
    split
    · rw [divR_len]; exact h.r1 r hr
    · rw [takeR_len]; exact h.r1 _ (exch_lt hr ha hi)
  · rw [e1 wide h.l2 i hi]
    split
    · rw [divR_len]; exact h.r2 r hr
    · rw [takeR_len]; exact h.r2 _ (exch_lt hr ha hi)
  · rw [e1 rows h.l1 i hi, e1 wide h.l2 i hi]
    have hx := exch_lt hr ha hi
    have hr2 := h.r2 r hr
    have hx2 := h.r2 _ hx
    by_cases e : i = at'
    · rw [if_pos e, if_pos e, divR_at (by omega), divR_at (by rw [h.r1 r hr]; exact hj), h.same r hr j hj, h.same r hr col hc]
    · rw [if_neg e, if_neg e, takeR_at (by omega), takeR_at (by rw [h.r1 _ hx]; exact hj), divR_at (by omega), divR_at (by rw [h.r1 r hr]; exact hj), h.same r hr j hj, h.same r hr col hc, h.same _ hx j hj, h.same _ hx col hc]
theorem Cut.ech {m L : Nat} : ∀ n col rows wide ch R C, Cut m L rows wide → col + n ≤ L → ch.length ≤ m → echF n col wide ch = some (R, C) → ∃ R', echF n col rows ch = some (R', C) ∧ Cut m L R' R
  | 0, col, rows, wide, ch, R, C, h, _, _, he => by
    simp only [echF] at he ⊢
    cases he
    exact ⟨rows, rfl, h⟩
  | n + 1, col, rows, wide, ch, R, C, h, hl, hcl, he => by
    have hp : piv wide col ch.length = piv rows col ch.length := by
      unfold piv
      rw [h.l1, h.l2, h.pivF (by omega) _ _ (by omega)]
    have hple := piv_le (rows := rows) (col := col) (at' := ch.length) (by rw [h.l1]; exact hcl)
    by_cases hf : piv rows col ch.length = rows.length
    · rw [echF_free (by rw [hp, hf, h.l1, h.l2])] at he
      rw [echF_free hf]
      exact Cut.ech n (col + 1) rows wide ch R C h (by omega) hcl he
    · have hw : piv wide col ch.length ≠ wide.length := by rw [hp, h.l2, ← h.l1]; exact hf
      have hlt : piv rows col ch.length < m := by rw [← h.l1]; omega
      by_cases hs : Go.Proofs.Ythnlcgilmljliaa.stepB wide ch.length (piv rows col ch.length) col = true
      · rw [echF_yes hp.symm (by rw [← hp]; exact hw) hs] at he
        rw [echF_yes rfl hf (h.stepB (by omega) (by omega) hlt hs)]
        exact Cut.ech n (col + 1) _ _ _ R C (h.stepT (by omega) (by omega) hlt) (by omega) (by simp; omega) he
      · rw [Bool.not_eq_true] at hs
        rw [echF_no hp.symm (by rw [← hp]; exact hw) hs] at he
        cases he
theorem echF_split : ∀ (a b col : Nat) (rows : List (List Fr)) (ch : List Nat) (R : List (List Fr)) (C : List Nat), echF (a + b) col rows ch = some (R, C) → ∃ R1 C1, echF a col rows ch = some (R1, C1) ∧ echF b (col + a) R1 C1 = some (R, C)
  | 0, b, col, rows, ch, R, C, h => ⟨rows, ch, rfl, by rw [Nat.zero_add] at h; exact h⟩
  | a + 1, b, col, rows, ch, R, C, h => by
    rw [show a + 1 + b = (a + b) + 1 by omega] at h
    rw [show col + (a + 1) = col + 1 + a by omega]
    by_cases hf : piv rows col ch.length = rows.length
    · rw [echF_free hf] at h ⊢
      exact echF_split a b (col + 1) rows ch R C h
    · by_cases hs : stepB rows ch.length (piv rows col ch.length) col = true
      · rw [echF_yes rfl hf hs] at h ⊢
        exact echF_split a b (col + 1) _ _ R C h
      · rw [Bool.not_eq_true] at hs
        rw [echF_no rfl hf hs] at h
        cases h
/-- where it is solved, the rank is full -/
theorem sol_rank {rows : List (List Fr)} {right : List Fr} (h : solO rows right = true) : echO rows = true ∧ (echC rows).length = rows.length := by
  obtain ⟨h1, h2, h3, h4⟩ := solO_out h
  obtain ⟨s1, s2, s3, s4⟩ := solC_out h1
  obtain ⟨⟨t1, -⟩, sr⟩ := tabB_out s2
  obtain ⟨c1, c2, c3⟩ := sol_cols h
  have hl0 : (rw' (wideT rows right) 0).length = rows.length + 1 := by rw [wideT_at _ _ _ (by omega)]; simp [s3]
  have he := echK_out h3
  unfold ech at he
  rw [hl0] at he
  obtain ⟨R1, C1, e1, e2⟩ := echF_split rows.length 1 0 _ _ _ _ he
  rw [Nat.zero_add] at e2
  have hC : C1 = echC (wideT rows right) := by
    simp only [echF] at e2
    split at e2
    · cases e2; rfl
    · split at e2
      · exfalso
        have e3 : C1 ++ [rows.length] = echC (wideT rows right) := (Prod.mk.inj (Option.some.inj e2)).2
        have := c3 rows.length (by rw [← e3]; simp)
        omega
      · cases e2
  have hcut : Cut rows.length rows.length rows (wideT rows right) := by
    refine ⟨rfl, wideT_len _ _, fun i hi => by rw [(sr i hi).1, s3], fun i hi => by rw [wideT_at _ _ _ hi, List.length_append, (sr i hi).1, s3]; omega, fun i hi j hj => ?_⟩
    rw [wideT_at _ _ _ hi]
    unfold fr
    rw [List.getElem?_append_left (by rw [(sr i hi).1, s3]; exact hj)]
  obtain ⟨R', e3, -⟩ := Cut.ech _ 0 rows _ [] R1 C1 hcut (by omega) (by simp) e1
  have he2 : ech rows = some (R', C1) := by
    unfold ech
    rw [s3]
    exact e3
  obtain ⟨f1, f2, f3⟩ := ech_yes he2
  refine ⟨by unfold echO; rw [s2, f1]; rfl, ?_⟩
  rw [f3, hC, c1]
/-- is row by solution right, as far as it goes: what the law's loop makes -/
def chkS (row x : List Fr) : Nat → Fr × Bool
  | 0 => ((0, 1), true)
  | k + 1 => (addP (chkS row x k).1 (mulP (fr row k) (fr x k)), (chkS row x k).2 && mulK (fr row k) (fr x k) && addK (chkS row x k).1 (mulP (fr row k) (fr x k)))
theorem chkS_is (row x : List Fr) : ∀ k, (chkS row x k).2 = true → okF (chkS row x k).1 = true ∧ qf (chkS row x k).1 = sumN (fun j => qf (fr row j) * qf (fr x j)) k
  | 0, _ => ⟨by show okF (0, 1) = true; decide, by simp only [chkS, sumN]; exact qf_null⟩
  | k + 1, h => by
    simp only [chkS, Bool.and_eq_true] at h
    obtain ⟨⟨h1, h2⟩, h3⟩ := h
    obtain ⟨i1, i2⟩ := chkS_is row x k h1
    simp only [chkS, sumN]
    exact ⟨add_right h3, by rw [qf_add h3, qf_mul h2, i2]⟩
theorem sol_check {rows : List (List Fr)} {right : List Fr} (h : solO rows right = true) (i : Nat) (hi : i < rows.length) (hg : (chkS (rw' rows i) (solX rows right) rows.length).2 = true) : (chkS (rw' rows i) (solX rows right) rows.length).1 = fr right i := by
  obtain ⟨h1, h2, h3, h4⟩ := solO_out h
  obtain ⟨s1, s2, s3, s4⟩ := solC_out h1
  obtain ⟨e1, e2⟩ := chkS_is _ _ _ hg
  have hr : allOk right = true := by rw [← wide_tab h1]; exact h2
  refine qf_inj e1 (allOk_at hr (by omega)) ?_
  rw [e2]
  exact sol_solves h i hi
end Go.Proofs.Ythnlcgilmljliaa

/- What the law of lines asks, without any program: what is fitted stands upright on its misses, and none misses less. -/
namespace Go.Proofs.Ythnlcgilmljliaa
open Go.RowKit Go.Proofs.Ythnlcgilmljliaa.RM

/-- whole powers -/
def rp (x : Rat) : Nat → Rat
  | 0 => 1
  | k + 1 => rp x k * x
theorem rp_add (x : Rat) (p : Nat) : ∀ q, rp x (p + q) = rp x p * rp x q
  | 0 => by simp only [rp, Nat.add_zero]; grind
  | q + 1 => by
    show rp x (p + q) * x = rp x p * (rp x q * x)
    rw [rp_add x p q]
    grind
theorem sum_shift (f : Nat → Rat) : ∀ n, sumN f (n + 1) = f 0 + sumN (fun i => f (i + 1)) n
  | 0 => by simp only [sumN]; grind
  | n + 1 => by
    show sumN f (n + 1) + f (n + 1) = _
    rw [sum_shift f n]
    simp only [sumN]
    grind
theorem kp_yes {o : Bool} {p : Fr} (h : (!o) = false) : keepF o p = p := keepF_yes (by simpa using h)
theorem qf_a1 {a c : Fr} (h : (!addK a c) = false) : qf (a1V a c) = qf a + qf c ∧ okF (a1V a c) = true := by
  have h' : addK a c = true := by simpa using h
  unfold a1V; rw [keepF_yes h']; exact ⟨qf_add h', add_right h'⟩
theorem qf_s1 {a c : Fr} (h : (!subK a c) = false) : qf (s1V a c) = qf a - qf c := by
  have h' : subK a c = true := by simpa using h
  unfold s1V; rw [keepF_yes h']; exact qf_sub h'
theorem qf_m1 {a c : Fr} (h : (!mulK a c) = false) : qf (p1V a c) = qf a * qf c := by
  have h' : mulK a c = true := by simpa using h
  unfold p1V; rw [keepF_yes h']; exact qf_mul h'
theorem pow_q (x : Fr) : ∀ k, (powV x false k).2 = false → qf (powV x false k).1 = rp (qf x) k
  | 0, _ => qf_one
  | k + 1, h => by
    have h' : ((powV x false k).2 || !mulK (powV x false k).1 x) = false := h
    rw [Bool.or_eq_false_iff] at h'
    show qf (p1V (powV x false k).1 x) = rp (qf x) k * qf x
    rw [qf_m1 h'.2, pow_q x k h'.1]
/-- the curve's number at X -/
def cvQ (cs : List Fr) (X : Rat) : Rat := sumN (fun q => qf (fr cs q) * rp X q) cs.length
theorem hr_q (cs : List Fr) (x : Fr) : ∀ k, k + 1 ≤ cs.length → (hrnV cs x false k).2 = false → qf (hrnV cs x false k).1 = sumN (fun q => qf (fr cs (cs.length - 1 - k + q)) * rp (qf x) q) (k + 1)
  | 0, _, _ => by
    show qf (fr cs (cs.length - 1)) = sumN _ 0 + _
    simp only [sumN, rp, Nat.sub_zero, Nat.add_zero]
    grind
  | k + 1, hk, h => by
    have h' : (((hrnV cs x false k).2 || !mulK (hrnV cs x false k).1 x) || !addK (p1V (hrnV cs x false k).1 x) (fr cs (cs.length - 2 - k))) = false := h
    rw [Bool.or_eq_false_iff, Bool.or_eq_false_iff] at h'
    obtain ⟨⟨h1, h2⟩, h3⟩ := h'
    have ih := hr_q cs x k (by omega) h1
    show qf (a1V (p1V (hrnV cs x false k).1 x) (fr cs (cs.length - 2 - k))) = _
    rw [(qf_a1 h3).1, qf_m1 h2, ih, ← sumN_mul, sum_shift _ (k + 1)]
    have e0 : cs.length - 1 - (k + 1) + 0 = cs.length - 2 - k := by omega
    rw [e0]
    have e : sumN (fun i => qf (fr cs (cs.length - 1 - k + i)) * rp (qf x) i * qf x) (k + 1) = sumN (fun i => qf (fr cs (cs.length - 1 - (k + 1) + (i + 1))) * rp (qf x) (i + 1)) (k + 1) := sumN_congr fun i _ => by
      have e1 : cs.length - 1 - (k + 1) + (i + 1) = cs.length - 1 - k + i := by omega
      rw [e1]
      show _ = _ * (rp (qf x) i * qf x)
      grind
    rw [e]
    simp only [rp]
    grind
theorem at_q {cs : List Fr} {x : Fr} (hc : 1 ≤ cs.length) (h : (atV cs x false).2 = false) : qf (atV cs x false).1 = cvQ cs (qf x) := by
  have := hr_q cs x (cs.length - 1) (by omega) h
  unfold atV
  rw [this, show cs.length - 1 + 1 = cs.length by omega]
  unfold cvQ
  exact sumN_congr fun q _ => by rw [show cs.length - 1 - (cs.length - 1) + q = q by omega]
/-- how far spot i lies above the curve -/
def rsQ (cs : List Fr) (ss : List Sp) (i : Nat) : Rat := qf (sp ss i).2 - cvQ cs (qf (sp ss i).1)
theorem dif_q {cs : List Fr} {t : Sp} (hc : 1 ≤ cs.length) (h : (difV cs t false).2 = false) : qf (difV cs t false).1 = qf t.2 - cvQ cs (qf t.1) := by
  have h' : ((atV cs t.1 false).2 || !subK t.2 (atV cs t.1 false).1) = false := h
  rw [Bool.or_eq_false_iff] at h'
  show qf (s1V t.2 (atV cs t.1 false).1) = _
  rw [qf_s1 h'.2, at_q hc h'.1]
theorem dif_flag {cs : List Fr} {t : Sp} {bd : Bool} (h : (difV cs t bd).2 = false) : bd = false ∧ (difV cs t false).2 = false := by
  rw [dif_bd] at h
  exact Bool.or_eq_false_iff.1 h
theorem mis_q {cs : List Fr} {ss : List Sp} (hc : 1 ≤ cs.length) : ∀ k, (misV cs ss k).2 = false → qf (misV cs ss k).1 = sumN (fun i => rsQ cs ss i * rsQ cs ss i) k ∧ okF (misV cs ss k).1 = true
  | 0, _ => ⟨qf_null, by show okF (0, 1) = true; decide⟩
  | k + 1, h => by
    have h' : (((difV cs (sp ss k) (misV cs ss k).2).2 || !mulK (difV cs (sp ss k) (misV cs ss k).2).1 (difV cs (sp ss k) (misV cs ss k).2).1) || !addK (misV cs ss k).1 (p1V (difV cs (sp ss k) (misV cs ss k).2).1 (difV cs (sp ss k) (misV cs ss k).2).1)) = false := h
    rw [Bool.or_eq_false_iff, Bool.or_eq_false_iff] at h'
    obtain ⟨⟨h1, h2⟩, h3⟩ := h'
    obtain ⟨g1, g2⟩ := dif_flag h1
    have ih := (mis_q hc k g1).1
    rw [g1] at h2 h3
    show qf (a1V (misV cs ss k).1 (p1V (difV cs (sp ss k) (misV cs ss k).2).1 (difV cs (sp ss k) (misV cs ss k).2).1)) = _ ∧ okF (a1V (misV cs ss k).1 (p1V (difV cs (sp ss k) (misV cs ss k).2).1 (difV cs (sp ss k) (misV cs ss k).2).1)) = true
    rw [g1]
    refine ⟨?_, (qf_a1 h3).2⟩
    rw [(qf_a1 h3).1, qf_m1 h2, ih, dif_q hc g2]
    rfl
theorem nrS_q {s x : Fr} {p : Nat} {d : Fr × Bool} (h : (nrS s x p d).2 = false) : d.2 = false ∧ qf (nrS s x p d).1 = qf s + rp (qf x) p * qf d.1 := by
  have h' : (((powV x d.2 p).2 || !mulK (powV x d.2 p).1 d.1) || !addK s (p1V (powV x d.2 p).1 d.1)) = false := h
  rw [Bool.or_eq_false_iff, Bool.or_eq_false_iff] at h'
  obtain ⟨⟨h1, h2⟩, h3⟩ := h'
  have hd : d.2 = false := by rw [pow_bd] at h1; exact (Bool.or_eq_false_iff.1 h1).1
  rw [hd] at h1 h2 h3
  refine ⟨hd, ?_⟩
  show qf (a1V s (p1V (powV x d.2 p).1 d.1)) = _
  rw [hd, (qf_a1 h3).1, qf_m1 h2, pow_q x p h1]
theorem nrm_q {cs : List Fr} {ss : List Sp} {p : Nat} (hc : 1 ≤ cs.length) : ∀ k, (nrmV cs ss p false k).2 = false → qf (nrmV cs ss p false k).1 = sumN (fun i => rp (qf (sp ss i).1) p * rsQ cs ss i) k
  | 0, _ => qf_null
  | k + 1, h => by
    obtain ⟨h1, h2⟩ := nrS_q (s := (nrmV cs ss p false k).1) (x := (sp ss k).1) (p := p) (d := difV cs (sp ss k) (nrmV cs ss p false k).2) h
    obtain ⟨g1, g2⟩ := dif_flag h1
    show qf (nrS (nrmV cs ss p false k).1 (sp ss k).1 p (difV cs (sp ss k) (nrmV cs ss p false k).2)).1 = _
    rw [h2, nrm_q hc k g1, g1, dif_q hc g2]
    rfl
theorem pq_q {ss : List Sp} {n : Nat} : ∀ k, (pqV ss n false k).2 = false → qf (pqV ss n false k).1 = sumN (fun i => rp (qf (sp ss i).1) n) k
  | 0, _ => qf_null
  | k + 1, h => by
    have h' : ((powV (sp ss k).1 (pqV ss n false k).2 n).2 || !addK (pqV ss n false k).1 (powV (sp ss k).1 (pqV ss n false k).2 n).1) = false := h
    rw [Bool.or_eq_false_iff] at h'
    obtain ⟨h1, h2⟩ := h'
    have hd : (pqV ss n false k).2 = false := by rw [pow_bd] at h1; exact (Bool.or_eq_false_iff.1 h1).1
    rw [hd] at h1 h2
    show qf (a1V (pqV ss n false k).1 (powV (sp ss k).1 (pqV ss n false k).2 n).1) = _
    rw [hd, (qf_a1 h2).1, pq_q k hd, pow_q _ _ h1]
    rfl
theorem rgt_q {ss : List Sp} {p : Nat} : ∀ k, (rgtV ss p false k).2 = false → qf (rgtV ss p false k).1 = sumN (fun i => rp (qf (sp ss i).1) p * qf (sp ss i).2) k
  | 0, _ => qf_null
  | k + 1, h => by
    obtain ⟨h1, h2⟩ := nrS_q (s := (rgtV ss p false k).1) (x := (sp ss k).1) (p := p) (d := ((sp ss k).2, (rgtV ss p false k).2)) h
    show qf (nrS (rgtV ss p false k).1 (sp ss k).1 p ((sp ss k).2, (rgtV ss p false k).2)).1 = _
    rw [h2, rgt_q k h1]
    rfl
/-- WHAT IS FITTED SOLVES THE NORMAL EQUATIONS -/
theorem fit_normal {ss : List Sp} {n : Int} (h : fitO ss n = true) : (fitA ss n).length = n.toNat ∧ (1 ≤ n ∧ n ≤ 4) ∧ sptB ss = true ∧
    ∀ p, p < n.toNat → sumN (fun i => rp (qf (sp ss i).1) p * rsQ (fitA ss n) ss i) ss.length = 0 := by
  have hs : sptB ss = true := by unfold fitO at h; rw [Bool.and_eq_true] at h; exact h.1
  have hi : inB n 1 4 = true := by unfold fitO at h; rw [Bool.and_eq_true, Bool.and_eq_true] at h; exact h.2.1
  have hf : (fitV ss n.toNat n.toNat).2 = false := by unfold fitO at h; rw [Bool.and_eq_true, Bool.and_eq_true, Bool.and_eq_true] at h; simpa using h.2.2.1
  have hn : 1 ≤ n ∧ n ≤ 4 := of_decide_eq_true hi
  obtain ⟨a1, a2⟩ := fit_all hs hi
  rw [h] at a1
  have hx : fitA ss n = solX (prgT ss n.toNat) (prgR ss n.toNat) := by rw [← a2, solA_yes a1]
  have hl : (fitA ss n).length = n.toNat := by rw [hx, solX_len, prgT_len]
  obtain ⟨N, hN⟩ : ∃ N, N = n.toNat := ⟨_, rfl⟩
  rw [← hN] at hx hl hf a1 ⊢
  refine ⟨hl, hn, hs, fun p hp => ?_⟩
  have hsol := sol_solves a1 p (by rw [prgT_len]; exact hp)
  rw [prgT_len, ← hx] at hsol
  rw [fit_list] at hf
  dsimp only at hf
  have ha : ∀ i, i < N → (∀ j, j < N → (pqV ss (i + j) false ss.length).2 = false) ∧ (rgtV ss i false ss.length).2 = false := by
    intro i hi
    have := List.any_eq_false.1 hf i (List.mem_range.2 hi)
    rw [Bool.not_eq_true, Bool.or_eq_false_iff] at this
    refine ⟨fun j hj => ?_, this.2⟩
    have k := List.any_eq_false.1 this.1 j (List.mem_range.2 hj)
    rwa [Bool.not_eq_true] at k
  have hm : ∀ q, q < N → mv (prgT ss N) p q = sumN (fun i => rp (qf (sp ss i).1) (p + q)) ss.length := by
    intro q hq
    unfold mv
    rw [prgT_at _ _ _ _ hp hq]
    rcases pq_z ss (p + q) ss.length with ⟨k, _⟩ | ⟨k1, k2⟩
    · rw [(ha p hp).1 q hq] at k; cases k
    · rw [k2, pq_q _ k1]
  have hr : qf (fr (prgR ss N) p) = sumN (fun i => rp (qf (sp ss i).1) p * qf (sp ss i).2) ss.length := by
    unfold prgR
    rw [smsL_at hp]
    rcases rgt_z ss p ss.length with ⟨k, _⟩ | ⟨k1, k2⟩
    · rw [(ha p hp).2] at k; cases k
    · rw [k2, rgt_q _ k1]
  rw [hr, sumN_congr (g := fun q => sumN (fun i => rp (qf (sp ss i).1) (p + q) * qf (fr (fitA ss n) q)) ss.length) (fun q hq => by rw [hm q hq, sumN_mul]), sumN_swap] at hsol
  have e : sumN (fun i => rp (qf (sp ss i).1) p * rsQ (fitA ss n) ss i) ss.length = sumN (fun i => rp (qf (sp ss i).1) p * qf (sp ss i).2) ss.length - sumN (fun j => sumN (fun i => rp (qf (sp ss j).1) (p + i) * qf (fr (fitA ss n) i)) N) ss.length := by
    rw [← sumN_sub]
    refine sumN_congr fun i _ => ?_
    unfold rsQ cvQ
    rw [hl]
    have e2 : sumN (fun q => rp (qf (sp ss i).1) (p + q) * qf (fr (fitA ss n) q)) N = rp (qf (sp ss i).1) p * sumN (fun q => qf (fr (fitA ss n) q) * rp (qf (sp ss i).1) q) N := by
      have e3 : sumN (fun q => rp (qf (sp ss i).1) (p + q) * qf (fr (fitA ss n) q)) N = sumN (fun q => qf (fr (fitA ss n) q) * rp (qf (sp ss i).1) q * rp (qf (sp ss i).1) p) N := sumN_congr fun q _ => by rw [rp_add]; grind
      rw [e3, sumN_mul]
      grind
    rw [e2]
    grind
  rw [e, hsol]
  grind
/-- THEY STAND UPRIGHT -/
theorem fit_nought {ss : List Sp} {n : Int} (h : fitO ss n = true) (ho : norO (fitA ss n) ss = true) : ∀ p, p < (norA (fitA ss n) ss).length → fr (norA (fitA ss n) ss) p = (0, 1) := by
  obtain ⟨hl, hn, hs, hz⟩ := fit_normal h
  have hL : 1 ≤ ss.length := by have := (sptB_out hs).1.1; omega
  obtain ⟨l, hll⟩ : ∃ l, ss.length = l + 1 := ⟨ss.length - 1, by omega⟩
  have hflag : (norV (fitA ss n) ss (fitA ss n).length).2 = false := by
    unfold norO at ho
    rw [Bool.and_eq_true, Bool.and_eq_true] at ho
    simpa using ho.2.2
  rw [norA_yes ho]
  rw [nor_list] at hflag ⊢
  dsimp only at hflag ⊢
  intro p hp
  rw [List.length_map, List.length_range] at hp
  have hu : (nrmV (fitA ss n) ss p false ss.length).2 = false := by
    have := List.any_eq_false.1 hflag p (List.mem_range.2 hp)
    simpa using this
  have e : fr ((List.range (fitA ss n).length).map fun p => (nrmV (fitA ss n) ss p false ss.length).1) p = (nrmV (fitA ss n) ss p false ss.length).1 := by unfold fr; simp [hp]
  rw [e]
  have hok : okF (nrmV (fitA ss n) ss p false ss.length).1 = true := by
    rw [hll] at hu ⊢
    exact nrm_ok p l hu
  refine qf_inj hok (by decide) ?_
  rw [nrm_q (by omega) ss.length hu, hz p (by omega), qf_null]
theorem sum_sq {f : Nat → Rat} : ∀ {n : Nat}, 0 ≤ sumN (fun i => f i * f i) n
  | 0 => Rat.le_refl
  | n + 1 => Rat.add_nonneg sum_sq (by
    rcases Rat.nonneg_total (f n) with h | h
    · exact Rat.mul_nonneg h h
    · have := Rat.mul_nonneg h h
      rwa [show -(f n) * -(f n) = f n * f n by grind] at this)
theorem mis_val {cs : List Fr} {ss : List Sp} (h : misO cs ss = true) : qf (misA cs ss) = sumN (fun i => rsQ cs ss i * rsQ cs ss i) ss.length ∧ okF (misA cs ss) = true := by
  have hc : crvB cs = true := by unfold misO at h; rw [Bool.and_eq_true] at h; exact h.1
  have hf : (misV cs ss ss.length).2 = false := by unfold misO at h; rw [Bool.and_eq_true, Bool.and_eq_true] at h; simpa using h.2.2
  rw [misA_yes h]
  exact mis_q (crvB_out hc).1.1 _ hf
/-- NO MISS IS BELOW 0 -/
theorem mis_pos {cs : List Fr} {ss : List Sp} (h : misO cs ss = true) : 0 ≤ (misA cs ss).1 := by
  obtain ⟨h1, h2⟩ := mis_val h
  have h3 : 0 ≤ qf (misA cs ss) := by rw [h1]; exact sum_sq
  have := okB_out h2
  unfold qf at h3
  exact (Rat.divInt_nonneg_iff_of_pos_right (by omega)).1 h3
theorem less_no {p s : Fr} (h : okF p = true) (k : okF s = true) (hle : qf s ≤ qf p) : lessB p.1 p.2 s.1 s.2 = false := by
  have h1 := okB_out h
  have k1 := okB_out k
  rw [Rat.le_iff_sub_nonneg] at hle
  unfold qf at hle
  rw [Rat.divInt_sub_divInt _ _ (by omega) (by omega), Rat.divInt_nonneg_iff_of_pos_right (Int.mul_pos (by omega) (by omega))] at hle
  unfold lessB
  rw [decide_eq_false (by omega), Bool.and_false]
theorem frG_set {cs : List Fr} {k : Nat} {x : Fr} (h : k < cs.length) (j : Nat) : fr (cs.set k x) j = if j = k then x else fr cs j := by
  unfold fr
  by_cases e : j = k
  · subst e
    rw [if_pos rfl, List.getElem?_set_self h]
    rfl
  · rw [if_neg e, List.getElem?_set_ne (fun z => e z.symm)]
/-- NO OTHER ONE MISSES LESS -/
theorem fit_least {ss : List Sp} {n : Int} {k : Nat} {t : Fr} (h : fitO ss n = true) (hk : k < n.toNat) (hx : addK (fr (fitA ss n) k) t = true)
    (h1 : misO (fitA ss n) ss = true) (h2 : misO ((fitA ss n).set k (addP (fr (fitA ss n) k) t)) ss = true) :
    lessB (misA ((fitA ss n).set k (addP (fr (fitA ss n) k) t)) ss).1 (misA ((fitA ss n).set k (addP (fr (fitA ss n) k) t)) ss).2 (misA (fitA ss n) ss).1 (misA (fitA ss n) ss).2 = false := by
  obtain ⟨hl, hn, hs, hz⟩ := fit_normal h
  obtain ⟨a1, a2⟩ := mis_val h1
  obtain ⟨b1, b2⟩ := mis_val h2
  refine less_no b2 a2 ?_
  rw [a1, b1]
  have hcv : ∀ X, cvQ ((fitA ss n).set k (addP (fr (fitA ss n) k) t)) X = cvQ (fitA ss n) X + qf t * rp X k := by
    intro X
    unfold cvQ
    rw [List.length_set, sumN_congr (g := fun q => if q = k then qf (addP (fr (fitA ss n) k) t) * rp X k else (fun q => qf (fr (fitA ss n) q) * rp X q) q) (fun q _ => by
      rw [frG_set (by omega)]
      by_cases e : q = k
      · subst e; rw [if_pos rfl, if_pos rfl]
      · rw [if_neg e, if_neg e]), sumN_turn _ _ _ (by omega), qf_add hx]
    grind
  have hrs : ∀ i, rsQ ((fitA ss n).set k (addP (fr (fitA ss n) k) t)) ss i = rsQ (fitA ss n) ss i - qf t * rp (qf (sp ss i).1) k := by
    intro i
    unfold rsQ
    rw [hcv]
    grind
  have e : sumN (fun i => rsQ ((fitA ss n).set k (addP (fr (fitA ss n) k) t)) ss i * rsQ ((fitA ss n).set k (addP (fr (fitA ss n) k) t)) ss i) ss.length
      = (sumN (fun i => rsQ (fitA ss n) ss i * rsQ (fitA ss n) ss i) ss.length - sumN (fun i => rp (qf (sp ss i).1) k * rsQ (fitA ss n) ss i) ss.length * (2 * qf t)) + sumN (fun i => (qf t * rp (qf (sp ss i).1) k) * (qf t * rp (qf (sp ss i).1) k)) ss.length := by
    rw [← sumN_mul, ← sumN_sub, ← sumN_add]
    refine sumN_congr fun i _ => ?_
    rw [hrs]
    grind
  have hp := sum_sq (f := fun i => qf t * rp (qf (sp ss i).1) k) (n := ss.length)
  rw [e, hz k hk]
  grind
end Go.Proofs.Ythnlcgilmljliaa

/- The walks of the laws' helpers that hold two lists against each other. -/
namespace Go.Proofs.Ythnlcgilmljliaa
open Go.RowKit Go.Proofs.Ythnlcgilmljliaa.RM

set_option maxRecDepth 100000 in
set_option maxHeartbeats 1000000 in
theorem likeR_same (v u : Value) (ps : List (Int × Int)) (n b1 b2 : Nat) (w : World) (hn : ps.length = n) (hn2 : n ≤ 1000000000) (h1 : w.ownsRow b1 33 2 v n (cellsR ps)) (h2 : w.ownsRow b2 33 2 u n (cellsR ps)) :
    Calls Try.prog 13 #[v, u] w fun e w' => e = .returned (.bool true) ∧ Below w.heap.size w w' := by
  by_cases h0 : n = 0
  · obtain ⟨a, c, rfl⟩ := own_shape h1
    obtain ⟨a', c', rfl⟩ := own_shape h2
    subst h0
    clear h1 h2 hn
    go_enter Try.func13, Try.ntmps13
    go_wp2
    go_loop [5] (fun i => i = .int .i64 0) (fun _ => 0)
    case atStart => exact rfl
    case round =>
      subst hrel
      go_wp2
      go_ret
      exact ⟨rfl, Below.refl _ _⟩
  · obtain ⟨g, c, rfl⟩ := own_some h1 (by omega)
    obtain ⟨g', c', rfl⟩ := own_some h2 (by omega)
    have hg : g < w.heap.size := (h1.lt g rfl).2
    have hg' : g' < w.heap.size := (h2.lt g' rfl).2
    have H1 : Hid (∀ j, j < n → w.cell? ⟨g, j * 2, none⟩ = some (.int .i64 (ps[j]?.getD (0, 0)).1) ∧ w.cell? ⟨g, j * 2 + 1, none⟩ = some (.int .i64 (ps[j]?.getD (0, 0)).2)) := fun j hj => own_R h1 hn j hj
    have H2 : Hid (∀ j, j < n → w.cell? ⟨g', j * 2, none⟩ = some (.int .i64 (ps[j]?.getD (0, 0)).1) ∧ w.cell? ⟨g', j * 2 + 1, none⟩ = some (.int .i64 (ps[j]?.getD (0, 0)).2)) := fun j hj => own_R h2 hn j hj
    clear h1 h2 hn h0
    go_enter Try.func13, Try.ntmps13
    go_wp2
    go_loopw [5] (fun i wr => ∃ k : Nat, k ≤ n ∧ i = .int .i64 k ∧ Hid (Below w.heap.size w wr)) (fun i _ => n - (intOf i).toNat)
    case atStart => exact ⟨0, Nat.zero_le _, rfl, Below.refl _ _⟩
    case round =>
      obtain ⟨k, hk, rfl, hB⟩ := hrel
      by_cases hlt : k < n
      · obtain ⟨c1, c2⟩ := H1.out k hlt
        obtain ⟨c3, c4⟩ := H2.out k hlt
        obtain ⟨p, hp⟩ : ∃ p, p = ps[k]?.getD (0, 0) := ⟨_, rfl⟩
        rw [← hp] at c1 c2 c3 c4
        obtain ⟨x, y⟩ := p
        replace c1 := (hB.out.cell (p := ⟨g, k * 2, none⟩) hg).trans c1
        replace c2 := (hB.out.cell (p := ⟨g, k * 2 + 1, none⟩) hg).trans c2
        replace c3 := (hB.out.cell (p := ⟨g', k * 2, none⟩) hg').trans c3
        replace c4 := (hB.out.cell (p := ⟨g', k * 2 + 1, none⟩) hg').trans c4
        clear hp
        have ht : (x != x) = false := by simp
        have ht2 : (y != y) = false := by simp
        go_wp2
        go_quiet (fail)
        go_wp2
        go_roundw
        case rel => exact ⟨k + 1, by omega, by go_num, below_drewN hB.out _⟩
        case measure => simp [intOf]; omega
      · go_wp2
        go_ret
        exact ⟨rfl, hB.out⟩

end Go.Proofs.Ythnlcgilmljliaa

/- likeRow, likeRows and nought at rows and tables that can be read. -/
namespace Go.Proofs.Ythnlcgilmljliaa
open Go.RowKit Go.Proofs.Ythnlcgilmljliaa.RM

theorem hidL {p : Prop} (h : p) : Hid p := h
theorem rdr_cells {w : World} {v : Value} {ps : List Fr} (h : RdR w v ps) (h0 : ps.length ≠ 0) : ∃ b off c, v = .slice (some ⟨b, off, none⟩) ps.length c ∧ b < w.heap.size ∧ ∀ j, j < ps.length → w.cell? ⟨b, off + j * 2, none⟩ = some (.int .i64 (fr ps j).1) ∧ w.cell? ⟨b, off + j * 2 + 1, none⟩ = some (.int .i64 (fr ps j).2) := by
  obtain ⟨a, c, rfl, -, -, -, h5⟩ := h
  obtain ⟨b, off, rfl, k1, k2⟩ := h5 0 (by omega)
  refine ⟨b, off, c, rfl, lt_cell k1, fun j hj => ?_⟩
  obtain ⟨b', off', e, k3, k4⟩ := h5 j hj
  injection e with e
  injection e with e1 e2
  subst e1 e2
  exact ⟨k3, k4⟩
set_option maxRecDepth 100000 in
set_option maxHeartbeats 1000000 in
theorem likeRow_rd (v u : Value) (ps : List Fr) (w : World) (hn2 : ps.length ≤ 1000000000) (h1 : RdR w v ps) (h2 : RdR w u ps) :
    Calls Try.prog 13 #[v, u] w fun e w' => e = .returned (.bool true) ∧ Below w.heap.size w w' := by
  obtain ⟨n, hn⟩ : ∃ n, n = ps.length := ⟨_, rfl⟩
  by_cases h0 : ps.length = 0
  · obtain ⟨a, c, rfl, -, -, -, -⟩ := h1
    obtain ⟨a', c', rfl, -, -, -, -⟩ := h2
    rw [h0]
    clear hn hn2 h0
    go_enter Try.func13, Try.ntmps13
    go_wp2
    go_loop [5] (fun i => i = .int .i64 0) (fun _ => 0)
    case atStart => exact rfl
    case round =>
      subst hrel
      go_wp2
      go_ret
      exact ⟨rfl, Below.refl _ _⟩
  · obtain ⟨g, o, c, rfl, hg, H1'⟩ := rdr_cells h1 h0
    obtain ⟨g', o', c', rfl, hg', H2'⟩ := rdr_cells h2 h0
    rw [← hn] at H1' H2' hn2 h0 ⊢
    have H1 := hidL H1'
    have H2 := hidL H2'
    clear h1 h2 H1' H2' hn
    go_enter Try.func13, Try.ntmps13
    go_wp2
    go_loopw [5] (fun i wr => ∃ k : Nat, k ≤ n ∧ i = .int .i64 k ∧ Hid (Below w.heap.size w wr)) (fun i _ => n - (intOf i).toNat)
    case atStart => exact ⟨0, Nat.zero_le _, rfl, Below.refl _ _⟩
    case round =>
      obtain ⟨k, hk, rfl, hB⟩ := hrel
      by_cases hlt : k < n
      · obtain ⟨c1, c2⟩ := H1.out k hlt
        obtain ⟨c3, c4⟩ := H2.out k hlt
        obtain ⟨p, hp⟩ : ∃ p, p = fr ps k := ⟨_, rfl⟩
        rw [← hp] at c1 c2 c3 c4
        obtain ⟨x, y⟩ := p
        replace c1 := (hB.out.cell (p := ⟨g, o + k * 2, none⟩) hg).trans c1
        replace c2 := (hB.out.cell (p := ⟨g, o + k * 2 + 1, none⟩) hg).trans c2
        replace c3 := (hB.out.cell (p := ⟨g', o' + k * 2, none⟩) hg').trans c3
        replace c4 := (hB.out.cell (p := ⟨g', o' + k * 2 + 1, none⟩) hg').trans c4
        clear hp
        have ht : (x != x) = false := by simp
        have ht2 : (y != y) = false := by simp
        go_wp2
        go_quiet (fail)
        go_wp2
        go_roundw
        case rel => exact ⟨k + 1, by omega, by go_num, below_drewN hB.out _⟩
        case measure => simp [intOf]; omega
      · go_wp2
        go_ret
        exact ⟨rfl, hB.out⟩
set_option maxRecDepth 100000 in
set_option maxHeartbeats 1000000 in
theorem nought_no (v : Value) (ps : List Fr) (j : Nat) (w : World) (hj : j < ps.length) (hne : fr ps j ≠ (0, 1)) (hn2 : ps.length ≤ 1000000000) (h1 : RdR w v ps) :
    Calls Try.prog 19 #[v] w fun e w' => e = .returned (.bool false) ∧ Below w.heap.size w w' := by
  obtain ⟨n, hn⟩ : ∃ n, n = ps.length := ⟨_, rfl⟩
  obtain ⟨g, o, c, rfl, hg, H1'⟩ := rdr_cells h1 (by omega)
  rw [← hn] at H1' hn2 hj ⊢
  have H1 := hidL H1'
  have HJ : Hid (¬ ∀ i, i < n → fr ps i = (0, 1)) := fun h => hne (h j hj)
  have HC : Hid (∀ W : World, Calls Try.prog 54 #[.int .i64 0] W fun e w' => e = .returned (.agg #[.int .i64 0, .int .i64 1]) ∧ Below W.heap.size W w') := fun W => (whole_any 0 W).mono fun e w' ⟨he, hw⟩ => ⟨he, by rw [hw]; exact (Below.refl _ _).alloc (Nat.le_refl _) _⟩
  clear h1 H1' hn hj hne
  go_enter Try.func19, Try.ntmps19
  go_wp2
  go_loopw [3] (fun i wr => ∃ k : Nat, k ≤ n ∧ i = .int .i64 k ∧ Hid (∀ i, i < k → fr ps i = (0, 1)) ∧ Hid (Below w.heap.size w wr)) (fun i _ => n - (intOf i).toNat)
  case atStart => exact ⟨0, Nat.zero_le _, rfl, fun i hi => absurd hi (Nat.not_lt_zero _), Below.refl _ _⟩
  case round =>
    obtain ⟨k, hk, rfl, hN, hB⟩ := hrel
    by_cases hlt : k < n
    · obtain ⟨c1, c2⟩ := H1.out k hlt
      obtain ⟨p, hp⟩ : ∃ p, p = fr ps k := ⟨_, rfl⟩
      rw [← hp] at c1 c2
      replace c1 := (hB.out.cell (p := ⟨g, o + k * 2, none⟩) hg).trans c1
      replace c2 := (hB.out.cell (p := ⟨g, o + k * 2 + 1, none⟩) hg).trans c2
      by_cases hz : p = (0, 1)
      · have HN2 : Hid (∀ i, i < k + 1 → fr ps i = (0, 1)) := fun i hi => by
          by_cases e : i = k
          · rw [e, ← hp, hz]
          · exact hN.out i (by omega)
        subst hz
        simp only at c1 c2
        clear hp hN
        go_wp2
        go_region_with (go_at_call 54; refine (HC.out _).mono ?_; rintro e w1 ⟨rfl, hb⟩; have hbd : Below wr.heap.size wr w1 := (by first | exact hb | exact ((Below.refl _ _).drew).trans (hb.mono (by simp))); have d1 := cell_keep hbd c1; have d2 := cell_keep hbd c2; have B1 : Below w.heap.size w w1 := Below.trans (by first | exact hB.out | exact hB.out.drew | exact below_drewN hB.out _) (hb.mono (by simpa using hB.out.size)))
        all_goals
          go_wp2
          go_roundw
          case rel => exact ⟨k + 1, by omega, by go_num, HN2, by first | exact B1 | exact B1.drew | exact below_drewN B1 _⟩
          case measure => simp [intOf]; omega
      · obtain ⟨x, y⟩ := p
        simp only at c1 c2
        clear hN
        by_cases h0 : x = 0
        · subst h0
          have h1 : y ≠ 1 := fun h1 => hz (by rw [h1])
          have e1 : (y != 1) = true := by simpa using h1
          have e2 : (y == 1) = false := by simpa using h1
          clear hz hp
          go_wp2
          go_region_with (go_at_call 54; refine (HC.out _).mono ?_; rintro e w1 ⟨rfl, hb⟩; have hbd : Below wr.heap.size wr w1 := (by first | exact hb | exact ((Below.refl _ _).drew).trans (hb.mono (by simp))); have d1 := cell_keep hbd c1; have d2 := cell_keep hbd c2; have B1 : Below w.heap.size w w1 := Below.trans (by first | exact hB.out | exact hB.out.drew | exact below_drewN hB.out _) (hb.mono (by simpa using hB.out.size)))
          all_goals
            go_wp2
            go_ret
            exact ⟨rfl, by first | exact B1 | exact B1.drew | exact below_drewN B1 _⟩
        · have e1 : (x != 0) = true := by simpa using h0
          have e2 : (x == 0) = false := by simpa using h0
          clear hz hp
          go_wp2
          go_region_with (go_at_call 54; refine (HC.out _).mono ?_; rintro e w1 ⟨rfl, hb⟩; have hbd : Below wr.heap.size wr w1 := (by first | exact hb | exact ((Below.refl _ _).drew).trans (hb.mono (by simp))); have d1 := cell_keep hbd c1; have d2 := cell_keep hbd c2; have B1 : Below w.heap.size w w1 := Below.trans (by first | exact hB.out | exact hB.out.drew | exact below_drewN hB.out _) (hb.mono (by simpa using hB.out.size)))
          all_goals
            go_wp2
            go_ret
            exact ⟨rfl, by first | exact B1 | exact B1.drew | exact below_drewN B1 _⟩
    · exact (HJ.out fun i hi => hN.out i (by omega)).elim
end Go.Proofs.Ythnlcgilmljliaa

/- nought of a row of noughts; the cells of a row that is copied. -/
namespace Go.Proofs.Ythnlcgilmljliaa
open Go.RowKit Go.Proofs.Ythnlcgilmljliaa.RM

theorem news_own {W : World} {base g n c : Nat} {ps : List Fr} (h : W.ownsRow base 33 2 (.slice (some ⟨g, 0, none⟩) n c) n (cellsR ps)) : ∀ j u, (cellsR ps)[j]? = some u → W.cell? ((⟨g, 0, none⟩ : Addr).add j) = some u := by
  intro j u hu
  have hj : j < (cellsR ps).length := (List.getElem?_eq_some_iff.1 hu).1
  have hl : (cellsR ps).length = n * 2 := h.1
  have e : (⟨g, 0, none⟩ : Addr).add j = ⟨g, j, none⟩ := by by_cases i0 : j = 0 <;> simp [Addr.add, i0]
  rw [e]
  exact (h.cellAt j (by omega)).trans hu
set_option maxRecDepth 100000 in
set_option maxHeartbeats 1000000 in
theorem nought_yes (v : Value) (ps : List Fr) (w : World) (hall : ∀ j, j < ps.length → fr ps j = (0, 1)) (hn2 : ps.length ≤ 1000000000) (hn0 : ps.length ≠ 0) (h1 : RdR w v ps) :
    Calls Try.prog 19 #[v] w fun e w' => e = .returned (.bool true) ∧ Below w.heap.size w w' := by
  obtain ⟨n, hn⟩ : ∃ n, n = ps.length := ⟨_, rfl⟩
  obtain ⟨g, o, c, rfl, hg, H1'⟩ := rdr_cells h1 hn0
  rw [← hn] at H1' hn2 hall ⊢
  have H1 := hidL H1'
  have HJ := hidL hall
  have HC : Hid (∀ W : World, Calls Try.prog 54 #[.int .i64 0] W fun e w' => e = .returned (.agg #[.int .i64 0, .int .i64 1]) ∧ Below W.heap.size W w') := fun W => (whole_any 0 W).mono fun e w' ⟨he, hw⟩ => ⟨he, by rw [hw]; exact (Below.refl _ _).alloc (Nat.le_refl _) _⟩
  clear h1 H1' hn hall hn0
  go_enter Try.func19, Try.ntmps19
  go_wp2
  go_loopw [3] (fun i wr => ∃ k : Nat, k ≤ n ∧ i = .int .i64 k ∧ Hid (Below w.heap.size w wr)) (fun i _ => n - (intOf i).toNat)
  case atStart => exact ⟨0, Nat.zero_le _, rfl, Below.refl _ _⟩
  case round =>
    obtain ⟨k, hk, rfl, hB⟩ := hrel
    by_cases hlt : k < n
    · obtain ⟨c1, c2⟩ := H1.out k hlt
      rw [HJ.out k hlt] at c1 c2
      replace c1 := (hB.out.cell (p := ⟨g, o + k * 2, none⟩) hg).trans c1
      replace c2 := (hB.out.cell (p := ⟨g, o + k * 2 + 1, none⟩) hg).trans c2
      simp only at c1 c2
      go_wp2
      go_region_with (go_at_call 54; refine (HC.out _).mono ?_; rintro e w1 ⟨rfl, hb⟩; have hbd : Below wr.heap.size wr w1 := (by first | exact hb | exact ((Below.refl _ _).drew).trans (hb.mono (by simp))); have d1 := cell_keep hbd c1; have d2 := cell_keep hbd c2; have B1 : Below w.heap.size w w1 := Below.trans (by first | exact hB.out | exact hB.out.drew | exact below_drewN hB.out _) (hb.mono (by simpa using hB.out.size)))
      all_goals
        go_wp2
        go_roundw
        case rel => exact ⟨k + 1, by omega, by go_num, by first | exact B1 | exact B1.drew | exact below_drewN B1 _⟩
        case measure => simp [intOf]; omega
    · obtain rfl : k = n := by omega
      go_wp2
      go_ret
      exact ⟨rfl, hB.out⟩
end Go.Proofs.Ythnlcgilmljliaa
