/- What the model's Fitted sets up; a table and a row of its own beside each other. -/
import Derived.Test.YtibncepllmjhhaaFitW6
import Derived.Test.YtibncepllmjhhaaSolW2
namespace Go.Proofs.Ytibncepllmjhhaa
open Go.RowKit Go.Proofs.Ytibncepllmjhhaa.RM

/-- one power more -/
def pqS (s x : Fr) (n : Nat) (bd : Bool) : Fr × Bool := (a1V s (powV x bd n).1, (powV x bd n).2 || !addK s (powV x bd n).1)
/-- the sum of the n-th powers of the first k -/
def pqV (ss : List Sp) (n : Nat) (bd : Bool) : Nat → Fr × Bool
  | 0 => ((0, 1), bd)
  | k + 1 => pqS (pqV ss n bd k).1 (sp ss k).1 n (pqV ss n bd k).2
/-- a row's first q sums -/
def frwV (ss : List Sp) (p : Nat) (bd : Bool) : Nat → List Fr × Bool
  | 0 => ([], bd)
  | q + 1 => ((frwV ss p bd q).1 ++ [(pqV ss (p + q) (frwV ss p bd q).2 ss.length).1], (pqV ss (p + q) (frwV ss p bd q).2 ss.length).2)
theorem frwV_len (ss : List Sp) (p : Nat) (bd : Bool) : ∀ q, (frwV ss p bd q).1.length = q
  | 0 => rfl
  | q + 1 => by simp [frwV, frwV_len ss p bd q]
/-- the right side's sum over the first k -/
def rgtV (ss : List Sp) (p : Nat) (bd : Bool) : Nat → Fr × Bool
  | 0 => ((0, 1), bd)
  | k + 1 => nrS (rgtV ss p bd k).1 (sp ss k).1 p ((sp ss k).2, (rgtV ss p bd k).2)
/-- the first p rows and right sides, and was something too great -/
def fitV (ss : List Sp) (n : Nat) : Nat → (List (List Fr) × List Fr) × Bool
  | 0 => (([], []), false)
  | p + 1 => (((fitV ss n p).1.1 ++ [(frwV ss p (fitV ss n p).2 n).1], (fitV ss n p).1.2 ++ [(rgtV ss p (frwV ss p (fitV ss n p).2 n).2 ss.length).1]), (rgtV ss p (frwV ss p (fitV ss n p).2 n).2 ss.length).2)
theorem fitV_lenT (ss : List Sp) (n : Nat) : ∀ p, (fitV ss n p).1.1.length = p
  | 0 => rfl
  | p + 1 => by simp [fitV, fitV_lenT ss n p]
theorem fitV_lenR (ss : List Sp) (n : Nat) : ∀ p, (fitV ss n p).1.2.length = p
  | 0 => rfl
  | p + 1 => by simp [fitV, fitV_lenR ss n p]
theorem fitV_row (ss : List Sp) (n : Nat) : ∀ p k, k < p → (rw' (fitV ss n p).1.1 k).length = n
  | 0, k, h => absurd h (Nat.not_lt_zero _)
  | p + 1, k, h => by
    show (rw' ((fitV ss n p).1.1 ++ [(frwV ss p (fitV ss n p).2 n).1]) k).length = n
    rw [rw_app _ _ _ (by rw [fitV_lenT]; omega), fitV_lenT]
    by_cases e : k < p
    · rw [if_pos e]; exact fitV_row ss n p k e
    · rw [if_neg e]; exact frwV_len _ _ _ _
/-- a table and a row beside it, each in blocks of its own -/
structure TR (W : World) (base : Nat) (tv : Value) (us : List Value) (T : List (List Fr)) (rv : Value) (R : List Fr) : Prop where
  tab : Tab W base tv us T
  rgt : W.ownsRow base 33 2 rv R.length (cellsR R)
  apart : ∀ i, i < us.length → ∀ b, (vl us i).ownBlock = some b → rv.ownBlock ≠ some b
theorem TR.below {W W' : World} {base : Nat} {tv rv : Value} {us : List Value} {T : List (List Fr)} {R : List Fr} (h : TR W base tv us T rv R) (hb : Below W.heap.size W W') : TR W' base tv us T rv R :=
  ⟨h.tab.below hb, own_below h.rgt hb, h.apart⟩
theorem TR.g {K : Nat} {W W' : World} {base : Nat} {tv rv : Value} {us : List Value} {T : List (List Fr)} {R : List Fr} (h : TR W base tv us T rv R) (hg : W.grownBy W' (some K)) (hb : K < base) : TR W' base tv us T rv R :=
  ⟨h.tab.g hg hb, own_g hg h.rgt hb, h.apart⟩
/-- all of it lies below S -/
def TRU (S : Nat) (tv : Value) (us : List Value) (rv : Value) : Prop := Under S tv us ∧ ∀ b, rv.ownBlock = some b → b < S
theorem TR.under {W : World} {base : Nat} {tv rv : Value} {us : List Value} {T : List (List Fr)} {R : List Fr} (h : TR W base tv us T rv R) : TRU W.heap.size tv us rv :=
  ⟨h.tab.under, fun b e => (World.ownsRow.lt h.rgt b e).2⟩
theorem TR.st {W : World} {base S : Nat} {tv rv : Value} {us : List Value} {T : List (List Fr)} {R : List Fr} (h : TR W base tv us T rv R) (hu : TRU S tv us rv) {B : Nat} (hB : S ≤ B) (o : Nat) (x : Value) : TR (W.setCell ⟨B, o, none⟩ x) base tv us T rv R :=
  ⟨h.tab.st (fun i hi b e => Nat.lt_of_lt_of_le (hu.1.2 i hi b e) hB) (fun b e => Nat.lt_of_lt_of_le (hu.1.1 b e) hB) o x, own_st h.rgt (fun b e => Nat.lt_of_lt_of_le (hu.2 b e) hB) o x, h.apart⟩
theorem TR.grown {W W' : World} {base S : Nat} {tv rv : Value} {us : List Value} {T : List (List Fr)} {R : List Fr} {row : Option Nat} (h : TR W base tv us T rv R) (hu : TRU S tv us rv) (hg : W.grownBy W' row) (hr : ∀ b, row = some b → S ≤ b) : TR W' base tv us T rv R := by
  have hne : ∀ k, row = some k → rv.ownBlock ≠ some k := fun k e h2 => by have := hr k e; have := hu.2 k h2; omega
  refine ⟨h.tab.kept hg (fun k e h2 => by have := hr k e; have := hu.1.1 k h2; omega) (fun i hi k e h2 => by have := hr k e; have := hu.1.2 i hi k h2; omega), h.rgt.kept hg ?_, h.apart⟩
  cases hrow : row with
  | none => by_cases k : rv.ownBlock = none
            · exact .inl k
            · exact .inr k
  | some k => exact .inr (hne k hrow)
theorem IsR.grownO {W W' : World} {R : Nat} {n d : Int} {row : Option Nat} (h : IsR W R n d) (hg : W.grownBy W' row) (hne : row ≠ some R) : IsR W' R n d := (hg.block R h.lt (fun e => hne e.symm)).trans h
/-- a row that lies above is appended to the table -/
theorem TR.row {W w' : World} {base S : Nat} {tv rv v' u : Value} {us : List Value} {T : List (List Fr)} {R ps : List Fr} {tmp : Obj} (h : TR W base tv us T rv R) (hu : TRU S tv us rv) (hS : base ≤ S) (ho : W.ownsRow S 33 2 u ps.length (cellsR ps))
    (hown : w'.ownsRow base 36 1 v' (us.length + 1) (us ++ [u])) (hgrow : (W.alloc tmp).grownBy w' tv.ownBlock) : TR w' base v' (us ++ [u]) (T ++ [ps]) rv R := by
  have hx : ∀ b, u.ownBlock = some b → S ≤ b := fun b e => (World.ownsRow.lt ho b e).1
  refine ⟨h.tab.append (own_le ho hS) (fun i hi b e h2 => ?_) hown hgrow, own_oth (h.rgt.alloc tmp) (h.tab.outer.alloc tmp) (by decide) hgrow, fun i hi b hb => ?_⟩
  · have := hx b h2; have := hu.1.2 i hi b e; omega
  · rw [List.length_append, List.length_singleton] at hi
    rw [vl_app _ _ _ hi] at hb
    by_cases e : i < us.length
    · rw [if_pos e] at hb; exact h.apart i e b hb
    · rw [if_neg e] at hb
      intro h2
      have := hx b hb; have := hu.2 b h2; omega
/-- a fraction is appended to the row beside -/
theorem TR.cell {W w' : World} {base : Nat} {tv rv v' : Value} {us : List Value} {T : List (List Fr)} {R : List Fr} {x : Fr} {tmp : Obj} (h : TR W base tv us T rv R)
    (hown : w'.ownsRow base 33 2 v' (R.length + 1) (cellsR R ++ [.int .i64 x.1, .int .i64 x.2])) (hgrow : (W.alloc tmp).grownBy w' rv.ownBlock) (hb : v'.ownBlock = rv.ownBlock ∨ v'.ownBlock = some (W.alloc tmp).heap.size) : TR w' base tv us T v' (R ++ [x]) := by
  have h2 := h.below (W' := W.alloc tmp) ((Below.refl _ _).alloc (Nat.le_refl _) _)
  refine ⟨h2.tab.kept hgrow (fun k e h3 => own_unlike h2.tab.outer h2.rgt (by decide) h3 e) (fun i hi k e h3 => h.apart i hi k h3 e), ?_, fun i hi b e h3 => ?_⟩
  · rw [cellsR_append, List.length_append]; exact hown
  · rcases hb with hb | hb
    · rw [hb] at h3; exact h.apart i hi b e h3
    · rw [hb] at h3
      injection h3 with h3
      have := (World.ownsRow.lt (h2.tab.inner i hi) b e).2
      omega
end Go.Proofs.Ytibncepllmjhhaa
