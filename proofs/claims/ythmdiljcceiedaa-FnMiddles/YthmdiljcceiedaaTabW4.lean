/- The walks of the laws' marks: rows and tables of fractions are marked, and held to be marked. -/
import Derived.Test.YthmdiljcceiedaaTabW3
namespace Go.Proofs.Ythmdiljcceiedaa
open Go.RowKit Go.Proofs.Ythmdiljcceiedaa.RM

/-- all blocks out of the stretch are as they were -/
def Out (lo hi : Nat) (w w' : World) : Prop :=
  w'.os = w.os ∧ w'.tape = w.tape ∧ w'.output = w.output ∧ w.heap.size ≤ w'.heap.size ∧ ∀ k, k < w.heap.size → (k < lo ∨ hi ≤ k) → w'.heap[k]? = w.heap[k]?
theorem Out.refl (lo hi : Nat) (w : World) : Out lo hi w w := ⟨rfl, rfl, rfl, Nat.le_refl _, fun _ _ _ => rfl⟩
theorem Out.trans {lo hi : Nat} {a b c : World} (h : Out lo hi a b) (k : Out lo hi b c) : Out lo hi a c :=
  ⟨k.1.trans h.1, k.2.1.trans h.2.1, k.2.2.1.trans h.2.2.1, Nat.le_trans h.2.2.2.1 k.2.2.2.1, fun n hn ho => (k.2.2.2.2 n (Nat.lt_of_lt_of_le hn h.2.2.2.1) ho).trans (h.2.2.2.2 n hn ho)⟩
theorem Out.of_below {lo hi : Nat} {w w' : World} (h : Below w.heap.size w w') : Out lo hi w w' := ⟨h.os, h.tape, h.output, h.size, fun k hk _ => h.block k hk⟩
theorem Out.of_grown {lo hi : Nat} {w w' : World} {row : Option Nat} (h : w.grownBy w' row) (hr : ∀ b, row = some b → lo ≤ b ∧ b < hi) : Out lo hi w w' :=
  ⟨h.os, h.tape, h.output, h.size, fun k hk ho => h.block k hk (fun e => by have := hr k e.symm; omega)⟩
theorem Out.below {lo hi : Nat} {w w' : World} (h : Out lo hi w w') (hl : lo ≤ w.heap.size) : Below lo w w' :=
  ⟨h.1, h.2.1, h.2.2.1, h.2.2.2.1, fun k hk => h.2.2.2.2 k (by omega) (.inl hk)⟩
/-- a row out of the stretch stays -/
theorem own_out {lo hi : Nat} {w w' : World} {base e size n : Nat} {v : Value} {xs : List Value} (h : w.ownsRow base e size v n xs) (ho : Out lo hi w w') (hb : ∀ b, v.ownBlock = some b → b < lo ∨ hi ≤ b) : w'.ownsRow base e size v n xs := by
  refine ⟨h.1, ?_⟩
  rcases h.2 with hn | ⟨g, c, cur, rfl, h1, h2, h3⟩
  · exact .inl hn
  · refine .inr ⟨g, c, cur, rfl, h1, ?_, h3⟩
    exact (ho.2.2.2.2 g (Array.getElem?_eq_some_iff.1 h2).1 (hb g rfl)).trans h2
theorem Tab.out {lo hi : Nat} {w w' : World} {base : Nat} {v : Value} {us : List Value} {rows : List (List Fr)} (h : Tab w base v us rows) (ho : Out lo hi w w') (hb : ∀ b, v.ownBlock = some b → b < lo ∨ hi ≤ b) (hbs : ∀ i, i < us.length → ∀ b, (vl us i).ownBlock = some b → b < lo ∨ hi ≤ b) : Tab w' base v us rows :=
  ⟨own_out h.outer ho hb, h.len, fun i hi' => own_out (h.inner i hi') ho (hbs i hi'), h.apart⟩
theorem Tab.out_hi {lo hi : Nat} {w w' : World} {base : Nat} {v : Value} {us : List Value} {rows : List (List Fr)} (h : Tab w base v us rows) (ho : Out lo hi w w') (hb : hi ≤ base) : Tab w' base v us rows :=
  h.out ho (fun b e => .inr (by have := (h.outer.lt b e).1; omega)) (fun i hi' b e => .inr (by have := ((h.inner i hi').lt b e).1; omega))
/-- all of a table lies ahead of S -/
def Under (S : Nat) (v : Value) (us : List Value) : Prop := (∀ b, v.ownBlock = some b → b < S) ∧ ∀ i, i < us.length → ∀ b, (vl us i).ownBlock = some b → b < S
theorem Tab.under {w : World} {base : Nat} {v : Value} {us : List Value} {rows : List (List Fr)} (h : Tab w base v us rows) : Under w.heap.size v us := ⟨fun b e => (h.outer.lt b e).2, fun i hi b e => ((h.inner i hi).lt b e).2⟩
theorem Under.le {S S' : Nat} {v : Value} {us : List Value} (h : Under S v us) (hs : S ≤ S') : Under S' v us := ⟨fun b e => Nat.lt_of_lt_of_le (h.1 b e) hs, fun i hi b e => Nat.lt_of_lt_of_le (h.2 i hi b e) hs⟩
theorem Tab.out_lo {lo hi : Nat} {w w' : World} {base : Nat} {v : Value} {us : List Value} {rows : List (List Fr)} (h : Tab w base v us rows) (ho : Out lo hi w w') (hu : Under lo v us) : Tab w' base v us rows :=
  h.out ho (fun b e => .inl (hu.1 b e)) (fun i hi' b e => .inl (hu.2 i hi' b e))

/-- what is marked from k0 on when j of them have been -/
def mkF (k0 : Int) (ps : List Fr) (j : Nat) : List Fr := (List.range ps.length).map (fun i => if i < j then (k0 + 2 * (i : Int), k0 + 2 * (i : Int) + 1) else fr ps i)
theorem mkF_len (k0 : Int) (ps : List Fr) (j : Nat) : (mkF k0 ps j).length = ps.length := by simp [mkF]
theorem mkF_zero (k0 : Int) (ps : List Fr) : mkF k0 ps 0 = ps := by
  apply List.ext_getElem
  · rw [mkF_len]
  · intro i h1 h2
    simp [mkF, fr, List.getElem?_eq_getElem h2]
theorem mkF_set (k0 : Int) (ps : List Fr) (j : Nat) : (mkF k0 ps j).set j (k0 + 2 * (j : Int), k0 + 2 * (j : Int) + 1) = mkF k0 ps (j + 1) := by
  apply List.ext_getElem
  · simp [mkF]
  · intro i h1 h2
    simp only [mkF, List.getElem_set, List.getElem_map, List.getElem_range]
    by_cases e : j = i
    · subst e
      rw [if_pos rfl, if_pos (by omega)]
    · rw [if_neg e]
      by_cases h3 : i < j
      · rw [if_pos h3, if_pos (by omega)]
      · rw [if_neg h3, if_neg (by omega)]
theorem mkF_at (k0 : Int) (ps : List Fr) (j : Nat) (h : j < ps.length) : fr (mkF k0 ps ps.length) j = (k0 + 2 * (j : Int), k0 + 2 * (j : Int) + 1) := by
  simp [mkF, fr, h]

/-- how many fractions stand ahead of row i -/
def offN (rows : List (List Fr)) : Nat → Nat
  | 0 => 0
  | i + 1 => offN rows i + (rw' rows i).length
theorem offN_le {rows : List (List Fr)} (hl : ∀ i, i < rows.length → (rw' rows i).length ≤ 1048576) : ∀ i, i ≤ rows.length → offN rows i ≤ i * 1048576
  | 0, _ => by simp [offN]
  | i + 1, h => by
    have := offN_le hl i (by omega)
    have := hl i (by omega)
    simp only [offN]; omega
/-- the table of which j rows are marked -/
def mkT (k0 : Int) (rows : List (List Fr)) (j : Nat) : List (List Fr) := (List.range rows.length).map (fun i => if i < j then mkF (k0 + 2 * (offN rows i : Int)) (rw' rows i) (rw' rows i).length else rw' rows i)
theorem mkT_len (k0 : Int) (rows : List (List Fr)) (j : Nat) : (mkT k0 rows j).length = rows.length := by simp [mkT]
theorem mkT_zero (k0 : Int) (rows : List (List Fr)) : mkT k0 rows 0 = rows := by
  apply List.ext_getElem
  · rw [mkT_len]
  · intro i h1 h2
    simp [mkT, rw', List.getElem?_eq_getElem h2]
theorem mkT_set (k0 : Int) (rows : List (List Fr)) (j : Nat) : (mkT k0 rows j).set j (mkF (k0 + 2 * (offN rows j : Int)) (rw' rows j) (rw' rows j).length) = mkT k0 rows (j + 1) := by
  apply List.ext_getElem
  · simp [mkT]
  · intro i h1 h2
    simp only [mkT, List.getElem_set, List.getElem_map, List.getElem_range]
    by_cases e : j = i
    · subst e
      rw [if_pos rfl, if_pos (by omega)]
    · rw [if_neg e]
      by_cases h3 : i < j
      · rw [if_pos h3, if_pos (by omega)]
      · rw [if_neg h3, if_neg (by omega)]
theorem mkT_at (k0 : Int) (rows : List (List Fr)) (j i : Nat) (h : i < rows.length) : rw' (mkT k0 rows j) i = if i < j then mkF (k0 + 2 * (offN rows i : Int)) (rw' rows i) (rw' rows i).length else rw' rows i := by
  simp [mkT, rw', h]

end Go.Proofs.Ythmdiljcceiedaa
