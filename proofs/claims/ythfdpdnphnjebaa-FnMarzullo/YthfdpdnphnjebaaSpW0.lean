/- Rows of spots: copied, held against each other, marked. -/
import Derived.Test.YthfdpdnphnjebaaTabW4
import Derived.Test.YthfdpdnphnjebaaRatioW4
import Derived.Test.YthfdpdnphnjebaaUnitB
import Derived.Deep.RegionHeld3
import Derived.Deep.DeepCutAuto
namespace Go.Proofs.Ythfdpdnphnjebaa
open Go.RowKit Go.Proofs.Ythfdpdnphnjebaa.RM

abbrev Sp := Fr × Fr
def sp (ss : List Sp) (j : Nat) : Sp := ss[j]?.getD ((0, 0), (0, 0))
def cellsS (ss : List Sp) : List Value := ss.flatMap fun s => [Value.int .i64 s.1.1, .int .i64 s.1.2, .int .i64 s.2.1, .int .i64 s.2.2]
theorem cellsS_cons (s : Sp) (r : List Sp) : cellsS (s :: r) = Value.int .i64 s.1.1 :: .int .i64 s.1.2 :: .int .i64 s.2.1 :: .int .i64 s.2.2 :: cellsS r := rfl
theorem cellsS_append (a b : List Sp) : cellsS (a ++ b) = cellsS a ++ cellsS b := by simp [cellsS]
theorem cellsS_len (ss : List Sp) : (cellsS ss).length = ss.length * 4 := by
  induction ss with
  | nil => rfl
  | cons s r ih => rw [cellsS_cons]; simp [ih]; omega
theorem cellsS_at : ∀ (ss : List Sp) (j : Nat), j < ss.length → (cellsS ss)[j * 4]? = some (.int .i64 (sp ss j).1.1) ∧ (cellsS ss)[j * 4 + 1]? = some (.int .i64 (sp ss j).1.2) ∧ (cellsS ss)[j * 4 + 2]? = some (.int .i64 (sp ss j).2.1) ∧ (cellsS ss)[j * 4 + 3]? = some (.int .i64 (sp ss j).2.2)
  | [], j, h => by simp at h
  | s :: r, 0, _ => ⟨rfl, rfl, rfl, rfl⟩
  | s :: r, j + 1, h => by
    have ih := cellsS_at r j (by simpa using h)
    rw [cellsS_cons, show (j + 1) * 4 = j * 4 + 1 + 1 + 1 + 1 by omega]
    simpa [sp] using ih
theorem cellsS_set : ∀ (ss : List Sp) (j : Nat) (x1 x2 y1 y2 : Int), j < ss.length → ((((cellsS ss).set (j * 4) (.int .i64 x1)).set (j * 4 + 1) (.int .i64 x2)).set (j * 4 + 2) (.int .i64 y1)).set (j * 4 + 3) (.int .i64 y2) = cellsS (ss.set j ((x1, x2), (y1, y2)))
  | [], j, _, _, _, _, h => by simp at h
  | s :: r, 0, _, _, _, _, _ => rfl
  | s :: r, j + 1, x1, x2, y1, y2, h => by
    have ih := cellsS_set r j x1 x2 y1 y2 (by simpa using h)
    rw [cellsS_cons, show (j + 1) * 4 = j * 4 + 1 + 1 + 1 + 1 by omega]
    simp only [List.set_cons_succ]
    rw [ih]; rfl
theorem cellsS_zeros (n : Nat) : cellsS (List.replicate n ((0, 0), (0, 0))) = List.replicate (n * 4) (Value.int .i64 0) := by
  induction n with
  | zero => rfl
  | succ n ih => rw [List.replicate_succ, cellsS_cons, ih, show (n + 1) * 4 = n * 4 + 1 + 1 + 1 + 1 by omega, List.replicate_succ, List.replicate_succ, List.replicate_succ, List.replicate_succ]
theorem madeS (n : Nat) : (madeCells (Value.agg #[.int .i64 0, .int .i64 0, .int .i64 0, .int .i64 0]).cells (n * 4)).toList = cellsS (List.replicate n ((0, 0), (0, 0))) := by
  rw [cellsS_zeros]
  apply List.ext_getElem?
  intro j
  by_cases hj : j < n * 4
  · simp [madeCells, hj, Value.cells]
    have : j % 4 = 0 ∨ j % 4 = 1 ∨ j % 4 = 2 ∨ j % 4 = 3 := by omega
    rcases this with e | e | e | e <;> rw [e] <;> rfl
  · simp [madeCells, hj]
/-- a row of spots that can be read -/
def RdS (W : World) (v : Value) (ss : List Sp) : Prop :=
  ∃ a c, v = .slice a ss.length c ∧ ss.length ≤ maxLen ∧ ss.length ≤ c ∧ c ≤ maxLen ∧ ∀ j, j < ss.length → ∃ b off, a = some ⟨b, off, none⟩ ∧ W.cell? ⟨b, off + j * 4, none⟩ = some (.int .i64 (sp ss j).1.1) ∧ W.cell? ⟨b, off + j * 4 + 1, none⟩ = some (.int .i64 (sp ss j).1.2) ∧ W.cell? ⟨b, off + j * 4 + 2, none⟩ = some (.int .i64 (sp ss j).2.1) ∧ W.cell? ⟨b, off + j * 4 + 3, none⟩ = some (.int .i64 (sp ss j).2.2)
theorem RdS.below {W W' : World} {v : Value} {ss : List Sp} (h : RdS W v ss) (hb : Below W.heap.size W W') : RdS W' v ss := by
  obtain ⟨a, c, e, h1, h2, h3, h4⟩ := h
  refine ⟨a, c, e, h1, h2, h3, fun j hj => ?_⟩
  obtain ⟨b, off, e2, c1, c2, c3, c4⟩ := h4 j hj
  exact ⟨b, off, e2, cell_keep hb c1, cell_keep hb c2, cell_keep hb c3, cell_keep hb c4⟩
/-- copied up to number k -/
def cpyS (ss : List Sp) (k : Nat) : List Sp := (List.range ss.length).map (fun i => if i < k then sp ss i else ((0, 0), (0, 0)))
theorem cpyS_len (ss : List Sp) (k : Nat) : (cpyS ss k).length = ss.length := by simp [cpyS]
theorem cpyS_zero (ss : List Sp) : cpyS ss 0 = List.replicate ss.length ((0, 0), (0, 0)) := by
  apply List.ext_getElem
  · simp [cpyS]
  · intro i h1 h2
    simp [cpyS]
theorem cpyS_all (ss : List Sp) : cpyS ss ss.length = ss := by
  apply List.ext_getElem
  · rw [cpyS_len]
  · intro i h1 h2
    simp [cpyS, sp, h2]
theorem cpyS_set (ss : List Sp) (k : Nat) : (cpyS ss k).set k (sp ss k) = cpyS ss (k + 1) := by
  apply List.ext_getElem
  · simp [cpyS]
  · intro i h1 h2
    simp only [cpyS, List.getElem_set, List.getElem_map, List.getElem_range]
    by_cases e : k = i
    · subst e
      rw [if_pos rfl, if_pos (by omega)]
    · rw [if_neg e]
      by_cases h3 : i < k
      · rw [if_pos h3, if_pos (by omega)]
      · rw [if_neg h3, if_neg (by omega)]
def mkS (k0 : Int) (ss : List Sp) (j : Nat) : List Sp := (List.range ss.length).map (fun i => if i < j then ((k0 + 4 * (i : Int), k0 + 4 * (i : Int) + 1), (k0 + 4 * (i : Int) + 2, k0 + 4 * (i : Int) + 3)) else sp ss i)
theorem mkS_len (k0 : Int) (ss : List Sp) (j : Nat) : (mkS k0 ss j).length = ss.length := by simp [mkS]
theorem mkS_zero (k0 : Int) (ss : List Sp) : mkS k0 ss 0 = ss := by
  apply List.ext_getElem
  · rw [mkS_len]
  · intro i h1 h2
    simp [mkS, sp, List.getElem?_eq_getElem h2]
theorem mkS_set (k0 : Int) (ss : List Sp) (j : Nat) : (mkS k0 ss j).set j ((k0 + 4 * (j : Int), k0 + 4 * (j : Int) + 1), (k0 + 4 * (j : Int) + 2, k0 + 4 * (j : Int) + 3)) = mkS k0 ss (j + 1) := by
  apply List.ext_getElem
  · simp [mkS]
  · intro i h1 h2
    simp only [mkS, List.getElem_set, List.getElem_map, List.getElem_range]
    by_cases e : j = i
    · subst e
      rw [if_pos rfl, if_pos (by omega)]
    · rw [if_neg e]
      by_cases h3 : i < j
      · rw [if_pos h3, if_pos (by omega)]
      · rw [if_neg h3, if_neg (by omega)]
theorem mkS_at (k0 : Int) (ss : List Sp) (j : Nat) (h : j < ss.length) : sp (mkS k0 ss ss.length) j = ((k0 + 4 * (j : Int), k0 + 4 * (j : Int) + 1), (k0 + 4 * (j : Int) + 2, k0 + 4 * (j : Int) + 3)) := by
  simp [mkS, sp, h]
theorem b0S (u : World) (x : Obj) : Below u.heap.size u (u.alloc x) := (Below.refl _ _).alloc (Nat.le_refl _) x
theorem IsB.s4 {W : World} {B : Nat} {a0 a1 a2 a3 : Value} {t : TypeId} (h : IsB W B #[a0, a1, a2, a3] t) : W.cell? ⟨B, 0, none⟩ = some a0 ∧ W.cell? ⟨B, 1, none⟩ = some a1 ∧ W.cell? ⟨B, 2, none⟩ = some a2 ∧ W.cell? ⟨B, 3, none⟩ = some a3 :=
  ⟨h.cell 0 rfl, h.cell 1 rfl, h.cell 2 rfl, h.cell 3 rfl⟩
theorem IsB.sf4 {W : World} {B : Nat} {vs : Array Value} {t : TypeId} (h : IsB W B vs t) : W.frozen? ⟨B, 0, none⟩ = false ∧ W.frozen? ⟨B, 1, none⟩ = false ∧ W.frozen? ⟨B, 2, none⟩ = false ∧ W.frozen? ⟨B, 3, none⟩ = false := ⟨h.frozen 0, h.frozen 1, h.frozen 2, h.frozen 3⟩
theorem IsB.sLo {W : World} {B : Nat} {a0 a1 a2 a3 : Value} {t : TypeId} (h : IsB W B #[a0, a1, a2, a3] t) (b0 b1 : Value) : IsB ((W.setCell ⟨B, 0, none⟩ b0).setCell ⟨B, 1, none⟩ b1) B #[b0, b1, a2, a3] t := (h.set 0 b0).set 1 b1
theorem IsB.sHi {W : World} {B : Nat} {a0 a1 a2 a3 : Value} {t : TypeId} (h : IsB W B #[a0, a1, a2, a3] t) (b0 b1 : Value) : IsB ((W.setCell ⟨B, 2, none⟩ b0).setCell ⟨B, 3, none⟩ b1) B #[a0, a1, b0, b1] t := (h.set 2 b0).set 3 b1
theorem IsB.sAll {W : World} {B : Nat} {a0 a1 a2 a3 : Value} {t : TypeId} (h : IsB W B #[a0, a1, a2, a3] t) (b0 b1 b2 b3 : Value) : IsB ((((W.setCell ⟨B, 0, none⟩ b0).setCell ⟨B, 1, none⟩ b1).setCell ⟨B, 2, none⟩ b2).setCell ⟨B, 3, none⟩ b3) B #[b0, b1, b2, b3] t := (((h.set 0 b0).set 1 b1).set 2 b2).set 3 b3
theorem below_sAll {K B : Nat} {w W : World} (h : Below K w W) (hB : K ≤ B) (b0 b1 b2 b3 : Value) : Below K w ((((W.setCell ⟨B, 0, none⟩ b0).setCell ⟨B, 1, none⟩ b1).setCell ⟨B, 2, none⟩ b2).setCell ⟨B, 3, none⟩ b3) :=
  (((h.setCell (p := ⟨B, 0, none⟩) hB b0).setCell (p := ⟨B, 1, none⟩) hB b1).setCell (p := ⟨B, 2, none⟩) hB b2).setCell (p := ⟨B, 3, none⟩) hB b3
theorem IsB.n2 (W : World) (o : Obj) (vs : Array Value) (t : TypeId) : IsB ((W.alloc o).alloc (.cells vs t)) (W.heap.size + 1) vs t := by
  have := IsB.new (W.alloc o) vs t
  simpa using this
theorem IsB.n3 (W : World) (o p : Obj) (vs : Array Value) (t : TypeId) : IsB (((W.alloc o).alloc p).alloc (.cells vs t)) (W.heap.size + 1 + 1) vs t := by
  have := IsB.new ((W.alloc o).alloc p) vs t
  simpa using this

end Go.Proofs.Ythfdpdnphnjebaa
