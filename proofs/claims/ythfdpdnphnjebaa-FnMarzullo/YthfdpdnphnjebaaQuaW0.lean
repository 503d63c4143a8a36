/- Blocks of two, three and seven cells, written whole. -/
import Derived.Test.YthfdpdnphnjebaaUnitB
namespace Go.Proofs.Ythfdpdnphnjebaa
open Go.RowKit

theorem IsB.new2c (W : World) (o : Obj) (vs : Array Value) (t : TypeId) : IsB ((W.alloc o).alloc (.cells vs t)) (W.heap.size + 1) vs t := by
  have := IsB.new (W.alloc o) vs t
  simpa using this
theorem IsB.new3c (W : World) (o p : Obj) (vs : Array Value) (t : TypeId) : IsB (((W.alloc o).alloc p).alloc (.cells vs t)) (W.heap.size + 1 + 1) vs t := by
  have := IsB.new ((W.alloc o).alloc p) vs t
  simpa using this
theorem IsB.set3 {W : World} {B : Nat} {a0 a1 a2 : Value} {t : TypeId} (h : IsB W B #[a0, a1, a2] t) (b0 b1 b2 : Value) : IsB (((W.setCell ⟨B, 0, none⟩ b0).setCell ⟨B, 1, none⟩ b1).setCell ⟨B, 2, none⟩ b2) B #[b0, b1, b2] t :=
  ((h.set 0 b0).set 1 b1).set 2 b2
theorem IsB.set7 {W : World} {B : Nat} {a0 a1 a2 a3 a4 a5 a6 : Value} {t : TypeId} (h : IsB W B #[a0, a1, a2, a3, a4, a5, a6] t) (b0 b1 b2 b3 b4 b5 b6 : Value) : IsB (((((((W.setCell ⟨B, 0, none⟩ b0).setCell ⟨B, 1, none⟩ b1).setCell ⟨B, 2, none⟩ b2).setCell ⟨B, 3, none⟩ b3).setCell ⟨B, 4, none⟩ b4).setCell ⟨B, 5, none⟩ b5).setCell ⟨B, 6, none⟩ b6) B #[b0, b1, b2, b3, b4, b5, b6] t := by
  have h7 := ((((((h.set 0 b0).set 1 b1).set 2 b2).set 3 b3).set 4 b4).set 5 b5).set 6 b6
  simp only [List.setIfInBounds_toArray, List.set_cons_zero, List.set_cons_succ] at h7
  exact h7
theorem below_set3 {K B : Nat} {w W : World} (h : Below K w W) (hB : K ≤ B) (b0 b1 b2 : Value) : Below K w (((W.setCell ⟨B, 0, none⟩ b0).setCell ⟨B, 1, none⟩ b1).setCell ⟨B, 2, none⟩ b2) :=
  ((h.setCell (p := ⟨B, 0, none⟩) hB b0).setCell (p := ⟨B, 1, none⟩) hB b1).setCell (p := ⟨B, 2, none⟩) hB b2
theorem below_set7 {K B : Nat} {w W : World} (h : Below K w W) (hB : K ≤ B) (b0 b1 b2 b3 b4 b5 b6 : Value) : Below K w (((((((W.setCell ⟨B, 0, none⟩ b0).setCell ⟨B, 1, none⟩ b1).setCell ⟨B, 2, none⟩ b2).setCell ⟨B, 3, none⟩ b3).setCell ⟨B, 4, none⟩ b4).setCell ⟨B, 5, none⟩ b5).setCell ⟨B, 6, none⟩ b6) :=
  ((((((h.setCell (p := ⟨B, 0, none⟩) hB b0).setCell (p := ⟨B, 1, none⟩) hB b1).setCell (p := ⟨B, 2, none⟩) hB b2).setCell (p := ⟨B, 3, none⟩) hB b3).setCell (p := ⟨B, 4, none⟩) hB b4).setCell (p := ⟨B, 5, none⟩) hB b5).setCell (p := ⟨B, 6, none⟩) hB b6
theorem IsB.other7 {W : World} {K B : Nat} {vs : Array Value} {t : TypeId} (h : IsB W K vs t) (hne : K ≠ B) (b0 b1 b2 b3 b4 b5 b6 : Value) : IsB (((((((W.setCell ⟨B, 0, none⟩ b0).setCell ⟨B, 1, none⟩ b1).setCell ⟨B, 2, none⟩ b2).setCell ⟨B, 3, none⟩ b3).setCell ⟨B, 4, none⟩ b4).setCell ⟨B, 5, none⟩ b5).setCell ⟨B, 6, none⟩ b6) K vs t :=
  ((((((h.other hne 0 b0).other hne 1 b1).other hne 2 b2).other hne 3 b3).other hne 4 b4).other hne 5 b5).other hne 6 b6
theorem IsB.c3 {W : World} {B : Nat} {a0 a1 a2 : Value} {t : TypeId} (h : IsB W B #[a0, a1, a2] t) : W.cell? ⟨B, 0, none⟩ = some a0 ∧ W.cell? ⟨B, 1, none⟩ = some a1 ∧ W.cell? ⟨B, 2, none⟩ = some a2 :=
  ⟨h.cell 0 rfl, h.cell 1 rfl, h.cell 2 rfl⟩
theorem IsB.c7 {W : World} {B : Nat} {a0 a1 a2 a3 a4 a5 a6 : Value} {t : TypeId} (h : IsB W B #[a0, a1, a2, a3, a4, a5, a6] t) : W.cell? ⟨B, 0, none⟩ = some a0 ∧ W.cell? ⟨B, 1, none⟩ = some a1 ∧ W.cell? ⟨B, 2, none⟩ = some a2 ∧ W.cell? ⟨B, 3, none⟩ = some a3 ∧ W.cell? ⟨B, 4, none⟩ = some a4 ∧ W.cell? ⟨B, 5, none⟩ = some a5 ∧ W.cell? ⟨B, 6, none⟩ = some a6 :=
  ⟨h.cell 0 rfl, h.cell 1 rfl, h.cell 2 rfl, h.cell 3 rfl, h.cell 4 rfl, h.cell 5 rfl, h.cell 6 rfl⟩
theorem IsB.c5 {W : World} {B : Nat} {a0 a1 a2 a3 a4 : Value} {t : TypeId} (h : IsB W B #[a0, a1, a2, a3, a4] t) : W.cell? ⟨B, 0, none⟩ = some a0 ∧ W.cell? ⟨B, 1, none⟩ = some a1 ∧ W.cell? ⟨B, 2, none⟩ = some a2 ∧ W.cell? ⟨B, 3, none⟩ = some a3 ∧ W.cell? ⟨B, 4, none⟩ = some a4 :=
  ⟨h.cell 0 rfl, h.cell 1 rfl, h.cell 2 rfl, h.cell 3 rfl, h.cell 4 rfl⟩
theorem IsB.f3 {W : World} {B : Nat} {vs : Array Value} {t : TypeId} (h : IsB W B vs t) : W.frozen? ⟨B, 0, none⟩ = false ∧ W.frozen? ⟨B, 1, none⟩ = false ∧ W.frozen? ⟨B, 2, none⟩ = false := ⟨h.frozen 0, h.frozen 1, h.frozen 2⟩
theorem IsB.f7 {W : World} {B : Nat} {vs : Array Value} {t : TypeId} (h : IsB W B vs t) : W.frozen? ⟨B, 0, none⟩ = false ∧ W.frozen? ⟨B, 1, none⟩ = false ∧ W.frozen? ⟨B, 2, none⟩ = false ∧ W.frozen? ⟨B, 3, none⟩ = false ∧ W.frozen? ⟨B, 4, none⟩ = false ∧ W.frozen? ⟨B, 5, none⟩ = false ∧ W.frozen? ⟨B, 6, none⟩ = false := ⟨h.frozen 0, h.frozen 1, h.frozen 2, h.frozen 3, h.frozen 4, h.frozen 5, h.frozen 6⟩
end Go.Proofs.Ythfdpdnphnjebaa
