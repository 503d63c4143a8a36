/- The walk of the program's ends: the least range with all fractions of a list. -/
import Derived.Test.YthfdpdnphnjebaaRngW1
import Derived.Deep.DeepCutAuto
import Derived.Deep.RegionHeld3
import Derived.BigRegion
import Derived.IntWalk
namespace Go.Proofs.Ythfdpdnphnjebaa
open Go.RowKit Go.Proofs.Ythfdpdnphnjebaa.RM

def nth7 (ps : List P7) (j : Nat) : P7 := ps[j]?.getD (0, 0)
/-- a row of fractions that can be read -/
def RdP (W : World) (b off : Nat) (ps : List P7) : Prop := ∀ j, j < ps.length → W.cell? ⟨b, off + j * 2, none⟩ = some (.int .i64 (nth7 ps j).1) ∧ W.cell? ⟨b, off + j * 2 + 1, none⟩ = some (.int .i64 (nth7 ps j).2)
theorem drop7 {ps : List P7} {k : Nat} (h : k < ps.length) : ps.drop k = nth7 ps k :: ps.drop (k + 1) := by
  rw [List.drop_eq_getElem_cons h]; unfold nth7; rw [List.getElem?_eq_getElem h]; rfl
theorem IsB.setLo {W : World} {B : Nat} {a0 a1 a2 a3 : Value} {t : TypeId} (h : IsB W B #[a0, a1, a2, a3] t) (b0 b1 : Value) : IsB ((W.setCell ⟨B, 0, none⟩ b0).setCell ⟨B, 1, none⟩ b1) B #[b0, b1, a2, a3] t := (h.set 0 b0).set 1 b1
theorem IsB.setHi {W : World} {B : Nat} {a0 a1 a2 a3 : Value} {t : TypeId} (h : IsB W B #[a0, a1, a2, a3] t) (b0 b1 : Value) : IsB ((W.setCell ⟨B, 2, none⟩ b0).setCell ⟨B, 3, none⟩ b1) B #[a0, a1, b0, b1] t := (h.set 2 b0).set 3 b1

theorem ends7_step {lo hi v : P7} {vs : List P7} {r : A7} (h : ends7 lo hi (v :: vs) = r) (hv : okB v.1 v.2 = true) : ends7 (lst7 lo v) (mst7 hi v) vs = r := by
  unfold ends7 at h; rwa [if_pos (show ok7 v = true from hv)] at h
theorem ends7_stop {lo hi v : P7} {vs : List P7} {r : A7} (h : ends7 lo hi (v :: vs) = r) (hv : okB v.1 v.2 = false) : no7 = r := by
  unfold ends7 at h
  rw [if_neg (by unfold ok7; rw [hv]; exact Bool.false_ne_true)] at h
  exact h
theorem lst7_yes {a b c d : Int} (h : lessB c d a b = true) : lst7 (a, b) (c, d) = (c, d) := if_pos h
theorem lst7_no {a b c d : Int} (h : lessB c d a b = false) : lst7 (a, b) (c, d) = (a, b) := if_neg (by show ¬ lessB c d a b = true; rw [h]; exact Bool.false_ne_true)
theorem mst7_yes {a b c d : Int} (h : lessB a b c d = true) : mst7 (a, b) (c, d) = (c, d) := if_pos h
theorem mst7_no {a b c d : Int} (h : lessB a b c d = false) : mst7 (a, b) (c, d) = (a, b) := if_neg (by show ¬ lessB a b c d = true; rw [h]; exact Bool.false_ne_true)

end Go.Proofs.Ythfdpdnphnjebaa
