/- The walks of the model's RangeAdd, RangeMul and Meet. -/
import Derived.Test.YthfdpdnphnjebaaRngW1
import Derived.Test.YthfdpdnphnjebaaCalcW
import Derived.Deep.DeepCutAuto
import Derived.Deep.RegionHeld3
namespace Go.Proofs.Ythfdpdnphnjebaa
open Go.RowKit Go.Proofs.Ythfdpdnphnjebaa.RM

theorem IsB.grownK {W W' : World} {B K : Nat} {vs : Array Value} {t : TypeId} (h : IsB W B vs t) (hg : W.grownBy W' (some K)) (hne : B ≠ K) : IsB W' B vs t := (hg.block B h.lt (by simpa using hne)).trans h
theorem IsB.other4 {W : World} {K B : Nat} {vs : Array Value} {t : TypeId} (h : IsB W K vs t) (hne : K ≠ B) (b0 b1 b2 b3 : Value) : IsB ((((W.setCell ⟨B, 0, none⟩ b0).setCell ⟨B, 1, none⟩ b1).setCell ⟨B, 2, none⟩ b2).setCell ⟨B, 3, none⟩ b3) K vs t :=
  (((h.other hne 0 b0).other hne 1 b1).other hne 2 b2).other hne 3 b3
theorem IsB.other2 {W : World} {K B : Nat} {vs : Array Value} {t : TypeId} (h : IsB W K vs t) (hne : K ≠ B) (b0 b1 : Value) : IsB ((W.setCell ⟨B, 0, none⟩ b0).setCell ⟨B, 1, none⟩ b1) K vs t :=
  (h.other hne 0 b0).other hne 1 b1
theorem kF_yes {g : Bool} (h : g = true) (n d : Int) : kN g n = n ∧ kD g d = d := by subst h; exact ⟨rfl, rfl⟩
/-- the model's sum and product, as its reckoning tells them -/
def kF (g : Bool) (p : P7) : P7 := (kN g p.1, kD g p.2)
theorem kF_true (p : P7) : kF true p = p := rfl
theorem radd_k (a b c d : P7) : radd a b c d = if (rng7 a b && rng7 c d && addG a c && addG b d) = true then (kF (addG a c) (addF a c), kF (addG b d) (addF b d), true) else no7 := by
  unfold radd
  cases addG a c
  · simp
  cases addG b d
  · simp
  rfl
theorem rmul_k (a b c d : P7) : rmul a b c d = if (rng7 a b && rng7 c d && mulG a c && mulG a d && mulG b c && mulG b d) = true then (lst7 (lst7 (kF (mulG a c) (mulF a c)) (kF (mulG a d) (mulF a d))) (lst7 (kF (mulG b c) (mulF b c)) (kF (mulG b d) (mulF b d))), mst7 (mst7 (kF (mulG a c) (mulF a c)) (kF (mulG a d) (mulF a d))) (mst7 (kF (mulG b c) (mulF b c)) (kF (mulG b d) (mulF b d))), true) else no7 := by
  unfold rmul
  cases mulG a c
  · simp
  cases mulG a d
  · simp
  cases mulG b c
  · simp
  cases mulG b d
  · simp
  rfl
theorem rmeet_k (a b c d : P7) : rmeet a b c d = if (rng7 a b && rng7 c d && rng7 (mst7 a c) (lst7 b d)) = true then (mst7 a c, lst7 b d, true) else no7 := rfl
theorem inj7 {r1 r2 r3 r4 x1 x2 y1 y2 : Int} {r5 o : Bool} (h : (((r1, r2), (r3, r4), r5) : A7) = ((x1, x2), (y1, y2), o)) : r1 = x1 ∧ r2 = x2 ∧ r3 = y1 ∧ r4 = y2 ∧ r5 = o := by
  injection h with h1 h2
  injection h1 with h3 h4
  injection h2 with h5 h6
  injection h5 with h7 h8
  exact ⟨h3, h4, h7, h8, h6⟩

end Go.Proofs.Ythfdpdnphnjebaa
