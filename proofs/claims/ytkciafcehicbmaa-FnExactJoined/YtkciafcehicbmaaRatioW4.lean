/- The walks of the reckonings of two fractions, the model's and the program's (method values handed to one helper). -/
import Derived.Test.YtkciafcehicbmaaRatioW3
import Derived.Deep.RegionWith
namespace Go.Proofs.Ytkciafcehicbmaa
open Go.RowKit Go.Proofs.Ytkciafcehicbmaa.RM

/-- what the walk is told of the two fractions whose products it takes -/
theorem prods {a b c d : Int} (h : two a b c d = true) :
    (-1000000000000000000 ≤ a * d ∧ a * d ≤ 1000000000000000000) ∧ (-1000000000000000000 ≤ c * b ∧ c * b ≤ 1000000000000000000) ∧ (-1000000000000000000 ≤ b * d ∧ b * d ≤ 1000000000000000000) ∧ (-1000000000000000000 ≤ a * c ∧ a * c ≤ 1000000000000000000) ∧ (-1000000000000000000 ≤ b * c ∧ b * c ≤ 1000000000000000000) := by
  obtain ⟨h1, h2⟩ := two_out h
  obtain ⟨p1, p2, p3, p4, _⟩ := okB_out h1
  obtain ⟨q1, q2, q3, q4, _⟩ := okB_out h2
  exact ⟨mul_bd a d p3 p4 (by omega) q2, mul_bd c b q3 q4 (by omega) p2, mul_bd b d (by omega) p2 (by omega) q2, mul_bd a c p3 p4 q3 q4, mul_bd b c (by omega) p2 q3 q4⟩

end Go.Proofs.Ytkciafcehicbmaa
