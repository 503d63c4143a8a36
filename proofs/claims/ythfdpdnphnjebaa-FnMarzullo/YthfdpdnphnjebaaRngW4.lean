/- The walks of the program's RangeAdd, RangeMul and Meet. -/
import Derived.Test.YthfdpdnphnjebaaRngW3
import Derived.Test.YthfdpdnphnjebaaRngW2
namespace Go.Proofs.Ythfdpdnphnjebaa
open Go.RowKit Go.Proofs.Ythfdpdnphnjebaa.RM

theorem RdP.of2 {W : World} {B : Nat} {x1 y1 x2 y2 : Int} {t : TypeId} (h : IsB W B #[.int .i64 x1, .int .i64 y1, .int .i64 x2, .int .i64 y2] t) : RdP W B 0 [(x1, y1), (x2, y2)] := by
  intro j hj
  obtain ⟨h0, h1, h2, h3⟩ := h.c4
  match j, hj with
  | 0, _ => exact ⟨h0, h1⟩
  | 1, _ => exact ⟨h2, h3⟩
theorem RdP.of4 {W : World} {B : Nat} {x1 y1 x2 y2 x3 y3 x4 y4 : Int} {t : TypeId} (h : IsB W B #[.int .i64 x1, .int .i64 y1, .int .i64 x2, .int .i64 y2, .int .i64 x3, .int .i64 y3, .int .i64 x4, .int .i64 y4] t) : RdP W B 0 [(x1, y1), (x2, y2), (x3, y3), (x4, y4)] := by
  intro j hj
  match j, hj with
  | 0, _ => exact ⟨h.cell 0 rfl, h.cell 1 rfl⟩
  | 1, _ => exact ⟨h.cell 2 rfl, h.cell 3 rfl⟩
  | 2, _ => exact ⟨h.cell 4 rfl, h.cell 5 rfl⟩
  | 3, _ => exact ⟨h.cell 6 rfl, h.cell 7 rfl⟩
def ans7 (r : A7) : Value := .tuple #[.agg #[.int .i64 r.1.1, .int .i64 r.1.2, .int .i64 r.2.1.1, .int .i64 r.2.1.2], .bool r.2.2]
theorem radd_way (a b c d : P7) : radd a b c d = if (rng7 a b && rng7 c d) = true then ends7 (addF a c) (addF a c) [addF a c, addF b d] else no7 := by
  cases h : rng7 a b && rng7 c d
  · rw [radd_no h]; rfl
  · rw [Bool.and_eq_true] at h
    rw [radd_prog h.1 h.2]; rfl
theorem rmul_way (a b c d : P7) : rmul a b c d = if (rng7 a b && rng7 c d) = true then ends7 (mulF a c) (mulF a c) [mulF a c, mulF a d, mulF b c, mulF b d] else no7 := by
  cases h : rng7 a b && rng7 c d
  · rw [rmul_no h]; rfl
  · rw [Bool.and_eq_true] at h
    rw [rmul_prog h.1 h.2]; rfl

end Go.Proofs.Ythfdpdnphnjebaa
