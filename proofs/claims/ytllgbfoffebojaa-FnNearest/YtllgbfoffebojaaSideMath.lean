/- How large the numbers of the fraction on the way are. -/
import Derived.Test.YtllgbfoffebojaaContMath
namespace Go.Proofs.Ytllgbfoffebojaa.RM
theorem iabs_det {x y z : Int} (h : z = -(x * y)) (hx : x = 1 ∨ x = -1) (hy : 0 ≤ y) : iabs z = y := by
  rcases hx with rfl | rfl
  · unfold iabs; split <;> omega
  · unfold iabs; split <;> omega
theorem Side.bounds {p q most : Int} {pre : List Int} {r s k : Int} (hok : okB p q = true) (h : At p q pre r s) (hq : most < q) (sd : Side p q most pre r s k) :
    -1000000001 ≤ (cvs pre).hn + k * (cvs pre).n ∧ (cvs pre).hn + k * (cvs pre).n ≤ 1000000001 ∧
    iabs (p * (cvs pre).d - (cvs pre).n * q) * ((cvs pre).hd + k * (cvs pre).d) ≤ q ∧ iabs (p * ((cvs pre).hd + k * (cvs pre).d) - ((cvs pre).hn + k * (cvs pre).n) * q) * (cvs pre).d ≤ q := by
  obtain ⟨q1, q2, p1, p2, _⟩ := okB_out hok
  obtain ⟨s1, _⟩ := okB_out h.ok
  have d1 := sd.d1
  have left := sd.left
  have e1 := iabs_det h.inv.dist h.inv.det (by omega)
  have e2 : iabs (p * ((cvs pre).hd + k * (cvs pre).d) - ((cvs pre).hn + k * (cvs pre).n) * q) = r - k * s := iabs_det sd.inv.dist sd.inv.det (by omega)
  have hq' : q = ((cvs pre).hd + k * (cvs pre).d) * s + (cvs pre).d * (r - k * s) := sd.inv.hq
  have m1 : 0 ≤ ((cvs pre).hd + k * (cvs pre).d) * s := Int.mul_nonneg (by have := sd.xd; omega) (by omega)
  have m2 : 0 ≤ (cvs pre).d * (r - k * s) := Int.mul_nonneg (by omega) (by omega)
  have hr : r - k * s ≤ q := by
    have := le_mul (show 0 ≤ r - k * s by omega) d1
    rw [Int.mul_comm (r - k * s)] at this
    omega
  have hdist := sd.inv.dist
  have hx : -1000000001 ≤ (cvs pre).hn + k * (cvs pre).n ∧ (cvs pre).hn + k * (cvs pre).n ≤ 1000000001 := by
    have hdet := sd.inv.det
    have xd := sd.xd
    have xm := sd.xm
    rcases hdet with c | c
    · rw [c] at hdist
      exact abs_mul (e := -(1 * (r - k * s))) (by omega) p1 p2 (by show 0 ≤ (cvs pre).hd + k * (cvs pre).d; omega) (by show (cvs pre).hd + k * (cvs pre).d ≤ q; omega) (by omega) (by omega) (by omega) hdist
    · rw [c] at hdist
      exact abs_mul (e := -(-1 * (r - k * s))) (by omega) p1 p2 (by show 0 ≤ (cvs pre).hd + k * (cvs pre).d; omega) (by show (cvs pre).hd + k * (cvs pre).d ≤ q; omega) (by omega) (by omega) (by omega) hdist
  refine ⟨hx.1, hx.2, ?_, ?_⟩
  · rw [e1, Int.mul_comm s]; omega
  · rw [e2, Int.mul_comm (r - k * s)]; omega
end Go.Proofs.Ytllgbfoffebojaa.RM
