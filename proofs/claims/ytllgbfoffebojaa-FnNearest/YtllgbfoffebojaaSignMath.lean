/- On which side of the fraction a convergent lies, and that the denominators grow. -/
import Derived.Test.YtllgbfoffebojaaContMath
namespace Go.Proofs.Ytllgbfoffebojaa.RM
def Cv.det (c : Cv) : Int := c.n * c.hd - c.hn * c.d
theorem Cv.det_step (c : Cv) (t : Int) : (c.step t).det = -c.det := by
  show (c.hn + t * c.n) * c.d - c.n * (c.hd + t * c.d) = -(c.n * c.hd - c.hn * c.d)
  grind
theorem det_fold : ∀ (l : List Int) (c : Cv), (l.foldl Cv.step c).det = if l.length % 2 = 0 then c.det else -c.det
  | [], c => by simp
  | t :: l, c => by
    rw [List.foldl_cons, det_fold l, Cv.det_step, List.length_cons]
    by_cases h : l.length % 2 = 0
    · rw [if_pos h, if_neg (by omega)]
    · rw [if_neg h, if_pos (by omega), Int.neg_neg]
theorem det_cvs (l : List Int) : (cvs l).det = if l.length % 2 = 0 then 1 else -1 := by
  unfold cvs; rw [det_fold]; simp [cv0, Cv.det]
/-- behind an even number of whole steps it lies above, behind an odd one below -/
theorem side_of_cv {p q : Int} {pre : List Int} {r s : Int} (h : Inv p q (cvs pre) r s) (hs : 0 < s) :
    (pre.length % 2 = 1 → (cvs pre).n * q < p * (cvs pre).d) ∧ (pre.length % 2 = 0 → p * (cvs pre).d < (cvs pre).n * q) := by
  have hd := h.dist
  have he := det_cvs pre
  unfold Cv.det at he
  rw [he] at hd
  refine ⟨fun hp => ?_, fun hp => ?_⟩
  · rw [if_neg (by omega)] at hd; omega
  · rw [if_pos hp] at hd; omega
/-- the next denominator is not less -/
theorem den_grows {t : Int} {pre : List Int} (hd0 : 0 ≤ (cvs pre).hd) (hd : 0 ≤ (cvs pre).d) (ht : 1 ≤ t) : (cvs pre).d ≤ (cvs (pre ++ [t])).d := by
  rw [cvs_snoc]
  show (cvs pre).d ≤ (cvs pre).hd + t * (cvs pre).d
  have : 1 * (cvs pre).d ≤ t * (cvs pre).d := Int.mul_le_mul_of_nonneg_right ht hd
  omega
/-- two convergents next to each other -/
theorem next_det (pre : List Int) (t : Int) : (cvs (pre ++ [t])).n * (cvs pre).d - (cvs pre).n * (cvs (pre ++ [t])).d = 1 ∨ (cvs (pre ++ [t])).n * (cvs pre).d - (cvs pre).n * (cvs (pre ++ [t])).d = -1 := by
  have h := det_cvs (pre ++ [t])
  unfold Cv.det at h
  rw [cvs_snoc] at h ⊢
  simp only [Cv.step] at h ⊢
  split at h
  · exact .inl h
  · exact .inr h
end Go.Proofs.Ytllgbfoffebojaa.RM
