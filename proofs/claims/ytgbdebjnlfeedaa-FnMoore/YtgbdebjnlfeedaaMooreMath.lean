/- What lies within two ranges, without any program: sums, products, what is in both. -/
import Derived.Test.YtgbdebjnlfeedaaRngMath
namespace Go.Proofs.Ytgbdebjnlfeedaa
open Go.Proofs.Ytgbdebjnlfeedaa.RM

theorem within7_out {p q x : P7} (h : within7 p q x = true) : rng7 p q = true ∧ ok7 p = true ∧ ok7 q = true ∧ ok7 x = true ∧ v7 p ≤ v7 x ∧ v7 x ≤ v7 q := by
  unfold within7 at h
  simp only [Bool.and_eq_true, Bool.not_eq_true'] at h
  obtain ⟨⟨⟨h1, h2⟩, h3⟩, h4⟩ := h
  obtain ⟨o1, o2, -⟩ := rng7_out h1
  exact ⟨h1, o1, o2, h2, (le7_no h2 o1).1 h3, (le7_no o2 h2).1 h4⟩
theorem within7_mk {p q x : P7} (h1 : ok7 p = true) (h2 : ok7 q = true) (h3 : ok7 x = true) (h4 : v7 p ≤ v7 x) (h5 : v7 x ≤ v7 q) : within7 p q x = true := by
  have hr := rng7_mk h1 h2 (by grind)
  unfold within7
  rw [hr, h3, (le7_no h3 h1).2 h4, (le7_no h2 h3).2 h5]; rfl
theorem radd_yes {a b c d : P7} (h : (radd a b c d).2.2 = true) : addG a c = true ∧ addG b d = true ∧ radd a b c d = (addF a c, addF b d, true) := by
  unfold radd at h ⊢
  split at h
  · rename_i k
    rw [if_pos k]
    simp only [Bool.and_eq_true] at k
    exact ⟨k.1.2, k.2, rfl⟩
  · exact absurd h Bool.false_ne_true
theorem rmul_yes {a b c d : P7} (h : (rmul a b c d).2.2 = true) : mulG a c = true ∧ mulG a d = true ∧ mulG b c = true ∧ mulG b d = true ∧ rmul a b c d = (lst7 (lst7 (mulF a c) (mulF a d)) (lst7 (mulF b c) (mulF b d)), mst7 (mst7 (mulF a c) (mulF a d)) (mst7 (mulF b c) (mulF b d)), true) := by
  unfold rmul at h ⊢
  split at h
  · rename_i k
    rw [if_pos k]
    simp only [Bool.and_eq_true] at k
    obtain ⟨⟨⟨⟨⟨-, -⟩, k1⟩, k2⟩, k3⟩, k4⟩ := k
    exact ⟨k1, k2, k3, k4, rfl⟩
  · exact absurd h Bool.false_ne_true
theorem moore_add {a b c d x y : P7} (h : (radd a b c d).2.2 = true) (hx : within7 a b x = true) (hy : within7 c d y = true) (hg : addG x y = true) : within7 (radd a b c d).1 (radd a b c d).2.1 (addF x y) = true := by
  obtain ⟨g1, g2, e⟩ := radd_yes h
  obtain ⟨-, -, -, -, x1, x2⟩ := within7_out hx
  obtain ⟨-, -, -, -, y1, y2⟩ := within7_out hy
  obtain ⟨o1, e1⟩ := addF_yes g1
  obtain ⟨o2, e2⟩ := addF_yes g2
  obtain ⟨o3, e3⟩ := addF_yes hg
  rw [e]
  exact within7_mk o1 o2 o3 (by rw [e1, e3]; grind) (by rw [e2, e3]; grind)
theorem mulbd {x a b y c d m : Rat} (h1 : a ≤ x) (h2 : x ≤ b) (h3 : c ≤ y) (h4 : y ≤ d) (k1 : m ≤ a * c) (k2 : m ≤ a * d) (k3 : m ≤ b * c) (k4 : m ≤ b * d) : m ≤ x * y := by
  have one : ∀ z : Rat, m ≤ z * c → m ≤ z * d → m ≤ z * y := by
    intro z z1 z2
    by_cases hz : 0 ≤ z
    · have := Rat.mul_le_mul_of_nonneg_left h3 hz
      grind
    · have := Rat.mul_le_mul_of_nonneg_left h4 (show 0 ≤ -z by grind)
      grind
  have e1 := one a k1 k2
  have e2 := one b k3 k4
  by_cases hy : 0 ≤ y
  · have := Rat.mul_le_mul_of_nonneg_right h1 hy
    grind
  · have := Rat.mul_le_mul_of_nonneg_right h2 (show 0 ≤ -y by grind)
    grind
theorem moore_mul {a b c d x y : P7} (h : (rmul a b c d).2.2 = true) (hx : within7 a b x = true) (hy : within7 c d y = true) (hg : mulG x y = true) : within7 (rmul a b c d).1 (rmul a b c d).2.1 (mulF x y) = true := by
  obtain ⟨g1, g2, g3, g4, e⟩ := rmul_yes h
  obtain ⟨-, -, -, -, x1, x2⟩ := within7_out hx
  obtain ⟨-, -, -, -, y1, y2⟩ := within7_out hy
  obtain ⟨o1, e1⟩ := mulF_yes g1
  obtain ⟨o2, e2⟩ := mulF_yes g2
  obtain ⟨o3, e3⟩ := mulF_yes g3
  obtain ⟨o4, e4⟩ := mulF_yes g4
  obtain ⟨o5, e5⟩ := mulF_yes hg
  have l1 := lst7_v o1 o2
  have l2 := lst7_v o3 o4
  have l3 := lst7_v (lst7_ok o1 o2) (lst7_ok o3 o4)
  have m1 := mst7_v o1 o2
  have m2 := mst7_v o3 o4
  have m3 := mst7_v (mst7_ok o1 o2) (mst7_ok o3 o4)
  rw [e1, e2] at l1 m1
  rw [e3, e4] at l2 m2
  rw [e]
  refine within7_mk (lst7_ok (lst7_ok o1 o2) (lst7_ok o3 o4)) (mst7_ok (mst7_ok o1 o2) (mst7_ok o3 o4)) o5 ?_ ?_
  · rw [e5]
    exact mulbd x1 x2 y1 y2 (by grind) (by grind) (by grind) (by grind)
  · rw [e5]
    have := mulbd (m := -v7 (mst7 (mst7 (mulF a c) (mulF a d)) (mst7 (mulF b c) (mulF b d)))) (x := -v7 x) (a := -v7 b) (b := -v7 a) (y := v7 y) (c := v7 c) (d := v7 d) (by grind) (by grind) y1 y2 (by grind) (by grind) (by grind) (by grind)
    grind
theorem moore_ok {a b c d : P7} (h : (rmul a b c d).2.2 = true) : rng7 (rmul a b c d).1 (rmul a b c d).2.1 = true := by
  obtain ⟨g1, g2, g3, g4, e⟩ := rmul_yes h
  obtain ⟨o1, e1⟩ := mulF_yes g1
  obtain ⟨o2, e2⟩ := mulF_yes g2
  obtain ⟨o3, e3⟩ := mulF_yes g3
  obtain ⟨o4, e4⟩ := mulF_yes g4
  have l1 := lst7_v o1 o2
  have l3 := lst7_v (lst7_ok o1 o2) (lst7_ok o3 o4)
  have m1 := mst7_v o1 o2
  have m3 := mst7_v (mst7_ok o1 o2) (mst7_ok o3 o4)
  rw [e]
  exact rng7_mk (lst7_ok (lst7_ok o1 o2) (lst7_ok o3 o4)) (mst7_ok (mst7_ok o1 o2) (mst7_ok o3 o4)) (by grind)
theorem moore_meet {a b c d x : P7} (hx : within7 a b x = true) : within7 c d x = ((rmeet a b c d).2.2 && within7 (rmeet a b c d).1 (rmeet a b c d).2.1 x) := by
  obtain ⟨r1, oa, ob, ox, x1, x2⟩ := within7_out hx
  cases hc : within7 c d x
  · unfold rmeet
    split
    · rename_i k
      simp only [Bool.and_eq_true] at k
      obtain ⟨⟨-, k2⟩, k3⟩ := k
      obtain ⟨oc, od, -⟩ := rng7_out k2
      have m1 := mst7_v oa oc
      have m2 := lst7_v ob od
      cases hw : within7 (mst7 a c) (lst7 b d) x
      · simp
      · obtain ⟨-, -, -, -, y1, y2⟩ := within7_out hw
        rw [within7_mk oc od ox (by grind) (by grind)] at hc
        exact absurd hc (by decide)
    · rfl
  · obtain ⟨r2, oc, od, -, y1, y2⟩ := within7_out hc
    have m1 := mst7_v oa oc
    have m2 := lst7_v ob od
    have hw := within7_mk (mst7_ok oa oc) (lst7_ok ob od) ox (by grind) (by grind)
    obtain ⟨r3, -⟩ := within7_out hw
    unfold rmeet
    rw [r1, r2, r3]
    simp [hw]
end Go.Proofs.Ytgbdebjnlfeedaa
