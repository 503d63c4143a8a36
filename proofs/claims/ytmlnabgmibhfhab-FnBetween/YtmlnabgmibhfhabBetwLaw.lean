/- What the law of Between asks of the answer. -/
import Derived.Test.YtmlnabgmibhfhabBetwFin
import Derived.Test.YtmlnabgmibhfhabOrderMath
namespace Go.Proofs.Ytmlnabgmibhfhab.RM

theorem btA_between {a b c d x y : Int} (h : Dom a b c d) (hd : 1 ≤ d) (e : btA a b c d = (x, y)) : a * y < x * b ∧ x * d < c * y ∧ 1 ≤ y ∧ ∀ u v : Int, 1 ≤ v → a * v < u * b → u * d < c * v → y ≤ v := by
  have b1 := h.b1
  unfold btA at e
  by_cases g : loI a b ≤ hiI c d
  · rw [if_pos g] at e
    have key : ∀ n : Int, loI a b ≤ n → n ≤ hiI c d → a * 1 < n * b ∧ n * d < c * 1 := by
      intro n h1 h2
      have h3 := upw b1 h1 (lo_above a b b1)
      have h4 := down hd h2 (hi_below c d hd)
      exact ⟨by omega, by omega⟩
    by_cases g1 : loI a b ≤ 0 ∧ 0 ≤ hiI c d
    · rw [if_pos g1] at e
      obtain ⟨rfl, rfl⟩ := Prod.mk.inj e
      exact ⟨(key 0 g1.1 g1.2).1, (key 0 g1.1 g1.2).2, by omega, fun _ v hv _ _ => hv⟩
    · rw [if_neg g1] at e
      by_cases g2 : 0 < loI a b
      · rw [if_pos g2] at e
        obtain ⟨rfl, rfl⟩ := Prod.mk.inj e
        exact ⟨(key _ (Int.le_refl _) g).1, (key _ (Int.le_refl _) g).2, by omega, fun _ v hv _ _ => hv⟩
      · rw [if_neg g2] at e
        obtain ⟨rfl, rfl⟩ := Prod.mk.inj e
        exact ⟨(key _ g (Int.le_refl _)).1, (key _ g (Int.le_refl _)).2, by omega, fun _ v hv _ _ => hv⟩
  · rw [if_neg g] at e
    obtain ⟨x0, y0, k⟩ := best_is h
    rw [bt_is k] at e
    obtain ⟨rfl, rfl⟩ := Prod.mk.inj e
    exact ⟨k.lo, k.hi, k.y1, fun u v hv h1 h2 => (k.least u v hv h1 h2).1⟩
theorem less_mk {a b c d : Int} (h1 : okB a b = true) (h2 : okB c d = true) (h : a * d < c * b) : lessB a b c d = true := by
  unfold lessB; rw [two_yes h1 h2, decide_eq_true h]; rfl
theorem less_get {a b c d : Int} (h : lessB a b c d = true) : two a b c d = true ∧ a * d < c * b := by
  unfold lessB at h; rw [Bool.and_eq_true] at h; exact ⟨h.1, of_decide_eq_true h.2⟩
/-- what is answered lies between -/
theorem betw_less {a b c d : Int} (h : btB a b c d = true) : lessB a b (btN a b c d) (btD a b c d) = true ∧ lessB (btN a b c d) (btD a b c d) c d = true := by
  have hb := h
  unfold btB at hb
  rw [Bool.and_eq_true] at hb
  obtain ⟨hl, hk⟩ := hb
  obtain ⟨ht, hlt⟩ := less_get hl
  obtain ⟨o1, o2⟩ := two_out ht
  have hdm : Dom a b c d := ⟨(okB_out o1).1, by have := (okB_out o2).1; omega, hlt⟩
  have e1 : btN a b c d = (btA a b c d).1 := by unfold btN; rw [h]; rfl
  have e2 : btD a b c d = (btA a b c d).2 := by unfold btD; rw [h]; rfl
  obtain ⟨g1, g2, _, _⟩ := btA_between hdm (okB_out o2).1 (x := (btA a b c d).1) (y := (btA a b c d).2) rfl
  rw [e1, e2]
  exact ⟨less_mk o1 hk g1, less_mk hk o2 g2⟩
/-- and none with a less D does -/
theorem betw_least {a b c d k m : Int} (h : btB a b c d = true) (hm : 0 < m) (hlt : m < btD a b c d) (hr : redOk k m = true) (h1 : lessB a b (redN k m) (redD k m) = true) : lessB (redN k m) (redD k m) c d = false := by
  have hb := h
  unfold btB at hb
  rw [Bool.and_eq_true] at hb
  obtain ⟨hl, hk⟩ := hb
  obtain ⟨ht, hl2⟩ := less_get hl
  obtain ⟨o1, o2⟩ := two_out ht
  have hdm : Dom a b c d := ⟨(okB_out o1).1, by have := (okB_out o2).1; omega, hl2⟩
  have e2 : btD a b c d = (btA a b c d).2 := by unfold btD; rw [h]; rfl
  obtain ⟨_, _, _, least⟩ := btA_between hdm (okB_out o2).1 (x := (btA a b c d).1) (y := (btA a b c d).2) rfl
  obtain ⟨p1, p2, p3⟩ := red_parts hr hm
  cases h2 : lessB (redN k m) (redD k m) c d with
  | false => rfl
  | true =>
    exfalso
    obtain ⟨t1, l1⟩ := less_get h1
    obtain ⟨t2, l2⟩ := less_get h2
    have o3 := (two_out t1).2
    obtain ⟨r1, _⟩ := okB_out o3
    have := least (redN k m) (redD k m) r1 l1 l2
    have h3 : redD k m ≤ m := by
      have h4 : 1 * redD k m ≤ gcdi k m * redD k m := Int.mul_le_mul_of_nonneg_right (by omega) (by omega)
      omega
    omega
end Go.Proofs.Ytmlnabgmibhfhab.RM
