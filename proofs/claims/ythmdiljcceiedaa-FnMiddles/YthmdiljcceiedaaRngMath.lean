/- Ranges of fractions, without any program: what both sides answer is one. -/
import Derived.Test.YthmdiljcceiedaaOrderMath
import Derived.Test.YthmdiljcceiedaaFromMath
import Derived.Test.YthmdiljcceiedaaFracMath
namespace Go.Proofs.Ythmdiljcceiedaa
open Go.Proofs.Ythmdiljcceiedaa.RM

abbrev P7 := Int × Int
def ok7 (p : P7) : Bool := okB p.1 p.2
def le7 (p q : P7) : Bool := lessB p.1 p.2 q.1 q.2
def lst7 (p q : P7) : P7 := if le7 q p = true then q else p
def mst7 (p q : P7) : P7 := if le7 p q = true then q else p
/-- are these the ends of a range? -/
def rng7 (p q : P7) : Bool := ok7 p && ok7 q && !le7 q p
def addF (p q : P7) : P7 := (opN (two p.1 p.2 q.1 q.2) (p.1 * q.2 + q.1 * p.2) (p.2 * q.2), opD (two p.1 p.2 q.1 q.2) (p.1 * q.2 + q.1 * p.2) (p.2 * q.2))
def addG (p q : P7) : Bool := opOk (two p.1 p.2 q.1 q.2) (p.1 * q.2 + q.1 * p.2) (p.2 * q.2)
def subF (p q : P7) : P7 := (opN (two p.1 p.2 q.1 q.2) (p.1 * q.2 - q.1 * p.2) (p.2 * q.2), opD (two p.1 p.2 q.1 q.2) (p.1 * q.2 - q.1 * p.2) (p.2 * q.2))
def subG (p q : P7) : Bool := opOk (two p.1 p.2 q.1 q.2) (p.1 * q.2 - q.1 * p.2) (p.2 * q.2)
def mulF (p q : P7) : P7 := (opN (two p.1 p.2 q.1 q.2) (p.1 * q.1) (p.2 * q.2), opD (two p.1 p.2 q.1 q.2) (p.1 * q.1) (p.2 * q.2))
def mulG (p q : P7) : Bool := opOk (two p.1 p.2 q.1 q.2) (p.1 * q.1) (p.2 * q.2)
/-- an answer: two ends and whether there are any -/
abbrev A7 := P7 × P7 × Bool
def no7 : A7 := ((0, 0), (0, 0), false)
/-- the ends of a list, from these on -/
def ends7 (lo hi : P7) : List P7 → A7
  | [] => (lo, hi, true)
  | v :: vs => if ok7 v = true then ends7 (lst7 lo v) (mst7 hi v) vs else no7
def within7 (p q v : P7) : Bool := rng7 p q && ok7 v && !le7 v p && !le7 q v
def radd (a b c d : P7) : A7 := if (rng7 a b && rng7 c d && addG a c && addG b d) = true then (addF a c, addF b d, true) else no7
def rmul (a b c d : P7) : A7 := if (rng7 a b && rng7 c d && mulG a c && mulG a d && mulG b c && mulG b d) = true then (lst7 (lst7 (mulF a c) (mulF a d)) (lst7 (mulF b c) (mulF b d)), mst7 (mst7 (mulF a c) (mulF a d)) (mst7 (mulF b c) (mulF b d)), true) else no7
def rmeet (a b c d : P7) : A7 := if (rng7 a b && rng7 c d && rng7 (mst7 a c) (lst7 b d)) = true then (mst7 a c, lst7 b d, true) else no7

/-- the number that a fraction is -/
def v7 (p : P7) : Rat := Rat.divInt p.1 p.2
theorem ok7_pos {p : P7} (h : ok7 p = true) : 0 < p.2 := by have := okB_out h; omega
theorem ok7_null : ok7 (0, 0) = false := by decide
theorem pos7 {a b : Int} (hb : 0 < b) : 0 < Rat.divInt a b ↔ 0 < a := by
  have h1 := Rat.divInt_nonneg_iff_of_pos_right (a := -a) hb
  rw [← Rat.neg_divInt a b] at h1
  constructor
  · intro h
    by_cases k : 0 < a
    · exact k
    · have := h1.2 (by omega)
      grind
  · intro h
    by_cases k : 0 < Rat.divInt a b
    · exact k
    · have := h1.1 (by grind)
      omega
theorem le7_iff {p q : P7} (hp : ok7 p = true) (hq : ok7 q = true) : le7 p q = true ↔ v7 p < v7 q := by
  have hp0 := ok7_pos hp
  have hq0 := ok7_pos hq
  have ht : two p.1 p.2 q.1 q.2 = true := two_yes hp hq
  have e : v7 q - v7 p = Rat.divInt (q.1 * p.2 - p.1 * q.2) (q.2 * p.2) := Rat.divInt_sub_divInt _ _ (by omega) (by omega)
  have h := pos7 (a := q.1 * p.2 - p.1 * q.2) (Int.mul_pos hq0 hp0)
  rw [← e] at h
  unfold le7 lessB
  rw [ht, Bool.true_and, decide_eq_true_iff, Rat.lt_iff_sub_pos, h]
  omega
theorem le7_no {p q : P7} (hp : ok7 p = true) (hq : ok7 q = true) : le7 p q = false ↔ v7 q ≤ v7 p := by
  have h := le7_iff hp hq
  rw [← Bool.not_eq_true, h]
  grind
theorem v7_inj {p q : P7} (hp : ok7 p = true) (hq : ok7 q = true) (h : v7 p = v7 q) : p = q := by
  have hp0 := ok7_pos hp
  have hq0 := ok7_pos hq
  unfold v7 at h
  rw [Rat.divInt_eq_divInt_iff (by omega) (by omega)] at h
  obtain ⟨e1, e2⟩ := okB_eq hp hq h
  exact Prod.ext e1 e2
theorem v7_red {x y : Int} (h : redOk x y = true) : v7 (redN x y, redD x y) = Rat.divInt x y := by
  obtain ⟨h1, h2, h3⟩ := red_sg h
  have hb := okB_out (okB_redN h)
  have hy : y ≠ 0 := by
    intro h0
    have h4 : sg x y * redD x y = 0 := by rw [h3]; exact h0
    rcases Int.mul_eq_zero.1 h4 with k | k
    · exact h1 k
    · omega
  unfold v7
  rw [Rat.divInt_eq_divInt_iff (by show redD x y ≠ 0; omega) hy]
  show redN x y * y = x * redD x y
  obtain ⟨p, hp⟩ : ∃ p, p = redN x y := ⟨_, rfl⟩
  obtain ⟨q, hq⟩ : ∃ q, q = redD x y := ⟨_, rfl⟩
  obtain ⟨s, hs⟩ : ∃ s, s = sg x y := ⟨_, rfl⟩
  rw [← hp, ← hs] at h2
  rw [← hq, ← hs] at h3
  rw [← hp, ← hq]
  clear hp hq hs h1 hb hy h
  grind
theorem op7 {p q : P7} {x y : Int} (h : opOk (two p.1 p.2 q.1 q.2) x y = true) : ok7 p = true ∧ ok7 q = true ∧ ok7 (opN (two p.1 p.2 q.1 q.2) x y, opD (two p.1 p.2 q.1 q.2) x y) = true ∧ v7 (opN (two p.1 p.2 q.1 q.2) x y, opD (two p.1 p.2 q.1 q.2) x y) = Rat.divInt x y := by
  have hr := op_right h
  obtain ⟨t, h2, h3, h4⟩ := op_true h
  obtain ⟨t1, t2⟩ := two_out t
  exact ⟨t1, t2, hr, by rw [h3, h4]; exact v7_red h2⟩
theorem addF_yes {p q : P7} (h : addG p q = true) : ok7 (addF p q) = true ∧ v7 (addF p q) = v7 p + v7 q := by
  obtain ⟨h1, h2, h3, h4⟩ := op7 (p := p) (q := q) h
  refine ⟨h3, h4.trans ?_⟩
  have := ok7_pos h1
  have := ok7_pos h2
  unfold v7
  rw [Rat.divInt_add_divInt _ _ (by omega) (by omega)]
theorem mulF_yes {p q : P7} (h : mulG p q = true) : ok7 (mulF p q) = true ∧ v7 (mulF p q) = v7 p * v7 q := by
  obtain ⟨h1, h2, h3, h4⟩ := op7 (p := p) (q := q) h
  refine ⟨h3, h4.trans ?_⟩
  unfold v7
  rw [Rat.divInt_mul_divInt]
theorem addF_no {p q : P7} (h : addG p q = false) : addF p q = (0, 0) := by unfold addF; rw [(op_zero h).1, (op_zero h).2]
theorem mulF_no {p q : P7} (h : mulG p q = false) : mulF p q = (0, 0) := by unfold mulF; rw [(op_zero h).1, (op_zero h).2]
theorem ok_addF (p q : P7) : ok7 (addF p q) = addG p q := by
  cases h : addG p q
  · rw [addF_no h]; exact ok7_null
  · exact (addF_yes h).1
theorem ok_mulF (p q : P7) : ok7 (mulF p q) = mulG p q := by
  cases h : mulG p q
  · rw [mulF_no h]; exact ok7_null
  · exact (mulF_yes h).1
theorem lst7_ok {p q : P7} (hp : ok7 p = true) (hq : ok7 q = true) : ok7 (lst7 p q) = true := by unfold lst7; split <;> assumption
theorem mst7_ok {p q : P7} (hp : ok7 p = true) (hq : ok7 q = true) : ok7 (mst7 p q) = true := by unfold mst7; split <;> assumption
theorem lst7_v {p q : P7} (hp : ok7 p = true) (hq : ok7 q = true) : v7 (lst7 p q) ≤ v7 p ∧ v7 (lst7 p q) ≤ v7 q ∧ (v7 (lst7 p q) = v7 p ∨ v7 (lst7 p q) = v7 q) := by
  have h := le7_iff hq hp
  unfold lst7
  split
  · rename_i k; rw [h] at k; grind
  · rename_i k; rw [h] at k; grind
theorem mst7_v {p q : P7} (hp : ok7 p = true) (hq : ok7 q = true) : v7 p ≤ v7 (mst7 p q) ∧ v7 q ≤ v7 (mst7 p q) ∧ (v7 (mst7 p q) = v7 p ∨ v7 (mst7 p q) = v7 q) := by
  have h := le7_iff hp hq
  unfold mst7
  split
  · rename_i k; rw [h] at k; grind
  · rename_i k; rw [h] at k; grind
theorem lst7_assoc {p q r : P7} (hp : ok7 p = true) (hq : ok7 q = true) (hr : ok7 r = true) : lst7 (lst7 p q) r = lst7 p (lst7 q r) := by
  have a := lst7_v hp hq
  have b := lst7_v (lst7_ok hp hq) hr
  have c := lst7_v hq hr
  have d := lst7_v hp (lst7_ok hq hr)
  exact v7_inj (lst7_ok (lst7_ok hp hq) hr) (lst7_ok hp (lst7_ok hq hr)) (by grind)
theorem mst7_assoc {p q r : P7} (hp : ok7 p = true) (hq : ok7 q = true) (hr : ok7 r = true) : mst7 (mst7 p q) r = mst7 p (mst7 q r) := by
  have a := mst7_v hp hq
  have b := mst7_v (mst7_ok hp hq) hr
  have c := mst7_v hq hr
  have d := mst7_v hp (mst7_ok hq hr)
  exact v7_inj (mst7_ok (mst7_ok hp hq) hr) (mst7_ok hp (mst7_ok hq hr)) (by grind)
theorem le7_same (p : P7) : le7 p p = false := less_same _ _
theorem lst7_same (p : P7) : lst7 p p = p := by unfold lst7; rw [le7_same]; rfl
theorem mst7_same (p : P7) : mst7 p p = p := by unfold mst7; rw [le7_same]; rfl
theorem rng7_out {p q : P7} (h : rng7 p q = true) : ok7 p = true ∧ ok7 q = true ∧ v7 p ≤ v7 q := by
  unfold rng7 at h
  simp only [Bool.and_eq_true, Bool.not_eq_true'] at h
  exact ⟨h.1.1, h.1.2, (le7_no h.1.2 h.1.1).1 h.2⟩
theorem rng7_mk {p q : P7} (h1 : ok7 p = true) (h2 : ok7 q = true) (h : v7 p ≤ v7 q) : rng7 p q = true := by
  unfold rng7
  rw [h1, h2, (le7_no h2 h1).2 h]; rfl
theorem ends2 (p q : P7) : ends7 p p [p, q] = if (ok7 p && ok7 q) = true then (lst7 p q, mst7 p q, true) else no7 := by
  unfold ends7 ends7 ends7
  rw [lst7_same, mst7_same]
  cases ok7 p <;> cases ok7 q <;> rfl
theorem ends4 (p q r s : P7) : ends7 p p [p, q, r, s] = if (ok7 p && ok7 q && ok7 r && ok7 s) = true then (lst7 (lst7 p q) (lst7 r s), mst7 (mst7 p q) (mst7 r s), true) else no7 := by
  unfold ends7 ends7 ends7 ends7 ends7
  rw [lst7_same, mst7_same]
  cases hp : ok7 p
  · rfl
  cases hq : ok7 q
  · rfl
  cases hr : ok7 r
  · rfl
  cases hs : ok7 s
  · rfl
  rw [lst7_assoc (lst7_ok hp hq) hr hs, mst7_assoc (mst7_ok hp hq) hr hs]
  rfl
theorem radd_prog {a b c d : P7} (h1 : rng7 a b = true) (h2 : rng7 c d = true) : ends7 (addF a c) (addF a c) [addF a c, addF b d] = radd a b c d := by
  obtain ⟨-, -, k1⟩ := rng7_out h1
  obtain ⟨-, -, k2⟩ := rng7_out h2
  rw [ends2, ok_addF, ok_addF]
  unfold radd
  rw [h1, h2]
  cases ha : addG a c
  · rfl
  cases hb : addG b d
  · rfl
  obtain ⟨o1, e1⟩ := addF_yes ha
  obtain ⟨o2, e2⟩ := addF_yes hb
  have hle : v7 (addF a c) ≤ v7 (addF b d) := by rw [e1, e2]; grind
  have hn := (le7_no o2 o1).2 hle
  have e3 : lst7 (addF a c) (addF b d) = addF a c := by unfold lst7; rw [hn]; rfl
  have e4 : mst7 (addF a c) (addF b d) = addF b d := by
    unfold mst7
    split
    · rfl
    · rename_i k
      exact v7_inj o1 o2 (by have := (le7_no o1 o2).1 (by simpa using k); grind)
  rw [e3, e4]; rfl
theorem rmul_prog {a b c d : P7} (h1 : rng7 a b = true) (h2 : rng7 c d = true) : ends7 (mulF a c) (mulF a c) [mulF a c, mulF a d, mulF b c, mulF b d] = rmul a b c d := by
  rw [ends4, ok_mulF, ok_mulF, ok_mulF, ok_mulF]
  unfold rmul
  rw [h1, h2]
  rfl
theorem radd_no {a b c d : P7} (h : (rng7 a b && rng7 c d) = false) : radd a b c d = no7 := by unfold radd; rw [h]; rfl
theorem rmul_no {a b c d : P7} (h : (rng7 a b && rng7 c d) = false) : rmul a b c d = no7 := by unfold rmul; rw [h]; rfl
theorem rmeet_no {a b c d : P7} (h : (rng7 a b && rng7 c d) = false) : rmeet a b c d = no7 := by unfold rmeet; rw [h]; rfl
theorem rng7_null (q : P7) : rng7 (0, 0) q = false := by unfold rng7; rw [ok7_null]; rfl
theorem rng7_null2 (q : P7) : rng7 q (0, 0) = false := by unfold rng7; rw [ok7_null]; cases ok7 q <;> rfl
/-- the program's way to the common part -/
theorem rmeet_prog (a b c d : P7) : (if rng7 (ends7 a a [a, c]).2.1 (ends7 b b [b, d]).1 = true then ((ends7 a a [a, c]).2.1, (ends7 b b [b, d]).1, true) else no7) = rmeet a b c d := by
  rw [ends2, ends2]
  cases ha : ok7 a && ok7 c
  · have hn : (rng7 a b && rng7 c d) = false := by
      unfold rng7
      cases h1 : ok7 a
      · rfl
      · rw [h1, Bool.true_and] at ha
        rw [ha]; simp
    rw [rmeet_no hn]
    simp only [no7, Bool.false_eq_true, if_false]
    rw [rng7_null]; rfl
  cases hb : ok7 b && ok7 d
  · have hn : (rng7 a b && rng7 c d) = false := by
      unfold rng7
      cases h1 : ok7 b
      · simp
      · rw [h1, Bool.true_and] at hb
        rw [hb]; simp
    rw [rmeet_no hn]
    simp only [no7, Bool.false_eq_true, if_false, if_true]
    rw [rng7_null2]; rfl
  simp only [if_true]
  rw [Bool.and_eq_true] at ha hb
  have m1 := mst7_v ha.1 ha.2
  have m2 := lst7_v hb.1 hb.2
  unfold rmeet
  cases hr : rng7 (mst7 a c) (lst7 b d)
  · simp
  · obtain ⟨-, -, hle⟩ := rng7_out hr
    have g1 := rng7_mk ha.1 hb.1 (by grind)
    have g2 := rng7_mk ha.2 hb.2 (by grind)
    rw [g1, g2]; simp
end Go.Proofs.Ythmdiljcceiedaa
