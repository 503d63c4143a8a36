/- Several texts of this proof laid one behind the other: each has its own heading below. -/
import Derived.Test.YthmdiljcceiedaaAgrP5
import Derived.Test.YthmdiljcceiedaaAgrW6
import Derived.Test.YthmdiljcceiedaaRowsR
import Derived.Test.YthmdiljcceiedaaRowsW
import Derived.Test.YthmdiljcceiedaaRatioW1

/- The middle of a list: what lies below it and above it, what is added to all, what lies outside; without any program. -/
namespace Go.Proofs.Ythmdiljcceiedaa
open Go.RowKit Go.Proofs.Ythmdiljcceiedaa.RM

theorem fr_ok {l : List Fr} (h : ∀ p ∈ l, ok7 p = true) {i : Nat} (hi : i < l.length) : ok7 (fr l i) = true := by
  unfold fr
  rw [List.getElem?_eq_getElem hi]
  exact h _ (List.getElem_mem _)
theorem srt_le {l : List Fr} (h : l.Pairwise leF) {i j : Nat} (hij : i ≤ j) (hj : j < l.length) : v7 (fr l i) ≤ v7 (fr l j) := by
  by_cases e : i = j
  · subst e; exact Rat.le_refl
  · have := (List.pairwise_iff_getElem.1 h) i j (by omega) hj (by omega)
    unfold fr
    rw [List.getElem?_eq_getElem (by omega), List.getElem?_eq_getElem hj]
    exact this
theorem midO_out {ls : List Fr} (h : midO ls = true) : (1 ≤ ls.length ∧ ls.length ≤ 12) ∧ allOk ls = true ∧ midA ls = (mdlV (srtR ls ls.length) ls.length).1 ∧ (mdlV (srtR ls ls.length) ls.length).2 = false := by
  have h1 := h
  unfold midO at h1
  rw [Bool.and_eq_true] at h1
  obtain ⟨h2, h3⟩ := h1
  unfold midC at h2
  rw [Bool.and_eq_true, decide_eq_true_eq] at h2
  exact ⟨h2.1, h2.2, midA_yes h, by simpa using h3⟩
/-- the half of a sum -/
theorem half_val {s t : Fr} (h : (hlfV s t).2 = false) : ok7 (hlfV s t).1 = true ∧ v7 (hlfV s t).1 * 2 = v7 s + v7 t := by
  obtain ⟨k1, k2⟩ := hlf_prog s t
  rw [h] at k1
  have hk : divK (addP s t) (2, 1) = true := by simpa using k1.symm
  rw [k2 hk]
  have ha : addK s t = true := by
    cases q : addK s t
    · rw [addP_no q, divK_zero] at hk; cases hk
    · rfl
  have ho := op7 (p := s) (q := t) ha
  have a1 : ok7 (addP s t) = true := ho.2.2.1
  have a2 : v7 (addP s t) = v7 s + v7 t := (addF_yes (p := s) (q := t) ha).2
  have hd := op7 (p := addP s t) (q := (2, 1)) hk
  refine ⟨hd.2.2.1, ?_⟩
  rw [← a2]
  have e : v7 (divP (addP s t) (2, 1)) = Rat.divInt ((addP s t).1 * 1) ((addP s t).2 * 2) := hd.2.2.2
  rw [e]
  have hpos : 0 < (addP s t).2 := ok7_pos a1
  unfold v7
  rw [show (2 : Rat) = Rat.divInt 2 1 by decide, Rat.divInt_mul_divInt, Int.mul_one, Int.mul_one]
  exact Rat.divInt_mul_right (by decide)
/-- the first half is not above the middle, the second one not below -/
theorem mid_split {ls : List Fr} (h : midO ls = true) : ok7 (midA ls) = true ∧ (∀ i, i < ls.length - ls.length / 2 → v7 (fr (srtR ls ls.length) i) ≤ v7 (midA ls)) ∧ ∀ i, ls.length / 2 ≤ i → i < ls.length → v7 (midA ls) ≤ v7 (fr (srtR ls ls.length) i) := by
  obtain ⟨⟨l1, l2⟩, hok, hA, hO⟩ := midO_out h
  have hs := srtR_sort hok ls.length (Nat.le_refl _)
  have hl := srtR_len ls ls.length
  have hoS := srtR_ok hok ls.length (Nat.le_refl _)
  obtain ⟨S, hS⟩ : ∃ S, S = srtR ls ls.length := ⟨_, rfl⟩
  rw [← hS] at hs hl hoS hA hO ⊢
  unfold mdlV at hA hO
  by_cases e : ls.length % 2 = 1
  · rw [if_pos e] at hA
    rw [hA]
    refine ⟨fr_ok hoS (by omega), fun i hi => srt_le hs (by omega) (by omega), fun i hi hi2 => srt_le hs hi (by omega)⟩
  · rw [if_neg e] at hA hO
    obtain ⟨q1, q2⟩ := half_val hO
    rw [← hA] at q1 q2
    have h12 := srt_le hs (show ls.length / 2 - 1 ≤ ls.length / 2 by omega) (by omega)
    refine ⟨q1, fun i hi => ?_, fun i hi hi2 => ?_⟩
    · have := srt_le hs (show i ≤ ls.length / 2 - 1 by omega) (by omega)
      grind
    · have := srt_le hs hi (by omega)
      grind
theorem count_front {p : Fr → Bool} {l : List Fr} {t : Nat} (h : ∀ i, t ≤ i → i < l.length → p (fr l i) = false) : l.countP p ≤ t := by
  have e : l = l.take t ++ l.drop t := (List.take_append_drop t l).symm
  rw [e, List.countP_append]
  have h2 : (l.drop t).countP p = 0 := by
    rw [List.countP_eq_zero]
    intro x hx
    obtain ⟨k, hk, q⟩ := List.mem_iff_getElem.1 hx
    rw [List.length_drop] at hk
    have := h (t + k) (by omega) (by omega)
    rw [← q]
    have e2 : fr l (t + k) = (l.drop t)[k]'(by rw [List.length_drop]; omega) := by
      unfold fr
      rw [List.getElem?_eq_getElem (by omega)]
      simp
    rw [e2] at this
    rw [this]; decide
  have h3 : (l.take t).countP p ≤ (l.take t).length := List.countP_le_length
  rw [List.length_take] at h3
  omega
theorem count_back {p : Fr → Bool} {l : List Fr} {t : Nat} (h : ∀ i, i < t → p (fr l i) = false) : l.countP p ≤ l.length - t := by
  have e : l = l.take t ++ l.drop t := (List.take_append_drop t l).symm
  have hc : l.countP p = (l.take t).countP p + (l.drop t).countP p := by rw [← List.countP_append, ← e]
  have h2 : (l.take t).countP p = 0 := by
    rw [List.countP_eq_zero]
    intro x hx
    obtain ⟨k, hk, q⟩ := List.mem_iff_getElem.1 hx
    rw [List.length_take] at hk
    have := h k (by omega)
    rw [← q]
    have e2 : fr l k = (l.take t)[k]'(by rw [List.length_take]; omega) := by
      unfold fr
      rw [List.getElem?_eq_getElem (by omega)]
      simp
    rw [e2] at this
    rw [this]; decide
  have h3 : (l.drop t).countP p ≤ (l.drop t).length := List.countP_le_length
  rw [List.length_drop] at h3
  omega
/-- at most half lie below the middle, at most half above any number that is not below it -/
theorem mid_half {ls : List Fr} (h : midO ls = true) : 2 * ls.countP (fun x => le7 x (midA ls)) ≤ ls.length ∧ ∀ f, ok7 f = true → v7 (midA ls) ≤ v7 f → 2 * ls.countP (fun x => le7 f x) ≤ ls.length := by
  obtain ⟨m1, m2, m3⟩ := mid_split h
  obtain ⟨⟨l1, l2⟩, hok, _, _⟩ := midO_out h
  have hl := srtR_len ls ls.length
  have hoS := srtR_ok hok ls.length (Nat.le_refl _)
  have hp := srtR_all ls
  refine ⟨?_, fun f hf hmf => ?_⟩
  · rw [← hp.countP_eq]
    have : (srtR ls ls.length).countP (fun x => le7 x (midA ls)) ≤ ls.length / 2 := count_front (p := fun x => le7 x (midA ls)) (l := srtR ls ls.length) (t := ls.length / 2) (fun i hi hi2 => (le7_no (fr_ok hoS hi2) m1).2 (m3 i hi (by omega)))
    omega
  · rw [← hp.countP_eq]
    have : (srtR ls ls.length).countP (fun x => le7 f x) ≤ (srtR ls ls.length).length - (ls.length - ls.length / 2) := count_back (p := fun x => le7 f x) (l := srtR ls ls.length) (t := ls.length - ls.length / 2) (fun i hi => (le7_no hf (fr_ok hoS (by omega))).2 (Rat.le_trans (m2 i hi) hmf))
    omega
/-- all not below 0: the middle, too -/
theorem mid_nonneg {ls : List Fr} (h : midO ls = true) (h0 : ∀ p ∈ ls, 0 ≤ v7 p) : 0 ≤ v7 (midA ls) := by
  obtain ⟨_, m2, _⟩ := mid_split h
  obtain ⟨⟨l1, l2⟩, hok, _, _⟩ := midO_out h
  have hl := srtR_len ls ls.length
  have hm : fr (srtR ls ls.length) 0 ∈ ls := by
    refine (srtR_all ls).mem_iff.1 ?_
    unfold fr
    rw [List.getElem?_eq_getElem (by omega)]
    exact List.getElem_mem _
  exact Rat.le_trans (h0 _ hm) (m2 0 (by omega))
/-- what is outside, counted -/
theorem outL_count (fs : List Fr) (f : Fr) : ∀ k, k ≤ fs.length → (outL fs f k).length = (fs.take k).countP (fun x => le7 f x)
  | 0, _ => by simp [outL]
  | k + 1, hk => by
    have ih := outL_count fs f k (by omega)
    have e : fs.take (k + 1) = fs.take k ++ [fr fs k] := by
      rw [List.take_add_one]
      simp [fr, List.getElem?_eq_getElem (show k < fs.length by omega)]
    rw [e, List.countP_append, ← ih]
    have hd : outL fs f (k + 1) = if lessB f.1 f.2 (fr fs k).1 (fr fs k).2 = true then outL fs f k ++ [(k : Int)] else outL fs f k := rfl
    rw [hd]
    by_cases q : lessB f.1 f.2 (fr fs k).1 (fr fs k).2 = true
    · have q' : le7 f (fr fs k) = true := q
      rw [if_pos q]; simp [q']
    · have q' : le7 f (fr fs k) = false := by rw [Bool.not_eq_true] at q; exact q
      rw [if_neg q]; simp [q']
/-- they rise, and each is the number of one -/
theorem outL_rise (fs : List Fr) (f : Fr) : ∀ k, (∀ x ∈ outL fs f k, 0 ≤ x ∧ x < k) ∧ (outL fs f k).Pairwise (fun a b => a < b)
  | 0 => ⟨fun x hx => (by cases hx), List.Pairwise.nil⟩
  | k + 1 => by
    obtain ⟨h1, h2⟩ := outL_rise fs f k
    have hd : outL fs f (k + 1) = if lessB f.1 f.2 (fr fs k).1 (fr fs k).2 = true then outL fs f k ++ [(k : Int)] else outL fs f k := rfl
    rw [hd]
    split
    · refine ⟨fun x hx => ?_, List.pairwise_append.2 ⟨h2, List.pairwise_singleton _ _, fun a ha b hb => ?_⟩⟩
      · rcases List.mem_append.1 hx with hx | hx
        · have := h1 x hx; omega
        · rw [List.mem_singleton] at hx; omega
      · rw [List.mem_singleton] at hb; rw [hb]; exact (h1 a ha).2
    · exact ⟨fun x hx => by have := h1 x hx; omega, h2⟩
theorem absF_val {p : Fr} (h : ok7 p = true) : ok7 (absF p) = true ∧ 0 ≤ v7 (absF p) := by
  obtain ⟨a, b⟩ := p
  have hb : 0 < b := ok7_pos h
  by_cases q : a < 0
  · rw [absF_neg q]
    refine ⟨?_, ?_⟩
    · obtain ⟨h1, h2, h3, h4, h5⟩ := okB_out h
      exact okB_mk ⟨h1, h2, by omega, by omega, by rw [gcdi_neg_l]; exact h5⟩
    · exact Rat.not_lt.1 fun k => by
        have : (0 : Rat) < Rat.divInt (-a) b := (pos7 hb).2 (by omega)
        exact Rat.not_le.2 this (Rat.le_of_lt k)
  · rw [absF_pos q]
    refine ⟨h, ?_⟩
    by_cases z : a = 0
    · subst z
      show (0 : Rat) ≤ Rat.divInt 0 b
      rw [Rat.zero_divInt]; exact Rat.le_refl
    · exact Rat.le_of_lt ((pos7 hb).2 (by omega))
theorem far_nonneg {ls : List Fr} (h : farO ls = true) : ∀ p ∈ farA ls, 0 ≤ v7 p := by
  intro p hp
  have h1 := h
  unfold farO at h1
  rw [Bool.and_eq_true] at h1
  have hg := farV_good ls (midA ls) ls.length (by simpa using h1.2)
  unfold farA at hp
  rw [if_pos h1.1, farV_at ls _ _ (Nat.le_refl _), List.mem_map] at hp
  obtain ⟨i, hi, rfl⟩ := hp
  rw [List.mem_range] at hi
  rw [s1V_yes (hg i hi)]
  exact (absF_val (op7 (hg i hi)).2.2.1).2
theorem spr_nonneg {ls : List Fr} (h : sprO ls = true) : ok7 (sprA ls) = true ∧ 0 ≤ v7 (sprA ls) ∧ 0 ≤ (sprA ls).1 := by
  have hf := sprO_far h
  have hm : midO (farA ls) = true := by unfold sprO at h; rw [Bool.and_eq_true] at h; exact h.2
  have e : sprA ls = midA (farA ls) := by unfold sprA; rw [if_pos hf]
  rw [e]
  have k1 := (mid_split hm).1
  have k2 := mid_nonneg hm (far_nonneg hf)
  refine ⟨k1, k2, ?_⟩
  have hb := ok7_pos k1
  by_cases q : (midA (farA ls)).1 < 0
  · exfalso
    have : (0 : Rat) < Rat.divInt (-(midA (farA ls)).1) (midA (farA ls)).2 := (pos7 hb).2 (by omega)
    rw [← Rat.neg_divInt] at this
    unfold v7 at k2
    grind
  · omega
/-- WHAT THE LAW ASKS of what lies outside -/
theorem out_law (ls : List Fr) (t : Int) : (∀ i, i < (outA ls t).length → 0 ≤ (outA ls t)[i]?.getD 0 ∧ (outA ls t)[i]?.getD 0 < ls.length ∧ (0 < i → (outA ls t)[i - 1]?.getD 0 < (outA ls t)[i]?.getD 0)) ∧ (1 ≤ t → 2 * (outA ls t).length ≤ ls.length) := by
  by_cases hc : outC ls t = true
  · have e : outA ls t = outL (farA ls) (mulP (t, 1) (sprA ls)) ls.length := by unfold outA; rw [if_pos hc]
    have hc' := hc
    unfold outC at hc'
    rw [Bool.and_eq_true, Bool.and_eq_true, decide_eq_true_eq] at hc'
    obtain ⟨c1, c2, c3⟩ := hc'
    have hf := sprO_far c1
    have hfl := farA_len hf
    rw [e]
    obtain ⟨r1, r2⟩ := outL_rise (farA ls) (mulP (t, 1) (sprA ls)) ls.length
    refine ⟨fun i hi => ?_, fun ht => ?_⟩
    · have g : (outL (farA ls) (mulP (t, 1) (sprA ls)) ls.length)[i]?.getD 0 = (outL (farA ls) (mulP (t, 1) (sprA ls)) ls.length)[i] := by rw [List.getElem?_eq_getElem hi]; rfl
      have hm := r1 _ (List.getElem_mem hi)
      rw [g]
      refine ⟨hm.1, hm.2, fun h0 => ?_⟩
      have g2 : (outL (farA ls) (mulP (t, 1) (sprA ls)) ls.length)[i - 1]?.getD 0 = (outL (farA ls) (mulP (t, 1) (sprA ls)) ls.length)[i - 1]'(by omega) := by rw [List.getElem?_eq_getElem (by omega)]; rfl
      rw [g2]
      exact (List.pairwise_iff_getElem.1 r2) (i - 1) i (by omega) hi (by omega)
    · have hm : midO (farA ls) = true := by unfold sprO at c1; rw [Bool.and_eq_true] at c1; exact c1.2
      have es : sprA ls = midA (farA ls) := by unfold sprA; rw [if_pos hf]
      obtain ⟨s1, s2, _⟩ := spr_nonneg c1
      have ho := op7 (p := (t, 1)) (q := sprA ls) c3
      have hv := mulF_yes (p := (t, 1)) (q := sprA ls) c3
      have hv2 : v7 (mulP (t, 1) (sprA ls)) = v7 (t, 1) * v7 (sprA ls) := hv.2
      have hle : v7 (midA (farA ls)) ≤ v7 (mulP (t, 1) (sprA ls)) := by
        rw [hv2, ← es]
        have ht1 : (1 : Rat) ≤ v7 (t, 1) := by
          have h1 : le7 (t, 1) (1, 1) = false := by
            unfold le7 lessB
            rw [Bool.and_eq_false_iff]
            exact Or.inr (by simp; omega)
          have := (le7_no ho.1 (by decide)).1 h1
          have e1 : v7 (1, 1) = 1 := by decide
          rwa [e1] at this
        have := Rat.mul_le_mul_of_nonneg_right ht1 s2
        rwa [Rat.one_mul] at this
      have hfin : 2 * (farA ls).countP (fun x => le7 (mulP (t, 1) (sprA ls)) x) ≤ (farA ls).length := (mid_half hm).2 (mulP (t, 1) (sprA ls)) hv.1 hle
      rw [outL_count _ _ _ (by omega)]
      have e2 : (farA ls).take ls.length = farA ls := by rw [← hfl.1, List.take_length]
      rw [e2]
      omega
  · have e : outA ls t = [] := by unfold outA; rw [if_neg hc]
    rw [e]
    exact ⟨fun i hi => by simp at hi, fun _ => by simp⟩
end Go.Proofs.Ythmdiljcceiedaa

/- The middle goes with what is added to all; what is counted, number by number. -/
namespace Go.Proofs.Ythmdiljcceiedaa
open Go.RowKit Go.Proofs.Ythmdiljcceiedaa.RM

theorem mid_val {ls : List Fr} (h : midO ls = true) : v7 (midA ls) * 2 = v7 (fr (srtR ls ls.length) ((ls.length - 1) / 2)) + v7 (fr (srtR ls ls.length) (ls.length / 2)) := by
  obtain ⟨⟨l1, l2⟩, hok, hA, hO⟩ := midO_out h
  unfold mdlV at hA hO
  by_cases e : ls.length % 2 = 1
  · rw [if_pos e] at hA
    rw [show (ls.length - 1) / 2 = ls.length / 2 by omega, hA]
    dsimp only
    grind
  · rw [if_neg e] at hA hO
    have q2 := (half_val hO).2
    rw [← hA] at q2
    rw [show (ls.length - 1) / 2 = ls.length / 2 - 1 by omega]
    exact q2
/-- a number added to all -/
def mrL (ls : List Fr) (c : Fr) : Nat → List Fr
  | 0 => []
  | k + 1 => mrL ls c k ++ [addP (fr ls k) c]
def mrG (ls : List Fr) (c : Fr) : Nat → Bool
  | 0 => true
  | k + 1 => mrG ls c k && addK (fr ls k) c
theorem mrL_len (ls : List Fr) (c : Fr) : ∀ k, (mrL ls c k).length = k
  | 0 => rfl
  | k + 1 => by show (mrL ls c k ++ [_]).length = _; rw [List.length_append, mrL_len ls c k]; rfl
theorem mrL_map (ls : List Fr) (c : Fr) : ∀ k, k ≤ ls.length → mrL ls c k = (ls.take k).map (fun x => addP x c)
  | 0, _ => by simp [mrL]
  | k + 1, hk => by
    have e : ls.take (k + 1) = ls.take k ++ [fr ls k] := by
      rw [List.take_add_one]
      simp [fr, List.getElem?_eq_getElem (show k < ls.length by omega)]
    show mrL ls c k ++ [_] = _
    rw [mrL_map ls c k (by omega), e, List.map_append]; rfl
theorem mrG_at (ls : List Fr) (c : Fr) : ∀ k, mrG ls c k = true → ∀ i, i < k → addK (fr ls i) c = true
  | 0, _, i, hi => by omega
  | k + 1, h, i, hi => by
    have h' : (mrG ls c k && addK (fr ls k) c) = true := h
    rw [Bool.and_eq_true] at h'
    by_cases e : i = k
    · subst e; exact h'.2
    · exact mrG_at ls c k h'.1 i (by omega)
theorem fr_map {l : List Fr} {f : Fr → Fr} {i : Nat} (h : i < l.length) : fr (l.map f) i = f (fr l i) := by
  unfold fr
  rw [List.getElem?_map, List.getElem?_eq_getElem h]; rfl
/-- THE MIDDLE GOES WITH WHAT IS ADDED -/
theorem mid_add {ls : List Fr} {c : Fr} (h : midO ls = true) (hg : mrG ls c ls.length = true) (h2 : midO (mrL ls c ls.length) = true) (h3 : addK (midA ls) c = true) : midA (mrL ls c ls.length) = addP (midA ls) c := by
  obtain ⟨⟨l1, l2⟩, hok, _, _⟩ := midO_out h
  obtain ⟨_, hok2, _, _⟩ := midO_out h2
  have hS := srtR_sort hok ls.length (Nat.le_refl _)
  have hl := srtR_len ls ls.length
  have hp := srtR_all ls
  have hm : mrL ls c ls.length = ls.map (fun x => addP x c) := by rw [mrL_map ls c _ (Nat.le_refl _), List.take_length]
  have hk : ∀ x ∈ ls, addK x c = true := fun x hx => by
    obtain ⟨i, hi, q⟩ := List.mem_iff_getElem.1 hx
    have := mrG_at ls c ls.length hg i hi
    rw [← q]
    have e : fr ls i = ls[i] := by unfold fr; rw [List.getElem?_eq_getElem hi]; rfl
    rwa [e] at this
  have hv : ∀ x ∈ ls, v7 (addP x c) = v7 x + v7 c := fun x hx => (addF_yes (p := x) (q := c) (hk x hx)).2
  have hmem : ∀ i, i < ls.length → fr (srtR ls ls.length) i ∈ ls := fun i hi => by
    refine hp.mem_iff.1 ?_
    unfold fr
    rw [List.getElem?_eq_getElem (by omega)]
    exact List.getElem_mem _
  have hsr : srtR (mrL ls c ls.length) (mrL ls c ls.length).length = (srtR ls ls.length).map (fun x => addP x c) := by
    refine (srt_one hok2 (by rw [hm]; exact hp.map _) ?_).symm
    rw [List.pairwise_map]
    refine List.pairwise_iff_getElem.2 fun i j hi hj hij => ?_
    have := (List.pairwise_iff_getElem.1 hS) i j hi hj hij
    have m1 := hp.mem_iff.1 (List.getElem_mem hi)
    have m2 := hp.mem_iff.1 (List.getElem_mem hj)
    show v7 (addP _ c) ≤ v7 (addP _ c)
    rw [hv _ m1, hv _ m2]
    have t : v7 (srtR ls ls.length)[i] ≤ v7 (srtR ls ls.length)[j] := this
    grind
  have e1 := mid_val h
  have e2 := mid_val h2
  rw [hsr, mrL_len, fr_map (by omega), fr_map (by omega), hv _ (hmem _ (by omega)), hv _ (hmem _ (by omega))] at e2
  have a1 := addF_yes (p := midA ls) (q := c) h3
  have a2 : v7 (addP (midA ls) c) = v7 (midA ls) + v7 c := a1.2
  refine v7_inj (mid_split h2).1 a1.1 ?_
  show _ = v7 (addP (midA ls) c)
  grind
/-- how many of the first k, counted -/
def ctN (ls : List Fr) (p : Fr → Bool) (k : Nat) : Nat := (ls.take k).countP p
theorem ctN_zero (ls : List Fr) (p : Fr → Bool) : ctN ls p 0 = 0 := by simp [ctN]
theorem ctN_step {ls : List Fr} {p : Fr → Bool} {k : Nat} (h : k < ls.length) : ctN ls p (k + 1) = if p (fr ls k) = true then ctN ls p k + 1 else ctN ls p k := by
  have e : ls.take (k + 1) = ls.take k ++ [fr ls k] := by
    rw [List.take_add_one]
    simp [fr, List.getElem?_eq_getElem h]
  unfold ctN
  rw [e, List.countP_append]
  by_cases q : p (fr ls k) = true
  · rw [if_pos q]; simp [q]
  · rw [if_neg q]; simp [q]
theorem ctN_le (ls : List Fr) (p : Fr → Bool) (k : Nat) : ctN ls p k ≤ k := by
  have h : (ls.take k).countP p ≤ (ls.take k).length := List.countP_le_length
  rw [List.length_take] at h
  unfold ctN
  omega
theorem ctN_all (ls : List Fr) (p : Fr → Bool) : ctN ls p ls.length = ls.countP p := by unfold ctN; rw [List.take_length]
end Go.Proofs.Ythmdiljcceiedaa

/- The walks of the laws' helpers that hold two lists against each other. -/
namespace Go.Proofs.Ythmdiljcceiedaa
open Go.RowKit Go.Proofs.Ythmdiljcceiedaa.RM

set_option maxRecDepth 100000 in
set_option maxHeartbeats 1000000 in
theorem likeI_same (v u : Value) (zs : List Int) (n b1 b2 : Nat) (w : World) (hn : zs.length = n) (hn2 : n ≤ 1000000000) (h1 : w.ownsRow b1 2 1 v n (zs.map (Value.int .i64))) (h2 : w.ownsRow b2 2 1 u n (zs.map (Value.int .i64))) :
    Calls Try.prog 12 #[v, u] w fun e w' => e = .returned (.bool true) ∧ ∃ m, w' = w.drewN m := by
  by_cases h0 : n = 0
  · obtain ⟨a, c, rfl⟩ := own_shape h1
    obtain ⟨a', c', rfl⟩ := own_shape h2
    subst h0
    clear h1 h2 hn
    go_enter Try.func12, Try.ntmps12
    go_wp2
    go_loop [5] (fun i => i = .int .i64 0) (fun _ => 0)
    case atStart => exact rfl
    case round =>
      subst hrel
      go_wp2
      go_ret
      exact ⟨rfl, 0, rfl⟩
  · obtain ⟨g, c, rfl⟩ := own_some h1 (by omega)
    obtain ⟨g', c', rfl⟩ := own_some h2 (by omega)
    have H1 : Hid (∀ j, j < n → w.cell? ⟨g, j, none⟩ = some (.int .i64 (zs[j]?.getD 0))) := fun j hj => own_int h1 hn j hj
    have H2 : Hid (∀ j, j < n → w.cell? ⟨g', j, none⟩ = some (.int .i64 (zs[j]?.getD 0))) := fun j hj => own_int h2 hn j hj
    clear h1 h2 hn h0
    go_enter Try.func12, Try.ntmps12
    go_wp2
    go_loopw [5] (fun i wr => ∃ k : Nat, k ≤ n ∧ i = .int .i64 k ∧ Hid (∃ m, wr = w.drewN m)) (fun i _ => n - (intOf i).toNat)
    case atStart => exact ⟨0, Nat.zero_le _, rfl, 0, rfl⟩
    case round =>
      obtain ⟨k, hk, rfl, hw⟩ := hrel
      obtain ⟨m, rfl⟩ := hw.out
      clear hw
      by_cases hlt : k < n
      · have c1 := H1.out k hlt
        have c2 := H2.out k hlt
        obtain ⟨x, hx⟩ : ∃ x, x = zs[k]?.getD 0 := ⟨_, rfl⟩
        rw [← hx] at c1 c2
        clear hx
        have ht : (x != x) = false := by simp
        go_wp2
        go_quiet (fail)
        go_wp2
        go_roundw
        case rel => exact ⟨k + 1, by omega, by go_num, m + nq, rfl⟩
        case measure => simp [intOf]; omega
      · go_wp2
        go_ret
        exact ⟨rfl, m, rfl⟩

end Go.Proofs.Ythmdiljcceiedaa

/- The walks of the laws' helpers over rows of whole numbers, whatever their blocks' type and wherever the marks begin. -/
namespace Go.Proofs.Ythmdiljcceiedaa
open Go.RowKit Go.Proofs.Ythmdiljcceiedaa.RM

/-- rows that lie apart: one stays where the other one is written -/
theorem own_sep {w w' : World} {base base' : Nat} {e e' : TypeId} {size size' : Nat} {v v' : Value} {n n' : Nat} {xs xs' : List Value} (h : w.ownsRow base e size v n xs) (_h' : w.ownsRow base' e' size' v' n' xs') (hne : ∀ k, v.ownBlock = some k → v'.ownBlock ≠ some k) (hg : w.grownBy w' v'.ownBlock) : w'.ownsRow base e size v n xs := by
  refine h.kept hg ?_
  by_cases k : v.ownBlock = none
  · exact .inl k
  · refine .inr fun e' => ?_
    obtain ⟨j, hj⟩ := Option.ne_none_iff_exists'.mp k
    exact hne j hj (e' ▸ hj)
theorem below_wrote {w w' : World} {B base : Nat} {e : TypeId} {size : Nat} {v : Value} {n : Nat} {xs : List Value} (h : w.ownsRow base e size v n xs) (hB : B ≤ base) (hs : B ≤ w.heap.size) (hg : w.grownBy w' v.ownBlock) : Below B w w' :=
  (Below.refl B w).grown hg hs (fun j ej => by have := (h.lt j ej).1; omega)

end Go.Proofs.Ythmdiljcceiedaa

/- The law's comparison of two lists of numbers, alike or not; what powers of dimensions are. -/
namespace Go.Proofs.Ythmdiljcceiedaa
open Go.RowKit Go.Proofs.Ythmdiljcceiedaa.RM

theorem hidJ {p : Prop} (h : p) : Hid p := h
set_option maxRecDepth 100000 in
set_option maxHeartbeats 1000000 in
theorem likeI_any (v u : Value) (zs ys : List Int) (b1 b2 : Nat) (e1 e2 : TypeId) (w : World) (hz : zs.length ≤ 1000000000) (hy : ys.length ≤ 1000000000) (h1 : w.ownsRow b1 e1 1 v zs.length (zs.map (Value.int .i64))) (h2 : w.ownsRow b2 e2 1 u ys.length (ys.map (Value.int .i64))) :
    Calls Try.prog 12 #[v, u] w fun e w' => e = .returned (.bool (decide (zs = ys))) ∧ Below w.heap.size w w' := by
  obtain ⟨n, hn⟩ : ∃ n, n = zs.length := ⟨_, rfl⟩
  obtain ⟨m, hm⟩ : ∃ m, m = ys.length := ⟨_, rfl⟩
  rw [← hn] at h1 hz
  rw [← hm] at h2 hy
  obtain ⟨a, c, rfl⟩ := own_shape h1
  obtain ⟨a', c', rfl⟩ := own_shape h2
  have H1 : Hid (∀ j, j < n → ∃ g, a = some ⟨g, 0, none⟩ ∧ w.cell? ⟨g, j, none⟩ = some (.int .i64 (zs[j]?.getD 0))) := by
    intro j hj
    obtain ⟨g, cc, e⟩ := own_some h1 (by omega)
    cases e
    exact ⟨g, rfl, own_int h1 hn.symm j hj⟩
  have H2 : Hid (∀ j, j < m → ∃ g, a' = some ⟨g, 0, none⟩ ∧ w.cell? ⟨g, j, none⟩ = some (.int .i64 (ys[j]?.getD 0))) := by
    intro j hj
    obtain ⟨g, cc, e⟩ := own_some h2 (by omega)
    cases e
    exact ⟨g, rfl, own_int h2 hm.symm j hj⟩
  have HN := hidJ hn
  have HM := hidJ hm
  clear h1 h2 hn hm
  by_cases hnm : n = m
  · subst hnm
    have hne : ((n : Int) != (n : Int)) = false := by simp
    go_enter Try.func12, Try.ntmps12
    go_wp2
    go_loopw [5] (fun i wr => ∃ k : Nat, k ≤ n ∧ i = .int .i64 k ∧ Hid (∃ m, wr = w.drewN m) ∧ Hid (∀ j, j < k → zs[j]?.getD 0 = ys[j]?.getD 0)) (fun i _ => n - (intOf i).toNat)
    case atStart => exact ⟨0, Nat.zero_le _, rfl, ⟨0, rfl⟩, fun j hj => absurd hj (Nat.not_lt_zero _)⟩
    case round =>
      obtain ⟨k, hk, rfl, hw, HE⟩ := hrel
      obtain ⟨m, rfl⟩ := hw.out
      clear hw
      by_cases hlt : k < n
      · obtain ⟨g, rfl, c1⟩ := H1.out k hlt
        obtain ⟨g', rfl, c2⟩ := H2.out k hlt
        obtain ⟨x, hx⟩ : ∃ x, x = zs[k]?.getD 0 := ⟨_, rfl⟩
        obtain ⟨y, hy'⟩ : ∃ x, x = ys[k]?.getD 0 := ⟨_, rfl⟩
        have HX : Hid (x = zs[k]?.getD 0 ∧ y = ys[k]?.getD 0) := ⟨hx, hy'⟩
        rw [← hx] at c1
        rw [← hy'] at c2
        clear hx hy'
        by_cases hxy : x = y
        · subst hxy
          have ht : (x != x) = false := by simp
          go_wp2
          go_quiet (fail)
          go_wp2
          go_roundw
          case rel =>
            refine ⟨k + 1, by omega, by go_num, ⟨m + nq, rfl⟩, fun j hj => ?_⟩
            by_cases e : j = k
            · subst e; rw [← HX.out.1]; exact HX.out.2
            · exact HE.out j (by omega)
          case measure => simp [intOf]; omega
        · have ht : (x != y) = true := by simpa using hxy
          have HF : Hid (decide (zs = ys) = false) := by
            refine decide_eq_false fun e => hxy ?_
            rw [HX.out.1, HX.out.2, e]
          go_wp2
          go_quiet (fail)
          go_wp2
          go_ret
          exact ⟨ret_bool HF.out.symm, by first | exact below_drewN (below_drewN (Below.refl _ _) _) _ | exact below_drewN (Below.refl _ _) _⟩
      · obtain rfl : k = n := by omega
        have HT : Hid (decide (zs = ys) = true) := by
          refine decide_eq_true (List.ext_getElem (by rw [← HN.out, ← HM.out]) fun j h1 h2 => ?_)
          have := HE.out j (by have := HN.out; omega)
          rw [List.getElem?_eq_getElem h1, List.getElem?_eq_getElem h2] at this
          exact this
        go_wp2
        go_ret
        exact ⟨ret_bool HT.out.symm, below_drewN (Below.refl _ _) _⟩
  · have hne : ((n : Int) != (m : Int)) = true := by simp; omega
    have HF : Hid (decide (zs = ys) = false) := decide_eq_false fun e => hnm (by rw [HN.out, HM.out, e])
    go_enter Try.func12, Try.ntmps12
    go_wp2
    go_ret
    exact ⟨ret_bool HF.out.symm, Below.refl _ _⟩
end Go.Proofs.Ythmdiljcceiedaa

/- A block of cells, whatever its type: its cells, kept, written. -/
namespace Go.Proofs.Ythmdiljcceiedaa
open Go.RowKit

/-- block B of W holds just these cells -/
def IsB (W : World) (B : Nat) (vs : Array Value) (t : TypeId) : Prop := W.heap[B]? = some (.cells vs t (0, 0))
theorem IsB.new (W : World) (vs : Array Value) (t : TypeId) : IsB (W.alloc (.cells vs t)) W.heap.size vs t := by
  show (W.heap.push _)[W.heap.size]? = _
  simp
theorem IsB.lt {W : World} {B : Nat} {vs : Array Value} {t : TypeId} (h : IsB W B vs t) : B < W.heap.size := (Array.getElem?_eq_some_iff.1 h).1
theorem IsB.cell {W : World} {B : Nat} {vs : Array Value} {t : TypeId} (h : IsB W B vs t) (i : Nat) {v : Value} (hv : vs[i]? = some v) : W.cell? ⟨B, i, none⟩ = some v := by
  simp [World.cell?, show W.heap[B]? = _ from h, hv]
theorem IsB.frozen {W : World} {B : Nat} {vs : Array Value} {t : TypeId} (h : IsB W B vs t) (i : Nat) : W.frozen? ⟨B, i, none⟩ = false := by
  simp [World.frozen?, show W.heap[B]? = _ from h]
theorem IsB.below {W W' : World} {B : Nat} {vs : Array Value} {t : TypeId} (h : IsB W B vs t) (hb : Below W.heap.size W W') : IsB W' B vs t := (hb.block B h.lt).trans h
theorem IsB.other {W : World} {B b : Nat} {vs : Array Value} {t : TypeId} (h : IsB W B vs t) (hne : B ≠ b) (o : Nat) (v : Value) : IsB (W.setCell ⟨b, o, none⟩ v) B vs t := (Below.heap_setCell W ⟨b, o, none⟩ v B hne).trans h
theorem IsB.set {W : World} {B : Nat} {vs : Array Value} {t : TypeId} (h : IsB W B vs t) (i : Nat) (v : Value) : IsB (W.setCell ⟨B, i, none⟩ v) B (vs.setIfInBounds i v) t := by
  obtain ⟨hlt, hk⟩ := Array.getElem?_eq_some_iff.1 h
  show (W.heap.modify B _)[B]? = _
  rw [Array.getElem?_eq_getElem (by rw [Array.size_modify]; exact hlt), Array.getElem_modify_self, hk]
  rfl
theorem IsB.drew {W : World} {B : Nat} {vs : Array Value} {t : TypeId} (h : IsB W B vs t) : IsB W.drew B vs t := h
theorem hidU {p : Prop} (h : p) : Hid p := h
end Go.Proofs.Ythmdiljcceiedaa
