/- Sums over a cover as numbers: parts make the variance, what is carried is a cover, carried twice is carried once. -/
import Derived.Test.YtcafdkmgjfakdaaBudW6
import Derived.Test.YtcafdkmgjfakdaaLinMath
namespace Go.Proofs.Ytcafdkmgjfakdaa
open Go.Proofs.Ytcafdkmgjfakdaa.RM

theorem qf_p1 {a c : Fr} (h : mulK a c = true) : qf (p1V a c) = qf a * qf c := by unfold p1V; rw [keepF_yes h]; exact qf_mul h
theorem stp_ok {s : Fr × Bool} {a c b : Fr} (h : (stpV s a c b).2 = false) : s.2 = false ∧ okF s.1 = true ∧ okF (stpV s a c b).1 = true ∧ qf (stpV s a c b).1 = qf s.1 + qf a * (qf c * qf b) := by
  unfold stpV at h ⊢
  dsimp only at h ⊢
  rw [Bool.or_eq_false_iff, Bool.or_eq_false_iff, Bool.or_eq_false_iff] at h
  obtain ⟨⟨⟨h1, h2⟩, h3⟩, h4⟩ := h
  simp only [Bool.not_eq_false'] at h2 h3 h4
  refine ⟨h1, (op_parts h4).1, ?_, ?_⟩
  · rw [keepF_yes h4]; exact add_right h4
  · rw [keepF_yes h4, qf_add h4, qf_p1 h3, qf_p1 h2]; grind
/-- k summands of a row -/
def lin (r bs : List Fr) (k : Nat) : Rat := sumN (fun j => qf (fr r j) * qf (fr bs j)) k
theorem row_ok {a : Fr} {r bs : List Fr} {s : Fr × Bool} : ∀ {k : Nat}, (rowV a r bs s k).2 = false → s.2 = false ∧ (okF s.1 = true → okF (rowV a r bs s k).1 = true) ∧ qf (rowV a r bs s k).1 = qf s.1 + qf a * lin r bs k
  | 0, h => ⟨h, fun h => h, by show qf s.1 = _; unfold lin; simp only [sumN]; grind⟩
  | k + 1, h => by
    have h0 : (stpV (rowV a r bs s k) a (fr r k) (fr bs k)).2 = false := h
    obtain ⟨h1, h2, h3, h4⟩ := stp_ok h0
    obtain ⟨i1, i2, i3⟩ := row_ok h1
    refine ⟨i1, fun _ => h3, ?_⟩
    show qf (stpV (rowV a r bs s k) a (fr r k) (fr bs k)).1 = _
    rw [h4, i3]
    unfold lin
    simp only [sumN]
    grind
/-- n rows of a cover -/
def quad (ps : List Fr) (rows : List (List Fr)) (bs : List Fr) (n : Nat) : Rat := sumN (fun i => qf (fr ps i) * lin (rw' rows i) bs rows.length) n
theorem okF_null : okF (0, 1) = true := by decide
theorem sum_ok {ps bs : List Fr} {rows : List (List Fr)} {bd : Bool} : ∀ {n : Nat}, (sumV ps rows bs bd n).2 = false → bd = false ∧ okF (sumV ps rows bs bd n).1 = true ∧ qf (sumV ps rows bs bd n).1 = quad ps rows bs n
  | 0, h => ⟨h, okF_null, qf_null⟩
  | n + 1, h => by
    have h0 : (rowV (fr ps n) (rw' rows n) bs (sumV ps rows bs bd n) rows.length).2 = false := h
    obtain ⟨h1, h2, h3⟩ := row_ok h0
    obtain ⟨i1, i2, i3⟩ := sum_ok h1
    refine ⟨i1, h2 i2, ?_⟩
    show qf (rowV (fr ps n) (rw' rows n) bs (sumV ps rows bs bd n) rows.length).1 = _
    rw [h3, i3]
    unfold quad
    simp only [sumN]
theorem prt_ok {ps : List Fr} {rows : List (List Fr)} : ∀ {k : Nat}, (prtV ps rows k).2 = false → ∀ i, i < k → okF (fr (prtV ps rows k).1 i) = true ∧ qf (fr (prtV ps rows k).1 i) = qf (fr ps i) * lin (rw' rows i) ps rows.length
  | 0, _, i, hi => by omega
  | k + 1, h, i, hi => by
    have h0 : (rowV (fr ps k) (rw' rows k) ps ((0, 1), (prtV ps rows k).2) rows.length).2 = false := h
    obtain ⟨h1, h2, h3⟩ := row_ok h0
    have hl := prtV_len ps rows k
    have e : fr (prtV ps rows (k + 1)).1 i = if i < k then fr (prtV ps rows k).1 i else (partS ps rows k (prtV ps rows k).2).1 := by
      show fr ((prtV ps rows k).1 ++ [_]) i = _
      unfold fr
      by_cases c : i < k
      · rw [if_pos c, List.getElem?_append_left (by omega)]
      · obtain rfl : i = k := by omega
        rw [if_neg c, List.getElem?_append_right (by omega), hl, Nat.sub_self]
        rfl
    rw [e]
    by_cases c : i < k
    · rw [if_pos c]; exact prt_ok h1 i c
    · obtain rfl : i = k := by omega
      rw [if_neg c]
      refine ⟨h2 okF_null, ?_⟩
      show qf (rowV (fr ps i) (rw' rows i) ps ((0, 1), (prtV ps rows i).2) rows.length).1 = _
      rw [h3]
      show qf (0, 1) + _ = _
      rw [qf_null]
      grind
/-- a sum of a list, each time with the model's Add -/
def addV (p : List Fr) : Nat → Fr × Bool
  | 0 => ((0, 1), true)
  | k + 1 => (addP (addV p k).1 (fr p k), (addV p k).2 && addK (addV p k).1 (fr p k))
theorem add_ok {p : List Fr} : ∀ {k : Nat}, (addV p k).2 = true → okF (addV p k).1 = true ∧ qf (addV p k).1 = sumN (fun i => qf (fr p i)) k
  | 0, _ => ⟨okF_null, qf_null⟩
  | k + 1, h => by
    have h0 : ((addV p k).2 && addK (addV p k).1 (fr p k)) = true := h
    rw [Bool.and_eq_true] at h0
    obtain ⟨i1, i2⟩ := add_ok h0.1
    refine ⟨add_right h0.2, ?_⟩
    show qf (addP (addV p k).1 (fr p k)) = _
    rw [qf_add h0.2, i2]
    simp only [sumN]
/-- PARTS MAKE THE VARIANCE -/
theorem parts_make {ps : List Fr} {rows : List (List Fr)} (h1 : varO ps rows = true) (h2 : prtO ps rows = true) (h3 : (addV (prtA ps rows) (prtA ps rows).length).2 = true) : (addV (prtA ps rows) (prtA ps rows).length).1 = varA ps rows := by
  obtain ⟨a1, a2⟩ := add_ok h3
  rw [varA_yes h1]
  unfold varO at h1
  rw [Bool.and_eq_true, Bool.not_eq_true'] at h1
  obtain ⟨-, b1, b2⟩ := sum_ok h1.2
  refine qf_inj a1 b1 ?_
  rw [a2, show qf (varS ps rows).1 = _ from b2, prtA_yes h2, prtV_len]
  unfold prtO at h2
  rw [Bool.and_eq_true, Bool.not_eq_true'] at h2
  exact sumN_congr fun i hi => (prt_ok h2.2 i hi).2
theorem quad_turn {ps bs : List Fr} {rows : List (List Fr)} (hs : ∀ i j, i < rows.length → j < rows.length → fr (rw' rows i) j = fr (rw' rows j) i) : quad ps rows bs rows.length = quad bs rows ps rows.length := by
  have e1 : ∀ ps bs : List Fr, quad ps rows bs rows.length = sumN (fun i => sumN (fun j => qf (fr ps i) * qf (fr (rw' rows i) j) * qf (fr bs j)) rows.length) rows.length := by
    intro ps bs
    unfold quad
    refine sumN_congr fun i hi => ?_
    unfold lin
    rw [Rat.mul_comm, ← sumN_mul]
    exact sumN_congr fun j hj => by grind
  rw [e1, e1, sumN_swap]
  refine sumN_congr fun i hi => sumN_congr fun j hj => ?_
  rw [hs j i hj hi]
  grind
theorem symP_any {rows : List (List Fr)} (h : symP rows) : ∀ i j, i < rows.length → j < rows.length → fr (rw' rows i) j = fr (rw' rows j) i := by
  intro i j hi hj
  rcases Nat.lt_trichotomy i j with c | c | c
  · exact (h j hj i c).symm
  · rw [c]
  · exact h i hi j c
/-- the rows of what is carried -/
theorem crs_at {S rows : List (List Fr)} {i : Nat} {bd : Bool} : ∀ {k : Nat}, (crsV S rows i bd k).2 = false → bd = false ∧ ∀ j, j < k → okF (fr (crsV S rows i bd k).1 j) = true ∧ qf (fr (crsV S rows i bd k).1 j) = quad (rw' S i) rows (rw' S j) rows.length
  | 0, h => ⟨h, fun j hj => by omega⟩
  | k + 1, h => by
    have h0 : (sumV (rw' S i) rows (rw' S k) (crsV S rows i bd k).2 rows.length).2 = false := h
    obtain ⟨h1, h2, h3⟩ := sum_ok h0
    obtain ⟨i1, i2⟩ := crs_at h1
    refine ⟨i1, fun j hj => ?_⟩
    have hl := crsV_len S rows i bd k
    have e : fr (crsV S rows i bd (k + 1)).1 j = if j < k then fr (crsV S rows i bd k).1 j else (sumV (rw' S i) rows (rw' S k) (crsV S rows i bd k).2 rows.length).1 := by
      show fr ((crsV S rows i bd k).1 ++ [_]) j = _
      unfold fr
      by_cases c : j < k
      · rw [if_pos c, List.getElem?_append_left (by omega)]
      · obtain rfl : j = k := by omega
        rw [if_neg c, List.getElem?_append_right (by omega), hl, Nat.sub_self]
        rfl
    rw [e]
    by_cases c : j < k
    · rw [if_pos c]; exact i2 j c
    · obtain rfl : j = k := by omega
      rw [if_neg c]
      exact ⟨h2, h3⟩
theorem car_at {S rows : List (List Fr)} : ∀ {k : Nat}, (carV S rows k).2 = false → ∀ i, i < k → (rw' (carV S rows k).1 i).length = S.length ∧ ∀ j, j < S.length → okF (fr (rw' (carV S rows k).1 i) j) = true ∧ qf (fr (rw' (carV S rows k).1 i) j) = quad (rw' S i) rows (rw' S j) rows.length
  | 0, _, i, hi => by omega
  | k + 1, h, i, hi => by
    have h0 : (crsV S rows k (carV S rows k).2 S.length).2 = false := h
    obtain ⟨h1, h2⟩ := crs_at h0
    have hl := carV_len S rows k
    have e : rw' (carV S rows (k + 1)).1 i = if i < k then rw' (carV S rows k).1 i else (crsV S rows k (carV S rows k).2 S.length).1 := by
      show rw' ((carV S rows k).1 ++ [_]) i = _
      unfold rw'
      by_cases c : i < k
      · rw [if_pos c, List.getElem?_append_left (by omega)]
      · obtain rfl : i = k := by omega
        rw [if_neg c, List.getElem?_append_right (by omega), hl, Nat.sub_self]
        rfl
    rw [e]
    by_cases c : i < k
    · rw [if_pos c]; exact car_at h1 i c
    · obtain rfl : i = k := by omega
      rw [if_neg c]
      exact ⟨crsV_len _ _ _ _ _, h2⟩
end Go.Proofs.Ytcafdkmgjfakdaa
