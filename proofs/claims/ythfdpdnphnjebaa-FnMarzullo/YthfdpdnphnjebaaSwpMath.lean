/- The ends of claims in their order, one after the other: where most claims are, without any program. -/
import Derived.Test.YthfdpdnphnjebaaHpW7
import Derived.Test.YthfdpdnphnjebaaAgrW2
namespace Go.Proofs.Ythfdpdnphnjebaa
open Go.RowKit Go.Proofs.Ythfdpdnphnjebaa.RM

/-- a is not behind b -/
def leP (a b : En) : Prop := v7 a.1 < v7 b.1 ∨ (v7 a.1 = v7 b.1 ∧ (a.2 = false ∨ b.2 = true))
instance (a b : En) : Decidable (leP a b) := by unfold leP; infer_instance
def leQ (a b : En) : Bool := decide (leP a b)
theorem leP_val {a b : En} (h : leP a b) : v7 a.1 ≤ v7 b.1 := by
  rcases h with h | h
  · exact Rat.le_of_lt h
  · rw [h.1]; exact Rat.le_refl
theorem leP_trans {a b c : En} (h1 : leP a b) (h2 : leP b c) : leP a c := by
  rcases h1 with h1 | ⟨h1, k1⟩ <;> rcases h2 with h2 | ⟨h2, k2⟩
  · exact Or.inl (Rat.not_le.1 fun h => Rat.not_le.2 h2 (Rat.le_trans h (Rat.le_of_lt h1)))
  · exact Or.inl (by rw [← h2]; exact h1)
  · exact Or.inl (by rw [h1]; exact h2)
  · refine Or.inr ⟨h1.trans h2, ?_⟩
    rcases k1 with k1 | k1
    · exact Or.inl k1
    · rcases k2 with k2 | k2
      · rw [k1] at k2; cases k2
      · exact Or.inr k2
theorem leP_total (a b : En) : leP a b ∨ leP b a := by
  by_cases h : v7 a.1 < v7 b.1
  · exact Or.inl (Or.inl h)
  · by_cases h2 : v7 b.1 < v7 a.1
    · exact Or.inr (Or.inl h2)
    · have e : v7 a.1 = v7 b.1 := Rat.le_antisymm (Rat.not_lt.1 h2) (Rat.not_lt.1 h)
      cases h3 : a.2
      · exact Or.inl (Or.inr ⟨e, Or.inl h3⟩)
      · exact Or.inr (Or.inr ⟨e.symm, Or.inr h3⟩)
theorem leP_anti {a b : En} (ha : okE a) (hb : okE b) (h1 : leP a b) (h2 : leP b a) : a = b := by
  have e : v7 a.1 = v7 b.1 := Rat.le_antisymm (leP_val h1) (leP_val h2)
  have e1 : a.1 = b.1 := v7_inj ha hb e
  have k1 : a.2 = false ∨ b.2 = true := by
    rcases h1 with h | h
    · rw [e] at h; exact absurd h Rat.lt_irrefl
    · exact h.2
  have k2 : b.2 = false ∨ a.2 = true := by
    rcases h2 with h | h
    · rw [e] at h; exact absurd h Rat.lt_irrefl
    · exact h.2
  have e2 : a.2 = b.2 := by
    rcases k1 with k | k <;> rcases k2 with q | q
    · rw [k, q]
    · rw [k] at q; cases q
    · rw [k] at q; cases q
    · rw [k, q]
  exact Prod.ext e1 e2
theorem ls_le {a b : En} (ha : okE a) (hb : okE b) (h : lsE b a = false) : leP a b := by
  rw [lsE_no hb ha] at h
  rcases h with h | ⟨h, k⟩
  · exact Or.inl h
  · exact Or.inr ⟨h.symm, k.symm⟩
/-- the ends in their order -/
def srtE (ls : List Sp) : List En := (endsL ls ls.length).mergeSort leQ
theorem srtE_perm (ls : List Sp) : (srtE ls).Perm (endsL ls ls.length) := List.mergeSort_perm _ _
theorem srtE_len (ls : List Sp) : (srtE ls).length = 2 * ls.length := by rw [(srtE_perm ls).length_eq, endsL_len]
theorem srtE_le (ls : List Sp) {i j : Nat} (hij : i < j) (hj : j < 2 * ls.length) : leP (er (srtE ls) i) (er (srtE ls) j) := by
  have h := List.pairwise_mergeSort (le := leQ) (fun a b c h1 h2 => decide_eq_true (leP_trans (of_decide_eq_true h1) (of_decide_eq_true h2))) (fun a b => by rw [Bool.or_eq_true]; exact (leP_total a b).imp (fun h => decide_eq_true h) (fun h => decide_eq_true h)) (endsL ls ls.length)
  have hl := srtE_len ls
  have := (List.pairwise_iff_getElem.1 h) i j (by show i < (srtE ls).length; omega) (by show j < (srtE ls).length; omega) hij
  have e1 : er (srtE ls) i = (srtE ls)[i]'(by omega) := by unfold er; rw [List.getElem?_eq_getElem (by omega)]; rfl
  have e2 : er (srtE ls) j = (srtE ls)[j]'(by omega) := by unfold er; rw [List.getElem?_eq_getElem (by omega)]; rfl
  rw [e1, e2]
  exact of_decide_eq_true this
theorem srtE_mem (ls : List Sp) {i : Nat} (hi : i < 2 * ls.length) : er (srtE ls) i ∈ endsL ls ls.length := by
  have hl := srtE_len ls
  refine (srtE_perm ls).mem_iff.1 ?_
  unfold er
  rw [List.getElem?_eq_getElem (by omega)]
  exact List.getElem_mem _
theorem srtE_idx (ls : List Sp) {e : En} (h : e ∈ endsL ls ls.length) : ∃ i, i < 2 * ls.length ∧ er (srtE ls) i = e := by
  obtain ⟨i, hi, q⟩ := List.mem_iff_getElem.1 ((srtE_perm ls).mem_iff.2 h)
  refine ⟨i, by rw [← srtE_len]; exact hi, ?_⟩
  unfold er
  rw [List.getElem?_eq_getElem hi, ← q]
  rfl
theorem endsL_mem (ls : List Sp) {e : En} : ∀ k, e ∈ endsL ls k ↔ ∃ j, j < k ∧ (e = ((sp ls j).1, false) ∨ e = ((sp ls j).2, true))
  | 0 => ⟨fun h => (by cases h), fun ⟨j, h, _⟩ => (by omega)⟩
  | k + 1 => by
    show e ∈ (endsL ls k ++ [_]) ++ [_] ↔ _
    rw [List.mem_append, List.mem_append, List.mem_singleton, List.mem_singleton, endsL_mem ls k]
    constructor
    · rintro ((⟨j, hj, h⟩ | h) | h)
      · exact ⟨j, by omega, h⟩
      · exact ⟨k, by omega, Or.inl h⟩
      · exact ⟨k, by omega, Or.inr h⟩
    · rintro ⟨j, hj, h⟩
      by_cases e1 : j = k
      · subst e1
        rcases h with h | h
        · exact Or.inl (Or.inr h)
        · exact Or.inr h
      · exact Or.inl (Or.inl ⟨j, by omega, h⟩)
/-- how many are open behind the first t ends -/
def dpE (S : List En) : Nat → Int
  | 0 => 0
  | t + 1 => if (er S t).2 = true then dpE S t - 1 else dpE S t + 1
/-- what has been found behind the first t ends -/
def swE (S : List En) : Nat → Sp × Int
  | 0 => (((0, 0), (0, 0)), 0)
  | t + 1 => if (er S t).2 = true then swE S t else if (swE S t).2 < dpE S (t + 1) then (((er S t).1, (er S (t + 1)).1), dpE S (t + 1)) else swE S t
theorem dpE_bd (S : List En) : ∀ t : Nat, -(t : Int) ≤ dpE S t ∧ dpE S t ≤ t
  | 0 => ⟨by simp [dpE], by simp [dpE]⟩
  | t + 1 => by
    have := dpE_bd S t
    unfold dpE
    split <;> omega
theorem swE_bd (S : List En) : ∀ t : Nat, 0 ≤ (swE S t).2 ∧ (swE S t).2 ≤ t
  | 0 => ⟨Int.le_refl _, Int.le_refl _⟩
  | t + 1 => by
    have h1 := swE_bd S t
    have h2 := dpE_bd S (t + 1)
    unfold swE
    split
    · omega
    · split
      · rename_i h
        dsimp only
        omega
      · omega
/-- the first one at which most are open -/
theorem swE_inv (S : List En) : ∀ t, (∀ i, i ≤ t → dpE S i ≤ (swE S t).2) ∧ ((swE S t).2 = 0 ∨ ∃ i, i < t ∧ (er S i).2 = false ∧ dpE S (i + 1) = (swE S t).2 ∧ (swE S t).1 = ((er S i).1, (er S (i + 1)).1) ∧ ∀ j, j ≤ i → dpE S j < (swE S t).2)
  | 0 => ⟨fun i hi => by obtain rfl : i = 0 := by omega
                         exact Int.le_refl _, Or.inl rfl⟩
  | t + 1 => by
    obtain ⟨h1, h2⟩ := swE_inv S t
    have hb := swE_bd S t
    by_cases e : (er S t).2 = true
    · have e1 : swE S (t + 1) = swE S t := by show (if _ then _ else _) = _; rw [if_pos e]
      have e2 : dpE S (t + 1) = dpE S t - 1 := by show (if _ then _ else _) = _; rw [if_pos e]
      rw [e1]
      refine ⟨fun i hi => ?_, h2.imp id fun ⟨i, q1, q2⟩ => ⟨i, by omega, q2⟩⟩
      by_cases k : i = t + 1
      · rw [k, e2]; have := h1 t (Nat.le_refl _); omega
      · exact h1 i (by omega)
    · by_cases q : (swE S t).2 < dpE S (t + 1)
      · have e1 : swE S (t + 1) = (((er S t).1, (er S (t + 1)).1), dpE S (t + 1)) := by show (if _ then _ else _) = _; rw [if_neg e, if_pos q]
        rw [e1]
        refine ⟨fun i hi => ?_, Or.inr ⟨t, by omega, by simpa using e, rfl, rfl, fun j hj => ?_⟩⟩
        · by_cases k : i = t + 1
          · rw [k]; exact Int.le_refl _
          · have := h1 i (by omega); dsimp only; omega
        · have := h1 j hj; dsimp only; omega
      · have e1 : swE S (t + 1) = swE S t := by show (if _ then _ else _) = _; rw [if_neg e, if_neg q]
        rw [e1]
        refine ⟨fun i hi => ?_, h2.imp id fun ⟨i, q1, q2⟩ => ⟨i, by omega, q2⟩⟩
        by_cases k : i = t + 1
        · rw [k]; omega
        · exact h1 i (by omega)
/-- is an end not behind a Low at v -/
def befP (v : Fr) (e : En) : Prop := if e.2 = true then v7 e.1 < v7 v else v7 e.1 ≤ v7 v
instance (v : Fr) (e : En) : Decidable (befP v e) := by unfold befP; infer_instance
theorem bef_down {v : Fr} {a b : En} (h : leP a b) (hb : befP v b) : befP v a := by
  unfold befP at hb ⊢
  have hv := leP_val h
  split at hb <;> split
  · exact Rat.not_le.1 fun k => Rat.not_le.2 hb (Rat.le_trans k hv)
  · exact Rat.le_trans hv (Rat.le_of_lt hb)
  · rename_i h1 h2
    rcases h with h | ⟨_, h | h⟩
    · exact Rat.not_le.1 fun k => Rat.not_le.2 h (Rat.le_trans hb k)
    · rw [h] at h2; cases h2
    · exact absurd h h1
  · exact Rat.le_trans hv hb
/-- what the ends that aren't behind a Low at v sum up to -/
def sgE (e : En) : Int := if e.2 = true then -1 else 1
def smE (v : Fr) (l : List En) : Int := (l.map fun e => if befP v e then sgE e else 0).sum
theorem smE_perm {v : Fr} {l l' : List En} (h : l.Perm l') : smE v l = smE v l' := by
  have hc : ∀ (a : En) (l : List En), smE v (a :: l) = (if befP v a then sgE a else 0) + smE v l := fun a l => by unfold smE; simp
  induction h with
  | nil => rfl
  | cons x _ ih => rw [hc, hc, ih]
  | swap x y l => rw [hc, hc, hc, hc]; omega
  | trans _ _ ih1 ih2 => rw [ih1, ih2]
theorem smE_app (v : Fr) (l l' : List En) : smE v (l ++ l') = smE v l + smE v l' := by unfold smE; rw [List.map_append, List.sum_append]
theorem smE_one (v : Fr) (e : En) : smE v [e] = if befP v e then sgE e else 0 := by unfold smE; simp
theorem hasB_iff {ls : List Sp} (h : clmP ls) {v : Fr} (hv : ok7 v = true) {j : Nat} (hj : j < ls.length) : hasB ls v j = true ↔ v7 (sp ls j).1 ≤ v7 v ∧ v7 v ≤ v7 (sp ls j).2 := by
  have hr := h.2 j hj
  obtain ⟨h1, h2, _⟩ := rng7_out hr
  unfold hasB within7
  rw [hr, hv, Bool.true_and, Bool.true_and, Bool.and_eq_true, Bool.not_eq_true', Bool.not_eq_true', le7_no hv h1, le7_no h2 hv]
/-- how many have v -/
theorem dep_sum {ls : List Sp} (h : clmP ls) {v : Fr} (hv : ok7 v = true) : ∀ k, k ≤ ls.length → (depN ls v k : Int) = smE v (endsL ls k)
  | 0, _ => rfl
  | k + 1, hk => by
    have ih := dep_sum h hv k (by omega)
    have hr := (rng7_out (h.2 k (by omega))).2.2
    have hb := hasB_iff h hv (j := k) (by omega)
    show _ = smE v ((endsL ls k ++ [_]) ++ [_])
    rw [smE_app, smE_app, smE_one, smE_one, ← ih]
    have e1 : befP v ((sp ls k).1, false) ↔ v7 (sp ls k).1 ≤ v7 v := by unfold befP; simp
    have e2 : befP v ((sp ls k).2, true) ↔ v7 (sp ls k).2 < v7 v := by unfold befP; simp
    have e3 : sgE ((sp ls k).1, false) = 1 := rfl
    have e4 : sgE ((sp ls k).2, true) = -1 := rfl
    rw [e3, e4]
    have hd : depN ls v (k + 1) = if hasB ls v k = true then depN ls v k + 1 else depN ls v k := rfl
    rw [hd]
    by_cases q1 : v7 (sp ls k).1 ≤ v7 v
    · rw [if_pos (e1.2 q1)]
      by_cases q2 : v7 (sp ls k).2 < v7 v
      · rw [if_pos (e2.2 q2), if_neg (fun h => Rat.not_lt.2 (hb.1 h).2 q2)]; omega
      · rw [if_neg (fun h => q2 (e2.1 h)), if_pos (hb.2 ⟨q1, Rat.not_lt.1 q2⟩)]; omega
    · rw [if_neg (fun h => q1 (e1.1 h)), if_neg (fun h => q1 (Rat.le_trans hr (Rat.le_of_lt (e2.1 h)))), if_neg (fun h => q1 (hb.1 h).1)]; omega
/-- they are the first ones of the ends in their order -/
theorem smE_pre (ls : List Sp) (v : Fr) : ∀ t, t ≤ 2 * ls.length → ∃ s, s ≤ t ∧ smE v ((srtE ls).take t) = dpE (srtE ls) s ∧ (∀ i, i < s → befP v (er (srtE ls) i)) ∧ ∀ i, s ≤ i → i < t → ¬ befP v (er (srtE ls) i)
  | 0, _ => ⟨0, Nat.le_refl _, rfl, fun i hi => by omega, fun i _ hi => by omega⟩
  | t + 1, ht => by
    obtain ⟨s, h1, h2, h3, h4⟩ := smE_pre ls v t (by omega)
    have hl := srtE_len ls
    have e : (srtE ls).take (t + 1) = (srtE ls).take t ++ [er (srtE ls) t] := by
      rw [List.take_add_one]
      simp [er, List.getElem?_eq_getElem (show t < (srtE ls).length by omega)]
    rw [e, smE_app, smE_one, h2]
    by_cases q : befP v (er (srtE ls) t)
    · rw [if_pos q]
      have hs : s = t := by
        by_cases k : s = t
        · exact k
        · exact absurd (bef_down (srtE_le ls (by omega : s < t) (by omega)) q) (h4 s (Nat.le_refl _) (by omega))
      subst hs
      refine ⟨s + 1, by omega, ?_, fun i hi => ?_, fun i hi hi2 => by omega⟩
      · have e2 : dpE (srtE ls) (s + 1) = if (er (srtE ls) s).2 = true then dpE (srtE ls) s - 1 else dpE (srtE ls) s + 1 := rfl
        rw [e2]
        unfold sgE
        by_cases q2 : (er (srtE ls) s).2 = true
        · rw [if_pos q2, if_pos q2]; omega
        · rw [if_neg q2, if_neg q2]
      · by_cases k : i = s
        · rw [k]; exact q
        · exact h3 i (by omega)
    · rw [if_neg q]
      refine ⟨s, by omega, by omega, h3, fun i hi hi2 => ?_⟩
      by_cases k : i = t
      · rw [k]; exact q
      · exact h4 i hi (by omega)
theorem dep_at {ls : List Sp} (h : clmP ls) {v : Fr} (hv : ok7 v = true) : ∃ s, s ≤ 2 * ls.length ∧ depI ls v = dpE (srtE ls) s ∧ (∀ i, i < s → befP v (er (srtE ls) i)) ∧ ∀ i, s ≤ i → i < 2 * ls.length → ¬ befP v (er (srtE ls) i) := by
  obtain ⟨s, h1, h2, h3, h4⟩ := smE_pre ls v (2 * ls.length) (Nat.le_refl _)
  refine ⟨s, h1, ?_, h3, h4⟩
  rw [← h2, ← srtE_len, List.take_length, smE_perm (srtE_perm ls)]
  exact dep_sum h hv ls.length (Nat.le_refl _)
end Go.Proofs.Ythfdpdnphnjebaa
