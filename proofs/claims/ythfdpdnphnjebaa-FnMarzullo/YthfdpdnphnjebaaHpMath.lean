/- A heap in a list, without any program: what goes up, what goes down, and that its first one is the least. -/
namespace Go.Proofs.Ythfdpdnphnjebaa
namespace Hp
variable {α : Type} (d : α) (lt : α → α → Bool) (P : α → Prop)

def at' (l : List α) (i : Nat) : α := l[i]?.getD d
def swp (l : List α) (i j : Nat) : List α := (l.set i (at' d l j)).set j (at' d l i)
theorem swp_len (l : List α) (i j : Nat) : (swp d l i j).length = l.length := by simp [swp]
theorem swp_at {l : List α} {i j k : Nat} (hi : i < l.length) (hj : j < l.length) (hk : k < l.length) :
    at' d (swp d l i j) k = if k = j then at' d l i else if k = i then at' d l j else at' d l k := by
  unfold swp at'
  by_cases e : j = k
  · subst e
    simp [hj]
  · have e' : ¬ k = j := fun h => e h.symm
    by_cases e2 : i = k
    · subst e2
      simp [e, e', hi]
    · have e2' : ¬ k = i := fun h => e2 h.symm
      simp [e, e', e2, e2']
theorem swp_perm {l : List α} {i j : Nat} (hi : i < l.length) (hj : j < l.length) : (swp d l i j).Perm l := by
  unfold swp at'
  rw [List.getElem?_eq_getElem hi, List.getElem?_eq_getElem hj]
  exact List.set_set_perm hi hj
/-- of two elements neither is less than one before -/
structure Ord : Prop where
  tr : ∀ a b c, P a → P b → P c → lt b a = false → lt c b = false → lt c a = false
  asym : ∀ a b, P a → P b → lt a b = true → lt b a = false
variable {d lt P}

/-- the first n are a heap -/
def Heap (d : α) (lt : α → α → Bool) (l : List α) (n : Nat) : Prop := ∀ k, 0 < k → k < n → lt (at' d l k) (at' d l ((k - 1) / 2)) = false
/-- but the one at j, which may be less than what is above it -/
def UpHp (d : α) (lt : α → α → Bool) (l : List α) (n j : Nat) : Prop :=
  (∀ k, 0 < k → k < n → k ≠ j → lt (at' d l k) (at' d l ((k - 1) / 2)) = false) ∧ (∀ k, 0 < k → k < n → (k - 1) / 2 = j → 0 < j → lt (at' d l k) (at' d l ((j - 1) / 2)) = false)
/-- but the one at i, which may be greater than what is below it -/
def DnHp (d : α) (lt : α → α → Bool) (l : List α) (n i : Nat) : Prop :=
  (∀ k, 0 < k → k < n → (k - 1) / 2 ≠ i → lt (at' d l k) (at' d l ((k - 1) / 2)) = false) ∧ (∀ k, 0 < k → k < n → (k - 1) / 2 = i → 0 < i → lt (at' d l k) (at' d l ((i - 1) / 2)) = false)
theorem mem_at {l : List α} (h : ∀ x ∈ l, P x) {k : Nat} (hk : k < l.length) : P (at' d l k) := by
  unfold at'
  rw [List.getElem?_eq_getElem hk]
  exact h _ (List.getElem_mem hk)
theorem up_done {l : List α} {n j : Nat} (h : UpHp d lt l n j) (hj : j = 0 ∨ lt (at' d l j) (at' d l ((j - 1) / 2)) = false) : Heap d lt l n := by
  intro k h0 hk
  by_cases e : k = j
  · subst e
    rcases hj with h1 | h1
    · omega
    · exact h1
  · exact h.1 k h0 hk e
theorem up_step (O : Ord lt P) {l : List α} {n j : Nat} (hn : n ≤ l.length) (hP : ∀ x ∈ l, P x) (h : UpHp d lt l n j) (h0 : 0 < j) (hjn : j < n) (hl : lt (at' d l j) (at' d l ((j - 1) / 2)) = true) :
    UpHp d lt (swp d l ((j - 1) / 2) j) n ((j - 1) / 2) := by
  obtain ⟨i, hi⟩ : ∃ i, i = (j - 1) / 2 := ⟨_, rfl⟩
  rw [← hi] at hl ⊢
  have hij : i < j := by omega
  have A : ∀ k, k < n → at' d (swp d l i j) k = if k = j then at' d l i else if k = i then at' d l j else at' d l k := fun k hk => swp_at d (by omega) (by omega) (by omega)
  have Q : ∀ k, k < n → P (at' d l k) := fun k hk => mem_at hP (by omega)
  refine ⟨fun k k0 kn ki => ?_, fun k k0 kn kp i0 => ?_⟩
  · rw [A k kn, A ((k - 1) / 2) (by omega)]
    by_cases e : k = j
    · subst e
      rw [if_pos rfl, if_neg (by omega), if_pos (by omega)]
      exact O.asym _ _ (Q _ kn) (Q _ (by omega)) hl
    · rw [if_neg e, if_neg ki]
      by_cases e1 : (k - 1) / 2 = j
      · rw [if_pos e1]
        have := h.2 k k0 kn e1 h0
        rw [← hi] at this
        exact this
      · rw [if_neg e1]
        by_cases e2 : (k - 1) / 2 = i
        · rw [if_pos e2]
          have h1 := h.1 k k0 kn e
          rw [e2] at h1
          have h2 := O.asym _ _ (Q _ hjn) (Q _ (by omega)) hl
          exact O.tr _ _ _ (Q _ hjn) (Q i (by omega)) (Q _ kn) h2 h1
        · rw [if_neg e2]
          exact h.1 k k0 kn e
  · rw [A k kn, A ((i - 1) / 2) (by omega)]
    rw [if_neg (show (i - 1) / 2 ≠ j by omega), if_neg (show (i - 1) / 2 ≠ i by omega)]
    have h1 := h.1 i i0 (by omega) (by omega)
    by_cases e : k = j
    · subst e
      rw [if_pos rfl]
      exact h1
    · rw [if_neg e, if_neg (by omega)]
      have h2 := h.1 k k0 kn e
      rw [kp] at h2
      exact O.tr _ _ _ (Q _ (by omega)) (Q i (by omega)) (Q _ kn) h1 h2
theorem dn_done {l : List α} {n i : Nat} (h : DnHp d lt l n i) (hi : ∀ k, 0 < k → k < n → (k - 1) / 2 = i → lt (at' d l k) (at' d l i) = false) : Heap d lt l n := by
  intro k h0 hk
  by_cases e : (k - 1) / 2 = i
  · rw [e]; exact hi k h0 hk e
  · exact h.1 k h0 hk e
/-- down with the lesser one of the two below -/
theorem dn_step (O : Ord lt P) {l : List α} {n i j : Nat} (hn : n ≤ l.length) (hP : ∀ x ∈ l, P x) (h : DnHp d lt l n i) (hj : j = 2 * i + 1 ∨ j = 2 * i + 2) (hjn : j < n)
    (hm : ∀ k, 0 < k → k < n → (k - 1) / 2 = i → lt (at' d l k) (at' d l j) = false) (hl : lt (at' d l j) (at' d l i) = true) :
    DnHp d lt (swp d l i j) n j := by
  have A : ∀ k, k < n → at' d (swp d l i j) k = if k = j then at' d l i else if k = i then at' d l j else at' d l k := fun k hk => swp_at d (by omega) (by omega) (by omega)
  have Q : ∀ k, k < n → P (at' d l k) := fun k hk => mem_at hP (by omega)
  have hpj : (j - 1) / 2 = i := by omega
  refine ⟨fun k k0 kn kp => ?_, fun k k0 kn kp j0 => ?_⟩
  · rw [A k kn, A ((k - 1) / 2) (by omega), if_neg kp]
    by_cases e : k = j
    · subst e
      rw [if_pos rfl, if_pos hpj]
      exact O.asym _ _ (Q _ kn) (Q _ (by omega)) hl
    · rw [if_neg e]
      by_cases e1 : (k - 1) / 2 = i
      · rw [if_pos e1, if_neg (by omega)]
        exact hm k k0 kn e1
      · rw [if_neg e1]
        by_cases e2 : k = i
        · rw [if_pos e2]
          subst e2
          exact h.2 j (by omega) hjn hpj k0
        · rw [if_neg e2]
          exact h.1 k k0 kn e1
  · rw [A k kn, A ((j - 1) / 2) (by omega), hpj, if_neg (show i ≠ j by omega), if_pos rfl, if_neg (by omega), if_neg (by omega)]
    have h1 := h.1 k k0 kn (by omega)
    rw [kp] at h1
    exact h1
/-- the first one of a heap is the least -/
theorem heap_least (O : Ord lt P) {l : List α} {n : Nat} (hn : n ≤ l.length) (hP : ∀ x ∈ l, P x) (h : Heap d lt l n) : ∀ k, 0 < k → k < n → lt (at' d l k) (at' d l 0) = false := by
  intro k
  induction k using Nat.strongRecOn with
  | _ k ih =>
    intro h0 hk
    have Q : ∀ k, k < n → P (at' d l k) := fun k hk => mem_at hP (by omega)
    have h1 := h k h0 hk
    by_cases e : (k - 1) / 2 = 0
    · rw [e] at h1; exact h1
    · exact O.tr _ _ _ (Q 0 (by omega)) (Q ((k - 1) / 2) (by omega)) (Q k hk) (ih ((k - 1) / 2) (by omega) (by omega) (by omega)) h1
/-- with one more behind them -/
theorem up_start {l : List α} {x : α} (h : Heap d lt l l.length) : UpHp d lt (l ++ [x]) (l.length + 1) l.length := by
  have A : ∀ k, k < l.length → at' d (l ++ [x]) k = at' d l k := fun k hk => by unfold at'; rw [List.getElem?_append_left hk]
  refine ⟨fun k k0 kn ke => ?_, fun k k0 kn kp _ => by omega⟩
  rw [A k (by omega), A ((k - 1) / 2) (by omega)]
  exact h k k0 (by omega)
/-- the first and the last one have changed places -/
theorem dn_start {l : List α} {n : Nat} (hn : n + 1 = l.length) (h : Heap d lt l (n + 1)) : DnHp d lt (swp d l 0 n) n 0 := by
  have A : ∀ k, k < n + 1 → at' d (swp d l 0 n) k = if k = n then at' d l 0 else if k = 0 then at' d l n else at' d l k := fun k hk => swp_at d (by omega) (by omega) (by omega)
  refine ⟨fun k k0 kn kp => ?_, fun k k0 kn kp i0 => by omega⟩
  rw [A k (by omega), A ((k - 1) / 2) (by omega), if_neg (by omega), if_neg (by omega), if_neg (by omega), if_neg kp]
  exact h k k0 (by omega)
theorem heap_nil : Heap d lt [] 0 := fun k _ h => by omega
/-- what lies behind n stays, and none but the first n change places -/
def Same (d : α) (l l' : List α) (n : Nat) : Prop := l'.Perm l ∧ ∀ k, n ≤ k → at' d l' k = at' d l k
theorem Same.refl (l : List α) (n : Nat) : Same d l l n := ⟨List.Perm.refl _, fun _ _ => rfl⟩
theorem Same.swp {l l' : List α} {n i j : Nat} (h : Same d l l' n) (hl : n ≤ l'.length) (hi : i < n) (hj : j < n) : Same d l (swp d l' i j) n := by
  refine ⟨(swp_perm d (by omega) (by omega)).trans h.1, fun k hk => ?_⟩
  by_cases hk' : k < l'.length
  · rw [swp_at d (by omega) (by omega) hk', if_neg (by omega), if_neg (by omega)]
    exact h.2 k hk
  · have e : at' d (Hp.swp d l' i j) k = at' d l' k := by
      unfold at'
      rw [List.getElem?_eq_none (by rw [swp_len]; omega), List.getElem?_eq_none (by omega)]
    rw [e]; exact h.2 k hk
end Hp
end Go.Proofs.Ythfdpdnphnjebaa
