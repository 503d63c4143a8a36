/- Joined spreads: what is put in where it belongs, and what is found and sorted, are one. -/
import Derived.Test.YtgboaeokbglgdaaPtW1
namespace Go.Proofs.Ytgboaeokbglgdaa
open Go.Proofs.Ytgboaeokbglgdaa.RM

/-- a point put in where it belongs, as the model does it -/
def insP : List Fr → Fr → List Fr
  | [], x => [x]
  | p :: r, x => if p.1 < x.1 then p :: insP r x else if p.1 = x.1 then (p.1, p.2 + x.2) :: r else x :: p :: r
/-- a point found or put at the end, as the program does it -/
def accP : List Fr → Fr → List Fr
  | [], x => [x]
  | p :: r, x => if p.1 = x.1 then (p.1, p.2 + x.2) :: r else p :: accP r x
def sumP (us bs : List Fr) (i k : Nat) : Fr := ((fr us i).1 + (fr bs k).1, (fr us i).2 * (fr bs k).2)
def jnI (us bs : List Fr) (i : Nat) (s : List Fr) : Nat → List Fr
  | 0 => s
  | k + 1 => insP (jnI us bs i s k) (sumP us bs i k)
def jnO (us bs : List Fr) : Nat → List Fr
  | 0 => []
  | i + 1 => jnI us bs i (jnO us bs i) bs.length
def acI (us bs : List Fr) (i : Nat) (s : List Fr) : Nat → List Fr
  | 0 => s
  | k + 1 => accP (acI us bs i s k) (sumP us bs i k)
def acO (us bs : List Fr) : Nat → List Fr
  | 0 => []
  | i + 1 => acI us bs i (acO us bs i) bs.length
/-- rising -/
def rising (l : List Fr) : Prop := l.Pairwise (fun p q => p.1 < q.1)
def unlike (l : List Fr) : Prop := l.Pairwise (fun p q => p.1 ≠ q.1)
theorem rising.unlike {l : List Fr} (h : rising l) : unlike l := List.Pairwise.imp (fun h => by omega) h
theorem accP_new {x : Fr} : ∀ {l : List Fr}, (∀ p ∈ l, p.1 ≠ x.1) → accP l x = l ++ [x]
  | [], _ => rfl
  | p :: r, h => by
    show (if p.1 = x.1 then (p.1, p.2 + x.2) :: r else p :: accP r x) = p :: (r ++ [x])
    rw [if_neg (h p (List.mem_cons_self ..)), accP_new fun q hq => h q (List.mem_cons_of_mem _ hq)]
theorem insP_mem {x q : Fr} : ∀ {l : List Fr}, q ∈ insP l x → q.1 = x.1 ∨ q ∈ l
  | [], h => .inl (by have := List.mem_singleton.1 h; rw [this])
  | p :: r, h => by
    have h' : q ∈ (if p.1 < x.1 then p :: insP r x else if p.1 = x.1 then (p.1, p.2 + x.2) :: r else x :: p :: r) := h
    split at h'
    · rcases List.mem_cons.1 h' with e | e
      · exact .inr (by rw [e]; exact List.mem_cons_self ..)
      · rcases insP_mem e with e | e
        · exact .inl e
        · exact .inr (List.mem_cons_of_mem _ e)
    · split at h'
      · rename_i c1 c2
        rcases List.mem_cons.1 h' with e | e
        · exact .inl (by rw [e]; exact c2)
        · exact .inr (List.mem_cons_of_mem _ e)
      · rcases List.mem_cons.1 h' with e | e
        · exact .inl (by rw [e])
        · exact .inr e
theorem insP_rising {x : Fr} : ∀ {l : List Fr}, rising l → rising (insP l x)
  | [], _ => List.pairwise_singleton ..
  | p :: r, h => by
    have h1 := List.pairwise_cons.1 h
    show rising (if p.1 < x.1 then p :: insP r x else if p.1 = x.1 then (p.1, p.2 + x.2) :: r else x :: p :: r)
    split
    · rename_i c
      refine List.pairwise_cons.2 ⟨fun q hq => ?_, insP_rising h1.2⟩
      rcases insP_mem hq with e | e
      · rw [e]; exact c
      · exact h1.1 q e
    · split
      · exact List.pairwise_cons.2 ⟨fun q hq => h1.1 q hq, h1.2⟩
      · rename_i c1 c2
        refine List.pairwise_cons.2 ⟨fun q hq => ?_, h⟩
        rcases List.mem_cons.1 hq with e | e
        · rw [e]; omega
        · have := h1.1 q e; omega
theorem insP_acc {x : Fr} : ∀ {l : List Fr}, rising l → (insP l x).Perm (accP l x)
  | [], _ => List.Perm.refl _
  | p :: r, h => by
    have h1 := List.pairwise_cons.1 h
    show List.Perm (if p.1 < x.1 then p :: insP r x else if p.1 = x.1 then (p.1, p.2 + x.2) :: r else x :: p :: r) (if p.1 = x.1 then (p.1, p.2 + x.2) :: r else p :: accP r x)
    by_cases c : p.1 < x.1
    · rw [if_pos c, if_neg (by omega)]
      exact (insP_acc h1.2).cons p
    · rw [if_neg c]
      by_cases c2 : p.1 = x.1
      · rw [if_pos c2, if_pos c2]
      · rw [if_neg c2, if_neg c2, accP_new fun q hq => by have := h1.1 q hq; omega]
        exact (List.perm_append_comm (l₁ := [x]) (l₂ := p :: r))
theorem accP_perm {x : Fr} {l l' : List Fr} (h : l.Perm l') : unlike l → (accP l x).Perm (accP l' x) := by
  induction h with
  | nil => intro _; exact List.Perm.refl _
  | cons p _ ih =>
    rename_i l1 l2 _
    intro hn
    have h1 := List.pairwise_cons.1 hn
    show List.Perm (if p.1 = x.1 then (p.1, p.2 + x.2) :: l1 else p :: accP l1 x) (if p.1 = x.1 then (p.1, p.2 + x.2) :: l2 else p :: accP l2 x)
    split
    · rename_i h2 _; exact h2.cons _
    · exact (ih h1.2).cons _
  | swap p q l =>
    intro hn
    have h1 := List.pairwise_cons.1 hn
    have hne : q.1 ≠ p.1 := h1.1 p (List.mem_cons_self ..)
    show List.Perm (if q.1 = x.1 then (q.1, q.2 + x.2) :: p :: l else q :: (if p.1 = x.1 then (p.1, p.2 + x.2) :: l else p :: accP l x)) (if p.1 = x.1 then (p.1, p.2 + x.2) :: q :: l else p :: (if q.1 = x.1 then (q.1, q.2 + x.2) :: l else q :: accP l x))
    by_cases c1 : q.1 = x.1
    · have c2 : ¬ p.1 = x.1 := fun e => hne (c1.trans e.symm)
      rw [if_pos c1, if_neg c2, if_pos c1]
      exact List.Perm.swap ..
    · by_cases c2 : p.1 = x.1
      · rw [if_neg c1, if_pos c2, if_pos c2]
        exact List.Perm.swap ..
      · rw [if_neg c1, if_neg c2, if_neg c2, if_neg c1]
        exact List.Perm.swap ..
  | trans h1 h2 ih1 ih2 =>
    intro hn
    exact (ih1 hn).trans (ih2 ((h1.pairwise_iff (fun h => fun e => h e.symm)).1 hn))
theorem jn_both {us bs : List Fr} {i : Nat} {s l : List Fr} (h1 : rising s) (h2 : s.Perm l) : ∀ k, rising (jnI us bs i s k) ∧ (jnI us bs i s k).Perm (acI us bs i l k)
  | 0 => ⟨h1, h2⟩
  | k + 1 => by
    obtain ⟨a1, a2⟩ := jn_both (us := us) (bs := bs) (i := i) h1 h2 k
    refine ⟨insP_rising a1, ?_⟩
    exact (insP_acc a1).trans (accP_perm a2 a1.unlike)
theorem jnO_both (us bs : List Fr) : ∀ i, rising (jnO us bs i) ∧ (jnO us bs i).Perm (acO us bs i)
  | 0 => ⟨List.Pairwise.nil, List.Perm.refl _⟩
  | i + 1 => jn_both (jnO_both us bs i).1 (jnO_both us bs i).2 bs.length
theorem acI_unlike {us bs : List Fr} {i : Nat} (k : Nat) : unlike (acI us bs i (acO us bs i) k) := by
  obtain ⟨a1, a2⟩ := jn_both (us := us) (bs := bs) (i := i) (jnO_both us bs i).1 (jnO_both us bs i).2 k
  exact (a2.pairwise_iff (fun h => fun e => h e.symm)).1 a1.unlike
/-- two rising lists of the same points are one -/
theorem rising_eq {l : List Fr} : ∀ {l' : List Fr}, rising l → rising l' → l.Perm l' → l = l' := by
  induction l with
  | nil => intro l' _ _ h; exact h.nil_eq
  | cons p r ih =>
    intro l' h1 h2 h
    cases l' with
    | nil => exact absurd h.symm.nil_eq (by simp)
    | cons q s =>
      have a1 := List.pairwise_cons.1 h1
      have a2 := List.pairwise_cons.1 h2
      have e : p = q := by
        have m1 : p ∈ q :: s := h.subset (List.mem_cons_self ..)
        have m2 : q ∈ p :: r := h.symm.subset (List.mem_cons_self ..)
        rcases List.mem_cons.1 m1 with e | e
        · exact e
        · rcases List.mem_cons.1 m2 with e2 | e2
          · exact e2.symm
          · have b1 := a2.1 p e
            have b2 := a1.1 q e2
            omega
      subst e
      rw [ih a1.2 a2.2 (h.cons_inv)]
/-- within bounds -/
def bndP (n : Int) (l : List Fr) : Prop := ∀ p ∈ l, -2000 ≤ p.1 ∧ p.1 ≤ 2000 ∧ 0 ≤ p.2 ∧ p.2 ≤ n
theorem insP_bnd {x : Fr} {n m : Int} (hn : 0 ≤ n) (hx : -2000 ≤ x.1 ∧ x.1 ≤ 2000 ∧ 0 ≤ x.2 ∧ x.2 ≤ m) : ∀ {l : List Fr}, bndP n l → bndP (n + m) (insP l x)
  | [], _ => fun p hp => by have := List.mem_singleton.1 hp; subst this; omega
  | q :: r, h => by
    have hq := h q (List.mem_cons_self ..)
    have hr : bndP n r := fun p hp => h p (List.mem_cons_of_mem _ hp)
    show bndP (n + m) (if q.1 < x.1 then q :: insP r x else if q.1 = x.1 then (q.1, q.2 + x.2) :: r else x :: q :: r)
    split
    · intro p hp
      rcases List.mem_cons.1 hp with e | e
      · subst e; omega
      · exact insP_bnd hn hx hr p e
    · split
      · intro p hp
        rcases List.mem_cons.1 hp with e | e
        · subst e; dsimp only; omega
        · have := hr p e; omega
      · intro p hp
        rcases List.mem_cons.1 hp with e | e
        · subst e; omega
        · have := h p e; omega
theorem bnd_perm {n : Int} {l l' : List Fr} (h : bndP n l) (hp : l.Perm l') : bndP n l' := fun p hm => h p (hp.symm.subset hm)
theorem insP_len {x : Fr} : ∀ {l : List Fr}, (insP l x).length ≤ l.length + 1
  | [] => Nat.le_refl _
  | p :: r => by
    have := insP_len (x := x) (l := r)
    show List.length (if p.1 < x.1 then p :: insP r x else if p.1 = x.1 then (p.1, p.2 + x.2) :: r else x :: p :: r) ≤ r.length + 1 + 1
    split
    · show (insP r x).length + 1 ≤ _; omega
    · split
      · show r.length + 1 ≤ _; omega
      · exact Nat.le_refl _
theorem sumP_in {us bs : List Fr} {i k : Nat} (ha : ptP us i) (hb : ptP bs k) : -2000 ≤ (sumP us bs i k).1 ∧ (sumP us bs i k).1 ≤ 2000 ∧ 0 ≤ (sumP us bs i k).2 ∧ (sumP us bs i k).2 ≤ 1000000000000 := by
  obtain ⟨a1, a2, _⟩ := ha
  obtain ⟨b1, b2, _⟩ := hb
  refine ⟨by show _ ≤ (fr us i).1 + (fr bs k).1; omega, by show (fr us i).1 + (fr bs k).1 ≤ _; omega, Int.mul_nonneg (by omega) (by omega), ?_⟩
  show (fr us i).2 * (fr bs k).2 ≤ _
  exact Int.le_trans (Int.mul_le_mul a2.2 b2.2 (by omega) (by omega)) (by decide)
theorem jnI_in {us bs : List Fr} {i n : Nat} {s : List Fr} (ha : ptP us i) (hs : bndP ((n : Int) * 1000000000000) s ∧ s.length ≤ n) : ∀ {k : Nat}, (∀ j, j < k → ptP bs j) → bndP (((n + k : Nat) : Int) * 1000000000000) (jnI us bs i s k) ∧ (jnI us bs i s k).length ≤ n + k
  | 0, _ => hs
  | k + 1, h => by
    obtain ⟨h1, h2⟩ := jnI_in ha hs (k := k) (fun j hj => h j (by omega))
    have h3 := insP_bnd (by omega) (sumP_in ha (h k (by omega))) h1
    refine ⟨fun p hp => ?_, ?_⟩
    · have := h3 p hp; omega
    · have := insP_len (l := jnI us bs i s k) (x := sumP us bs i k)
      show (insP (jnI us bs i s k) (sumP us bs i k)).length ≤ _
      omega
theorem jnO_in {us bs : List Fr} (hb : ∀ j, j < bs.length → ptP bs j) : ∀ {i : Nat}, (∀ j, j < i → ptP us j) → bndP (((i * bs.length : Nat) : Int) * 1000000000000) (jnO us bs i) ∧ (jnO us bs i).length ≤ i * bs.length
  | 0, _ => ⟨fun p hp => (by cases hp), Nat.zero_le _⟩
  | i + 1, h => by
    have := jnI_in (bs := bs) (h i (by omega)) (jnO_in hb (i := i) (fun j hj => h j (by omega))) (k := bs.length) (fun j hj => hb j hj)
    rw [show (i + 1) * bs.length = i * bs.length + bs.length by rw [Nat.add_mul, Nat.one_mul]]
    exact this
/-- what Joined answers -/
def joiO (us bs : List Fr) : Bool := sprB us && (sprB bs && sprB (jnO us bs us.length))
def joiA (us bs : List Fr) : List Fr := if joiO us bs = true then jnO us bs us.length else []
theorem joiA_no {us bs : List Fr} (h : joiO us bs = false) : joiA us bs = [] := by unfold joiA; rw [h]; rfl
theorem joiA_yes {us bs : List Fr} (h : joiO us bs = true) : joiA us bs = jnO us bs us.length := by unfold joiA; rw [h]; rfl
theorem joiA_small (us bs : List Fr) : (joiA us bs).length ≤ 1048576 := by
  by_cases h : joiO us bs = true
  · rw [joiA_yes h]
    unfold joiO at h
    simp only [Bool.and_eq_true] at h
    have := (sprB_out h.2.2).1.2
    omega
  · rw [joiA_no (by simpa using h)]; show 0 ≤ _; omega
end Go.Proofs.Ytgboaeokbglgdaa
