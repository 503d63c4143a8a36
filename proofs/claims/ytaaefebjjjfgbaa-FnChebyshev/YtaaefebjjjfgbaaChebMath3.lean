/- The shortest stretch is the shortest; what lies inside is split; what the law of Chebyshev holds against each other. -/
import Derived.Test.YtaaefebjjjfgbaaChebMath2
import Derived.Test.YtaaefebjjjfgbaaPtI4
namespace Go.Proofs.Ytaaefebjjjfgbaa
open Go.Proofs.Ytaaefebjjjfgbaa.RM

/-- the stretch has its part -/
def okS (ps : List Fr) (r : Fr) (i k : Nat) : Prop := wtS ps ps.length * r.1 ≤ insS ps (fr ps i).1 (fr ps k).1 ps.length * r.2
/-- the shortest of those that were looked at -/
def cvI (ps : List Fr) (r : Fr) (s : Int × Int) (P : Nat → Nat → Prop) : Prop :=
  (s.1 < 0 ∧ ∀ a b, P a b → ¬ okS ps r a b) ∨
  (∃ i k : Nat, s = ((i : Int), (k : Int)) ∧ i ≤ k ∧ k < ps.length ∧ okS ps r i k ∧ ∀ a b, P a b → okS ps r a b → (fr ps k).1 - (fr ps i).1 ≤ (fr ps b).1 - (fr ps a).1)
theorem cvS_inv {ps : List Fr} {r : Fr} {s : Int × Int} {P : Nat → Nat → Prop} {i k : Nat} (h : cvI ps r s P) (hik : i ≤ k) (hk : k < ps.length) : cvI ps r (cvS ps r s i k) (fun a b => P a b ∨ (a = i ∧ b = k)) := by
  unfold cvS
  by_cases h1 : insS ps (fr ps i).1 (fr ps k).1 ps.length * r.2 < wtS ps ps.length * r.1
  · rw [if_pos h1]
    have hn : ¬ okS ps r i k := by unfold okS; omega
    rcases h with ⟨h2, h3⟩ | ⟨i', k', e, h2, h3, h4, h5⟩
    · exact .inl ⟨h2, fun a b hab => by rcases hab with hab | ⟨rfl, rfl⟩; exact h3 a b hab; exact hn⟩
    · exact .inr ⟨i', k', e, h2, h3, h4, fun a b hab ho => by rcases hab with hab | ⟨rfl, rfl⟩; exact h5 a b hab ho; exact absurd ho hn⟩
  · rw [if_neg h1]
    have hy : okS ps r i k := by unfold okS; omega
    rcases h with ⟨h2, h3⟩ | ⟨i', k', e, h2, h3, h4, h5⟩
    · rw [if_pos (.inl h2)]
      exact .inr ⟨i, k, rfl, hik, hk, hy, fun a b hab ho => by rcases hab with hab | ⟨rfl, rfl⟩; exact absurd ho (h3 a b hab); exact Int.le_refl _⟩
    · subst e
      dsimp only
      rw [Int.toNat_natCast, Int.toNat_natCast]
      by_cases h6 : (fr ps k).1 - (fr ps i).1 < (fr ps k').1 - (fr ps i').1
      · rw [if_pos (.inr h6)]
        exact .inr ⟨i, k, rfl, hik, hk, hy, fun a b hab ho => by
          rcases hab with hab | ⟨rfl, rfl⟩
          · have := h5 a b hab ho; omega
          · exact Int.le_refl _⟩
      · rw [if_neg (fun z => by rcases z with z | z <;> omega)]
        exact .inr ⟨i', k', rfl, h2, h3, h4, fun a b hab ho => by
          rcases hab with hab | ⟨rfl, rfl⟩
          · exact h5 a b hab ho
          · omega⟩
theorem cvI_mono {ps : List Fr} {r : Fr} {s : Int × Int} {P Q : Nat → Nat → Prop} (h : cvI ps r s P) (hq : ∀ a b, Q a b → P a b) : cvI ps r s Q := by
  rcases h with ⟨h2, h3⟩ | ⟨i', k', e, h2, h3, h4, h5⟩
  · exact .inl ⟨h2, fun a b hab => h3 a b (hq a b hab)⟩
  · exact .inr ⟨i', k', e, h2, h3, h4, fun a b hab ho => h5 a b (hq a b hab) ho⟩
theorem cvR_inv {ps : List Fr} {r : Fr} {s : Int × Int} {P : Nat → Nat → Prop} {i : Nat} (h : cvI ps r s P) : ∀ {j : Nat}, i + j ≤ ps.length → cvI ps r (cvR ps r i s j) (fun a b => P a b ∨ (a = i ∧ i ≤ b ∧ b < i + j))
  | 0, _ => cvI_mono h (fun a b hab => by rcases hab with hab | ⟨_, h1, h2⟩; exact hab; omega)
  | j + 1, hj => cvI_mono (cvS_inv (cvR_inv h (j := j) (by omega)) (i := i) (k := i + j) (by omega) (by omega)) (fun a b hab => by
      rcases hab with hab | ⟨e, h1, h2⟩
      · exact .inl (.inl hab)
      · by_cases e2 : b = i + j
        · exact .inr ⟨e, e2⟩
        · exact .inl (.inr ⟨e, h1, by omega⟩))
theorem cvO_inv {ps : List Fr} {r : Fr} : ∀ {i : Nat}, i ≤ ps.length → cvI ps r (cvO ps r i) (fun a b => a < i ∧ a ≤ b ∧ b < ps.length)
  | 0, _ => .inl ⟨by show (-1 : Int) < 0; omega, fun a b hab => by omega⟩
  | i + 1, hi => cvI_mono (cvR_inv (cvO_inv (i := i) (by omega)) (i := i) (j := ps.length - i) (by omega)) (fun a b hab => by
      obtain ⟨h1, h2, h3⟩ := hab
      by_cases e : a = i
      · exact .inr ⟨e, by omega, by omega⟩
      · exact .inl ⟨by omega, h2, h3⟩)
theorem insS_congr {ps : List Fr} {lo hi lo' hi' : Int} : ∀ {n : Nat}, (∀ j, j < n → ((lo ≤ (fr ps j).1 ∧ (fr ps j).1 ≤ hi) ↔ (lo' ≤ (fr ps j).1 ∧ (fr ps j).1 ≤ hi'))) → insS ps lo hi n = insS ps lo' hi' n
  | 0, _ => rfl
  | n + 1, h => by
    have ih := insS_congr (n := n) (fun j hj => h j (by omega))
    show (if lo ≤ (fr ps n).1 ∧ (fr ps n).1 ≤ hi then insS ps lo hi n + (fr ps n).2 else insS ps lo hi n) = (if lo' ≤ (fr ps n).1 ∧ (fr ps n).1 ≤ hi' then insS ps lo' hi' n + (fr ps n).2 else insS ps lo' hi' n)
    have hn := h n (by omega)
    by_cases c : lo ≤ (fr ps n).1 ∧ (fr ps n).1 ≤ hi
    · rw [if_pos c, if_pos (hn.1 c), ih]
    · rw [if_neg c, if_neg (fun z => c (hn.2 z)), ih]
/-- the last point up to a place -/
theorem last_upto {ps : List Fr} {i : Nat} {t : Int} (hi : (fr ps i).1 ≤ t) : ∀ {n : Nat}, i < n → ∃ k, i ≤ k ∧ k < n ∧ (fr ps k).1 ≤ t ∧ ∀ j, k < j → j < n → t < (fr ps j).1
  | n + 1, h => by
    by_cases c : (fr ps n).1 ≤ t
    · exact ⟨n, by omega, by omega, c, fun j h1 h2 => by omega⟩
    · have hin : i < n := by
        rcases Nat.lt_or_ge i n with h1 | h1
        · exact h1
        · obtain rfl : i = n := by omega
          exact absurd hi c
      obtain ⟨k, h1, h2, h3, h4⟩ := last_upto hi hin
      exact ⟨k, h1, by omega, h3, fun j h5 h6 => by
        by_cases e : j = n
        · subst e; omega
        · exact h4 j h5 (by omega)⟩
/-- a cover has its part, and no shorter stretch has -/
theorem cov_law {ps : List Fr} {r : Fr} (h : covC ps r = true) : covL ps r ≤ covH ps r ∧ wtS ps ps.length * r.1 ≤ insS ps (covL ps r) (covH ps r) ps.length * r.2 ∧
    (∀ i, i < ps.length → covL ps r < covH ps r → insS ps (fr ps i).1 ((fr ps i).1 + covH ps r - covL ps r - 1) ps.length * r.2 < wtS ps ps.length * r.1) := by
  obtain ⟨e1, e2⟩ := covC_yes h
  have hs : sprB ps = true ∧ r.1 ≤ r.2 := by
    unfold covC at h
    simp only [Bool.and_eq_true, decide_eq_true_eq] at h
    exact ⟨h.1.1, h.2.2⟩
  have hsp := sprB_out hs.1
  have hpos := cvO_some (r := r) hsp hs.2 (i := ps.length) hsp.1.1
  rcases cvO_inv (ps := ps) (r := r) (Nat.le_refl ps.length) with ⟨h2, _⟩ | ⟨i, k, e, h2, h3, h4, h5⟩
  · omega
  rw [e] at e1 e2
  dsimp only at e1 e2
  rw [Int.toNat_natCast] at e1 e2
  rw [e1, e2]
  refine ⟨at_le hsp.2.1 h2 h3, h4, fun j hj hlt => ?_⟩
  have hjt : (fr ps j).1 ≤ (fr ps j).1 + (fr ps k).1 - (fr ps i).1 - 1 := by omega
  obtain ⟨m, m1, m2, m3, m4⟩ := last_upto hjt (n := ps.length) hj
  have hc : insS ps (fr ps j).1 ((fr ps j).1 + (fr ps k).1 - (fr ps i).1 - 1) ps.length = insS ps (fr ps j).1 (fr ps m).1 ps.length := insS_congr fun x hx => by
    constructor
    · rintro ⟨a1, a2⟩
      refine ⟨a1, ?_⟩
      rcases Nat.lt_or_ge m x with c | c
      · have := m4 x c hx; omega
      · exact at_le hsp.2.1 c m2
    · rintro ⟨a1, a2⟩
      exact ⟨a1, by omega⟩
  rw [hc]
  rcases Int.lt_or_le (insS ps (fr ps j).1 (fr ps m).1 ps.length * r.2) (wtS ps ps.length * r.1) with c | c
  · exact c
  · have := h5 j m ⟨hj, m1, m2⟩ c
    omega
theorem cov_in {ps : List Fr} {r : Fr} (h : covC ps r = true) : sprP ps ∧ okF r = true ∧ (-1000 ≤ covL ps r ∧ covL ps r ≤ 1000) ∧ (-1000 ≤ covH ps r ∧ covH ps r ≤ 1000) := by
  obtain ⟨e1, e2⟩ := covC_yes h
  have hs : sprB ps = true ∧ okB r.1 r.2 = true ∧ r.1 ≤ r.2 := by
    unfold covC at h
    simp only [Bool.and_eq_true, decide_eq_true_eq] at h
    exact ⟨h.1.1, h.1.2, h.2.2⟩
  have hsp := sprB_out hs.1
  have hpos := cvO_some (r := r) hsp hs.2.2 (i := ps.length) hsp.1.1
  rcases cvO_inv (ps := ps) (r := r) (Nat.le_refl ps.length) with ⟨h2, _⟩ | ⟨i, k, e, h2, h3, h4, h5⟩
  · omega
  rw [e] at e1 e2
  dsimp only at e1 e2
  rw [Int.toNat_natCast] at e1 e2
  exact ⟨hsp, hs.2.1, by rw [e1]; exact (hsp.2.1 i (by omega)).1, by rw [e2]; exact (hsp.2.1 k (by omega)).1⟩
/-- none lies between ends that are the wrong way round -/
theorem ins_none {ps : List Fr} {lo hi : Int} (h : hi < lo) : ∀ n, insS ps lo hi n = 0
  | 0 => rfl
  | n + 1 => by
    show (if lo ≤ (fr ps n).1 ∧ (fr ps n).1 ≤ hi then insS ps lo hi n + (fr ps n).2 else insS ps lo hi n) = 0
    rw [if_neg (by omega), ins_none h n]
/-- inside, above and below are all -/
theorem ins_split {ps : List Fr} {lo hi : Int} (h : lo ≤ hi) : ∀ n, (∀ j, j < n → ptP ps j) → insS ps lo hi n + insS ps (hi + 1) 2000 n + insS ps (-2000) (lo - 1) n = wtS ps n
  | 0, _ => rfl
  | n + 1, hP => by
    have ih := ins_split h n (fun j hj => hP j (by omega))
    have hp := (hP n (by omega)).1
    show (if lo ≤ (fr ps n).1 ∧ (fr ps n).1 ≤ hi then insS ps lo hi n + (fr ps n).2 else insS ps lo hi n) + (if hi + 1 ≤ (fr ps n).1 ∧ (fr ps n).1 ≤ 2000 then insS ps (hi + 1) 2000 n + (fr ps n).2 else insS ps (hi + 1) 2000 n) + (if -2000 ≤ (fr ps n).1 ∧ (fr ps n).1 ≤ lo - 1 then insS ps (-2000) (lo - 1) n + (fr ps n).2 else insS ps (-2000) (lo - 1) n) = wtS ps n + (fr ps n).2
    by_cases c1 : (fr ps n).1 < lo
    · rw [if_neg (by omega), if_neg (by omega), if_pos (by omega)]; omega
    · by_cases c2 : hi < (fr ps n).1
      · rw [if_neg (by omega), if_pos (by omega), if_neg (by omega)]; omega
      · rw [if_pos (by omega), if_neg (by omega), if_neg (by omega)]; omega
/-- the law of Chebyshev, of what Mean and Vary tell -/
theorem cheb_told {ps : List Fr} (h1 : menO ps = true) (h2 : vryO ps = true) {t : Int} (ht : 0 ≤ t) :
    farS ps (offP ps (menA ps).1 (menA ps).2 t) ps.length * t * t * (vryA ps).2 ≤ wtS ps ps.length * (vryA ps).1 := by
  have hs : sprB ps = true ∧ (momA ps 1).2 = true := by unfold menO at h1; simpa using h1
  have hv : (momA ps 2).2 = true ∧ (vryV (momA ps 2).1 (momA ps 1).1).2 = false := by
    unfold vryO at h2
    simp only [Bool.and_eq_true, Bool.not_eq_true'] at h2
    exact h2.2.2
  have em : menA ps = (momA ps 1).1 := if_pos hs.1
  rw [em, vryA_yes h2]
  exact cheb_law (sprB_out hs.1) hs.2 hv.1 hv.2 ht
theorem men_right {ps : List Fr} (h1 : menO ps = true) : sprP ps ∧ okF (menA ps) = true := by
  have hs : sprB ps = true ∧ (momA ps 1).2 = true := by unfold menO at h1; simpa using h1
  have em : menA ps = (momA ps 1).1 := if_pos hs.1
  exact ⟨sprB_out hs.1, by rw [em]; exact okB_redN hs.2⟩
theorem farS_in {ps : List Fr} {c : Nat → Prop} [DecidablePred c] : ∀ {k : Nat}, (∀ j, j < k → ptP ps j) → 0 ≤ farS ps c k ∧ farS ps c k ≤ wtS ps k
  | 0, _ => ⟨Int.le_refl _, Int.le_refl _⟩
  | k + 1, h => by
    have ih := farS_in (c := c) (k := k) (fun j hj => h j (by omega))
    have hp := (h k (by omega)).2.1
    show 0 ≤ (if c k then farS ps c k + (fr ps k).2 else farS ps c k) ∧ (if c k then farS ps c k + (fr ps k).2 else farS ps c k) ≤ wtS ps k + (fr ps k).2
    split <;> omega
theorem vry_right {ps : List Fr} (h2 : vryO ps = true) : okF (vryA ps) = true := by
  have hv : (vryV (momA ps 2).1 (momA ps 1).1).2 = false := by
    unfold vryO at h2
    simp only [Bool.and_eq_true, Bool.not_eq_true'] at h2
    exact h2.2.2.2
  rw [vryA_yes h2]
  have hk : subK (momA ps 2).1 (p1V (momA ps 1).1 (momA ps 1).1) = true := by
    unfold vryV at hv
    simp only [Bool.or_eq_false_iff, Bool.not_eq_false'] at hv
    exact hv.2
  show okF (keepF (subK (momA ps 2).1 (p1V (momA ps 1).1 (momA ps 1).1)) (subP (momA ps 2).1 (p1V (momA ps 1).1 (momA ps 1).1))) = true
  rw [keepF_yes hk]
  exact op_right hk
end Go.Proofs.Ytaaefebjjjfgbaa
