/- The fraction of terms, without any program: the program's way back and the model's, and that they answer alike. -/
import Derived.Test.YtkcdpjcfbpjkeanNearMath
namespace Go.Proofs.Ytkcdpjcfbpjkean.RM
/-- t, and 1 divided by the fraction behind it -/
def divN (n d : Int) : Int := opN (two 1 1 n d) (1 * d) (1 * n)
def divD (n d : Int) : Int := opD (two 1 1 n d) (1 * d) (1 * n)
def divO (n d : Int) : Bool := opOk (two 1 1 n d) (1 * d) (1 * n)
def addN (t n d : Int) : Int := opN (two t 1 n d) (t * d + n * 1) (1 * d)
def addD (t n d : Int) : Int := opD (two t 1 n d) (t * d + n * 1) (1 * d)
def addO (t n d : Int) : Bool := opOk (two t 1 n d) (t * d + n * 1) (1 * d)
/-- the program's way back: numerator, denominator, is it told -/
def bk (t : Int) (r : Int × Int × Bool) : Int × Int × Bool := (addN t (divN r.1 r.2.1) (divD r.1 r.2.1), addD t (divN r.1 r.2.1) (divD r.1 r.2.1), addO t (divN r.1 r.2.1) (divD r.1 r.2.1))
def ftL : List Int → Int × Int × Bool
  | [] => (0, 0, false)
  | [t] => (redN t 1, redD t 1, redOk t 1)
  | t :: u :: l => bk t (ftL (u :: l))
theorem ftL_cons (t : Int) (l : List Int) (h : l ≠ []) : ftL (t :: l) = bk t (ftL l) := by
  cases l with
  | nil => exact absurd rfl h
  | cons u l => rfl
/-- the model's way back: a reckoning that remembers whether it was too great -/
def kN (o : Bool) (n : Int) : Int := if o = true then n else 0
def kD (o : Bool) (d : Int) : Int := if o = true then d else 1
def bs (t : Int) (r : Int × Int × Bool) : Int × Int × Bool :=
  let pn := kN (divO r.1 r.2.1) (divN r.1 r.2.1)
  let pd := kD (divO r.1 r.2.1) (divD r.1 r.2.1)
  (kN (addO t pn pd) (addN t pn pd), kD (addO t pn pd) (addD t pn pd), (r.2.2 || !divO r.1 r.2.1) || !addO t pn pd)
def spL : List Int → Int × Int × Bool
  | [] => (0, 0, false)
  | [t] => (t, 1, false)
  | t :: u :: l => bs t (spL (u :: l))
theorem spL_cons (t : Int) (l : List Int) (h : l ≠ []) : spL (t :: l) = bs t (spL l) := by
  cases l with
  | nil => exact absurd rfl h
  | cons u l => rfl
/-- within the bounds of a whole fraction -/
def inR (t : Int) : Prop := -1000000000 ≤ t ∧ t ≤ 1000000000
theorem two_whole (n d : Int) : two 1 1 n d = okB n d := by
  unfold two; rw [show okB 1 1 = true from by decide]; rfl
theorem red_whole {t : Int} (h : inR t) : redOk t 1 = true ∧ redN t 1 = t ∧ redD t 1 = 1 := by
  obtain ⟨h1, h2⟩ := h
  have hs : sg t 1 = 1 := by unfold sg; rw [gcdi_one]; rfl
  have hi : redIn t 1 = true := redIn_mk ⟨by omega, by omega, by omega, by omega, by omega⟩
  have e := red_yes hi (show bdB (t.tdiv (sg t 1)) ((1 : Int).tdiv (sg t 1)) = true from by rw [hs]; simp; exact bdB_mk ⟨by omega, by omega, h1, h2⟩)
  rw [hs] at e
  simpa using e
theorem red_whole_no {t : Int} (h : ¬ inR t) : redOk t 1 = false ∧ redN t 1 = 0 ∧ redD t 1 = 0 := by
  have hs : sg t 1 = 1 := by unfold sg; rw [gcdi_one]; rfl
  apply red_no2
  rw [hs]; simp
  exact bdB_no (fun k => h ⟨k.2.2.1, k.2.2.2⟩)
theorem two_whole_no {t n d : Int} (h : ¬ inR t) : two t 1 n d = false := two_no1 (okB_no (fun k => h ⟨k.2.2.1, k.2.2.2.1⟩))
theorem okB_zero : okB 0 0 = false := by decide
theorem div_zero : divN 0 0 = 0 ∧ divD 0 0 = 0 ∧ divO 0 0 = false := by
  unfold divN divD divO; rw [two_whole, okB_zero]; exact ⟨rfl, rfl, rfl⟩
theorem add_zero (t : Int) : addN t 0 0 = 0 ∧ addD t 0 0 = 0 ∧ addO t 0 0 = false := by
  unfold addN addD addO; rw [two_no2 okB_zero]; exact ⟨rfl, rfl, rfl⟩
/-- what is not told stays so -/
theorem bk_zero (t : Int) : bk t (0, 0, false) = (0, 0, false) := by
  unfold bk
  simp only [div_zero.1, div_zero.2.1, (add_zero t).1, (add_zero t).2.1, (add_zero t).2.2]
theorem bk_no {t : Int} (h : ¬ inR t) (r : Int × Int × Bool) : bk t r = (0, 0, false) := by
  unfold bk addN addD addO
  rw [two_whole_no h]; rfl
theorem op_zero {q : Bool} {x y : Int} (h : opOk q x y = false) : opN q x y = 0 ∧ opD q x y = 0 := by
  unfold opOk at h
  unfold opN opD redN redD
  cases q
  · exact ⟨rfl, rfl⟩
  · simp at h; rw [h]; exact ⟨rfl, rfl⟩
theorem op_right {q : Bool} {x y : Int} (h : opOk q x y = true) : okB (opN q x y) (opD q x y) = true := by
  unfold opOk at h
  rw [Bool.and_eq_true] at h
  rw [h.1]
  exact okB_redN h.2
/-- a list with one that is out of bounds tells none -/
theorem ftL_no : ∀ {l : List Int}, (∃ t ∈ l, ¬ inR t) → ftL l = (0, 0, false)
  | [], h => by rfl
  | [t], h => by
    obtain ⟨u, hu, hn⟩ := h
    simp at hu; subst hu
    show (redN u 1, redD u 1, redOk u 1) = _
    rw [(red_whole_no hn).1, (red_whole_no hn).2.1, (red_whole_no hn).2.2]
  | t :: u :: l, h => by
    show bk t (ftL (u :: l)) = _
    by_cases ht : inR t
    · rw [ftL_no (l := u :: l) (by
        obtain ⟨x, hx, hn⟩ := h
        rcases List.mem_cons.mp hx with rfl | hx
        · exact absurd ht hn
        · exact ⟨x, hx, hn⟩)]
      exact bk_zero t
    · exact bk_no ht _
/-- both ways back answer alike -/
theorem both : ∀ {l : List Int}, l ≠ [] → (∀ t ∈ l, inR t) → ((spL l).2.2 = true ∧ ftL l = (0, 0, false)) ∨ ((spL l).2.2 = false ∧ ftL l = ((spL l).1, (spL l).2.1, true) ∧ okB (spL l).1 (spL l).2.1 = true)
  | [], h, _ => absurd rfl h
  | [t], _, h => by
    have ht := h t (by simp)
    right
    refine ⟨rfl, ?_, okB_whole ht.1 ht.2⟩
    show (redN t 1, redD t 1, redOk t 1) = _
    rw [(red_whole ht).1, (red_whole ht).2.1, (red_whole ht).2.2]
    rfl
  | t :: u :: l, _, h => by
    have ih := both (l := u :: l) (by simp) (fun x hx => h x (List.mem_cons_of_mem _ hx))
    show ((bs t (spL (u :: l))).2.2 = true ∧ bk t (ftL (u :: l)) = _) ∨ ((bs t (spL (u :: l))).2.2 = false ∧ bk t (ftL (u :: l)) = ((bs t (spL (u :: l))).1, (bs t (spL (u :: l))).2.1, true) ∧ okB (bs t (spL (u :: l))).1 (bs t (spL (u :: l))).2.1 = true)
    rcases ih with ⟨h1, h2⟩ | ⟨h1, h2, h3⟩
    · left
      rw [h2]
      exact ⟨by unfold bs; simp [h1], bk_zero t⟩
    · rw [h2]
      generalize spL (u :: l) = r at *
      obtain ⟨n, d, bd⟩ := r
      simp only at h1 h3
      subst h1
      by_cases ho : divO n d = true
      · by_cases ha : addO t (divN n d) (divD n d) = true
        · right
          have e : bs t (n, d, false) = (addN t (divN n d) (divD n d), addD t (divN n d) (divD n d), false) := by
            unfold bs; simp [ho, ha, kN, kD]
          rw [e]
          refine ⟨rfl, ?_, op_right ha⟩
          unfold bk; simp only [ha]
        · left
          rw [Bool.not_eq_true] at ha
          have z := op_zero ha
          refine ⟨by unfold bs; simp [ho, ha, kN, kD], ?_⟩
          unfold bk; simp only
          rw [show addN t (divN n d) (divD n d) = 0 from z.1, show addD t (divN n d) (divD n d) = 0 from z.2, ha]
      · left
        rw [Bool.not_eq_true] at ho
        have z := op_zero ho
        refine ⟨by unfold bs; simp [ho], ?_⟩
        unfold bk; simp only
        rw [show divN n d = 0 from z.1, show divD n d = 0 from z.2, (add_zero t).1, (add_zero t).2.1, (add_zero t).2.2]
/-- is each behind the first at least 1? -/
def behindB (l : List Int) : Bool := decide (∀ t ∈ l.drop 1, 1 ≤ t)
/-- what FromTerms answers -/
def fromT (l : List Int) : Int × Int × Bool := if 1 ≤ l.length ∧ l.length ≤ 60 ∧ behindB l = true then ftL l else (0, 0, false)
theorem fromT_yes {l : List Int} (h1 : 1 ≤ l.length) (h2 : l.length ≤ 60) (h : behindB l = true) : fromT l = ftL l := if_pos ⟨h1, h2, h⟩
theorem fromT_no {l : List Int} (h : ¬ (1 ≤ l.length ∧ l.length ≤ 60 ∧ behindB l = true)) : fromT l = (0, 0, false) := if_neg h
/-- is a term refused? the model's own test -/
def badT (l : List Int) (k : Nat) : Prop := (0 < k ∧ l[k]?.getD 0 < 1) ∨ ¬ inR (l[k]?.getD 0)
theorem fromT_bad {l : List Int} {k : Nat} (hk : k < l.length) (h : badT l k) : fromT l = (0, 0, false) := by
  by_cases h1 : 1 ≤ l.length ∧ l.length ≤ 60 ∧ behindB l = true
  · rw [fromT_yes h1.1 h1.2.1 h1.2.2]
    rcases h with ⟨h2, h3⟩ | h
    · have h4 := of_decide_eq_true h1.2.2
      have := h4 (l[k]?.getD 0) (by
        rw [List.getElem?_eq_getElem hk]
        obtain ⟨j, rfl⟩ : ∃ j, k = j + 1 := ⟨k - 1, by omega⟩
        rw [List.mem_iff_getElem?]
        exact ⟨j, by rw [List.getElem?_drop, Nat.add_comm, List.getElem?_eq_getElem hk]; rfl⟩)
      omega
    · refine ftL_no ⟨_, ?_, h⟩
      rw [List.getElem?_eq_getElem hk]
      exact List.getElem_mem hk
  · exact fromT_no h1
theorem fromT_good {l : List Int} (h1 : 1 ≤ l.length) (h2 : l.length ≤ 60) (h : ∀ k, k < l.length → ¬ badT l k) : fromT l = ftL l ∧ ∀ t ∈ l, inR t := by
  have hin : ∀ t ∈ l, inR t := by
    intro t ht
    obtain ⟨k, hk, rfl⟩ := List.mem_iff_getElem.mp ht
    by_cases hi : inR l[k]
    · exact hi
    · exact absurd (.inr (by rw [List.getElem?_eq_getElem hk]; exact hi)) (h k hk)
  refine ⟨fromT_yes h1 h2 (decide_eq_true ?_), hin⟩
  intro t ht
  obtain ⟨j, hj⟩ := List.mem_iff_getElem?.mp ht
  rw [List.getElem?_drop] at hj
  obtain ⟨hk, e⟩ := List.getElem?_eq_some_iff.mp hj
  by_cases hlt : 1 ≤ t
  · exact hlt
  · exact absurd (.inl ⟨by omega, by rw [List.getElem?_eq_getElem hk, e]; show t < 1; omega⟩) (h (1 + j) hk)
/-- the model's answer, from its way back -/
theorem from_model {l : List Int} (h1 : 1 ≤ l.length) (h2 : l.length ≤ 60) (h : ∀ k, k < l.length → ¬ badT l k) :
    ((spL l).2.2 = true ∧ fromT l = (0, 0, false)) ∨ ((spL l).2.2 = false ∧ fromT l = ((spL l).1, (spL l).2.1, true) ∧ okB (spL l).1 (spL l).2.1 = true) := by
  obtain ⟨e, hin⟩ := fromT_good h1 h2 h
  rw [e]
  exact both (fun k => by rw [k] at h1; simp at h1) hin
theorem drop_cons (l : List Int) (k : Nat) (h : k < l.length) : l.drop k = l[k]?.getD 0 :: l.drop (k + 1) := by
  rw [List.drop_eq_getElem_cons h, List.getElem?_eq_getElem h]; rfl
theorem ftL_drop (l : List Int) (k : Nat) (h : k + 1 < l.length) : ftL (l.drop k) = bk (l[k]?.getD 0) (ftL (l.drop (k + 1))) := by
  rw [drop_cons l k (by omega), ftL_cons _ _ (by intro e; have := congrArg List.length e; simp at this; omega)]
theorem spL_drop (l : List Int) (k : Nat) (h : k + 1 < l.length) : spL (l.drop k) = bs (l[k]?.getD 0) (spL (l.drop (k + 1))) := by
  rw [drop_cons l k (by omega), spL_cons _ _ (by intro e; have := congrArg List.length e; simp at this; omega)]
theorem last_drop (l : List Int) (k : Nat) (h : k + 1 = l.length) : l.drop k = [l[k]?.getD 0] := by
  rw [drop_cons l k (by omega), List.drop_of_length_le (by omega)]
end Go.Proofs.Ytkcdpjcfbpjkean.RM
