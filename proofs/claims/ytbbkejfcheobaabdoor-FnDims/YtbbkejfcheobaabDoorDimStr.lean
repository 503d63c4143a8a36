/- What a dimension is shown as, in plain lists. -/
import Derived.Test.YtbbkejfcheobaabDoorDimMath
import Derived.Lib.ItoaNum
import Derived.Lib.Join
namespace Go.Proofs.YtbbkejfcheobaabDoor
open Go.Proofs.YtbbkejfcheobaabDoor.RM

/-- the letters; number k of a list -/
def dl (k : Nat) : UInt8 := ([76, 77, 84, 73, 75] : List UInt8)[k]?.getD 0
def ky (ys : List Int) (k : Nat) : Int := ys[k]?.getD 0
/-- the words of the first k numbers; their text -/
def wdU (ys : List Int) (k : Nat) : List (List UInt8) := (List.range k).filterMap fun i => if ky ys i = 0 then none else some (dl i :: Lib.itoa (ky ys i))
def txU (ys : List Int) (k : Nat) : List UInt8 := Lib.join (wdU ys k) [32]
/-- what both answer -/
def showD (ys : List Int) : List UInt8 := if dimB ys then (if wdU ys 5 = [] then [49] else txU ys 5) else []
theorem wdU_zero (ys : List Int) : wdU ys 0 = [] := rfl
theorem wdU_no {ys : List Int} {k : Nat} (h : ky ys k = 0) : wdU ys (k + 1) = wdU ys k := by
  unfold wdU
  rw [List.range_succ, List.filterMap_append]
  simp [h]
theorem wdU_yes {ys : List Int} {k : Nat} (h : ky ys k ≠ 0) : wdU ys (k + 1) = wdU ys k ++ [dl k :: Lib.itoa (ky ys k)] := by
  unfold wdU
  rw [List.range_succ, List.filterMap_append]
  simp [h]
theorem wdU_word {ys : List Int} {k : Nat} {x : List UInt8} (h : x ∈ wdU ys k) : x ≠ [] := by
  unfold wdU at h
  rw [List.mem_filterMap] at h
  obtain ⟨i, -, hi⟩ := h
  split at hi
  · cases hi
  · cases hi; simp
theorem join_snoc (ws : List (List UInt8)) (x sep : List UInt8) : Lib.join (ws ++ [x]) sep = if ws = [] then x else Lib.join ws sep ++ sep ++ x := by
  cases ws with
  | nil => rw [if_pos rfl]; exact Lib.join_one x sep
  | cons w r =>
    rw [if_neg (by simp)]
    unfold Lib.join List.intercalate
    induction r generalizing w with
    | nil => simp
    | cons v r ih =>
      have := ih v
      simp only [List.cons_append, List.intersperse, List.flatten_cons] at this ⊢
      rw [this]
      simp
theorem txU_no {ys : List Int} {k : Nat} (h : ky ys k = 0) : txU ys (k + 1) = txU ys k := by unfold txU; rw [wdU_no h]
theorem txU_first {ys : List Int} {k : Nat} (h : ky ys k ≠ 0) (hw : wdU ys k = []) : txU ys (k + 1) = dl k :: Lib.itoa (ky ys k) := by unfold txU; rw [wdU_yes h, join_snoc, if_pos hw]
theorem txU_more {ys : List Int} {k : Nat} (h : ky ys k ≠ 0) (hw : wdU ys k ≠ []) : txU ys (k + 1) = txU ys k ++ [32] ++ dl k :: Lib.itoa (ky ys k) := by unfold txU; rw [wdU_yes h, join_snoc, if_neg hw]
theorem join_nil_iff {ws : List (List UInt8)} {sep : List UInt8} (h : ∀ x, x ∈ ws → x ≠ []) : Lib.join ws sep = [] ↔ ws = [] := by
  constructor
  · intro hj
    cases ws with
    | nil => rfl
    | cons w r =>
      exfalso
      have hw := h w (by simp)
      unfold Lib.join List.intercalate at hj
      cases r with
      | nil => simp at hj; exact hw hj
      | cons v r =>
        simp only [List.intersperse, List.flatten_cons] at hj
        simp at hj
        exact hw hj.1
  · rintro rfl; exact Lib.join_nil sep
theorem txU_nil {ys : List Int} {k : Nat} : txU ys k = [] ↔ wdU ys k = [] := join_nil_iff (fun _ h => wdU_word h)
theorem dec_small (u : Nat) (h : u ≤ 9) : Lib.decDigits u = [UInt8.ofNat (48 + u)] := by rw [Lib.decDigits, dif_pos (by omega)]
theorem itoa_small {n : Int} (h0 : -9 ≤ n) (h1 : n ≤ 9) : (Lib.itoa n).length ≤ 2 := by
  unfold Lib.itoa
  split
  · rw [dec_small _ (by omega)]; simp
  · rw [dec_small _ (by omega)]; simp
theorem txU_len {ys : List Int} (h : ∀ k, k < 5 → -9 ≤ ky ys k ∧ ky ys k ≤ 9) : ∀ k, k ≤ 5 → (txU ys k).length ≤ 4 * k
  | 0, _ => by simp [txU, wdU_zero, Lib.join_nil]
  | k + 1, hk => by
    have ih := txU_len h k (by omega)
    obtain ⟨h0, h1⟩ := h k (by omega)
    have hs := itoa_small h0 h1
    by_cases hz : ky ys k = 0
    · rw [txU_no hz]; omega
    · by_cases hw : wdU ys k = []
      · rw [txU_first hz hw]; simp; omega
      · rw [txU_more hz hw]; simp; omega
theorem wdU_len (ys : List Int) (k : Nat) : (wdU ys k).length ≤ k := by
  have := List.length_filterMap_le (fun i => if ky ys i = 0 then none else some (dl i :: Lib.itoa (ky ys i))) (List.range k)
  rw [List.length_range] at this
  exact this
theorem wdU_five (a b c d e : Int) : wdU [a, b, c, d, e] 5 = [] ↔ (a = 0 ∧ b = 0 ∧ c = 0 ∧ d = 0 ∧ e = 0) := by
  unfold wdU
  rw [List.filterMap_eq_nil_iff]
  constructor
  · intro h
    have key : ∀ i, i < 5 → ky [a, b, c, d, e] i = 0 := by
      intro i hi
      have := h i (List.mem_range.2 hi)
      simpa using this
    exact ⟨key 0 (by decide), key 1 (by decide), key 2 (by decide), key 3 (by decide), key 4 (by decide)⟩
  · rintro ⟨rfl, rfl, rfl, rfl, rfl⟩ i hi
    rw [List.mem_range] at hi
    have : ky [0, 0, 0, 0, 0] i = 0 := by
      match i, hi with
      | 0, _ | 1, _ | 2, _ | 3, _ | 4, _ => rfl
    rw [this]
    rfl
end Go.Proofs.YtbbkejfcheobaabDoor
