/- What a text of a fraction is, and that it is read back: in plain lists of bytes. -/
import Derived.Test.YtbbkejfcheobaaaDoorStrW2
import Derived.Lib.IndexMore
import Derived.Lib.ParseIntB
namespace Go.Proofs.YtbbkejfcheobaaaDoor
open Go.Proofs.YtbbkejfcheobaaaDoor.RM

/-- is it a digit -/
def isD (c : UInt8) : Prop := 48 ≤ c.toNat ∧ c.toNat ≤ 57
theorem dig_toNat {v : Nat} (h : v ≤ 9) : (UInt8.ofNat (48 + v)).toNat = 48 + v := by
  rw [UInt8.toNat_ofNat']
  omega
theorem dec_digits (u : Nat) : ∀ c, c ∈ Lib.decDigits u → isD c := by
  induction u using Nat.strongRecOn with
  | _ u ih =>
    intro c hc
    rw [dec_step] at hc
    rw [List.mem_append] at hc
    rcases hc with hc | hc
    · by_cases h : u / 10 = 0
      · rw [if_pos h] at hc; simp at hc
      · rw [if_neg h] at hc
        exact ih (u / 10) (by omega) c hc
    · simp only [List.mem_singleton] at hc
      subst hc
      unfold isD
      rw [dig_toNat (by omega)]
      omega
theorem dec_ne (u : Nat) : Lib.decDigits u ≠ [] := by rw [dec_step]; simp
/-- digits read on from a -/
def dgF : List UInt8 → Nat → Option Nat
  | [], a => some a
  | c :: r, a => if 48 ≤ c.toNat ∧ c.toNat ≤ 57 then dgF r (a * 10 + (c.toNat - 48)) else none
theorem dgF_app (x y : List UInt8) : ∀ a b, dgF x a = some b → dgF (x ++ y) a = dgF y b := by
  induction x with
  | nil => intro a b h; simp only [dgF] at h; cases h; rfl
  | cons c r ih =>
    intro a b h
    simp only [dgF, List.cons_append] at h ⊢
    split at h
    · rename_i hc; rw [if_pos hc]; exact ih _ _ h
    · cases h
theorem dgF_dec (u : Nat) : ∀ a, dgF (Lib.decDigits u) a = some (a * 10 ^ (Lib.decDigits u).length + u) := by
  induction u using Nat.strongRecOn with
  | _ u ih =>
    intro a
    rw [dec_step]
    by_cases h : u / 10 = 0
    · rw [if_pos h]
      have e := dig_toNat (v := u % 10) (by omega)
      simp only [List.nil_append, dgF, e]
      rw [if_pos (by omega)]
      simp
      omega
    · rw [if_neg h, dgF_app _ _ _ _ (ih (u / 10) (by omega) a)]
      have e := dig_toNat (v := u % 10) (by omega)
      simp only [dgF, e]
      rw [if_pos (by omega)]
      rw [List.length_append, List.length_singleton, Nat.pow_succ]
      congr 1
      rw [← Nat.mul_assoc]
      omega
/-- the library reads digits on alike where they are few -/
theorem parseM_dgF (M : Nat) (hM : 9999999999 ≤ M) : ∀ (l : List UInt8) (a b : Nat), dgF l a = some b → b ≤ 9999999999 → Lib.parseUintM M a l = .ok b
  | [], a, b, h, hb => by simp only [dgF] at h; cases h; rfl
  | c :: r, a, b, h, hb => by
    simp only [dgF] at h
    split at h
    · rename_i hc
      have hle : ∀ (r : List UInt8) (x b : Nat), dgF r x = some b → x ≤ b := by
        intro r
        induction r with
        | nil => intro x b h; simp only [dgF] at h; cases h; exact Nat.le_refl _
        | cons c r ih =>
          intro x b h
          simp only [dgF] at h
          split at h
          · have := ih _ _ h; omega
          · cases h
      have h1 := hle r _ _ h
      simp only [Lib.parseUintM]
      rw [if_pos hc, if_neg (by omega), if_neg (by omega)]
      exact parseM_dgF M hM r _ b h hb
    · cases h
theorem parse_itoa {n : Int} (h0 : -1000000000 ≤ n) (h1 : n ≤ 1000000000) : Lib.parseIntB 64 (Lib.itoa n) = .ok n := by
  have key : ∀ u : Nat, u ≤ 1000000000 → Lib.parseUintB 64 (Lib.decDigits u) = .ok u := by
    intro u hu
    unfold Lib.parseUintB
    rw [if_neg (dec_ne u)]
    have := dgF_dec u 0
    rw [Nat.zero_mul, Nat.zero_add] at this
    exact parseM_dgF _ (by decide) _ _ _ this (by omega)
  unfold Lib.itoa
  by_cases hn : n < 0
  · rw [if_pos hn]
    unfold Lib.parseIntB
    simp only [show (45 : UInt8).toNat = 45 from rfl, or_true, if_true]
    rw [key _ (by omega)]
    have e63 : (2 : Nat) ^ (64 - 1) = 9223372036854775808 := by decide
    simp only [not_true, false_and, if_false, true_and, e63]
    rw [if_neg (by omega)]
    congr 1
    omega
  · rw [if_neg hn]
    obtain ⟨c, r, hcr⟩ : ∃ c r, Lib.decDigits n.toNat = c :: r := by
      cases h : Lib.decDigits n.toNat with
      | nil => exact absurd h (dec_ne _)
      | cons c r => exact ⟨c, r, rfl⟩
    have hd := dec_digits n.toNat c (by rw [hcr]; simp)
    unfold isD at hd
    have k := key n.toNat (by omega)
    rw [hcr] at k ⊢
    unfold Lib.parseIntB
    simp only
    rw [if_neg (by omega), k]
    have e63 : (2 : Nat) ^ (64 - 1) = 9223372036854775808 := by decide
    simp only [e63]
    rw [if_neg (by omega), if_neg (by omega), if_neg (by omega)]
    congr 1
    omega
theorem itoa_no47 (n : Int) : (47 : UInt8) ∉ Lib.itoa n := by
  intro h
  have key : ∀ u, (47 : UInt8) ∉ Lib.decDigits u := by
    intro u h
    have := dec_digits u 47 h
    unfold isD at this
    exact absurd this (by decide)
  unfold Lib.itoa at h
  split at h
  · rw [List.mem_cons] at h
    rcases h with h | h
    · exact absurd h (by decide)
    · exact key _ h
  · exact key _ h
theorem itoa_ne (n : Int) : Lib.itoa n ≠ [] := by
  unfold Lib.itoa
  split
  · simp
  · exact dec_ne _
theorem index_none : ∀ (a : List UInt8), (47 : UInt8) ∉ a → Lib.index a [47] = -1
  | [], _ => rfl
  | c :: r, h => by
    have hr := index_none r (fun h2 => h (by simp [h2]))
    have hc : ¬ (47 : UInt8) = c := fun e => h (by simp [e])
    unfold Lib.index
    rw [if_neg (by simp [List.isPrefixOf, hc]), hr]
    rfl
theorem index_at : ∀ (a b : List UInt8), (47 : UInt8) ∉ a → Lib.index (a ++ 47 :: b) [47] = a.length
  | [], b, _ => by unfold Lib.index; simp [List.isPrefixOf]
  | c :: r, b, h => by
    have hr := index_at r b (fun h2 => h (by simp [h2]))
    have hc : ¬ (47 : UInt8) = c := fun e => h (by simp [e])
    rw [List.cons_append]
    unfold Lib.index
    rw [if_neg (by simp [List.isPrefixOf, hc]), hr, if_neg (by simp)]
    simp
theorem cut_none {a : List UInt8} (h : (47 : UInt8) ∉ a) : Lib.cut a [47] = (a, [], false) := by
  unfold Lib.cut
  rw [index_none a h, if_neg (by omega)]
theorem cut_at {a b : List UInt8} (h : (47 : UInt8) ∉ a) : Lib.cut (a ++ 47 :: b) [47] = (a, b, true) := by
  unfold Lib.cut
  rw [index_at a b h, if_pos (by omega)]
  simp
/-- what the program answers -/
def numE (r : Lib.NumEnd Int) (l : List UInt8) : Int × Bool := match r with | .ok v => (v, true) | .syntax => (0, false) | .range => (Lib.intSat 64 l, false)
def rdI (s : List UInt8) : Int × Int × Bool :=
  let c := Lib.cut s [47]
  let b := if c.2.2 then c.2.1 else [49]
  let n := numE (Lib.parseIntB 64 c.1) c.1
  let d := numE (Lib.parseIntB 64 b) b
  if n.2 = true ∧ d.2 = true ∧ shw n.1 d.1 = s then (n.1, d.1, true) else (0, 0, false)
theorem rdI_shw {n d : Int} (h : okB n d = true) : rdI (shw n d) = (n, d, true) := by
  obtain ⟨hd1, hd2, hn1, hn2, -⟩ := okB_out h
  by_cases h1 : d = 1
  · subst h1
    have e := shw_one h
    unfold rdI
    rw [e, cut_none (itoa_no47 n)]
    simp only
    rw [parse_itoa hn1 hn2]
    have p1 : Lib.parseIntB 64 [49] = .ok 1 := by decide
    simp only [if_false, p1, numE, Bool.false_eq_true]
    rw [if_pos ⟨trivial, trivial, e⟩]
  · have e := shw_more h h1
    unfold rdI
    rw [e, cut_at (itoa_no47 n)]
    simp only
    rw [parse_itoa hn1 hn2]
    simp only [if_true]
    rw [parse_itoa (by omega) hd2]
    simp only [numE]
    rw [if_pos ⟨trivial, trivial, e⟩]
theorem rdI_no {s : List UInt8} (h : ¬ ∃ n d, okB n d = true ∧ shw n d = s) : rdI s = (0, 0, false) := by
  unfold rdI
  simp only
  rw [if_neg]
  rintro ⟨h1, h2, h3⟩
  by_cases hk : okB (numE (Lib.parseIntB 64 (Lib.cut s [47]).1) (Lib.cut s [47]).1).1 (numE (Lib.parseIntB 64 (if (Lib.cut s [47]).2.2 then (Lib.cut s [47]).2.1 else [49])) (if (Lib.cut s [47]).2.2 then (Lib.cut s [47]).2.1 else [49])).1 = true
  · exact h ⟨_, _, hk, h3⟩
  · rw [Bool.not_eq_true] at hk
    rw [shw_no hk] at h3
    subst h3
    have : Lib.cut [] [47] = ([], [], false) := rfl
    rw [this] at h1
    exact absurd h1 (by decide)
end Go.Proofs.YtbbkejfcheobaaaDoor
