/- What Solved answers, in plain lists. -/
import Derived.Test.YtibncepllmjhhaaKerMath
namespace Go.Proofs.Ytibncepllmjhhaa
open Go.RowKit Go.Proofs.Ytibncepllmjhhaa.RM

/-- the rows with right's elements behind them -/
def wideT (rows : List (List Fr)) (right : List Fr) : List (List Fr) := (List.range rows.length).map fun i => rw' rows i ++ [fr right i]
theorem wideT_len (rows : List (List Fr)) (right : List Fr) : (wideT rows right).length = rows.length := by simp [wideT]
theorem wideT_at (rows : List (List Fr)) (right : List Fr) (i : Nat) (h : i < rows.length) : rw' (wideT rows right) i = rw' rows i ++ [fr right i] := by simp [wideT, rw', h]
/-- is it as told, right's fractions aside -/
def solC (rows : List (List Fr)) (right : List Fr) : Bool := decide (rows.length ≤ 5) && (tabB rows 6 && (decide ((rw' rows 0).length = rows.length) && decide (right.length = rows.length)))
theorem solC_out {rows : List (List Fr)} {right : List Fr} (h : solC rows right = true) : rows.length ≤ 5 ∧ tabB rows 6 = true ∧ (rw' rows 0).length = rows.length ∧ right.length = rows.length := by
  unfold solC at h
  simpa [Bool.and_eq_true, and_assoc] using h
theorem solC_no {rows : List (List Fr)} {right : List Fr} (h : ¬ (rows.length ≤ 5 ∧ tabB rows 6 = true ∧ (rw' rows 0).length = rows.length ∧ right.length = rows.length)) : solC rows right = false := by
  rw [← Bool.not_eq_true]
  exact fun h2 => h (solC_out h2)
/-- just one free column: right's -/
def solF (n : Nat) (C : List Nat) : Bool := decide (freeC (n + 1) C = [n])
def solO (rows : List (List Fr)) (right : List Fr) : Bool := solC rows right && (echO (wideT rows right) && solF rows.length (echC (wideT rows right)))
def solX (rows : List (List Fr)) (right : List Fr) : List Fr := (List.range rows.length).map fun i => fr (rw' (echR (wideT rows right)) i) rows.length
def solA (rows : List (List Fr)) (right : List Fr) : List Fr := if solO rows right then solX rows right else []
theorem solA_no {rows : List (List Fr)} {right : List Fr} (h : solO rows right = false) : solA rows right = [] := by simp [solA, h]
theorem solA_yes {rows : List (List Fr)} {right : List Fr} (h : solO rows right = true) : solA rows right = solX rows right := by simp [solA, h]
theorem solX_len (rows : List (List Fr)) (right : List Fr) : (solX rows right).length = rows.length := by simp [solX]
theorem solX_at (rows : List (List Fr)) (right : List Fr) (i : Nat) (h : i < rows.length) : fr (solX rows right) i = fr (rw' (echR (wideT rows right)) i) rows.length := by simp [solX, fr, h]
/-- the wide table is one where right's fractions are right -/
theorem wide_tab {rows : List (List Fr)} {right : List Fr} (h : solC rows right = true) : tabB (wideT rows right) 6 = allOk right := by
  obtain ⟨h1, h2, h3, h4⟩ := solC_out h
  obtain ⟨⟨t1, t2, t3, t4⟩, tr⟩ := tabB_out h2
  have h0 : (rw' (wideT rows right) 0).length = rows.length + 1 := by rw [wideT_at _ _ _ (by omega)]; simp [h3]
  cases hr : allOk right with
  | true =>
    refine tabB_yes (by rw [wideT_len, h0]; omega) (fun k hk => ?_)
    rw [wideT_len] at hk
    rw [h0, wideT_at _ _ _ hk]
    refine ⟨by rw [List.length_append, (tr k hk).1, h3]; rfl, ?_⟩
    unfold allOk
    rw [List.all_append]
    have e1 := (tr k hk).2
    unfold allOk at e1
    rw [e1]
    have e2 := allOk_at hr (k := k) (by omega)
    simpa using e2
  | false =>
    have hbad : ∃ k, k < right.length ∧ okB (fr right k).1 (fr right k).2 = false := by
      apply Classical.byContradiction
      intro hn
      have : allOk right = true := allOk_yes (fun k hk => by
        cases e : okB (fr right k).1 (fr right k).2 with
        | true => rfl
        | false => exact absurd ⟨k, hk, e⟩ hn)
      rw [hr] at this; cases this
    obtain ⟨k, hk, hb⟩ := hbad
    refine tabB_row (k := k) (by rw [wideT_len]; omega) (fun hh => ?_)
    have e1 := hh.2
    rw [wideT_at _ _ _ (by omega)] at e1
    unfold allOk at e1
    rw [List.all_append, Bool.and_eq_true] at e1
    have e2 := e1.2
    simp [hb] at e2
theorem atP_run {n : Nat} {C : List Nat} (hr : rises C) (h : ∀ x, x < n → x ∈ C) : ∀ k, k ≤ n → atP C k k ∧ ∀ i, i < k → nt C i = i
  | 0, _ => ⟨atP_zero C, fun i hi => absurd hi (Nat.not_lt_zero _)⟩
  | k + 1, hk => by
    obtain ⟨h1, h2⟩ := atP_run hr h k (by omega)
    have hm := h k (by omega)
    have hc : k < C.length ∧ nt C k = k := by
      apply Classical.byContradiction
      intro hn
      exact (atP_no hr h1 (fun hl e => hn ⟨hl, e⟩)).2 hm
    refine ⟨(atP_yes hr h1 hc.1 hc.2).1, fun i hi => ?_⟩
    by_cases e : i = k
    · subst e; exact hc.2
    · exact h2 i (by omega)
/-- the model's way to say the same -/
theorem solF_model {n : Nat} {C : List Nat} (hn : 1 ≤ n) (hr : rises C) (hl : ∀ c, c ∈ C → c < n + 1) : solF n C = (decide (C.length = n) && decide (nt C (n - 1) = n - 1)) := by
  unfold solF
  rw [Bool.eq_iff_iff, decide_eq_true_eq, Bool.and_eq_true, decide_eq_true_eq, decide_eq_true_eq]
  constructor
  · intro h
    have hin : ∀ x, x < n → x ∈ C := by
      intro x hx
      apply Classical.byContradiction
      intro hn2
      have : x ∈ freeC (n + 1) C := freeC_mem.2 ⟨by omega, hn2⟩
      rw [h] at this
      simp at this
      omega
    have hout : n ∉ C := by
      have : n ∈ freeC (n + 1) C := by rw [h]; simp
      exact (freeC_mem.1 this).2
    obtain ⟨h1, h2⟩ := atP_run hr hin n (Nat.le_refl _)
    have hlen : C.length = n := by
      apply Classical.byContradiction
      intro hne
      have hgt : n < C.length := by have := h1.1; omega
      have h3 := h1.2.2 n (Nat.le_refl _) hgt
      have h4 := hl _ (nt_mem hgt)
      exact hout (by have := nt_mem hgt; rw [show nt C n = n by omega] at this; exact this)
    exact ⟨hlen, h2 (n - 1) (by omega)⟩
  · rintro ⟨h1, h2⟩
    have hle : ∀ k, k < n → nt C (n - 1 - k) ≤ n - 1 - k := by
      intro k
      induction k with
      | zero => intro _; simp [h2]
      | succ k ih =>
        intro hk
        have := ih (by omega)
        have := hr (n - 1 - (k + 1)) (n - 1 - k) (by omega) (by omega)
        omega
    have hge : ∀ k, k < n → k ≤ nt C k := by
      intro k
      induction k with
      | zero => intro _; omega
      | succ k ih =>
        intro hk
        have := ih (by omega)
        have := hr k (k + 1) (by omega) (by omega)
        omega
    have heq : ∀ k, k < n → nt C k = k := by
      intro k hk
      have a := hge k hk
      have b := hle (n - 1 - k) (by omega)
      rw [show n - 1 - (n - 1 - k) = k by omega] at b
      omega
    have hin : ∀ x, x < n → x ∈ C := fun x hx => by have := nt_mem (C := C) (k := x) (by omega); rw [heq x hx] at this; exact this
    have hout : n ∉ C := by
      intro hm
      obtain ⟨i, hi, he⟩ := mem_nt hm
      have := heq i (by omega)
      omega
    have hz : ∀ k, k ≤ n → freeC k C = [] := by
      intro k
      induction k with
      | zero => intro _; rfl
      | succ k ih => intro hk; rw [freeC_in (hin k (by omega))]; exact ih (by omega)
    rw [freeC_out hout, hz n (Nat.le_refl _)]
    rfl
theorem solA_small (rows : List (List Fr)) (right : List Fr) : (solA rows right).length ≤ 1048576 := by
  cases ho : solO rows right with
  | false => rw [solA_no ho]; simp
  | true =>
    have h := ho
    unfold solO at h
    rw [Bool.and_eq_true] at h
    obtain ⟨h1, _⟩ := solC_out h.1
    rw [solA_yes ho, solX_len]
    omega
end Go.Proofs.Ytibncepllmjhhaa
