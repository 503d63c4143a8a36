/- Covers: what the model asks of them (l8Square, CoverOk, l8Told). -/
import Derived.Test.YthnlcgilmljliaaTabW2
import Derived.BigRegion
namespace Go.Proofs.Ythnlcgilmljliaa
open Go.RowKit Go.Proofs.Ythnlcgilmljliaa.RM

theorem hidW8 {p : Prop} (h : p) : Hid p := h
/-- as many rows as long, of right fractions -/
def sqB (rows : List (List Fr)) (n : Int) : Bool := decide (1 ≤ n ∧ n ≤ 6 ∧ (rows.length : Int) = n) && rows.all (fun r => allB r n)
/-- alike across the diagonal -/
def symP (rows : List (List Fr)) : Prop := ∀ i, i < rows.length → ∀ k, k < i → fr (rw' rows i) k = fr (rw' rows k) i
instance (rows : List (List Fr)) : Decidable (symP rows) := by unfold symP; infer_instance
def covB (rows : List (List Fr)) : Bool := sqB rows rows.length && decide (symP rows)
theorem sqB_head {rows : List (List Fr)} {n : Int} (h : ¬ (1 ≤ n ∧ n ≤ 6 ∧ (rows.length : Int) = n)) : sqB rows n = false := by unfold sqB; rw [decide_eq_false h]; rfl
theorem sqB_row {rows : List (List Fr)} {n : Int} {k : Nat} (hk : k < rows.length) (h : allB (rw' rows k) n = false) : sqB rows n = false := by
  unfold sqB
  rw [all_no (fun r => allB r n) [] hk h, Bool.and_false]
theorem sqB_yes {rows : List (List Fr)} {n : Int} (h : 1 ≤ n ∧ n ≤ 6 ∧ (rows.length : Int) = n) (hr : ∀ k, k < rows.length → allB (rw' rows k) n = true) : sqB rows n = true := by
  unfold sqB
  rw [decide_eq_true h, Bool.true_and]
  exact all_yes (fun r => allB r n) [] hr
theorem sqB_out {rows : List (List Fr)} {n : Int} (h : sqB rows n = true) : (1 ≤ n ∧ n ≤ 6 ∧ (rows.length : Int) = n) ∧ ∀ k, k < rows.length → allB (rw' rows k) n = true := by
  unfold sqB at h
  rw [Bool.and_eq_true, decide_eq_true_eq] at h
  exact ⟨h.1, fun k hk => all_at (p := fun r => allB r n) (d := ([] : List Fr)) h.2 hk⟩
theorem allB_len {ps : List Fr} {n : Int} (h0 : 0 ≤ n) (h : allB ps n = true) : (ps.length : Int) = n ∧ allOk ps = true := by
  unfold allB at h
  rw [Bool.and_eq_true, decide_eq_true_eq] at h
  exact ⟨by omega, h.2⟩
theorem covB_out {rows : List (List Fr)} (h : covB rows = true) : (1 ≤ rows.length ∧ rows.length ≤ 6) ∧ (∀ k, k < rows.length → (rw' rows k).length = rows.length ∧ allOk (rw' rows k) = true) ∧ symP rows := by
  unfold covB at h
  rw [Bool.and_eq_true, decide_eq_true_eq] at h
  obtain ⟨⟨h1, h2, h3⟩, h4⟩ := sqB_out h.1
  refine ⟨by omega, fun k hk => ?_, h.2⟩
  obtain ⟨e1, e2⟩ := allB_len (by omega) (h4 k hk)
  exact ⟨by omega, e2⟩

/-- shares and their cover -/
def toldC (ps : List Fr) (rows : List (List Fr)) : Bool := covB rows && allB ps rows.length
end Go.Proofs.Ythnlcgilmljliaa
