/- Spreads: what the model asks of them, their weights, what lies inside. -/
import Derived.Test.YthmdiljcceiedaaPtW0
import Derived.BigQuiet
import Derived.Deep.DeepCutAuto
import Derived.Deep.CutRange
namespace Go.Proofs.Ythmdiljcceiedaa
open Go.RowKit Go.Proofs.Ythmdiljcceiedaa.RM

theorem hidP {p : Prop} (h : p) : Hid p := h
/-- the weights of the first k points -/
def wtS (ps : List Fr) : Nat → Int
  | 0 => 0
  | k + 1 => wtS ps k + (fr ps k).2
/-- a point that fits behind the one before -/
def ptP (ps : List Fr) (k : Nat) : Prop := (-1000 ≤ (fr ps k).1 ∧ (fr ps k).1 ≤ 1000) ∧ (1 ≤ (fr ps k).2 ∧ (fr ps k).2 ≤ 1000000) ∧ (0 < k → (fr ps (k - 1)).1 < (fr ps k).1)
instance (ps : List Fr) (k : Nat) : Decidable (ptP ps k) := by unfold ptP; infer_instance
def sprP (ps : List Fr) : Prop := (1 ≤ ps.length ∧ ps.length ≤ 40) ∧ (∀ k, k < ps.length → ptP ps k) ∧ wtS ps ps.length ≤ 1000000
instance (ps : List Fr) : Decidable (sprP ps) := by unfold sprP; infer_instance
def sprB (ps : List Fr) : Bool := decide (sprP ps)
theorem wtS_in {ps : List Fr} : ∀ {k : Nat}, (∀ j, j < k → ptP ps j) → 0 ≤ wtS ps k ∧ wtS ps k ≤ (k : Int) * 1000000
  | 0, _ => ⟨Int.le_refl _, by show (0 : Int) ≤ _; omega⟩
  | k + 1, h => by
    have h1 := wtS_in (ps := ps) (k := k) (fun j hj => h j (by omega))
    have h2 := (h k (by omega)).2.1
    show 0 ≤ wtS ps k + (fr ps k).2 ∧ wtS ps k + (fr ps k).2 ≤ _
    omega
theorem sprB_len {ps : List Fr} (h : ¬ (1 ≤ ps.length ∧ ps.length ≤ 40)) : sprB ps = false := decide_eq_false fun k => h k.1
theorem sprB_pt {ps : List Fr} {k : Nat} (hk : k < ps.length) (h : ¬ ptP ps k) : sprB ps = false := decide_eq_false fun q => h (q.2.1 k hk)
theorem sprB_out {ps : List Fr} (h : sprB ps = true) : sprP ps := of_decide_eq_true h

end Go.Proofs.Ythmdiljcceiedaa
