/- The walks of the model's Weight and Inside. -/
import Derived.Test.YthmdiljcceiedaaPtW1
namespace Go.Proofs.Ythmdiljcceiedaa
open Go.RowKit Go.Proofs.Ythmdiljcceiedaa.RM

/-- the weights of those of the first k points that lie from lo to hi -/
def insS (ps : List Fr) (lo hi : Int) : Nat → Int
  | 0 => 0
  | k + 1 => if lo ≤ (fr ps k).1 ∧ (fr ps k).1 ≤ hi then insS ps lo hi k + (fr ps k).2 else insS ps lo hi k
theorem insS_in {ps : List Fr} {lo hi : Int} : ∀ {k : Nat}, (∀ j, j < k → ptP ps j) → 0 ≤ insS ps lo hi k ∧ insS ps lo hi k ≤ wtS ps k
  | 0, _ => ⟨Int.le_refl _, Int.le_refl _⟩
  | k + 1, h => by
    have h1 := insS_in (ps := ps) (lo := lo) (hi := hi) (k := k) (fun j hj => h j (by omega))
    have h2 := (h k (by omega)).2.1
    rw [show insS ps lo hi (k + 1) = if lo ≤ (fr ps k).1 ∧ (fr ps k).1 ≤ hi then insS ps lo hi k + (fr ps k).2 else insS ps lo hi k from rfl, show wtS ps (k + 1) = wtS ps k + (fr ps k).2 from rfl]
    split <;> omega
def wgtA (ps : List Fr) : Int := if sprB ps = true then wtS ps ps.length else -1
def insA (ps : List Fr) (lo hi : Int) : Int := if sprB ps = true then insS ps lo hi ps.length else -1
theorem ret_i {a b : Int} (h : a = b) : Ending.returned (.int .i64 a) = .returned (.int .i64 b) := by rw [h]

end Go.Proofs.Ythmdiljcceiedaa
