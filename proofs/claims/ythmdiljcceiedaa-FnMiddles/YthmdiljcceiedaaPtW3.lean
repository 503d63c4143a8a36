/- The walks of the model's moments and of its Mean. -/
import Derived.Test.YthmdiljcceiedaaPtW2
import Derived.Test.YthmdiljcceiedaaRatioW5
namespace Go.Proofs.Ythmdiljcceiedaa
open Go.RowKit Go.Proofs.Ythmdiljcceiedaa.RM

/-- y times the n-th power of x -/
def pwS (y x : Int) : Nat → Int
  | 0 => y
  | n + 1 => pwS y x n * x
/-- the sum of the first k weights times a power of their places -/
def momS (ps : List Fr) (p : Nat) : Nat → Int
  | 0 => 0
  | k + 1 => momS ps p k + pwS (fr ps k).2 (fr ps k).1 p
theorem mul_in {a b A B : Int} (h1 : -A ≤ a) (h2 : a ≤ A) (h3 : -B ≤ b) (h4 : b ≤ B) : -(A * B) ≤ a * b ∧ a * b ≤ A * B := by
  have e1 := Int.mul_nonneg (show 0 ≤ A - a by omega) (show 0 ≤ B + b by omega)
  have e2 := Int.mul_nonneg (show 0 ≤ A + a by omega) (show 0 ≤ B - b by omega)
  have e3 := Int.mul_nonneg (show 0 ≤ A - a by omega) (show 0 ≤ B - b by omega)
  have e4 := Int.mul_nonneg (show 0 ≤ A + a by omega) (show 0 ≤ B + b by omega)
  have d1 : (A - a) * (B + b) = A * B + A * b - a * B - a * b := by rw [Int.sub_mul, Int.mul_add, Int.mul_add]; omega
  have d2 : (A + a) * (B - b) = A * B - A * b + a * B - a * b := by rw [Int.add_mul, Int.mul_sub, Int.mul_sub]; omega
  have d3 : (A - a) * (B - b) = A * B - A * b - a * B + a * b := by rw [Int.sub_mul, Int.mul_sub, Int.mul_sub]; omega
  have d4 : (A + a) * (B + b) = A * B + A * b + a * B + a * b := by rw [Int.add_mul, Int.mul_add, Int.mul_add]; omega
  constructor <;> omega
theorem pwS_in {y x : Int} (hy : 1 ≤ y ∧ y ≤ 1000000) (hx : -1000 ≤ x ∧ x ≤ 1000) : ∀ {n : Nat}, n ≤ 2 → -1000000000000 ≤ pwS y x n ∧ pwS y x n ≤ 1000000000000
  | 0, _ => by show _ ≤ y ∧ y ≤ _; omega
  | 1, _ => by
    have := mul_in (a := y) (b := x) (A := 1000000) (B := 1000) (by omega) (by omega) (by omega) (by omega)
    show _ ≤ y * x ∧ y * x ≤ _; omega
  | 2, _ => by
    have h1 := mul_in (a := y) (b := x) (A := 1000000) (B := 1000) (by omega) (by omega) (by omega) (by omega)
    have := mul_in (a := y * x) (b := x) (A := 1000000000) (B := 1000) (by omega) (by omega) (by omega) (by omega)
    show _ ≤ y * x * x ∧ y * x * x ≤ _; omega
theorem momS_in {ps : List Fr} {p : Nat} (hp : p ≤ 2) : ∀ {k : Nat}, (∀ j, j < k → ptP ps j) → -((k : Int) * 1000000000000) ≤ momS ps p k ∧ momS ps p k ≤ (k : Int) * 1000000000000
  | 0, _ => by show _ ≤ (0 : Int) ∧ (0 : Int) ≤ _; omega
  | k + 1, h => by
    have h1 := momS_in (ps := ps) hp (k := k) (fun j hj => h j (by omega))
    have h2 := pwS_in (h k (by omega)).2.1 (h k (by omega)).1 hp
    show _ ≤ momS ps p k + pwS (fr ps k).2 (fr ps k).1 p ∧ momS ps p k + pwS (fr ps k).2 (fr ps k).1 p ≤ _
    omega
/-- a moment as the model tells it -/
def momA (ps : List Fr) (p : Nat) : Fr × Bool := ((redN (momS ps p ps.length) (wtS ps ps.length), redD (momS ps p ps.length) (wtS ps ps.length)), redOk (momS ps p ps.length) (wtS ps ps.length))
def menO (ps : List Fr) : Bool := sprB ps && (momA ps 1).2
def menA (ps : List Fr) : Fr := if sprB ps = true then (momA ps 1).1 else (0, 0)
theorem ret_fb9 {a b a' b' : Int} {o o' : Bool} (h1 : a = a') (h2 : b = b') (h3 : o = o') : Ending.returned (.tuple #[.agg #[.int .i64 a, .int .i64 b], .bool o]) = .returned (.tuple #[.agg #[.int .i64 a', .int .i64 b'], .bool o']) := by rw [h1, h2, h3]

end Go.Proofs.Ythmdiljcceiedaa
