/- Chebyshev: no more weight lies far off the mean than the variance allows. -/
import Derived.Test.YtaaefebjjjfgbaaPtW4
import Derived.Test.YtaaefebjjjfgbaaPk1
namespace Go.Proofs.Ytaaefebjjjfgbaa
open Go.Proofs.Ytaaefebjjjfgbaa.RM

theorem wt_rat (ps : List Fr) : ∀ k, ((wtS ps k : Int) : Rat) = sumN (fun i => (((fr ps i).2 : Int) : Rat)) k
  | 0 => rfl
  | k + 1 => by
    show (((wtS ps k + (fr ps k).2 : Int)) : Rat) = sumN _ k + _
    rw [Rat.intCast_add, wt_rat ps k]
theorem mom1_rat (ps : List Fr) : ∀ k, ((momS ps 1 k : Int) : Rat) = sumN (fun i => (((fr ps i).2 : Int) : Rat) * (((fr ps i).1 : Int) : Rat)) k
  | 0 => rfl
  | k + 1 => by
    show (((momS ps 1 k + (fr ps k).2 * (fr ps k).1 : Int)) : Rat) = sumN _ k + _
    rw [Rat.intCast_add, Rat.intCast_mul, mom1_rat ps k]
theorem mom2_rat (ps : List Fr) : ∀ k, ((momS ps 2 k : Int) : Rat) = sumN (fun i => (((fr ps i).2 : Int) : Rat) * (((fr ps i).1 : Int) : Rat) * (((fr ps i).1 : Int) : Rat)) k
  | 0 => rfl
  | k + 1 => by
    show (((momS ps 2 k + (fr ps k).2 * (fr ps k).1 * (fr ps k).1 : Int)) : Rat) = sumN _ k + _
    rw [Rat.intCast_add, Rat.intCast_mul, Rat.intCast_mul, mom2_rat ps k]
/-- squares off a middle, weighed -/
def sqW (ps : List Fr) (u : Rat) (k : Nat) : Rat := sumN (fun i => (((fr ps i).2 : Int) : Rat) * (((((fr ps i).1 : Int) : Rat) - u) * ((((fr ps i).1 : Int) : Rat) - u))) k
theorem sqW_is (ps : List Fr) (u : Rat) : ∀ k, sqW ps u k = ((momS ps 2 k : Int) : Rat) - 2 * u * ((momS ps 1 k : Int) : Rat) + u * u * ((wtS ps k : Int) : Rat)
  | 0 => by show (0 : Rat) = ((0 : Int) : Rat) - 2 * u * ((0 : Int) : Rat) + u * u * ((0 : Int) : Rat); grind
  | k + 1 => by
    have h := sqW_is ps u k
    rw [mom2_rat, mom1_rat, wt_rat] at h ⊢
    show sqW ps u k + _ = (sumN _ k + _) - 2 * u * (sumN _ k + _) + u * u * (sumN _ k + _)
    grind
/-- what the model tells of the variance -/
theorem vary_val {ps : List Fr} (hw : wtS ps ps.length ≠ 0) (h1 : (momA ps 1).2 = true) (h2 : (momA ps 2).2 = true) (hv : (vryV (momA ps 2).1 (momA ps 1).1).2 = false) :
    ((wtS ps ps.length : Int) : Rat) * qf (vryV (momA ps 2).1 (momA ps 1).1).1 = sqW ps (qf (momA ps 1).1) ps.length := by
  have q1 : qf (momA ps 1).1 = Rat.divInt (momS ps 1 ps.length) (wtS ps ps.length) := qf_red h1
  have q2 : qf (momA ps 2).1 = Rat.divInt (momS ps 2 ps.length) (wtS ps ps.length) := qf_red h2
  unfold vryV at hv ⊢
  dsimp only at hv ⊢
  rw [Bool.or_eq_false_iff] at hv
  have k1 : mulK (momA ps 1).1 (momA ps 1).1 = true := by simpa using hv.1
  have k2 : subK (momA ps 2).1 (p1V (momA ps 1).1 (momA ps 1).1) = true := by simpa using hv.2
  have e : p1V (momA ps 1).1 (momA ps 1).1 = mulP (momA ps 1).1 (momA ps 1).1 := by unfold p1V; exact keepF_yes k1
  rw [keepF_yes k2, qf_sub k2, e, qf_mul k1, sqW_is]
  have hW : ((wtS ps ps.length : Int) : Rat) ≠ 0 := fun h => hw (by exact_mod_cast h)
  rw [Rat.divInt_eq_div] at q1 q2
  have m1 : ((momS ps 1 ps.length : Int) : Rat) = qf (momA ps 1).1 * ((wtS ps ps.length : Int) : Rat) := by rw [q1, Rat.div_mul_cancel hW]
  have m2 : ((momS ps 2 ps.length : Int) : Rat) = qf (momA ps 2).1 * ((wtS ps ps.length : Int) : Rat) := by rw [q2, Rat.div_mul_cancel hW]
  rw [m1, m2]
  grind
/-- the weights of those that a test takes -/
def farS (ps : List Fr) (c : Nat → Prop) [DecidablePred c] : Nat → Int
  | 0 => 0
  | k + 1 => if c k then farS ps c k + (fr ps k).2 else farS ps c k
theorem far_le {ps : List Fr} {c : Nat → Prop} [DecidablePred c] {u t : Rat} : ∀ {k : Nat}, (∀ i, i < k → 0 ≤ (fr ps i).2) → (∀ i, i < k → c i → t * t ≤ ((((fr ps i).1 : Int) : Rat) - u) * ((((fr ps i).1 : Int) : Rat) - u)) →
    ((farS ps c k : Int) : Rat) * (t * t) ≤ sqW ps u k
  | 0, _, _ => by show ((0 : Int) : Rat) * _ ≤ (0 : Rat); rw [show ((0 : Int) : Rat) = 0 from rfl, Rat.zero_mul]; exact Rat.le_refl
  | k + 1, hw, hc => by
    have h := far_le (ps := ps) (c := c) (u := u) (t := t) (k := k) (fun i hi => hw i (by omega)) (fun i hi => hc i (by omega))
    have hwk : (0 : Rat) ≤ (((fr ps k).2 : Int) : Rat) := by exact_mod_cast hw k (by omega)
    show ((farS ps c (k + 1) : Int) : Rat) * (t * t) ≤ sqW ps u k + (((fr ps k).2 : Int) : Rat) * (((((fr ps k).1 : Int) : Rat) - u) * ((((fr ps k).1 : Int) : Rat) - u))
    by_cases g : c k
    · rw [show farS ps c (k + 1) = farS ps c k + (fr ps k).2 from if_pos g, Rat.intCast_add]
      have := Rat.mul_le_mul_of_nonneg_left (hc k (by omega) g) hwk
      grind
    · rw [show farS ps c (k + 1) = farS ps c k from if_neg g]
      have hs : (0 : Rat) ≤ ((((fr ps k).1 : Int) : Rat) - u) * ((((fr ps k).1 : Int) : Rat) - u) := by
        rcases Rat.nonneg_total ((((fr ps k).1 : Int) : Rat) - u) with h | h
        · exact Rat.mul_nonneg h h
        · have := Rat.mul_nonneg h h
          grind
      have := Rat.mul_nonneg hwk hs
      grind
end Go.Proofs.Ytaaefebjjjfgbaa
