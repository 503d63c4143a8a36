/- Chebyshev in whole numbers. -/
import Derived.Test.YtaaefebjjjfgbaaChebMath
namespace Go.Proofs.Ytaaefebjjjfgbaa
open Go.Proofs.Ytaaefebjjjfgbaa.RM

/-- as far off N by D as t -/
def offP (ps : List Fr) (n d t : Int) (i : Nat) : Prop := t * d ≤ (fr ps i).1 * d - n ∨ t * d ≤ n - (fr ps i).1 * d
instance (ps : List Fr) (n d t : Int) : DecidablePred (offP ps n d t) := fun i => by unfold offP; infer_instance
theorem off_sq {x u : Rat} {a n d t : Int} (hd : 0 < d) (ht : 0 ≤ t) (hx : x = ((a : Int) : Rat)) (hu : u * ((d : Int) : Rat) = ((n : Int) : Rat)) (h : t * d ≤ a * d - n ∨ t * d ≤ n - a * d) : ((t : Int) : Rat) * ((t : Int) : Rat) ≤ (x - u) * (x - u) := by
  have hD : (0 : Rat) < ((d : Int) : Rat) := by exact_mod_cast hd
  have hT : (0 : Rat) ≤ ((t : Int) : Rat) := by exact_mod_cast ht
  have key : ∀ y : Rat, ((t : Int) : Rat) * ((d : Int) : Rat) ≤ y * ((d : Int) : Rat) → ((t : Int) : Rat) * ((t : Int) : Rat) ≤ y * y := by
    intro y hy
    have h1 : ((t : Int) : Rat) ≤ y := Rat.le_of_mul_le_mul_right hy hD
    have h2 := Rat.mul_le_mul_of_nonneg_left h1 hT
    have h3 := Rat.mul_le_mul_of_nonneg_right h1 (Rat.le_trans hT h1)
    exact Rat.le_trans h2 h3
  rcases h with h | h
  · have hc : ((t * d : Int) : Rat) ≤ ((a * d - n : Int) : Rat) := by exact_mod_cast h
    rw [Rat.intCast_mul, Rat.intCast_sub, Rat.intCast_mul] at hc
    exact key (x - u) (by rw [hx]; grind)
  · have hc : ((t * d : Int) : Rat) ≤ ((n - a * d : Int) : Rat) := by exact_mod_cast h
    rw [Rat.intCast_mul, Rat.intCast_sub, Rat.intCast_mul] at hc
    have := key (u - x) (by rw [hx]; grind)
    grind
/-- CHEBYSHEV -/
theorem cheb_law {ps : List Fr} (hs : sprP ps) (h1 : (momA ps 1).2 = true) (h2 : (momA ps 2).2 = true) (hv : (vryV (momA ps 2).1 (momA ps 1).1).2 = false) {t : Int} (ht : 0 ≤ t) :
    farS ps (offP ps (momA ps 1).1.1 (momA ps 1).1.2 t) ps.length * t * t * (vryV (momA ps 2).1 (momA ps 1).1).1.2 ≤ wtS ps ps.length * (vryV (momA ps 2).1 (momA ps 1).1).1.1 := by
  obtain ⟨⟨l1, _⟩, hP, _⟩ := hs
  have hw : wtS ps ps.length ≠ 0 := by
    obtain ⟨n, hn⟩ : ∃ n, ps.length = n + 1 := ⟨ps.length - 1, by omega⟩
    have a1 := (wtS_in (ps := ps) (k := n) (fun j hj => hP j (by omega))).1
    have a2 := (hP n (by omega)).2.1.1
    rw [hn]
    show wtS ps n + (fr ps n).2 ≠ 0
    omega
  have hval := vary_val hw h1 h2 hv
  have okm : okF (momA ps 1).1 = true := okB_redN h1
  have okv : okF (vryV (momA ps 2).1 (momA ps 1).1).1 = true := by
    unfold vryV at hv ⊢
    dsimp only at hv ⊢
    rw [Bool.or_eq_false_iff] at hv
    have k2 : subK (momA ps 2).1 (p1V (momA ps 1).1 (momA ps 1).1) = true := by simpa using hv.2
    rw [keepF_yes k2]
    exact sub_right k2
  generalize momA ps 1 = m at *
  generalize vryV (momA ps 2).1 m.1 = v at *
  obtain ⟨⟨n, d⟩, mo⟩ := m
  obtain ⟨⟨vn, vd⟩, vo⟩ := v
  dsimp only at *
  have hd := okB_out okm
  have hvd := okB_out okv
  dsimp only at hd hvd
  have hu : qf (n, d) * ((d : Int) : Rat) = ((n : Int) : Rat) := by
    unfold qf
    rw [Rat.divInt_eq_div, Rat.div_mul_cancel (by intro h; have h0 : d = 0 := (by exact_mod_cast h); omega)]
  have hvq : qf (vn, vd) * ((vd : Int) : Rat) = ((vn : Int) : Rat) := by
    unfold qf
    rw [Rat.divInt_eq_div, Rat.div_mul_cancel (by intro h; have h0 : vd = 0 := (by exact_mod_cast h); omega)]
  have hf := far_le (ps := ps) (c := offP ps n d t) (u := qf (n, d)) (t := ((t : Int) : Rat)) (k := ps.length) (fun i hi => by have := (hP i hi).2.1.1; omega) (fun i _ hi => off_sq (by omega) ht rfl hu hi)
  rw [← hval] at hf
  have hVD : (0 : Rat) ≤ ((vd : Int) : Rat) := by exact_mod_cast (show (0 : Int) ≤ vd by omega)
  have hg := Rat.mul_le_mul_of_nonneg_right hf hVD
  have e1 : ((farS ps (offP ps n d t) ps.length : Int) : Rat) * (((t : Int) : Rat) * ((t : Int) : Rat)) * ((vd : Int) : Rat) = ((farS ps (offP ps n d t) ps.length * t * t * vd : Int) : Rat) := by
    rw [Rat.intCast_mul, Rat.intCast_mul, Rat.intCast_mul]; grind
  have e2 : ((wtS ps ps.length : Int) : Rat) * qf (vn, vd) * ((vd : Int) : Rat) = ((wtS ps ps.length * vn : Int) : Rat) := by
    rw [Rat.intCast_mul, ← hvq]; grind
  rw [e1, e2] at hg
  exact_mod_cast hg
end Go.Proofs.Ytaaefebjjjfgbaa
