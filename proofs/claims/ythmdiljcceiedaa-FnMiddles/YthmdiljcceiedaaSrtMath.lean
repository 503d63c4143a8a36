/- A list of right fractions in its order: there is but one. -/
import Derived.Test.YthmdiljcceiedaaRngMath
import Derived.Test.YthmdiljcceiedaaAgrW3
import Derived.Test.YthmdiljcceiedaaTabW2
namespace Go.Proofs.Ythmdiljcceiedaa
open Go.RowKit Go.Proofs.Ythmdiljcceiedaa.RM

def leF (a b : Fr) : Prop := v7 a ≤ v7 b
theorem allOk_mem {ls : List Fr} : allOk ls = true ↔ ∀ p ∈ ls, ok7 p = true := by
  unfold allOk ok7; rw [List.all_eq_true]
theorem insR_perm (x : Fr) : ∀ l : List Fr, (insR l x).Perm (x :: l)
  | [] => List.Perm.refl _
  | q :: r => by
    unfold insR
    split
    · exact List.Perm.refl _
    · exact ((insR_perm x r).cons q).trans (List.Perm.swap x q r)
theorem srtR_perm (ls : List Fr) : ∀ k, k ≤ ls.length → (srtR ls k).Perm (ls.take k)
  | 0, _ => by rw [List.take_zero]; exact List.Perm.refl _
  | k + 1, h => by
    show (insR (srtR ls k) (fr ls k)).Perm _
    have e : ls.take (k + 1) = ls.take k ++ [fr ls k] := by
      rw [List.take_add_one, List.getElem?_eq_getElem (by omega)]
      simp [fr, List.getElem?_eq_getElem (show k < ls.length by omega)]
    rw [e]
    exact ((insR_perm _ _).trans ((srtR_perm ls k (by omega)).cons _)).trans (List.perm_append_comm (l₁ := [fr ls k]))
theorem srtR_all (ls : List Fr) : (srtR ls ls.length).Perm ls := by
  have := srtR_perm ls ls.length (Nat.le_refl _)
  rwa [List.take_length] at this
theorem insR_sort (x : Fr) (hx : ok7 x = true) : ∀ l : List Fr, (∀ p ∈ l, ok7 p = true) → l.Pairwise leF → (insR l x).Pairwise leF
  | [], _, _ => by unfold insR; simp
  | q :: r, ho, hs => by
    have hq := ho q (by simp)
    have hr : ∀ p ∈ r, ok7 p = true := fun p hp => ho p (List.mem_cons_of_mem _ hp)
    rw [List.pairwise_cons] at hs
    unfold insR
    split
    · rename_i h
      have h1 : v7 x < v7 q := (le7_iff hx hq).1 h
      rw [List.pairwise_cons, List.pairwise_cons]
      refine ⟨fun p hp => ?_, hs⟩
      rcases List.mem_cons.1 hp with rfl | hp
      · exact Rat.le_of_lt h1
      · exact Rat.le_trans (Rat.le_of_lt h1) (hs.1 p hp)
    · rename_i h
      have h1 : v7 q ≤ v7 x := (le7_no hx hq).1 (by rw [Bool.not_eq_true] at h; exact h)
      rw [List.pairwise_cons]
      refine ⟨fun p hp => ?_, insR_sort x hx r hr hs.2⟩
      rcases List.mem_cons.1 ((insR_perm x r).mem_iff.1 hp) with rfl | hp
      · exact h1
      · exact hs.1 p hp
theorem srtR_ok {ls : List Fr} (h : allOk ls = true) (k : Nat) (hk : k ≤ ls.length) : ∀ p ∈ srtR ls k, ok7 p = true := fun p hp =>
  allOk_mem.1 h p (List.mem_of_mem_take ((srtR_perm ls k hk).mem_iff.1 hp))
theorem srtR_sort {ls : List Fr} (h : allOk ls = true) : ∀ k, k ≤ ls.length → (srtR ls k).Pairwise leF
  | 0, _ => List.Pairwise.nil
  | k + 1, hk => insR_sort _ (by have := allOk_at h (k := k) (by omega); exact this) _ (srtR_ok h k (by omega)) (srtR_sort h k (by omega))
/-- a list of the same fractions in its order is the one -/
theorem srt_one {ls qs : List Fr} (h : allOk ls = true) (hp : qs.Perm ls) (hs : qs.Pairwise leF) : qs = srtR ls ls.length := by
  refine List.Perm.eq_of_pairwise (le := leF) ?_ hs (srtR_sort h ls.length (Nat.le_refl _)) (hp.trans (srtR_all ls).symm)
  intro a b ha hb h1 h2
  exact v7_inj (allOk_mem.1 h a (hp.mem_iff.1 ha)) (allOk_mem.1 h b ((srtR_all ls).mem_iff.1 hb)) (Rat.le_antisymm h1 h2)
end Go.Proofs.Ythmdiljcceiedaa
