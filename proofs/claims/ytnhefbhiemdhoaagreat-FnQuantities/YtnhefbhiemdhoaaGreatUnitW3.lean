/- The program's words: a prefix and a unit, a unit or such a one. -/
import Derived.Test.YtnhefbhiemdhoaaGreatUnitW3y
namespace Go.Proofs.YtnhefbhiemdhoaaGreat
open Go.RowKit Go.MapKept Go.Proofs.YtnhefbhiemdhoaaGreat.RM

set_option maxRecDepth 100000 in
set_option maxHeartbeats 1000000 in
theorem pre_any (s : ByteArray) (B : Nat) (w : World) (hs : s.size ≤ 1048576) (hM : IsM w B uEnts 15) :
    Calls Tryz.prog 98 #[.map (some B), .string s] w fun e w' => e = .returned (.tuple #[uVal (preI s.data.toList).1, .bool (preI s.data.toList).2]) ∧ Below w.heap.size w w' := by
  have b0 : ∀ (u : World) (o : Obj), Below u.heap.size u (u.alloc o) := fun u o => (Below.refl _ _).alloc (Nat.le_refl _) o
  cases hl : s.data.toList with
  | nil =>
    have he : s.toList.isEmpty = true := by rw [ByteArray.toList_eq]; show s.data.toList.isEmpty = true; rw [hl]; rfl
    go_enter Tryz.func98, Tryz.ntmps98
    go_wp2
    exact bodyPost_ret (v := .tuple #[uVal .zero, .bool false]) (by simp [results, Tryz.results98, go_sem, uVal, UV.zero]) rfl ⟨rfl, b0 _ _⟩
  | cons b r =>
    have he : s.toList.isEmpty = false := by rw [ByteArray.toList_eq]; show s.data.toList.isEmpty = false; rw [hl]; rfl
    have hz : 1 ≤ s.size := by
      have : s.size = s.data.toList.length := rfl
      rw [this, hl]; simp
    have hz1 : (1 : Int) ≤ s.size := by omega
    have hr := tail_b s b r hl
    cases hu : uFind r with
    | none =>
      rw [show preI (b :: r) = (.zero, false) by simp [preI, hu]]
      go_enter Tryz.func98, Tryz.ntmps98
      go_wp2_with (first | (refine wpList_look _ rfl _ _ _ _ rfl _ _ _ rfl rfl (look_none (by rw [hr]; exact hu) (hM.below (b0 _ _))) ?_) | go_in)
      exact bodyPost_ret (v := .tuple #[uVal .zero, .bool false]) (by simp [results, Tryz.results98, go_sem, uVal, UV.zero]) rfl ⟨rfl, (b0 _ _).alloc (by simp) _⟩
    | some u =>
      have hr2 : (s.extract 1 s.size).toList = r := by rw [ByteArray.toList_eq]; exact hr
      have L := fun W => @look_some (s.extract 1 s.size) u B W (by rw [hr]; exact hu)
      by_cases hb : r = [109, 105, 110] ∨ r = [104] ∨ r = [67]
      · rw [show preI (b :: r) = (.zero, false) by simp [preI, hu, hb]]
        rcases hb with hb | hb | hb
        · have e1 : (s.extract 1 s.size).toList = [109, 105, 110] := by rw [hr2]; exact hb
          clear hb hr hr2 hl hu
          go_enter Tryz.func98, Tryz.ntmps98
          go_wp2_with (first | (refine wpList_look _ rfl _ _ _ _ rfl _ _ _ rfl rfl (L _ (hM.below (b0 _ _))) ?_) | go_in)
          exact bodyPost_ret (v := .tuple #[uVal .zero, .bool false]) (by simp [results, Tryz.results98, go_sem, uVal, UV.zero]) rfl ⟨rfl, (b0 _ _).alloc (by simp) _⟩
        · have e1 : (s.extract 1 s.size).toList = [104] := by rw [hr2]; exact hb
          clear hb hr hr2 hl hu
          go_enter Tryz.func98, Tryz.ntmps98
          go_wp2_with (first | (refine wpList_look _ rfl _ _ _ _ rfl _ _ _ rfl rfl (L _ (hM.below (b0 _ _))) ?_) | go_in)
          exact bodyPost_ret (v := .tuple #[uVal .zero, .bool false]) (by simp [results, Tryz.results98, go_sem, uVal, UV.zero]) rfl ⟨rfl, (b0 _ _).alloc (by simp) _⟩
        · have e1 : (s.extract 1 s.size).toList = [67] := by rw [hr2]; exact hb
          clear hb hr hr2 hl hu
          go_enter Tryz.func98, Tryz.ntmps98
          go_wp2_with (first | (refine wpList_look _ rfl _ _ _ _ rfl _ _ _ rfl rfl (L _ (hM.below (b0 _ _))) ?_) | go_in)
          exact bodyPost_ret (v := .tuple #[uVal .zero, .bool false]) (by simp [results, Tryz.results98, go_sem, uVal, UV.zero]) rfl ⟨rfl, (b0 _ _).alloc (by simp) _⟩
      · exact pre_yes s B w hs hM b r u hl hu hb
end Go.Proofs.YtnhefbhiemdhoaaGreat
