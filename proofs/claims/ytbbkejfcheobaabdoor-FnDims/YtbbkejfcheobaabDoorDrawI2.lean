/- What the law of dimensions draws. -/
import Derived.Test.YtbbkejfcheobaabDoorDrawI
import Derived.Test.YtbbkejfcheobaabDoorLikeI
import Derived.Deep.RegionWith
import Derived.Deep.RegionHeld3
namespace Go.Proofs.YtbbkejfcheobaabDoor
open Go.RowKit Go.Proofs.YtbbkejfcheobaabDoor.RM

theorem likeI_eq (v u : Value) (zs : List Int) (b1 b2 : Nat) (e1 e2 : TypeId) (w : World) (hz : zs.length ≤ 1000000000) (h1 : w.ownsRow b1 e1 1 v zs.length (zs.map (Value.int .i64))) (h2 : w.ownsRow b2 e2 1 u zs.length (zs.map (Value.int .i64))) :
    Calls Tryd.prog 10 #[v, u] w fun e w' => e = .returned (.bool true) ∧ Below w.heap.size w w' := by
  have h := likeI_any v u zs zs b1 b2 e1 e2 w hz hz h1 h2
  rw [decide_eq_true rfl] at h
  exact h

set_option maxHeartbeats 1600000 in
theorem dDimTimes2_any (a : Option Addr) (len cap : Nat) (zs : List Int) (w : World) (hr : IsRow .u8 w a len cap zs) :
    Calls Tryd.prog 5 #[.slice a len cap] w fun e w' => ∃ va vb A B, e = .returned (.tuple #[va, vb]) ∧ DimIn w' va A ∧ DimIn w' vb B ∧ A.length ≤ 5 ∧ B.length ≤ 5 ∧ Below w.heap.size w w' := by
  have HR := hidI hr
  clear hr
  go_enter Tryd.func5, Tryd.ntmps5
  go_wp2_with fail
  refine (new_any a len cap zs _ HR.out).mono ?_
  rintro e w1 ⟨rfl, hC1, hB1, hs1⟩
  obtain ⟨cb, hcb'⟩ : ∃ cb, cb = w.heap.size := ⟨_, rfl⟩
  have hcb : w.heap.size ≤ cb := by omega
  have hc1 : cb < w1.heap.size := by omega
  rw [← hcb'] at hC1 ⊢
  have HC := hidI hC1
  have HE := hidI (Ex.of_below (cb := cb) hB1)
  clear hC1 hB1 hs1 hcb' HR
  go_wp2_with fail
  refine (l4Draw_any cb a len cap zs _ HC.out).mono ?_
  rintro e w2 ⟨va, A, rfl, hAl, hA, hC, hE⟩
  have HA := hidI hA
  replace HC := hidI hC
  replace HE := hidI (HE.out.trans hE)
  have hc2 : cb < w2.heap.size := by have := hE.size; omega
  clear hA hC hE
  go_wp2_with fail
  refine (l4Draw_any cb a len cap zs _ HC.out).mono ?_
  rintro e w3 ⟨vb, B, rfl, hBl, hB, hC, hE⟩
  replace HA := hidI (HA.out.ex hE hc1)
  have HB := hidI hB
  replace HE := hidI (HE.out.trans hE)
  clear hB hC hE
  go_wp2
  go_ret2
  exact ⟨_, _, A, B, rfl, HA.out.to, HB.out.to, hAl, hBl, Ex.below (Below.refl _ _) HE.out hcb⟩

set_option maxHeartbeats 1600000 in
theorem dDimOk_any (a : Option Addr) (len cap : Nat) (zs : List Int) (w : World) (hr : IsRow .u8 w a len cap zs) :
    Calls Tryd.prog 25 #[.slice a len cap] w fun e w' => ∃ va A, e = .returned va ∧ DimIn w' va A ∧ A.length ≤ 5 ∧ Below w.heap.size w w' := by
  have HR := hidI hr
  clear hr
  go_enter Tryd.func25, Tryd.ntmps25
  go_wp2_with fail
  refine (new_any a len cap zs _ HR.out).mono ?_
  rintro e w1 ⟨rfl, hC1, hB1, hs1⟩
  obtain ⟨cb, hcb'⟩ : ∃ cb, cb = w.heap.size := ⟨_, rfl⟩
  have hcb : w.heap.size ≤ cb := by omega
  rw [← hcb'] at hC1 ⊢
  have HC := hidI hC1
  have HE := hidI (Ex.of_below (cb := cb) hB1)
  clear hC1 hB1 hs1 hcb' HR
  go_wp2_with fail
  refine (l4Draw_any cb a len cap zs _ HC.out).mono ?_
  rintro e w2 ⟨va, A, rfl, hAl, hA, hC, hE⟩
  have HA := hidI hA
  replace HE := hidI (HE.out.trans hE)
  clear hA hC hE
  go_wp2
  go_ret
  exact ⟨_, A, rfl, HA.out.to, hAl, Ex.below (Below.refl _ _) HE.out hcb⟩
theorem dShowDim_any (a : Option Addr) (len cap : Nat) (zs : List Int) (w : World) (hr : IsRow .u8 w a len cap zs) :
    Calls Tryd.prog 9 #[.slice a len cap] w fun e w' => ∃ va A, e = .returned va ∧ DimIn w' va A ∧ A.length ≤ 5 ∧ Below w.heap.size w w' := by
  have HR := hidI hr
  clear hr
  go_enter Tryd.func9, Tryd.ntmps9
  go_wp2_with fail
  refine (dDimOk_any a len cap zs _ HR.out).mono ?_
  rintro e w1 ⟨va, A, rfl, hA, hAl, hb⟩
  have HA := hidI hA
  clear hA
  go_wp2
  go_ret
  exact ⟨_, A, rfl, HA.out, hAl, hb⟩

set_option maxHeartbeats 1600000 in
theorem dDimPower2_any (a : Option Addr) (len cap : Nat) (zs : List Int) (w : World) (hr : IsRow .u8 w a len cap zs) :
    Calls Tryd.prog 7 #[.slice a len cap] w fun e w' => ∃ va A, ∃ n : Int, e = .returned (.tuple #[va, .int .i64 n]) ∧ DimIn w' va A ∧ A.length ≤ 5 ∧ Below w.heap.size w w' := by
  have HR := hidI hr
  clear hr
  have b0 : ∀ (u : World) (o : Obj), Below u.heap.size u (u.alloc o) := fun u o => (Below.refl _ _).alloc (Nat.le_refl _) o
  have LIT : ∀ (W : World) (j : Nat), j < 9 → ∃ v, (W.alloc (.cells #[.int .i64 0, .int .i64 1, .int .i64 2, .int .i64 3, .int .i64 (-1), .int .i64 (-2), .int .i64 9, .int .i64 10, .int .i64 (-9223372036854775808)] 2)).cell? ⟨W.heap.size, j, none⟩ = some (.int .i64 v) ∧ ([.int .i64 0, .int .i64 1, .int .i64 2, .int .i64 3, .int .i64 (-1), .int .i64 (-2), .int .i64 9, .int .i64 10, .int .i64 (-9223372036854775808)] : List Value)[j]? = some (.int .i64 v) := by
    intro W j hj
    have o := World.ownsRow_lit W (base := W.heap.size) (e := 2) (size := 1) #[.int .i64 0, .int .i64 1, .int .i64 2, .int .i64 3, .int .i64 (-1), .int .i64 (-2), .int .i64 9, .int .i64 10, .int .i64 (-9223372036854775808)] 9 (Nat.le_refl _) (by decide) rfl
    refine ⟨_, own_int (zs := [0, 1, 2, 3, -1, -2, 9, 10, -9223372036854775808]) o rfl j (by omega), ?_⟩
    show (([0, 1, 2, 3, -1, -2, 9, 10, -9223372036854775808] : List Int).map (Value.int .i64))[j]? = _
    rw [List.getElem?_map, List.getElem?_eq_getElem (by simpa using hj)]
    simp
  have HLIT := hidI LIT
  clear LIT
  go_enter Tryd.func7, Tryd.ntmps7
  go_wp2_with fail
  refine (new_any a len cap zs _ HR.out).mono ?_
  rintro e w1 ⟨rfl, hC1, hB1, hs1⟩
  obtain ⟨cb, hcb'⟩ : ∃ cb, cb = w.heap.size := ⟨_, rfl⟩
  have hcb : w.heap.size ≤ cb := by omega
  have hc1 : cb < w1.heap.size := by omega
  rw [← hcb'] at hC1 ⊢
  have HC := hidI hC1
  have HE := hidI (Ex.of_below (cb := cb) hB1)
  clear hC1 hB1 hs1 hcb' HR
  go_wp2_with fail
  refine (l4Draw_any cb a len cap zs _ HC.out).mono ?_
  rintro e w2 ⟨va, A, rfl, hAl, hA, hC, hE⟩
  have HA := hidI hA
  replace HC := hidI hC
  replace HE := hidI (HE.out.trans hE)
  have hc2 : cb < w2.heap.size := by have := hE.size; omega
  clear hA hC hE
  go_wp2
  --REG3
  refine wp_region_noPanic ?_
  refine wp_region_held_drew (S := fun _ => True) (by kernel_rfl) trivial (fun hHeld => ?_)
  refine wpAnyH_take (i := 0) (v := ?_) rfl (by kernel_rfl) (by kernel_rfl) (by kernel_rfl) (fun _ _ _ h => h) (Or.inl ⟨by kernel_rfl, ?_⟩) hHeld ?_
  rotate_left
  · intro wz hSw; (try dsimp only at hSw); go_simp; all_goals (try with_reducible rfl)
  (try simp only [List.getElem_toArray]); (try simp only [List.getElem_cons_succ]); (try simp only [List.getElem_cons_zero]); (try simp only [Act.put]); (try simp only [List.setIfInBounds_toArray]); (try simp only [List.set_cons_succ]); (try simp only [List.set_cons_zero])
  refine wpAnyH_take (i := 2) (v := ?_) rfl (by kernel_rfl) (by kernel_rfl) (by kernel_rfl) (fun _ _ _ h => h) (Or.inl ⟨by kernel_rfl, ?_⟩) hHeld ?_
  rotate_left
  · intro wz hSw; (try dsimp only at hSw); go_simp; all_goals (try with_reducible rfl)
  (try simp only [List.getElem_toArray]); (try simp only [List.getElem_cons_succ]); (try simp only [List.getElem_cons_zero]); (try simp only [Act.put]); (try simp only [List.setIfInBounds_toArray]); (try simp only [List.set_cons_succ]); (try simp only [List.set_cons_zero])
  refine wpAnyH_ready (rs := [1, 3]) (by kernel_rfl) (by simp) (AllReadyH.cons rfl (fun Kc hKc => ?_) (AllReadyH.cons rfl (fun Kc hKc => ?_) AllReadyH.nil))
  · go_simp
    refine hKc.out _ _ trivial (fun hHeld => ?_)
    clear hKc Kc
    (try simp only [List.getElem_toArray]); (try simp only [List.getElem_cons_succ]); (try simp only [List.getElem_cons_zero]); (try simp only [Act.put]); (try simp only [List.setIfInBounds_toArray]); (try simp only [List.set_cons_succ]); (try simp only [List.set_cons_zero])
    refine wpAnyH_ready (rs := [3]) (by kernel_rfl) (by simp) (AllReadyH.cons rfl (fun Kc hKc => ?_) AllReadyH.nil)
    go_simp
    (go_at_call 23; refine (below_any cb _ a len cap zs _ ((HC.out.below ((Below.refl _ _).drew)).below (b0 _ _)) (by omega)).mono ?_)
    rintro e w3 ⟨x2, rfl, hy0, hy1, hC', hE⟩
    obtain ⟨j2, rfl⟩ : ∃ j : Nat, x2 = j := ⟨x2.toNat, by omega⟩
    obtain ⟨v, h9, -⟩ := HLIT.out w2.drew j2 (by omega)
    have hidx : w3.cell? ⟨w2.heap.size, j2, none⟩ = some (.int .i64 v) := hE.cell h9 (by simp; omega)
    clear h9
    have HA3 := hidI (HA.out.ex (((Ex.refl cb w2).drew.alloc (.cells #[.int .i64 0, .int .i64 1, .int .i64 2, .int .i64 3, .int .i64 (-1), .int .i64 (-2), .int .i64 9, .int .i64 10, .int .i64 (-9223372036854775808)] 2)).trans hE) hc1)
    have HE3 := hidI (HE.out.trans (((Ex.refl cb w2).drew.alloc (.cells #[.int .i64 0, .int .i64 1, .int .i64 2, .int .i64 3, .int .i64 (-1), .int .i64 (-2), .int .i64 9, .int .i64 10, .int .i64 (-9223372036854775808)] 2)).trans hE))
    clear hC' hE
    go_wp2_with fail
    refine hKc.out _ _ trivial (fun hHeld => ?_)
    clear hKc Kc
    (try simp only [List.getElem_toArray]); (try simp only [List.getElem_cons_succ]); (try simp only [List.getElem_cons_zero]); (try simp only [Act.put]); (try simp only [List.setIfInBounds_toArray]); (try simp only [List.set_cons_succ]); (try simp only [List.set_cons_zero])
    refine wpAnyH_take (i := 4) (v := ?_) rfl (by kernel_rfl) (by kernel_rfl) (by kernel_rfl) (fun _ _ _ h => h) (Or.inl ⟨by kernel_rfl, ?_⟩) hHeld ?_
    rotate_left
    · intro wz hSw; (try dsimp only at hSw); go_simp; all_goals (try with_reducible rfl)
    (try simp only [List.getElem_toArray]); (try simp only [List.getElem_cons_succ]); (try simp only [List.getElem_cons_zero]); (try simp only [Act.put]); (try simp only [List.setIfInBounds_toArray]); (try simp only [List.set_cons_succ]); (try simp only [List.set_cons_zero])
    refine wpAnyH_take (i := 6) (v := ?_) rfl (by kernel_rfl) (by kernel_rfl) (by kernel_rfl) (fun _ _ _ h => h) (Or.inl ⟨by kernel_rfl, ?_⟩) hHeld ?_
    rotate_left
    · intro wz hSw; (try dsimp only at hSw); go_simp; all_goals (try with_reducible rfl)
    (try simp only [List.getElem_toArray]); (try simp only [List.getElem_cons_succ]); (try simp only [List.getElem_cons_zero]); (try simp only [Act.put]); (try simp only [List.setIfInBounds_toArray]); (try simp only [List.set_cons_succ]); (try simp only [List.set_cons_zero])
    refine wpAnyH_ready (rs := [5]) (by kernel_rfl) (by simp) (AllReadyH.cons rfl (fun Kc hKc => ?_) AllReadyH.nil)
    go_simp
    refine hKc.out _ _ trivial (fun hHeld => ?_)
    clear hKc Kc
    (try simp only [List.getElem_toArray]); (try simp only [List.getElem_cons_succ]); (try simp only [List.getElem_cons_zero]); (try simp only [Act.put]); (try simp only [List.setIfInBounds_toArray]); (try simp only [List.set_cons_succ]); (try simp only [List.set_cons_zero])
    refine wpAnyH_take (i := 7) (v := ?_) rfl (by kernel_rfl) (by kernel_rfl) (by kernel_rfl) (fun _ _ _ h => h) (Or.inl ⟨by kernel_rfl, ?_⟩) hHeld ?_
    rotate_left
    · intro wz hSw; (try dsimp only at hSw); go_simp; all_goals (try with_reducible rfl)
    (try simp only [List.getElem_toArray]); (try simp only [List.getElem_cons_succ]); (try simp only [List.getElem_cons_zero]); (try simp only [Act.put]); (try simp only [List.setIfInBounds_toArray]); (try simp only [List.set_cons_succ]); (try simp only [List.set_cons_zero])
    refine wpAnyH_done (by kernel_rfl) ?_ _
    refine NoPanic.normal ?_
    go_wp2
    go_ret2
    exact ⟨_, A, _, rfl, HA3.out.to, hAl, Ex.below (Below.refl _ _) HE3.out hcb⟩
  · go_simp
    (go_at_call 23; refine (below_any cb _ a len cap zs _ (HC.out.below ((Below.refl _ _).drew)) (by omega)).mono ?_)
    rintro e w3 ⟨x2, rfl, hy0, hy1, hC', hE⟩
    obtain ⟨j2, rfl⟩ : ∃ j : Nat, x2 = j := ⟨x2.toNat, by omega⟩
    obtain ⟨v, -, hidx⟩ := HLIT.out w3 j2 (by omega)
    have HA3 := hidI (HA.out.ex ((Ex.refl cb w2).drew.trans hE) hc1)
    have HE3 := hidI (HE.out.trans ((Ex.refl cb w2).drew.trans hE))
    clear hC' hE
    go_wp2_with fail
    refine hKc.out _ _ trivial (fun hHeld => ?_)
    clear hKc Kc
    (try simp only [List.getElem_toArray]); (try simp only [List.getElem_cons_succ]); (try simp only [List.getElem_cons_zero]); (try simp only [Act.put]); (try simp only [List.setIfInBounds_toArray]); (try simp only [List.set_cons_succ]); (try simp only [List.set_cons_zero])
    refine wpAnyH_take (i := 6) (v := ?_) rfl (by kernel_rfl) (by kernel_rfl) (by kernel_rfl) (fun _ _ _ h => h) (Or.inl ⟨by kernel_rfl, ?_⟩) hHeld ?_
    rotate_left
    · intro wz hSw; (try dsimp only at hSw); go_simp; all_goals (try with_reducible rfl)
    (try simp only [List.getElem_toArray]); (try simp only [List.getElem_cons_succ]); (try simp only [List.getElem_cons_zero]); (try simp only [Act.put]); (try simp only [List.setIfInBounds_toArray]); (try simp only [List.set_cons_succ]); (try simp only [List.set_cons_zero])
    refine wpAnyH_ready (rs := [1]) (by kernel_rfl) (by simp) (AllReadyH.cons rfl (fun Kc hKc => ?_) AllReadyH.nil)
    go_simp
    refine hKc.out _ _ trivial (fun hHeld => ?_)
    clear hKc Kc
    (try simp only [List.getElem_toArray]); (try simp only [List.getElem_cons_succ]); (try simp only [List.getElem_cons_zero]); (try simp only [Act.put]); (try simp only [List.setIfInBounds_toArray]); (try simp only [List.set_cons_succ]); (try simp only [List.set_cons_zero])
    refine wpAnyH_take (i := 4) (v := ?_) rfl (by kernel_rfl) (by kernel_rfl) (by kernel_rfl) (fun _ _ _ h => h) (Or.inl ⟨by kernel_rfl, ?_⟩) hHeld ?_
    rotate_left
    · intro wz hSw; (try dsimp only at hSw); go_simp; all_goals (try with_reducible rfl)
    (try simp only [List.getElem_toArray]); (try simp only [List.getElem_cons_succ]); (try simp only [List.getElem_cons_zero]); (try simp only [Act.put]); (try simp only [List.setIfInBounds_toArray]); (try simp only [List.set_cons_succ]); (try simp only [List.set_cons_zero])
    refine wpAnyH_ready (rs := [5]) (by kernel_rfl) (by simp) (AllReadyH.cons rfl (fun Kc hKc => ?_) AllReadyH.nil)
    go_simp
    refine hKc.out _ _ trivial (fun hHeld => ?_)
    clear hKc Kc
    (try simp only [List.getElem_toArray]); (try simp only [List.getElem_cons_succ]); (try simp only [List.getElem_cons_zero]); (try simp only [Act.put]); (try simp only [List.setIfInBounds_toArray]); (try simp only [List.set_cons_succ]); (try simp only [List.set_cons_zero])
    refine wpAnyH_take (i := 7) (v := ?_) rfl (by kernel_rfl) (by kernel_rfl) (by kernel_rfl) (fun _ _ _ h => h) (Or.inl ⟨by kernel_rfl, ?_⟩) hHeld ?_
    rotate_left
    · intro wz hSw; (try dsimp only at hSw); go_simp; all_goals (try with_reducible rfl)
    (try simp only [List.getElem_toArray]); (try simp only [List.getElem_cons_succ]); (try simp only [List.getElem_cons_zero]); (try simp only [Act.put]); (try simp only [List.setIfInBounds_toArray]); (try simp only [List.set_cons_succ]); (try simp only [List.set_cons_zero])
    refine wpAnyH_done (by kernel_rfl) ?_ _
    refine NoPanic.normal ?_
    go_wp2
    go_ret2
    exact ⟨_, A, _, rfl, (HA3.out.ex ((Ex.refl cb _).alloc _) hc1).to, hAl, Ex.below (Below.refl _ _) (HE3.out.alloc _) hcb⟩
end Go.Proofs.YtbbkejfcheobaabDoor
