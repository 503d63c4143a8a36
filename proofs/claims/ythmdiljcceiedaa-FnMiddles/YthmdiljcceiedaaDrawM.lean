/- What is drawn for the law of middles. -/
import Derived.Test.YthmdiljcceiedaaDrawW9
import Derived.Test.YthmdiljcceiedaaDrawW4
import Derived.Test.YthmdiljcceiedaaAgrP3
namespace Go.Proofs.Ythmdiljcceiedaa
open Go.RowKit Go.Proofs.Ythmdiljcceiedaa.RM

set_option maxRecDepth 100000 in
set_option maxHeartbeats 2000000 in
theorem dMiddle_any (a : Option Addr) (len cap : Nat) (zs : List Int) (w : World) (hr : IsRow .u8 w a len cap zs) :
    Calls Try.prog 5 #[.slice a len cap] w fun e w' => ∃ (v : Value) (ps : List Fr), e = .returned v ∧ w'.ownsRow w.heap.size 27 2 v ps.length (cellsR ps) ∧ ps.length ≤ 200 ∧ Below w.heap.size w w' := by
  have HR : Hid (IsRow .u8 w a len cap zs) := hr
  clear hr
  go_enter Try.func5, Try.ntmps5
  go_wp2_with fail
  refine (new_any a len cap zs _ HR.out).mono ?_
  rintro e w1 ⟨rfl, hC1, B1, hs1⟩
  obtain ⟨cb, hcb⟩ : ∃ b, b = w.heap.size := ⟨_, rfl⟩
  rw [← hcb] at hC1
  have HC : Hid (Cur w1 cb a len cap zs) := hC1
  have HB := hidM B1
  have hcw : w.heap.size ≤ cb := by omega
  rw [← hcb]
  clear hC1 HR B1 hcb
  go_wp2_with fail
  refine (once_any cb _ a len cap zs _ HC.out (by omega)).mono ?_
  rintro e w2 ⟨z, rfl, hC', hE⟩
  replace HC := hidM hC'
  replace HB := hidM (Ex.below HB.out hE hcw)
  clear hC' hE
  cases z
  ·
    go_wp2_with fail
    refine (below_any cb _ a len cap zs _ HC.out (by omega)).mono ?_
    rintro e w3 ⟨x, rfl, x0, x1, hC', hE⟩
    replace HC := hidM hC'
    replace HB := hidM (Ex.below HB.out hE hcw)
    clear hC' hE
    go_wp2_with fail
    refine (dList_any cb x a len cap zs _ HC.out (by omega) (by omega)).mono ?_
    rintro e w4 ⟨v, ps, rfl, hO, hl, hC', hE⟩
    have HO := hidM (own_le hO HB.out.size)
    replace HB := hidM (Ex.below HB.out hE hcw)
    clear hC' hE hO
    go_wp2
    refine bodyPost_ret (results_tmp rfl _ _ _) rfl ⟨v, ps, rfl, ?_, hl, HB.out⟩
    exact HO.out
  ·
    go_wp2_with fail
    refine (below_any cb _ a len cap zs _ HC.out (by omega)).mono ?_
    rintro e w3 ⟨x, rfl, x0, x1, hC', hE⟩
    replace HC := hidM hC'
    replace HB := hidM (Ex.below HB.out hE hcw)
    clear hC' hE
    go_wp2_with fail
    refine (dList_any cb (12 + x) a len cap zs _ HC.out (by omega) (by omega)).mono ?_
    rintro e w4 ⟨v, ps, rfl, hO, hl, hC', hE⟩
    have HO := hidM (own_le hO HB.out.size)
    replace HB := hidM (Ex.below HB.out hE hcw)
    clear hC' hE hO
    go_wp2
    refine bodyPost_ret (results_tmp rfl _ _ _) rfl ⟨v, ps, rfl, ?_, hl, HB.out⟩
    exact HO.out

theorem cell_seven (w : World) (B : Nat) (hB : B = w.heap.size) (t : TypeId) (x : Int) (h0 : 0 ≤ x) (h1 : x < 7) : ∃ n : Int, (w.alloc (.cells #[.int .i64 (-1), .int .i64 0, .int .i64 1, .int .i64 2, .int .i64 3, .int .i64 100, .int .i64 101] t)).cell? ⟨B, x.toNat, none⟩ = some (.int .i64 n) := by
  subst hB
  have hx : x = 0 ∨ x = 1 ∨ x = 2 ∨ x = 3 ∨ x = 4 ∨ x = 5 ∨ x = 6 := by omega
  rcases hx with rfl | rfl | rfl | rfl | rfl | rfl | rfl
  · exact ⟨-1, by simp [go_sem]⟩
  · exact ⟨0, by simp [go_sem]⟩
  · exact ⟨1, by simp [go_sem]⟩
  · exact ⟨2, by simp [go_sem]⟩
  · exact ⟨3, by simp [go_sem]⟩
  · exact ⟨100, by simp [go_sem]⟩
  · exact ⟨101, by simp [go_sem]⟩
theorem RdR.exM {w w' : World} {cb : Nat} {v : Value} {ps : List Fr} (h : RdR w v ps) (hx : Ex cb w w') (hne : ∀ b off c n, v = .slice (some ⟨b, off, none⟩) n c → b ≠ cb) : RdR w' v ps := by
  obtain ⟨a, c, rfl, h2, h3, h4, h5⟩ := h
  refine ⟨a, c, rfl, h2, h3, h4, fun j hj => ?_⟩
  obtain ⟨b, off, rfl, k1, k2⟩ := h5 j hj
  have := hne b off c _ rfl
  exact ⟨b, off, rfl, hx.cell k1 this, hx.cell k2 this⟩
set_option maxRecDepth 100000 in
set_option maxHeartbeats 4000000 in
theorem dOutside_any (a : Option Addr) (len cap : Nat) (zs : List Int) (w : World) (hr : IsRow .u8 w a len cap zs) :
    Calls Try.prog 8 #[.slice a len cap] w fun e w' => ∃ (z : Value) (ss : List Fr) (n : Int), e = .returned (.tuple #[z, .int .i64 n]) ∧ RdR w' z ss ∧ ss.length ≤ 200 ∧ Below w.heap.size w w' := by
  have HR : Hid (IsRow .u8 w a len cap zs) := hr
  clear hr
  go_enter Try.func8, Try.ntmps8
  go_wp2_with fail
  refine (new_any a len cap zs _ HR.out).mono ?_
  rintro e w1 ⟨rfl, hC1, B1, hs1⟩
  obtain ⟨cb, hcb⟩ : ∃ b, b = w.heap.size := ⟨_, rfl⟩
  rw [← hcb] at hC1
  have HC : Hid (Cur w1 cb a len cap zs) := hC1
  have HB := hidM B1
  have hcw : w.heap.size ≤ cb := by omega
  rw [← hcb]
  clear hC1 B1 hcb
  go_wp2_with fail
  refine (dMiddle_any a len cap zs _ (HR.out.below HB.out)).mono ?_
  rintro e w2 ⟨z, ss, rfl, hO, hl, hb⟩
  have hlt := HC.out.lt
  have HS := hidM (RdR.own hO).1
  have HNE : Hid (∀ b off c n, z = .slice (some ⟨b, off, none⟩) n c → b ≠ cb) := by
    intro b off c n e1 e2
    subst e1
    have := (hO.lt b (by simp [Value.ownBlock])).1
    omega
  replace HC := hidM (HC.out.below hb)
  replace HB := hidM (HB.out.trans (hb.mono HB.out.size))
  clear hO hb hlt HR
  go_upto_region 3 with fail
  refine wp_region_noPanic ?_
  refine wp_region_held_drew (S := (fun _ => True)) (by kernel_rfl) ?_ (fun hHeld => ?_)
  · (try dsimp only)
    all_goals trivial
  have hb := (Below.refl w2.heap.size w2).drew
  replace HC := hidM (HC.out.below hb)
  replace HS := hidM (HS.out.below hb)
  replace HB := hidM (HB.out.trans (hb.mono HB.out.size))
  clear hb
  obtain ⟨wd, hwd⟩ : ∃ u, u = w2.drew := ⟨_, rfl⟩
  rw [← hwd] at HC HS HB ⊢
  clear hwd
  refine wpAnyH_take (i := 0) (v := ?_) rfl (by kernel_rfl) (by kernel_rfl) (by kernel_rfl) (fun _ _ _ h => h) (Or.inl ⟨by kernel_rfl, ?_⟩) hHeld ?_
  rotate_left
  · intro wz hSw; (try dsimp only at hSw); go_simp; all_goals (try with_reducible rfl)
  (try simp only [List.getElem_toArray]); (try simp only [List.getElem_cons_succ]); (try simp only [List.getElem_cons_zero]); (try simp only [Act.put]); (try simp only [List.setIfInBounds_toArray]); (try simp only [List.set_cons_succ]); (try simp only [List.set_cons_zero])
  refine wpAnyH_take (i := 2) (v := ?_) rfl (by kernel_rfl) (by kernel_rfl) (by kernel_rfl) (fun _ _ _ h => h) (Or.inl ⟨by kernel_rfl, ?_⟩) hHeld ?_
  rotate_left
  · intro wz hSw; (try dsimp only at hSw); go_simp; all_goals (try with_reducible rfl)
  (try simp only [List.getElem_toArray]); (try simp only [List.getElem_cons_succ]); (try simp only [List.getElem_cons_zero]); (try simp only [Act.put]); (try simp only [List.setIfInBounds_toArray]); (try simp only [List.set_cons_succ]); (try simp only [List.set_cons_zero])
  refine wpAnyH_ready (rs := [1, 3]) (by kernel_rfl) (by simp) (AllReadyH.cons rfl (fun Kc hKc => ?_) (AllReadyH.cons rfl (fun Kc hKc => ?_) AllReadyH.nil))
  ·
    go_simp
    obtain ⟨B, hBB⟩ : ∃ A, A = wd.heap.size := ⟨_, rfl⟩
    obtain ⟨u1, hu⟩ : ∃ u, u = wd.alloc (.cells #[.int .i64 (-1), .int .i64 0, .int .i64 1, .int .i64 2, .int .i64 3, .int .i64 100, .int .i64 101] 2) := ⟨_, rfl⟩
    have hb : Below wd.heap.size wd u1 := by rw [hu]; exact (Below.refl _ _).alloc (Nat.le_refl _) _
    have HX : Hid (∀ x : Int, 0 ≤ x → x < 7 → ∃ n : Int, u1.cell? ⟨B, x.toNat, none⟩ = some (.int .i64 n)) := by intro x h0 h1; rw [hu]; exact cell_seven _ B hBB _ x h0 h1
    have hBc : B ≠ cb := by have := HC.out.lt; omega
    rw [← hu, ← hBB]
    replace HC := hidM (HC.out.below hb)
    replace HS := hidM (HS.out.below hb)
    replace HB := hidM (HB.out.trans (hb.mono HB.out.size))
    clear hb hu hBB
    refine hKc.out _ _ ?_ (fun hHeld => ?_)
    · all_goals trivial
    clear hKc Kc
    (try simp only [List.getElem_toArray]); (try simp only [List.getElem_cons_succ]); (try simp only [List.getElem_cons_zero]); (try simp only [Act.put]); (try simp only [List.setIfInBounds_toArray]); (try simp only [List.set_cons_succ]); (try simp only [List.set_cons_zero])
    refine wpAnyH_ready (rs := [3]) (by kernel_rfl) (by simp) (AllReadyH.cons rfl (fun Kc hKc => ?_) AllReadyH.nil)
    go_simp
    (go_at_call 20; refine (below_any cb _ a len cap zs _ HC.out (by omega)).mono ?_; rintro e u2 ⟨x, rfl, x0, x1, hC', hE⟩)
    replace HS := hidM (HS.out.exM hE HNE.out)
    replace HC := hidM hC'
    replace HB := hidM (Ex.below HB.out hE hcw)
    obtain ⟨m, hm⟩ := HX.out x x0 x1
    replace hm := hE.cell hm hBc
    clear hC' hE
    go_wp2_with fail
    refine hKc.out _ _ ?_ (fun hHeld => ?_)
    · all_goals trivial
    clear hKc Kc
    (try simp only [List.getElem_toArray]); (try simp only [List.getElem_cons_succ]); (try simp only [List.getElem_cons_zero]); (try simp only [Act.put]); (try simp only [List.setIfInBounds_toArray]); (try simp only [List.set_cons_succ]); (try simp only [List.set_cons_zero])
    refine wpAnyH_take (i := 6) (v := ?_) rfl (by kernel_rfl) (by kernel_rfl) (by kernel_rfl) (fun _ _ _ h => h) (Or.inl ⟨by kernel_rfl, ?_⟩) hHeld ?_
    rotate_left
    · intro wz hSw; (try dsimp only at hSw); go_simp; all_goals (try with_reducible rfl)
    (try simp only [List.getElem_toArray]); (try simp only [List.getElem_cons_succ]); (try simp only [List.getElem_cons_zero]); (try simp only [Act.put]); (try simp only [List.setIfInBounds_toArray]); (try simp only [List.set_cons_succ]); (try simp only [List.set_cons_zero])
    obtain ⟨i, rfl⟩ : ∃ i : Nat, x = i := ⟨x.toNat, by omega⟩
    rw [Int.toNat_natCast] at hm
    refine wpAnyH_take (i := 4) (v := ?_) rfl (by kernel_rfl) (by kernel_rfl) (by kernel_rfl) (fun _ _ _ h => h) (Or.inl ⟨by kernel_rfl, ?_⟩) hHeld ?_
    rotate_left
    · intro wz hSw; (try dsimp only at hSw); go_simp; all_goals (try with_reducible rfl)
    (try simp only [List.getElem_toArray]); (try simp only [List.getElem_cons_succ]); (try simp only [List.getElem_cons_zero]); (try simp only [Act.put]); (try simp only [List.setIfInBounds_toArray]); (try simp only [List.set_cons_succ]); (try simp only [List.set_cons_zero])
    refine wpAnyH_ready (rs := [5]) (by kernel_rfl) (by simp) (AllReadyH.cons rfl (fun Kc hKc => ?_) AllReadyH.nil)
    go_simp
    refine hKc.out _ _ ?_ (fun hHeld => ?_)
    · all_goals trivial
    clear hKc Kc
    (try simp only [List.getElem_toArray]); (try simp only [List.getElem_cons_succ]); (try simp only [List.getElem_cons_zero]); (try simp only [Act.put]); (try simp only [List.setIfInBounds_toArray]); (try simp only [List.set_cons_succ]); (try simp only [List.set_cons_zero])
    refine wpAnyH_take (i := 7) (v := ?_) rfl (by kernel_rfl) (by kernel_rfl) (by kernel_rfl) (fun _ _ _ h => h) (Or.inl ⟨by kernel_rfl, ?_⟩) hHeld ?_
    rotate_left
    · intro wz hSw; (try dsimp only at hSw); go_simp; all_goals (try with_reducible rfl)
    (try simp only [List.getElem_toArray]); (try simp only [List.getElem_cons_succ]); (try simp only [List.getElem_cons_zero]); (try simp only [Act.put]); (try simp only [List.setIfInBounds_toArray]); (try simp only [List.set_cons_succ]); (try simp only [List.set_cons_zero])
    refine wpAnyH_done (by kernel_rfl) ?_ _
    refine NoPanic.normal ?_
    go_wp2
    exact bodyPost_ret (v := .tuple #[z, .int .i64 m]) (by simp [results, Try.results8, go_sem]) rfl ⟨z, ss, m, rfl, HS.out, hl, HB.out⟩
  ·
    go_simp
    (go_at_call 20; refine (below_any cb _ a len cap zs _ HC.out (by omega)).mono ?_; rintro e u3 ⟨x, rfl, x0, x1, hC', hE⟩)
    replace HS := hidM (HS.out.exM hE HNE.out)
    replace HC := hidM hC'
    replace HB := hidM (Ex.below HB.out hE hcw)
    clear hC' hE
    go_wp2_with fail
    refine hKc.out _ _ ?_ (fun hHeld => ?_)
    · all_goals trivial
    clear hKc Kc
    (try simp only [List.getElem_toArray]); (try simp only [List.getElem_cons_succ]); (try simp only [List.getElem_cons_zero]); (try simp only [Act.put]); (try simp only [List.setIfInBounds_toArray]); (try simp only [List.set_cons_succ]); (try simp only [List.set_cons_zero])
    refine wpAnyH_take (i := 6) (v := ?_) rfl (by kernel_rfl) (by kernel_rfl) (by kernel_rfl) (fun _ _ _ h => h) (Or.inl ⟨by kernel_rfl, ?_⟩) hHeld ?_
    rotate_left
    · intro wz hSw; (try dsimp only at hSw); go_simp; all_goals (try with_reducible rfl)
    (try simp only [List.getElem_toArray]); (try simp only [List.getElem_cons_succ]); (try simp only [List.getElem_cons_zero]); (try simp only [Act.put]); (try simp only [List.setIfInBounds_toArray]); (try simp only [List.set_cons_succ]); (try simp only [List.set_cons_zero])
    refine wpAnyH_ready (rs := [1]) (by kernel_rfl) (by simp) (AllReadyH.cons rfl (fun Kc hKc => ?_) AllReadyH.nil)
    go_simp
    obtain ⟨B, hBB⟩ : ∃ A, A = u3.heap.size := ⟨_, rfl⟩
    obtain ⟨u4, hu⟩ : ∃ u, u = u3.alloc (.cells #[.int .i64 (-1), .int .i64 0, .int .i64 1, .int .i64 2, .int .i64 3, .int .i64 100, .int .i64 101] 2) := ⟨_, rfl⟩
    have hb : Below u3.heap.size u3 u4 := by rw [hu]; exact (Below.refl _ _).alloc (Nat.le_refl _) _
    have HX : Hid (∀ x : Int, 0 ≤ x → x < 7 → ∃ n : Int, u4.cell? ⟨B, x.toNat, none⟩ = some (.int .i64 n)) := by intro x h0 h1; rw [hu]; exact cell_seven _ B hBB _ x h0 h1
    have hBc : B ≠ cb := by have := HC.out.lt; omega
    rw [← hu, ← hBB]
    replace HC := hidM (HC.out.below hb)
    replace HS := hidM (HS.out.below hb)
    replace HB := hidM (HB.out.trans (hb.mono HB.out.size))
    clear hb hu hBB
    refine hKc.out _ _ ?_ (fun hHeld => ?_)
    · all_goals trivial
    clear hKc Kc
    (try simp only [List.getElem_toArray]); (try simp only [List.getElem_cons_succ]); (try simp only [List.getElem_cons_zero]); (try simp only [Act.put]); (try simp only [List.setIfInBounds_toArray]); (try simp only [List.set_cons_succ]); (try simp only [List.set_cons_zero])
    obtain ⟨m, hm⟩ := HX.out x x0 x1
    obtain ⟨i, rfl⟩ : ∃ i : Nat, x = i := ⟨x.toNat, by omega⟩
    rw [Int.toNat_natCast] at hm
    refine wpAnyH_take (i := 4) (v := ?_) rfl (by kernel_rfl) (by kernel_rfl) (by kernel_rfl) (fun _ _ _ h => h) (Or.inl ⟨by kernel_rfl, ?_⟩) hHeld ?_
    rotate_left
    · intro wz hSw; (try dsimp only at hSw); go_simp; all_goals (try with_reducible rfl)
    (try simp only [List.getElem_toArray]); (try simp only [List.getElem_cons_succ]); (try simp only [List.getElem_cons_zero]); (try simp only [Act.put]); (try simp only [List.setIfInBounds_toArray]); (try simp only [List.set_cons_succ]); (try simp only [List.set_cons_zero])
    refine wpAnyH_ready (rs := [5]) (by kernel_rfl) (by simp) (AllReadyH.cons rfl (fun Kc hKc => ?_) AllReadyH.nil)
    go_simp
    refine hKc.out _ _ ?_ (fun hHeld => ?_)
    · all_goals trivial
    clear hKc Kc
    (try simp only [List.getElem_toArray]); (try simp only [List.getElem_cons_succ]); (try simp only [List.getElem_cons_zero]); (try simp only [Act.put]); (try simp only [List.setIfInBounds_toArray]); (try simp only [List.set_cons_succ]); (try simp only [List.set_cons_zero])
    refine wpAnyH_take (i := 7) (v := ?_) rfl (by kernel_rfl) (by kernel_rfl) (by kernel_rfl) (fun _ _ _ h => h) (Or.inl ⟨by kernel_rfl, ?_⟩) hHeld ?_
    rotate_left
    · intro wz hSw; (try dsimp only at hSw); go_simp; all_goals (try with_reducible rfl)
    (try simp only [List.getElem_toArray]); (try simp only [List.getElem_cons_succ]); (try simp only [List.getElem_cons_zero]); (try simp only [Act.put]); (try simp only [List.setIfInBounds_toArray]); (try simp only [List.set_cons_succ]); (try simp only [List.set_cons_zero])
    refine wpAnyH_done (by kernel_rfl) ?_ _
    refine NoPanic.normal ?_
    go_wp2
    exact bodyPost_ret (v := .tuple #[z, .int .i64 m]) (by simp [results, Try.results8, go_sem]) rfl ⟨z, ss, m, rfl, HS.out, hl, HB.out⟩
end Go.Proofs.Ythmdiljcceiedaa
