/- The walks of the heap's own Push and Pop, of the library's Push and Pop, and of least. -/
import Derived.Test.YthfdpdnphnjebaaHpW4
namespace Go.Proofs.Ythfdpdnphnjebaa
open Go.RowKit Go.Proofs.Ythfdpdnphnjebaa.RM

abbrev evE (x : En) : Value := .agg #[.int .i64 x.1.1, .int .i64 x.1.2, .bool x.2]
theorem cell_three (w : World) (a b d : Value) (t : TypeId) : ∀ j u, [a, b, d][j]? = some u → (w.alloc (.cells #[a, b, d] t)).cell? ((⟨w.heap.size, 0, none⟩ : Addr).add j) = some u := by
  intro j u h
  match j, h with
  | 0, h => simp at h; subst h; simp [go_sem, Addr.add]
  | 1, h => simp at h; subst h; simp [go_sem, Addr.add]
  | 2, h => simp at h; subst h; simp [go_sem, Addr.add]
theorem own_stN {W : World} {base e size n S : Nat} {v : Value} {xs : List Value} (h : W.ownsRow base e size v n xs) (hne : v.ownBlock ≠ some S) (o : Nat) (x : Value) : (W.setCell ⟨S, o, none⟩ x).ownsRow base e size v n xs :=
  h.kept (row := some S) ⟨rfl, rfl, rfl, by simp, fun k _ hk => Below.heap_setCell W ⟨S, o, none⟩ x k (by show k ≠ S; simpa using hk)⟩ (.inr hne)
theorem IsB.grownN {W W' : World} {B K : Nat} {vs : Array Value} {t : TypeId} (h : IsB W B vs t) (hg : W.grownBy W' (some K)) (hne : B ≠ K) : IsB W' B vs t := (hg.block B h.lt (by simpa using hne)).trans h
theorem b0H (u : World) (o : Obj) : Below u.heap.size u (u.alloc o) := (Below.refl _ _).alloc (Nat.le_refl _) o

theorem ta_any (a b : Int) (d : Bool) (W : World) : (Instr.typeAssert (.iface 50 (.agg #[.int .i64 a, .int .i64 b, .bool d])) 20 50 false).run Try.prog W = .ok (.agg #[.int .i64 a, .int .i64 b, .bool d]) W := by kernel_rfl
set_option maxRecDepth 100000 in
set_option maxHeartbeats 8000000 in
theorem pushM_any (lo H g c n : Nat) (es : List En) (x1 x2 : Int) (x3 : Bool) (w : World) (h : HpS w lo H g c n es) (hn : n ≤ 900) :
    Calls Try.prog 72 #[.pointer (some ⟨H, 0, none⟩), .iface 50 (.agg #[.int .i64 x1, .int .i64 x2, .bool x3])] w fun e w' => e = .returned (.tuple #[]) ∧ ∃ g' c', HpS w' lo H g' c' (n + 1) (es ++ [((x1, x2), x3)]) ∧ KpH H g w w' ∧ (g' = g ∨ w.heap.size ≤ g') := by
  obtain ⟨i0, hi, hz0, hz1, hz2⟩ := info_parts infoE
  have HF : Hid (∀ (W W' : World) (v : Value), Below w.heap.size w W → IsB W H #[.slice (some ⟨g, 0, none⟩) n c] 47 → W'.ownsRow lo 50 3 v (n + 1) (cellsE es ++ [.int .i64 x1, .int .i64 x2, .bool x3]) → W.grownBy W' (some g) → (v.ownBlock = some g ∨ v.ownBlock = some W.heap.size) → (v = .slice none 0 0 → False) →
      ∃ g' c', v = .slice (some ⟨g', 0, none⟩) (n + 1) c' ∧ HpS (W'.setCell ⟨H, 0, none⟩ v) lo H g' c' (n + 1) (es ++ [((x1, x2), x3)]) ∧ KpH H g w (W'.setCell ⟨H, 0, none⟩ v) ∧ (g' = g ∨ w.heap.size ≤ g')) := by
    intro W W' v hb hB ho hg hl hv
    obtain ⟨g', c', rfl, -, -, -, -⟩ := own_formQ ho (fun e => hv e)
    have hHW := hB.lt
    have hgW := (World.ownsRow.lt ho g' rfl).2
    have hgH : g ≠ H := h.2.2.2
    have hg'H : g' ≠ H := by
      rcases hl with e | e
      · have e' : some g' = some g := e
        injection e' with e'; omega
      · have e' : some g' = some W.heap.size := e
        injection e' with e'; omega
    have hB' : IsB W' H #[.slice (some ⟨g, 0, none⟩) n c] 47 := (hg.block H hHW (by simpa using fun e => hgH e.symm)).trans hB
    refine ⟨g', c', rfl, ⟨hB'.set 0 _, ?_, by simp [h.2.2.1], hg'H⟩, ((KpH.of_below hb).next (KpH.of_row hg)).next (KpH.set _ _), ?_⟩
    · rw [cellsE_append]
      exact own_stN ho (by simpa [Value.ownBlock] using hg'H) 0 _
    · rcases hl with e | e
      · have e' : some g' = some g := e
        injection e' with e'; exact Or.inl e'
      · have e' : some g' = some W.heap.size := e
        injection e' with e'; exact Or.inr (by have := hb.size; omega)
  have hta := ta_any x1 x2 x3
  have HH := hidH h
  have c0 := h.c0
  have hlo := h.lt
  have hNE : H ≠ g := fun e => h.2.2.2 e.symm
  clear h
  go_enter Try.func72, Try.ntmps72
  refine wp_region_noPanic ?_
  refine wp_region_held_drew (S := (fun _ => True)) (by kernel_rfl) ?_ (fun hHeld => ?_)
  · (try dsimp only)
    (try trivial)
  have hb := (Below.refl w.heap.size w).drew
  have D1 := hidH hb
  have I1 := hidH (HH.out.1.below hb)
  have O1 := hidH (own_below HH.out.2.1 hb)
  replace c0 := cell_dr c0
  clear hb
  obtain ⟨wd, hwd⟩ : ∃ u, u = w.drew := ⟨_, rfl⟩
  rw [← hwd] at D1 I1 O1 c0 ⊢
  clear hwd
  refine wpAnyH_take (i := 0) (v := ?_) rfl (by kernel_rfl) (by kernel_rfl) (by kernel_rfl) (fun _ _ _ h => h) (Or.inl ⟨by kernel_rfl, ?_⟩) hHeld ?_
  rotate_left
  · intro wz hSw; (try dsimp only at hSw); go_simp; all_goals (try with_reducible rfl)
  (try simp only [List.getElem_toArray]); (try simp only [List.getElem_cons_succ]); (try simp only [List.getElem_cons_zero]); (try simp only [Act.put]); (try simp only [List.setIfInBounds_toArray]); (try simp only [List.set_cons_succ]); (try simp only [List.set_cons_zero])
  refine wpAnyH_take (i := 1) (v := ?_) rfl (by kernel_rfl) (by kernel_rfl) (by kernel_rfl) (fun _ _ _ h => h) (Or.inl ⟨by kernel_rfl, ?_⟩) hHeld ?_
  rotate_left
  · intro wz hSw; (try dsimp only at hSw); go_simp; all_goals (try with_reducible rfl)
  (try simp only [List.getElem_toArray]); (try simp only [List.getElem_cons_succ]); (try simp only [List.getElem_cons_zero]); (try simp only [Act.put]); (try simp only [List.setIfInBounds_toArray]); (try simp only [List.set_cons_succ]); (try simp only [List.set_cons_zero])
  refine wpAnyH_take (i := 2) (v := ?_) rfl (by kernel_rfl) (by kernel_rfl) (by kernel_rfl) (fun _ _ _ h => h) (Or.inl ⟨by kernel_rfl, ?_⟩) hHeld ?_
  rotate_left
  · intro wz hSw; (try dsimp only at hSw); go_simp; all_goals (try with_reducible rfl)
  (try simp only [List.getElem_toArray]); (try simp only [List.getElem_cons_succ]); (try simp only [List.getElem_cons_zero]); (try simp only [Act.put]); (try simp only [List.setIfInBounds_toArray]); (try simp only [List.set_cons_succ]); (try simp only [List.set_cons_zero])
  refine wpAnyH_take (i := 4) (v := ?_) rfl (by kernel_rfl) (by kernel_rfl) (by kernel_rfl) (fun _ _ _ h => h) (Or.inl ⟨by kernel_rfl, ?_⟩) hHeld ?_
  rotate_left
  · intro wz hSw; (try dsimp only at hSw); go_simp; all_goals (try with_reducible rfl)
  (try simp only [List.getElem_toArray]); (try simp only [List.getElem_cons_succ]); (try simp only [List.getElem_cons_zero]); (try simp only [Act.put]); (try simp only [List.setIfInBounds_toArray]); (try simp only [List.set_cons_succ]); (try simp only [List.set_cons_zero])
  refine wpAnyH_take (i := 5) (v := ?_) rfl (by kernel_rfl) (by kernel_rfl) (by kernel_rfl) (fun _ _ _ h => h) (Or.inl ⟨by kernel_rfl, ?_⟩) hHeld ?_
  rotate_left
  · intro wz hSw; (try dsimp only at hSw); go_simp; all_goals (try with_reducible rfl)
  (try simp only [List.getElem_toArray]); (try simp only [List.getElem_cons_succ]); (try simp only [List.getElem_cons_zero]); (try simp only [Act.put]); (try simp only [List.setIfInBounds_toArray]); (try simp only [List.set_cons_succ]); (try simp only [List.set_cons_zero])
  refine wpAnyH_ready (rs := [3, 6]) (by kernel_rfl) (by simp) (AllReadyH.cons rfl (fun Kc hKc => ?_) (AllReadyH.cons rfl (fun Kc hKc => ?_) AllReadyH.nil))
  ·
    go_simp
    refine hKc.out _ _ trivial (fun hHeld => ?_)
    clear hKc Kc
    (try simp only [List.getElem_toArray]); (try simp only [List.getElem_cons_succ]); (try simp only [List.getElem_cons_zero]); (try simp only [Act.put]); (try simp only [List.setIfInBounds_toArray]); (try simp only [List.set_cons_succ]); (try simp only [List.set_cons_zero])
    refine wpAnyH_ready (rs := [6]) (by kernel_rfl) (by simp) (AllReadyH.cons rfl (fun Kc hKc => ?_) AllReadyH.nil)
    go_simp
    obtain ⟨U, hU⟩ : ∃ U, U = wd.heap.size := ⟨_, rfl⟩
    obtain ⟨we, hwe⟩ : ∃ u, u = wd.alloc (.cells #[.int .i64 x1, .int .i64 x2, .bool x3] 50) := ⟨_, rfl⟩
    have hb := b0H wd (.cells #[.int .i64 x1, .int .i64 x2, .bool x3] 50)
    have T1 : Hid (∀ j u, [Value.int .i64 x1, .int .i64 x2, .bool x3][j]? = some u → we.cell? ((⟨U, 0, none⟩ : Addr).add j) = some u) := by
      show ∀ j u, _
      rw [hwe, hU]; exact cell_three wd _ _ _ _
    rw [← hwe] at hb
    rw [← hwe, ← hU]
    have D2 := hidH (D1.out.trans (hb.mono D1.out.size))
    have I2 := hidH (I1.out.below hb)
    have O2 := hidH (own_below O1.out hb)
    have hUw : w.heap.size ≤ U := by have := D1.out.size; omega
    replace c0 := cell_keep hb c0
    clear hwe hU hb
    refine hKc.out _ _ trivial (fun hHeld => ?_)
    clear hKc Kc
    (try simp only [List.getElem_toArray]); (try simp only [List.getElem_cons_succ]); (try simp only [List.getElem_cons_zero]); (try simp only [Act.put]); (try simp only [List.setIfInBounds_toArray]); (try simp only [List.set_cons_succ]); (try simp only [List.set_cons_zero])
    refine wpAnyH_ready (rs := [7]) (by kernel_rfl) (by simp) (AllReadyH.cons rfl (fun Kc hKc => ?_) AllReadyH.nil)
    refine step_app_rt rfl (.tmp 7) (.tmp 10) 47 rfl lo 50 i0 (.agg #[.int .i64 0, .int .i64 0, .bool false]) 3 24 Try.underlying47 hi hz0 hz1 hz2 rfl (by decide) (.slice (some ⟨g, 0, none⟩) n c) n (cellsE es) (by simp [Act.eval]) O2.out ⟨U, 0, none⟩ 1 1 [.int .i64 x1, .int .i64 x2, .bool x3] (by simp [Act.eval]) rfl T1.out (by intro u hu; simp at hu; rcases hu with rfl | rfl | rfl <;> rfl) (by unfold maxLen; omega) (by omega) (by have := D2.out.size; omega) ?_
    intro v5 w5 hown5 hg5 hloc5
    obtain ⟨g', c', rfl, k1, k2, k3⟩ := HF.out we w5 v5 D2.out I2.out hown5 hg5 hloc5 (fun e => by have := hown5.2; subst e; rcases this with ⟨_, e2⟩ | ⟨_, _, _, e2, _⟩ <;> first | omega | cases e2)
    have K1 := hidH k1
    have K2 := hidH k2
    have f0 := (I2.out.grownN hg5 hNE).frozen 0
    have c9 := (I2.out.grownN hg5 hNE).cell 0 rfl
    clear k1 k2 hown5 hg5 hloc5 c0
    refine hKc.out _ _ trivial (fun hHeld => ?_)
    clear hKc Kc
    (try simp only [List.getElem_toArray]); (try simp only [List.getElem_cons_succ]); (try simp only [List.getElem_cons_zero]); (try simp only [Act.put]); (try simp only [List.setIfInBounds_toArray]); (try simp only [List.set_cons_succ]); (try simp only [List.set_cons_zero])
    refine wpAnyH_take (i := 8) (v := ?_) rfl (by kernel_rfl) (by kernel_rfl) (by kernel_rfl) (fun _ _ _ h => h) (Or.inl ⟨by kernel_rfl, ?_⟩) hHeld ?_
    rotate_left
    · intro wz hSw; (try dsimp only at hSw); go_simp; all_goals (try with_reducible rfl)
    (try simp only [List.getElem_toArray]); (try simp only [List.getElem_cons_succ]); (try simp only [List.getElem_cons_zero]); (try simp only [Act.put]); (try simp only [List.setIfInBounds_toArray]); (try simp only [List.set_cons_succ]); (try simp only [List.set_cons_zero])
    refine wpAnyH_ready (rs := [9]) (by kernel_rfl) (by simp) (AllReadyH.cons rfl (fun Kc hKc => ?_) AllReadyH.nil)
    go_simp
    refine hKc.out _ _ trivial (fun hHeld => ?_)
    clear hKc Kc
    (try simp only [List.getElem_toArray]); (try simp only [List.getElem_cons_succ]); (try simp only [List.getElem_cons_zero]); (try simp only [Act.put]); (try simp only [List.setIfInBounds_toArray]); (try simp only [List.set_cons_succ]); (try simp only [List.set_cons_zero])
    refine wpAnyH_done (by kernel_rfl) ?_ _
    refine NoPanic.normal ?_
    go_wp2
    go_end0
    exact ⟨rfl, g', c', K1.out, K2.out, k3⟩
  ·
    go_simp
    obtain ⟨U, hU⟩ : ∃ U, U = wd.heap.size := ⟨_, rfl⟩
    obtain ⟨we, hwe⟩ : ∃ u, u = wd.alloc (.cells #[.int .i64 x1, .int .i64 x2, .bool x3] 50) := ⟨_, rfl⟩
    have hb := b0H wd (.cells #[.int .i64 x1, .int .i64 x2, .bool x3] 50)
    have T1 : Hid (∀ j u, [Value.int .i64 x1, .int .i64 x2, .bool x3][j]? = some u → we.cell? ((⟨U, 0, none⟩ : Addr).add j) = some u) := by
      show ∀ j u, _
      rw [hwe, hU]; exact cell_three wd _ _ _ _
    rw [← hwe] at hb
    rw [← hwe, ← hU]
    have D2 := hidH (D1.out.trans (hb.mono D1.out.size))
    have I2 := hidH (I1.out.below hb)
    have O2 := hidH (own_below O1.out hb)
    have hUw : w.heap.size ≤ U := by have := D1.out.size; omega
    replace c0 := cell_keep hb c0
    clear hwe hU hb
    refine hKc.out _ _ trivial (fun hHeld => ?_)
    clear hKc Kc
    (try simp only [List.getElem_toArray]); (try simp only [List.getElem_cons_succ]); (try simp only [List.getElem_cons_zero]); (try simp only [Act.put]); (try simp only [List.setIfInBounds_toArray]); (try simp only [List.set_cons_succ]); (try simp only [List.set_cons_zero])
    refine wpAnyH_ready (rs := [3]) (by kernel_rfl) (by simp) (AllReadyH.cons rfl (fun Kc hKc => ?_) AllReadyH.nil)
    go_simp
    refine hKc.out _ _ trivial (fun hHeld => ?_)
    clear hKc Kc
    (try simp only [List.getElem_toArray]); (try simp only [List.getElem_cons_succ]); (try simp only [List.getElem_cons_zero]); (try simp only [Act.put]); (try simp only [List.setIfInBounds_toArray]); (try simp only [List.set_cons_succ]); (try simp only [List.set_cons_zero])
    refine wpAnyH_ready (rs := [7]) (by kernel_rfl) (by simp) (AllReadyH.cons rfl (fun Kc hKc => ?_) AllReadyH.nil)
    refine step_app_rt rfl (.tmp 7) (.tmp 10) 47 rfl lo 50 i0 (.agg #[.int .i64 0, .int .i64 0, .bool false]) 3 24 Try.underlying47 hi hz0 hz1 hz2 rfl (by decide) (.slice (some ⟨g, 0, none⟩) n c) n (cellsE es) (by simp [Act.eval]) O2.out ⟨U, 0, none⟩ 1 1 [.int .i64 x1, .int .i64 x2, .bool x3] (by simp [Act.eval]) rfl T1.out (by intro u hu; simp at hu; rcases hu with rfl | rfl | rfl <;> rfl) (by unfold maxLen; omega) (by omega) (by have := D2.out.size; omega) ?_
    intro v5 w5 hown5 hg5 hloc5
    obtain ⟨g', c', rfl, k1, k2, k3⟩ := HF.out we w5 v5 D2.out I2.out hown5 hg5 hloc5 (fun e => by have := hown5.2; subst e; rcases this with ⟨_, e2⟩ | ⟨_, _, _, e2, _⟩ <;> first | omega | cases e2)
    have K1 := hidH k1
    have K2 := hidH k2
    have f0 := (I2.out.grownN hg5 hNE).frozen 0
    have c9 := (I2.out.grownN hg5 hNE).cell 0 rfl
    clear k1 k2 hown5 hg5 hloc5 c0
    refine hKc.out _ _ trivial (fun hHeld => ?_)
    clear hKc Kc
    (try simp only [List.getElem_toArray]); (try simp only [List.getElem_cons_succ]); (try simp only [List.getElem_cons_zero]); (try simp only [Act.put]); (try simp only [List.setIfInBounds_toArray]); (try simp only [List.set_cons_succ]); (try simp only [List.set_cons_zero])
    refine wpAnyH_take (i := 8) (v := ?_) rfl (by kernel_rfl) (by kernel_rfl) (by kernel_rfl) (fun _ _ _ h => h) (Or.inl ⟨by kernel_rfl, ?_⟩) hHeld ?_
    rotate_left
    · intro wz hSw; (try dsimp only at hSw); go_simp; all_goals (try with_reducible rfl)
    (try simp only [List.getElem_toArray]); (try simp only [List.getElem_cons_succ]); (try simp only [List.getElem_cons_zero]); (try simp only [Act.put]); (try simp only [List.setIfInBounds_toArray]); (try simp only [List.set_cons_succ]); (try simp only [List.set_cons_zero])
    refine wpAnyH_ready (rs := [9]) (by kernel_rfl) (by simp) (AllReadyH.cons rfl (fun Kc hKc => ?_) AllReadyH.nil)
    go_simp
    refine hKc.out _ _ trivial (fun hHeld => ?_)
    clear hKc Kc
    (try simp only [List.getElem_toArray]); (try simp only [List.getElem_cons_succ]); (try simp only [List.getElem_cons_zero]); (try simp only [Act.put]); (try simp only [List.setIfInBounds_toArray]); (try simp only [List.set_cons_succ]); (try simp only [List.set_cons_zero])
    refine wpAnyH_done (by kernel_rfl) ?_ _
    refine NoPanic.normal ?_
    go_wp2
    go_end0
    exact ⟨rfl, g', c', K1.out, K2.out, k3⟩
end Go.Proofs.Ythfdpdnphnjebaa
