/- The walk of the program's table of dimensions. -/
import Derived.Test.YtbbkejfcheobaakAppAt
import Derived.Test.YtbbkejfcheobaakAlikeW
import Derived.Test.YtbbkejfcheobaakDrawW9
namespace Go.Proofs.Ytbbkejfcheobaak
open Go.RowKit Go.Proofs.Ytbbkejfcheobaak.RM

theorem hidG {p : Prop} (h : p) : Hid p := h
/-- row i of the table when k dimensions and j numbers of the next one are in -/
def dimR (L : List (List Int)) (k j i : Nat) : List Fr := (List.range (if i < j then k + 1 else k)).map fun c => (fi (ri L c) i, 1)
def dimK (L : List (List Int)) (k j : Nat) : List (List Fr) := (List.range 5).map (dimR L k j)
def dimT (L : List (List Int)) : List (List Fr) := dimK L L.length 0
theorem dimK_len (L : List (List Int)) (k j : Nat) : (dimK L k j).length = 5 := by simp [dimK]
theorem dimK_row (L : List (List Int)) (k j i : Nat) (h : i < 5) : rw' (dimK L k j) i = dimR L k j i := by simp [dimK, rw', h]
theorem dimK_zero (L : List (List Int)) : dimK L 0 0 = List.replicate 5 [] := by
  apply List.ext_getElem
  · simp [dimK]
  · intro i h1 h2
    have hi : i < 5 := by simpa [dimK] using h1
    rw [List.getElem_replicate]
    simp [dimK, dimR]
theorem dimK_next (L : List (List Int)) (k : Nat) : dimK L k 5 = dimK L (k + 1) 0 := by
  apply List.ext_getElem
  · simp [dimK]
  · intro i h1 h2
    have hi : i < 5 := by simpa [dimK] using h1
    simp [dimK, dimR, hi]
theorem dimR_more (L : List (List Int)) (k j : Nat) : dimR L k (j + 1) j = dimR L k j j ++ [(fi (ri L k) j, 1)] := by
  unfold dimR
  rw [if_pos (by omega), if_neg (Nat.lt_irrefl j), List.range_succ, List.map_append]
  rfl
theorem dimK_set (L : List (List Int)) (k j : Nat) (_hj : j < 5) : (dimK L k j).set j (dimR L k (j + 1) j) = dimK L k (j + 1) := by
  apply List.ext_getElem
  · simp [dimK]
  · intro i h1 h2
    simp only [dimK, List.getElem_set, List.getElem_map, List.getElem_range]
    by_cases e : j = i
    · subst e; rw [if_pos rfl]
    · rw [if_neg e]
      unfold dimR
      by_cases h3 : i < j
      · rw [if_pos h3, if_pos (by omega)]
      · rw [if_neg h3, if_neg (by omega)]
theorem dimR_len (L : List (List Int)) (k j : Nat) : (dimR L k j j).length = k := by simp [dimR]
theorem dimT_shape (L : List (List Int)) : (dimT L).length = 5 ∧ ∀ i, i < 5 → (rw' (dimT L) i).length = L.length ∧ ∀ j, j < L.length → fr (rw' (dimT L) i) j = (fi (ri L j) i, 1) := by
  refine ⟨dimK_len _ _ _, fun i hi => ?_⟩
  unfold dimT
  rw [dimK_row _ _ _ _ hi]
  refine ⟨by simp [dimR], fun j hj => by simp [dimR, fr, hj]⟩

set_option maxRecDepth 100000 in
set_option maxHeartbeats 2000000 in
theorem iDimTab_any (v : Value) (us : List Value) (L : List (List Int)) (base : Nat) (w : World) (h : TabI w base v us L) (hL : L.length ≤ 6) (h5 : ∀ k, k < L.length → (ri L k).length = 5) :
    Calls Try.prog 33 #[v] w fun e w' => ∃ u vs, e = .returned u ∧ Tab w' w.heap.size u vs (dimT L) ∧ Below w.heap.size w w' := by
  have b0 : ∀ (u : World) (o : Obj), Below u.heap.size u (u.alloc o) := fun u o => (Below.refl _ _).alloc (Nat.le_refl _) o
  obtain ⟨i0, hi, hz0, hz1, hz2⟩ := info_parts infoT
  obtain ⟨i1, ji, jz0, jz1, jz2⟩ := info_parts infoF
  obtain ⟨n, hn⟩ : ∃ n, n = L.length := ⟨_, rfl⟩
  have HIN : Hid (∀ k, k < n → ∃ g c, vl us k = .slice (some ⟨g, 0, none⟩) 5 c ∧ ∀ j, j < 5 → w.cell? ⟨g, j, none⟩ = some (.int .i64 (fi (ri L k) j))) := by
    intro k hk
    have hin := h.inner k (by have := h.len; omega)
    rw [h5 k (by omega)] at hin
    obtain ⟨g, c, e⟩ := own_some hin (by omega)
    rw [e] at hin ⊢
    exact ⟨g, c, rfl, fun j hj => own_int hin (h5 k (by omega)) j hj⟩
  obtain ⟨a, c, rfl, hv⟩ := h.vals
  rw [← hn] at hv hL ⊢
  have H5 := hidG hv
  have HN := hidG hn
  clear h hv hn h5
  go_enter Try.func33, Try.ntmps33
  go_wp2_with (at_make; refine wpList_make_full _ rfl _ _ 44 rfl w.heap.size 45 i0 (.slice none 0 0) 1 Try.underlying44 hi hz0 hz1 .i64 .i64 _ _ 5 rfl rfl rfl rfl (by rw [hz2]; omega) (by unfold maxLen; omega) (Nat.le_refl _) ?_; intro w1 hown hgrow)
  have o0 : Tab w1 w.heap.size (.slice (some ⟨w.heap.size, 0, none⟩) 5 5) (List.replicate 5 (.slice none 0 0)) (dimK L 0 0) := by
    rw [dimK_zero]; refine Tab.made ?_; rw [← madeT]; exact hown
  have hB0 : Below w.heap.size w w1 := (Below.refl _ w).grown hgrow (Nat.le_refl _) (fun k e => by cases e)
  obtain ⟨G, hG⟩ : ∃ G, G = w.heap.size := ⟨_, rfl⟩
  have hwG : w.heap.size ≤ G := by omega
  rw [← hG]
  rw [← hG] at o0
  clear hown hgrow hG
  have O0 := hidG o0
  have B0 := hidG hB0
  clear o0 hB0
  go_loopw [11] (fun i wr => ∃ (k : Nat) (vs : List Value), k ≤ n ∧ i = .int .i64 k ∧ Hid (Tab wr G (.slice (some ⟨G, 0, none⟩) 5 5) vs (dimK L k 0)) ∧ Hid (Below w.heap.size w wr)) (fun i _ => n - (intOf i).toNat)
  case atStart => exact ⟨0, _, Nat.zero_le _, rfl, O0.out, B0.out⟩
  case round =>
    clear O0 B0
    obtain ⟨k, vs, hk, rfl, hT, hB⟩ := hrel
    by_cases hlt : k < n
    · obtain ⟨g, rfl, c1⟩ := H5.out k hlt
      obtain ⟨gd, cd, ed, hd⟩ := HIN.out k hlt
      rw [ed] at c1
      replace c1 := cell_keep hB.out c1
      have HD := hidG hd
      clear hd ed
      go_wp2
      go_loopw [17] (fun i wr => ∃ (j : Nat) (vs : List Value), j ≤ 5 ∧ i = .int .i64 j ∧ Hid (Tab wr G (.slice (some ⟨G, 0, none⟩) 5 5) vs (dimK L k j)) ∧ Hid (Below w.heap.size w wr)) (fun i _ => 5 - (intOf i).toNat)
      case atStart => exact ⟨0, vs, by omega, rfl, hT, hB⟩
      case round =>
        clear hT hB c1
        obtain ⟨j, vs, hj, rfl, hT, hB⟩ := hrel
        have hsz := hB.out.size
        by_cases hj5 : j < 5
        · have hvl : vs.length = 5 := by rw [hT.out.len, dimK_len]
          have d0 := cell_keep hB.out (HD.out j hj5)
          have ho := hT.out.outer
          rw [hvl] at ho
          have d1 := ho.cellAt j (by omega)
          rw [List.getElem?_eq_getElem (by omega), show vs[j] = vl vs j by simp [vl, List.getElem?_eq_getElem (show j < vs.length by omega)]] at d1
          have hin := hT.out.inner j (by omega)
          rw [dimK_row _ _ _ _ hj5, dimR_len] at hin
          have HI := hidG hin
          have hGw := (hT.out.outer.lt G rfl).2
          obtain ⟨y, hy⟩ : ∃ y, y = vl vs j := ⟨_, rfl⟩
          obtain ⟨p, hp⟩ : ∃ p, p = fi (ri L k) j := ⟨_, rfl⟩
          have HY := hidG hy
          have HPP := hidG hp
          rw [← hy] at d1 HI
          rw [← hp] at d0
          have f1 := ho.frozenAt j
          clear ho hin hy hp
          obtain ⟨ya, yc, rfl⟩ := own_shape HI.out
          have OUT5 : Hid (∀ w5 : World, (wr.alloc (.cells #[.int .i64 p, .int .i64 1] 37)).grownBy w5 (Value.slice ya k yc).ownBlock → w5.cell? ⟨G, j, none⟩ = some (.slice ya k yc) ∧ w5.frozen? ⟨G, j, none⟩ = false) := by
            intro w5 hg
            have o5 := own_oth (hT.out.outer.alloc (.cells #[.int .i64 p, .int .i64 1] 37)) (HI.out.alloc (.cells #[.int .i64 p, .int .i64 1] 37)) (by decide) hg
            rw [hvl] at o5
            have e1 := o5.cellAt j (by omega)
            rw [List.getElem?_eq_getElem (by omega), show vs[j] = vl vs j by simp [vl, List.getElem?_eq_getElem (show j < vs.length by omega)], ← HY.out] at e1
            exact ⟨e1, o5.frozenAt j⟩
          have hk6 : k + 1 ≤ maxLen := by unfold maxLen; omega
          go_wp2_with (at_builtin; refine wpList_append_at _ rfl _ _ 45 rfl G 37 i1 (.agg #[.int .i64 0, .int .i64 0]) 2 16 Try.underlying45 ji jz0 jz1 jz2 rfl (by decide) _ _ _ rfl (World.ownsRow.alloc HI.out _) ⟨wr.heap.size, 0, none⟩ 1 1 [.int .i64 p, .int .i64 1] rfl rfl (cell_twoF _ _ _ _) (by intro u hu; simp at hu; rcases hu with rfl | rfl <;> rfl) hk6 (by omega) (by simp; omega) ?_; intro v' w5 hown' hgrow hwhere; obtain ⟨e1, e2⟩ := OUT5.out w5 hgrow; obtain ⟨va', vc', rfl⟩ := own_shape hown')
          go_roundw
          case rel =>
            have T2 := hT.out.below (b0 wr (.cells #[.int .i64 p, .int .i64 1] 37))
            obtain ⟨T5, o5⟩ := T2.grow (k := j) (u := .slice va' (k + 1) vc') (ps := dimR L k (j + 1) j) (by omega) (by
              rw [dimR_more, ← HPP.out]
              have : cellsR (dimR L k j j ++ [(p, 1)]) = cellsR (dimR L k j j) ++ [.int .i64 p, .int .i64 1] := by simp [cellsR]
              rw [this, List.length_append, dimR_len]
              exact hown') (by rw [← HY.out]; exact hgrow) (fun b e => by
              rcases hwhere b e with h1 | h1
              · exact .inl (by rw [← HY.out]; exact h1)
              · exact .inr (by omega))
            rw [dimK_set L k j hj5] at T5
            have TT := hidG T5
            have BT : Hid (Below w.heap.size w (w5.setCell ⟨G, j, none⟩ (.slice va' (k + 1) vc'))) := by
              show Below _ _ _
              exact ((hB.out.trans ((b0 wr (.cells #[.int .i64 p, .int .i64 1] 37)).mono hsz)).grown hgrow (by simp; omega) (fun b e => by have := (HI.out.lt b e).1; omega)).setCell (p := ⟨G, j, none⟩) hwG _
            exact ⟨j + 1, _, by omega, by go_num, TT, BT⟩
          case measure => simp [intOf]; omega
        · obtain rfl : j = 5 := by omega
          rw [dimK_next] at hT
          go_wp2
          go_roundw
          case rel => exact ⟨k + 1, vs, by omega, by go_num, hT, hB⟩
          case measure => simp [intOf]; omega
    · obtain rfl : k = n := by omega
      go_wp2
      go_ret
      refine ⟨_, vs, rfl, ?_, hB.out⟩
      have := hT.out
      rw [HN.out] at this
      exact this.le hwG
end Go.Proofs.Ytbbkejfcheobaak
