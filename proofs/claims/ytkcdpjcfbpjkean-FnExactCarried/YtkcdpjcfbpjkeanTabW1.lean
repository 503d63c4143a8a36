/- The walks of the laws' helpers over tables that came in: their size, their copies. -/
import Derived.Test.YtkcdpjcfbpjkeanTabW0
namespace Go.Proofs.Ytkcdpjcfbpjkean
open Go.RowKit Go.Proofs.Ytkcdpjcfbpjkean.RM

theorem szS_any (v : Value) (ps : List Fr) (left : Int) (w : World) (h : RdR w v ps) (h0 : 0 ≤ left) (h1 : left ≤ 1048576) :
    Calls Try.prog 14 #[v, .int .i64 left] w fun e w' => e = .returned (.int .i64 (if left - ps.length < 0 then -1 else left - ps.length)) ∧ w' = w := by
  obtain ⟨a, c, rfl, h2, _⟩ := h
  unfold maxLen at h2
  by_cases hs : left - (ps.length : Int) < 0
  · rw [if_pos hs]
    go_enter Try.func14, Try.ntmps14
    go_wp2
    go_ret
    exact ⟨rfl, rfl⟩
  · rw [if_neg hs]
    go_enter Try.func14, Try.ntmps14
    go_wp2
    go_ret
    exact ⟨rfl, rfl⟩

set_option maxRecDepth 100000 in
set_option maxHeartbeats 1000000 in
theorem szT_any (v : Value) (rows : List (List Fr)) (left : Int) (w : World) (h : RdT w v rows) (h0 : 0 ≤ left) (h1 : left ≤ 1048576) :
    Calls Try.prog 9 #[v, .int .i64 left] w fun e w' => ∃ r : Int, e = .returned (.int .i64 r) ∧ r ≤ 1048576 ∧ (r < 0 ∨ (0 ≤ r ∧ rows.length ≤ 1048576 ∧ ∀ i, i < rows.length → (rw' rows i).length ≤ 1048576)) ∧ w' = w := by
  obtain ⟨a, c, rfl, h2, h3, h4, h5⟩ := h
  have H5 : Hid (∀ i, i < rows.length → ∃ b off u, a = some ⟨b, off, none⟩ ∧ w.cell? ⟨b, off + i, none⟩ = some u ∧ RdR w u (rw' rows i)) := h5
  unfold maxLen at h2
  clear h5 h3 h4
  by_cases hs : left - (rows.length : Int) < 0
  · go_enter Try.func9, Try.ntmps9
    go_wp2
    go_ret
    exact ⟨-1, rfl, by omega, .inl (by omega), rfl⟩
  · go_enter Try.func9, Try.ntmps9
    go_wp2
    go_loop [1, 5] (fun l i => ∃ (k : Nat) (x : Int), k ≤ rows.length ∧ i = .int .i64 k ∧ l = .int .i64 x ∧ 0 ≤ x ∧ x ≤ 1048576 ∧ Hid (∀ j, j < k → (rw' rows j).length ≤ 1048576)) (fun _ i => rows.length - (intOf i).toNat)
    case atStart => exact ⟨0, _, Nat.zero_le _, rfl, rfl, by omega, by omega, fun j hj => absurd hj (Nat.not_lt_zero _)⟩
    case round =>
      obtain ⟨k, x, hk, rfl, rfl, x0, x1, HP⟩ := hrel
      by_cases hlt : k < rows.length
      · obtain ⟨b, off, u, rfl, c1, hu⟩ := H5.out k hlt
        have HU : Hid (RdR w u (rw' rows k)) := hu
        clear hu
        by_cases hx : x - ((rw' rows k).length : Int) < 0
        · have HC : Hid (∀ W : World, RdR W u (rw' rows k) → Calls Try.prog 14 #[u, .int .i64 x] W fun e w' => e = .returned (.int .i64 (-1)) ∧ w' = W) := by
            intro W hW; have := szS_any u (rw' rows k) x W hW x0 x1; rw [if_pos hx] at this; exact this
          go_wp2_with (go_at_call 14; refine (HC.out _ HU.out).mono ?_; rintro e w' ⟨rfl, rfl⟩)
          go_ret
          exact ⟨-1, rfl, by omega, .inl (by omega), rfl⟩
        · have HC : Hid (∀ W : World, RdR W u (rw' rows k) → Calls Try.prog 14 #[u, .int .i64 x] W fun e w' => e = .returned (.int .i64 (x - ((rw' rows k).length : Int))) ∧ w' = W) := by
            intro W hW; have := szS_any u (rw' rows k) x W hW x0 x1; rw [if_neg hx] at this; exact this
          obtain ⟨y, hy⟩ : ∃ y, y = x - ((rw' rows k).length : Int) := ⟨_, rfl⟩
          rw [← hy] at HC hx
          have hy1 : y ≤ 1048576 := by omega
          have HP' : Hid (∀ j, j < k + 1 → (rw' rows j).length ≤ 1048576) := by
            intro j hj
            by_cases e : j = k
            · subst e; omega
            · exact HP.out j (by omega)
          clear hy
          go_wp2_with (go_at_call 14; refine (HC.out _ HU.out).mono ?_; rintro e w' ⟨rfl, rfl⟩)
          go_round
          case rel => exact ⟨k + 1, y, by omega, by go_num, rfl, by omega, hy1, HP'⟩
          case measure => simp [intOf]; omega
      · obtain rfl : k = rows.length := by omega
        go_wp2
        go_ret
        exact ⟨x, rfl, x1, .inr ⟨x0, by omega, HP.out⟩, rfl⟩

theorem toF_any (n d : Int) (w : World) :
    Calls Try.prog 39 #[.agg #[.int .i64 n, .int .i64 d]] w fun e w' => e = .returned (.agg #[.int .i64 n, .int .i64 d]) ∧ Below w.heap.size w w' := by
  go_enter Try.func39, Try.ntmps39
  go_wp2
  refine bodyPost_ret (v := .agg #[.int .i64 n, .int .i64 d]) (by simp [results, Try.results39, go_sem]) rfl ⟨rfl, ?_⟩
  repeat (first | exact Below.refl _ _ | (refine Below.setCell ?_ (by simp <;> omega) _) | (refine Below.alloc ?_ (by simp <;> omega) _))

/-- what is copied when k of them have been -/
def cpyF (ps : List Fr) (k : Nat) : List Fr := (List.range ps.length).map (fun i => if i < k then fr ps i else (0, 0))
theorem cpyF_len (ps : List Fr) (k : Nat) : (cpyF ps k).length = ps.length := by simp [cpyF]
theorem cpyF_zero (ps : List Fr) : cpyF ps 0 = List.replicate ps.length (0, 0) := by
  apply List.ext_getElem
  · simp [cpyF]
  · intro i h1 h2
    simp [cpyF]
theorem cpyF_all (ps : List Fr) : cpyF ps ps.length = ps := by
  apply List.ext_getElem
  · rw [cpyF_len]
  · intro i h1 h2
    simp [cpyF, fr, h2]
theorem cpyF_set (ps : List Fr) (k : Nat) : (cpyF ps k).set k (fr ps k) = cpyF ps (k + 1) := by
  apply List.ext_getElem
  · simp [cpyF]
  · intro i h1 h2
    simp only [cpyF, List.getElem_set, List.getElem_map, List.getElem_range]
    by_cases e : k = i
    · subst e
      rw [if_pos rfl, if_pos (by omega)]
    · rw [if_neg e]
      by_cases h3 : i < k
      · rw [if_pos h3, if_pos (by omega)]
      · rw [if_neg h3, if_neg (by omega)]

set_option maxRecDepth 100000 in
set_option maxHeartbeats 2000000 in
theorem toS_any (v : Value) (ps : List Fr) (w : World) (h : RdR w v ps) (hl : ps.length ≤ 1048576) :
    Calls Try.prog 16 #[v] w fun e w' => ∃ u, e = .returned u ∧ w'.ownsRow w.heap.size 32 2 u ps.length (cellsR ps) ∧ Below w.heap.size w w' := by
  obtain ⟨i0, hi, hz0, hz1, hz2⟩ := info_parts infoF
  obtain ⟨a, c, rfl, h2, h3, h4, h5⟩ := h
  have H5 : Hid (∀ j, j < ps.length → ∃ b off, a = some ⟨b, off, none⟩ ∧ w.cell? ⟨b, off + j * 2, none⟩ = some (.int .i64 (fr ps j).1) ∧ w.cell? ⟨b, off + j * 2 + 1, none⟩ = some (.int .i64 (fr ps j).2)) := h5
  clear h5 h2 h3 h4
  go_enter Try.func16, Try.ntmps16
  go_wp2_with (at_make; refine wpList_make_full _ rfl _ _ 35 rfl w.heap.size 32 i0 (.agg #[.int .i64 0, .int .i64 0]) 2 Try.underlying35 hi hz0 hz1 .i64 .i64 _ _ ps.length rfl rfl rfl rfl (by rw [hz2]; omega) (by unfold maxLen; omega) (Nat.le_refl _) ?_; intro w1 hown hgrow)
  have o0 : w1.ownsRow w.heap.size 32 2 (.slice (some ⟨w.heap.size, 0, none⟩) ps.length ps.length) ps.length (cellsR (cpyF ps 0)) := by
    rw [cpyF_zero, ← madeF]; exact hown
  have hB0 : Below w.heap.size w w1 := (Below.refl _ w).grown hgrow (Nat.le_refl _) (fun k e => by cases e)
  obtain ⟨G, hG⟩ : ∃ G, G = w.heap.size := ⟨_, rfl⟩
  have hwG : w.heap.size ≤ G := by omega
  rw [← hG]
  rw [← hG] at o0
  clear hown hgrow hG
  go_loopw [4] (fun i wr => ∃ k : Nat, k ≤ ps.length ∧ i = .int .i64 k ∧ Hid (wr.ownsRow G 32 2 (.slice (some ⟨G, 0, none⟩) ps.length ps.length) ps.length (cellsR (cpyF ps k))) ∧ Hid (Below w.heap.size w wr)) (fun i _ => ps.length - (intOf i).toNat)
  case atStart => exact ⟨0, Nat.zero_le _, rfl, o0, hB0⟩
  case round =>
    clear o0 hB0
    obtain ⟨k, hk, rfl, hO, hB⟩ := hrel
    by_cases hlt : k < ps.length
    · obtain ⟨b, off, rfl, c1, c2⟩ := H5.out k hlt
      have hs := World.block_lt_of_cell? w _ c1
      replace c1 := (hB.out.cell (p := ⟨b, off + k * 2, none⟩) hs).trans c1
      replace c2 := (hB.out.cell (p := ⟨b, off + k * 2 + 1, none⟩) hs).trans c2
      obtain ⟨p, hp⟩ : ∃ p, p = fr ps k := ⟨_, rfl⟩
      have HP : Hid (p = fr ps k) := hp
      rw [← hp] at c1 c2
      obtain ⟨x, y⟩ := p
      dsimp only at c1 c2
      have hsz := hB.out.size
      clear hp hs
      go_wp2_with (go_at_call 39; refine (toF_any x y _).mono ?_; rintro e w2 ⟨rfl, hb2⟩; have hO2 := own_below hO.out hb2; have hB2 := hB.out.trans (hb2.mono hsz); obtain ⟨d1, d2⟩ := own_R hO2 (cpyF_len _ _) k hlt; have f1 := hO2.frozenAt (k * 2); have f2 := hO2.frozenAt (k * 2 + 1))
      go_roundw
      case rel =>
        obtain ⟨s1, _⟩ := hO2.stored (k * 2) (.int .i64 x)
        obtain ⟨s3, _⟩ := s1.stored (k * 2 + 1) (.int .i64 y)
        rw [cellsR_set _ _ _ _ (by rw [cpyF_len]; exact hlt), show ((x, y) : Int × Int) = fr ps k from HP.out, cpyF_set] at s3
        exact ⟨k + 1, by omega, by go_num, s3, (hB2.setCell (p := ⟨G, k * 2, none⟩) hwG _).setCell (p := ⟨G, k * 2 + 1, none⟩) hwG _⟩
      case measure => simp [intOf]; omega
    · obtain rfl : k = ps.length := by omega
      go_wp2
      refine bodyPost_ret (results_tmp rfl _ _ _) rfl ⟨_, rfl, ?_, hB.out⟩
      have := hO.out
      rw [cpyF_all] at this
      exact own_le this hwG

/-- the rows that are copied when k of them have been -/
def cpyT (rows : List (List Fr)) (k : Nat) : List (List Fr) := (List.range rows.length).map (fun i => if i < k then rw' rows i else [])
theorem cpyT_len (rows : List (List Fr)) (k : Nat) : (cpyT rows k).length = rows.length := by simp [cpyT]
theorem cpyT_zero (rows : List (List Fr)) : cpyT rows 0 = List.replicate rows.length [] := by
  apply List.ext_getElem
  · simp [cpyT]
  · intro i h1 h2
    simp [cpyT]
theorem cpyT_all (rows : List (List Fr)) : cpyT rows rows.length = rows := by
  apply List.ext_getElem
  · rw [cpyT_len]
  · intro i h1 h2
    simp [cpyT, rw', h2]
theorem cpyT_set (rows : List (List Fr)) (k : Nat) : (cpyT rows k).set k (rw' rows k) = cpyT rows (k + 1) := by
  apply List.ext_getElem
  · simp [cpyT]
  · intro i h1 h2
    simp only [cpyT, List.getElem_set, List.getElem_map, List.getElem_range]
    by_cases e : k = i
    · subst e
      rw [if_pos rfl, if_pos (by omega)]
    · rw [if_neg e]
      by_cases h3 : i < k
      · rw [if_pos h3, if_pos (by omega)]
      · rw [if_neg h3, if_neg (by omega)]
theorem vl_nils (n i : Nat) : vl (List.replicate n (.slice none 0 0)) i = .slice none 0 0 := by
  unfold vl
  by_cases h : i < n
  · rw [List.getElem?_eq_getElem (by simpa using h)]; simp
  · rw [List.getElem?_eq_none (by simpa using h)]; rfl
theorem rw_nils (n i : Nat) : rw' (List.replicate n ([] : List Fr)) i = [] := by
  unfold rw'
  by_cases h : i < n
  · rw [List.getElem?_eq_getElem (by simpa using h)]; simp
  · rw [List.getElem?_eq_none (by simpa using h)]; rfl
theorem madeT (n : Nat) : (madeCells (Value.slice none 0 0).cells (n * 1)).toList = List.replicate n (.slice none 0 0) := by
  rw [show (Value.slice none 0 0).cells = #[Value.slice none 0 0] from rfl, Nat.mul_one, toList_madeCells_one]
/-- a table that was just made -/
theorem Tab.made {W : World} {base n : Nat} {v : Value} (h : W.ownsRow base 35 1 v n (List.replicate n (.slice none 0 0))) : Tab W base v (List.replicate n (.slice none 0 0)) (List.replicate n []) := by
  refine ⟨by rw [List.length_replicate]; exact h, by simp, fun i hi => ?_, fun i j _ _ _ b hb => ?_⟩
  · rw [vl_nils, rw_nils]
    exact World.ownsRow_nil _ _ _ _
  · rw [vl_nils] at hb; simp [Value.ownBlock] at hb
theorem Tab.lt {W : World} {base : Nat} {v : Value} {us : List Value} {rows : List (List Fr)} (h : Tab W base v us rows) (i : Nat) (hi : i < us.length) : ∀ b, (vl us i).ownBlock = some b → b < W.heap.size := fun b hb => ((h.inner i hi).lt b hb).2

set_option maxRecDepth 100000 in
set_option maxHeartbeats 2000000 in
theorem toT_any (v : Value) (rows : List (List Fr)) (w : World) (h : RdT w v rows) (hl : rows.length ≤ 1048576) (hrl : ∀ i, i < rows.length → (rw' rows i).length ≤ 1048576) :
    Calls Try.prog 11 #[v] w fun e w' => ∃ u us, e = .returned u ∧ Tab w' w.heap.size u us rows ∧ Below w.heap.size w w' := by
  obtain ⟨i0, hi, hz0, hz1, hz2⟩ := info_parts infoT
  obtain ⟨a, c, rfl, h2, h3, h4, h5⟩ := h
  have H5 : Hid (∀ i, i < rows.length → ∃ b off u, a = some ⟨b, off, none⟩ ∧ w.cell? ⟨b, off + i, none⟩ = some u ∧ RdR w u (rw' rows i)) := h5
  have HL : Hid (∀ i, i < rows.length → (rw' rows i).length ≤ 1048576) := hrl
  clear h5 h2 h3 h4 hrl
  go_enter Try.func11, Try.ntmps11
  go_wp2_with (at_make; refine wpList_make_full _ rfl _ _ 25 rfl w.heap.size 35 i0 (.slice none 0 0) 1 Try.underlying25 hi hz0 hz1 .i64 .i64 _ _ rows.length rfl rfl rfl rfl (by rw [hz2]; omega) (by unfold maxLen; omega) (Nat.le_refl _) ?_; intro w1 hown hgrow)
  have o0 : Tab w1 w.heap.size (.slice (some ⟨w.heap.size, 0, none⟩) rows.length rows.length) (List.replicate rows.length (.slice none 0 0)) (cpyT rows 0) := by
    rw [cpyT_zero]; refine Tab.made ?_; rw [← madeT]; exact hown
  have hB0 : Below w.heap.size w w1 := (Below.refl _ w).grown hgrow (Nat.le_refl _) (fun k e => by cases e)
  obtain ⟨G, hG⟩ : ∃ G, G = w.heap.size := ⟨_, rfl⟩
  have hwG : w.heap.size ≤ G := by omega
  rw [← hG]
  rw [← hG] at o0
  clear hown hgrow hG
  go_loopw [4] (fun i wr => ∃ (k : Nat) (us : List Value), k ≤ rows.length ∧ i = .int .i64 k ∧ Hid (Tab wr G (.slice (some ⟨G, 0, none⟩) rows.length rows.length) us (cpyT rows k)) ∧ Hid (Below w.heap.size w wr)) (fun i _ => rows.length - (intOf i).toNat)
  case atStart => exact ⟨0, _, Nat.zero_le _, rfl, o0, hB0⟩
  case round =>
    clear o0 hB0
    obtain ⟨k, us, hk, rfl, hO, hB⟩ := hrel
    by_cases hlt : k < rows.length
    · obtain ⟨b, off, u, rfl, c1, hu⟩ := H5.out k hlt
      have hs := World.block_lt_of_cell? w _ c1
      replace c1 := (hB.out.cell (p := ⟨b, off + k, none⟩) hs).trans c1
      have HU : Hid (RdR w u (rw' rows k)) := hu
      have hsz := hB.out.size
      have hlu : us.length = rows.length := hO.out.len.trans (cpyT_len _ _)
      clear hs hu
      go_wp2_with (go_at_call 16; refine (toS_any u (rw' rows k) _ (HU.out.below hB.out) (HL.out k hlt)).mono ?_; rintro e w2 ⟨x, rfl, ox, hb2⟩; obtain ⟨xa, xc, rfl⟩ := own_shape ox; have hO2 := hO.out.below hb2; have hB2 := hB.out.trans (hb2.mono hsz); have ho := hO2.outer; rw [hlu] at ho; have d1 := ho.cellAt k (by omega); have f1 := ho.frozenAt k; rw [List.getElem?_eq_getElem (by omega)] at d1)
      go_roundw
      case rel =>
        have hp := hO2.put (k := k) (by omega) (own_le ox (by have := (hO.out.outer.lt G rfl).2; omega)) (fun i hi _ b hb hb2 => by
          have h1 := hO.out.lt i hi b hb
          have h2 := (ox.lt b hb2).1
          omega)
        rw [cpyT_set] at hp
        exact ⟨k + 1, _, by omega, by go_num, hp, hB2.setCell (p := ⟨G, k, none⟩) hwG _⟩
      case measure => simp [intOf]; omega
    · obtain rfl : k = rows.length := by omega
      go_wp2
      refine bodyPost_ret (results_tmp rfl _ _ _) rfl ⟨_, us, rfl, ?_, hB.out⟩
      have := hO.out
      rw [cpyT_all] at this
      exact this.le hwG
end Go.Proofs.Ytkcdpjcfbpjkean
