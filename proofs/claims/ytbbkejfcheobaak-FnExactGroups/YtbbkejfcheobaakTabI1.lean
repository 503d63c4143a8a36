/- The walks of the laws' helpers over tables of whole numbers that came in: their size, their copies. -/
import Derived.Test.YtbbkejfcheobaakTabI0
namespace Go.Proofs.Ytbbkejfcheobaak
open Go.RowKit Go.Proofs.Ytbbkejfcheobaak.RM

theorem szI_any (v : Value) (ps : List Int) (left : Int) (w : World) (h : InI w v ps) (h0 : 0 ≤ left) (h1 : left ≤ 1048576) :
    Calls Try.prog 26 #[v, .int .i64 left] w fun e w' => e = .returned (.int .i64 (if left - ps.length < 0 then -1 else left - ps.length)) ∧ w' = w := by
  obtain ⟨a, len, c, zs, rfl, _, _, h4, h2⟩ := h
  rw [h4]
  unfold maxLen at h2
  by_cases hs : left - (len : Int) < 0
  · rw [if_pos hs]
    go_enter Try.func26, Try.ntmps26
    go_wp2
    go_ret
    exact ⟨rfl, rfl⟩
  · rw [if_neg hs]
    go_enter Try.func26, Try.ntmps26
    go_wp2
    go_ret
    exact ⟨rfl, rfl⟩

set_option maxRecDepth 100000 in
set_option maxHeartbeats 1000000 in
theorem szU_any (v : Value) (rows : List (List Int)) (left : Int) (w : World) (h : InT w v rows) (h0 : 0 ≤ left) (h1 : left ≤ 1048576) :
    Calls Try.prog 7 #[v, .int .i64 left] w fun e w' => ∃ r : Int, e = .returned (.int .i64 r) ∧ r ≤ 1048576 ∧ (r < 0 ∨ (0 ≤ r ∧ rows.length ≤ 1048576 ∧ ∀ i, i < rows.length → (ri rows i).length ≤ 1048576)) ∧ w' = w := by
  obtain ⟨a, c, rfl, h2, h3, h4, h5⟩ := h
  have H5 : Hid (∀ i, i < rows.length → ∃ b off u, a = some ⟨b, off, none⟩ ∧ w.cell? ⟨b, off + i, none⟩ = some u ∧ InI w u (ri rows i)) := h5
  unfold maxLen at h2
  clear h5 h3 h4
  by_cases hs : left - (rows.length : Int) < 0
  · go_enter Try.func7, Try.ntmps7
    go_wp2
    go_ret
    exact ⟨-1, rfl, by omega, .inl (by omega), rfl⟩
  · go_enter Try.func7, Try.ntmps7
    go_wp2
    go_loop [1, 5] (fun l i => ∃ (k : Nat) (x : Int), k ≤ rows.length ∧ i = .int .i64 k ∧ l = .int .i64 x ∧ 0 ≤ x ∧ x ≤ 1048576 ∧ Hid (∀ j, j < k → (ri rows j).length ≤ 1048576)) (fun _ i => rows.length - (intOf i).toNat)
    case atStart => exact ⟨0, _, Nat.zero_le _, rfl, rfl, by omega, by omega, fun j hj => absurd hj (Nat.not_lt_zero _)⟩
    case round =>
      obtain ⟨k, x, hk, rfl, rfl, x0, x1, HP⟩ := hrel
      by_cases hlt : k < rows.length
      · obtain ⟨b, off, u, rfl, c1, hu⟩ := H5.out k hlt
        have HU : Hid (InI w u (ri rows k)) := hu
        clear hu
        by_cases hx : x - ((ri rows k).length : Int) < 0
        · have HC : Hid (∀ W : World, InI W u (ri rows k) → Calls Try.prog 26 #[u, .int .i64 x] W fun e w' => e = .returned (.int .i64 (-1)) ∧ w' = W) := by
            intro W hW; have := szI_any u (ri rows k) x W hW x0 x1; rw [if_pos hx] at this; exact this
          go_wp2_with (go_at_call 26; refine (HC.out _ HU.out).mono ?_; rintro e w' ⟨rfl, rfl⟩)
          go_ret
          exact ⟨-1, rfl, by omega, .inl (by omega), rfl⟩
        · have HC : Hid (∀ W : World, InI W u (ri rows k) → Calls Try.prog 26 #[u, .int .i64 x] W fun e w' => e = .returned (.int .i64 (x - ((ri rows k).length : Int))) ∧ w' = W) := by
            intro W hW; have := szI_any u (ri rows k) x W hW x0 x1; rw [if_neg hx] at this; exact this
          obtain ⟨y, hy⟩ : ∃ y, y = x - ((ri rows k).length : Int) := ⟨_, rfl⟩
          rw [← hy] at HC hx
          have hy1 : y ≤ 1048576 := by omega
          have HP' : Hid (∀ j, j < k + 1 → (ri rows j).length ≤ 1048576) := by
            intro j hj
            by_cases e : j = k
            · subst e; omega
            · exact HP.out j (by omega)
          clear hy
          go_wp2_with (go_at_call 26; refine (HC.out _ HU.out).mono ?_; rintro e w' ⟨rfl, rfl⟩)
          go_round
          case rel => exact ⟨k + 1, y, by omega, by go_num, rfl, by omega, hy1, HP'⟩
          case measure => simp [intOf]; omega
      · obtain rfl : k = rows.length := by omega
        go_wp2
        go_ret
        exact ⟨x, rfl, x1, .inr ⟨x0, by omega, HP.out⟩, rfl⟩

theorem toIn_any (v : Value) (ps : List Int) (w : World) (h : InI w v ps) (hl : ps.length ≤ 1048576) :
    Calls Try.prog 15 #[v] w fun e w' => ∃ u, e = .returned u ∧ w'.ownsRow w.heap.size 2 1 u ps.length (cI ps) ∧ Below w.heap.size w w' := by
  obtain ⟨a, len, c, zs, rfl, h1, h3, h4, h2⟩ := h
  rw [h4, h3]
  exact toI_any a len c zs w h1 (by omega)

/-- the rows that are copied when k of them have been -/
def cpyU (rows : List (List Int)) (k : Nat) : List (List Int) := (List.range rows.length).map (fun i => if i < k then ri rows i else [])
theorem cpyU_len (rows : List (List Int)) (k : Nat) : (cpyU rows k).length = rows.length := by simp [cpyU]
theorem cpyU_zero (rows : List (List Int)) : cpyU rows 0 = List.replicate rows.length [] := by
  apply List.ext_getElem
  · simp [cpyU]
  · intro i h1 h2
    simp [cpyU]
theorem cpyU_all (rows : List (List Int)) : cpyU rows rows.length = rows := by
  apply List.ext_getElem
  · rw [cpyU_len]
  · intro i h1 h2
    simp [cpyU, ri, h2]
theorem cpyU_set (rows : List (List Int)) (k : Nat) : (cpyU rows k).set k (ri rows k) = cpyU rows (k + 1) := by
  apply List.ext_getElem
  · simp [cpyU]
  · intro i h1 h2
    simp only [cpyU, List.getElem_set, List.getElem_map, List.getElem_range]
    by_cases e : k = i
    · subst e
      rw [if_pos rfl, if_pos (by omega)]
    · rw [if_neg e]
      by_cases h3 : i < k
      · rw [if_pos h3, if_pos (by omega)]
      · rw [if_neg h3, if_neg (by omega)]

set_option maxRecDepth 100000 in
set_option maxHeartbeats 2000000 in
theorem toU_any (v : Value) (rows : List (List Int)) (w : World) (h : InT w v rows) (hl : rows.length ≤ 1048576) (hrl : ∀ i, i < rows.length → (ri rows i).length ≤ 1048576) :
    Calls Try.prog 9 #[v] w fun e w' => ∃ u us, e = .returned u ∧ TabI w' w.heap.size u us rows ∧ Below w.heap.size w w' := by
  obtain ⟨i0, hi, hz0, hz1, hz2⟩ := info_parts infoU
  obtain ⟨a, c, rfl, h2, h3, h4, h5⟩ := h
  have H5 : Hid (∀ i, i < rows.length → ∃ b off u, a = some ⟨b, off, none⟩ ∧ w.cell? ⟨b, off + i, none⟩ = some u ∧ InI w u (ri rows i)) := h5
  have HL : Hid (∀ i, i < rows.length → (ri rows i).length ≤ 1048576) := hrl
  clear h5 h2 h3 h4 hrl
  go_enter Try.func9, Try.ntmps9
  go_wp2_with (at_make; refine wpList_make_full _ rfl _ _ 22 rfl w.heap.size 29 i0 (.slice none 0 0) 1 Try.underlying22 hi hz0 hz1 .i64 .i64 _ _ rows.length rfl rfl rfl rfl (by rw [hz2]; omega) (by unfold maxLen; omega) (Nat.le_refl _) ?_; intro w1 hown hgrow)
  have o0 : TabI w1 w.heap.size (.slice (some ⟨w.heap.size, 0, none⟩) rows.length rows.length) (List.replicate rows.length (.slice none 0 0)) (cpyU rows 0) := by
    rw [cpyU_zero]; refine TabI.made ?_; rw [← madeT]; exact hown
  have hB0 : Below w.heap.size w w1 := (Below.refl _ w).grown hgrow (Nat.le_refl _) (fun k e => by cases e)
  obtain ⟨G, hG⟩ : ∃ G, G = w.heap.size := ⟨_, rfl⟩
  have hwG : w.heap.size ≤ G := by omega
  rw [← hG]
  rw [← hG] at o0
  clear hown hgrow hG
  go_loopw [4] (fun i wr => ∃ (k : Nat) (us : List Value), k ≤ rows.length ∧ i = .int .i64 k ∧ Hid (TabI wr G (.slice (some ⟨G, 0, none⟩) rows.length rows.length) us (cpyU rows k)) ∧ Hid (Below w.heap.size w wr)) (fun i _ => rows.length - (intOf i).toNat)
  case atStart => exact ⟨0, _, Nat.zero_le _, rfl, o0, hB0⟩
  case round =>
    clear o0 hB0
    obtain ⟨k, us, hk, rfl, hO, hB⟩ := hrel
    by_cases hlt : k < rows.length
    · obtain ⟨b, off, u, rfl, c1, hu⟩ := H5.out k hlt
      have hs := World.block_lt_of_cell? w _ c1
      replace c1 := (hB.out.cell (p := ⟨b, off + k, none⟩) hs).trans c1
      have HU : Hid (InI w u (ri rows k)) := hu
      have hsz := hB.out.size
      have hlu : us.length = rows.length := hO.out.len.trans (cpyU_len _ _)
      clear hs hu
      go_wp2_with (go_at_call 15; refine (toIn_any u (ri rows k) _ (HU.out.below hB.out) (HL.out k hlt)).mono ?_; rintro e w2 ⟨x, rfl, ox, hb2⟩; obtain ⟨xa, xc, rfl⟩ := own_shape ox; have hO2 := hO.out.below hb2; have hB2 := hB.out.trans (hb2.mono hsz); have ho := hO2.outer; rw [hlu] at ho; have d1 := ho.cellAt k (by omega); have f1 := ho.frozenAt k; rw [List.getElem?_eq_getElem (by omega)] at d1)
      go_roundw
      case rel =>
        have hp := hO2.put (k := k) (by omega) (own_le ox (by have := (hO.out.outer.lt G rfl).2; omega)) (fun i hi _ b hb hb2 => by
          have h1 := hO.out.lt i hi b hb
          have h2 := (ox.lt b hb2).1
          omega)
        rw [cpyU_set] at hp
        exact ⟨k + 1, _, by omega, by go_num, hp, hB2.setCell (p := ⟨G, k, none⟩) hwG _⟩
      case measure => simp [intOf]; omega
    · obtain rfl : k = rows.length := by omega
      go_wp2
      refine bodyPost_ret (results_tmp rfl _ _ _) rfl ⟨_, us, rfl, ?_, hB.out⟩
      have := hO.out
      rw [cpyU_all] at this
      exact this.le hwG
end Go.Proofs.Ytbbkejfcheobaak
