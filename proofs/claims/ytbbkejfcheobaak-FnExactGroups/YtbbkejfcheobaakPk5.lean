/- Several texts of this proof laid one behind the other: each has its own heading below. -/
import Derived.Test.YtbbkejfcheobaakTabI0
import Derived.Test.YtbbkejfcheobaakPk4
import Derived.ProofKit
import Derived.OpenShut
import Derived.Deep.SlicePairs

/- The walks of the laws' helpers over tables of whole numbers that came in: their size, their copies. -/
namespace Go.Proofs.Ytbbkejfcheobaak
open Go.RowKit Go.Proofs.Ytbbkejfcheobaak.RM

theorem szI_any (v : Value) (ps : List Int) (left : Int) (w : World) (h : InI w v ps) (h0 : 0 ≤ left) (h1 : left ≤ 1048576) :
    Calls Try.prog 26 #[v, .int .i64 left] w fun e w' => e = .returned (.int .i64 (if left - ps.length < 0 then -1 else left - ps.length)) ∧ w' = w := by
  obtain ⟨a, len, c, zs, rfl, _, _, h4, h2⟩ := h
  rw [h4]
  unfold maxLen at h2
  by_cases hs : left - (len : Int) < 0
  · rw [if_pos hs]
    go_enter Try.func26, Try.ntmps26
    go_wp2
    go_ret
    exact ⟨rfl, rfl⟩
  · rw [if_neg hs]
    go_enter Try.func26, Try.ntmps26
    go_wp2
    go_ret
    exact ⟨rfl, rfl⟩

set_option maxRecDepth 100000 in
set_option maxHeartbeats 1000000 in
theorem szU_any (v : Value) (rows : List (List Int)) (left : Int) (w : World) (h : InT w v rows) (h0 : 0 ≤ left) (h1 : left ≤ 1048576) :
    Calls Try.prog 7 #[v, .int .i64 left] w fun e w' => ∃ r : Int, e = .returned (.int .i64 r) ∧ r ≤ 1048576 ∧ (r < 0 ∨ (0 ≤ r ∧ rows.length ≤ 1048576 ∧ ∀ i, i < rows.length → (ri rows i).length ≤ 1048576)) ∧ w' = w := by
  obtain ⟨a, c, rfl, h2, h3, h4, h5⟩ := h
  have H5 : Hid (∀ i, i < rows.length → ∃ b off u, a = some ⟨b, off, none⟩ ∧ w.cell? ⟨b, off + i, none⟩ = some u ∧ InI w u (ri rows i)) := h5
  unfold maxLen at h2
  clear h5 h3 h4
  by_cases hs : left - (rows.length : Int) < 0
  · go_enter Try.func7, Try.ntmps7
    go_wp2
    go_ret
    exact ⟨-1, rfl, by omega, .inl (by omega), rfl⟩
  · go_enter Try.func7, Try.ntmps7
    go_wp2
    go_loop [1, 5] (fun l i => ∃ (k : Nat) (x : Int), k ≤ rows.length ∧ i = .int .i64 k ∧ l = .int .i64 x ∧ 0 ≤ x ∧ x ≤ 1048576 ∧ Hid (∀ j, j < k → (ri rows j).length ≤ 1048576)) (fun _ i => rows.length - (intOf i).toNat)
    case atStart => exact ⟨0, _, Nat.zero_le _, rfl, rfl, by omega, by omega, fun j hj => absurd hj (Nat.not_lt_zero _)⟩
    case round =>
      obtain ⟨k, x, hk, rfl, rfl, x0, x1, HP⟩ := hrel
      by_cases hlt : k < rows.length
      · obtain ⟨b, off, u, rfl, c1, hu⟩ := H5.out k hlt
        have HU : Hid (InI w u (ri rows k)) := hu
        clear hu
        by_cases hx : x - ((ri rows k).length : Int) < 0
        · have HC : Hid (∀ W : World, InI W u (ri rows k) → Calls Try.prog 26 #[u, .int .i64 x] W fun e w' => e = .returned (.int .i64 (-1)) ∧ w' = W) := by
            intro W hW; have := szI_any u (ri rows k) x W hW x0 x1; rw [if_pos hx] at this; exact this
          go_wp2_with (go_at_call 26; refine (HC.out _ HU.out).mono ?_; rintro e w' ⟨rfl, rfl⟩)
          go_ret
          exact ⟨-1, rfl, by omega, .inl (by omega), rfl⟩
        · have HC : Hid (∀ W : World, InI W u (ri rows k) → Calls Try.prog 26 #[u, .int .i64 x] W fun e w' => e = .returned (.int .i64 (x - ((ri rows k).length : Int))) ∧ w' = W) := by
            intro W hW; have := szI_any u (ri rows k) x W hW x0 x1; rw [if_neg hx] at this; exact this
          obtain ⟨y, hy⟩ : ∃ y, y = x - ((ri rows k).length : Int) := ⟨_, rfl⟩
          rw [← hy] at HC hx
          have hy1 : y ≤ 1048576 := by omega
          have HP' : Hid (∀ j, j < k + 1 → (ri rows j).length ≤ 1048576) := by
            intro j hj
            by_cases e : j = k
            · subst e; omega
            · exact HP.out j (by omega)
          clear hy
          go_wp2_with (go_at_call 26; refine (HC.out _ HU.out).mono ?_; rintro e w' ⟨rfl, rfl⟩)
          go_round
          case rel => exact ⟨k + 1, y, by omega, by go_num, rfl, by omega, hy1, HP'⟩
          case measure => simp [intOf]; omega
      · obtain rfl : k = rows.length := by omega
        go_wp2
        go_ret
        exact ⟨x, rfl, x1, .inr ⟨x0, by omega, HP.out⟩, rfl⟩

theorem toIn_any (v : Value) (ps : List Int) (w : World) (h : InI w v ps) (hl : ps.length ≤ 1048576) :
    Calls Try.prog 15 #[v] w fun e w' => ∃ u, e = .returned u ∧ w'.ownsRow w.heap.size 2 1 u ps.length (cI ps) ∧ Below w.heap.size w w' := by
  obtain ⟨a, len, c, zs, rfl, h1, h3, h4, h2⟩ := h
  rw [h4, h3]
  exact toI_any a len c zs w h1 (by omega)

/-- the rows that are copied when k of them have been -/
def cpyU (rows : List (List Int)) (k : Nat) : List (List Int) := (List.range rows.length).map (fun i => if i < k then ri rows i else [])
theorem cpyU_len (rows : List (List Int)) (k : Nat) : (cpyU rows k).length = rows.length := by simp [cpyU]
theorem cpyU_zero (rows : List (List Int)) : cpyU rows 0 = List.replicate rows.length [] := by
  apply List.ext_getElem
  · simp [cpyU]
  · intro i h1 h2
    simp [cpyU]
theorem cpyU_all (rows : List (List Int)) : cpyU rows rows.length = rows := by
  apply List.ext_getElem
  · rw [cpyU_len]
  · intro i h1 h2
    simp [cpyU, ri, h2]
theorem cpyU_set (rows : List (List Int)) (k : Nat) : (cpyU rows k).set k (ri rows k) = cpyU rows (k + 1) := by
  apply List.ext_getElem
  · simp [cpyU]
  · intro i h1 h2
    simp only [cpyU, List.getElem_set, List.getElem_map, List.getElem_range]
    by_cases e : k = i
    · subst e
      rw [if_pos rfl, if_pos (by omega)]
    · rw [if_neg e]
      by_cases h3 : i < k
      · rw [if_pos h3, if_pos (by omega)]
      · rw [if_neg h3, if_neg (by omega)]

set_option maxRecDepth 100000 in
set_option maxHeartbeats 2000000 in
theorem toU_any (v : Value) (rows : List (List Int)) (w : World) (h : InT w v rows) (hl : rows.length ≤ 1048576) (hrl : ∀ i, i < rows.length → (ri rows i).length ≤ 1048576) :
    Calls Try.prog 9 #[v] w fun e w' => ∃ u us, e = .returned u ∧ TabI w' w.heap.size u us rows ∧ Below w.heap.size w w' := by
  obtain ⟨i0, hi, hz0, hz1, hz2⟩ := info_parts infoU
  obtain ⟨a, c, rfl, h2, h3, h4, h5⟩ := h
  have H5 : Hid (∀ i, i < rows.length → ∃ b off u, a = some ⟨b, off, none⟩ ∧ w.cell? ⟨b, off + i, none⟩ = some u ∧ InI w u (ri rows i)) := h5
  have HL : Hid (∀ i, i < rows.length → (ri rows i).length ≤ 1048576) := hrl
  clear h5 h2 h3 h4 hrl
  go_enter Try.func9, Try.ntmps9
  go_wp2_with (at_make; refine wpList_make_full _ rfl _ _ 22 rfl w.heap.size 29 i0 (.slice none 0 0) 1 Try.underlying22 hi hz0 hz1 .i64 .i64 _ _ rows.length rfl rfl rfl rfl (by rw [hz2]; omega) (by unfold maxLen; omega) (Nat.le_refl _) ?_; intro w1 hown hgrow)
  have o0 : TabI w1 w.heap.size (.slice (some ⟨w.heap.size, 0, none⟩) rows.length rows.length) (List.replicate rows.length (.slice none 0 0)) (cpyU rows 0) := by
    rw [cpyU_zero]; refine TabI.made ?_; rw [← madeT]; exact hown
  have hB0 : Below w.heap.size w w1 := (Below.refl _ w).grown hgrow (Nat.le_refl _) (fun k e => by cases e)
  obtain ⟨G, hG⟩ : ∃ G, G = w.heap.size := ⟨_, rfl⟩
  have hwG : w.heap.size ≤ G := by omega
  rw [← hG]
  rw [← hG] at o0
  clear hown hgrow hG
  go_loopw [4] (fun i wr => ∃ (k : Nat) (us : List Value), k ≤ rows.length ∧ i = .int .i64 k ∧ Hid (TabI wr G (.slice (some ⟨G, 0, none⟩) rows.length rows.length) us (cpyU rows k)) ∧ Hid (Below w.heap.size w wr)) (fun i _ => rows.length - (intOf i).toNat)
  case atStart => exact ⟨0, _, Nat.zero_le _, rfl, o0, hB0⟩
  case round =>
    clear o0 hB0
    obtain ⟨k, us, hk, rfl, hO, hB⟩ := hrel
    by_cases hlt : k < rows.length
    · obtain ⟨b, off, u, rfl, c1, hu⟩ := H5.out k hlt
      have hs := World.block_lt_of_cell? w _ c1
      replace c1 := (hB.out.cell (p := ⟨b, off + k, none⟩) hs).trans c1
      have HU : Hid (InI w u (ri rows k)) := hu
      have hsz := hB.out.size
      have hlu : us.length = rows.length := hO.out.len.trans (cpyU_len _ _)
      clear hs hu
      go_wp2_with (go_at_call 15; refine (toIn_any u (ri rows k) _ (HU.out.below hB.out) (HL.out k hlt)).mono ?_; rintro e w2 ⟨x, rfl, ox, hb2⟩; obtain ⟨xa, xc, rfl⟩ := own_shape ox; have hO2 := hO.out.below hb2; have hB2 := hB.out.trans (hb2.mono hsz); have ho := hO2.outer; rw [hlu] at ho; have d1 := ho.cellAt k (by omega); have f1 := ho.frozenAt k; rw [List.getElem?_eq_getElem (by omega)] at d1)
      go_roundw
      case rel =>
        have hp := hO2.put (k := k) (by omega) (own_le ox (by have := (hO.out.outer.lt G rfl).2; omega)) (fun i hi _ b hb hb2 => by
          have h1 := hO.out.lt i hi b hb
          have h2 := (ox.lt b hb2).1
          omega)
        rw [cpyU_set] at hp
        exact ⟨k + 1, _, by omega, by go_num, hp, hB2.setCell (p := ⟨G, k, none⟩) hwG _⟩
      case measure => simp [intOf]; omega
    · obtain rfl : k = rows.length := by omega
      go_wp2
      refine bodyPost_ret (results_tmp rfl _ _ _) rfl ⟨_, us, rfl, ?_, hB.out⟩
      have := hO.out
      rw [cpyU_all] at this
      exact this.le hwG
end Go.Proofs.Ytbbkejfcheobaak

/- The walk of two tables of whole numbers held against each other, and of a table's marks. -/
namespace Go.Proofs.Ytbbkejfcheobaak
open Go.RowKit Go.Proofs.Ytbbkejfcheobaak.RM

set_option maxRecDepth 100000 in
set_option maxHeartbeats 1000000 in
theorem eqU_any (v u : Value) (us vs : List Value) (b1 b2 : Nat) (rows : List (List Int)) (w : World) (hl : rows.length ≤ 1048576) (hrl : ∀ i, i < rows.length → (ri rows i).length ≤ 1048576) (h : TabI w b1 v us rows) (h' : TabI w b2 u vs rows) :
    Calls Try.prog 11 #[v, u] w fun e w' => e = .returned (.bool true) ∧ Below w.heap.size w w' := by
  obtain ⟨n, hn⟩ : ∃ n, n = rows.length := ⟨_, rfl⟩
  have ho := h.outer
  have ho' := h'.outer
  have e1 : us.length = n := h.len.trans hn.symm
  have e2 : vs.length = n := h'.len.trans hn.symm
  rw [e1] at ho
  rw [e2] at ho'
  obtain ⟨a, c, rfl⟩ := own_shape ho
  obtain ⟨a', c', rfl⟩ := own_shape ho'
  have H5 : Hid (∀ i, i < n → ∃ g, a = some ⟨g, 0, none⟩ ∧ w.cell? ⟨g, i, none⟩ = some (vl us i)) := by
    intro i hi
    obtain ⟨g, cc, e⟩ := own_some ho (by omega)
    cases e
    have d1 := ho.cellAt i (by omega)
    rw [List.getElem?_eq_getElem (by omega)] at d1
    exact ⟨g, rfl, by rw [d1]; simp [vl, List.getElem?_eq_getElem (show i < us.length by omega)]⟩
  have H6 : Hid (∀ i, i < n → ∃ g, a' = some ⟨g, 0, none⟩ ∧ w.cell? ⟨g, i, none⟩ = some (vl vs i)) := by
    intro i hi
    obtain ⟨g, cc, e⟩ := own_some ho' (by omega)
    cases e
    have d1 := ho'.cellAt i (by omega)
    rw [List.getElem?_eq_getElem (by omega)] at d1
    exact ⟨g, rfl, by rw [d1]; simp [vl, List.getElem?_eq_getElem (show i < vs.length by omega)]⟩
  have HC : Hid (∀ k, k < n → ∀ W : World, Below w.heap.size w W → Calls Try.prog 17 #[vl us k, vl vs k] W fun e w' => e = .returned (.bool true) ∧ Below W.heap.size W w') := by
    intro k hk W hW
    refine (eqG_same (vl us k) (vl vs k) (ri rows k) (ri rows k).length _ _ _ _ W rfl (by have := hrl k (by omega); omega) (own_below (h.inner k (by omega)) hW) (own_below (h'.inner k (by omega)) hW)).mono ?_
    rintro e w' ⟨rfl, m, rfl⟩
    exact ⟨rfl, below_drewN (Below.refl _ _) _⟩
  rw [← hn] at hl
  clear h h' ho ho' hn e1 e2 hrl
  go_enter Try.func11, Try.ntmps11
  go_wp2
  go_loopw [5] (fun i wr => ∃ k : Nat, k ≤ n ∧ i = .int .i64 k ∧ Hid (Below w.heap.size w wr)) (fun i _ => n - (intOf i).toNat)
  case atStart => exact ⟨0, Nat.zero_le _, rfl, Below.refl _ _⟩
  case round =>
    obtain ⟨k, hk, rfl, hB⟩ := hrel
    by_cases hlt : k < n
    · obtain ⟨g, rfl, c1⟩ := H5.out k hlt
      obtain ⟨g', rfl, c3⟩ := H6.out k hlt
      replace c1 := cell_keep hB.out c1
      replace c3 := cell_keep hB.out c3
      have HCk := hidL0 (HC.out k hlt)
      obtain ⟨x, hx⟩ : ∃ x, x = vl us k := ⟨_, rfl⟩
      obtain ⟨y, hy⟩ : ∃ x, x = vl vs k := ⟨_, rfl⟩
      rw [← hx] at c1 HCk
      rw [← hy] at c3 HCk
      clear hx hy
      go_wp2
      go_region_with (go_at_call 17; refine (HCk.out _ (by first | exact hB.out | exact hB.out.drew | exact below_drewN hB.out _)).mono ?_; rintro e w1 ⟨rfl, hb⟩; have B1 : Below w.heap.size w w1 := Below.trans (by first | exact hB.out | exact hB.out.drew | exact below_drewN hB.out _) (hb.mono (by simpa using hB.out.size)))
      all_goals go_wp2
      all_goals
        go_roundw
        case rel => exact ⟨k + 1, by omega, by go_num, B1⟩
        case measure => simp [intOf]; omega
    · go_wp2
      go_ret
      exact ⟨rfl, hB.out⟩

/-- how many numbers stand ahead of row i -/
def offI (rows : List (List Int)) : Nat → Nat
  | 0 => 0
  | i + 1 => offI rows i + (ri rows i).length
theorem offI_le {rows : List (List Int)} (hl : ∀ i, i < rows.length → (ri rows i).length ≤ 1048576) : ∀ i, i ≤ rows.length → offI rows i ≤ i * 1048576
  | 0, _ => by simp [offI]
  | i + 1, h => by
    have := offI_le hl i (by omega)
    have := hl i (by omega)
    simp only [offI]; omega
/-- the table of which j rows are marked -/
def mkU (k0 : Int) (rows : List (List Int)) (j : Nat) : List (List Int) := (List.range rows.length).map (fun i => if i < j then mrk (k0 + (offI rows i : Int)) (ri rows i) (ri rows i).length else ri rows i)
theorem mkU_len (k0 : Int) (rows : List (List Int)) (j : Nat) : (mkU k0 rows j).length = rows.length := by simp [mkU]
theorem mkU_zero (k0 : Int) (rows : List (List Int)) : mkU k0 rows 0 = rows := by
  apply List.ext_getElem
  · rw [mkU_len]
  · intro i h1 h2
    simp [mkU, ri, List.getElem?_eq_getElem h2]
theorem mkU_set (k0 : Int) (rows : List (List Int)) (j : Nat) : (mkU k0 rows j).set j (mrk (k0 + (offI rows j : Int)) (ri rows j) (ri rows j).length) = mkU k0 rows (j + 1) := by
  apply List.ext_getElem
  · simp [mkU]
  · intro i h1 h2
    simp only [mkU, List.getElem_set, List.getElem_map, List.getElem_range]
    by_cases e : j = i
    · subst e
      rw [if_pos rfl, if_pos (by omega)]
    · rw [if_neg e]
      by_cases h3 : i < j
      · rw [if_pos h3, if_pos (by omega)]
      · rw [if_neg h3, if_neg (by omega)]
theorem mkU_at (k0 : Int) (rows : List (List Int)) (j i : Nat) (h : i < rows.length) : ri (mkU k0 rows j) i = if i < j then mrk (k0 + (offI rows i : Int)) (ri rows i) (ri rows i).length else ri rows i := by
  simp [mkU, ri, h]

set_option maxRecDepth 100000 in
set_option maxHeartbeats 2000000 in
theorem markU_any (v : Value) (us : List Value) (rows : List (List Int)) (base S : Nat) (k0 : Int) (w : World) (h : TabI w base v us rows) (hu : Under S v us) (hl : rows.length ≤ 1048576) (hrl : ∀ i, i < rows.length → (ri rows i).length ≤ 1048576) (hk0 : 0 ≤ k0) (hk1 : k0 ≤ 100000000000000) :
    Calls Try.prog 12 #[v, .int .i64 k0] w fun e w' => e = .returned (.int .i64 (k0 + (offI rows rows.length : Int))) ∧ TabI w' base v us (mkU k0 rows rows.length) ∧ Out base S w w' := by
  obtain ⟨n, hn⟩ : ∃ n, n = rows.length := ⟨_, rfl⟩
  have HL : Hid (us.length = n) := h.len.trans hn.symm
  have HO : Hid (∀ i, i ≤ n → (offI rows i : Int) ≤ 1099511627776) := by
    intro i hi
    have := offI_le hrl i (by omega)
    have : i * 1048576 ≤ 1048576 * 1048576 := Nat.mul_le_mul_right _ (by omega)
    omega
  have HR : Hid (∀ i, i < n → (ri rows i).length ≤ 1048576) := fun i hi => hrl i (by omega)
  have HT : Hid (TabI w base v us rows) := h
  have HU : Hid (Under S v us) := hu
  have shape : ∃ a c, v = .slice a n c := by
    obtain ⟨a, c, e⟩ := own_shape h.outer
    exact ⟨a, c, by rw [e, h.len, hn]⟩
  obtain ⟨a, c, rfl⟩ := shape
  have HA : Hid (∀ i, i < n → ∃ g, a = some ⟨g, 0, none⟩) := by
    intro i hi
    obtain ⟨g, c', e⟩ := own_some h.outer (by have := h.len; omega)
    cases e
    exact ⟨g, rfl⟩
  rw [← hn] at hl ⊢
  have HN : Hid (rows.length = n) := hn.symm
  clear h hu hrl hn
  go_enter Try.func12, Try.ntmps12
  go_wp2
  go_loopw [1, 5] (fun q i wr => ∃ k : Nat, k ≤ n ∧ i = .int .i64 k ∧ q = .int .i64 (k0 + (offI rows k : Int)) ∧ Hid (TabI wr base (.slice a n c) us (mkU k0 rows k)) ∧ Hid (Out base S w wr)) (fun _ i _ => n - (intOf i).toNat)
  case atStart => exact ⟨0, Nat.zero_le _, rfl, by simp [offI], by rw [mkU_zero]; exact HT.out, Out.refl _ _ _⟩
  case round =>
    obtain ⟨k, hk, rfl, rfl, hT, hO⟩ := hrel
    have hoff := HO.out k hk
    by_cases hlt : k < n
    · obtain ⟨g, rfl⟩ := HA.out k hlt
      have ho := hT.out.outer
      have hul := HL.out
      rw [hul] at ho
      have d1 := ho.cellAt k (by omega)
      rw [List.getElem?_eq_getElem (by omega), show us[k] = vl us k by simp [vl, List.getElem?_eq_getElem (show k < us.length by omega)]] at d1
      have hin := hT.out.inner k (by omega)
      rw [mkU_at _ _ _ _ (by rw [HN.out]; exact hlt), if_neg (by omega)] at hin
      have HIN : Hid (wr.ownsRow base 2 1 (vl us k) (ri rows k).length (cI (ri rows k))) := hin
      obtain ⟨x, hx⟩ : ∃ x, x = vl us k := ⟨_, rfl⟩
      have HX : Hid (x = vl us k) := hx
      rw [← hx] at d1 HIN
      have hrk := HR.out k hlt
      have hnext := HO.out (k + 1) (by omega)
      clear ho hul hin hx
      go_wp2_with (go_at_call 18; refine (markG_any x (ri rows k) (ri rows k).length base _ _ _ rfl (by omega) (by omega) (by omega) HIN.out).mono ?_; rintro e w2 ⟨rfl, o2, g2⟩)
      go_roundw
      case rel =>
        refine ⟨k + 1, by omega, by go_num, ?_, ?_, hO.out.trans (Out.of_grown g2 (fun b hb => ?_))⟩
        · simp only [offI]; congr 1; omega
        · have := hT.out.turn (k := k) (ps := mrk (k0 + (offI rows k : Int)) (ri rows k) (ri rows k).length) (by have := HL.out; omega) (by rw [mrk_len _ _ _ (Nat.le_refl _), ← HX.out]; exact o2) (by rw [← HX.out]; exact g2)
          rw [mkU_set] at this
          exact this
        · rw [HX.out] at hb
          exact ⟨((hT.out.inner k (by have := HL.out; omega)).lt b hb).1, HU.out.2 k (by have := HL.out; omega) b hb⟩
      case measure => simp [intOf]; omega
    · obtain rfl : k = n := by omega
      go_wp2
      go_ret
      exact ⟨rfl, hT.out, hO.out⟩
end Go.Proofs.Ytbbkejfcheobaak

/- A table of whole numbers whose marks are held; how long what Groups answers is. -/
namespace Go.Proofs.Ytbbkejfcheobaak
open Go.RowKit Go.Proofs.Ytbbkejfcheobaak.RM

theorem TabI.out_hi {lo hi : Nat} {w w' : World} {base : Nat} {v : Value} {us : List Value} {rows : List (List Int)} (h : TabI w base v us rows) (ho : Out lo hi w w') (hb : hi ≤ base) : TabI w' base v us rows :=
  h.out ho (fun b e => .inr (by have := (h.outer.lt b e).1; omega)) (fun i hi' b e => .inr (by have := ((h.inner i hi').lt b e).1; omega))
theorem grA_small (L : List (List Int)) : (grA L).length ≤ 1048576 ∧ ∀ i, i < (grA L).length → (ri (grA L) i).length ≤ 1048576 := by
  cases h : grO L with
  | false => rw [grA_no h]; exact ⟨by simp, fun i hi => absurd hi (Nat.not_lt_zero _)⟩
  | true =>
    rw [grA_yes h]
    obtain ⟨k1, k2⟩ := kerA_small (dimT L)
    rw [List.length_map]
    refine ⟨k1, fun i hi => ?_⟩
    have e : ri ((kerA (dimT L)).map lwF) i = lwF (rw' (kerA (dimT L)) i) := by simp [ri, rw', hi]
    rw [e]
    have := k2 i hi
    simp only [lwF, List.length_map, List.length_range]
    exact this

set_option maxRecDepth 100000 in
set_option maxHeartbeats 2000000 in
theorem heldU_any (v : Value) (us : List Value) (rows : List (List Int)) (base : Nat) (k0 : Int) (w : World) (h : TabI w base v us (mkU k0 rows rows.length)) (hl : rows.length ≤ 1048576) (hrl : ∀ i, i < rows.length → (ri rows i).length ≤ 1048576) (hk0 : 0 ≤ k0) (hk1 : k0 ≤ 100000000000000) :
    Calls Try.prog 13 #[v, .int .i64 k0] w fun e w' => e = .returned (.int .i64 (k0 + (offI rows rows.length : Int))) ∧ Below w.heap.size w w' := by
  obtain ⟨n, hn⟩ : ∃ n, n = rows.length := ⟨_, rfl⟩
  have ho := h.outer
  have e1 : us.length = n := by rw [h.len, mkU_len, hn]
  rw [e1] at ho
  obtain ⟨a, c, rfl⟩ := own_shape ho
  have HO : Hid (∀ i, i ≤ n → (offI rows i : Int) ≤ 1099511627776) := by
    intro i hi
    have := offI_le hrl i (by omega)
    have : i * 1048576 ≤ 1048576 * 1048576 := Nat.mul_le_mul_right _ (by omega)
    omega
  have HR : Hid (∀ i, i < n → (ri rows i).length ≤ 1048576) := fun i hi => hrl i (by omega)
  have H5 : Hid (∀ i, i < n → ∃ g, a = some ⟨g, 0, none⟩ ∧ w.cell? ⟨g, i, none⟩ = some (vl us i)) := by
    intro i hi
    obtain ⟨g, cc, e⟩ := own_some ho (by omega)
    cases e
    have d1 := ho.cellAt i (by omega)
    rw [List.getElem?_eq_getElem (by omega)] at d1
    exact ⟨g, rfl, by rw [d1]; simp [vl, List.getElem?_eq_getElem (show i < us.length by omega)]⟩
  have HIN : Hid (∀ i, i < n → w.ownsRow base 2 1 (vl us i) (ri rows i).length ((mrk (k0 + (offI rows i : Int)) (ri rows i) (ri rows i).length).map (Value.int .i64))) := by
    intro i hi
    have := h.inner i (by omega)
    rw [mkU_at _ _ _ _ (by omega), if_pos (by omega)] at this
    have hml : (mrk (k0 + (offI rows i : Int)) (ri rows i) (ri rows i).length).length = (ri rows i).length := mrk_len _ _ _ (Nat.le_refl _)
    rw [hml] at this
    exact this
  rw [← hn] at hl ⊢
  clear h ho hrl hn e1
  go_enter Try.func13, Try.ntmps13
  go_wp2
  go_loopw [1, 5] (fun q i wr => ∃ k : Nat, k ≤ n ∧ i = .int .i64 k ∧ q = .int .i64 (k0 + (offI rows k : Int)) ∧ Hid (Below w.heap.size w wr)) (fun _ i _ => n - (intOf i).toNat)
  case atStart => exact ⟨0, Nat.zero_le _, rfl, by simp [offI], Below.refl _ _⟩
  case round =>
    obtain ⟨k, hk, rfl, rfl, hB⟩ := hrel
    have hoff := HO.out k hk
    by_cases hlt : k < n
    · obtain ⟨g, rfl, c1⟩ := H5.out k hlt
      replace c1 := cell_keep hB.out c1
      have HU := hidM (own_below (HIN.out k hlt) hB.out)
      have hrk := HR.out k hlt
      have hsz := hB.out.size
      obtain ⟨x, hx⟩ : ∃ x, x = vl us k := ⟨_, rfl⟩
      rw [← hx] at c1 HU
      clear hx
      go_wp2_with (go_at_call 19; refine (heldG_any x (ri rows k) _ _ _ _ _ rfl (by omega) (by omega) (by omega) HU.out).mono ?_; rintro e w2 ⟨rfl, m2, hw2⟩; have hb2 : Below wr.heap.size wr w2 := by { rw [hw2]; exact below_drewN (Below.refl _ _) _ }; clear hw2)
      go_roundw
      case rel =>
        refine ⟨k + 1, by omega, by go_num, ?_, hB.out.trans (hb2.mono hsz)⟩
        simp only [offI]; congr 1; omega
      case measure => simp [intOf]; omega
    · obtain rfl : k = n := by omega
      go_wp2
      go_ret
      exact ⟨rfl, hB.out⟩
end Go.Proofs.Ytbbkejfcheobaak

/- The walk of the law of Groups: both answers are the same table of whole numbers, the program's in memory of its own, and the table that was handed in stays. -/
namespace Go.Proofs.Ytbbkejfcheobaak
open Go.RowKit Go.Proofs.Ytbbkejfcheobaak.RM

set_option maxRecDepth 100000 in
set_option maxHeartbeats 4000000 in
theorem lawGroups (va : Value) (a : List (List Int)) (w : World) (ha : InT w va a) :
    Calls Try.prog 3 #[va] w fun e w' => e = .returned (.bool true) ∧ Below w.heap.size w w' := by
  have HA : Hid (InT w va a) := ha
  clear ha
  go_enter Try.func3, Try.ntmps3
  go_wp2_with fail
  refine (szU_any va a 1048576 _ HA.out (by omega) (by omega)).mono ?_
  rintro e w0 ⟨r, rfl, r1, hcase, hw⟩
  obtain rfl := hw.symm
  clear hw
  rcases hcase with hneg | ⟨r0, la1, la2⟩
  · go_wp2
    go_ret
    exact ⟨rfl, Below.refl _ _⟩
  have LA : Hid (a.length ≤ 1048576 ∧ ∀ i, i < a.length → (ri a i).length ≤ 1048576) := ⟨la1, la2⟩
  have HTA : Hid (∀ W : World, Below w.heap.size w W → Calls Try.prog 9 #[va] W fun e w' => ∃ u us, e = .returned u ∧ TabI w' W.heap.size u us a ∧ Below W.heap.size W w') := by
    intro W hW; exact toU_any va a W (HA.out.below hW) la1 la2
  obtain ⟨A, hA⟩ : ∃ A, A = grA a := ⟨_, rfl⟩
  obtain ⟨q, hq⟩ : ∃ q, q = grO a := ⟨_, rfl⟩
  have HS : Hid (∀ (u : Value) (us' : List Value) (b : Nat) (W : World), TabI W b u us' a → Calls Try.prog 8 #[u] W fun e w' => ∃ v us, e = .returned (.tuple #[v, .bool q]) ∧ TabI w' W.heap.size v us A ∧ Below W.heap.size W w') := by
    intro u us' b W h1; rw [hq, hA]; exact sGroups_any u us' a b W h1
  have HI : Hid (∀ (u : Value) (us' : List Value) (b : Nat) (W : World), TabI W b u us' a → Calls Try.prog 10 #[u] W fun e w' => ∃ v us, e = .returned (.tuple #[v, .bool q]) ∧ TabI w' W.heap.size v us A ∧ Below W.heap.size W w') := by
    intro u us' b W h1; rw [hq, hA]; exact iGroups_any u us' a b W h1
  have LS : Hid (A.length ≤ 1048576 ∧ ∀ i, i < A.length → (ri A i).length ≤ 1048576) := by show _ ∧ _; rw [hA]; exact grA_small a
  have e1 : (q != q) = false := by simp
  have b1 : (offI a a.length : Int) ≤ 1099511627776 := by
    have := offI_le la2 a.length (Nat.le_refl _)
    have : a.length * 1048576 ≤ 1048576 * 1048576 := Nat.mul_le_mul_right _ la1
    omega
  have b3 : (offI A A.length : Int) ≤ 1099511627776 := by
    have := offI_le LS.out.2 A.length (Nat.le_refl _)
    have : A.length * 1048576 ≤ 1048576 * 1048576 := Nat.mul_le_mul_right _ LS.out.1
    omega
  clear hA hq la1 la2 HA
  go_wp2_with fail
  refine (HTA.out _ (Below.refl _ _)).mono ?_
  rintro e w2 ⟨u1, us1, rfl, t1, B1⟩
  have hz_w2 := B1.size
  go_wp2_with fail
  refine (HS.out u1 us1 _ _ t1).mono ?_
  rintro e w3 ⟨v0, us0, rfl, t0, hb⟩
  replace B1 := B1.trans (hb.mono B1.size)
  have hz_w3 := hb.size
  clear hb
  have T0 : Hid (TabI w3 w2.heap.size v0 us0 A) := t0
  have U0 : Hid (Under w3.heap.size v0 us0) := t0.under
  clear t0 t1
  go_wp2_with fail
  refine (HTA.out _ B1).mono ?_
  rintro e w5 ⟨x0, usa, rfl, t, hb⟩
  replace B1 := B1.trans (hb.mono B1.size)
  replace T0 : Hid (TabI w5 w2.heap.size v0 us0 A) := TabI.below T0.out hb
  have hz_w5 := hb.size
  clear hb
  have TA : Hid (TabI w5 w3.heap.size x0 usa a) := t
  have UA : Hid (Under w5.heap.size x0 usa) := t.under
  clear t
  go_wp2_with fail
  refine (HI.out x0 usa _ _ TA.out).mono ?_
  rintro e w6 ⟨g0, usg, rfl, t, hb⟩
  replace B1 := B1.trans (hb.mono B1.size)
  replace T0 : Hid (TabI w6 w2.heap.size v0 us0 A) := TabI.below T0.out hb
  replace TA : Hid (TabI w6 w3.heap.size x0 usa a) := TabI.below TA.out hb
  have hz_w6 := hb.size
  clear hb
  have TG : Hid (TabI w6 w5.heap.size g0 usg A) := t
  have UG : Hid (Under w6.heap.size g0 usg) := t.under
  clear t
  go_wp2_with fail
  refine (eqU_any g0 v0 usg us0 _ _ A _ LS.out.1 LS.out.2 TG.out T0.out).mono ?_
  rintro e w7 ⟨rfl, hb⟩
  replace B1 := B1.trans (hb.mono B1.size)
  replace T0 : Hid (TabI w7 w2.heap.size v0 us0 A) := TabI.below T0.out hb
  replace TA : Hid (TabI w7 w3.heap.size x0 usa a) := TabI.below TA.out hb
  replace TG : Hid (TabI w7 w5.heap.size g0 usg A) := TabI.below TG.out hb
  have hz_w7 := hb.size
  clear hb
  go_wp2_with fail
  refine (HTA.out _ B1).mono ?_
  rintro e w8 ⟨y0, usy, rfl, t, hb⟩
  replace B1 := B1.trans (hb.mono B1.size)
  replace T0 : Hid (TabI w8 w2.heap.size v0 us0 A) := TabI.below T0.out hb
  replace TA : Hid (TabI w8 w3.heap.size x0 usa a) := TabI.below TA.out hb
  replace TG : Hid (TabI w8 w5.heap.size g0 usg A) := TabI.below TG.out hb
  have hz_w8 := hb.size
  clear hb
  go_wp2_with fail
  refine (eqU_any x0 y0 usa usy _ _ a _ LA.out.1 LA.out.2 TA.out t).mono ?_
  rintro e w9 ⟨rfl, hb⟩
  replace B1 := B1.trans (hb.mono B1.size)
  replace T0 : Hid (TabI w9 w2.heap.size v0 us0 A) := TabI.below T0.out hb
  replace TA : Hid (TabI w9 w3.heap.size x0 usa a) := TabI.below TA.out hb
  replace TG : Hid (TabI w9 w5.heap.size g0 usg A) := TabI.below TG.out hb
  have hz_w9 := hb.size
  clear hb
  clear t
  go_wp2_with fail
  refine (markU_any x0 usa a w3.heap.size w5.heap.size 1 _ TA.out UA.out LA.out.1 LA.out.2 (by omega) (by omega)).mono ?_
  rintro e w12 ⟨rfl, tm, ho⟩
  replace B1 : Below w.heap.size w w12 := B1.trans ((ho.below (by omega)).mono (by omega))
  have hz_w12 := ho.2.2.2.1
  replace T0 : Hid (TabI w12 w2.heap.size v0 us0 A) := TabI.out_lo T0.out ho (U0.out.le (by omega))
  replace TG : Hid (TabI w12 w5.heap.size g0 usg A) := TabI.out_hi TG.out ho (by omega)
  clear tm ho TA UA
  obtain ⟨k1, hk1⟩ : ∃ k, k = 1 + (offI a a.length : Int) := ⟨_, rfl⟩
  have k10 : 0 ≤ k1 := by omega
  have k11 : k1 ≤ 3000000000000 := by omega
  rw [← hk1]
  clear hk1
  go_wp2_with fail
  refine (eqU_any g0 v0 usg us0 _ _ A _ LS.out.1 LS.out.2 TG.out T0.out).mono ?_
  rintro e w14 ⟨rfl, hb⟩
  replace B1 := B1.trans (hb.mono B1.size)
  replace T0 : Hid (TabI w14 w2.heap.size v0 us0 A) := TabI.below T0.out hb
  replace TG : Hid (TabI w14 w5.heap.size g0 usg A) := TabI.below TG.out hb
  have hz_w14 := hb.size
  clear hb
  go_wp2_with fail
  refine (markU_any g0 usg A w5.heap.size w6.heap.size 1 _ TG.out UG.out LS.out.1 LS.out.2 (by omega) (by omega)).mono ?_
  rintro e w15 ⟨rfl, tm, ho⟩
  replace B1 : Below w.heap.size w w15 := B1.trans ((ho.below (by omega)).mono (by omega))
  have hz_w15 := ho.2.2.2.1
  replace T0 : Hid (TabI w15 w2.heap.size v0 us0 A) := TabI.out_lo T0.out ho (U0.out.le (by omega))
  replace TG : Hid (TabI w15 w5.heap.size g0 usg (mkU 1 A A.length)) := tm
  clear tm ho UG
  have HM0 : Hid (0 ≤ 1 + (offI A A.length : Int)) := by show _ ≤ _; omega
  go_wp2_with fail
  refine (heldU_any g0 usg A _ 1 _ TG.out LS.out.1 LS.out.2 (by omega) (by omega)).mono ?_
  rintro e w16 ⟨rfl, hb⟩
  replace B1 := B1.trans (hb.mono B1.size)
  replace T0 : Hid (TabI w16 w2.heap.size v0 us0 A) := TabI.below T0.out hb
  replace TG : Hid (TabI w16 w5.heap.size g0 usg (mkU 1 A A.length)) := TabI.below TG.out hb
  have hz_w16 := hb.size
  clear hb
  obtain ⟨mm, hmm⟩ : ∃ k, k = 1 + (offI A A.length : Int) := ⟨_, rfl⟩
  have mm0 : 0 ≤ mm := by omega
  have mm1 : (mm != mm) = false := by simp
  have HMM : Hid (mm = 1 + (offI A A.length : Int)) := hmm
  rw [← hmm]
  clear hmm
  go_wp2_with fail
  refine (HTA.out _ B1).mono ?_
  rintro e w17 ⟨y2, usp, rfl, t2, hb⟩
  replace B1 := B1.trans (hb.mono B1.size)
  replace T0 : Hid (TabI w17 w2.heap.size v0 us0 A) := TabI.below T0.out hb
  replace TG : Hid (TabI w17 w5.heap.size g0 usg (mkU 1 A A.length)) := TabI.below TG.out hb
  have hz_w17 := hb.size
  clear hb
  go_wp2_with fail
  refine (HI.out y2 usp _ _ t2).mono ?_
  rintro e w19 ⟨h0, ush, rfl, t4, hb⟩
  replace B1 := B1.trans (hb.mono B1.size)
  replace T0 : Hid (TabI w19 w2.heap.size v0 us0 A) := TabI.below T0.out hb
  replace TG : Hid (TabI w19 w5.heap.size g0 usg (mkU 1 A A.length)) := TabI.below TG.out hb
  have hz_w19 := hb.size
  clear hb
  clear t2
  go_wp2_with fail
  refine (eqU_any h0 v0 ush us0 _ _ A _ LS.out.1 LS.out.2 t4 T0.out).mono ?_
  rintro e w20 ⟨rfl, hb⟩
  replace B1 := B1.trans (hb.mono B1.size)
  replace T0 : Hid (TabI w20 w2.heap.size v0 us0 A) := TabI.below T0.out hb
  replace TG : Hid (TabI w20 w5.heap.size g0 usg (mkU 1 A A.length)) := TabI.below TG.out hb
  have hz_w20 := hb.size
  clear hb
  clear t4
  go_wp2_with fail
  refine (heldU_any g0 usg A _ 1 _ TG.out LS.out.1 LS.out.2 (by omega) (by omega)).mono ?_
  rintro e w21 ⟨rfl, hb⟩
  replace B1 := B1.trans (hb.mono B1.size)
  replace T0 : Hid (TabI w21 w2.heap.size v0 us0 A) := TabI.below T0.out hb
  replace TG : Hid (TabI w21 w5.heap.size g0 usg (mkU 1 A A.length)) := TabI.below TG.out hb
  have hz_w21 := hb.size
  clear hb
  rw [← HMM.out]
  go_wp2
  go_ret
  exact ⟨rfl, B1⟩
end Go.Proofs.Ytbbkejfcheobaak

/- A table of whole numbers that came in, opened. -/
namespace Go.Proofs.Ytbbkejfcheobaak
open Go.ChangeShapes Go.WideShapes Go.ChangeAt Go.RowKit Go.Deep

theorem cellsLU : Try.prog.cellsOf 29 = 1 := by kernel_rfl
theorem plain_addU {b off : Nat} (i : Nat) : (⟨b, off, none⟩ : Addr).add i = ⟨b, off + i, none⟩ := by
  by_cases i0 : i = 0 <;> simp [Addr.add, i0]

theorem open_irow {H : Type} {enc : TypeId × Value → H} {W : World} {fuel : Nat} {v : Value} {x : DataW H × List MemPlace} (h : DataW.trod enc Try.prog W 0 (fun _ => true) true fuel 29 [v] = some x) : ∃ ps, InI W v ps := by
  rcases open_ints Try.underlying29 Try.underlying2 (by kernel_rfl) h with ⟨hcs, _⟩ | ⟨a, l, c, zs, hcs, _, hl, hm, hz, _, hcell, hwz⟩
  · injection hcs with hcs _
    subst hcs
    exact ⟨[], none, 0, 0, [], rfl, .inl ⟨rfl, rfl, rfl⟩, rfl, rfl, Nat.zero_le _⟩
  · injection hcs with hcs _
    subst hcs
    have hz1 : zs.length = c := by simpa using hz
    refine ⟨zs.take l, a, l, c, zs, rfl, ?_, rfl, by simp; omega, by omega⟩
    by_cases hz0 : 0 < zs.length
    · obtain ⟨b, off, spot⟩ := a
      have hc := hcell 0 hz0
      have hspot : spot = none := by simpa [Addr.add] using World.cell?_spot hc
      subst hspot
      exact .inr ⟨b, off, rfl, hl, hm, hz1, fun i hi => by have h := hcell i hi; rw [plain_addU] at h; exact h, hwz⟩
    · obtain rfl : zs = [] := List.eq_nil_of_length_eq_zero (by omega)
      exact .inl ⟨by simp at hz1; omega, by simp at hz1; omega, rfl⟩
theorem open_itable {H : Type} {enc : TypeId × Value → H} {W : World} {fuel : Nat} {v : Value} {x : DataW H × List MemPlace} (h : DataW.trod enc Try.prog W 0 (fun _ => true) true fuel 22 [v] = some x) : ∃ rows, InT W v rows := by
  rcases open_slice1 Try.underlying22 cellsLU h with ⟨hcs, _⟩ | ⟨a, len, cap, m, n, V, D, P, hcs, _, hl, hm, hmm, _, hx⟩
  · injection hcs with hcs _
    subst hcs
    exact ⟨[], none, 0, rfl, Nat.zero_le _, Nat.le_refl _, Nat.zero_le _, fun j hj => absurd hj (Nat.not_lt_zero _)⟩
  · injection hcs with hcs _
    subst hcs
    simp only [if_true] at hmm
    subst hmm
    have each : ∀ i, i < m → ∃ ps : List Int, InI W (V i) ps := fun i hi => open_irow (hx i hi).2
    obtain ⟨f, hf⟩ := choose_lt each
    obtain ⟨b, off, spot⟩ := a
    refine ⟨(List.range len).map f, some ⟨b, off, spot⟩, m, by simp, by simp; omega, by simp; exact hl, hm, fun j hj => ?_⟩
    simp at hj
    obtain ⟨k1, _⟩ := hx j (by omega)
    have hspot : spot = none := by
      obtain ⟨k0, _⟩ := hx 0 (by omega)
      simpa [Addr.add] using World.cell?_spot k0
    subst hspot
    rw [plain_addU] at k1
    refine ⟨b, off, V j, rfl, k1, ?_⟩
    have := hf j (by omega)
    simpa [ri, hj] using this
end Go.Proofs.Ytbbkejfcheobaak
