/- The walk of two tables of whole numbers held against each other, and of a table's marks. -/
import Derived.Test.YtbbkejfcheobaakTabI1
namespace Go.Proofs.Ytbbkejfcheobaak
open Go.RowKit Go.Proofs.Ytbbkejfcheobaak.RM

set_option maxRecDepth 100000 in
set_option maxHeartbeats 1000000 in
theorem eqU_any (v u : Value) (us vs : List Value) (b1 b2 : Nat) (rows : List (List Int)) (w : World) (hl : rows.length ≤ 1048576) (hrl : ∀ i, i < rows.length → (ri rows i).length ≤ 1048576) (h : TabI w b1 v us rows) (h' : TabI w b2 u vs rows) :
    Calls Try.prog 11 #[v, u] w fun e w' => e = .returned (.bool true) ∧ Below w.heap.size w w' := by
  obtain ⟨n, hn⟩ : ∃ n, n = rows.length := ⟨_, rfl⟩
  have ho := h.outer
  have ho' := h'.outer
  have e1 : us.length = n := h.len.trans hn.symm
  have e2 : vs.length = n := h'.len.trans hn.symm
  rw [e1] at ho
  rw [e2] at ho'
  obtain ⟨a, c, rfl⟩ := own_shape ho
  obtain ⟨a', c', rfl⟩ := own_shape ho'
  have H5 : Hid (∀ i, i < n → ∃ g, a = some ⟨g, 0, none⟩ ∧ w.cell? ⟨g, i, none⟩ = some (vl us i)) := by
    intro i hi
    obtain ⟨g, cc, e⟩ := own_some ho (by omega)
    cases e
    have d1 := ho.cellAt i (by omega)
    rw [List.getElem?_eq_getElem (by omega)] at d1
    exact ⟨g, rfl, by rw [d1]; simp [vl, List.getElem?_eq_getElem (show i < us.length by omega)]⟩
  have H6 : Hid (∀ i, i < n → ∃ g, a' = some ⟨g, 0, none⟩ ∧ w.cell? ⟨g, i, none⟩ = some (vl vs i)) := by
    intro i hi
    obtain ⟨g, cc, e⟩ := own_some ho' (by omega)
    cases e
    have d1 := ho'.cellAt i (by omega)
    rw [List.getElem?_eq_getElem (by omega)] at d1
    exact ⟨g, rfl, by rw [d1]; simp [vl, List.getElem?_eq_getElem (show i < vs.length by omega)]⟩
  have HC : Hid (∀ k, k < n → ∀ W : World, Below w.heap.size w W → Calls Try.prog 17 #[vl us k, vl vs k] W fun e w' => e = .returned (.bool true) ∧ Below W.heap.size W w') := by
    intro k hk W hW
    refine (eqG_same (vl us k) (vl vs k) (ri rows k) (ri rows k).length _ _ _ _ W rfl (by have := hrl k (by omega); omega) (own_below (h.inner k (by omega)) hW) (own_below (h'.inner k (by omega)) hW)).mono ?_
    rintro e w' ⟨rfl, m, rfl⟩
    exact ⟨rfl, below_drewN (Below.refl _ _) _⟩
  rw [← hn] at hl
  clear h h' ho ho' hn e1 e2 hrl
  go_enter Try.func11, Try.ntmps11
  go_wp2
  go_loopw [5] (fun i wr => ∃ k : Nat, k ≤ n ∧ i = .int .i64 k ∧ Hid (Below w.heap.size w wr)) (fun i _ => n - (intOf i).toNat)
  case atStart => exact ⟨0, Nat.zero_le _, rfl, Below.refl _ _⟩
  case round =>
    obtain ⟨k, hk, rfl, hB⟩ := hrel
    by_cases hlt : k < n
    · obtain ⟨g, rfl, c1⟩ := H5.out k hlt
      obtain ⟨g', rfl, c3⟩ := H6.out k hlt
      replace c1 := cell_keep hB.out c1
      replace c3 := cell_keep hB.out c3
      have HCk := hidL0 (HC.out k hlt)
      obtain ⟨x, hx⟩ : ∃ x, x = vl us k := ⟨_, rfl⟩
      obtain ⟨y, hy⟩ : ∃ x, x = vl vs k := ⟨_, rfl⟩
      rw [← hx] at c1 HCk
      rw [← hy] at c3 HCk
      clear hx hy
      go_wp2
      go_region_with (go_at_call 17; refine (HCk.out _ (by first | exact hB.out | exact hB.out.drew | exact below_drewN hB.out _)).mono ?_; rintro e w1 ⟨rfl, hb⟩; have B1 : Below w.heap.size w w1 := Below.trans (by first | exact hB.out | exact hB.out.drew | exact below_drewN hB.out _) (hb.mono (by simpa using hB.out.size)))
      all_goals go_wp2
      all_goals
        go_roundw
        case rel => exact ⟨k + 1, by omega, by go_num, B1⟩
        case measure => simp [intOf]; omega
    · go_wp2
      go_ret
      exact ⟨rfl, hB.out⟩

/-- how many numbers stand ahead of row i -/
def offI (rows : List (List Int)) : Nat → Nat
  | 0 => 0
  | i + 1 => offI rows i + (ri rows i).length
theorem offI_le {rows : List (List Int)} (hl : ∀ i, i < rows.length → (ri rows i).length ≤ 1048576) : ∀ i, i ≤ rows.length → offI rows i ≤ i * 1048576
  | 0, _ => by simp [offI]
  | i + 1, h => by
    have := offI_le hl i (by omega)
    have := hl i (by omega)
    simp only [offI]; omega
/-- the table of which j rows are marked -/
def mkU (k0 : Int) (rows : List (List Int)) (j : Nat) : List (List Int) := (List.range rows.length).map (fun i => if i < j then mrk (k0 + (offI rows i : Int)) (ri rows i) (ri rows i).length else ri rows i)
theorem mkU_len (k0 : Int) (rows : List (List Int)) (j : Nat) : (mkU k0 rows j).length = rows.length := by simp [mkU]
theorem mkU_zero (k0 : Int) (rows : List (List Int)) : mkU k0 rows 0 = rows := by
  apply List.ext_getElem
  · rw [mkU_len]
  · intro i h1 h2
    simp [mkU, ri, List.getElem?_eq_getElem h2]
theorem mkU_set (k0 : Int) (rows : List (List Int)) (j : Nat) : (mkU k0 rows j).set j (mrk (k0 + (offI rows j : Int)) (ri rows j) (ri rows j).length) = mkU k0 rows (j + 1) := by
  apply List.ext_getElem
  · simp [mkU]
  · intro i h1 h2
    simp only [mkU, List.getElem_set, List.getElem_map, List.getElem_range]
    by_cases e : j = i
    · subst e
      rw [if_pos rfl, if_pos (by omega)]
    · rw [if_neg e]
      by_cases h3 : i < j
      · rw [if_pos h3, if_pos (by omega)]
      · rw [if_neg h3, if_neg (by omega)]
theorem mkU_at (k0 : Int) (rows : List (List Int)) (j i : Nat) (h : i < rows.length) : ri (mkU k0 rows j) i = if i < j then mrk (k0 + (offI rows i : Int)) (ri rows i) (ri rows i).length else ri rows i := by
  simp [mkU, ri, h]

set_option maxRecDepth 100000 in
set_option maxHeartbeats 2000000 in
theorem markU_any (v : Value) (us : List Value) (rows : List (List Int)) (base S : Nat) (k0 : Int) (w : World) (h : TabI w base v us rows) (hu : Under S v us) (hl : rows.length ≤ 1048576) (hrl : ∀ i, i < rows.length → (ri rows i).length ≤ 1048576) (hk0 : 0 ≤ k0) (hk1 : k0 ≤ 100000000000000) :
    Calls Try.prog 12 #[v, .int .i64 k0] w fun e w' => e = .returned (.int .i64 (k0 + (offI rows rows.length : Int))) ∧ TabI w' base v us (mkU k0 rows rows.length) ∧ Out base S w w' := by
  obtain ⟨n, hn⟩ : ∃ n, n = rows.length := ⟨_, rfl⟩
  have HL : Hid (us.length = n) := h.len.trans hn.symm
  have HO : Hid (∀ i, i ≤ n → (offI rows i : Int) ≤ 1099511627776) := by
    intro i hi
    have := offI_le hrl i (by omega)
    have : i * 1048576 ≤ 1048576 * 1048576 := Nat.mul_le_mul_right _ (by omega)
    omega
  have HR : Hid (∀ i, i < n → (ri rows i).length ≤ 1048576) := fun i hi => hrl i (by omega)
  have HT : Hid (TabI w base v us rows) := h
  have HU : Hid (Under S v us) := hu
  have shape : ∃ a c, v = .slice a n c := by
    obtain ⟨a, c, e⟩ := own_shape h.outer
    exact ⟨a, c, by rw [e, h.len, hn]⟩
  obtain ⟨a, c, rfl⟩ := shape
  have HA : Hid (∀ i, i < n → ∃ g, a = some ⟨g, 0, none⟩) := by
    intro i hi
    obtain ⟨g, c', e⟩ := own_some h.outer (by have := h.len; omega)
    cases e
    exact ⟨g, rfl⟩
  rw [← hn] at hl ⊢
  have HN : Hid (rows.length = n) := hn.symm
  clear h hu hrl hn
  go_enter Try.func12, Try.ntmps12
  go_wp2
  go_loopw [1, 5] (fun q i wr => ∃ k : Nat, k ≤ n ∧ i = .int .i64 k ∧ q = .int .i64 (k0 + (offI rows k : Int)) ∧ Hid (TabI wr base (.slice a n c) us (mkU k0 rows k)) ∧ Hid (Out base S w wr)) (fun _ i _ => n - (intOf i).toNat)
  case atStart => exact ⟨0, Nat.zero_le _, rfl, by simp [offI], by rw [mkU_zero]; exact HT.out, Out.refl _ _ _⟩
  case round =>
    obtain ⟨k, hk, rfl, rfl, hT, hO⟩ := hrel
    have hoff := HO.out k hk
    by_cases hlt : k < n
    · obtain ⟨g, rfl⟩ := HA.out k hlt
      have ho := hT.out.outer
      have hul := HL.out
      rw [hul] at ho
      have d1 := ho.cellAt k (by omega)
      rw [List.getElem?_eq_getElem (by omega), show us[k] = vl us k by simp [vl, List.getElem?_eq_getElem (show k < us.length by omega)]] at d1
      have hin := hT.out.inner k (by omega)
      rw [mkU_at _ _ _ _ (by rw [HN.out]; exact hlt), if_neg (by omega)] at hin
      have HIN : Hid (wr.ownsRow base 2 1 (vl us k) (ri rows k).length (cI (ri rows k))) := hin
      obtain ⟨x, hx⟩ : ∃ x, x = vl us k := ⟨_, rfl⟩
      have HX : Hid (x = vl us k) := hx
      rw [← hx] at d1 HIN
      have hrk := HR.out k hlt
      have hnext := HO.out (k + 1) (by omega)
      clear ho hul hin hx
      go_wp2_with (go_at_call 18; refine (markG_any x (ri rows k) (ri rows k).length base _ _ _ rfl (by omega) (by omega) (by omega) HIN.out).mono ?_; rintro e w2 ⟨rfl, o2, g2⟩)
      go_roundw
      case rel =>
        refine ⟨k + 1, by omega, by go_num, ?_, ?_, hO.out.trans (Out.of_grown g2 (fun b hb => ?_))⟩
        · simp only [offI]; congr 1; omega
        · have := hT.out.turn (k := k) (ps := mrk (k0 + (offI rows k : Int)) (ri rows k) (ri rows k).length) (by have := HL.out; omega) (by rw [mrk_len _ _ _ (Nat.le_refl _), ← HX.out]; exact o2) (by rw [← HX.out]; exact g2)
          rw [mkU_set] at this
          exact this
        · rw [HX.out] at hb
          exact ⟨((hT.out.inner k (by have := HL.out; omega)).lt b hb).1, HU.out.2 k (by have := HL.out; omega) b hb⟩
      case measure => simp [intOf]; omega
    · obtain rfl : k = n := by omega
      go_wp2
      go_ret
      exact ⟨rfl, hT.out, hO.out⟩
end Go.Proofs.Ytbbkejfcheobaak
