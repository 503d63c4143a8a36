/- The walks of the program's lists of numbers and of places. -/
import Derived.Test.YtkcdpjcfbpjkeanBudP1
import Derived.Test.YtkcdpjcfbpjkeanBudW3
namespace Go.Proofs.Ytkcdpjcfbpjkean
open Go.RowKit Go.Proofs.Ytkcdpjcfbpjkean.RM

theorem infoI8 : (Try.prog.info? 3).map (fun i => (i.zero, i.size, i.bytes)) = some (some (.int .i64 0), 1, 8) := by kernel_rfl
theorem infoP8 : (Try.prog.info? 86).map (fun i => (i.zero, i.size, i.bytes)) = some (some (.agg #[.int .i64 0, .int .i64 0]), 2, 16) := by kernel_rfl

theorem madeI8 (n : Nat) : (madeCells (Value.int .i64 0).cells (n * 1)).toList = List.replicate n (.int .i64 0) := by
  rw [show (Value.int .i64 0).cells = #[Value.int .i64 0] from rfl, Nat.mul_one, toList_madeCells_one]

set_option maxRecDepth 100000 in
set_option maxHeartbeats 2000000 in
theorem idx_any (v : Value) (ps : List Fr) (w : World) (h : RdR w v ps) (h6 : ps.length ≤ 6) :
    Calls Try.prog 47 #[v] w fun e w' => ∃ g xs, e = .returned (.slice (some ⟨g, 0, none⟩) ps.length ps.length) ∧ w'.ownsRow w.heap.size 3 1 (.slice (some ⟨g, 0, none⟩) ps.length ps.length) ps.length xs ∧ (∀ j, j < ps.length → xs[j]? = some (.int .i64 j)) ∧ Below w.heap.size w w' := by
  obtain ⟨i0, hi, hz0, hz1, hz2⟩ := info_parts infoI8
  obtain ⟨a, c, rfl, h2, h3, h4, h5⟩ := h
  clear h5 h2 h3 h4
  obtain ⟨L, hL⟩ : ∃ L, L = ps.length := ⟨_, rfl⟩
  rw [← hL] at h6 ⊢
  clear hL
  go_enter Try.func47, Try.ntmps47
  go_wp2_with (at_make; refine wpList_make_full _ rfl _ _ 70 rfl w.heap.size 3 i0 (.int .i64 0) 1 Try.underlying70 hi hz0 hz1 .i64 .i64 _ _ L rfl rfl rfl rfl (by rw [hz2]; omega) (by unfold maxLen; omega) (Nat.le_refl _) ?_; intro w1 hown hgrow)
  have hB0 : Below w.heap.size w w1 := (Below.refl _ w).grown hgrow (Nat.le_refl _) (fun k e => by cases e)
  obtain ⟨G, hG⟩ : ∃ G, G = w.heap.size := ⟨_, rfl⟩
  have hwG : w.heap.size ≤ G := by omega
  rw [← hG]
  rw [← hG] at hown
  obtain ⟨xs0, hx0⟩ : ∃ xs, xs = (madeCells (Value.int .i64 0).cells (L * 1)).toList := ⟨_, rfl⟩
  rw [← hx0] at hown
  have hxl0 : xs0.length = L := by rw [hx0, madeI8, List.length_replicate]
  clear hgrow hG hx0
  go_loopw [10] (fun i wr => ∃ (k : Nat) (xs : List Value), k ≤ L ∧ i = .int .i64 k ∧ xs.length = L ∧ Hid (wr.ownsRow G 3 1 (.slice (some ⟨G, 0, none⟩) L L) L xs) ∧ Hid (∀ j, j < k → xs[j]? = some (.int .i64 j)) ∧ Hid (Below w.heap.size w wr)) (fun i _ => L - (intOf i).toNat)
  case atStart => exact ⟨0, xs0, Nat.zero_le _, rfl, hxl0, hown, fun j hj => absurd hj (Nat.not_lt_zero _), hB0⟩
  case round =>
    clear hown hB0
    obtain ⟨k, xs, hk, rfl, hxl, hO, hX, hB⟩ := hrel
    by_cases hlt : k < L
    · have d1 := hO.out.cellAt k (by omega)
      have f1 := hO.out.frozenAt k
      rw [List.getElem?_eq_getElem (by omega)] at d1
      generalize xs[k]'(by omega) = y at d1
      go_wp2
      go_roundw
      case rel =>
        obtain ⟨s1, _⟩ := hO.out.stored k (.int .i64 k)
        refine ⟨k + 1, xs.set k (.int .i64 k), by omega, by go_num, by rw [List.length_set]; exact hxl, s1, ?_, hB.out.setCell (p := ⟨G, k, none⟩) hwG _⟩
        intro j hj
        by_cases e : j = k
        · subst e; rw [List.getElem?_set_self (by omega)]
        · rw [List.getElem?_set_ne (fun h => e h.symm)]; exact hX.out j (by omega)
      case measure => simp [intOf]; omega
    · obtain rfl : k = L := by omega
      go_wp2
      exact bodyPost_ret (results_tmp rfl _ _ _) rfl ⟨G, xs, rfl, own_le hO.out hwG, hX.out, hB.out⟩

set_option maxRecDepth 100000 in
set_option maxHeartbeats 2000000 in
theorem plc_any (v : Value) (rows : List (List Fr)) (w : World) (h : RdT w v rows) (hl : ∀ k, k < rows.length → (rw' rows k).length = rows.length) (h6 : rows.length ≤ 6) :
    Calls Try.prog 55 #[v] w fun e w' => ∃ o, e = .returned o ∧ w'.ownsRow w.heap.size 86 2 o (rows.length * rows.length) (cellsR (plcT rows.length rows.length)) ∧ Below w.heap.size w w' := by
  obtain ⟨i0, hi, hz0, hz1, hz2⟩ := info_parts infoP8
  have b0 : ∀ {u : World} (o : Obj), Below u.heap.size u (u.alloc o) := fun o => (Below.refl _ _).alloc (Nat.le_refl _) o
  obtain ⟨a, c, rfl, h2, h3, h4, h5⟩ := h
  have H5 : Hid (∀ i, i < rows.length → ∃ b off u, a = some ⟨b, off, none⟩ ∧ w.cell? ⟨b, off + i, none⟩ = some u ∧ RdR w u (rw' rows i)) := h5
  have HL := hidW8 hl
  obtain ⟨L, hL⟩ : ∃ L, L = rows.length := ⟨_, rfl⟩
  have HLE := hidW8 hL
  rw [← hL] at h6 HL H5 ⊢
  clear h5 h2 h3 h4 hl hL
  go_enter Try.func55, Try.ntmps55
  go_wp2
  obtain ⟨G, hG⟩ : ∃ G, G = w.heap.size := ⟨_, rfl⟩
  have hwG : w.heap.size ≤ G := by omega
  obtain ⟨X, hX⟩ : ∃ X, X = w.alloc (.cells #[] 86) := ⟨_, rfl⟩
  have o0 : X.ownsRow w.heap.size 86 2 (.slice (some ⟨G, 0, none⟩) 0 0) (0 * L) (cellsR (plcT L 0)) := by
    rw [hX, hG, Nat.zero_mul]
    exact World.ownsRow_lit w (base := w.heap.size) (e := 86) (size := 2) #[] 0 (Nat.le_refl _) (Nat.zero_le _) rfl
  have B0 : Below w.heap.size w X := by rw [hX]; exact b0 _
  rw [← hX, ← hG]
  clear hX hG
  go_loopw [3, 10] (fun q i wr => ∃ (o : Value) (k : Nat), k ≤ L ∧ i = .int .i64 k ∧ o = q ∧ Hid (wr.ownsRow w.heap.size 86 2 o (k * L) (cellsR (plcT L k))) ∧ Hid (Below w.heap.size w wr)) (fun _ i _ => L - (intOf i).toNat)
  case atStart => exact ⟨_, 0, Nat.zero_le _, rfl, rfl, o0, B0⟩
  case round =>
    clear o0 B0
    obtain ⟨o, k, hk, rfl, rfl, hO, hB⟩ := hrel
    by_cases hlt : k < L
    · obtain ⟨b, off, u, rfl, c1, r1, rc, rfl, m2, _, _, _⟩ := H5.out k hlt
      rw [HL.out k hlt] at c1
      replace c1 := cell_keep hB.out c1
      have hT36 : k * L + L ≤ 36 := by
        have : (k + 1) * L ≤ 6 * 6 := Nat.mul_le_mul (by omega) h6
        rw [Nat.add_mul] at this; omega
      obtain ⟨T, hT⟩ : ∃ T, T = k * L := ⟨_, rfl⟩
      have HT := hidW8 hT
      rw [← hT] at hO hT36
      have o1 : wr.ownsRow w.heap.size 86 2 o (T + 0) (cellsR (plcT L k ++ plcI k 0)) := by
        show World.ownsRow _ _ _ _ _ _ (cellsR (_ ++ [])); rw [List.append_nil]; exact hO.out
      have B1 : Below w.heap.size w wr := hB.out
      clear hT hO hB m2
      go_wp2
      go_loopw [3, 17] (fun q i wr => ∃ (o : Value) (j : Nat), j ≤ L ∧ i = .int .i64 j ∧ o = q ∧ Hid (wr.ownsRow w.heap.size 86 2 o (T + j) (cellsR (plcT L k ++ plcI k j))) ∧ Hid (Below w.heap.size w wr)) (fun _ i _ => L - (intOf i).toNat)
      case atStart => exact ⟨_, 0, Nat.zero_le _, rfl, rfl, o1, B1⟩
      case round =>
        clear o1 B1 c1
        obtain ⟨o, j, hj, rfl, rfl, hO, hB⟩ := hrel
        have hsz := hB.out.size
        by_cases hlj : j < L
        · have hm1 : T + j + 1 ≤ maxLen := by unfold maxLen; omega
          go_wp2_with (at_builtin; refine wpList_append_own _ rfl _ _ 83 rfl w.heap.size 86 i0 (.agg #[.int .i64 0, .int .i64 0]) 2 16 Try.underlying83 hi hz0 hz1 hz2 rfl (by decide) _ _ _ rfl (hO.out.alloc _) ⟨wr.heap.size, 0, none⟩ 1 1 [.int .i64 k, .int .i64 j] rfl rfl (cell_twoF _ _ _ _) (by intro u hu; simp at hu; rcases hu with rfl | rfl <;> rfl) (by omega) (by omega) (by simp; omega) ?_; intro v' w5 hown' hgrow _)
          go_roundw
          case rel =>
            refine ⟨v', j + 1, by omega, by go_num, rfl, ?_, hB.out.trans ((below_appended hO.out hsz hgrow).mono (by omega))⟩
            have e : cellsR (plcT L k ++ plcI k (j + 1)) = cellsR (plcT L k ++ plcI k j) ++ [.int .i64 k, .int .i64 j] := by
              show cellsR (plcT L k ++ (plcI k j ++ [((k : Int), (j : Int))])) = _
              rw [← List.append_assoc, cellsR_append (plcT L k ++ plcI k j)]; rfl
            show World.ownsRow _ _ _ _ _ _ _
            rw [e]
            exact hown'
          case measure => simp [intOf]; omega
        · obtain rfl : j = L := by omega
          go_wp2
          go_roundw
          case rel =>
            refine ⟨o, k + 1, by omega, by go_num, rfl, ?_, hB.out⟩
            have := hO.out
            rw [HT.out] at this
            show World.ownsRow _ _ _ _ _ _ _
            rw [Nat.add_mul, Nat.one_mul]
            exact this
          case measure => simp [intOf]; omega
    · obtain rfl : k = L := by omega
      go_wp2
      exact bodyPost_ret (results_tmp rfl _ _ _) rfl ⟨o, rfl, hO.out, hB.out⟩
end Go.Proofs.Ytkcdpjcfbpjkean
