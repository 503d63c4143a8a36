/- The walks of the program's lists of numbers and of places. -/
import Derived.Test.YtcafdkmgjfakdaaBudP1
import Derived.Test.YtcafdkmgjfakdaaBudW3
namespace Go.Proofs.Ytcafdkmgjfakdaa
open Go.RowKit Go.Proofs.Ytcafdkmgjfakdaa.RM

theorem infoI8 : (Try.prog.info? 3).map (fun i => (i.zero, i.size, i.bytes)) = some (some (.int .i64 0), 1, 8) := by kernel_rfl
theorem infoP8 : (Try.prog.info? 53).map (fun i => (i.zero, i.size, i.bytes)) = some (some (.agg #[.int .i64 0, .int .i64 0]), 2, 16) := by kernel_rfl

theorem madeI8 (n : Nat) : (madeCells (Value.int .i64 0).cells (n * 1)).toList = List.replicate n (.int .i64 0) := by
  rw [show (Value.int .i64 0).cells = #[Value.int .i64 0] from rfl, Nat.mul_one, toList_madeCells_one]

set_option maxRecDepth 100000 in
set_option maxHeartbeats 2000000 in
theorem plc_any (v : Value) (rows : List (List Fr)) (w : World) (h : RdT w v rows) (hl : ∀ k, k < rows.length → (rw' rows k).length = rows.length) (h6 : rows.length ≤ 6) :
    Calls Try.prog 28 #[v] w fun e w' => ∃ o, e = .returned o ∧ w'.ownsRow w.heap.size 53 2 o (rows.length * rows.length) (cellsR (plcT rows.length rows.length)) ∧ Below w.heap.size w w' := by
  obtain ⟨i0, hi, hz0, hz1, hz2⟩ := info_parts infoP8
  have b0 : ∀ {u : World} (o : Obj), Below u.heap.size u (u.alloc o) := fun o => (Below.refl _ _).alloc (Nat.le_refl _) o
  obtain ⟨a, c, rfl, h2, h3, h4, h5⟩ := h
  have H5 : Hid (∀ i, i < rows.length → ∃ b off u, a = some ⟨b, off, none⟩ ∧ w.cell? ⟨b, off + i, none⟩ = some u ∧ RdR w u (rw' rows i)) := h5
  have HL := hidW8 hl
  obtain ⟨L, hL⟩ : ∃ L, L = rows.length := ⟨_, rfl⟩
  have HLE := hidW8 hL
  rw [← hL] at h6 HL H5 ⊢
  clear h5 h2 h3 h4 hl hL
  go_enter Try.func28, Try.ntmps28
  go_wp2
  obtain ⟨G, hG⟩ : ∃ G, G = w.heap.size := ⟨_, rfl⟩
  have hwG : w.heap.size ≤ G := by omega
  obtain ⟨X, hX⟩ : ∃ X, X = w.alloc (.cells #[] 53) := ⟨_, rfl⟩
  have o0 : X.ownsRow w.heap.size 53 2 (.slice (some ⟨G, 0, none⟩) 0 0) (0 * L) (cellsR (plcT L 0)) := by
    rw [hX, hG, Nat.zero_mul]
    exact World.ownsRow_lit w (base := w.heap.size) (e := 53) (size := 2) #[] 0 (Nat.le_refl _) (Nat.zero_le _) rfl
  have B0 : Below w.heap.size w X := by rw [hX]; exact b0 _
  rw [← hX, ← hG]
  clear hX hG
  go_loopw [3, 10] (fun q i wr => ∃ (o : Value) (k : Nat), k ≤ L ∧ i = .int .i64 k ∧ o = q ∧ Hid (wr.ownsRow w.heap.size 53 2 o (k * L) (cellsR (plcT L k))) ∧ Hid (Below w.heap.size w wr)) (fun _ i _ => L - (intOf i).toNat)
  case atStart => exact ⟨_, 0, Nat.zero_le _, rfl, rfl, o0, B0⟩
  case round =>
    clear o0 B0
    obtain ⟨o, k, hk, rfl, rfl, hO, hB⟩ := hrel
    by_cases hlt : k < L
    · obtain ⟨b, off, u, rfl, c1, r1, rc, rfl, m2, _, _, _⟩ := H5.out k hlt
      rw [HL.out k hlt] at c1
      replace c1 := cell_keep hB.out c1
      have hT36 : k * L + L ≤ 36 := by
        have : (k + 1) * L ≤ 6 * 6 := Nat.mul_le_mul (by omega) h6
        rw [Nat.add_mul] at this; omega
      obtain ⟨T, hT⟩ : ∃ T, T = k * L := ⟨_, rfl⟩
      have HT := hidW8 hT
      rw [← hT] at hO hT36
      have o1 : wr.ownsRow w.heap.size 53 2 o (T + 0) (cellsR (plcT L k ++ plcI k 0)) := by
        show World.ownsRow _ _ _ _ _ _ (cellsR (_ ++ [])); rw [List.append_nil]; exact hO.out
      have B1 : Below w.heap.size w wr := hB.out
      clear hT hO hB m2
      go_wp2
      go_loopw [3, 17] (fun q i wr => ∃ (o : Value) (j : Nat), j ≤ L ∧ i = .int .i64 j ∧ o = q ∧ Hid (wr.ownsRow w.heap.size 53 2 o (T + j) (cellsR (plcT L k ++ plcI k j))) ∧ Hid (Below w.heap.size w wr)) (fun _ i _ => L - (intOf i).toNat)
      case atStart => exact ⟨_, 0, Nat.zero_le _, rfl, rfl, o1, B1⟩
      case round =>
        clear o1 B1 c1
        obtain ⟨o, j, hj, rfl, rfl, hO, hB⟩ := hrel
        have hsz := hB.out.size
        by_cases hlj : j < L
        · have hm1 : T + j + 1 ≤ maxLen := by unfold maxLen; omega
          go_wp2_with (at_builtin; refine wpList_append_own _ rfl _ _ 50 rfl w.heap.size 53 i0 (.agg #[.int .i64 0, .int .i64 0]) 2 16 Try.underlying50 hi hz0 hz1 hz2 rfl (by decide) _ _ _ rfl (hO.out.alloc _) ⟨wr.heap.size, 0, none⟩ 1 1 [.int .i64 k, .int .i64 j] rfl rfl (cell_twoF _ _ _ _) (by intro u hu; simp at hu; rcases hu with rfl | rfl <;> rfl) (by omega) (by omega) (by simp; omega) ?_; intro v' w5 hown' hgrow _)
          go_roundw
          case rel =>
            refine ⟨v', j + 1, by omega, by go_num, rfl, ?_, hB.out.trans ((below_appended hO.out hsz hgrow).mono (by omega))⟩
            have e : cellsR (plcT L k ++ plcI k (j + 1)) = cellsR (plcT L k ++ plcI k j) ++ [.int .i64 k, .int .i64 j] := by
              show cellsR (plcT L k ++ (plcI k j ++ [((k : Int), (j : Int))])) = _
              rw [← List.append_assoc, cellsR_append (plcT L k ++ plcI k j)]; rfl
            show World.ownsRow _ _ _ _ _ _ _
            rw [e]
            exact hown'
          case measure => simp [intOf]; omega
        · obtain rfl : j = L := by omega
          go_wp2
          go_roundw
          case rel =>
            refine ⟨o, k + 1, by omega, by go_num, rfl, ?_, hB.out⟩
            have := hO.out
            rw [HT.out] at this
            show World.ownsRow _ _ _ _ _ _ _
            rw [Nat.add_mul, Nat.one_mul]
            exact this
          case measure => simp [intOf]; omega
    · obtain rfl : k = L := by omega
      go_wp2
      exact bodyPost_ret (results_tmp rfl _ _ _) rfl ⟨o, rfl, hO.out, hB.out⟩
end Go.Proofs.Ytcafdkmgjfakdaa
