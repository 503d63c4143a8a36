/- The walk of the laws' copy of a list of numbers that came in. -/
import Derived.Test.YtijdggcfjkfgcalRowsW
import Derived.Test.YtijdggcfjkfgcalDrawW1
namespace Go.Proofs.Ytijdggcfjkfgcal
open Go.RowKit Go.Proofs.Ytijdggcfjkfgcal.RM

/-- what is copied when k of n have been -/
def cpy (zs : List Int) (n k : Nat) : List Int := (List.range n).map (fun i => if i < k then zs[i]?.getD 0 else 0)
theorem cpy_len (zs : List Int) (n k : Nat) : (cpy zs n k).length = n := by simp [cpy]
theorem cpy_zero (zs : List Int) (n : Nat) : cpy zs n 0 = List.replicate n 0 := by
  apply List.ext_getElem
  · simp [cpy]
  · intro i h1 h2
    simp [cpy]
theorem cpy_all (zs : List Int) (n : Nat) (h : (zs.take n).length = n) : cpy zs n n = zs.take n := by
  apply List.ext_getElem
  · rw [h, cpy_len]
  · intro i h1 h2
    rw [cpy_len] at h1
    rw [List.length_take] at h
    simp [cpy, h1, List.getElem?_eq_getElem (show i < zs.length by omega)]
theorem cpy_set (zs : List Int) (n k : Nat) : (cpy zs n k).set k (zs[k]?.getD 0) = cpy zs n (k + 1) := by
  apply List.ext_getElem
  · simp [cpy]
  · intro i h1 h2
    simp only [cpy, List.getElem_set, List.getElem_map, List.getElem_range]
    by_cases e : k = i
    · subst e
      rw [if_pos rfl, if_pos (by omega)]
    · rw [if_neg e]
      by_cases h3 : i < k
      · rw [if_pos h3, if_pos (by omega)]
      · rw [if_neg h3, if_neg (by omega)]

set_option maxRecDepth 100000 in
set_option maxHeartbeats 1000000 in
theorem toI_any (a : Option Addr) (len cap : Nat) (zs : List Int) (w : World) (hr : IsRow .i64 w a len cap zs) (hl : len ≤ 1048576) :
    Calls Try.prog 36 #[.slice a len cap] w fun e w' => ∃ v, e = .returned v ∧ w'.ownsRow w.heap.size 2 1 v len ((zs.take len).map (Value.int .i64)) ∧ Below w.heap.size w w' := by
  obtain ⟨i0, hi, hz0, hz1, hz2⟩ := info_parts infoI
  have hlen : (zs.take len).length = len := by
    rcases hr with ⟨rfl, _, _⟩ | ⟨b, off, _, h1, _, h3, _⟩
    · simp
    · rw [List.length_take]; omega
  have HC : Hid (∀ j, j < len → ∃ b off, a = some ⟨b, off, none⟩ ∧ b < w.heap.size ∧ len ≤ cap ∧ cap ≤ maxLen ∧ w.cell? ⟨b, off + j, none⟩ = some (.int .i64 (zs[j]?.getD 0))) := by
    intro j hj
    rcases hr with ⟨rfl, _, _⟩ | ⟨b, off, ha, h1, h2, h3, h4, _⟩
    · omega
    · have := h4 j (by omega)
      rw [List.getD_eq_getElem?_getD] at this
      exact ⟨b, off, ha, World.block_lt_of_cell? w _ this, h1, h2, this⟩
  clear hr
  go_enter Try.func36, Try.ntmps36
  go_wp2_with (at_make; refine wpList_make_full _ rfl _ _ 22 rfl w.heap.size 2 i0 (.int .i64 0) 1 Try.underlying22 hi hz0 hz1 .i64 .i64 _ _ len rfl rfl rfl rfl (by rw [hz2]; omega) (by unfold maxLen; omega) (Nat.le_refl _) ?_; intro w1 hown hgrow)
  have o0 : w1.ownsRow w.heap.size 2 1 (.slice (some ⟨w.heap.size, 0, none⟩) len len) len ((cpy zs len 0).map (Value.int .i64)) := by
    have e : (madeCells (Value.int .i64 0).cells (len * 1)).toList = (cpy zs len 0).map (Value.int .i64) := by
      rw [show (Value.int .i64 0).cells = #[Value.int .i64 0] from rfl, Nat.mul_one, toList_madeCells_one]
      rw [cpy_zero]; simp
    rw [← e]; exact hown
  have hB0 : Below w.heap.size w w1 := (Below.refl _ w).grown hgrow (Nat.le_refl _) (fun k e => by cases e)
  obtain ⟨G, hG⟩ : ∃ G, G = w.heap.size := ⟨_, rfl⟩
  have hwG : w.heap.size ≤ G := by omega
  rw [← hG]
  rw [← hG] at o0
  clear hown hgrow hG
  go_loopw [4] (fun i wr => ∃ k : Nat, k ≤ len ∧ i = .int .i64 k ∧ Hid (wr.ownsRow G 2 1 (.slice (some ⟨G, 0, none⟩) len len) len ((cpy zs len k).map (Value.int .i64))) ∧ Hid (Below w.heap.size w wr)) (fun i _ => len - (intOf i).toNat)
  case atStart => exact ⟨0, Nat.zero_le _, rfl, o0, hB0⟩
  case round =>
    clear o0 hB0
    obtain ⟨k, hk, rfl, hO, hB⟩ := hrel
    by_cases hlt : k < len
    · obtain ⟨b, off, rfl, hb, h1, h2, hc⟩ := HC.out k hlt
      have hx := (hB.out.cell (p := ⟨b, off + k, none⟩) hb).trans hc
      have c1 := own_int hO.out (cpy_len zs len k) k hlt
      have f1 := hO.out.frozenAt k
      obtain ⟨x, hxx⟩ : ∃ x, x = zs[k]?.getD 0 := ⟨_, rfl⟩
      have HX : Hid (x = zs[k]?.getD 0) := hxx
      rw [← hxx] at hx
      unfold maxLen at h2
      clear hxx hc
      go_wp2
      (try (go_region; go_wp2))
      go_roundw
      case rel =>
        obtain ⟨s1, _⟩ := hO.out.stored k (.int .i64 x)
        refine ⟨k + 1, by omega, by go_num, ?_, hB.out.setCell (p := ⟨G, k, none⟩) hwG _⟩
        show World.ownsRow _ _ _ _ _ _ _
        rw [← cpy_set zs len k, ← HX.out, List.map_set]
        exact s1
      case measure => simp [intOf]; omega
    · obtain rfl : k = len := by omega
      go_wp2
      go_ret
      refine ⟨_, rfl, ?_, hB.out⟩
      have := hO.out
      rw [cpy_all zs k hlen] at this
      exact own_le this hwG
end Go.Proofs.Ytijdggcfjkfgcal
