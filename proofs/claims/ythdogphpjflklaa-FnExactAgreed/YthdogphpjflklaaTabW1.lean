/- The walks of the laws' helpers over tables that came in: their size, their copies. -/
import Derived.Test.YthdogphpjflklaaTabW0
namespace Go.Proofs.Ythdogphpjflklaa
open Go.RowKit Go.Proofs.Ythdogphpjflklaa.RM

theorem szS_any (v : Value) (ps : List Fr) (left : Int) (w : World) (h : RdR w v ps) (h0 : 0 ≤ left) (h1 : left ≤ 1048576) :
    Calls Try.prog 17 #[v, .int .i64 left] w fun e w' => e = .returned (.int .i64 (if left - ps.length < 0 then -1 else left - ps.length)) ∧ w' = w := by
  obtain ⟨a, c, rfl, h2, _⟩ := h
  unfold maxLen at h2
  by_cases hs : left - (ps.length : Int) < 0
  · rw [if_pos hs]
    go_enter Try.func17, Try.ntmps17
    go_wp2
    go_ret
    exact ⟨rfl, rfl⟩
  · rw [if_neg hs]
    go_enter Try.func17, Try.ntmps17
    go_wp2
    go_ret
    exact ⟨rfl, rfl⟩

theorem toF_any (n d : Int) (w : World) :
    Calls Try.prog 11 #[.agg #[.int .i64 n, .int .i64 d]] w fun e w' => e = .returned (.agg #[.int .i64 n, .int .i64 d]) ∧ Below w.heap.size w w' := by
  go_enter Try.func11, Try.ntmps11
  go_wp2
  refine bodyPost_ret (v := .agg #[.int .i64 n, .int .i64 d]) (by simp [results, Try.results11, go_sem]) rfl ⟨rfl, ?_⟩
  repeat (first | exact Below.refl _ _ | (refine Below.setCell ?_ (by simp <;> omega) _) | (refine Below.alloc ?_ (by simp <;> omega) _))

/-- what is copied when k of them have been -/
def cpyF (ps : List Fr) (k : Nat) : List Fr := (List.range ps.length).map (fun i => if i < k then fr ps i else (0, 0))
theorem cpyF_len (ps : List Fr) (k : Nat) : (cpyF ps k).length = ps.length := by simp [cpyF]
theorem cpyF_zero (ps : List Fr) : cpyF ps 0 = List.replicate ps.length (0, 0) := by
  apply List.ext_getElem
  · simp [cpyF]
  · intro i h1 h2
    simp [cpyF]
theorem cpyF_all (ps : List Fr) : cpyF ps ps.length = ps := by
  apply List.ext_getElem
  · rw [cpyF_len]
  · intro i h1 h2
    simp [cpyF, fr, h2]
theorem cpyF_set (ps : List Fr) (k : Nat) : (cpyF ps k).set k (fr ps k) = cpyF ps (k + 1) := by
  apply List.ext_getElem
  · simp [cpyF]
  · intro i h1 h2
    simp only [cpyF, List.getElem_set, List.getElem_map, List.getElem_range]
    by_cases e : k = i
    · subst e
      rw [if_pos rfl, if_pos (by omega)]
    · rw [if_neg e]
      by_cases h3 : i < k
      · rw [if_pos h3, if_pos (by omega)]
      · rw [if_neg h3, if_neg (by omega)]

set_option maxRecDepth 100000 in
set_option maxHeartbeats 2000000 in
theorem toS_any (v : Value) (ps : List Fr) (w : World) (h : RdR w v ps) (hl : ps.length ≤ 1048576) :
    Calls Try.prog 19 #[v] w fun e w' => ∃ u, e = .returned u ∧ w'.ownsRow w.heap.size 29 2 u ps.length (cellsR ps) ∧ Below w.heap.size w w' := by
  obtain ⟨i0, hi, hz0, hz1, hz2⟩ := info_parts infoF
  obtain ⟨a, c, rfl, h2, h3, h4, h5⟩ := h
  have H5 : Hid (∀ j, j < ps.length → ∃ b off, a = some ⟨b, off, none⟩ ∧ w.cell? ⟨b, off + j * 2, none⟩ = some (.int .i64 (fr ps j).1) ∧ w.cell? ⟨b, off + j * 2 + 1, none⟩ = some (.int .i64 (fr ps j).2)) := h5
  clear h5 h2 h3 h4
  go_enter Try.func19, Try.ntmps19
  go_wp2_with (at_make; refine wpList_make_full _ rfl _ _ 43 rfl w.heap.size 29 i0 (.agg #[.int .i64 0, .int .i64 0]) 2 Try.underlying43 hi hz0 hz1 .i64 .i64 _ _ ps.length rfl rfl rfl rfl (by rw [hz2]; omega) (by unfold maxLen; omega) (Nat.le_refl _) ?_; intro w1 hown hgrow)
  have o0 : w1.ownsRow w.heap.size 29 2 (.slice (some ⟨w.heap.size, 0, none⟩) ps.length ps.length) ps.length (cellsR (cpyF ps 0)) := by
    rw [cpyF_zero, ← madeF]; exact hown
  have hB0 : Below w.heap.size w w1 := (Below.refl _ w).grown hgrow (Nat.le_refl _) (fun k e => by cases e)
  obtain ⟨G, hG⟩ : ∃ G, G = w.heap.size := ⟨_, rfl⟩
  have hwG : w.heap.size ≤ G := by omega
  rw [← hG]
  rw [← hG] at o0
  clear hown hgrow hG
  go_loopw [4] (fun i wr => ∃ k : Nat, k ≤ ps.length ∧ i = .int .i64 k ∧ Hid (wr.ownsRow G 29 2 (.slice (some ⟨G, 0, none⟩) ps.length ps.length) ps.length (cellsR (cpyF ps k))) ∧ Hid (Below w.heap.size w wr)) (fun i _ => ps.length - (intOf i).toNat)
  case atStart => exact ⟨0, Nat.zero_le _, rfl, o0, hB0⟩
  case round =>
    clear o0 hB0
    obtain ⟨k, hk, rfl, hO, hB⟩ := hrel
    by_cases hlt : k < ps.length
    · obtain ⟨b, off, rfl, c1, c2⟩ := H5.out k hlt
      have hs := World.block_lt_of_cell? w _ c1
      replace c1 := (hB.out.cell (p := ⟨b, off + k * 2, none⟩) hs).trans c1
      replace c2 := (hB.out.cell (p := ⟨b, off + k * 2 + 1, none⟩) hs).trans c2
      obtain ⟨p, hp⟩ : ∃ p, p = fr ps k := ⟨_, rfl⟩
      have HP : Hid (p = fr ps k) := hp
      rw [← hp] at c1 c2
      obtain ⟨x, y⟩ := p
      dsimp only at c1 c2
      have hsz := hB.out.size
      clear hp hs
      go_wp2_with (go_at_call 11; refine (toF_any x y _).mono ?_; rintro e w2 ⟨rfl, hb2⟩; have hO2 := own_below hO.out hb2; have hB2 := hB.out.trans (hb2.mono hsz); obtain ⟨d1, d2⟩ := own_R hO2 (cpyF_len _ _) k hlt; have f1 := hO2.frozenAt (k * 2); have f2 := hO2.frozenAt (k * 2 + 1))
      go_roundw
      case rel =>
        obtain ⟨s1, _⟩ := hO2.stored (k * 2) (.int .i64 x)
        obtain ⟨s3, _⟩ := s1.stored (k * 2 + 1) (.int .i64 y)
        rw [cellsR_set _ _ _ _ (by rw [cpyF_len]; exact hlt), show ((x, y) : Int × Int) = fr ps k from HP.out, cpyF_set] at s3
        exact ⟨k + 1, by omega, by go_num, s3, (hB2.setCell (p := ⟨G, k * 2, none⟩) hwG _).setCell (p := ⟨G, k * 2 + 1, none⟩) hwG _⟩
      case measure => simp [intOf]; omega
    · obtain rfl : k = ps.length := by omega
      go_wp2
      refine bodyPost_ret (results_tmp rfl _ _ _) rfl ⟨_, rfl, ?_, hB.out⟩
      have := hO.out
      rw [cpyF_all] at this
      exact own_le this hwG

/-- the rows that are copied when k of them have been -/
def cpyT (rows : List (List Fr)) (k : Nat) : List (List Fr) := (List.range rows.length).map (fun i => if i < k then rw' rows i else [])
theorem cpyT_len (rows : List (List Fr)) (k : Nat) : (cpyT rows k).length = rows.length := by simp [cpyT]
theorem cpyT_zero (rows : List (List Fr)) : cpyT rows 0 = List.replicate rows.length [] := by
  apply List.ext_getElem
  · simp [cpyT]
  · intro i h1 h2
    simp [cpyT]
theorem cpyT_all (rows : List (List Fr)) : cpyT rows rows.length = rows := by
  apply List.ext_getElem
  · rw [cpyT_len]
  · intro i h1 h2
    simp [cpyT, rw', h2]
theorem cpyT_set (rows : List (List Fr)) (k : Nat) : (cpyT rows k).set k (rw' rows k) = cpyT rows (k + 1) := by
  apply List.ext_getElem
  · simp [cpyT]
  · intro i h1 h2
    simp only [cpyT, List.getElem_set, List.getElem_map, List.getElem_range]
    by_cases e : k = i
    · subst e
      rw [if_pos rfl, if_pos (by omega)]
    · rw [if_neg e]
      by_cases h3 : i < k
      · rw [if_pos h3, if_pos (by omega)]
      · rw [if_neg h3, if_neg (by omega)]
theorem vl_nils (n i : Nat) : vl (List.replicate n (.slice none 0 0)) i = .slice none 0 0 := by
  unfold vl
  by_cases h : i < n
  · rw [List.getElem?_eq_getElem (by simpa using h)]; simp
  · rw [List.getElem?_eq_none (by simpa using h)]; rfl
theorem rw_nils (n i : Nat) : rw' (List.replicate n ([] : List Fr)) i = [] := by
  unfold rw'
  by_cases h : i < n
  · rw [List.getElem?_eq_getElem (by simpa using h)]; simp
  · rw [List.getElem?_eq_none (by simpa using h)]; rfl
theorem madeT (n : Nat) : (madeCells (Value.slice none 0 0).cells (n * 1)).toList = List.replicate n (.slice none 0 0) := by
  rw [show (Value.slice none 0 0).cells = #[Value.slice none 0 0] from rfl, Nat.mul_one, toList_madeCells_one]
/-- a table that was just made -/
theorem Tab.made {W : World} {base n : Nat} {v : Value} (h : W.ownsRow base 43 1 v n (List.replicate n (.slice none 0 0))) : Tab W base v (List.replicate n (.slice none 0 0)) (List.replicate n []) := by
  refine ⟨by rw [List.length_replicate]; exact h, by simp, fun i hi => ?_, fun i j _ _ _ b hb => ?_⟩
  · rw [vl_nils, rw_nils]
    exact World.ownsRow_nil _ _ _ _
  · rw [vl_nils] at hb; simp [Value.ownBlock] at hb
theorem Tab.lt {W : World} {base : Nat} {v : Value} {us : List Value} {rows : List (List Fr)} (h : Tab W base v us rows) (i : Nat) (hi : i < us.length) : ∀ b, (vl us i).ownBlock = some b → b < W.heap.size := fun b hb => ((h.inner i hi).lt b hb).2

end Go.Proofs.Ythdogphpjflklaa
