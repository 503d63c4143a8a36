/- Right fractions sorted by the library, in a row of the call's own. -/
import Derived.Test.YthmdiljcceiedaaShelf
import Derived.Test.YthmdiljcceiedaaSrtMath
import Derived.Test.YthmdiljcceiedaaRatioW4
import Derived.Sort.OwnSorted
namespace Go.Proofs.Ythmdiljcceiedaa
open Go.RowKit Go.Sort Go.Shelf Go.Lib Go.Proofs.Ythmdiljcceiedaa.RM

abbrev OkF := { p : Fr // okB p.1 p.2 = true }
instance : Inhabited OkF := ⟨⟨(0, 1), by decide⟩⟩
def encR (x : OkF) : List Value := [.int .i64 x.1.1, .int .i64 x.1.2]
def cfR (x y : OkF) : Int := if x.1.1 * y.1.2 < y.1.1 * x.1.2 then -1 else if y.1.1 * x.1.2 < x.1.1 * y.1.2 then 1 else 0
theorem ltR (x y : OkF) : ltOf cfR x y = decide (v7 x.1 < v7 y.1) := by
  have e : (ltOf cfR x y = true) ↔ (le7 x.1 y.1 = true) := by
    have ht : two x.1.1 x.1.2 y.1.1 y.1.2 = true := by show (okB _ _ && okB _ _) = true; rw [x.2, y.2]; rfl
    unfold ltOf cfR le7 lessB
    rw [ht]
    by_cases h1 : x.1.1 * y.1.2 < y.1.1 * x.1.2
    · simp [h1]
    · by_cases h2 : y.1.1 * x.1.2 < x.1.1 * y.1.2 <;> simp [h1, h2]
  have e2 := e.trans (le7_iff x.2 y.2)
  by_cases h : v7 x.1 < v7 y.1
  · rw [decide_eq_true h]; exact e2.2 h
  · rw [decide_eq_false h, ← Bool.not_eq_true]; exact fun k => h (e2.1 k)
theorem swoR : SWO (ltOf cfR) where
  irrefl x := by rw [ltR]; exact decide_eq_false (Rat.lt_irrefl)
  trans x y z h1 h2 := by rw [ltR] at *; rw [decide_eq_true_eq] at *; exact Rat.not_le.1 fun h => Rat.not_le.2 h2 (Rat.le_trans h (Rat.le_of_lt h1))
  ntrans x y z h1 h2 := by rw [ltR] at *; rw [decide_eq_false_iff_not, Rat.not_lt] at *; exact Rat.le_trans h2 h1
def raw (qs : List OkF) : List Fr := qs.map Subtype.val
theorem flat_cellsR (qs : List OkF) : (flatK encR 2 qs.toArray).toList = cellsR (raw qs) := by
  apply List.ext_getElem?
  intro t
  have hl : (raw qs).length = qs.length := by simp [raw]
  by_cases ht : t < qs.length * 2
  · have hs : t < (flatK encR 2 qs.toArray).size := by rw [size_flatK]; simpa using ht
    have h1 := get_flatK encR 2 qs.toArray t (by simpa using ht)
    rw [getElem!_pos _ t hs] at h1
    rw [Array.getElem?_toList, Array.getElem?_eq_getElem hs, h1]
    have hd : t / 2 < qs.length := by omega
    have h2 := cellsR_at (raw qs) (t / 2) (by omega)
    have e0 : (qs.toArray[t / 2]!).1 = (raw qs)[t / 2]?.getD (0, 0) := by
      rw [getElem!_pos _ _ (by simpa using hd)]
      simp [raw, List.getElem?_eq_getElem hd]
    have e1 : ∀ x : OkF, x.1 = (raw qs)[t / 2]?.getD (0, 0) → encR x = [.int .i64 ((raw qs)[t / 2]?.getD (0, 0)).1, .int .i64 ((raw qs)[t / 2]?.getD (0, 0)).2] := fun x hx => by unfold encR; rw [hx]
    rw [e1 _ e0]
    rcases Nat.mod_two_eq_zero_or_one t with e | e
    · have : t = t / 2 * 2 := by omega
      rw [e, show (cellsR (raw qs))[t]? = (cellsR (raw qs))[t / 2 * 2]? by rw [← this], h2.1]
      rfl
    · have : t = t / 2 * 2 + 1 := by omega
      rw [e, show (cellsR (raw qs))[t]? = (cellsR (raw qs))[t / 2 * 2 + 1]? by rw [← this], h2.2]
      rfl
  · have h1 : (cellsR (raw qs)).length ≤ t := by rw [cellsR_len]; omega
    have h2 : (flatK encR 2 qs.toArray).toList.length ≤ t := by simp [size_flatK]; omega
    rw [List.getElem?_eq_none h1, List.getElem?_eq_none h2]
theorem holdsR {W : World} {base g n c : Nat} {qs : List OkF} (h : W.ownsRow base 27 2 (.slice (some ⟨g, 0, none⟩) n c) n (cellsR (raw qs))) : HoldsK encR 2 W g 0 qs.toArray := by
  intro j hj
  have hl : (raw qs).length * 2 = n * 2 := by have := h.1; rwa [cellsR_len] at this
  have hl' : (raw qs).length = qs.length := by simp [raw]
  rw [size_flatK] at hj
  have hj' : j < qs.length * 2 := by simpa using hj
  have hs : j < (flatK encR 2 qs.toArray).size := by rw [size_flatK]; exact hj
  refine ⟨?_, by rw [Nat.zero_add]; exact h.frozenAt j⟩
  rw [Nat.zero_add, h.cellAt j (by omega), getElem!_pos _ j hs, ← flat_cellsR, Array.getElem?_toList, Array.getElem?_eq_getElem hs]
  rfl
theorem heap_sortedR {w : World} {g m : Nat} {os : Array Obj} {cur : Array Value} {e : TypeId} {f : Nat × Nat} (d : Array OkF) (hb : w.heap[g]? = some (.cells cur e f)) :
    (sortWorldK encR 2 w g 0 m d os).heap[g]? = some (.cells (putCells id 0 (flatK encR 2 d) cur) e f) := by
  have hg : g < w.heap.size := (Array.getElem?_eq_some_iff.1 hb).1
  unfold sortWorldK putRowK
  rw [heap_grow_old _ _ (by simpa using hg)]
  simp [putRow, mapBlock, Sort.ahead, Array.getElem?_modify, hb, onCells]
theorem grownBy_sortedR {w : World} {g m : Nat} {os : Array Obj} (d : Array OkF) : w.grownBy (sortWorldK encR 2 w g 0 m d os) (some g) := by
  unfold sortWorldK putRowK
  refine ⟨rfl, rfl, rfl, by simp, fun k hk hne => ?_⟩
  rw [heap_grow_old _ _ (by simpa using hk)]
  have : g ≠ k := fun e => hne (by rw [e])
  simp [putRow, mapBlock, Sort.ahead, Array.getElem?_modify, this]
theorem take_putCellsR (cur F : Array Value) (k : Nat) (hk : F.size = k) (h : k ≤ cur.size) : (putCells id 0 F cur).toList.take k = F.toList := by
  subst hk
  apply List.ext_getElem?
  intro j
  by_cases hj : j < F.size
  · rw [List.getElem?_take_of_lt hj, Array.getElem?_toList]
    simp [putCells, hj, show j < cur.size by omega]
  · rw [List.getElem?_take_eq_none (by omega), List.getElem?_eq_none (by simp; omega)]
theorem ownsRow_sortedR {w : World} {base g c n m : Nat} {os : Array Obj} {ps qs : List OkF} (h : w.ownsRow base 27 2 (.slice (some ⟨g, 0, none⟩) n c) n (cellsR (raw ps))) (hl : qs.length = ps.length) :
    (sortWorldK encR 2 w g 0 m qs.toArray os).ownsRow base 27 2 (.slice (some ⟨g, 0, none⟩) n c) n (cellsR (raw qs)) := by
  obtain ⟨h1, h2⟩ := h
  rw [cellsR_len] at h1
  have hl1 : (raw ps).length = ps.length := by simp [raw]
  have hl2 : (raw qs).length = qs.length := by simp [raw]
  rcases h2 with ⟨e, _⟩ | ⟨g', c', cur, e, h3, h4, h5, h6, h7, h8⟩
  · cases e
  cases e
  refine ⟨by rw [cellsR_len]; omega, .inr ⟨g, c, _, rfl, h3, heap_sortedR _ h4, h5, h6, by simp [putCells, h7], ?_⟩⟩
  have hcn : n * 2 ≤ c * 2 := Nat.mul_le_mul_right 2 h5
  rw [take_putCellsR cur (flatK encR 2 qs.toArray) (n * 2) (by rw [size_flatK]; simp; omega) (by omega), flat_cellsR]
/-- what comes of the sort is the list in its order -/
theorem sorted_one {d' : Array OkF} {ps : List OkF} (hok : allOk (raw ps) = true) (hp : PermIn 0 ps.toArray.size ps.toArray d') (hs : SortedIn (ltOf cfR) 0 ps.toArray.size d') : raw d'.toList = srtR (raw ps) (raw ps).length ∧ d'.toList.length = ps.length := by
  obtain ⟨h1, _, h3⟩ := hp
  have e1 : (d'.extract 0 ps.toArray.size) = d' := by rw [← h1]; simp
  have e2 : (ps.toArray.extract 0 ps.toArray.size) = ps.toArray := by simp
  rw [e1, e2] at h3
  have h3' : d'.toList.Perm ps := by simpa using h3
  refine ⟨srt_one hok (h3'.map _) ?_, h3'.length_eq⟩
  unfold raw
  rw [List.pairwise_map]
  refine List.pairwise_iff_getElem.2 fun i j hi hj hij => ?_
  have hi' : i < d'.size := by simpa using hi
  have hj' : j < d'.size := by simpa using hj
  have h := hs i j (Nat.zero_le _) hij (by rw [← h1]; exact hj')
  rw [ltR, getElem!_pos d' i hi', getElem!_pos d' j hj', decide_eq_false_iff_not, Rat.not_lt] at h
  have a1 : d'.toList[i] = d'[i] := by simp
  have a2 : d'.toList[j] = d'[j] := by simp
  rw [a1, a2]
  exact h
def okL : (ls : List Fr) → (∀ p ∈ ls, okB p.1 p.2 = true) → List OkF
  | [], _ => []
  | p :: r, h => ⟨p, h p (by simp)⟩ :: okL r (fun q hq => h q (List.mem_cons_of_mem _ hq))
theorem okL_raw : ∀ (ls : List Fr) (h : ∀ p ∈ ls, okB p.1 p.2 = true), raw (okL ls h) = ls
  | [], _ => rfl
  | p :: r, h => by show p :: raw (okL r _) = _; rw [okL_raw r]

set_option maxHeartbeats 1000000 in
theorem isNaNR_any (x : Int) (W : World) :
    Calls Try.prog 46 #[.int .i64 x] W fun e w' => e = .returned (.bool false) ∧ w' = W := by
  have h : (x != x) = false := by simp
  go_enter Try.func46, Try.ntmps46
  go_wp2
  go_ret
  exact ⟨rfl, rfl⟩
set_option maxHeartbeats 1000000 in
theorem iCmpR_any (x y : Int) (W : World) :
    Calls Try.prog 25 #[.int .i64 x, .int .i64 y] W fun e w' => e = .returned (.int .i64 (if x < y then -1 else if y < x then 1 else 0)) ∧ w' = W := by
  by_cases h1 : x < y
  · rw [if_pos h1]
    go_enter Try.func25, Try.ntmps25
    go_wp2_with (go_at_call 46; refine (isNaNR_any _ _).mono ?_; rintro e w' ⟨rfl, rfl⟩)
    go_ret
    exact ⟨rfl, rfl⟩
  · rw [if_neg h1]
    by_cases h2 : y < x
    · rw [if_pos h2]
      go_enter Try.func25, Try.ntmps25
      go_wp2_with (go_at_call 46; refine (isNaNR_any _ _).mono ?_; rintro e w' ⟨rfl, rfl⟩)
      go_ret
      exact ⟨rfl, rfl⟩
    · rw [if_neg h2]
      go_enter Try.func25, Try.ntmps25
      go_wp2_with (go_at_call 46; refine (isNaNR_any _ _).mono ?_; rintro e w' ⟨rfl, rfl⟩)
      go_ret
      exact ⟨rfl, rfl⟩
set_option maxHeartbeats 1000000 in
theorem closR_any (x y : OkF) (W : World) : Calls Try.prog 24 #[.agg #[.int .i64 x.1.1, .int .i64 x.1.2], .agg #[.int .i64 y.1.1, .int .i64 y.1.2]] W fun e w' => e = .returned (.int .i64 (cfR x y)) ∧ ∃ q os', w' = grow (W.drewN q) os' := by
  have hcon := fun W' => iCmpR_any (x.1.1 * y.1.2) (y.1.1 * x.1.2) W'
  change ∀ W', Calls _ _ _ W' fun e w' => e = .returned (.int .i64 (cfR x y)) ∧ _ at hcon
  have ht : two x.1.1 x.1.2 y.1.1 y.1.2 = true := by show (okB _ _ && okB _ _) = true; rw [x.2, y.2]; rfl
  obtain ⟨⟨g1, g2⟩, ⟨g3, g4⟩, hrest⟩ := prods ht
  clear ht hrest
  generalize cfR x y = r at hcon ⊢
  obtain ⟨⟨a, b⟩, hx⟩ := x
  obtain ⟨⟨c, d⟩, hy⟩ := y
  dsimp only at hcon g1 g2 g3 g4 ⊢
  clear hx hy
  go_enter Try.func24, Try.ntmps24
  go_wp2_with (go_at_call 25; refine (hcon _).mono ?_; rintro e w' ⟨rfl, rfl⟩)
  go_ret
  exact ⟨rfl, 0, _, by rw [alloc_eq_grow, alloc_eq_grow, grow_grow]; rfl⟩
/-- THE SORT of a row of the call's own -/
theorem sortR_any {W : World} {base g n c : Nat} {ls : List Fr} (h : W.ownsRow base 27 2 (.slice (some ⟨g, 0, none⟩) n c) n (cellsR ls)) (hok : allOk ls = true) (hn : ls.length ≤ 4000) :
    Calls Try.prog 23 #[.slice (some ⟨g, 0, none⟩) n c, .func (.func 24) #[] #[]] W fun e w' => e = .returned (.tuple #[]) ∧ w'.ownsRow base 27 2 (.slice (some ⟨g, 0, none⟩) n c) n (cellsR (srtR ls ls.length)) ∧ W.grownBy w' (some g) := by
  obtain ⟨ps, hps⟩ : ∃ ps : List OkF, raw ps = ls := ⟨okL ls (fun p hp => allOk_mem.1 hok p hp), okL_raw _ _⟩
  subst hps
  have eg : ∀ args w, (callFunc 24 args).run Try.prog w = .ok (.enter 24 args) w := enters_of Try.func24 (by kernel_rfl) rfl
  have hg : g < W.heap.size := (h.lt g rfl).2
  have hl0 : (raw ps).length = ps.length := by simp [raw]
  have hl : ps.length = n := by have := h.1; rw [cellsR_len] at this; omega
  have hcon := AnyQ.slices_SortFunc Try.sortPt 2 Try.isAgg27 Try.sizeOf27 encR (fun _ => rfl) (fun x v hv => by simp [encR] at hv; rcases hv with rfl | rfl <;> rfl) cfR swoR 24 #[] g 0 c ps.toArray W eg (fun _ _ _ _ x y => closR_any x y _) (holdsR h) hg (by simp; omega)
  change Calls Try.prog 23 _ _ _ at hcon
  have e1 : ps.toArray.size = n := by simpa using hl
  rw [e1] at hcon
  refine hcon.mono ?_
  rintro e w' ⟨rfl, d', m, os, hp, hs, rfl⟩
  rw [← e1] at hp hs
  obtain ⟨q1, q3⟩ := sorted_one hok hp hs
  refine ⟨rfl, ?_, grownBy_sortedR d'⟩
  have := ownsRow_sortedR (m := m) (os := os) (qs := d'.toList) h q3
  rw [q1] at this
  simpa using this
end Go.Proofs.Ythmdiljcceiedaa
