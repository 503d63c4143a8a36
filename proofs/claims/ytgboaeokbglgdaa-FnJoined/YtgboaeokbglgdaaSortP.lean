/- Points sorted by the library, in a row of the call's own. -/
import Derived.Test.YtgboaeokbglgdaaShelf
import Derived.Test.YtgboaeokbglgdaaJoinW0
import Derived.Sort.OwnSorted
namespace Go.Proofs.Ytgboaeokbglgdaa
open Go.RowKit Go.Sort Go.Shelf Go.Lib Go.Proofs.Ytgboaeokbglgdaa.RM

def encP (x : Fr) : List Value := [.int .i64 x.1, .int .i64 x.2]
def cfP (x y : Fr) : Int := if x.1 < y.1 then -1 else if y.1 < x.1 then 1 else 0
theorem ltP (x y : Fr) : ltOf cfP x y = decide (x.1 < y.1) := by
  unfold ltOf cfP
  by_cases h1 : x.1 < y.1
  · simp [h1]
  · by_cases h2 : y.1 < x.1 <;> simp [h1, h2]
theorem swoP : SWO (ltOf cfP) where
  irrefl x := by rw [ltP]; simp
  trans x y z h1 h2 := by rw [ltP] at *; simp at *; omega
  ntrans x y z h1 h2 := by rw [ltP] at *; simp at *; omega
theorem flat_cells (ps : List Fr) : (flatK encP 2 ps.toArray).toList = cellsR ps := by
  apply List.ext_getElem?
  intro t
  by_cases ht : t < ps.length * 2
  · have hs : t < (flatK encP 2 ps.toArray).size := by rw [size_flatK]; simpa using ht
    have h1 := get_flatK encP 2 ps.toArray t (by simpa using ht)
    rw [getElem!_pos _ t hs] at h1
    rw [Array.getElem?_toList, Array.getElem?_eq_getElem hs, h1]
    have hd : t / 2 < ps.length := by omega
    have h2 := cellsR_at ps (t / 2) hd
    have e0 : ps.toArray[t / 2]! = ps[t / 2]?.getD (0, 0) := by
      rw [getElem!_pos _ _ (by simpa using hd), List.getElem?_eq_getElem hd]
      simp
    rw [e0]
    rcases Nat.mod_two_eq_zero_or_one t with e | e
    · have : t = t / 2 * 2 := by omega
      rw [e, show (cellsR ps)[t]? = (cellsR ps)[t / 2 * 2]? by rw [← this], h2.1]
      rfl
    · have : t = t / 2 * 2 + 1 := by omega
      rw [e, show (cellsR ps)[t]? = (cellsR ps)[t / 2 * 2 + 1]? by rw [← this], h2.2]
      rfl
  · have h1 : (cellsR ps).length ≤ t := by rw [cellsR_len]; omega
    have h2 : (flatK encP 2 ps.toArray).toList.length ≤ t := by simp [size_flatK]; omega
    rw [List.getElem?_eq_none h1, List.getElem?_eq_none h2]
theorem holdsP {W : World} {base g n c : Nat} {ps : List Fr} (h : W.ownsRow base 44 2 (.slice (some ⟨g, 0, none⟩) n c) n (cellsR ps)) : HoldsK encP 2 W g 0 ps.toArray := by
  intro j hj
  have hl : ps.length * 2 = n * 2 := by have := h.1; rwa [cellsR_len] at this
  rw [size_flatK] at hj
  have hj' : j < ps.length * 2 := by simpa using hj
  have hs : j < (flatK encP 2 ps.toArray).size := by rw [size_flatK]; exact hj
  refine ⟨?_, by rw [Nat.zero_add]; exact h.frozenAt j⟩
  rw [Nat.zero_add, h.cellAt j (by omega), getElem!_pos _ j hs, ← flat_cells, Array.getElem?_toList, Array.getElem?_eq_getElem hs]
  rfl
theorem heap_sortedP {w : World} {g m : Nat} {os : Array Obj} {cur : Array Value} {e : TypeId} {f : Nat × Nat} (d : Array Fr) (hb : w.heap[g]? = some (.cells cur e f)) :
    (sortWorldK encP 2 w g 0 m d os).heap[g]? = some (.cells (putCells id 0 (flatK encP 2 d) cur) e f) := by
  have hg : g < w.heap.size := (Array.getElem?_eq_some_iff.1 hb).1
  unfold sortWorldK putRowK
  rw [heap_grow_old _ _ (by simpa using hg)]
  simp [putRow, mapBlock, Sort.ahead, Array.getElem?_modify, hb, onCells]
theorem grownBy_sortedP {w : World} {g m : Nat} {os : Array Obj} (d : Array Fr) : w.grownBy (sortWorldK encP 2 w g 0 m d os) (some g) := by
  unfold sortWorldK putRowK
  refine ⟨rfl, rfl, rfl, by simp, fun k hk hne => ?_⟩
  rw [heap_grow_old _ _ (by simpa using hk)]
  have : g ≠ k := fun e => hne (by rw [e])
  simp [putRow, mapBlock, Sort.ahead, Array.getElem?_modify, this]
theorem take_putCellsP (cur F : Array Value) (k : Nat) (hk : F.size = k) (h : k ≤ cur.size) : (putCells id 0 F cur).toList.take k = F.toList := by
  subst hk
  apply List.ext_getElem?
  intro j
  by_cases hj : j < F.size
  · rw [List.getElem?_take_of_lt hj, Array.getElem?_toList]
    simp [putCells, hj, show j < cur.size by omega]
  · rw [List.getElem?_take_eq_none (by omega), List.getElem?_eq_none (by simp; omega)]
theorem ownsRow_sortedP {w : World} {base g c n m : Nat} {os : Array Obj} {ps qs : List Fr} (h : w.ownsRow base 44 2 (.slice (some ⟨g, 0, none⟩) n c) n (cellsR ps)) (hl : qs.length = ps.length) :
    (sortWorldK encP 2 w g 0 m qs.toArray os).ownsRow base 44 2 (.slice (some ⟨g, 0, none⟩) n c) n (cellsR qs) := by
  obtain ⟨h1, h2⟩ := h
  rw [cellsR_len] at h1
  rcases h2 with ⟨e, _⟩ | ⟨g', c', cur, e, h3, h4, h5, h6, h7, h8⟩
  · cases e
  cases e
  refine ⟨by rw [cellsR_len]; omega, .inr ⟨g, c, _, rfl, h3, heap_sortedP _ h4, h5, h6, by simp [putCells, h7], ?_⟩⟩
  have hcn : n * 2 ≤ c * 2 := Nat.mul_le_mul_right 2 h5
  rw [take_putCellsP cur (flatK encP 2 qs.toArray) (n * 2) (by rw [size_flatK]; simp; omega) (by omega), flat_cells]
/-- what comes of the sort is a rising list of the same points -/
theorem sorted_rising {d' : Array Fr} {ps : List Fr} (hu : unlike ps) (hp : PermIn 0 ps.toArray.size ps.toArray d') (hs : SortedIn (ltOf cfP) 0 ps.toArray.size d') : d'.toList.Perm ps ∧ rising d'.toList ∧ d'.toList.length = ps.length := by
  obtain ⟨h1, _, h3⟩ := hp
  have e1 : (d'.extract 0 ps.toArray.size) = d' := by rw [← h1]; simp
  have e2 : (ps.toArray.extract 0 ps.toArray.size) = ps.toArray := by simp
  rw [e1, e2] at h3
  have h3' : d'.toList.Perm ps := by simpa using h3
  refine ⟨h3', ?_, h3'.length_eq⟩
  have hu' : unlike d'.toList := (h3'.symm.pairwise_iff (fun h => fun e => h e.symm)).1 hu
  refine List.pairwise_iff_getElem.2 fun i j hi hj hij => ?_
  have hn := (List.pairwise_iff_getElem.1 hu') i j hi hj hij
  have hi' : i < d'.size := by simpa using hi
  have hj' : j < d'.size := by simpa using hj
  have h := hs i j (Nat.zero_le _) hij (by rw [← h1]; exact hj')
  rw [ltP, getElem!_pos d' i hi', getElem!_pos d' j hj'] at h
  simp at h
  have a1 : d'.toList[i] = d'[i] := by simp
  have a2 : d'.toList[j] = d'[j] := by simp
  rw [a1, a2] at hn ⊢
  omega

set_option maxHeartbeats 1000000 in
theorem isNaN_any (x : Int) (W : World) :
    Calls Try.prog 53 #[.int .i64 x] W fun e w' => e = .returned (.bool false) ∧ w' = W := by
  have h : (x != x) = false := by simp
  go_enter Try.func53, Try.ntmps53
  go_wp2
  go_ret
  exact ⟨rfl, rfl⟩
set_option maxHeartbeats 1000000 in
theorem iCmp_any (x y : Int) (W : World) :
    Calls Try.prog 39 #[.int .i64 x, .int .i64 y] W fun e w' => e = .returned (.int .i64 (if x < y then -1 else if y < x then 1 else 0)) ∧ w' = W := by
  by_cases h1 : x < y
  · rw [if_pos h1]
    go_enter Try.func39, Try.ntmps39
    go_wp2_with (go_at_call 53; refine (isNaN_any _ _).mono ?_; rintro e w' ⟨rfl, rfl⟩)
    go_ret
    exact ⟨rfl, rfl⟩
  · rw [if_neg h1]
    by_cases h2 : y < x
    · rw [if_pos h2]
      go_enter Try.func39, Try.ntmps39
      go_wp2_with (go_at_call 53; refine (isNaN_any _ _).mono ?_; rintro e w' ⟨rfl, rfl⟩)
      go_ret
      exact ⟨rfl, rfl⟩
    · rw [if_neg h2]
      go_enter Try.func39, Try.ntmps39
      go_wp2_with (go_at_call 53; refine (isNaN_any _ _).mono ?_; rintro e w' ⟨rfl, rfl⟩)
      go_ret
      exact ⟨rfl, rfl⟩
set_option maxHeartbeats 1000000 in
theorem closP_any (x y : Fr) (W : World) : Calls Try.prog 38 #[.agg #[.int .i64 x.1, .int .i64 x.2], .agg #[.int .i64 y.1, .int .i64 y.2]] W fun e w' => e = .returned (.int .i64 (cfP x y)) ∧ ∃ q os', w' = grow (W.drewN q) os' := by
  have hcon := fun W' => iCmp_any x.1 y.1 W'
  change ∀ W', Calls _ _ _ W' fun e w' => e = .returned (.int .i64 (cfP x y)) ∧ _ at hcon
  generalize cfP x y = r at hcon ⊢
  go_enter Try.func38, Try.ntmps38
  go_wp2_with (go_at_call 39; refine (hcon _).mono ?_; rintro e w' ⟨rfl, rfl⟩)
  go_ret
  exact ⟨rfl, 0, _, by rw [alloc_eq_grow, alloc_eq_grow, grow_grow]; rfl⟩
/-- THE SORT of a row of the call's own -/
theorem sortP_any {W : World} {base g n c : Nat} {ps : List Fr} (h : W.ownsRow base 44 2 (.slice (some ⟨g, 0, none⟩) n c) n (cellsR ps)) (hu : unlike ps) (hn : ps.length ≤ 4000) :
    Calls Try.prog 37 #[.slice (some ⟨g, 0, none⟩) n c, .func (.func 38) #[] #[]] W fun e w' => e = .returned (.tuple #[]) ∧ ∃ qs : List Fr, qs.Perm ps ∧ rising qs ∧ w'.ownsRow base 44 2 (.slice (some ⟨g, 0, none⟩) n c) n (cellsR qs) ∧ W.grownBy w' (some g) := by
  have eg : ∀ args w, (callFunc 38 args).run Try.prog w = .ok (.enter 38 args) w := enters_of Try.func38 (by kernel_rfl) rfl
  have hg : g < W.heap.size := (h.lt g rfl).2
  have hl : ps.length = n := by have := h.1; rw [cellsR_len] at this; omega
  have hcon := AnyQ.slices_SortFunc Try.sortPt 2 Try.isAgg44 Try.sizeOf44 encP (fun _ => rfl) (fun x v hv => by simp [encP] at hv; rcases hv with rfl | rfl <;> rfl) cfP swoP 38 #[] g 0 c ps.toArray W eg (fun _ _ _ _ x y => closP_any x y _) (holdsP h) hg (by simp; omega)
  change Calls Try.prog 37 _ _ _ at hcon
  have e1 : ps.toArray.size = n := by simpa using hl
  rw [e1] at hcon
  refine hcon.mono ?_
  rintro e w' ⟨rfl, d', m, os, hp, hs, rfl⟩
  rw [← e1] at hp hs
  obtain ⟨q1, q2, q3⟩ := sorted_rising hu hp hs
  refine ⟨rfl, d'.toList, q1, q2, ?_, grownBy_sortedP d'⟩
  have := ownsRow_sortedP (m := m) (os := os) (qs := d'.toList) h q3
  simpa using this
end Go.Proofs.Ytgboaeokbglgdaa
