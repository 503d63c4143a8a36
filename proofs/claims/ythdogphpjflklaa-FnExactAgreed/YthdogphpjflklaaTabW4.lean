/- The walks of the laws' marks: rows and tables of fractions are marked, and held to be marked. -/
import Derived.Test.YthdogphpjflklaaTabW3
namespace Go.Proofs.Ythdogphpjflklaa
open Go.RowKit Go.Proofs.Ythdogphpjflklaa.RM

/-- all blocks out of the stretch are as they were -/
def Out (lo hi : Nat) (w w' : World) : Prop :=
  w'.os = w.os ∧ w'.tape = w.tape ∧ w'.output = w.output ∧ w.heap.size ≤ w'.heap.size ∧ ∀ k, k < w.heap.size → (k < lo ∨ hi ≤ k) → w'.heap[k]? = w.heap[k]?
theorem Out.refl (lo hi : Nat) (w : World) : Out lo hi w w := ⟨rfl, rfl, rfl, Nat.le_refl _, fun _ _ _ => rfl⟩
theorem Out.trans {lo hi : Nat} {a b c : World} (h : Out lo hi a b) (k : Out lo hi b c) : Out lo hi a c :=
  ⟨k.1.trans h.1, k.2.1.trans h.2.1, k.2.2.1.trans h.2.2.1, Nat.le_trans h.2.2.2.1 k.2.2.2.1, fun n hn ho => (k.2.2.2.2 n (Nat.lt_of_lt_of_le hn h.2.2.2.1) ho).trans (h.2.2.2.2 n hn ho)⟩
theorem Out.of_below {lo hi : Nat} {w w' : World} (h : Below w.heap.size w w') : Out lo hi w w' := ⟨h.os, h.tape, h.output, h.size, fun k hk _ => h.block k hk⟩
theorem Out.of_grown {lo hi : Nat} {w w' : World} {row : Option Nat} (h : w.grownBy w' row) (hr : ∀ b, row = some b → lo ≤ b ∧ b < hi) : Out lo hi w w' :=
  ⟨h.os, h.tape, h.output, h.size, fun k hk ho => h.block k hk (fun e => by have := hr k e.symm; omega)⟩
theorem Out.below {lo hi : Nat} {w w' : World} (h : Out lo hi w w') (hl : lo ≤ w.heap.size) : Below lo w w' :=
  ⟨h.1, h.2.1, h.2.2.1, h.2.2.2.1, fun k hk => h.2.2.2.2 k (by omega) (.inl hk)⟩
/-- a row out of the stretch stays -/
theorem own_out {lo hi : Nat} {w w' : World} {base e size n : Nat} {v : Value} {xs : List Value} (h : w.ownsRow base e size v n xs) (ho : Out lo hi w w') (hb : ∀ b, v.ownBlock = some b → b < lo ∨ hi ≤ b) : w'.ownsRow base e size v n xs := by
  refine ⟨h.1, ?_⟩
  rcases h.2 with hn | ⟨g, c, cur, rfl, h1, h2, h3⟩
  · exact .inl hn
  · refine .inr ⟨g, c, cur, rfl, h1, ?_, h3⟩
    exact (ho.2.2.2.2 g (Array.getElem?_eq_some_iff.1 h2).1 (hb g rfl)).trans h2
theorem Tab.out {lo hi : Nat} {w w' : World} {base : Nat} {v : Value} {us : List Value} {rows : List (List Fr)} (h : Tab w base v us rows) (ho : Out lo hi w w') (hb : ∀ b, v.ownBlock = some b → b < lo ∨ hi ≤ b) (hbs : ∀ i, i < us.length → ∀ b, (vl us i).ownBlock = some b → b < lo ∨ hi ≤ b) : Tab w' base v us rows :=
  ⟨own_out h.outer ho hb, h.len, fun i hi' => own_out (h.inner i hi') ho (hbs i hi'), h.apart⟩
theorem Tab.out_hi {lo hi : Nat} {w w' : World} {base : Nat} {v : Value} {us : List Value} {rows : List (List Fr)} (h : Tab w base v us rows) (ho : Out lo hi w w') (hb : hi ≤ base) : Tab w' base v us rows :=
  h.out ho (fun b e => .inr (by have := (h.outer.lt b e).1; omega)) (fun i hi' b e => .inr (by have := ((h.inner i hi').lt b e).1; omega))
/-- all of a table lies ahead of S -/
def Under (S : Nat) (v : Value) (us : List Value) : Prop := (∀ b, v.ownBlock = some b → b < S) ∧ ∀ i, i < us.length → ∀ b, (vl us i).ownBlock = some b → b < S
theorem Tab.under {w : World} {base : Nat} {v : Value} {us : List Value} {rows : List (List Fr)} (h : Tab w base v us rows) : Under w.heap.size v us := ⟨fun b e => (h.outer.lt b e).2, fun i hi b e => ((h.inner i hi).lt b e).2⟩
theorem Under.le {S S' : Nat} {v : Value} {us : List Value} (h : Under S v us) (hs : S ≤ S') : Under S' v us := ⟨fun b e => Nat.lt_of_lt_of_le (h.1 b e) hs, fun i hi b e => Nat.lt_of_lt_of_le (h.2 i hi b e) hs⟩
theorem Tab.out_lo {lo hi : Nat} {w w' : World} {base : Nat} {v : Value} {us : List Value} {rows : List (List Fr)} (h : Tab w base v us rows) (ho : Out lo hi w w') (hu : Under lo v us) : Tab w' base v us rows :=
  h.out ho (fun b e => .inl (hu.1 b e)) (fun i hi' b e => .inl (hu.2 i hi' b e))

/-- what is marked from k0 on when j of them have been -/
def mkF (k0 : Int) (ps : List Fr) (j : Nat) : List Fr := (List.range ps.length).map (fun i => if i < j then (k0 + 2 * (i : Int), k0 + 2 * (i : Int) + 1) else fr ps i)
theorem mkF_len (k0 : Int) (ps : List Fr) (j : Nat) : (mkF k0 ps j).length = ps.length := by simp [mkF]
theorem mkF_zero (k0 : Int) (ps : List Fr) : mkF k0 ps 0 = ps := by
  apply List.ext_getElem
  · rw [mkF_len]
  · intro i h1 h2
    simp [mkF, fr, List.getElem?_eq_getElem h2]
theorem mkF_set (k0 : Int) (ps : List Fr) (j : Nat) : (mkF k0 ps j).set j (k0 + 2 * (j : Int), k0 + 2 * (j : Int) + 1) = mkF k0 ps (j + 1) := by
  apply List.ext_getElem
  · simp [mkF]
  · intro i h1 h2
    simp only [mkF, List.getElem_set, List.getElem_map, List.getElem_range]
    by_cases e : j = i
    · subst e
      rw [if_pos rfl, if_pos (by omega)]
    · rw [if_neg e]
      by_cases h3 : i < j
      · rw [if_pos h3, if_pos (by omega)]
      · rw [if_neg h3, if_neg (by omega)]
theorem mkF_at (k0 : Int) (ps : List Fr) (j : Nat) (h : j < ps.length) : fr (mkF k0 ps ps.length) j = (k0 + 2 * (j : Int), k0 + 2 * (j : Int) + 1) := by
  simp [mkF, fr, h]

set_option maxRecDepth 100000 in
set_option maxHeartbeats 1000000 in
theorem markS_any (v : Value) (ps : List Fr) (base : Nat) (k0 : Int) (w : World) (hn2 : ps.length ≤ 1048576) (hk0 : 0 ≤ k0) (hk1 : k0 ≤ 4000000000000000) (h1 : w.ownsRow base 29 2 v ps.length (cellsR ps)) :
    Calls Try.prog 28 #[v, .int .i64 k0] w fun e w' => e = .returned (.int .i64 (k0 + 2 * (ps.length : Int))) ∧ w'.ownsRow base 29 2 v ps.length (cellsR (mkF k0 ps ps.length)) ∧ w.grownBy w' v.ownBlock := by
  by_cases h0 : ps.length = 0
  · obtain ⟨a, c, rfl⟩ := own_shape h1
    obtain rfl : ps = [] := List.eq_nil_of_length_eq_zero h0
    have H1 : Hid (w.ownsRow base 29 2 (.slice a 0 c) 0 []) := h1
    clear h1 h0
    go_enter Try.func28, Try.ntmps28
    go_wp2
    go_loop [1, 5] (fun q i => q = .int .i64 k0 ∧ i = .int .i64 0) (fun _ _ => 0)
    case atStart => exact ⟨rfl, rfl⟩
    case round =>
      obtain ⟨rfl, rfl⟩ := hrel
      go_wp2
      go_ret
      exact ⟨by simp, H1.out, (grown_of_below (Below.refl _ _)).but _⟩
  · obtain ⟨g, c, rfl⟩ := own_some h1 (by omega)
    obtain ⟨n, hn⟩ : ∃ n, n = ps.length := ⟨_, rfl⟩
    rw [← hn] at h1 hn2 h0 ⊢
    have H1 : Hid (w.ownsRow base 29 2 (.slice (some ⟨g, 0, none⟩) n c) n (cellsR ps)) := h1
    have HN : Hid (ps.length = n) := hn.symm
    clear h1 h0 hn
    go_enter Try.func28, Try.ntmps28
    go_wp2
    go_loopw [1, 5] (fun q i wr => ∃ k : Nat, k ≤ n ∧ i = .int .i64 k ∧ q = .int .i64 (k0 + 2 * (k : Int)) ∧ Hid (wr.ownsRow base 29 2 (.slice (some ⟨g, 0, none⟩) n c) n (cellsR (mkF k0 ps k)) ∧ w.grownBy wr (some g))) (fun _ i _ => n - (intOf i).toNat)
    case atStart => exact ⟨0, Nat.zero_le _, rfl, by simp, by rw [mkF_zero]; exact H1.out, (grown_of_below (Below.refl _ _)).but _⟩
    case round =>
      obtain ⟨k, hk, rfl, rfl, hw⟩ := hrel
      by_cases hlt : k < n
      · obtain ⟨c1, c2⟩ := own_R hw.out.1 (by rw [mkF_len]; exact HN.out) k hlt
        have f1 := hw.out.1.frozenAt (k * 2)
        have f2 := hw.out.1.frozenAt (k * 2 + 1)
        generalize ((mkF k0 ps k)[k]?.getD (0, 0)).1 = x1 at c1
        generalize ((mkF k0 ps k)[k]?.getD (0, 0)).2 = x2 at c2
        go_wp2
        go_roundw
        case rel =>
          obtain ⟨s1, s2⟩ := hw.out.1.stored (k * 2) (.int .i64 (k0 + 2 * (k : Int)))
          obtain ⟨s3, s4⟩ := s1.stored (k * 2 + 1) (.int .i64 (k0 + 2 * (k : Int) + 1))
          refine ⟨k + 1, by omega, by go_num, by go_num, ?_, (hw.out.2.trans s2).trans s4⟩
          rw [cellsR_set _ _ _ _ (by rw [mkF_len, HN.out]; exact hlt), mkF_set] at s3
          exact s3
        case measure => simp [intOf]; omega
      · obtain rfl : k = n := by omega
        go_wp2
        go_ret
        exact ⟨rfl, hw.out.1, hw.out.2⟩

/-- how many fractions stand ahead of row i -/
def offN (rows : List (List Fr)) : Nat → Nat
  | 0 => 0
  | i + 1 => offN rows i + (rw' rows i).length
theorem offN_le {rows : List (List Fr)} (hl : ∀ i, i < rows.length → (rw' rows i).length ≤ 1048576) : ∀ i, i ≤ rows.length → offN rows i ≤ i * 1048576
  | 0, _ => by simp [offN]
  | i + 1, h => by
    have := offN_le hl i (by omega)
    have := hl i (by omega)
    simp only [offN]; omega
/-- the table of which j rows are marked -/
def mkT (k0 : Int) (rows : List (List Fr)) (j : Nat) : List (List Fr) := (List.range rows.length).map (fun i => if i < j then mkF (k0 + 2 * (offN rows i : Int)) (rw' rows i) (rw' rows i).length else rw' rows i)
theorem mkT_len (k0 : Int) (rows : List (List Fr)) (j : Nat) : (mkT k0 rows j).length = rows.length := by simp [mkT]
theorem mkT_zero (k0 : Int) (rows : List (List Fr)) : mkT k0 rows 0 = rows := by
  apply List.ext_getElem
  · rw [mkT_len]
  · intro i h1 h2
    simp [mkT, rw', List.getElem?_eq_getElem h2]
theorem mkT_set (k0 : Int) (rows : List (List Fr)) (j : Nat) : (mkT k0 rows j).set j (mkF (k0 + 2 * (offN rows j : Int)) (rw' rows j) (rw' rows j).length) = mkT k0 rows (j + 1) := by
  apply List.ext_getElem
  · simp [mkT]
  · intro i h1 h2
    simp only [mkT, List.getElem_set, List.getElem_map, List.getElem_range]
    by_cases e : j = i
    · subst e
      rw [if_pos rfl, if_pos (by omega)]
    · rw [if_neg e]
      by_cases h3 : i < j
      · rw [if_pos h3, if_pos (by omega)]
      · rw [if_neg h3, if_neg (by omega)]
theorem mkT_at (k0 : Int) (rows : List (List Fr)) (j i : Nat) (h : i < rows.length) : rw' (mkT k0 rows j) i = if i < j then mkF (k0 + 2 * (offN rows i : Int)) (rw' rows i) (rw' rows i).length else rw' rows i := by
  simp [mkT, rw', h]

end Go.Proofs.Ythdogphpjflklaa
