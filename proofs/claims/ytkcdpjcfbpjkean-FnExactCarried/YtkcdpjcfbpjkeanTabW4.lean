/- The walks of the laws' marks: rows and tables of fractions are marked, and held to be marked. -/
import Derived.Test.YtkcdpjcfbpjkeanTabW3
namespace Go.Proofs.Ytkcdpjcfbpjkean
open Go.RowKit Go.Proofs.Ytkcdpjcfbpjkean.RM

/-- all blocks out of the stretch are as they were -/
def Out (lo hi : Nat) (w w' : World) : Prop :=
  w'.os = w.os ∧ w'.tape = w.tape ∧ w'.output = w.output ∧ w.heap.size ≤ w'.heap.size ∧ ∀ k, k < w.heap.size → (k < lo ∨ hi ≤ k) → w'.heap[k]? = w.heap[k]?
theorem Out.refl (lo hi : Nat) (w : World) : Out lo hi w w := ⟨rfl, rfl, rfl, Nat.le_refl _, fun _ _ _ => rfl⟩
theorem Out.trans {lo hi : Nat} {a b c : World} (h : Out lo hi a b) (k : Out lo hi b c) : Out lo hi a c :=
  ⟨k.1.trans h.1, k.2.1.trans h.2.1, k.2.2.1.trans h.2.2.1, Nat.le_trans h.2.2.2.1 k.2.2.2.1, fun n hn ho => (k.2.2.2.2 n (Nat.lt_of_lt_of_le hn h.2.2.2.1) ho).trans (h.2.2.2.2 n hn ho)⟩
theorem Out.of_below {lo hi : Nat} {w w' : World} (h : Below w.heap.size w w') : Out lo hi w w' := ⟨h.os, h.tape, h.output, h.size, fun k hk _ => h.block k hk⟩
theorem Out.of_grown {lo hi : Nat} {w w' : World} {row : Option Nat} (h : w.grownBy w' row) (hr : ∀ b, row = some b → lo ≤ b ∧ b < hi) : Out lo hi w w' :=
  ⟨h.os, h.tape, h.output, h.size, fun k hk ho => h.block k hk (fun e => by have := hr k e.symm; omega)⟩
theorem Out.below {lo hi : Nat} {w w' : World} (h : Out lo hi w w') (hl : lo ≤ w.heap.size) : Below lo w w' :=
  ⟨h.1, h.2.1, h.2.2.1, h.2.2.2.1, fun k hk => h.2.2.2.2 k (by omega) (.inl hk)⟩
/-- a row out of the stretch stays -/
theorem own_out {lo hi : Nat} {w w' : World} {base e size n : Nat} {v : Value} {xs : List Value} (h : w.ownsRow base e size v n xs) (ho : Out lo hi w w') (hb : ∀ b, v.ownBlock = some b → b < lo ∨ hi ≤ b) : w'.ownsRow base e size v n xs := by
  refine ⟨h.1, ?_⟩
  rcases h.2 with hn | ⟨g, c, cur, rfl, h1, h2, h3⟩
  · exact .inl hn
  · refine .inr ⟨g, c, cur, rfl, h1, ?_, h3⟩
    exact (ho.2.2.2.2 g (Array.getElem?_eq_some_iff.1 h2).1 (hb g rfl)).trans h2
theorem Tab.out {lo hi : Nat} {w w' : World} {base : Nat} {v : Value} {us : List Value} {rows : List (List Fr)} (h : Tab w base v us rows) (ho : Out lo hi w w') (hb : ∀ b, v.ownBlock = some b → b < lo ∨ hi ≤ b) (hbs : ∀ i, i < us.length → ∀ b, (vl us i).ownBlock = some b → b < lo ∨ hi ≤ b) : Tab w' base v us rows :=
  ⟨own_out h.outer ho hb, h.len, fun i hi' => own_out (h.inner i hi') ho (hbs i hi'), h.apart⟩
theorem Tab.out_hi {lo hi : Nat} {w w' : World} {base : Nat} {v : Value} {us : List Value} {rows : List (List Fr)} (h : Tab w base v us rows) (ho : Out lo hi w w') (hb : hi ≤ base) : Tab w' base v us rows :=
  h.out ho (fun b e => .inr (by have := (h.outer.lt b e).1; omega)) (fun i hi' b e => .inr (by have := ((h.inner i hi').lt b e).1; omega))
/-- all of a table lies ahead of S -/
def Under (S : Nat) (v : Value) (us : List Value) : Prop := (∀ b, v.ownBlock = some b → b < S) ∧ ∀ i, i < us.length → ∀ b, (vl us i).ownBlock = some b → b < S
theorem Tab.under {w : World} {base : Nat} {v : Value} {us : List Value} {rows : List (List Fr)} (h : Tab w base v us rows) : Under w.heap.size v us := ⟨fun b e => (h.outer.lt b e).2, fun i hi b e => ((h.inner i hi).lt b e).2⟩
theorem Under.le {S S' : Nat} {v : Value} {us : List Value} (h : Under S v us) (hs : S ≤ S') : Under S' v us := ⟨fun b e => Nat.lt_of_lt_of_le (h.1 b e) hs, fun i hi b e => Nat.lt_of_lt_of_le (h.2 i hi b e) hs⟩
theorem Tab.out_lo {lo hi : Nat} {w w' : World} {base : Nat} {v : Value} {us : List Value} {rows : List (List Fr)} (h : Tab w base v us rows) (ho : Out lo hi w w') (hu : Under lo v us) : Tab w' base v us rows :=
  h.out ho (fun b e => .inl (hu.1 b e)) (fun i hi' b e => .inl (hu.2 i hi' b e))

/-- what is marked from k0 on when j of them have been -/
def mkF (k0 : Int) (ps : List Fr) (j : Nat) : List Fr := (List.range ps.length).map (fun i => if i < j then (k0 + 2 * (i : Int), k0 + 2 * (i : Int) + 1) else fr ps i)
theorem mkF_len (k0 : Int) (ps : List Fr) (j : Nat) : (mkF k0 ps j).length = ps.length := by simp [mkF]
theorem mkF_zero (k0 : Int) (ps : List Fr) : mkF k0 ps 0 = ps := by
  apply List.ext_getElem
  · rw [mkF_len]
  · intro i h1 h2
    simp [mkF, fr, List.getElem?_eq_getElem h2]
theorem mkF_set (k0 : Int) (ps : List Fr) (j : Nat) : (mkF k0 ps j).set j (k0 + 2 * (j : Int), k0 + 2 * (j : Int) + 1) = mkF k0 ps (j + 1) := by
  apply List.ext_getElem
  · simp [mkF]
  · intro i h1 h2
    simp only [mkF, List.getElem_set, List.getElem_map, List.getElem_range]
    by_cases e : j = i
    · subst e
      rw [if_pos rfl, if_pos (by omega)]
    · rw [if_neg e]
      by_cases h3 : i < j
      · rw [if_pos h3, if_pos (by omega)]
      · rw [if_neg h3, if_neg (by omega)]
theorem mkF_at (k0 : Int) (ps : List Fr) (j : Nat) (h : j < ps.length) : fr (mkF k0 ps ps.length) j = (k0 + 2 * (j : Int), k0 + 2 * (j : Int) + 1) := by
  simp [mkF, fr, h]

set_option maxRecDepth 100000 in
set_option maxHeartbeats 1000000 in
theorem markS_any (v : Value) (ps : List Fr) (base : Nat) (k0 : Int) (w : World) (hn2 : ps.length ≤ 1048576) (hk0 : 0 ≤ k0) (hk1 : k0 ≤ 4000000000000000) (h1 : w.ownsRow base 32 2 v ps.length (cellsR ps)) :
    Calls Try.prog 22 #[v, .int .i64 k0] w fun e w' => e = .returned (.int .i64 (k0 + 2 * (ps.length : Int))) ∧ w'.ownsRow base 32 2 v ps.length (cellsR (mkF k0 ps ps.length)) ∧ w.grownBy w' v.ownBlock := by
  by_cases h0 : ps.length = 0
  · obtain ⟨a, c, rfl⟩ := own_shape h1
    obtain rfl : ps = [] := List.eq_nil_of_length_eq_zero h0
    have H1 : Hid (w.ownsRow base 32 2 (.slice a 0 c) 0 []) := h1
    clear h1 h0
    go_enter Try.func22, Try.ntmps22
    go_wp2
    go_loop [1, 5] (fun q i => q = .int .i64 k0 ∧ i = .int .i64 0) (fun _ _ => 0)
    case atStart => exact ⟨rfl, rfl⟩
    case round =>
      obtain ⟨rfl, rfl⟩ := hrel
      go_wp2
      go_ret
      exact ⟨by simp, H1.out, (grown_of_below (Below.refl _ _)).but _⟩
  · obtain ⟨g, c, rfl⟩ := own_some h1 (by omega)
    obtain ⟨n, hn⟩ : ∃ n, n = ps.length := ⟨_, rfl⟩
    rw [← hn] at h1 hn2 h0 ⊢
    have H1 : Hid (w.ownsRow base 32 2 (.slice (some ⟨g, 0, none⟩) n c) n (cellsR ps)) := h1
    have HN : Hid (ps.length = n) := hn.symm
    clear h1 h0 hn
    go_enter Try.func22, Try.ntmps22
    go_wp2
    go_loopw [1, 5] (fun q i wr => ∃ k : Nat, k ≤ n ∧ i = .int .i64 k ∧ q = .int .i64 (k0 + 2 * (k : Int)) ∧ Hid (wr.ownsRow base 32 2 (.slice (some ⟨g, 0, none⟩) n c) n (cellsR (mkF k0 ps k)) ∧ w.grownBy wr (some g))) (fun _ i _ => n - (intOf i).toNat)
    case atStart => exact ⟨0, Nat.zero_le _, rfl, by simp, by rw [mkF_zero]; exact H1.out, (grown_of_below (Below.refl _ _)).but _⟩
    case round =>
      obtain ⟨k, hk, rfl, rfl, hw⟩ := hrel
      by_cases hlt : k < n
      · obtain ⟨c1, c2⟩ := own_R hw.out.1 (by rw [mkF_len]; exact HN.out) k hlt
        have f1 := hw.out.1.frozenAt (k * 2)
        have f2 := hw.out.1.frozenAt (k * 2 + 1)
        generalize ((mkF k0 ps k)[k]?.getD (0, 0)).1 = x1 at c1
        generalize ((mkF k0 ps k)[k]?.getD (0, 0)).2 = x2 at c2
        go_wp2
        go_roundw
        case rel =>
          obtain ⟨s1, s2⟩ := hw.out.1.stored (k * 2) (.int .i64 (k0 + 2 * (k : Int)))
          obtain ⟨s3, s4⟩ := s1.stored (k * 2 + 1) (.int .i64 (k0 + 2 * (k : Int) + 1))
          refine ⟨k + 1, by omega, by go_num, by go_num, ?_, (hw.out.2.trans s2).trans s4⟩
          rw [cellsR_set _ _ _ _ (by rw [mkF_len, HN.out]; exact hlt), mkF_set] at s3
          exact s3
        case measure => simp [intOf]; omega
      · obtain rfl : k = n := by omega
        go_wp2
        go_ret
        exact ⟨rfl, hw.out.1, hw.out.2⟩

set_option maxRecDepth 100000 in
set_option maxHeartbeats 1000000 in
theorem heldS_any (v : Value) (ps : List Fr) (k0 : Int) (w : World) (hn2 : ps.length ≤ 1048576) (hk0 : 0 ≤ k0) (hk1 : k0 ≤ 4000000000000000) (h : RdR w v (mkF k0 ps ps.length)) :
    Calls Try.prog 27 #[v, .int .i64 k0] w fun e w' => e = .returned (.int .i64 (k0 + 2 * (ps.length : Int))) ∧ ∃ m, w' = w.drewN m := by
  obtain ⟨a, c, rfl, _, _, _, h5⟩ := h
  rw [mkF_len] at h5 ⊢
  have H5 : Hid (∀ j : Nat, j < ps.length → ∃ b off, a = some ⟨b, off, none⟩ ∧ w.cell? ⟨b, off + j * 2, none⟩ = some (.int .i64 (k0 + 2 * (j : Int))) ∧ w.cell? ⟨b, off + j * 2 + 1, none⟩ = some (.int .i64 (k0 + 2 * (j : Int) + 1))) := by
    intro j hj
    have := h5 j hj
    rw [mkF_at _ _ _ hj] at this
    exact this
  clear h5
  obtain ⟨n, hn⟩ : ∃ n, n = ps.length := ⟨_, rfl⟩
  rw [← hn] at H5 hn2 ⊢
  clear hn
  go_enter Try.func27, Try.ntmps27
  go_wp2
  go_loopw [1, 5] (fun q i wr => ∃ k : Nat, k ≤ n ∧ i = .int .i64 k ∧ q = .int .i64 (k0 + 2 * (k : Int)) ∧ Hid (∃ m, wr = w.drewN m)) (fun _ i _ => n - (intOf i).toNat)
  case atStart => exact ⟨0, Nat.zero_le _, rfl, by simp, 0, rfl⟩
  case round =>
    obtain ⟨k, hk, rfl, rfl, hw⟩ := hrel
    obtain ⟨m, rfl⟩ := hw.out
    clear hw
    by_cases hlt : k < n
    · obtain ⟨b, off, rfl, c1, c2⟩ := H5.out k hlt
      have ht : ((k0 + 2 * (k : Int)) != (k0 + 2 * (k : Int))) = false := by simp
      have ht2 : ((k0 + 2 * (k : Int) + 1) != (k0 + 2 * (k : Int) + 1)) = false := by simp
      go_wp2
      go_roundw
      case rel => exact ⟨k + 1, by omega, by go_num, by go_num, m, rfl⟩
      case measure => simp [intOf]; omega
    · obtain rfl : k = n := by omega
      go_wp2
      go_ret
      exact ⟨rfl, m, rfl⟩

/-- how many fractions stand ahead of row i -/
def offN (rows : List (List Fr)) : Nat → Nat
  | 0 => 0
  | i + 1 => offN rows i + (rw' rows i).length
theorem offN_le {rows : List (List Fr)} (hl : ∀ i, i < rows.length → (rw' rows i).length ≤ 1048576) : ∀ i, i ≤ rows.length → offN rows i ≤ i * 1048576
  | 0, _ => by simp [offN]
  | i + 1, h => by
    have := offN_le hl i (by omega)
    have := hl i (by omega)
    simp only [offN]; omega
/-- the table of which j rows are marked -/
def mkT (k0 : Int) (rows : List (List Fr)) (j : Nat) : List (List Fr) := (List.range rows.length).map (fun i => if i < j then mkF (k0 + 2 * (offN rows i : Int)) (rw' rows i) (rw' rows i).length else rw' rows i)
theorem mkT_len (k0 : Int) (rows : List (List Fr)) (j : Nat) : (mkT k0 rows j).length = rows.length := by simp [mkT]
theorem mkT_zero (k0 : Int) (rows : List (List Fr)) : mkT k0 rows 0 = rows := by
  apply List.ext_getElem
  · rw [mkT_len]
  · intro i h1 h2
    simp [mkT, rw', List.getElem?_eq_getElem h2]
theorem mkT_set (k0 : Int) (rows : List (List Fr)) (j : Nat) : (mkT k0 rows j).set j (mkF (k0 + 2 * (offN rows j : Int)) (rw' rows j) (rw' rows j).length) = mkT k0 rows (j + 1) := by
  apply List.ext_getElem
  · simp [mkT]
  · intro i h1 h2
    simp only [mkT, List.getElem_set, List.getElem_map, List.getElem_range]
    by_cases e : j = i
    · subst e
      rw [if_pos rfl, if_pos (by omega)]
    · rw [if_neg e]
      by_cases h3 : i < j
      · rw [if_pos h3, if_pos (by omega)]
      · rw [if_neg h3, if_neg (by omega)]
theorem mkT_at (k0 : Int) (rows : List (List Fr)) (j i : Nat) (h : i < rows.length) : rw' (mkT k0 rows j) i = if i < j then mkF (k0 + 2 * (offN rows i : Int)) (rw' rows i) (rw' rows i).length else rw' rows i := by
  simp [mkT, rw', h]

set_option maxRecDepth 100000 in
set_option maxHeartbeats 2000000 in
theorem markT_any (v : Value) (us : List Value) (rows : List (List Fr)) (base S : Nat) (k0 : Int) (w : World) (h : Tab w base v us rows) (hu : Under S v us) (hl : rows.length ≤ 1048576) (hrl : ∀ i, i < rows.length → (rw' rows i).length ≤ 1048576) (hk0 : 0 ≤ k0) (hk1 : k0 ≤ 1000000000000000) :
    Calls Try.prog 23 #[v, .int .i64 k0] w fun e w' => e = .returned (.int .i64 (k0 + 2 * (offN rows rows.length : Int))) ∧ Tab w' base v us (mkT k0 rows rows.length) ∧ Out base S w w' := by
  obtain ⟨n, hn⟩ : ∃ n, n = rows.length := ⟨_, rfl⟩
  have HL : Hid (us.length = n) := h.len.trans hn.symm
  have HO : Hid (∀ i, i ≤ n → (offN rows i : Int) ≤ 1099511627776) := by
    intro i hi
    have := offN_le hrl i (by omega)
    have : i * 1048576 ≤ 1048576 * 1048576 := Nat.mul_le_mul_right _ (by omega)
    omega
  have HR : Hid (∀ i, i < n → (rw' rows i).length ≤ 1048576) := fun i hi => hrl i (by omega)
  have HT : Hid (Tab w base v us rows) := h
  have HU : Hid (Under S v us) := hu
  have shape : ∃ a c, v = .slice a n c := by
    obtain ⟨a, c, e⟩ := own_shape h.outer
    exact ⟨a, c, by rw [e, h.len, hn]⟩
  obtain ⟨a, c, rfl⟩ := shape
  have HA : Hid (∀ i, i < n → ∃ g, a = some ⟨g, 0, none⟩) := by
    intro i hi
    obtain ⟨g, c', e⟩ := own_some h.outer (by have := h.len; omega)
    cases e
    exact ⟨g, rfl⟩
  rw [← hn] at hl ⊢
  have HN : Hid (rows.length = n) := hn.symm
  clear h hu hrl hn
  go_enter Try.func23, Try.ntmps23
  go_wp2
  go_loopw [1, 5] (fun q i wr => ∃ k : Nat, k ≤ n ∧ i = .int .i64 k ∧ q = .int .i64 (k0 + 2 * (offN rows k : Int)) ∧ Hid (Tab wr base (.slice a n c) us (mkT k0 rows k)) ∧ Hid (Out base S w wr)) (fun _ i _ => n - (intOf i).toNat)
  case atStart => exact ⟨0, Nat.zero_le _, rfl, by simp [offN], by rw [mkT_zero]; exact HT.out, Out.refl _ _ _⟩
  case round =>
    obtain ⟨k, hk, rfl, rfl, hT, hO⟩ := hrel
    have hoff := HO.out k hk
    by_cases hlt : k < n
    · obtain ⟨g, rfl⟩ := HA.out k hlt
      have ho := hT.out.outer
      have hul := HL.out
      rw [hul] at ho
      have d1 := ho.cellAt k (by omega)
      rw [List.getElem?_eq_getElem (by omega), show us[k] = vl us k by simp [vl, List.getElem?_eq_getElem (show k < us.length by omega)]] at d1
      have hin := hT.out.inner k (by omega)
      rw [mkT_at _ _ _ _ (by rw [HN.out]; exact hlt), if_neg (by omega)] at hin
      have HIN : Hid (wr.ownsRow base 32 2 (vl us k) (rw' rows k).length (cellsR (rw' rows k))) := hin
      obtain ⟨x, hx⟩ : ∃ x, x = vl us k := ⟨_, rfl⟩
      have HX : Hid (x = vl us k) := hx
      rw [← hx] at d1 HIN
      have hrk := HR.out k hlt
      have hnext := HO.out (k + 1) (by omega)
      clear ho hul hin hx
      go_wp2_with (go_at_call 22; refine (markS_any x (rw' rows k) base _ _ hrk (by omega) (by omega) HIN.out).mono ?_; rintro e w2 ⟨rfl, o2, g2⟩)
      go_roundw
      case rel =>
        refine ⟨k + 1, by omega, by go_num, ?_, ?_, hO.out.trans (Out.of_grown g2 (fun b hb => ?_))⟩
        · simp only [offN]; congr 1; omega
        · have := hT.out.turn (k := k) (ps := mkF (k0 + 2 * (offN rows k : Int)) (rw' rows k) (rw' rows k).length) (by have := HL.out; omega) (by rw [mkF_len, ← HX.out]; exact o2) (by rw [← HX.out]; exact g2)
          rw [mkT_set] at this
          exact this
        · rw [HX.out] at hb
          exact ⟨((hT.out.inner k (by have := HL.out; omega)).lt b hb).1, HU.out.2 k (by have := HL.out; omega) b hb⟩
      case measure => simp [intOf]; omega
    · obtain rfl : k = n := by omega
      go_wp2
      go_ret
      exact ⟨rfl, hT.out, hO.out⟩

set_option maxRecDepth 100000 in
set_option maxHeartbeats 2000000 in
theorem heldT_any (v : Value) (rows : List (List Fr)) (k0 : Int) (w : World) (h : RdT w v (mkT k0 rows rows.length)) (hl : rows.length ≤ 1048576) (hrl : ∀ i, i < rows.length → (rw' rows i).length ≤ 1048576) (hk0 : 0 ≤ k0) (hk1 : k0 ≤ 1000000000000000) :
    Calls Try.prog 24 #[v, .int .i64 k0] w fun e w' => e = .returned (.int .i64 (k0 + 2 * (offN rows rows.length : Int))) ∧ Below w.heap.size w w' := by
  obtain ⟨a, c, rfl, _, _, _, h5⟩ := h
  rw [mkT_len] at h5 ⊢
  obtain ⟨n, hn⟩ : ∃ n, n = rows.length := ⟨_, rfl⟩
  have HO : Hid (∀ i, i ≤ n → (offN rows i : Int) ≤ 1099511627776) := by
    intro i hi
    have := offN_le hrl i (by omega)
    have : i * 1048576 ≤ 1048576 * 1048576 := Nat.mul_le_mul_right _ (by omega)
    omega
  have HR : Hid (∀ i, i < n → (rw' rows i).length ≤ 1048576) := fun i hi => hrl i (by omega)
  have H5 : Hid (∀ i, i < n → ∃ b off u, a = some ⟨b, off, none⟩ ∧ w.cell? ⟨b, off + i, none⟩ = some u ∧ RdR w u (mkF (k0 + 2 * (offN rows i : Int)) (rw' rows i) (rw' rows i).length)) := by
    intro i hi
    have := h5 i (by omega)
    rw [mkT_at _ _ _ _ (by omega), if_pos (by omega)] at this
    exact this
  rw [← hn] at hl ⊢
  clear h5 hrl hn
  go_enter Try.func24, Try.ntmps24
  go_wp2
  go_loopw [1, 5] (fun q i wr => ∃ k : Nat, k ≤ n ∧ i = .int .i64 k ∧ q = .int .i64 (k0 + 2 * (offN rows k : Int)) ∧ Hid (Below w.heap.size w wr)) (fun _ i _ => n - (intOf i).toNat)
  case atStart => exact ⟨0, Nat.zero_le _, rfl, by simp [offN], Below.refl _ _⟩
  case round =>
    obtain ⟨k, hk, rfl, rfl, hB⟩ := hrel
    have hoff := HO.out k hk
    by_cases hlt : k < n
    · obtain ⟨b, off, u, rfl, c1, hu⟩ := H5.out k hlt
      have hs := World.block_lt_of_cell? w _ c1
      replace c1 := (hB.out.cell (p := ⟨b, off + k, none⟩) hs).trans c1
      have HU : Hid (RdR wr u (mkF (k0 + 2 * (offN rows k : Int)) (rw' rows k) (rw' rows k).length)) := hu.below hB.out
      have hrk := HR.out k hlt
      have hsz := hB.out.size
      clear hu hs
      go_wp2_with (go_at_call 27; refine (heldS_any u (rw' rows k) _ _ hrk (by omega) (by omega) HU.out).mono ?_; rintro e w2 ⟨rfl, m2, hw2⟩; have hb2 : Below wr.heap.size wr w2 := by { rw [hw2]; exact below_drewN (Below.refl _ _) _ }; clear hw2)
      go_roundw
      case rel =>
        refine ⟨k + 1, by omega, by go_num, ?_, hB.out.trans (hb2.mono hsz)⟩
        simp only [offN]; congr 1; omega
      case measure => simp [intOf]; omega
    · obtain rfl : k = n := by omega
      go_wp2
      go_ret
      exact ⟨rfl, hB.out⟩
end Go.Proofs.Ytkcdpjcfbpjkean
