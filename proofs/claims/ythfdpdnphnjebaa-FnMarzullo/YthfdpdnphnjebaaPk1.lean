/- Several texts of this proof laid one behind the other: each has its own heading below. -/
import Derived.Test.YthfdpdnphnjebaaHpMath
import Derived.Test.YthfdpdnphnjebaaAgrP1
import Derived.Test.YthfdpdnphnjebaaCutR
import Derived.Deep.RegionHeld3
import Derived.Test.YthfdpdnphnjebaaRgW0
import Derived.Test.YthfdpdnphnjebaaAgrW1

/- The ends of claims in memory, and the walks of what a heap asks of them: how many there are, is one less, two change places. -/
namespace Go.Proofs.Ythfdpdnphnjebaa
open Go.RowKit Go.Proofs.Ythfdpdnphnjebaa.RM

/-- an end of a claim; is it the high one -/
abbrev En := Fr × Bool
def er (es : List En) (j : Nat) : En := es[j]?.getD ((0, 0), false)
def cellsE (es : List En) : List Value := es.flatMap fun s => [Value.int .i64 s.1.1, .int .i64 s.1.2, .bool s.2]
theorem cellsE_cons (s : En) (r : List En) : cellsE (s :: r) = Value.int .i64 s.1.1 :: .int .i64 s.1.2 :: .bool s.2 :: cellsE r := rfl
theorem cellsE_append (a b : List En) : cellsE (a ++ b) = cellsE a ++ cellsE b := by simp [cellsE]
theorem cellsE_len (ss : List En) : (cellsE ss).length = ss.length * 3 := by
  induction ss with
  | nil => rfl
  | cons s r ih => rw [cellsE_cons]; simp [ih]; omega
theorem cellsE_at : ∀ (ss : List En) (j : Nat), j < ss.length → (cellsE ss)[j * 3]? = some (.int .i64 (er ss j).1.1) ∧ (cellsE ss)[j * 3 + 1]? = some (.int .i64 (er ss j).1.2) ∧ (cellsE ss)[j * 3 + 2]? = some (.bool (er ss j).2)
  | [], j, h => by simp at h
  | s :: r, 0, _ => ⟨rfl, rfl, rfl⟩
  | s :: r, j + 1, h => by
    have ih := cellsE_at r j (by simpa using h)
    rw [cellsE_cons, show (j + 1) * 3 = j * 3 + 1 + 1 + 1 by omega]
    simpa [er] using ih
theorem cellsE_set : ∀ (ss : List En) (j : Nat) (x1 x2 : Int) (b : Bool), j < ss.length → (((cellsE ss).set (j * 3) (.int .i64 x1)).set (j * 3 + 1) (.int .i64 x2)).set (j * 3 + 2) (.bool b) = cellsE (ss.set j ((x1, x2), b))
  | [], j, _, _, _, h => by simp at h
  | s :: r, 0, _, _, _, _ => rfl
  | s :: r, j + 1, x1, x2, b, h => by
    have ih := cellsE_set r j x1 x2 b (by simpa using h)
    rw [cellsE_cons, show (j + 1) * 3 = j * 3 + 1 + 1 + 1 by omega]
    simp only [List.set_cons_succ]
    rw [ih]; rfl
theorem cellsE_one (ps : List En) : ∀ u ∈ cellsE ps, u.oneCell' = true := by
  intro u hu
  unfold cellsE at hu
  rw [List.mem_flatMap] at hu
  obtain ⟨p, _, h⟩ := hu
  simp at h
  rcases h with rfl | rfl | rfl <;> rfl
theorem cellsE_take : ∀ (ps : List En) (k : Nat), (cellsE ps).take (k * 3) = cellsE (ps.take k)
  | [], k => by simp [cellsE]
  | p :: r, 0 => rfl
  | p :: r, k + 1 => by
    rw [cellsE_cons, show (k + 1) * 3 = k * 3 + 1 + 1 + 1 by omega, List.take_succ_cons, List.take_succ_cons, List.take_succ_cons, cellsE_take r k, List.take_succ_cons, cellsE_cons]
theorem infoE : (Try.prog.info? 50).map (fun i => (i.zero, i.size, i.bytes)) = some (some (.agg #[.int .i64 0, .int .i64 0, .bool false]), 3, 24) := by kernel_rfl
theorem own_E {W : World} {base g n c : Nat} {ss : List En} (h : W.ownsRow base 50 3 (.slice (some ⟨g, 0, none⟩) n c) n (cellsE ss)) (hl : ss.length = n) (j : Nat) (hj : j < n) :
    W.cell? ⟨g, j * 3, none⟩ = some (.int .i64 (er ss j).1.1) ∧ W.cell? ⟨g, j * 3 + 1, none⟩ = some (.int .i64 (er ss j).1.2) ∧ W.cell? ⟨g, j * 3 + 2, none⟩ = some (.bool (er ss j).2) := by
  have h1 := h.cellAt (j * 3) (by omega)
  have h2 := h.cellAt (j * 3 + 1) (by omega)
  have h3 := h.cellAt (j * 3 + 2) (by omega)
  have k := cellsE_at ss j (by omega)
  exact ⟨h1.trans k.1, h2.trans k.2.1, h3.trans k.2.2⟩
theorem own_setE {W : World} {base g n c : Nat} {ss : List En} (h : W.ownsRow base 50 3 (.slice (some ⟨g, 0, none⟩) n c) n (cellsE ss)) (hl : ss.length = n) (k : Nat) (hk : k < n) (x1 x2 : Int) (b : Bool) :
    (((W.setCell ⟨g, k * 3, none⟩ (.int .i64 x1)).setCell ⟨g, k * 3 + 1, none⟩ (.int .i64 x2)).setCell ⟨g, k * 3 + 2, none⟩ (.bool b)).ownsRow base 50 3 (.slice (some ⟨g, 0, none⟩) n c) n (cellsE (ss.set k ((x1, x2), b))) ∧
    W.grownBy (((W.setCell ⟨g, k * 3, none⟩ (.int .i64 x1)).setCell ⟨g, k * 3 + 1, none⟩ (.int .i64 x2)).setCell ⟨g, k * 3 + 2, none⟩ (.bool b)) (some g) := by
  obtain ⟨p1, q1⟩ := h.stored (k * 3) (.int .i64 x1)
  obtain ⟨p2, q2⟩ := p1.stored (k * 3 + 1) (.int .i64 x2)
  obtain ⟨p3, q3⟩ := p2.stored (k * 3 + 2) (.bool b)
  rw [cellsE_set _ _ _ _ _ (by rw [hl]; exact hk)] at p3
  exact ⟨p3, (q1.trans q2).trans q3⟩
/-- a row cut to its first k ends -/
theorem own_cutE {W : World} {base g n c : Nat} {ps : List En} (h : W.ownsRow base 50 3 (.slice (some ⟨g, 0, none⟩) n c) n (cellsE ps)) (k : Nat) (hk : k ≤ n) :
    W.ownsRow base 50 3 (.slice (some ⟨g, 0, none⟩) k c) k (cellsE (ps.take k)) := by
  obtain ⟨hl, h2⟩ := h
  rcases h2 with ⟨e, _⟩ | ⟨g', cap, cur, e, h3, h4, h5, h6, h7, h8⟩
  · cases e
  · cases e
    have e1 : cur.toList.take (k * 3) = cellsE (ps.take k) := by
      rw [← cellsE_take, ← h8, List.take_take]
      congr 1
      omega
    refine ⟨?_, .inr ⟨g, c, cur, rfl, h3, h4, by omega, h6, h7, e1⟩⟩
    rw [cellsE_len, List.length_take]
    rw [cellsE_len] at hl
    omega
/-- a Low stands ahead of a High at the same number -/
def lsE (a b : En) : Bool := if a.1 = b.1 then (!a.2 && b.2) else le7 a.1 b.1
theorem hidH {p : Prop} (h : p) : Hid p := h
theorem grown_drew {W W' : World} {row : Option Nat} (h : W.grownBy W' row) : W.grownBy W'.drew row := ⟨h.os, h.tape, h.output, h.size, h.block⟩

set_option maxHeartbeats 1000000 in
theorem iLenH_any (a : Option Addr) (n c : Nat) (w : World) :
    Calls Try.prog 68 #[.slice a n c] w fun e w' => e = .returned (.int .i64 n) ∧ w' = w := by
  go_enter Try.func68, Try.ntmps68
  go_wp2
  go_ret
  exact ⟨rfl, rfl⟩

set_option maxRecDepth 100000 in
set_option maxHeartbeats 4000000 in
theorem iSwapH_any (lo g c i k : Nat) (es : List En) (w : World) (h : w.ownsRow lo 50 3 (.slice (some ⟨g, 0, none⟩) es.length c) es.length (cellsE es)) (hi : i < es.length) (hk : k < es.length) :
    Calls Try.prog 70 #[.slice (some ⟨g, 0, none⟩) es.length c, .int .i64 i, .int .i64 k] w fun e w' => e = .returned (.tuple #[]) ∧ w'.ownsRow lo 50 3 (.slice (some ⟨g, 0, none⟩) es.length c) es.length (cellsE (Hp.swp ((0, 0), false) es i k)) ∧ w.grownBy w' (some g) := by
  obtain ⟨a1, a2, a3⟩ := own_E h rfl i hi
  obtain ⟨b1, b2, b3⟩ := own_E h rfl k hk
  have f1 := h.frozenAt (i * 3)
  have f2 := h.frozenAt (i * 3 + 1)
  have f3 := h.frozenAt (i * 3 + 2)
  have f4 := h.frozenAt (k * 3)
  have f5 := h.frozenAt (k * 3 + 1)
  have f6 := h.frozenAt (k * 3 + 2)
  have HW : Hid (Hp.swp ((0, 0), false) es i k = (es.set i (er es k)).set k (er es i)) := rfl
  obtain ⟨x, hx⟩ : ∃ x, x = er es i := ⟨_, rfl⟩
  obtain ⟨y, hy⟩ : ∃ y, y = er es k := ⟨_, rfl⟩
  rw [← hx] at a1 a2 a3 HW
  rw [← hy] at b1 b2 b3 HW
  have HXY : Hid (i = k → x = y) := by intro e; rw [hx, hy, e]
  clear hx hy
  obtain ⟨⟨x1, x2⟩, x3⟩ := x
  obtain ⟨⟨y1, y2⟩, y3⟩ := y
  have HO := hidH h
  clear h
  have HF : Hid (∀ W : World, W.ownsRow lo 50 3 (.slice (some ⟨g, 0, none⟩) es.length c) es.length (cellsE es) →
      ((((((W.setCell ⟨g, i * 3, none⟩ (.int .i64 y1)).setCell ⟨g, i * 3 + 1, none⟩ (.int .i64 y2)).setCell ⟨g, i * 3 + 2, none⟩ (.bool y3)).setCell ⟨g, k * 3, none⟩ (.int .i64 x1)).setCell ⟨g, k * 3 + 1, none⟩ (.int .i64 x2)).setCell ⟨g, k * 3 + 2, none⟩ (.bool x3)).ownsRow lo 50 3 (.slice (some ⟨g, 0, none⟩) es.length c) es.length (cellsE (Hp.swp ((0, 0), false) es i k)) ∧
      W.grownBy ((((((W.setCell ⟨g, i * 3, none⟩ (.int .i64 y1)).setCell ⟨g, i * 3 + 1, none⟩ (.int .i64 y2)).setCell ⟨g, i * 3 + 2, none⟩ (.bool y3)).setCell ⟨g, k * 3, none⟩ (.int .i64 x1)).setCell ⟨g, k * 3 + 1, none⟩ (.int .i64 x2)).setCell ⟨g, k * 3 + 2, none⟩ (.bool x3)) (some g)) := by
    intro W hW
    obtain ⟨p1, q1⟩ := own_setE hW rfl i hi y1 y2 y3
    obtain ⟨p2, q2⟩ := own_setE p1 (by rw [List.length_set]) k hk x1 x2 x3
    rw [HW.out]
    exact ⟨p2, q1.trans q2⟩
  dsimp only at a1 a2 a3 b1 b2 b3
  rcases Nat.lt_trichotomy i k with hik | hik | hik
  · go_enter Try.func70, Try.ntmps70
    go_region
    all_goals go_end0
    all_goals exact ⟨rfl, (HF.out w HO.out).1.drew, grown_drew (HF.out w HO.out).2⟩
  · subst hik
    have hxy := HXY.out rfl
    cases hxy
    go_enter Try.func70, Try.ntmps70
    go_region
    all_goals go_end0
    all_goals exact ⟨rfl, (HF.out w HO.out).1.drew, grown_drew (HF.out w HO.out).2⟩
  · go_enter Try.func70, Try.ntmps70
    go_region
    all_goals go_end0
    all_goals exact ⟨rfl, (HF.out w HO.out).1.drew, grown_drew (HF.out w HO.out).2⟩
end Go.Proofs.Ythfdpdnphnjebaa

/- The walk of the heap's own order. -/
namespace Go.Proofs.Ythfdpdnphnjebaa
open Go.RowKit Go.Proofs.Ythfdpdnphnjebaa.RM

theorem ret_bH {a b : Bool} (h : a = b) : Ending.returned (.bool a) = .returned (.bool b) := by rw [h]
set_option maxRecDepth 100000 in
set_option maxHeartbeats 4000000 in
theorem iLessH_any (lo g c n i k : Nat) (es : List En) (w : World) (h : w.ownsRow lo 50 3 (.slice (some ⟨g, 0, none⟩) n c) n (cellsE es)) (hl : es.length = n) (hi : i < n) (hk : k < n) :
    Calls Try.prog 69 #[.slice (some ⟨g, 0, none⟩) n c, .int .i64 i, .int .i64 k] w fun e w' => e = .returned (.bool (lsE (er es i) (er es k))) ∧ Below w.heap.size w w' := by
  obtain ⟨a1, a2, a3⟩ := own_E h hl i hi
  obtain ⟨b1, b2, b3⟩ := own_E h hl k hk
  obtain ⟨x, hx⟩ : ∃ x, x = er es i := ⟨_, rfl⟩
  obtain ⟨y, hy⟩ : ∃ y, y = er es k := ⟨_, rfl⟩
  rw [← hx] at a1 a2 a3 ⊢
  rw [← hy] at b1 b2 b3 ⊢
  clear hx hy h hl
  obtain ⟨⟨x1, x2⟩, x3⟩ := x
  obtain ⟨⟨y1, y2⟩, y3⟩ := y
  dsimp only at a1 a2 a3 b1 b2 b3
  have HLT := hidH (fun W => iLess_any x1 x2 y1 y2 W)
  by_cases e0 : (x1, x2) = (y1, y2)
  · injection e0 with e1 e2
    subst e1 e2
    have HE : Hid (lsE ((x1, x2), x3) ((x1, x2), y3) = (!x3 && y3)) := if_pos rfl
    cases x3 <;> cases y3
    all_goals
      go_enter Try.func69, Try.ntmps69
      go_wp2
      go_region
      all_goals go_wp2
      all_goals go_ret
      all_goals exact ⟨ret_bH HE.out.symm, by first | exact Below.refl _ _ | exact (Below.refl _ _).drew | exact below_drewN (Below.refl _ _) _⟩
  · have HE : Hid (lsE ((x1, x2), x3) ((y1, y2), y3) = lessB x1 x2 y1 y2) := if_neg e0
    by_cases e1 : x1 = y1
    · subst e1
      have e2 : ¬ x2 = y2 := fun h => e0 (by rw [h])
      go_enter Try.func69, Try.ntmps69
      go_wp2
      go_region
      all_goals go_wp2
      all_goals go_region_with (go_at_call 14; refine (HLT.out _).mono ?_; rintro e w1 ⟨rfl, hb⟩; have B1 : Below w.heap.size w w1 := Below.trans (by first | exact Below.refl _ _ | exact (Below.refl _ _).drew | exact (Below.refl _ _).drew.drew | exact below_drewN (Below.refl _ _) _) (hb.mono (by simp)); clear hb)
      all_goals go_wp2
      all_goals go_ret
      all_goals exact ⟨ret_bH HE.out.symm, by first | exact B1 | exact B1.drew | exact below_drewN B1 _⟩
    ·
      go_enter Try.func69, Try.ntmps69
      go_wp2
      go_region
      all_goals go_wp2
      all_goals go_region_with (go_at_call 14; refine (HLT.out _).mono ?_; rintro e w1 ⟨rfl, hb⟩; have B1 : Below w.heap.size w w1 := Below.trans (by first | exact Below.refl _ _ | exact (Below.refl _ _).drew | exact (Below.refl _ _).drew.drew | exact below_drewN (Below.refl _ _) _) (hb.mono (by simp)); clear hb)
      all_goals go_wp2
      all_goals go_ret
      all_goals exact ⟨ret_bH HE.out.symm, by first | exact B1 | exact B1.drew | exact below_drewN B1 _⟩
end Go.Proofs.Ythfdpdnphnjebaa

/- A heap of ends in memory: what its methods are, what stays; the walk of going up. -/
namespace Go.Proofs.Ythfdpdnphnjebaa
open Go.RowKit Go.Proofs.Ythfdpdnphnjebaa.RM

abbrev dE : En := ((0, 0), false)
def okE (e : En) : Prop := ok7 e.1 = true
theorem lsE_no {a b : En} (ha : okE a) (hb : okE b) : lsE a b = false ↔ v7 b.1 < v7 a.1 ∨ (v7 a.1 = v7 b.1 ∧ (a.2 = true ∨ b.2 = false)) := by
  unfold lsE
  by_cases e : a.1 = b.1
  · rw [if_pos e, e]
    have h0 : ¬ v7 b.1 < v7 b.1 := Rat.lt_irrefl
    cases a.2 <;> cases b.2 <;> simp [h0]
  · rw [if_neg e, le7_no ha hb]
    have hne : v7 a.1 ≠ v7 b.1 := fun h => e (v7_inj ha hb h)
    constructor
    · intro h
      exact Or.inl (Rat.not_le.1 fun k => hne (Rat.le_antisymm k h))
    · rintro (h | h)
      · exact Rat.le_of_lt h
      · exact absurd h.1 hne
theorem lsE_yes {a b : En} (ha : okE a) (hb : okE b) : lsE a b = true ↔ v7 a.1 < v7 b.1 ∨ (v7 a.1 = v7 b.1 ∧ a.2 = false ∧ b.2 = true) := by
  have := lsE_no ha hb
  rw [← Bool.not_eq_false, this]
  constructor
  · intro h
    by_cases k : v7 a.1 < v7 b.1
    · exact Or.inl k
    · have k2 : v7 a.1 = v7 b.1 := Rat.le_antisymm (Rat.not_lt.1 fun q => h (Or.inl q)) (Rat.not_lt.1 k)
      refine Or.inr ⟨k2, ?_, ?_⟩
      · cases h2 : a.2
        · rfl
        · exact absurd (Or.inr ⟨k2, Or.inl h2⟩) h
      · cases h2 : b.2
        · exact absurd (Or.inr ⟨k2, Or.inr h2⟩) h
        · rfl
  · rintro (h | ⟨h1, h2, h3⟩) (k | ⟨k1, k2⟩)
    · exact Rat.not_lt.2 (Rat.le_of_lt h) k
    · rw [k1] at h; exact Rat.lt_irrefl h
    · rw [h1] at k; exact Rat.lt_irrefl k
    · rcases k2 with k2 | k2
      · rw [h2] at k2; cases k2
      · rw [h3] at k2; cases k2
theorem ordE : Hp.Ord lsE okE where
  tr a b c ha hb hc h1 h2 := by
    rw [lsE_no hb ha] at h1
    rw [lsE_no hc hb] at h2
    rw [lsE_no hc ha]
    rcases h1 with h1 | ⟨h1, k1⟩ <;> rcases h2 with h2 | ⟨h2, k2⟩
    · exact Or.inl (Rat.not_le.1 fun h => Rat.not_le.2 h2 (Rat.le_trans h (Rat.le_of_lt h1)))
    · exact Or.inl (by rw [h2]; exact h1)
    · exact Or.inl (by rw [← h1]; exact h2)
    · refine Or.inr ⟨h2.trans h1, ?_⟩
      rcases k2 with k2 | k2
      · exact Or.inl k2
      · rcases k1 with k1 | k1
        · rw [k2] at k1; cases k1
        · exact Or.inr k1
  asym a b ha hb h := by
    rw [lsE_yes ha hb] at h
    rw [lsE_no hb ha]
    rcases h with h | ⟨h1, h2, h3⟩
    · exact Or.inl h
    · exact Or.inr ⟨h1.symm, Or.inl h3⟩
theorem er_at (es : List En) (i : Nat) : er es i = Hp.at' dE es i := rfl

/-- what a heap's method changes: the box at H and the row at g, and new blocks -/
structure KpH (H g : Nat) (w w' : World) : Prop where
  os : w'.os = w.os
  tape : w'.tape = w.tape
  output : w'.output = w.output
  size : w.heap.size ≤ w'.heap.size
  block : ∀ k, k < w.heap.size → k ≠ H → k ≠ g → w'.heap[k]? = w.heap[k]?
theorem KpH.refl (H g : Nat) (w : World) : KpH H g w w := ⟨rfl, rfl, rfl, Nat.le_refl _, fun _ _ _ _ => rfl⟩
theorem KpH.trans {H g g' : Nat} {a b c : World} (h : KpH H g a b) (k : KpH H g' b c) (hg : g' = g ∨ a.heap.size ≤ g') : KpH H g a c :=
  ⟨k.os.trans h.os, k.tape.trans h.tape, k.output.trans h.output, Nat.le_trans h.size k.size, fun i hi h1 h2 => (k.block i (Nat.lt_of_lt_of_le hi h.size) h1 (by rcases hg with e | e <;> omega)).trans (h.block i hi h1 h2)⟩
theorem KpH.next {H g : Nat} {a b c : World} (h : KpH H g a b) (k : KpH H g b c) : KpH H g a c := h.trans k (.inl rfl)
theorem KpH.of_below {H g : Nat} {w w' : World} (h : Below w.heap.size w w') : KpH H g w w' := ⟨h.os, h.tape, h.output, h.size, fun k hk _ _ => h.block k hk⟩
theorem KpH.of_row {H g : Nat} {w w' : World} (h : w.grownBy w' (some g)) : KpH H g w w' := ⟨h.os, h.tape, h.output, h.size, fun k hk _ hg => h.block k hk (by simpa using hg)⟩
theorem KpH.set {H g o : Nat} (w : World) (v : Value) : KpH H g w (w.setCell ⟨H, o, none⟩ v) :=
  ⟨rfl, rfl, rfl, by simp, fun k _ h1 _ => Below.heap_setCell w ⟨H, o, none⟩ v k (by show k ≠ H; exact h1)⟩
theorem KpH.below {H g B : Nat} {w w' : World} (h : KpH H g w w') (h1 : B ≤ H) (h2 : B ≤ g) (hs : B ≤ w.heap.size) : Below B w w' :=
  ⟨h.os, h.tape, h.output, h.size, fun k hk => h.block k (Nat.lt_of_lt_of_le hk hs) (by omega) (by omega)⟩
theorem KpH.isB {H g B : Nat} {w w' : World} {vs : Array Value} {t : TypeId} (h : KpH H g w w') (hb : IsB w B vs t) (h1 : B ≠ H) (h2 : B ≠ g) : IsB w' B vs t := (h.block B hb.lt h1 h2).trans hb
/-- the box at H holds the slice of the row at g, which holds these ends -/
def HpS (W : World) (lo H g c n : Nat) (es : List En) : Prop :=
  IsB W H #[.slice (some ⟨g, 0, none⟩) n c] 47 ∧ W.ownsRow lo 50 3 (.slice (some ⟨g, 0, none⟩) n c) n (cellsE es) ∧ es.length = n ∧ g ≠ H
theorem HpS.below {W W' : World} {lo H g c n : Nat} {es : List En} (h : HpS W lo H g c n es) (hb : Below W.heap.size W W') : HpS W' lo H g c n es :=
  ⟨h.1.below hb, own_below h.2.1 hb, h.2.2⟩
theorem HpS.row {W W' : World} {lo H g c n : Nat} {es es' : List En} (h : HpS W lo H g c n es) (ho : W'.ownsRow lo 50 3 (.slice (some ⟨g, 0, none⟩) n c) n (cellsE es')) (hl : es'.length = n) (hg : W.grownBy W' (some g)) : HpS W' lo H g c n es' :=
  ⟨(hg.block H h.1.lt (by simpa using fun e => h.2.2.2 e.symm)).trans h.1, ho, hl, h.2.2.2⟩
theorem HpS.c0 {W : World} {lo H g c n : Nat} {es : List En} (h : HpS W lo H g c n es) : W.cell? ⟨H, 0, none⟩ = some (.slice (some ⟨g, 0, none⟩) n c) := h.1.cell 0 rfl
theorem HpS.lt {W : World} {lo H g c n : Nat} {es : List En} (h : HpS W lo H g c n es) : H < W.heap.size ∧ lo ≤ g ∧ g < W.heap.size := ⟨h.1.lt, (h.2.1.lt g rfl).1, (h.2.1.lt g rfl).2⟩
abbrev hpv (H : Nat) : Value := .iface 64 (.pointer (some ⟨H, 0, none⟩))

set_option maxRecDepth 100000 in
theorem mLess0 (H : Nat) (w : World) : (method 198 64 (.pointer (some ⟨H, 0, none⟩)) "Less").run Try.prog w = ((do pure (69, ← loadVar 47 ⟨H, 0, none⟩)) : Sem (FuncId × Value)).run Try.prog w := by kernel_rfl
theorem mSwap0 (H : Nat) (w : World) : (method 198 64 (.pointer (some ⟨H, 0, none⟩)) "Swap").run Try.prog w = ((do pure (70, ← loadVar 47 ⟨H, 0, none⟩)) : Sem (FuncId × Value)).run Try.prog w := by kernel_rfl
theorem mLen0 (H : Nat) (w : World) : (method 198 64 (.pointer (some ⟨H, 0, none⟩)) "Len").run Try.prog w = ((do pure (68, ← loadVar 47 ⟨H, 0, none⟩)) : Sem (FuncId × Value)).run Try.prog w := by kernel_rfl
theorem mPush0 (H : Nat) (w : World) : (method 198 64 (.pointer (some ⟨H, 0, none⟩)) "Push").run Try.prog w = .ok (72, .pointer (some ⟨H, 0, none⟩)) w := by kernel_rfl
theorem mPop0 (H : Nat) (w : World) : (method 198 64 (.pointer (some ⟨H, 0, none⟩)) "Pop").run Try.prog w = .ok (71, .pointer (some ⟨H, 0, none⟩)) w := by kernel_rfl
theorem ldH (H : Nat) (w : World) (v : Value) (c0 : w.cell? ⟨H, 0, none⟩ = some v) : (loadVar 47 ⟨H, 0, none⟩).run Try.prog w = .ok v w := by
  simp [loadVar, c0, go_sem]
theorem mLess {H : Nat} {w : World} {v : Value} (c0 : w.cell? ⟨H, 0, none⟩ = some v) : (method 198 64 (.pointer (some ⟨H, 0, none⟩)) "Less").run Try.prog w = .ok (69, v) w := by
  rw [mLess0]; simp [ldH H w v c0]
theorem mSwap {H : Nat} {w : World} {v : Value} (c0 : w.cell? ⟨H, 0, none⟩ = some v) : (method 198 64 (.pointer (some ⟨H, 0, none⟩)) "Swap").run Try.prog w = .ok (70, v) w := by
  rw [mSwap0]; simp [ldH H w v c0]
theorem mLen {H : Nat} {w : World} {v : Value} (c0 : w.cell? ⟨H, 0, none⟩ = some v) : (method 198 64 (.pointer (some ⟨H, 0, none⟩)) "Len").run Try.prog w = .ok (68, v) w := by
  rw [mLen0]; simp [ldH H w v c0]
/-- what the heap's own order and exchange do, told of the box -/
theorem HpS.less {W : World} {lo H g c n : Nat} {es : List En} (h : HpS W lo H g c n es) (i k : Nat) (hi : i < n) (hk : k < n) : Calls Try.prog 69 #[.slice (some ⟨g, 0, none⟩) n c, .int .i64 i, .int .i64 k] W fun e w' => e = .returned (.bool (lsE (Hp.at' dE es i) (Hp.at' dE es k))) ∧ Below W.heap.size W w' :=
  iLessH_any lo g c n i k es W h.2.1 h.2.2.1 hi hk
theorem HpS.swap {W : World} {lo H g c n : Nat} {es : List En} (h : HpS W lo H g c n es) (i k : Nat) (hi : i < n) (hk : k < n) : Calls Try.prog 70 #[.slice (some ⟨g, 0, none⟩) n c, .int .i64 i, .int .i64 k] W fun e w' => e = .returned (.tuple #[]) ∧ HpS w' lo H g c n (Hp.swp dE es i k) ∧ KpH H g W w' := by
  have hl := h.2.2.1
  subst hl
  refine (iSwapH_any lo g c i k es W h.2.1 hi hk).mono ?_
  rintro e w' ⟨rfl, h1, h2⟩
  exact ⟨rfl, h.row h1 (by rw [Hp.swp_len]) h2, KpH.of_row h2⟩

set_option maxRecDepth 100000 in
set_option maxHeartbeats 4000000 in
theorem upH_any (lo H g c n j : Nat) (es : List En) (w : World) (h : HpS w lo H g c n es) (hok : ∀ e ∈ es, okE e) (hn : n ≤ 1000) (hj : j < n) (hu : Hp.UpHp dE lsE es n j) :
    Calls Try.prog 49 #[hpv H, .int .i64 j] w fun e w' => e = .returned (.tuple #[]) ∧ ∃ es', HpS w' lo H g c n es' ∧ es'.Perm es ∧ Hp.Heap dE lsE es' n ∧ KpH H g w w' := by
  go_enter Try.func49, Try.ntmps49
  go_wp2_with fail
  have HP := hidH (List.Perm.refl es)
  replace h := hidH h
  replace hu := hidH hu
  replace hok := hidH hok
  have hB := hidH (KpH.refl H g w)
  go_loopw [1] (fun i wr => ∃ (k : Nat) (es' : List En), k < n ∧ i = .int .i64 k ∧ Hid (HpS wr lo H g c n es') ∧ Hid (es'.Perm es) ∧ Hid (Hp.UpHp dE lsE es' n k) ∧ Hid (KpH H g w wr)) (fun i _ => (intOf i).toNat)
  case atStart => exact ⟨j, es, hj, rfl, h, HP, hu, hB⟩
  case round =>
    clear h hu hB HP hj
    obtain ⟨k, el, hk, rfl, h, HP, hu, hB⟩ := hrel
    by_cases k0 : k = 0
    · subst k0
      go_wp2
      go_end0
      exact ⟨rfl, el, h.out, HP.out, Hp.up_done hu.out (Or.inl rfl), hB.out⟩
    obtain ⟨i, hi⟩ : ∃ i, i = (k - 1) / 2 := ⟨_, rfl⟩
    have HI := hidH hi
    have hw2 : ((k : Int) - 1) / 2 = (i : Int) := by omega
    have hik : i < k := by omega
    clear hi
    have c0 := h.out.c0
    have hm := mLess c0
    have HL := hidH (h.out.less k i hk (by omega))
    obtain ⟨q, hq⟩ : ∃ q, q = lsE (Hp.at' dE el k) (Hp.at' dE el i) := ⟨_, rfl⟩
    rw [← hq] at HL
    have HQ := hidH hq
    clear hq
    go_wp2_with fail
    refine HL.out.mono ?_
    rintro e w1 ⟨rfl, hb⟩
    replace h := hidH (h.out.below hb)
    replace hB := hidH (hB.out.next (KpH.of_below hb))
    clear hb c0 hm HL
    have hPi := hidH (Hp.mem_at (d := dE) (fun x hx => hok.out x (HP.out.mem_iff.1 hx)) (k := i) (by rw [h.out.2.2.1]; omega))
    cases q
    · go_wp2
      go_end0
      exact ⟨rfl, el, h.out, HP.out, Hp.up_done hu.out (Or.inr (by rw [← HI.out]; exact HQ.out.symm)), hB.out⟩
    · have c0 := h.out.c0
      have hm := mSwap c0
      have HS := hidH (h.out.swap i k (by omega) hk)
      go_wp2_with fail
      refine HS.out.mono ?_
      rintro e w2 ⟨rfl, h2, hk2⟩
      have H2 := hidH h2
      have HK := hidH hk2
      clear h2 hk2 hm c0 HS
      go_wp2
      go_roundw
      case rel =>
        have hl := h.out.2.2.1
        refine ⟨i, Hp.swp dE el i k, by omega, by first | rfl | go_num, H2.out, (Hp.swp_perm dE (by omega) (by omega)).trans HP.out, ?_, hB.out.next HK.out⟩
        have := Hp.up_step ordE (n := n) (by omega) (fun x hx => hok.out x (HP.out.mem_iff.1 hx)) hu.out (by omega) hk (by rw [← HI.out]; exact HQ.out.symm)
        show Hp.UpHp _ _ _ _ _
        rw [HI.out]; exact this
      case measure => simp [intOf]; omega
end Go.Proofs.Ythfdpdnphnjebaa

/- The walk of going down in a heap. -/
namespace Go.Proofs.Ythfdpdnphnjebaa
open Go.RowKit Go.Proofs.Ythfdpdnphnjebaa.RM

theorem lsE_same {a : En} (h : okE a) : lsE a a = false := by
  cases k : lsE a a
  · rfl
  · exact absurd (ordE.asym a a h h k) (by rw [k]; decide)

set_option maxRecDepth 100000 in
set_option maxHeartbeats 8000000 in
theorem downH_any (lo H g c n m : Nat) (es : List En) (w : World) (h : HpS w lo H g c n es) (hok : ∀ e ∈ es, okE e) (hn : n ≤ 1000) (hm : m ≤ n) (hd : Hp.DnHp dE lsE es m 0) :
    Calls Try.prog 50 #[hpv H, .int .i64 0, .int .i64 m] w fun e w' => (∃ b, e = .returned (.bool b)) ∧ ∃ es', HpS w' lo H g c n es' ∧ Hp.Same dE es es' m ∧ Hp.Heap dE lsE es' m ∧ KpH H g w w' := by
  go_enter Try.func50, Try.ntmps50
  go_wp2_with fail
  have HP := hidH (Hp.Same.refl (d := dE) es m)
  replace h := hidH h
  replace hd := hidH hd
  replace hok := hidH hok
  have hB := hidH (KpH.refl H g w)
  go_loopw [7] (fun i wr => ∃ (k : Nat) (es' : List En), k ≤ m ∧ i = .int .i64 k ∧ Hid (HpS wr lo H g c n es') ∧ Hid (Hp.Same dE es es' m) ∧ Hid (Hp.DnHp dE lsE es' m k) ∧ Hid (KpH H g w wr)) (fun i _ => m - (intOf i).toNat)
  case atStart => exact ⟨0, es, Nat.zero_le _, rfl, h, HP, hd, hB⟩
  case round =>
    clear h hd hB HP
    obtain ⟨k, el, hk, rfl, h, HP, hd, hB⟩ := hrel
    have HLN := hidH h.out.2.2.1
    have HQ : Hid (∀ i, i < n → okE (Hp.at' dE el i)) := fun i hi => Hp.mem_at (d := dE) (fun x hx => hok.out x (HP.out.1.mem_iff.1 hx)) (by rw [HLN.out]; exact hi)
    obtain ⟨j1, hj⟩ : ∃ j, j = 2 * k + 1 := ⟨_, rfl⟩
    have HJ1 := hidH hj
    have hw1 : 2 * (k : Int) + 1 = (j1 : Int) := by omega
    have hkj : k < j1 := by omega
    have hjb : j1 ≤ 2001 := by omega
    clear hj
    by_cases h1 : m ≤ j1
    · go_wp2
      go_ret
      exact ⟨⟨_, rfl⟩, el, h.out, HP.out, Hp.dn_done hd.out (fun q q0 qm qp => by have := HJ1.out; omega), hB.out⟩
    obtain ⟨j2, hj⟩ : ∃ j, j = j1 + 1 := ⟨_, rfl⟩
    have HJ2 := hidH hj
    have hw2 : (j1 : Int) + 1 = (j2 : Int) := by omega
    have hj2 : j1 < j2 := by omega
    have hj2b : j2 ≤ 2002 := by omega
    have hjk1 : j1 < n := by omega
    clear hj
    by_cases h2 : j2 < m
    · have c0 := h.out.c0
      have hme := mLess c0
      have HL := hidH (h.out.less j2 j1 (by omega) (by omega))
      obtain ⟨q, hq⟩ : ∃ q, q = lsE (Hp.at' dE el j2) (Hp.at' dE el j1) := ⟨_, rfl⟩
      rw [← hq] at HL
      have HQ1 := hidH hq
      clear hq
      go_wp2_with fail
      refine HL.out.mono ?_
      rintro e w1 ⟨rfl, hb⟩
      replace h := hidH (h.out.below hb)
      replace hB := hidH (hB.out.next (KpH.of_below hb))
      clear hb c0 hme HL
      cases q
      ·
        have HM : Hid (∀ q, 0 < q → q < m → (q - 1) / 2 = k → lsE (Hp.at' dE el q) (Hp.at' dE el j1) = false) := by
          intro q q0 qm qp
          have e1 := HJ1.out
          have e2 := HJ2.out
          rcases (show q = j1 ∨ q = j2 by omega) with e | e
          · subst e
            exact lsE_same (HQ.out _ (by omega))
          · subst e
            exact HQ1.out.symm
        have c0 := h.out.c0
        have hme := mLess c0
        have HL := hidH (h.out.less j1 k (by omega) (by omega))
        obtain ⟨q, hq⟩ : ∃ q, q = lsE (Hp.at' dE el j1) (Hp.at' dE el k) := ⟨_, rfl⟩
        rw [← hq] at HL
        have HQ2 := hidH hq
        clear hq
        go_wp2_with fail
        refine HL.out.mono ?_
        rintro e w2 ⟨rfl, hb⟩
        replace h := hidH (h.out.below hb)
        replace hB := hidH (hB.out.next (KpH.of_below hb))
        clear hb c0 hme HL
        cases q
        · go_wp2
          go_ret
          exact ⟨⟨_, rfl⟩, el, h.out, HP.out, Hp.dn_done hd.out (fun q q0 qm qp => ordE.tr _ _ _ (HQ.out k (by omega)) (HQ.out j1 (by omega)) (HQ.out q (by omega)) HQ2.out.symm (HM.out q q0 qm qp)), hB.out⟩
        · have c0 := h.out.c0
          have hme := mSwap c0
          have HS := hidH (h.out.swap k j1 (by omega) (by omega))
          go_wp2_with fail
          refine HS.out.mono ?_
          rintro e w3 ⟨rfl, g2, gk2⟩
          have H2 := hidH g2
          have HK := hidH gk2
          clear g2 gk2 hme c0 HS
          go_wp2
          go_roundw
          case rel =>
            have hl := HLN.out
            refine ⟨j1, Hp.swp dE el k j1, by omega, by first | rfl | go_num, H2.out, HP.out.swp (by omega) (by omega) (by omega), ?_, hB.out.next HK.out⟩
            exact Hp.dn_step ordE (n := m) (by omega) (fun x hx => hok.out x (HP.out.1.mem_iff.1 hx)) hd.out (by have e1 := HJ1.out; have e2 := HJ2.out; omega) (by omega) HM.out HQ2.out.symm
          case measure => simp [intOf]; omega
      ·
        have HM : Hid (∀ q, 0 < q → q < m → (q - 1) / 2 = k → lsE (Hp.at' dE el q) (Hp.at' dE el j2) = false) := by
          intro q q0 qm qp
          have e1 := HJ1.out
          have e2 := HJ2.out
          rcases (show q = j1 ∨ q = j2 by omega) with e | e
          · subst e
            exact ordE.asym _ _ (HQ.out _ (by omega)) (HQ.out _ (by omega)) HQ1.out.symm
          · subst e
            exact lsE_same (HQ.out _ (by omega))
        have c0 := h.out.c0
        have hme := mLess c0
        have HL := hidH (h.out.less j2 k (by omega) (by omega))
        obtain ⟨q, hq⟩ : ∃ q, q = lsE (Hp.at' dE el j2) (Hp.at' dE el k) := ⟨_, rfl⟩
        rw [← hq] at HL
        have HQ2 := hidH hq
        clear hq
        go_wp2_with fail
        refine HL.out.mono ?_
        rintro e w2 ⟨rfl, hb⟩
        replace h := hidH (h.out.below hb)
        replace hB := hidH (hB.out.next (KpH.of_below hb))
        clear hb c0 hme HL
        cases q
        · go_wp2
          go_ret
          exact ⟨⟨_, rfl⟩, el, h.out, HP.out, Hp.dn_done hd.out (fun q q0 qm qp => ordE.tr _ _ _ (HQ.out k (by omega)) (HQ.out j2 (by omega)) (HQ.out q (by omega)) HQ2.out.symm (HM.out q q0 qm qp)), hB.out⟩
        · have c0 := h.out.c0
          have hme := mSwap c0
          have HS := hidH (h.out.swap k j2 (by omega) (by omega))
          go_wp2_with fail
          refine HS.out.mono ?_
          rintro e w3 ⟨rfl, g2, gk2⟩
          have H2 := hidH g2
          have HK := hidH gk2
          clear g2 gk2 hme c0 HS
          go_wp2
          go_roundw
          case rel =>
            have hl := HLN.out
            refine ⟨j2, Hp.swp dE el k j2, by omega, by first | rfl | go_num, H2.out, HP.out.swp (by omega) (by omega) (by omega), ?_, hB.out.next HK.out⟩
            exact Hp.dn_step ordE (n := m) (by omega) (fun x hx => hok.out x (HP.out.1.mem_iff.1 hx)) hd.out (by have e1 := HJ1.out; have e2 := HJ2.out; omega) (by omega) HM.out HQ2.out.symm
          case measure => simp [intOf]; omega
    ·
      have HM : Hid (∀ q, 0 < q → q < m → (q - 1) / 2 = k → lsE (Hp.at' dE el q) (Hp.at' dE el j1) = false) := by
        intro q q0 qm qp
        have e1 := HJ1.out
        have e2 := HJ2.out
        rcases (show q = j1 ∨ q = j2 by omega) with e | e
        · subst e
          exact lsE_same (HQ.out _ (by omega))
        · subst e
          omega
      have c0 := h.out.c0
      have hme := mLess c0
      have HL := hidH (h.out.less j1 k (by omega) (by omega))
      obtain ⟨q, hq⟩ : ∃ q, q = lsE (Hp.at' dE el j1) (Hp.at' dE el k) := ⟨_, rfl⟩
      rw [← hq] at HL
      have HQ2 := hidH hq
      clear hq
      go_wp2_with fail
      refine HL.out.mono ?_
      rintro e w2 ⟨rfl, hb⟩
      replace h := hidH (h.out.below hb)
      replace hB := hidH (hB.out.next (KpH.of_below hb))
      clear hb c0 hme HL
      cases q
      · go_wp2
        go_ret
        exact ⟨⟨_, rfl⟩, el, h.out, HP.out, Hp.dn_done hd.out (fun q q0 qm qp => ordE.tr _ _ _ (HQ.out k (by omega)) (HQ.out j1 (by omega)) (HQ.out q (by omega)) HQ2.out.symm (HM.out q q0 qm qp)), hB.out⟩
      · have c0 := h.out.c0
        have hme := mSwap c0
        have HS := hidH (h.out.swap k j1 (by omega) (by omega))
        go_wp2_with fail
        refine HS.out.mono ?_
        rintro e w3 ⟨rfl, g2, gk2⟩
        have H2 := hidH g2
        have HK := hidH gk2
        clear g2 gk2 hme c0 HS
        go_wp2
        go_roundw
        case rel =>
          have hl := HLN.out
          refine ⟨j1, Hp.swp dE el k j1, by omega, by first | rfl | go_num, H2.out, HP.out.swp (by omega) (by omega) (by omega), ?_, hB.out.next HK.out⟩
          exact Hp.dn_step ordE (n := m) (by omega) (fun x hx => hok.out x (HP.out.1.mem_iff.1 hx)) hd.out (by have e1 := HJ1.out; have e2 := HJ2.out; omega) (by omega) HM.out HQ2.out.symm
        case measure => simp [intOf]; omega
end Go.Proofs.Ythfdpdnphnjebaa

/- The walks of the heap's own Push and Pop, of the library's Push and Pop, and of least. -/
namespace Go.Proofs.Ythfdpdnphnjebaa
open Go.RowKit Go.Proofs.Ythfdpdnphnjebaa.RM

abbrev evE (x : En) : Value := .agg #[.int .i64 x.1.1, .int .i64 x.1.2, .bool x.2]
theorem cell_three (w : World) (a b d : Value) (t : TypeId) : ∀ j u, [a, b, d][j]? = some u → (w.alloc (.cells #[a, b, d] t)).cell? ((⟨w.heap.size, 0, none⟩ : Addr).add j) = some u := by
  intro j u h
  match j, h with
  | 0, h => simp at h; subst h; simp [go_sem, Addr.add]
  | 1, h => simp at h; subst h; simp [go_sem, Addr.add]
  | 2, h => simp at h; subst h; simp [go_sem, Addr.add]
theorem own_stN {W : World} {base e size n S : Nat} {v : Value} {xs : List Value} (h : W.ownsRow base e size v n xs) (hne : v.ownBlock ≠ some S) (o : Nat) (x : Value) : (W.setCell ⟨S, o, none⟩ x).ownsRow base e size v n xs :=
  h.kept (row := some S) ⟨rfl, rfl, rfl, by simp, fun k _ hk => Below.heap_setCell W ⟨S, o, none⟩ x k (by show k ≠ S; simpa using hk)⟩ (.inr hne)
theorem IsB.grownN {W W' : World} {B K : Nat} {vs : Array Value} {t : TypeId} (h : IsB W B vs t) (hg : W.grownBy W' (some K)) (hne : B ≠ K) : IsB W' B vs t := (hg.block B h.lt (by simpa using hne)).trans h
theorem b0H (u : World) (o : Obj) : Below u.heap.size u (u.alloc o) := (Below.refl _ _).alloc (Nat.le_refl _) o

theorem ta_any (a b : Int) (d : Bool) (W : World) : (Instr.typeAssert (.iface 50 (.agg #[.int .i64 a, .int .i64 b, .bool d])) 20 50 false).run Try.prog W = .ok (.agg #[.int .i64 a, .int .i64 b, .bool d]) W := by kernel_rfl
set_option maxRecDepth 100000 in
set_option maxHeartbeats 8000000 in
theorem pushM_any (lo H g c n : Nat) (es : List En) (x1 x2 : Int) (x3 : Bool) (w : World) (h : HpS w lo H g c n es) (hn : n ≤ 900) :
    Calls Try.prog 72 #[.pointer (some ⟨H, 0, none⟩), .iface 50 (.agg #[.int .i64 x1, .int .i64 x2, .bool x3])] w fun e w' => e = .returned (.tuple #[]) ∧ ∃ g' c', HpS w' lo H g' c' (n + 1) (es ++ [((x1, x2), x3)]) ∧ KpH H g w w' ∧ (g' = g ∨ w.heap.size ≤ g') := by
  obtain ⟨i0, hi, hz0, hz1, hz2⟩ := info_parts infoE
  have HF : Hid (∀ (W W' : World) (v : Value), Below w.heap.size w W → IsB W H #[.slice (some ⟨g, 0, none⟩) n c] 47 → W'.ownsRow lo 50 3 v (n + 1) (cellsE es ++ [.int .i64 x1, .int .i64 x2, .bool x3]) → W.grownBy W' (some g) → (v.ownBlock = some g ∨ v.ownBlock = some W.heap.size) → (v = .slice none 0 0 → False) →
      ∃ g' c', v = .slice (some ⟨g', 0, none⟩) (n + 1) c' ∧ HpS (W'.setCell ⟨H, 0, none⟩ v) lo H g' c' (n + 1) (es ++ [((x1, x2), x3)]) ∧ KpH H g w (W'.setCell ⟨H, 0, none⟩ v) ∧ (g' = g ∨ w.heap.size ≤ g')) := by
    intro W W' v hb hB ho hg hl hv
    obtain ⟨g', c', rfl, -, -, -, -⟩ := own_formQ ho (fun e => hv e)
    have hHW := hB.lt
    have hgW := (World.ownsRow.lt ho g' rfl).2
    have hgH : g ≠ H := h.2.2.2
    have hg'H : g' ≠ H := by
      rcases hl with e | e
      · have e' : some g' = some g := e
        injection e' with e'; omega
      · have e' : some g' = some W.heap.size := e
        injection e' with e'; omega
    have hB' : IsB W' H #[.slice (some ⟨g, 0, none⟩) n c] 47 := (hg.block H hHW (by simpa using fun e => hgH e.symm)).trans hB
    refine ⟨g', c', rfl, ⟨hB'.set 0 _, ?_, by simp [h.2.2.1], hg'H⟩, ((KpH.of_below hb).next (KpH.of_row hg)).next (KpH.set _ _), ?_⟩
    · rw [cellsE_append]
      exact own_stN ho (by simpa [Value.ownBlock] using hg'H) 0 _
    · rcases hl with e | e
      · have e' : some g' = some g := e
        injection e' with e'; exact Or.inl e'
      · have e' : some g' = some W.heap.size := e
        injection e' with e'; exact Or.inr (by have := hb.size; omega)
  have hta := ta_any x1 x2 x3
  have HH := hidH h
  have c0 := h.c0
  have hlo := h.lt
  have hNE : H ≠ g := fun e => h.2.2.2 e.symm
  clear h
  go_enter Try.func72, Try.ntmps72
  refine wp_region_noPanic ?_
  refine wp_region_held_drew (S := (fun _ => True)) (by kernel_rfl) ?_ (fun hHeld => ?_)
  · (try dsimp only)
    (try trivial)
  have hb := (Below.refl w.heap.size w).drew
  have D1 := hidH hb
  have I1 := hidH (HH.out.1.below hb)
  have O1 := hidH (own_below HH.out.2.1 hb)
  replace c0 := cell_dr c0
  clear hb
  obtain ⟨wd, hwd⟩ : ∃ u, u = w.drew := ⟨_, rfl⟩
  rw [← hwd] at D1 I1 O1 c0 ⊢
  clear hwd
  refine wpAnyH_take (i := 0) (v := ?_) rfl (by kernel_rfl) (by kernel_rfl) (by kernel_rfl) (fun _ _ _ h => h) (Or.inl ⟨by kernel_rfl, ?_⟩) hHeld ?_
  rotate_left
  · intro wz hSw; (try dsimp only at hSw); go_simp; all_goals (try with_reducible rfl)
  (try simp only [List.getElem_toArray]); (try simp only [List.getElem_cons_succ]); (try simp only [List.getElem_cons_zero]); (try simp only [Act.put]); (try simp only [List.setIfInBounds_toArray]); (try simp only [List.set_cons_succ]); (try simp only [List.set_cons_zero])
  refine wpAnyH_take (i := 1) (v := ?_) rfl (by kernel_rfl) (by kernel_rfl) (by kernel_rfl) (fun _ _ _ h => h) (Or.inl ⟨by kernel_rfl, ?_⟩) hHeld ?_
  rotate_left
  · intro wz hSw; (try dsimp only at hSw); go_simp; all_goals (try with_reducible rfl)
  (try simp only [List.getElem_toArray]); (try simp only [List.getElem_cons_succ]); (try simp only [List.getElem_cons_zero]); (try simp only [Act.put]); (try simp only [List.setIfInBounds_toArray]); (try simp only [List.set_cons_succ]); (try simp only [List.set_cons_zero])
  refine wpAnyH_take (i := 2) (v := ?_) rfl (by kernel_rfl) (by kernel_rfl) (by kernel_rfl) (fun _ _ _ h => h) (Or.inl ⟨by kernel_rfl, ?_⟩) hHeld ?_
  rotate_left
  · intro wz hSw; (try dsimp only at hSw); go_simp; all_goals (try with_reducible rfl)
  (try simp only [List.getElem_toArray]); (try simp only [List.getElem_cons_succ]); (try simp only [List.getElem_cons_zero]); (try simp only [Act.put]); (try simp only [List.setIfInBounds_toArray]); (try simp only [List.set_cons_succ]); (try simp only [List.set_cons_zero])
  refine wpAnyH_take (i := 4) (v := ?_) rfl (by kernel_rfl) (by kernel_rfl) (by kernel_rfl) (fun _ _ _ h => h) (Or.inl ⟨by kernel_rfl, ?_⟩) hHeld ?_
  rotate_left
  · intro wz hSw; (try dsimp only at hSw); go_simp; all_goals (try with_reducible rfl)
  (try simp only [List.getElem_toArray]); (try simp only [List.getElem_cons_succ]); (try simp only [List.getElem_cons_zero]); (try simp only [Act.put]); (try simp only [List.setIfInBounds_toArray]); (try simp only [List.set_cons_succ]); (try simp only [List.set_cons_zero])
  refine wpAnyH_take (i := 5) (v := ?_) rfl (by kernel_rfl) (by kernel_rfl) (by kernel_rfl) (fun _ _ _ h => h) (Or.inl ⟨by kernel_rfl, ?_⟩) hHeld ?_
  rotate_left
  · intro wz hSw; (try dsimp only at hSw); go_simp; all_goals (try with_reducible rfl)
  (try simp only [List.getElem_toArray]); (try simp only [List.getElem_cons_succ]); (try simp only [List.getElem_cons_zero]); (try simp only [Act.put]); (try simp only [List.setIfInBounds_toArray]); (try simp only [List.set_cons_succ]); (try simp only [List.set_cons_zero])
  refine wpAnyH_ready (rs := [3, 6]) (by kernel_rfl) (by simp) (AllReadyH.cons rfl (fun Kc hKc => ?_) (AllReadyH.cons rfl (fun Kc hKc => ?_) AllReadyH.nil))
  ·
    go_simp
    refine hKc.out _ _ trivial (fun hHeld => ?_)
    clear hKc Kc
    (try simp only [List.getElem_toArray]); (try simp only [List.getElem_cons_succ]); (try simp only [List.getElem_cons_zero]); (try simp only [Act.put]); (try simp only [List.setIfInBounds_toArray]); (try simp only [List.set_cons_succ]); (try simp only [List.set_cons_zero])
    refine wpAnyH_ready (rs := [6]) (by kernel_rfl) (by simp) (AllReadyH.cons rfl (fun Kc hKc => ?_) AllReadyH.nil)
    go_simp
    obtain ⟨U, hU⟩ : ∃ U, U = wd.heap.size := ⟨_, rfl⟩
    obtain ⟨we, hwe⟩ : ∃ u, u = wd.alloc (.cells #[.int .i64 x1, .int .i64 x2, .bool x3] 50) := ⟨_, rfl⟩
    have hb := b0H wd (.cells #[.int .i64 x1, .int .i64 x2, .bool x3] 50)
    have T1 : Hid (∀ j u, [Value.int .i64 x1, .int .i64 x2, .bool x3][j]? = some u → we.cell? ((⟨U, 0, none⟩ : Addr).add j) = some u) := by
      show ∀ j u, _
      rw [hwe, hU]; exact cell_three wd _ _ _ _
    rw [← hwe] at hb
    rw [← hwe, ← hU]
    have D2 := hidH (D1.out.trans (hb.mono D1.out.size))
    have I2 := hidH (I1.out.below hb)
    have O2 := hidH (own_below O1.out hb)
    have hUw : w.heap.size ≤ U := by have := D1.out.size; omega
    replace c0 := cell_keep hb c0
    clear hwe hU hb
    refine hKc.out _ _ trivial (fun hHeld => ?_)
    clear hKc Kc
    (try simp only [List.getElem_toArray]); (try simp only [List.getElem_cons_succ]); (try simp only [List.getElem_cons_zero]); (try simp only [Act.put]); (try simp only [List.setIfInBounds_toArray]); (try simp only [List.set_cons_succ]); (try simp only [List.set_cons_zero])
    refine wpAnyH_ready (rs := [7]) (by kernel_rfl) (by simp) (AllReadyH.cons rfl (fun Kc hKc => ?_) AllReadyH.nil)
    refine step_app_rt rfl (.tmp 7) (.tmp 10) 47 rfl lo 50 i0 (.agg #[.int .i64 0, .int .i64 0, .bool false]) 3 24 Try.underlying47 hi hz0 hz1 hz2 rfl (by decide) (.slice (some ⟨g, 0, none⟩) n c) n (cellsE es) (by simp [Act.eval]) O2.out ⟨U, 0, none⟩ 1 1 [.int .i64 x1, .int .i64 x2, .bool x3] (by simp [Act.eval]) rfl T1.out (by intro u hu; simp at hu; rcases hu with rfl | rfl | rfl <;> rfl) (by unfold maxLen; omega) (by omega) (by have := D2.out.size; omega) ?_
    intro v5 w5 hown5 hg5 hloc5
    obtain ⟨g', c', rfl, k1, k2, k3⟩ := HF.out we w5 v5 D2.out I2.out hown5 hg5 hloc5 (fun e => by have := hown5.2; subst e; rcases this with ⟨_, e2⟩ | ⟨_, _, _, e2, _⟩ <;> first | omega | cases e2)
    have K1 := hidH k1
    have K2 := hidH k2
    have f0 := (I2.out.grownN hg5 hNE).frozen 0
    have c9 := (I2.out.grownN hg5 hNE).cell 0 rfl
    clear k1 k2 hown5 hg5 hloc5 c0
    refine hKc.out _ _ trivial (fun hHeld => ?_)
    clear hKc Kc
    (try simp only [List.getElem_toArray]); (try simp only [List.getElem_cons_succ]); (try simp only [List.getElem_cons_zero]); (try simp only [Act.put]); (try simp only [List.setIfInBounds_toArray]); (try simp only [List.set_cons_succ]); (try simp only [List.set_cons_zero])
    refine wpAnyH_take (i := 8) (v := ?_) rfl (by kernel_rfl) (by kernel_rfl) (by kernel_rfl) (fun _ _ _ h => h) (Or.inl ⟨by kernel_rfl, ?_⟩) hHeld ?_
    rotate_left
    · intro wz hSw; (try dsimp only at hSw); go_simp; all_goals (try with_reducible rfl)
    (try simp only [List.getElem_toArray]); (try simp only [List.getElem_cons_succ]); (try simp only [List.getElem_cons_zero]); (try simp only [Act.put]); (try simp only [List.setIfInBounds_toArray]); (try simp only [List.set_cons_succ]); (try simp only [List.set_cons_zero])
    refine wpAnyH_ready (rs := [9]) (by kernel_rfl) (by simp) (AllReadyH.cons rfl (fun Kc hKc => ?_) AllReadyH.nil)
    go_simp
    refine hKc.out _ _ trivial (fun hHeld => ?_)
    clear hKc Kc
    (try simp only [List.getElem_toArray]); (try simp only [List.getElem_cons_succ]); (try simp only [List.getElem_cons_zero]); (try simp only [Act.put]); (try simp only [List.setIfInBounds_toArray]); (try simp only [List.set_cons_succ]); (try simp only [List.set_cons_zero])
    refine wpAnyH_done (by kernel_rfl) ?_ _
    refine NoPanic.normal ?_
    go_wp2
    go_end0
    exact ⟨rfl, g', c', K1.out, K2.out, k3⟩
  ·
    go_simp
    obtain ⟨U, hU⟩ : ∃ U, U = wd.heap.size := ⟨_, rfl⟩
    obtain ⟨we, hwe⟩ : ∃ u, u = wd.alloc (.cells #[.int .i64 x1, .int .i64 x2, .bool x3] 50) := ⟨_, rfl⟩
    have hb := b0H wd (.cells #[.int .i64 x1, .int .i64 x2, .bool x3] 50)
    have T1 : Hid (∀ j u, [Value.int .i64 x1, .int .i64 x2, .bool x3][j]? = some u → we.cell? ((⟨U, 0, none⟩ : Addr).add j) = some u) := by
      show ∀ j u, _
      rw [hwe, hU]; exact cell_three wd _ _ _ _
    rw [← hwe] at hb
    rw [← hwe, ← hU]
    have D2 := hidH (D1.out.trans (hb.mono D1.out.size))
    have I2 := hidH (I1.out.below hb)
    have O2 := hidH (own_below O1.out hb)
    have hUw : w.heap.size ≤ U := by have := D1.out.size; omega
    replace c0 := cell_keep hb c0
    clear hwe hU hb
    refine hKc.out _ _ trivial (fun hHeld => ?_)
    clear hKc Kc
    (try simp only [List.getElem_toArray]); (try simp only [List.getElem_cons_succ]); (try simp only [List.getElem_cons_zero]); (try simp only [Act.put]); (try simp only [List.setIfInBounds_toArray]); (try simp only [List.set_cons_succ]); (try simp only [List.set_cons_zero])
    refine wpAnyH_ready (rs := [3]) (by kernel_rfl) (by simp) (AllReadyH.cons rfl (fun Kc hKc => ?_) AllReadyH.nil)
    go_simp
    refine hKc.out _ _ trivial (fun hHeld => ?_)
    clear hKc Kc
    (try simp only [List.getElem_toArray]); (try simp only [List.getElem_cons_succ]); (try simp only [List.getElem_cons_zero]); (try simp only [Act.put]); (try simp only [List.setIfInBounds_toArray]); (try simp only [List.set_cons_succ]); (try simp only [List.set_cons_zero])
    refine wpAnyH_ready (rs := [7]) (by kernel_rfl) (by simp) (AllReadyH.cons rfl (fun Kc hKc => ?_) AllReadyH.nil)
    refine step_app_rt rfl (.tmp 7) (.tmp 10) 47 rfl lo 50 i0 (.agg #[.int .i64 0, .int .i64 0, .bool false]) 3 24 Try.underlying47 hi hz0 hz1 hz2 rfl (by decide) (.slice (some ⟨g, 0, none⟩) n c) n (cellsE es) (by simp [Act.eval]) O2.out ⟨U, 0, none⟩ 1 1 [.int .i64 x1, .int .i64 x2, .bool x3] (by simp [Act.eval]) rfl T1.out (by intro u hu; simp at hu; rcases hu with rfl | rfl | rfl <;> rfl) (by unfold maxLen; omega) (by omega) (by have := D2.out.size; omega) ?_
    intro v5 w5 hown5 hg5 hloc5
    obtain ⟨g', c', rfl, k1, k2, k3⟩ := HF.out we w5 v5 D2.out I2.out hown5 hg5 hloc5 (fun e => by have := hown5.2; subst e; rcases this with ⟨_, e2⟩ | ⟨_, _, _, e2, _⟩ <;> first | omega | cases e2)
    have K1 := hidH k1
    have K2 := hidH k2
    have f0 := (I2.out.grownN hg5 hNE).frozen 0
    have c9 := (I2.out.grownN hg5 hNE).cell 0 rfl
    clear k1 k2 hown5 hg5 hloc5 c0
    refine hKc.out _ _ trivial (fun hHeld => ?_)
    clear hKc Kc
    (try simp only [List.getElem_toArray]); (try simp only [List.getElem_cons_succ]); (try simp only [List.getElem_cons_zero]); (try simp only [Act.put]); (try simp only [List.setIfInBounds_toArray]); (try simp only [List.set_cons_succ]); (try simp only [List.set_cons_zero])
    refine wpAnyH_take (i := 8) (v := ?_) rfl (by kernel_rfl) (by kernel_rfl) (by kernel_rfl) (fun _ _ _ h => h) (Or.inl ⟨by kernel_rfl, ?_⟩) hHeld ?_
    rotate_left
    · intro wz hSw; (try dsimp only at hSw); go_simp; all_goals (try with_reducible rfl)
    (try simp only [List.getElem_toArray]); (try simp only [List.getElem_cons_succ]); (try simp only [List.getElem_cons_zero]); (try simp only [Act.put]); (try simp only [List.setIfInBounds_toArray]); (try simp only [List.set_cons_succ]); (try simp only [List.set_cons_zero])
    refine wpAnyH_ready (rs := [9]) (by kernel_rfl) (by simp) (AllReadyH.cons rfl (fun Kc hKc => ?_) AllReadyH.nil)
    go_simp
    refine hKc.out _ _ trivial (fun hHeld => ?_)
    clear hKc Kc
    (try simp only [List.getElem_toArray]); (try simp only [List.getElem_cons_succ]); (try simp only [List.getElem_cons_zero]); (try simp only [Act.put]); (try simp only [List.setIfInBounds_toArray]); (try simp only [List.set_cons_succ]); (try simp only [List.set_cons_zero])
    refine wpAnyH_done (by kernel_rfl) ?_ _
    refine NoPanic.normal ?_
    go_wp2
    go_end0
    exact ⟨rfl, g', c', K1.out, K2.out, k3⟩
end Go.Proofs.Ythfdpdnphnjebaa

/- The walks of the heap's own Pop, of the library's Push and Pop, and of least. -/
namespace Go.Proofs.Ythfdpdnphnjebaa
open Go.RowKit Go.Proofs.Ythfdpdnphnjebaa.RM

set_option maxRecDepth 100000 in
set_option maxHeartbeats 8000000 in
theorem popM_any (lo H g c n m : Nat) (es : List En) (w : World) (h : HpS w lo H g c n es) (hn : n ≤ 900) (hm : n = m + 1) :
    Calls Try.prog 71 #[.pointer (some ⟨H, 0, none⟩)] w fun e w' => e = .returned (.iface 50 (evE (Hp.at' dE es m))) ∧ HpS w' lo H g c m (es.take m) ∧ KpH H g w w' := by
  have HH := hidH h
  obtain ⟨a1, a2, a3⟩ := own_E h.2.1 h.2.2.1 m (by omega)
  have c0 := h.c0
  have hlt := h.lt
  have hcap : n ≤ c := by
    rcases h.2.1.2 with ⟨e, _⟩ | ⟨_, _, _, e, _, _, h5, _⟩
    · cases e
    · cases e; exact h5
  clear h
  obtain ⟨x, hx⟩ : ∃ x, x = er es m := ⟨_, rfl⟩
  have HX : Hid (Hp.at' dE es m = x) := hx.symm
  rw [← hx] at a1 a2 a3
  clear hx
  obtain ⟨⟨x1, x2⟩, x3⟩ := x
  dsimp only at a1 a2 a3
  have hw : (n : Int) - 1 = (m : Int) := by omega
  have hb := b0H w (.cells #[.int .i64 x1, .int .i64 x2, .bool x3] 50)
  obtain ⟨we, hwe⟩ : ∃ u, u = w.alloc (.cells #[.int .i64 x1, .int .i64 x2, .bool x3] 50) := ⟨_, rfl⟩
  obtain ⟨E, hE⟩ : ∃ u, u = w.heap.size := ⟨_, rfl⟩
  have IE : Hid (IsB we E #[.int .i64 x1, .int .i64 x2, .bool x3] 50) := by show IsB _ _ _ _; rw [hwe, hE]; exact IsB.new w _ _
  rw [← hwe] at hb
  have H2 := hidH (HH.out.below hb)
  have K2 := hidH (KpH.of_below (H := H) (g := g) hb)
  have hEH : E ≠ H := by omega
  have d0 := cell_keep hb c0
  have f0 := (HH.out.1.below hb).frozen 0
  go_enter Try.func71, Try.ntmps71
  go_upto_region 3 with fail
  rw [← hwe, ← hE]
  clear hwe hE hb c0 a1 a2 a3
  go_upto_region 4 with fail
  have I3 := hidH (IE.out.other hEH 0 (.slice (some ⟨g, 0, none⟩) m c))
  have q0 := I3.out.cell 0 rfl
  have q1 := I3.out.cell 1 rfl
  have q2 := I3.out.cell 2 rfl
  go_wp2
  refine bodyPost_ret (results_tmp rfl _ _ _) rfl ⟨?_, ⟨(H2.out.1.set 0 _), ?_, ?_, H2.out.2.2.2⟩, K2.out.next (KpH.set _ _)⟩
  · rw [HX.out]; rfl
  · exact own_stN (own_cutE H2.out.2.1 m (by omega)) (by simpa [Value.ownBlock] using H2.out.2.2.2) 0 _
  · rw [List.length_take, H2.out.2.2.1]; omega

set_option maxRecDepth 100000 in
set_option maxHeartbeats 4000000 in
theorem heapPush_any (lo H g c n : Nat) (es : List En) (x1 x2 : Int) (x3 : Bool) (w : World) (h : HpS w lo H g c n es) (hn : n ≤ 900) (hok : ∀ e ∈ es, okE e) (hx : okE ((x1, x2), x3)) (hh : Hp.Heap dE lsE es n) :
    Calls Try.prog 38 #[hpv H, .iface 50 (.agg #[.int .i64 x1, .int .i64 x2, .bool x3])] w fun e w' => e = .returned (.tuple #[]) ∧ ∃ g' c' es', HpS w' lo H g' c' (n + 1) es' ∧ es'.Perm (es ++ [((x1, x2), x3)]) ∧ Hp.Heap dE lsE es' (n + 1) ∧ KpH H g w w' ∧ (g' = g ∨ w.heap.size ≤ g') := by
  have HP := hidH (pushM_any lo H g c n es x1 x2 x3 w h hn)
  have HU : Hid (Hp.UpHp dE lsE (es ++ [((x1, x2), x3)]) (n + 1) n) := by
    show Hp.UpHp _ _ _ _ _
    have hl := h.2.2.1
    subst hl
    exact Hp.up_start hh
  have HO : Hid (∀ e ∈ es ++ [((x1, x2), x3)], okE e) := by
    intro e he
    rcases List.mem_append.1 he with he | he
    · exact hok e he
    · rw [List.mem_singleton] at he; rw [he]; exact hx
  have hm := mPush0 H w
  clear h hok hx hh
  go_enter Try.func38, Try.ntmps38
  go_wp2_with fail
  refine HP.out.mono ?_
  rintro e w1 ⟨rfl, g', c', h1, k1, k2⟩
  have H1 := hidH h1
  have K1 := hidH k1
  have c0 := h1.c0
  have hm1 := mLen c0
  have HL := hidH (fun (n : Nat) => iLenH_any (some ⟨g', 0, none⟩) n c' w1)
  have hw : ((n + 1 : Nat) : Int) - 1 = (n : Int) := by omega
  clear h1 k1 HP hm
  go_wp2_with fail
  refine (HL.out (n + 1)).mono ?_
  rintro e w2 ⟨rfl, hw2⟩
  obtain rfl := hw2.symm
  clear hw2 HL hm1 c0
  have HG := hidH (upH_any lo H g' c' (n + 1) n _ w1 H1.out HO.out (by omega) (by omega) HU.out)
  go_wp2_with fail
  refine HG.out.mono ?_
  rintro e w3 ⟨rfl, es', h3, p3, q3, k3⟩
  go_wp2
  go_end0
  exact ⟨rfl, g', c', es', h3, p3, q3, K1.out.trans k3 k2, k2⟩

theorem take_at {l : List En} {m k : Nat} (h : k < m) : Hp.at' dE (l.take m) k = Hp.at' dE l k := by
  unfold Hp.at'
  rw [List.getElem?_take_of_lt h]
theorem take_last {l : List En} {m : Nat} (h : l.length = m + 1) : l.take m ++ [Hp.at' dE l m] = l := by
  have e1 : l.take (m + 1) = l := by rw [← h, List.take_length]
  have e2 : l.take (m + 1) = l.take m ++ [Hp.at' dE l m] := by
    rw [List.take_add_one]
    simp [Hp.at', List.getElem?_eq_getElem (show m < l.length by omega)]
  rw [← e2, e1]
theorem HpS.st {W : World} {lo H g c n E : Nat} {es : List En} (h : HpS W lo H g c n es) (h1 : E ≠ H) (h2 : E ≠ g) (o : Nat) (x : Value) : HpS (W.setCell ⟨E, o, none⟩ x) lo H g c n es :=
  ⟨h.1.other (fun e => h1 e.symm) o x, own_stN h.2.1 (by simpa [Value.ownBlock] using fun e => h2 e.symm) o x, h.2.2⟩
theorem KpH.st {H g E : Nat} {w W : World} (h : KpH H g w W) (hE : w.heap.size ≤ E) (o : Nat) (x : Value) : KpH H g w (W.setCell ⟨E, o, none⟩ x) :=
  ⟨h.os, h.tape, h.output, Nat.le_trans h.size (by simp), fun k hk h1 h2 => (Below.heap_setCell W ⟨E, o, none⟩ x k (by show k ≠ E; omega)).trans (h.block k hk h1 h2)⟩
set_option maxRecDepth 100000 in
set_option maxHeartbeats 4000000 in
theorem heapPop_any (lo H g c n m : Nat) (es : List En) (w : World) (h : HpS w lo H g c n es) (hn : n ≤ 900) (hm : n = m + 1) (hok : ∀ e ∈ es, okE e) (hh : Hp.Heap dE lsE es n) :
    Calls Try.prog 39 #[hpv H] w fun e w' => e = .returned (.iface 50 (evE (Hp.at' dE es 0))) ∧ ∃ es', HpS w' lo H g c m es' ∧ (es' ++ [Hp.at' dE es 0]).Perm es ∧ Hp.Heap dE lsE es' m ∧ KpH H g w w' := by
  subst hm
  have HH := hidH h
  have HHP := hidH hh
  have HOK := hidH hok
  clear h hh hok
  have hw : ((m + 1 : Nat) : Int) - 1 = (m : Int) := by omega
  have HL := hidH (fun (n : Nat) => iLenH_any (some ⟨g, 0, none⟩) n c w)
  have c0 := HH.out.c0
  have hm1 := mLen c0
  have hm2 := mSwap c0
  have HS := hidH (HH.out.swap 0 m (by omega) (by omega))
  go_enter Try.func39, Try.ntmps39
  go_wp2_with fail
  refine (HL.out (m + 1)).mono ?_
  rintro e w2 ⟨rfl, hw2⟩
  obtain rfl := hw2.symm
  clear hw2 HL hm1
  go_wp2_with fail
  refine HS.out.mono ?_
  rintro e w1 ⟨rfl, h1, k1⟩
  have H1 := hidH h1
  have K1 := hidH k1
  have hl := HH.out.2.2.1
  have HPm := hidH (Hp.swp_perm dE (l := es) (i := 0) (j := m) (by omega) (by omega))
  have HOK1 : Hid (∀ e ∈ Hp.swp dE es 0 m, okE e) := fun e he => HOK.out e (HPm.out.mem_iff.1 he)
  have HDN : Hid (Hp.DnHp dE lsE (Hp.swp dE es 0 m) m 0) := Hp.dn_start (by omega) HHP.out
  have HLAST : Hid (Hp.at' dE (Hp.swp dE es 0 m) m = Hp.at' dE es 0) := by
    show _ = _
    rw [Hp.swp_at dE (by omega) (by omega) (by omega), if_pos rfl]
  have HDW := hidH (downH_any lo H g c (m + 1) m _ w1 H1.out HOK1.out (by omega) (by omega) HDN.out)
  clear h1 k1 HS c0 hm2 hl
  go_wp2_with fail
  refine HDW.out.mono ?_
  rintro e w3 ⟨⟨b, rfl⟩, es2, h2, p2, q2, k2⟩
  have H2 := hidH h2
  have P2 := hidH p2
  have Q2 := hidH q2
  have K2 := hidH k2
  have HV : Hid (Hp.at' dE es2 m = Hp.at' dE es 0) := by show _ = _; rw [P2.out.2 m (Nat.le_refl _), HLAST.out]
  have HPO := hidH (popM_any lo H g c (m + 1) m es2 w3 H2.out hn rfl)
  rw [HV.out] at HPO
  have hmp := mPop0 H w3
  clear h2 p2 q2 k2 HDW
  go_wp2_with fail
  refine HPO.out.mono ?_
  rintro e w4 ⟨rfl, h4, k4⟩
  go_wp2
  refine bodyPost_ret (results_tmp rfl _ _ _) rfl ⟨rfl, es2.take m, h4, ?_, ?_, (K1.out.next K2.out).next k4⟩
  · rw [← HV.out, take_last H2.out.2.2.1]
    exact P2.out.1.trans HPm.out
  · intro k k0 km
    rw [take_at km, take_at (by omega)]
    exact Q2.out k k0 km

set_option maxRecDepth 100000 in
set_option maxHeartbeats 4000000 in
theorem least_any (lo H g c n m : Nat) (es : List En) (w : World) (h : HpS w lo H g c n es) (hn : n ≤ 900) (hm : n = m + 1) (hok : ∀ e ∈ es, okE e) (hh : Hp.Heap dE lsE es n) :
    Calls Try.prog 22 #[.pointer (some ⟨H, 0, none⟩)] w fun e w' => e = .returned (evE (Hp.at' dE es 0)) ∧ ∃ es', HpS w' lo H g c m es' ∧ (es' ++ [Hp.at' dE es 0]).Perm es ∧ Hp.Heap dE lsE es' m ∧ KpH H g w w' := by
  have hb := b0H w (.cells #[.int .i64 0, .int .i64 0, .bool false] 50)
  obtain ⟨we, hwe⟩ : ∃ u, u = w.alloc (.cells #[.int .i64 0, .int .i64 0, .bool false] 50) := ⟨_, rfl⟩
  obtain ⟨E, hE⟩ : ∃ u, u = w.heap.size := ⟨_, rfl⟩
  have IE : Hid (IsB we E #[.int .i64 0, .int .i64 0, .bool false] 50) := by show IsB _ _ _ _; rw [hwe, hE]; exact IsB.new w _ _
  rw [← hwe] at hb
  have H1 := hidH (h.below hb)
  have K1 := hidH (KpH.of_below (H := H) (g := g) hb)
  have hlt := h.lt
  have hEH : E ≠ H := by omega
  have hEg : E ≠ g := by omega
  have HEW : Hid (w.heap.size ≤ E) := by show _ ≤ _; omega
  have HPO := hidH (heapPop_any lo H g c n m es we H1.out hn hm hok hh)
  clear h hh hok
  obtain ⟨x, hx⟩ : ∃ x, x = Hp.at' dE es 0 := ⟨_, rfl⟩
  rw [← hx] at HPO
  rw [← hx]
  clear hx
  obtain ⟨⟨x1, x2⟩, x3⟩ := x
  have hta := ta_any x1 x2 x3
  go_enter Try.func22, Try.ntmps22
  go_wp2_with fail
  rw [← hwe, ← hE]
  clear hwe hE hb
  refine HPO.out.mono ?_
  rintro e w2 ⟨rfl, es', h2, p2, q2, k2⟩
  have I2 := hidH (k2.isB IE.out hEH hEg)
  have H2 := hidH h2
  have K2 := hidH (K1.out.next k2)
  clear h2 k2 HPO IE
  obtain ⟨f0, f1, f2⟩ := And.intro (I2.out.frozen 0) (And.intro (I2.out.frozen 1) (I2.out.frozen 2))
  have q0 := I2.out.cell 0 rfl
  have q1 := I2.out.cell 1 rfl
  have q2' := I2.out.cell 2 rfl
  have I9 := ((I2.out.set 0 (.int .i64 x1)).set 1 (.int .i64 x2)).set 2 (.bool x3)
  have y0 := I9.cell 0 rfl
  have y1 := I9.cell 1 rfl
  have y2 := I9.cell 2 rfl
  have hEw : w.heap.size ≤ E := HEW.out
  go_wp2
  refine bodyPost_ret (v := evE ((x1, x2), x3)) (by simp [results, Try.results22, go_sem, y0, y1, y2]) rfl ⟨rfl, es', ((H2.out.st hEH hEg 0 _).st hEH hEg 1 _).st hEH hEg 2 _, p2, q2, ((K2.out.st hEw 0 _).st hEw 1 _).st hEw 2 _⟩
end Go.Proofs.Ythfdpdnphnjebaa

/- The walk of the program's endsOf. -/
namespace Go.Proofs.Ythfdpdnphnjebaa
open Go.RowKit Go.Proofs.Ythfdpdnphnjebaa.RM

/-- the ends of the first k claims -/
def endsL (ls : List Sp) : Nat → List En
  | 0 => []
  | k + 1 => (endsL ls k ++ [((sp ls k).1, false)]) ++ [((sp ls k).2, true)]
theorem endsL_len (ls : List Sp) : ∀ k, (endsL ls k).length = 2 * k
  | 0 => rfl
  | k + 1 => by show ((endsL ls k ++ [_]) ++ [_]).length = _; rw [List.length_append, List.length_append, endsL_len ls k]; simp; omega
theorem endsL_ok {ls : List Sp} (h : clmP ls) : ∀ k, k ≤ ls.length → ∀ e ∈ endsL ls k, okE e
  | 0, _ => fun e he => by cases he
  | k + 1, hk => by
    intro e he
    have q := rng7_out (h.2 k (by omega))
    rcases List.mem_append.1 he with he | he
    · rcases List.mem_append.1 he with he | he
      · exact endsL_ok h k (by omega) e he
      · rw [List.mem_singleton] at he; rw [he]; exact q.1
    · rw [List.mem_singleton] at he; rw [he]; exact q.2.1
theorem litE (W : World) (base : Nat) (hb : base ≤ W.heap.size) : (W.alloc (.cells #[] 50)).ownsRow base 50 3 (.slice (some ⟨W.heap.size, 0, none⟩) 0 0) 0 (cellsE []) :=
  ⟨rfl, .inr ⟨W.heap.size, 0, #[], rfl, hb, World.alloc_heap_new W _, Nat.le_refl _, Nat.zero_le _, rfl, rfl⟩⟩

set_option maxRecDepth 100000 in
set_option maxHeartbeats 8000000 in
theorem iEnds_any (v : Value) (ls : List Sp) (w : World) (h : RdS w v ls) (hc : clmP ls) :
    Calls Try.prog 21 #[v] w fun e w' => ∃ g c es, e = .returned (.slice (some ⟨g, 0, none⟩) (2 * ls.length) c) ∧ w'.ownsRow w.heap.size 50 3 (.slice (some ⟨g, 0, none⟩) (2 * ls.length) c) (2 * ls.length) (cellsE es) ∧ es.Perm (endsL ls ls.length) ∧ Hp.Heap dE lsE es (2 * ls.length) ∧ Below w.heap.size w w' := by
  obtain ⟨a, c, rfl, h2, h3, h4, h5⟩ := h
  have H5 : Hid (∀ j, j < ls.length → ∃ b off, a = some ⟨b, off, none⟩ ∧ w.cell? ⟨b, off + j * 4, none⟩ = some (.int .i64 (sp ls j).1.1) ∧ w.cell? ⟨b, off + j * 4 + 1, none⟩ = some (.int .i64 (sp ls j).1.2) ∧ w.cell? ⟨b, off + j * 4 + 2, none⟩ = some (.int .i64 (sp ls j).2.1) ∧ w.cell? ⟨b, off + j * 4 + 3, none⟩ = some (.int .i64 (sp ls j).2.2)) := h5
  clear h5 h4 h3 h2
  have hL12 := hc.1
  have HR : Hid (∀ k, k < ls.length → okE ((sp ls k).1, false) ∧ okE ((sp ls k).2, true)) := fun k hk => by
    have := rng7_out (hc.2 k hk); exact ⟨this.1, this.2.1⟩
  obtain ⟨F, hF⟩ : ∃ F, F = endsL ls := ⟨_, rfl⟩
  have HF0 : Hid (F 0 = []) := by show _ = _; rw [hF]; rfl
  have HFS : Hid (∀ k, F (k + 1) = (F k ++ [((sp ls k).1, false)]) ++ [((sp ls k).2, true)]) := by intro k; rw [hF]; rfl
  have HFO : Hid (∀ k, k ≤ ls.length → ∀ e ∈ F k, okE e) := by intro k hk; rw [hF]; exact endsL_ok hc k hk
  have HFE : Hid (endsL ls ls.length = F ls.length) := by show _ = _; rw [hF]
  clear hF hc
  obtain ⟨L, hL⟩ : ∃ L, L = ls.length := ⟨_, rfl⟩
  rw [← hL] at H5 hL12 HR HFO HFE
  rw [← hL]
  clear hL
  obtain ⟨l1, l2⟩ := hL12
  obtain ⟨G, hG⟩ : ∃ G, G = w.heap.size := ⟨_, rfl⟩
  obtain ⟨X, hX⟩ : ∃ X, X = w.alloc (.cells #[] 50) := ⟨_, rfl⟩
  obtain ⟨H, hH⟩ : ∃ H, H = X.heap.size := ⟨_, rfl⟩
  obtain ⟨Y, hY⟩ : ∃ Y, Y = X.alloc (.cells #[.slice (some ⟨G, 0, none⟩) 0 0] 47) := ⟨_, rfl⟩
  have hb1 := b0H w (.cells #[] 50)
  have hb2 := b0H X (.cells #[.slice (some ⟨G, 0, none⟩) 0 0] 47)
  have hXs : X.heap.size = G + 1 := by rw [hX, hG]; simp
  have O1 : X.ownsRow w.heap.size 50 3 (.slice (some ⟨G, 0, none⟩) 0 0) 0 (cellsE []) := by rw [hX, hG]; exact litE w _ (Nat.le_refl _)
  have I1 : IsB Y H #[.slice (some ⟨G, 0, none⟩) 0 0] 47 := by rw [hY, hH]; exact IsB.new X _ _
  rw [← hX] at hb1
  rw [← hY] at hb2
  have hGH : G ≠ H := by omega
  have H0 : Hid (HpS Y w.heap.size H G 0 (2 * 0) []) := ⟨I1, own_below O1 hb2, rfl, hGH⟩
  have hwH : w.heap.size ≤ H := by omega
  have B0 : Hid (Below w.heap.size w Y) := hb1.trans (hb2.mono hb1.size)
  have hH1 : G + 1 = H := by omega
  go_enter Try.func21, Try.ntmps21
  go_upto_region 2 with fail
  simp only [← hG, ← hX, ← hY, hH1]
  clear hG hX hH hY hb1 hb2 hXs O1 I1 hGH hH1
  go_wp2
  go_loopw [9] (fun i wr => ∃ (k g c : Nat) (es : List En), k ≤ L ∧ i = .int .i64 k ∧ Hid (HpS wr w.heap.size H g c (2 * k) es) ∧ Hid (es.Perm (F k)) ∧ Hid (Hp.Heap dE lsE es (2 * k)) ∧ Hid (Below w.heap.size w wr)) (fun i _ => L - (intOf i).toNat)
  case atStart => exact ⟨0, G, 0, [], Nat.zero_le _, rfl, H0, by rw [HF0.out]; exact List.Perm.refl _, Hp.heap_nil, B0⟩
  case round =>
    clear H0 B0
    obtain ⟨k, g, gc, es, hk, rfl, hS, hP, hHp, hB⟩ := hrel
    by_cases hlt : k < L
    · obtain ⟨b, off, rfl, c1, c2, c3, c4⟩ := H5.out k hlt
      replace c1 := cell_keep hB.out c1
      replace c2 := cell_keep hB.out c2
      replace c3 := cell_keep hB.out c3
      replace c4 := cell_keep hB.out c4
      obtain ⟨p, hp⟩ : ∃ p, p = sp ls k := ⟨_, rfl⟩
      have HN := hidH (HFS.out k)
      have HRK := hidH (HR.out k hlt)
      rw [← hp] at c1 c2 c3 c4 HN HRK
      clear hp
      have HOK : Hid (∀ e ∈ es, okE e) := fun e he => HFO.out k (by omega) e (hP.out.mem_iff.1 he)
      obtain ⟨⟨x1, x2⟩, y1, y2⟩ := p
      dsimp only at c1 c2 c3 c4
      go_upto_region 5 with fail
      obtain ⟨N, hN⟩ : ∃ N, N = wr.heap.size := ⟨_, rfl⟩
      obtain ⟨X, hX⟩ : ∃ X, X = wr.alloc (.cells #[.int .i64 x1, .int .i64 x2, .int .i64 y1, .int .i64 y2] 29) := ⟨_, rfl⟩
      have hb := b0H wr (.cells #[.int .i64 x1, .int .i64 x2, .int .i64 y1, .int .i64 y2] 29)
      have IN : Hid (IsB X N #[.int .i64 x1, .int .i64 x2, .int .i64 y1, .int .i64 y2] 29) := by show IsB _ _ _ _; rw [hX, hN]; exact IsB.new wr _ _
      rw [← hX] at hb
      have hlt' := hS.out.lt
      have hNH : N ≠ H := by omega
      have hNg : N ≠ g := by omega
      replace hS := hidH (hS.out.below hb)
      replace hB := hidH (hB.out.trans (hb.mono hB.out.size))
      rw [← hX, ← hN]
      clear hX hN hb c1 c2 c3 c4 hlt'
      have c1 := IN.out.cell 0 rfl
      have c2 := IN.out.cell 1 rfl
      have HP1 := hidH (heapPush_any w.heap.size H g gc (2 * k) es x1 x2 false X hS.out (by omega) HOK.out HRK.out.1 hHp.out)
      go_wp2_with fail
      refine HP1.out.mono ?_
      rintro e w1 ⟨rfl, g1, gc1, es1, h1, p1, q1, k1, m1⟩
      have hXN := IN.out.lt
      have hlt' := hS.out.lt
      have hlow := hS.out.2.1.lt g rfl
      replace IN := hidH (k1.isB IN.out hNH hNg)
      have S1 := hidH h1
      have Q1 := hidH q1
      have P1 := hidH (p1.trans (hP.out.append_right _))
      have HOK1 : Hid (∀ e ∈ es1, okE e) := by
        intro e he
        rcases List.mem_append.1 (p1.mem_iff.1 he) with he | he
        · exact HOK.out e he
        · rw [List.mem_singleton] at he; rw [he]; exact HRK.out.1
      replace hB := hidH (hB.out.trans (k1.below hwH hlow.1 hB.out.size))
      clear h1 q1 p1 k1 m1 HP1 c1 c2 hS hXN hlt' hlow HOK hHp hP
      have c3 := IN.out.cell 2 rfl
      have c4 := IN.out.cell 3 rfl
      have HP2 := hidH (heapPush_any w.heap.size H g1 gc1 (2 * k + 1) es1 y1 y2 true w1 S1.out (by omega) HOK1.out HRK.out.2 Q1.out)
      go_wp2_with fail
      refine HP2.out.mono ?_
      rintro e w2 ⟨rfl, g2, gc2, es2, h1, p1, q1, k1, m1⟩
      have hlow := S1.out.2.1.lt g1 rfl
      have S2 := hidH h1
      have Q2 := hidH q1
      have P2 := hidH (p1.trans (P1.out.append_right _))
      replace hB := hidH (hB.out.trans (k1.below hwH hlow.1 hB.out.size))
      clear h1 q1 p1 k1 m1 HP2 c3 c4 S1 hlow HOK1 Q1 P1
      go_wp2
      go_roundw
      case rel => exact ⟨k + 1, g2, gc2, es2, by omega, by go_num, S2.out, by rw [HN.out]; exact P2.out, Q2.out, hB.out⟩
      case measure => simp [intOf]; omega
    · obtain rfl : k = L := by omega
      have c0 := hS.out.c0
      go_wp2
      refine bodyPost_ret (results_tmp rfl _ _ _) rfl ⟨g, gc, es, rfl, hS.out.2.1, ?_, hHp.out, hB.out⟩
      rw [HFE.out]
      exact hP.out
end Go.Proofs.Ythfdpdnphnjebaa

/- The walk of the model's Agreed. -/
namespace Go.Proofs.Ythfdpdnphnjebaa
open Go.RowKit Go.Proofs.Ythfdpdnphnjebaa.RM

/-- is the k-th claim's low end better than what there is -/
def betB (ls : List Sp) (s : Int × Fr) (k : Nat) : Bool := decide (s.1 < depI ls (sp ls k).1) || (decide (depI ls (sp ls k).1 = s.1) && lessB (sp ls k).1.1 (sp ls k).1.2 s.2.1 s.2.2)
/-- the most, and where it is first, of the first k low ends -/
def bstV (ls : List Sp) : Nat → Int × Fr
  | 0 => (0, (0, 1))
  | k + 1 => if betB ls (bstV ls k) k = true then (depI ls (sp ls k).1, (sp ls k).1) else bstV ls k
/-- is the k-th claim's high end nearer -/
def neaB (ls : List Sp) (low : Fr) (s : Fr × Bool) (k : Nat) : Bool := hasB ls low k && (!s.2 || lessB (sp ls k).2.1 (sp ls k).2.2 s.1.1 s.1.2)
/-- the first high end of those of the first k that have it -/
def hghV (ls : List Sp) (low : Fr) : Nat → Fr × Bool
  | 0 => ((0, 1), false)
  | k + 1 => if neaB ls low (hghV ls low k) k = true then ((sp ls k).2, true) else hghV ls low k
def agrL (ls : List Sp) : Fr := (bstV ls ls.length).2
def agrH (ls : List Sp) : Fr := (hghV ls (agrL ls) ls.length).1
def agrR (ls : List Sp) : Sp := if clmB ls = true then (agrL ls, agrH ls) else ((0, 0), (0, 0))
def agrN (ls : List Sp) : Int := if clmB ls = true then (bstV ls ls.length).1 else -1
theorem ret_r11 {a b c d n a' b' c' d' n' : Int} (h1 : a = a') (h2 : b = b') (h3 : c = c') (h4 : d = d') (h5 : n = n') : Ending.returned (.tuple #[.agg #[.int .i64 a, .int .i64 b, .int .i64 c, .int .i64 d], .int .i64 n]) = .returned (.tuple #[.agg #[.int .i64 a', .int .i64 b', .int .i64 c', .int .i64 d'], .int .i64 n']) := by rw [h1, h2, h3, h4, h5]

set_option maxRecDepth 100000 in
set_option maxHeartbeats 8000000 in
theorem sAgreed_any (v : Value) (ls : List Sp) (w : World) (h : RdS w v ls) :
    Calls Try.prog 8 #[v] w fun e w' => e = .returned (.tuple #[.agg #[.int .i64 (agrR ls).1.1, .int .i64 (agrR ls).1.2, .int .i64 (agrR ls).2.1, .int .i64 (agrR ls).2.2], .int .i64 (agrN ls)]) ∧ Below w.heap.size w w' := by
  have HC := hidA (fun W (hW : Below w.heap.size w W) => sClm_any v ls W (h.below hW))
  have HDp := hidA (fun (x : Fr) W (hW : Below w.heap.size w W) (hl : ls.length ≤ 12) => sDep_any v ls x W (h.below hW) hl)
  obtain ⟨a, c, rfl, h2, h3, h4, h5⟩ := h
  have H5 : Hid (∀ j, j < ls.length → ∃ b off, a = some ⟨b, off, none⟩ ∧ w.cell? ⟨b, off + j * 4, none⟩ = some (.int .i64 (sp ls j).1.1) ∧ w.cell? ⟨b, off + j * 4 + 1, none⟩ = some (.int .i64 (sp ls j).1.2) ∧ w.cell? ⟨b, off + j * 4 + 2, none⟩ = some (.int .i64 (sp ls j).2.1) ∧ w.cell? ⟨b, off + j * 4 + 3, none⟩ = some (.int .i64 (sp ls j).2.2)) := h5
  obtain ⟨q, hq⟩ : ∃ q, q = clmB ls := ⟨_, rfl⟩
  have HQ := hidA hq
  have HR : Hid (agrR ls = if q = true then (agrL ls, agrH ls) else ((0, 0), (0, 0))) := by show _ = _; rw [hq]; rfl
  have HN : Hid (agrN ls = if q = true then (bstV ls ls.length).1 else -1) := by show _ = _; rw [hq]; rfl
  rw [← hq] at HC
  clear hq h5 h4 h3 h2
  obtain ⟨Rb, hRb⟩ : ∃ R, R = w.heap.size := ⟨_, rfl⟩
  obtain ⟨X, hX⟩ : ∃ X, X = w.alloc (.cells #[.int .i64 0, .int .i64 0, .int .i64 0, .int .i64 0] 29) := ⟨_, rfl⟩
  have R0 : Hid (IsB X Rb #[.int .i64 0, .int .i64 0, .int .i64 0, .int .i64 0] 29) := by show IsB _ _ _ _; rw [hX, hRb]; exact IsB.new w _ _
  have hB : Hid (Below w.heap.size w X) := by show Below _ _ _; rw [hX]; exact b0S _ _
  have hwR : w.heap.size ≤ Rb := by omega
  go_enter Try.func8, Try.ntmps8
  go_wp2_with fail
  rw [← hX, ← hRb]
  clear hX hRb
  refine (HC.out _ hB.out).mono ?_
  rintro e w1 ⟨rfl, hb⟩
  replace R0 := hidA (R0.out.below hb)
  replace hB := hidA (hB.out.trans (hb.mono hB.out.size))
  clear hb HC
  cases q
  · obtain ⟨r0, r1, r2, r3⟩ := R0.out.s4
    obtain ⟨s0, s1, s2, s3⟩ := R0.out.sf4
    have HRE : Hid (agrR ls = ((0, 0), (0, 0))) := by show _ = _; rw [HR.out]; rfl
    have HNE : Hid (agrN ls = -1) := by show _ = _; rw [HN.out]; rfl
    go_wp2
    have R2 := R0.out.sAll (.int .i64 0) (.int .i64 0) (.int .i64 0) (.int .i64 0)
    obtain ⟨y0, y1, y2, y3⟩ := R2.s4
    exact bodyPost_ret (v := .tuple #[.agg #[.int .i64 0, .int .i64 0, .int .i64 0, .int .i64 0], .int .i64 (-1)]) (by simp [results, Try.results8, go_sem, y0, y1, y2, y3]) rfl ⟨ret_r11 (by rw [HRE.out]) (by rw [HRE.out]) (by rw [HRE.out]) (by rw [HRE.out]) HNE.out.symm, below_sAll hB.out hwR _ _ _ _⟩
  have hl12 := (clmB_out HQ.out.symm).1.2
  have hl1 := (clmB_out HQ.out.symm).1.1
  have HDP := hidA (fun (x1 x2 : Int) W (hW : Below w.heap.size w W) => HDp.out (x1, x2) W hW hl12)
  dsimp only at HDP
  clear HDp HQ
  obtain ⟨F, hF⟩ : ∃ F, F = bstV ls := ⟨_, rfl⟩
  have HF0 : Hid (F 0 = (0, (0, 1))) := by show _ = _; rw [hF]; rfl
  have HFS : Hid (∀ k, F (k + 1) = if betB ls (F k) k = true then (depI ls (sp ls k).1, (sp ls k).1) else F k) := by intro k; rw [hF]; rfl
  have HFL : Hid (agrL ls = (F ls.length).2) := by show _ = _; rw [hF]; rfl
  have HHI : Hid (agrH ls = (hghV ls (F ls.length).2 ls.length).1) := by show _ = _; rw [hF]; rfl
  rw [← hF] at HN
  clear hF
  obtain ⟨L, hL⟩ : ∃ L, L = ls.length := ⟨_, rfl⟩
  have HL := hidA hL
  rw [← hL] at H5 HFL HHI HN HDP hl12 hl1 ⊢
  clear hL
  go_wp2_with fail
  refine (zero_any _).mono ?_
  rintro e w2 ⟨rfl, hb⟩
  have hb2 := b0S w2 (.cells #[.int .i64 0, .int .i64 1] 27)
  obtain ⟨Lb, hLb⟩ : ∃ Lb, Lb = w2.heap.size := ⟨_, rfl⟩
  obtain ⟨Y, hY⟩ : ∃ Y, Y = w2.alloc (.cells #[.int .i64 0, .int .i64 1] 27) := ⟨_, rfl⟩
  have L0 : Hid (IsR Y Lb (F 0).2.1 (F 0).2.2) := by show IsR _ _ _ _; rw [HF0.out, hY, hLb]; exact IsR.new _ _ _
  rw [← hY] at hb2
  replace R0 := hidA ((R0.out.below hb).below hb2)
  have hRL : Rb < Lb := by have := R0.out.lt; have h1 : Y.heap.size = w2.heap.size + 1 := by rw [hY]; simp
                           by_cases e : Rb = Lb
                           · exfalso
                             have h9 := L0.out
                             rw [HF0.out] at h9
                             have h8 := R0.out
                             rw [e] at h8
                             have := h8.symm.trans h9
                             simp at this
                           · omega
  replace hB := hidA ((hB.out.trans (hb.mono hB.out.size)).trans (hb2.mono (by have := hB.out.size; have := hb.size; omega)))
  have hwL : w.heap.size ≤ Lb := by omega
  clear hb hb2
  go_wp2
  rw [← hY, ← hLb]
  clear hY hLb
  go_loopw [4, 6] (fun s i wr => ∃ k : Nat, k ≤ L ∧ i = .int .i64 k ∧ s = .int .i64 (F k).1 ∧ Hid (Below w.heap.size w wr) ∧ Hid (IsB wr Rb #[.int .i64 0, .int .i64 0, .int .i64 0, .int .i64 0] 29) ∧ Hid (IsR wr Lb (F k).2.1 (F k).2.2)) (fun _ i _ => L - (intOf i).toNat)
  case atStart => exact ⟨0, Nat.zero_le _, rfl, by rw [HF0.out], hB.out, R0.out, L0.out⟩
  case round =>
    clear hB R0 L0
    obtain ⟨k, hk, rfl, rfl, hB, R0, L0⟩ := hrel
    by_cases hlt : k < L
    · obtain ⟨b, off, rfl, c1, c2, _, _⟩ := H5.out k hlt
      replace c1 := cell_keep hB.out c1
      replace c2 := cell_keep hB.out c2
      have HS := hidA (HFS.out k)
      obtain ⟨s, hs⟩ : ∃ z, z = F k := ⟨_, rfl⟩
      rw [← hs] at L0 HS ⊢
      clear hs
      obtain ⟨bst, lw1, lw2⟩ := s
      dsimp only at L0 ⊢
      obtain ⟨l, hl⟩ : ∃ l, l = (sp ls k).1 := ⟨_, rfl⟩
      rw [← hl] at c1 c2 HS
      have HBT : Hid (betB ls (bst, lw1, lw2) k = (decide (bst < depI ls l) || (decide (depI ls l = bst) && lessB l.1 l.2 lw1 lw2))) := by show _ = _; rw [hl]; rfl
      clear hl
      obtain ⟨l1, l2⟩ := l
      dsimp only at c1 c2 HBT
      have HD1 := hidA (fun W (hW : Below w.heap.size w W) => HDP.out l1 l2 W hW)
      obtain ⟨n, hn⟩ : ∃ n, n = depI ls (l1, l2) := ⟨_, rfl⟩
      rw [← hn] at HD1 HS HBT
      clear hn
      have HLS := hidA (fun W => sLess_any l1 l2 lw1 lw2 W)
      obtain ⟨q, hq⟩ : ∃ q, q = lessB l1 l2 lw1 lw2 := ⟨_, rfl⟩
      rw [← hq] at HLS HBT
      clear hq
      go_wp2_with fail
      refine (HD1.out _ hB.out).mono ?_
      rintro e w4 ⟨rfl, hb⟩
      replace R0 := hidA (R0.out.below hb)
      replace L0 := hidA (L0.out.below hb)
      replace c1 := cell_keep hb c1
      replace c2 := cell_keep hb c2
      replace hB := hidA (hB.out.trans (hb.mono hB.out.size))
      clear hb HD1
      have d0 := L0.out.c0
      have d1 := L0.out.c1
      by_cases h1 : bst < n
      · have hd : decide (bst < n) = true := decide_eq_true h1
        have HBB : Hid (betB ls (bst, lw1, lw2) k = true) := by show _ = _; rw [HBT.out, hd]; rfl
        go_upto_region 9 with fail
        refine wp_region_noPanic ?_
        refine wp_region_held_drew (S := (fun w' => w'.cell? ⟨b, off + k * 4, none⟩ = some (.int .i64 l1) ∧ w'.cell? ⟨b, off + k * 4 + 1, none⟩ = some (.int .i64 l2) ∧ w'.cell? ⟨Lb, 0, none⟩ = some (.int .i64 lw1) ∧ w'.cell? ⟨Lb, 1, none⟩ = some (.int .i64 lw2))) (by kernel_rfl) ?_ (fun hHeld => ?_)
        · (try dsimp only)
          refine ⟨?_, ?_, ?_, ?_⟩ <;> (repeat (with_reducible (first | exact c1 | exact c2 | exact d0 | exact d1 | refine cell_dr ?_)))
        have hbd := (Below.refl w4.heap.size w4).drew
        replace R0 := hidA (R0.out.below hbd)
        replace L0 := hidA (L0.out.below hbd)
        replace hB := hidA (hB.out.trans (hbd.mono hB.out.size))
        replace c1 := cell_dr c1
        replace c2 := cell_dr c2
        replace d0 := cell_dr d0
        replace d1 := cell_dr d1
        clear hbd
        obtain ⟨wd, hwd⟩ : ∃ u, u = w4.drew := ⟨_, rfl⟩
        rw [← hwd] at hB R0 L0 c1 c2 d0 d1 hHeld ⊢
        clear hwd
        refine wpAnyH_take (i := 0) (v := ?_) rfl (by kernel_rfl) (by kernel_rfl) (by kernel_rfl) (fun _ _ _ h => h) (Or.inl ⟨by kernel_rfl, ?_⟩) hHeld ?_
        rotate_left
        · intro wz hSw; (try dsimp only at hSw); go_simp; all_goals (try with_reducible rfl)
        (try simp only [List.getElem_toArray]); (try simp only [List.getElem_cons_succ]); (try simp only [List.getElem_cons_zero]); (try simp only [Act.put]); (try simp only [List.setIfInBounds_toArray]); (try simp only [List.set_cons_succ]); (try simp only [List.set_cons_zero])
        refine wpAnyH_take (i := 1) (v := ?_) rfl (by kernel_rfl) (by kernel_rfl) (by kernel_rfl) (fun _ _ _ h => h) (Or.inl ⟨by kernel_rfl, ?_⟩) hHeld ?_
        rotate_left
        · intro wz hSw; (try dsimp only at hSw); go_simp; all_goals (try with_reducible rfl)
        (try simp only [List.getElem_toArray]); (try simp only [List.getElem_cons_succ]); (try simp only [List.getElem_cons_zero]); (try simp only [Act.put]); (try simp only [List.setIfInBounds_toArray]); (try simp only [List.set_cons_succ]); (try simp only [List.set_cons_zero])
        refine wpAnyH_take (i := 2) (v := ?_) rfl (by kernel_rfl) (by kernel_rfl) (by kernel_rfl) (fun _ _ _ h => h) (Or.inl ⟨by kernel_rfl, ?_⟩) hHeld ?_
        rotate_left
        · intro wz hSw; (try dsimp only at hSw); go_simp; all_goals (try with_reducible rfl)
        (try simp only [List.getElem_toArray]); (try simp only [List.getElem_cons_succ]); (try simp only [List.getElem_cons_zero]); (try simp only [Act.put]); (try simp only [List.setIfInBounds_toArray]); (try simp only [List.set_cons_succ]); (try simp only [List.set_cons_zero])
        refine wpAnyH_take (i := 3) (v := ?_) rfl (by kernel_rfl) (by kernel_rfl) (by kernel_rfl) (fun _ _ _ h => h) (Or.inl ⟨by kernel_rfl, ?_⟩) hHeld ?_
        rotate_left
        · intro wz hSw; (try dsimp only at hSw); go_simp; all_goals (try with_reducible rfl)
        (try simp only [List.getElem_toArray]); (try simp only [List.getElem_cons_succ]); (try simp only [List.getElem_cons_zero]); (try simp only [Act.put]); (try simp only [List.setIfInBounds_toArray]); (try simp only [List.set_cons_succ]); (try simp only [List.set_cons_zero])
        refine wpAnyH_take (i := 4) (v := undef) rfl (by kernel_rfl) (by kernel_rfl) (by kernel_rfl) (fun _ _ _ h => h) (Or.inr ⟨by kernel_rfl, rfl⟩) hHeld ?_
        (try simp only [List.getElem_toArray]); (try simp only [List.getElem_cons_succ]); (try simp only [List.getElem_cons_zero]); (try simp only [Act.put]); (try simp only [List.setIfInBounds_toArray]); (try simp only [List.set_cons_succ]); (try simp only [List.set_cons_zero])
        refine wpAnyH_take (i := 5) (v := undef) rfl (by kernel_rfl) (by kernel_rfl) (by kernel_rfl) (fun _ _ _ h => h) (Or.inr ⟨by kernel_rfl, rfl⟩) hHeld ?_
        (try simp only [List.getElem_toArray]); (try simp only [List.getElem_cons_succ]); (try simp only [List.getElem_cons_zero]); (try simp only [Act.put]); (try simp only [List.setIfInBounds_toArray]); (try simp only [List.set_cons_succ]); (try simp only [List.set_cons_zero])
        refine wpAnyH_take (i := 6) (v := undef) rfl (by kernel_rfl) (by kernel_rfl) (by kernel_rfl) (fun _ _ _ h => h) (Or.inr ⟨by kernel_rfl, rfl⟩) hHeld ?_
        (try simp only [List.getElem_toArray]); (try simp only [List.getElem_cons_succ]); (try simp only [List.getElem_cons_zero]); (try simp only [Act.put]); (try simp only [List.setIfInBounds_toArray]); (try simp only [List.set_cons_succ]); (try simp only [List.set_cons_zero])
        refine wpAnyH_take (i := 7) (v := undef) rfl (by kernel_rfl) (by kernel_rfl) (by kernel_rfl) (fun _ _ _ h => h) (Or.inr ⟨by kernel_rfl, rfl⟩) hHeld ?_
        (try simp only [List.getElem_toArray]); (try simp only [List.getElem_cons_succ]); (try simp only [List.getElem_cons_zero]); (try simp only [Act.put]); (try simp only [List.setIfInBounds_toArray]); (try simp only [List.set_cons_succ]); (try simp only [List.set_cons_zero])
        refine wpAnyH_take (i := 8) (v := undef) rfl (by kernel_rfl) (by kernel_rfl) (by kernel_rfl) (fun _ _ _ h => h) (Or.inr ⟨by kernel_rfl, rfl⟩) hHeld ?_
        (try simp only [List.getElem_toArray]); (try simp only [List.getElem_cons_succ]); (try simp only [List.getElem_cons_zero]); (try simp only [Act.put]); (try simp only [List.setIfInBounds_toArray]); (try simp only [List.set_cons_succ]); (try simp only [List.set_cons_zero])
        refine wpAnyH_take (i := 9) (v := undef) rfl (by kernel_rfl) (by kernel_rfl) (by kernel_rfl) (fun _ _ _ h => h) (Or.inr ⟨by kernel_rfl, rfl⟩) hHeld ?_
        (try simp only [List.getElem_toArray]); (try simp only [List.getElem_cons_succ]); (try simp only [List.getElem_cons_zero]); (try simp only [Act.put]); (try simp only [List.setIfInBounds_toArray]); (try simp only [List.set_cons_succ]); (try simp only [List.set_cons_zero])
        refine wpAnyH_take (i := 10) (v := undef) rfl (by kernel_rfl) (by kernel_rfl) (by kernel_rfl) (fun _ _ _ h => h) (Or.inr ⟨by kernel_rfl, rfl⟩) hHeld ?_
        (try simp only [List.getElem_toArray]); (try simp only [List.getElem_cons_succ]); (try simp only [List.getElem_cons_zero]); (try simp only [Act.put]); (try simp only [List.setIfInBounds_toArray]); (try simp only [List.set_cons_succ]); (try simp only [List.set_cons_zero])
        refine wpAnyH_take (i := 11) (v := undef) rfl (by kernel_rfl) (by kernel_rfl) (by kernel_rfl) (fun _ _ _ h => h) (Or.inr ⟨by kernel_rfl, rfl⟩) hHeld ?_
        (try simp only [List.getElem_toArray]); (try simp only [List.getElem_cons_succ]); (try simp only [List.getElem_cons_zero]); (try simp only [Act.put]); (try simp only [List.setIfInBounds_toArray]); (try simp only [List.set_cons_succ]); (try simp only [List.set_cons_zero])
        refine wpAnyH_take (i := 12) (v := undef) rfl (by kernel_rfl) (by kernel_rfl) (by kernel_rfl) (fun _ _ _ h => h) (Or.inr ⟨by kernel_rfl, rfl⟩) hHeld ?_
        (try simp only [List.getElem_toArray]); (try simp only [List.getElem_cons_succ]); (try simp only [List.getElem_cons_zero]); (try simp only [Act.put]); (try simp only [List.setIfInBounds_toArray]); (try simp only [List.set_cons_succ]); (try simp only [List.set_cons_zero])
        refine wpAnyH_take (i := 13) (v := undef) rfl (by kernel_rfl) (by kernel_rfl) (by kernel_rfl) (fun _ _ _ h => h) (Or.inr ⟨by kernel_rfl, rfl⟩) hHeld ?_
        (try simp only [List.getElem_toArray]); (try simp only [List.getElem_cons_succ]); (try simp only [List.getElem_cons_zero]); (try simp only [Act.put]); (try simp only [List.setIfInBounds_toArray]); (try simp only [List.set_cons_succ]); (try simp only [List.set_cons_zero])
        refine wpAnyH_take (i := 14) (v := undef) rfl (by kernel_rfl) (by kernel_rfl) (by kernel_rfl) (fun _ _ _ h => h) (Or.inr ⟨by kernel_rfl, rfl⟩) hHeld ?_
        (try simp only [List.getElem_toArray]); (try simp only [List.getElem_cons_succ]); (try simp only [List.getElem_cons_zero]); (try simp only [Act.put]); (try simp only [List.setIfInBounds_toArray]); (try simp only [List.set_cons_succ]); (try simp only [List.set_cons_zero])
        refine wpAnyH_take (i := 15) (v := undef) rfl (by kernel_rfl) (by kernel_rfl) (by kernel_rfl) (fun _ _ _ h => h) (Or.inr ⟨by kernel_rfl, rfl⟩) hHeld ?_
        (try simp only [List.getElem_toArray]); (try simp only [List.getElem_cons_succ]); (try simp only [List.getElem_cons_zero]); (try simp only [Act.put]); (try simp only [List.setIfInBounds_toArray]); (try simp only [List.set_cons_succ]); (try simp only [List.set_cons_zero])
        refine wpAnyH_take (i := 16) (v := ?_) rfl (by kernel_rfl) (by kernel_rfl) (by kernel_rfl) (fun _ _ _ h => h) (Or.inl ⟨by kernel_rfl, ?_⟩) hHeld ?_
        rotate_left
        · intro wz hSw; (try dsimp only at hSw); go_simp; all_goals (try with_reducible rfl)
        (try simp only [List.getElem_toArray]); (try simp only [List.getElem_cons_succ]); (try simp only [List.getElem_cons_zero]); (try simp only [Act.put]); (try simp only [List.setIfInBounds_toArray]); (try simp only [List.set_cons_succ]); (try simp only [List.set_cons_zero])
        refine wpAnyH_done (by kernel_rfl) ?_ _
        refine NoPanic.normal ?_
        have HN1 : Hid (F (k + 1) = (n, (l1, l2))) := by show _ = _; rw [HS.out, HBB.out]; rfl
        have f0 := L0.out.f0
        have f1 := L0.out.f1
        have e0 := L0.out.c0
        have e1 := L0.out.c1
        go_wp2
        go_roundw
        case rel =>
          refine ⟨k + 1, by omega, by go_num, by rw [HN1.out], (hB.out.setCell (p := ⟨Lb, 0, none⟩) hwL _).setCell (p := ⟨Lb, 1, none⟩) hwL _, (R0.out.other (by omega) _ _).other (by omega) _ _, ?_⟩
          show IsR _ _ _ _
          rw [HN1.out]
          exact (L0.out.set0 _).set1 _
        case measure => simp [intOf]; omega
      · have hd : decide (bst < n) = false := decide_eq_false h1
        by_cases h2 : n = bst
        · subst h2
          have hd2 : (n == n) = true := by simp
          have hd3 : decide (n = n) = true := decide_eq_true rfl
          go_upto_region 9 with fail
          refine wp_region_noPanic ?_
          refine wp_region_held_drew (S := (fun w' => w'.cell? ⟨b, off + k * 4, none⟩ = some (.int .i64 l1) ∧ w'.cell? ⟨b, off + k * 4 + 1, none⟩ = some (.int .i64 l2) ∧ w'.cell? ⟨Lb, 0, none⟩ = some (.int .i64 lw1) ∧ w'.cell? ⟨Lb, 1, none⟩ = some (.int .i64 lw2))) (by kernel_rfl) ?_ (fun hHeld => ?_)
          · (try dsimp only)
            refine ⟨?_, ?_, ?_, ?_⟩ <;> (repeat (with_reducible (first | exact c1 | exact c2 | exact d0 | exact d1 | refine cell_dr ?_)))
          have hbd := (Below.refl w4.heap.size w4).drew
          replace R0 := hidA (R0.out.below hbd)
          replace L0 := hidA (L0.out.below hbd)
          replace hB := hidA (hB.out.trans (hbd.mono hB.out.size))
          replace c1 := cell_dr c1
          replace c2 := cell_dr c2
          replace d0 := cell_dr d0
          replace d1 := cell_dr d1
          clear hbd
          obtain ⟨wd, hwd⟩ : ∃ u, u = w4.drew := ⟨_, rfl⟩
          rw [← hwd] at hB R0 L0 c1 c2 d0 d1 hHeld ⊢
          clear hwd
          refine wpAnyH_take (i := 0) (v := ?_) rfl (by kernel_rfl) (by kernel_rfl) (by kernel_rfl) (fun _ _ _ h => h) (Or.inl ⟨by kernel_rfl, ?_⟩) hHeld ?_
          rotate_left
          · intro wz hSw; (try dsimp only at hSw); go_simp; all_goals (try with_reducible rfl)
          (try simp only [List.getElem_toArray]); (try simp only [List.getElem_cons_succ]); (try simp only [List.getElem_cons_zero]); (try simp only [Act.put]); (try simp only [List.setIfInBounds_toArray]); (try simp only [List.set_cons_succ]); (try simp only [List.set_cons_zero])
          refine wpAnyH_take (i := 1) (v := ?_) rfl (by kernel_rfl) (by kernel_rfl) (by kernel_rfl) (fun _ _ _ h => h) (Or.inl ⟨by kernel_rfl, ?_⟩) hHeld ?_
          rotate_left
          · intro wz hSw; (try dsimp only at hSw); go_simp; all_goals (try with_reducible rfl)
          (try simp only [List.getElem_toArray]); (try simp only [List.getElem_cons_succ]); (try simp only [List.getElem_cons_zero]); (try simp only [Act.put]); (try simp only [List.setIfInBounds_toArray]); (try simp only [List.set_cons_succ]); (try simp only [List.set_cons_zero])
          refine wpAnyH_take (i := 2) (v := ?_) rfl (by kernel_rfl) (by kernel_rfl) (by kernel_rfl) (fun _ _ _ h => h) (Or.inl ⟨by kernel_rfl, ?_⟩) hHeld ?_
          rotate_left
          · intro wz hSw; (try dsimp only at hSw); go_simp; all_goals (try with_reducible rfl)
          (try simp only [List.getElem_toArray]); (try simp only [List.getElem_cons_succ]); (try simp only [List.getElem_cons_zero]); (try simp only [Act.put]); (try simp only [List.setIfInBounds_toArray]); (try simp only [List.set_cons_succ]); (try simp only [List.set_cons_zero])
          refine wpAnyH_take (i := 3) (v := ?_) rfl (by kernel_rfl) (by kernel_rfl) (by kernel_rfl) (fun _ _ _ h => h) (Or.inl ⟨by kernel_rfl, ?_⟩) hHeld ?_
          rotate_left
          · intro wz hSw; (try dsimp only at hSw); go_simp; all_goals (try with_reducible rfl)
          (try simp only [List.getElem_toArray]); (try simp only [List.getElem_cons_succ]); (try simp only [List.getElem_cons_zero]); (try simp only [Act.put]); (try simp only [List.setIfInBounds_toArray]); (try simp only [List.set_cons_succ]); (try simp only [List.set_cons_zero])
          refine wpAnyH_take (i := 4) (v := ?_) rfl (by kernel_rfl) (by kernel_rfl) (by kernel_rfl) (fun _ _ _ h => h) (Or.inl ⟨by kernel_rfl, ?_⟩) hHeld ?_
          rotate_left
          · intro wz hSw; (try dsimp only at hSw); go_simp; all_goals (try with_reducible rfl)
          (try simp only [List.getElem_toArray]); (try simp only [List.getElem_cons_succ]); (try simp only [List.getElem_cons_zero]); (try simp only [Act.put]); (try simp only [List.setIfInBounds_toArray]); (try simp only [List.set_cons_succ]); (try simp only [List.set_cons_zero])
          refine wpAnyH_take (i := 5) (v := ?_) rfl (by kernel_rfl) (by kernel_rfl) (by kernel_rfl) (fun _ _ _ h => h) (Or.inl ⟨by kernel_rfl, ?_⟩) hHeld ?_
          rotate_left
          · intro wz hSw; (try dsimp only at hSw); go_simp; all_goals (try with_reducible rfl)
          (try simp only [List.getElem_toArray]); (try simp only [List.getElem_cons_succ]); (try simp only [List.getElem_cons_zero]); (try simp only [Act.put]); (try simp only [List.setIfInBounds_toArray]); (try simp only [List.set_cons_succ]); (try simp only [List.set_cons_zero])
          refine wpAnyH_take (i := 6) (v := ?_) rfl (by kernel_rfl) (by kernel_rfl) (by kernel_rfl) (fun _ _ _ h => h) (Or.inl ⟨by kernel_rfl, ?_⟩) hHeld ?_
          rotate_left
          · intro wz hSw; (try dsimp only at hSw); go_simp; all_goals (try with_reducible rfl)
          (try simp only [List.getElem_toArray]); (try simp only [List.getElem_cons_succ]); (try simp only [List.getElem_cons_zero]); (try simp only [Act.put]); (try simp only [List.setIfInBounds_toArray]); (try simp only [List.set_cons_succ]); (try simp only [List.set_cons_zero])
          refine wpAnyH_take (i := 7) (v := ?_) rfl (by kernel_rfl) (by kernel_rfl) (by kernel_rfl) (fun _ _ _ h => h) (Or.inl ⟨by kernel_rfl, ?_⟩) hHeld ?_
          rotate_left
          · intro wz hSw; (try dsimp only at hSw); go_simp; all_goals (try with_reducible rfl)
          (try simp only [List.getElem_toArray]); (try simp only [List.getElem_cons_succ]); (try simp only [List.getElem_cons_zero]); (try simp only [Act.put]); (try simp only [List.setIfInBounds_toArray]); (try simp only [List.set_cons_succ]); (try simp only [List.set_cons_zero])
          refine wpAnyH_take (i := 8) (v := ?_) rfl (by kernel_rfl) (by kernel_rfl) (by kernel_rfl) (fun _ _ _ h => h) (Or.inl ⟨by kernel_rfl, ?_⟩) hHeld ?_
          rotate_left
          · intro wz hSw; (try dsimp only at hSw); go_simp; all_goals (try with_reducible rfl)
          (try simp only [List.getElem_toArray]); (try simp only [List.getElem_cons_succ]); (try simp only [List.getElem_cons_zero]); (try simp only [Act.put]); (try simp only [List.setIfInBounds_toArray]); (try simp only [List.set_cons_succ]); (try simp only [List.set_cons_zero])
          refine wpAnyH_take (i := 9) (v := ?_) rfl (by kernel_rfl) (by kernel_rfl) (by kernel_rfl) (fun _ _ _ h => h) (Or.inl ⟨by kernel_rfl, ?_⟩) hHeld ?_
          rotate_left
          · intro wz hSw; (try dsimp only at hSw); go_simp; all_goals (try with_reducible rfl)
          (try simp only [List.getElem_toArray]); (try simp only [List.getElem_cons_succ]); (try simp only [List.getElem_cons_zero]); (try simp only [Act.put]); (try simp only [List.setIfInBounds_toArray]); (try simp only [List.set_cons_succ]); (try simp only [List.set_cons_zero])
          refine wpAnyH_take (i := 10) (v := ?_) rfl (by kernel_rfl) (by kernel_rfl) (by kernel_rfl) (fun _ _ _ h => h) (Or.inl ⟨by kernel_rfl, ?_⟩) hHeld ?_
          rotate_left
          · intro wz hSw; (try dsimp only at hSw); go_simp; all_goals (try with_reducible rfl)
          (try simp only [List.getElem_toArray]); (try simp only [List.getElem_cons_succ]); (try simp only [List.getElem_cons_zero]); (try simp only [Act.put]); (try simp only [List.setIfInBounds_toArray]); (try simp only [List.set_cons_succ]); (try simp only [List.set_cons_zero])
          refine wpAnyH_take (i := 11) (v := ?_) rfl (by kernel_rfl) (by kernel_rfl) (by kernel_rfl) (fun _ _ _ h => h) (Or.inl ⟨by kernel_rfl, ?_⟩) hHeld ?_
          rotate_left
          · intro wz hSw; (try dsimp only at hSw); go_simp; all_goals (try with_reducible rfl)
          (try simp only [List.getElem_toArray]); (try simp only [List.getElem_cons_succ]); (try simp only [List.getElem_cons_zero]); (try simp only [Act.put]); (try simp only [List.setIfInBounds_toArray]); (try simp only [List.set_cons_succ]); (try simp only [List.set_cons_zero])
          refine wpAnyH_take (i := 12) (v := ?_) rfl (by kernel_rfl) (by kernel_rfl) (by kernel_rfl) (fun _ _ _ h => h) (Or.inl ⟨by kernel_rfl, ?_⟩) hHeld ?_
          rotate_left
          · intro wz hSw; (try dsimp only at hSw); go_simp; all_goals (try with_reducible rfl)
          (try simp only [List.getElem_toArray]); (try simp only [List.getElem_cons_succ]); (try simp only [List.getElem_cons_zero]); (try simp only [Act.put]); (try simp only [List.setIfInBounds_toArray]); (try simp only [List.set_cons_succ]); (try simp only [List.set_cons_zero])
          refine wpAnyH_take (i := 13) (v := ?_) rfl (by kernel_rfl) (by kernel_rfl) (by kernel_rfl) (fun _ _ _ h => h) (Or.inl ⟨by kernel_rfl, ?_⟩) hHeld ?_
          rotate_left
          · intro wz hSw; (try dsimp only at hSw); go_simp; all_goals (try with_reducible rfl)
          (try simp only [List.getElem_toArray]); (try simp only [List.getElem_cons_succ]); (try simp only [List.getElem_cons_zero]); (try simp only [Act.put]); (try simp only [List.setIfInBounds_toArray]); (try simp only [List.set_cons_succ]); (try simp only [List.set_cons_zero])
          refine wpAnyH_ready (rs := [14]) (by kernel_rfl) (by simp) (AllReadyH.cons rfl (fun Kc hKc => ?_) AllReadyH.nil)
          go_simp
          (go_at_call 27; refine (HLS.out _).mono ?_; rintro e w5 ⟨rfl, hb⟩)
          have hbd : Below wd.heap.size wd w5 := hb
          replace R0 := hidA (R0.out.below hbd)
          replace L0 := hidA (L0.out.below hbd)
          replace hB := hidA (hB.out.trans (hbd.mono hB.out.size))
          replace c1 := cell_keep hbd c1
          replace c2 := cell_keep hbd c2
          replace d0 := cell_keep hbd d0
          replace d1 := cell_keep hbd d1
          clear hb hbd
          go_wp2_with fail
          refine hKc.out _ _ ?_ (fun hHeld => ?_)
          · (try dsimp only)
            refine ⟨?_, ?_, ?_, ?_⟩ <;> (repeat (with_reducible (first | exact c1 | exact c2 | exact d0 | exact d1 | refine cell_dr ?_)))
          clear hKc Kc
          (try simp only [List.getElem_toArray]); (try simp only [List.getElem_cons_succ]); (try simp only [List.getElem_cons_zero]); (try simp only [Act.put]); (try simp only [List.setIfInBounds_toArray]); (try simp only [List.set_cons_succ]); (try simp only [List.set_cons_zero])
          refine wpAnyH_take (i := 15) (v := ?_) rfl (by kernel_rfl) (by kernel_rfl) (by kernel_rfl) (fun _ _ _ h => h) (Or.inl ⟨by kernel_rfl, ?_⟩) hHeld ?_
          rotate_left
          · intro wz hSw; (try dsimp only at hSw); go_simp; all_goals (try with_reducible rfl)
          (try simp only [List.getElem_toArray]); (try simp only [List.getElem_cons_succ]); (try simp only [List.getElem_cons_zero]); (try simp only [Act.put]); (try simp only [List.setIfInBounds_toArray]); (try simp only [List.set_cons_succ]); (try simp only [List.set_cons_zero])
          refine wpAnyH_take (i := 16) (v := ?_) rfl (by kernel_rfl) (by kernel_rfl) (by kernel_rfl) (fun _ _ _ h => h) (Or.inl ⟨by kernel_rfl, ?_⟩) hHeld ?_
          rotate_left
          · intro wz hSw; (try dsimp only at hSw); go_simp; all_goals (try with_reducible rfl)
          (try simp only [List.getElem_toArray]); (try simp only [List.getElem_cons_succ]); (try simp only [List.getElem_cons_zero]); (try simp only [Act.put]); (try simp only [List.setIfInBounds_toArray]); (try simp only [List.set_cons_succ]); (try simp only [List.set_cons_zero])
          refine wpAnyH_done (by kernel_rfl) ?_ _
          refine NoPanic.normal ?_
          cases q
          · have HBB : Hid (betB ls (n, lw1, lw2) k = false) := by show _ = _; rw [HBT.out, hd, hd3]; rfl
            have HN1 : Hid (F (k + 1) = (n, (lw1, lw2))) := by show _ = _; rw [HS.out, HBB.out]; rfl
            go_wp2
            go_roundw
            case rel =>
              refine ⟨k + 1, by omega, by go_num, by rw [HN1.out], hB.out, R0.out, ?_⟩
              show IsR _ _ _ _
              rw [HN1.out]
              exact L0.out
            case measure => simp [intOf]; omega
          · have HBB : Hid (betB ls (n, lw1, lw2) k = true) := by show _ = _; rw [HBT.out, hd, hd3]; rfl
            have HN1 : Hid (F (k + 1) = (n, (l1, l2))) := by show _ = _; rw [HS.out, HBB.out]; rfl
            have f0 := L0.out.f0
            have f1 := L0.out.f1
            have e0 := L0.out.c0
            have e1 := L0.out.c1
            go_wp2
            go_roundw
            case rel =>
              refine ⟨k + 1, by omega, by go_num, by rw [HN1.out], (hB.out.setCell (p := ⟨Lb, 0, none⟩) hwL _).setCell (p := ⟨Lb, 1, none⟩) hwL _, (R0.out.other (by omega) _ _).other (by omega) _ _, ?_⟩
              show IsR _ _ _ _
              rw [HN1.out]
              exact (L0.out.set0 _).set1 _
            case measure => simp [intOf]; omega
        · have hd2 : (n == bst) = false := by simpa using h2
          have hd3 : decide (n = bst) = false := decide_eq_false h2
          have HBB : Hid (betB ls (bst, lw1, lw2) k = false) := by show _ = _; rw [HBT.out, hd, hd3]; rfl
          go_upto_region 9 with fail
          refine wp_region_noPanic ?_
          refine wp_region_held_drew (S := (fun w' => w'.cell? ⟨b, off + k * 4, none⟩ = some (.int .i64 l1) ∧ w'.cell? ⟨b, off + k * 4 + 1, none⟩ = some (.int .i64 l2) ∧ w'.cell? ⟨Lb, 0, none⟩ = some (.int .i64 lw1) ∧ w'.cell? ⟨Lb, 1, none⟩ = some (.int .i64 lw2))) (by kernel_rfl) ?_ (fun hHeld => ?_)
          · (try dsimp only)
            refine ⟨?_, ?_, ?_, ?_⟩ <;> (repeat (with_reducible (first | exact c1 | exact c2 | exact d0 | exact d1 | refine cell_dr ?_)))
          have hbd := (Below.refl w4.heap.size w4).drew
          replace R0 := hidA (R0.out.below hbd)
          replace L0 := hidA (L0.out.below hbd)
          replace hB := hidA (hB.out.trans (hbd.mono hB.out.size))
          replace c1 := cell_dr c1
          replace c2 := cell_dr c2
          replace d0 := cell_dr d0
          replace d1 := cell_dr d1
          clear hbd
          obtain ⟨wd, hwd⟩ : ∃ u, u = w4.drew := ⟨_, rfl⟩
          rw [← hwd] at hB R0 L0 c1 c2 d0 d1 hHeld ⊢
          clear hwd
          refine wpAnyH_take (i := 0) (v := ?_) rfl (by kernel_rfl) (by kernel_rfl) (by kernel_rfl) (fun _ _ _ h => h) (Or.inl ⟨by kernel_rfl, ?_⟩) hHeld ?_
          rotate_left
          · intro wz hSw; (try dsimp only at hSw); go_simp; all_goals (try with_reducible rfl)
          (try simp only [List.getElem_toArray]); (try simp only [List.getElem_cons_succ]); (try simp only [List.getElem_cons_zero]); (try simp only [Act.put]); (try simp only [List.setIfInBounds_toArray]); (try simp only [List.set_cons_succ]); (try simp only [List.set_cons_zero])
          refine wpAnyH_take (i := 1) (v := ?_) rfl (by kernel_rfl) (by kernel_rfl) (by kernel_rfl) (fun _ _ _ h => h) (Or.inl ⟨by kernel_rfl, ?_⟩) hHeld ?_
          rotate_left
          · intro wz hSw; (try dsimp only at hSw); go_simp; all_goals (try with_reducible rfl)
          (try simp only [List.getElem_toArray]); (try simp only [List.getElem_cons_succ]); (try simp only [List.getElem_cons_zero]); (try simp only [Act.put]); (try simp only [List.setIfInBounds_toArray]); (try simp only [List.set_cons_succ]); (try simp only [List.set_cons_zero])
          refine wpAnyH_take (i := 2) (v := ?_) rfl (by kernel_rfl) (by kernel_rfl) (by kernel_rfl) (fun _ _ _ h => h) (Or.inl ⟨by kernel_rfl, ?_⟩) hHeld ?_
          rotate_left
          · intro wz hSw; (try dsimp only at hSw); go_simp; all_goals (try with_reducible rfl)
          (try simp only [List.getElem_toArray]); (try simp only [List.getElem_cons_succ]); (try simp only [List.getElem_cons_zero]); (try simp only [Act.put]); (try simp only [List.setIfInBounds_toArray]); (try simp only [List.set_cons_succ]); (try simp only [List.set_cons_zero])
          refine wpAnyH_take (i := 3) (v := ?_) rfl (by kernel_rfl) (by kernel_rfl) (by kernel_rfl) (fun _ _ _ h => h) (Or.inl ⟨by kernel_rfl, ?_⟩) hHeld ?_
          rotate_left
          · intro wz hSw; (try dsimp only at hSw); go_simp; all_goals (try with_reducible rfl)
          (try simp only [List.getElem_toArray]); (try simp only [List.getElem_cons_succ]); (try simp only [List.getElem_cons_zero]); (try simp only [Act.put]); (try simp only [List.setIfInBounds_toArray]); (try simp only [List.set_cons_succ]); (try simp only [List.set_cons_zero])
          refine wpAnyH_take (i := 4) (v := ?_) rfl (by kernel_rfl) (by kernel_rfl) (by kernel_rfl) (fun _ _ _ h => h) (Or.inl ⟨by kernel_rfl, ?_⟩) hHeld ?_
          rotate_left
          · intro wz hSw; (try dsimp only at hSw); go_simp; all_goals (try with_reducible rfl)
          (try simp only [List.getElem_toArray]); (try simp only [List.getElem_cons_succ]); (try simp only [List.getElem_cons_zero]); (try simp only [Act.put]); (try simp only [List.setIfInBounds_toArray]); (try simp only [List.set_cons_succ]); (try simp only [List.set_cons_zero])
          refine wpAnyH_take (i := 5) (v := ?_) rfl (by kernel_rfl) (by kernel_rfl) (by kernel_rfl) (fun _ _ _ h => h) (Or.inl ⟨by kernel_rfl, ?_⟩) hHeld ?_
          rotate_left
          · intro wz hSw; (try dsimp only at hSw); go_simp; all_goals (try with_reducible rfl)
          (try simp only [List.getElem_toArray]); (try simp only [List.getElem_cons_succ]); (try simp only [List.getElem_cons_zero]); (try simp only [Act.put]); (try simp only [List.setIfInBounds_toArray]); (try simp only [List.set_cons_succ]); (try simp only [List.set_cons_zero])
          refine wpAnyH_take (i := 6) (v := ?_) rfl (by kernel_rfl) (by kernel_rfl) (by kernel_rfl) (fun _ _ _ h => h) (Or.inl ⟨by kernel_rfl, ?_⟩) hHeld ?_
          rotate_left
          · intro wz hSw; (try dsimp only at hSw); go_simp; all_goals (try with_reducible rfl)
          (try simp only [List.getElem_toArray]); (try simp only [List.getElem_cons_succ]); (try simp only [List.getElem_cons_zero]); (try simp only [Act.put]); (try simp only [List.setIfInBounds_toArray]); (try simp only [List.set_cons_succ]); (try simp only [List.set_cons_zero])
          refine wpAnyH_take (i := 7) (v := ?_) rfl (by kernel_rfl) (by kernel_rfl) (by kernel_rfl) (fun _ _ _ h => h) (Or.inl ⟨by kernel_rfl, ?_⟩) hHeld ?_
          rotate_left
          · intro wz hSw; (try dsimp only at hSw); go_simp; all_goals (try with_reducible rfl)
          (try simp only [List.getElem_toArray]); (try simp only [List.getElem_cons_succ]); (try simp only [List.getElem_cons_zero]); (try simp only [Act.put]); (try simp only [List.setIfInBounds_toArray]); (try simp only [List.set_cons_succ]); (try simp only [List.set_cons_zero])
          refine wpAnyH_take (i := 8) (v := undef) rfl (by kernel_rfl) (by kernel_rfl) (by kernel_rfl) (fun _ _ _ h => h) (Or.inr ⟨by kernel_rfl, rfl⟩) hHeld ?_
          (try simp only [List.getElem_toArray]); (try simp only [List.getElem_cons_succ]); (try simp only [List.getElem_cons_zero]); (try simp only [Act.put]); (try simp only [List.setIfInBounds_toArray]); (try simp only [List.set_cons_succ]); (try simp only [List.set_cons_zero])
          refine wpAnyH_take (i := 9) (v := undef) rfl (by kernel_rfl) (by kernel_rfl) (by kernel_rfl) (fun _ _ _ h => h) (Or.inr ⟨by kernel_rfl, rfl⟩) hHeld ?_
          (try simp only [List.getElem_toArray]); (try simp only [List.getElem_cons_succ]); (try simp only [List.getElem_cons_zero]); (try simp only [Act.put]); (try simp only [List.setIfInBounds_toArray]); (try simp only [List.set_cons_succ]); (try simp only [List.set_cons_zero])
          refine wpAnyH_take (i := 10) (v := undef) rfl (by kernel_rfl) (by kernel_rfl) (by kernel_rfl) (fun _ _ _ h => h) (Or.inr ⟨by kernel_rfl, rfl⟩) hHeld ?_
          (try simp only [List.getElem_toArray]); (try simp only [List.getElem_cons_succ]); (try simp only [List.getElem_cons_zero]); (try simp only [Act.put]); (try simp only [List.setIfInBounds_toArray]); (try simp only [List.set_cons_succ]); (try simp only [List.set_cons_zero])
          refine wpAnyH_take (i := 11) (v := undef) rfl (by kernel_rfl) (by kernel_rfl) (by kernel_rfl) (fun _ _ _ h => h) (Or.inr ⟨by kernel_rfl, rfl⟩) hHeld ?_
          (try simp only [List.getElem_toArray]); (try simp only [List.getElem_cons_succ]); (try simp only [List.getElem_cons_zero]); (try simp only [Act.put]); (try simp only [List.setIfInBounds_toArray]); (try simp only [List.set_cons_succ]); (try simp only [List.set_cons_zero])
          refine wpAnyH_take (i := 12) (v := undef) rfl (by kernel_rfl) (by kernel_rfl) (by kernel_rfl) (fun _ _ _ h => h) (Or.inr ⟨by kernel_rfl, rfl⟩) hHeld ?_
          (try simp only [List.getElem_toArray]); (try simp only [List.getElem_cons_succ]); (try simp only [List.getElem_cons_zero]); (try simp only [Act.put]); (try simp only [List.setIfInBounds_toArray]); (try simp only [List.set_cons_succ]); (try simp only [List.set_cons_zero])
          refine wpAnyH_take (i := 13) (v := undef) rfl (by kernel_rfl) (by kernel_rfl) (by kernel_rfl) (fun _ _ _ h => h) (Or.inr ⟨by kernel_rfl, rfl⟩) hHeld ?_
          (try simp only [List.getElem_toArray]); (try simp only [List.getElem_cons_succ]); (try simp only [List.getElem_cons_zero]); (try simp only [Act.put]); (try simp only [List.setIfInBounds_toArray]); (try simp only [List.set_cons_succ]); (try simp only [List.set_cons_zero])
          refine wpAnyH_take (i := 14) (v := undef) rfl (by kernel_rfl) (by kernel_rfl) (by kernel_rfl) (fun _ _ _ h => h) (Or.inr ⟨by kernel_rfl, rfl⟩) hHeld ?_
          (try simp only [List.getElem_toArray]); (try simp only [List.getElem_cons_succ]); (try simp only [List.getElem_cons_zero]); (try simp only [Act.put]); (try simp only [List.setIfInBounds_toArray]); (try simp only [List.set_cons_succ]); (try simp only [List.set_cons_zero])
          refine wpAnyH_take (i := 15) (v := ?_) rfl (by kernel_rfl) (by kernel_rfl) (by kernel_rfl) (fun _ _ _ h => h) (Or.inl ⟨by kernel_rfl, ?_⟩) hHeld ?_
          rotate_left
          · intro wz hSw; (try dsimp only at hSw); go_simp; all_goals (try with_reducible rfl)
          (try simp only [List.getElem_toArray]); (try simp only [List.getElem_cons_succ]); (try simp only [List.getElem_cons_zero]); (try simp only [Act.put]); (try simp only [List.setIfInBounds_toArray]); (try simp only [List.set_cons_succ]); (try simp only [List.set_cons_zero])
          refine wpAnyH_take (i := 16) (v := ?_) rfl (by kernel_rfl) (by kernel_rfl) (by kernel_rfl) (fun _ _ _ h => h) (Or.inl ⟨by kernel_rfl, ?_⟩) hHeld ?_
          rotate_left
          · intro wz hSw; (try dsimp only at hSw); go_simp; all_goals (try with_reducible rfl)
          (try simp only [List.getElem_toArray]); (try simp only [List.getElem_cons_succ]); (try simp only [List.getElem_cons_zero]); (try simp only [Act.put]); (try simp only [List.setIfInBounds_toArray]); (try simp only [List.set_cons_succ]); (try simp only [List.set_cons_zero])
          refine wpAnyH_done (by kernel_rfl) ?_ _
          refine NoPanic.normal ?_
          have HN1 : Hid (F (k + 1) = (bst, (lw1, lw2))) := by show _ = _; rw [HS.out, HBB.out]; rfl
          go_wp2
          go_roundw
          case rel =>
            refine ⟨k + 1, by omega, by go_num, by rw [HN1.out], hB.out, R0.out, ?_⟩
            show IsR _ _ _ _
            rw [HN1.out]
            exact L0.out
          case measure => simp [intOf]; omega
    · obtain rfl : k = L := by omega
      obtain ⟨s, hs⟩ : ∃ z, z = F k := ⟨_, rfl⟩
      rw [← hs] at L0 HFL HHI HN ⊢
      clear hs HF0 HFS HDP
      obtain ⟨bst, lw1, lw2⟩ := s
      dsimp only at L0 HFL HHI HN ⊢
      have HRE : Hid (agrR ls = ((lw1, lw2), agrH ls)) := by show _ = _; rw [HR.out, HFL.out]; rfl
      have HNE : Hid (agrN ls = bst) := by show _ = _; rw [HN.out]; rfl
      obtain ⟨H, hH⟩ : ∃ H, H = hghV ls (lw1, lw2) := ⟨_, rfl⟩
      have HH0 : Hid (H 0 = ((0, 1), false)) := by show _ = _; rw [hH]; rfl
      have HHS : Hid (∀ j, H (j + 1) = if neaB ls (lw1, lw2) (H j) j = true then ((sp ls j).2, true) else H j) := by intro j; rw [hH]; rfl
      rw [← hH] at HHI
      clear hH HR HN HFL
      go_wp2_with fail
      refine (zero_any _).mono ?_
      rintro e w6 ⟨rfl, hb⟩
      have hs6 := hb.size
      have hb2 := b0S w6 (.cells #[.int .i64 0, .int .i64 1] 27)
      obtain ⟨Hb, hHb⟩ : ∃ Hb, Hb = w6.heap.size := ⟨_, rfl⟩
      obtain ⟨Z, hZ⟩ : ∃ Z, Z = w6.alloc (.cells #[.int .i64 0, .int .i64 1] 27) := ⟨_, rfl⟩
      have G0 : Hid (IsR Z Hb (H 0).1.1 (H 0).1.2) := by show IsR _ _ _ _; rw [HH0.out, hZ, hHb]; exact IsR.new _ _ _
      have hLH : Lb < Hb := by have := L0.out.lt; omega
      rw [← hZ] at hb2
      replace R0 := hidA ((R0.out.below hb).below hb2)
      replace L0 := hidA ((L0.out.below hb).below hb2)
      replace hB := hidA ((hB.out.trans (hb.mono hB.out.size)).trans (hb2.mono (by have := hB.out.size; omega)))
      have hwH : w.heap.size ≤ Hb := by omega
      clear hb hb2 hs6
      go_wp2
      rw [← hZ, ← hHb]
      clear hZ hHb
      go_loopw [9, 10] (fun f i wr => ∃ j : Nat, j ≤ k ∧ i = .int .i64 j ∧ f = .bool (H j).2 ∧ Hid (Below w.heap.size w wr) ∧ Hid (IsB wr Rb #[.int .i64 0, .int .i64 0, .int .i64 0, .int .i64 0] 29) ∧ Hid (IsR wr Lb lw1 lw2) ∧ Hid (IsR wr Hb (H j).1.1 (H j).1.2)) (fun _ i _ => k - (intOf i).toNat)
      case atStart => exact ⟨0, Nat.zero_le _, rfl, by rw [HH0.out], hB.out, R0.out, L0.out, G0.out⟩
      case round =>
        clear hB R0 L0 G0
        obtain ⟨j, hj, rfl, rfl, hB, R0, L0, G0⟩ := hrel
        by_cases hltj : j < k
        · obtain ⟨b, off, rfl, c1, c2, c3, c4⟩ := H5.out j hltj
          replace c1 := cell_keep hB.out c1
          replace c2 := cell_keep hB.out c2
          replace c3 := cell_keep hB.out c3
          replace c4 := cell_keep hB.out c4
          have HS := hidA (HHS.out j)
          obtain ⟨s, hs⟩ : ∃ z, z = H j := ⟨_, rfl⟩
          rw [← hs] at G0 HS ⊢
          clear hs
          obtain ⟨⟨hg1, hg2⟩, fo⟩ := s
          dsimp only at G0 ⊢
          obtain ⟨l, hl⟩ : ∃ l, l = sp ls j := ⟨_, rfl⟩
          rw [← hl] at c1 c2 c3 c4 HS
          have HNB : Hid (neaB ls (lw1, lw2) ((hg1, hg2), fo) j = (within7 l.1 l.2 (lw1, lw2) && (!fo || lessB l.2.1 l.2.2 hg1 hg2))) := by show _ = _; rw [hl]; rfl
          clear hl
          obtain ⟨⟨l1, l2⟩, m1, m2⟩ := l
          dsimp only at c1 c2 c3 c4 HNB HS
          have HWI := hidA (fun W => sWithin_any l1 l2 m1 m2 lw1 lw2 W)
          obtain ⟨q, hq⟩ : ∃ q, q = within7 (l1, l2) (m1, m2) (lw1, lw2) := ⟨_, rfl⟩
          rw [← hq] at HWI HNB
          clear hq
          have HLS := hidA (fun W => sLess_any m1 m2 hg1 hg2 W)
          obtain ⟨q2, hq⟩ : ∃ q, q = lessB m1 m2 hg1 hg2 := ⟨_, rfl⟩
          rw [← hq] at HLS HNB
          clear hq
          have d0 := L0.out.c0
          have d1 := L0.out.c1
          have d2 := G0.out.c0
          have d3 := G0.out.c1
          go_upto_region 17 with fail
          refine wp_region_noPanic ?_
          refine wp_region_held_drew (S := (fun w' => w'.cell? ⟨b, off + j * 4, none⟩ = some (.int .i64 l1) ∧ w'.cell? ⟨b, off + j * 4 + 1, none⟩ = some (.int .i64 l2) ∧ w'.cell? ⟨b, off + j * 4 + 2, none⟩ = some (.int .i64 m1) ∧ w'.cell? ⟨b, off + j * 4 + 3, none⟩ = some (.int .i64 m2) ∧ w'.cell? ⟨Lb, 0, none⟩ = some (.int .i64 lw1) ∧ w'.cell? ⟨Lb, 1, none⟩ = some (.int .i64 lw2) ∧ w'.cell? ⟨Hb, 0, none⟩ = some (.int .i64 hg1) ∧ w'.cell? ⟨Hb, 1, none⟩ = some (.int .i64 hg2))) (by kernel_rfl) ?_ (fun hHeld => ?_)
          · (try dsimp only)
            refine ⟨?_, ?_, ?_, ?_, ?_, ?_, ?_, ?_⟩ <;> (repeat (with_reducible (first | exact c1 | exact c2 | exact c3 | exact c4 | exact d0 | exact d1 | exact d2 | exact d3 | refine cell_dr ?_)))
          have hbd := (Below.refl wr.heap.size wr).drew
          replace R0 := hidA (R0.out.below hbd)
          replace L0 := hidA (L0.out.below hbd)
          replace G0 := hidA (G0.out.below hbd)
          replace hB := hidA (hB.out.trans (hbd.mono hB.out.size))
          replace c1 := cell_dr c1
          replace c2 := cell_dr c2
          replace c3 := cell_dr c3
          replace c4 := cell_dr c4
          replace d0 := cell_dr d0
          replace d1 := cell_dr d1
          replace d2 := cell_dr d2
          replace d3 := cell_dr d3
          clear hbd
          obtain ⟨wd, hwd⟩ : ∃ u, u = wr.drew := ⟨_, rfl⟩
          rw [← hwd] at hB R0 L0 G0 c1 c2 c3 c4 d0 d1 d2 d3 hHeld ⊢
          clear hwd
          refine wpAnyH_take (i := 0) (v := ?_) rfl (by kernel_rfl) (by kernel_rfl) (by kernel_rfl) (fun _ _ _ h => h) (Or.inl ⟨by kernel_rfl, ?_⟩) hHeld ?_
          rotate_left
          · intro wz hSw; (try dsimp only at hSw); go_simp; all_goals (try with_reducible rfl)
          (try simp only [List.getElem_toArray]); (try simp only [List.getElem_cons_succ]); (try simp only [List.getElem_cons_zero]); (try simp only [Act.put]); (try simp only [List.setIfInBounds_toArray]); (try simp only [List.set_cons_succ]); (try simp only [List.set_cons_zero])
          refine wpAnyH_take (i := 1) (v := ?_) rfl (by kernel_rfl) (by kernel_rfl) (by kernel_rfl) (fun _ _ _ h => h) (Or.inl ⟨by kernel_rfl, ?_⟩) hHeld ?_
          rotate_left
          · intro wz hSw; (try dsimp only at hSw); go_simp; all_goals (try with_reducible rfl)
          (try simp only [List.getElem_toArray]); (try simp only [List.getElem_cons_succ]); (try simp only [List.getElem_cons_zero]); (try simp only [Act.put]); (try simp only [List.setIfInBounds_toArray]); (try simp only [List.set_cons_succ]); (try simp only [List.set_cons_zero])
          refine wpAnyH_take (i := 2) (v := ?_) rfl (by kernel_rfl) (by kernel_rfl) (by kernel_rfl) (fun _ _ _ h => h) (Or.inl ⟨by kernel_rfl, ?_⟩) hHeld ?_
          rotate_left
          · intro wz hSw; (try dsimp only at hSw); go_simp; all_goals (try with_reducible rfl)
          (try simp only [List.getElem_toArray]); (try simp only [List.getElem_cons_succ]); (try simp only [List.getElem_cons_zero]); (try simp only [Act.put]); (try simp only [List.setIfInBounds_toArray]); (try simp only [List.set_cons_succ]); (try simp only [List.set_cons_zero])
          refine wpAnyH_take (i := 3) (v := ?_) rfl (by kernel_rfl) (by kernel_rfl) (by kernel_rfl) (fun _ _ _ h => h) (Or.inl ⟨by kernel_rfl, ?_⟩) hHeld ?_
          rotate_left
          · intro wz hSw; (try dsimp only at hSw); go_simp; all_goals (try with_reducible rfl)
          (try simp only [List.getElem_toArray]); (try simp only [List.getElem_cons_succ]); (try simp only [List.getElem_cons_zero]); (try simp only [Act.put]); (try simp only [List.setIfInBounds_toArray]); (try simp only [List.set_cons_succ]); (try simp only [List.set_cons_zero])
          refine wpAnyH_take (i := 4) (v := ?_) rfl (by kernel_rfl) (by kernel_rfl) (by kernel_rfl) (fun _ _ _ h => h) (Or.inl ⟨by kernel_rfl, ?_⟩) hHeld ?_
          rotate_left
          · intro wz hSw; (try dsimp only at hSw); go_simp; all_goals (try with_reducible rfl)
          (try simp only [List.getElem_toArray]); (try simp only [List.getElem_cons_succ]); (try simp only [List.getElem_cons_zero]); (try simp only [Act.put]); (try simp only [List.setIfInBounds_toArray]); (try simp only [List.set_cons_succ]); (try simp only [List.set_cons_zero])
          refine wpAnyH_ready (rs := [5]) (by kernel_rfl) (by simp) (AllReadyH.cons rfl (fun Kc hKc => ?_) AllReadyH.nil)
          go_simp
          (go_at_call 28; refine (HWI.out _).mono ?_; rintro e w7 ⟨rfl, hb⟩)
          have hbd : Below wd.heap.size wd w7 := hb
          replace R0 := hidA (R0.out.below hbd)
          replace L0 := hidA (L0.out.below hbd)
          replace G0 := hidA (G0.out.below hbd)
          replace hB := hidA (hB.out.trans (hbd.mono hB.out.size))
          replace c1 := cell_keep hbd c1
          replace c2 := cell_keep hbd c2
          replace c3 := cell_keep hbd c3
          replace c4 := cell_keep hbd c4
          replace d0 := cell_keep hbd d0
          replace d1 := cell_keep hbd d1
          replace d2 := cell_keep hbd d2
          replace d3 := cell_keep hbd d3
          clear hb hbd
          go_wp2_with fail
          refine hKc.out _ _ ?_ (fun hHeld => ?_)
          · (try dsimp only)
            refine ⟨?_, ?_, ?_, ?_, ?_, ?_, ?_, ?_⟩ <;> (repeat (with_reducible (first | exact c1 | exact c2 | exact c3 | exact c4 | exact d0 | exact d1 | exact d2 | exact d3 | refine cell_dr ?_)))
          clear hKc Kc
          (try simp only [List.getElem_toArray]); (try simp only [List.getElem_cons_succ]); (try simp only [List.getElem_cons_zero]); (try simp only [Act.put]); (try simp only [List.setIfInBounds_toArray]); (try simp only [List.set_cons_succ]); (try simp only [List.set_cons_zero])
          refine wpAnyH_take (i := 6) (v := ?_) rfl (by kernel_rfl) (by kernel_rfl) (by kernel_rfl) (fun _ _ _ h => h) (Or.inl ⟨by kernel_rfl, ?_⟩) hHeld ?_
          rotate_left
          · intro wz hSw; (try dsimp only at hSw); go_simp; all_goals (try with_reducible rfl)
          (try simp only [List.getElem_toArray]); (try simp only [List.getElem_cons_succ]); (try simp only [List.getElem_cons_zero]); (try simp only [Act.put]); (try simp only [List.setIfInBounds_toArray]); (try simp only [List.set_cons_succ]); (try simp only [List.set_cons_zero])
          cases q
          · have HNE2 : Hid (neaB ls (lw1, lw2) ((hg1, hg2), fo) j = false) := by show _ = _; rw [HNB.out]; rfl
            refine wpAnyH_take (i := 7) (v := undef) rfl (by kernel_rfl) (by kernel_rfl) (by kernel_rfl) (fun _ _ _ h => h) (Or.inr ⟨by kernel_rfl, rfl⟩) hHeld ?_
            (try simp only [List.getElem_toArray]); (try simp only [List.getElem_cons_succ]); (try simp only [List.getElem_cons_zero]); (try simp only [Act.put]); (try simp only [List.setIfInBounds_toArray]); (try simp only [List.set_cons_succ]); (try simp only [List.set_cons_zero])
            refine wpAnyH_take (i := 8) (v := undef) rfl (by kernel_rfl) (by kernel_rfl) (by kernel_rfl) (fun _ _ _ h => h) (Or.inr ⟨by kernel_rfl, rfl⟩) hHeld ?_
            (try simp only [List.getElem_toArray]); (try simp only [List.getElem_cons_succ]); (try simp only [List.getElem_cons_zero]); (try simp only [Act.put]); (try simp only [List.setIfInBounds_toArray]); (try simp only [List.set_cons_succ]); (try simp only [List.set_cons_zero])
            refine wpAnyH_take (i := 9) (v := undef) rfl (by kernel_rfl) (by kernel_rfl) (by kernel_rfl) (fun _ _ _ h => h) (Or.inr ⟨by kernel_rfl, rfl⟩) hHeld ?_
            (try simp only [List.getElem_toArray]); (try simp only [List.getElem_cons_succ]); (try simp only [List.getElem_cons_zero]); (try simp only [Act.put]); (try simp only [List.setIfInBounds_toArray]); (try simp only [List.set_cons_succ]); (try simp only [List.set_cons_zero])
            refine wpAnyH_take (i := 10) (v := undef) rfl (by kernel_rfl) (by kernel_rfl) (by kernel_rfl) (fun _ _ _ h => h) (Or.inr ⟨by kernel_rfl, rfl⟩) hHeld ?_
            (try simp only [List.getElem_toArray]); (try simp only [List.getElem_cons_succ]); (try simp only [List.getElem_cons_zero]); (try simp only [Act.put]); (try simp only [List.setIfInBounds_toArray]); (try simp only [List.set_cons_succ]); (try simp only [List.set_cons_zero])
            refine wpAnyH_take (i := 11) (v := undef) rfl (by kernel_rfl) (by kernel_rfl) (by kernel_rfl) (fun _ _ _ h => h) (Or.inr ⟨by kernel_rfl, rfl⟩) hHeld ?_
            (try simp only [List.getElem_toArray]); (try simp only [List.getElem_cons_succ]); (try simp only [List.getElem_cons_zero]); (try simp only [Act.put]); (try simp only [List.setIfInBounds_toArray]); (try simp only [List.set_cons_succ]); (try simp only [List.set_cons_zero])
            refine wpAnyH_take (i := 12) (v := undef) rfl (by kernel_rfl) (by kernel_rfl) (by kernel_rfl) (fun _ _ _ h => h) (Or.inr ⟨by kernel_rfl, rfl⟩) hHeld ?_
            (try simp only [List.getElem_toArray]); (try simp only [List.getElem_cons_succ]); (try simp only [List.getElem_cons_zero]); (try simp only [Act.put]); (try simp only [List.setIfInBounds_toArray]); (try simp only [List.set_cons_succ]); (try simp only [List.set_cons_zero])
            refine wpAnyH_take (i := 13) (v := undef) rfl (by kernel_rfl) (by kernel_rfl) (by kernel_rfl) (fun _ _ _ h => h) (Or.inr ⟨by kernel_rfl, rfl⟩) hHeld ?_
            (try simp only [List.getElem_toArray]); (try simp only [List.getElem_cons_succ]); (try simp only [List.getElem_cons_zero]); (try simp only [Act.put]); (try simp only [List.setIfInBounds_toArray]); (try simp only [List.set_cons_succ]); (try simp only [List.set_cons_zero])
            refine wpAnyH_take (i := 14) (v := undef) rfl (by kernel_rfl) (by kernel_rfl) (by kernel_rfl) (fun _ _ _ h => h) (Or.inr ⟨by kernel_rfl, rfl⟩) hHeld ?_
            (try simp only [List.getElem_toArray]); (try simp only [List.getElem_cons_succ]); (try simp only [List.getElem_cons_zero]); (try simp only [Act.put]); (try simp only [List.setIfInBounds_toArray]); (try simp only [List.set_cons_succ]); (try simp only [List.set_cons_zero])
            refine wpAnyH_take (i := 15) (v := undef) rfl (by kernel_rfl) (by kernel_rfl) (by kernel_rfl) (fun _ _ _ h => h) (Or.inr ⟨by kernel_rfl, rfl⟩) hHeld ?_
            (try simp only [List.getElem_toArray]); (try simp only [List.getElem_cons_succ]); (try simp only [List.getElem_cons_zero]); (try simp only [Act.put]); (try simp only [List.setIfInBounds_toArray]); (try simp only [List.set_cons_succ]); (try simp only [List.set_cons_zero])
            refine wpAnyH_take (i := 16) (v := undef) rfl (by kernel_rfl) (by kernel_rfl) (by kernel_rfl) (fun _ _ _ h => h) (Or.inr ⟨by kernel_rfl, rfl⟩) hHeld ?_
            (try simp only [List.getElem_toArray]); (try simp only [List.getElem_cons_succ]); (try simp only [List.getElem_cons_zero]); (try simp only [Act.put]); (try simp only [List.setIfInBounds_toArray]); (try simp only [List.set_cons_succ]); (try simp only [List.set_cons_zero])
            refine wpAnyH_take (i := 17) (v := undef) rfl (by kernel_rfl) (by kernel_rfl) (by kernel_rfl) (fun _ _ _ h => h) (Or.inr ⟨by kernel_rfl, rfl⟩) hHeld ?_
            (try simp only [List.getElem_toArray]); (try simp only [List.getElem_cons_succ]); (try simp only [List.getElem_cons_zero]); (try simp only [Act.put]); (try simp only [List.setIfInBounds_toArray]); (try simp only [List.set_cons_succ]); (try simp only [List.set_cons_zero])
            refine wpAnyH_take (i := 18) (v := ?_) rfl (by kernel_rfl) (by kernel_rfl) (by kernel_rfl) (fun _ _ _ h => h) (Or.inl ⟨by kernel_rfl, ?_⟩) hHeld ?_
            rotate_left
            · intro wz hSw; (try dsimp only at hSw); go_simp; all_goals (try with_reducible rfl)
            (try simp only [List.getElem_toArray]); (try simp only [List.getElem_cons_succ]); (try simp only [List.getElem_cons_zero]); (try simp only [Act.put]); (try simp only [List.setIfInBounds_toArray]); (try simp only [List.set_cons_succ]); (try simp only [List.set_cons_zero])
            refine wpAnyH_done (by kernel_rfl) ?_ _
            refine NoPanic.normal ?_
            have HN1 : Hid (H (j + 1) = ((hg1, hg2), fo)) := by show _ = _; rw [HS.out, HNE2.out]; rfl
            go_wp2
            go_roundw
            case rel =>
              refine ⟨j + 1, by omega, by go_num, by rw [HN1.out], hB.out, R0.out, L0.out, ?_⟩
              show IsR _ _ _ _
              rw [HN1.out]
              exact G0.out
            case measure => simp [intOf]; omega
          cases fo
          · have HNE2 : Hid (neaB ls (lw1, lw2) ((hg1, hg2), false) j = true) := by show _ = _; rw [HNB.out]; rfl
            refine wpAnyH_take (i := 7) (v := ?_) rfl (by kernel_rfl) (by kernel_rfl) (by kernel_rfl) (fun _ _ _ h => h) (Or.inl ⟨by kernel_rfl, ?_⟩) hHeld ?_
            rotate_left
            · intro wz hSw; (try dsimp only at hSw); go_simp; all_goals (try with_reducible rfl)
            (try simp only [List.getElem_toArray]); (try simp only [List.getElem_cons_succ]); (try simp only [List.getElem_cons_zero]); (try simp only [Act.put]); (try simp only [List.setIfInBounds_toArray]); (try simp only [List.set_cons_succ]); (try simp only [List.set_cons_zero])
            refine wpAnyH_take (i := 8) (v := ?_) rfl (by kernel_rfl) (by kernel_rfl) (by kernel_rfl) (fun _ _ _ h => h) (Or.inl ⟨by kernel_rfl, ?_⟩) hHeld ?_
            rotate_left
            · intro wz hSw; (try dsimp only at hSw); go_simp; all_goals (try with_reducible rfl)
            (try simp only [List.getElem_toArray]); (try simp only [List.getElem_cons_succ]); (try simp only [List.getElem_cons_zero]); (try simp only [Act.put]); (try simp only [List.setIfInBounds_toArray]); (try simp only [List.set_cons_succ]); (try simp only [List.set_cons_zero])
            refine wpAnyH_take (i := 9) (v := ?_) rfl (by kernel_rfl) (by kernel_rfl) (by kernel_rfl) (fun _ _ _ h => h) (Or.inl ⟨by kernel_rfl, ?_⟩) hHeld ?_
            rotate_left
            · intro wz hSw; (try dsimp only at hSw); go_simp; all_goals (try with_reducible rfl)
            (try simp only [List.getElem_toArray]); (try simp only [List.getElem_cons_succ]); (try simp only [List.getElem_cons_zero]); (try simp only [Act.put]); (try simp only [List.setIfInBounds_toArray]); (try simp only [List.set_cons_succ]); (try simp only [List.set_cons_zero])
            refine wpAnyH_take (i := 10) (v := undef) rfl (by kernel_rfl) (by kernel_rfl) (by kernel_rfl) (fun _ _ _ h => h) (Or.inr ⟨by kernel_rfl, rfl⟩) hHeld ?_
            (try simp only [List.getElem_toArray]); (try simp only [List.getElem_cons_succ]); (try simp only [List.getElem_cons_zero]); (try simp only [Act.put]); (try simp only [List.setIfInBounds_toArray]); (try simp only [List.set_cons_succ]); (try simp only [List.set_cons_zero])
            refine wpAnyH_take (i := 11) (v := undef) rfl (by kernel_rfl) (by kernel_rfl) (by kernel_rfl) (fun _ _ _ h => h) (Or.inr ⟨by kernel_rfl, rfl⟩) hHeld ?_
            (try simp only [List.getElem_toArray]); (try simp only [List.getElem_cons_succ]); (try simp only [List.getElem_cons_zero]); (try simp only [Act.put]); (try simp only [List.setIfInBounds_toArray]); (try simp only [List.set_cons_succ]); (try simp only [List.set_cons_zero])
            refine wpAnyH_take (i := 12) (v := undef) rfl (by kernel_rfl) (by kernel_rfl) (by kernel_rfl) (fun _ _ _ h => h) (Or.inr ⟨by kernel_rfl, rfl⟩) hHeld ?_
            (try simp only [List.getElem_toArray]); (try simp only [List.getElem_cons_succ]); (try simp only [List.getElem_cons_zero]); (try simp only [Act.put]); (try simp only [List.setIfInBounds_toArray]); (try simp only [List.set_cons_succ]); (try simp only [List.set_cons_zero])
            refine wpAnyH_take (i := 13) (v := undef) rfl (by kernel_rfl) (by kernel_rfl) (by kernel_rfl) (fun _ _ _ h => h) (Or.inr ⟨by kernel_rfl, rfl⟩) hHeld ?_
            (try simp only [List.getElem_toArray]); (try simp only [List.getElem_cons_succ]); (try simp only [List.getElem_cons_zero]); (try simp only [Act.put]); (try simp only [List.setIfInBounds_toArray]); (try simp only [List.set_cons_succ]); (try simp only [List.set_cons_zero])
            refine wpAnyH_take (i := 14) (v := undef) rfl (by kernel_rfl) (by kernel_rfl) (by kernel_rfl) (fun _ _ _ h => h) (Or.inr ⟨by kernel_rfl, rfl⟩) hHeld ?_
            (try simp only [List.getElem_toArray]); (try simp only [List.getElem_cons_succ]); (try simp only [List.getElem_cons_zero]); (try simp only [Act.put]); (try simp only [List.setIfInBounds_toArray]); (try simp only [List.set_cons_succ]); (try simp only [List.set_cons_zero])
            refine wpAnyH_take (i := 15) (v := undef) rfl (by kernel_rfl) (by kernel_rfl) (by kernel_rfl) (fun _ _ _ h => h) (Or.inr ⟨by kernel_rfl, rfl⟩) hHeld ?_
            (try simp only [List.getElem_toArray]); (try simp only [List.getElem_cons_succ]); (try simp only [List.getElem_cons_zero]); (try simp only [Act.put]); (try simp only [List.setIfInBounds_toArray]); (try simp only [List.set_cons_succ]); (try simp only [List.set_cons_zero])
            refine wpAnyH_take (i := 16) (v := undef) rfl (by kernel_rfl) (by kernel_rfl) (by kernel_rfl) (fun _ _ _ h => h) (Or.inr ⟨by kernel_rfl, rfl⟩) hHeld ?_
            (try simp only [List.getElem_toArray]); (try simp only [List.getElem_cons_succ]); (try simp only [List.getElem_cons_zero]); (try simp only [Act.put]); (try simp only [List.setIfInBounds_toArray]); (try simp only [List.set_cons_succ]); (try simp only [List.set_cons_zero])
            refine wpAnyH_take (i := 17) (v := ?_) rfl (by kernel_rfl) (by kernel_rfl) (by kernel_rfl) (fun _ _ _ h => h) (Or.inl ⟨by kernel_rfl, ?_⟩) hHeld ?_
            rotate_left
            · intro wz hSw; (try dsimp only at hSw); go_simp; all_goals (try with_reducible rfl)
            (try simp only [List.getElem_toArray]); (try simp only [List.getElem_cons_succ]); (try simp only [List.getElem_cons_zero]); (try simp only [Act.put]); (try simp only [List.setIfInBounds_toArray]); (try simp only [List.set_cons_succ]); (try simp only [List.set_cons_zero])
            refine wpAnyH_take (i := 18) (v := ?_) rfl (by kernel_rfl) (by kernel_rfl) (by kernel_rfl) (fun _ _ _ h => h) (Or.inl ⟨by kernel_rfl, ?_⟩) hHeld ?_
            rotate_left
            · intro wz hSw; (try dsimp only at hSw); go_simp; all_goals (try with_reducible rfl)
            (try simp only [List.getElem_toArray]); (try simp only [List.getElem_cons_succ]); (try simp only [List.getElem_cons_zero]); (try simp only [Act.put]); (try simp only [List.setIfInBounds_toArray]); (try simp only [List.set_cons_succ]); (try simp only [List.set_cons_zero])
            refine wpAnyH_done (by kernel_rfl) ?_ _
            refine NoPanic.normal ?_
            have HN1 : Hid (H (j + 1) = ((m1, m2), true)) := by show _ = _; rw [HS.out, HNE2.out]; rfl
            have f0 := G0.out.f0
            have f1 := G0.out.f1
            have e0 := G0.out.c0
            have e1 := G0.out.c1
            go_wp2
            go_roundw
            case rel =>
              refine ⟨j + 1, by omega, by go_num, by rw [HN1.out], (hB.out.setCell (p := ⟨Hb, 0, none⟩) hwH _).setCell (p := ⟨Hb, 1, none⟩) hwH _, (R0.out.other (by omega) _ _).other (by omega) _ _, (L0.out.other (by omega) _ _).other (by omega) _ _, ?_⟩
              show IsR _ _ _ _
              rw [HN1.out]
              exact (G0.out.set0 _).set1 _
            case measure => simp [intOf]; omega
          refine wpAnyH_take (i := 7) (v := ?_) rfl (by kernel_rfl) (by kernel_rfl) (by kernel_rfl) (fun _ _ _ h => h) (Or.inl ⟨by kernel_rfl, ?_⟩) hHeld ?_
          rotate_left
          · intro wz hSw; (try dsimp only at hSw); go_simp; all_goals (try with_reducible rfl)
          (try simp only [List.getElem_toArray]); (try simp only [List.getElem_cons_succ]); (try simp only [List.getElem_cons_zero]); (try simp only [Act.put]); (try simp only [List.setIfInBounds_toArray]); (try simp only [List.set_cons_succ]); (try simp only [List.set_cons_zero])
          refine wpAnyH_take (i := 8) (v := ?_) rfl (by kernel_rfl) (by kernel_rfl) (by kernel_rfl) (fun _ _ _ h => h) (Or.inl ⟨by kernel_rfl, ?_⟩) hHeld ?_
          rotate_left
          · intro wz hSw; (try dsimp only at hSw); go_simp; all_goals (try with_reducible rfl)
          (try simp only [List.getElem_toArray]); (try simp only [List.getElem_cons_succ]); (try simp only [List.getElem_cons_zero]); (try simp only [Act.put]); (try simp only [List.setIfInBounds_toArray]); (try simp only [List.set_cons_succ]); (try simp only [List.set_cons_zero])
          refine wpAnyH_take (i := 9) (v := ?_) rfl (by kernel_rfl) (by kernel_rfl) (by kernel_rfl) (fun _ _ _ h => h) (Or.inl ⟨by kernel_rfl, ?_⟩) hHeld ?_
          rotate_left
          · intro wz hSw; (try dsimp only at hSw); go_simp; all_goals (try with_reducible rfl)
          (try simp only [List.getElem_toArray]); (try simp only [List.getElem_cons_succ]); (try simp only [List.getElem_cons_zero]); (try simp only [Act.put]); (try simp only [List.setIfInBounds_toArray]); (try simp only [List.set_cons_succ]); (try simp only [List.set_cons_zero])
          refine wpAnyH_take (i := 10) (v := ?_) rfl (by kernel_rfl) (by kernel_rfl) (by kernel_rfl) (fun _ _ _ h => h) (Or.inl ⟨by kernel_rfl, ?_⟩) hHeld ?_
          rotate_left
          · intro wz hSw; (try dsimp only at hSw); go_simp; all_goals (try with_reducible rfl)
          (try simp only [List.getElem_toArray]); (try simp only [List.getElem_cons_succ]); (try simp only [List.getElem_cons_zero]); (try simp only [Act.put]); (try simp only [List.setIfInBounds_toArray]); (try simp only [List.set_cons_succ]); (try simp only [List.set_cons_zero])
          refine wpAnyH_take (i := 11) (v := ?_) rfl (by kernel_rfl) (by kernel_rfl) (by kernel_rfl) (fun _ _ _ h => h) (Or.inl ⟨by kernel_rfl, ?_⟩) hHeld ?_
          rotate_left
          · intro wz hSw; (try dsimp only at hSw); go_simp; all_goals (try with_reducible rfl)
          (try simp only [List.getElem_toArray]); (try simp only [List.getElem_cons_succ]); (try simp only [List.getElem_cons_zero]); (try simp only [Act.put]); (try simp only [List.setIfInBounds_toArray]); (try simp only [List.set_cons_succ]); (try simp only [List.set_cons_zero])
          refine wpAnyH_take (i := 12) (v := ?_) rfl (by kernel_rfl) (by kernel_rfl) (by kernel_rfl) (fun _ _ _ h => h) (Or.inl ⟨by kernel_rfl, ?_⟩) hHeld ?_
          rotate_left
          · intro wz hSw; (try dsimp only at hSw); go_simp; all_goals (try with_reducible rfl)
          (try simp only [List.getElem_toArray]); (try simp only [List.getElem_cons_succ]); (try simp only [List.getElem_cons_zero]); (try simp only [Act.put]); (try simp only [List.setIfInBounds_toArray]); (try simp only [List.set_cons_succ]); (try simp only [List.set_cons_zero])
          refine wpAnyH_take (i := 13) (v := ?_) rfl (by kernel_rfl) (by kernel_rfl) (by kernel_rfl) (fun _ _ _ h => h) (Or.inl ⟨by kernel_rfl, ?_⟩) hHeld ?_
          rotate_left
          · intro wz hSw; (try dsimp only at hSw); go_simp; all_goals (try with_reducible rfl)
          (try simp only [List.getElem_toArray]); (try simp only [List.getElem_cons_succ]); (try simp only [List.getElem_cons_zero]); (try simp only [Act.put]); (try simp only [List.setIfInBounds_toArray]); (try simp only [List.set_cons_succ]); (try simp only [List.set_cons_zero])
          refine wpAnyH_take (i := 14) (v := ?_) rfl (by kernel_rfl) (by kernel_rfl) (by kernel_rfl) (fun _ _ _ h => h) (Or.inl ⟨by kernel_rfl, ?_⟩) hHeld ?_
          rotate_left
          · intro wz hSw; (try dsimp only at hSw); go_simp; all_goals (try with_reducible rfl)
          (try simp only [List.getElem_toArray]); (try simp only [List.getElem_cons_succ]); (try simp only [List.getElem_cons_zero]); (try simp only [Act.put]); (try simp only [List.setIfInBounds_toArray]); (try simp only [List.set_cons_succ]); (try simp only [List.set_cons_zero])
          refine wpAnyH_take (i := 15) (v := ?_) rfl (by kernel_rfl) (by kernel_rfl) (by kernel_rfl) (fun _ _ _ h => h) (Or.inl ⟨by kernel_rfl, ?_⟩) hHeld ?_
          rotate_left
          · intro wz hSw; (try dsimp only at hSw); go_simp; all_goals (try with_reducible rfl)
          (try simp only [List.getElem_toArray]); (try simp only [List.getElem_cons_succ]); (try simp only [List.getElem_cons_zero]); (try simp only [Act.put]); (try simp only [List.setIfInBounds_toArray]); (try simp only [List.set_cons_succ]); (try simp only [List.set_cons_zero])
          refine wpAnyH_ready (rs := [16]) (by kernel_rfl) (by simp) (AllReadyH.cons rfl (fun Kc hKc => ?_) AllReadyH.nil)
          go_simp
          (go_at_call 27; refine (HLS.out _).mono ?_; rintro e w8 ⟨rfl, hb⟩)
          have hbd : Below w7.heap.size w7 w8 := hb
          replace R0 := hidA (R0.out.below hbd)
          replace L0 := hidA (L0.out.below hbd)
          replace G0 := hidA (G0.out.below hbd)
          replace hB := hidA (hB.out.trans (hbd.mono hB.out.size))
          replace c1 := cell_keep hbd c1
          replace c2 := cell_keep hbd c2
          replace c3 := cell_keep hbd c3
          replace c4 := cell_keep hbd c4
          replace d0 := cell_keep hbd d0
          replace d1 := cell_keep hbd d1
          replace d2 := cell_keep hbd d2
          replace d3 := cell_keep hbd d3
          clear hb hbd
          go_wp2_with fail
          refine hKc.out _ _ ?_ (fun hHeld => ?_)
          · (try dsimp only)
            refine ⟨?_, ?_, ?_, ?_, ?_, ?_, ?_, ?_⟩ <;> (repeat (with_reducible (first | exact c1 | exact c2 | exact c3 | exact c4 | exact d0 | exact d1 | exact d2 | exact d3 | refine cell_dr ?_)))
          clear hKc Kc
          (try simp only [List.getElem_toArray]); (try simp only [List.getElem_cons_succ]); (try simp only [List.getElem_cons_zero]); (try simp only [Act.put]); (try simp only [List.setIfInBounds_toArray]); (try simp only [List.set_cons_succ]); (try simp only [List.set_cons_zero])
          refine wpAnyH_take (i := 17) (v := ?_) rfl (by kernel_rfl) (by kernel_rfl) (by kernel_rfl) (fun _ _ _ h => h) (Or.inl ⟨by kernel_rfl, ?_⟩) hHeld ?_
          rotate_left
          · intro wz hSw; (try dsimp only at hSw); go_simp; all_goals (try with_reducible rfl)
          (try simp only [List.getElem_toArray]); (try simp only [List.getElem_cons_succ]); (try simp only [List.getElem_cons_zero]); (try simp only [Act.put]); (try simp only [List.setIfInBounds_toArray]); (try simp only [List.set_cons_succ]); (try simp only [List.set_cons_zero])
          refine wpAnyH_take (i := 18) (v := ?_) rfl (by kernel_rfl) (by kernel_rfl) (by kernel_rfl) (fun _ _ _ h => h) (Or.inl ⟨by kernel_rfl, ?_⟩) hHeld ?_
          rotate_left
          · intro wz hSw; (try dsimp only at hSw); go_simp; all_goals (try with_reducible rfl)
          (try simp only [List.getElem_toArray]); (try simp only [List.getElem_cons_succ]); (try simp only [List.getElem_cons_zero]); (try simp only [Act.put]); (try simp only [List.setIfInBounds_toArray]); (try simp only [List.set_cons_succ]); (try simp only [List.set_cons_zero])
          refine wpAnyH_done (by kernel_rfl) ?_ _
          refine NoPanic.normal ?_
          cases q2
          · have HNE2 : Hid (neaB ls (lw1, lw2) ((hg1, hg2), true) j = false) := by show _ = _; rw [HNB.out]; rfl
            have HN1 : Hid (H (j + 1) = ((hg1, hg2), true)) := by show _ = _; rw [HS.out, HNE2.out]; rfl
            go_wp2
            go_roundw
            case rel =>
              refine ⟨j + 1, by omega, by go_num, by rw [HN1.out], hB.out, R0.out, L0.out, ?_⟩
              show IsR _ _ _ _
              rw [HN1.out]
              exact G0.out
            case measure => simp [intOf]; omega
          · have HNE2 : Hid (neaB ls (lw1, lw2) ((hg1, hg2), true) j = true) := by show _ = _; rw [HNB.out]; rfl
            have HN1 : Hid (H (j + 1) = ((m1, m2), true)) := by show _ = _; rw [HS.out, HNE2.out]; rfl
            have f0 := G0.out.f0
            have f1 := G0.out.f1
            have e0 := G0.out.c0
            have e1 := G0.out.c1
            go_wp2
            go_roundw
            case rel =>
              refine ⟨j + 1, by omega, by go_num, by rw [HN1.out], (hB.out.setCell (p := ⟨Hb, 0, none⟩) hwH _).setCell (p := ⟨Hb, 1, none⟩) hwH _, (R0.out.other (by omega) _ _).other (by omega) _ _, (L0.out.other (by omega) _ _).other (by omega) _ _, ?_⟩
              show IsR _ _ _ _
              rw [HN1.out]
              exact (G0.out.set0 _).set1 _
            case measure => simp [intOf]; omega
        · obtain rfl : j = k := by omega
          obtain ⟨s, hs⟩ : ∃ z, z = H j := ⟨_, rfl⟩
          rw [← hs] at G0 HHI ⊢
          clear hs
          obtain ⟨⟨hg1, hg2⟩, fo⟩ := s
          dsimp only at G0 HHI ⊢
          obtain ⟨r0, r1, r2, r3⟩ := R0.out.s4
          obtain ⟨s0, s1, s2, s3⟩ := R0.out.sf4
          have d0 := L0.out.c0
          have d1 := L0.out.c1
          have d2 := G0.out.c0
          have d3 := G0.out.c1
          have R2 := R0.out.sAll (.int .i64 lw1) (.int .i64 lw2) (.int .i64 hg1) (.int .i64 hg2)
          obtain ⟨y0, y1, y2, y3⟩ := R2.s4
          go_wp2
          exact bodyPost_ret (v := .tuple #[.agg #[.int .i64 lw1, .int .i64 lw2, .int .i64 hg1, .int .i64 hg2], .int .i64 bst]) (by simp [results, Try.results8, go_sem, y0, y1, y2, y3]) rfl ⟨ret_r11 (by rw [HRE.out]) (by rw [HRE.out]) (by rw [HRE.out, HHI.out]) (by rw [HRE.out, HHI.out]) HNE.out.symm, below_sAll hB.out hwR _ _ _ _⟩
end Go.Proofs.Ythfdpdnphnjebaa

/- The ends of claims in their order, one after the other: where most claims are, without any program. -/
namespace Go.Proofs.Ythfdpdnphnjebaa
open Go.RowKit Go.Proofs.Ythfdpdnphnjebaa.RM

/-- a is not behind b -/
def leP (a b : En) : Prop := v7 a.1 < v7 b.1 ∨ (v7 a.1 = v7 b.1 ∧ (a.2 = false ∨ b.2 = true))
instance (a b : En) : Decidable (leP a b) := by unfold leP; infer_instance
def leQ (a b : En) : Bool := decide (leP a b)
theorem leP_val {a b : En} (h : leP a b) : v7 a.1 ≤ v7 b.1 := by
  rcases h with h | h
  · exact Rat.le_of_lt h
  · rw [h.1]; exact Rat.le_refl
theorem leP_trans {a b c : En} (h1 : leP a b) (h2 : leP b c) : leP a c := by
  rcases h1 with h1 | ⟨h1, k1⟩ <;> rcases h2 with h2 | ⟨h2, k2⟩
  · exact Or.inl (Rat.not_le.1 fun h => Rat.not_le.2 h2 (Rat.le_trans h (Rat.le_of_lt h1)))
  · exact Or.inl (by rw [← h2]; exact h1)
  · exact Or.inl (by rw [h1]; exact h2)
  · refine Or.inr ⟨h1.trans h2, ?_⟩
    rcases k1 with k1 | k1
    · exact Or.inl k1
    · rcases k2 with k2 | k2
      · rw [k1] at k2; cases k2
      · exact Or.inr k2
theorem leP_total (a b : En) : leP a b ∨ leP b a := by
  by_cases h : v7 a.1 < v7 b.1
  · exact Or.inl (Or.inl h)
  · by_cases h2 : v7 b.1 < v7 a.1
    · exact Or.inr (Or.inl h2)
    · have e : v7 a.1 = v7 b.1 := Rat.le_antisymm (Rat.not_lt.1 h2) (Rat.not_lt.1 h)
      cases h3 : a.2
      · exact Or.inl (Or.inr ⟨e, Or.inl h3⟩)
      · exact Or.inr (Or.inr ⟨e.symm, Or.inr h3⟩)
theorem leP_anti {a b : En} (ha : okE a) (hb : okE b) (h1 : leP a b) (h2 : leP b a) : a = b := by
  have e : v7 a.1 = v7 b.1 := Rat.le_antisymm (leP_val h1) (leP_val h2)
  have e1 : a.1 = b.1 := v7_inj ha hb e
  have k1 : a.2 = false ∨ b.2 = true := by
    rcases h1 with h | h
    · rw [e] at h; exact absurd h Rat.lt_irrefl
    · exact h.2
  have k2 : b.2 = false ∨ a.2 = true := by
    rcases h2 with h | h
    · rw [e] at h; exact absurd h Rat.lt_irrefl
    · exact h.2
  have e2 : a.2 = b.2 := by
    rcases k1 with k | k <;> rcases k2 with q | q
    · rw [k, q]
    · rw [k] at q; cases q
    · rw [k] at q; cases q
    · rw [k, q]
  exact Prod.ext e1 e2
theorem ls_le {a b : En} (ha : okE a) (hb : okE b) (h : lsE b a = false) : leP a b := by
  rw [lsE_no hb ha] at h
  rcases h with h | ⟨h, k⟩
  · exact Or.inl h
  · exact Or.inr ⟨h.symm, k.symm⟩
/-- the ends in their order -/
def srtE (ls : List Sp) : List En := (endsL ls ls.length).mergeSort leQ
theorem srtE_perm (ls : List Sp) : (srtE ls).Perm (endsL ls ls.length) := List.mergeSort_perm _ _
theorem srtE_len (ls : List Sp) : (srtE ls).length = 2 * ls.length := by rw [(srtE_perm ls).length_eq, endsL_len]
theorem srtE_le (ls : List Sp) {i j : Nat} (hij : i < j) (hj : j < 2 * ls.length) : leP (er (srtE ls) i) (er (srtE ls) j) := by
  have h := List.pairwise_mergeSort (le := leQ) (fun a b c h1 h2 => decide_eq_true (leP_trans (of_decide_eq_true h1) (of_decide_eq_true h2))) (fun a b => by rw [Bool.or_eq_true]; exact (leP_total a b).imp (fun h => decide_eq_true h) (fun h => decide_eq_true h)) (endsL ls ls.length)
  have hl := srtE_len ls
  have := (List.pairwise_iff_getElem.1 h) i j (by show i < (srtE ls).length; omega) (by show j < (srtE ls).length; omega) hij
  have e1 : er (srtE ls) i = (srtE ls)[i]'(by omega) := by unfold er; rw [List.getElem?_eq_getElem (by omega)]; rfl
  have e2 : er (srtE ls) j = (srtE ls)[j]'(by omega) := by unfold er; rw [List.getElem?_eq_getElem (by omega)]; rfl
  rw [e1, e2]
  exact of_decide_eq_true this
theorem srtE_mem (ls : List Sp) {i : Nat} (hi : i < 2 * ls.length) : er (srtE ls) i ∈ endsL ls ls.length := by
  have hl := srtE_len ls
  refine (srtE_perm ls).mem_iff.1 ?_
  unfold er
  rw [List.getElem?_eq_getElem (by omega)]
  exact List.getElem_mem _
theorem srtE_idx (ls : List Sp) {e : En} (h : e ∈ endsL ls ls.length) : ∃ i, i < 2 * ls.length ∧ er (srtE ls) i = e := by
  obtain ⟨i, hi, q⟩ := List.mem_iff_getElem.1 ((srtE_perm ls).mem_iff.2 h)
  refine ⟨i, by rw [← srtE_len]; exact hi, ?_⟩
  unfold er
  rw [List.getElem?_eq_getElem hi, ← q]
  rfl
theorem endsL_mem (ls : List Sp) {e : En} : ∀ k, e ∈ endsL ls k ↔ ∃ j, j < k ∧ (e = ((sp ls j).1, false) ∨ e = ((sp ls j).2, true))
  | 0 => ⟨fun h => (by cases h), fun ⟨j, h, _⟩ => (by omega)⟩
  | k + 1 => by
    show e ∈ (endsL ls k ++ [_]) ++ [_] ↔ _
    rw [List.mem_append, List.mem_append, List.mem_singleton, List.mem_singleton, endsL_mem ls k]
    constructor
    · rintro ((⟨j, hj, h⟩ | h) | h)
      · exact ⟨j, by omega, h⟩
      · exact ⟨k, by omega, Or.inl h⟩
      · exact ⟨k, by omega, Or.inr h⟩
    · rintro ⟨j, hj, h⟩
      by_cases e1 : j = k
      · subst e1
        rcases h with h | h
        · exact Or.inl (Or.inr h)
        · exact Or.inr h
      · exact Or.inl (Or.inl ⟨j, by omega, h⟩)
/-- how many are open behind the first t ends -/
def dpE (S : List En) : Nat → Int
  | 0 => 0
  | t + 1 => if (er S t).2 = true then dpE S t - 1 else dpE S t + 1
/-- what has been found behind the first t ends -/
def swE (S : List En) : Nat → Sp × Int
  | 0 => (((0, 0), (0, 0)), 0)
  | t + 1 => if (er S t).2 = true then swE S t else if (swE S t).2 < dpE S (t + 1) then (((er S t).1, (er S (t + 1)).1), dpE S (t + 1)) else swE S t
theorem dpE_bd (S : List En) : ∀ t : Nat, -(t : Int) ≤ dpE S t ∧ dpE S t ≤ t
  | 0 => ⟨by simp [dpE], by simp [dpE]⟩
  | t + 1 => by
    have := dpE_bd S t
    unfold dpE
    split <;> omega
theorem swE_bd (S : List En) : ∀ t : Nat, 0 ≤ (swE S t).2 ∧ (swE S t).2 ≤ t
  | 0 => ⟨Int.le_refl _, Int.le_refl _⟩
  | t + 1 => by
    have h1 := swE_bd S t
    have h2 := dpE_bd S (t + 1)
    unfold swE
    split
    · omega
    · split
      · rename_i h
        dsimp only
        omega
      · omega
/-- the first one at which most are open -/
theorem swE_inv (S : List En) : ∀ t, (∀ i, i ≤ t → dpE S i ≤ (swE S t).2) ∧ ((swE S t).2 = 0 ∨ ∃ i, i < t ∧ (er S i).2 = false ∧ dpE S (i + 1) = (swE S t).2 ∧ (swE S t).1 = ((er S i).1, (er S (i + 1)).1) ∧ ∀ j, j ≤ i → dpE S j < (swE S t).2)
  | 0 => ⟨fun i hi => by obtain rfl : i = 0 := by omega
                         exact Int.le_refl _, Or.inl rfl⟩
  | t + 1 => by
    obtain ⟨h1, h2⟩ := swE_inv S t
    have hb := swE_bd S t
    by_cases e : (er S t).2 = true
    · have e1 : swE S (t + 1) = swE S t := by show (if _ then _ else _) = _; rw [if_pos e]
      have e2 : dpE S (t + 1) = dpE S t - 1 := by show (if _ then _ else _) = _; rw [if_pos e]
      rw [e1]
      refine ⟨fun i hi => ?_, h2.imp id fun ⟨i, q1, q2⟩ => ⟨i, by omega, q2⟩⟩
      by_cases k : i = t + 1
      · rw [k, e2]; have := h1 t (Nat.le_refl _); omega
      · exact h1 i (by omega)
    · by_cases q : (swE S t).2 < dpE S (t + 1)
      · have e1 : swE S (t + 1) = (((er S t).1, (er S (t + 1)).1), dpE S (t + 1)) := by show (if _ then _ else _) = _; rw [if_neg e, if_pos q]
        rw [e1]
        refine ⟨fun i hi => ?_, Or.inr ⟨t, by omega, by simpa using e, rfl, rfl, fun j hj => ?_⟩⟩
        · by_cases k : i = t + 1
          · rw [k]; exact Int.le_refl _
          · have := h1 i (by omega); dsimp only; omega
        · have := h1 j hj; dsimp only; omega
      · have e1 : swE S (t + 1) = swE S t := by show (if _ then _ else _) = _; rw [if_neg e, if_neg q]
        rw [e1]
        refine ⟨fun i hi => ?_, h2.imp id fun ⟨i, q1, q2⟩ => ⟨i, by omega, q2⟩⟩
        by_cases k : i = t + 1
        · rw [k]; omega
        · exact h1 i (by omega)
/-- is an end not behind a Low at v -/
def befP (v : Fr) (e : En) : Prop := if e.2 = true then v7 e.1 < v7 v else v7 e.1 ≤ v7 v
instance (v : Fr) (e : En) : Decidable (befP v e) := by unfold befP; infer_instance
theorem bef_down {v : Fr} {a b : En} (h : leP a b) (hb : befP v b) : befP v a := by
  unfold befP at hb ⊢
  have hv := leP_val h
  split at hb <;> split
  · exact Rat.not_le.1 fun k => Rat.not_le.2 hb (Rat.le_trans k hv)
  · exact Rat.le_trans hv (Rat.le_of_lt hb)
  · rename_i h1 h2
    rcases h with h | ⟨_, h | h⟩
    · exact Rat.not_le.1 fun k => Rat.not_le.2 h (Rat.le_trans hb k)
    · rw [h] at h2; cases h2
    · exact absurd h h1
  · exact Rat.le_trans hv hb
/-- what the ends that aren't behind a Low at v sum up to -/
def sgE (e : En) : Int := if e.2 = true then -1 else 1
def smE (v : Fr) (l : List En) : Int := (l.map fun e => if befP v e then sgE e else 0).sum
theorem smE_perm {v : Fr} {l l' : List En} (h : l.Perm l') : smE v l = smE v l' := by
  have hc : ∀ (a : En) (l : List En), smE v (a :: l) = (if befP v a then sgE a else 0) + smE v l := fun a l => by unfold smE; simp
  induction h with
  | nil => rfl
  | cons x _ ih => rw [hc, hc, ih]
  | swap x y l => rw [hc, hc, hc, hc]; omega
  | trans _ _ ih1 ih2 => rw [ih1, ih2]
theorem smE_app (v : Fr) (l l' : List En) : smE v (l ++ l') = smE v l + smE v l' := by unfold smE; rw [List.map_append, List.sum_append]
theorem smE_one (v : Fr) (e : En) : smE v [e] = if befP v e then sgE e else 0 := by unfold smE; simp
theorem hasB_iff {ls : List Sp} (h : clmP ls) {v : Fr} (hv : ok7 v = true) {j : Nat} (hj : j < ls.length) : hasB ls v j = true ↔ v7 (sp ls j).1 ≤ v7 v ∧ v7 v ≤ v7 (sp ls j).2 := by
  have hr := h.2 j hj
  obtain ⟨h1, h2, _⟩ := rng7_out hr
  unfold hasB within7
  rw [hr, hv, Bool.true_and, Bool.true_and, Bool.and_eq_true, Bool.not_eq_true', Bool.not_eq_true', le7_no hv h1, le7_no h2 hv]
/-- how many have v -/
theorem dep_sum {ls : List Sp} (h : clmP ls) {v : Fr} (hv : ok7 v = true) : ∀ k, k ≤ ls.length → (depN ls v k : Int) = smE v (endsL ls k)
  | 0, _ => rfl
  | k + 1, hk => by
    have ih := dep_sum h hv k (by omega)
    have hr := (rng7_out (h.2 k (by omega))).2.2
    have hb := hasB_iff h hv (j := k) (by omega)
    show _ = smE v ((endsL ls k ++ [_]) ++ [_])
    rw [smE_app, smE_app, smE_one, smE_one, ← ih]
    have e1 : befP v ((sp ls k).1, false) ↔ v7 (sp ls k).1 ≤ v7 v := by unfold befP; simp
    have e2 : befP v ((sp ls k).2, true) ↔ v7 (sp ls k).2 < v7 v := by unfold befP; simp
    have e3 : sgE ((sp ls k).1, false) = 1 := rfl
    have e4 : sgE ((sp ls k).2, true) = -1 := rfl
    rw [e3, e4]
    have hd : depN ls v (k + 1) = if hasB ls v k = true then depN ls v k + 1 else depN ls v k := rfl
    rw [hd]
    by_cases q1 : v7 (sp ls k).1 ≤ v7 v
    · rw [if_pos (e1.2 q1)]
      by_cases q2 : v7 (sp ls k).2 < v7 v
      · rw [if_pos (e2.2 q2), if_neg (fun h => Rat.not_lt.2 (hb.1 h).2 q2)]; omega
      · rw [if_neg (fun h => q2 (e2.1 h)), if_pos (hb.2 ⟨q1, Rat.not_lt.1 q2⟩)]; omega
    · rw [if_neg (fun h => q1 (e1.1 h)), if_neg (fun h => q1 (Rat.le_trans hr (Rat.le_of_lt (e2.1 h)))), if_neg (fun h => q1 (hb.1 h).1)]; omega
/-- they are the first ones of the ends in their order -/
theorem smE_pre (ls : List Sp) (v : Fr) : ∀ t, t ≤ 2 * ls.length → ∃ s, s ≤ t ∧ smE v ((srtE ls).take t) = dpE (srtE ls) s ∧ (∀ i, i < s → befP v (er (srtE ls) i)) ∧ ∀ i, s ≤ i → i < t → ¬ befP v (er (srtE ls) i)
  | 0, _ => ⟨0, Nat.le_refl _, rfl, fun i hi => by omega, fun i _ hi => by omega⟩
  | t + 1, ht => by
    obtain ⟨s, h1, h2, h3, h4⟩ := smE_pre ls v t (by omega)
    have hl := srtE_len ls
    have e : (srtE ls).take (t + 1) = (srtE ls).take t ++ [er (srtE ls) t] := by
      rw [List.take_add_one]
      simp [er, List.getElem?_eq_getElem (show t < (srtE ls).length by omega)]
    rw [e, smE_app, smE_one, h2]
    by_cases q : befP v (er (srtE ls) t)
    · rw [if_pos q]
      have hs : s = t := by
        by_cases k : s = t
        · exact k
        · exact absurd (bef_down (srtE_le ls (by omega : s < t) (by omega)) q) (h4 s (Nat.le_refl _) (by omega))
      subst hs
      refine ⟨s + 1, by omega, ?_, fun i hi => ?_, fun i hi hi2 => by omega⟩
      · have e2 : dpE (srtE ls) (s + 1) = if (er (srtE ls) s).2 = true then dpE (srtE ls) s - 1 else dpE (srtE ls) s + 1 := rfl
        rw [e2]
        unfold sgE
        by_cases q2 : (er (srtE ls) s).2 = true
        · rw [if_pos q2, if_pos q2]; omega
        · rw [if_neg q2, if_neg q2]
      · by_cases k : i = s
        · rw [k]; exact q
        · exact h3 i (by omega)
    · rw [if_neg q]
      refine ⟨s, by omega, by omega, h3, fun i hi hi2 => ?_⟩
      by_cases k : i = t
      · rw [k]; exact q
      · exact h4 i hi (by omega)
theorem dep_at {ls : List Sp} (h : clmP ls) {v : Fr} (hv : ok7 v = true) : ∃ s, s ≤ 2 * ls.length ∧ depI ls v = dpE (srtE ls) s ∧ (∀ i, i < s → befP v (er (srtE ls) i)) ∧ ∀ i, s ≤ i → i < 2 * ls.length → ¬ befP v (er (srtE ls) i) := by
  obtain ⟨s, h1, h2, h3, h4⟩ := smE_pre ls v (2 * ls.length) (Nat.le_refl _)
  refine ⟨s, h1, ?_, h3, h4⟩
  rw [← h2, ← srtE_len, List.take_length, smE_perm (srtE_perm ls)]
  exact dep_sum h hv ls.length (Nat.le_refl _)
end Go.Proofs.Ythfdpdnphnjebaa

/- What is found in the ends' order is what the model finds. -/
namespace Go.Proofs.Ythfdpdnphnjebaa
open Go.RowKit Go.Proofs.Ythfdpdnphnjebaa.RM

theorem okLow {ls : List Sp} (h : clmP ls) {j : Nat} (hj : j < ls.length) : ok7 (sp ls j).1 = true := (rng7_out (h.2 j hj)).1
theorem okHigh {ls : List Sp} (h : clmP ls) {j : Nat} (hj : j < ls.length) : ok7 (sp ls j).2 = true := (rng7_out (h.2 j hj)).2.1
theorem depN_pos {ls : List Sp} {v : Fr} {j : Nat} (hb : hasB ls v j = true) : ∀ k, j < k → 1 ≤ depN ls v k
  | 0, h => by omega
  | k + 1, h => by
    have hd : depN ls v (k + 1) = if hasB ls v k = true then depN ls v k + 1 else depN ls v k := rfl
    rw [hd]
    by_cases e : j = k
    · subst e
      rw [if_pos hb]; omega
    · have := depN_pos hb k (by omega)
      split <;> omega
theorem own_low {ls : List Sp} (h : clmP ls) {j : Nat} (hj : j < ls.length) : 1 ≤ depI ls (sp ls j).1 := by
  have hb : hasB ls (sp ls j).1 j = true := (hasB_iff h (okLow h hj) hj).2 ⟨Rat.le_refl, (rng7_out (h.2 j hj)).2.2⟩
  have := depN_pos hb ls.length hj
  unfold depI
  omega
/-- the model's best low end -/
theorem bst_is {ls : List Sp} (h : clmP ls) : ∀ k, k ≤ ls.length → 0 ≤ (bstV ls k).1 ∧ (0 < k → ∃ j, j < k ∧ (bstV ls k).2 = (sp ls j).1 ∧ (bstV ls k).1 = depI ls (sp ls j).1) ∧ (∀ j, j < k → depI ls (sp ls j).1 ≤ (bstV ls k).1) ∧ (∀ j, j < k → depI ls (sp ls j).1 = (bstV ls k).1 → v7 (bstV ls k).2 ≤ v7 (sp ls j).1)
  | 0, _ => ⟨Int.le_refl _, fun h => by omega, fun j hj => by omega, fun j hj => by omega⟩
  | k + 1, hk => by
    obtain ⟨h0, h1, h2, h3⟩ := bst_is h k (by omega)
    have hp := own_low h (j := k) (by omega)
    have hok := okLow h (j := k) (by omega)
    by_cases e : betB ls (bstV ls k) k = true
    · have e1 : bstV ls (k + 1) = (depI ls (sp ls k).1, (sp ls k).1) := by show (if _ then _ else _) = _; rw [if_pos e]
      rw [e1]
      unfold betB at e
      rw [Bool.or_eq_true, decide_eq_true_eq, Bool.and_eq_true, decide_eq_true_eq] at e
      refine ⟨by dsimp only; omega, fun _ => ⟨k, by omega, rfl, rfl⟩, fun j hj => ?_, fun j hj q => ?_⟩
      · by_cases k2 : j = k
        · rw [k2]; exact Int.le_refl _
        · have := h2 j (by omega)
          dsimp only
          rcases e with e | e <;> omega
      · by_cases k2 : j = k
        · rw [k2]; exact Rat.le_refl
        · have q2 := h2 j (by omega)
          dsimp only at q ⊢
          rcases e with e | ⟨e, e'⟩
          · omega
          · have q3 := h3 j (by omega) (by omega)
            have hok2 : ok7 (bstV ls k).2 = true := by
              by_cases k0 : 0 < k
              · obtain ⟨j', hj', r, _⟩ := h1 k0
                rw [r]; exact okLow h (by omega)
              · omega
            exact Rat.le_trans (Rat.le_of_lt ((le7_iff hok hok2).1 e')) q3
    · have e1 : bstV ls (k + 1) = bstV ls k := by show (if _ then _ else _) = _; rw [if_neg e]
      rw [e1]
      unfold betB at e
      rw [Bool.or_eq_true, decide_eq_true_eq, Bool.and_eq_true, decide_eq_true_eq] at e
      have k0 : 0 < k := by
        by_cases k0 : k = 0
        · subst k0
          exact absurd (Or.inl (show (0 : Int) < _ by omega)) e
        · omega
      obtain ⟨j', hj', r, r2⟩ := h1 k0
      have hok2 : ok7 (bstV ls k).2 = true := by rw [r]; exact okLow h (by omega)
      refine ⟨h0, fun _ => ⟨j', by omega, r, r2⟩, fun j hj => ?_, fun j hj q => ?_⟩
      · by_cases k2 : j = k
        · rw [k2]; exact Int.not_lt.1 fun q => e (Or.inl q)
        · exact h2 j (by omega)
      · by_cases k2 : j = k
        · rw [k2] at q ⊢
          refine Rat.not_lt.1 fun q2 => e (Or.inr ⟨q, ?_⟩)
          exact (le7_iff hok hok2).2 q2
        · exact h3 j (by omega) q
/-- the model's first high end of those that have low -/
theorem hgh_is {ls : List Sp} (h : clmP ls) (low : Fr) : ∀ k, k ≤ ls.length → ((hghV ls low k).2 = false → ∀ j, j < k → hasB ls low j = false) ∧ ((hghV ls low k).2 = true → (∃ j, j < k ∧ hasB ls low j = true ∧ (hghV ls low k).1 = (sp ls j).2) ∧ ∀ j, j < k → hasB ls low j = true → v7 (hghV ls low k).1 ≤ v7 (sp ls j).2)
  | 0, _ => ⟨fun _ j hj => by omega, fun h => by cases h⟩
  | k + 1, hk => by
    obtain ⟨h1, h2⟩ := hgh_is h low k (by omega)
    have hok := okHigh h (j := k) (by omega)
    by_cases e : neaB ls low (hghV ls low k) k = true
    · have e1 : hghV ls low (k + 1) = ((sp ls k).2, true) := by show (if _ then _ else _) = _; rw [if_pos e]
      rw [e1]
      unfold neaB at e
      rw [Bool.and_eq_true, Bool.or_eq_true, Bool.not_eq_true'] at e
      refine ⟨fun h => (by cases h), fun _ => ⟨⟨k, by omega, e.1, rfl⟩, fun j hj hb => ?_⟩⟩
      by_cases k2 : j = k
      · rw [k2]; exact Rat.le_refl
      · rcases e.2 with q | q
        · have := h1 q j (by omega); rw [hb] at this; cases this
        · cases hq : (hghV ls low k).2
          · have := h1 hq j (by omega); rw [hb] at this; cases this
          · obtain ⟨⟨j', hj', _, r⟩, q3⟩ := h2 hq
            have hok2 : ok7 (hghV ls low k).1 = true := by rw [r]; exact okHigh h (by omega)
            exact Rat.le_trans (Rat.le_of_lt ((le7_iff hok hok2).1 q)) (q3 j (by omega) hb)
    · have e1 : hghV ls low (k + 1) = hghV ls low k := by show (if _ then _ else _) = _; rw [if_neg e]
      rw [e1]
      unfold neaB at e
      rw [Bool.and_eq_true, Bool.or_eq_true, Bool.not_eq_true'] at e
      refine ⟨fun q j hj => ?_, fun q => ?_⟩
      · by_cases k2 : j = k
        · rw [k2]
          cases hb : hasB ls low k
          · rfl
          · exact absurd ⟨hb, Or.inl q⟩ e
        · exact h1 q j (by omega)
      · obtain ⟨⟨j', hj', r1, r2⟩, q3⟩ := h2 q
        refine ⟨⟨j', by omega, r1, r2⟩, fun j hj hb => ?_⟩
        by_cases k2 : j = k
        · rw [k2] at hb ⊢
          have hok2 : ok7 (hghV ls low k).1 = true := by rw [r2]; exact okHigh h (by omega)
          refine Rat.not_lt.1 fun q2 => e ⟨hb, Or.inr ?_⟩
          exact (le7_iff hok hok2).2 q2
        · exact q3 j (by omega) hb
theorem eq_of_leP {a b : En} : ∀ (i j : Nat) (ls : List Sp), i ≤ j → j < 2 * ls.length → er (srtE ls) i = a → er (srtE ls) j = b → leP a b := by
  intro i j ls hij hj ha hb
  by_cases e : i = j
  · subst e
    rw [← ha, ← hb]
    rcases leP_total (er (srtE ls) i) (er (srtE ls) i) with h | h <;> exact h
  · rw [← ha, ← hb]
    exact srtE_le ls (by omega) hj
/-- a Low has one behind it -/
theorem low_next {ls : List Sp} (h : clmP ls) {i : Nat} (hi : i < 2 * ls.length) (hl : (er (srtE ls) i).2 = false) : i + 1 < 2 * ls.length := by
  obtain ⟨j, hj, q⟩ := (endsL_mem ls ls.length).1 (srtE_mem ls hi)
  rcases q with q | q
  · obtain ⟨m, hm, qm⟩ := srtE_idx ls ((endsL_mem ls ls.length).2 ⟨j, hj, Or.inr rfl⟩)
    by_cases k : i < m
    · omega
    · have hle := eq_of_leP m i ls (by omega) hi qm q
      have hr := (rng7_out (h.2 j hj)).2.2
      rcases hle with r | ⟨_, r | r⟩
      · exact absurd r (Rat.not_lt.2 hr)
      · cases r
      · cases r
  · rw [q] at hl; cases hl
/-- THE ORDER's FIND IS THE MODEL's -/
theorem sweep_all {ls : List Sp} (h : clmP ls) : swE (srtE ls) (2 * ls.length) = ((agrL ls, agrH ls), (bstV ls ls.length).1) ∧ 1 ≤ (bstV ls ls.length).1 ∧ ok7 (agrL ls) = true ∧ ok7 (agrH ls) = true ∧ v7 (agrL ls) ≤ v7 (agrH ls) ∧ depI ls (agrL ls) = (bstV ls ls.length).1 ∧
    (∀ v, ok7 v = true → depI ls v ≤ (bstV ls ls.length).1) ∧ (∀ v, ok7 v = true → depI ls v = (bstV ls ls.length).1 → v7 (agrL ls) ≤ v7 v) ∧ ∀ j, j < ls.length → hasB ls (agrL ls) j = true → v7 (agrH ls) ≤ v7 (sp ls j).2 := by
  have hL := h.1
  obtain ⟨hmax, hfst⟩ := swE_inv (srtE ls) (2 * ls.length)
  obtain ⟨b0, b1, b2, b3⟩ := bst_is h ls.length (Nat.le_refl _)
  obtain ⟨jb, hjb, rb, rb2⟩ := b1 (by omega)
  generalize hm : (swE (srtE ls) (2 * ls.length)).2 = most at hmax hfst
  have A1 : ∀ v, ok7 v = true → depI ls v ≤ most := fun v hv => by
    obtain ⟨s, h1, h2, _⟩ := dep_at h hv
    rw [h2]; exact hmax s h1
  have hpos : 0 < most := by
    have := A1 _ (okLow h (j := 0) (by omega))
    have := own_low h (j := 0) (by omega)
    omega
  rcases hfst with h0 | ⟨i, hi, hlow, hdp, hag, hbef⟩
  · omega
  obtain ⟨k0, hk0, q0⟩ := (endsL_mem ls ls.length).1 (srtE_mem ls hi)
  have hi0 : er (srtE ls) i = ((sp ls k0).1, false) := by
    rcases q0 with q | q
    · exact q
    · rw [q] at hlow; cases hlow
  obtain ⟨low, hlw⟩ : ∃ low, low = (sp ls k0).1 := ⟨_, rfl⟩
  rw [← hlw] at hi0
  have hlok : ok7 low = true := by rw [hlw]; exact okLow h hk0
  obtain ⟨s, s1, s2, s3, s4⟩ := dep_at h hlok
  have hp0 : befP low (er (srtE ls) i) := by rw [hi0]; unfold befP; simp
  have his : i < s := by
    by_cases k : i < s
    · exact k
    · exact absurd hp0 (s4 i (by omega) hi)
  -- what lies between is Low at low
  have hbet : ∀ t, i + 1 ≤ t → t ≤ s → dpE (srtE ls) t = most + ((t : Int) - (i + 1 : Nat)) := by
    intro t
    induction t with
    | zero => intro h1; omega
    | succ t ih =>
      intro h1 h2
      by_cases e : t = i
      · subst e; rw [hdp]; omega
      · have ih' := ih (by omega) (by omega)
        have hq := s3 t (by omega)
        have hle := srtE_le ls (show i < t by omega) (by omega)
        have hnl : (er (srtE ls) t).2 = false := by
          cases q : (er (srtE ls) t).2
          · rfl
          · unfold befP at hq
            rw [if_pos q] at hq
            have := leP_val hle
            rw [hi0] at this
            exact absurd hq (Rat.not_lt.2 this)
        show (if _ then _ else _) = _
        rw [if_neg (by rw [hnl]; decide), ih']
        omega
  have hs : s = i + 1 := by
    have := hbet s (by omega) (Nat.le_refl _)
    have := hmax s s1
    omega
  subst hs
  have hdlow : depI ls low = most := by rw [s2, hdp]
  have hnx := low_next h hi hlow
  obtain ⟨e1, he1⟩ : ∃ e, e = er (srtE ls) (i + 1) := ⟨_, rfl⟩
  have hhi : e1.2 = true := by
    cases q : e1.2
    · have : dpE (srtE ls) (i + 1 + 1) = dpE (srtE ls) (i + 1) + 1 := by
        show (if _ then _ else _) = _
        rw [if_neg (by rw [← he1, q]; decide)]
      have := hmax (i + 1 + 1) (by omega)
      omega
    · rfl
  obtain ⟨k1, hk1, q1⟩ := (endsL_mem ls ls.length).1 (srtE_mem ls hnx)
  have hi1 : e1 = ((sp ls k1).2, true) := by
    rw [← he1] at q1
    rcases q1 with q | q
    · rw [q] at hhi; cases hhi
    · exact q
  have hle01 : v7 low ≤ v7 (sp ls k1).2 := by
    have := leP_val (srtE_le ls (show i < i + 1 by omega) hnx)
    rw [hi0, ← he1, hi1] at this
    exact this
  -- the claim whose High comes next has low
  have hhas : hasB ls low k1 = true := by
    refine (hasB_iff h hlok hk1).2 ⟨?_, hle01⟩
    obtain ⟨m, hm1, qm⟩ := srtE_idx ls ((endsL_mem ls ls.length).2 ⟨k1, hk1, Or.inl rfl⟩)
    by_cases k : m ≤ i
    · exact leP_val (eq_of_leP m i ls k hi qm hi0)
    · have hle := eq_of_leP (i + 1) m ls (by omega) hm1 (he1.symm.trans hi1) qm
      have hr := (rng7_out (h.2 k1 hk1)).2.2
      rcases hle with r | ⟨_, r | r⟩
      · exact absurd r (Rat.not_lt.2 hr)
      · cases r
      · cases r
  -- all that have low have their High behind
  have hmin : ∀ j, j < ls.length → hasB ls low j = true → v7 (sp ls k1).2 ≤ v7 (sp ls j).2 := by
    intro j hj hb
    obtain ⟨m, hm1, qm⟩ := srtE_idx ls ((endsL_mem ls ls.length).2 ⟨j, hj, Or.inr rfl⟩)
    have hge := ((hasB_iff h hlok hj).1 hb).2
    by_cases k : i + 1 ≤ m
    · exact leP_val (eq_of_leP (i + 1) m ls k hm1 (he1.symm.trans hi1) qm)
    · have hq := s3 m (by omega)
      rw [qm] at hq
      unfold befP at hq
      rw [if_pos rfl] at hq
      exact absurd hq (Rat.not_lt.2 hge)
  -- the model's low is this one
  have hbest : (bstV ls ls.length).1 = most := by
    have h1 := A1 _ (okLow h hjb)
    have h2 := b2 k0 hk0
    rw [← hlw, hdlow] at h2
    omega
  have hL1 : agrL ls = low := by
    have hokb : ok7 (bstV ls ls.length).2 = true := by rw [rb]; exact okLow h hjb
    refine v7_inj hokb hlok (Rat.le_antisymm ?_ ?_)
    · have := b3 k0 hk0 (by rw [← hlw, hdlow, hbest])
      rw [← hlw] at this; exact this
    · obtain ⟨s', t1, t2, t3, t4⟩ := dep_at h hokb
      have hd : dpE (srtE ls) s' = most := by rw [← t2, rb, ← rb2, hbest]
      have his' : i < s' := by
        by_cases k : i < s'
        · exact k
        · have := hbef s' (by omega); omega
      have hq := t3 i his'
      rw [hi0] at hq
      unfold befP at hq
      rw [if_neg (show ¬ (false = true) by decide)] at hq
      exact hq
  have hH1 : agrH ls = (sp ls k1).2 := by
    obtain ⟨g1, g2⟩ := hgh_is h low ls.length (Nat.le_refl _)
    have hf : (hghV ls low ls.length).2 = true := by
      cases q : (hghV ls low ls.length).2
      · have := g1 q k1 hk1; rw [hhas] at this; cases this
      · rfl
    obtain ⟨⟨j, hj, r1, r2⟩, r3⟩ := g2 hf
    unfold agrH
    rw [hL1]
    refine v7_inj (by rw [r2]; exact okHigh h hj) (okHigh h hk1) (Rat.le_antisymm (r3 k1 hk1 hhas) ?_)
    rw [r2]; exact hmin j hj r1
  have hlast : ∀ v, ok7 v = true → depI ls v = most → v7 low ≤ v7 v := by
    intro v hv hd
    obtain ⟨s', t1, t2, t3, t4⟩ := dep_at h hv
    have his' : i < s' := by
      by_cases k : i < s'
      · exact k
      · have := hbef s' (by omega); omega
    have hq := t3 i his'
    rw [hi0] at hq
    unfold befP at hq
    rw [if_neg (show ¬ (false = true) by decide)] at hq
    exact hq
  refine ⟨Prod.ext ?_ ?_, ?_⟩
  · rw [hag, hi0, ← he1, hi1, hL1, hH1]
  · rw [hm]; exact hbest.symm
  · rw [hL1, hH1, hbest]
    exact ⟨by omega, hlok, okHigh h hk1, hle01, hdlow, A1, hlast, hmin⟩
theorem sweep {ls : List Sp} (h : clmP ls) : swE (srtE ls) (2 * ls.length) = ((agrL ls, agrH ls), (bstV ls ls.length).1) := (sweep_all h).1
/-- those of whom each claim that has one number has the other, too -/
theorem depN_mono {ls : List Sp} {u v : Fr} (h : ∀ j, j < ls.length → hasB ls u j = true → hasB ls v j = true) : ∀ k, k ≤ ls.length → depN ls u k ≤ depN ls v k
  | 0, _ => Nat.le_refl _
  | k + 1, hk => by
    have ih := depN_mono h k (by omega)
    have hd1 : depN ls u (k + 1) = if hasB ls u k = true then depN ls u k + 1 else depN ls u k := rfl
    have hd2 : depN ls v (k + 1) = if hasB ls v k = true then depN ls v k + 1 else depN ls v k := rfl
    rw [hd1, hd2]
    by_cases q : hasB ls u k = true
    · rw [if_pos q, if_pos (h k (by omega) q)]; omega
    · rw [if_neg q]; split <;> omega
/-- WHAT MARZULLO's LAW ASKS of the agreed range -/
theorem marz {ls : List Sp} (h : clmP ls) : agrN ls = (bstV ls ls.length).1 ∧ agrR ls = (agrL ls, agrH ls) ∧ 1 ≤ agrN ls ∧ rng7 (agrL ls) (agrH ls) = true ∧
    (∀ v, ok7 v = true → deeA ls v ≤ agrN ls ∧ (within7 (agrL ls) (agrH ls) v = true → deeA ls v = agrN ls) ∧ (deeA ls v = agrN ls → le7 v (agrL ls) = false)) ∧ deeA ls (agrL ls) = agrN ls ∧ deeA ls (agrH ls) = agrN ls := by
  obtain ⟨_, g1, g2, g3, g4, g5, g6, g7, g8⟩ := sweep_all h
  have hb : clmB ls = true := decide_eq_true h
  have e1 : agrN ls = (bstV ls ls.length).1 := by unfold agrN; rw [if_pos hb]
  have e2 : agrR ls = (agrL ls, agrH ls) := by unfold agrR; rw [if_pos hb]
  have e3 : ∀ v, ok7 v = true → deeA ls v = depI ls v := fun v hv => by
    unfold deeA
    have : okB v.1 v.2 = true := hv
    rw [hb, this]; rfl
  have hin : ∀ v, ok7 v = true → v7 (agrL ls) ≤ v7 v → v7 v ≤ v7 (agrH ls) → deeA ls v = agrN ls := by
    intro v hv h1 h2
    have hm := depN_mono (ls := ls) (u := agrL ls) (v := v) (fun j hj q => by
      have q1 := (hasB_iff h g2 hj).1 q
      exact (hasB_iff h hv hj).2 ⟨Rat.le_trans q1.1 h1, Rat.le_trans h2 (g8 j hj q)⟩) ls.length (Nat.le_refl _)
    have hx := g6 v hv
    rw [e3 v hv, e1]
    unfold depI at g5 hx ⊢
    omega
  refine ⟨e1, e2, by omega, rng7_mk g2 g3 g4, fun v hv => ⟨?_, fun hw => ?_, fun hd => ?_⟩, ?_, ?_⟩
  · rw [e3 v hv, e1]; exact g6 v hv
  · unfold within7 at hw
    rw [rng7_mk g2 g3 g4, hv, Bool.true_and, Bool.true_and, Bool.and_eq_true, Bool.not_eq_true', Bool.not_eq_true', le7_no hv g2, le7_no g3 hv] at hw
    exact hin v hv hw.1 hw.2
  · rw [le7_no hv g2]
    exact g7 v hv (by rw [← e3 v hv, hd, e1])
  · exact hin _ g2 Rat.le_refl g4
  · exact hin _ g3 g4 Rat.le_refl
/-- the half of both ends is within -/
theorem marz_half {ls : List Sp} (h : clmP ls) {m d : Fr} {o p : Bool} (hm : m = addF (agrL ls) (agrH ls)) (ho : o = addG (agrL ls) (agrH ls)) (hd : d = (opN (two m.1 m.2 2 1) (m.1 * 1) (m.2 * 2), opD (two m.1 m.2 2 1) (m.1 * 1) (m.2 * 2))) (hp : p = opOk (two m.1 m.2 2 1) (m.1 * 1) (m.2 * 2)) (h1 : o = true) (h2 : p = true) : deeA ls d = agrN ls := by
  obtain ⟨e1, e2, _, hr, hall, _, _⟩ := marz h
  obtain ⟨g2, g3, g4⟩ := rng7_out hr
  obtain ⟨a1, a2⟩ := addF_yes (p := agrL ls) (q := agrH ls) (by rw [← ho, h1])
  have hk : opOk (two m.1 m.2 2 1) (m.1 * 1) (m.2 * 2) = true := by rw [← hp, h2]
  have hd7 := op7 (p := m) (q := (2, 1)) (x := m.1 * 1) (y := m.2 * 2) hk
  have hdok : ok7 d = true := by rw [hd]; exact hd7.2.2.1
  have hdv : v7 d = Rat.divInt (m.1 * 1) (m.2 * 2) := by rw [hd]; exact hd7.2.2.2
  have hm2 : v7 d * 2 = v7 (agrL ls) + v7 (agrH ls) := by
    rw [← a2, ← hm, hdv]
    have hpos : 0 < m.2 := ok7_pos (by rw [hm]; exact a1)
    unfold v7
    rw [show (2 : Rat) = Rat.divInt 2 1 by decide, Rat.divInt_mul_divInt, Int.mul_one, Int.mul_one]
    exact Rat.divInt_mul_right (by decide)
  refine (hall d hdok).2.1 ?_
  unfold within7
  rw [hr, hdok, Bool.true_and, Bool.true_and, Bool.and_eq_true, Bool.not_eq_true', Bool.not_eq_true', le7_no hdok g2, le7_no g3 hdok]
  constructor <;> grind
end Go.Proofs.Ythfdpdnphnjebaa

/- The walk of the program's Agreed. -/
namespace Go.Proofs.Ythfdpdnphnjebaa
open Go.RowKit Go.Proofs.Ythfdpdnphnjebaa.RM

theorem drop_cons {S : List En} {t : Nat} (h : t < S.length) : S.drop t = er S t :: S.drop (t + 1) := by
  rw [List.drop_eq_getElem_cons h]
  simp [er, List.getElem?_eq_getElem h]
theorem drop_idx {S : List En} {t : Nat} {e : En} (h : e ∈ S.drop t) : ∃ i, t ≤ i ∧ i < S.length ∧ er S i = e := by
  obtain ⟨k, hk, q⟩ := List.mem_iff_getElem.1 h
  rw [List.length_drop] at hk
  refine ⟨t + k, by omega, by omega, ?_⟩
  rw [← q]
  simp [er, List.getElem?_eq_getElem (show t + k < S.length by omega)]
theorem head_is {ls : List Sp} (hc : clmP ls) {es : List En} {t r : Nat} (hl : t + r = 2 * ls.length) (hp : es.Perm ((srtE ls).drop t)) (hh : Hp.Heap dE lsE es r) (hr : 0 < r) : Hp.at' dE es 0 = er (srtE ls) t := by
  have hS := srtE_len ls
  have hOK : ∀ i, i < 2 * ls.length → okE (er (srtE ls) i) := fun i hi => endsL_ok hc ls.length (Nat.le_refl _) _ (srtE_mem ls hi)
  have hlen : es.length = r := by rw [hp.length_eq, List.length_drop]; omega
  have hokE : ∀ e ∈ es, okE e := fun e he => by
    obtain ⟨i, _, hi, q⟩ := drop_idx (hp.mem_iff.1 he)
    rw [← q]; exact hOK i (by omega)
  have m0 : Hp.at' dE es 0 ∈ es := by
    unfold Hp.at'
    rw [List.getElem?_eq_getElem (by omega)]
    exact List.getElem_mem _
  obtain ⟨i, hi, hi2, q⟩ := drop_idx (hp.mem_iff.1 m0)
  have h1 : leP (er (srtE ls) t) (Hp.at' dE es 0) := eq_of_leP t i ls hi (by omega) rfl q
  have mt : er (srtE ls) t ∈ es := by
    refine hp.mem_iff.2 ?_
    rw [drop_cons (by omega)]
    exact List.mem_cons_self
  obtain ⟨k, hk, qk⟩ := List.mem_iff_getElem.1 mt
  have qk' : Hp.at' dE es k = er (srtE ls) t := by unfold Hp.at'; rw [List.getElem?_eq_getElem hk, ← qk]; rfl
  by_cases k0 : k = 0
  · rw [← qk', k0]
  · have := Hp.heap_least ordE (n := r) (by omega) hokE hh k (by omega) (by omega)
    rw [qk'] at this
    exact leP_anti (hokE _ m0) (hOK t (by omega)) (ls_le (hokE _ m0) (hOK t (by omega)) this) h1
theorem rest_is {S es es' : List En} {t : Nat} {e : En} (h : t < S.length) (hp : es.Perm (S.drop t)) (he : e = er S t) (hq : (es' ++ [e]).Perm es) : es'.Perm (S.drop (t + 1)) := by
  have h1 := (List.perm_append_comm (l₁ := [e]) (l₂ := es')).trans (hq.trans hp)
  rw [drop_cons h, ← he] at h1
  exact List.Perm.cons_inv h1
def lenAt (W : World) (H : Nat) : Nat := match W.cell? ⟨H, 0, none⟩ with
  | some (.slice _ k _) => k
  | _ => 0
theorem lenAt_is {W : World} {lo H g c n : Nat} {es : List En} (h : HpS W lo H g c n es) : lenAt W H = n := by unfold lenAt; rw [h.c0]

set_option maxRecDepth 100000 in
set_option maxHeartbeats 8000000 in
theorem iAgreed_any (v : Value) (ls : List Sp) (w : World) (h : RdS w v ls) :
    Calls Try.prog 6 #[v] w fun e w' => e = .returned (.tuple #[.agg #[.int .i64 (agrR ls).1.1, .int .i64 (agrR ls).1.2, .int .i64 (agrR ls).2.1, .int .i64 (agrR ls).2.2], .int .i64 (agrN ls)]) ∧ Below w.heap.size w w' := by
  have HC := hidH (fun W (hW : Below w.heap.size w W) => iClm_any v ls W (h.below hW))
  have HEN := hidH (fun W (hW : Below w.heap.size w W) (hc : clmP ls) => iEnds_any v ls W (h.below hW) hc)
  obtain ⟨a, c, rfl, _⟩ := h
  obtain ⟨q, hq⟩ : ∃ q, q = clmB ls := ⟨_, rfl⟩
  have HQ := hidH hq
  have HRR : Hid (agrR ls = if q = true then (agrL ls, agrH ls) else ((0, 0), (0, 0))) := by show _ = _; rw [hq]; rfl
  have HRN : Hid (agrN ls = if q = true then (bstV ls ls.length).1 else -1) := by show _ = _; rw [hq]; rfl
  rw [← hq] at HC
  clear hq
  obtain ⟨L, hL⟩ : ∃ L, L = ls.length := ⟨_, rfl⟩
  have HL := hidH hL
  rw [← hL] at HC HEN ⊢
  clear hL
  obtain ⟨Rb, hRb⟩ : ∃ R, R = w.heap.size := ⟨_, rfl⟩
  obtain ⟨X, hX⟩ : ∃ X, X = w.alloc (.cells #[.int .i64 0, .int .i64 0, .int .i64 0, .int .i64 0] 29) := ⟨_, rfl⟩
  have R0 : Hid (IsB X Rb #[.int .i64 0, .int .i64 0, .int .i64 0, .int .i64 0] 29) := by show IsB _ _ _ _; rw [hX, hRb]; exact IsB.new w _ _
  have hB : Hid (Below w.heap.size w X) := by show Below _ _ _; rw [hX]; exact b0H _ _
  have hwR : w.heap.size ≤ Rb := by omega
  go_enter Try.func6, Try.ntmps6
  go_wp2_with fail
  rw [← hX, ← hRb]
  clear hX hRb
  refine (HC.out _ hB.out).mono ?_
  rintro e w1 ⟨rfl, hb⟩
  replace R0 := hidH (R0.out.below hb)
  replace hB := hidH (hB.out.trans (hb.mono hB.out.size))
  clear hb HC
  cases q
  · obtain ⟨r0, r1, r2, r3⟩ := R0.out.s4
    obtain ⟨s0, s1, s2, s3⟩ := R0.out.sf4
    have HRE : Hid (agrR ls = ((0, 0), (0, 0))) := by show _ = _; rw [HRR.out]; rfl
    have HNE : Hid (agrN ls = -1) := by show _ = _; rw [HRN.out]; rfl
    go_wp2
    have R2 := R0.out.sAll (.int .i64 0) (.int .i64 0) (.int .i64 0) (.int .i64 0)
    obtain ⟨y0, y1, y2, y3⟩ := R2.s4
    exact bodyPost_ret (v := .tuple #[.agg #[.int .i64 0, .int .i64 0, .int .i64 0, .int .i64 0], .int .i64 (-1)]) (by simp [results, Try.results6, go_sem, y0, y1, y2, y3]) rfl ⟨ret_r11 (by rw [HRE.out]) (by rw [HRE.out]) (by rw [HRE.out]) (by rw [HRE.out]) HNE.out.symm, below_sAll hB.out hwR _ _ _ _⟩
  have HCP : Hid (clmP ls) := clmB_out HQ.out.symm
  have hl12 : 1 ≤ L ∧ L ≤ 12 := by rw [HL.out]; exact HCP.out.1
  obtain ⟨l1, l2⟩ := hl12
  have HFIN : Hid (swE (srtE ls) (2 * L) = (agrR ls, agrN ls)) := by
    show _ = _
    rw [HL.out, sweep HCP.out, HRR.out, HRN.out]; rfl
  clear HRR HRN HQ
  obtain ⟨Ab, hAb⟩ : ∃ R, R = w1.heap.size := ⟨_, rfl⟩
  obtain ⟨X, hX⟩ : ∃ X, X = w1.alloc (.cells #[.int .i64 0, .int .i64 0, .int .i64 0, .int .i64 0] 29) := ⟨_, rfl⟩
  have A0 : Hid (IsB X Ab #[.int .i64 0, .int .i64 0, .int .i64 0, .int .i64 0] 29) := by show IsB _ _ _ _; rw [hX, hAb]; exact IsB.new w1 _ _
  have hb := b0H w1 (.cells #[.int .i64 0, .int .i64 0, .int .i64 0, .int .i64 0] 29)
  have hRA : Rb ≠ Ab := by have := R0.out.lt; omega
  have hwA : w.heap.size ≤ Ab := by have := hB.out.size; omega
  rw [← hX] at hb
  replace R0 := hidH (R0.out.below hb)
  replace hB := hidH (hB.out.trans (hb.mono hB.out.size))
  clear hb
  go_upto_region 4 with fail
  simp only [← hAb, ← hX]
  clear hAb hX
  go_wp2_with fail
  refine (HEN.out _ hB.out HCP.out).mono ?_
  rintro e w2 ⟨g, gc, es, rfl, ho, hp, hh, hb⟩
  have hg := ho.lt g rfl
  have hRl := R0.out.lt
  have hAl := A0.out.lt
  obtain ⟨lo, hlo⟩ : ∃ lo, lo = X.heap.size := ⟨_, rfl⟩
  rw [← hlo] at hg hRl hAl
  have hlw : w.heap.size ≤ lo := by have := hB.out.size; omega
  have HO : Hid (w2.ownsRow lo 50 3 (.slice (some ⟨g, 0, none⟩) (2 * L) gc) (2 * L) (cellsE es)) := by show World.ownsRow _ _ _ _ _ _ _; rw [hlo]; exact ho
  have HP0 : Hid (es.Perm ((srtE ls).drop 0)) := by show List.Perm _ _; rw [List.drop_zero]; rw [HL.out] at hp; exact hp.trans (srtE_perm ls).symm
  have HH0 : Hid (Hp.Heap dE lsE es (2 * L)) := by show Hp.Heap _ _ _ _; exact hh
  have hlen : Hid (es.length = 2 * L) := by show _ = _; rw [hp.length_eq, endsL_len]
  replace R0 := hidH (R0.out.below hb)
  replace A0 := hidH (A0.out.below hb)
  replace hB := hidH (hB.out.trans (hb.mono hB.out.size))
  clear hb ho hp hh hlo HEN
  obtain ⟨H, hH⟩ : ∃ R, R = w2.heap.size := ⟨_, rfl⟩
  obtain ⟨Y, hY⟩ : ∃ X, X = w2.alloc (.cells #[.slice (some ⟨g, 0, none⟩) (2 * L) gc] 47) := ⟨_, rfl⟩
  have hb := b0H w2 (.cells #[.slice (some ⟨g, 0, none⟩) (2 * L) gc] 47)
  have I0 : Hid (IsB Y H #[.slice (some ⟨g, 0, none⟩) (2 * L) gc] 47) := by show IsB _ _ _ _; rw [hY, hH]; exact IsB.new w2 _ _
  rw [← hY] at hb
  have hgH : g ≠ H := by omega
  have hloH : lo ≤ H := by omega
  have hRH : Rb ≠ H := by omega
  have hAH : Ab ≠ H := by omega
  have S0 : Hid (HpS Y lo H g gc (2 * L) es) := ⟨I0.out, own_below HO.out hb, hlen.out, hgH⟩
  replace R0 := hidH (R0.out.below hb)
  replace A0 := hidH (A0.out.below hb)
  replace hB := hidH (hB.out.trans (hb.mono hB.out.size))
  clear hb HO I0 hlen
  obtain ⟨S, hS⟩ : ∃ S, S = srtE ls := ⟨_, rfl⟩
  have HSL : Hid (S.length = 2 * L) := by show _ = _; rw [hS, srtE_len, HL.out]
  have HHD : Hid (∀ (es : List En) (t r : Nat), t + r = 2 * L → es.Perm (S.drop t) → Hp.Heap dE lsE es r → 0 < r → Hp.at' dE es 0 = er S t) := by
    intro es t r h1 h2 h3 h4
    rw [hS] at h2 ⊢
    exact head_is HCP.out (by rw [← HL.out]; exact h1) h2 h3 h4
  have HOK : Hid (∀ e ∈ S, okE e) := by
    intro e he
    rw [hS] at he
    exact endsL_ok HCP.out ls.length (Nat.le_refl _) e ((srtE_perm ls).mem_iff.1 he)
  have HNX : Hid (∀ i, i < 2 * L → (er S i).2 = false → i + 1 < 2 * L) := by
    intro i hi h2
    rw [hS] at h2
    rw [HL.out] at hi ⊢
    exact low_next HCP.out hi h2
  have HDS : Hid (∀ t, dpE S (t + 1) = if (er S t).2 = true then dpE S t - 1 else dpE S t + 1) := fun t => rfl
  have HSS : Hid (∀ t, swE S (t + 1) = if (er S t).2 = true then swE S t else if (swE S t).2 < dpE S (t + 1) then (((er S t).1, (er S (t + 1)).1), dpE S (t + 1)) else swE S t) := fun t => rfl
  rw [← hS] at HP0 HFIN
  have hnL : 2 * L ≤ 24 := by omega
  obtain ⟨n, hn⟩ : ∃ n, n = 2 * L := ⟨_, rfl⟩
  rw [← hn] at HSL HHD HNX HH0 S0 HFIN hnL hY
  rw [← hn]
  have hn1 : 0 < n := by omega
  clear hn hS HCP
  go_upto_region 5 with fail
  simp only [← hH, ← hY]
  clear hH hY
  go_loopw [5, 6] (fun mv dv wr => ∃ (t r g gc : Nat) (es : List En), t + r = n ∧ mv = .int .i64 (swE S t).2 ∧ dv = .int .i64 (dpE S t) ∧ Hid (HpS wr lo H g gc r es) ∧ Hid (es.Perm (S.drop t)) ∧ Hid (Hp.Heap dE lsE es r) ∧ Hid (IsB wr Ab #[.int .i64 (swE S t).1.1.1, .int .i64 (swE S t).1.1.2, .int .i64 (swE S t).1.2.1, .int .i64 (swE S t).1.2.2] 29) ∧ Hid (IsB wr Rb #[.int .i64 0, .int .i64 0, .int .i64 0, .int .i64 0] 29) ∧ Hid (Below w.heap.size w wr)) (fun _ _ wr => lenAt wr H)
  case atStart => exact ⟨0, n, g, gc, es, by omega, rfl, rfl, S0, HP0, HH0, A0, R0, hB⟩
  case round =>
    clear S0 HP0 HH0 A0 R0 hB hg hgH
    obtain ⟨t, r, g, gc, es, htr, rfl, rfl, hS, hP, hHp, hA, hR, hB⟩ := hrel
    have hlt := hS.out.lt
    have HLA := hidH (lenAt_is hS.out)
    have HDB := hidH (dpE_bd S t)
    have HSB := hidH (swE_bd S t)
    have HD1 := hidH (HDS.out t)
    have HS1 := hidH (HSS.out t)
    have c0 := hS.out.c0
    by_cases hr0 : r = 0
    · have HT : Hid (swE S t = (agrR ls, agrN ls)) := by show _ = _; rw [show t = n by omega]; exact HFIN.out
      subst hr0
      rw [HT.out] at hA ⊢
      obtain ⟨a0, a1, a2, a3⟩ := hA.out.s4
      obtain ⟨r0, r1, r2, r3⟩ := hR.out.s4
      obtain ⟨f0, f1, f2, f3⟩ := hR.out.sf4
      obtain ⟨rr, hrr⟩ : ∃ x, x = agrR ls := ⟨_, rfl⟩
      obtain ⟨rn, hrn⟩ : ∃ x, x = agrN ls := ⟨_, rfl⟩
      have HRR := hidH (And.intro hrr hrn)
      rw [← hrr] at a0 a1 a2 a3
      rw [← hrr, ← hrn]
      clear hrr hrn HFIN HT hA
      obtain ⟨⟨z1, z2⟩, z3, z4⟩ := rr
      dsimp only at a0 a1 a2 a3 ⊢
      have R9 := hR.out.sAll (.int .i64 z1) (.int .i64 z2) (.int .i64 z3) (.int .i64 z4)
      obtain ⟨y0, y1, y2, y3⟩ := R9.s4
      go_wp2
      exact bodyPost_ret (v := .tuple #[.agg #[.int .i64 z1, .int .i64 z2, .int .i64 z3, .int .i64 z4], .int .i64 rn]) (by simp [results, Try.results6, go_sem, y0, y1, y2, y3]) rfl ⟨ret_r11 (by rw [← HRR.out.1]) (by rw [← HRR.out.1]) (by rw [← HRR.out.1]) (by rw [← HRR.out.1]) (by rw [← HRR.out.2]), below_sAll hB.out hwR _ _ _ _⟩
    obtain ⟨r', hr'⟩ : ∃ r', r' = r - 1 := ⟨_, rfl⟩
    have hrr : r = r' + 1 := by omega
    clear hr'
    subst hrr
    have HOE : Hid (∀ e ∈ es, okE e) := fun e he => HOK.out e (List.mem_of_mem_drop (hP.out.mem_iff.1 he))
    have HE0 := hidH (HHD.out es t (r' + 1) htr hP.out hHp.out (by omega))
    have HLS := hidH (least_any lo H g gc (r' + 1) r' es wr hS.out (by omega) rfl HOE.out hHp.out)
    rw [HE0.out] at HLS
    have HRS : Hid (∀ es' : List En, (es' ++ [er S t]).Perm es → es'.Perm (S.drop (t + 1))) := fun es' h => rest_is (by rw [HSL.out]; omega) hP.out rfl h
    have HLOW : Hid ((er S t).2 = false → 0 < r') := fun h => by have := HNX.out t (by omega) h; omega
    have hRg : Rb ≠ g := by omega
    have hAg : Ab ≠ g := by omega
    have hlog : lo ≤ g := hlt.2.1
    obtain ⟨e, he⟩ : ∃ e, e = er S t := ⟨_, rfl⟩
    obtain ⟨d, hd⟩ : ∃ d, d = dpE S t := ⟨_, rfl⟩
    obtain ⟨m, hm⟩ : ∃ m, m = (swE S t).2 := ⟨_, rfl⟩
    obtain ⟨ag, hag⟩ : ∃ m, m = (swE S t).1 := ⟨_, rfl⟩
    have HSW : Hid (swE S t = (ag, m)) := by show _ = _; rw [hag, hm]
    rw [← he] at HLS HRS HLOW HD1 HS1
    rw [← hd] at HDB HD1 ⊢
    rw [← hm] at HSB HS1 ⊢
    rw [← hag] at hA
    obtain ⟨hd1, hd2⟩ := HDB.out
    obtain ⟨hm1, hm2⟩ := HSB.out
    clear he hd hm hag HE0 HOE hP hHp HDB HSB hlt
    obtain ⟨⟨x1, x2⟩, x3⟩ := e
    obtain ⟨⟨z1, z2⟩, z3, z4⟩ := ag
    dsimp only at hA
    go_wp2_with fail
    refine HLS.out.mono ?_
    rintro e w5 ⟨rfl, es', h2, p2, q2, k2⟩
    have S2 := hidH h2
    have P2 := hidH (HRS.out es' p2)
    have Q2 := hidH q2
    replace hA := hidH (k2.isB hA.out hAH hAg)
    replace hR := hidH (k2.isB hR.out hRH hRg)
    replace hB := hidH (hB.out.trans (k2.below (by omega) (by omega) hB.out.size))
    clear h2 p2 q2 k2 HLS HRS c0 hS
    obtain ⟨E, hE⟩ : ∃ E, E = w5.heap.size := ⟨_, rfl⟩
    obtain ⟨X5, hX5⟩ : ∃ X, X = w5.alloc (.cells #[.int .i64 x1, .int .i64 x2, .bool x3] 50) := ⟨_, rfl⟩
    have hb := b0H w5 (.cells #[.int .i64 x1, .int .i64 x2, .bool x3] 50)
    have IE : Hid (IsB X5 E #[.int .i64 x1, .int .i64 x2, .bool x3] 50) := by show IsB _ _ _ _; rw [hX5, hE]; exact IsB.new w5 _ _
    rw [← hX5] at hb
    replace S2 := hidH (S2.out.below hb)
    replace hA := hidH (hA.out.below hb)
    replace hR := hidH (hR.out.below hb)
    replace hB := hidH (hB.out.trans (hb.mono hB.out.size))
    have HLB := hidH (lenAt_is S2.out)
    clear hb
    have hwrap : (d - 1 : Int) = d - 1 := rfl
    go_upto_region 7 with fail
    rw [← hX5, ← hE]
    clear hX5 hE hwrap
    have e0 := IE.out.cell 0 rfl
    have e1 := IE.out.cell 1 rfl
    have e2 := IE.out.cell 2 rfl
    cases x3
    · have HDN : Hid (dpE S (t + 1) = d + 1) := by show _ = _; rw [HD1.out]; rfl
      have HR0 := HLOW.out rfl
      by_cases hgt : m < d + 1
      · have HN : Hid (swE S (t + 1) = (((x1, x2), (er S (t + 1)).1), d + 1)) := by show _ = _; rw [HS1.out, if_neg (by decide), HDN.out, if_pos hgt]
        have HE1 := hidH (HHD.out es' (t + 1) r' (by omega) P2.out Q2.out HR0)
        obtain ⟨g0, g1, g2⟩ := own_E S2.out.2.1 S2.out.2.2.1 0 HR0
        rw [show er es' 0 = er S (t + 1) from HE1.out] at g0 g1 g2
        obtain ⟨y, hy⟩ : ∃ y, y = er S (t + 1) := ⟨_, rfl⟩
        rw [← hy] at g0 g1 g2 HN
        clear hy HE1
        obtain ⟨⟨y1, y2⟩, y3⟩ := y
        dsimp only at g0 g1 g2 HN
        simp only [Nat.zero_mul, Nat.zero_add] at g0 g1 g2
        have c0 := S2.out.c0
        obtain ⟨a0, a1, a2, a3⟩ := hA.out.s4
        obtain ⟨f0, f1, f2, f3⟩ := hA.out.sf4
        go_wp2
        go_region
        all_goals go_wp2
        all_goals
          go_roundw
          case rel =>
            have S9 := (((S2.out.st hAH hAg 0 (.int .i64 x1)).st hAH hAg 1 (.int .i64 x2)).st hAH hAg 2 (.int .i64 y1)).st hAH hAg 3 (.int .i64 y2)
            have A9 := hA.out.sAll (.int .i64 x1) (.int .i64 x2) (.int .i64 y1) (.int .i64 y2)
            have R9 := (((hR.out.other hRA 0 (.int .i64 x1)).other hRA 1 (.int .i64 x2)).other hRA 2 (.int .i64 y1)).other hRA 3 (.int .i64 y2)
            have B9 := below_sAll hB.out hwA (.int .i64 x1) (.int .i64 x2) (.int .i64 y1) (.int .i64 y2)
            exact ⟨t + 1, r', g, gc, es', by omega, by rw [HN.out], by rw [HDN.out], S9.below ((Below.refl _ _).drew), P2.out, Q2.out, by rw [HN.out]; exact A9.below ((Below.refl _ _).drew), R9.below ((Below.refl _ _).drew), B9.drew⟩
          case measure =>
            have S9 := ((((S2.out.st hAH hAg 0 (.int .i64 x1)).st hAH hAg 1 (.int .i64 x2)).st hAH hAg 2 (.int .i64 y1)).st hAH hAg 3 (.int .i64 y2)).below ((Below.refl _ _).drew)
            rw [lenAt_is S9, HLA.out]; omega
      · have HN : Hid (swE S (t + 1) = (((z1, z2), z3, z4), m)) := by show _ = _; rw [HS1.out, if_neg (by decide), HDN.out, if_neg hgt, HSW.out]
        go_wp2
        go_roundw
        case rel => exact ⟨t + 1, r', g, gc, es', by omega, by rw [HN.out], by rw [HDN.out], S2.out, P2.out, Q2.out, by rw [HN.out]; exact hA.out, hR.out, hB.out⟩
        case measure => rw [HLA.out, HLB.out]; omega
    · have HDN : Hid (dpE S (t + 1) = d - 1) := by show _ = _; rw [HD1.out]; rfl
      have HN : Hid (swE S (t + 1) = (((z1, z2), z3, z4), m)) := by show _ = _; rw [HS1.out, if_pos rfl, HSW.out]
      go_wp2
      go_roundw
      case rel => exact ⟨t + 1, r', g, gc, es', by omega, by rw [HN.out], by rw [HDN.out], S2.out, P2.out, Q2.out, by rw [HN.out]; exact hA.out, hR.out, hB.out⟩
      case measure => rw [HLA.out, HLB.out]; omega
end Go.Proofs.Ythfdpdnphnjebaa
