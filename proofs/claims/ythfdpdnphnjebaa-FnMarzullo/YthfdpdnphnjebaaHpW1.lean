/- The ends of claims in memory, and the walks of what a heap asks of them: how many there are, is one less, two change places. -/
import Derived.Test.YthfdpdnphnjebaaHpMath
import Derived.Test.YthfdpdnphnjebaaAgrP1
import Derived.Test.YthfdpdnphnjebaaCutR
import Derived.Deep.RegionHeld3
namespace Go.Proofs.Ythfdpdnphnjebaa
open Go.RowKit Go.Proofs.Ythfdpdnphnjebaa.RM

/-- an end of a claim; is it the high one -/
abbrev En := Fr × Bool
def er (es : List En) (j : Nat) : En := es[j]?.getD ((0, 0), false)
def cellsE (es : List En) : List Value := es.flatMap fun s => [Value.int .i64 s.1.1, .int .i64 s.1.2, .bool s.2]
theorem cellsE_cons (s : En) (r : List En) : cellsE (s :: r) = Value.int .i64 s.1.1 :: .int .i64 s.1.2 :: .bool s.2 :: cellsE r := rfl
theorem cellsE_append (a b : List En) : cellsE (a ++ b) = cellsE a ++ cellsE b := by simp [cellsE]
theorem cellsE_len (ss : List En) : (cellsE ss).length = ss.length * 3 := by
  induction ss with
  | nil => rfl
  | cons s r ih => rw [cellsE_cons]; simp [ih]; omega
theorem cellsE_at : ∀ (ss : List En) (j : Nat), j < ss.length → (cellsE ss)[j * 3]? = some (.int .i64 (er ss j).1.1) ∧ (cellsE ss)[j * 3 + 1]? = some (.int .i64 (er ss j).1.2) ∧ (cellsE ss)[j * 3 + 2]? = some (.bool (er ss j).2)
  | [], j, h => by simp at h
  | s :: r, 0, _ => ⟨rfl, rfl, rfl⟩
  | s :: r, j + 1, h => by
    have ih := cellsE_at r j (by simpa using h)
    rw [cellsE_cons, show (j + 1) * 3 = j * 3 + 1 + 1 + 1 by omega]
    simpa [er] using ih
theorem cellsE_set : ∀ (ss : List En) (j : Nat) (x1 x2 : Int) (b : Bool), j < ss.length → (((cellsE ss).set (j * 3) (.int .i64 x1)).set (j * 3 + 1) (.int .i64 x2)).set (j * 3 + 2) (.bool b) = cellsE (ss.set j ((x1, x2), b))
  | [], j, _, _, _, h => by simp at h
  | s :: r, 0, _, _, _, _ => rfl
  | s :: r, j + 1, x1, x2, b, h => by
    have ih := cellsE_set r j x1 x2 b (by simpa using h)
    rw [cellsE_cons, show (j + 1) * 3 = j * 3 + 1 + 1 + 1 by omega]
    simp only [List.set_cons_succ]
    rw [ih]; rfl
theorem cellsE_one (ps : List En) : ∀ u ∈ cellsE ps, u.oneCell' = true := by
  intro u hu
  unfold cellsE at hu
  rw [List.mem_flatMap] at hu
  obtain ⟨p, _, h⟩ := hu
  simp at h
  rcases h with rfl | rfl | rfl <;> rfl
theorem cellsE_take : ∀ (ps : List En) (k : Nat), (cellsE ps).take (k * 3) = cellsE (ps.take k)
  | [], k => by simp [cellsE]
  | p :: r, 0 => rfl
  | p :: r, k + 1 => by
    rw [cellsE_cons, show (k + 1) * 3 = k * 3 + 1 + 1 + 1 by omega, List.take_succ_cons, List.take_succ_cons, List.take_succ_cons, cellsE_take r k, List.take_succ_cons, cellsE_cons]
theorem infoE : (Try.prog.info? 50).map (fun i => (i.zero, i.size, i.bytes)) = some (some (.agg #[.int .i64 0, .int .i64 0, .bool false]), 3, 24) := by kernel_rfl
theorem own_E {W : World} {base g n c : Nat} {ss : List En} (h : W.ownsRow base 50 3 (.slice (some ⟨g, 0, none⟩) n c) n (cellsE ss)) (hl : ss.length = n) (j : Nat) (hj : j < n) :
    W.cell? ⟨g, j * 3, none⟩ = some (.int .i64 (er ss j).1.1) ∧ W.cell? ⟨g, j * 3 + 1, none⟩ = some (.int .i64 (er ss j).1.2) ∧ W.cell? ⟨g, j * 3 + 2, none⟩ = some (.bool (er ss j).2) := by
  have h1 := h.cellAt (j * 3) (by omega)
  have h2 := h.cellAt (j * 3 + 1) (by omega)
  have h3 := h.cellAt (j * 3 + 2) (by omega)
  have k := cellsE_at ss j (by omega)
  exact ⟨h1.trans k.1, h2.trans k.2.1, h3.trans k.2.2⟩
theorem own_setE {W : World} {base g n c : Nat} {ss : List En} (h : W.ownsRow base 50 3 (.slice (some ⟨g, 0, none⟩) n c) n (cellsE ss)) (hl : ss.length = n) (k : Nat) (hk : k < n) (x1 x2 : Int) (b : Bool) :
    (((W.setCell ⟨g, k * 3, none⟩ (.int .i64 x1)).setCell ⟨g, k * 3 + 1, none⟩ (.int .i64 x2)).setCell ⟨g, k * 3 + 2, none⟩ (.bool b)).ownsRow base 50 3 (.slice (some ⟨g, 0, none⟩) n c) n (cellsE (ss.set k ((x1, x2), b))) ∧
    W.grownBy (((W.setCell ⟨g, k * 3, none⟩ (.int .i64 x1)).setCell ⟨g, k * 3 + 1, none⟩ (.int .i64 x2)).setCell ⟨g, k * 3 + 2, none⟩ (.bool b)) (some g) := by
  obtain ⟨p1, q1⟩ := h.stored (k * 3) (.int .i64 x1)
  obtain ⟨p2, q2⟩ := p1.stored (k * 3 + 1) (.int .i64 x2)
  obtain ⟨p3, q3⟩ := p2.stored (k * 3 + 2) (.bool b)
  rw [cellsE_set _ _ _ _ _ (by rw [hl]; exact hk)] at p3
  exact ⟨p3, (q1.trans q2).trans q3⟩
/-- a row cut to its first k ends -/
theorem own_cutE {W : World} {base g n c : Nat} {ps : List En} (h : W.ownsRow base 50 3 (.slice (some ⟨g, 0, none⟩) n c) n (cellsE ps)) (k : Nat) (hk : k ≤ n) :
    W.ownsRow base 50 3 (.slice (some ⟨g, 0, none⟩) k c) k (cellsE (ps.take k)) := by
  obtain ⟨hl, h2⟩ := h
  rcases h2 with ⟨e, _⟩ | ⟨g', cap, cur, e, h3, h4, h5, h6, h7, h8⟩
  · cases e
  · cases e
    have e1 : cur.toList.take (k * 3) = cellsE (ps.take k) := by
      rw [← cellsE_take, ← h8, List.take_take]
      congr 1
      omega
    refine ⟨?_, .inr ⟨g, c, cur, rfl, h3, h4, by omega, h6, h7, e1⟩⟩
    rw [cellsE_len, List.length_take]
    rw [cellsE_len] at hl
    omega
/-- a Low stands ahead of a High at the same number -/
def lsE (a b : En) : Bool := if a.1 = b.1 then (!a.2 && b.2) else le7 a.1 b.1
theorem hidH {p : Prop} (h : p) : Hid p := h
theorem grown_drew {W W' : World} {row : Option Nat} (h : W.grownBy W' row) : W.grownBy W'.drew row := ⟨h.os, h.tape, h.output, h.size, h.block⟩

set_option maxHeartbeats 1000000 in
theorem iLenH_any (a : Option Addr) (n c : Nat) (w : World) :
    Calls Try.prog 68 #[.slice a n c] w fun e w' => e = .returned (.int .i64 n) ∧ w' = w := by
  go_enter Try.func68, Try.ntmps68
  go_wp2
  go_ret
  exact ⟨rfl, rfl⟩

set_option maxRecDepth 100000 in
set_option maxHeartbeats 4000000 in
theorem iSwapH_any (lo g c i k : Nat) (es : List En) (w : World) (h : w.ownsRow lo 50 3 (.slice (some ⟨g, 0, none⟩) es.length c) es.length (cellsE es)) (hi : i < es.length) (hk : k < es.length) :
    Calls Try.prog 70 #[.slice (some ⟨g, 0, none⟩) es.length c, .int .i64 i, .int .i64 k] w fun e w' => e = .returned (.tuple #[]) ∧ w'.ownsRow lo 50 3 (.slice (some ⟨g, 0, none⟩) es.length c) es.length (cellsE (Hp.swp ((0, 0), false) es i k)) ∧ w.grownBy w' (some g) := by
  obtain ⟨a1, a2, a3⟩ := own_E h rfl i hi
  obtain ⟨b1, b2, b3⟩ := own_E h rfl k hk
  have f1 := h.frozenAt (i * 3)
  have f2 := h.frozenAt (i * 3 + 1)
  have f3 := h.frozenAt (i * 3 + 2)
  have f4 := h.frozenAt (k * 3)
  have f5 := h.frozenAt (k * 3 + 1)
  have f6 := h.frozenAt (k * 3 + 2)
  have HW : Hid (Hp.swp ((0, 0), false) es i k = (es.set i (er es k)).set k (er es i)) := rfl
  obtain ⟨x, hx⟩ : ∃ x, x = er es i := ⟨_, rfl⟩
  obtain ⟨y, hy⟩ : ∃ y, y = er es k := ⟨_, rfl⟩
  rw [← hx] at a1 a2 a3 HW
  rw [← hy] at b1 b2 b3 HW
  have HXY : Hid (i = k → x = y) := by intro e; rw [hx, hy, e]
  clear hx hy
  obtain ⟨⟨x1, x2⟩, x3⟩ := x
  obtain ⟨⟨y1, y2⟩, y3⟩ := y
  have HO := hidH h
  clear h
  have HF : Hid (∀ W : World, W.ownsRow lo 50 3 (.slice (some ⟨g, 0, none⟩) es.length c) es.length (cellsE es) →
      ((((((W.setCell ⟨g, i * 3, none⟩ (.int .i64 y1)).setCell ⟨g, i * 3 + 1, none⟩ (.int .i64 y2)).setCell ⟨g, i * 3 + 2, none⟩ (.bool y3)).setCell ⟨g, k * 3, none⟩ (.int .i64 x1)).setCell ⟨g, k * 3 + 1, none⟩ (.int .i64 x2)).setCell ⟨g, k * 3 + 2, none⟩ (.bool x3)).ownsRow lo 50 3 (.slice (some ⟨g, 0, none⟩) es.length c) es.length (cellsE (Hp.swp ((0, 0), false) es i k)) ∧
      W.grownBy ((((((W.setCell ⟨g, i * 3, none⟩ (.int .i64 y1)).setCell ⟨g, i * 3 + 1, none⟩ (.int .i64 y2)).setCell ⟨g, i * 3 + 2, none⟩ (.bool y3)).setCell ⟨g, k * 3, none⟩ (.int .i64 x1)).setCell ⟨g, k * 3 + 1, none⟩ (.int .i64 x2)).setCell ⟨g, k * 3 + 2, none⟩ (.bool x3)) (some g)) := by
    intro W hW
    obtain ⟨p1, q1⟩ := own_setE hW rfl i hi y1 y2 y3
    obtain ⟨p2, q2⟩ := own_setE p1 (by rw [List.length_set]) k hk x1 x2 x3
    rw [HW.out]
    exact ⟨p2, q1.trans q2⟩
  dsimp only at a1 a2 a3 b1 b2 b3
  rcases Nat.lt_trichotomy i k with hik | hik | hik
  · go_enter Try.func70, Try.ntmps70
    go_region
    all_goals go_end0
    all_goals exact ⟨rfl, (HF.out w HO.out).1.drew, grown_drew (HF.out w HO.out).2⟩
  · subst hik
    have hxy := HXY.out rfl
    cases hxy
    go_enter Try.func70, Try.ntmps70
    go_region
    all_goals go_end0
    all_goals exact ⟨rfl, (HF.out w HO.out).1.drew, grown_drew (HF.out w HO.out).2⟩
  · go_enter Try.func70, Try.ntmps70
    go_region
    all_goals go_end0
    all_goals exact ⟨rfl, (HF.out w HO.out).1.drew, grown_drew (HF.out w HO.out).2⟩
end Go.Proofs.Ythfdpdnphnjebaa
