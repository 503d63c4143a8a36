/- Rows of spots: copied, held against each other, marked. -/
import Derived.Test.YtibncepllmjhhaaTabW4
import Derived.Test.YtibncepllmjhhaaRatioW4
import Derived.Test.YtibncepllmjhhaaUnitB
import Derived.Deep.RegionHeld3
import Derived.Deep.DeepCutAuto
namespace Go.Proofs.Ytibncepllmjhhaa
open Go.RowKit Go.Proofs.Ytibncepllmjhhaa.RM

abbrev Sp := Fr × Fr
def sp (ss : List Sp) (j : Nat) : Sp := ss[j]?.getD ((0, 0), (0, 0))
def cellsS (ss : List Sp) : List Value := ss.flatMap fun s => [Value.int .i64 s.1.1, .int .i64 s.1.2, .int .i64 s.2.1, .int .i64 s.2.2]
theorem cellsS_cons (s : Sp) (r : List Sp) : cellsS (s :: r) = Value.int .i64 s.1.1 :: .int .i64 s.1.2 :: .int .i64 s.2.1 :: .int .i64 s.2.2 :: cellsS r := rfl
theorem cellsS_append (a b : List Sp) : cellsS (a ++ b) = cellsS a ++ cellsS b := by simp [cellsS]
theorem cellsS_len (ss : List Sp) : (cellsS ss).length = ss.length * 4 := by
  induction ss with
  | nil => rfl
  | cons s r ih => rw [cellsS_cons]; simp [ih]; omega
theorem cellsS_at : ∀ (ss : List Sp) (j : Nat), j < ss.length → (cellsS ss)[j * 4]? = some (.int .i64 (sp ss j).1.1) ∧ (cellsS ss)[j * 4 + 1]? = some (.int .i64 (sp ss j).1.2) ∧ (cellsS ss)[j * 4 + 2]? = some (.int .i64 (sp ss j).2.1) ∧ (cellsS ss)[j * 4 + 3]? = some (.int .i64 (sp ss j).2.2)
  | [], j, h => by simp at h
  | s :: r, 0, _ => ⟨rfl, rfl, rfl, rfl⟩
  | s :: r, j + 1, h => by
    have ih := cellsS_at r j (by simpa using h)
    rw [cellsS_cons, show (j + 1) * 4 = j * 4 + 1 + 1 + 1 + 1 by omega]
    simpa [sp] using ih
theorem cellsS_set : ∀ (ss : List Sp) (j : Nat) (x1 x2 y1 y2 : Int), j < ss.length → ((((cellsS ss).set (j * 4) (.int .i64 x1)).set (j * 4 + 1) (.int .i64 x2)).set (j * 4 + 2) (.int .i64 y1)).set (j * 4 + 3) (.int .i64 y2) = cellsS (ss.set j ((x1, x2), (y1, y2)))
  | [], j, _, _, _, _, h => by simp at h
  | s :: r, 0, _, _, _, _, _ => rfl
  | s :: r, j + 1, x1, x2, y1, y2, h => by
    have ih := cellsS_set r j x1 x2 y1 y2 (by simpa using h)
    rw [cellsS_cons, show (j + 1) * 4 = j * 4 + 1 + 1 + 1 + 1 by omega]
    simp only [List.set_cons_succ]
    rw [ih]; rfl
theorem cellsS_zeros (n : Nat) : cellsS (List.replicate n ((0, 0), (0, 0))) = List.replicate (n * 4) (Value.int .i64 0) := by
  induction n with
  | zero => rfl
  | succ n ih => rw [List.replicate_succ, cellsS_cons, ih, show (n + 1) * 4 = n * 4 + 1 + 1 + 1 + 1 by omega, List.replicate_succ, List.replicate_succ, List.replicate_succ, List.replicate_succ]
theorem madeS (n : Nat) : (madeCells (Value.agg #[.int .i64 0, .int .i64 0, .int .i64 0, .int .i64 0]).cells (n * 4)).toList = cellsS (List.replicate n ((0, 0), (0, 0))) := by
  rw [cellsS_zeros]
  apply List.ext_getElem?
  intro j
  by_cases hj : j < n * 4
  · simp [madeCells, hj, Value.cells]
    have : j % 4 = 0 ∨ j % 4 = 1 ∨ j % 4 = 2 ∨ j % 4 = 3 := by omega
    rcases this with e | e | e | e <;> rw [e] <;> rfl
  · simp [madeCells, hj]
/-- a row of spots that can be read -/
def RdS (W : World) (v : Value) (ss : List Sp) : Prop :=
  ∃ a c, v = .slice a ss.length c ∧ ss.length ≤ maxLen ∧ ss.length ≤ c ∧ c ≤ maxLen ∧ ∀ j, j < ss.length → ∃ b off, a = some ⟨b, off, none⟩ ∧ W.cell? ⟨b, off + j * 4, none⟩ = some (.int .i64 (sp ss j).1.1) ∧ W.cell? ⟨b, off + j * 4 + 1, none⟩ = some (.int .i64 (sp ss j).1.2) ∧ W.cell? ⟨b, off + j * 4 + 2, none⟩ = some (.int .i64 (sp ss j).2.1) ∧ W.cell? ⟨b, off + j * 4 + 3, none⟩ = some (.int .i64 (sp ss j).2.2)
theorem RdS.below {W W' : World} {v : Value} {ss : List Sp} (h : RdS W v ss) (hb : Below W.heap.size W W') : RdS W' v ss := by
  obtain ⟨a, c, e, h1, h2, h3, h4⟩ := h
  refine ⟨a, c, e, h1, h2, h3, fun j hj => ?_⟩
  obtain ⟨b, off, e2, c1, c2, c3, c4⟩ := h4 j hj
  exact ⟨b, off, e2, cell_keep hb c1, cell_keep hb c2, cell_keep hb c3, cell_keep hb c4⟩
theorem infoS : (Try.prog.info? 51).map (fun i => (i.zero, i.size, i.bytes)) = some (some (.agg #[.int .i64 0, .int .i64 0, .int .i64 0, .int .i64 0]), 4, 32) := by kernel_rfl
theorem own_S {W : World} {base g n c : Nat} {ss : List Sp} (h : W.ownsRow base 51 4 (.slice (some ⟨g, 0, none⟩) n c) n (cellsS ss)) (hl : ss.length = n) (j : Nat) (hj : j < n) :
    W.cell? ⟨g, j * 4, none⟩ = some (.int .i64 (sp ss j).1.1) ∧ W.cell? ⟨g, j * 4 + 1, none⟩ = some (.int .i64 (sp ss j).1.2) ∧ W.cell? ⟨g, j * 4 + 2, none⟩ = some (.int .i64 (sp ss j).2.1) ∧ W.cell? ⟨g, j * 4 + 3, none⟩ = some (.int .i64 (sp ss j).2.2) := by
  have h1 := h.cellAt (j * 4) (by omega)
  have h2 := h.cellAt (j * 4 + 1) (by omega)
  have h3 := h.cellAt (j * 4 + 2) (by omega)
  have h4 := h.cellAt (j * 4 + 3) (by omega)
  have k := cellsS_at ss j (by omega)
  exact ⟨h1.trans k.1, h2.trans k.2.1, h3.trans k.2.2.1, h4.trans k.2.2.2⟩
theorem RdS.own {W : World} {base : Nat} {v : Value} {n : Nat} {ss : List Sp} (h : W.ownsRow base 51 4 v n (cellsS ss)) : RdS W v ss ∧ ss.length = n := by
  have hl : ss.length = n := by have := h.1; rw [cellsS_len] at this; omega
  subst hl
  refine ⟨?_, rfl⟩
  rcases h.2 with ⟨e, h0⟩ | ⟨g, c, cur, e, _, _, h1, h2, _⟩
  · refine ⟨none, 0, by rw [e, h0], by rw [h0]; exact Nat.zero_le _, by omega, Nat.zero_le _, fun j hj => by omega⟩
  · subst e
    refine ⟨_, c, rfl, by omega, h1, h2, fun j hj => ⟨g, 0, rfl, ?_⟩⟩
    have := own_S h rfl j hj
    simpa using this
theorem own_setS {W : World} {base g n c : Nat} {ss : List Sp} (h : W.ownsRow base 51 4 (.slice (some ⟨g, 0, none⟩) n c) n (cellsS ss)) (hl : ss.length = n) (k : Nat) (hk : k < n) (x1 x2 y1 y2 : Int) :
    ((((W.setCell ⟨g, k * 4, none⟩ (.int .i64 x1)).setCell ⟨g, k * 4 + 1, none⟩ (.int .i64 x2)).setCell ⟨g, k * 4 + 2, none⟩ (.int .i64 y1)).setCell ⟨g, k * 4 + 3, none⟩ (.int .i64 y2)).ownsRow base 51 4 (.slice (some ⟨g, 0, none⟩) n c) n (cellsS (ss.set k ((x1, x2), (y1, y2)))) ∧
    W.grownBy ((((W.setCell ⟨g, k * 4, none⟩ (.int .i64 x1)).setCell ⟨g, k * 4 + 1, none⟩ (.int .i64 x2)).setCell ⟨g, k * 4 + 2, none⟩ (.int .i64 y1)).setCell ⟨g, k * 4 + 3, none⟩ (.int .i64 y2)) (some g) := by
  obtain ⟨p1, q1⟩ := h.stored (k * 4) (.int .i64 x1)
  obtain ⟨p2, q2⟩ := p1.stored (k * 4 + 1) (.int .i64 x2)
  obtain ⟨p3, q3⟩ := p2.stored (k * 4 + 2) (.int .i64 y1)
  obtain ⟨p4, q4⟩ := p3.stored (k * 4 + 3) (.int .i64 y2)
  rw [cellsS_set _ _ _ _ _ _ (by rw [hl]; exact hk)] at p4
  exact ⟨p4, ((q1.trans q2).trans q3).trans q4⟩
/-- copied up to number k -/
def cpyS (ss : List Sp) (k : Nat) : List Sp := (List.range ss.length).map (fun i => if i < k then sp ss i else ((0, 0), (0, 0)))
theorem cpyS_len (ss : List Sp) (k : Nat) : (cpyS ss k).length = ss.length := by simp [cpyS]
theorem cpyS_zero (ss : List Sp) : cpyS ss 0 = List.replicate ss.length ((0, 0), (0, 0)) := by
  apply List.ext_getElem
  · simp [cpyS]
  · intro i h1 h2
    simp [cpyS]
theorem cpyS_all (ss : List Sp) : cpyS ss ss.length = ss := by
  apply List.ext_getElem
  · rw [cpyS_len]
  · intro i h1 h2
    simp [cpyS, sp, h2]
theorem cpyS_set (ss : List Sp) (k : Nat) : (cpyS ss k).set k (sp ss k) = cpyS ss (k + 1) := by
  apply List.ext_getElem
  · simp [cpyS]
  · intro i h1 h2
    simp only [cpyS, List.getElem_set, List.getElem_map, List.getElem_range]
    by_cases e : k = i
    · subst e
      rw [if_pos rfl, if_pos (by omega)]
    · rw [if_neg e]
      by_cases h3 : i < k
      · rw [if_pos h3, if_pos (by omega)]
      · rw [if_neg h3, if_neg (by omega)]
def mkS (k0 : Int) (ss : List Sp) (j : Nat) : List Sp := (List.range ss.length).map (fun i => if i < j then ((k0 + 4 * (i : Int), k0 + 4 * (i : Int) + 1), (k0 + 4 * (i : Int) + 2, k0 + 4 * (i : Int) + 3)) else sp ss i)
theorem mkS_len (k0 : Int) (ss : List Sp) (j : Nat) : (mkS k0 ss j).length = ss.length := by simp [mkS]
theorem mkS_zero (k0 : Int) (ss : List Sp) : mkS k0 ss 0 = ss := by
  apply List.ext_getElem
  · rw [mkS_len]
  · intro i h1 h2
    simp [mkS, sp, List.getElem?_eq_getElem h2]
theorem mkS_set (k0 : Int) (ss : List Sp) (j : Nat) : (mkS k0 ss j).set j ((k0 + 4 * (j : Int), k0 + 4 * (j : Int) + 1), (k0 + 4 * (j : Int) + 2, k0 + 4 * (j : Int) + 3)) = mkS k0 ss (j + 1) := by
  apply List.ext_getElem
  · simp [mkS]
  · intro i h1 h2
    simp only [mkS, List.getElem_set, List.getElem_map, List.getElem_range]
    by_cases e : j = i
    · subst e
      rw [if_pos rfl, if_pos (by omega)]
    · rw [if_neg e]
      by_cases h3 : i < j
      · rw [if_pos h3, if_pos (by omega)]
      · rw [if_neg h3, if_neg (by omega)]
theorem mkS_at (k0 : Int) (ss : List Sp) (j : Nat) (h : j < ss.length) : sp (mkS k0 ss ss.length) j = ((k0 + 4 * (j : Int), k0 + 4 * (j : Int) + 1), (k0 + 4 * (j : Int) + 2, k0 + 4 * (j : Int) + 3)) := by
  simp [mkS, sp, h]
theorem b0S (u : World) (x : Obj) : Below u.heap.size u (u.alloc x) := (Below.refl _ _).alloc (Nat.le_refl _) x
theorem IsB.s4 {W : World} {B : Nat} {a0 a1 a2 a3 : Value} {t : TypeId} (h : IsB W B #[a0, a1, a2, a3] t) : W.cell? ⟨B, 0, none⟩ = some a0 ∧ W.cell? ⟨B, 1, none⟩ = some a1 ∧ W.cell? ⟨B, 2, none⟩ = some a2 ∧ W.cell? ⟨B, 3, none⟩ = some a3 :=
  ⟨h.cell 0 rfl, h.cell 1 rfl, h.cell 2 rfl, h.cell 3 rfl⟩
theorem IsB.sf4 {W : World} {B : Nat} {vs : Array Value} {t : TypeId} (h : IsB W B vs t) : W.frozen? ⟨B, 0, none⟩ = false ∧ W.frozen? ⟨B, 1, none⟩ = false ∧ W.frozen? ⟨B, 2, none⟩ = false ∧ W.frozen? ⟨B, 3, none⟩ = false := ⟨h.frozen 0, h.frozen 1, h.frozen 2, h.frozen 3⟩
theorem IsB.sLo {W : World} {B : Nat} {a0 a1 a2 a3 : Value} {t : TypeId} (h : IsB W B #[a0, a1, a2, a3] t) (b0 b1 : Value) : IsB ((W.setCell ⟨B, 0, none⟩ b0).setCell ⟨B, 1, none⟩ b1) B #[b0, b1, a2, a3] t := (h.set 0 b0).set 1 b1
theorem IsB.sHi {W : World} {B : Nat} {a0 a1 a2 a3 : Value} {t : TypeId} (h : IsB W B #[a0, a1, a2, a3] t) (b0 b1 : Value) : IsB ((W.setCell ⟨B, 2, none⟩ b0).setCell ⟨B, 3, none⟩ b1) B #[a0, a1, b0, b1] t := (h.set 2 b0).set 3 b1
theorem IsB.sAll {W : World} {B : Nat} {a0 a1 a2 a3 : Value} {t : TypeId} (h : IsB W B #[a0, a1, a2, a3] t) (b0 b1 b2 b3 : Value) : IsB ((((W.setCell ⟨B, 0, none⟩ b0).setCell ⟨B, 1, none⟩ b1).setCell ⟨B, 2, none⟩ b2).setCell ⟨B, 3, none⟩ b3) B #[b0, b1, b2, b3] t := (((h.set 0 b0).set 1 b1).set 2 b2).set 3 b3
theorem below_sAll {K B : Nat} {w W : World} (h : Below K w W) (hB : K ≤ B) (b0 b1 b2 b3 : Value) : Below K w ((((W.setCell ⟨B, 0, none⟩ b0).setCell ⟨B, 1, none⟩ b1).setCell ⟨B, 2, none⟩ b2).setCell ⟨B, 3, none⟩ b3) :=
  (((h.setCell (p := ⟨B, 0, none⟩) hB b0).setCell (p := ⟨B, 1, none⟩) hB b1).setCell (p := ⟨B, 2, none⟩) hB b2).setCell (p := ⟨B, 3, none⟩) hB b3
theorem IsB.n2 (W : World) (o : Obj) (vs : Array Value) (t : TypeId) : IsB ((W.alloc o).alloc (.cells vs t)) (W.heap.size + 1) vs t := by
  have := IsB.new (W.alloc o) vs t
  simpa using this
theorem IsB.n3 (W : World) (o p : Obj) (vs : Array Value) (t : TypeId) : IsB (((W.alloc o).alloc p).alloc (.cells vs t)) (W.heap.size + 1 + 1) vs t := by
  have := IsB.new ((W.alloc o).alloc p) vs t
  simpa using this

set_option maxHeartbeats 1600000 in
theorem toSp_any (a b c d : Int) (w : World) :
    Calls Try.prog 30 #[.agg #[.int .i64 a, .int .i64 b, .int .i64 c, .int .i64 d]] w fun e w' => e = .returned (.agg #[.int .i64 a, .int .i64 b, .int .i64 c, .int .i64 d]) ∧ Below w.heap.size w w' := by
  have H1 := hidU (fun W => to_any a b W)
  have H2 := hidU (fun W => to_any c d W)
  go_enter Try.func30, Try.ntmps30
  go_wp2_with fail
  refine (H1.out _).mono ?_
  rintro e w1 ⟨rfl, hb⟩
  obtain ⟨P, hP⟩ : ∃ P, P = w.heap.size := ⟨_, rfl⟩
  have k0 : IsB w1 P #[.int .i64 a, .int .i64 b, .int .i64 c, .int .i64 d] 54 := by rw [hP]; exact ((IsB.new w _ _).below ((b0S _ _).alloc (by simp) _)).below hb
  have k1 : IsB w1 (P + 1) #[.int .i64 0, .int .i64 0, .int .i64 0, .int .i64 0] 51 := by rw [hP]; exact ((IsB.n2 w _ _ _).below (b0S _ _)).below hb
  have k2 : IsB w1 (P + 1 + 1) #[.int .i64 0, .int .i64 0, .int .i64 0, .int .i64 0] 51 := by rw [hP]; exact (IsB.n3 w _ _ _ _).below hb
  have HB : Hid (Below w.heap.size w w1) := (((b0S w _).alloc (by simp) _).alloc (by simp <;> omega) _).trans (hb.mono (by simp <;> omega))
  rw [← hP]
  have HPw : Hid (w.heap.size ≤ P) := by show _ ≤ _; omega
  clear hb hP
  obtain ⟨R, hR⟩ : ∃ R, R = P + 1 := ⟨_, rfl⟩
  obtain ⟨T, hT⟩ : ∃ T, T = P + 1 + 1 := ⟨_, rfl⟩
  rw [← hT] at k2 ⊢
  rw [← hR] at k1 ⊢
  have HNE : Hid (P ≠ T ∧ R ≠ T ∧ w.heap.size ≤ R ∧ w.heap.size ≤ T) := by have := HPw.out; show _ ∧ _; omega
  clear hR hT
  obtain ⟨n1, n2, n3, n4⟩ := HNE.out
  obtain ⟨z0, z1, z2, z3⟩ := k2.s4
  obtain ⟨f0, f1, f2, f3⟩ := k2.sf4
  go_upto_region 3 with fail
  have k3 : Hid (IsB ((w1.setCell ⟨T, 0, none⟩ (.int .i64 a)).setCell ⟨T, 1, none⟩ (.int .i64 b)) T #[.int .i64 a, .int .i64 b, .int .i64 0, .int .i64 0] 51) := k2.sLo _ _
  have K0 : Hid (IsB ((w1.setCell ⟨T, 0, none⟩ (.int .i64 a)).setCell ⟨T, 1, none⟩ (.int .i64 b)) P #[.int .i64 a, .int .i64 b, .int .i64 c, .int .i64 d] 54) := (k0.other n1 0 _).other n1 1 _
  have K1 : Hid (IsB ((w1.setCell ⟨T, 0, none⟩ (.int .i64 a)).setCell ⟨T, 1, none⟩ (.int .i64 b)) R #[.int .i64 0, .int .i64 0, .int .i64 0, .int .i64 0] 51) := (k1.other n2 0 _).other n2 1 _
  replace HB : Hid (Below w.heap.size w ((w1.setCell ⟨T, 0, none⟩ (.int .i64 a)).setCell ⟨T, 1, none⟩ (.int .i64 b))) := (HB.out.setCell (p := ⟨T, 0, none⟩) n4 _).setCell (p := ⟨T, 1, none⟩) n4 _
  obtain ⟨w2, hw⟩ : ∃ Y, Y = (w1.setCell ⟨T, 0, none⟩ (.int .i64 a)).setCell ⟨T, 1, none⟩ (.int .i64 b) := ⟨_, rfl⟩
  rw [← hw] at k3 K0 K1 HB ⊢
  clear hw z0 z1 z2 z3 f0 f1 f2 f3 k0 k1 k2 n1 n2 n3 n4
  obtain ⟨z0, z1, z2, z3⟩ := K0.out.s4
  go_wp2_with fail
  refine (H2.out _).mono ?_
  rintro e w3 ⟨rfl, hb⟩
  replace k3 := hidU (k3.out.below hb)
  replace K1 := hidU (K1.out.below hb)
  replace HB := hidU (HB.out.trans (hb.mono HB.out.size))
  clear hb z0 z1 z2 z3
  obtain ⟨n1, n2, n3, n4⟩ := HNE.out
  obtain ⟨z0, z1, z2, z3⟩ := k3.out.s4
  obtain ⟨f0, f1, f2, f3⟩ := k3.out.sf4
  go_upto_region 4 with fail
  have k4 : Hid (IsB ((w3.setCell ⟨T, 2, none⟩ (.int .i64 c)).setCell ⟨T, 3, none⟩ (.int .i64 d)) T #[.int .i64 a, .int .i64 b, .int .i64 c, .int .i64 d] 51) := k3.out.sHi _ _
  have K2 : Hid (IsB ((w3.setCell ⟨T, 2, none⟩ (.int .i64 c)).setCell ⟨T, 3, none⟩ (.int .i64 d)) R #[.int .i64 0, .int .i64 0, .int .i64 0, .int .i64 0] 51) := (K1.out.other n2 2 _).other n2 3 _
  replace HB : Hid (Below w.heap.size w ((w3.setCell ⟨T, 2, none⟩ (.int .i64 c)).setCell ⟨T, 3, none⟩ (.int .i64 d))) := (HB.out.setCell (p := ⟨T, 2, none⟩) n4 _).setCell (p := ⟨T, 3, none⟩) n4 _
  obtain ⟨w4, hw⟩ : ∃ Y, Y = (w3.setCell ⟨T, 2, none⟩ (.int .i64 c)).setCell ⟨T, 3, none⟩ (.int .i64 d) := ⟨_, rfl⟩
  rw [← hw] at k4 K2 HB ⊢
  clear hw z0 z1 z2 z3 f0 f1 f2 f3 k3 K0 K1 n1 n2 n3 n4
  obtain ⟨z0, z1, z2, z3⟩ := k4.out.s4
  obtain ⟨y0, y1, y2, y3⟩ := K2.out.s4
  obtain ⟨f0, f1, f2, f3⟩ := K2.out.sf4
  go_wp2
  obtain ⟨q0, q1, q2, q3⟩ := (K2.out.sAll (.int .i64 a) (.int .i64 b) (.int .i64 c) (.int .i64 d)).s4
  exact bodyPost_ret (v := .agg #[.int .i64 a, .int .i64 b, .int .i64 c, .int .i64 d]) (by simp [results, Try.results30, go_sem, q0, q1, q2, q3]) rfl ⟨rfl, below_sAll HB.out HNE.out.2.2.1 _ _ _ _⟩


set_option maxHeartbeats 800000 in
theorem eqSp_same (a b c d : Int) (w : World) :
    Calls Try.prog 32 #[.agg #[.int .i64 a, .int .i64 b, .int .i64 c, .int .i64 d], .agg #[.int .i64 a, .int .i64 b, .int .i64 c, .int .i64 d]] w fun e w' => e = .returned (.bool true) ∧ Below w.heap.size w w' := by
  have H1 := hidU (fun W => eq_same a b W)
  have H2 := hidU (fun W => eq_same c d W)
  go_enter Try.func32, Try.ntmps32
  go_wp2_with fail
  refine (H1.out _).mono ?_
  rintro e w1 ⟨rfl, hb⟩
  obtain ⟨P, hP⟩ : ∃ P, P = w.heap.size := ⟨_, rfl⟩
  have k0 : IsB w1 P #[.int .i64 a, .int .i64 b, .int .i64 c, .int .i64 d] 51 := by rw [hP]; exact ((IsB.new w _ _).below (b0S _ _)).below hb
  have k1 : IsB w1 (P + 1) #[.int .i64 a, .int .i64 b, .int .i64 c, .int .i64 d] 51 := by rw [hP]; exact (IsB.n2 w _ _ _).below hb
  have HB : Hid (Below w.heap.size w w1) := ((b0S w _).alloc (by simp) _).trans (hb.mono (by simp <;> omega))
  rw [← hP]
  clear hb hP
  obtain ⟨z0, z1, z2, z3⟩ := k0.s4
  obtain ⟨y0, y1, y2, y3⟩ := k1.s4
  go_wp2_with fail
  refine (H2.out _).mono ?_
  rintro e w2 ⟨rfl, hb⟩
  replace HB := hidU (HB.out.trans (hb.mono HB.out.size))
  clear hb z0 z1 z2 z3 y0 y1 y2 y3 k0 k1
  go_wp2
  go_ret
  exact ⟨rfl, HB.out⟩

theorem szSp_any (v : Value) (ss : List Sp) (left : Int) (w : World) (h : RdS w v ss) (h0 : 0 ≤ left) (h1 : left ≤ 1048576) :
    Calls Try.prog 8 #[v, .int .i64 left] w fun e w' => e = .returned (.int .i64 (if left - ss.length < 0 then -1 else left - ss.length)) ∧ w' = w := by
  obtain ⟨a, c, rfl, h2, _⟩ := h
  unfold maxLen at h2
  by_cases hs : left - (ss.length : Int) < 0
  · rw [if_pos hs]
    go_enter Try.func8, Try.ntmps8
    go_wp2
    go_ret
    exact ⟨rfl, rfl⟩
  · rw [if_neg hs]
    go_enter Try.func8, Try.ntmps8
    go_wp2
    go_ret
    exact ⟨rfl, rfl⟩

set_option maxRecDepth 100000 in
set_option maxHeartbeats 2000000 in
theorem toSpS_any (v : Value) (ss : List Sp) (w : World) (h : RdS w v ss) (hl : ss.length ≤ 1048576) :
    Calls Try.prog 10 #[v] w fun e w' => ∃ u, e = .returned u ∧ w'.ownsRow w.heap.size 51 4 u ss.length (cellsS ss) ∧ Below w.heap.size w w' := by
  obtain ⟨i0, hi, hz0, hz1, hz2⟩ := info_parts infoS
  obtain ⟨a, c, rfl, h2, h3, h4, h5⟩ := h
  have H5 : Hid (∀ j, j < ss.length → ∃ b off, a = some ⟨b, off, none⟩ ∧ w.cell? ⟨b, off + j * 4, none⟩ = some (.int .i64 (sp ss j).1.1) ∧ w.cell? ⟨b, off + j * 4 + 1, none⟩ = some (.int .i64 (sp ss j).1.2) ∧ w.cell? ⟨b, off + j * 4 + 2, none⟩ = some (.int .i64 (sp ss j).2.1) ∧ w.cell? ⟨b, off + j * 4 + 3, none⟩ = some (.int .i64 (sp ss j).2.2)) := h5
  clear h5 h2 h3 h4
  go_enter Try.func10, Try.ntmps10
  go_wp2_with (at_make; refine wpList_make_full _ rfl _ _ 25 rfl w.heap.size 51 i0 (.agg #[.int .i64 0, .int .i64 0, .int .i64 0, .int .i64 0]) 4 Try.underlying25 hi hz0 hz1 .i64 .i64 _ _ ss.length rfl rfl rfl rfl (by rw [hz2]; omega) (by unfold maxLen; omega) (Nat.le_refl _) ?_; intro w1 hown hgrow)
  have o0 : w1.ownsRow w.heap.size 51 4 (.slice (some ⟨w.heap.size, 0, none⟩) ss.length ss.length) ss.length (cellsS (cpyS ss 0)) := by
    rw [cpyS_zero, ← madeS]; exact hown
  have hB0 : Below w.heap.size w w1 := (Below.refl _ w).grown hgrow (Nat.le_refl _) (fun k e => by cases e)
  obtain ⟨G, hG⟩ : ∃ G, G = w.heap.size := ⟨_, rfl⟩
  have hwG : w.heap.size ≤ G := by omega
  rw [← hG]
  rw [← hG] at o0
  clear hown hgrow hG
  go_loopw [4] (fun i wr => ∃ k : Nat, k ≤ ss.length ∧ i = .int .i64 k ∧ Hid (wr.ownsRow G 51 4 (.slice (some ⟨G, 0, none⟩) ss.length ss.length) ss.length (cellsS (cpyS ss k))) ∧ Hid (Below w.heap.size w wr)) (fun i _ => ss.length - (intOf i).toNat)
  case atStart => exact ⟨0, Nat.zero_le _, rfl, o0, hB0⟩
  case round =>
    clear o0 hB0
    obtain ⟨k, hk, rfl, hO, hB⟩ := hrel
    by_cases hlt : k < ss.length
    · obtain ⟨b, off, rfl, c1, c2, c3, c4⟩ := H5.out k hlt
      replace c1 := cell_keep hB.out c1
      replace c2 := cell_keep hB.out c2
      replace c3 := cell_keep hB.out c3
      replace c4 := cell_keep hB.out c4
      obtain ⟨p, hp⟩ : ∃ p, p = sp ss k := ⟨_, rfl⟩
      have HP : Hid (p = sp ss k) := hp
      rw [← hp] at c1 c2 c3 c4
      obtain ⟨⟨x1, x2⟩, y1, y2⟩ := p
      dsimp only at c1 c2 c3 c4
      have hsz := hB.out.size
      clear hp
      go_wp2_with (go_at_call 30; refine (toSp_any x1 x2 y1 y2 _).mono ?_; rintro e w2 ⟨rfl, hb2⟩; have hO2 := own_below hO.out hb2; have hB2 := hB.out.trans (hb2.mono hsz); obtain ⟨d1, d2, d3, d4⟩ := own_S hO2 (cpyS_len _ _) k hlt; have f1 := hO2.frozenAt (k * 4); have f2 := hO2.frozenAt (k * 4 + 1); have f3 := hO2.frozenAt (k * 4 + 2); have f4 := hO2.frozenAt (k * 4 + 3))
      go_roundw
      case rel =>
        obtain ⟨s3, g3⟩ := own_setS hO2 (cpyS_len _ _) k hlt x1 x2 y1 y2
        rw [show (((x1, x2), (y1, y2)) : Sp) = sp ss k from HP.out, cpyS_set] at s3
        exact ⟨k + 1, by omega, by go_num, s3, hB2.grown g3 hB2.size (fun j e => by cases e; exact hwG)⟩
      case measure => simp [intOf]; omega
    · obtain rfl : k = ss.length := by omega
      go_wp2
      refine bodyPost_ret (results_tmp rfl _ _ _) rfl ⟨_, rfl, ?_, hB.out⟩
      have := hO.out
      rw [cpyS_all] at this
      exact own_le this hwG

set_option maxRecDepth 100000 in
set_option maxHeartbeats 1000000 in
theorem eqSpS_any (v u : Value) (ss : List Sp) (w : World) (h : RdS w v ss) (h' : RdS w u ss) :
    Calls Try.prog 12 #[v, u] w fun e w' => e = .returned (.bool true) ∧ Below w.heap.size w w' := by
  obtain ⟨a, c, rfl, h2, h3, h4, h5⟩ := h
  obtain ⟨a', c', rfl, _, _, _, h5'⟩ := h'
  have H5 : Hid (∀ j, j < ss.length → ∃ b off, a = some ⟨b, off, none⟩ ∧ w.cell? ⟨b, off + j * 4, none⟩ = some (.int .i64 (sp ss j).1.1) ∧ w.cell? ⟨b, off + j * 4 + 1, none⟩ = some (.int .i64 (sp ss j).1.2) ∧ w.cell? ⟨b, off + j * 4 + 2, none⟩ = some (.int .i64 (sp ss j).2.1) ∧ w.cell? ⟨b, off + j * 4 + 3, none⟩ = some (.int .i64 (sp ss j).2.2)) := h5
  have H6 : Hid (∀ j, j < ss.length → ∃ b off, a' = some ⟨b, off, none⟩ ∧ w.cell? ⟨b, off + j * 4, none⟩ = some (.int .i64 (sp ss j).1.1) ∧ w.cell? ⟨b, off + j * 4 + 1, none⟩ = some (.int .i64 (sp ss j).1.2) ∧ w.cell? ⟨b, off + j * 4 + 2, none⟩ = some (.int .i64 (sp ss j).2.1) ∧ w.cell? ⟨b, off + j * 4 + 3, none⟩ = some (.int .i64 (sp ss j).2.2)) := h5'
  unfold maxLen at h2
  clear h5 h5' h3 h4
  go_enter Try.func12, Try.ntmps12
  go_wp2
  go_loopw [5] (fun i wr => ∃ k : Nat, k ≤ ss.length ∧ i = .int .i64 k ∧ Hid (Below w.heap.size w wr)) (fun i _ => ss.length - (intOf i).toNat)
  case atStart => exact ⟨0, Nat.zero_le _, rfl, Below.refl _ _⟩
  case round =>
    obtain ⟨k, hk, rfl, hB⟩ := hrel
    by_cases hlt : k < ss.length
    · obtain ⟨b, off, rfl, c1, c2, c3, c4⟩ := H5.out k hlt
      obtain ⟨b', off', rfl, d1, d2, d3, d4⟩ := H6.out k hlt
      replace c1 := cell_keep hB.out c1
      replace c2 := cell_keep hB.out c2
      replace c3 := cell_keep hB.out c3
      replace c4 := cell_keep hB.out c4
      replace d1 := cell_keep hB.out d1
      replace d2 := cell_keep hB.out d2
      replace d3 := cell_keep hB.out d3
      replace d4 := cell_keep hB.out d4
      obtain ⟨p, hp⟩ : ∃ p, p = sp ss k := ⟨_, rfl⟩
      rw [← hp] at c1 c2 c3 c4 d1 d2 d3 d4
      obtain ⟨⟨x1, x2⟩, y1, y2⟩ := p
      dsimp only at c1 c2 c3 c4 d1 d2 d3 d4
      clear hp
      go_wp2
      go_region_with (go_at_call 32; refine (eqSp_same _ _ _ _ _).mono ?_; rintro e w1 ⟨rfl, hb⟩; have B1 : Below w.heap.size w w1 := Below.trans (by first | exact hB.out | exact hB.out.drew | exact below_drewN hB.out _) (hb.mono (by simpa using hB.out.size)))
      all_goals go_wp2
      all_goals
        go_roundw
        case rel => exact ⟨k + 1, by omega, by go_num, B1⟩
        case measure => simp [intOf]; omega
    · go_wp2
      go_ret
      exact ⟨rfl, hB.out⟩

set_option maxRecDepth 100000 in
set_option maxHeartbeats 2000000 in
theorem markSp_any (v : Value) (ss : List Sp) (base : Nat) (k0 : Int) (w : World) (hn2 : ss.length ≤ 1048576) (hk0 : 0 ≤ k0) (hk1 : k0 ≤ 4000000000000000) (h1 : w.ownsRow base 51 4 v ss.length (cellsS ss)) :
    Calls Try.prog 24 #[v, .int .i64 k0] w fun e w' => e = .returned (.int .i64 (k0 + 4 * (ss.length : Int))) ∧ w'.ownsRow base 51 4 v ss.length (cellsS (mkS k0 ss ss.length)) ∧ w.grownBy w' v.ownBlock := by
  by_cases h0 : ss.length = 0
  · obtain ⟨a, c, rfl⟩ := own_shape h1
    obtain rfl : ss = [] := List.eq_nil_of_length_eq_zero h0
    have H1 : Hid (w.ownsRow base 51 4 (.slice a 0 c) 0 []) := h1
    clear h1 h0
    go_enter Try.func24, Try.ntmps24
    go_wp2
    go_loop [1, 5] (fun q i => q = .int .i64 k0 ∧ i = .int .i64 0) (fun _ _ => 0)
    case atStart => exact ⟨rfl, rfl⟩
    case round =>
      obtain ⟨rfl, rfl⟩ := hrel
      go_wp2
      go_ret
      exact ⟨by simp, H1.out, (grown_of_below (Below.refl _ _)).but _⟩
  · obtain ⟨g, c, rfl⟩ := own_some h1 (by omega)
    obtain ⟨n, hn⟩ : ∃ n, n = ss.length := ⟨_, rfl⟩
    rw [← hn] at h1 hn2 h0 ⊢
    have H1 : Hid (w.ownsRow base 51 4 (.slice (some ⟨g, 0, none⟩) n c) n (cellsS ss)) := h1
    have HN : Hid (ss.length = n) := hn.symm
    clear h1 h0 hn
    go_enter Try.func24, Try.ntmps24
    go_wp2
    go_loopw [1, 5] (fun q i wr => ∃ k : Nat, k ≤ n ∧ i = .int .i64 k ∧ q = .int .i64 (k0 + 4 * (k : Int)) ∧ Hid (wr.ownsRow base 51 4 (.slice (some ⟨g, 0, none⟩) n c) n (cellsS (mkS k0 ss k)) ∧ w.grownBy wr (some g))) (fun _ i _ => n - (intOf i).toNat)
    case atStart => exact ⟨0, Nat.zero_le _, rfl, by simp, by rw [mkS_zero]; exact H1.out, (grown_of_below (Below.refl _ _)).but _⟩
    case round =>
      obtain ⟨k, hk, rfl, rfl, hw⟩ := hrel
      by_cases hlt : k < n
      · have hx := hw.out.1
        obtain ⟨c1, c2, c3, c4⟩ := own_S hx (by rw [mkS_len]; exact HN.out) k hlt
        have f1 := hx.frozenAt (k * 4)
        have f2 := hx.frozenAt (k * 4 + 1)
        have f3 := hx.frozenAt (k * 4 + 2)
        have f4 := hx.frozenAt (k * 4 + 3)
        generalize (sp (mkS k0 ss k) k).1.1 = x1 at c1
        generalize (sp (mkS k0 ss k) k).1.2 = x2 at c2
        generalize (sp (mkS k0 ss k) k).2.1 = x3 at c3
        generalize (sp (mkS k0 ss k) k).2.2 = x4 at c4
        clear hx
        go_wp2
        go_roundw
        case rel =>
          obtain ⟨s3, s4⟩ := own_setS hw.out.1 (by rw [mkS_len]; exact HN.out) k hlt (k0 + 4 * (k : Int)) (k0 + 4 * (k : Int) + 1) (k0 + 4 * (k : Int) + 2) (k0 + 4 * (k : Int) + 3)
          rw [mkS_set] at s3
          refine ⟨k + 1, by omega, by go_num, by go_num, ?_, hw.out.2.trans ?_⟩
          · simpa [Int.add_assoc] using s3
          · simpa [Int.add_assoc] using s4
        case measure => simp [intOf]; omega
      · obtain rfl : k = n := by omega
        go_wp2
        go_ret
        exact ⟨rfl, hw.out.1, hw.out.2⟩
end Go.Proofs.Ytibncepllmjhhaa
