/- Tables of fractions in memory: what a walk reads of them, what a copy owns. -/
import Derived.Test.YtkcdpjcfbpjkeanRowsR
import Derived.Test.YtkcdpjcfbpjkeanCalcW
namespace Go.Proofs.Ytkcdpjcfbpjkean
open Go.RowKit Go.Proofs.Ytkcdpjcfbpjkean.RM

theorem infoF : (Try.prog.info? 32).map (fun i => (i.zero, i.size, i.bytes)) = some (some (.agg #[.int .i64 0, .int .i64 0]), 2, 16) := by kernel_rfl
theorem infoT : (Try.prog.info? 35).map (fun i => (i.zero, i.size, i.bytes)) = some (some (.slice none 0 0), 1, 24) := by kernel_rfl
/-- a row stays where another one of another type grows -/
theorem own_oth {W W' : World} {base base' e e' size size' n n' : Nat} {v v' : Value} {xs xs' : List Value} (h : W.ownsRow base e size v n xs) (h' : W.ownsRow base' e' size' v' n' xs') (hne : e ≠ e') (hg : W.grownBy W' v'.ownBlock) : W'.ownsRow base e size v n xs := by
  refine h.kept hg ?_
  rcases h.2 with ⟨rfl, _⟩ | ⟨g, cap, cur, rfl, _, hgb, _⟩
  · exact .inl rfl
  · refine .inr fun er => ?_
    rcases h'.2 with ⟨rfl, _⟩ | ⟨g', cap', cur', rfl, _, hgb', _⟩
    · simp [Value.ownBlock] at er
    · obtain rfl : g = g' := by simpa [Value.ownBlock] using er
      rw [hgb] at hgb'; injection hgb' with hc; injection hc with _ hc _
      exact hne hc
theorem cellsF_zeros (n : Nat) : cellsR (List.replicate n (0, 0)) = List.replicate (n * 2) (Value.int .i64 0) := by
  induction n with
  | zero => rfl
  | succ n ih => rw [List.replicate_succ, cellsR_cons, ih, show (n + 1) * 2 = n * 2 + 1 + 1 by omega, List.replicate_succ, List.replicate_succ]
theorem madeF (n : Nat) : (madeCells (Value.agg #[.int .i64 0, .int .i64 0]).cells (n * 2)).toList = cellsR (List.replicate n (0, 0)) := by
  rw [cellsF_zeros]
  apply List.ext_getElem?
  intro j
  by_cases hj : j < n * 2
  · simp [madeCells, hj, Value.cells]
    rcases Nat.mod_two_eq_zero_or_one j with e | e <;> rw [e] <;> rfl
  · simp [madeCells, hj]

abbrev Fr := Int × Int
/-- number j of a row; number i of a table; number i of a list of values -/
def fr (ps : List Fr) (j : Nat) : Fr := ps[j]?.getD (0, 0)
def rw' (rows : List (List Fr)) (i : Nat) : List Fr := rows[i]?.getD []
def vl (us : List Value) (i : Nat) : Value := us[i]?.getD (.slice none 0 0)

/-- a row that can be read: v is its slice -/
def RdR (W : World) (v : Value) (ps : List Fr) : Prop :=
  ∃ a c, v = .slice a ps.length c ∧ ps.length ≤ maxLen ∧ ps.length ≤ c ∧ c ≤ maxLen ∧ ∀ j, j < ps.length → ∃ b off, a = some ⟨b, off, none⟩ ∧ W.cell? ⟨b, off + j * 2, none⟩ = some (.int .i64 (fr ps j).1) ∧ W.cell? ⟨b, off + j * 2 + 1, none⟩ = some (.int .i64 (fr ps j).2)
/-- a table that can be read -/
def RdT (W : World) (v : Value) (rows : List (List Fr)) : Prop :=
  ∃ a c, v = .slice a rows.length c ∧ rows.length ≤ maxLen ∧ rows.length ≤ c ∧ c ≤ maxLen ∧ ∀ i, i < rows.length → ∃ b off u, a = some ⟨b, off, none⟩ ∧ W.cell? ⟨b, off + i, none⟩ = some u ∧ RdR W u (rw' rows i)
theorem cell_keep {W W' : World} (hb : Below W.heap.size W W') {b o : Nat} {v : Value} (h : W.cell? ⟨b, o, none⟩ = some v) : W'.cell? ⟨b, o, none⟩ = some v :=
  (hb.cell (p := ⟨b, o, none⟩) (World.block_lt_of_cell? W _ h)).trans h
theorem RdR.below {W W' : World} {v : Value} {ps : List Fr} (h : RdR W v ps) (hb : Below W.heap.size W W') : RdR W' v ps := by
  obtain ⟨a, c, h1, h2, h3, h4, h5⟩ := h
  refine ⟨a, c, h1, h2, h3, h4, fun j hj => ?_⟩
  obtain ⟨b, off, k1, k2, k3⟩ := h5 j hj
  exact ⟨b, off, k1, cell_keep hb k2, cell_keep hb k3⟩
theorem RdT.below {W W' : World} {v : Value} {rows : List (List Fr)} (h : RdT W v rows) (hb : Below W.heap.size W W') : RdT W' v rows := by
  obtain ⟨a, c, h1, h2, h3, h4, h5⟩ := h
  refine ⟨a, c, h1, h2, h3, h4, fun j hj => ?_⟩
  obtain ⟨b, off, u, k1, k2, k3⟩ := h5 j hj
  exact ⟨b, off, u, k1, cell_keep hb k2, k3.below hb⟩
theorem RdR.own {W : World} {base : Nat} {v : Value} {n : Nat} {ps : List Fr} (h : W.ownsRow base 32 2 v n (cellsR ps)) : RdR W v ps ∧ ps.length = n := by
  have hl : ps.length = n := by have := h.1; rw [cellsR_len] at this; omega
  subst hl
  refine ⟨?_, rfl⟩
  rcases h.2 with ⟨e, h0⟩ | ⟨g, c, cur, e, _, _, h1, h2, _⟩
  · refine ⟨none, 0, by rw [e, h0], by rw [h0]; exact Nat.zero_le _, by omega, Nat.zero_le _, fun j hj => by omega⟩
  · subst e
    refine ⟨_, c, rfl, by omega, h1, h2, fun j hj => ⟨g, 0, rfl, ?_⟩⟩
    have := own_R h rfl j hj
    simpa [fr] using this
/-- a table that lies in memory of its own, each row in a block of its own -/
structure Tab (W : World) (base : Nat) (v : Value) (us : List Value) (rows : List (List Fr)) : Prop where
  outer : W.ownsRow base 35 1 v us.length us
  len : us.length = rows.length
  inner : ∀ i, i < us.length → W.ownsRow base 32 2 (vl us i) (rw' rows i).length (cellsR (rw' rows i))
  apart : ∀ i j, i < us.length → j < us.length → i ≠ j → ∀ b, (vl us i).ownBlock = some b → (vl us j).ownBlock ≠ some b
theorem Tab.below {W W' : World} {base : Nat} {v : Value} {us : List Value} {rows : List (List Fr)} (h : Tab W base v us rows) (hb : Below W.heap.size W W') : Tab W' base v us rows :=
  ⟨own_below h.outer hb, h.len, fun i hi => own_below (h.inner i hi) hb, h.apart⟩
theorem Tab.le {W : World} {base base' : Nat} {v : Value} {us : List Value} {rows : List (List Fr)} (h : Tab W base v us rows) (hb : base' ≤ base) : Tab W base' v us rows :=
  ⟨own_le h.outer hb, h.len, fun i hi => own_le (h.inner i hi) hb, h.apart⟩
/-- what grows a block that none of it is in leaves it -/
theorem Tab.kept {W W' : World} {base : Nat} {v : Value} {us : List Value} {rows : List (List Fr)} {row : Option Nat} (h : Tab W base v us rows) (hg : W.grownBy W' row) (ho : ∀ k, row = some k → v.ownBlock ≠ some k) (hi : ∀ i, i < us.length → ∀ k, row = some k → (vl us i).ownBlock ≠ some k) : Tab W' base v us rows := by
  have aux : ∀ {u : Value}, (∀ k, row = some k → u.ownBlock ≠ some k) → u.ownBlock = none ∨ u.ownBlock ≠ row := by
    intro u hu
    cases hr : row with
    | none => by_cases k : u.ownBlock = none
              · exact .inl k
              · exact .inr k
    | some k => exact .inr (hu k hr)
  exact ⟨h.outer.kept hg (aux ho), h.len, fun i hi' => (h.inner i hi').kept hg (aux (hi i hi')), h.apart⟩
theorem own_type {W : World} {base e size n : Nat} {v : Value} {xs : List Value} (h : W.ownsRow base e size v n xs) {b : Nat} (hb : v.ownBlock = some b) : ∃ cs, W.heap[b]? = some (.cells cs e (0, 0)) := by
  rcases h.2 with ⟨rfl, _⟩ | ⟨g, cap, cur, rfl, _, hgb, _⟩
  · simp [Value.ownBlock] at hb
  · obtain rfl : g = b := by simpa [Value.ownBlock] using hb
    exact ⟨cur, hgb⟩
/-- rows of unlike types lie in unlike blocks -/
theorem own_unlike {W : World} {base base' e e' size size' n n' : Nat} {v v' : Value} {xs xs' : List Value} (h : W.ownsRow base e size v n xs) (h' : W.ownsRow base' e' size' v' n' xs') (hne : e ≠ e') {b : Nat} (hb : v.ownBlock = some b) : v'.ownBlock ≠ some b := by
  intro hb'
  obtain ⟨cs, h1⟩ := own_type h hb
  obtain ⟨cs', h2⟩ := own_type h' hb'
  rw [h1] at h2; injection h2 with hc; injection hc with _ hc _
  exact hne hc
theorem rw_set (rows : List (List Fr)) (k i : Nat) (r : List Fr) (hk : k < rows.length) : rw' (rows.set k r) i = if k = i then r else rw' rows i := by
  unfold rw'
  rw [List.getElem?_set]
  by_cases e : k = i
  · subst e; rw [if_pos rfl, if_pos rfl, if_pos hk]; rfl
  · rw [if_neg e, if_neg e]
theorem vl_set (us : List Value) (k i : Nat) (u : Value) (hk : k < us.length) : vl (us.set k u) i = if k = i then u else vl us i := by
  unfold vl
  rw [List.getElem?_set]
  by_cases e : k = i
  · subst e; rw [if_pos rfl, if_pos rfl, if_pos hk]; rfl
  · rw [if_neg e, if_neg e]
/-- a row that is apart is laid into the table -/
theorem Tab.put {W : World} {base g n c k : Nat} {us : List Value} {rows : List (List Fr)} {u : Value} {ps : List Fr} (h : Tab W base (.slice (some ⟨g, 0, none⟩) n c) us rows) (hk : k < us.length)
    (hu : W.ownsRow base 32 2 u ps.length (cellsR ps)) (ha : ∀ i, i < us.length → i ≠ k → ∀ b, (vl us i).ownBlock = some b → u.ownBlock ≠ some b) :
    Tab (W.setCell ⟨g, k, none⟩ u) base (.slice (some ⟨g, 0, none⟩) n c) (us.set k u) (rows.set k ps) := by
  have hn : us.length = n := by
    rcases h.outer.2 with ⟨e, _⟩ | ⟨g', c', cur, e, _⟩ <;> cases e; rfl
  subst hn
  obtain ⟨s1, s2⟩ := h.outer.stored k u
  have hout : (Value.slice (some ⟨g, 0, none⟩) us.length c).ownBlock = some g := rfl
  have keep : ∀ {m : Nat} {x : Value} {xs : List Value}, W.ownsRow base 32 2 x m xs → (W.setCell ⟨g, k, none⟩ u).ownsRow base 32 2 x m xs := fun hx => own_oth hx h.outer (by decide) s2
  refine ⟨by rw [List.length_set]; exact s1, by rw [List.length_set, List.length_set]; exact h.len, fun i hi => ?_, fun i j hi hj hne b hb => ?_⟩
  · rw [List.length_set] at hi
    rw [vl_set _ _ _ _ hk, rw_set _ _ _ _ (by rw [← h.len]; exact hk)]
    by_cases e : k = i
    · rw [if_pos e, if_pos e]; exact keep hu
    · rw [if_neg e, if_neg e]; exact keep (h.inner i hi)
  · rw [List.length_set] at hi hj
    rw [vl_set _ _ _ _ hk] at hb ⊢
    by_cases e : k = i
    · subst e
      rw [if_pos rfl] at hb
      rw [if_neg hne]
      intro h2
      exact ha j hj (fun e => hne e.symm) b h2 hb
    · rw [if_neg e] at hb
      by_cases e2 : k = j
      · rw [if_pos e2]; exact ha i hi (fun h => e h.symm) b hb
      · rw [if_neg e2]; exact h.apart i j hi hj hne b hb
/-- a row of the table is turned -/
theorem Tab.turn {W W' : World} {base k : Nat} {v : Value} {us : List Value} {rows : List (List Fr)} {ps : List Fr} (h : Tab W base v us rows) (hk : k < us.length)
    (hu : W'.ownsRow base 32 2 (vl us k) ps.length (cellsR ps)) (hg : W.grownBy W' (vl us k).ownBlock) : Tab W' base v us (rows.set k ps) := by
  refine ⟨own_oth h.outer (h.inner k hk) (by decide) hg, by rw [List.length_set]; exact h.len, fun i hi => ?_, h.apart⟩
  rw [rw_set _ _ _ _ (by rw [← h.len]; exact hk)]
  by_cases e : k = i
  · subst e; rw [if_pos rfl]; exact hu
  · rw [if_neg e]
    refine (h.inner i hi).kept hg ?_
    by_cases hn : (vl us i).ownBlock = none
    · exact .inl hn
    · obtain ⟨b, hb⟩ : ∃ b, (vl us i).ownBlock = some b := by
        cases hx : (vl us i).ownBlock with
        | none => exact absurd hx hn
        | some b => exact ⟨b, rfl⟩
      refine .inr ?_
      rw [hb]
      exact (h.apart i k hi hk (fun h => e h.symm) b hb).symm
theorem Tab.read {W : World} {base : Nat} {v : Value} {us : List Value} {rows : List (List Fr)} (h : Tab W base v us rows) : RdT W v rows := by
  have hl := h.len
  rcases h.outer.2 with ⟨e, h0⟩ | ⟨g, c, cur, e, _, _, h1, h2, _⟩
  · exact ⟨none, 0, by rw [e, ← hl, h0], by rw [← hl, h0]; exact Nat.zero_le _, by omega, Nat.zero_le _, fun j hj => by omega⟩
  · subst e
    refine ⟨_, c, by rw [hl], by omega, by omega, h2, fun i hi => ⟨g, 0, vl us i, rfl, ?_, (RdR.own (h.inner i (by omega))).1⟩⟩
    rw [Nat.zero_add, h.outer.cellAt i (by omega), List.getElem?_eq_getElem (by omega)]
    simp [vl, List.getElem?_eq_getElem (show i < us.length by omega)]
end Go.Proofs.Ytkcdpjcfbpjkean
