/- Tables of fractions in memory: what a walk reads of them, what a copy owns. -/
import Derived.Test.YthfdpdnphnjebaaRowsR
import Derived.Test.YthfdpdnphnjebaaCalcW
namespace Go.Proofs.Ythfdpdnphnjebaa
open Go.RowKit Go.Proofs.Ythfdpdnphnjebaa.RM

theorem infoF : (Try.prog.info? 27).map (fun i => (i.zero, i.size, i.bytes)) = some (some (.agg #[.int .i64 0, .int .i64 0]), 2, 16) := by kernel_rfl
/-- a row stays where another one of another type grows -/
theorem own_oth {W W' : World} {base base' e e' size size' n n' : Nat} {v v' : Value} {xs xs' : List Value} (h : W.ownsRow base e size v n xs) (h' : W.ownsRow base' e' size' v' n' xs') (hne : e ≠ e') (hg : W.grownBy W' v'.ownBlock) : W'.ownsRow base e size v n xs := by
  refine h.kept hg ?_
  rcases h.2 with ⟨rfl, _⟩ | ⟨g, cap, cur, rfl, _, hgb, _⟩
  · exact .inl rfl
  · refine .inr fun er => ?_
    rcases h'.2 with ⟨rfl, _⟩ | ⟨g', cap', cur', rfl, _, hgb', _⟩
    · simp [Value.ownBlock] at er
    · obtain rfl : g = g' := by simpa [Value.ownBlock] using er
      rw [hgb] at hgb'; injection hgb' with hc; injection hc with _ hc _
      exact hne hc
theorem cellsF_zeros (n : Nat) : cellsR (List.replicate n (0, 0)) = List.replicate (n * 2) (Value.int .i64 0) := by
  induction n with
  | zero => rfl
  | succ n ih => rw [List.replicate_succ, cellsR_cons, ih, show (n + 1) * 2 = n * 2 + 1 + 1 by omega, List.replicate_succ, List.replicate_succ]
theorem madeF (n : Nat) : (madeCells (Value.agg #[.int .i64 0, .int .i64 0]).cells (n * 2)).toList = cellsR (List.replicate n (0, 0)) := by
  rw [cellsF_zeros]
  apply List.ext_getElem?
  intro j
  by_cases hj : j < n * 2
  · simp [madeCells, hj, Value.cells]
    rcases Nat.mod_two_eq_zero_or_one j with e | e <;> rw [e] <;> rfl
  · simp [madeCells, hj]

abbrev Fr := Int × Int
/-- number j of a row; number i of a table; number i of a list of values -/
def fr (ps : List Fr) (j : Nat) : Fr := ps[j]?.getD (0, 0)
def rw' (rows : List (List Fr)) (i : Nat) : List Fr := rows[i]?.getD []
def vl (us : List Value) (i : Nat) : Value := us[i]?.getD (.slice none 0 0)

/-- a row that can be read: v is its slice -/
def RdR (W : World) (v : Value) (ps : List Fr) : Prop :=
  ∃ a c, v = .slice a ps.length c ∧ ps.length ≤ maxLen ∧ ps.length ≤ c ∧ c ≤ maxLen ∧ ∀ j, j < ps.length → ∃ b off, a = some ⟨b, off, none⟩ ∧ W.cell? ⟨b, off + j * 2, none⟩ = some (.int .i64 (fr ps j).1) ∧ W.cell? ⟨b, off + j * 2 + 1, none⟩ = some (.int .i64 (fr ps j).2)
/-- a table that can be read -/
def RdT (W : World) (v : Value) (rows : List (List Fr)) : Prop :=
  ∃ a c, v = .slice a rows.length c ∧ rows.length ≤ maxLen ∧ rows.length ≤ c ∧ c ≤ maxLen ∧ ∀ i, i < rows.length → ∃ b off u, a = some ⟨b, off, none⟩ ∧ W.cell? ⟨b, off + i, none⟩ = some u ∧ RdR W u (rw' rows i)
theorem cell_keep {W W' : World} (hb : Below W.heap.size W W') {b o : Nat} {v : Value} (h : W.cell? ⟨b, o, none⟩ = some v) : W'.cell? ⟨b, o, none⟩ = some v :=
  (hb.cell (p := ⟨b, o, none⟩) (World.block_lt_of_cell? W _ h)).trans h
theorem RdR.below {W W' : World} {v : Value} {ps : List Fr} (h : RdR W v ps) (hb : Below W.heap.size W W') : RdR W' v ps := by
  obtain ⟨a, c, h1, h2, h3, h4, h5⟩ := h
  refine ⟨a, c, h1, h2, h3, h4, fun j hj => ?_⟩
  obtain ⟨b, off, k1, k2, k3⟩ := h5 j hj
  exact ⟨b, off, k1, cell_keep hb k2, cell_keep hb k3⟩
theorem RdT.below {W W' : World} {v : Value} {rows : List (List Fr)} (h : RdT W v rows) (hb : Below W.heap.size W W') : RdT W' v rows := by
  obtain ⟨a, c, h1, h2, h3, h4, h5⟩ := h
  refine ⟨a, c, h1, h2, h3, h4, fun j hj => ?_⟩
  obtain ⟨b, off, u, k1, k2, k3⟩ := h5 j hj
  exact ⟨b, off, u, k1, cell_keep hb k2, k3.below hb⟩
theorem RdR.own {W : World} {base : Nat} {v : Value} {n : Nat} {ps : List Fr} (h : W.ownsRow base 27 2 v n (cellsR ps)) : RdR W v ps ∧ ps.length = n := by
  have hl : ps.length = n := by have := h.1; rw [cellsR_len] at this; omega
  subst hl
  refine ⟨?_, rfl⟩
  rcases h.2 with ⟨e, h0⟩ | ⟨g, c, cur, e, _, _, h1, h2, _⟩
  · refine ⟨none, 0, by rw [e, h0], by rw [h0]; exact Nat.zero_le _, by omega, Nat.zero_le _, fun j hj => by omega⟩
  · subst e
    refine ⟨_, c, rfl, by omega, h1, h2, fun j hj => ⟨g, 0, rfl, ?_⟩⟩
    have := own_R h rfl j hj
    simpa [fr] using this
theorem own_type {W : World} {base e size n : Nat} {v : Value} {xs : List Value} (h : W.ownsRow base e size v n xs) {b : Nat} (hb : v.ownBlock = some b) : ∃ cs, W.heap[b]? = some (.cells cs e (0, 0)) := by
  rcases h.2 with ⟨rfl, _⟩ | ⟨g, cap, cur, rfl, _, hgb, _⟩
  · simp [Value.ownBlock] at hb
  · obtain rfl : g = b := by simpa [Value.ownBlock] using hb
    exact ⟨cur, hgb⟩
/-- rows of unlike types lie in unlike blocks -/
theorem own_unlike {W : World} {base base' e e' size size' n n' : Nat} {v v' : Value} {xs xs' : List Value} (h : W.ownsRow base e size v n xs) (h' : W.ownsRow base' e' size' v' n' xs') (hne : e ≠ e') {b : Nat} (hb : v.ownBlock = some b) : v'.ownBlock ≠ some b := by
  intro hb'
  obtain ⟨cs, h1⟩ := own_type h hb
  obtain ⟨cs', h2⟩ := own_type h' hb'
  rw [h1] at h2; injection h2 with hc; injection hc with _ hc _
  exact hne hc
theorem rw_set (rows : List (List Fr)) (k i : Nat) (r : List Fr) (hk : k < rows.length) : rw' (rows.set k r) i = if k = i then r else rw' rows i := by
  unfold rw'
  rw [List.getElem?_set]
  by_cases e : k = i
  · subst e; rw [if_pos rfl, if_pos rfl, if_pos hk]; rfl
  · rw [if_neg e, if_neg e]
theorem vl_set (us : List Value) (k i : Nat) (u : Value) (hk : k < us.length) : vl (us.set k u) i = if k = i then u else vl us i := by
  unfold vl
  rw [List.getElem?_set]
  by_cases e : k = i
  · subst e; rw [if_pos rfl, if_pos rfl, if_pos hk]; rfl
  · rw [if_neg e, if_neg e]
end Go.Proofs.Ythfdpdnphnjebaa
