/- Tables of whole numbers in memory: what a walk reads of them, what a copy owns. -/
import Derived.Test.YtbbkejfcheobaabTabW4
import Derived.Test.YtbbkejfcheobaabRowsI
import Derived.Test.YtbbkejfcheobaabArgW
namespace Go.Proofs.Ytbbkejfcheobaab
open Go.RowKit Go.Proofs.Ytbbkejfcheobaab.RM

theorem infoU : (Try.prog.info? 57).map (fun i => (i.zero, i.size, i.bytes)) = some (some (.slice none 0 0), 1, 24) := by kernel_rfl
theorem hidL0 {p : Prop} (h : p) : Hid p := h
/-- number j of a row, row i of a table -/
def fi (ps : List Int) (j : Nat) : Int := ps[j]?.getD 0
def ri (rows : List (List Int)) (i : Nat) : List Int := rows[i]?.getD []
abbrev cI (ps : List Int) : List Value := ps.map (Value.int .i64)
theorem cI_len (ps : List Int) : (cI ps).length = ps.length := by simp [cI]
/-- a table that lies in memory of its own, each row in a block of its own -/
structure TabI (W : World) (base : Nat) (v : Value) (us : List Value) (rows : List (List Int)) : Prop where
  outer : W.ownsRow base 57 1 v us.length us
  len : us.length = rows.length
  inner : ∀ i, i < us.length → W.ownsRow base 2 1 (vl us i) (ri rows i).length (cI (ri rows i))
  apart : ∀ i j, i < us.length → j < us.length → i ≠ j → ∀ b, (vl us i).ownBlock = some b → (vl us j).ownBlock ≠ some b
theorem TabI.below {W W' : World} {base : Nat} {v : Value} {us : List Value} {rows : List (List Int)} (h : TabI W base v us rows) (hb : Below W.heap.size W W') : TabI W' base v us rows :=
  ⟨own_below h.outer hb, h.len, fun i hi => own_below (h.inner i hi) hb, h.apart⟩
theorem TabI.le {W : World} {base base' : Nat} {v : Value} {us : List Value} {rows : List (List Int)} (h : TabI W base v us rows) (hb : base' ≤ base) : TabI W base' v us rows :=
  ⟨own_le h.outer hb, h.len, fun i hi => own_le (h.inner i hi) hb, h.apart⟩
theorem ri_set (rows : List (List Int)) (k i : Nat) (r : List Int) (hk : k < rows.length) : ri (rows.set k r) i = if k = i then r else ri rows i := by
  unfold ri
  rw [List.getElem?_set]
  by_cases e : k = i
  · subst e; rw [if_pos rfl, if_pos rfl, if_pos hk]; rfl
  · rw [if_neg e, if_neg e]
/-- a row that is apart is laid into the table -/
theorem TabI.put {W : World} {base g n c k : Nat} {us : List Value} {rows : List (List Int)} {u : Value} {ps : List Int} (h : TabI W base (.slice (some ⟨g, 0, none⟩) n c) us rows) (hk : k < us.length)
    (hu : W.ownsRow base 2 1 u ps.length (cI ps)) (ha : ∀ i, i < us.length → i ≠ k → ∀ b, (vl us i).ownBlock = some b → u.ownBlock ≠ some b) :
    TabI (W.setCell ⟨g, k, none⟩ u) base (.slice (some ⟨g, 0, none⟩) n c) (us.set k u) (rows.set k ps) := by
  have hn : us.length = n := by
    rcases h.outer.2 with ⟨e, _⟩ | ⟨g', c', cur, e, _⟩ <;> cases e; rfl
  subst hn
  obtain ⟨s1, s2⟩ := h.outer.stored k u
  have hout : (Value.slice (some ⟨g, 0, none⟩) us.length c).ownBlock = some g := rfl
  have keep : ∀ {m : Nat} {x : Value} {xs : List Value}, W.ownsRow base 2 1 x m xs → (W.setCell ⟨g, k, none⟩ u).ownsRow base 2 1 x m xs := fun hx => own_oth hx h.outer (by decide) s2
  refine ⟨by rw [List.length_set]; exact s1, by rw [List.length_set, List.length_set]; exact h.len, fun i hi => ?_, fun i j hi hj hne b hb => ?_⟩
  · rw [List.length_set] at hi
    rw [vl_set _ _ _ _ hk, ri_set _ _ _ _ (by rw [← h.len]; exact hk)]
    by_cases e : k = i
    · rw [if_pos e, if_pos e]; exact keep hu
    · rw [if_neg e, if_neg e]; exact keep (h.inner i hi)
  · rw [List.length_set] at hi hj
    rw [vl_set _ _ _ _ hk] at hb ⊢
    by_cases e : k = i
    · subst e
      rw [if_pos rfl] at hb
      rw [if_neg hne]
      intro h2
      exact ha j hj (fun e => hne e.symm) b h2 hb
    · rw [if_neg e] at hb
      by_cases e2 : k = j
      · rw [if_pos e2]; exact ha i hi (fun h => e h.symm) b hb
      · rw [if_neg e2]; exact h.apart i j hi hj hne b hb
/-- a row of the table is turned -/
theorem TabI.turn {W W' : World} {base k : Nat} {v : Value} {us : List Value} {rows : List (List Int)} {ps : List Int} (h : TabI W base v us rows) (hk : k < us.length)
    (hu : W'.ownsRow base 2 1 (vl us k) ps.length (cI ps)) (hg : W.grownBy W' (vl us k).ownBlock) : TabI W' base v us (rows.set k ps) := by
  refine ⟨own_oth h.outer (h.inner k hk) (by decide) hg, by rw [List.length_set]; exact h.len, fun i hi => ?_, h.apart⟩
  rw [ri_set _ _ _ _ (by rw [← h.len]; exact hk)]
  by_cases e : k = i
  · subst e; rw [if_pos rfl]; exact hu
  · rw [if_neg e]
    refine (h.inner i hi).kept hg ?_
    by_cases hn : (vl us i).ownBlock = none
    · exact .inl hn
    · obtain ⟨b, hb⟩ : ∃ b, (vl us i).ownBlock = some b := by
        cases hx : (vl us i).ownBlock with
        | none => exact absurd hx hn
        | some b => exact ⟨b, rfl⟩
      refine .inr ?_
      rw [hb]
      exact (h.apart i k hi hk (fun h => e h.symm) b hb).symm
theorem ri_nils (n i : Nat) : ri (List.replicate n ([] : List Int)) i = [] := by
  unfold ri
  by_cases h : i < n
  · rw [List.getElem?_eq_getElem (by simpa using h)]; simp
  · rw [List.getElem?_eq_none (by simpa using h)]; rfl
/-- a table that was just made -/
theorem TabI.made {W : World} {base n : Nat} {v : Value} (h : W.ownsRow base 57 1 v n (List.replicate n (.slice none 0 0))) : TabI W base v (List.replicate n (.slice none 0 0)) (List.replicate n []) := by
  refine ⟨by rw [List.length_replicate]; exact h, by simp, fun i hi => ?_, fun i j _ _ _ b hb => ?_⟩
  · rw [vl_nils, ri_nils]
    exact World.ownsRow_nil _ _ _ _
  · rw [vl_nils] at hb; simp [Value.ownBlock] at hb
theorem TabI.lt {W : World} {base : Nat} {v : Value} {us : List Value} {rows : List (List Int)} (h : TabI W base v us rows) (i : Nat) (hi : i < us.length) : ∀ b, (vl us i).ownBlock = some b → b < W.heap.size := fun b hb => ((h.inner i hi).lt b hb).2
theorem TabI.under {w : World} {base : Nat} {v : Value} {us : List Value} {rows : List (List Int)} (h : TabI w base v us rows) : Under w.heap.size v us := ⟨fun b e => (h.outer.lt b e).2, fun i hi b e => ((h.inner i hi).lt b e).2⟩
theorem TabI.out {lo hi : Nat} {w w' : World} {base : Nat} {v : Value} {us : List Value} {rows : List (List Int)} (h : TabI w base v us rows) (ho : Out lo hi w w') (hv : ∀ b, v.ownBlock = some b → b < lo ∨ hi ≤ b) (hu : ∀ i, i < us.length → ∀ b, (vl us i).ownBlock = some b → b < lo ∨ hi ≤ b) : TabI w' base v us rows :=
  ⟨own_out h.outer ho hv, h.len, fun i hi' => own_out (h.inner i hi') ho (hu i hi'), h.apart⟩
theorem TabI.out_lo {lo hi : Nat} {w w' : World} {base : Nat} {v : Value} {us : List Value} {rows : List (List Int)} (h : TabI w base v us rows) (ho : Out lo hi w w') (hu : Under lo v us) : TabI w' base v us rows :=
  h.out ho (fun b e => .inl (hu.1 b e)) (fun i hi' b e => .inl (hu.2 i hi' b e))

/-- a row that came in -/
def InI (W : World) (u : Value) (ps : List Int) : Prop := ∃ a len cap zs, u = .slice a len cap ∧ IsRow .i64 W a len cap zs ∧ ps = zs.take len ∧ ps.length = len ∧ len ≤ maxLen
/-- a table that came in -/
def InT (W : World) (v : Value) (rows : List (List Int)) : Prop :=
  ∃ a c, v = .slice a rows.length c ∧ rows.length ≤ maxLen ∧ rows.length ≤ c ∧ c ≤ maxLen ∧ ∀ i, i < rows.length → ∃ b off u, a = some ⟨b, off, none⟩ ∧ W.cell? ⟨b, off + i, none⟩ = some u ∧ InI W u (ri rows i)
theorem InI.below {W W' : World} {u : Value} {ps : List Int} (h : InI W u ps) (hb : Below W.heap.size W W') : InI W' u ps := by
  obtain ⟨a, len, cap, zs, h1, h2, h3, h4, h5⟩ := h
  exact ⟨a, len, cap, zs, h1, h2.below hb, h3, h4, h5⟩
theorem InT.below {W W' : World} {v : Value} {rows : List (List Int)} (h : InT W v rows) (hb : Below W.heap.size W W') : InT W' v rows := by
  obtain ⟨a, c, h1, h2, h3, h4, h5⟩ := h
  refine ⟨a, c, h1, h2, h3, h4, fun j hj => ?_⟩
  obtain ⟨b, off, u, k1, k2, k3⟩ := h5 j hj
  exact ⟨b, off, u, k1, cell_keep hb k2, k3.below hb⟩
end Go.Proofs.Ytbbkejfcheobaab
