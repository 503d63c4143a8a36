/- The law of tables: what is said of each row of a kernel. -/
import Derived.Test.YtbbkejfcheobaabTabLaw3
import Derived.Test.YtbbkejfcheobaabLikeT
namespace Go.Proofs.Ytbbkejfcheobaab
open Go.RowKit Go.Proofs.Ytbbkejfcheobaab.RM

theorem ker_facts {M : List (List Fr)} (h : echO M = true) (i : Nat) (hi : i < (kerA M).length) :
    (rw' (kerA M) i).length = (rw' M 0).length ∧ (∀ j, j < M.length → (chkS (rw' M j) (rw' (kerA M) i) (rw' M 0).length).2 = true → (chkS (rw' M j) (rw' (kerA M) i) (rw' M 0).length).1 = (0, 1)) ∧ ∃ c, c < (rw' M 0).length ∧ fr (rw' (kerA M) i) c ≠ (0, 1) := by
  rw [kerA_yes h] at hi ⊢
  rw [List.length_map] at hi
  obtain ⟨hm1, hm2⟩ := freeC_mem.1 (List.getElem_mem hi)
  have e : rw' ((freeC (rw' M 0).length (echC M)).map (kerRow (echR M) (echC M) (rw' M 0).length)) i = kerRow (echR M) (echC M) (rw' M 0).length (freeC (rw' M 0).length (echC M))[i] := by
    show (List.map _ _)[i]?.getD [] = _
    rw [List.getElem?_map, List.getElem?_eq_getElem hi]
    rfl
  rw [e]
  have h' := h
  unfold echO at h'
  rw [Bool.and_eq_true] at h'
  have hB := (ech_keeps rfl h'.1 h'.2).2
  refine ⟨kerRow_len _ _ _ _, fun j hj hg => ker_check h hm1 hm2 j hj hg, _, hm1, ?_⟩
  rw [(kerRow_at (R := echR M) (ech_rises h'.2) hB.chs hm1 hm2).1]
  decide

/-- a table as a walk reads it -/
theorem rdt_vals {W : World} {v : Value} {T : List (List Fr)} (h : RdT W v T) (h0 : 0 < T.length) : ∃ b off c us, v = .slice (some ⟨b, off, none⟩) T.length c ∧ T.length ≤ c ∧ c ≤ maxLen ∧ us.length = T.length ∧ ∀ i, i < T.length → W.cell? ⟨b, off + i, none⟩ = some (vl us i) ∧ RdR W (vl us i) (rw' T i) := by
  obtain ⟨a, c, h1, h2, h3, h4, h5⟩ := h
  obtain ⟨b, off, u0, e0, -, -⟩ := h5 0 h0
  subst e0
  have h6 : ∀ i, ∃ u, i < T.length → W.cell? ⟨b, off + i, none⟩ = some u ∧ RdR W u (rw' T i) := by
    intro i
    by_cases hi : i < T.length
    · obtain ⟨b', off', u, e, k1, k2⟩ := h5 i hi
      cases e
      exact ⟨u, fun _ => ⟨k1, k2⟩⟩
    · exact ⟨.slice none 0 0, fun hh => absurd hh hi⟩
  refine ⟨b, off, c, (List.range T.length).map fun i => (h6 i).choose, h1, h3, h4, by simp, fun i hi => ?_⟩
  have h7 := (h6 i).choose_spec hi
  have e : vl ((List.range T.length).map fun i => (h6 i).choose) i = (h6 i).choose := by simp [vl, hi]
  rw [e]
  exact h7
theorem rdr_vals {W : World} {v : Value} {ps : List Fr} (h : RdR W v ps) (h0 : 0 < ps.length) : ∃ b off c, v = .slice (some ⟨b, off, none⟩) ps.length c ∧ ∀ j, j < ps.length → W.cell? ⟨b, off + j * 2, none⟩ = some (.int .i64 (fr ps j).1) ∧ W.cell? ⟨b, off + j * 2 + 1, none⟩ = some (.int .i64 (fr ps j).2) := by
  obtain ⟨a, c, h1, h2, h3, h4, h5⟩ := h
  obtain ⟨b, off, e0, -, -⟩ := h5 0 h0
  subst e0
  refine ⟨b, off, c, h1, fun j hj => ?_⟩
  obtain ⟨b', off', e, k1, k2⟩ := h5 j hj
  cases e
  exact ⟨k1, k2⟩
end Go.Proofs.Ytbbkejfcheobaab
