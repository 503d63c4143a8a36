/- The walk of the library's Clone of a list of fractions. -/
import Derived.Test.YthmdiljcceiedaaAgrW3
import Derived.Lib.SliceRun
namespace Go.Proofs.Ythmdiljcceiedaa
open Go.RowKit Go.Proofs.Ythmdiljcceiedaa.RM

theorem RdR.news {W : World} {b off : Nat} {ls : List Fr} (h : ∀ j, j < ls.length → W.cell? ⟨b, off + j * 2, none⟩ = some (.int .i64 (fr ls j).1) ∧ W.cell? ⟨b, off + j * 2 + 1, none⟩ = some (.int .i64 (fr ls j).2)) :
    ∀ j u, (cellsR ls)[j]? = some u → W.cell? ((⟨b, off, none⟩ : Addr).add j) = some u := by
  intro j u hu
  have hj : j < ls.length * 2 := by
    have := (List.getElem?_eq_some_iff.1 hu).1
    rwa [cellsR_len] at this
  have e : (⟨b, off, none⟩ : Addr).add j = ⟨b, off + j, none⟩ := by by_cases i0 : j = 0 <;> simp [Addr.add, i0]
  rw [e]
  obtain ⟨k1, k2⟩ := h (j / 2) (by omega)
  obtain ⟨q1, q2⟩ := cellsR_at ls (j / 2) (by omega)
  rcases Nat.mod_two_eq_zero_or_one j with m | m
  · have e2 : j / 2 * 2 = j := by omega
    rw [e2] at k1 q1
    rw [q1] at hu
    injection hu with hu
    rw [← hu]; exact k1
  · have e2 : j / 2 * 2 + 1 = j := by omega
    have e3 : off + j / 2 * 2 + 1 = off + j := by omega
    rw [e2] at q2
    rw [e3] at k2
    rw [q2] at hu
    injection hu with hu
    rw [← hu]; exact k2

set_option maxRecDepth 100000 in
set_option maxHeartbeats 2000000 in
theorem clone_any (v : Value) (ls : List Fr) (w : World) (h : RdR w v ls) (h1 : 1 ≤ ls.length) (h9 : ls.length ≤ 900) :
    Calls Try.prog 22 #[v] w fun e w' => ∃ g c, e = .returned (.slice (some ⟨g, 0, none⟩) ls.length c) ∧ w'.ownsRow w.heap.size 27 2 (.slice (some ⟨g, 0, none⟩) ls.length c) ls.length (cellsR ls) ∧ Below w.heap.size w w' := by
  obtain ⟨i0, hi, hz0, hz1, hz2⟩ := info_parts infoF
  obtain ⟨a, c, rfl, h2, h3, h4, h5⟩ := h
  obtain ⟨b, off, rfl, _⟩ := h5 0 (by omega)
  have H5 : ∀ j, j < ls.length → w.cell? ⟨b, off + j * 2, none⟩ = some (.int .i64 (fr ls j).1) ∧ w.cell? ⟨b, off + j * 2 + 1, none⟩ = some (.int .i64 (fr ls j).2) := by
    intro j hj
    obtain ⟨b', off', e, k⟩ := h5 j hj
    cases e
    exact k
  clear h5
  have hW1 := bS w (.cells #[] 27)
  have T1 := hidS (RdR.news (W := w.alloc (.cells #[] 27)) (fun j hj => ⟨cell_keep hW1 (H5 j hj).1, cell_keep hW1 (H5 j hj).2⟩))
  clear H5
  obtain ⟨L, hL⟩ : ∃ L, L = ls.length := ⟨_, rfl⟩
  have hlen1 : (cellsR ls).length = L * 2 := by rw [cellsR_len, hL]
  rw [← hL] at h1 h9 h2 h3 ⊢
  clear hL
  have E0 : (w.alloc (.cells #[] 27)).ownsRow w.heap.size 27 2 (.slice (some ⟨w.heap.size, 0, none⟩) 0 0) 0 [] := own_noneR w _ (Nat.le_refl _)
  have qT : ∀ (w : World) (a : Option Addr) (n c n' c' : Nat), (binOp .eql 24 (.slice a n c) (.slice none n' c')).run Try.prog w = .ok (.bool a.isNone) w := fun w a n c n' c' => Lib.run_eql_slice_nil w _ _ a n c n' c' Try.underlying24
  go_enter Try.func22, Try.ntmps22
  go_wp2_with (at_builtin; refine wpList_append_own_at _ rfl _ _ 24 rfl w.heap.size 27 i0 (.agg #[.int .i64 0, .int .i64 0]) 2 16 Try.underlying24 hi hz0 hz1 hz2 rfl (by decide) _ 0 [] rfl E0 ⟨b, off, none⟩ L c (cellsR ls) rfl hlen1 T1.out (cellsR_oneQ _) (by unfold maxLen; omega) (by omega) (by simp) ?_; intro vr w2 hownr hgrr hnilr hlocr)
  rw [Nat.zero_add, List.nil_append] at hownr
  obtain ⟨gr, cr, rfl, hgr1, hgr2, -, -⟩ := own_formQ hownr (by intro e; exact absurd (hnilr.1 e).1 (by intro e2; cases e2))
  have B2 := hidS (hW1.grown hgrr (by simp) (fun j e => by cases e; exact Nat.le_refl _))
  clear hlocr hgrr hnilr
  go_wp2
  exact bodyPost_ret (results_tmp rfl _ _ _) rfl ⟨gr, cr, rfl, hownr, B2.out⟩
end Go.Proofs.Ythmdiljcceiedaa
