/- The walk of the program's copiedRows. -/
import Derived.Test.YthdogphpjflklaaCopyF
namespace Go.Proofs.Ythdogphpjflklaa
open Go.RowKit Go.Proofs.Ythdogphpjflklaa.RM

theorem sizeF : (Try.prog.info? 29).map (fun i => i.size) = some 2 := by kernel_rfl
/-- a row as a walk that copies wants it -/
theorem row_src {W : World} {v : Value} {ps : List Fr} {a : Option Addr} {n c : Nat} (h : RdR W v ps) (e : v = .slice a n c) (h1 : 1 ≤ ps.length) : n = ps.length ∧ ∃ b off, a = some ⟨b, off, none⟩ ∧ ∀ j u, (cellsR ps)[j]? = some u → W.cell? ((⟨b, off, none⟩ : Addr).add j) = some u := by
  obtain ⟨a', c', rfl, _, _, _, h5⟩ := h
  cases e
  refine ⟨rfl, ?_⟩
  obtain ⟨b, off, rfl, _, _⟩ := h5 0 (by omega)
  refine ⟨b, off, rfl, fun j u hj => ?_⟩
  have hl : j < ps.length * 2 := by
    have := (List.getElem?_eq_some_iff.1 hj).1
    rw [cellsR_len] at this
    exact this
  obtain ⟨b', off', e, k1, k2⟩ := h5 (j / 2) (by omega)
  cases e
  have hc := cellsR_at ps (j / 2) (by omega)
  have ea : (⟨b, off, none⟩ : Addr).add j = ⟨b, off + j, none⟩ := by by_cases i0 : j = 0 <;> simp [Addr.add, i0]
  rw [ea]
  rcases Nat.mod_two_eq_zero_or_one j with m | m
  · have ej : j / 2 * 2 = j := by omega
    rw [ej] at hc k1
    rw [hc.1] at hj
    injection hj with hj
    rw [k1, ← hj]; rfl
  · have ej : j / 2 * 2 + 1 = j := by omega
    rw [ej] at hc
    rw [Nat.add_assoc, ej] at k2
    rw [hc.2] at hj
    injection hj with hj
    rw [k2, ← hj]; rfl
theorem cellsR_one (ps : List Fr) : ∀ v ∈ cellsR ps, v.oneCell' = true := by
  intro v hv
  unfold cellsR at hv
  rw [List.mem_flatMap] at hv
  obtain ⟨p, _, hp⟩ := hv
  simp at hp
  rcases hp with rfl | rfl <;> rfl
/-- a row that was made, laid over whole -/
theorem row_laid {W : World} {base G L : Nat} {cur : Array Value} {ps : List Fr} (hb : base ≤ G) (hL : ps.length = L) (hm : L ≤ 1000) (hg : W.heap[G]? = some (.cells cur 29 (0, 0))) (hs : cur.size = L * 2) :
    (W.setRow G (cur.toList.take 0 ++ (cellsR ps ++ cur.toList.drop (0 + (cellsR ps).length))).toArray).ownsRow base 29 2 (.slice (some ⟨G, 0, none⟩) L L) L (cellsR ps) ∧
    W.grownBy (W.setRow G (cur.toList.take 0 ++ (cellsR ps ++ cur.toList.drop (0 + (cellsR ps).length))).toArray) (some G) := by
  have hd : cur.toList.drop (0 + (cellsR ps).length) = [] := by
    rw [cellsR_len, hL, Nat.zero_add, List.drop_eq_nil_iff]
    simp [hs]
  rw [hd, List.take_zero, List.nil_append, List.append_nil]
  refine ⟨⟨by rw [cellsR_len, hL], .inr ⟨G, L, (cellsR ps).toArray, rfl, hb, setRow_heap W G _ _ _ _ hg, Nat.le_refl _, by unfold maxLen; omega, by simp [cellsR_len, hL], ?_⟩⟩, ⟨rfl, rfl, rfl, by simp [World.setRow], fun k _ hk => setRow_other W G k _ (fun e => hk (by rw [e]))⟩⟩
  rw [List.toList_toArray, List.take_of_length_le (by rw [cellsR_len, hL]; exact Nat.le_refl _)]

end Go.Proofs.Ythdogphpjflklaa
