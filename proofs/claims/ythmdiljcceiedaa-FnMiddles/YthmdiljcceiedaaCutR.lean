/- Rows of fractions: cut, and what lies behind a cut; appends as steps of a region. -/
import Derived.Test.YthmdiljcceiedaaTabW0
import Derived.Maps.AppendAt
namespace Go
open Go.RowKit
/-- append to a row of the call's own, as one step of a region that draws, told where the row lies -/
theorem step_app_rt {P : Program} {ops : Array Oper} {o : Oper} {a : Act} {w : World} {K : Act → World → Prop} {Q : Exit → Act → World → Prop} {E : Prop}
    (hg : o.guard = none) (s x : Operand) (t : TypeId) (hop : o.op = Op.call { callee := Callee.builtin Builtin.append, args := #[s, x], argTypes := #[t, t] })
    (base : Nat) (e : TypeId) (i : TypeInfo) (z : Value) (size bytes : Nat) (ht : P.underlying t = some (.slice e)) (hi : P.info? e = some i) (hz : i.zero = some z)
    (hsize : i.size = size) (hby : i.bytes = bytes) (hzs : z.cells.size = size) (hsz : 0 < size)
    (v : Value) (n : Nat) (xs : List Value) (hs : a.eval s = v) (hown : w.ownsRow base e size v n xs)
    (ad : Addr) (m c : Nat) (news : List Value) (hx : a.eval x = .slice (some ad) m c) (hl : news.length = m * size) (hnews : ∀ j u, news[j]? = some u → w.cell? (ad.add j) = some u) (h1 : ∀ u ∈ news, u.oneCell' = true)
    (h63 : n + m ≤ maxLen) (hbytes : (n + m) * bytes ≤ 140737488355328) (hbase : base ≤ w.heap.size)
    (hK : ∀ v' w', w'.ownsRow base e size v' (n + m) (xs ++ news) → w.grownBy w' v.ownBlock → (v'.ownBlock = v.ownBlock ∨ v'.ownBlock = some w.heap.size) → K (a.put o.dst v') w') :
    if Region.wanted o (yielded ops a.tmps) = true then Oper.wp P o a w K Q else E := by
  have hw : Region.wanted o (yielded ops a.tmps) = true := by simp [Region.wanted, hg]
  rw [if_pos hw]
  obtain ⟨v', w', hrun, h2, h3, _, h4⟩ := run_append_own_at (P := P) (w := w) base t o.type e i z size bytes ht hi hz hsize hby hzs hsz v n xs hown ad m c news hl hnews h1 h63 hbytes hbase
  unfold Oper.wp
  simp [execOp, hop, resolve, invoke, builtin, hs, hx, hrun, Result.andThen]
  exact hK _ _ h2 h3 h4
end Go
namespace Go.Proofs.Ythmdiljcceiedaa
open Go.RowKit Go.Proofs.Ythmdiljcceiedaa.RM

theorem cellsR_oneQ (ps : List Fr) : ∀ u ∈ cellsR ps, u.oneCell' = true := by
  intro u hu
  unfold cellsR at hu
  rw [List.mem_flatMap] at hu
  obtain ⟨p, _, h⟩ := hu
  simp at h
  rcases h with rfl | rfl <;> rfl
theorem cellsR_takeQ : ∀ (ps : List Fr) (k : Nat), (cellsR ps).take (k * 2) = cellsR (ps.take k)
  | [], k => by simp [cellsR]
  | p :: r, 0 => rfl
  | p :: r, k + 1 => by
    rw [cellsR_cons, show (k + 1) * 2 = k * 2 + 1 + 1 by omega, List.take_succ_cons, List.take_succ_cons, cellsR_takeQ r k, List.take_succ_cons, cellsR_cons]
theorem cellsR_dropQ : ∀ (ps : List Fr) (k : Nat), (cellsR ps).drop (k * 2) = cellsR (ps.drop k)
  | [], k => by simp [cellsR]
  | p :: r, 0 => rfl
  | p :: r, k + 1 => by
    rw [cellsR_cons, show (k + 1) * 2 = k * 2 + 1 + 1 by omega, List.drop_succ_cons, List.drop_succ_cons, cellsR_dropQ r k, List.drop_succ_cons]
/-- a row cut to its first k points -/
theorem own_cutQ {W : World} {base g n c : Nat} {ps : List Fr} (h : W.ownsRow base 27 2 (.slice (some ⟨g, 0, none⟩) n c) n (cellsR ps)) (k : Nat) (hk : k ≤ n) :
    W.ownsRow base 27 2 (.slice (some ⟨g, 0, none⟩) k c) k (cellsR (ps.take k)) := by
  obtain ⟨hl, h2⟩ := h
  rcases h2 with ⟨e, _⟩ | ⟨g', cap, cur, e, h3, h4, h5, h6, h7, h8⟩
  · cases e
  · cases e
    have e1 : cur.toList.take (k * 2) = cellsR (ps.take k) := by
      rw [← cellsR_takeQ, ← h8, List.take_take]
      congr 1
      omega
    refine ⟨?_, .inr ⟨g, c, cur, rfl, h3, h4, by omega, h6, h7, e1⟩⟩
    rw [cellsR_len, List.length_take]
    rw [cellsR_len] at hl
    omega
theorem own_tailQ {W : World} {base g n c : Nat} {ps : List Fr} (h : W.ownsRow base 27 2 (.slice (some ⟨g, 0, none⟩) n c) n (cellsR ps)) (k : Nat) :
    ∀ j u, (cellsR (ps.drop k))[j]? = some u → W.cell? ((⟨g, k * 2, none⟩ : Addr).add j) = some u := by
  intro j u hu
  rw [← cellsR_dropQ, List.getElem?_drop] at hu
  have := h.cells (g := g) rfl (k * 2 + j) u hu
  have e : (⟨g, k * 2, none⟩ : Addr).add j = (⟨g, 0, none⟩ : Addr).add (k * 2 + j) := by
    by_cases a : j = 0
    · subst a
      by_cases b : k * 2 + 0 = 0 <;> simp [Addr.add, b] <;> omega
    · simp [Addr.add, a]
  rw [e]; exact this
theorem own_formQ {W : World} {base n : Nat} {e : TypeId} {size : Nat} {v : Value} {xs : List Value} (h : W.ownsRow base e size v n xs) (hv : v ≠ .slice none 0 0) : ∃ g c, v = .slice (some ⟨g, 0, none⟩) n c ∧ base ≤ g ∧ g < W.heap.size ∧ n ≤ c ∧ c ≤ maxLen := by
  have hlt := h.lt
  rcases h.2 with ⟨e, _⟩ | ⟨g, c, cur, e, h3, h4, h5, h6, _⟩
  · exact absurd e hv
  · subst e
    exact ⟨g, c, rfl, h3, (hlt g rfl).2, h5, h6⟩
end Go.Proofs.Ythmdiljcceiedaa
