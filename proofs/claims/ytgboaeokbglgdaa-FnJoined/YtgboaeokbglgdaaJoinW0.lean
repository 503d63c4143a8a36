/- Rows of points: cut, written in one place, put in; maps of places. -/
import Derived.Test.YtgboaeokbglgdaaJoinMath
import Derived.Test.YtgboaeokbglgdaaUnitB
import Derived.Maps.AppendAt
namespace Go
open Go.RowKit
/-- append to a row of the call's own, as one step of a region that draws, told where the row lies -/
theorem step_app_pt {P : Program} {ops : Array Oper} {o : Oper} {a : Act} {w : World} {K : Act → World → Prop} {Q : Exit → Act → World → Prop} {E : Prop}
    (hg : o.guard = none) (s x : Operand) (t : TypeId) (hop : o.op = Op.call { callee := Callee.builtin Builtin.append, args := #[s, x], argTypes := #[t, t] })
    (base : Nat) (e : TypeId) (i : TypeInfo) (z : Value) (size bytes : Nat) (ht : P.underlying t = some (.slice e)) (hi : P.info? e = some i) (hz : i.zero = some z)
    (hsize : i.size = size) (hby : i.bytes = bytes) (hzs : z.cells.size = size) (hsz : 0 < size)
    (v : Value) (n : Nat) (xs : List Value) (hs : a.eval s = v) (hown : w.ownsRow base e size v n xs)
    (ad : Addr) (m c : Nat) (news : List Value) (hx : a.eval x = .slice (some ad) m c) (hl : news.length = m * size) (hnews : ∀ j u, news[j]? = some u → w.cell? (ad.add j) = some u) (h1 : ∀ u ∈ news, u.oneCell' = true)
    (h63 : n + m ≤ maxLen) (hbytes : (n + m) * bytes ≤ 140737488355328) (hbase : base ≤ w.heap.size)
    (hK : ∀ v' w', w'.ownsRow base e size v' (n + m) (xs ++ news) → w.grownBy w' v.ownBlock → (v'.ownBlock = v.ownBlock ∨ v'.ownBlock = some w.heap.size) → K (a.put o.dst v') w') :
    if Region.wanted o (yielded ops a.tmps) = true then Oper.wp P o a w K Q else E := by
  have hw : Region.wanted o (yielded ops a.tmps) = true := by simp [Region.wanted, hg]
  rw [if_pos hw]
  obtain ⟨v', w', hrun, h2, h3, _, h4⟩ := run_append_own_at (P := P) (w := w) base t o.type e i z size bytes ht hi hz hsize hby hzs hsz v n xs hown ad m c news hl hnews h1 h63 hbytes hbase
  unfold Oper.wp
  simp [execOp, hop, resolve, invoke, builtin, hs, hx, hrun, Result.andThen]
  exact hK _ _ h2 h3 h4
end Go
namespace Go.Proofs.Ytgboaeokbglgdaa
open Go.RowKit Go.Proofs.Ytgboaeokbglgdaa.RM

theorem IsB.cc {W : World} {B : Nat} {a0 a1 : Value} {t : TypeId} (h : IsB W B #[a0, a1] t) : W.cell? ⟨B, 0, none⟩ = some a0 ∧ W.cell? ⟨B, 1, none⟩ = some a1 := ⟨h.cell 0 rfl, h.cell 1 rfl⟩
theorem IsB.grownJ {W W' : World} {B : Nat} {vs : Array Value} {t : TypeId} {row : Option Nat} (h : IsB W B vs t) (hg : W.grownBy W' row) (hne : row ≠ some B) : IsB W' B vs t :=
  (hg.block B h.lt (fun e => hne e.symm)).trans h
theorem cellsR_oneP (ps : List Fr) : ∀ u ∈ cellsR ps, u.oneCell' = true := by
  intro u hu
  unfold cellsR at hu
  rw [List.mem_flatMap] at hu
  obtain ⟨p, _, h⟩ := hu
  simp at h
  rcases h with rfl | rfl <;> rfl
theorem cellsR_takeP : ∀ (ps : List Fr) (k : Nat), (cellsR ps).take (k * 2) = cellsR (ps.take k)
  | [], k => by simp [cellsR]
  | p :: r, 0 => rfl
  | p :: r, k + 1 => by
    rw [cellsR_cons, show (k + 1) * 2 = k * 2 + 1 + 1 by omega, List.take_succ_cons, List.take_succ_cons, cellsR_takeP r k, List.take_succ_cons, cellsR_cons]
theorem cellsR_dropP : ∀ (ps : List Fr) (k : Nat), (cellsR ps).drop (k * 2) = cellsR (ps.drop k)
  | [], k => by simp [cellsR]
  | p :: r, 0 => rfl
  | p :: r, k + 1 => by
    rw [cellsR_cons, show (k + 1) * 2 = k * 2 + 1 + 1 by omega, List.drop_succ_cons, List.drop_succ_cons, cellsR_dropP r k, List.drop_succ_cons]
/-- a row cut to its first k points -/
theorem own_cutP {W : World} {base g n c : Nat} {ps : List Fr} (h : W.ownsRow base 44 2 (.slice (some ⟨g, 0, none⟩) n c) n (cellsR ps)) (k : Nat) (hk : k ≤ n) :
    W.ownsRow base 44 2 (.slice (some ⟨g, 0, none⟩) k c) k (cellsR (ps.take k)) := by
  obtain ⟨hl, h2⟩ := h
  rcases h2 with ⟨e, _⟩ | ⟨g', cap, cur, e, h3, h4, h5, h6, h7, h8⟩
  · cases e
  · cases e
    have e1 : cur.toList.take (k * 2) = cellsR (ps.take k) := by
      rw [← cellsR_takeP, ← h8, List.take_take]
      congr 1
      omega
    refine ⟨?_, .inr ⟨g, c, cur, rfl, h3, h4, by omega, h6, h7, e1⟩⟩
    rw [cellsR_len, List.length_take]
    rw [cellsR_len] at hl
    omega
theorem own_putB {W : World} {base g n c : Nat} {ps : List Fr} (h : W.ownsRow base 44 2 (.slice (some ⟨g, 0, none⟩) n c) n (cellsR ps)) (hl : ps.length = n) (k : Nat) (hk : k < n) (y : Int) :
    (W.setCell ⟨g, k * 2 + 1, none⟩ (.int .i64 y)).ownsRow base 44 2 (.slice (some ⟨g, 0, none⟩) n c) n (cellsR (ps.set k ((fr ps k).1, y))) := by
  obtain ⟨o1, _⟩ := own_Q h hl k hk
  obtain ⟨x, hx⟩ : ∃ x, x = (fr ps k).1 := ⟨_, rfl⟩
  rw [show (ps[k]?.getD (0, 0)).1 = x from hx.symm] at o1
  rw [← hx]
  obtain ⟨p1, _⟩ := h.stored (k * 2 + 1) (.int .i64 y)
  have e2 : (cellsR ps)[k * 2]? = some (.int .i64 x) := by
    rw [← h.cellAt (k * 2) (by omega)]; exact o1
  have e3 := cellsR_set ps k x y (by rw [hl]; exact hk)
  have e4 : (cellsR ps).set (k * 2) (.int .i64 x) = cellsR ps := by
    apply List.ext_getElem?
    intro j
    rw [List.getElem?_set]
    by_cases e : k * 2 = j
    · subst e
      rw [if_pos rfl, if_pos (List.getElem?_eq_some_iff.1 e2).1, e2]
    · rw [if_neg e]
  rw [e4] at e3
  rw [e3] at p1
  exact p1
/-- the cells of a row from its k-th point on -/
theorem own_tailP {W : World} {base g n c : Nat} {ps : List Fr} (h : W.ownsRow base 44 2 (.slice (some ⟨g, 0, none⟩) n c) n (cellsR ps)) (k : Nat) :
    ∀ j u, (cellsR (ps.drop k))[j]? = some u → W.cell? ((⟨g, k * 2, none⟩ : Addr).add j) = some u := by
  intro j u hu
  rw [← cellsR_dropP, List.getElem?_drop] at hu
  have := h.cells (g := g) rfl (k * 2 + j) u hu
  have e : (⟨g, k * 2, none⟩ : Addr).add j = (⟨g, 0, none⟩ : Addr).add (k * 2 + j) := by
    by_cases a : j = 0
    · subst a
      by_cases b : k * 2 + 0 = 0 <;> simp [Addr.add, b] <;> omega
    · simp [Addr.add, a]
  rw [e]; exact this
theorem own_formP {W : World} {base n : Nat} {e : TypeId} {size : Nat} {v : Value} {xs : List Value} (h : W.ownsRow base e size v n xs) (hv : v ≠ .slice none 0 0) : ∃ g c, v = .slice (some ⟨g, 0, none⟩) n c ∧ base ≤ g ∧ g < W.heap.size ∧ n ≤ c ∧ c ≤ maxLen := by
  have hlt := h.lt
  rcases h.2 with ⟨e, _⟩ | ⟨g, c, cur, e, h3, h4, h5, h6, _⟩
  · exact absurd e hv
  · subst e
    exact ⟨g, c, rfl, h3, (hlt g rfl).2, h5, h6⟩
theorem fr_mem {l : List Fr} {j : Nat} (h : j < l.length) : fr l j ∈ l := by
  unfold fr
  rw [List.getElem?_eq_getElem h]
  exact List.getElem_mem h
/-- where it belongs -/
theorem insP_at : ∀ {l : List Fr} {x : Fr} {k : Nat}, k ≤ l.length → (∀ j, j < k → (fr l j).1 < x.1) → (k < l.length → x.1 < (fr l k).1) → insP l x = l.take k ++ ([x] ++ l.drop k)
  | [], x, k, hk, _, _ => by
    obtain rfl : k = 0 := by simpa using hk
    rfl
  | p :: r, x, 0, _, _, h => by
    have h0 : x.1 < p.1 := h (by simp)
    show (if p.1 < x.1 then p :: insP r x else if p.1 = x.1 then (p.1, p.2 + x.2) :: r else x :: p :: r) = x :: p :: r
    rw [if_neg (by omega), if_neg (by omega)]
  | p :: r, x, k + 1, hk, h1, h2 => by
    have h0 : p.1 < x.1 := h1 0 (by omega)
    have ih := insP_at (l := r) (x := x) (k := k) (by simpa using hk) (fun j hj => h1 (j + 1) (by omega)) (fun hj => h2 (by simpa using hj))
    show (if p.1 < x.1 then p :: insP r x else if p.1 = x.1 then (p.1, p.2 + x.2) :: r else x :: p :: r) = p :: (r.take k ++ ([x] ++ r.drop k))
    rw [if_pos h0, ih]
theorem insP_on : ∀ {l : List Fr} {x : Fr} {k : Nat}, k < l.length → (∀ j, j < k → (fr l j).1 < x.1) → (fr l k).1 = x.1 → insP l x = l.set k ((fr l k).1, (fr l k).2 + x.2)
  | p :: r, x, 0, _, _, h => by
    have h0 : p.1 = x.1 := h
    show (if p.1 < x.1 then p :: insP r x else if p.1 = x.1 then (p.1, p.2 + x.2) :: r else x :: p :: r) = (p.1, p.2 + x.2) :: r
    rw [if_neg (by omega), if_pos h0]
  | p :: r, x, k + 1, hk, h1, h2 => by
    have h0 : p.1 < x.1 := h1 0 (by omega)
    have ih := insP_on (l := r) (x := x) (k := k) (by simpa using hk) (fun j hj => h1 (j + 1) (by omega)) h2
    show (if p.1 < x.1 then p :: insP r x else if p.1 = x.1 then (p.1, p.2 + x.2) :: r else x :: p :: r) = p :: (r.set k ((fr r k).1, (fr r k).2 + x.2))
    rw [if_pos h0, ih]
/-- found in its place, as the program finds it -/
theorem accP_on : ∀ {l : List Fr} {x : Fr} {k : Nat}, unlike l → k < l.length → (fr l k).1 = x.1 → accP l x = l.set k ((fr l k).1, (fr l k).2 + x.2)
  | p :: r, x, 0, _, _, h => by
    have h0 : p.1 = x.1 := h
    show (if p.1 = x.1 then (p.1, p.2 + x.2) :: r else p :: accP r x) = (p.1, p.2 + x.2) :: r
    rw [if_pos h0]
  | p :: r, x, k + 1, hu, hk, h2 => by
    have h1 := List.pairwise_cons.1 hu
    have hk' : k < r.length := by simpa using hk
    have h0 : p.1 ≠ x.1 := by
      have := h1.1 (fr r k) (fr_mem hk')
      have e : (fr (p :: r) (k + 1)).1 = (fr r k).1 := rfl
      rw [e] at h2
      rw [← h2]; exact this
    have ih := accP_on (l := r) (x := x) (k := k) h1.2 hk' h2
    show (if p.1 = x.1 then (p.1, p.2 + x.2) :: r else p :: accP r x) = p :: (r.set k ((fr r k).1, (fr r k).2 + x.2))
    rw [if_neg h0, ih]
end Go.Proofs.Ytgboaeokbglgdaa
