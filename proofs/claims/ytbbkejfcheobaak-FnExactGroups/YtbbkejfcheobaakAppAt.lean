/- An append to a row of the call's own, told where its answer lies: in the row's block, or in a new one. -/
import Derived.Test.YtbbkejfcheobaakTabW0
namespace Go
open Go.RowKit
section
variable {P : Program} (w : World)
theorem append_where (base : Nat) (t ty e : TypeId) (i : TypeInfo) (z : Value) (size bytes : Nat) (ht : P.underlying t = some (.slice e)) (hi : P.info? e = some i) (hz : i.zero = some z)
    (hsize : i.size = size) (hby : i.bytes = bytes) (hsz : 0 < size)
    (v : Value) (n : Nat) (xs : List Value) (hown : w.ownsRow base e size v n xs)
    (a : Addr) (m c : Nat) (news : List Value) (hl : news.length = m * size) (hnews : ∀ j u, news[j]? = some u → w.cell? (a.add j) = some u) (h1 : ∀ u ∈ news, u.oneCell' = true)
    (h63 : n + m ≤ maxLen) (hbytes : (n + m) * bytes ≤ 140737488355328) {v' : Value} {w' : World} (hr : (Builtin.append_ #[t, t] ty #[v, .slice (some a) m c]).run P w = .ok v' w') :
    ∀ b, v'.ownBlock = some b → v.ownBlock = some b ∨ b = w.heap.size := by
  subst hsize
  subst hby
  have hsmall : n + m ≤ 9223372036854775807 := by simp only [maxLen] at h63; omega
  intro b hb
  rcases hown.2 with ⟨rfl, rfl⟩ | ⟨g, cap, cur, rfl, hbg, hg, hnc, hcm, hcs, htake⟩
  · have hx : xs = [] := List.eq_nil_of_length_eq_zero (by simpa using hown.1)
    subst hx
    by_cases hm : m = 0
    · subst hm
      have e0 : (Builtin.append_ #[t, t] ty #[.slice none 0 0, .slice (some a) 0 c]).run P w = .ok (.slice none 0 0) w := by
        simp [Builtin.append_, run_underlying ht, sizeOf, typeInfo, hi, Builtin.lenOf, Builtin.firstCells, loadCells, loadCellsFrom]
      rw [e0] at hr
      cases hr
      simp [Value.ownBlock] at hb
    · have h2 := run_append_nil (P := P) w t ty e i z ht hi hz a m c news hl hnews (by omega) (by omega) (by have hb := hbytes; simp only [Nat.zero_add] at hb; omega)
      rw [h2] at hr
      cases hr
      simp [Value.ownBlock] at hb
      exact .inr hb.symm
  · by_cases hroom : n + m ≤ cap
    · have hfit : n * i.size + news.length ≤ cur.size := by rw [hl, hcs, ← Nat.add_mul]; exact Nat.mul_le_mul_right _ hroom
      have h2 := run_append_room (P := P) w t ty e i ht hi g n cap cur hg a m c news hl hnews h1 hroom hfit
      rw [h2] at hr
      cases hr
      exact .inl hb
    · have holds : ∀ j u, xs[j]? = some u → w.cell? ((⟨g, 0, none⟩ : Addr).add j) = some u := hown.cells (g := g) rfl
      have h2 := run_append_grow (P := P) w t ty e i z ht hi hz ⟨g, 0, none⟩ n cap xs hown.1 holds a m c news hl hnews (by omega) (by omega) (growslice_fits (by omega) hbytes)
      rw [h2] at hr
      cases hr
      simp [Value.ownBlock] at hb
      exact .inr hb.symm
theorem wp_append_at {o : Oper} {a : Act} {K : Act → World → Prop} {Q : Exit → Act → World → Prop} (s x : Operand) (t : TypeId)
    (ho : o.op = .call { callee := .builtin .append, args := #[s, x], argTypes := #[t, t] })
    (base : Nat) (e : TypeId) (i : TypeInfo) (z : Value) (size bytes : Nat) (ht : P.underlying t = some (.slice e)) (hi : P.info? e = some i) (hz : i.zero = some z)
    (hsize : i.size = size) (hby : i.bytes = bytes) (hzs : z.cells.size = size) (hsz : 0 < size)
    (v : Value) (n : Nat) (xs : List Value) (hs : a.eval s = v) (hown : w.ownsRow base e size v n xs)
    (ad : Addr) (m c : Nat) (news : List Value) (hx : a.eval x = .slice (some ad) m c) (hl : news.length = m * size) (hnews : ∀ j u, news[j]? = some u → w.cell? (ad.add j) = some u) (h1 : ∀ u ∈ news, u.oneCell' = true)
    (h63 : n + m ≤ maxLen) (hbytes : (n + m) * bytes ≤ 140737488355328) (hbase : base ≤ w.heap.size)
    (h : ∀ v' w', w'.ownsRow base e size v' (n + m) (xs ++ news) → w.grownBy w' v.ownBlock → (∀ b, v'.ownBlock = some b → v.ownBlock = some b ∨ b = w.heap.size) → K (a.put o.dst v') w') : o.wp P a w K Q := by
  obtain ⟨v', w', hr, h2, h3, h4⟩ := run_append_own (P := P) w base t o.type e i z size bytes ht hi hz hsize hby hzs hsz v n xs hown ad m c news hl hnews h1 h63 hbytes hbase
  have h5 := append_where (P := P) w base t o.type e i z size bytes ht hi hz hsize hby hsz v n xs hown ad m c news hl hnews h1 h63 hbytes hr
  unfold Oper.wp execOp
  simp only [ho, resolve, invoke, builtin, Sem.run_bind, Sem.run_pure, Result.andThen_ok, List.map_toArray, List.map_cons, List.map_nil, hs, hx, hr]
  exact h v' w' h2 h3 h5
theorem wpList_append_at {ops : Array Oper} {rest : List Oper} {o : Oper} {a : Act} {Q : Exit → Act → World → Prop} (hgd : o.guard = none) (s x : Operand) (t : TypeId)
    (ho : o.op = .call { callee := .builtin .append, args := #[s, x], argTypes := #[t, t] })
    (base : Nat) (e : TypeId) (i : TypeInfo) (z : Value) (size bytes : Nat) (ht : P.underlying t = some (.slice e)) (hi : P.info? e = some i) (hz : i.zero = some z)
    (hsize : i.size = size) (hby : i.bytes = bytes) (hzs : z.cells.size = size) (hsz : 0 < size)
    (v : Value) (n : Nat) (xs : List Value) (hs : a.eval s = v) (hown : w.ownsRow base e size v n xs)
    (ad : Addr) (m c : Nat) (news : List Value) (hx : a.eval x = .slice (some ad) m c) (hl : news.length = m * size) (hnews : ∀ j u, news[j]? = some u → w.cell? (ad.add j) = some u) (h1 : ∀ u ∈ news, u.oneCell' = true)
    (h63 : n + m ≤ maxLen) (hbytes : (n + m) * bytes ≤ 140737488355328) (hbase : base ≤ w.heap.size)
    (h : ∀ v' w', w'.ownsRow base e size v' (n + m) (xs ++ news) → w.grownBy w' v.ownBlock → (∀ b, v'.ownBlock = some b → v.ownBlock = some b ∨ b = w.heap.size) → wpList P ops Q rest (a.put o.dst v') w') : wpList P ops Q (o :: rest) a w :=
  wpList_plain hgd fun _ hK => wp_append_at w s x t ho base e i z size bytes ht hi hz hsize hby hzs hsz v n xs hs hown ad m c news hx hl hnews h1 h63 hbytes hbase fun v' w' h2 h3 h4 => hK _ _ (h v' w' h2 h3 h4)
end
end Go
namespace Go.Proofs.Ytbbkejfcheobaak
open Go.RowKit Go.Proofs.Ytbbkejfcheobaak.RM
/-- a row of the table has grown and is laid back -/
theorem Tab.grow {W w5 : World} {base g n c k : Nat} {us : List Value} {rows : List (List Fr)} {u : Value} {ps : List Fr} (h : Tab W base (.slice (some ⟨g, 0, none⟩) n c) us rows) (hk : k < us.length)
    (hu : w5.ownsRow base 37 2 u ps.length (cellsR ps)) (hg : W.grownBy w5 (vl us k).ownBlock) (ha : ∀ b, u.ownBlock = some b → (vl us k).ownBlock = some b ∨ W.heap.size ≤ b) :
    Tab (w5.setCell ⟨g, k, none⟩ u) base (.slice (some ⟨g, 0, none⟩) n c) (us.set k u) (rows.set k ps) ∧ w5.ownsRow base 45 1 (.slice (some ⟨g, 0, none⟩) n c) us.length us := by
  have ho := own_oth h.outer (h.inner k hk) (by decide) hg
  have hin : ∀ i, i < us.length → i ≠ k → w5.ownsRow base 37 2 (vl us i) (rw' rows i).length (cellsR (rw' rows i)) := by
    intro i hi hne
    refine (h.inner i hi).kept hg ?_
    by_cases hn : (vl us i).ownBlock = none
    · exact .inl hn
    · obtain ⟨b, hb⟩ : ∃ b, (vl us i).ownBlock = some b := by
        cases hx : (vl us i).ownBlock with
        | none => exact absurd hx hn
        | some b => exact ⟨b, rfl⟩
      refine .inr ?_
      rw [hb]
      exact (h.apart i k hi hk hne b hb).symm
  refine ⟨?_, ho⟩
  have hn : us.length = n := by
    rcases h.outer.2 with ⟨e, _⟩ | ⟨g', c', cur, e, _⟩ <;> cases e; rfl
  subst hn
  obtain ⟨s1, s2⟩ := ho.stored k u
  have keep : ∀ {m : Nat} {x : Value} {xs : List Value}, w5.ownsRow base 37 2 x m xs → (w5.setCell ⟨g, k, none⟩ u).ownsRow base 37 2 x m xs := fun hx => own_oth hx ho (by decide) s2
  have hlen := h.len
  refine ⟨by rw [List.length_set]; exact s1, by rw [List.length_set, List.length_set]; exact h.len, fun i hi => ?_, fun i j hi hj hne b hb => ?_⟩
  · rw [List.length_set] at hi
    rw [vl_set _ _ _ _ hk, rw_set _ _ _ _ (by omega)]
    by_cases e : k = i
    · rw [if_pos e, if_pos e]; exact keep hu
    · rw [if_neg e, if_neg e]; exact keep (hin i hi (fun e2 => e e2.symm))
  · rw [List.length_set] at hi hj
    rw [vl_set _ _ _ _ hk] at hb ⊢
    have apart : ∀ i, i < us.length → i ≠ k → ∀ b, (vl us i).ownBlock = some b → u.ownBlock ≠ some b := by
      intro i hi hne b h1 h2
      rcases ha b h2 with h3 | h3
      · exact h.apart i k hi hk hne b h1 h3
      · have := ((h.inner i hi).lt b h1).2; omega
    by_cases e : k = i
    · subst e
      rw [if_pos rfl] at hb
      rw [if_neg hne]
      intro h2
      exact apart j hj (fun e => hne e.symm) b h2 hb
    · rw [if_neg e] at hb
      by_cases e2 : k = j
      · rw [if_pos e2]; exact apart i hi (fun h => e h.symm) b hb
      · rw [if_neg e2]; exact h.apart i j hi hj hne b hb
end Go.Proofs.Ytbbkejfcheobaak
