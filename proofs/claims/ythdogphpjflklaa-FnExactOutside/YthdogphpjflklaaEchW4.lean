/- The echelon that a pointer holds; the walk of choose. -/
import Derived.Test.YthdogphpjflklaaEchW3
import Derived.BigRegion
import Derived.WalkKit
namespace Go.Proofs.Ythdogphpjflklaa
open Go.RowKit Go.Proofs.Ythdogphpjflklaa.RM

/-- whole numbers as cells -/
def natV (ns : List Nat) : List Value := ns.map fun (n : Nat) => Value.int .i64 (n : Int)
/-- two lists that have nothing in common lie apart -/
theorem own_apart {W : World} {base e n m : Nat} {vc vf : Value} {ch fe : List Nat} (h : W.ownsRow base e 1 vc n (natV ch)) (k : W.ownsRow base e 1 vf m (natV fe)) (nc : ch = [] → vc = .slice none 0 0) (nf : fe = [] → vf = .slice none 0 0) (ne : ∀ c, c ∈ ch → ∀ f, f ∈ fe → c ≠ f) :
    ∀ b, vc.ownBlock = some b → vf.ownBlock ≠ some b := by
  intro b hb hb2
  cases ch with
  | nil => rw [nc rfl] at hb; cases hb
  | cons c ch =>
    cases fe with
    | nil => rw [nf rfl] at hb2; cases hb2
    | cons f fe =>
      have h1 := h.cells hb 0 (.int .i64 (c : Int)) (by simp [natV])
      have h2 := k.cells hb2 0 (.int .i64 (f : Int)) (by simp [natV])
      rw [h1] at h2
      have : (c : Int) = f := by injection h2 with h2; injection h2
      exact ne c (by simp) f (by simp) (by omega)
/-- the cells of a struct of three -/
theorem cells3 {W : World} {E : Nat} {a b c : Value} {t : TypeId} (h : W.heap[E]? = some (.cells #[a, b, c] t (0, 0))) :
    W.cell? ⟨E, 0, none⟩ = some a ∧ W.cell? ⟨E, 1, none⟩ = some b ∧ W.cell? ⟨E, 2, none⟩ = some c ∧ W.frozen? ⟨E, 0, none⟩ = false ∧ W.frozen? ⟨E, 1, none⟩ = false ∧ W.frozen? ⟨E, 2, none⟩ = false ∧ E < W.heap.size := by
  have hl : E < W.heap.size := (Array.getElem?_eq_some_iff.1 h).1
  refine ⟨?_, ?_, ?_, ?_, ?_, ?_, hl⟩ <;> simp [World.cell?, World.frozen?, h]
/-- a block of a type that no row has -/
theorem own_ne {W : World} {base e size n E : Nat} {v : Value} {xs : List Value} {cs : Array Value} {t : TypeId} {f : Nat × Nat} (h : W.ownsRow base e size v n xs) (hE : W.heap[E]? = some (.cells cs t f)) (hne : e ≠ t) : ∀ b, v.ownBlock = some b → b ≠ E := by
  rintro b hb rfl
  obtain ⟨cs', h'⟩ := own_type h hb
  rw [h'] at hE
  cases hE
  exact hne rfl
/-- where an exchange takes a row from -/
def exch (i r x : Nat) : Nat := if r = x then i else if i = x then r else x
theorem exch_lt {i r x n : Nat} (hi : i < n) (hr : r < n) (hx : x < n) : exch i r x < n := by unfold exch; split <;> (try split) <;> omega
theorem exch_inj {i r x y : Nat} (h : exch i r x = exch i r y) : x = y := by
  unfold exch at h
  split at h <;> split at h <;> (try split at h) <;> (try split at h) <;> omega
theorem vl_exch (us : List Value) (i r x : Nat) (hi : i < us.length) (hr : r < us.length) : vl ((us.set i (vl us r)).set r (vl us i)) x = vl us (exch i r x) := by
  rw [vl_set _ _ _ _ (by rw [List.length_set]; exact hr), vl_set _ _ _ _ hi]
  unfold exch
  split <;> (try split) <;> rfl
theorem rw_exch (rows : List (List Fr)) (i r x : Nat) (hi : i < rows.length) (hr : r < rows.length) : rw' (swapT rows i r) x = rw' rows (exch i r x) := by
  unfold swapT
  rw [rw_set _ _ _ _ (by rw [List.length_set]; exact hr), rw_set _ _ _ _ hi]
  unfold exch
  split <;> (try split) <;> rfl
theorem swapT_len (rows : List (List Fr)) (i r : Nat) : (swapT rows i r).length = rows.length := by simp [swapT]
/-- two rows of a table are exchanged -/
theorem Tab.swap {W : World} {base G n c i r : Nat} {us : List Value} {rows : List (List Fr)} (h : Tab W base (.slice (some ⟨G, 0, none⟩) n c) us rows) (hi : i < us.length) (hr : r < us.length) :
    Tab ((W.setCell ⟨G, i, none⟩ (vl us r)).setCell ⟨G, r, none⟩ (vl us i)) base (.slice (some ⟨G, 0, none⟩) n c) ((us.set i (vl us r)).set r (vl us i)) (swapT rows i r) ∧ W.grownBy ((W.setCell ⟨G, i, none⟩ (vl us r)).setCell ⟨G, r, none⟩ (vl us i)) (some G) := by
  have hn : us.length = n := by
    rcases h.outer.2 with ⟨e, _⟩ | ⟨g', c', cur, e, _⟩ <;> cases e; rfl
  subst hn
  obtain ⟨s1, s2⟩ := h.outer.stored i (vl us r)
  obtain ⟨t1, t2⟩ := s1.stored r (vl us i)
  have keep : ∀ {m : Nat} {x : Value} {xs : List Value}, W.ownsRow base 29 2 x m xs → ((W.setCell ⟨G, i, none⟩ (vl us r)).setCell ⟨G, r, none⟩ (vl us i)).ownsRow base 29 2 x m xs := fun hx => own_oth (own_oth hx h.outer (by decide) s2) s1 (by decide) t2
  have hl := h.len
  refine ⟨⟨by rw [List.length_set, List.length_set]; exact t1, by rw [List.length_set, List.length_set, swapT_len]; exact hl, fun x hx => ?_, fun x y hx hy hne b hb => ?_⟩, ?_⟩
  · rw [List.length_set, List.length_set] at hx
    rw [vl_exch _ _ _ _ hi hr, rw_exch _ _ _ _ (by omega) (by omega)]
    exact keep (h.inner _ (exch_lt hi hr hx))
  · rw [List.length_set, List.length_set] at hx hy
    rw [vl_exch _ _ _ _ hi hr] at hb ⊢
    exact h.apart _ _ (exch_lt hi hr hx) (exch_lt hi hr hy) (fun e => hne (exch_inj e)) b hb
  · exact ⟨t2.os.trans s2.os, t2.tape.trans s2.tape, t2.output.trans s2.output, Nat.le_trans s2.size t2.size, fun k hk hne => (t2.block k (Nat.lt_of_lt_of_le hk s2.size) hne).trans (s2.block k hk hne)⟩
theorem natV_app (ch : List Nat) (c : Nat) : natV (ch ++ [c]) = natV ch ++ [Value.int .i64 (c : Int)] := by simp [natV]
end Go.Proofs.Ythdogphpjflklaa
