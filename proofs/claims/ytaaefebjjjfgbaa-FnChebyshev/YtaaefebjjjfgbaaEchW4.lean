/- The echelon that a pointer holds; the walk of choose. -/
import Derived.Test.YtaaefebjjjfgbaaEchW3
import Derived.BigRegion
import Derived.WalkKit
namespace Go.Proofs.Ytaaefebjjjfgbaa
open Go.RowKit Go.Proofs.Ytaaefebjjjfgbaa.RM

/-- whole numbers as cells -/
def natV (ns : List Nat) : List Value := ns.map fun (n : Nat) => Value.int .i64 (n : Int)
/-- two lists that have nothing in common lie apart -/
theorem own_apart {W : World} {base e n m : Nat} {vc vf : Value} {ch fe : List Nat} (h : W.ownsRow base e 1 vc n (natV ch)) (k : W.ownsRow base e 1 vf m (natV fe)) (nc : ch = [] → vc = .slice none 0 0) (nf : fe = [] → vf = .slice none 0 0) (ne : ∀ c, c ∈ ch → ∀ f, f ∈ fe → c ≠ f) :
    ∀ b, vc.ownBlock = some b → vf.ownBlock ≠ some b := by
  intro b hb hb2
  cases ch with
  | nil => rw [nc rfl] at hb; cases hb
  | cons c ch =>
    cases fe with
    | nil => rw [nf rfl] at hb2; cases hb2
    | cons f fe =>
      have h1 := h.cells hb 0 (.int .i64 (c : Int)) (by simp [natV])
      have h2 := k.cells hb2 0 (.int .i64 (f : Int)) (by simp [natV])
      rw [h1] at h2
      have : (c : Int) = f := by injection h2 with h2; injection h2
      exact ne c (by simp) f (by simp) (by omega)
/-- the cells of a struct of three -/
theorem cells3 {W : World} {E : Nat} {a b c : Value} {t : TypeId} (h : W.heap[E]? = some (.cells #[a, b, c] t (0, 0))) :
    W.cell? ⟨E, 0, none⟩ = some a ∧ W.cell? ⟨E, 1, none⟩ = some b ∧ W.cell? ⟨E, 2, none⟩ = some c ∧ W.frozen? ⟨E, 0, none⟩ = false ∧ W.frozen? ⟨E, 1, none⟩ = false ∧ W.frozen? ⟨E, 2, none⟩ = false ∧ E < W.heap.size := by
  have hl : E < W.heap.size := (Array.getElem?_eq_some_iff.1 h).1
  refine ⟨?_, ?_, ?_, ?_, ?_, ?_, hl⟩ <;> simp [World.cell?, World.frozen?, h]
/-- a block of a type that no row has -/
theorem own_ne {W : World} {base e size n E : Nat} {v : Value} {xs : List Value} {cs : Array Value} {t : TypeId} {f : Nat × Nat} (h : W.ownsRow base e size v n xs) (hE : W.heap[E]? = some (.cells cs t f)) (hne : e ≠ t) : ∀ b, v.ownBlock = some b → b ≠ E := by
  rintro b hb rfl
  obtain ⟨cs', h'⟩ := own_type h hb
  rw [h'] at hE
  cases hE
  exact hne rfl
/-- where an exchange takes a row from -/
def exch (i r x : Nat) : Nat := if r = x then i else if i = x then r else x
theorem exch_lt {i r x n : Nat} (hi : i < n) (hr : r < n) (hx : x < n) : exch i r x < n := by unfold exch; split <;> (try split) <;> omega
theorem exch_inj {i r x y : Nat} (h : exch i r x = exch i r y) : x = y := by
  unfold exch at h
  split at h <;> split at h <;> (try split at h) <;> (try split at h) <;> omega
theorem vl_exch (us : List Value) (i r x : Nat) (hi : i < us.length) (hr : r < us.length) : vl ((us.set i (vl us r)).set r (vl us i)) x = vl us (exch i r x) := by
  rw [vl_set _ _ _ _ (by rw [List.length_set]; exact hr), vl_set _ _ _ _ hi]
  unfold exch
  split <;> (try split) <;> rfl
theorem rw_exch (rows : List (List Fr)) (i r x : Nat) (hi : i < rows.length) (hr : r < rows.length) : rw' (swapT rows i r) x = rw' rows (exch i r x) := by
  unfold swapT
  rw [rw_set _ _ _ _ (by rw [List.length_set]; exact hr), rw_set _ _ _ _ hi]
  unfold exch
  split <;> (try split) <;> rfl
theorem swapT_len (rows : List (List Fr)) (i r : Nat) : (swapT rows i r).length = rows.length := by simp [swapT]
theorem natV_app (ch : List Nat) (c : Nat) : natV (ch ++ [c]) = natV ch ++ [Value.int .i64 (c : Int)] := by simp [natV]
end Go.Proofs.Ytaaefebjjjfgbaa
