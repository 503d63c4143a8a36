/- Lists and tables of fractions that are drawn. -/
import Derived.Test.YthfdpdnphnjebaaDrawW3
import Derived.Test.YthfdpdnphnjebaaTimW3
namespace Go.Proofs.Ythfdpdnphnjebaa
open Go.RowKit Go.Proofs.Ythfdpdnphnjebaa.RM

theorem cellsR_snoc (ps : List Fr) (x y : Int) : cellsR (ps ++ [(x, y)]) = cellsR ps ++ [Value.int .i64 x, .int .i64 y] := by simp [cellsR]
theorem hidW {p : Prop} (h : p) : Hid p := h
theorem cur_grown {w w' : World} {cb : Nat} {a : Option Addr} {len cap : Nat} {zs : List Int} {row : Option Nat} (h : Cur w cb a len cap zs) (hg : w.grownBy w' row) (hne : row ≠ some cb) (hrow : ∀ b off, a = some ⟨b, off, none⟩ → 0 < zs.length → row ≠ some b) : Cur w' cb a len cap zs := by
  cases row with
  | none => exact h.below ⟨hg.os, hg.tape, hg.output, hg.size, fun k hk => hg.block k hk (by simp)⟩
  | some g => exact h.ex (x := g) ⟨hg.os, hg.tape, hg.output, hg.size, fun k hk hne => hg.block k hk (by simpa using hne)⟩ (by simpa using hne) (fun b off e hz hb => hrow b off e hz (by rw [hb]))
/-- a row that lies beyond the cursor stays where the cursor moves -/
theorem ownEx {w w' : World} {cb base : Nat} {e : TypeId} {size : Nat} {v : Value} {n : Nat} {xs : List Value} (h : w.ownsRow base e size v n xs) (hx : Ex cb w w') (hc : cb < base) : w'.ownsRow base e size v n xs := by
  refine h.kept (row := some cb) ⟨hx.1, hx.2.1, hx.2.2.1, hx.2.2.2.1, fun k hk hne => hx.2.2.2.2 k hk (by simpa using hne)⟩ (.inr fun e => ?_)
  have := (h.lt cb e).1
  omega
/-- the cursor stays where a row beyond it grows -/
theorem curRow {w w1 : World} {cb base : Nat} {a : Option Addr} {len cap : Nat} {zs : List Int} {e : TypeId} {size : Nat} {v : Value} {n : Nat} {xs : List Value} {o : Obj} (h : Cur w cb a len cap zs) (hr : w.ownsRow base e size v n xs) (hc : cb < base) (ha : ∀ b off, a = some ⟨b, off, none⟩ → 0 < zs.length → b < base) (hg : (w.alloc o).grownBy w1 v.ownBlock) : Cur w1 cb a len cap zs := by
  have h1 : Cur (w.alloc o) cb a len cap zs := h.below ((Below.refl _ _).alloc (Nat.le_refl _) _)
  refine cur_grown h1 hg (fun e => ?_) (fun b off e hz hb => ?_)
  · have := (hr.lt cb e).1; omega
  · have := (hr.lt b hb).1; have := ha b off e hz; omega
/-- all else stays where a row beyond it grows -/
theorem exRow {w0 w w1 : World} {cb base : Nat} {e : TypeId} {size : Nat} {v : Value} {n : Nat} {xs : List Value} {o : Obj} (h : Ex cb w0 w) (hr : w.ownsRow base e size v n xs) (hb : w0.heap.size ≤ base) (hg : (w.alloc o).grownBy w1 v.ownBlock) : Ex cb w0 w1 := by
  have h1 := h.alloc o
  refine ⟨hg.os.trans h1.1, hg.tape.trans h1.2.1, hg.output.trans h1.2.2.1, Nat.le_trans h1.size hg.size, fun k hk hne => ?_⟩
  refine (hg.block k (Nat.lt_of_lt_of_le hk h1.size) (fun e => ?_)).trans (h1.2.2.2.2 k hk hne)
  have := (hr.lt k e.symm).1
  omega
theorem exSet {w0 w : World} {cb b o : Nat} {u : Value} (h : Ex cb w0 w) (hb : w0.heap.size ≤ b) : Ex cb w0 (w.setCell ⟨b, o, none⟩ u) := h.setCell (.inr hb) u
theorem curSet {w : World} {cb b o : Nat} {a : Option Addr} {len cap : Nat} {zs : List Int} {u : Value} (h : Cur w cb a len cap zs) (hc : cb ≠ b) (ha : ∀ b' off, a = some ⟨b', off, none⟩ → 0 < zs.length → b' ≠ b) : Cur (w.setCell ⟨b, o, none⟩ u) cb a len cap zs :=
  h.ex (x := b) ((Ex.refl _ w).setCell (.inl rfl) _) (by omega) (fun b' off e hz hb => ha b' off e hz hb)

end Go.Proofs.Ythfdpdnphnjebaa
