/- A dimension, or what is none, is drawn. -/
import Derived.Test.YtbbkejfcheobaaaDoorDrawW2
import Derived.Test.YtbbkejfcheobaaaDoorDimW6
namespace Go.Proofs.YtbbkejfcheobaaaDoor
open Go.RowKit Go.Proofs.YtbbkejfcheobaaaDoor.RM

theorem hidI {p : Prop} (h : p) : Hid p := h
theorem ownExI {w w' : World} {cb base : Nat} {e : TypeId} {size : Nat} {v : Value} {n : Nat} {xs : List Value} (h : w.ownsRow base e size v n xs) (hx : Ex cb w w') (hc : cb < base) : w'.ownsRow base e size v n xs := by
  refine ⟨h.1, ?_⟩
  rcases h.2 with hn | ⟨g, c, cur, rfl, h1, h2, h3⟩
  · exact .inl hn
  · exact .inr ⟨g, c, cur, rfl, h1, (hx.2.2.2.2 g (Array.getElem?_eq_some_iff.1 h2).1 (by omega)).trans h2, h3⟩
theorem curGrownI {w w' : World} {cb : Nat} {a : Option Addr} {len cap : Nat} {zs : List Int} {row : Option Nat} (h : Cur w cb a len cap zs) (hg : w.grownBy w' row) (hne : row ≠ some cb) (hrow : ∀ b off, a = some ⟨b, off, none⟩ → 0 < zs.length → row ≠ some b) : Cur w' cb a len cap zs := by
  have hcl := h.lt
  have hx : ∀ b o v, w.cell? ⟨b, o, none⟩ = some v → row ≠ some b → w'.cell? ⟨b, o, none⟩ = some v := by
    intro b o v hv hb
    have hl : b < w.heap.size := World.block_lt_of_cell? w _ hv
    rw [World.cell?_of_block (w := w) (a := ⟨b, o, none⟩) (hg.block b hl (fun e => hb e.symm))]; exact hv
  have hf : ∀ b o, b < w.heap.size → row ≠ some b → w'.frozen? ⟨b, o, none⟩ = w.frozen? ⟨b, o, none⟩ := by
    intro b o hl hb
    exact World.frozen?_of_block (w := w) (a := ⟨b, o, none⟩) (hg.block b hl (fun e => hb e.symm))
  obtain ⟨⟨i, h', h1, h2, h3, h4, h5, h6, h7⟩, hr, hb⟩ := h
  refine ⟨⟨i, h', h1, h2, hx _ _ _ h3 hne, hx _ _ _ h4 hne, hx _ _ _ h5 hne, (hf _ _ hcl hne).trans h6, (hf _ _ hcl hne).trans h7⟩, ?_, hb⟩
  rcases hr with hr | ⟨b, off, ha, k1, k2, k3, k4, k5⟩
  · exact .inl hr
  · exact .inr ⟨b, off, ha, k1, k2, k3, fun i hi => hx _ _ _ (k4 i hi) (hrow b off ha (by omega)), k5⟩
theorem curRowI {w w1 : World} {cb base : Nat} {a : Option Addr} {len cap : Nat} {zs : List Int} {e : TypeId} {size : Nat} {v : Value} {n : Nat} {xs : List Value} {o : Obj} (h : Cur w cb a len cap zs) (hr : w.ownsRow base e size v n xs) (hc : cb < base) (ha : ∀ b off, a = some ⟨b, off, none⟩ → 0 < zs.length → b < base) (hg : (w.alloc o).grownBy w1 v.ownBlock) : Cur w1 cb a len cap zs := by
  refine curGrownI (h.below ((Below.refl _ _).alloc (Nat.le_refl _) o)) hg (fun e => ?_) (fun b off e1 e2 e => ?_)
  · have := (hr.lt cb e).1; omega
  · have := (hr.lt b e).1; have := ha b off e1 e2; omega
theorem exRowI {w0 w w1 : World} {cb base : Nat} {e : TypeId} {size : Nat} {v : Value} {n : Nat} {xs : List Value} {o : Obj} (h : Ex cb w0 w) (hr : w.ownsRow base e size v n xs) (hb : w0.heap.size ≤ base) (hg : (w.alloc o).grownBy w1 v.ownBlock) : Ex cb w0 w1 := by
  have h2 := h.alloc o
  refine ⟨hg.os.trans h2.1, hg.tape.trans h2.2.1, hg.output.trans h2.2.2.1, Nat.le_trans h2.size hg.size, fun k hk hne => ?_⟩
  rw [hg.block k (Nat.lt_of_lt_of_le hk h2.size) (fun e => by have := (hr.lt k e.symm).1; omega)]
  exact h2.2.2.2.2 k hk hne
theorem curSetI {w : World} {cb b o : Nat} {a : Option Addr} {len cap : Nat} {zs : List Int} {u : Value} (h : Cur w cb a len cap zs) (hc : cb ≠ b) (ha : ∀ b' off, a = some ⟨b', off, none⟩ → 0 < zs.length → b' ≠ b) : Cur (w.setCell ⟨b, o, none⟩ u) cb a len cap zs := by
  refine h.ex (x := b) (Ex.setCell (Ex.refl _ _) (.inl rfl) u) (fun e => hc e.symm) ha

/-- a drawn list: in memory of its own from B on, or not of five numbers -/
def DimAt (B : Nat) (w : World) (v : Value) (ys : List Int) : Prop := (∃ base et, B ≤ base ∧ w.ownsRow base et 1 v ys.length (ys.map (Value.int .i64))) ∨ (ys.length ≠ 5 ∧ ∃ a c, v = .slice a ys.length c)
theorem DimAt.to {B : Nat} {w : World} {v : Value} {ys : List Int} (h : DimAt B w v ys) : DimIn w v ys := by
  rcases h with ⟨base, et, _, h⟩ | h
  · exact .inl ⟨base, et, h⟩
  · exact .inr h
theorem DimAt.ex {B cb : Nat} {w w' : World} {v : Value} {ys : List Int} (h : DimAt B w v ys) (hx : Ex cb w w') (hc : cb < B) : DimAt B w' v ys := by
  rcases h with ⟨base, et, hb, h⟩ | h
  · exact .inl ⟨base, et, hb, ownExI h hx (by omega)⟩
  · exact .inr h

end Go.Proofs.YtbbkejfcheobaaaDoor
