/- The walks of the program's DimOk, DimTimes, DimPower. -/
import Derived.Test.YtbbkejfcheobaaaDoorDimW2
import Derived.Deep.Cut
namespace Go.Proofs.YtbbkejfcheobaaaDoor
open Go.RowKit Go.Proofs.YtbbkejfcheobaaaDoor.RM

/-- a list of numbers in memory of the call's own -/
def RowP (w : World) (rs : List Int) (x : Ending) (w' : World) : Prop := ∃ v et, x = .returned v ∧ w'.ownsRow w.heap.size et 1 v rs.length (rs.map (Value.int .i64)) ∧ Below w.heap.size w w'
/-- a list as the walks over dimensions read it: in memory of its own, or not of five numbers -/
def DimIn (w : World) (v : Value) (ys : List Int) : Prop := (∃ base et, w.ownsRow base et 1 v ys.length (ys.map (Value.int .i64))) ∨ (ys.length ≠ 5 ∧ ∃ a c, v = .slice a ys.length c)
theorem DimIn.of {w : World} {v : Value} {ys : List Int} {base : Nat} {et : TypeId} (h : w.ownsRow base et 1 v ys.length (ys.map (Value.int .i64))) : DimIn w v ys := .inl ⟨base, et, h⟩
theorem DimIn.below {w w' : World} {v : Value} {ys : List Int} (h : DimIn w v ys) (hb : Below w.heap.size w w') : DimIn w' v ys := by
  rcases h with ⟨base, et, h⟩ | h
  · exact .inl ⟨base, et, own_below h hb⟩
  · exact .inr h
theorem DimIn.five {w : World} {v : Value} {ys : List Int} (h : DimIn w v ys) (h5 : ys.length = 5) : ∃ base et, w.ownsRow base et 1 v ys.length (ys.map (Value.int .i64)) := by
  rcases h with h | h
  · exact h
  · exact absurd h5 h.1
theorem DimIn.shape {w : World} {v : Value} {ys : List Int} (h : DimIn w v ys) : ∃ a c, v = .slice a ys.length c := by
  rcases h with ⟨base, et, h⟩ | h
  · exact own_shape h
  · exact h.2
theorem sizeI1 : (Tryd.prog.info? 2).map (·.size) = some 1 := by kernel_rfl
theorem five_cells {W : World} {g c base : Nat} {et : TypeId} {a b c' d e : Int} (h : W.ownsRow base et 1 (.slice (some ⟨g, 0, none⟩) 5 c) 5 ([a, b, c', d, e].map (Value.int .i64))) : ∀ j v, (arr a b c' d e).toList[j]? = some v → W.cell? ((⟨g, 0, none⟩ : Addr).add j) = some v := by
  intro j v hj
  have hl : j < 5 := by
    have := (List.getElem?_eq_some_iff.1 hj).1
    simpa [arr] using this
  have h1 := h.cellAt j hl
  have e : (⟨g, 0, none⟩ : Addr).add j = ⟨g, j, none⟩ := by by_cases i0 : j = 0 <;> simp [Addr.add, i0]
  rw [e, h1, ← hj]
  rfl

end Go.Proofs.YtbbkejfcheobaaaDoor
