/- A range that came in, opened. -/
import Derived.Test.YtjpjnpdmkfgjgaaRatioW1
import Derived.ProofKit
import Derived.OpenShut
import Derived.Lib.SmallJoins
namespace Go.Proofs.Ytjpjnpdmkfgjgaa
open Go.ChangeShapes Go.WideShapes Go.ChangeAt Go.RowKit Go.Joins

theorem cellsLR : Try.prog.cellsOf 25 = 4 := by kernel_rfl
theorem cellsLR2 : Try.prog.cellsOf 23 = 2 := by kernel_rfl
theorem cellsLR1 : Try.prog.cellsOf 2 = 1 := by kernel_rfl
theorem array4 {cs : Array Value} (h : cs.size = 4) : ∃ c0 c1 c2 c3, cs = #[c0, c1, c2, c3] := by
  obtain ⟨l⟩ := cs
  match l, h with
  | [a, b, c, d], _ => exact ⟨a, b, c, d, rfl⟩
theorem open_two {H : Type} {enc : TypeId × Value → H} {W : World} {n : Nat} {c0 c1 : Value} {y : DataW H × List MemPlace} (h : DataW.trod enc Try.prog W 0 (fun _ => true) true n 23 [c0, c1] = some y) : ∃ x0 x1, c0 = .int .i64 x0 ∧ c1 = .int .i64 x1 := by
  obtain ⟨z0, z1, m, hx2, _, g0, g1⟩ := trod_struct2 Try.underlying23 h
  rw [cellsLR1] at g0 g1
  have g0' : DataW.trod enc Try.prog W 0 (fun _ => true) true m 2 [c0] = some z0 := g0
  have g1' : DataW.trod enc Try.prog W 0 (fun _ => true) true m 2 [c1] = some z1 := g1
  obtain ⟨x0, l0, e0, _⟩ := DataW.trod_int Try.underlying2 g0'
  obtain ⟨x1, l1, e1, _⟩ := DataW.trod_int Try.underlying2 g1'
  simp at l0 l1
  exact ⟨x0, x1, l0, l1⟩
set_option maxRecDepth 100000 in
theorem open_rng {H : Type} {enc : TypeId × Value → H} {r : Reach} {b0 : Nat} {W : World} {v : Value} {d : DataW H} {p : List MemPlace} (hv : Value.okWide Try.prog W r b0 25 v) (h : DataW.Trod enc Try.prog W 0 (fun _ => true) true 25 v d p) :
    ∃ a b c e, v = .agg #[.int .i64 a, .int .i64 b, .int .i64 c, .int .i64 e] := by
  obtain ⟨cs, rfl, hsz⟩ := okWide_struct Try.underlying25 hv
  obtain ⟨c0, c1, c2, c3, rfl⟩ := array4 (hsz.trans cellsLR)
  obtain ⟨fuel, hf⟩ := h
  obtain ⟨y0, y1, n, hx, _, h0, h1⟩ := trod_struct2 Try.underlying25 hf
  rw [cellsLR2] at h0 h1
  have h0' : DataW.trod enc Try.prog W 0 (fun _ => true) true n 23 [c0, c1] = some y0 := h0
  have h1' : DataW.trod enc Try.prog W 0 (fun _ => true) true n 23 [c2, c3] = some y1 := h1
  obtain ⟨x0, x1, e0, e1⟩ := open_two h0'
  obtain ⟨x2, x3, e2, e3⟩ := open_two h1'
  subst e0 e1 e2 e3
  exact ⟨x0, x1, x2, x3, rfl⟩
end Go.Proofs.Ytjpjnpdmkfgjgaa
