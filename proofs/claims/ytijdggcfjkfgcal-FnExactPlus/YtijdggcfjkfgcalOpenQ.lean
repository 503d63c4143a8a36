/- A quantity that came in, opened. -/
import Derived.Test.YtijdggcfjkfgcalDrawW1
import Derived.ProofKit
import Derived.OpenShut
import Derived.Deep.SlicePairs
import Derived.Lib.SmallJoins
namespace Go.Proofs.Ytijdggcfjkfgcal
open Go.ChangeShapes Go.WideShapes Go.ChangeAt Go.RowKit Go.Deep Go.Joins

theorem cellsLQ : Try.prog.cellsOf 30 = 3 := by kernel_rfl
theorem cellsLQ2 : Try.prog.cellsOf 28 = 2 := by kernel_rfl
theorem cellsLQ1 : Try.prog.cellsOf 22 = 1 := by kernel_rfl
theorem cellsLQ0 : Try.prog.cellsOf 2 = 1 := by kernel_rfl
theorem open_row64 {H : Type} {enc : TypeId × Value → H} {W : World} {fuel : Nat} {v : Value} {x : DataW H × List MemPlace} (h : DataW.trod enc Try.prog W 0 (fun _ => true) true fuel 22 [v] = some x) : ∃ a len cap zs, v = .slice a len cap ∧ IsRow .i64 W a len cap zs := by
  rcases open_ints Try.underlying22 Try.underlying2 (by kernel_rfl) h with ⟨hcs, _⟩ | ⟨a, l, c, zs, hcs, _, hl, hm, hz, _, hcell, hwz⟩
  · injection hcs with hcs _
    exact ⟨none, 0, 0, [], hcs, .inl ⟨rfl, rfl, rfl⟩⟩
  · injection hcs with hcs _
    have hz1 : zs.length = c := by simpa using hz
    by_cases hz0 : 0 < zs.length
    · obtain ⟨b, off, spot⟩ := a
      have hc := hcell 0 hz0
      have hspot : spot = none := by simpa [Addr.add] using World.cell?_spot hc
      subst hspot
      exact ⟨_, l, c, zs, hcs, .inr ⟨b, off, rfl, hl, hm, hz1, fun i hi => by have h := hcell i hi; have e : Addr.add ⟨b, off, none⟩ i = ⟨b, off + i, none⟩ := (by by_cases i0 : i = 0 <;> simp [Addr.add, i0]); rw [e] at h; exact h, hwz⟩⟩
    · exact ⟨_, l, c, [], hcs, .inl ⟨by omega, by omega, rfl⟩⟩
set_option maxRecDepth 100000 in
theorem open_qua {H : Type} {enc : TypeId × Value → H} {r : Reach} {b0 : Nat} {W : World} {v : Value} {d : DataW H} {p : List MemPlace} (hv : Value.okWide Try.prog W r b0 30 v) (h : DataW.Trod enc Try.prog W 0 (fun _ => true) true 30 v d p) :
    ∃ n dd a len cap zs, v = .agg #[.int .i64 n, .int .i64 dd, .slice a len cap] ∧ IsRow .i64 W a len cap zs := by
  obtain ⟨cs, rfl, hsz⟩ := okWide_struct Try.underlying30 hv
  obtain ⟨c0, c1, c2, rfl⟩ := array3 (hsz.trans cellsLQ)
  obtain ⟨fuel, hf⟩ := h
  obtain ⟨y0, y1, n, hx, _, h0, h1⟩ := trod_struct2 Try.underlying30 hf
  rw [cellsLQ2] at h0
  rw [cellsLQ1] at h1
  have h0' : DataW.trod enc Try.prog W 0 (fun _ => true) true n 28 [c0, c1] = some y0 := h0
  have h1' : DataW.trod enc Try.prog W 0 (fun _ => true) true n 22 [c2] = some y1 := h1
  obtain ⟨z0, z1, m, hx2, _, g0, g1⟩ := trod_struct2 Try.underlying28 h0'
  rw [cellsLQ0] at g0 g1
  have g0' : DataW.trod enc Try.prog W 0 (fun _ => true) true m 2 [c0] = some z0 := g0
  have g1' : DataW.trod enc Try.prog W 0 (fun _ => true) true m 2 [c1] = some z1 := g1
  obtain ⟨x0, l0, e0, _⟩ := DataW.trod_int Try.underlying2 g0'
  obtain ⟨x1, l1, e1, _⟩ := DataW.trod_int Try.underlying2 g1'
  simp at l0 l1
  obtain ⟨a, len, cap, zs, hs, hr⟩ := open_row64 h1'
  subst l0 l1 hs
  exact ⟨x0, x1, a, len, cap, zs, rfl, hr⟩
end Go.Proofs.Ytijdggcfjkfgcal
