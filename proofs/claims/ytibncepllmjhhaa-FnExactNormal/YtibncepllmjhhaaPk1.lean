/- Several texts of this proof laid one behind the other: each has its own heading below. -/
import Derived.Test.YtibncepllmjhhaaTabW0
import Derived.ProofKit
import Derived.OpenShut
import Derived.Deep.SlicePairs
import Derived.Test.YtibncepllmjhhaaSpW0
import Derived.Lib.SmallJoins
import Derived.Test.YtibncepllmjhhaaRows
import Derived.Test.YtibncepllmjhhaaLNormal
import Derived.ShutString
import Derived.ChangeOld
import Derived.Below
import Derived.Carry

/- A table of fractions that came in, opened. -/
namespace Go.Proofs.Ytibncepllmjhhaa
open Go.ChangeShapes Go.WideShapes Go.ChangeAt Go.RowKit Go.Deep

theorem cellsLR : Try.prog.cellsOf 31 = 2 := by kernel_rfl
theorem cellsLS : Try.prog.cellsOf 29 = 1 := by kernel_rfl
theorem plain_add {b off : Nat} (i : Nat) : (⟨b, off, none⟩ : Addr).add i = ⟨b, off + i, none⟩ := by
  by_cases i0 : i = 0 <;> simp [Addr.add, i0]

theorem open_row {H : Type} {enc : TypeId × Value → H} {W : World} {fuel : Nat} {v : Value} {x : DataW H × List MemPlace} (h : DataW.trod enc Try.prog W 0 (fun _ => true) true fuel 29 [v] = some x) : ∃ ps, RdR W v ps := by
  rcases open_slice_pairs Try.underlying29 Try.underlying31 cellsLR rfl rfl (by kernel_rfl) (by kernel_rfl) h with ⟨hcs, _⟩ | ⟨a, len, cap, m, n, V0, V1, D0, D1, P0, P1, hcs, _, hl, hm, hmm, _, hx⟩
  · injection hcs with hcs _
    subst hcs
    exact ⟨[], none, 0, rfl, Nat.zero_le _, Nat.le_refl _, Nat.zero_le _, fun j hj => absurd hj (Nat.not_lt_zero _)⟩
  · injection hcs with hcs _
    subst hcs
    simp only [if_true] at hmm
    subst hmm
    have each : ∀ i, i < m → ∃ p : Fr, W.cell? (a.add (i * 2)) = some (.int .i64 p.1) ∧ W.cell? (a.add (i * 2 + 1)) = some (.int .i64 p.2) := by
      intro i hi
      obtain ⟨g1, g2, g3, g4⟩ := hx i hi
      obtain ⟨x0, l0, e0, _⟩ := DataW.trod_int Try.underlying2 g3
      obtain ⟨y0, l1, e1, _⟩ := DataW.trod_int Try.underlying2 g4
      simp at l0 l1
      exact ⟨(x0, y0), by rw [g1, l0], by rw [g2, l1]⟩
    obtain ⟨f, hf⟩ := choose_lt each
    obtain ⟨b, off, spot⟩ := a
    refine ⟨(List.range len).map f, some ⟨b, off, spot⟩, m, by simp, by simp; omega, by simp; exact hl, hm, fun j hj => ?_⟩
    simp at hj
    obtain ⟨k1, k2⟩ := hf j (by omega)
    have hspot : spot = none := by
      obtain ⟨k0, _⟩ := hf 0 (by omega)
      simpa [Addr.add] using World.cell?_spot k0
    subst hspot
    rw [plain_add] at k1 k2
    refine ⟨b, off, rfl, ?_, ?_⟩
    · rw [k1]; simp [fr, hj]
    · rw [Nat.add_assoc, k2]; simp [fr, hj]
end Go.Proofs.Ytibncepllmjhhaa

/- A row of spots that came in, opened. -/
namespace Go.Proofs.Ytibncepllmjhhaa
open Go.ChangeShapes Go.WideShapes Go.ChangeAt Go.RowKit Go.Deep Go.Joins

theorem cellsSp4 : Try.prog.cellsOf 54 = 4 := by kernel_rfl
theorem cellsSp2 : Try.prog.cellsOf 31 = 2 := by kernel_rfl
theorem cellsSp1 : Try.prog.cellsOf 2 = 1 := by kernel_rfl
theorem plain_addS {b off : Nat} (i : Nat) : (⟨b, off, none⟩ : Addr).add i = ⟨b, off + i, none⟩ := by
  by_cases i0 : i = 0 <;> simp [Addr.add, i0]
theorem open_twoS {H : Type} {enc : TypeId × Value → H} {W : World} {n : Nat} {c0 c1 : Value} {y : DataW H × List MemPlace} (h : DataW.trod enc Try.prog W 0 (fun _ => true) true n 31 [c0, c1] = some y) : ∃ x0 x1, c0 = .int .i64 x0 ∧ c1 = .int .i64 x1 := by
  obtain ⟨z0, z1, m, hx2, _, g0, g1⟩ := trod_struct2 Try.underlying31 h
  rw [cellsSp1] at g0 g1
  have g0' : DataW.trod enc Try.prog W 0 (fun _ => true) true m 2 [c0] = some z0 := g0
  have g1' : DataW.trod enc Try.prog W 0 (fun _ => true) true m 2 [c1] = some z1 := g1
  obtain ⟨x0, l0, e0, _⟩ := DataW.trod_int Try.underlying2 g0'
  obtain ⟨x1, l1, e1, _⟩ := DataW.trod_int Try.underlying2 g1'
  simp at l0 l1
  exact ⟨x0, x1, l0, l1⟩

set_option maxRecDepth 100000 in
theorem open_srow {H : Type} {enc : TypeId × Value → H} {W : World} {fuel : Nat} {v : Value} {x : DataW H × List MemPlace} (h : DataW.trod enc Try.prog W 0 (fun _ => true) true fuel 22 [v] = some x) : ∃ ss, RdS W v ss := by
  rcases open_slice Try.underlying22 h with ⟨hcs, _⟩ | ⟨a, len, cap, m, n, D, Pl, hcs, _, hl, hm, hmm, _, hx⟩
  · injection hcs with hcs _
    subst hcs
    exact ⟨[], none, 0, rfl, Nat.zero_le _, Nat.le_refl _, Nat.zero_le _, fun j hj => absurd hj (Nat.not_lt_zero _)⟩
  · injection hcs with hcs _
    subst hcs
    simp only [if_true] at hmm
    subst hmm
    have each : ∀ i, i < m → ∃ p : Sp, W.cell? (a.add (i * 4)) = some (.int .i64 p.1.1) ∧ W.cell? ((a.add (i * 4)).add 1) = some (.int .i64 p.1.2) ∧ W.cell? ((a.add (i * 4)).add 2) = some (.int .i64 p.2.1) ∧ W.cell? ((a.add (i * 4)).add 3) = some (.int .i64 p.2.2) := by
      intro i hi
      obtain ⟨cs', h1, h2⟩ := hx i hi
      rw [cellsSp4] at h1
      obtain ⟨_, hlen, hcell⟩ := World.cells?_some h1
      match cs', hlen, hcell, h2 with
      | [c0, c1, c2, c3], _, hcell, h2 =>
        obtain ⟨y0, y1, k, hx2, _, h0, h1'⟩ := trod_struct2 Try.underlying54 h2
        rw [cellsSp2] at h0 h1'
        have h0' : DataW.trod enc Try.prog W 0 (fun _ => true) true k 31 [c0, c1] = some y0 := h0
        have h1'' : DataW.trod enc Try.prog W 0 (fun _ => true) true k 31 [c2, c3] = some y1 := h1'
        obtain ⟨x0, x1, e0, e1⟩ := open_twoS h0'
        obtain ⟨x2, x3, e2, e3⟩ := open_twoS h1''
        subst e0 e1 e2 e3
        have k0 := hcell 0 (by omega)
        have k1 := hcell 1 (by omega)
        have k2 := hcell 2 (by omega)
        have k3 := hcell 3 (by omega)
        refine ⟨((x0, x1), (x2, x3)), ?_, by simpa using k1, by simpa using k2, by simpa using k3⟩
        have : ((a.add (i * 4)).add 0) = a.add (i * 4) := by simp [Addr.add]
        rw [this] at k0
        simpa using k0
    obtain ⟨f, hf⟩ := choose_lt each
    obtain ⟨b, off, spot⟩ := a
    refine ⟨(List.range len).map f, some ⟨b, off, spot⟩, m, by simp, by simp; omega, by simp; exact hl, hm, fun j hj => ?_⟩
    simp at hj
    obtain ⟨k1, k2, k3, k4⟩ := hf j (by omega)
    have hspot : spot = none := by
      obtain ⟨k0, _⟩ := hf 0 (by omega)
      simpa [Addr.add] using World.cell?_spot k0
    subst hspot
    rw [plain_addS] at k1 k2 k3 k4
    rw [plain_addS] at k2 k3 k4
    have e : sp ((List.range len).map f) j = f j := by unfold sp; simp [hj]
    rw [e]
    exact ⟨b, off, rfl, k1, k2, k3, k4⟩
end Go.Proofs.Ytibncepllmjhhaa

/- At every list of fractions and every list of spots Normal answers as its model, in memory of its own, and the lists stay. No condition. -/
namespace Go.Proofs.Ytibncepllmjhhaa.LawExactNormal
open Go.ChangeShapes Go.WideShapes Go.ChangeAt Go.RowKit Go.Joins
set_option linter.unusedVariables false

theorem own : ownKnob Try.prog.godebug = none := by kernel_rfl
theorem laidOut : laidOutB Try.prog = true := by kernel_rfl

set_option maxRecDepth 100000 in
set_option maxHeartbeats 800000 in
theorem lifted (os : Os) (started : os.Started) (H : Type) (enc : TypeId × Value → H) :
    ReturnsInHanded {} Try.checked os 7 .any (Rows.fnExactNormalSpec.pre6 enc Try.prog Try.f7 Rows.fnExactNormalRow.domain false) (Rows.fnExactNormalSpec.post enc Try.prog Try.f7 false true false false) := by
  refine returnsInHanded_of_change (C := Try.checked) own started (by kernel_rfl) Try.func7
    (ChangeSpec.witness6 (enc := enc) (C := Try.checked) false ⟨#[], #[.slice none 0 0, .slice none 0 0], []⟩ 8 (by kernel_rfl) (by kernel_rfl) (by kernel_rfl) (by kernel_rfl)) ?_
  intro W base args ds gs before hval0 hW hcnd _
  have hval : ∀ (j : Nat) t v, Try.f7.params[j]? = some t → args[j]? = some v → Value.okWide Try.prog W .any base t v := hval0
  have hW' := hW
  obtain ⟨p, q, hA0, hV, rfl, hfz, hnd⟩ := hW
  have hA : DataW.TrodAll enc Try.prog W 0 (fun _ => true) true Try.f7.params.toList args.toList ds p := hA0
  rw [Try.params7] at hA hval
  obtain ⟨v0, vs0, d0, ds0, p0, q0, hargs, rfl, rfl, h0, r_0⟩ := trodAll_cons hA
  obtain ⟨v1, vs1, d1, ds1, p1, q1, rfl, rfl, rfl, h1, r_1⟩ := trodAll_cons r_0
  obtain ⟨rfl, rfl, rfl⟩ := trodAll_nil r_1
  obtain rfl : args = #[v0, v1] := by cases args; simp_all
  obtain ⟨rfl, rfl⟩ := trodVars_none hV
  have k0 := h0
  have lt0 : ∀ x ∈ p0, x.block < W.heap.size := by obtain ⟨m, hm⟩ := k0; exact DataW.trod_lt m _ _ _ hm
  obtain ⟨x0, len0, cap0, rfl⟩ := okWide_slice Try.underlying29 (hval 0 29 v0 rfl rfl)
  obtain ⟨z0, wx0⟩ : ∃ rows, RdR W (.slice x0 len0 cap0) rows := by
    obtain ⟨fuel, hf⟩ := h0
    exact open_row (by simpa [Value.cells] using hf)
  have k1 := h1
  have lt1 : ∀ x ∈ p1, x.block < W.heap.size := by obtain ⟨m, hm⟩ := k1; exact DataW.trod_lt m _ _ _ hm
  obtain ⟨x1, len1, cap1, rfl⟩ := okWide_slice Try.underlying22 (hval 1 22 v1 rfl rfl)
  obtain ⟨z1, wx1⟩ : ∃ rows, RdS W (.slice x1 len1 cap1) rows := by
    obtain ⟨fuel, hf⟩ := h1
    exact open_srow (by simpa [Value.cells] using hf)
  clear hA0 hval0
  refine (lawNormal (.slice x0 len0 cap0) z0 (.slice x1 len1 cap1) z1 W wx0 wx1).mono fun e W' ⟨he, bel⟩ => ?_
  subst he
  exact ⟨_, rfl, _, _, _, [], _, [], hW', trodAll_mk1 (shut_bool Try.underlying4 _), (trodAll_cons_mk (Below.trod laidOut (by kernel_rfl) (of_decide_eq_true (by kernel_rfl)) k0 bel lt0) (trodAll_cons_mk (Below.trod laidOut (by kernel_rfl) (of_decide_eq_true (by kernel_rfl)) k1 bel lt1) trodAll_mk0)), rfl, bel.frame _, fun h => by cases h⟩

/-- At every list of fractions and every list of spots Normal answers as its model, in memory of its own, and the lists stay. No condition. -/
theorem proved : Rows.FnExactNormalSaid :=
  OpenClaim.holds_of_wide 7 Try.f7 rfl rfl rfl rfl rfl rfl rfl ⟨rfl, rfl, rfl, rfl, rfl⟩ rfl rfl rfl rfl rfl (by kernel_rfl) Try.func7 (by kernel_rfl)
    (of_decide_eq_true (by kernel_rfl)) (by unfold Func.isWrapper; first | (rw [if_pos (by decide +kernel)]; kernel_rfl) | (rw [if_neg (by decide +kernel)]; exact ⟨rfl, rfl⟩))
    (fun os started H enc _ => lifted os started H enc)
#print axioms proved
end Go.Proofs.Ytibncepllmjhhaa.LawExactNormal
