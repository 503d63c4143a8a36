/- Eighteen cells written, one behind the other. -/
import Derived.Test.YtnhefbhiemdhoaaGreatUnitP1
import Derived.Deep.RegionHeld3
import Derived.BigRegion
namespace Go.Proofs.YtnhefbhiemdhoaaGreat
open Go.RowKit
def s18 (W : World) (T : Nat) (v0 v1 v2 v3 v4 v5 v6 v7 v8 v9 v10 v11 v12 v13 v14 v15 v16 v17 : Value) : World := ((((((((((((((((((W.setCell ⟨T, 0, none⟩ v0).setCell ⟨T, 1, none⟩ v1).setCell ⟨T, 2, none⟩ v2).setCell ⟨T, 3, none⟩ v3).setCell ⟨T, 4, none⟩ v4).setCell ⟨T, 5, none⟩ v5).setCell ⟨T, 6, none⟩ v6).setCell ⟨T, 7, none⟩ v7).setCell ⟨T, 8, none⟩ v8).setCell ⟨T, 9, none⟩ v9).setCell ⟨T, 10, none⟩ v10).setCell ⟨T, 11, none⟩ v11).setCell ⟨T, 12, none⟩ v12).setCell ⟨T, 13, none⟩ v13).setCell ⟨T, 14, none⟩ v14).setCell ⟨T, 15, none⟩ v15).setCell ⟨T, 16, none⟩ v16).setCell ⟨T, 17, none⟩ v17)
theorem s18_own {W : World} {T : Nat} {t : TypeId} (v0 v1 v2 v3 v4 v5 v6 v7 v8 v9 v10 v11 v12 v13 v14 v15 v16 v17 z0 z1 z2 z3 z4 z5 z6 z7 z8 z9 z10 z11 z12 z13 z14 z15 z16 z17 : Value) (h : IsB W T #[z0, z1, z2, z3, z4, z5, z6, z7, z8, z9, z10, z11, z12, z13, z14, z15, z16, z17] t) : IsB (s18 W T v0 v1 v2 v3 v4 v5 v6 v7 v8 v9 v10 v11 v12 v13 v14 v15 v16 v17) T #[v0, v1, v2, v3, v4, v5, v6, v7, v8, v9, v10, v11, v12, v13, v14, v15, v16, v17] t := by
  have h2 := ((((((((((((((((((h.set 0 v0).set 1 v1).set 2 v2).set 3 v3).set 4 v4).set 5 v5).set 6 v6).set 7 v7).set 8 v8).set 9 v9).set 10 v10).set 11 v11).set 12 v12).set 13 v13).set 14 v14).set 15 v15).set 16 v16).set 17 v17)
  simp only [List.setIfInBounds_toArray, List.set_cons_succ, List.set_cons_zero] at h2
  exact h2
theorem s18_other {W : World} {T B : Nat} {vs : Array Value} {t : TypeId} (v0 v1 v2 v3 v4 v5 v6 v7 v8 v9 v10 v11 v12 v13 v14 v15 v16 v17 : Value) (h : IsB W B vs t) (hne : B ≠ T) : IsB (s18 W T v0 v1 v2 v3 v4 v5 v6 v7 v8 v9 v10 v11 v12 v13 v14 v15 v16 v17) B vs t := ((((((((((((((((((h.other hne 0 v0).other hne 1 v1).other hne 2 v2).other hne 3 v3).other hne 4 v4).other hne 5 v5).other hne 6 v6).other hne 7 v7).other hne 8 v8).other hne 9 v9).other hne 10 v10).other hne 11 v11).other hne 12 v12).other hne 13 v13).other hne 14 v14).other hne 15 v15).other hne 16 v16).other hne 17 v17)
theorem s18_map {W : World} {T M : Nat} {es : List MapEntry} {c : Nat} (v0 v1 v2 v3 v4 v5 v6 v7 v8 v9 v10 v11 v12 v13 v14 v15 v16 v17 : Value) (h : IsM W M es c) (hne : M ≠ T) : IsM (s18 W T v0 v1 v2 v3 v4 v5 v6 v7 v8 v9 v10 v11 v12 v13 v14 v15 v16 v17) M es c := ((((((((((((((((((h.otherB hne 0 v0).otherB hne 1 v1).otherB hne 2 v2).otherB hne 3 v3).otherB hne 4 v4).otherB hne 5 v5).otherB hne 6 v6).otherB hne 7 v7).otherB hne 8 v8).otherB hne 9 v9).otherB hne 10 v10).otherB hne 11 v11).otherB hne 12 v12).otherB hne 13 v13).otherB hne 14 v14).otherB hne 15 v15).otherB hne 16 v16).otherB hne 17 v17)
theorem s18_below {W w0 : World} {T n : Nat} (v0 v1 v2 v3 v4 v5 v6 v7 v8 v9 v10 v11 v12 v13 v14 v15 v16 v17 : Value) (h : Below n w0 W) (hn : n ≤ T) : Below n w0 (s18 W T v0 v1 v2 v3 v4 v5 v6 v7 v8 v9 v10 v11 v12 v13 v14 v15 v16 v17) := ((((((((((((((((((h.setCell (p := ⟨T, 0, none⟩) hn v0).setCell (p := ⟨T, 1, none⟩) hn v1).setCell (p := ⟨T, 2, none⟩) hn v2).setCell (p := ⟨T, 3, none⟩) hn v3).setCell (p := ⟨T, 4, none⟩) hn v4).setCell (p := ⟨T, 5, none⟩) hn v5).setCell (p := ⟨T, 6, none⟩) hn v6).setCell (p := ⟨T, 7, none⟩) hn v7).setCell (p := ⟨T, 8, none⟩) hn v8).setCell (p := ⟨T, 9, none⟩) hn v9).setCell (p := ⟨T, 10, none⟩) hn v10).setCell (p := ⟨T, 11, none⟩) hn v11).setCell (p := ⟨T, 12, none⟩) hn v12).setCell (p := ⟨T, 13, none⟩) hn v13).setCell (p := ⟨T, 14, none⟩) hn v14).setCell (p := ⟨T, 15, none⟩) hn v15).setCell (p := ⟨T, 16, none⟩) hn v16).setCell (p := ⟨T, 17, none⟩) hn v17)
set_option maxRecDepth 100000 in
set_option maxHeartbeats 1000000 in
theorem run_store18 (w : World) (T M : Nat) (s : ByteArray) (h : IsB w T #[.map none, .string ⟨#[]⟩, .int .i64 0, .int .i64 0, .int .i64 0, .int .i64 0, .int .i64 0, .int .i64 0, .int .i64 0, .int .i64 0, .bool false, .int .i64 0, .int .i64 0, .int .i64 0, .int .i64 0, .int .i64 0, .int .i64 0, .int .i64 0] 89) :
    (Instr.storeAt 89 (.pointer (some ⟨T, 0, none⟩)) (.agg #[.map (some M), .string s, .int .i64 0, .int .i64 0, .int .i64 0, .int .i64 0, .int .i64 0, .int .i64 0, .int .i64 0, .int .i64 0, .bool false, .int .i64 1, .int .i64 1, .int .i64 0, .int .i64 0, .int .i64 0, .int .i64 0, .int .i64 0])).run Tryz.prog w = .ok () (s18 w T (.map (some M)) (.string s) (.int .i64 0) (.int .i64 0) (.int .i64 0) (.int .i64 0) (.int .i64 0) (.int .i64 0) (.int .i64 0) (.int .i64 0) (.bool false) (.int .i64 1) (.int .i64 1) (.int .i64 0) (.int .i64 0) (.int .i64 0) (.int .i64 0) (.int .i64 0)) := by
  have k0 := h.cell (v := .map none) 0 rfl
  have f0 := h.frozen 0
  have k1 := h.cell (v := .string ⟨#[]⟩) 1 rfl
  have f1 := h.frozen 1
  have k2 := h.cell (v := .int .i64 0) 2 rfl
  have f2 := h.frozen 2
  have k3 := h.cell (v := .int .i64 0) 3 rfl
  have f3 := h.frozen 3
  have k4 := h.cell (v := .int .i64 0) 4 rfl
  have f4 := h.frozen 4
  have k5 := h.cell (v := .int .i64 0) 5 rfl
  have f5 := h.frozen 5
  have k6 := h.cell (v := .int .i64 0) 6 rfl
  have f6 := h.frozen 6
  have k7 := h.cell (v := .int .i64 0) 7 rfl
  have f7 := h.frozen 7
  have k8 := h.cell (v := .int .i64 0) 8 rfl
  have f8 := h.frozen 8
  have k9 := h.cell (v := .int .i64 0) 9 rfl
  have f9 := h.frozen 9
  have k10 := h.cell (v := .bool false) 10 rfl
  have f10 := h.frozen 10
  have k11 := h.cell (v := .int .i64 0) 11 rfl
  have f11 := h.frozen 11
  have k12 := h.cell (v := .int .i64 0) 12 rfl
  have f12 := h.frozen 12
  have k13 := h.cell (v := .int .i64 0) 13 rfl
  have f13 := h.frozen 13
  have k14 := h.cell (v := .int .i64 0) 14 rfl
  have f14 := h.frozen 14
  have k15 := h.cell (v := .int .i64 0) 15 rfl
  have f15 := h.frozen 15
  have k16 := h.cell (v := .int .i64 0) 16 rfl
  have f16 := h.frozen 16
  have k17 := h.cell (v := .int .i64 0) 17 rfl
  have f17 := h.frozen 17
  unfold s18
  go_simp
theorem step_store {P : Program} {ops : Array Oper} {o : Oper} {a : Act} {w w' : World} {K : Act → World → Prop} {Q : Exit → Act → World → Prop} {E : Prop}
    (hg : o.guard = none) (p x : Operand) (t : TypeId) (hop : o.op = Op.store t p x) (pv xv : Value) (hp : a.eval p = pv) (hx : a.eval x = xv) (hrun : (Instr.storeAt t pv xv).run P w = .ok () w') (hK : K (a.put o.dst undef) w') :
    if Region.wanted o (yielded ops a.tmps) = true then Oper.wp P o a w K Q else E := by
  have hw : Region.wanted o (yielded ops a.tmps) = true := by simp [Region.wanted, hg]
  rw [if_pos hw]
  unfold Oper.wp
  simp [execOp, hop, hp, hx, hrun, Result.andThen]
  exact hK
end Go.Proofs.YtnhefbhiemdhoaaGreat
