/- The program's maps of units and of prefixes, and look-ups in them. -/
import Derived.Test.YtnhefbhiemdhoaaGreatMapLit
import Derived.Test.YtnhefbhiemdhoaaGreatUnitMath
namespace Go.Proofs.YtnhefbhiemdhoaaGreat
open Go.RowKit Go.MapKept

def uVal (u : UV) : Value := .agg #[.int .i64 u.n, .int .i64 u.d, .int .i64 u.x0, .int .i64 u.x1, .int .i64 u.x2, .int .i64 u.x3, .int .i64 u.x4]
def uKV : List (Value × Value) := uTab.map fun r => (.string ⟨r.1.toArray⟩, uVal r.2)
def uEnts : List MapEntry := ents 0 uKV

theorem below_grownM {B K : Nat} {w w' : World} (hg : w.grownBy w' (some K)) (hB : B ≤ K) (hs : B ≤ w.heap.size) : Below B w w' :=
  (Below.refl B w).grown hg hs (fun j ej => by cases ej; exact hB)

set_option maxRecDepth 100000 in
set_option maxHeartbeats 1000000 in
theorem units_any (w : World) :
    Calls Tryz.prog 53 #[] w fun e w' => ∃ B, e = .returned (.map (some B)) ∧ w.heap.size ≤ B ∧ IsM w' B uEnts 15 ∧ Below w.heap.size w w' := by
  have hmm := @run_makeMap Tryz.prog
  have hM := IsM.new w
  have hB : Below w.heap.size w (w.alloc (.map #[] 0)) := (Below.refl _ _).alloc (Nat.le_refl _) _
  go_enter Tryz.func53, Tryz.ntmps53
  go_wp2_with (first | (refine wpList_insert_new _ rfl _ _ _ 86 rfl 9 55 .string Tryz.underlying86 Tryz.underlying9 _ _ _ rfl hM _ _ rfl rfl trivial (by kernel_rfl) ?_; intro w1 hM1 hG1; replace hB := hB.trans (below_grownM hG1 (Nat.le_refl _) hB.size); clear hM; have hM := hM1; clear hM1 hG1) | go_in)
  go_ret
  exact ⟨_, rfl, Nat.le_refl _, hM, hB⟩
end Go.Proofs.YtnhefbhiemdhoaaGreat
