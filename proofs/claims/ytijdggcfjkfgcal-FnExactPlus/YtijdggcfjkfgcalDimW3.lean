/- The walks of the program's DimOk, DimTimes, DimPower. -/
import Derived.Test.YtijdggcfjkfgcalDimW2
import Derived.Deep.Cut
namespace Go.Proofs.Ytijdggcfjkfgcal
open Go.RowKit Go.Proofs.Ytijdggcfjkfgcal.RM

/-- a list of numbers in memory of the call's own -/
def RowP (w : World) (rs : List Int) (x : Ending) (w' : World) : Prop := ∃ v et, x = .returned v ∧ w'.ownsRow w.heap.size et 1 v rs.length (rs.map (Value.int .i64)) ∧ Below w.heap.size w w'
/-- a list as the walks over dimensions read it: in memory of its own, or not of five numbers -/
def DimIn (w : World) (v : Value) (ys : List Int) : Prop := (∃ base et, w.ownsRow base et 1 v ys.length (ys.map (Value.int .i64))) ∨ (ys.length ≠ 5 ∧ ∃ a c, v = .slice a ys.length c)
theorem DimIn.of {w : World} {v : Value} {ys : List Int} {base : Nat} {et : TypeId} (h : w.ownsRow base et 1 v ys.length (ys.map (Value.int .i64))) : DimIn w v ys := .inl ⟨base, et, h⟩
theorem DimIn.below {w w' : World} {v : Value} {ys : List Int} (h : DimIn w v ys) (hb : Below w.heap.size w w') : DimIn w' v ys := by
  rcases h with ⟨base, et, h⟩ | h
  · exact .inl ⟨base, et, own_below h hb⟩
  · exact .inr h
theorem DimIn.five {w : World} {v : Value} {ys : List Int} (h : DimIn w v ys) (h5 : ys.length = 5) : ∃ base et, w.ownsRow base et 1 v ys.length (ys.map (Value.int .i64)) := by
  rcases h with h | h
  · exact h
  · exact absurd h5 h.1
theorem DimIn.shape {w : World} {v : Value} {ys : List Int} (h : DimIn w v ys) : ∃ a c, v = .slice a ys.length c := by
  rcases h with ⟨base, et, h⟩ | h
  · exact own_shape h
  · exact h.2
theorem sizeI1 : (Try.prog.info? 2).map (·.size) = some 1 := by kernel_rfl
theorem five_cells {W : World} {g c base : Nat} {et : TypeId} {a b c' d e : Int} (h : W.ownsRow base et 1 (.slice (some ⟨g, 0, none⟩) 5 c) 5 ([a, b, c', d, e].map (Value.int .i64))) : ∀ j v, (arr a b c' d e).toList[j]? = some v → W.cell? ((⟨g, 0, none⟩ : Addr).add j) = some v := by
  intro j v hj
  have hl : j < 5 := by
    have := (List.getElem?_eq_some_iff.1 hj).1
    simpa [arr] using this
  have h1 := h.cellAt j hl
  have e : (⟨g, 0, none⟩ : Addr).add j = ⟨g, j, none⟩ := by by_cases i0 : j = 0 <;> simp [Addr.add, i0]
  rw [e, h1, ← hj]
  rfl

set_option maxRecDepth 100000 in
set_option maxHeartbeats 2000000 in
theorem dimOf_in (v : Value) (ys : List Int) (w : World) (h : DimIn w v ys) :
    Calls Try.prog 62 #[v] w fun x w' => ∃ s0 s1 s2 s3 s4, x = .returned (.tuple #[.agg (arr s0 s1 s2 s3 s4), .bool (dimB ys)]) ∧ (dimB ys = true → ys = [s0, s1, s2, s3, s4]) ∧ Below w.heap.size w w' := by
  have Q1 := IsD.new w 0 0 0 0 0
  have B1 : Below w.heap.size w (w.alloc (.cells (arr 0 0 0 0 0) 56)) := (Below.refl _ _).alloc (Nat.le_refl _) _
  by_cases h5 : ys.length = 5
  · obtain ⟨base, et, h⟩ := h.five h5
    obtain ⟨a, b, c, d, e, rfl⟩ := dim_out h5
    obtain ⟨g, cg, rfl⟩ := own_some h (by simp)
    have hg : g < w.heap.size := (h.lt g rfl).2
    have HS := hidD (five_cells h)
    have H := hidD h
    clear h h5
    go_enter Try.func62, Try.ntmps62
    have hB2 : Below w.heap.size w ((w.alloc (.cells (arr 0 0 0 0 0) 56)).alloc (.cells (arr 0 0 0 0 0) 56)) := B1.alloc B1.size _
    have hsz : (w.alloc (.cells (arr 0 0 0 0 0) 56)).heap.size = w.heap.size + 1 := by simp
    have hnew := World.alloc_heap_new (w.alloc (.cells (arr 0 0 0 0 0) 56)) (.cells (arr 0 0 0 0 0) 56)
    rw [hsz] at hnew
    have Q2 := Q1.below ((Below.refl _ _).alloc (Nat.le_refl _) (.cells (arr 0 0 0 0 0) 56))
    have hsrc : ∀ j v, (arr a b c d e).toList[j]? = some v → ((w.alloc (.cells (arr 0 0 0 0 0) 56)).alloc (.cells (arr 0 0 0 0 0) 56)).cell? ((⟨g, 0, none⟩ : Addr).add j) = some v := by
      intro j v hj
      have h1 := HS.out j v hj
      have e : (⟨g, 0, none⟩ : Addr).add j = ⟨g, j, none⟩ := by by_cases i0 : j = 0 <;> simp [Addr.add, i0]
      rw [e] at h1 ⊢
      exact (hB2.cell (p := ⟨g, j, none⟩) hg).trans h1
    have HSRC := hidD hsrc
    have HNEW := hidD hnew
    have HQ2 := hidD Q2
    have HB2 := hidD hB2
    clear hsrc hnew Q2 hB2 hsz Q1 B1
    have hrun := run_copy_row (P := Try.prog) ((w.alloc (.cells (arr 0 0 0 0 0) 56)).alloc (.cells (arr 0 0 0 0 0) 56)) 22 22 3 2 (w.heap.size + 1) 0 5 5 ⟨g, 0, none⟩ 5 cg (arr 0 0 0 0 0) 56 (arr a b c d e).toList Try.underlying22 sizeI1 HNEW.out rfl HSRC.out (by simp [arr]) (by intro v hv; simp [arr] at hv; rcases hv with rfl | rfl | rfl | rfl | rfl <;> rfl)
    obtain ⟨X, hX⟩ : ∃ X, X = ((w.alloc (.cells (arr 0 0 0 0 0) 56)).alloc (.cells (arr 0 0 0 0 0) 56)).setRow (w.heap.size + 1) ((arr 0 0 0 0 0).toList.take 0 ++ (arr a b c d e).toList ++ (arr 0 0 0 0 0).toList.drop (0 + (arr a b c d e).toList.length)).toArray := ⟨_, rfl⟩
    have DX : IsD X (w.heap.size + 1) a b c d e := by rw [hX]; exact setRow_heap _ _ _ _ _ _ HNEW.out
    have QX : IsD X w.heap.size 0 0 0 0 0 := by rw [hX]; exact (setRow_other _ _ _ _ (by omega)).trans HQ2.out
    have BX : Below w.heap.size w X := by rw [hX]; exact below_setRow HB2.out (by omega) _
    rw [← hX] at hrun
    clear hX
    unfold arr at hrun
    have HX := hidD (And.intro DX QX)
    obtain ⟨d0, d1, d2, d3, d4⟩ := DX.c
    obtain ⟨k0, k1, k2, k3, k4⟩ := QX.c
    have l0 := QX.f 0
    have l1 := QX.f 1
    have l2 := QX.f 2
    have l3 := QX.f 3
    have l4 := QX.f 4
    have HL : Hid (∀ u : World, Calls Try.prog 76 #[.agg #[.int .i64 a, .int .i64 b, .int .i64 c, .int .i64 d, .int .i64 e]] u fun x w' => x = .returned (.agg #[.int .i64 (cl a), .int .i64 (cl b), .int .i64 (cl c), .int .i64 (cl d), .int .i64 (cl e)]) ∧ Below u.heap.size u w') := fun u => lim_any a b c d e u
    obtain ⟨q, hq⟩ : ∃ q, q = (a == cl a && (b == cl b && (c == cl c && (d == cl d && e == cl e)))) := ⟨_, rfl⟩
    have hE := fun u : World => eq5 a b c d e (cl a) (cl b) (cl c) (cl d) (cl e) u
    rw [← hq] at hE
    have HQ : Hid (q = dimB [a, b, c, d, e]) := by show _ = _; rw [dimB_five]; exact hq
    clear DX QX hq HNEW HSRC HQ2 HB2
    go_upto_region 5 with fail
    clear hrun
    go_region_with (go_at_call 76; refine (HL.out _).mono ?_; rintro x w1 ⟨rfl, hb⟩; have D1 : IsD w1 (w.heap.size + 1) a b c d e := IsD.below (by first | exact HX.out.1 | exact HX.out.1.below ((Below.refl _ _).drew)) hb; have D2 : IsD w1 w.heap.size 0 0 0 0 0 := IsD.below (by first | exact HX.out.2 | exact HX.out.2.below ((Below.refl _ _).drew)) hb; obtain ⟨d0, d1, d2, d3, d4⟩ := D1.c; obtain ⟨k0, k1, k2, k3, k4⟩ := D2.c; have l0 := D2.f 0; have l1 := D2.f 1; have l2 := D2.f 2; have l3 := D2.f 3; have l4 := D2.f 4; have B1 : Below w.heap.size w w1 := Below.trans (by first | exact BX | exact BX.drew) (hb.mono (by simpa using BX.size)))
    all_goals
      go_wp2
      exact bodyPost_ret (v := .tuple #[.agg #[.int .i64 a, .int .i64 b, .int .i64 c, .int .i64 d, .int .i64 e], .bool q]) (by simp [results, Try.results62, go_sem, k0, k1, k2, k3, k4]) rfl ⟨a, b, c, d, e, by rw [HQ.out]; rfl, fun _ => rfl, ((((B1.setCell (p := ⟨w.heap.size, 0, none⟩) (Nat.le_refl _) _).setCell (p := ⟨w.heap.size, 1, none⟩) (Nat.le_refl _) _).setCell (p := ⟨w.heap.size, 2, none⟩) (Nat.le_refl _) _).setCell (p := ⟨w.heap.size, 3, none⟩) (Nat.le_refl _) _).setCell (p := ⟨w.heap.size, 4, none⟩) (Nat.le_refl _) _⟩
  · have hq : dimB ys = false := by unfold dimB; rw [decide_eq_false h5]; rfl
    have HQ := hidD hq
    obtain ⟨ao, co, rfl⟩ := h.shape
    have h5' : ¬ ((ys.length : Int) = 5) := by omega
    clear h h5 hq
    go_enter Try.func62, Try.ntmps62
    go_wp2
    exact bodyPost_ret (v := .tuple #[.agg #[.int .i64 0, .int .i64 0, .int .i64 0, .int .i64 0, .int .i64 0], .bool false]) (by simp [results, Try.results62, go_sem]) rfl ⟨0, 0, 0, 0, 0, by rw [HQ.out]; rfl, fun h => by rw [HQ.out] at h; exact absurd h (by simp), B1⟩
theorem dimOf_any (v : Value) (ys : List Int) (base : Nat) (et : TypeId) (w : World) (h : w.ownsRow base et 1 v ys.length (ys.map (Value.int .i64))) :
    Calls Try.prog 62 #[v] w fun x w' => ∃ s0 s1 s2 s3 s4, x = .returned (.tuple #[.agg (arr s0 s1 s2 s3 s4), .bool (dimB ys)]) ∧ (dimB ys = true → ys = [s0, s1, s2, s3, s4]) ∧ Below w.heap.size w w' := dimOf_in v ys w (.of h)

end Go.Proofs.Ytijdggcfjkfgcal
