/- The walk of the model's Variance. -/
import Derived.Test.YtkcdpjcfbpjkeanBudW2
namespace Go.Proofs.Ytkcdpjcfbpjkean
open Go.RowKit Go.Proofs.Ytkcdpjcfbpjkean.RM

/-- the variance of shares: does the model tell it, and what -/
def varS (ps : List Fr) (rows : List (List Fr)) : Fr × Bool := sumV ps rows ps false rows.length
def varO (ps : List Fr) (rows : List (List Fr)) : Bool := toldC ps rows && !(varS ps rows).2
def varA (ps : List Fr) (rows : List (List Fr)) : Fr := if varO ps rows = true then (varS ps rows).1 else (0, 0)
theorem varA_no {ps : List Fr} {rows : List (List Fr)} (h : varO ps rows = false) : varA ps rows = (0, 0) := by unfold varA; rw [h]; rfl
theorem varA_yes {ps : List Fr} {rows : List (List Fr)} (h : varO ps rows = true) : varA ps rows = (varS ps rows).1 := by unfold varA; rw [if_pos h]
theorem toldC_out {ps : List Fr} {rows : List (List Fr)} (h : toldC ps rows = true) : (1 ≤ rows.length ∧ rows.length ≤ 6) ∧ ps.length = rows.length ∧ allOk ps = true ∧ (∀ k, k < rows.length → (rw' rows k).length = rows.length ∧ allOk (rw' rows k) = true) ∧ symP rows := by
  unfold toldC at h
  rw [Bool.and_eq_true] at h
  obtain ⟨h1, h2, h3⟩ := covB_out h.1
  obtain ⟨h4, h5⟩ := allB_len (by omega) h.2
  exact ⟨h1, by omega, h5, h2, h3⟩
theorem ret_vb {a b a' b' : Int} {o o' : Bool} (h1 : a = a') (h2 : b = b') (h3 : o = o') : Ending.returned (.tuple #[.agg #[.int .i64 a, .int .i64 b], .bool o]) = .returned (.tuple #[.agg #[.int .i64 a', .int .i64 b'], .bool o']) := by rw [h1, h2, h3]

set_option maxRecDepth 100000 in
set_option maxHeartbeats 2000000 in
theorem sVar_any (u v : Value) (ps : List Fr) (rows : List (List Fr)) (w : World) (h0 : RdR w u ps) (h : RdT w v rows) :
    Calls Try.prog 15 #[u, v] w fun e w' => e = .returned (.tuple #[.agg #[.int .i64 (varA ps rows).1, .int .i64 (varA ps rows).2], .bool (varO ps rows)]) ∧ Below w.heap.size w w' := by
  have HT := hidW8 (fun W (hW : Below w.heap.size w W) => sToldC_any u v ps rows W (h0.below hW) (h.below hW))
  have H0 := hidW8 h0
  have H := hidW8 h
  obtain ⟨q, hq⟩ : ∃ q, q = toldC ps rows := ⟨_, rfl⟩
  rw [← hq] at HT
  have HQ := hidW8 hq
  clear h0 h hq
  obtain ⟨R, hR⟩ : ∃ R, R = w.heap.size := ⟨_, rfl⟩
  cases q
  · have HO : Hid (varO ps rows = false) := by show _ = _; unfold varO; rw [← HQ.out]; rfl
    go_enter Try.func15, Try.ntmps15
    go_wp2_with fail
    refine (HT.out _ ((Below.refl _ _).alloc (Nat.le_refl _) _)).mono ?_
    rintro e w1 ⟨rfl, hb⟩
    have Z1 : IsR w1 w.heap.size 0 0 := (IsR.new w 0 0).below hb
    have B1 : Below w.heap.size w w1 := (Below.refl _ _).alloc (Nat.le_refl _) _ |>.trans (hb.mono (by simp))
    have z0 := Z1.c0
    have z1 := Z1.c1
    have z2 := Z1.f0
    have z3 := Z1.f1
    clear hb
    go_wp2
    exact bodyPost_ret (v := .tuple #[.agg #[.int .i64 0, .int .i64 0], .bool false]) (by simp [results, Try.results15, go_sem, z0, z1]) rfl ⟨ret_vb (by rw [varA_no HO.out]) (by rw [varA_no HO.out]) HO.out.symm, (B1.setCell (p := ⟨w.heap.size, 0, none⟩) (Nat.le_refl _) _).setCell (p := ⟨w.heap.size, 1, none⟩) (Nat.le_refl _) _⟩
  obtain ⟨t1, t2, t3, t4, t5⟩ := toldC_out HQ.out.symm
  obtain ⟨⟨⟨s1, s2⟩, bd⟩, hs⟩ : ∃ s, s = varS ps rows := ⟨_, rfl⟩
  have HS := hidW8 hs
  have HL : Hid (∀ (K : Nat) (W : World), Below w.heap.size w W → w.heap.size ≤ K → IsK W K false → Calls Try.prog 38 #[.pointer (some ⟨K, 0, none⟩), u, v, u] W fun e w' =>
      e = .returned (.agg #[.int .i64 s1, .int .i64 s2]) ∧ IsK w' K bd ∧ W.grownBy w' (some K)) := by
    intro K W hW hK hk
    have := sSum_any K false u v u ps ps rows w W H0.out H.out H0.out t2 t2 (fun k hk => (t4 k hk).1) hW hK hk
    rw [show sumV ps rows ps false rows.length = _ from hs.symm] at this
    exact this
  clear t1 t2 t3 t4 t5 hs hR
  go_enter Try.func15, Try.ntmps15
  go_wp2_with fail
  refine (HT.out _ ((Below.refl _ _).alloc (Nat.le_refl _) _)).mono ?_
  rintro e w1 ⟨rfl, hb⟩
  have Z1 : IsR w1 w.heap.size 0 0 := (IsR.new w 0 0).below hb
  have B1 : Below w.heap.size w w1 := (Below.refl _ _).alloc (Nat.le_refl _) _ |>.trans (hb.mono (by simp))
  have hs1 := hb.size
  simp at hs1
  have hne : w.heap.size ≠ w1.heap.size := by omega
  clear hb HT
  go_wp2_with fail
  refine (HL.out w1.heap.size _ (B1.alloc B1.size _) B1.size (IsK.new w1 false)).mono ?_
  rintro e w2 ⟨rfl, hk, hg⟩
  have Z2 : IsR w2 w.heap.size 0 0 := (Z1.below ((Below.refl _ _).alloc (Nat.le_refl _) _)).grown hg hne
  have B2 : Below w.heap.size w w2 := (B1.alloc B1.size _).trans (below_grownK hg B1.size (by have := B1.size; simp; omega))
  have hs2 := B2.size
  have hs3 := hk.lt
  replace hk := (hk.below ((Below.refl _ _).alloc (Nat.le_refl _) (.cells #[.int .i64 s1, .int .i64 s2] 32)))
  replace Z2 := (Z2.below ((Below.refl _ _).alloc (Nat.le_refl _) (.cells #[.int .i64 s1, .int .i64 s2] 32)))
  replace B2 := B2.alloc hs2 (.cells #[.int .i64 s1, .int .i64 s2] 32)
  have kc := hk.cell
  have z0 := Z2.c0
  have z1 := Z2.c1
  have z2 := Z2.f0
  have z3 := Z2.f1
  clear hg
  cases bd
  · have HO : Hid (varO ps rows = true) := by show _ = _; unfold varO; rw [← HQ.out, ← HS.out]; rfl
    go_wp2
    exact bodyPost_ret (v := .tuple #[.agg #[.int .i64 s1, .int .i64 s2], .bool true]) (by simp [results, Try.results15, go_sem, z0, z1]) rfl ⟨ret_vb (by rw [varA_yes HO.out, ← HS.out]) (by rw [varA_yes HO.out, ← HS.out]) HO.out.symm, (B2.setCell (p := ⟨w.heap.size, 0, none⟩) (Nat.le_refl _) _).setCell (p := ⟨w.heap.size, 1, none⟩) (Nat.le_refl _) _⟩
  · have HO : Hid (varO ps rows = false) := by show _ = _; unfold varO; rw [← HQ.out, ← HS.out]; rfl
    go_wp2
    exact bodyPost_ret (v := .tuple #[.agg #[.int .i64 0, .int .i64 0], .bool false]) (by simp [results, Try.results15, go_sem, z0, z1]) rfl ⟨ret_vb (by rw [varA_no HO.out]) (by rw [varA_no HO.out]) HO.out.symm, (B2.setCell (p := ⟨w.heap.size, 0, none⟩) (Nat.le_refl _) _).setCell (p := ⟨w.heap.size, 1, none⟩) (Nat.le_refl _) _⟩
end Go.Proofs.Ytkcdpjcfbpjkean
