/- A list of numbers in memory, wherever it lies: read, held against another one, marked; and what stays when a range of blocks is written. -/
import Derived.Test.YtijdggcfjkfgcalRowsW
namespace Go.Proofs.Ytijdggcfjkfgcal
open Go.RowKit Go.Proofs.Ytijdggcfjkfgcal.RM

/-- only blocks from lo on, below hi, have been written; or new ones -/
structure Kp (lo hi : Nat) (w w' : World) : Prop where
  os : w'.os = w.os
  tape : w'.tape = w.tape
  output : w'.output = w.output
  size : w.heap.size ≤ w'.heap.size
  block : ∀ k, k < w.heap.size → (k < lo ∨ hi ≤ k) → w'.heap[k]? = w.heap[k]?
theorem Kp.refl (lo hi : Nat) (w : World) : Kp lo hi w w := ⟨rfl, rfl, rfl, Nat.le_refl _, fun _ _ _ => rfl⟩
theorem Kp.trans {lo hi : Nat} {a b c : World} (h : Kp lo hi a b) (k : Kp lo hi b c) : Kp lo hi a c :=
  ⟨k.os.trans h.os, k.tape.trans h.tape, k.output.trans h.output, Nat.le_trans h.size k.size, fun i hi hr => (k.block i (Nat.lt_of_lt_of_le hi h.size) hr).trans (h.block i hi hr)⟩
theorem Kp.of_below {lo hi : Nat} {w w' : World} (h : Below w.heap.size w w') : Kp lo hi w w' := ⟨h.os, h.tape, h.output, h.size, fun k hk _ => h.block k hk⟩
theorem Kp.below {lo hi B : Nat} {w w' : World} (h : Kp lo hi w w') (hl : B ≤ lo) (hs : B ≤ w.heap.size) : Below B w w' :=
  ⟨h.os, h.tape, h.output, h.size, fun k hk => h.block k (Nat.lt_of_lt_of_le hk hs) (.inl (Nat.lt_of_lt_of_le hk hl))⟩
theorem Kp.set {lo hi g o : Nat} (w : World) (v : Value) (h1 : lo ≤ g) (h2 : g < hi) : Kp lo hi w (w.setCell ⟨g, o, none⟩ v) :=
  ⟨rfl, rfl, rfl, by simp, fun k _ hr => Below.heap_setCell w ⟨g, o, none⟩ v k (by show k ≠ g; omega)⟩
theorem Kp.cell {lo hi b o : Nat} {w w' : World} {v : Value} (h : Kp lo hi w w') (hc : w.cell? ⟨b, o, none⟩ = some v) (hr : b < lo ∨ hi ≤ b) : w'.cell? ⟨b, o, none⟩ = some v :=
  (World.cell?_of_block (w := w) (a := ⟨b, o, none⟩) (h.block b (lt_cell hc) hr)).trans hc

/-- v is a list of these numbers, in blocks from lo on, below hi -/
def RowM (W : World) (lo hi : Nat) (v : Value) (xs : List Int) : Prop :=
  ∃ a c, v = .slice a xs.length c ∧ (0 < xs.length → ∃ g off, a = some ⟨g, off, none⟩ ∧ lo ≤ g ∧ g < hi ∧ ∀ j, j < xs.length → W.cell? ⟨g, off + j, none⟩ = some (.int .i64 (xs[j]?.getD 0)) ∧ W.frozen? ⟨g, off + j, none⟩ = false)
theorem RowM.kp {W W' : World} {lo hi lo' hi' : Nat} {v : Value} {xs : List Int} (h : RowM W lo hi v xs) (hk : Kp lo' hi' W W') (hr : hi ≤ lo' ∨ hi' ≤ lo) : RowM W' lo hi v xs := by
  obtain ⟨a, c, h1, h2⟩ := h
  refine ⟨a, c, h1, fun h0 => ?_⟩
  obtain ⟨g, off, h3, h4, h5, h6⟩ := h2 h0
  refine ⟨g, off, h3, h4, h5, fun j hj => ?_⟩
  obtain ⟨k1, k2⟩ := h6 j hj
  have hb := hk.block g (lt_cell k1) (by omega)
  exact ⟨(World.cell?_of_block (w := W) (a := ⟨g, off + j, none⟩) hb).trans k1, (World.frozen?_of_block (w := W) (a := ⟨g, off + j, none⟩) hb).trans k2⟩
theorem RowM.below {W W' : World} {lo hi : Nat} {v : Value} {xs : List Int} (h : RowM W lo hi v xs) (hb : Below W.heap.size W W') : RowM W' lo hi v xs :=
  h.kp (Kp.of_below (lo := hi) (hi := hi) hb) (.inl (Nat.le_refl _))
theorem RowM.mono {W : World} {lo hi lo' hi' : Nat} {v : Value} {xs : List Int} (h : RowM W lo hi v xs) (h1 : lo' ≤ lo) (h2 : hi ≤ hi') : RowM W lo' hi' v xs := by
  obtain ⟨a, c, e1, e2⟩ := h
  refine ⟨a, c, e1, fun h0 => ?_⟩
  obtain ⟨g, off, h3, h4, h5, h6⟩ := e2 h0
  exact ⟨g, off, h3, by omega, by omega, h6⟩
theorem RowM.own {W : World} {base n : Nat} {e : TypeId} {v : Value} {xs : List Int} (h : W.ownsRow base e 1 v n (xs.map (Value.int .i64))) : RowM W base W.heap.size v xs := by
  have hn : xs.length = n := by simpa using h.1
  obtain ⟨a, c, rfl⟩ := own_shape h
  refine ⟨a, c, by rw [hn], fun h0 => ?_⟩
  obtain ⟨g, c', e'⟩ := own_some h (by omega)
  injection e' with e1
  subst e1
  refine ⟨g, 0, rfl, (h.lt g rfl).1, (h.lt g rfl).2, fun j hj => ?_⟩
  rw [Nat.zero_add]
  exact ⟨own_int h hn j (by omega), h.frozenAt j⟩
theorem RowM.empty {W : World} {lo hi : Nat} (a : Option Addr) (c : Nat) : RowM W lo hi (.slice a 0 c) [] := ⟨a, c, rfl, fun h => absurd h (Nat.lt_irrefl _)⟩
theorem RowM.shape {W : World} {lo hi : Nat} {v : Value} {xs : List Int} (h : RowM W lo hi v xs) : ∃ a c, v = .slice a xs.length c := by
  obtain ⟨a, c, h1, _⟩ := h
  exact ⟨a, c, h1⟩

set_option maxRecDepth 100000 in
set_option maxHeartbeats 1000000 in
theorem eqM_any (v u : Value) (zs : List Int) (n l1 h1 l2 h2 : Nat) (w : World) (hn : zs.length = n) (hn2 : n ≤ 1000000000) (H1 : RowM w l1 h1 v zs) (H2 : RowM w l2 h2 u zs) :
    Calls Try.prog 11 #[v, u] w fun x w' => x = .returned (.bool true) ∧ ∃ m, w' = w.drewN m := by
  obtain ⟨a, c, rfl, hv⟩ := H1
  obtain ⟨a', c', rfl, hu⟩ := H2
  rw [hn] at hv hu ⊢
  by_cases h0 : n = 0
  · subst h0
    clear hv hu hn
    go_enter Try.func11, Try.ntmps11
    go_wp2
    go_loop [5] (fun i => i = .int .i64 0) (fun _ => 0)
    case atStart => exact rfl
    case round =>
      subst hrel
      go_wp2
      go_ret
      exact ⟨rfl, 0, rfl⟩
  · obtain ⟨g, off, rfl, -, -, hc⟩ := hv (by omega)
    obtain ⟨g', off', rfl, -, -, hc'⟩ := hu (by omega)
    have H1 : Hid (∀ j, j < n → w.cell? ⟨g, off + j, none⟩ = some (.int .i64 (zs[j]?.getD 0))) := fun j hj => (hc j hj).1
    have H2 : Hid (∀ j, j < n → w.cell? ⟨g', off' + j, none⟩ = some (.int .i64 (zs[j]?.getD 0))) := fun j hj => (hc' j hj).1
    clear hn h0 hc hc' hv hu
    go_enter Try.func11, Try.ntmps11
    go_wp2
    go_loopw [5] (fun i wr => ∃ k : Nat, k ≤ n ∧ i = .int .i64 k ∧ Hid (∃ m, wr = w.drewN m)) (fun i _ => n - (intOf i).toNat)
    case atStart => exact ⟨0, Nat.zero_le _, rfl, 0, rfl⟩
    case round =>
      obtain ⟨k, hk, rfl, hw⟩ := hrel
      obtain ⟨m, rfl⟩ := hw.out
      clear hw
      by_cases hlt : k < n
      · have c1 := H1.out k hlt
        have c2 := H2.out k hlt
        obtain ⟨x, hx⟩ : ∃ x, x = zs[k]?.getD 0 := ⟨_, rfl⟩
        rw [← hx] at c1 c2
        clear hx
        have ht : (x != x) = false := by simp
        go_wp2
        go_quiet (fail)
        go_wp2
        go_roundw
        case rel => exact ⟨k + 1, by omega, by go_num, m + nq, rfl⟩
        case measure => simp [intOf]; omega
      · go_wp2
        go_ret
        exact ⟨rfl, m, rfl⟩

theorem RowM.put {W : World} {lo hi g off c n : Nat} {xs : List Int} (hn : xs.length = n) (h : ∀ j, j < n → W.cell? ⟨g, off + j, none⟩ = some (.int .i64 (xs[j]?.getD 0)) ∧ W.frozen? ⟨g, off + j, none⟩ = false) (h1 : lo ≤ g) (h2 : g < hi) : RowM W lo hi (.slice (some ⟨g, off, none⟩) n c) xs :=
  ⟨_, c, by rw [hn], fun _ => ⟨g, off, rfl, h1, h2, fun j hj => h j (by omega)⟩⟩
theorem mrk_getD (k0 : Int) (zs : List Int) (k j : Nat) (_hj : j < zs.length) (_hk : k ≤ zs.length) : (mrk k0 zs k)[j]?.getD 0 = if j < k then k0 + j else zs[j]?.getD 0 := by
  unfold mrk
  by_cases h : j < k
  · rw [List.getElem?_append_left (by simpa using h), if_pos h]
    simp [h]
  · rw [List.getElem?_append_right (by simp; omega), if_neg h]
    simp only [List.length_map, List.length_range, List.getElem?_drop]
    congr 2
    omega

set_option maxRecDepth 100000 in
set_option maxHeartbeats 1000000 in
theorem markM_any (v : Value) (zs : List Int) (n lo hi : Nat) (k0 : Int) (w : World) (hn : zs.length = n) (hn2 : n ≤ 1000000000) (hk0 : 0 ≤ k0) (hk1 : k0 ≤ 1000000000000000) (H : RowM w lo hi v zs) :
    Calls Try.prog 12 #[v, .int .i64 k0] w fun x w' => x = .returned (.int .i64 (k0 + n)) ∧ RowM w' lo hi v (mrk k0 zs n) ∧ Kp lo hi w w' := by
  obtain ⟨a, c, rfl, hv⟩ := H
  rw [hn] at hv ⊢
  by_cases h0 : n = 0
  · subst h0
    obtain rfl : zs = [] := List.eq_nil_of_length_eq_zero hn
    clear hv hn
    go_enter Try.func12, Try.ntmps12
    go_wp2
    go_loop [1, 5] (fun q i => q = .int .i64 k0 ∧ i = .int .i64 0) (fun _ _ => 0)
    case atStart => exact ⟨rfl, rfl⟩
    case round =>
      obtain ⟨rfl, rfl⟩ := hrel
      go_wp2
      go_ret
      exact ⟨rfl, RowM.empty _ _, Kp.refl _ _ _⟩
  · obtain ⟨g, off, rfl, hg1, hg2, hc⟩ := hv (by omega)
    have HN : Hid (zs.length = n) := hn
    have HG : Hid (lo ≤ g ∧ g < hi) := ⟨hg1, hg2⟩
    have HC : Hid (∀ j, j < n → w.cell? ⟨g, off + j, none⟩ = some (.int .i64 (zs[j]?.getD 0)) ∧ w.frozen? ⟨g, off + j, none⟩ = false) := hc
    clear hn h0 hc hv hg1 hg2
    go_enter Try.func12, Try.ntmps12
    go_wp2
    go_loopw [1, 5] (fun q i wr => ∃ k : Nat, k ≤ n ∧ i = .int .i64 k ∧ q = .int .i64 (k0 + k) ∧ Hid ((∀ j : Nat, j < n → wr.cell? ⟨g, off + j, none⟩ = some (.int .i64 (if j < k then k0 + j else zs[j]?.getD 0)) ∧ wr.frozen? ⟨g, off + j, none⟩ = false) ∧ Kp lo hi w wr)) (fun _ i _ => n - (intOf i).toNat)
    case atStart => exact ⟨0, Nat.zero_le _, rfl, by simp, fun j hj => ⟨by rw [if_neg (by omega)]; exact (HC.out j hj).1, (HC.out j hj).2⟩, Kp.refl _ _ _⟩
    case round =>
      obtain ⟨k, hk, rfl, rfl, hw⟩ := hrel
      by_cases hlt : k < n
      · obtain ⟨c1, f1⟩ := hw.out.1 k hlt
        rw [if_neg (by omega)] at c1
        go_wp2
        go_roundw
        case rel =>
          refine ⟨k + 1, by omega, by go_num, by go_num, fun j hj => ?_, hw.out.2.trans (Kp.set _ _ HG.out.1 HG.out.2)⟩
          obtain ⟨h1, h2⟩ := hw.out.1 j hj
          by_cases e : j = k
          · subst e
            refine ⟨?_, by simpa using h2⟩
            rw [if_pos (by omega)]
            simp [go_sem, h1]
          · refine ⟨?_, by simpa using h2⟩
            have hne : ¬ (⟨g, off + k, none⟩ : Addr) = ⟨g, off + j, none⟩ := by intro e2; injection e2 with _ e3 _; omega
            rw [World.cell?_setCell_other _ _ _ _ hne, h1]
            by_cases hjk : j < k
            · rw [if_pos hjk, if_pos (by omega)]
            · rw [if_neg hjk, if_neg (by omega)]
        case measure => simp [intOf]; omega
      · obtain rfl : k = n := by omega
        go_wp2
        go_ret
        refine ⟨rfl, RowM.put (by rw [mrk_len _ _ _ (by rw [HN.out]; exact Nat.le_refl _)]; exact HN.out) (fun j hj => ?_) HG.out.1 HG.out.2, hw.out.2⟩
        obtain ⟨h1, h2⟩ := hw.out.1 j hj
        exact ⟨by rw [mrk_getD _ _ _ _ (by rw [HN.out]; exact hj) (by rw [HN.out]; exact Nat.le_refl _)]; exact h1, h2⟩

set_option maxRecDepth 100000 in
set_option maxHeartbeats 1000000 in
theorem heldM_any (v : Value) (zs : List Int) (n lo hi : Nat) (k0 : Int) (w : World) (hn : zs.length = n) (hn2 : n ≤ 1000000000) (hk0 : 0 ≤ k0) (hk1 : k0 ≤ 1000000000000000) (H : RowM w lo hi v (mrk k0 zs n)) :
    Calls Try.prog 13 #[v, .int .i64 k0] w fun x w' => x = .returned (.int .i64 (k0 + n)) ∧ ∃ m, w' = w.drewN m := by
  obtain ⟨a, c, rfl, hv⟩ := H
  have hml : (mrk k0 zs n).length = n := by rw [mrk_len _ _ _ (by omega)]; exact hn
  rw [hml] at hv ⊢
  by_cases h0 : n = 0
  · subst h0
    clear hn hv hml
    go_enter Try.func13, Try.ntmps13
    go_wp2
    go_loop [1, 5] (fun q i => q = .int .i64 k0 ∧ i = .int .i64 0) (fun _ _ => 0)
    case atStart => exact ⟨rfl, rfl⟩
    case round =>
      obtain ⟨rfl, rfl⟩ := hrel
      go_wp2
      go_ret
      exact ⟨rfl, 0, rfl⟩
  · obtain ⟨g, off, rfl, -, -, hc⟩ := hv (by omega)
    have H1 : Hid (∀ j : Nat, j < n → w.cell? ⟨g, off + j, none⟩ = some (.int .i64 (k0 + j))) := fun j hj => by
      have h := (hc j hj).1
      rw [mrk_getD _ _ _ _ (by omega) (by omega), if_pos hj] at h
      exact h
    clear h0 hn hc hv hml
    go_enter Try.func13, Try.ntmps13
    go_wp2
    go_loopw [1, 5] (fun q i wr => ∃ k : Nat, k ≤ n ∧ i = .int .i64 k ∧ q = .int .i64 (k0 + k) ∧ Hid (∃ m, wr = w.drewN m)) (fun _ i _ => n - (intOf i).toNat)
    case atStart => exact ⟨0, Nat.zero_le _, rfl, by simp, 0, rfl⟩
    case round =>
      obtain ⟨k, hk, rfl, rfl, hw⟩ := hrel
      obtain ⟨m, rfl⟩ := hw.out
      clear hw
      by_cases hlt : k < n
      · have c1 := H1.out k hlt
        have ht : ((k0 + (k : Int)) != (k0 + (k : Int))) = false := by simp
        go_wp2
        go_roundw
        case rel => exact ⟨k + 1, by omega, by go_num, by go_num, m, rfl⟩
        case measure => simp [intOf]; omega
      · obtain rfl : k = n := by omega
        go_wp2
        go_ret
        exact ⟨rfl, m, rfl⟩
end Go.Proofs.Ytijdggcfjkfgcal
