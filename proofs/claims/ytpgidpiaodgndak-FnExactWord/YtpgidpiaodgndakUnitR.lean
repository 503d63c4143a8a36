/- The laws' helpers over a row of numbers that lies anywhere in its block. -/
import Derived.Test.YtpgidpiaodgndakUnitW5
import Derived.Test.YtpgidpiaodgndakRowsI
namespace Go.Proofs.Ytpgidpiaodgndak
open Go.RowKit Go.Proofs.Ytpgidpiaodgndak.RM

theorem RowU.cells {W : World} {base : Nat} {v : Value} {xs : List Int} (h : RowU W base v xs) : ∃ g off, v = .slice (some ⟨g, off, none⟩) xs.length xs.length ∧ base ≤ g ∧ g < W.heap.size ∧ ∀ j, j < xs.length → W.cell? ⟨g, off + j, none⟩ = some (.int .i64 (xs[j]?.getD 0)) ∧ W.frozen? ⟨g, off + j, none⟩ = false := by
  obtain ⟨g, off, vs, t, h1, h2, h3, h4, h5⟩ := h
  exact ⟨g, off, h1, h2, h3.lt, fun j hj => ⟨h3.cell _ (h5 j hj), h3.frozen _⟩⟩
theorem RowU.drewN {W : World} {base : Nat} {v : Value} {xs : List Int} (h : RowU W base v xs) (m : Nat) : RowU (W.drewN m) base v xs := h.below (below_drewN (Below.refl _ _) _)

set_option maxRecDepth 100000 in
set_option maxHeartbeats 1000000 in
theorem eqU_same (v u : Value) (zs : List Int) (n b1 b2 : Nat) (e2 : TypeId) (w : World) (hn : zs.length = n) (hn2 : n ≤ 1000000000) (h1 : RowU w b1 v zs) (h2 : w.ownsRow b2 e2 1 u n (zs.map (Value.int .i64))) :
    Calls Try.prog 19 #[v, u] w fun x w' => x = .returned (.bool true) ∧ ∃ m, w' = w.drewN m := by
  obtain ⟨g, off, rfl, -, -, hc⟩ := h1.cells
  rw [hn] at hc ⊢
  by_cases h0 : n = 0
  · obtain ⟨a', c', rfl⟩ := own_shape h2
    subst h0
    clear h1 h2 hn hc
    go_enter Try.func19, Try.ntmps19
    go_wp2
    go_loop [5] (fun i => i = .int .i64 0) (fun _ => 0)
    case atStart => exact rfl
    case round =>
      subst hrel
      go_wp2
      go_ret
      exact ⟨rfl, 0, rfl⟩
  · obtain ⟨g', c', rfl⟩ := own_some h2 (by omega)
    have H1 := hidU hc
    have H2 : Hid (∀ j, j < n → w.cell? ⟨g', j, none⟩ = some (.int .i64 (zs[j]?.getD 0))) := fun j hj => own_int h2 hn j hj
    clear h1 h2 hn h0 hc
    go_enter Try.func19, Try.ntmps19
    go_wp2
    go_loopw [5] (fun i wr => ∃ k : Nat, k ≤ n ∧ i = .int .i64 k ∧ Hid (∃ m, wr = w.drewN m)) (fun i _ => n - (intOf i).toNat)
    case atStart => exact ⟨0, Nat.zero_le _, rfl, 0, rfl⟩
    case round =>
      obtain ⟨k, hk, rfl, hw⟩ := hrel
      obtain ⟨m, rfl⟩ := hw.out
      clear hw
      by_cases hlt : k < n
      · have c1 := (H1.out k hlt).1
        have c2 := H2.out k hlt
        obtain ⟨x, hx⟩ : ∃ x, x = zs[k]?.getD 0 := ⟨_, rfl⟩
        rw [← hx] at c1 c2
        clear hx
        have ht : (x != x) = false := by simp
        go_wp2
        go_quiet (fail)
        go_wp2
        go_roundw
        case rel => exact ⟨k + 1, by omega, by go_num, m + nq, rfl⟩
        case measure => simp [intOf]; omega
      · go_wp2
        go_ret
        exact ⟨rfl, m, rfl⟩

/-- the marks: number j has become k0 + j where j is below k -/
def MkU (W : World) (g off n : Nat) (k0 : Int) (zs : List Int) (k : Nat) : Prop := ∀ j : Nat, j < n → W.cell? ⟨g, off + j, none⟩ = some (.int .i64 (if j < k then k0 + j else zs[j]?.getD 0)) ∧ W.frozen? ⟨g, off + j, none⟩ = false
theorem MkU.step {W : World} {g off n k : Nat} {k0 : Int} {zs : List Int} (h : MkU W g off n k0 zs k) (hk : k < n) : MkU (W.setCell ⟨g, off + k, none⟩ (.int .i64 (k0 + k))) g off n k0 zs (k + 1) := by
  intro j hj
  obtain ⟨h1, h2⟩ := h j hj
  by_cases e : j = k
  · subst e
    refine ⟨?_, by simpa using h2⟩
    rw [if_pos (by omega)]
    simp [go_sem, h1]
  · refine ⟨?_, by simpa using h2⟩
    have hne : ¬ (⟨g, off + k, none⟩ : Addr) = ⟨g, off + j, none⟩ := by intro e2; injection e2 with _ e3 _; omega
    rw [World.cell?_setCell_other _ _ _ _ hne, h1]
    by_cases hjk : j < k
    · rw [if_pos hjk, if_pos (by omega)]
    · rw [if_neg hjk, if_neg (by omega)]
theorem MkU.below {W W' : World} {g off n k : Nat} {k0 : Int} {zs : List Int} (h : MkU W g off n k0 zs k) (hg : g < W.heap.size) (hb : Below W.heap.size W W') : MkU W' g off n k0 zs k := fun j hj => by
  obtain ⟨h1, h2⟩ := h j hj
  exact ⟨(hb.cell (p := ⟨g, off + j, none⟩) hg).trans h1, (hb.frozen (p := ⟨g, off + j, none⟩) hg).trans h2⟩

set_option maxRecDepth 100000 in
set_option maxHeartbeats 1000000 in
theorem markU_any (g off n : Nat) (zs : List Int) (k0 : Int) (w : World) (hn2 : n ≤ 1000000000) (hk0 : 0 ≤ k0) (hk1 : k0 ≤ 1000000000000000) (h1 : MkU w g off n k0 zs 0) :
    Calls Try.prog 20 #[.slice (some ⟨g, off, none⟩) n n, .int .i64 k0] w fun x w' => x = .returned (.int .i64 (k0 + n)) ∧ MkU w' g off n k0 zs n ∧ w.grownBy w' (some g) := by
  have H1 := hidU h1
  clear h1
  go_enter Try.func20, Try.ntmps20
  go_wp2
  go_loopw [1, 5] (fun q i wr => ∃ k : Nat, k ≤ n ∧ i = .int .i64 k ∧ q = .int .i64 (k0 + k) ∧ Hid (MkU wr g off n k0 zs k ∧ w.grownBy wr (some g))) (fun _ i _ => n - (intOf i).toNat)
  case atStart => exact ⟨0, Nat.zero_le _, rfl, by simp, H1.out, (grown_of_below (Below.refl _ _)).but _⟩
  case round =>
    obtain ⟨k, hk, rfl, rfl, hw⟩ := hrel
    by_cases hlt : k < n
    · obtain ⟨c1, f1⟩ := hw.out.1 k hlt
      rw [if_neg (by omega)] at c1
      go_wp2
      go_roundw
      case rel =>
        refine ⟨k + 1, by omega, by go_num, by go_num, hw.out.1.step hlt, hw.out.2.trans ?_⟩
        exact ⟨rfl, rfl, rfl, by simp, fun j _ hj => Below.heap_setCell wr ⟨g, off + k, none⟩ _ j (fun e => hj (by rw [e]))⟩
      case measure => simp [intOf]; omega
    · obtain rfl : k = n := by omega
      go_wp2
      go_ret
      exact ⟨rfl, hw.out.1, hw.out.2⟩

set_option maxRecDepth 100000 in
set_option maxHeartbeats 1000000 in
theorem heldU_any' (g off n : Nat) (zs : List Int) (k0 : Int) (w : World) (hn2 : n ≤ 1000000000) (hk0 : 0 ≤ k0) (hk1 : k0 ≤ 1000000000000000) (h1 : MkU w g off n k0 zs n) :
    Calls Try.prog 21 #[.slice (some ⟨g, off, none⟩) n n, .int .i64 k0] w fun x w' => x = .returned (.int .i64 (k0 + n)) ∧ ∃ m, w' = w.drewN m := by
  have H1 : Hid (∀ j : Nat, j < n → w.cell? ⟨g, off + j, none⟩ = some (.int .i64 (k0 + j))) := fun j hj => by
    have := (h1 j hj).1
    rw [if_pos hj] at this
    exact this
  clear h1
  go_enter Try.func21, Try.ntmps21
  go_wp2
  go_loopw [1, 5] (fun q i wr => ∃ k : Nat, k ≤ n ∧ i = .int .i64 k ∧ q = .int .i64 (k0 + k) ∧ Hid (∃ m, wr = w.drewN m)) (fun _ i _ => n - (intOf i).toNat)
  case atStart => exact ⟨0, Nat.zero_le _, rfl, by simp, 0, rfl⟩
  case round =>
    obtain ⟨k, hk, rfl, rfl, hw⟩ := hrel
    obtain ⟨m, rfl⟩ := hw.out
    clear hw
    by_cases hlt : k < n
    · have c1 := H1.out k hlt
      have ht : ((k0 + (k : Int)) != (k0 + (k : Int))) = false := by simp
      go_wp2
      go_roundw
      case rel => exact ⟨k + 1, by omega, by go_num, by go_num, m, rfl⟩
      case measure => simp [intOf]; omega
    · obtain rfl : k = n := by omega
      go_wp2
      go_ret
      exact ⟨rfl, m, rfl⟩
end Go.Proofs.Ytpgidpiaodgndak
