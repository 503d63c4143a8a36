/- The walks of the laws' helpers over rows of whole numbers, whatever their blocks' type and wherever the marks begin. -/
import Derived.Test.YtijdggcfjkfgcalRowsW
namespace Go.Proofs.Ytijdggcfjkfgcal
open Go.RowKit Go.Proofs.Ytijdggcfjkfgcal.RM

/-- rows that lie apart: one stays where the other one is written -/
theorem own_sep {w w' : World} {base base' : Nat} {e e' : TypeId} {size size' : Nat} {v v' : Value} {n n' : Nat} {xs xs' : List Value} (h : w.ownsRow base e size v n xs) (_h' : w.ownsRow base' e' size' v' n' xs') (hne : ∀ k, v.ownBlock = some k → v'.ownBlock ≠ some k) (hg : w.grownBy w' v'.ownBlock) : w'.ownsRow base e size v n xs := by
  refine h.kept hg ?_
  by_cases k : v.ownBlock = none
  · exact .inl k
  · refine .inr fun e' => ?_
    obtain ⟨j, hj⟩ := Option.ne_none_iff_exists'.mp k
    exact hne j hj (e' ▸ hj)
theorem below_wrote {w w' : World} {B base : Nat} {e : TypeId} {size : Nat} {v : Value} {n : Nat} {xs : List Value} (h : w.ownsRow base e size v n xs) (hB : B ≤ base) (hs : B ≤ w.heap.size) (hg : w.grownBy w' v.ownBlock) : Below B w w' :=
  (Below.refl B w).grown hg hs (fun j ej => by have := (h.lt j ej).1; omega)

set_option maxRecDepth 100000 in
set_option maxHeartbeats 1000000 in
theorem eqG_same (v u : Value) (zs : List Int) (n b1 b2 : Nat) (e1 e2 : TypeId) (w : World) (hn : zs.length = n) (hn2 : n ≤ 1000000000) (h1 : w.ownsRow b1 e1 1 v n (zs.map (Value.int .i64))) (h2 : w.ownsRow b2 e2 1 u n (zs.map (Value.int .i64))) :
    Calls Try.prog 11 #[v, u] w fun x w' => x = .returned (.bool true) ∧ ∃ m, w' = w.drewN m := by
  by_cases h0 : n = 0
  · obtain ⟨a, c, rfl⟩ := own_shape h1
    obtain ⟨a', c', rfl⟩ := own_shape h2
    subst h0
    clear h1 h2 hn
    go_enter Try.func11, Try.ntmps11
    go_wp2
    go_loop [5] (fun i => i = .int .i64 0) (fun _ => 0)
    case atStart => exact rfl
    case round =>
      subst hrel
      go_wp2
      go_ret
      exact ⟨rfl, 0, rfl⟩
  · obtain ⟨g, c, rfl⟩ := own_some h1 (by omega)
    obtain ⟨g', c', rfl⟩ := own_some h2 (by omega)
    have H1 : Hid (∀ j, j < n → w.cell? ⟨g, j, none⟩ = some (.int .i64 (zs[j]?.getD 0))) := fun j hj => own_int h1 hn j hj
    have H2 : Hid (∀ j, j < n → w.cell? ⟨g', j, none⟩ = some (.int .i64 (zs[j]?.getD 0))) := fun j hj => own_int h2 hn j hj
    clear h1 h2 hn h0
    go_enter Try.func11, Try.ntmps11
    go_wp2
    go_loopw [5] (fun i wr => ∃ k : Nat, k ≤ n ∧ i = .int .i64 k ∧ Hid (∃ m, wr = w.drewN m)) (fun i _ => n - (intOf i).toNat)
    case atStart => exact ⟨0, Nat.zero_le _, rfl, 0, rfl⟩
    case round =>
      obtain ⟨k, hk, rfl, hw⟩ := hrel
      obtain ⟨m, rfl⟩ := hw.out
      clear hw
      by_cases hlt : k < n
      · have c1 := H1.out k hlt
        have c2 := H2.out k hlt
        obtain ⟨x, hx⟩ : ∃ x, x = zs[k]?.getD 0 := ⟨_, rfl⟩
        rw [← hx] at c1 c2
        clear hx
        have ht : (x != x) = false := by simp
        go_wp2
        go_quiet (fail)
        go_wp2
        go_roundw
        case rel => exact ⟨k + 1, by omega, by go_num, m + nq, rfl⟩
        case measure => simp [intOf]; omega
      · go_wp2
        go_ret
        exact ⟨rfl, m, rfl⟩

set_option maxRecDepth 100000 in
set_option maxHeartbeats 1000000 in
theorem markG_any (v : Value) (zs : List Int) (n base : Nat) (e : TypeId) (k0 : Int) (w : World) (hn : zs.length = n) (hn2 : n ≤ 1000000000) (hk0 : 0 ≤ k0) (hk1 : k0 ≤ 1000000000000000) (h1 : w.ownsRow base e 1 v n (zs.map (Value.int .i64))) :
    Calls Try.prog 12 #[v, .int .i64 k0] w fun x w' => x = .returned (.int .i64 (k0 + n)) ∧ w'.ownsRow base e 1 v n ((mrk k0 zs n).map (Value.int .i64)) ∧ w.grownBy w' v.ownBlock := by
  by_cases h0 : n = 0
  · obtain ⟨a, c, rfl⟩ := own_shape h1
    subst h0
    obtain rfl : zs = [] := List.eq_nil_of_length_eq_zero hn
    have H1 : Hid (w.ownsRow base e 1 (.slice a 0 c) 0 []) := h1
    clear h1 hn
    go_enter Try.func12, Try.ntmps12
    go_wp2
    go_loop [1, 5] (fun q i => q = .int .i64 k0 ∧ i = .int .i64 0) (fun _ _ => 0)
    case atStart => exact ⟨rfl, rfl⟩
    case round =>
      obtain ⟨rfl, rfl⟩ := hrel
      go_wp2
      go_ret
      exact ⟨rfl, by simpa [mrk] using H1.out, (grown_of_below (Below.refl _ _)).but _⟩
  · obtain ⟨g, c, rfl⟩ := own_some h1 (by omega)
    have H1 : Hid (w.ownsRow base e 1 (.slice (some ⟨g, 0, none⟩) n c) n (zs.map (Value.int .i64))) := h1
    clear h1 h0
    go_enter Try.func12, Try.ntmps12
    go_wp2
    go_loopw [1, 5] (fun q i wr => ∃ k : Nat, k ≤ n ∧ i = .int .i64 k ∧ q = .int .i64 (k0 + k) ∧ Hid (wr.ownsRow base e 1 (.slice (some ⟨g, 0, none⟩) n c) n ((mrk k0 zs k).map (Value.int .i64)) ∧ w.grownBy wr (some g))) (fun _ i _ => n - (intOf i).toNat)
    case atStart => exact ⟨0, Nat.zero_le _, rfl, by simp, by rw [mrk_zero]; exact H1.out, (grown_of_below (Below.refl _ _)).but _⟩
    case round =>
      obtain ⟨k, hk, rfl, rfl, hw⟩ := hrel
      by_cases hlt : k < n
      · have c1 := own_int hw.out.1 (by rw [mrk_len _ _ _ (by omega)]; exact hn) k hlt
        have f1 := hw.out.1.frozenAt k
        go_wp2
        go_roundw
        case rel =>
          obtain ⟨s1, s2⟩ := hw.out.1.stored k (.int .i64 (k0 + k))
          refine ⟨k + 1, by omega, by go_num, by go_num, ?_, hw.out.2.trans s2⟩
          rw [← mrk_set _ _ _ (by omega), List.map_set]
          exact s1
        case measure => simp [intOf]; omega
      · obtain rfl : k = n := by omega
        go_wp2
        go_ret
        exact ⟨rfl, hw.out.1, hw.out.2⟩

set_option maxRecDepth 100000 in
set_option maxHeartbeats 1000000 in
theorem heldG_any (v : Value) (zs : List Int) (n base : Nat) (e : TypeId) (k0 : Int) (w : World) (hn : zs.length = n) (hn2 : n ≤ 1000000000) (hk0 : 0 ≤ k0) (hk1 : k0 ≤ 1000000000000000) (h1 : w.ownsRow base e 1 v n ((mrk k0 zs n).map (Value.int .i64))) :
    Calls Try.prog 13 #[v, .int .i64 k0] w fun x w' => x = .returned (.int .i64 (k0 + n)) ∧ ∃ m, w' = w.drewN m := by
  by_cases h0 : n = 0
  · obtain ⟨a, c, rfl⟩ := own_shape h1
    subst h0
    clear h1 hn
    go_enter Try.func13, Try.ntmps13
    go_wp2
    go_loop [1, 5] (fun q i => q = .int .i64 k0 ∧ i = .int .i64 0) (fun _ _ => 0)
    case atStart => exact ⟨rfl, rfl⟩
    case round =>
      obtain ⟨rfl, rfl⟩ := hrel
      go_wp2
      go_ret
      exact ⟨rfl, 0, rfl⟩
  · obtain ⟨g, c, rfl⟩ := own_some h1 (by omega)
    have H1 : Hid (∀ j : Nat, j < n → w.cell? ⟨g, j, none⟩ = some (.int .i64 (k0 + j))) := fun j hj => by
      rw [own_int h1 (by subst hn; exact mrk_len _ _ _ (Nat.le_refl _)) j hj]
      subst hn
      rw [mrk_at _ _ _ hj]
    clear h1 h0 hn
    go_enter Try.func13, Try.ntmps13
    go_wp2
    go_loopw [1, 5] (fun q i wr => ∃ k : Nat, k ≤ n ∧ i = .int .i64 k ∧ q = .int .i64 (k0 + k) ∧ Hid (∃ m, wr = w.drewN m)) (fun _ i _ => n - (intOf i).toNat)
    case atStart => exact ⟨0, Nat.zero_le _, rfl, by simp, 0, rfl⟩
    case round =>
      obtain ⟨k, hk, rfl, rfl, hw⟩ := hrel
      obtain ⟨m, rfl⟩ := hw.out
      clear hw
      by_cases hlt : k < n
      · have c1 := H1.out k hlt
        have ht : ((k0 + (k : Int)) != (k0 + (k : Int))) = false := by simp
        go_wp2
        go_roundw
        case rel => exact ⟨k + 1, by omega, by go_num, by go_num, m, rfl⟩
        case measure => simp [intOf]; omega
      · obtain rfl : k = n := by omega
        go_wp2
        go_ret
        exact ⟨rfl, m, rfl⟩
end Go.Proofs.Ytijdggcfjkfgcal
