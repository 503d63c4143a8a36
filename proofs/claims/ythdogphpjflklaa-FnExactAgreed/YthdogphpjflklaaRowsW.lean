/- The walks of the laws' helpers over rows of whole numbers: held against each other, marked, held to be marked. -/
import Derived.Test.YthdogphpjflklaaTermsW
namespace Go.Proofs.Ythdogphpjflklaa
open Go.RowKit Go.Proofs.Ythdogphpjflklaa.RM

theorem own_shape {W : World} {base : Nat} {e : TypeId} {size : Nat} {v : Value} {n : Nat} {xs : List Value} (h : W.ownsRow base e size v n xs) : ∃ a c, v = .slice a n c := by
  rcases h.2 with ⟨rfl, rfl⟩ | ⟨g, cap, cur, rfl, _⟩
  · exact ⟨_, _, rfl⟩
  · exact ⟨_, _, rfl⟩
theorem own_some {W : World} {base : Nat} {e : TypeId} {size : Nat} {v : Value} {n : Nat} {xs : List Value} (h : W.ownsRow base e size v n xs) (hn : 0 < n) : ∃ g c, v = .slice (some ⟨g, 0, none⟩) n c := by
  rcases h.2 with ⟨rfl, rfl⟩ | ⟨g, cap, cur, rfl, _⟩
  · omega
  · exact ⟨_, _, rfl⟩
theorem own_int {W : World} {base : Nat} {e : TypeId} {g n c : Nat} {zs : List Int} (h : W.ownsRow base e 1 (.slice (some ⟨g, 0, none⟩) n c) n (zs.map (Value.int .i64))) (hl : zs.length = n) (j : Nat) (hj : j < n) : W.cell? ⟨g, j, none⟩ = some (.int .i64 (zs[j]?.getD 0)) := by
  have h1 := h.cellAt j (by omega)
  rw [h1, List.getElem?_map, List.getElem?_eq_getElem (by omega)]
  rfl
theorem own_drewN {w : World} {base : Nat} {e : TypeId} {size : Nat} {v : Value} {n : Nat} {xs : List Value} (h : w.ownsRow base e size v n xs) (m : Nat) : (w.drewN m).ownsRow base e size v n xs := own_below h (below_drewN (Below.refl _ _) m)

set_option maxRecDepth 100000 in
set_option maxHeartbeats 1000000 in
theorem eqI_same (v u : Value) (zs : List Int) (n b1 b2 : Nat) (w : World) (hn : zs.length = n) (hn2 : n ≤ 1000000000) (h1 : w.ownsRow b1 2 1 v n (zs.map (Value.int .i64))) (h2 : w.ownsRow b2 2 1 u n (zs.map (Value.int .i64))) :
    Calls Try.prog 27 #[v, u] w fun e w' => e = .returned (.bool true) ∧ ∃ m, w' = w.drewN m := by
  by_cases h0 : n = 0
  · obtain ⟨a, c, rfl⟩ := own_shape h1
    obtain ⟨a', c', rfl⟩ := own_shape h2
    subst h0
    clear h1 h2 hn
    go_enter Try.func27, Try.ntmps27
    go_wp2
    go_loop [5] (fun i => i = .int .i64 0) (fun _ => 0)
    case atStart => exact rfl
    case round =>
      subst hrel
      go_wp2
      go_ret
      exact ⟨rfl, 0, rfl⟩
  · obtain ⟨g, c, rfl⟩ := own_some h1 (by omega)
    obtain ⟨g', c', rfl⟩ := own_some h2 (by omega)
    have H1 : Hid (∀ j, j < n → w.cell? ⟨g, j, none⟩ = some (.int .i64 (zs[j]?.getD 0))) := fun j hj => own_int h1 hn j hj
    have H2 : Hid (∀ j, j < n → w.cell? ⟨g', j, none⟩ = some (.int .i64 (zs[j]?.getD 0))) := fun j hj => own_int h2 hn j hj
    clear h1 h2 hn h0
    go_enter Try.func27, Try.ntmps27
    go_wp2
    go_loopw [5] (fun i wr => ∃ k : Nat, k ≤ n ∧ i = .int .i64 k ∧ Hid (∃ m, wr = w.drewN m)) (fun i _ => n - (intOf i).toNat)
    case atStart => exact ⟨0, Nat.zero_le _, rfl, 0, rfl⟩
    case round =>
      obtain ⟨k, hk, rfl, hw⟩ := hrel
      obtain ⟨m, rfl⟩ := hw.out
      clear hw
      by_cases hlt : k < n
      · have c1 := H1.out k hlt
        have c2 := H2.out k hlt
        obtain ⟨x, hx⟩ : ∃ x, x = zs[k]?.getD 0 := ⟨_, rfl⟩
        rw [← hx] at c1 c2
        clear hx
        have ht : (x != x) = false := by simp
        go_wp2
        go_quiet (fail)
        go_wp2
        go_roundw
        case rel => exact ⟨k + 1, by omega, by go_num, m + nq, rfl⟩
        case measure => simp [intOf]; omega
      · go_wp2
        go_ret
        exact ⟨rfl, m, rfl⟩

/-- what is marked when j of n have been: k, k + 1, .., and the rest as it was -/
def mrk (k : Int) (zs : List Int) (j : Nat) : List Int := (List.range j).map (fun (i : Nat) => k + (i : Int)) ++ zs.drop j
theorem mrk_len (k : Int) (zs : List Int) (j : Nat) (h : j ≤ zs.length) : (mrk k zs j).length = zs.length := by simp [mrk]; omega
theorem mrk_zero (k : Int) (zs : List Int) : mrk k zs 0 = zs := by simp [mrk]
theorem mrk_set (k : Int) (zs : List Int) (j : Nat) (h : j < zs.length) : (mrk k zs j).set j (k + j) = mrk k zs (j + 1) := by
  apply List.ext_getElem?
  intro i
  simp only [mrk, List.getElem?_set, List.getElem?_append, List.length_map, List.length_range, List.getElem?_map, List.getElem?_drop, List.length_append, List.length_drop]
  by_cases h1 : j = i
  · subst h1
    rw [if_pos rfl, if_pos (by omega), if_pos (by omega), List.getElem?_range (by omega)]; rfl
  · rw [if_neg h1]
    by_cases h2 : i < j
    · rw [if_pos h2, if_pos (by omega), List.getElem?_range (by omega), List.getElem?_range (by omega)]
    · rw [if_neg h2, if_neg (by omega)]
      congr 1; omega
theorem mrk_at (k : Int) (zs : List Int) (j : Nat) (h : j < zs.length) : (mrk k zs zs.length)[j]?.getD 0 = k + j := by
  simp [mrk, h]

set_option maxRecDepth 100000 in
set_option maxHeartbeats 1000000 in
theorem markI_any (v : Value) (zs : List Int) (n base : Nat) (w : World) (hn : zs.length = n) (hn2 : n ≤ 1000000000) (h1 : w.ownsRow base 2 1 v n (zs.map (Value.int .i64))) :
    Calls Try.prog 29 #[v, .int .i64 1] w fun e w' => e = .returned (.int .i64 (1 + n)) ∧ w'.ownsRow base 2 1 v n ((mrk 1 zs n).map (Value.int .i64)) ∧ w.grownBy w' v.ownBlock := by
  by_cases h0 : n = 0
  · obtain ⟨a, c, rfl⟩ := own_shape h1
    subst h0
    obtain rfl : zs = [] := List.eq_nil_of_length_eq_zero hn
    have H1 : Hid (w.ownsRow base 2 1 (.slice a 0 c) 0 []) := h1
    clear h1 hn
    go_enter Try.func29, Try.ntmps29
    go_wp2
    go_loop [1, 5] (fun q i => q = .int .i64 1 ∧ i = .int .i64 0) (fun _ _ => 0)
    case atStart => exact ⟨rfl, rfl⟩
    case round =>
      obtain ⟨rfl, rfl⟩ := hrel
      go_wp2
      go_ret
      exact ⟨rfl, by simpa [mrk] using H1.out, (grown_of_below (Below.refl _ _)).but _⟩
  · obtain ⟨g, c, rfl⟩ := own_some h1 (by omega)
    have H1 : Hid (w.ownsRow base 2 1 (.slice (some ⟨g, 0, none⟩) n c) n (zs.map (Value.int .i64))) := h1
    clear h1 h0
    go_enter Try.func29, Try.ntmps29
    go_wp2
    go_loopw [1, 5] (fun q i wr => ∃ k : Nat, k ≤ n ∧ i = .int .i64 k ∧ q = .int .i64 (1 + k) ∧ Hid (wr.ownsRow base 2 1 (.slice (some ⟨g, 0, none⟩) n c) n ((mrk 1 zs k).map (Value.int .i64)) ∧ w.grownBy wr (some g))) (fun _ i _ => n - (intOf i).toNat)
    case atStart => exact ⟨0, Nat.zero_le _, rfl, rfl, by rw [mrk_zero]; exact H1.out, (grown_of_below (Below.refl _ _)).but _⟩
    case round =>
      obtain ⟨k, hk, rfl, rfl, hw⟩ := hrel
      by_cases hlt : k < n
      · have c1 := own_int hw.out.1 (by rw [mrk_len _ _ _ (by omega)]; exact hn) k hlt
        have f1 := hw.out.1.frozenAt k
        go_wp2
        go_roundw
        case rel =>
          obtain ⟨s1, s2⟩ := hw.out.1.stored k (.int .i64 (1 + k))
          refine ⟨k + 1, by omega, by go_num, by go_num, ?_, hw.out.2.trans s2⟩
          rw [← mrk_set _ _ _ (by omega), List.map_set]
          exact s1
        case measure => simp [intOf]; omega
      · obtain rfl : k = n := by omega
        go_wp2
        go_ret
        exact ⟨rfl, hw.out.1, hw.out.2⟩

set_option maxRecDepth 100000 in
set_option maxHeartbeats 1000000 in
theorem heldI_any (v : Value) (zs : List Int) (n base : Nat) (w : World) (hn : zs.length = n) (hn2 : n ≤ 1000000000) (h1 : w.ownsRow base 2 1 v n ((mrk 1 zs n).map (Value.int .i64))) :
    Calls Try.prog 30 #[v, .int .i64 1] w fun e w' => e = .returned (.int .i64 (1 + n)) ∧ ∃ m, w' = w.drewN m := by
  by_cases h0 : n = 0
  · obtain ⟨a, c, rfl⟩ := own_shape h1
    subst h0
    clear h1 hn
    go_enter Try.func30, Try.ntmps30
    go_wp2
    go_loop [1, 5] (fun q i => q = .int .i64 1 ∧ i = .int .i64 0) (fun _ _ => 0)
    case atStart => exact ⟨rfl, rfl⟩
    case round =>
      obtain ⟨rfl, rfl⟩ := hrel
      go_wp2
      go_ret
      exact ⟨rfl, 0, rfl⟩
  · obtain ⟨g, c, rfl⟩ := own_some h1 (by omega)
    have H1 : Hid (∀ j : Nat, j < n → w.cell? ⟨g, j, none⟩ = some (.int .i64 (1 + j))) := fun j hj => by
      rw [own_int h1 (by subst hn; exact mrk_len _ _ _ (Nat.le_refl _)) j hj]
      subst hn
      rw [mrk_at _ _ _ hj]
    clear h1 h0 hn
    go_enter Try.func30, Try.ntmps30
    go_wp2
    go_loopw [1, 5] (fun q i wr => ∃ k : Nat, k ≤ n ∧ i = .int .i64 k ∧ q = .int .i64 (1 + k) ∧ Hid (∃ m, wr = w.drewN m)) (fun _ i _ => n - (intOf i).toNat)
    case atStart => exact ⟨0, Nat.zero_le _, rfl, rfl, 0, rfl⟩
    case round =>
      obtain ⟨k, hk, rfl, rfl, hw⟩ := hrel
      obtain ⟨m, rfl⟩ := hw.out
      clear hw
      by_cases hlt : k < n
      · have c1 := H1.out k hlt
        have ht : ((1 + (k : Int)) != (1 + (k : Int))) = false := by simp
        go_wp2
        go_roundw
        case rel => exact ⟨k + 1, by omega, by go_num, by go_num, m, rfl⟩
        case measure => simp [intOf]; omega
      · obtain rfl : k = n := by omega
        go_wp2
        go_ret
        exact ⟨rfl, m, rfl⟩
end Go.Proofs.Ythdogphpjflklaa
