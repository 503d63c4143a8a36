/- The law's comparison of two lists of numbers, alike or not; what powers of dimensions are. -/
import Derived.Test.YtbbkejfcheobaabDoorLikeW
import Derived.Test.YtbbkejfcheobaabDoorRowsI
namespace Go.Proofs.YtbbkejfcheobaabDoor
open Go.RowKit Go.Proofs.YtbbkejfcheobaabDoor.RM

theorem hidJ {p : Prop} (h : p) : Hid p := h
set_option maxRecDepth 100000 in
set_option maxHeartbeats 1000000 in
theorem likeI_any (v u : Value) (zs ys : List Int) (b1 b2 : Nat) (e1 e2 : TypeId) (w : World) (hz : zs.length ≤ 1000000000) (hy : ys.length ≤ 1000000000) (h1 : w.ownsRow b1 e1 1 v zs.length (zs.map (Value.int .i64))) (h2 : w.ownsRow b2 e2 1 u ys.length (ys.map (Value.int .i64))) :
    Calls Tryd.prog 10 #[v, u] w fun e w' => e = .returned (.bool (decide (zs = ys))) ∧ Below w.heap.size w w' := by
  obtain ⟨n, hn⟩ : ∃ n, n = zs.length := ⟨_, rfl⟩
  obtain ⟨m, hm⟩ : ∃ m, m = ys.length := ⟨_, rfl⟩
  rw [← hn] at h1 hz
  rw [← hm] at h2 hy
  obtain ⟨a, c, rfl⟩ := own_shape h1
  obtain ⟨a', c', rfl⟩ := own_shape h2
  have H1 : Hid (∀ j, j < n → ∃ g, a = some ⟨g, 0, none⟩ ∧ w.cell? ⟨g, j, none⟩ = some (.int .i64 (zs[j]?.getD 0))) := by
    intro j hj
    obtain ⟨g, cc, e⟩ := own_some h1 (by omega)
    cases e
    exact ⟨g, rfl, own_int h1 hn.symm j hj⟩
  have H2 : Hid (∀ j, j < m → ∃ g, a' = some ⟨g, 0, none⟩ ∧ w.cell? ⟨g, j, none⟩ = some (.int .i64 (ys[j]?.getD 0))) := by
    intro j hj
    obtain ⟨g, cc, e⟩ := own_some h2 (by omega)
    cases e
    exact ⟨g, rfl, own_int h2 hm.symm j hj⟩
  have HN := hidJ hn
  have HM := hidJ hm
  clear h1 h2 hn hm
  by_cases hnm : n = m
  · subst hnm
    have hne : ((n : Int) != (n : Int)) = false := by simp
    go_enter Tryd.func10, Tryd.ntmps10
    go_wp2
    go_loopw [5] (fun i wr => ∃ k : Nat, k ≤ n ∧ i = .int .i64 k ∧ Hid (∃ m, wr = w.drewN m) ∧ Hid (∀ j, j < k → zs[j]?.getD 0 = ys[j]?.getD 0)) (fun i _ => n - (intOf i).toNat)
    case atStart => exact ⟨0, Nat.zero_le _, rfl, ⟨0, rfl⟩, fun j hj => absurd hj (Nat.not_lt_zero _)⟩
    case round =>
      obtain ⟨k, hk, rfl, hw, HE⟩ := hrel
      obtain ⟨m, rfl⟩ := hw.out
      clear hw
      by_cases hlt : k < n
      · obtain ⟨g, rfl, c1⟩ := H1.out k hlt
        obtain ⟨g', rfl, c2⟩ := H2.out k hlt
        obtain ⟨x, hx⟩ : ∃ x, x = zs[k]?.getD 0 := ⟨_, rfl⟩
        obtain ⟨y, hy'⟩ : ∃ x, x = ys[k]?.getD 0 := ⟨_, rfl⟩
        have HX : Hid (x = zs[k]?.getD 0 ∧ y = ys[k]?.getD 0) := ⟨hx, hy'⟩
        rw [← hx] at c1
        rw [← hy'] at c2
        clear hx hy'
        by_cases hxy : x = y
        · subst hxy
          have ht : (x != x) = false := by simp
          go_wp2
          go_quiet (fail)
          go_wp2
          go_roundw
          case rel =>
            refine ⟨k + 1, by omega, by go_num, ⟨m + nq, rfl⟩, fun j hj => ?_⟩
            by_cases e : j = k
            · subst e; rw [← HX.out.1]; exact HX.out.2
            · exact HE.out j (by omega)
          case measure => simp [intOf]; omega
        · have ht : (x != y) = true := by simpa using hxy
          have HF : Hid (decide (zs = ys) = false) := by
            refine decide_eq_false fun e => hxy ?_
            rw [HX.out.1, HX.out.2, e]
          go_wp2
          go_quiet (fail)
          go_wp2
          go_ret
          exact ⟨ret_bool HF.out.symm, by first | exact below_drewN (below_drewN (Below.refl _ _) _) _ | exact below_drewN (Below.refl _ _) _⟩
      · obtain rfl : k = n := by omega
        have HT : Hid (decide (zs = ys) = true) := by
          refine decide_eq_true (List.ext_getElem (by rw [← HN.out, ← HM.out]) fun j h1 h2 => ?_)
          have := HE.out j (by have := HN.out; omega)
          rw [List.getElem?_eq_getElem h1, List.getElem?_eq_getElem h2] at this
          exact this
        go_wp2
        go_ret
        exact ⟨ret_bool HT.out.symm, below_drewN (Below.refl _ _) _⟩
  · have hne : ((n : Int) != (m : Int)) = true := by simp; omega
    have HF : Hid (decide (zs = ys) = false) := decide_eq_false fun e => hnm (by rw [HN.out, HM.out, e])
    go_enter Tryd.func10, Tryd.ntmps10
    go_wp2
    go_ret
    exact ⟨ret_bool HF.out.symm, Below.refl _ _⟩
end Go.Proofs.YtbbkejfcheobaabDoor
