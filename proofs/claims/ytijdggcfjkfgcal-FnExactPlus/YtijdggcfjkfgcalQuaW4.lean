/- The model's QuantityOk; are two dimensions the same. -/
import Derived.Test.YtijdggcfjkfgcalQuaW2
import Derived.IntWalk
namespace Go.Proofs.Ytijdggcfjkfgcal
open Go.RowKit Go.Proofs.Ytijdggcfjkfgcal.RM

set_option maxRecDepth 100000 in
set_option maxHeartbeats 1000000 in
theorem sQuaOk_any (n d : Int) (v : Value) (ys : List Int) (w : World) (h : DimIn w v ys) :
    Calls Try.prog 15 #[.agg #[.int .i64 n, .int .i64 d, v]] w fun e w' => e = .returned (.bool (quaB n d ys)) ∧ Below w.heap.size w w' := by
  have b0 : ∀ (u : World) (o : Obj), Below u.heap.size u (u.alloc o) := fun u o => (Below.refl _ _).alloc (Nat.le_refl _) o
  have HD := hidU (fun W (hW : Below w.heap.size w W) => sDimOk_in v ys W (h.below hW))
  have HR := hidU (fun W => sOk_any n d W)
  unfold quaB
  obtain ⟨p, hp⟩ : ∃ q, q = okB n d := ⟨_, rfl⟩
  obtain ⟨q, hq⟩ : ∃ q, q = dimB ys := ⟨_, rfl⟩
  rw [← hp, ← hq]
  rw [← hp] at HR
  rw [← hq] at HD
  obtain ⟨a, c, rfl⟩ := h.shape
  obtain ⟨k, hk⟩ : ∃ k, k = ys.length := ⟨_, rfl⟩
  rw [← hk] at HD ⊢
  clear hp hq h hk
  go_enter Try.func15, Try.ntmps15
  go_wp2_with fail
  refine (HR.out _).mono ?_
  rintro e w1 ⟨rfl, hb⟩
  have k1 : IsB w1 w.heap.size #[.int .i64 n, .int .i64 d, .slice a k c] 35 := (IsB.new w _ _).below hb
  have HB := hidU ((b0 w _).trans (hb.mono (by simp)))
  obtain ⟨a0, a1, a2⟩ := k1.c3
  clear k1 hb
  cases p
  · go_wp2
    go_ret
    exact ⟨rfl, HB.out⟩
  · go_wp2_with fail
    refine (HD.out _ HB.out).mono ?_
    rintro e w2 ⟨rfl, m, hw⟩
    have hb2 : Below w.heap.size w w2 := by rw [hw]; exact below_drewN HB.out m
    have HB2 := hidU hb2
    clear hb2 hw a0 a1 a2
    go_wp2
    go_ret
    exact ⟨rfl, HB2.out⟩

set_option maxRecDepth 100000 in
set_option maxHeartbeats 1000000 in
theorem sSame_any (v u : Value) (xs ys : List Int) (n l1 h1 l2 h2 : Nat) (w : World) (hx : xs.length = n) (hy : ys.length = n) (hn2 : n ≤ 1000000000) (H1 : RowM w l1 h1 v xs) (H2 : RowM w l2 h2 u ys) :
    Calls Try.prog 44 #[v, u] w fun x w' => x = .returned (.bool (decide (xs = ys))) ∧ ∃ m, w' = w.drewN m := by
  obtain ⟨a, c, rfl, hv⟩ := H1
  obtain ⟨a', c', rfl, hu⟩ := H2
  rw [hx] at hv ⊢
  rw [hy] at hu ⊢
  by_cases h0 : n = 0
  · subst h0
    have e1 : xs = [] := List.eq_nil_of_length_eq_zero hx
    have e2 : ys = [] := List.eq_nil_of_length_eq_zero hy
    have HE : Hid (decide (xs = ys) = true) := by show _ = _; rw [e1, e2]; rfl
    clear hv hu hx hy e1 e2
    go_enter Try.func44, Try.ntmps44
    go_wp2
    go_loop [5] (fun i => i = .int .i64 0) (fun _ => 0)
    case atStart => exact rfl
    case round =>
      subst hrel
      go_wp2
      go_ret
      exact ⟨ret_bool HE.out.symm, 0, rfl⟩
  · obtain ⟨g, off, rfl, -, -, hc⟩ := hv (by omega)
    obtain ⟨g', off', rfl, -, -, hc'⟩ := hu (by omega)
    have H1 : Hid (∀ j, j < n → w.cell? ⟨g, off + j, none⟩ = some (.int .i64 (xs[j]?.getD 0))) := fun j hj => (hc j hj).1
    have H2 : Hid (∀ j, j < n → w.cell? ⟨g', off' + j, none⟩ = some (.int .i64 (ys[j]?.getD 0))) := fun j hj => (hc' j hj).1
    have HX := hidU hx
    have HY := hidU hy
    obtain ⟨q, hq⟩ : ∃ q, q = decide (xs = ys) := ⟨_, rfl⟩
    have HQ := hidU hq
    rw [← hq]
    clear hx hy h0 hc hc' hv hu hq
    go_enter Try.func44, Try.ntmps44
    go_wp2
    go_loopw [5] (fun i wr => ∃ k : Nat, k ≤ n ∧ i = .int .i64 k ∧ Hid (∀ j, j < k → xs[j]?.getD 0 = ys[j]?.getD 0) ∧ Hid (∃ m, wr = w.drewN m)) (fun i _ => n - (intOf i).toNat)
    case atStart => exact ⟨0, Nat.zero_le _, rfl, fun j hj => absurd hj (Nat.not_lt_zero _), 0, rfl⟩
    case round =>
      obtain ⟨k, hk, rfl, hP, hw⟩ := hrel
      obtain ⟨m, rfl⟩ := hw.out
      clear hw
      by_cases hlt : k < n
      · have c1 := H1.out k hlt
        have c2 := H2.out k hlt
        obtain ⟨x, hx⟩ : ∃ x, x = xs[k]?.getD 0 := ⟨_, rfl⟩
        obtain ⟨y, hy⟩ : ∃ y, y = ys[k]?.getD 0 := ⟨_, rfl⟩
        rw [← hx] at c1
        rw [← hy] at c2
        have HX1 := hidU hx
        have HY1 := hidU hy
        clear hx hy
        by_cases he : x = y
        · subst he
          have ht : (x != x) = false := by simp
          go_wp2
          go_quiet (fail)
          go_wp2
          go_roundw
          case rel =>
            refine ⟨k + 1, by omega, by go_num, fun j hj => ?_, m + nq, rfl⟩
            by_cases e : j = k
            · subst e; rw [← HX1.out, ← HY1.out]
            · exact hP.out j (by omega)
          case measure => simp [intOf]; omega
        · have ht : (x != y) = true := by simp [he]
          have hq2 : Hid (q = false) := by
            show _ = _
            rw [HQ.out, decide_eq_false_iff_not]
            intro e
            exact he (by rw [HX1.out, HY1.out, e])
          clear he
          go_wp2
          go_quiet (fail)
          go_wp2
          go_ret
          exact ⟨ret_bool hq2.out.symm, m + nq, by rw [World.drewN_drewN]⟩
      · have hq2 : Hid (q = true) := by
          show _ = _
          rw [HQ.out, decide_eq_true_eq]
          apply List.ext_getElem?
          intro j
          by_cases hj : j < n
          · have h3 := hP.out j (by omega)
            rw [List.getElem?_eq_getElem (by rw [HX.out]; exact hj), List.getElem?_eq_getElem (by rw [HY.out]; exact hj)] at h3 ⊢
            exact congrArg some h3
          · rw [List.getElem?_eq_none (by rw [HX.out]; omega), List.getElem?_eq_none (by rw [HY.out]; omega)]
        go_wp2
        go_ret
        exact ⟨ret_bool hq2.out.symm, m, rfl⟩
end Go.Proofs.Ytijdggcfjkfgcal
