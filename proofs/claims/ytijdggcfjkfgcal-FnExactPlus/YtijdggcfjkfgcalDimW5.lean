/- The walks of DimOk, DimTimes, DimPower: the model's. -/
import Derived.Test.YtijdggcfjkfgcalDimW4
import Derived.Deep.RegionLaw
namespace Go
open Go.RowKit
/-- append to a row of the call's own, as one step of a region that draws -/
theorem step_append_own {P : Program} {ops : Array Oper} {o : Oper} {a : Act} {w : World} {K : Act → World → Prop} {Q : Exit → Act → World → Prop} {E : Prop}
    (hg : o.guard = none) (s x : Operand) (t : TypeId) (hop : o.op = Op.call { callee := Callee.builtin Builtin.append, args := #[s, x], argTypes := #[t, t] })
    (base : Nat) (e : TypeId) (i : TypeInfo) (z : Value) (size bytes : Nat) (ht : P.underlying t = some (.slice e)) (hi : P.info? e = some i) (hz : i.zero = some z)
    (hsize : i.size = size) (hby : i.bytes = bytes) (hzs : z.cells.size = size) (hsz : 0 < size)
    (v : Value) (n : Nat) (xs : List Value) (hs : a.eval s = v) (hown : w.ownsRow base e size v n xs)
    (ad : Addr) (m c : Nat) (news : List Value) (hx : a.eval x = .slice (some ad) m c) (hl : news.length = m * size) (hnews : ∀ j u, news[j]? = some u → w.cell? (ad.add j) = some u) (h1 : ∀ u ∈ news, u.oneCell' = true)
    (h63 : n + m ≤ maxLen) (hbytes : (n + m) * bytes ≤ 140737488355328) (hbase : base ≤ w.heap.size)
    (hK : ∀ v' w', w'.ownsRow base e size v' (n + m) (xs ++ news) → w.grownBy w' v.ownBlock → K (a.put o.dst v') w') :
    if Region.wanted o (yielded ops a.tmps) = true then Oper.wp P o a w K Q else E := by
  have hw : Region.wanted o (yielded ops a.tmps) = true := by simp [Region.wanted, hg]
  rw [if_pos hw]
  obtain ⟨v', w', hrun, h2, h3, _⟩ := run_append_own (P := P) (w := w) base t o.type e i z size bytes ht hi hz hsize hby hzs hsz v n xs hown ad m c news hl hnews h1 h63 hbytes hbase
  unfold Oper.wp
  simp [execOp, hop, resolve, invoke, builtin, hs, hx, hrun, Result.andThen]
  exact hK _ _ h2 h3
end Go
namespace Go.Proofs.Ytijdggcfjkfgcal
open Go.RowKit Go.Proofs.Ytijdggcfjkfgcal.RM

theorem inB9 (x : Int) : inB x (-9) 9 = in9 x := by unfold inB in9; rw [Bool.eq_iff_iff]; simp

set_option maxRecDepth 100000 in
set_option maxHeartbeats 1000000 in
theorem sDimOk_in (v : Value) (ys : List Int) (w : World) (h : DimIn w v ys) :
    Calls Try.prog 35 #[v] w fun e w' => e = .returned (.bool (dimB ys)) ∧ ∃ m, w' = w.drewN m := by
  by_cases h5 : ys.length = 5
  · obtain ⟨base, et, h⟩ := h.five h5
    obtain ⟨g, c, rfl⟩ := own_some h (by omega)
    have HC : Hid (∀ j, j < 5 → w.cell? ⟨g, j, none⟩ = some (.int .i64 (ys[j]?.getD 0))) := fun j hj => own_int h rfl j (by omega)
    obtain ⟨n, hn⟩ : ∃ n, n = ys.length := ⟨_, rfl⟩
    have HN := hidD hn
    rw [← hn] at h5 ⊢
    clear h hn
    subst h5
    obtain ⟨q, hq⟩ : ∃ q, q = dimB ys := ⟨_, rfl⟩
    have HQ := hidD hq
    rw [← hq]
    clear hq
    go_enter Try.func35, Try.ntmps35
    go_wp2
    go_loopw [3] (fun i wr => ∃ k : Nat, k ≤ 5 ∧ i = .int .i64 k ∧ Hid (∃ m, wr = w.drewN m) ∧ Hid (∀ j, j < k → in9 (ys[j]?.getD 0) = true)) (fun i _ => 5 - (intOf i).toNat)
    case atStart => exact ⟨0, Nat.zero_le _, rfl, ⟨0, rfl⟩, fun j hj => absurd hj (Nat.not_lt_zero _)⟩
    case round =>
      obtain ⟨k, hk, rfl, hw, hP⟩ := hrel
      obtain ⟨m, rfl⟩ := hw.out
      clear hw
      by_cases hlt : k < 5
      · have c1 := HC.out k hlt
        obtain ⟨x, hx⟩ : ∃ x, x = ys[k]?.getD 0 := ⟨_, rfl⟩
        have HX := hidD hx
        rw [← hx] at c1
        clear hx
        by_cases hi : in9 x = true
        · have HI := hidD hi
          clear hi
          go_wp2_with (go_at_call 57; refine (in_any _ _ _ _).mono ?_; rintro e w' ⟨rfl, rfl⟩; rw [inB9, HI.out])
          go_roundw
          case rel =>
            refine ⟨k + 1, by omega, by go_num, ⟨m, rfl⟩, fun j hj => ?_⟩
            by_cases e : j = k
            · subst e; rw [← HX.out]; exact HI.out
            · exact hP.out j (by omega)
          case measure => simp [intOf]; omega
        · rw [Bool.not_eq_true] at hi
          have HI := hidD hi
          clear hi
          have hq2 : q = false := by
            rw [HQ.out]
            unfold dimB
            rw [← Bool.not_eq_true, Bool.and_eq_true, List.all_eq_true]
            intro ⟨_, ha⟩
            have hl : k < ys.length := by have := HN.out; omega
            have := ha ys[k] (List.getElem_mem hl)
            have e1 := HX.out
            rw [List.getElem?_eq_getElem hl] at e1
            rw [← show x = ys[k] from e1, HI.out] at this
            cases this
          have HQ2 := hidD hq2
          clear hq2
          go_wp2_with (go_at_call 57; refine (in_any _ _ _ _).mono ?_; rintro e w' ⟨rfl, rfl⟩; rw [inB9, HI.out])
          go_ret
          exact ⟨by rw [HQ2.out]; rfl, m, rfl⟩
      · obtain rfl : k = 5 := by omega
        have hq2 : q = true := by
          rw [HQ.out]
          unfold dimB
          rw [Bool.and_eq_true, decide_eq_true_eq, List.all_eq_true]
          refine ⟨HN.out.symm, fun x hx => ?_⟩
          obtain ⟨j, hj, rfl⟩ := List.mem_iff_getElem.1 hx
          have := hP.out j (by have := HN.out; omega)
          rw [List.getElem?_eq_getElem hj] at this
          exact this
        have HQ2 := hidD hq2
        clear hq2
        go_wp2
        go_ret
        exact ⟨by rw [HQ2.out]; rfl, m, rfl⟩
  · have hq : dimB ys = false := by unfold dimB; rw [decide_eq_false h5]; rfl
    have HQ := hidD hq
    obtain ⟨ao, co, rfl⟩ := h.shape
    have h5' : ¬ ((ys.length : Int) = 5) := by omega
    clear h h5 hq
    go_enter Try.func35, Try.ntmps35
    go_wp2
    go_ret
    exact ⟨by rw [HQ.out]; rfl, 0, rfl⟩
theorem sDimOk_any (v : Value) (ys : List Int) (base : Nat) (et : TypeId) (w : World) (h : w.ownsRow base et 1 v ys.length (ys.map (Value.int .i64))) :
    Calls Try.prog 35 #[v] w fun e w' => e = .returned (.bool (dimB ys)) ∧ ∃ m, w' = w.drewN m := sDimOk_in v ys w (.of h)
end Go.Proofs.Ytijdggcfjkfgcal
