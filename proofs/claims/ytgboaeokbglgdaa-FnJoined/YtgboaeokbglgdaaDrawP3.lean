/- What is drawn for the law of Joined; two lists of points held against each other. -/
import Derived.Test.YtgboaeokbglgdaaDrawP
import Derived.BigQuiet
namespace Go.Proofs.Ytgboaeokbglgdaa
open Go.RowKit Go.Proofs.Ytgboaeokbglgdaa.RM

set_option maxRecDepth 100000 in
set_option maxHeartbeats 4000000 in
theorem dJoined_any (a : Option Addr) (len cap : Nat) (zs : List Int) (w : World) (hr : IsRow .u8 w a len cap zs) :
    Calls Try.prog 5 #[.slice a len cap] w fun e w' => ∃ (v u : Value) (ps qs : List Fr), e = .returned (.tuple #[v, u]) ∧ RdR w' v ps ∧ RdR w' u qs ∧ Below w.heap.size w w' := by
  have HR : Hid (IsRow .u8 w a len cap zs) := hr
  clear hr
  go_enter Try.func5, Try.ntmps5
  go_wp2_with fail
  refine (new_any a len cap zs _ HR.out).mono ?_
  rintro e w1 ⟨rfl, hC1, B1, hs1⟩
  obtain ⟨cb, hcb⟩ : ∃ b, b = w.heap.size := ⟨_, rfl⟩
  rw [← hcb] at hC1
  have HC : Hid (Cur w1 cb a len cap zs) := hC1
  have HB := hidW B1
  have hcw : w.heap.size ≤ cb := by omega
  rw [← hcb]
  clear hC1 HR B1 hcb
  go_wp2_with fail
  refine (dPtsAny_any cb a len cap zs _ HC.out).mono ?_
  rintro e w2 ⟨v, ps, rfl, hO, hl, hC', hE⟩
  have hlt := HC.out.lt
  have HO := hidW hO
  replace HC := hidW hC'
  replace HB := hidW (Ex.below HB.out hE hcw)
  clear hO hC' hE
  go_wp2_with fail
  refine (dPtsAny_any cb a len cap zs _ HC.out).mono ?_
  rintro e w3 ⟨u, qs, rfl, hO2, hl2, hC', hE⟩
  have R1 := hidW (RdR.ownQ (ownEx HO.out hE hlt)).1
  have R2 := hidW (RdR.ownQ hO2).1
  replace HB := hidW (Ex.below HB.out hE hcw)
  clear hO2 hC' hE HO
  go_wp2
  exact bodyPost_ret (v := .tuple #[v, u]) (by simp [results, Try.results5, go_sem]) rfl ⟨v, u, ps, qs, rfl, R1.out, R2.out, HB.out⟩

set_option maxRecDepth 100000 in
set_option maxHeartbeats 4000000 in
theorem likeP_any (v u : Value) (ps : List Fr) (w : World) (h1 : RdR w v ps) (h2 : RdR w u ps) :
    Calls Try.prog 10 #[v, u] w fun e w' => e = .returned (.bool true) ∧ Below w.heap.size w w' := by
  obtain ⟨a, c, rfl, k2, -, -, k5⟩ := h1
  obtain ⟨b, d, rfl, -, -, -, m5⟩ := h2
  have H5 : Hid (∀ j, j < ps.length → ∃ b off, a = some ⟨b, off, none⟩ ∧ w.cell? ⟨b, off + j * 2, none⟩ = some (.int .i64 (fr ps j).1) ∧ w.cell? ⟨b, off + j * 2 + 1, none⟩ = some (.int .i64 (fr ps j).2)) := k5
  have H6 : Hid (∀ j, j < ps.length → ∃ b' off, b = some ⟨b', off, none⟩ ∧ w.cell? ⟨b', off + j * 2, none⟩ = some (.int .i64 (fr ps j).1) ∧ w.cell? ⟨b', off + j * 2 + 1, none⟩ = some (.int .i64 (fr ps j).2)) := m5
  unfold maxLen at k2
  obtain ⟨L, hL⟩ : ∃ L, L = ps.length := ⟨_, rfl⟩
  rw [← hL] at k2 H5 H6 ⊢
  clear k5 m5 hL
  have hll : ((L : Int) != (L : Int)) = false := by simp
  go_enter Try.func10, Try.ntmps10
  go_wp2
  go_loopw [5] (fun i wr => ∃ k : Nat, k ≤ L ∧ i = .int .i64 k ∧ Hid (Below w.heap.size w wr)) (fun i _ => L - (intOf i).toNat)
  case atStart => exact ⟨0, Nat.zero_le _, rfl, Below.refl _ _⟩
  case round =>
    obtain ⟨k, hk, rfl, hB⟩ := hrel
    by_cases hlt : k < L
    · obtain ⟨b1, o1, rfl, c1, c2⟩ := H5.out k hlt
      obtain ⟨b2, o2, rfl, d1, d2⟩ := H6.out k hlt
      replace c1 := cell_keep hB.out c1
      replace c2 := cell_keep hB.out c2
      replace d1 := cell_keep hB.out d1
      replace d2 := cell_keep hB.out d2
      obtain ⟨p, hp⟩ : ∃ p, p = fr ps k := ⟨_, rfl⟩
      rw [← hp] at c1 c2 d1 d2
      obtain ⟨x, y⟩ := p
      dsimp only at c1 c2 d1 d2
      clear hp
      go_upto_region 6 with fail
      go_quiet (fail)
      go_wp2
      go_roundw
      case rel => exact ⟨k + 1, by omega, by go_num, below_drewN hB.out _⟩
      case measure => simp [intOf]; omega
    · obtain rfl : k = L := by omega
      go_wp2
      go_ret
      exact ⟨rfl, hB.out⟩
end Go.Proofs.Ytgboaeokbglgdaa
