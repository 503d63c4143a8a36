/- What is drawn for the laws of Echelon (Rank, Kernel) and of Times. -/
import Derived.Test.YtbbkejfcheobaabDrawW11
namespace Go.Proofs.Ytbbkejfcheobaab
open Go.RowKit Go.Proofs.Ytbbkejfcheobaab.RM

set_option maxRecDepth 100000 in
set_option maxHeartbeats 4000000 in
theorem dEch_any (a : Option Addr) (len cap : Nat) (zs : List Int) (w : World) (hr : IsRow .u8 w a len cap zs) :
    Calls Try.prog 63 #[.slice a len cap] w fun e w' => ∃ (v : Value) (T : List (List Fr)), e = .returned v ∧ RdT w' v T ∧ T.length ≤ 200 ∧ Below w.heap.size w w' := by
  have HR : Hid (IsRow .u8 w a len cap zs) := hr
  clear hr
  go_enter Try.func63, Try.ntmps63
  go_wp2_with fail
  refine (new_any a len cap zs _ HR.out).mono ?_
  rintro e w1 ⟨rfl, hC1, B1, hs1⟩
  obtain ⟨cb, hcb⟩ : ∃ b, b = w.heap.size := ⟨_, rfl⟩
  rw [← hcb] at hC1
  have HC : Hid (Cur w1 cb a len cap zs) := hC1
  have HB := hidW B1
  have hcw : w.heap.size ≤ cb := by omega
  rw [← hcb]
  clear hC1 HR B1 hcb
  go_wp2_with fail
  refine (below_any cb _ a len cap zs _ HC.out (by omega)).mono ?_
  rintro e w2 ⟨x, rfl, hx0, hx1, hC', hE⟩
  obtain ⟨n, hn⟩ : ∃ n : Nat, 1 + x = (n : Int) := ⟨(1 + x).toNat, by omega⟩
  replace HC : Hid (Cur w2 cb a len cap zs) := hC'
  replace HB := hidW (Ex.below HB.out hE hcw)
  have hn2 : n ≤ 100 := by omega
  clear hC' hE
  go_wp2_with fail
  refine (below_any cb _ a len cap zs _ HC.out (by omega)).mono ?_
  rintro e w3 ⟨y, rfl, hy0, hy1, hC', hE⟩
  obtain ⟨m, hm⟩ : ∃ n : Nat, 1 + y = (n : Int) := ⟨(1 + y).toNat, by omega⟩
  replace HC : Hid (Cur w3 cb a len cap zs) := hC'
  replace HB := hidW (Ex.below HB.out hE hcw)
  have hm1 : 1 ≤ m := by omega
  have hm2 : m ≤ 100 := by omega
  clear hC' hE
  go_wp2_with fail
  clear hn hm hx0 hx1 hy0 hy1
  refine (dTabAny_any cb n m a len cap zs _ HC.out hn2 hm1 hm2).mono ?_
  rintro e w4 ⟨v, T, rfl, hT, hTl, hC', hE⟩
  replace HB := hidW (Ex.below HB.out hE hcw)
  have HT := hidW hT
  clear hC' hE hT
  go_wp2
  go_ret
  exact ⟨v, T, rfl, HT.out.read, hTl, HB.out⟩

set_option maxRecDepth 100000 in
set_option maxHeartbeats 4000000 in
theorem dKer_any (a : Option Addr) (len cap : Nat) (zs : List Int) (w : World) (hr : IsRow .u8 w a len cap zs) :
    Calls Try.prog 17 #[.slice a len cap] w fun e w' => ∃ (v : Value) (T : List (List Fr)), e = .returned v ∧ RdT w' v T ∧ T.length ≤ 200 ∧ Below w.heap.size w w' := by
  have HR : Hid (IsRow .u8 w a len cap zs) := hr
  clear hr
  go_enter Try.func17, Try.ntmps17
  go_wp2_with fail
  refine (dEch_any a len cap zs _ HR.out).mono ?_
  rintro e w1 ⟨v, T, rfl, hT, hTl, hB⟩
  have HT := hidW hT
  have HB := hidW hB
  clear hT hB
  go_wp2
  go_ret
  exact ⟨v, T, rfl, HT.out, hTl, HB.out⟩

set_option maxRecDepth 100000 in
set_option maxHeartbeats 4000000 in
theorem dTimes_any (a : Option Addr) (len cap : Nat) (zs : List Int) (w : World) (hr : IsRow .u8 w a len cap zs) :
    Calls Try.prog 15 #[.slice a len cap] w fun e w' => ∃ (v u : Value) (T U : List (List Fr)), e = .returned (.tuple #[v, u]) ∧ RdT w' v T ∧ RdT w' u U ∧ T.length ≤ 200 ∧ U.length ≤ 200 ∧ Below w.heap.size w w' := by
  have HR : Hid (IsRow .u8 w a len cap zs) := hr
  clear hr
  go_enter Try.func15, Try.ntmps15
  go_wp2_with fail
  refine (new_any a len cap zs _ HR.out).mono ?_
  rintro e w1 ⟨rfl, hC1, B1, hs1⟩
  obtain ⟨cb, hcb⟩ : ∃ b, b = w.heap.size := ⟨_, rfl⟩
  rw [← hcb] at hC1
  have HC : Hid (Cur w1 cb a len cap zs) := hC1
  have HB := hidW B1
  have hcw : w.heap.size ≤ cb := by omega
  rw [← hcb]
  clear hC1 HR B1 hcb
  go_wp2_with fail
  refine (below_any cb _ a len cap zs _ HC.out (by omega)).mono ?_
  rintro e w2 ⟨x, rfl, hx0, hx1, hC', hE⟩
  obtain ⟨n, hn⟩ : ∃ n : Nat, 1 + x = (n : Int) := ⟨(1 + x).toNat, by omega⟩
  replace HC : Hid (Cur w2 cb a len cap zs) := hC'
  replace HB := hidW (Ex.below HB.out hE hcw)
  have hn2 : n ≤ 100 := by omega
  clear hC' hE
  go_wp2_with fail
  refine (below_any cb _ a len cap zs _ HC.out (by omega)).mono ?_
  rintro e w3 ⟨y, rfl, hy0, hy1, hC', hE⟩
  obtain ⟨m, hm⟩ : ∃ n : Nat, 1 + y = (n : Int) := ⟨(1 + y).toNat, by omega⟩
  replace HC : Hid (Cur w3 cb a len cap zs) := hC'
  replace HB := hidW (Ex.below HB.out hE hcw)
  have hm1 : 1 ≤ m := by omega
  have hm2 : m ≤ 50 := by omega
  clear hC' hE
  go_wp2_with fail
  clear hn hm hx0 hx1 hy0 hy1
  refine (dTabAny_any cb n m a len cap zs _ HC.out hn2 hm1 (by omega)).mono ?_
  rintro e w4 ⟨v, T, rfl, hT, hTl, hC', hE⟩
  replace HC : Hid (Cur w4 cb a len cap zs) := hC'
  replace HB := hidW (Ex.below HB.out hE hcw)
  have HT := hidW hT
  clear hC' hE hT
  go_wp2_with fail
  refine (once_any cb _ a len cap zs _ HC.out (by omega)).mono ?_
  rintro e w5 ⟨b, rfl, hC', hE⟩
  replace HC : Hid (Cur w5 cb a len cap zs) := hC'
  replace HB := hidW (Ex.below HB.out hE hcw)
  replace HT := hidW (HT.out.ex hE)
  clear hC' hE
  cases b
  all_goals
    go_wp2_with fail
    refine (below_any cb _ a len cap zs _ HC.out (by omega)).mono ?_
    rintro e w6 ⟨z, rfl, hz0, hz1, hC', hE⟩
    obtain ⟨p, hp⟩ : ∃ n : Nat, 1 + z = (n : Int) := ⟨(1 + z).toNat, by omega⟩
    replace HC : Hid (Cur w6 cb a len cap zs) := hC'
    replace HB := hidW (Ex.below HB.out hE hcw)
    replace HT := hidW (HT.out.ex hE)
    have hp1 : 1 ≤ p := by omega
    have hp2 : p ≤ 100 := by omega
    clear hC' hE
    go_wp2_with fail
    clear hp hz0 hz1
    have hmm : (m : Int) + 1 = ((m + 1 : Nat) : Int) := by omega
    try rw [hmm]
    refine (dTabAny_any cb _ p a len cap zs _ HC.out (by omega) hp1 hp2).mono ?_
    rintro e w7 ⟨u, U, rfl, hU, hUl, hC', hE⟩
    replace HB := hidW (Ex.below HB.out hE hcw)
    replace HT := hidW (HT.out.ex hE)
    have HU := hidW hU
    clear hC' hE hU hmm
    go_wp2
    refine bodyPost_ret (v := .tuple #[v, u]) (by simp [results, Try.results15, go_sem]) rfl ⟨v, u, T, U, rfl, HT.out.read, HU.out.read, hTl, hUl, HB.out⟩
end Go.Proofs.Ytbbkejfcheobaab
