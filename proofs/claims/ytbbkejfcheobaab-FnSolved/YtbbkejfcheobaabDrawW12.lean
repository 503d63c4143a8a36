/- What is drawn for the laws of Solved, of Echelon and of Times. -/
import Derived.Test.YtbbkejfcheobaabDrawW11
namespace Go.Proofs.Ytbbkejfcheobaab
open Go.RowKit Go.Proofs.Ytbbkejfcheobaab.RM

set_option maxRecDepth 100000 in
set_option maxHeartbeats 4000000 in
theorem dSolved_any (a : Option Addr) (len cap : Nat) (zs : List Int) (w : World) (hr : IsRow .u8 w a len cap zs) :
    Calls Try.prog 33 #[.slice a len cap] w fun e w' => ∃ (v u : Value) (T : List (List Fr)) (ps : List Fr), e = .returned (.tuple #[v, u]) ∧ RdT w' v T ∧ RdR w' u ps ∧ T.length ≤ 200 ∧ ps.length ≤ 200 ∧ Below w.heap.size w w' := by
  have HR : Hid (IsRow .u8 w a len cap zs) := hr
  clear hr
  go_enter Try.func33, Try.ntmps33
  go_wp2_with fail
  refine (new_any a len cap zs _ HR.out).mono ?_
  rintro e w1 ⟨rfl, hC1, B1, hs1⟩
  obtain ⟨cb, hcb⟩ : ∃ b, b = w.heap.size := ⟨_, rfl⟩
  rw [← hcb] at hC1
  have HC : Hid (Cur w1 cb a len cap zs) := hC1
  have HB := hidW B1
  have hcw : w.heap.size ≤ cb := by omega
  rw [← hcb]
  clear hC1 HR B1 hcb
  go_wp2_with fail
  refine (below_any cb _ a len cap zs _ HC.out (by omega)).mono ?_
  rintro e w2 ⟨x, rfl, hx0, hx1, hC', hE⟩
  obtain ⟨n, hn⟩ : ∃ n : Nat, 1 + x = (n : Int) := ⟨(1 + x).toNat, by omega⟩
  replace HC : Hid (Cur w2 cb a len cap zs) := hC'
  replace HB := hidW (Ex.below HB.out hE hcw)
  have hn1 : 1 ≤ n := by omega
  have hn2 : n ≤ 100 := by omega
  clear hC' hE
  go_wp2_with fail
  clear hn hx0 hx1
  refine (dTabAny_any cb n n a len cap zs _ HC.out hn2 hn1 hn2).mono ?_
  rintro e w3 ⟨v, T, rfl, hT, hTl, hC', hE⟩
  replace HC : Hid (Cur w3 cb a len cap zs) := hC'
  replace HB := hidW (Ex.below HB.out hE hcw)
  have HT := hidW hT
  clear hC' hE hT
  go_wp2_with fail
  refine (dList_any cb n a len cap zs _ HC.out (by omega) (by omega)).mono ?_
  rintro e w4 ⟨u, ps, rfl, hO, hpl, hC', hE⟩
  replace HB := hidW (Ex.below HB.out hE hcw)
  replace HT := hidW (HT.out.ex hE)
  have HO := hidW (RdR.own hO).1
  clear hC' hE hO
  go_wp2
  refine bodyPost_ret (v := .tuple #[v, u]) (by simp [results, Try.results33, go_sem]) rfl ⟨v, u, T, ps, rfl, HT.out.read, HO.out, hTl, hpl, HB.out⟩
end Go.Proofs.Ytbbkejfcheobaab
