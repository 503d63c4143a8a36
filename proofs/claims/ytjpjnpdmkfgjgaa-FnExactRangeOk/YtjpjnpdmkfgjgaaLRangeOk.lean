/- The walk of the law of RangeOk: both answer the same. -/
import Derived.Test.YtjpjnpdmkfgjgaaRngL0
namespace Go.Proofs.Ytjpjnpdmkfgjgaa
open Go.RowKit Go.Proofs.Ytjpjnpdmkfgjgaa.RM

set_option maxRecDepth 100000 in
set_option maxHeartbeats 4000000 in
theorem lawRangeOk (a b c d : Int) (w : World) :
    Calls Try.prog 3 #[.agg #[.int .i64 a, .int .i64 b, .int .i64 c, .int .i64 d]] w fun e w' => e = .returned (.bool true) ∧ Below w.heap.size w w' := by
  have HS := hidU (fun W => sRng_any a b c d W)
  have HI := hidU (fun W => iRng_any a b c d W)
  have HT := hidU (fun W => toRng_any a b c d W)
  obtain ⟨r, hr⟩ : ∃ x, x = rng7 (a, b) (c, d) := ⟨_, rfl⟩
  rw [← hr] at HS HI
  clear hr
  have hok : (r != r) = false := by simp
  go_enter Try.func3, Try.ntmps3
  go_wp2_with fail
  refine (HT.out _).mono ?_
  rintro e w1 ⟨rfl, hb⟩
  obtain ⟨P, hP⟩ : ∃ P, P = w.heap.size := ⟨_, rfl⟩
  have K0 : Hid (IsB w1 P #[.int .i64 a, .int .i64 b, .int .i64 c, .int .i64 d] 25) := by show IsB _ _ _ _; rw [hP]; exact (IsB.new w _ _).below hb
  have HB : Hid (Below w.heap.size w w1) := (b0_any w _).trans (hb.mono (by simp))
  rw [← hP]
  clear hb hP
  go_wp2_with fail
  refine (HS.out _).mono ?_
  rintro e w2 ⟨rfl, hb⟩
  replace K0 := hidU (K0.out.below hb)
  replace HB := hidU (HB.out.trans (hb.mono HB.out.size))
  clear hb
  obtain ⟨z0, z1, z2, z3⟩ := K0.out.c4
  go_wp2_with fail
  refine (HT.out _).mono ?_
  rintro e w3 ⟨rfl, hb⟩
  clear z0 z1 z2 z3
  replace HB := hidU (HB.out.trans (hb.mono HB.out.size))
  clear hb
  go_wp2_with fail
  refine (HI.out _).mono ?_
  rintro e w4 ⟨rfl, hb⟩
  replace HB := hidU (HB.out.trans (hb.mono HB.out.size))
  clear hb
  go_wp2
  go_ret
  exact ⟨rfl, HB.out⟩
end Go.Proofs.Ytjpjnpdmkfgjgaa
