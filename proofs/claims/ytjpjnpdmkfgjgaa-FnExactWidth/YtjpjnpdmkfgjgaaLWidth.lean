/- The walk of the law of Width: both answer the same. -/
import Derived.Test.YtjpjnpdmkfgjgaaRngL0
namespace Go.Proofs.Ytjpjnpdmkfgjgaa
open Go.RowKit Go.Proofs.Ytjpjnpdmkfgjgaa.RM

set_option maxRecDepth 100000 in
set_option maxHeartbeats 4000000 in
theorem lawWidth (a b c d : Int) (w : World) :
    Calls Try.prog 8 #[.agg #[.int .i64 a, .int .i64 b, .int .i64 c, .int .i64 d]] w fun e w' => e = .returned (.bool true) ∧ Below w.heap.size w w' := by
  have HS := hidU (fun W => sWidth_any a b c d W)
  have HI := hidU (fun W => iWidth_any a b c d W)
  have HT := hidU (fun W => toRng_any a b c d W)
  obtain ⟨n, hn⟩ : ∃ x, x = (if rng7 (a, b) (c, d) = true then (subF (c, d) (a, b)).1 else 0) := ⟨_, rfl⟩
  obtain ⟨m, hm⟩ : ∃ x, x = (if rng7 (a, b) (c, d) = true then (subF (c, d) (a, b)).2 else 0) := ⟨_, rfl⟩
  obtain ⟨r, hr⟩ : ∃ x, x = (rng7 (a, b) (c, d) && subG (c, d) (a, b)) := ⟨_, rfl⟩
  rw [← hn, ← hm, ← hr] at HS HI
  clear hn hm hr
  have HE := hidU (fun W => eq_same n m W)
  have hok : (r != r) = false := by simp
  go_enter Try.func8, Try.ntmps8
  go_wp2_with fail
  refine (HT.out _).mono ?_
  rintro e w1 ⟨rfl, hb⟩
  obtain ⟨P, hP⟩ : ∃ P, P = w.heap.size := ⟨_, rfl⟩
  have K0 : Hid (IsB w1 P #[.int .i64 a, .int .i64 b, .int .i64 c, .int .i64 d] 25) := by show IsB _ _ _ _; rw [hP]; exact (IsB.new w _ _).below hb
  have HB : Hid (Below w.heap.size w w1) := (b0_any w _).trans (hb.mono (by simp))
  rw [← hP]
  clear hb hP
  go_wp2_with fail
  refine (HS.out _).mono ?_
  rintro e w2 ⟨rfl, hb⟩
  replace K0 := hidU (K0.out.below hb)
  replace HB := hidU (HB.out.trans (hb.mono HB.out.size))
  clear hb
  have hb := b0_any w2 (.cells #[.int .i64 n, .int .i64 m] 27)
  go_upto_region 2 with fail
  obtain ⟨y2, hY⟩ : ∃ Y, Y = w2.alloc (.cells #[.int .i64 n, .int .i64 m] 27) := ⟨_, rfl⟩
  obtain ⟨T, hF⟩ : ∃ F, F = w2.heap.size := ⟨_, rfl⟩
  have KT : Hid (IsB y2 T #[.int .i64 n, .int .i64 m] 27) := by show IsB _ _ _ _; rw [hY, hF]; exact IsB.new _ _ _
  rw [← hY] at hb
  rw [← hY, ← hF]
  clear hY hF
  replace K0 := hidU (K0.out.below hb)
  replace HB := hidU (HB.out.trans (hb.mono HB.out.size))
  clear hb
  obtain ⟨z0, z1, z2, z3⟩ := K0.out.c4
  go_wp2_with fail
  refine (HT.out _).mono ?_
  rintro e w3 ⟨rfl, hb⟩
  clear z0 z1 z2 z3
  replace KT := hidU (KT.out.below hb)
  replace HB := hidU (HB.out.trans (hb.mono HB.out.size))
  clear hb
  go_wp2_with fail
  refine (HI.out _).mono ?_
  rintro e w4 ⟨rfl, hb⟩
  replace KT := hidU (KT.out.below hb)
  replace HB := hidU (HB.out.trans (hb.mono HB.out.size))
  clear hb
  have hb := b0_any w4 (.cells #[.int .i64 n, .int .i64 m] 27)
  go_upto_region 3 with fail
  obtain ⟨y4, hY⟩ : ∃ Y, Y = w4.alloc (.cells #[.int .i64 n, .int .i64 m] 27) := ⟨_, rfl⟩
  obtain ⟨U, hF⟩ : ∃ F, F = w4.heap.size := ⟨_, rfl⟩
  have KU : Hid (IsB y4 U #[.int .i64 n, .int .i64 m] 27) := by show IsB _ _ _ _; rw [hY, hF]; exact IsB.new _ _ _
  rw [← hY] at hb
  rw [← hY, ← hF]
  clear hY hF
  replace KT := hidU (KT.out.below hb)
  replace HB := hidU (HB.out.trans (hb.mono HB.out.size))
  clear hb
  obtain ⟨z0, z1⟩ := KT.out.c2
  obtain ⟨y0, y1⟩ := KU.out.c2
  go_wp2_with fail
  refine (HE.out _).mono ?_
  rintro e w5 ⟨rfl, hb⟩
  clear z0 z1 y0 y1
  replace HB := hidU (HB.out.trans (hb.mono HB.out.size))
  clear hb
  go_wp2
  go_ret
  exact ⟨rfl, HB.out⟩
end Go.Proofs.Ytjpjnpdmkfgjgaa
