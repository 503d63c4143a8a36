/- The walks of Echelon and Rank, the program's and the model's. -/
import Derived.Test.YtbbkejfcheobaakEchW8
import Derived.Test.YtbbkejfcheobaakEchW10
namespace Go.Proofs.Ytbbkejfcheobaak
open Go.RowKit Go.Proofs.Ytbbkejfcheobaak.RM

theorem sEchO_any (v : Value) (rows : List (List Fr)) (w : World) (h : RdT w v rows) (ht : tabB rows 6 = true) :
    Calls Try.prog 53 #[v] w fun e w' => SEchP w rows e w' := by
  obtain ⟨⟨t1, t2, t3, t4⟩, tr⟩ := tabB_out ht
  exact sEch_any v rows (rw' rows 0).length w h t1 (by omega) t3 (by omega) (fun x hx => (tr x hx).1)
/-- how many columns are chosen -/
def rkI (rows : List (List Fr)) : Int := if echO rows then ((echC rows).length : Int) else -1

set_option maxRecDepth 100000 in
set_option maxHeartbeats 1000000 in
theorem sRank_any (v : Value) (rows : List (List Fr)) (w : World) (h : RdT w v rows) :
    Calls Try.prog 28 #[v] w fun e w' => e = .returned (.int .i64 (rkI rows)) ∧ Below w.heap.size w w' := by
  have HR := hid h
  obtain ⟨qa, hqa⟩ : ∃ q, q = tabB rows 6 := ⟨_, rfl⟩
  have HQA := hid hqa
  have CA : Hid (Calls Try.prog 52 #[v] w fun e w' => e = .returned (.bool qa) ∧ Below w.heap.size w w') := by
    rw [hqa]; exact sTab_any v rows w h
  clear hqa h
  cases qa
  · have HV : Hid (rkI rows = -1) := by show _ = _; unfold rkI echO; rw [← HQA.out]; rfl
    go_enter Try.func28, Try.ntmps28
    go_wp2_with (go_at_call 52; refine (CA.out).mono ?_; rintro e w1 ⟨rfl, hb⟩; have hs := hb.size)
    go_ret
    exact ⟨by rw [HV.out]; rfl, hb⟩
  · have HO : Hid (echO rows = echK rows) := by show _ = _; unfold echO; rw [← HQA.out]; rfl
    obtain ⟨q, hq⟩ : ∃ q, q = echK rows := ⟨_, rfl⟩
    have HQ := hid hq
    clear hq
    cases q
    · have HV : Hid (rkI rows = -1) := by show _ = _; unfold rkI; rw [HO.out, ← HQ.out]; rfl
      go_enter Try.func28, Try.ntmps28
      go_wp2_with (first | (go_at_call 52; refine (CA.out).mono ?_; rintro e w1 ⟨rfl, hb⟩; have hs := hb.size) | (go_at_call 53; refine (sEchO_any v rows _ (HR.out.below (by first | exact hb)) HQA.out.symm).mono ?_; rintro e w2 ⟨vm, vc, us, rfl, t, c, hb2⟩; rw [← HQ.out]; obtain ⟨ac, cc, rfl⟩ := own_shape c; clear c t))
      go_ret
      exact ⟨by rw [HV.out]; rfl, hb.trans (hb2.mono hs)⟩
    · have HV : Hid (rkI rows = ((echC rows).length : Int)) := by show _ = _; unfold rkI; rw [HO.out, ← HQ.out]; rfl
      go_enter Try.func28, Try.ntmps28
      go_wp2_with (first | (go_at_call 52; refine (CA.out).mono ?_; rintro e w1 ⟨rfl, hb⟩; have hs := hb.size) | (go_at_call 53; refine (sEchO_any v rows _ (HR.out.below (by first | exact hb)) HQA.out.symm).mono ?_; rintro e w2 ⟨vm, vc, us, rfl, t, c, hb2⟩; rw [← HQ.out]; obtain ⟨ac, cc, rfl⟩ := own_shape c; clear c t))
      go_ret
      exact ⟨by rw [HV.out]; rfl, hb.trans (hb2.mono hs)⟩
end Go.Proofs.Ytbbkejfcheobaak
