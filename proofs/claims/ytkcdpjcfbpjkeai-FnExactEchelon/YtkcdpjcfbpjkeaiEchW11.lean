/- The walks of Echelon and Rank, the program's and the model's. -/
import Derived.Test.YtkcdpjcfbpjkeaiEchW8
import Derived.Test.YtkcdpjcfbpjkeaiEchW10
namespace Go.Proofs.Ytkcdpjcfbpjkeai
open Go.RowKit Go.Proofs.Ytkcdpjcfbpjkeai.RM

theorem sEchO_any (v : Value) (rows : List (List Fr)) (w : World) (h : RdT w v rows) (ht : tabB rows 6 = true) :
    Calls Try.prog 55 #[v] w fun e w' => SEchP w rows e w' := by
  obtain ⟨⟨t1, t2, t3, t4⟩, tr⟩ := tabB_out ht
  exact sEch_any v rows (rw' rows 0).length w h t1 (by omega) t3 (by omega) (fun x hx => (tr x hx).1)
/-- how many columns are chosen -/
def rkI (rows : List (List Fr)) : Int := if echO rows then ((echC rows).length : Int) else -1

set_option maxRecDepth 100000 in
set_option maxHeartbeats 1000000 in
theorem iEchel_any (v : Value) (rows : List (List Fr)) (w : World) (h : RdT w v rows) :
    Calls Try.prog 25 #[v] w fun e w' => ∃ vm us, e = .returned (.tuple #[vm, .bool (echO rows)]) ∧ Tab w' w.heap.size vm us (echA rows) ∧ Below w.heap.size w w' := by
  have HE := hid (iEch_any v rows w h)
  obtain ⟨q, hq⟩ : ∃ q, q = echO rows := ⟨_, rfl⟩
  have HQ := hid hq
  rw [← hq]
  clear hq h
  cases q
  · have HAN := hid (echO_no HQ.out.symm).1
    go_enter Try.func25, Try.ntmps25
    go_wp2_with (go_at_call 56; refine (HE.out).mono ?_; rintro e w1 ⟨vm, vc, vf, us, rfl, t, c, f, hb⟩; rw [← HQ.out]; obtain ⟨am, cm, rfl⟩ := own_shape t.outer; obtain ⟨ac, cc, rfl⟩ := own_shape c; obtain ⟨af, cf, rfl⟩ := own_shape f; have hs := hb.size; clear c f)
    refine bodyPost_ret (v := .tuple #[.slice (some ⟨w1.heap.size + 1, 0, none⟩) 0 0, .bool false]) (by simp [results, Try.results25, go_sem]) rfl ⟨_, [], rfl, ?_, (hb.alloc hs _).alloc (by simp; omega) _⟩
    rw [HAN.out]
    have := Tab.lit (W := w1.alloc (.cells #[.slice am us.length cm, .slice ac (echCh rows).length cc, .slice af (echFe rows).length cf] 77)) (base := w.heap.size) (by simp; omega)
    simpa using this
  · go_enter Try.func25, Try.ntmps25
    go_wp2_with (go_at_call 56; refine (HE.out).mono ?_; rintro e w1 ⟨vm, vc, vf, us, rfl, t, c, f, hb⟩; rw [← HQ.out]; obtain ⟨am, cm, rfl⟩ := own_shape t.outer; obtain ⟨ac, cc, rfl⟩ := own_shape c; obtain ⟨af, cf, rfl⟩ := own_shape f; have hs := hb.size; clear c f)
    exact bodyPost_ret (v := .tuple #[.slice am us.length cm, .bool true]) (by simp [results, Try.results25, go_sem]) rfl ⟨_, us, rfl, t.below ((Below.refl _ _).alloc (Nat.le_refl _) _), hb.alloc hs _⟩

set_option maxRecDepth 100000 in
set_option maxHeartbeats 1000000 in
theorem sEchel_any (v : Value) (rows : List (List Fr)) (w : World) (h : RdT w v rows) :
    Calls Try.prog 24 #[v] w fun e w' => ∃ vm us, e = .returned (.tuple #[vm, .bool (echO rows)]) ∧ Tab w' w.heap.size vm us (echA rows) ∧ Below w.heap.size w w' := by
  have HR := hid h
  obtain ⟨qa, hqa⟩ : ∃ q, q = tabB rows 6 := ⟨_, rfl⟩
  have HQA := hid hqa
  have CA : Hid (Calls Try.prog 16 #[v] w fun e w' => e = .returned (.bool qa) ∧ Below w.heap.size w w') := by
    rw [hqa]; exact sTab_any v rows w h
  clear hqa h
  cases qa
  · have HO : Hid (echO rows = false) := by show _ = _; unfold echO; rw [← HQA.out]; rfl
    have HAN := hid (echO_no HO.out).1
    go_enter Try.func24, Try.ntmps24
    go_wp2_with (go_at_call 16; refine (CA.out).mono ?_; rintro e w1 ⟨rfl, hb⟩; have hs := hb.size)
    refine bodyPost_ret (v := .tuple #[.slice (some ⟨w1.heap.size, 0, none⟩) 0 0, .bool false]) (by simp [results, Try.results24, go_sem]) rfl ⟨_, [], ret_tb HO.out.symm, ?_, hb.alloc hs _⟩
    rw [HAN.out]
    exact Tab.lit hs
  · have HO : Hid (echO rows = echK rows ∧ echA rows = echR rows) := by
      have h1 : echO rows = echK rows := by unfold echO; rw [← HQA.out]; rfl
      refine ⟨h1, ?_⟩
      unfold echA
      rw [h1]
      split
      · rfl
      · rename_i hk
        unfold echK at hk
        unfold echR
        cases he : ech rows with
        | none => rfl
        | some p => rw [he] at hk; exact absurd rfl hk
    rw [HO.out.1]
    obtain ⟨q, hq⟩ : ∃ q, q = echK rows := ⟨_, rfl⟩
    have HQ := hid hq
    rw [← hq]
    clear hq
    go_enter Try.func24, Try.ntmps24
    go_wp2_with (first | (go_at_call 16; refine (CA.out).mono ?_; rintro e w1 ⟨rfl, hb⟩; have hs := hb.size) | (go_at_call 55; refine (sEchO_any v rows _ (HR.out.below (by first | exact hb)) HQA.out.symm).mono ?_; rintro e w2 ⟨vm, vc, us, rfl, t, c, hb2⟩; rw [← HQ.out]; clear c))
    refine bodyPost_ret (v := .tuple #[vm, .bool q]) (by simp [results, Try.results24, go_sem]) rfl ⟨vm, us, rfl, ?_, hb.trans (hb2.mono hs)⟩
    rw [HO.out.2]
    exact t.le hs

set_option maxRecDepth 100000 in
set_option maxHeartbeats 1000000 in
theorem iRank_any (v : Value) (rows : List (List Fr)) (w : World) (h : RdT w v rows) :
    Calls Try.prog 27 #[v] w fun e w' => e = .returned (.int .i64 (rkI rows)) ∧ Below w.heap.size w w' := by
  have HE := hid (iEch_any v rows w h)
  obtain ⟨q, hq⟩ : ∃ q, q = echO rows := ⟨_, rfl⟩
  have HQ := hid hq
  clear hq h
  cases q
  · have HV : Hid (rkI rows = -1) := by show _ = _; unfold rkI; rw [← HQ.out]; rfl
    go_enter Try.func27, Try.ntmps27
    go_wp2_with (go_at_call 56; refine (HE.out).mono ?_; rintro e w1 ⟨vm, vc, vf, us, rfl, t, c, f, hb⟩; rw [← HQ.out]; obtain ⟨am, cm, rfl⟩ := own_shape t.outer; obtain ⟨ac, cc, rfl⟩ := own_shape c; obtain ⟨af, cf, rfl⟩ := own_shape f; have hs := hb.size; clear c f)
    go_ret
    exact ⟨by rw [HV.out]; rfl, hb.alloc hs _⟩
  · have HC := hid (echO_yes HQ.out.symm).2.1
    have HV : Hid (rkI rows = ((echCh rows).length : Int)) := by show _ = _; unfold rkI; rw [← HQ.out, HC.out]; rfl
    go_enter Try.func27, Try.ntmps27
    go_wp2_with (go_at_call 56; refine (HE.out).mono ?_; rintro e w1 ⟨vm, vc, vf, us, rfl, t, c, f, hb⟩; rw [← HQ.out]; obtain ⟨am, cm, rfl⟩ := own_shape t.outer; obtain ⟨ac, cc, rfl⟩ := own_shape c; obtain ⟨af, cf, rfl⟩ := own_shape f; have hs := hb.size; clear c f)
    go_ret
    exact ⟨by rw [HV.out]; rfl, hb.alloc hs _⟩

set_option maxRecDepth 100000 in
set_option maxHeartbeats 1000000 in
theorem sRank_any (v : Value) (rows : List (List Fr)) (w : World) (h : RdT w v rows) :
    Calls Try.prog 26 #[v] w fun e w' => e = .returned (.int .i64 (rkI rows)) ∧ Below w.heap.size w w' := by
  have HR := hid h
  obtain ⟨qa, hqa⟩ : ∃ q, q = tabB rows 6 := ⟨_, rfl⟩
  have HQA := hid hqa
  have CA : Hid (Calls Try.prog 16 #[v] w fun e w' => e = .returned (.bool qa) ∧ Below w.heap.size w w') := by
    rw [hqa]; exact sTab_any v rows w h
  clear hqa h
  cases qa
  · have HV : Hid (rkI rows = -1) := by show _ = _; unfold rkI echO; rw [← HQA.out]; rfl
    go_enter Try.func26, Try.ntmps26
    go_wp2_with (go_at_call 16; refine (CA.out).mono ?_; rintro e w1 ⟨rfl, hb⟩; have hs := hb.size)
    go_ret
    exact ⟨by rw [HV.out]; rfl, hb⟩
  · have HO : Hid (echO rows = echK rows) := by show _ = _; unfold echO; rw [← HQA.out]; rfl
    obtain ⟨q, hq⟩ : ∃ q, q = echK rows := ⟨_, rfl⟩
    have HQ := hid hq
    clear hq
    cases q
    · have HV : Hid (rkI rows = -1) := by show _ = _; unfold rkI; rw [HO.out, ← HQ.out]; rfl
      go_enter Try.func26, Try.ntmps26
      go_wp2_with (first | (go_at_call 16; refine (CA.out).mono ?_; rintro e w1 ⟨rfl, hb⟩; have hs := hb.size) | (go_at_call 55; refine (sEchO_any v rows _ (HR.out.below (by first | exact hb)) HQA.out.symm).mono ?_; rintro e w2 ⟨vm, vc, us, rfl, t, c, hb2⟩; rw [← HQ.out]; obtain ⟨ac, cc, rfl⟩ := own_shape c; clear c t))
      go_ret
      exact ⟨by rw [HV.out]; rfl, hb.trans (hb2.mono hs)⟩
    · have HV : Hid (rkI rows = ((echC rows).length : Int)) := by show _ = _; unfold rkI; rw [HO.out, ← HQ.out]; rfl
      go_enter Try.func26, Try.ntmps26
      go_wp2_with (first | (go_at_call 16; refine (CA.out).mono ?_; rintro e w1 ⟨rfl, hb⟩; have hs := hb.size) | (go_at_call 55; refine (sEchO_any v rows _ (HR.out.below (by first | exact hb)) HQA.out.symm).mono ?_; rintro e w2 ⟨vm, vc, us, rfl, t, c, hb2⟩; rw [← HQ.out]; obtain ⟨ac, cc, rfl⟩ := own_shape c; clear c t))
      go_ret
      exact ⟨by rw [HV.out]; rfl, hb.trans (hb2.mono hs)⟩
end Go.Proofs.Ytkcdpjcfbpjkeai
