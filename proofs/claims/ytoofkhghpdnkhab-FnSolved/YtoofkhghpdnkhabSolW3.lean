/- The model's Solved. -/
import Derived.Test.YtoofkhghpdnkhabSolW2
namespace Go.Proofs.Ytoofkhghpdnkhab
open Go.RowKit Go.Proofs.Ytoofkhghpdnkhab.RM

set_option maxRecDepth 100000 in
set_option maxHeartbeats 2000000 in
theorem sSolved_any (va vb : Value) (rows : List (List Fr)) (right : List Fr) (w : World) (ha : RdT w va rows) (hb : RdR w vb right) :
    Calls Try.prog 34 #[va, vb] w fun e w' => SolP w rows right e w' := by
  have HA := hid ha
  have HB := hid hb
  obtain ⟨qa, hqa⟩ : ∃ q, q = tabB rows 5 := ⟨_, rfl⟩
  have HQA := hid hqa
  have CA : Hid (Calls Try.prog 60 #[va, .int .i64 5] w fun e w' => e = .returned (.bool qa) ∧ Below w.heap.size w w') := by
    show Calls _ _ _ _ _
    rw [hqa]; exact sTold_any va rows 5 w ha
  have NO : Hid (¬ (rows.length ≤ 5 ∧ tabB rows 6 = true ∧ (rw' rows 0).length = rows.length ∧ right.length = rows.length) → solO rows right = false) := fun h => by unfold solO; rw [solC_no h]; rfl
  clear hqa
  obtain ⟨pb, cb, rfl, -, -, -, -⟩ := id hb
  obtain ⟨pa, ca, rfl, -, -, -, h5⟩ := id ha
  cases qa
  · have HO : Hid (solO rows right = false) := NO.out (fun h => by
      have h2 := HQA.out
      rw [tabB_yes (rows := rows) (cols := 5) (by obtain ⟨⟨a1, a2, a3, a4⟩, _⟩ := tabB_out h.2.1; omega) (tabB_out h.2.1).2] at h2
      cases h2)
    clear ha hb h5
    go_enter Try.func34, Try.ntmps34
    go_wp2_with (go_at_call 60; refine CA.out.mono ?_; rintro e w1 ⟨rfl, hb⟩)
    refine bodyPost_ret (v := .tuple #[.slice (some ⟨w1.heap.size, 0, none⟩) 0 0, .bool false]) (by simp [results, Try.results34, go_sem]) rfl (SolP.no HO.out hb)
  obtain ⟨⟨t1, t2, t3, t4⟩, tr⟩ := tabB_out HQA.out.symm
  have HT6 : Hid (tabB rows 6 = true) := tabB_yes ⟨t1, t2, t3, by omega⟩ tr
  obtain ⟨ba, offa, ua, rfl, ca0, ⟨pa0, ca0', rfl, -, -, -, -⟩⟩ := h5 0 (by omega)
  rw [Nat.add_zero] at ca0
  obtain ⟨n, hn⟩ : ∃ n, n = rows.length := ⟨_, rfl⟩
  obtain ⟨L, hL⟩ : ∃ L, L = (rw' rows 0).length := ⟨_, rfl⟩
  obtain ⟨r, hr⟩ : ∃ r, r = right.length := ⟨_, rfl⟩
  have HN : Hid (n = rows.length ∧ L = (rw' rows 0).length ∧ r = right.length) := ⟨hn, hL, hr⟩
  have HTR : Hid (∀ k, k < n → (rw' rows k).length = L) := fun k hk => by rw [hL]; exact (tr k (by omega)).1
  rw [← hn] at CA HA t1 t2
  rw [← hr] at HB
  rw [← hL] at ca0 t3 t4
  rw [← hn, ← hr]
  clear ha hb h5 tr hn hL hr
  by_cases hnL : n = L
  · subst hnL
    obtain ⟨qb, hqb⟩ : ∃ q, q = allB right n := ⟨_, rfl⟩
    have HQB := hid hqb
    have CB : Hid (∀ W : World, Below w.heap.size w W → Calls Try.prog 65 #[.slice pb r cb, .int .i64 n] W fun e w' => e = .returned (.bool qb) ∧ Below W.heap.size W w') := by
      intro W hW
      rw [hqb]
      exact sAll_any _ right n W (HB.out.below hW)
    clear hqb
    cases qb
    · have HO : Hid (solO rows right = false) := by
        show _ = _
        cases hc : solC rows right with
        | false => unfold solO; rw [hc]; rfl
        | true =>
          have h9 := wide_tab hc
          obtain ⟨_, _, _, h4⟩ := solC_out hc
          have h2 := HQB.out
          unfold allB at h2
          rw [decide_eq_true (by have := HN.out; omega), Bool.true_and] at h2
          unfold solO echO
          rw [h9, ← h2, hc]; rfl
      go_enter Try.func34, Try.ntmps34
      go_wp2_with (first | (go_at_call 60; refine CA.out.mono ?_; rintro e w1 ⟨rfl, hb⟩; have c1 := cell_keep hb ca0) | (go_at_call 65; refine (CB.out _ hb).mono ?_; rintro e w2 ⟨rfl, hb2⟩))
      refine bodyPost_ret (v := .tuple #[.slice (some ⟨w2.heap.size, 0, none⟩) 0 0, .bool false]) (by simp [results, Try.results34, go_sem]) rfl (SolP.no HO.out (hb.trans (hb2.mono hb.size)))
    · have hlr : r = n ∧ allOk right = true := by
        have h2 := HQB.out
        unfold allB at h2
        rw [eq_comm, Bool.and_eq_true, decide_eq_true_eq] at h2
        have := HN.out
        exact ⟨by omega, h2.2⟩
      have hc : solC rows right = true := by
        have h9 := HN.out
        unfold solC
        rw [HT6.out, decide_eq_true (show rows.length ≤ 5 by omega), decide_eq_true (show (rw' rows 0).length = rows.length by omega), decide_eq_true (show right.length = rows.length by omega)]; rfl
      have hw6 : tabB (wideT rows right) 6 = true := by rw [wide_tab hc]; exact hlr.2
      have CS : Hid (∀ W : World, Below w.heap.size w W → Calls Try.prog 66 #[.slice (some ⟨ba, offa, none⟩) n ca, .slice pb r cb] W fun e w' => SolP W rows right e w') := by
        intro W hW
        have h9 := HN.out
        refine (sL3Solved_any _ _ rows right W (HA.out.below hW) (HB.out.below hW) (by omega) (by omega) (fun k hk => by rw [HTR.out k (by omega)]; omega) (by omega) hw6).mono ?_
        rintro e w' ⟨v, rfl, h1, h2⟩
        have e1 : solO rows right = (echK (wideT rows right) && solF rows.length (echC (wideT rows right))) := by unfold solO echO; rw [hc, hw6]; rfl
        rw [← e1] at h1 ⊢
        exact ⟨v, rfl, h1, h2⟩
      clear hlr hc hw6
      go_enter Try.func34, Try.ntmps34
      go_wp2_with (first | (go_at_call 60; refine CA.out.mono ?_; rintro e w1 ⟨rfl, hb⟩; have c1 := cell_keep hb ca0) | (go_at_call 65; refine (CB.out _ hb).mono ?_; rintro e w2 ⟨rfl, hb2⟩; have B2 := hb.trans (hb2.mono hb.size)) | (go_at_call 66; refine (CS.out _ B2).mono ?_; rintro e w3 ⟨v, rfl, h1, h2⟩; obtain ⟨av, cv, rfl⟩ := own_shape h1; have H1 := hid h1; clear h1))
      refine bodyPost_ret (v := .tuple #[.slice av (solA rows right).length cv, .bool (solO rows right)]) (by simp [results, Try.results34, go_sem]) rfl ⟨_, rfl, own_le H1.out B2.size, B2.trans (h2.mono B2.size)⟩
  · have HO : Hid (solO rows right = false) := NO.out (fun h => by have := HN.out; omega)
    have hne : ((n : Int) == (L : Int)) = false := by simpa using (show (n : Int) ≠ (L : Int) by omega)
    go_enter Try.func34, Try.ntmps34
    go_wp2_with (go_at_call 60; refine CA.out.mono ?_; rintro e w1 ⟨rfl, hb⟩; have c1 := cell_keep hb ca0)
    refine bodyPost_ret (v := .tuple #[.slice (some ⟨w1.heap.size, 0, none⟩) 0 0, .bool false]) (by simp [results, Try.results34, go_sem]) rfl (SolP.no HO.out hb)
end Go.Proofs.Ytoofkhghpdnkhab
