/- The walks of the program's test of shares beside a cover, and of its Variance. -/
import Derived.Test.YtcafdkmgjfakdaaBudP6
import Derived.Test.YtcafdkmgjfakdaaBudW6
namespace Go.Proofs.Ytcafdkmgjfakdaa
open Go.RowKit Go.Proofs.Ytcafdkmgjfakdaa.RM

theorem RdT.one {W : World} {b : Nat} {v : Value} {ps : List Fr} (h : W.cell? ⟨b, 0, none⟩ = some v) (hr : RdR W v ps) : RdT W (.slice (some ⟨b, 0, none⟩) 1 1) [ps] := by
  refine ⟨some ⟨b, 0, none⟩, 1, rfl, by unfold maxLen; simp, by simp, by unfold maxLen; omega, ?_⟩
  intro i hi
  obtain rfl : i = 0 := by simpa using hi
  exact ⟨b, 0, v, rfl, h, hr⟩
theorem car_one8 (ps : List Fr) (rows : List (List Fr)) : carC [ps] rows = toldC ps rows := by
  cases e1 : covB rows
  · unfold carC toldC; rw [e1]; simp
  · have hc := covB_out e1
    unfold carC toldC
    rw [e1, Bool.and_true, Bool.true_and]
    cases e2 : allB ps rows.length
    · by_cases hl : ps.length = rows.length
      · have : tabB [ps] 6 = false := by
          cases e3 : tabB [ps] 6
          · rfl
          · obtain ⟨_, h2⟩ := tabB_out e3
            have := (h2 0 (by simp)).2
            have e4 : allB ps rows.length = true := by
              unfold allB
              rw [Bool.and_eq_true, decide_eq_true_eq]
              exact ⟨.inr (by omega), this⟩
            rw [e4] at e2; cases e2
        rw [this]; rfl
      · rw [decide_eq_false (show ¬ (rw' [ps] 0).length = rows.length from hl), Bool.and_false]
    · obtain ⟨h4, h5⟩ := allB_len (by omega) e2
      have hl : ps.length = rows.length := by omega
      rw [decide_eq_true (show (rw' [ps] 0).length = rows.length from hl), Bool.and_true]
      refine tabB_yes ⟨by simp, by simp, by show 1 ≤ ps.length; omega, by show ((ps.length : Nat) : Int) ≤ 6; omega⟩ ?_
      intro k hk
      obtain rfl : k = 0 := by simpa using hk
      exact ⟨rfl, h5⟩

set_option maxRecDepth 100000 in
set_option maxHeartbeats 4000000 in
theorem cby_any (vr vs : Value) (rows S : List (List Fr)) (w : World) (h : RdT w vr rows) (hs : RdT w vs S) :
    Calls Try.prog 16 #[vr, vs] w fun e w' => e = .returned (.bool (carC S rows)) ∧ Below w.heap.size w w' := by
  have HT := hidW8 (fun W (hW : Below w.heap.size w W) => iTab_any vs S W (hs.below hW))
  have HC := hidW8 (fun W (hW : Below w.heap.size w W) => iCov_any vr rows W (h.below hW))
  obtain ⟨q, hq⟩ : ∃ q, q = tabB S 6 := ⟨_, rfl⟩
  rw [← hq] at HT
  have HQ := hidW8 hq
  obtain ⟨p, hp⟩ : ∃ q, q = covB rows := ⟨_, rfl⟩
  rw [← hp] at HC
  have HP := hidW8 hp
  obtain ⟨r, hr⟩ : ∃ r, r = carC S rows := ⟨_, rfl⟩
  have HR : Hid (r = (q && p && decide ((rw' S 0).length = rows.length))) := by show _ = _; rw [hr, hq, hp]; rfl
  rw [← hr]
  obtain ⟨a, c, rfl, h2, _, _, _⟩ := h
  obtain ⟨sa, sc, rfl, s2, _, _, s5⟩ := hs
  have S5 := hidW8 s5
  unfold maxLen at h2 s2
  obtain ⟨L, hL⟩ : ∃ L, L = rows.length := ⟨_, rfl⟩
  rw [← hL] at h2 HC HR ⊢
  clear hq hp hr hL s5
  cases q
  · have HF : Hid (r = false) := HR.out
    go_enter Try.func16, Try.ntmps16
    go_wp2_with fail
    refine (HT.out _ (Below.refl _ _)).mono ?_
    rintro e w1 ⟨rfl, hb⟩
    go_wp2
    go_ret
    exact ⟨ret_b HF.out.symm, hb⟩
  cases p
  · have HF : Hid (r = false) := HR.out
    go_enter Try.func16, Try.ntmps16
    go_wp2_with fail
    refine (HT.out _ (Below.refl _ _)).mono ?_
    rintro e w1 ⟨rfl, hb⟩
    go_wp2_with fail
    refine (HC.out _ hb).mono ?_
    rintro e w2 ⟨rfl, hb2⟩
    have hbb := hb.trans (hb2.mono hb.size)
    clear hb hb2
    go_wp2
    go_ret
    exact ⟨ret_b HF.out.symm, hbb⟩
  obtain ⟨⟨t1, t2, t3, t4⟩, _⟩ := tabB_out HQ.out.symm
  obtain ⟨b, off, u0, rfl, c0, ⟨a0, cc, rfl, m2, _, _, _⟩⟩ := S5.out 0 (by omega)
  rw [Nat.add_zero] at c0
  obtain ⟨M, hM⟩ : ∃ L, L = (rw' S 0).length := ⟨_, rfl⟩
  rw [← hM] at c0 HR t3 t4
  have hS1 : (0 : Int) < (S.length : Int) := by omega
  clear hM m2 t1
  go_enter Try.func16, Try.ntmps16
  go_wp2_with fail
  refine (HT.out _ (Below.refl _ _)).mono ?_
  rintro e w1 ⟨rfl, hb⟩
  go_wp2_with fail
  refine (HC.out _ hb).mono ?_
  rintro e w2 ⟨rfl, hb2⟩
  have hbb := hb.trans (hb2.mono hb.size)
  have c1 := cell_keep hbb c0
  clear hb hb2
  by_cases hne : M = L
  · have hi : ((M : Int) == (L : Int)) = true := by simp [hne]
    have HF : Hid (r = true) := by show _ = _; rw [HR.out, decide_eq_true hne]; rfl
    clear hne
    go_wp2
    go_ret
    exact ⟨ret_b HF.out.symm, hbb⟩
  · have hi : ((M : Int) == (L : Int)) = false := by simp; omega
    have HF : Hid (r = false) := by show _ = _; rw [HR.out, decide_eq_false hne]; rfl
    clear hne
    go_wp2
    go_ret
    exact ⟨ret_b HF.out.symm, hbb⟩

theorem var_tog {ps : List Fr} {rows : List (List Fr)} (h : toldC ps rows = true) : (varA ps rows, varO ps rows) = togP ps rows ps := by
  unfold togP varA varO varS
  rw [h, Bool.true_and]
  cases e : (sumV ps rows ps false rows.length).2 <;> simp

end Go.Proofs.Ytcafdkmgjfakdaa
