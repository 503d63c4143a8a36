/- The walk of going down in a heap. -/
import Derived.Test.YthfdpdnphnjebaaHpW3
namespace Go.Proofs.Ythfdpdnphnjebaa
open Go.RowKit Go.Proofs.Ythfdpdnphnjebaa.RM

theorem lsE_same {a : En} (h : okE a) : lsE a a = false := by
  cases k : lsE a a
  · rfl
  · exact absurd (ordE.asym a a h h k) (by rw [k]; decide)

set_option maxRecDepth 100000 in
set_option maxHeartbeats 8000000 in
theorem downH_any (lo H g c n m : Nat) (es : List En) (w : World) (h : HpS w lo H g c n es) (hok : ∀ e ∈ es, okE e) (hn : n ≤ 1000) (hm : m ≤ n) (hd : Hp.DnHp dE lsE es m 0) :
    Calls Try.prog 50 #[hpv H, .int .i64 0, .int .i64 m] w fun e w' => (∃ b, e = .returned (.bool b)) ∧ ∃ es', HpS w' lo H g c n es' ∧ Hp.Same dE es es' m ∧ Hp.Heap dE lsE es' m ∧ KpH H g w w' := by
  go_enter Try.func50, Try.ntmps50
  go_wp2_with fail
  have HP := hidH (Hp.Same.refl (d := dE) es m)
  replace h := hidH h
  replace hd := hidH hd
  replace hok := hidH hok
  have hB := hidH (KpH.refl H g w)
  go_loopw [7] (fun i wr => ∃ (k : Nat) (es' : List En), k ≤ m ∧ i = .int .i64 k ∧ Hid (HpS wr lo H g c n es') ∧ Hid (Hp.Same dE es es' m) ∧ Hid (Hp.DnHp dE lsE es' m k) ∧ Hid (KpH H g w wr)) (fun i _ => m - (intOf i).toNat)
  case atStart => exact ⟨0, es, Nat.zero_le _, rfl, h, HP, hd, hB⟩
  case round =>
    clear h hd hB HP
    obtain ⟨k, el, hk, rfl, h, HP, hd, hB⟩ := hrel
    have HLN := hidH h.out.2.2.1
    have HQ : Hid (∀ i, i < n → okE (Hp.at' dE el i)) := fun i hi => Hp.mem_at (d := dE) (fun x hx => hok.out x (HP.out.1.mem_iff.1 hx)) (by rw [HLN.out]; exact hi)
    obtain ⟨j1, hj⟩ : ∃ j, j = 2 * k + 1 := ⟨_, rfl⟩
    have HJ1 := hidH hj
    have hw1 : 2 * (k : Int) + 1 = (j1 : Int) := by omega
    have hkj : k < j1 := by omega
    have hjb : j1 ≤ 2001 := by omega
    clear hj
    by_cases h1 : m ≤ j1
    · go_wp2
      go_ret
      exact ⟨⟨_, rfl⟩, el, h.out, HP.out, Hp.dn_done hd.out (fun q q0 qm qp => by have := HJ1.out; omega), hB.out⟩
    obtain ⟨j2, hj⟩ : ∃ j, j = j1 + 1 := ⟨_, rfl⟩
    have HJ2 := hidH hj
    have hw2 : (j1 : Int) + 1 = (j2 : Int) := by omega
    have hj2 : j1 < j2 := by omega
    have hj2b : j2 ≤ 2002 := by omega
    have hjk1 : j1 < n := by omega
    clear hj
    by_cases h2 : j2 < m
    · have c0 := h.out.c0
      have hme := mLess c0
      have HL := hidH (h.out.less j2 j1 (by omega) (by omega))
      obtain ⟨q, hq⟩ : ∃ q, q = lsE (Hp.at' dE el j2) (Hp.at' dE el j1) := ⟨_, rfl⟩
      rw [← hq] at HL
      have HQ1 := hidH hq
      clear hq
      go_wp2_with fail
      refine HL.out.mono ?_
      rintro e w1 ⟨rfl, hb⟩
      replace h := hidH (h.out.below hb)
      replace hB := hidH (hB.out.next (KpH.of_below hb))
      clear hb c0 hme HL
      cases q
      ·
        have HM : Hid (∀ q, 0 < q → q < m → (q - 1) / 2 = k → lsE (Hp.at' dE el q) (Hp.at' dE el j1) = false) := by
          intro q q0 qm qp
          have e1 := HJ1.out
          have e2 := HJ2.out
          rcases (show q = j1 ∨ q = j2 by omega) with e | e
          · subst e
            exact lsE_same (HQ.out _ (by omega))
          · subst e
            exact HQ1.out.symm
        have c0 := h.out.c0
        have hme := mLess c0
        have HL := hidH (h.out.less j1 k (by omega) (by omega))
        obtain ⟨q, hq⟩ : ∃ q, q = lsE (Hp.at' dE el j1) (Hp.at' dE el k) := ⟨_, rfl⟩
        rw [← hq] at HL
        have HQ2 := hidH hq
        clear hq
        go_wp2_with fail
        refine HL.out.mono ?_
        rintro e w2 ⟨rfl, hb⟩
        replace h := hidH (h.out.below hb)
        replace hB := hidH (hB.out.next (KpH.of_below hb))
        clear hb c0 hme HL
        cases q
        · go_wp2
          go_ret
          exact ⟨⟨_, rfl⟩, el, h.out, HP.out, Hp.dn_done hd.out (fun q q0 qm qp => ordE.tr _ _ _ (HQ.out k (by omega)) (HQ.out j1 (by omega)) (HQ.out q (by omega)) HQ2.out.symm (HM.out q q0 qm qp)), hB.out⟩
        · have c0 := h.out.c0
          have hme := mSwap c0
          have HS := hidH (h.out.swap k j1 (by omega) (by omega))
          go_wp2_with fail
          refine HS.out.mono ?_
          rintro e w3 ⟨rfl, g2, gk2⟩
          have H2 := hidH g2
          have HK := hidH gk2
          clear g2 gk2 hme c0 HS
          go_wp2
          go_roundw
          case rel =>
            have hl := HLN.out
            refine ⟨j1, Hp.swp dE el k j1, by omega, by first | rfl | go_num, H2.out, HP.out.swp (by omega) (by omega) (by omega), ?_, hB.out.next HK.out⟩
            exact Hp.dn_step ordE (n := m) (by omega) (fun x hx => hok.out x (HP.out.1.mem_iff.1 hx)) hd.out (by have e1 := HJ1.out; have e2 := HJ2.out; omega) (by omega) HM.out HQ2.out.symm
          case measure => simp [intOf]; omega
      ·
        have HM : Hid (∀ q, 0 < q → q < m → (q - 1) / 2 = k → lsE (Hp.at' dE el q) (Hp.at' dE el j2) = false) := by
          intro q q0 qm qp
          have e1 := HJ1.out
          have e2 := HJ2.out
          rcases (show q = j1 ∨ q = j2 by omega) with e | e
          · subst e
            exact ordE.asym _ _ (HQ.out _ (by omega)) (HQ.out _ (by omega)) HQ1.out.symm
          · subst e
            exact lsE_same (HQ.out _ (by omega))
        have c0 := h.out.c0
        have hme := mLess c0
        have HL := hidH (h.out.less j2 k (by omega) (by omega))
        obtain ⟨q, hq⟩ : ∃ q, q = lsE (Hp.at' dE el j2) (Hp.at' dE el k) := ⟨_, rfl⟩
        rw [← hq] at HL
        have HQ2 := hidH hq
        clear hq
        go_wp2_with fail
        refine HL.out.mono ?_
        rintro e w2 ⟨rfl, hb⟩
        replace h := hidH (h.out.below hb)
        replace hB := hidH (hB.out.next (KpH.of_below hb))
        clear hb c0 hme HL
        cases q
        · go_wp2
          go_ret
          exact ⟨⟨_, rfl⟩, el, h.out, HP.out, Hp.dn_done hd.out (fun q q0 qm qp => ordE.tr _ _ _ (HQ.out k (by omega)) (HQ.out j2 (by omega)) (HQ.out q (by omega)) HQ2.out.symm (HM.out q q0 qm qp)), hB.out⟩
        · have c0 := h.out.c0
          have hme := mSwap c0
          have HS := hidH (h.out.swap k j2 (by omega) (by omega))
          go_wp2_with fail
          refine HS.out.mono ?_
          rintro e w3 ⟨rfl, g2, gk2⟩
          have H2 := hidH g2
          have HK := hidH gk2
          clear g2 gk2 hme c0 HS
          go_wp2
          go_roundw
          case rel =>
            have hl := HLN.out
            refine ⟨j2, Hp.swp dE el k j2, by omega, by first | rfl | go_num, H2.out, HP.out.swp (by omega) (by omega) (by omega), ?_, hB.out.next HK.out⟩
            exact Hp.dn_step ordE (n := m) (by omega) (fun x hx => hok.out x (HP.out.1.mem_iff.1 hx)) hd.out (by have e1 := HJ1.out; have e2 := HJ2.out; omega) (by omega) HM.out HQ2.out.symm
          case measure => simp [intOf]; omega
    ·
      have HM : Hid (∀ q, 0 < q → q < m → (q - 1) / 2 = k → lsE (Hp.at' dE el q) (Hp.at' dE el j1) = false) := by
        intro q q0 qm qp
        have e1 := HJ1.out
        have e2 := HJ2.out
        rcases (show q = j1 ∨ q = j2 by omega) with e | e
        · subst e
          exact lsE_same (HQ.out _ (by omega))
        · subst e
          omega
      have c0 := h.out.c0
      have hme := mLess c0
      have HL := hidH (h.out.less j1 k (by omega) (by omega))
      obtain ⟨q, hq⟩ : ∃ q, q = lsE (Hp.at' dE el j1) (Hp.at' dE el k) := ⟨_, rfl⟩
      rw [← hq] at HL
      have HQ2 := hidH hq
      clear hq
      go_wp2_with fail
      refine HL.out.mono ?_
      rintro e w2 ⟨rfl, hb⟩
      replace h := hidH (h.out.below hb)
      replace hB := hidH (hB.out.next (KpH.of_below hb))
      clear hb c0 hme HL
      cases q
      · go_wp2
        go_ret
        exact ⟨⟨_, rfl⟩, el, h.out, HP.out, Hp.dn_done hd.out (fun q q0 qm qp => ordE.tr _ _ _ (HQ.out k (by omega)) (HQ.out j1 (by omega)) (HQ.out q (by omega)) HQ2.out.symm (HM.out q q0 qm qp)), hB.out⟩
      · have c0 := h.out.c0
        have hme := mSwap c0
        have HS := hidH (h.out.swap k j1 (by omega) (by omega))
        go_wp2_with fail
        refine HS.out.mono ?_
        rintro e w3 ⟨rfl, g2, gk2⟩
        have H2 := hidH g2
        have HK := hidH gk2
        clear g2 gk2 hme c0 HS
        go_wp2
        go_roundw
        case rel =>
          have hl := HLN.out
          refine ⟨j1, Hp.swp dE el k j1, by omega, by first | rfl | go_num, H2.out, HP.out.swp (by omega) (by omega) (by omega), ?_, hB.out.next HK.out⟩
          exact Hp.dn_step ordE (n := m) (by omega) (fun x hx => hok.out x (HP.out.1.mem_iff.1 hx)) hd.out (by have e1 := HJ1.out; have e2 := HJ2.out; omega) (by omega) HM.out HQ2.out.symm
        case measure => simp [intOf]; omega
end Go.Proofs.Ythfdpdnphnjebaa
