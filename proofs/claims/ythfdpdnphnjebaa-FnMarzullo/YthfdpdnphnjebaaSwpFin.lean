/- What is found in the ends' order is what the model finds. -/
import Derived.Test.YthfdpdnphnjebaaSwpMath
namespace Go.Proofs.Ythfdpdnphnjebaa
open Go.RowKit Go.Proofs.Ythfdpdnphnjebaa.RM

theorem okLow {ls : List Sp} (h : clmP ls) {j : Nat} (hj : j < ls.length) : ok7 (sp ls j).1 = true := (rng7_out (h.2 j hj)).1
theorem okHigh {ls : List Sp} (h : clmP ls) {j : Nat} (hj : j < ls.length) : ok7 (sp ls j).2 = true := (rng7_out (h.2 j hj)).2.1
theorem depN_pos {ls : List Sp} {v : Fr} {j : Nat} (hb : hasB ls v j = true) : ∀ k, j < k → 1 ≤ depN ls v k
  | 0, h => by omega
  | k + 1, h => by
    have hd : depN ls v (k + 1) = if hasB ls v k = true then depN ls v k + 1 else depN ls v k := rfl
    rw [hd]
    by_cases e : j = k
    · subst e
      rw [if_pos hb]; omega
    · have := depN_pos hb k (by omega)
      split <;> omega
theorem own_low {ls : List Sp} (h : clmP ls) {j : Nat} (hj : j < ls.length) : 1 ≤ depI ls (sp ls j).1 := by
  have hb : hasB ls (sp ls j).1 j = true := (hasB_iff h (okLow h hj) hj).2 ⟨Rat.le_refl, (rng7_out (h.2 j hj)).2.2⟩
  have := depN_pos hb ls.length hj
  unfold depI
  omega
/-- the model's best low end -/
theorem bst_is {ls : List Sp} (h : clmP ls) : ∀ k, k ≤ ls.length → 0 ≤ (bstV ls k).1 ∧ (0 < k → ∃ j, j < k ∧ (bstV ls k).2 = (sp ls j).1 ∧ (bstV ls k).1 = depI ls (sp ls j).1) ∧ (∀ j, j < k → depI ls (sp ls j).1 ≤ (bstV ls k).1) ∧ (∀ j, j < k → depI ls (sp ls j).1 = (bstV ls k).1 → v7 (bstV ls k).2 ≤ v7 (sp ls j).1)
  | 0, _ => ⟨Int.le_refl _, fun h => by omega, fun j hj => by omega, fun j hj => by omega⟩
  | k + 1, hk => by
    obtain ⟨h0, h1, h2, h3⟩ := bst_is h k (by omega)
    have hp := own_low h (j := k) (by omega)
    have hok := okLow h (j := k) (by omega)
    by_cases e : betB ls (bstV ls k) k = true
    · have e1 : bstV ls (k + 1) = (depI ls (sp ls k).1, (sp ls k).1) := by show (if _ then _ else _) = _; rw [if_pos e]
      rw [e1]
      unfold betB at e
      rw [Bool.or_eq_true, decide_eq_true_eq, Bool.and_eq_true, decide_eq_true_eq] at e
      refine ⟨by dsimp only; omega, fun _ => ⟨k, by omega, rfl, rfl⟩, fun j hj => ?_, fun j hj q => ?_⟩
      · by_cases k2 : j = k
        · rw [k2]; exact Int.le_refl _
        · have := h2 j (by omega)
          dsimp only
          rcases e with e | e <;> omega
      · by_cases k2 : j = k
        · rw [k2]; exact Rat.le_refl
        · have q2 := h2 j (by omega)
          dsimp only at q ⊢
          rcases e with e | ⟨e, e'⟩
          · omega
          · have q3 := h3 j (by omega) (by omega)
            have hok2 : ok7 (bstV ls k).2 = true := by
              by_cases k0 : 0 < k
              · obtain ⟨j', hj', r, _⟩ := h1 k0
                rw [r]; exact okLow h (by omega)
              · omega
            exact Rat.le_trans (Rat.le_of_lt ((le7_iff hok hok2).1 e')) q3
    · have e1 : bstV ls (k + 1) = bstV ls k := by show (if _ then _ else _) = _; rw [if_neg e]
      rw [e1]
      unfold betB at e
      rw [Bool.or_eq_true, decide_eq_true_eq, Bool.and_eq_true, decide_eq_true_eq] at e
      have k0 : 0 < k := by
        by_cases k0 : k = 0
        · subst k0
          exact absurd (Or.inl (show (0 : Int) < _ by omega)) e
        · omega
      obtain ⟨j', hj', r, r2⟩ := h1 k0
      have hok2 : ok7 (bstV ls k).2 = true := by rw [r]; exact okLow h (by omega)
      refine ⟨h0, fun _ => ⟨j', by omega, r, r2⟩, fun j hj => ?_, fun j hj q => ?_⟩
      · by_cases k2 : j = k
        · rw [k2]; exact Int.not_lt.1 fun q => e (Or.inl q)
        · exact h2 j (by omega)
      · by_cases k2 : j = k
        · rw [k2] at q ⊢
          refine Rat.not_lt.1 fun q2 => e (Or.inr ⟨q, ?_⟩)
          exact (le7_iff hok hok2).2 q2
        · exact h3 j (by omega) q
/-- the model's first high end of those that have low -/
theorem hgh_is {ls : List Sp} (h : clmP ls) (low : Fr) : ∀ k, k ≤ ls.length → ((hghV ls low k).2 = false → ∀ j, j < k → hasB ls low j = false) ∧ ((hghV ls low k).2 = true → (∃ j, j < k ∧ hasB ls low j = true ∧ (hghV ls low k).1 = (sp ls j).2) ∧ ∀ j, j < k → hasB ls low j = true → v7 (hghV ls low k).1 ≤ v7 (sp ls j).2)
  | 0, _ => ⟨fun _ j hj => by omega, fun h => by cases h⟩
  | k + 1, hk => by
    obtain ⟨h1, h2⟩ := hgh_is h low k (by omega)
    have hok := okHigh h (j := k) (by omega)
    by_cases e : neaB ls low (hghV ls low k) k = true
    · have e1 : hghV ls low (k + 1) = ((sp ls k).2, true) := by show (if _ then _ else _) = _; rw [if_pos e]
      rw [e1]
      unfold neaB at e
      rw [Bool.and_eq_true, Bool.or_eq_true, Bool.not_eq_true'] at e
      refine ⟨fun h => (by cases h), fun _ => ⟨⟨k, by omega, e.1, rfl⟩, fun j hj hb => ?_⟩⟩
      by_cases k2 : j = k
      · rw [k2]; exact Rat.le_refl
      · rcases e.2 with q | q
        · have := h1 q j (by omega); rw [hb] at this; cases this
        · cases hq : (hghV ls low k).2
          · have := h1 hq j (by omega); rw [hb] at this; cases this
          · obtain ⟨⟨j', hj', _, r⟩, q3⟩ := h2 hq
            have hok2 : ok7 (hghV ls low k).1 = true := by rw [r]; exact okHigh h (by omega)
            exact Rat.le_trans (Rat.le_of_lt ((le7_iff hok hok2).1 q)) (q3 j (by omega) hb)
    · have e1 : hghV ls low (k + 1) = hghV ls low k := by show (if _ then _ else _) = _; rw [if_neg e]
      rw [e1]
      unfold neaB at e
      rw [Bool.and_eq_true, Bool.or_eq_true, Bool.not_eq_true'] at e
      refine ⟨fun q j hj => ?_, fun q => ?_⟩
      · by_cases k2 : j = k
        · rw [k2]
          cases hb : hasB ls low k
          · rfl
          · exact absurd ⟨hb, Or.inl q⟩ e
        · exact h1 q j (by omega)
      · obtain ⟨⟨j', hj', r1, r2⟩, q3⟩ := h2 q
        refine ⟨⟨j', by omega, r1, r2⟩, fun j hj hb => ?_⟩
        by_cases k2 : j = k
        · rw [k2] at hb ⊢
          have hok2 : ok7 (hghV ls low k).1 = true := by rw [r2]; exact okHigh h (by omega)
          refine Rat.not_lt.1 fun q2 => e ⟨hb, Or.inr ?_⟩
          exact (le7_iff hok hok2).2 q2
        · exact q3 j (by omega) hb
theorem eq_of_leP {a b : En} : ∀ (i j : Nat) (ls : List Sp), i ≤ j → j < 2 * ls.length → er (srtE ls) i = a → er (srtE ls) j = b → leP a b := by
  intro i j ls hij hj ha hb
  by_cases e : i = j
  · subst e
    rw [← ha, ← hb]
    rcases leP_total (er (srtE ls) i) (er (srtE ls) i) with h | h <;> exact h
  · rw [← ha, ← hb]
    exact srtE_le ls (by omega) hj
/-- a Low has one behind it -/
theorem low_next {ls : List Sp} (h : clmP ls) {i : Nat} (hi : i < 2 * ls.length) (hl : (er (srtE ls) i).2 = false) : i + 1 < 2 * ls.length := by
  obtain ⟨j, hj, q⟩ := (endsL_mem ls ls.length).1 (srtE_mem ls hi)
  rcases q with q | q
  · obtain ⟨m, hm, qm⟩ := srtE_idx ls ((endsL_mem ls ls.length).2 ⟨j, hj, Or.inr rfl⟩)
    by_cases k : i < m
    · omega
    · have hle := eq_of_leP m i ls (by omega) hi qm q
      have hr := (rng7_out (h.2 j hj)).2.2
      rcases hle with r | ⟨_, r | r⟩
      · exact absurd r (Rat.not_lt.2 hr)
      · cases r
      · cases r
  · rw [q] at hl; cases hl
/-- THE ORDER's FIND IS THE MODEL's -/
theorem sweep_all {ls : List Sp} (h : clmP ls) : swE (srtE ls) (2 * ls.length) = ((agrL ls, agrH ls), (bstV ls ls.length).1) ∧ 1 ≤ (bstV ls ls.length).1 ∧ ok7 (agrL ls) = true ∧ ok7 (agrH ls) = true ∧ v7 (agrL ls) ≤ v7 (agrH ls) ∧ depI ls (agrL ls) = (bstV ls ls.length).1 ∧
    (∀ v, ok7 v = true → depI ls v ≤ (bstV ls ls.length).1) ∧ (∀ v, ok7 v = true → depI ls v = (bstV ls ls.length).1 → v7 (agrL ls) ≤ v7 v) ∧ ∀ j, j < ls.length → hasB ls (agrL ls) j = true → v7 (agrH ls) ≤ v7 (sp ls j).2 := by
  have hL := h.1
  obtain ⟨hmax, hfst⟩ := swE_inv (srtE ls) (2 * ls.length)
  obtain ⟨b0, b1, b2, b3⟩ := bst_is h ls.length (Nat.le_refl _)
  obtain ⟨jb, hjb, rb, rb2⟩ := b1 (by omega)
  generalize hm : (swE (srtE ls) (2 * ls.length)).2 = most at hmax hfst
  have A1 : ∀ v, ok7 v = true → depI ls v ≤ most := fun v hv => by
    obtain ⟨s, h1, h2, _⟩ := dep_at h hv
    rw [h2]; exact hmax s h1
  have hpos : 0 < most := by
    have := A1 _ (okLow h (j := 0) (by omega))
    have := own_low h (j := 0) (by omega)
    omega
  rcases hfst with h0 | ⟨i, hi, hlow, hdp, hag, hbef⟩
  · omega
  obtain ⟨k0, hk0, q0⟩ := (endsL_mem ls ls.length).1 (srtE_mem ls hi)
  have hi0 : er (srtE ls) i = ((sp ls k0).1, false) := by
    rcases q0 with q | q
    · exact q
    · rw [q] at hlow; cases hlow
  obtain ⟨low, hlw⟩ : ∃ low, low = (sp ls k0).1 := ⟨_, rfl⟩
  rw [← hlw] at hi0
  have hlok : ok7 low = true := by rw [hlw]; exact okLow h hk0
  obtain ⟨s, s1, s2, s3, s4⟩ := dep_at h hlok
  have hp0 : befP low (er (srtE ls) i) := by rw [hi0]; unfold befP; simp
  have his : i < s := by
    by_cases k : i < s
    · exact k
    · exact absurd hp0 (s4 i (by omega) hi)
  -- what lies between is Low at low
  have hbet : ∀ t, i + 1 ≤ t → t ≤ s → dpE (srtE ls) t = most + ((t : Int) - (i + 1 : Nat)) := by
    intro t
    induction t with
    | zero => intro h1; omega
    | succ t ih =>
      intro h1 h2
      by_cases e : t = i
      · subst e; rw [hdp]; omega
      · have ih' := ih (by omega) (by omega)
        have hq := s3 t (by omega)
        have hle := srtE_le ls (show i < t by omega) (by omega)
        have hnl : (er (srtE ls) t).2 = false := by
          cases q : (er (srtE ls) t).2
          · rfl
          · unfold befP at hq
            rw [if_pos q] at hq
            have := leP_val hle
            rw [hi0] at this
            exact absurd hq (Rat.not_lt.2 this)
        show (if _ then _ else _) = _
        rw [if_neg (by rw [hnl]; decide), ih']
        omega
  have hs : s = i + 1 := by
    have := hbet s (by omega) (Nat.le_refl _)
    have := hmax s s1
    omega
  subst hs
  have hdlow : depI ls low = most := by rw [s2, hdp]
  have hnx := low_next h hi hlow
  obtain ⟨e1, he1⟩ : ∃ e, e = er (srtE ls) (i + 1) := ⟨_, rfl⟩
  have hhi : e1.2 = true := by
    cases q : e1.2
    · have : dpE (srtE ls) (i + 1 + 1) = dpE (srtE ls) (i + 1) + 1 := by
        show (if _ then _ else _) = _
        rw [if_neg (by rw [← he1, q]; decide)]
      have := hmax (i + 1 + 1) (by omega)
      omega
    · rfl
  obtain ⟨k1, hk1, q1⟩ := (endsL_mem ls ls.length).1 (srtE_mem ls hnx)
  have hi1 : e1 = ((sp ls k1).2, true) := by
    rw [← he1] at q1
    rcases q1 with q | q
    · rw [q] at hhi; cases hhi
    · exact q
  have hle01 : v7 low ≤ v7 (sp ls k1).2 := by
    have := leP_val (srtE_le ls (show i < i + 1 by omega) hnx)
    rw [hi0, ← he1, hi1] at this
    exact this
  -- the claim whose High comes next has low
  have hhas : hasB ls low k1 = true := by
    refine (hasB_iff h hlok hk1).2 ⟨?_, hle01⟩
    obtain ⟨m, hm1, qm⟩ := srtE_idx ls ((endsL_mem ls ls.length).2 ⟨k1, hk1, Or.inl rfl⟩)
    by_cases k : m ≤ i
    · exact leP_val (eq_of_leP m i ls k hi qm hi0)
    · have hle := eq_of_leP (i + 1) m ls (by omega) hm1 (he1.symm.trans hi1) qm
      have hr := (rng7_out (h.2 k1 hk1)).2.2
      rcases hle with r | ⟨_, r | r⟩
      · exact absurd r (Rat.not_lt.2 hr)
      · cases r
      · cases r
  -- all that have low have their High behind
  have hmin : ∀ j, j < ls.length → hasB ls low j = true → v7 (sp ls k1).2 ≤ v7 (sp ls j).2 := by
    intro j hj hb
    obtain ⟨m, hm1, qm⟩ := srtE_idx ls ((endsL_mem ls ls.length).2 ⟨j, hj, Or.inr rfl⟩)
    have hge := ((hasB_iff h hlok hj).1 hb).2
    by_cases k : i + 1 ≤ m
    · exact leP_val (eq_of_leP (i + 1) m ls k hm1 (he1.symm.trans hi1) qm)
    · have hq := s3 m (by omega)
      rw [qm] at hq
      unfold befP at hq
      rw [if_pos rfl] at hq
      exact absurd hq (Rat.not_lt.2 hge)
  -- the model's low is this one
  have hbest : (bstV ls ls.length).1 = most := by
    have h1 := A1 _ (okLow h hjb)
    have h2 := b2 k0 hk0
    rw [← hlw, hdlow] at h2
    omega
  have hL1 : agrL ls = low := by
    have hokb : ok7 (bstV ls ls.length).2 = true := by rw [rb]; exact okLow h hjb
    refine v7_inj hokb hlok (Rat.le_antisymm ?_ ?_)
    · have := b3 k0 hk0 (by rw [← hlw, hdlow, hbest])
      rw [← hlw] at this; exact this
    · obtain ⟨s', t1, t2, t3, t4⟩ := dep_at h hokb
      have hd : dpE (srtE ls) s' = most := by rw [← t2, rb, ← rb2, hbest]
      have his' : i < s' := by
        by_cases k : i < s'
        · exact k
        · have := hbef s' (by omega); omega
      have hq := t3 i his'
      rw [hi0] at hq
      unfold befP at hq
      rw [if_neg (show ¬ (false = true) by decide)] at hq
      exact hq
  have hH1 : agrH ls = (sp ls k1).2 := by
    obtain ⟨g1, g2⟩ := hgh_is h low ls.length (Nat.le_refl _)
    have hf : (hghV ls low ls.length).2 = true := by
      cases q : (hghV ls low ls.length).2
      · have := g1 q k1 hk1; rw [hhas] at this; cases this
      · rfl
    obtain ⟨⟨j, hj, r1, r2⟩, r3⟩ := g2 hf
    unfold agrH
    rw [hL1]
    refine v7_inj (by rw [r2]; exact okHigh h hj) (okHigh h hk1) (Rat.le_antisymm (r3 k1 hk1 hhas) ?_)
    rw [r2]; exact hmin j hj r1
  have hlast : ∀ v, ok7 v = true → depI ls v = most → v7 low ≤ v7 v := by
    intro v hv hd
    obtain ⟨s', t1, t2, t3, t4⟩ := dep_at h hv
    have his' : i < s' := by
      by_cases k : i < s'
      · exact k
      · have := hbef s' (by omega); omega
    have hq := t3 i his'
    rw [hi0] at hq
    unfold befP at hq
    rw [if_neg (show ¬ (false = true) by decide)] at hq
    exact hq
  refine ⟨Prod.ext ?_ ?_, ?_⟩
  · rw [hag, hi0, ← he1, hi1, hL1, hH1]
  · rw [hm]; exact hbest.symm
  · rw [hL1, hH1, hbest]
    exact ⟨by omega, hlok, okHigh h hk1, hle01, hdlow, A1, hlast, hmin⟩
theorem sweep {ls : List Sp} (h : clmP ls) : swE (srtE ls) (2 * ls.length) = ((agrL ls, agrH ls), (bstV ls ls.length).1) := (sweep_all h).1
/-- those of whom each claim that has one number has the other, too -/
theorem depN_mono {ls : List Sp} {u v : Fr} (h : ∀ j, j < ls.length → hasB ls u j = true → hasB ls v j = true) : ∀ k, k ≤ ls.length → depN ls u k ≤ depN ls v k
  | 0, _ => Nat.le_refl _
  | k + 1, hk => by
    have ih := depN_mono h k (by omega)
    have hd1 : depN ls u (k + 1) = if hasB ls u k = true then depN ls u k + 1 else depN ls u k := rfl
    have hd2 : depN ls v (k + 1) = if hasB ls v k = true then depN ls v k + 1 else depN ls v k := rfl
    rw [hd1, hd2]
    by_cases q : hasB ls u k = true
    · rw [if_pos q, if_pos (h k (by omega) q)]; omega
    · rw [if_neg q]; split <;> omega
/-- WHAT MARZULLO's LAW ASKS of the agreed range -/
theorem marz {ls : List Sp} (h : clmP ls) : agrN ls = (bstV ls ls.length).1 ∧ agrR ls = (agrL ls, agrH ls) ∧ 1 ≤ agrN ls ∧ rng7 (agrL ls) (agrH ls) = true ∧
    (∀ v, ok7 v = true → deeA ls v ≤ agrN ls ∧ (within7 (agrL ls) (agrH ls) v = true → deeA ls v = agrN ls) ∧ (deeA ls v = agrN ls → le7 v (agrL ls) = false)) ∧ deeA ls (agrL ls) = agrN ls ∧ deeA ls (agrH ls) = agrN ls := by
  obtain ⟨_, g1, g2, g3, g4, g5, g6, g7, g8⟩ := sweep_all h
  have hb : clmB ls = true := decide_eq_true h
  have e1 : agrN ls = (bstV ls ls.length).1 := by unfold agrN; rw [if_pos hb]
  have e2 : agrR ls = (agrL ls, agrH ls) := by unfold agrR; rw [if_pos hb]
  have e3 : ∀ v, ok7 v = true → deeA ls v = depI ls v := fun v hv => by
    unfold deeA
    have : okB v.1 v.2 = true := hv
    rw [hb, this]; rfl
  have hin : ∀ v, ok7 v = true → v7 (agrL ls) ≤ v7 v → v7 v ≤ v7 (agrH ls) → deeA ls v = agrN ls := by
    intro v hv h1 h2
    have hm := depN_mono (ls := ls) (u := agrL ls) (v := v) (fun j hj q => by
      have q1 := (hasB_iff h g2 hj).1 q
      exact (hasB_iff h hv hj).2 ⟨Rat.le_trans q1.1 h1, Rat.le_trans h2 (g8 j hj q)⟩) ls.length (Nat.le_refl _)
    have hx := g6 v hv
    rw [e3 v hv, e1]
    unfold depI at g5 hx ⊢
    omega
  refine ⟨e1, e2, by omega, rng7_mk g2 g3 g4, fun v hv => ⟨?_, fun hw => ?_, fun hd => ?_⟩, ?_, ?_⟩
  · rw [e3 v hv, e1]; exact g6 v hv
  · unfold within7 at hw
    rw [rng7_mk g2 g3 g4, hv, Bool.true_and, Bool.true_and, Bool.and_eq_true, Bool.not_eq_true', Bool.not_eq_true', le7_no hv g2, le7_no g3 hv] at hw
    exact hin v hv hw.1 hw.2
  · rw [le7_no hv g2]
    exact g7 v hv (by rw [← e3 v hv, hd, e1])
  · exact hin _ g2 Rat.le_refl g4
  · exact hin _ g3 g4 Rat.le_refl
/-- the half of both ends is within -/
theorem marz_half {ls : List Sp} (h : clmP ls) {m d : Fr} {o p : Bool} (hm : m = addF (agrL ls) (agrH ls)) (ho : o = addG (agrL ls) (agrH ls)) (hd : d = (opN (two m.1 m.2 2 1) (m.1 * 1) (m.2 * 2), opD (two m.1 m.2 2 1) (m.1 * 1) (m.2 * 2))) (hp : p = opOk (two m.1 m.2 2 1) (m.1 * 1) (m.2 * 2)) (h1 : o = true) (h2 : p = true) : deeA ls d = agrN ls := by
  obtain ⟨e1, e2, _, hr, hall, _, _⟩ := marz h
  obtain ⟨g2, g3, g4⟩ := rng7_out hr
  obtain ⟨a1, a2⟩ := addF_yes (p := agrL ls) (q := agrH ls) (by rw [← ho, h1])
  have hk : opOk (two m.1 m.2 2 1) (m.1 * 1) (m.2 * 2) = true := by rw [← hp, h2]
  have hd7 := op7 (p := m) (q := (2, 1)) (x := m.1 * 1) (y := m.2 * 2) hk
  have hdok : ok7 d = true := by rw [hd]; exact hd7.2.2.1
  have hdv : v7 d = Rat.divInt (m.1 * 1) (m.2 * 2) := by rw [hd]; exact hd7.2.2.2
  have hm2 : v7 d * 2 = v7 (agrL ls) + v7 (agrH ls) := by
    rw [← a2, ← hm, hdv]
    have hpos : 0 < m.2 := ok7_pos (by rw [hm]; exact a1)
    unfold v7
    rw [show (2 : Rat) = Rat.divInt 2 1 by decide, Rat.divInt_mul_divInt, Int.mul_one, Int.mul_one]
    exact Rat.divInt_mul_right (by decide)
  refine (hall d hdok).2.1 ?_
  unfold within7
  rw [hr, hdok, Bool.true_and, Bool.true_and, Bool.and_eq_true, Bool.not_eq_true', Bool.not_eq_true', le7_no hdok g2, le7_no g3 hdok]
  constructor <;> grind
end Go.Proofs.Ythfdpdnphnjebaa
