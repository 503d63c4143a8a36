/- The walk of the program's Agreed. -/
import Derived.Test.YthfdpdnphnjebaaSwpFin
namespace Go.Proofs.Ythfdpdnphnjebaa
open Go.RowKit Go.Proofs.Ythfdpdnphnjebaa.RM

theorem drop_cons {S : List En} {t : Nat} (h : t < S.length) : S.drop t = er S t :: S.drop (t + 1) := by
  rw [List.drop_eq_getElem_cons h]
  simp [er, List.getElem?_eq_getElem h]
theorem drop_idx {S : List En} {t : Nat} {e : En} (h : e ∈ S.drop t) : ∃ i, t ≤ i ∧ i < S.length ∧ er S i = e := by
  obtain ⟨k, hk, q⟩ := List.mem_iff_getElem.1 h
  rw [List.length_drop] at hk
  refine ⟨t + k, by omega, by omega, ?_⟩
  rw [← q]
  simp [er, List.getElem?_eq_getElem (show t + k < S.length by omega)]
theorem head_is {ls : List Sp} (hc : clmP ls) {es : List En} {t r : Nat} (hl : t + r = 2 * ls.length) (hp : es.Perm ((srtE ls).drop t)) (hh : Hp.Heap dE lsE es r) (hr : 0 < r) : Hp.at' dE es 0 = er (srtE ls) t := by
  have hS := srtE_len ls
  have hOK : ∀ i, i < 2 * ls.length → okE (er (srtE ls) i) := fun i hi => endsL_ok hc ls.length (Nat.le_refl _) _ (srtE_mem ls hi)
  have hlen : es.length = r := by rw [hp.length_eq, List.length_drop]; omega
  have hokE : ∀ e ∈ es, okE e := fun e he => by
    obtain ⟨i, _, hi, q⟩ := drop_idx (hp.mem_iff.1 he)
    rw [← q]; exact hOK i (by omega)
  have m0 : Hp.at' dE es 0 ∈ es := by
    unfold Hp.at'
    rw [List.getElem?_eq_getElem (by omega)]
    exact List.getElem_mem _
  obtain ⟨i, hi, hi2, q⟩ := drop_idx (hp.mem_iff.1 m0)
  have h1 : leP (er (srtE ls) t) (Hp.at' dE es 0) := eq_of_leP t i ls hi (by omega) rfl q
  have mt : er (srtE ls) t ∈ es := by
    refine hp.mem_iff.2 ?_
    rw [drop_cons (by omega)]
    exact List.mem_cons_self
  obtain ⟨k, hk, qk⟩ := List.mem_iff_getElem.1 mt
  have qk' : Hp.at' dE es k = er (srtE ls) t := by unfold Hp.at'; rw [List.getElem?_eq_getElem hk, ← qk]; rfl
  by_cases k0 : k = 0
  · rw [← qk', k0]
  · have := Hp.heap_least ordE (n := r) (by omega) hokE hh k (by omega) (by omega)
    rw [qk'] at this
    exact leP_anti (hokE _ m0) (hOK t (by omega)) (ls_le (hokE _ m0) (hOK t (by omega)) this) h1
theorem rest_is {S es es' : List En} {t : Nat} {e : En} (h : t < S.length) (hp : es.Perm (S.drop t)) (he : e = er S t) (hq : (es' ++ [e]).Perm es) : es'.Perm (S.drop (t + 1)) := by
  have h1 := (List.perm_append_comm (l₁ := [e]) (l₂ := es')).trans (hq.trans hp)
  rw [drop_cons h, ← he] at h1
  exact List.Perm.cons_inv h1
def lenAt (W : World) (H : Nat) : Nat := match W.cell? ⟨H, 0, none⟩ with
  | some (.slice _ k _) => k
  | _ => 0
theorem lenAt_is {W : World} {lo H g c n : Nat} {es : List En} (h : HpS W lo H g c n es) : lenAt W H = n := by unfold lenAt; rw [h.c0]

set_option maxRecDepth 100000 in
set_option maxHeartbeats 8000000 in
theorem iAgreed_any (v : Value) (ls : List Sp) (w : World) (h : RdS w v ls) :
    Calls Try.prog 6 #[v] w fun e w' => e = .returned (.tuple #[.agg #[.int .i64 (agrR ls).1.1, .int .i64 (agrR ls).1.2, .int .i64 (agrR ls).2.1, .int .i64 (agrR ls).2.2], .int .i64 (agrN ls)]) ∧ Below w.heap.size w w' := by
  have HC := hidH (fun W (hW : Below w.heap.size w W) => iClm_any v ls W (h.below hW))
  have HEN := hidH (fun W (hW : Below w.heap.size w W) (hc : clmP ls) => iEnds_any v ls W (h.below hW) hc)
  obtain ⟨a, c, rfl, _⟩ := h
  obtain ⟨q, hq⟩ : ∃ q, q = clmB ls := ⟨_, rfl⟩
  have HQ := hidH hq
  have HRR : Hid (agrR ls = if q = true then (agrL ls, agrH ls) else ((0, 0), (0, 0))) := by show _ = _; rw [hq]; rfl
  have HRN : Hid (agrN ls = if q = true then (bstV ls ls.length).1 else -1) := by show _ = _; rw [hq]; rfl
  rw [← hq] at HC
  clear hq
  obtain ⟨L, hL⟩ : ∃ L, L = ls.length := ⟨_, rfl⟩
  have HL := hidH hL
  rw [← hL] at HC HEN ⊢
  clear hL
  obtain ⟨Rb, hRb⟩ : ∃ R, R = w.heap.size := ⟨_, rfl⟩
  obtain ⟨X, hX⟩ : ∃ X, X = w.alloc (.cells #[.int .i64 0, .int .i64 0, .int .i64 0, .int .i64 0] 29) := ⟨_, rfl⟩
  have R0 : Hid (IsB X Rb #[.int .i64 0, .int .i64 0, .int .i64 0, .int .i64 0] 29) := by show IsB _ _ _ _; rw [hX, hRb]; exact IsB.new w _ _
  have hB : Hid (Below w.heap.size w X) := by show Below _ _ _; rw [hX]; exact b0H _ _
  have hwR : w.heap.size ≤ Rb := by omega
  go_enter Try.func6, Try.ntmps6
  go_wp2_with fail
  rw [← hX, ← hRb]
  clear hX hRb
  refine (HC.out _ hB.out).mono ?_
  rintro e w1 ⟨rfl, hb⟩
  replace R0 := hidH (R0.out.below hb)
  replace hB := hidH (hB.out.trans (hb.mono hB.out.size))
  clear hb HC
  cases q
  · obtain ⟨r0, r1, r2, r3⟩ := R0.out.s4
    obtain ⟨s0, s1, s2, s3⟩ := R0.out.sf4
    have HRE : Hid (agrR ls = ((0, 0), (0, 0))) := by show _ = _; rw [HRR.out]; rfl
    have HNE : Hid (agrN ls = -1) := by show _ = _; rw [HRN.out]; rfl
    go_wp2
    have R2 := R0.out.sAll (.int .i64 0) (.int .i64 0) (.int .i64 0) (.int .i64 0)
    obtain ⟨y0, y1, y2, y3⟩ := R2.s4
    exact bodyPost_ret (v := .tuple #[.agg #[.int .i64 0, .int .i64 0, .int .i64 0, .int .i64 0], .int .i64 (-1)]) (by simp [results, Try.results6, go_sem, y0, y1, y2, y3]) rfl ⟨ret_r11 (by rw [HRE.out]) (by rw [HRE.out]) (by rw [HRE.out]) (by rw [HRE.out]) HNE.out.symm, below_sAll hB.out hwR _ _ _ _⟩
  have HCP : Hid (clmP ls) := clmB_out HQ.out.symm
  have hl12 : 1 ≤ L ∧ L ≤ 12 := by rw [HL.out]; exact HCP.out.1
  obtain ⟨l1, l2⟩ := hl12
  have HFIN : Hid (swE (srtE ls) (2 * L) = (agrR ls, agrN ls)) := by
    show _ = _
    rw [HL.out, sweep HCP.out, HRR.out, HRN.out]; rfl
  clear HRR HRN HQ
  obtain ⟨Ab, hAb⟩ : ∃ R, R = w1.heap.size := ⟨_, rfl⟩
  obtain ⟨X, hX⟩ : ∃ X, X = w1.alloc (.cells #[.int .i64 0, .int .i64 0, .int .i64 0, .int .i64 0] 29) := ⟨_, rfl⟩
  have A0 : Hid (IsB X Ab #[.int .i64 0, .int .i64 0, .int .i64 0, .int .i64 0] 29) := by show IsB _ _ _ _; rw [hX, hAb]; exact IsB.new w1 _ _
  have hb := b0H w1 (.cells #[.int .i64 0, .int .i64 0, .int .i64 0, .int .i64 0] 29)
  have hRA : Rb ≠ Ab := by have := R0.out.lt; omega
  have hwA : w.heap.size ≤ Ab := by have := hB.out.size; omega
  rw [← hX] at hb
  replace R0 := hidH (R0.out.below hb)
  replace hB := hidH (hB.out.trans (hb.mono hB.out.size))
  clear hb
  go_upto_region 4 with fail
  simp only [← hAb, ← hX]
  clear hAb hX
  go_wp2_with fail
  refine (HEN.out _ hB.out HCP.out).mono ?_
  rintro e w2 ⟨g, gc, es, rfl, ho, hp, hh, hb⟩
  have hg := ho.lt g rfl
  have hRl := R0.out.lt
  have hAl := A0.out.lt
  obtain ⟨lo, hlo⟩ : ∃ lo, lo = X.heap.size := ⟨_, rfl⟩
  rw [← hlo] at hg hRl hAl
  have hlw : w.heap.size ≤ lo := by have := hB.out.size; omega
  have HO : Hid (w2.ownsRow lo 50 3 (.slice (some ⟨g, 0, none⟩) (2 * L) gc) (2 * L) (cellsE es)) := by show World.ownsRow _ _ _ _ _ _ _; rw [hlo]; exact ho
  have HP0 : Hid (es.Perm ((srtE ls).drop 0)) := by show List.Perm _ _; rw [List.drop_zero]; rw [HL.out] at hp; exact hp.trans (srtE_perm ls).symm
  have HH0 : Hid (Hp.Heap dE lsE es (2 * L)) := by show Hp.Heap _ _ _ _; exact hh
  have hlen : Hid (es.length = 2 * L) := by show _ = _; rw [hp.length_eq, endsL_len]
  replace R0 := hidH (R0.out.below hb)
  replace A0 := hidH (A0.out.below hb)
  replace hB := hidH (hB.out.trans (hb.mono hB.out.size))
  clear hb ho hp hh hlo HEN
  obtain ⟨H, hH⟩ : ∃ R, R = w2.heap.size := ⟨_, rfl⟩
  obtain ⟨Y, hY⟩ : ∃ X, X = w2.alloc (.cells #[.slice (some ⟨g, 0, none⟩) (2 * L) gc] 47) := ⟨_, rfl⟩
  have hb := b0H w2 (.cells #[.slice (some ⟨g, 0, none⟩) (2 * L) gc] 47)
  have I0 : Hid (IsB Y H #[.slice (some ⟨g, 0, none⟩) (2 * L) gc] 47) := by show IsB _ _ _ _; rw [hY, hH]; exact IsB.new w2 _ _
  rw [← hY] at hb
  have hgH : g ≠ H := by omega
  have hloH : lo ≤ H := by omega
  have hRH : Rb ≠ H := by omega
  have hAH : Ab ≠ H := by omega
  have S0 : Hid (HpS Y lo H g gc (2 * L) es) := ⟨I0.out, own_below HO.out hb, hlen.out, hgH⟩
  replace R0 := hidH (R0.out.below hb)
  replace A0 := hidH (A0.out.below hb)
  replace hB := hidH (hB.out.trans (hb.mono hB.out.size))
  clear hb HO I0 hlen
  obtain ⟨S, hS⟩ : ∃ S, S = srtE ls := ⟨_, rfl⟩
  have HSL : Hid (S.length = 2 * L) := by show _ = _; rw [hS, srtE_len, HL.out]
  have HHD : Hid (∀ (es : List En) (t r : Nat), t + r = 2 * L → es.Perm (S.drop t) → Hp.Heap dE lsE es r → 0 < r → Hp.at' dE es 0 = er S t) := by
    intro es t r h1 h2 h3 h4
    rw [hS] at h2 ⊢
    exact head_is HCP.out (by rw [← HL.out]; exact h1) h2 h3 h4
  have HOK : Hid (∀ e ∈ S, okE e) := by
    intro e he
    rw [hS] at he
    exact endsL_ok HCP.out ls.length (Nat.le_refl _) e ((srtE_perm ls).mem_iff.1 he)
  have HNX : Hid (∀ i, i < 2 * L → (er S i).2 = false → i + 1 < 2 * L) := by
    intro i hi h2
    rw [hS] at h2
    rw [HL.out] at hi ⊢
    exact low_next HCP.out hi h2
  have HDS : Hid (∀ t, dpE S (t + 1) = if (er S t).2 = true then dpE S t - 1 else dpE S t + 1) := fun t => rfl
  have HSS : Hid (∀ t, swE S (t + 1) = if (er S t).2 = true then swE S t else if (swE S t).2 < dpE S (t + 1) then (((er S t).1, (er S (t + 1)).1), dpE S (t + 1)) else swE S t) := fun t => rfl
  rw [← hS] at HP0 HFIN
  have hnL : 2 * L ≤ 24 := by omega
  obtain ⟨n, hn⟩ : ∃ n, n = 2 * L := ⟨_, rfl⟩
  rw [← hn] at HSL HHD HNX HH0 S0 HFIN hnL hY
  rw [← hn]
  have hn1 : 0 < n := by omega
  clear hn hS HCP
  go_upto_region 5 with fail
  simp only [← hH, ← hY]
  clear hH hY
  go_loopw [5, 6] (fun mv dv wr => ∃ (t r g gc : Nat) (es : List En), t + r = n ∧ mv = .int .i64 (swE S t).2 ∧ dv = .int .i64 (dpE S t) ∧ Hid (HpS wr lo H g gc r es) ∧ Hid (es.Perm (S.drop t)) ∧ Hid (Hp.Heap dE lsE es r) ∧ Hid (IsB wr Ab #[.int .i64 (swE S t).1.1.1, .int .i64 (swE S t).1.1.2, .int .i64 (swE S t).1.2.1, .int .i64 (swE S t).1.2.2] 29) ∧ Hid (IsB wr Rb #[.int .i64 0, .int .i64 0, .int .i64 0, .int .i64 0] 29) ∧ Hid (Below w.heap.size w wr)) (fun _ _ wr => lenAt wr H)
  case atStart => exact ⟨0, n, g, gc, es, by omega, rfl, rfl, S0, HP0, HH0, A0, R0, hB⟩
  case round =>
    clear S0 HP0 HH0 A0 R0 hB hg hgH
    obtain ⟨t, r, g, gc, es, htr, rfl, rfl, hS, hP, hHp, hA, hR, hB⟩ := hrel
    have hlt := hS.out.lt
    have HLA := hidH (lenAt_is hS.out)
    have HDB := hidH (dpE_bd S t)
    have HSB := hidH (swE_bd S t)
    have HD1 := hidH (HDS.out t)
    have HS1 := hidH (HSS.out t)
    have c0 := hS.out.c0
    by_cases hr0 : r = 0
    · have HT : Hid (swE S t = (agrR ls, agrN ls)) := by show _ = _; rw [show t = n by omega]; exact HFIN.out
      subst hr0
      rw [HT.out] at hA ⊢
      obtain ⟨a0, a1, a2, a3⟩ := hA.out.s4
      obtain ⟨r0, r1, r2, r3⟩ := hR.out.s4
      obtain ⟨f0, f1, f2, f3⟩ := hR.out.sf4
      obtain ⟨rr, hrr⟩ : ∃ x, x = agrR ls := ⟨_, rfl⟩
      obtain ⟨rn, hrn⟩ : ∃ x, x = agrN ls := ⟨_, rfl⟩
      have HRR := hidH (And.intro hrr hrn)
      rw [← hrr] at a0 a1 a2 a3
      rw [← hrr, ← hrn]
      clear hrr hrn HFIN HT hA
      obtain ⟨⟨z1, z2⟩, z3, z4⟩ := rr
      dsimp only at a0 a1 a2 a3 ⊢
      have R9 := hR.out.sAll (.int .i64 z1) (.int .i64 z2) (.int .i64 z3) (.int .i64 z4)
      obtain ⟨y0, y1, y2, y3⟩ := R9.s4
      go_wp2
      exact bodyPost_ret (v := .tuple #[.agg #[.int .i64 z1, .int .i64 z2, .int .i64 z3, .int .i64 z4], .int .i64 rn]) (by simp [results, Try.results6, go_sem, y0, y1, y2, y3]) rfl ⟨ret_r11 (by rw [← HRR.out.1]) (by rw [← HRR.out.1]) (by rw [← HRR.out.1]) (by rw [← HRR.out.1]) (by rw [← HRR.out.2]), below_sAll hB.out hwR _ _ _ _⟩
    obtain ⟨r', hr'⟩ : ∃ r', r' = r - 1 := ⟨_, rfl⟩
    have hrr : r = r' + 1 := by omega
    clear hr'
    subst hrr
    have HOE : Hid (∀ e ∈ es, okE e) := fun e he => HOK.out e (List.mem_of_mem_drop (hP.out.mem_iff.1 he))
    have HE0 := hidH (HHD.out es t (r' + 1) htr hP.out hHp.out (by omega))
    have HLS := hidH (least_any lo H g gc (r' + 1) r' es wr hS.out (by omega) rfl HOE.out hHp.out)
    rw [HE0.out] at HLS
    have HRS : Hid (∀ es' : List En, (es' ++ [er S t]).Perm es → es'.Perm (S.drop (t + 1))) := fun es' h => rest_is (by rw [HSL.out]; omega) hP.out rfl h
    have HLOW : Hid ((er S t).2 = false → 0 < r') := fun h => by have := HNX.out t (by omega) h; omega
    have hRg : Rb ≠ g := by omega
    have hAg : Ab ≠ g := by omega
    have hlog : lo ≤ g := hlt.2.1
    obtain ⟨e, he⟩ : ∃ e, e = er S t := ⟨_, rfl⟩
    obtain ⟨d, hd⟩ : ∃ d, d = dpE S t := ⟨_, rfl⟩
    obtain ⟨m, hm⟩ : ∃ m, m = (swE S t).2 := ⟨_, rfl⟩
    obtain ⟨ag, hag⟩ : ∃ m, m = (swE S t).1 := ⟨_, rfl⟩
    have HSW : Hid (swE S t = (ag, m)) := by show _ = _; rw [hag, hm]
    rw [← he] at HLS HRS HLOW HD1 HS1
    rw [← hd] at HDB HD1 ⊢
    rw [← hm] at HSB HS1 ⊢
    rw [← hag] at hA
    obtain ⟨hd1, hd2⟩ := HDB.out
    obtain ⟨hm1, hm2⟩ := HSB.out
    clear he hd hm hag HE0 HOE hP hHp HDB HSB hlt
    obtain ⟨⟨x1, x2⟩, x3⟩ := e
    obtain ⟨⟨z1, z2⟩, z3, z4⟩ := ag
    dsimp only at hA
    go_wp2_with fail
    refine HLS.out.mono ?_
    rintro e w5 ⟨rfl, es', h2, p2, q2, k2⟩
    have S2 := hidH h2
    have P2 := hidH (HRS.out es' p2)
    have Q2 := hidH q2
    replace hA := hidH (k2.isB hA.out hAH hAg)
    replace hR := hidH (k2.isB hR.out hRH hRg)
    replace hB := hidH (hB.out.trans (k2.below (by omega) (by omega) hB.out.size))
    clear h2 p2 q2 k2 HLS HRS c0 hS
    obtain ⟨E, hE⟩ : ∃ E, E = w5.heap.size := ⟨_, rfl⟩
    obtain ⟨X5, hX5⟩ : ∃ X, X = w5.alloc (.cells #[.int .i64 x1, .int .i64 x2, .bool x3] 50) := ⟨_, rfl⟩
    have hb := b0H w5 (.cells #[.int .i64 x1, .int .i64 x2, .bool x3] 50)
    have IE : Hid (IsB X5 E #[.int .i64 x1, .int .i64 x2, .bool x3] 50) := by show IsB _ _ _ _; rw [hX5, hE]; exact IsB.new w5 _ _
    rw [← hX5] at hb
    replace S2 := hidH (S2.out.below hb)
    replace hA := hidH (hA.out.below hb)
    replace hR := hidH (hR.out.below hb)
    replace hB := hidH (hB.out.trans (hb.mono hB.out.size))
    have HLB := hidH (lenAt_is S2.out)
    clear hb
    have hwrap : (d - 1 : Int) = d - 1 := rfl
    go_upto_region 7 with fail
    rw [← hX5, ← hE]
    clear hX5 hE hwrap
    have e0 := IE.out.cell 0 rfl
    have e1 := IE.out.cell 1 rfl
    have e2 := IE.out.cell 2 rfl
    cases x3
    · have HDN : Hid (dpE S (t + 1) = d + 1) := by show _ = _; rw [HD1.out]; rfl
      have HR0 := HLOW.out rfl
      by_cases hgt : m < d + 1
      · have HN : Hid (swE S (t + 1) = (((x1, x2), (er S (t + 1)).1), d + 1)) := by show _ = _; rw [HS1.out, if_neg (by decide), HDN.out, if_pos hgt]
        have HE1 := hidH (HHD.out es' (t + 1) r' (by omega) P2.out Q2.out HR0)
        obtain ⟨g0, g1, g2⟩ := own_E S2.out.2.1 S2.out.2.2.1 0 HR0
        rw [show er es' 0 = er S (t + 1) from HE1.out] at g0 g1 g2
        obtain ⟨y, hy⟩ : ∃ y, y = er S (t + 1) := ⟨_, rfl⟩
        rw [← hy] at g0 g1 g2 HN
        clear hy HE1
        obtain ⟨⟨y1, y2⟩, y3⟩ := y
        dsimp only at g0 g1 g2 HN
        simp only [Nat.zero_mul, Nat.zero_add] at g0 g1 g2
        have c0 := S2.out.c0
        obtain ⟨a0, a1, a2, a3⟩ := hA.out.s4
        obtain ⟨f0, f1, f2, f3⟩ := hA.out.sf4
        go_wp2
        go_region
        all_goals go_wp2
        all_goals
          go_roundw
          case rel =>
            have S9 := (((S2.out.st hAH hAg 0 (.int .i64 x1)).st hAH hAg 1 (.int .i64 x2)).st hAH hAg 2 (.int .i64 y1)).st hAH hAg 3 (.int .i64 y2)
            have A9 := hA.out.sAll (.int .i64 x1) (.int .i64 x2) (.int .i64 y1) (.int .i64 y2)
            have R9 := (((hR.out.other hRA 0 (.int .i64 x1)).other hRA 1 (.int .i64 x2)).other hRA 2 (.int .i64 y1)).other hRA 3 (.int .i64 y2)
            have B9 := below_sAll hB.out hwA (.int .i64 x1) (.int .i64 x2) (.int .i64 y1) (.int .i64 y2)
            exact ⟨t + 1, r', g, gc, es', by omega, by rw [HN.out], by rw [HDN.out], S9.below ((Below.refl _ _).drew), P2.out, Q2.out, by rw [HN.out]; exact A9.below ((Below.refl _ _).drew), R9.below ((Below.refl _ _).drew), B9.drew⟩
          case measure =>
            have S9 := ((((S2.out.st hAH hAg 0 (.int .i64 x1)).st hAH hAg 1 (.int .i64 x2)).st hAH hAg 2 (.int .i64 y1)).st hAH hAg 3 (.int .i64 y2)).below ((Below.refl _ _).drew)
            rw [lenAt_is S9, HLA.out]; omega
      · have HN : Hid (swE S (t + 1) = (((z1, z2), z3, z4), m)) := by show _ = _; rw [HS1.out, if_neg (by decide), HDN.out, if_neg hgt, HSW.out]
        go_wp2
        go_roundw
        case rel => exact ⟨t + 1, r', g, gc, es', by omega, by rw [HN.out], by rw [HDN.out], S2.out, P2.out, Q2.out, by rw [HN.out]; exact hA.out, hR.out, hB.out⟩
        case measure => rw [HLA.out, HLB.out]; omega
    · have HDN : Hid (dpE S (t + 1) = d - 1) := by show _ = _; rw [HD1.out]; rfl
      have HN : Hid (swE S (t + 1) = (((z1, z2), z3, z4), m)) := by show _ = _; rw [HS1.out, if_pos rfl, HSW.out]
      go_wp2
      go_roundw
      case rel => exact ⟨t + 1, r', g, gc, es', by omega, by rw [HN.out], by rw [HDN.out], S2.out, P2.out, Q2.out, by rw [HN.out]; exact hA.out, hR.out, hB.out⟩
      case measure => rw [HLA.out, HLB.out]; omega
end Go.Proofs.Ythfdpdnphnjebaa
