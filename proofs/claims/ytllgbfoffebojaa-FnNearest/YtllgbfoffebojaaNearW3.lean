/- The walk of the model's Nearest. -/
import Derived.Test.YtllgbfoffebojaaNearW2
import Derived.Test.YtllgbfoffebojaaRowsW
import Derived.Test.YtllgbfoffebojaaSideMath
namespace Go.Proofs.Ytllgbfoffebojaa
open Go.RowKit Go.Proofs.Ytllgbfoffebojaa.RM

/-- what Nearest answers -/
def nrB (p q most : Int) : Bool := okB p q && decide (1 ≤ most ∧ most ≤ 1000000000)
def nrN (p q most : Int) : Int := if nrB p q most = true then (near p q most).1 else 0
def nrD (p q most : Int) : Int := if nrB p q most = true then (near p q most).2 else 0
theorem nr_no {p q most : Int} (h : nrB p q most = false) : nrN p q most = 0 ∧ nrD p q most = 0 := by unfold nrN nrD; rw [h]; exact ⟨rfl, rfl⟩
theorem nr_yes {p q most : Int} (h : nrB p q most = true) : nrN p q most = (near p q most).1 ∧ nrD p q most = (near p q most).2 := by unfold nrN nrD; rw [h]; exact ⟨rfl, rfl⟩
theorem ret_near {a b : Int} {c : Bool} {p q most : Int} (h1 : nrN p q most = a) (h2 : nrD p q most = b) (h3 : nrB p q most = c) : Ending.returned (.tuple #[.agg #[.int .i64 a, .int .i64 b], .bool c]) = .returned (.tuple #[.agg #[.int .i64 (nrN p q most), .int .i64 (nrD p q most)], .bool (nrB p q most)]) := by rw [h1, h2, h3]
/-- what is picked, told by the parts -/
theorem pick_eq {p q most k : Int} {c : Cv} (hk : k = (most - c.hd) / c.d) : pick p q most c = if sideB (iabs (p * c.d - c.n * q)) (c.hd + k * c.d) (iabs (p * (c.hd + k * c.d) - (c.hn + k * c.n) * q)) c.d c.n (c.hn + k * c.n) = true then (c.hn + k * c.n, c.hd + k * c.d) else (c.n, c.d) := by
  subst hk; rfl

set_option maxRecDepth 100000 in
set_option maxHeartbeats 4000000 in
theorem sNear_any (p q most : Int) (w : World) :
    Calls Try.prog 42 #[.agg #[.int .i64 p, .int .i64 q], .int .i64 most] w fun e w' => e = .returned (.tuple #[.agg #[.int .i64 (nrN p q most), .int .i64 (nrD p q most)], .bool (nrB p q most)]) ∧ Below w.heap.size w w' := by
  by_cases hok : okB p q = true
  · by_cases hm : 1 ≤ most ∧ most ≤ 1000000000
    · have hi := inB_yes hm.1 hm.2
      obtain ⟨m1, m2⟩ := hm
      have HB : Hid (nrB p q most = true) := by show _ = _; unfold nrB; rw [hok, decide_eq_true ⟨m1, m2⟩]; rfl
      obtain ⟨q1, q2, p1, p2, _⟩ := okB_out hok
      by_cases hq : q ≤ most
      · have HN : Hid (near p q most = (p, q)) := near_le hok hq
        go_enter Try.func42, Try.ntmps42
        go_wp2_with fail
        refine (sOk_any _ _ _).mono ?_
        rintro e w1 ⟨rfl, hb⟩
        rw [hok]
        have B1 : Below w.heap.size w w1 := (below_alR _ (below_alR _ (Below.refl _ _))).trans (hb.mono (by simp; omega))
        have r1 : IsR w1 w.heap.size p q := ((IsR.new w p q).below (below_alR _ (Below.refl _ _))).below hb
        have r2 : IsR w1 (w.heap.size + 1) 0 0 := by simpa using (IsR.new (w.alloc (.cells #[.int .i64 p, .int .i64 q] 25)) 0 0).below hb
        have c0 := r1.c0
        have c1 := r1.c1
        have d0 := r2.c0
        have d1 := r2.c1
        have f0 := r2.f0
        have f1 := r2.f1
        clear hb
        go_wp2_with (go_at_call 58; refine (in_any _ _ _ _).mono ?_; rintro e w' ⟨rfl, rfl⟩)
        exact bodyPost_ret (v := .tuple #[.agg #[.int .i64 p, .int .i64 q], .bool true]) (by simp [results, Try.results42, go_sem, d0, d1]) rfl ⟨ret_near (by rw [(nr_yes HB.out).1, HN.out]) (by rw [(nr_yes HB.out).2, HN.out]) HB.out, (B1.setCell (p := ⟨w.heap.size + 1, 0, none⟩) (by simp) _).setCell (p := ⟨w.heap.size + 1, 1, none⟩) (by simp) _⟩
      · obtain ⟨L, hL⟩ : ∃ L, L = cf p q := ⟨_, rfl⟩
        obtain ⟨N, hN⟩ : ∃ N, L.length = N := ⟨_, rfl⟩
        have hN2 : N ≤ 1000000000 := by rw [← hN, hL]; exact cf_len_le p q q2
        have hN1 : 1 ≤ N := by rw [← hN, hL, cf_eq p q q1]; simp
        have HT : Hid (∀ u : World, Calls Try.prog 69 #[.agg #[.int .i64 p, .int .i64 q]] u fun e w' => ∃ v, e = .returned v ∧ w'.ownsRow u.heap.size 2 1 v N (L.map (Value.int .i64)) ∧ Below u.heap.size u w') := by
          intro u; have := s2Terms_any p q u hok; rw [← hL, hN] at this; exact this
        have HL : Hid (L = cf p q) := hL
        have HN : Hid (L.length = N) := hN
        have HK : Hid (okB p q = true) := hok
        clear hL hN
        go_enter Try.func42, Try.ntmps42
        go_wp2_with fail
        refine (sOk_any _ _ _).mono ?_
        rintro e w1 ⟨rfl, hb⟩
        rw [hok]
        have B1 : Below w.heap.size w w1 := (below_alR _ (below_alR _ (Below.refl _ _))).trans (hb.mono (by simp; omega))
        have r1 : IsR w1 w.heap.size p q := ((IsR.new w p q).below (below_alR _ (Below.refl _ _))).below hb
        have r2 : IsR w1 (w.heap.size + 1) 0 0 := by simpa using (IsR.new (w.alloc (.cells #[.int .i64 p, .int .i64 q] 25)) 0 0).below hb
        have c0 := r1.c0
        have c1 := r1.c1
        clear hb hok
        go_wp2_with (go_at_call 58; refine (in_any _ _ _ _).mono ?_; rintro e w' ⟨rfl, rfl⟩)
        refine (HT.out _).mono ?_
        rintro e w2 ⟨v, rfl, ov, hb⟩
        have B2 : Below w.heap.size w w2 := B1.trans (hb.mono B1.size)
        have R1 : Hid (IsR w2 w.heap.size p q) := r1.below hb
        have R2 : Hid (IsR w2 (w.heap.size + 1) 0 0) := r2.below hb
        obtain ⟨g, c, rfl⟩ := own_some ov (by omega)
        have HC : Hid (∀ j, j < N → w2.cell? ⟨g, j, none⟩ = some (.int .i64 (L[j]?.getD 0))) := fun j hj => own_int ov HN.out j hj
        have x0 := HC.out 0 (by omega)
        obtain ⟨t0, ht0⟩ : ∃ t, t = L[0]?.getD 0 := ⟨_, rfl⟩
        rw [← ht0] at x0
        have i1 : Hid (cvs (L.take 1) = ⟨1, 0, t0, 1⟩) := by
          show _ = _
          have : L.take 1 = [t0] := by
            rw [ht0]
            have h := HN.out
            cases hL : L with
            | nil => rw [hL] at h; simp at h; omega
            | cons x l => simp
          rw [this, cvs_one]
        have i2 : Hid (near p q most = nearL p q most (L.drop 1) (cvs (L.take 1))) := by
          show _ = _
          unfold near
          rw [← HL.out, i1.out]
          have : L = t0 :: L.drop 1 := by
            rw [ht0]
            have h := HN.out
            cases hL : L with
            | nil => rw [hL] at h; simp at h; omega
            | cons x l => simp
          rw [this]
          show (if most < cv0.hd + t0 * cv0.d then _ else _) = _
          rw [if_neg (by simp [cv0]; omega)]
          simp [Cv.step, cv0]
        clear hb ov c0 c1 r1 r2 B1 ht0
        go_wp2
        go_loop [7, 8, 9, 10, 11] (fun y1 y2 y3 y4 y5 => ∃ (k : Nat) (hn hd n d : Int), y1 = .int .i64 hn ∧ y2 = .int .i64 hd ∧ y3 = .int .i64 n ∧ y4 = .int .i64 d ∧ y5 = .int .i64 k ∧ 1 ≤ k ∧ k ≤ N ∧ Hid (cvs (L.take k) = ⟨hn, hd, n, d⟩) ∧ Hid (near p q most = nearL p q most (L.drop k) (cvs (L.take k))) ∧ d ≤ most ∧ hd ≤ most) (fun _ _ _ _ y5 => N - (intOf y5).toNat)
        case atStart => exact ⟨1, 1, 0, t0, 1, rfl, rfl, rfl, rfl, rfl, by omega, hN1, i1, i2, m1, by omega⟩
        case round =>
          clear i1 i2 x0
          obtain ⟨k, hn, hd, n, d, rfl, rfl, rfl, rfl, rfl, hk1, hk, HV, HE, hdm, hhm⟩ := hrel
          by_cases hlt : k < N
          · have hx := HC.out k hlt
            obtain ⟨t, ht⟩ : ∃ t, t = L[k]?.getD 0 := ⟨_, rfl⟩
            rw [← ht] at hx
            have hsplit : L.drop k = t :: L.drop (k + 1) := by
              rw [ht, List.drop_eq_getElem_cons (by rw [HN.out]; exact hlt), List.getElem?_eq_getElem (by rw [HN.out]; exact hlt)]; rfl
            have hcf : cf p q = L.take k ++ t :: L.drop (k + 1) := by rw [← HL.out, ← hsplit, List.take_append_drop]
            have hne : L.take k ≠ [] := by
              intro h
              have := congrArg List.length h
              rw [List.length_take, HN.out] at this
              simp at this; omega
            obtain ⟨r, s, ha, htr⟩ := termsL_head HK.out hcf
            have hb1 := ha.bounds HK.out
            have hb2 := ha.next_bounds HK.out
            have hw := whole_bd ha.ok
            rw [← htr] at hb2 hw
            rw [HV.out] at hb1 hb2
            simp only at hb1 hb2
            obtain ⟨b1, b2, b3, b4, b5, b6, b7, b8⟩ := hb1
            obtain ⟨n1, n2, n3, n4⟩ := hb2
            obtain ⟨t1, t2⟩ := hw
            by_cases hex : most < hd + t * d
            · have sd := ha.side m1 (by rw [HV.out]; exact hdm) (fun _ => by rw [HV.out]; exact hhm) (by rw [HV.out, ← htr]; exact hex)
              rw [HV.out] at sd
              have sb := sd.bounds HK.out ha (by omega)
              obtain ⟨kk, k0, kl, d1, hmm, xd, xm, iv, lf⟩ := sd
              clear kk kl hmm iv lf
              rw [HV.out] at sb d1 xd xm
              simp only at sb d1 xd xm k0
              obtain ⟨s1, s2, s3, s4⟩ := sb
              obtain ⟨K, hK⟩ : ∃ K, K = (most - hd) / d := ⟨_, rfl⟩
              rw [← hK] at k0 xd xm s1 s2 s3 s4
              have HP : Hid (near p q most = if sideB (iabs (p * d - n * q)) (hd + K * d) (iabs (p * (hd + K * d) - (hn + K * n) * q)) d n (hn + K * n) = true then (hn + K * n, hd + K * d) else (n, d)) := by
                show _ = _
                rw [HE.out, hsplit]
                show (if most < (cvs (L.take k)).hd + t * (cvs (L.take k)).d then _ else _) = _
                rw [HV.out, if_pos hex, pick_eq (k := K) hK]
              have HBst : Hid (∀ u : World, Calls Try.prog 72 #[.agg #[.int .i64 p, .int .i64 q], .agg #[.int .i64 (hn + K * n), .int .i64 (hd + K * d)], .agg #[.int .i64 n, .int .i64 d]] u fun e w' =>
                  e = .returned (.bool (sideB (iabs (p * d - n * q)) (hd + K * d) (iabs (p * (hd + K * d) - (hn + K * n) * q)) d n (hn + K * n))) ∧ Below u.heap.size u w') := by
                intro u; exact best_any p q (hn + K * n) (hd + K * d) n d u p1 p2 (by omega) q2 (by omega) (by omega) d1 (by omega) (by omega) (by omega) xd (by omega)
              obtain ⟨sb, hsb⟩ : ∃ sb, sb = sideB (iabs (p * d - n * q)) (hd + K * d) (iabs (p * (hd + K * d) - (hn + K * n) * q)) d n (hn + K * n) := ⟨_, rfl⟩
              rw [← hsb] at HP HBst
              have hKr : (most - hd) / d = K := hK.symm
              have kn1 : -3000000003 ≤ K * n := by omega
              have kn2 : K * n ≤ 3000000003 := by omega
              have kd1 : -3000000003 ≤ K * d := by omega
              have kd2 : K * d ≤ 3000000003 := by omega
              have c0 := R1.out.c0
              have c1 := R1.out.c1
              have hm0 : 0 ≤ most - hd := by omega
              have hsz := B2.size
              have hsl : w.heap.size + 1 < w2.heap.size := R2.out.lt
              have hsl0 : w.heap.size < w2.heap.size := by omega
              clear hsb hK HE HV hsplit hcf hne ha htr s3 s4 ht
              go_wp2_with fail
              refine (HBst.out _).mono ?_
              rintro e w3 ⟨rfl, hb3⟩
              obtain ⟨G, hG⟩ : ∃ G, G = w2.heap.size := ⟨_, rfl⟩
              have hGl : w.heap.size + 1 < G := by rw [hG]; exact R2.out.lt
              have rx : IsR w3 G (hn + K * n) (hd + K * d) := by rw [hG]; exact ((IsR.new w2 (hn + K * n) (hd + K * d)).below (below_alR _ (Below.refl _ _))).below hb3
              have ry : IsR w3 (G + 1) n d := by rw [hG]; simpa using (IsR.new (w2.alloc (.cells #[.int .i64 (hn + K * n), .int .i64 (hd + K * d)] 25)) n d).below hb3
              have r2 : IsR w3 (w.heap.size + 1) 0 0 := ((R2.out.below (below_alR _ (Below.refl _ _))).below (below_alR _ (Below.refl _ _))).below hb3
              have B3 : Below w.heap.size w w3 := ((B2.alloc hsz _).alloc (by simp; omega) _).trans (hb3.mono (by simp; omega))
              have d0 := r2.c0
              have d1' := r2.c1
              have f0 := r2.f0
              have f1 := r2.f1
              have x0 := rx.c0
              have x1 := rx.c1
              have y0 := ry.c0
              have y1 := ry.c1
              rw [← hG]
              clear hb3 hG c0 c1
              cases sb
              · have HN' : Hid (near p q most = (n, d)) := HP.out
                go_wp2
                exact bodyPost_ret (v := .tuple #[.agg #[.int .i64 n, .int .i64 d], .bool true]) (by simp [results, Try.results42, go_sem, d0, d1']) rfl ⟨ret_near (by rw [(nr_yes HB.out).1, HN'.out]) (by rw [(nr_yes HB.out).2, HN'.out]) HB.out, (B3.setCell (p := ⟨w.heap.size + 1, 0, none⟩) (by simp) _).setCell (p := ⟨w.heap.size + 1, 1, none⟩) (by simp) _⟩
              · have HN' : Hid (near p q most = (hn + K * n, hd + K * d)) := HP.out
                go_wp2
                exact bodyPost_ret (v := .tuple #[.agg #[.int .i64 (hn + K * n), .int .i64 (hd + K * d)], .bool true]) (by simp [results, Try.results42, go_sem, d0, d1']) rfl ⟨ret_near (by rw [(nr_yes HB.out).1, HN'.out]) (by rw [(nr_yes HB.out).2, HN'.out]) HB.out, (B3.setCell (p := ⟨w.heap.size + 1, 0, none⟩) (by simp) _).setCell (p := ⟨w.heap.size + 1, 1, none⟩) (by simp) _⟩
            · have HV' : Hid (cvs (L.take (k + 1)) = ⟨n, d, hn + t * n, hd + t * d⟩) := by
                show _ = _
                have : L.take (k + 1) = L.take k ++ [t] := by
                  rw [List.take_add_one, ht, List.getElem?_eq_getElem (by rw [HN.out]; exact hlt)]; rfl
                rw [this, cvs_snoc, HV.out]; rfl
              have HE' : Hid (near p q most = nearL p q most (L.drop (k + 1)) (cvs (L.take (k + 1)))) := by
                show _ = _
                rw [HE.out, hsplit]
                show (if most < (cvs (L.take k)).hd + t * (cvs (L.take k)).d then _ else _) = _
                rw [HV.out, if_neg hex, HV'.out]; rfl
              clear HV HE hsplit hcf hne ha htr ht
              go_wp2
              go_round
              case rel => exact ⟨k + 1, n, d, hn + t * n, hd + t * d, rfl, rfl, rfl, rfl, by go_num, by omega, by omega, HV', HE', by omega, hdm⟩
              case measure => simp [intOf]; omega
          · exfalso
            obtain rfl : k = N := by omega
            have h1 : L.take k = L := by rw [← HN.out]; simp
            have h2 := HV.out
            rw [h1, HL.out] at h2
            have h3 := (cvs_all HK.out).2
            rw [h2] at h3
            simp only at h3
            omega
    · have hi : inB most 1 1000000000 = false := inB_no hm
      have HB : Hid (nrB p q most = false) := by show _ = _; unfold nrB; rw [hok, decide_eq_false hm]; rfl
      clear hm
      go_enter Try.func42, Try.ntmps42
      go_wp2_with fail
      refine (sOk_any _ _ _).mono ?_
      rintro e w1 ⟨rfl, hb⟩
      rw [hok]
      have B1 : Below w.heap.size w w1 := (below_alR _ (below_alR _ (Below.refl _ _))).trans (hb.mono (by simp; omega))
      have r2 : IsR w1 (w.heap.size + 1) 0 0 := by simpa using (IsR.new (w.alloc (.cells #[.int .i64 p, .int .i64 q] 25)) 0 0).below hb
      have d0 := r2.c0
      have d1 := r2.c1
      have f0 := r2.f0
      have f1 := r2.f1
      clear hb
      go_wp2_with (go_at_call 58; refine (in_any _ _ _ _).mono ?_; rintro e w' ⟨rfl, rfl⟩)
      exact bodyPost_ret (v := .tuple #[.agg #[.int .i64 0, .int .i64 0], .bool false]) (by simp [results, Try.results42, go_sem, d0, d1]) rfl ⟨ret_near (nr_no HB.out).1 (nr_no HB.out).2 HB.out, by first | exact (B1.setCell (p := ⟨w.heap.size + 1, 0, none⟩) (by simp) _).setCell (p := ⟨w.heap.size + 1, 1, none⟩) (by simp) _ | exact B1⟩
  · rw [Bool.not_eq_true] at hok
    have HB : Hid (nrB p q most = false) := by show _ = _; unfold nrB; rw [hok]; rfl
    go_enter Try.func42, Try.ntmps42
    go_wp2_with fail
    refine (sOk_any _ _ _).mono ?_
    rintro e w1 ⟨rfl, hb⟩
    rw [hok]
    have B1 : Below w.heap.size w w1 := (below_alR _ (below_alR _ (Below.refl _ _))).trans (hb.mono (by simp; omega))
    have r2 : IsR w1 (w.heap.size + 1) 0 0 := by simpa using (IsR.new (w.alloc (.cells #[.int .i64 p, .int .i64 q] 25)) 0 0).below hb
    have d0 := r2.c0
    have d1 := r2.c1
    have f0 := r2.f0
    have f1 := r2.f1
    clear hb
    go_wp2
    exact bodyPost_ret (v := .tuple #[.agg #[.int .i64 0, .int .i64 0], .bool false]) (by simp [results, Try.results42, go_sem, d0, d1]) rfl ⟨ret_near (nr_no HB.out).1 (nr_no HB.out).2 HB.out, by first | exact (B1.setCell (p := ⟨w.heap.size + 1, 0, none⟩) (by simp) _).setCell (p := ⟨w.heap.size + 1, 1, none⟩) (by simp) _ | exact B1⟩
end Go.Proofs.Ytllgbfoffebojaa
