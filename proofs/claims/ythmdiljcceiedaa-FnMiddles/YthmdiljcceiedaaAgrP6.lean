/- The walk of the program's Outside. -/
import Derived.Test.YthmdiljcceiedaaAgrP5
import Derived.Test.YthmdiljcceiedaaAgrW6
namespace Go.Proofs.Ythmdiljcceiedaa
open Go.RowKit Go.Proofs.Ythmdiljcceiedaa.RM

theorem mulK_null (t : Fr) : mulK t (0, 0) = false := by
  unfold mulK
  have : two t.1 t.2 0 0 = false := by show (okB t.1 t.2 && okB 0 0) = false; rw [show okB 0 0 = false by decide, Bool.and_false]
  rw [this]; rfl
theorem mulK_spr {ls : List Fr} {t : Fr} (h : mulK t (sprA ls) = true) : sprO ls = true := by
  cases h1 : sprO ls
  · rw [sprA_no h1, mulK_null] at h; cases h
  · rfl
set_option maxRecDepth 100000 in
set_option maxHeartbeats 8000000 in
theorem iOutside_any (v : Value) (ls : List Fr) (t : Int) (w : World) (h : RdR w v ls) (hl : ls.length ≤ 1048576) :
    Calls Try.prog 9 #[v, .int .i64 t] w fun e w' => ∃ u, e = .returned u ∧ w'.ownsRow w.heap.size 2 1 u (outA ls t).length (List.map (Value.int .i64) (outA ls t)) ∧ Below w.heap.size w w' := by
  obtain ⟨i0, hi, hz0, hz1, hz2⟩ := info_parts infoI
  have HSP := hidP (fun W (hW : Below w.heap.size w W) => iSpread_any v ls W (h.below hW) hl)
  have HDI := hidP (fun W (hW : Below w.heap.size w W) => iDist_any v ls W (h.below hW) hl)
  obtain ⟨a, c, rfl, _⟩ := h
  obtain ⟨s, hs⟩ : ∃ s, s = sprA ls := ⟨_, rfl⟩
  obtain ⟨q, hq⟩ : ∃ q, q = sprO ls := ⟨_, rfl⟩
  rw [← hs, ← hq] at HSP
  obtain ⟨f, hf⟩ : ∃ f, f = mulP (t, 1) s := ⟨_, rfl⟩
  obtain ⟨k1, hk1⟩ : ∃ f, f = mulK (t, 1) s := ⟨_, rfl⟩
  have HKQ : Hid (k1 = true → sprO ls = true) := by intro h; rw [hk1, hs] at h; exact mulK_spr h
  have HC : Hid (outC ls t = (sprO ls && (decide (0 ≤ t ∧ t ≤ 100) && k1))) := by show _ = _; rw [hk1, hs]; rfl
  have HA : Hid (outA ls t = if outC ls t = true then outL (farA ls) f ls.length else []) := by show _ = _; rw [hf, hs]; rfl
  have HMU : Hid (∀ W, Calls Try.prog 29 #[.agg #[.int .i64 t, .int .i64 1], .agg #[.int .i64 s.1, .int .i64 s.2]] W fun e w' => e = .returned (.tuple #[.agg #[.int .i64 f.1, .int .i64 f.2], .bool k1]) ∧ Below W.heap.size W w') := by
    intro W; rw [hf, hk1]; exact iMul_any t 1 s.1 s.2 W
  clear hs hq hf hk1 hl
  obtain ⟨L, hL⟩ : ∃ L, L = ls.length := ⟨_, rfl⟩
  have HL := hidP hL
  rw [← hL] at HA HSP HDI ⊢
  clear hL
  obtain ⟨s1, s2⟩ := s
  obtain ⟨f1, f2⟩ := f
  dsimp only at HMU HSP
  obtain ⟨X, hX⟩ : ∃ X, X = w.alloc (.cells #[] 2) := ⟨_, rfl⟩
  obtain ⟨Gb, hGb⟩ : ∃ G, G = w.heap.size := ⟨_, rfl⟩
  have HO : Hid (X.ownsRow w.heap.size 2 1 (.slice (some ⟨Gb, 0, none⟩) 0 0) 0 (List.map (Value.int .i64) [])) := by show World.ownsRow _ _ _ _ _ _ _; rw [hX, hGb]; exact litZ w _ (Nat.le_refl _)
  have hB : Hid (Below w.heap.size w X) := by show Below _ _ _; rw [hX]; exact b0P _ _
  go_enter Try.func9, Try.ntmps9
  go_wp2_with fail
  rw [← hX, ← hGb]
  have hGX : Gb < X.heap.size := by rw [hX, hGb]; simp
  clear hX hGb
  refine (HSP.out _ hB.out).mono ?_
  rintro e w1 ⟨rfl, hb⟩
  replace HO := hidP (own_below HO.out hb)
  replace hB := hidP (hB.out.trans (hb.mono hB.out.size))
  have hGw := Nat.lt_of_lt_of_le hGX hb.size
  clear hb HSP hGX
  have hb := b0P w1 (.cells #[.int .i64 s1, .int .i64 s2] 27)
  obtain ⟨T, hT⟩ : ∃ T, T = w1.heap.size := ⟨_, rfl⟩
  obtain ⟨Y, hY⟩ : ∃ Y, Y = w1.alloc (.cells #[.int .i64 s1, .int .i64 s2] 27) := ⟨_, rfl⟩
  have S0 : Hid (IsR Y T s1 s2) := by show IsR _ _ _ _; rw [hY, hT]; exact IsR.new w1 _ _
  rw [← hY] at hb
  replace HO := hidP (own_below HO.out hb)
  replace hB := hidP (hB.out.trans (hb.mono hB.out.size))
  replace hGw := Nat.lt_of_lt_of_le hGw hb.size
  clear hb
  have e0 := S0.out.c0
  have e1 := S0.out.c1
  go_upto_region 3 with fail
  simp only [← hT, ← hY]
  clear hT hY
  go_wp2_with fail
  refine (HMU.out _).mono ?_
  rintro e w4 ⟨rfl, hb⟩
  replace HO := hidP (own_below HO.out hb)
  replace hB := hidP (hB.out.trans (hb.mono hB.out.size))
  replace hGw := Nat.lt_of_lt_of_le hGw hb.size
  clear hb e0 e1 S0 HMU
  obtain ⟨R, hR⟩ : ∃ T, T = w4.heap.size := ⟨_, rfl⟩
  obtain ⟨Z, hZ⟩ : ∃ Y, Y = w4.alloc (.cells #[.int .i64 f1, .int .i64 f2] 27) := ⟨_, rfl⟩
  have hb := b0P w4 (.cells #[.int .i64 f1, .int .i64 f2] 27)
  have R0 : Hid (IsR Z R f1 f2) := by show IsR _ _ _ _; rw [hZ, hR]; exact IsR.new w4 _ _
  rw [← hZ] at hb
  replace HO := hidP (own_below HO.out hb)
  replace hB := hidP (hB.out.trans (hb.mono hB.out.size))
  have hGR : Gb ≠ R := by omega
  replace hGw := Nat.lt_of_lt_of_le hGw hb.size
  clear hb
  go_upto_region 4 with fail
  simp only [← hR, ← hZ]
  clear hR hZ
  by_cases hno : k1 = false ∨ t < 0 ∨ 100 < t
  · have HA' : Hid (outA ls t = []) := by
      show _ = _
      rw [HA.out, HC.out, if_neg]
      intro h
      rw [Bool.and_eq_true, Bool.and_eq_true, decide_eq_true_eq] at h
      obtain ⟨_, ⟨g1, g2⟩, g3⟩ := h
      rcases hno with h | h | h
      · rw [h] at g3; cases g3
      · omega
      · omega
    have HRES : Hid (∃ u, Ending.returned (.slice (some ⟨Gb, 0, none⟩) 0 0) = .returned u ∧ Z.ownsRow w.heap.size 2 1 u (outA ls t).length (List.map (Value.int .i64) (outA ls t)) ∧ Below w.heap.size w Z) := by
      refine ⟨_, rfl, ?_, hB.out⟩
      rw [HA'.out]; exact HO.out
    rcases hno with h | h | h
    · subst h
      go_wp2
      exact bodyPost_ret (v := .slice (some ⟨Gb, 0, none⟩) 0 0) (by simp [results, Try.results9, go_sem]) rfl HRES.out
    · cases k1
      · go_wp2
        exact bodyPost_ret (v := .slice (some ⟨Gb, 0, none⟩) 0 0) (by simp [results, Try.results9, go_sem]) rfl HRES.out
      · go_wp2
        exact bodyPost_ret (v := .slice (some ⟨Gb, 0, none⟩) 0 0) (by simp [results, Try.results9, go_sem]) rfl HRES.out
    · have h0 : ¬ t < 0 := by omega
      cases k1
      · go_wp2
        exact bodyPost_ret (v := .slice (some ⟨Gb, 0, none⟩) 0 0) (by simp [results, Try.results9, go_sem]) rfl HRES.out
      · go_wp2
        exact bodyPost_ret (v := .slice (some ⟨Gb, 0, none⟩) 0 0) (by simp [results, Try.results9, go_sem]) rfl HRES.out
  have hk1 : k1 = true := by cases k1; · exact absurd (Or.inl rfl) hno
                             · rfl
  subst hk1
  have ht0 : ¬ t < 0 := fun h => hno (Or.inr (Or.inl h))
  have ht1 : ¬ 100 < t := fun h => hno (Or.inr (Or.inr h))
  clear hno
  have HSO := hidP (HKQ.out rfl)
  have hfar := farA_len (sprO_far HSO.out)
  have HFL : Hid ((farA ls).length = L) := by show _ = _; rw [hfar.1, HL.out]
  obtain ⟨hf0, hf1, hf2⟩ := hfar
  rw [← HL.out] at hf1 hf2
  rw [dst_far (sprO_far HSO.out)] at HDI
  have HCT : Hid (outC ls t = true) := by
    show _ = _
    rw [HC.out, HSO.out, decide_eq_true (show 0 ≤ t ∧ t ≤ 100 by omega)]; rfl
  obtain ⟨fs, hfs⟩ : ∃ fs, fs = farA ls := ⟨_, rfl⟩
  rw [← hfs] at HDI HFL HA
  clear hfs hf0 HKQ HC
  go_wp2_with fail
  refine (HDI.out _ hB.out).mono ?_
  rintro e w3 ⟨ub, rfl, hu, hb⟩
  have HU := hidP (RdR.own hu).1
  have hul := (hu.lt ub rfl).2
  have huG' : Gb ≠ ub := by have := (hu.lt ub rfl).1; omega
  replace HO := hidP (own_below HO.out hb)
  replace R0 := hidP (R0.out.below hb)
  replace hB := hidP (hB.out.trans (hb.mono hB.out.size))
  clear hb hu HDI hGw
  have HA' : Hid (outA ls t = outL fs (f1, f2) L) := by show _ = _; rw [HA.out, HCT.out]; rfl
  obtain ⟨F, hF⟩ : ∃ F, F = outL fs (f1, f2) := ⟨_, rfl⟩
  have HF0 : Hid (F 0 = []) := by show _ = _; rw [hF]; rfl
  have HFS : Hid (∀ k, F (k + 1) = if lessB f1 f2 (fr fs k).1 (fr fs k).2 = true then F k ++ [(k : Int)] else F k) := by intro k; rw [hF]; rfl
  have HFN : Hid (∀ k, (F k).length ≤ k) := by intro k; rw [hF]; exact outL_len _ _ k
  rw [← hF] at HA'
  clear hF HA
  go_wp2
  go_loopw [5, 39] (fun s i wr => ∃ (o : Value) (k : Nat), k ≤ L ∧ i = .int .i64 k ∧ o = s ∧ Hid (wr.ownsRow w.heap.size 2 1 o (F k).length (List.map (Value.int .i64) (F k))) ∧ Hid (IsR wr R f1 f2) ∧ Hid (RdR wr (.slice (some ⟨ub, 0, none⟩) L L) fs) ∧ Hid (o.ownBlock ≠ some R ∧ o.ownBlock ≠ some ub ∧ ub < wr.heap.size) ∧ Hid (Below w.heap.size w wr)) (fun _ i _ => L - (intOf i).toNat)
  case atStart => exact ⟨_, 0, Nat.zero_le _, rfl, rfl, by rw [HF0.out]; exact HO.out, R0.out, HU.out, ⟨by show some Gb ≠ some R; simpa using hGR, by show some Gb ≠ some ub; simpa using huG', hul⟩, hB.out⟩
  case round =>
    clear HO R0 HU hB
    obtain ⟨o, k, hk, rfl, rfl, hO, hR, hU, hN, hB⟩ := hrel
    by_cases hlt : k < L
    · obtain ⟨c1, c2⟩ := hU.out.at0 k (by rw [HFL.out]; exact hlt)
      obtain ⟨x, hx⟩ : ∃ x, x = fr fs k := ⟨_, rfl⟩
      rw [← hx] at c1 c2
      have HS := hidP (HFS.out k)
      rw [← hx] at HS
      have HNK := hidP (HFN.out k)
      obtain ⟨Q, hQ⟩ : ∃ Q, Q = F k := ⟨_, rfl⟩
      rw [← hQ] at hO HS HNK
      clear hx hQ
      obtain ⟨x1, x2⟩ := x
      dsimp only at c1 c2
      have HLT := hidP (fun W => iLess_any f1 f2 x1 x2 W)
      obtain ⟨q, hq⟩ : ∃ q, q = lessB f1 f2 x1 x2 := ⟨_, rfl⟩
      rw [← hq] at HLT HS
      clear hq
      go_upto_region 9 with fail
      obtain ⟨V, hV⟩ : ∃ T, T = wr.heap.size := ⟨_, rfl⟩
      obtain ⟨Y2, hY2⟩ : ∃ Y, Y = wr.alloc (.cells #[.int .i64 x1, .int .i64 x2] 27) := ⟨_, rfl⟩
      have hb := b0P wr (.cells #[.int .i64 x1, .int .i64 x2] 27)
      have HV : Hid (IsR Y2 V x1 x2) := by show IsR _ _ _ _; rw [hY2, hV]; exact IsR.new wr _ _
      rw [← hY2] at hb
      replace hO := hidP (own_below hO.out hb)
      replace hU := hidP (hU.out.below hb)
      replace hR := hidP (hR.out.below hb)
      replace hN := hidP (And.intro hN.out.1 (And.intro hN.out.2.1 (Nat.lt_of_lt_of_le hN.out.2.2 hb.size)))
      replace hB := hidP (hB.out.trans (hb.mono hB.out.size))
      rw [← hY2, ← hV]
      clear hb hY2 hV c1 c2
      have c1 := HV.out.c0
      have c2 := HV.out.c1
      have c3 := hR.out.c0
      have c4 := hR.out.c1
      go_wp2_with fail
      refine (HLT.out _).mono ?_
      rintro e w5 ⟨rfl, hb⟩
      replace hO := hidP (own_below hO.out hb)
      replace hU := hidP (hU.out.below hb)
      replace hR := hidP (hR.out.below hb)
      replace hN := hidP (And.intro hN.out.1 (And.intro hN.out.2.1 (Nat.lt_of_lt_of_le hN.out.2.2 hb.size)))
      replace hB := hidP (hB.out.trans (hb.mono hB.out.size))
      clear hb c1 c2 c3 c4 HV HLT
      cases q
      · have HN : Hid (F (k + 1) = Q) := by show _ = _; rw [HS.out]; rfl
        go_wp2
        go_roundw
        case rel => exact ⟨o, k + 1, by omega, by go_num, rfl, by rw [HN.out]; exact hO.out, hR.out, hU.out, hN.out, hB.out⟩
        case measure => simp [intOf]; omega
      · have HN : Hid (F (k + 1) = Q ++ [(k : Int)]) := by show _ = _; rw [HS.out]; rfl
        have hqn := HNK.out
        have hsz := hB.out.size
        have hb := b0P w5 (.cells #[.int .i64 k] 2)
        go_wp2_with (at_builtin; refine wpList_append_own_at _ rfl _ _ 32 rfl w.heap.size 2 i0 (.int .i64 0) 1 8 Try.underlying32 hi hz0 hz1 hz2 rfl (by decide) _ _ _ rfl (own_below hO.out hb) ⟨w5.heap.size, 0, none⟩ 1 1 [.int .i64 k] rfl rfl (cell_oneZ _ _ _) (by intro u hu; simp at hu; subst hu; rfl) (by unfold maxLen; omega) (by omega) (by simp; omega) ?_; intro v' w6 hown' hgrow _ hloc)
        go_roundw
        case rel =>
          have hs6 := hb.size
          have hRl := (hR.out.below hb).lt
          have hul := Nat.lt_of_lt_of_le hN.out.2.2 hs6
          have hwx : (w5.alloc (.cells #[.int .i64 k] 2)).heap.size ≤ w6.heap.size := hgrow.size
          refine ⟨v', k + 1, by omega, by go_num, rfl, ?_, (hR.out.below hb).grownA hgrow hN.out.1, (hU.out.below hb).keep hul hgrow hN.out.2.1, ⟨?_, ?_, by omega⟩, (hB.out.trans (hb.mono hsz)).grown hgrow (by omega) (fun j e => ((own_below hO.out hb).lt j e).1)⟩
          · show World.ownsRow _ _ _ _ _ _ _
            rw [HN.out, List.length_append, List.map_append]
            exact hown'
          · rcases hloc with e | e
            · rw [e]; exact hN.out.1
            · rw [e]; intro e2; injection e2 with e2; omega
          · rcases hloc with e | e
            · rw [e]; exact hN.out.2.1
            · rw [e]; intro e2; injection e2 with e2; omega
        case measure => simp [intOf]; omega
    · obtain rfl : k = L := by omega
      go_wp2
      refine bodyPost_ret (v := o) (by simp [results, Try.results9, go_sem]) rfl ⟨o, rfl, ?_, hB.out⟩
      rw [HA'.out]
      exact hO.out
end Go.Proofs.Ythmdiljcceiedaa
