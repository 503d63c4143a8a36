/- Distances from the middle: the walks of the program's distances and Spread. -/
import Derived.Test.YthmdiljcceiedaaAgrP3
import Derived.Test.YthmdiljcceiedaaAgrW5
namespace Go.Proofs.Ythmdiljcceiedaa
open Go.RowKit Go.Proofs.Ythmdiljcceiedaa.RM

/-- the first k distances from m; the others 0 over 0 -/
def dstV (ls : List Fr) (m : Fr) (k : Nat) : List Fr := (List.range ls.length).map (fun i => if i < k then absF (subP (fr ls i) m) else (0, 0))
theorem dstV_len (ls : List Fr) (m : Fr) (k : Nat) : (dstV ls m k).length = ls.length := by simp [dstV]
theorem dstV_zero (ls : List Fr) (m : Fr) : dstV ls m 0 = List.replicate ls.length (0, 0) := by
  apply List.ext_getElem
  · simp [dstV]
  · intro i h1 h2
    simp [dstV]
theorem dstV_set (ls : List Fr) (m : Fr) (k : Nat) : (dstV ls m k).set k (absF (subP (fr ls k) m)) = dstV ls m (k + 1) := by
  apply List.ext_getElem
  · simp [dstV]
  · intro i h1 h2
    simp only [dstV, List.getElem_set, List.getElem_map, List.getElem_range]
    by_cases e : k = i
    · subst e
      rw [if_pos rfl, if_pos (by omega)]
    · rw [if_neg e]
      by_cases h3 : i < k
      · rw [if_pos h3, if_pos (by omega)]
      · rw [if_neg h3, if_neg (by omega)]
theorem dstV_at (ls : List Fr) (m : Fr) (i : Nat) (h : i < ls.length) : fr (dstV ls m ls.length) i = absF (subP (fr ls i) m) := by
  simp [dstV, fr, h]
def dstA (ls : List Fr) : List Fr := dstV ls (midA ls) ls.length
theorem fr_setR {l : List Fr} {k : Nat} {x : Fr} (h : k < l.length) : fr (l.set k x) k = x := by simp [fr, h]
theorem subP_null (x : Fr) : subP x (0, 0) = (0, 0) ∧ subK x (0, 0) = false := by
  have h : subK x (0, 0) = false := by
    unfold subK
    have : two x.1 x.2 0 0 = false := by show (okB x.1 x.2 && okB 0 0) = false; rw [show okB 0 0 = false by decide, Bool.and_false]
    rw [this]; rfl
  exact ⟨subP_no h, h⟩
theorem absF_null : absF (0, 0) = (0, 0) := by decide
/-- one that is 0 over 0: the list has no middle -/
theorem midO_null {l : List Fr} {i : Nat} (hi : i < l.length) (h : fr l i = (0, 0)) : midO l = false := by
  unfold midO midC
  rw [allOk_no hi (by rw [h]; decide)]
  simp
theorem midO_nil : midO [] = false := by decide
theorem farV_at (ls : List Fr) (m : Fr) : ∀ k, k ≤ ls.length → (farV ls m k).1 = (List.range k).map fun i => absF (s1V (fr ls i) m)
  | 0, _ => rfl
  | k + 1, h => by
    show (farV ls m k).1 ++ [_] = _
    rw [farV_at ls m k (by omega), List.range_succ, List.map_append]; rfl
theorem farV_bad (ls : List Fr) (m : Fr) : ∀ k, (farV ls m k).2 = true → ∃ i, i < k ∧ subK (fr ls i) m = false
  | 0, h => by cases h
  | k + 1, h => by
    have h' : ((farV ls m k).2 || !subK (fr ls k) m) = true := h
    rw [Bool.or_eq_true] at h'
    rcases h' with h' | h'
    · obtain ⟨i, hi, q⟩ := farV_bad ls m k h'
      exact ⟨i, by omega, q⟩
    · exact ⟨k, by omega, by simpa using h'⟩
theorem farV_good (ls : List Fr) (m : Fr) : ∀ k, (farV ls m k).2 = false → ∀ i, i < k → subK (fr ls i) m = true
  | 0, _, i, hi => by omega
  | k + 1, h, i, hi => by
    have h' : ((farV ls m k).2 || !subK (fr ls k) m) = false := h
    rw [Bool.or_eq_false_iff] at h'
    by_cases e : i = k
    · subst e; simpa using h'.2
    · exact farV_good ls m k h'.1 i (by omega)
theorem s1V_yes {s t : Fr} (h : subK s t = true) : s1V s t = subP s t := keepF_yes h
/-- where no distance is too great both lists of distances are one; else the program's has no middle -/
theorem dst_far {ls : List Fr} (h : farO ls = true) : dstA ls = farA ls := by
  unfold farO at h
  rw [Bool.and_eq_true] at h
  obtain ⟨h1, h2⟩ := h
  have hg := farV_good ls (midA ls) ls.length (by simpa using h2)
  unfold farA dstA
  rw [if_pos h1, farV_at ls _ _ (Nat.le_refl _)]
  unfold dstV
  apply List.map_congr_left
  intro i hi
  rw [List.mem_range] at hi
  rw [if_pos hi, s1V_yes (hg i hi)]
theorem dst_no {ls : List Fr} (h : farO ls = false) : midO (dstA ls) = false := by
  unfold farO at h
  rw [Bool.and_eq_false_iff] at h
  rcases h with h | h
  · by_cases e : ls.length = 0
    · have : dstA ls = [] := List.eq_nil_of_length_eq_zero (by unfold dstA; rw [dstV_len, e])
      rw [this]; exact midO_nil
    · refine midO_null (i := 0) (by unfold dstA; rw [dstV_len]; omega) ?_
      unfold dstA
      rw [dstV_at _ _ _ (by omega), midA_no h, (subP_null _).1, absF_null]
  · obtain ⟨i, hi, hs⟩ := farV_bad ls (midA ls) ls.length (by simpa using h)
    refine midO_null (i := i) (by unfold dstA; rw [dstV_len]; omega) ?_
    unfold dstA
    rw [dstV_at _ _ _ hi, subP_no hs, absF_null]
theorem spr_prog (ls : List Fr) : midO (dstA ls) = sprO ls ∧ midA (dstA ls) = sprA ls := by
  unfold sprO sprA
  cases h : farO ls
  · have := dst_no h
    exact ⟨this, midA_no this⟩
  · rw [dst_far h]
    exact ⟨rfl, by rw [if_pos rfl]⟩

theorem mirrA_any (n d : Int) (w : World) (h1 : -2000000000 ≤ n) (h2 : n ≤ 2000000000) :
    Calls Try.prog 51 #[.agg #[.int .i64 n, .int .i64 d]] w fun e w' => e = .returned (.agg #[.int .i64 (-n), .int .i64 d]) ∧ Below w.heap.size w w' := by
  go_enter Try.func51, Try.ntmps51
  go_wp2
  exact bodyPost_ret (v := .agg #[.int .i64 (-n), .int .i64 d]) (by simp [results, Try.results51, go_sem]) rfl ⟨rfl, ((Below.refl _ _).alloc (Nat.le_refl _) _).alloc (by simp) _⟩

set_option maxRecDepth 100000 in
set_option maxHeartbeats 4000000 in
theorem iDist_any (v : Value) (ls : List Fr) (w : World) (h : RdR w v ls) (hl : ls.length ≤ 1048576) :
    Calls Try.prog 28 #[v] w fun e w' => ∃ g, e = .returned (.slice (some ⟨g, 0, none⟩) ls.length ls.length) ∧ w'.ownsRow w.heap.size 27 2 (.slice (some ⟨g, 0, none⟩) ls.length ls.length) ls.length (cellsR (dstA ls)) ∧ Below w.heap.size w w' := by
  obtain ⟨i0, hi, hz0, hz1, hz2⟩ := info_parts infoF
  have HMI := hidM (fun W (hW : Below w.heap.size w W) => iMiddle_any v ls W (h.below hW))
  obtain ⟨a, c, rfl, h2, h3, h4, h5⟩ := h
  have H5 : Hid (∀ j, j < ls.length → ∃ b off, a = some ⟨b, off, none⟩ ∧ w.cell? ⟨b, off + j * 2, none⟩ = some (.int .i64 (fr ls j).1) ∧ w.cell? ⟨b, off + j * 2 + 1, none⟩ = some (.int .i64 (fr ls j).2)) := h5
  clear h5 h2 h3 h4
  obtain ⟨m, hm⟩ : ∃ m, m = midA ls := ⟨_, rfl⟩
  have HD : Hid (dstA ls = dstV ls m ls.length) := by show _ = _; rw [hm]; rfl
  rw [← hm] at HMI
  clear hm
  obtain ⟨q, hq⟩ : ∃ q, q = midO ls := ⟨_, rfl⟩
  rw [← hq] at HMI
  clear hq
  have HDL : Hid (∀ k, (dstV ls m k).length = ls.length) := dstV_len ls m
  have HDS : Hid (∀ k, (dstV ls m k).set k (absF (subP (fr ls k) m)) = dstV ls m (k + 1)) := dstV_set ls m
  obtain ⟨D, hD⟩ : ∃ D, D = dstV ls m := ⟨_, rfl⟩
  have HD0 : Hid (D 0 = List.replicate ls.length (0, 0)) := by show _ = _; rw [hD]; exact dstV_zero ls m
  rw [← hD] at HD HDL HDS
  clear hD
  obtain ⟨L, hL⟩ : ∃ L, L = ls.length := ⟨_, rfl⟩
  rw [← hL] at H5 HD HDL HD0 HMI hl ⊢
  clear hL
  obtain ⟨m1, m2⟩ := m
  dsimp only at HMI
  have B1 := hidM (Below.refl w.heap.size w)
  go_enter Try.func28, Try.ntmps28
  go_wp2_with fail
  refine (HMI.out _ B1.out).mono ?_
  rintro e w1 ⟨rfl, hb⟩
  replace B1 := hidM (B1.out.trans hb)
  clear hb HMI
  obtain ⟨M, hM⟩ : ∃ M, M = w1.heap.size := ⟨_, rfl⟩
  obtain ⟨X, hX⟩ : ∃ X, X = w1.alloc (.cells #[.int .i64 m1, .int .i64 m2] 27) := ⟨_, rfl⟩
  have M0 : Hid (IsR X M m1 m2) := by show IsR _ _ _ _; rw [hX, hM]; exact IsR.new w1 _ _
  replace B1 := hidM (B1.out.trans ((bM w1 (.cells #[.int .i64 m1, .int .i64 m2] 27)).mono B1.out.size))
  rw [← hX] at B1
  go_upto_region 2 with fail
  simp only [← hM, ← hX]
  clear hM hX
  go_wp2_with (at_make; refine wpList_make_full _ rfl _ _ 24 rfl X.heap.size 27 i0 (.agg #[.int .i64 0, .int .i64 0]) 2 Try.underlying24 hi hz0 hz1 .i64 .i64 _ _ L rfl rfl rfl rfl (by rw [hz2]; omega) (by unfold maxLen; omega) (Nat.le_refl _) ?_; intro w2 hown hgrow)
  have O0 : Hid (w2.ownsRow X.heap.size 27 2 (.slice (some ⟨X.heap.size, 0, none⟩) L L) L (cellsR (D 0))) := by
    show World.ownsRow _ _ _ _ _ _ _
    rw [HD0.out, ← madeF]; exact hown
  have M1 := M0.out
  have hbm : Below X.heap.size X w2 := (Below.refl _ X).grown hgrow (Nat.le_refl _) (fun k e => by cases e)
  replace M0 := hidM (M0.out.below hbm)
  obtain ⟨G, hG⟩ : ∃ G, G = X.heap.size := ⟨_, rfl⟩
  have hwG : w.heap.size ≤ G := by have := B1.out.size; omega
  have hMG : M ≠ G := by have := M1.lt; omega
  replace B1 := hidM (B1.out.trans (hbm.mono B1.out.size))
  rw [← hG]
  rw [← hG] at O0
  clear hown hgrow hG hbm M1
  go_loopw [18] (fun i wr => ∃ k : Nat, k ≤ L ∧ i = .int .i64 k ∧ Hid (wr.ownsRow G 27 2 (.slice (some ⟨G, 0, none⟩) L L) L (cellsR (D k))) ∧ Hid (IsR wr M m1 m2) ∧ Hid (Below w.heap.size w wr)) (fun i _ => L - (intOf i).toNat)
  case atStart => exact ⟨0, Nat.zero_le _, rfl, O0.out, M0.out, B1.out⟩
  case round =>
    clear O0 M0 B1
    obtain ⟨k, hk, rfl, hO, hM, hB⟩ := hrel
    by_cases hlt : k < L
    · obtain ⟨b, off, rfl, c1, c2⟩ := H5.out k hlt
      replace c1 := cell_keep hB.out c1
      replace c2 := cell_keep hB.out c2
      obtain ⟨x, hx⟩ : ∃ x, x = fr ls k := ⟨_, rfl⟩
      rw [← hx] at c1 c2
      have HS := hidM (HDS.out k)
      rw [← hx] at HS
      obtain ⟨s, hs⟩ : ∃ s, s = subP x (m1, m2) := ⟨_, rfl⟩
      have hbd := subP_bd x (m1, m2)
      have HSU : Hid (∀ W, Calls Try.prog 50 #[.agg #[.int .i64 x.1, .int .i64 x.2], .agg #[.int .i64 m1, .int .i64 m2]] W fun e w' => e = .returned (.tuple #[.agg #[.int .i64 s.1, .int .i64 s.2], .bool (subK x (m1, m2))]) ∧ Below W.heap.size W w') := by
        intro W; rw [hs]; exact iSub_any x.1 x.2 m1 m2 W
      rw [← hs] at HS hbd
      obtain ⟨sk, hsk⟩ : ∃ s, s = subK x (m1, m2) := ⟨_, rfl⟩
      rw [← hsk] at HSU
      clear hx hs hsk
      obtain ⟨x1, x2⟩ := x
      obtain ⟨s1, s2⟩ := s
      obtain ⟨bd1, bd2⟩ := hbd
      dsimp only at c1 c2 HSU bd1 bd2
      go_upto_region 6 with fail
      obtain ⟨T, hT⟩ : ∃ T, T = wr.heap.size := ⟨_, rfl⟩
      obtain ⟨Y, hY⟩ : ∃ Y, Y = wr.alloc (.cells #[.int .i64 x1, .int .i64 x2] 27) := ⟨_, rfl⟩
      have hb := bM wr (.cells #[.int .i64 x1, .int .i64 x2] 27)
      have HT : Hid (IsR Y T x1 x2) := by show IsR _ _ _ _; rw [hY, hT]; exact IsR.new wr _ _
      rw [← hY] at hb
      replace hO := hidM (own_below hO.out hb)
      replace hM := hidM (hM.out.below hb)
      replace hB := hidM (hB.out.trans (hb.mono hB.out.size))
      rw [← hY, ← hT]
      clear hY hT hb c1 c2
      have e0 := HT.out.c0
      have e1 := HT.out.c1
      have e2 := hM.out.c0
      have e3 := hM.out.c1
      go_wp2_with fail
      refine (HSU.out _).mono ?_
      rintro e w4 ⟨rfl, hb⟩
      replace hO := hidM (own_below hO.out hb)
      replace hM := hidM (hM.out.below hb)
      replace hB := hidM (hB.out.trans (hb.mono hB.out.size))
      clear hb e0 e1 e2 e3 HT HSU
      obtain ⟨d1, d2⟩ := own_R hO.out (HDL.out k) k hlt
      have f1 := hO.out.frozenAt (k * 2)
      have f2 := hO.out.frozenAt (k * 2 + 1)
      obtain ⟨y, hy⟩ : ∃ y, y = (D k)[k]?.getD (0, 0) := ⟨_, rfl⟩
      rw [← hy] at d1 d2
      clear hy
      obtain ⟨y1, y2⟩ := y
      dsimp only at d1 d2
      go_upto_region 7 with fail
      obtain ⟨wn, hwn⟩ : ∃ W, W = (w4.setCell ⟨G, k * 2, none⟩ (.int .i64 s1)).setCell ⟨G, k * 2 + 1, none⟩ (.int .i64 s2) := ⟨_, rfl⟩
      have O2 : Hid (wn.ownsRow G 27 2 (.slice (some ⟨G, 0, none⟩) L L) L (cellsR ((D k).set k (s1, s2)))) := by
        show World.ownsRow _ _ _ _ _ _ _
        obtain ⟨p1, _⟩ := hO.out.stored (k * 2) (.int .i64 s1)
        obtain ⟨p2, _⟩ := p1.stored (k * 2 + 1) (.int .i64 s2)
        rw [cellsR_set _ _ _ _ (by rw [HDL.out]; exact hlt)] at p2
        rw [hwn]; exact p2
      have M2 : Hid (IsR wn M m1 m2) := by
        show IsR _ _ _ _
        rw [hwn]; exact (hM.out.other hMG (k * 2) (.int .i64 s1)).other hMG (k * 2 + 1) (.int .i64 s2)
      have B2 : Hid (Below w.heap.size w wn) := by
        show Below _ _ _
        rw [hwn]; exact (hB.out.setCell (p := ⟨G, k * 2, none⟩) hwG _).setCell (p := ⟨G, k * 2 + 1, none⟩) hwG _
      have HL2 : Hid (((D k).set k (s1, s2)).length = L) := by show _ = _; rw [List.length_set, HDL.out]
      rw [← hwn]
      clear hwn hO hM hB d1 d2 f1 f2
      obtain ⟨d1, d2⟩ := own_R O2.out HL2.out k hlt
      have HE : Hid (((D k).set k (s1, s2))[k]?.getD (0, 0) = (s1, s2)) := fr_setR (by rw [HDL.out]; exact hlt)
      rw [HE.out] at d1 d2
      dsimp only at d1 d2
      by_cases hneg : s1 < 0
      · have HAB : Hid (absF (s1, s2) = (-s1, s2)) := absF_neg hneg
        have HMN := hidM (fun W => mirrA_any s1 s2 W (by omega) (by omega))
        go_wp2_with fail
        refine (HMN.out _).mono ?_
        rintro e w5 ⟨rfl, hb⟩
        replace O2 := hidM (own_below O2.out hb)
        replace M2 := hidM (M2.out.below hb)
        replace B2 := hidM (B2.out.trans (hb.mono B2.out.size))
        replace d1 := cell_keep hb d1
        replace d2 := cell_keep hb d2
        clear hb HMN
        have f1 := O2.out.frozenAt (k * 2)
        have f2 := O2.out.frozenAt (k * 2 + 1)
        go_wp2
        go_roundw
        case rel =>
          refine ⟨k + 1, by omega, by go_num, ?_, (M2.out.other hMG (k * 2) (.int .i64 (-s1))).other hMG (k * 2 + 1) (.int .i64 s2), (B2.out.setCell (p := ⟨G, k * 2, none⟩) hwG _).setCell (p := ⟨G, k * 2 + 1, none⟩) hwG _⟩
          obtain ⟨p1, _⟩ := O2.out.stored (k * 2) (.int .i64 (-s1))
          obtain ⟨p2, _⟩ := p1.stored (k * 2 + 1) (.int .i64 s2)
          rw [cellsR_set _ _ _ _ (by rw [HL2.out]; exact hlt), List.set_set] at p2
          show World.ownsRow _ _ _ _ _ _ _
          rw [← HS.out, HAB.out]
          exact p2
        case measure => simp [intOf]; omega
      · have HAB : Hid (absF (s1, s2) = (s1, s2)) := absF_pos hneg
        go_wp2
        go_roundw
        case rel =>
          refine ⟨k + 1, by omega, by go_num, ?_, M2.out, B2.out⟩
          show World.ownsRow _ _ _ _ _ _ _
          rw [← HS.out, HAB.out]
          exact O2.out
        case measure => simp [intOf]; omega
    · obtain rfl : k = L := by omega
      go_wp2
      refine bodyPost_ret (v := .slice (some ⟨G, 0, none⟩) k k) (by simp [results, Try.results28, go_sem]) rfl ⟨G, rfl, ?_, hB.out⟩
      rw [HD.out]
      exact own_le hO.out hwG

set_option maxRecDepth 100000 in
set_option maxHeartbeats 2000000 in
theorem iSpread_any (v : Value) (ls : List Fr) (w : World) (h : RdR w v ls) (hl : ls.length ≤ 1048576) :
    Calls Try.prog 7 #[v] w fun e w' => e = .returned (.tuple #[.agg #[.int .i64 (sprA ls).1, .int .i64 (sprA ls).2], .bool (sprO ls)]) ∧ Below w.heap.size w w' := by
  have HDI := hidM (fun W (hW : Below w.heap.size w W) => iDist_any v ls W (h.below hW) hl)
  have HMI : Hid (∀ (u : Value) (W : World), RdR W u (dstA ls) → Calls Try.prog 6 #[u] W fun e w' => e = .returned (.tuple #[.agg #[.int .i64 (sprA ls).1, .int .i64 (sprA ls).2], .bool (sprO ls)]) ∧ Below W.heap.size W w') := by
    intro u W hu
    have := iMiddle_any u (dstA ls) W hu
    rw [(spr_prog ls).1, (spr_prog ls).2] at this
    exact this
  obtain ⟨a, c, rfl, _⟩ := h
  obtain ⟨d, hd⟩ : ∃ d, d = sprA ls := ⟨_, rfl⟩
  obtain ⟨q, hq⟩ : ∃ q, q = sprO ls := ⟨_, rfl⟩
  rw [← hd, ← hq] at HMI ⊢
  clear hd hq hl
  obtain ⟨L, hL⟩ : ∃ L, L = ls.length := ⟨_, rfl⟩
  rw [← hL] at HDI ⊢
  clear hL
  obtain ⟨d1, d2⟩ := d
  dsimp only at HMI ⊢
  obtain ⟨Rb, hRb⟩ : ∃ R, R = w.heap.size := ⟨_, rfl⟩
  obtain ⟨X, hX⟩ : ∃ X, X = w.alloc (.cells #[.int .i64 0, .int .i64 0] 27) := ⟨_, rfl⟩
  have hZ : Hid (IsR X Rb 0 0) := by show IsR _ _ _ _; rw [hX, hRb]; exact IsR.new w 0 0
  have hB : Hid (Below w.heap.size w X) := by show Below _ _ _; rw [hX]; exact bM _ _
  have hwR : w.heap.size ≤ Rb := by omega
  go_enter Try.func7, Try.ntmps7
  go_wp2_with fail
  rw [← hX, ← hRb]
  clear hX hRb
  refine (HDI.out _ hB.out).mono ?_
  rintro e w1 ⟨g, rfl, hu, hb⟩
  have HU := hidM (RdR.own hu).1
  replace hZ := hidM (hZ.out.below hb)
  replace hB := hidM (hB.out.trans (hb.mono hB.out.size))
  clear hb HDI hu
  go_wp2_with fail
  refine (HMI.out _ _ HU.out).mono ?_
  rintro e w2 ⟨rfl, hb⟩
  replace hZ := hidM (hZ.out.below hb)
  replace hB := hidM (hB.out.trans (hb.mono hB.out.size))
  clear hb HMI HU
  have z0 := hZ.out.c0
  have z1 := hZ.out.c1
  have z2 := hZ.out.f0
  have z3 := hZ.out.f1
  go_wp2
  have y0 := ((hZ.out.set0 d1).set1 d2).c0
  have y1 := ((hZ.out.set0 d1).set1 d2).c1
  exact bodyPost_ret (v := .tuple #[.agg #[.int .i64 d1, .int .i64 d2], .bool q]) (by simp [results, Try.results7, go_sem, y0, y1]) rfl ⟨rfl, (hB.out.setCell (p := ⟨Rb, 0, none⟩) hwR _).setCell (p := ⟨Rb, 1, none⟩) hwR _⟩
end Go.Proofs.Ythmdiljcceiedaa
