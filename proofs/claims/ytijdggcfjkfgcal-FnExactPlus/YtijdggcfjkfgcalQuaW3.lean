/- The program's Plus and Product of quantities. -/
import Derived.Test.YtijdggcfjkfgcalQuaW2
import Derived.Outline
import Derived.Deep.DeepCutAuto
namespace Go.Proofs.Ytijdggcfjkfgcal
open Go.RowKit Go.Proofs.Ytijdggcfjkfgcal.RM

theorem plusQ_no {n d m c : Int} {ys zs : List Int} (h : (dimB ys && okB n d) = false ∨ (dimB zs && okB m c) = false ∨ ys ≠ zs) : plusQ n d ys m c zs = (0, 0, [], false) := by
  unfold plusQ toldQ opOk
  rw [if_neg]
  intro h2
  simp only [Bool.and_eq_true, decide_eq_true_eq] at h2
  obtain ⟨⟨⟨h3, h4⟩, h5⟩, h6, h7⟩ := h2
  obtain ⟨h8, h9⟩ := two_out h6
  rcases h with h | h | h
  · rw [h3, h8] at h; cases h
  · rw [h4, h9] at h; cases h
  · exact h h5
theorem plusQ_yes {n d m c : Int} {ys zs : List Int} (h : (dimB ys && okB n d) = true) (h2 : (dimB zs && okB m c) = true) (h3 : ys = zs) : plusQ n d ys m c zs = toldQ (opN (two n d m c) (n * c + m * d) (d * c)) (opD (two n d m c) (n * c + m * d) (d * c)) ys (opOk (two n d m c) (n * c + m * d) (d * c)) := by
  unfold plusQ
  rw [Bool.and_eq_true] at h h2
  rw [h.1, h2.1, decide_eq_true h3]
  simp
theorem prodQ_no {n d m c : Int} {ys zs : List Int} (h : (dimB ys && okB n d) = false ∨ (dimB zs && okB m c) = false) : prodQ n d ys m c zs = (0, 0, [], false) := by
  unfold prodQ toldQ opOk
  rw [if_neg]
  intro h2
  simp only [Bool.and_eq_true] at h2
  obtain ⟨⟨⟨h3, h4⟩, h5⟩, h6, h7⟩ := h2
  obtain ⟨h8, h9⟩ := two_out h6
  rcases h with h | h
  · rw [h3, h8] at h; cases h
  · rw [h4, h9] at h; cases h
theorem prodQ_yes {n d m c : Int} {ys zs : List Int} (h : (dimB ys && okB n d) = true) (h2 : (dimB zs && okB m c) = true) : prodQ n d ys m c zs = toldQ (opN (two n d m c) (n * m) (d * c)) (opD (two n d m c) (n * m) (d * c)) (List.zipWith (· + ·) ys zs) (dimB (List.zipWith (· + ·) ys zs) && opOk (two n d m c) (n * m) (d * c)) := by
  unfold prodQ
  rw [Bool.and_eq_true] at h h2
  rw [h.1, h2.1]
  simp
set_option maxRecDepth 100000 in
set_option maxHeartbeats 2000000 in
theorem iQPlus_any (n d m c : Int) (v u : Value) (ys zs : List Int) (w : World) (h0 : DimIn w v ys) (h1 : DimIn w u zs) :
    Calls Try.prog 25 #[.agg #[.int .i64 n, .int .i64 d, v], .agg #[.int .i64 m, .int .i64 c, u]] w fun e w' => QuaP w (plusQ n d ys m c zs) e w' := by
  have b0 : ∀ (u : World) (o : Obj), Below u.heap.size u (u.alloc o) := fun u o => (Below.refl _ _).alloc (Nat.le_refl _) o
  have HM0 := hidU (fun W (hW : Below w.heap.size w W) => measOf_any n d v ys W (h0.below hW))
  have HM1 := hidU (fun W (hW : Below w.heap.size w W) => measOf_any m c u zs W (h1.below hW))
  have HSH := hidU (fun (s0 s1 s2 s3 s4 n d : Int) (b : Bool) (W : World) => shownM_any s0 s1 s2 s3 s4 n d b W)
  have HA := hidU (fun W => iAdd_any n d m c W)
  have HNO : Hid ((dimB ys && okB n d) = false ∨ (dimB zs && okB m c) = false ∨ ys ≠ zs → plusQ n d ys m c zs = (0, 0, [], false)) := plusQ_no
  have HYES : Hid ((dimB ys && okB n d) = true → (dimB zs && okB m c) = true → ys = zs → plusQ n d ys m c zs = toldQ (opN (two n d m c) (n * c + m * d) (d * c)) (opD (two n d m c) (n * c + m * d) (d * c)) ys (opOk (two n d m c) (n * c + m * d) (d * c))) := plusQ_yes
  obtain ⟨RQ, hRQ⟩ : ∃ R, R = plusQ n d ys m c zs := ⟨_, rfl⟩
  rw [← hRQ] at HNO HYES ⊢
  obtain ⟨rN, hN⟩ : ∃ x, x = opN (two n d m c) (n * c + m * d) (d * c) := ⟨_, rfl⟩
  obtain ⟨rD, hD⟩ : ∃ x, x = opD (two n d m c) (n * c + m * d) (d * c) := ⟨_, rfl⟩
  obtain ⟨rO, hO⟩ : ∃ x, x = opOk (two n d m c) (n * c + m * d) (d * c) := ⟨_, rfl⟩
  rw [← hN, ← hD, ← hO] at HA HYES
  clear hRQ hN hD hO
  obtain ⟨p, hp⟩ : ∃ p, p = (dimB ys && okB n d) := ⟨_, rfl⟩
  obtain ⟨q, hq⟩ : ∃ q, q = (dimB zs && okB m c) := ⟨_, rfl⟩
  have HDP : Hid (p = true → dimB ys = true) := by intro h; rw [hp, Bool.and_eq_true] at h; exact h.1
  have HDQ : Hid (q = true → dimB zs = true) := by intro h; rw [hq, Bool.and_eq_true] at h; exact h.1
  rw [← hp] at HM0 HNO HYES
  rw [← hq] at HM1 HNO HYES
  obtain ⟨a0, c0, rfl⟩ := h0.shape
  obtain ⟨a1, c1, rfl⟩ := h1.shape
  obtain ⟨k0, hk0⟩ : ∃ k, k = ys.length := ⟨_, rfl⟩
  obtain ⟨k1, hk1⟩ : ∃ k, k = zs.length := ⟨_, rfl⟩
  rw [← hk0] at HM0 ⊢
  rw [← hk1] at HM1 ⊢
  clear hp hq h0 h1 hk0 hk1
  go_enter Try.func25, Try.ntmps25
  go_wp2_with fail
  refine (HM0.out _ (((b0 _ _).alloc (by simp) _).alloc (by simp; omega) _)).mono ?_
  rintro e w1 ⟨s0, s1, s2, s3, s4, rfl, hs, hb⟩
  have HS := hidU hs
  obtain ⟨A, hA⟩ : ∃ A, A = w.heap.size := ⟨_, rfl⟩
  have hAw : Hid (w.heap.size ≤ A) := Nat.le_of_eq hA.symm
  have k2 : IsB w1 (A + 1) #[.int .i64 m, .int .i64 c, .slice a1 k1 c1] 35 := by rw [hA]; exact ((IsB.new2c w _ _ _).below (b0 _ _)).below hb
  have k3 : IsB w1 (A + 1 + 1) #[.int .i64 0, .int .i64 0, .slice none 0 0] 35 := by rw [hA]; exact (IsB.new3c w _ _ _ _).below hb
  have hB1 : Below w.heap.size w w1 := (((b0 _ _).alloc (by simp) _).alloc (by simp; omega) _).trans (hb.mono (by simp; omega))
  rw [← hA]
  clear hb hA hs
  go_upto_region 2 with fail
  obtain ⟨Y, hY⟩ : ∃ Y, Y = w1.alloc (.cells #[.int .i64 s0, .int .i64 s1, .int .i64 s2, .int .i64 s3, .int .i64 s4, .int .i64 n, .int .i64 d] 58) := ⟨_, rfl⟩
  obtain ⟨F, hF⟩ : ∃ F, F = w1.heap.size := ⟨_, rfl⟩
  have hb : Below w1.heap.size w1 Y := by rw [hY]; exact b0 _ _
  replace k2 := k2.below hb
  replace k3 := k3.below hb
  have k4 : IsB Y F #[.int .i64 s0, .int .i64 s1, .int .i64 s2, .int .i64 s3, .int .i64 s4, .int .i64 n, .int .i64 d] 58 := by rw [hY, hF]; exact IsB.new _ _ _
  replace hB1 := hB1.trans (hb.mono hB1.size)
  rw [← hY, ← hF]
  clear hY hF hb
  obtain ⟨Z, hZ⟩ : ∃ Z, Z = A + 1 + 1 := ⟨_, rfl⟩
  obtain ⟨D, hD⟩ : ∃ D, D = A + 1 := ⟨_, rfl⟩
  rw [← hD] at k2 k3 hZ ⊢
  rw [← hZ] at k3 ⊢
  have hZw : Hid (w.heap.size ≤ Z) := by have := hAw.out; show _ ≤ _; omega
  clear hZ hD
  obtain ⟨d0, d1, d2⟩ := k2.c3
  have K3 := hidU k3
  have K4 := hidU k4
  have HB := hidU hB1
  clear k2 k3 k4 hB1
  go_wp2_with fail
  refine (HM1.out _ HB.out).mono ?_
  rintro e w2 ⟨t0, t1, t2, t3, t4, rfl, hs, hb⟩
  have HT := hidU hs
  replace K3 := hidU (K3.out.below hb)
  replace K4 := hidU (K4.out.below hb)
  replace HB := hidU (HB.out.trans (hb.mono HB.out.size))
  clear hs hb d0 d1 d2
  go_upto_region 3 with fail
  obtain ⟨X, hX⟩ : ∃ Y, Y = w2.alloc (.cells #[.int .i64 t0, .int .i64 t1, .int .i64 t2, .int .i64 t3, .int .i64 t4, .int .i64 m, .int .i64 c] 58) := ⟨_, rfl⟩
  obtain ⟨G, hG⟩ : ∃ F, F = w2.heap.size := ⟨_, rfl⟩
  have hb : Below w2.heap.size w2 X := by rw [hX]; exact b0 _ _
  have k3 := K3.out.below hb
  have k4 := K4.out.below hb
  have k5 : IsB X G #[.int .i64 t0, .int .i64 t1, .int .i64 t2, .int .i64 t3, .int .i64 t4, .int .i64 m, .int .i64 c] 58 := by rw [hX, hG]; exact IsB.new _ _ _
  replace HB := hidU (HB.out.trans (hb.mono HB.out.size))
  rw [← hX, ← hG]
  clear hX hG hb K3 K4
  obtain ⟨x0, x1, x2, x3, x4, x5, x6⟩ := k4.c7
  obtain ⟨y0, y1, y2, y3, y4, y5, y6⟩ := k5.c7
  obtain ⟨z0, z1, z2⟩ := k3.c3
  obtain ⟨f0, f1, f2⟩ := k3.f3
  have K3 := hidU k3
  have K4 := hidU k4
  have K5 := hidU k5
  clear k3 k4 k5
  cases p
  · have HNN := hidU (HNO.out (.inl rfl))
    go_wp2
    exact bodyPost_ret (v := .tuple #[.agg #[.int .i64 0, .int .i64 0, .slice none 0 0], .bool false]) (by simp [results, Try.results25, go_sem, z0, z1, z2]) rfl (by rw [HNN.out]; exact ⟨_, rfl, RowM.empty _ _, below_set3 HB.out hZw.out _ _ _⟩)
  cases q
  · have HNN := hidU (HNO.out (.inr (.inl rfl)))
    go_wp2
    exact bodyPost_ret (v := .tuple #[.agg #[.int .i64 0, .int .i64 0, .slice none 0 0], .bool false]) (by simp [results, Try.results25, go_sem, z0, z1, z2]) rfl (by rw [HNN.out]; exact ⟨_, rfl, RowM.empty _ _, below_set3 HB.out hZw.out _ _ _⟩)
  have e1 : ys = [s0, s1, s2, s3, s4] := by have h := HS.out; have g := HDP.out rfl; exact h g
  have e2 : zs = [t0, t1, t2, t3, t4] := by have h := HT.out; have g := HDQ.out rfl; exact h g
  have E5 := fun W => eq5 s0 s1 s2 s3 s4 t0 t1 t2 t3 t4 W
  obtain ⟨g, hg⟩ : ∃ q : Bool, q = (s0 == t0 && (s1 == t1 && (s2 == t2 && (s3 == t3 && s4 == t4)))) := ⟨_, rfl⟩
  have HG : Hid (g = true ↔ ys = zs) := by
    show _ ↔ _
    rw [hg, e1, e2]
    simp
  rw [← hg] at E5
  have HE1 := hidU e1
  clear hg e1 e2
  cases g
  · have HNN := hidU (HNO.out (.inr (.inr (fun h => by have := HG.out.2 h; cases this))))
    go_wp2
    exact bodyPost_ret (v := .tuple #[.agg #[.int .i64 0, .int .i64 0, .slice none 0 0], .bool false]) (by simp [results, Try.results25, go_sem, z0, z1, z2]) rfl (by rw [HNN.out]; exact ⟨_, rfl, RowM.empty _ _, below_set3 HB.out hZw.out _ _ _⟩)
  · have HRES : RQ = toldQ rN rD [s0, s1, s2, s3, s4] rO := by rw [HYES.out rfl rfl (HG.out.1 rfl), HE1.out]
    clear HNO HYES HG HS HT HDP HDQ
    go_wp2_with fail
    refine (HA.out _).mono ?_
    rintro e w3 ⟨rfl, hb⟩
    have k3 := K3.out.below hb
    have k4 := K4.out.below hb
    replace HB := hidU (HB.out.trans (hb.mono HB.out.size))
    clear hb K3 K4 K5 x0 x1 x2 x3 x4 x5 x6 y0 y1 y2 y3 y4 y5 y6 z0 z1 z2 f0 f1 f2
    go_upto_region 6 with fail
    obtain ⟨W5, hX⟩ : ∃ Y, Y = w3.alloc (.cells #[.int .i64 rN, .int .i64 rD] 33) := ⟨_, rfl⟩
    obtain ⟨V, hV⟩ : ∃ F, F = w3.heap.size := ⟨_, rfl⟩
    have hb : Below w3.heap.size w3 W5 := by rw [hX]; exact b0 _ _
    have K3 := hidU (k3.below hb)
    replace k4 := k4.below hb
    have k6 : IsB W5 V #[.int .i64 rN, .int .i64 rD] 33 := by rw [hX, hV]; exact IsB.new _ _ _
    replace HB := hidU (HB.out.trans (hb.mono HB.out.size))
    have HWL := HB.out.size
    rw [← hX, ← hV]
    clear hX hV hb k3
    obtain ⟨x0, x1, x2, x3, x4, x5, x6⟩ := k4.c7
    have y0 := k6.cell (v := .int .i64 rN) 0 rfl
    have y1 := k6.cell (v := .int .i64 rD) 1 rfl
    clear k4 k6
    go_wp2_with fail
    refine (HSH.out s0 s1 s2 s3 s4 rN rD rO _).mono ?_
    rintro e w5 ⟨v5, rfl, hv, hb⟩
    have HR9 := hidU HRES
    obtain ⟨R, hR⟩ : ∃ R, R = toldQ rN rD [s0, s1, s2, s3, s4] (rO) := ⟨_, rfl⟩
    rw [← hR] at hv HR9 ⊢
    clear hR
    obtain ⟨rn, rd, rx, rb⟩ := R
    simp only at hv ⊢
    obtain ⟨a5, c5, hv5⟩ := hv.shape
    obtain ⟨k5, hk5⟩ : ∃ k, k = rx.length := ⟨_, rfl⟩
    rw [← hk5] at hv5
    subst hv5
    clear hk5
    have k3 := K3.out.below hb
    have HL := hidU (show Z < W5.heap.size from K3.out.lt)
    have HV := hidU hv
    replace HB := hidU (HB.out.trans (hb.mono HB.out.size))
    obtain ⟨z0, z1, z2⟩ := k3.c3
    obtain ⟨f0, f1, f2⟩ := k3.f3
    have KZ := hidU (k3.set3 (.int .i64 rn) (.int .i64 rd) (.slice a5 k5 c5))
    clear k3 K3 hb hv
    go_wp2
    obtain ⟨y0, y1, y2⟩ := KZ.out.c3
    have h9 : Kp Z (Z + 1) w5 (((w5.setCell ⟨Z, 0, none⟩ (.int .i64 rn)).setCell ⟨Z, 1, none⟩ (.int .i64 rd)).setCell ⟨Z, 2, none⟩ (.slice a5 k5 c5)) := ((Kp.set _ _ (Nat.le_refl _) (Nat.lt_succ_self _)).trans (Kp.set _ _ (Nat.le_refl _) (Nat.lt_succ_self _))).trans (Kp.set _ _ (Nat.le_refl _) (Nat.lt_succ_self _))
    have h8 := (HV.out.kp h9 (.inr HL.out)).mono HWL h9.size
    exact bodyPost_ret (v := .tuple #[.agg #[.int .i64 rn, .int .i64 rd, .slice a5 k5 c5], .bool rb]) (by simp [results, Try.results25, go_sem, y0, y1, y2]) rfl (by rw [HR9.out]; exact ⟨_, rfl, h8, below_set3 HB.out hZw.out _ _ _⟩)
set_option maxRecDepth 100000 in
set_option maxHeartbeats 2000000 in
theorem iQProd_any (n d m c : Int) (v u : Value) (ys zs : List Int) (w : World) (h0 : DimIn w v ys) (h1 : DimIn w u zs) :
    Calls Try.prog 27 #[.agg #[.int .i64 n, .int .i64 d, v], .agg #[.int .i64 m, .int .i64 c, u]] w fun e w' => QuaP w (prodQ n d ys m c zs) e w' := by
  have b0 : ∀ (u : World) (o : Obj), Below u.heap.size u (u.alloc o) := fun u o => (Below.refl _ _).alloc (Nat.le_refl _) o
  have HM0 := hidU (fun W (hW : Below w.heap.size w W) => measOf_any n d v ys W (h0.below hW))
  have HM1 := hidU (fun W (hW : Below w.heap.size w W) => measOf_any m c u zs W (h1.below hW))
  have HSH := hidU (fun (s0 s1 s2 s3 s4 n d : Int) (b : Bool) (W : World) => shownM_any s0 s1 s2 s3 s4 n d b W)
  have HA := hidU (fun W => iMul_any n d m c W)
  have HNO : Hid ((dimB ys && okB n d) = false ∨ (dimB zs && okB m c) = false → prodQ n d ys m c zs = (0, 0, [], false)) := prodQ_no
  have HYES : Hid ((dimB ys && okB n d) = true → (dimB zs && okB m c) = true → prodQ n d ys m c zs = toldQ (opN (two n d m c) (n * m) (d * c)) (opD (two n d m c) (n * m) (d * c)) (List.zipWith (· + ·) ys zs) (dimB (List.zipWith (· + ·) ys zs) && opOk (two n d m c) (n * m) (d * c))) := prodQ_yes
  obtain ⟨RQ, hRQ⟩ : ∃ R, R = prodQ n d ys m c zs := ⟨_, rfl⟩
  rw [← hRQ] at HNO HYES ⊢
  obtain ⟨rN, hN⟩ : ∃ x, x = opN (two n d m c) (n * m) (d * c) := ⟨_, rfl⟩
  obtain ⟨rD, hD⟩ : ∃ x, x = opD (two n d m c) (n * m) (d * c) := ⟨_, rfl⟩
  obtain ⟨rO, hO⟩ : ∃ x, x = opOk (two n d m c) (n * m) (d * c) := ⟨_, rfl⟩
  rw [← hN, ← hD, ← hO] at HA HYES
  clear hRQ hN hD hO
  obtain ⟨p, hp⟩ : ∃ p, p = (dimB ys && okB n d) := ⟨_, rfl⟩
  obtain ⟨q, hq⟩ : ∃ q, q = (dimB zs && okB m c) := ⟨_, rfl⟩
  have HDP : Hid (p = true → dimB ys = true) := by intro h; rw [hp, Bool.and_eq_true] at h; exact h.1
  have HDQ : Hid (q = true → dimB zs = true) := by intro h; rw [hq, Bool.and_eq_true] at h; exact h.1
  rw [← hp] at HM0 HNO HYES
  rw [← hq] at HM1 HNO HYES
  obtain ⟨a0, c0, rfl⟩ := h0.shape
  obtain ⟨a1, c1, rfl⟩ := h1.shape
  obtain ⟨k0, hk0⟩ : ∃ k, k = ys.length := ⟨_, rfl⟩
  obtain ⟨k1, hk1⟩ : ∃ k, k = zs.length := ⟨_, rfl⟩
  rw [← hk0] at HM0 ⊢
  rw [← hk1] at HM1 ⊢
  clear hp hq h0 h1 hk0 hk1
  go_enter Try.func27, Try.ntmps27
  go_wp2_with fail
  refine (HM0.out _ (((b0 _ _).alloc (by simp) _).alloc (by simp; omega) _)).mono ?_
  rintro e w1 ⟨s0, s1, s2, s3, s4, rfl, hs, hb⟩
  have HS := hidU hs
  obtain ⟨A, hA⟩ : ∃ A, A = w.heap.size := ⟨_, rfl⟩
  have hAw : Hid (w.heap.size ≤ A) := Nat.le_of_eq hA.symm
  have k2 : IsB w1 (A + 1) #[.int .i64 m, .int .i64 c, .slice a1 k1 c1] 35 := by rw [hA]; exact ((IsB.new2c w _ _ _).below (b0 _ _)).below hb
  have k3 : IsB w1 (A + 1 + 1) #[.int .i64 0, .int .i64 0, .slice none 0 0] 35 := by rw [hA]; exact (IsB.new3c w _ _ _ _).below hb
  have hB1 : Below w.heap.size w w1 := (((b0 _ _).alloc (by simp) _).alloc (by simp; omega) _).trans (hb.mono (by simp; omega))
  rw [← hA]
  clear hb hA hs
  go_upto_region 2 with fail
  obtain ⟨Y, hY⟩ : ∃ Y, Y = w1.alloc (.cells #[.int .i64 s0, .int .i64 s1, .int .i64 s2, .int .i64 s3, .int .i64 s4, .int .i64 n, .int .i64 d] 58) := ⟨_, rfl⟩
  obtain ⟨F, hF⟩ : ∃ F, F = w1.heap.size := ⟨_, rfl⟩
  have hb : Below w1.heap.size w1 Y := by rw [hY]; exact b0 _ _
  replace k2 := k2.below hb
  replace k3 := k3.below hb
  have k4 : IsB Y F #[.int .i64 s0, .int .i64 s1, .int .i64 s2, .int .i64 s3, .int .i64 s4, .int .i64 n, .int .i64 d] 58 := by rw [hY, hF]; exact IsB.new _ _ _
  replace hB1 := hB1.trans (hb.mono hB1.size)
  rw [← hY, ← hF]
  clear hY hF hb
  obtain ⟨Z, hZ⟩ : ∃ Z, Z = A + 1 + 1 := ⟨_, rfl⟩
  obtain ⟨D, hD⟩ : ∃ D, D = A + 1 := ⟨_, rfl⟩
  rw [← hD] at k2 k3 hZ ⊢
  rw [← hZ] at k3 ⊢
  have hZw : Hid (w.heap.size ≤ Z) := by have := hAw.out; show _ ≤ _; omega
  clear hZ hD
  obtain ⟨d0, d1, d2⟩ := k2.c3
  have K3 := hidU k3
  have K4 := hidU k4
  have HB := hidU hB1
  clear k2 k3 k4 hB1
  go_wp2_with fail
  refine (HM1.out _ HB.out).mono ?_
  rintro e w2 ⟨t0, t1, t2, t3, t4, rfl, hs, hb⟩
  have HT := hidU hs
  replace K3 := hidU (K3.out.below hb)
  replace K4 := hidU (K4.out.below hb)
  replace HB := hidU (HB.out.trans (hb.mono HB.out.size))
  clear hs hb d0 d1 d2
  go_upto_region 3 with fail
  obtain ⟨X, hX⟩ : ∃ Y, Y = w2.alloc (.cells #[.int .i64 t0, .int .i64 t1, .int .i64 t2, .int .i64 t3, .int .i64 t4, .int .i64 m, .int .i64 c] 58) := ⟨_, rfl⟩
  obtain ⟨G, hG⟩ : ∃ F, F = w2.heap.size := ⟨_, rfl⟩
  have hb : Below w2.heap.size w2 X := by rw [hX]; exact b0 _ _
  have k3 := K3.out.below hb
  have k4 := K4.out.below hb
  have k5 : IsB X G #[.int .i64 t0, .int .i64 t1, .int .i64 t2, .int .i64 t3, .int .i64 t4, .int .i64 m, .int .i64 c] 58 := by rw [hX, hG]; exact IsB.new _ _ _
  replace HB := hidU (HB.out.trans (hb.mono HB.out.size))
  rw [← hX, ← hG]
  clear hX hG hb K3 K4
  obtain ⟨x0, x1, x2, x3, x4, x5, x6⟩ := k4.c7
  obtain ⟨y0, y1, y2, y3, y4, y5, y6⟩ := k5.c7
  obtain ⟨z0, z1, z2⟩ := k3.c3
  obtain ⟨f0, f1, f2⟩ := k3.f3
  have K3 := hidU k3
  have K4 := hidU k4
  have K5 := hidU k5
  clear k3 k4 k5
  cases p
  · have HNN := hidU (HNO.out (.inl rfl))
    go_wp2
    exact bodyPost_ret (v := .tuple #[.agg #[.int .i64 0, .int .i64 0, .slice none 0 0], .bool false]) (by simp [results, Try.results27, go_sem, z0, z1, z2]) rfl (by rw [HNN.out]; exact ⟨_, rfl, RowM.empty _ _, below_set3 HB.out hZw.out _ _ _⟩)
  cases q
  · have HNN := hidU (HNO.out (.inr rfl))
    go_wp2
    exact bodyPost_ret (v := .tuple #[.agg #[.int .i64 0, .int .i64 0, .slice none 0 0], .bool false]) (by simp [results, Try.results27, go_sem, z0, z1, z2]) rfl (by rw [HNN.out]; exact ⟨_, rfl, RowM.empty _ _, below_set3 HB.out hZw.out _ _ _⟩)
  have g1 := HDP.out rfl
  have g2 := HDQ.out rfl
  have e1 : ys = [s0, s1, s2, s3, s4] := HS.out g1
  have e2 : zs = [t0, t1, t2, t3, t4] := HT.out g2
  rw [e1, dimB_five] at g1
  rw [e2, dimB_five] at g2
  have G1 := hidU (lim5_out g1)
  have G2 := hidU (lim5_out g2)
  have HD5 := hidU (fun W => dtimes_any s0 s1 s2 s3 s4 t0 t1 t2 t3 t4 W G1.out.1 G1.out.2.1 G1.out.2.2.1 G1.out.2.2.2.1 G1.out.2.2.2.2 G2.out.1 G2.out.2.1 G2.out.2.2.1 G2.out.2.2.2.1 G2.out.2.2.2.2)
  have HRES : RQ = toldQ rN rD [s0 + t0, s1 + t1, s2 + t2, s3 + t3, s4 + t4] (lim5 (s0 + t0) (s1 + t1) (s2 + t2) (s3 + t3) (s4 + t4) && rO) := by
    rw [HYES.out rfl rfl, e1, e2]
    show toldQ rN rD [s0 + t0, s1 + t1, s2 + t2, s3 + t3, s4 + t4] (dimB [s0 + t0, s1 + t1, s2 + t2, s3 + t3, s4 + t4] && rO) = _
    rw [dimB_five]
  clear HNO HYES HS HT HDP HDQ g1 g2 e1 e2 G1 G2
  obtain ⟨r0, h0⟩ : ∃ x, x = s0 + t0 := ⟨_, rfl⟩
  obtain ⟨r1, h1⟩ : ∃ x, x = s1 + t1 := ⟨_, rfl⟩
  obtain ⟨r2, h2⟩ : ∃ x, x = s2 + t2 := ⟨_, rfl⟩
  obtain ⟨r3, h3⟩ : ∃ x, x = s3 + t3 := ⟨_, rfl⟩
  obtain ⟨r4, h4⟩ : ∃ x, x = s4 + t4 := ⟨_, rfl⟩
  rw [← h0, ← h1, ← h2, ← h3, ← h4] at HD5 HRES
  obtain ⟨lo, h5⟩ : ∃ x, x = lim5 r0 r1 r2 r3 r4 := ⟨_, rfl⟩
  rw [← h5] at HD5 HRES
  clear h0 h1 h2 h3 h4 h5
  simp only [arr] at HD5
  go_wp2_with fail
  refine (HD5.out _).mono ?_
  rintro e w3 ⟨rfl, hb⟩
  have k3 := K3.out.below hb
  have k4 := K4.out.below hb
  have k5 := K5.out.below hb
  replace HB := hidU (HB.out.trans (hb.mono HB.out.size))
  clear hb K3 K4 K5 x0 x1 x2 x3 x4 x5 x6 y0 y1 y2 y3 y4 y5 y6 z0 z1 z2 f0 f1 f2 HD5
  go_upto_region 6 with fail
  obtain ⟨U5, hX⟩ : ∃ Y, Y = w3.alloc (.cells #[.int .i64 r0, .int .i64 r1, .int .i64 r2, .int .i64 r3, .int .i64 r4] 56) := ⟨_, rfl⟩
  obtain ⟨V, hV⟩ : ∃ F, F = w3.heap.size := ⟨_, rfl⟩
  have hb : Below w3.heap.size w3 U5 := by rw [hX]; exact b0 _ _
  have K3 := hidU (k3.below hb)
  replace k4 := k4.below hb
  replace k5 := k5.below hb
  have k6 : IsB U5 V #[.int .i64 r0, .int .i64 r1, .int .i64 r2, .int .i64 r3, .int .i64 r4] 56 := by rw [hX, hV]; exact IsB.new _ _ _
  replace HB := hidU (HB.out.trans (hb.mono HB.out.size))
  rw [← hX, ← hV]
  clear hX hV hb k3
  have x5 := k4.cell (v := .int .i64 n) 5 rfl
  have x6 := k4.cell (v := .int .i64 d) 6 rfl
  have y5 := k5.cell (v := .int .i64 m) 5 rfl
  have y6 := k5.cell (v := .int .i64 c) 6 rfl
  have K6 := hidU k6
  clear k4 k5 k6
  go_wp2_with fail
  refine (HA.out _).mono ?_
  rintro e w4 ⟨rfl, hb⟩
  have k3 := K3.out.below hb
  have k6 := K6.out.below hb
  replace HB := hidU (HB.out.trans (hb.mono HB.out.size))
  clear hb K3 K6 x5 x6 y5 y6 HA
  go_upto_region 7 with fail
  obtain ⟨W5, hX⟩ : ∃ Y, Y = w4.alloc (.cells #[.int .i64 rN, .int .i64 rD] 33) := ⟨_, rfl⟩
  obtain ⟨U, hV⟩ : ∃ F, F = w4.heap.size := ⟨_, rfl⟩
  have hb : Below w4.heap.size w4 W5 := by rw [hX]; exact b0 _ _
  have K3 := hidU (k3.below hb)
  replace k6 := k6.below hb
  have k7 : IsB W5 U #[.int .i64 rN, .int .i64 rD] 33 := by rw [hX, hV]; exact IsB.new _ _ _
  replace HB := hidU (HB.out.trans (hb.mono HB.out.size))
  have HWL := HB.out.size
  rw [← hX, ← hV]
  clear hX hV hb k3
  obtain ⟨x0, x1, x2, x3, x4⟩ := k6.c5
  have y0 := k7.cell (v := .int .i64 rN) 0 rfl
  have y1 := k7.cell (v := .int .i64 rD) 1 rfl
  clear k6 k7
  have HBB : ∃ b, b = (lo && rO) := ⟨_, rfl⟩
  obtain ⟨bb, hbb⟩ := HBB
  rw [← hbb] at HRES
  cases lo
  · rw [show bb = false from hbb] at HRES
    clear hbb
    go_wp2_with fail
    refine (HSH.out r0 r1 r2 r3 r4 rN rD false _).mono ?_
    rintro e w5 ⟨v5, rfl, hv, hb⟩
    have HR9 := hidU HRES
    obtain ⟨R, hR⟩ : ∃ R, R = toldQ rN rD [r0, r1, r2, r3, r4] (false) := ⟨_, rfl⟩
    rw [← hR] at hv HR9 ⊢
    clear hR
    obtain ⟨rn, rd, rx, rb⟩ := R
    simp only at hv ⊢
    obtain ⟨a5, c5, hv5⟩ := hv.shape
    obtain ⟨k5, hk5⟩ : ∃ k, k = rx.length := ⟨_, rfl⟩
    rw [← hk5] at hv5
    subst hv5
    clear hk5
    have k3 := K3.out.below hb
    have HL := hidU (show Z < W5.heap.size from K3.out.lt)
    have HV := hidU hv
    replace HB := hidU (HB.out.trans (hb.mono HB.out.size))
    obtain ⟨z0, z1, z2⟩ := k3.c3
    obtain ⟨f0, f1, f2⟩ := k3.f3
    have KZ := hidU (k3.set3 (.int .i64 rn) (.int .i64 rd) (.slice a5 k5 c5))
    clear k3 K3 hb hv
    go_wp2
    obtain ⟨y0, y1, y2⟩ := KZ.out.c3
    have h9 : Kp Z (Z + 1) w5 (((w5.setCell ⟨Z, 0, none⟩ (.int .i64 rn)).setCell ⟨Z, 1, none⟩ (.int .i64 rd)).setCell ⟨Z, 2, none⟩ (.slice a5 k5 c5)) := ((Kp.set _ _ (Nat.le_refl _) (Nat.lt_succ_self _)).trans (Kp.set _ _ (Nat.le_refl _) (Nat.lt_succ_self _))).trans (Kp.set _ _ (Nat.le_refl _) (Nat.lt_succ_self _))
    have h8 := (HV.out.kp h9 (.inr HL.out)).mono HWL h9.size
    exact bodyPost_ret (v := .tuple #[.agg #[.int .i64 rn, .int .i64 rd, .slice a5 k5 c5], .bool rb]) (by simp [results, Try.results27, go_sem, y0, y1, y2]) rfl (by rw [HR9.out]; exact ⟨_, rfl, h8, below_set3 HB.out hZw.out _ _ _⟩)
  · rw [show bb = rO from hbb] at HRES
    clear hbb
    go_wp2_with fail
    refine (HSH.out r0 r1 r2 r3 r4 rN rD rO _).mono ?_
    rintro e w5 ⟨v5, rfl, hv, hb⟩
    have HR9 := hidU HRES
    obtain ⟨R, hR⟩ : ∃ R, R = toldQ rN rD [r0, r1, r2, r3, r4] (rO) := ⟨_, rfl⟩
    rw [← hR] at hv HR9 ⊢
    clear hR
    obtain ⟨rn, rd, rx, rb⟩ := R
    simp only at hv ⊢
    obtain ⟨a5, c5, hv5⟩ := hv.shape
    obtain ⟨k5, hk5⟩ : ∃ k, k = rx.length := ⟨_, rfl⟩
    rw [← hk5] at hv5
    subst hv5
    clear hk5
    have k3 := K3.out.below hb
    have HL := hidU (show Z < W5.heap.size from K3.out.lt)
    have HV := hidU hv
    replace HB := hidU (HB.out.trans (hb.mono HB.out.size))
    obtain ⟨z0, z1, z2⟩ := k3.c3
    obtain ⟨f0, f1, f2⟩ := k3.f3
    have KZ := hidU (k3.set3 (.int .i64 rn) (.int .i64 rd) (.slice a5 k5 c5))
    clear k3 K3 hb hv
    go_wp2
    obtain ⟨y0, y1, y2⟩ := KZ.out.c3
    have h9 : Kp Z (Z + 1) w5 (((w5.setCell ⟨Z, 0, none⟩ (.int .i64 rn)).setCell ⟨Z, 1, none⟩ (.int .i64 rd)).setCell ⟨Z, 2, none⟩ (.slice a5 k5 c5)) := ((Kp.set _ _ (Nat.le_refl _) (Nat.lt_succ_self _)).trans (Kp.set _ _ (Nat.le_refl _) (Nat.lt_succ_self _))).trans (Kp.set _ _ (Nat.le_refl _) (Nat.lt_succ_self _))
    have h8 := (HV.out.kp h9 (.inr HL.out)).mono HWL h9.size
    exact bodyPost_ret (v := .tuple #[.agg #[.int .i64 rn, .int .i64 rd, .slice a5 k5 c5], .bool rb]) (by simp [results, Try.results27, go_sem, y0, y1, y2]) rfl (by rw [HR9.out]; exact ⟨_, rfl, h8, below_set3 HB.out hZw.out _ _ _⟩)
end Go.Proofs.Ytijdggcfjkfgcal
