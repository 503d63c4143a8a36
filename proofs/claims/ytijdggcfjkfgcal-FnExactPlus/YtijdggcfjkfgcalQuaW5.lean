/- The model's Plus and Product of quantities. -/
import Derived.Test.YtijdggcfjkfgcalQuaW3
import Derived.Test.YtijdggcfjkfgcalQuaW4
import Derived.Deep.RegionLaw
import Derived.Deep.RegionHeld3
namespace Go.Proofs.Ytijdggcfjkfgcal
open Go.RowKit Go.Proofs.Ytijdggcfjkfgcal.RM

theorem IsB.other3 {W : World} {K B : Nat} {vs : Array Value} {t : TypeId} (h : IsB W K vs t) (hne : K ≠ B) (b0 b1 b2 : Value) : IsB (((W.setCell ⟨B, 0, none⟩ b0).setCell ⟨B, 1, none⟩ b1).setCell ⟨B, 2, none⟩ b2) K vs t :=
  ((h.other hne 0 b0).other hne 1 b1).other hne 2 b2
theorem quaB_swap (n d : Int) (ys : List Int) : quaB n d ys = (dimB ys && okB n d) := Bool.and_comm _ _
theorem IsB.grown {W W' : World} {B : Nat} {row : Option Nat} {vs : Array Value} {t : TypeId} (h : IsB W B vs t) (hg : W.grownBy W' row) (hne : some B ≠ row) : IsB W' B vs t := (hg.block B h.lt hne).trans h
set_option maxRecDepth 100000 in
set_option maxHeartbeats 2000000 in
theorem sQPlus_any (n d m c : Int) (v u : Value) (ys zs : List Int) (w : World) (h0 : DimIn w v ys) (h1 : DimIn w u zs) :
    Calls Try.prog 24 #[.agg #[.int .i64 n, .int .i64 d, v], .agg #[.int .i64 m, .int .i64 c, u]] w fun e w' => QuaP w (plusQ n d ys m c zs) e w' := by
  have b0 : ∀ (u : World) (o : Obj), Below u.heap.size u (u.alloc o) := fun u o => (Below.refl _ _).alloc (Nat.le_refl _) o
  have HM0 := hidU (fun W (hW : Below w.heap.size w W) => sQuaOk_any n d v ys W (h0.below hW))
  have HM1 := hidU (fun W (hW : Below w.heap.size w W) => sQuaOk_any m c u zs W (h1.below hW))
  rw [quaB_swap] at HM0 HM1
  have HA := hidU (fun W => sAdd_any n d m c W)
  have HNO : Hid ((dimB ys && okB n d) = false ∨ (dimB zs && okB m c) = false ∨ ys ≠ zs → plusQ n d ys m c zs = (0, 0, [], false)) := plusQ_no
  have HYES : Hid ((dimB ys && okB n d) = true → (dimB zs && okB m c) = true → ys = zs → plusQ n d ys m c zs = toldQ (opN (two n d m c) (n * c + m * d) (d * c)) (opD (two n d m c) (n * c + m * d) (d * c)) ys (opOk (two n d m c) (n * c + m * d) (d * c))) := plusQ_yes
  obtain ⟨i0, hi, hz0, hz1, hz2⟩ := info_parts infoI
  have HI := hidU (⟨hi, hz0, hz1, hz2⟩ : _ ∧ _ ∧ _ ∧ _)
  clear hi hz0 hz1 hz2
  obtain ⟨RQ, hRQ⟩ : ∃ R, R = plusQ n d ys m c zs := ⟨_, rfl⟩
  rw [← hRQ] at HNO HYES ⊢
  obtain ⟨rN, hN⟩ : ∃ x, x = opN (two n d m c) (n * c + m * d) (d * c) := ⟨_, rfl⟩
  obtain ⟨rD, hD⟩ : ∃ x, x = opD (two n d m c) (n * c + m * d) (d * c) := ⟨_, rfl⟩
  obtain ⟨rO, hO⟩ : ∃ x, x = opOk (two n d m c) (n * c + m * d) (d * c) := ⟨_, rfl⟩
  rw [← hN, ← hD, ← hO] at HA HYES
  clear hRQ hN hD hO
  obtain ⟨p, hp⟩ : ∃ p, p = (dimB ys && okB n d) := ⟨_, rfl⟩
  obtain ⟨q, hq⟩ : ∃ q, q = (dimB zs && okB m c) := ⟨_, rfl⟩
  have HDP : Hid (p = true → dimB ys = true) := by intro h; rw [hp, Bool.and_eq_true] at h; exact h.1
  have HDQ : Hid (q = true → dimB zs = true) := by intro h; rw [hq, Bool.and_eq_true] at h; exact h.1
  rw [← hp] at HM0 HNO HYES
  rw [← hq] at HM1 HNO HYES
  have HI0 := hidU h0
  have HI1 := hidU h1
  obtain ⟨a0, c0, rfl⟩ := h0.shape
  obtain ⟨a1, c1, rfl⟩ := h1.shape
  obtain ⟨m0, hk0⟩ : ∃ k, k = ys.length := ⟨_, rfl⟩
  obtain ⟨m1, hk1⟩ : ∃ k, k = zs.length := ⟨_, rfl⟩
  rw [← hk0] at HM0 HI0 ⊢
  rw [← hk1] at HM1 HI1 ⊢
  have HK0 := hidU hk0
  have HK1 := hidU hk1
  clear hp hq h0 h1 hk0 hk1
  go_enter Try.func24, Try.ntmps24
  go_wp2_with fail
  refine (HM0.out _ (((b0 _ _).alloc (by simp) _).alloc (by simp; omega) _)).mono ?_
  rintro e w1 ⟨rfl, hb⟩
  obtain ⟨A, hA⟩ : ∃ A, A = w.heap.size := ⟨_, rfl⟩
  have hAw : Hid (w.heap.size ≤ A) := Nat.le_of_eq hA.symm
  have k1 : IsB w1 A #[.int .i64 n, .int .i64 d, .slice a0 m0 c0] 35 := by rw [hA]; exact (((IsB.new w _ _).below (b0 _ _)).below (b0 _ _)).below hb
  have k2 : IsB w1 (A + 1) #[.int .i64 m, .int .i64 c, .slice a1 m1 c1] 35 := by rw [hA]; exact ((IsB.new2c w _ _ _).below (b0 _ _)).below hb
  have k3 : IsB w1 (A + 1 + 1) #[.int .i64 0, .int .i64 0, .slice none 0 0] 35 := by rw [hA]; exact (IsB.new3c w _ _ _ _).below hb
  have hB1 : Below w.heap.size w w1 := (((b0 _ _).alloc (by simp) _).alloc (by simp; omega) _).trans (hb.mono (by simp; omega))
  rw [← hA]
  clear hb hA
  obtain ⟨Z, hZ⟩ : ∃ Z, Z = A + 1 + 1 := ⟨_, rfl⟩
  obtain ⟨D, hD⟩ : ∃ D, D = A + 1 := ⟨_, rfl⟩
  rw [← hD] at k2 k3 hZ ⊢
  rw [← hZ] at k3 ⊢
  have hZw : Hid (w.heap.size ≤ Z) := by have := hAw.out; show _ ≤ _; omega
  have HAZ : Hid (A ≠ Z) := by show _ ≠ _; omega
  clear hZ hD
  have K1 := hidU k1
  have K2 := hidU k2
  have K3 := hidU k3
  have HB := hidU hB1
  clear k1 k2 k3 hB1
  cases p
  · have HNN := hidU (HNO.out (.inl (by simp)))
    obtain ⟨z0, z1, z2⟩ := K3.out.c3
    obtain ⟨f0, f1, f2⟩ := K3.out.f3
    go_wp2
    exact bodyPost_ret (v := .tuple #[.agg #[.int .i64 0, .int .i64 0, .slice none 0 0], .bool false]) (by simp [results, Try.results24, go_sem, z0, z1, z2]) rfl (by rw [HNN.out]; exact ⟨_, rfl, RowM.empty _ _, below_set3 HB.out hZw.out _ _ _⟩)
  obtain ⟨d0, d1, d2⟩ := K2.out.c3
  go_wp2_with fail
  refine (HM1.out _ HB.out).mono ?_
  rintro e w2 ⟨rfl, hb⟩
  replace K1 := hidU (K1.out.below hb)
  replace K2 := hidU (K2.out.below hb)
  replace K3 := hidU (K3.out.below hb)
  replace HB := hidU (HB.out.trans (hb.mono HB.out.size))
  clear hb d0 d1 d2
  cases q
  · have HNN := hidU (HNO.out (.inr (.inl (by simp))))
    obtain ⟨z0, z1, z2⟩ := K3.out.c3
    obtain ⟨f0, f1, f2⟩ := K3.out.f3
    go_wp2
    exact bodyPost_ret (v := .tuple #[.agg #[.int .i64 0, .int .i64 0, .slice none 0 0], .bool false]) (by simp [results, Try.results24, go_sem, z0, z1, z2]) rfl (by rw [HNN.out]; exact ⟨_, rfl, RowM.empty _ _, below_set3 HB.out hZw.out _ _ _⟩)
  have g1 : dimB ys = true := by have h := HDP.out; simpa using h
  have g2 : dimB zs = true := by have h := HDQ.out; simpa using h
  have l0 : ys.length = 5 := dimB_len g1
  have l1 : zs.length = 5 := dimB_len g2
  have e5 : m0 = 5 := by rw [HK0.out]; exact l0
  have e6 : m1 = 5 := by rw [HK1.out]; exact l1
  subst e5 e6
  have HL0 := hidU l0
  have HL1 := hidU l1
  obtain ⟨bs0, et0, o0⟩ := HI0.out.five l0
  obtain ⟨bs1, et1, o1⟩ := HI1.out.five l1
  rw [l0] at o0
  rw [l1] at o1
  have HO0 := hidU o0
  have HO1 := hidU o1
  have HSM := hidU (fun W (hW : Below w.heap.size w W) => sSame_any _ _ ys zs 5 _ _ _ _ W HL0.out HL1.out (by omega) ((RowM.own HO0.out).below hW) ((RowM.own HO1.out).below hW))
  obtain ⟨g, hg⟩ : ∃ g, g = decide (ys = zs) := ⟨_, rfl⟩
  have HG : Hid (g = true ↔ ys = zs) := by show _ ↔ _; rw [hg, decide_eq_true_eq]
  rw [← hg] at HSM
  clear hg g1 g2 l0 l1 o0 o1
  obtain ⟨x0, x1, x2⟩ := K1.out.c3
  obtain ⟨d0, d1, d2⟩ := K2.out.c3
  go_wp2_with fail
  refine (HSM.out _ HB.out).mono ?_
  rintro e w3 ⟨rfl, mm, hw⟩
  have hb : Below w2.heap.size w2 w3 := by rw [hw]; exact below_drewN (Below.refl _ _) _
  replace K1 := hidU (K1.out.below hb)
  replace K2 := hidU (K2.out.below hb)
  replace K3 := hidU (K3.out.below hb)
  replace HB := hidU (HB.out.trans (hb.mono HB.out.size))
  clear hb hw x0 x1 x2 d0 d1 d2 HSM
  cases g
  · have HNN := hidU (HNO.out (.inr (.inr (fun h => by have := HG.out.2 h; cases this))))
    obtain ⟨z0, z1, z2⟩ := K3.out.c3
    obtain ⟨f0, f1, f2⟩ := K3.out.f3
    go_wp2
    exact bodyPost_ret (v := .tuple #[.agg #[.int .i64 0, .int .i64 0, .slice none 0 0], .bool false]) (by simp [results, Try.results24, go_sem, z0, z1, z2]) rfl (by rw [HNN.out]; exact ⟨_, rfl, RowM.empty _ _, below_set3 HB.out hZw.out _ _ _⟩)
  have HRES : Hid (RQ = toldQ rN rD ys rO) := HYES.out (by simp) (by simp) (HG.out.1 (by simp))
  clear HNO HYES HG HDP HDQ HM0 HM1
  obtain ⟨x0, x1, x2⟩ := K1.out.c3
  obtain ⟨d0, d1, d2⟩ := K2.out.c3
  go_wp2_with fail
  refine (HA.out _).mono ?_
  rintro e w4 ⟨rfl, hb⟩
  replace K1 := hidU (K1.out.below hb)
  replace K3 := hidU (K3.out.below hb)
  replace HB := hidU (HB.out.trans (hb.mono HB.out.size))
  clear hb x0 x1 x2 d0 d1 d2 K2 HA
  cases rO
  · have HNN : Hid (RQ = (0, 0, [], false)) := HRES.out
    have hb := b0 w4 (.cells #[.int .i64 rN, .int .i64 rD] 33)
    replace K3 := hidU (K3.out.below hb)
    replace HB := hidU (HB.out.trans (hb.mono HB.out.size))
    clear hb
    obtain ⟨z0, z1, z2⟩ := K3.out.c3
    obtain ⟨f0, f1, f2⟩ := K3.out.f3
    go_wp2
    exact bodyPost_ret (v := .tuple #[.agg #[.int .i64 0, .int .i64 0, .slice none 0 0], .bool false]) (by simp [results, Try.results24, go_sem, z0, z1, z2]) rfl (by rw [HNN.out]; exact ⟨_, rfl, RowM.empty _ _, below_set3 HB.out hZw.out _ _ _⟩)
  go_upto_region 6 with fail
  obtain ⟨X, hX⟩ : ∃ Y, Y = w4.alloc (.cells #[.int .i64 rN, .int .i64 rD] 33) := ⟨_, rfl⟩
  obtain ⟨V, hV⟩ : ∃ F, F = w4.heap.size := ⟨_, rfl⟩
  have hb : Below w4.heap.size w4 X := by rw [hX]; exact b0 _ _
  have hVZ : V ≠ Z := by have := K3.out.lt; omega
  replace K1 := hidU (K1.out.below hb)
  replace K3 := hidU (K3.out.below hb)
  replace HB := hidU (HB.out.trans (hb.mono HB.out.size))
  have k6 : IsB X V #[.int .i64 rN, .int .i64 rD] 33 := by rw [hX, hV]; exact IsB.new _ _ _
  have K6 := hidU k6
  have HVZ := hidU hVZ
  have HO := hidU (own_below HO0.out HB.out)
  obtain ⟨gg, cc, hsl⟩ := own_some HO0.out (by omega)
  injection hsl with hsl1 hsl2 hsl3
  subst hsl1
  have HC := hidU (fun j u (h : (ys.map (Value.int .i64))[j]? = some u) => (show X.cell? ((⟨gg, 0, none⟩ : Addr).add j) = some u from by
    have hj : j < 5 := by have := (List.getElem?_eq_some_iff.1 h).1; rw [List.length_map, HL0.out] at this; exact this
    have ha : (⟨gg, 0, none⟩ : Addr).add j = ⟨gg, j, none⟩ := by by_cases i0 : j = 0 <;> simp [Addr.add, i0]
    have hc := HO.out.cellAt j (by omega)
    rw [ha, hc, h]))
  rw [← hX, ← hV]
  clear hX hV hb k6 hVZ hsl2 hsl3
  have HZL := hidU (K3.out.lt)
  have HAL := hidU (K1.out.lt)
  have HVL := hidU (K6.out.lt)
  have HBX := hidU (HB.out.size)
  refine wp_region_noPanic ?_
  refine wp_region_held_drew (S := fun W => IsB W V #[.int .i64 rN, .int .i64 rD] 33 ∧ IsB W A #[.int .i64 n, .int .i64 d, .slice (some ⟨gg, 0, none⟩) 5 c0] 35) (by kernel_rfl) ⟨K6.out.drew, K1.out.drew⟩ (fun hHeld => ?_)
  refine wpAnyH_take (i := 0) (v := ?_) rfl (by kernel_rfl) (by kernel_rfl) (by kernel_rfl) (fun _ _ _ h => h) (Or.inl ⟨by kernel_rfl, ?_⟩) hHeld ?_
  rotate_left
  · intro wz hSw; obtain ⟨hS1, hS2⟩ := hSw; have p0 := hS1.cell (v := .int .i64 rN) 0 rfl; have p1 := hS1.cell (v := .int .i64 rD) 1 rfl; obtain ⟨a0, a1, a2⟩ := hS2.c3; clear hS1 hS2; go_simp; all_goals (try with_reducible rfl)
  (try simp only [List.getElem_toArray]); (try simp only [List.getElem_cons_succ]); (try simp only [List.getElem_cons_zero]); (try simp only [Act.put]); (try simp only [List.setIfInBounds_toArray]); (try simp only [List.set_cons_succ]); (try simp only [List.set_cons_zero])
  refine wpAnyH_take (i := 2) (v := ?_) rfl (by kernel_rfl) (by kernel_rfl) (by kernel_rfl) (fun _ _ _ h => h) (Or.inl ⟨by kernel_rfl, ?_⟩) hHeld ?_
  rotate_left
  · intro wz hSw; obtain ⟨hS1, hS2⟩ := hSw; have p0 := hS1.cell (v := .int .i64 rN) 0 rfl; have p1 := hS1.cell (v := .int .i64 rD) 1 rfl; obtain ⟨a0, a1, a2⟩ := hS2.c3; clear hS1 hS2; go_simp; all_goals (try with_reducible rfl)
  (try simp only [List.getElem_toArray]); (try simp only [List.getElem_cons_succ]); (try simp only [List.getElem_cons_zero]); (try simp only [Act.put]); (try simp only [List.setIfInBounds_toArray]); (try simp only [List.set_cons_succ]); (try simp only [List.set_cons_zero])
  refine wpAnyH_take (i := 3) (v := ?_) rfl (by kernel_rfl) (by kernel_rfl) (by kernel_rfl) (fun _ _ _ h => h) (Or.inl ⟨by kernel_rfl, ?_⟩) hHeld ?_
  rotate_left
  · intro wz hSw; obtain ⟨hS1, hS2⟩ := hSw; have p0 := hS1.cell (v := .int .i64 rN) 0 rfl; have p1 := hS1.cell (v := .int .i64 rD) 1 rfl; obtain ⟨a0, a1, a2⟩ := hS2.c3; clear hS1 hS2; go_simp; all_goals (try with_reducible rfl)
  (try simp only [List.getElem_toArray]); (try simp only [List.getElem_cons_succ]); (try simp only [List.getElem_cons_zero]); (try simp only [Act.put]); (try simp only [List.setIfInBounds_toArray]); (try simp only [List.set_cons_succ]); (try simp only [List.set_cons_zero])
  have hb := b0 X.drew (.cells #[] 2)
  replace K1 := hidU (K1.out.drew.below hb)
  replace K3 := hidU (K3.out.drew.below hb)
  replace K6 := hidU (K6.out.drew.below hb)
  replace HB := hidU (HB.out.drew.trans (hb.mono HB.out.drew.size))
  have HLT := hidU (show (X.drew.alloc (.cells #[] 2)).ownsRow X.heap.size 2 1 (.slice (some ⟨X.heap.size, 0, none⟩) 0 0) 0 [] from by have := World.ownsRow_lit X.drew (base := X.heap.size) (e := 2) (size := 1) #[] 0 (Nat.le_refl _) (Nat.zero_le _) rfl; simpa using this)
  have HXX := hidU HB.out.size
  have HZX := hidU (show Z < X.heap.size from HZL.out)
  refine wpAnyH_ready (rs := [1]) (by kernel_rfl) (by simp) (AllReadyH.cons rfl (fun Kc hKc => ?_) AllReadyH.nil)
  go_simp
  refine hKc.out _ _ ⟨K6.out, K1.out⟩ (fun hHeld => ?_)
  clear hKc Kc hb
  (try simp only [List.getElem_toArray]); (try simp only [List.getElem_cons_succ]); (try simp only [List.getElem_cons_zero]); (try simp only [Act.put]); (try simp only [List.setIfInBounds_toArray]); (try simp only [List.set_cons_succ]); (try simp only [List.set_cons_zero])
  have hi := HI.out.1
  have hz0 := HI.out.2.1
  have hz1 := HI.out.2.2.1
  have hz2 := HI.out.2.2.2
  refine wpAnyH_ready (rs := [4]) (by kernel_rfl) (by simp) (AllReadyH.cons rfl (fun Kc hKc => ?_) AllReadyH.nil)
  refine step_append_own rfl (.tmp 37) (.tmp 39) 22 rfl X.heap.size 2 i0 (.int .i64 0) 1 8 Try.underlying22 hi hz0 hz1 hz2 rfl (by decide) _ 0 [] (by simp [Act.eval]) HLT.out ⟨gg, 0, none⟩ 5 c0 (ys.map (Value.int .i64)) (by simp [Act.eval]) (by rw [List.length_map, HL0.out]) (fun j u h => cell_later (b0 _ _) (cell_dr (HC.out j u h))) (by intro u hu; rw [List.mem_map] at hu; obtain ⟨x, _, rfl⟩ := hu; rfl) (by unfold maxLen; omega) (by omega) (by simp) ?_
  intro v5 w5 hown hgrow
  obtain ⟨a5, c5, rfl⟩ := own_shape hown
  have hbk : (Value.slice (some ⟨X.heap.size, 0, none⟩) 0 0).ownBlock = some X.heap.size := rfl
  rw [hbk] at hgrow
  replace K1 := hidU (K1.out.grown hgrow (by have := K1.out.lt; have := HAL.out; simp; omega))
  replace K3 := hidU (K3.out.grown hgrow (by have := HZX.out; simp; omega))
  replace K6 := hidU (K6.out.grown hgrow (by have := HVL.out; simp; omega))
  replace HB := hidU (HB.out.trans ((Below.refl _ _).grown hgrow HB.out.size (fun j ej => by cases ej; exact HBX.out)))
  have HOW : Hid (RowM w5 X.heap.size w5.heap.size (.slice a5 5 c5) ys) := RowM.own (by simpa using hown)
  clear hown hgrow hbk hi hz0 hz1 hz2
  refine hKc.out _ _ ⟨K6.out, K1.out⟩ (fun hHeld => ?_)
  clear hKc Kc
  (try simp only [List.getElem_toArray]); (try simp only [List.getElem_cons_succ]); (try simp only [List.getElem_cons_zero]); (try simp only [Act.put]); (try simp only [List.setIfInBounds_toArray]); (try simp only [List.set_cons_succ]); (try simp only [List.set_cons_zero])
  refine wpAnyH_take (i := 5) (v := ?_) rfl (by kernel_rfl) (by kernel_rfl) (by kernel_rfl) (fun _ _ _ h => h) (Or.inl ⟨by kernel_rfl, ?_⟩) hHeld ?_
  rotate_left
  · intro wz hSw; obtain ⟨hS1, hS2⟩ := hSw; have p0 := hS1.cell (v := .int .i64 rN) 0 rfl; have p1 := hS1.cell (v := .int .i64 rD) 1 rfl; obtain ⟨a0, a1, a2⟩ := hS2.c3; clear hS1 hS2; go_simp; all_goals (try with_reducible rfl)
  (try simp only [List.getElem_toArray]); (try simp only [List.getElem_cons_succ]); (try simp only [List.getElem_cons_zero]); (try simp only [Act.put]); (try simp only [List.setIfInBounds_toArray]); (try simp only [List.set_cons_succ]); (try simp only [List.set_cons_zero])
  obtain ⟨z0, z1, z2⟩ := K3.out.c3
  obtain ⟨f0, f1, f2⟩ := K3.out.f3
  have K6b := hidU (K6.out.other3 HVZ.out (.int .i64 rN) (.int .i64 rD) (.slice a5 5 c5))
  have K1b := hidU (K1.out.other3 HAZ.out (.int .i64 rN) (.int .i64 rD) (.slice a5 5 c5))
  have KZ := hidU (K3.out.set3 (.int .i64 rN) (.int .i64 rD) (.slice a5 5 c5))
  refine wpAnyH_ready (rs := [6]) (by kernel_rfl) (by simp) (AllReadyH.cons rfl (fun Kc hKc => ?_) AllReadyH.nil)
  go_simp
  refine hKc.out _ _ ⟨K6b.out, K1b.out⟩ (fun hHeld => ?_)
  clear hKc Kc z0 z1 z2 f0 f1 f2
  (try simp only [List.getElem_toArray]); (try simp only [List.getElem_cons_succ]); (try simp only [List.getElem_cons_zero]); (try simp only [Act.put]); (try simp only [List.setIfInBounds_toArray]); (try simp only [List.set_cons_succ]); (try simp only [List.set_cons_zero])
  refine wpAnyH_take (i := 7) (v := ?_) rfl (by kernel_rfl) (by kernel_rfl) (by kernel_rfl) (fun _ _ _ h => h) (Or.inl ⟨by kernel_rfl, ?_⟩) hHeld ?_
  rotate_left
  · intro wz hSw; obtain ⟨hS1, hS2⟩ := hSw; have p0 := hS1.cell (v := .int .i64 rN) 0 rfl; have p1 := hS1.cell (v := .int .i64 rD) 1 rfl; obtain ⟨a0, a1, a2⟩ := hS2.c3; clear hS1 hS2; go_simp; all_goals (try with_reducible rfl)
  (try simp only [List.getElem_toArray]); (try simp only [List.getElem_cons_succ]); (try simp only [List.getElem_cons_zero]); (try simp only [Act.put]); (try simp only [List.setIfInBounds_toArray]); (try simp only [List.set_cons_succ]); (try simp only [List.set_cons_zero])
  refine wpAnyH_done (by kernel_rfl) ?_ _
  refine NoPanic.normal ?_
  go_wp2
  obtain ⟨y0, y1, y2⟩ := KZ.out.c3
  have h9 : Kp Z (Z + 1) w5 (((w5.setCell ⟨Z, 0, none⟩ (.int .i64 rN)).setCell ⟨Z, 1, none⟩ (.int .i64 rD)).setCell ⟨Z, 2, none⟩ (.slice a5 5 c5)) := ((Kp.set _ _ (Nat.le_refl _) (Nat.lt_succ_self _)).trans (Kp.set _ _ (Nat.le_refl _) (Nat.lt_succ_self _))).trans (Kp.set _ _ (Nat.le_refl _) (Nat.lt_succ_self _))
  have h8 := (HOW.out.kp h9 (.inr HZX.out)).mono HBX.out h9.size
  exact bodyPost_ret (v := .tuple #[.agg #[.int .i64 rN, .int .i64 rD, .slice a5 5 c5], .bool true]) (by simp [results, Try.results24, go_sem, y0, y1, y2]) rfl (by rw [HRES.out]; exact ⟨_, rfl, h8, below_set3 HB.out hZw.out _ _ _⟩)
set_option maxRecDepth 100000 in
set_option maxHeartbeats 2000000 in
theorem sQProd_any (n d m c : Int) (v u : Value) (ys zs : List Int) (w : World) (h0 : DimIn w v ys) (h1 : DimIn w u zs) :
    Calls Try.prog 26 #[.agg #[.int .i64 n, .int .i64 d, v], .agg #[.int .i64 m, .int .i64 c, u]] w fun e w' => QuaP w (prodQ n d ys m c zs) e w' := by
  have b0 : ∀ (u : World) (o : Obj), Below u.heap.size u (u.alloc o) := fun u o => (Below.refl _ _).alloc (Nat.le_refl _) o
  have HM0 := hidU (fun W (hW : Below w.heap.size w W) => sQuaOk_any n d v ys W (h0.below hW))
  have HM1 := hidU (fun W (hW : Below w.heap.size w W) => sQuaOk_any m c u zs W (h1.below hW))
  rw [quaB_swap] at HM0 HM1
  have HA := hidU (fun W => sMul_any n d m c W)
  have HDT := hidU (fun W (hW : Below w.heap.size w W) => sDimTimes_in v u ys zs W (h0.below hW) (h1.below hW))
  have HNO : Hid ((dimB ys && okB n d) = false ∨ (dimB zs && okB m c) = false → prodQ n d ys m c zs = (0, 0, [], false)) := prodQ_no
  have HYES : Hid ((dimB ys && okB n d) = true → (dimB zs && okB m c) = true → prodQ n d ys m c zs = toldQ (opN (two n d m c) (n * m) (d * c)) (opD (two n d m c) (n * m) (d * c)) (List.zipWith (· + ·) ys zs) (dimB (List.zipWith (· + ·) ys zs) && opOk (two n d m c) (n * m) (d * c))) := prodQ_yes
  obtain ⟨RQ, hRQ⟩ : ∃ R, R = prodQ n d ys m c zs := ⟨_, rfl⟩
  rw [← hRQ] at HNO HYES ⊢
  obtain ⟨rN, hN⟩ : ∃ x, x = opN (two n d m c) (n * m) (d * c) := ⟨_, rfl⟩
  obtain ⟨rD, hD⟩ : ∃ x, x = opD (two n d m c) (n * m) (d * c) := ⟨_, rfl⟩
  obtain ⟨rO, hO⟩ : ∃ x, x = opOk (two n d m c) (n * m) (d * c) := ⟨_, rfl⟩
  rw [← hN, ← hD, ← hO] at HA HYES
  clear hRQ hN hD hO
  obtain ⟨p, hp⟩ : ∃ p, p = (dimB ys && okB n d) := ⟨_, rfl⟩
  obtain ⟨q, hq⟩ : ∃ q, q = (dimB zs && okB m c) := ⟨_, rfl⟩
  have HDP : Hid (p = true → dimB ys = true) := by intro h; rw [hp, Bool.and_eq_true] at h; exact h.1
  have HDQ : Hid (q = true → dimB zs = true) := by intro h; rw [hq, Bool.and_eq_true] at h; exact h.1
  rw [← hp] at HM0 HNO HYES
  rw [← hq] at HM1 HNO HYES
  have HI0 := hidU h0
  have HI1 := hidU h1
  obtain ⟨a0, c0, rfl⟩ := h0.shape
  obtain ⟨a1, c1, rfl⟩ := h1.shape
  obtain ⟨m0, hk0⟩ : ∃ k, k = ys.length := ⟨_, rfl⟩
  obtain ⟨m1, hk1⟩ : ∃ k, k = zs.length := ⟨_, rfl⟩
  rw [← hk0] at HM0 HI0 HDT ⊢
  rw [← hk1] at HM1 HI1 HDT ⊢
  have HK0 := hidU hk0
  have HK1 := hidU hk1
  clear hp hq h0 h1 hk0 hk1
  go_enter Try.func26, Try.ntmps26
  go_wp2_with fail
  refine (HM0.out _ (((b0 _ _).alloc (by simp) _).alloc (by simp; omega) _)).mono ?_
  rintro e w1 ⟨rfl, hb⟩
  obtain ⟨A, hA⟩ : ∃ A, A = w.heap.size := ⟨_, rfl⟩
  have hAw : Hid (w.heap.size ≤ A) := Nat.le_of_eq hA.symm
  have k1 : IsB w1 A #[.int .i64 n, .int .i64 d, .slice a0 m0 c0] 35 := by rw [hA]; exact (((IsB.new w _ _).below (b0 _ _)).below (b0 _ _)).below hb
  have k2 : IsB w1 (A + 1) #[.int .i64 m, .int .i64 c, .slice a1 m1 c1] 35 := by rw [hA]; exact ((IsB.new2c w _ _ _).below (b0 _ _)).below hb
  have k3 : IsB w1 (A + 1 + 1) #[.int .i64 0, .int .i64 0, .slice none 0 0] 35 := by rw [hA]; exact (IsB.new3c w _ _ _ _).below hb
  have hB1 : Below w.heap.size w w1 := (((b0 _ _).alloc (by simp) _).alloc (by simp; omega) _).trans (hb.mono (by simp; omega))
  rw [← hA]
  clear hb hA
  obtain ⟨Z, hZ⟩ : ∃ Z, Z = A + 1 + 1 := ⟨_, rfl⟩
  obtain ⟨D, hD⟩ : ∃ D, D = A + 1 := ⟨_, rfl⟩
  rw [← hD] at k2 k3 hZ ⊢
  rw [← hZ] at k3 ⊢
  have hZw : Hid (w.heap.size ≤ Z) := by have := hAw.out; show _ ≤ _; omega
  have HAZ : Hid (A ≠ Z) := by show _ ≠ _; omega
  clear hZ hD
  have K1 := hidU k1
  have K2 := hidU k2
  have K3 := hidU k3
  have HB := hidU hB1
  clear k1 k2 k3 hB1
  cases p
  · have HNN := hidU (HNO.out (.inl (by simp)))
    obtain ⟨z0, z1, z2⟩ := K3.out.c3
    obtain ⟨f0, f1, f2⟩ := K3.out.f3
    go_wp2
    exact bodyPost_ret (v := .tuple #[.agg #[.int .i64 0, .int .i64 0, .slice none 0 0], .bool false]) (by simp [results, Try.results26, go_sem, z0, z1, z2]) rfl (by rw [HNN.out]; exact ⟨_, rfl, RowM.empty _ _, below_set3 HB.out hZw.out _ _ _⟩)
  obtain ⟨d0, d1, d2⟩ := K2.out.c3
  go_wp2_with fail
  refine (HM1.out _ HB.out).mono ?_
  rintro e w2 ⟨rfl, hb⟩
  replace K1 := hidU (K1.out.below hb)
  replace K2 := hidU (K2.out.below hb)
  replace K3 := hidU (K3.out.below hb)
  replace HB := hidU (HB.out.trans (hb.mono HB.out.size))
  clear hb d0 d1 d2
  cases q
  · have HNN := hidU (HNO.out (.inr (by simp)))
    obtain ⟨z0, z1, z2⟩ := K3.out.c3
    obtain ⟨f0, f1, f2⟩ := K3.out.f3
    go_wp2
    exact bodyPost_ret (v := .tuple #[.agg #[.int .i64 0, .int .i64 0, .slice none 0 0], .bool false]) (by simp [results, Try.results26, go_sem, z0, z1, z2]) rfl (by rw [HNN.out]; exact ⟨_, rfl, RowM.empty _ _, below_set3 HB.out hZw.out _ _ _⟩)
  have g1 : dimB ys = true := by have h := HDP.out; simpa using h
  have g2 : dimB zs = true := by have h := HDQ.out; simpa using h
  have HRES : Hid (RQ = toldQ rN rD (List.zipWith (· + ·) ys zs) (dimB (List.zipWith (· + ·) ys zs) && rO)) := HYES.out (by simp) (by simp)
  have hAT : ansDimTimes ys zs = dimN (List.zipWith (· + ·) ys zs) := by unfold ansDimTimes; rw [g1, g2]; rfl
  rw [hAT] at HDT
  clear HNO HYES HDP HDQ HM0 HM1 hAT g1 g2
  obtain ⟨XS, hXS⟩ : ∃ xs, xs = List.zipWith (· + ·) ys zs := ⟨_, rfl⟩
  rw [← hXS] at HRES HDT
  clear hXS
  obtain ⟨x0, x1, x2⟩ := K1.out.c3
  obtain ⟨d0, d1, d2⟩ := K2.out.c3
  go_wp2_with fail
  refine (HA.out _).mono ?_
  rintro e w4 ⟨rfl, hb⟩
  replace K1 := hidU (K1.out.below hb)
  replace K2 := hidU (K2.out.below hb)
  replace K3 := hidU (K3.out.below hb)
  replace HB := hidU (HB.out.trans (hb.mono HB.out.size))
  clear hb x0 x1 x2 d0 d1 d2 HA
  go_upto_region 4 with fail
  obtain ⟨X, hX⟩ : ∃ Y, Y = w4.alloc (.cells #[.int .i64 rN, .int .i64 rD] 33) := ⟨_, rfl⟩
  obtain ⟨V, hV⟩ : ∃ F, F = w4.heap.size := ⟨_, rfl⟩
  have hb : Below w4.heap.size w4 X := by rw [hX]; exact b0 _ _
  replace K1 := hidU (K1.out.below hb)
  replace K2 := hidU (K2.out.below hb)
  replace K3 := hidU (K3.out.below hb)
  replace HB := hidU (HB.out.trans (hb.mono HB.out.size))
  have k6 : IsB X V #[.int .i64 rN, .int .i64 rD] 33 := by rw [hX, hV]; exact IsB.new _ _ _
  have K6 := hidU k6
  rw [← hX, ← hV]
  clear hX hV hb k6
  obtain ⟨x0, x1, x2⟩ := K1.out.c3
  obtain ⟨d0, d1, d2⟩ := K2.out.c3
  go_wp2_with fail
  refine (HDT.out _ HB.out).mono ?_
  rintro e w5 ⟨v5, et, rfl, ov, hb⟩
  obtain ⟨a5, c5, rfl⟩ := own_shape ov
  have hXB := HB.out.size
  have HZX := hidU (show Z < X.heap.size from K3.out.lt)
  replace K3 := hidU (K3.out.below hb)
  replace K6 := hidU (K6.out.below hb)
  replace HB := hidU (HB.out.trans (hb.mono HB.out.size))
  have HBX := hidU hXB
  have HV := hidU ov
  clear hb x0 x1 x2 d0 d1 d2 ov K1 K2 hXB HDT
  obtain ⟨z0, z1, z2⟩ := K3.out.c3
  obtain ⟨f0, f1, f2⟩ := K3.out.f3
  cases rO
  · have HNN : Hid (RQ = (0, 0, [], false)) := by show _ = _; rw [HRES.out, Bool.and_false]; rfl
    go_wp2
    exact bodyPost_ret (v := .tuple #[.agg #[.int .i64 0, .int .i64 0, .slice none 0 0], .bool false]) (by simp [results, Try.results26, go_sem, z0, z1, z2]) rfl (by rw [HNN.out]; exact ⟨_, rfl, RowM.empty _ _, below_set3 HB.out hZw.out _ _ _⟩)
  obtain ⟨g, hg⟩ : ∃ g, g = dimB XS := ⟨_, rfl⟩
  cases g
  · have hN : dimN XS = [] := by unfold dimN; rw [← hg]; rfl
    have HNN : Hid (RQ = (0, 0, [], false)) := by show _ = _; rw [HRES.out, ← hg]; rfl
    rw [hN]
    clear hN hg
    have hl0 : (([] : List Int).length : Int) = 0 := rfl
    go_wp2
    exact bodyPost_ret (v := .tuple #[.agg #[.int .i64 0, .int .i64 0, .slice none 0 0], .bool false]) (by simp [results, Try.results26, go_sem, z0, z1, z2]) rfl (by rw [HNN.out]; exact ⟨_, rfl, RowM.empty _ _, below_set3 HB.out hZw.out _ _ _⟩)
  · have hN : dimN XS = XS := by unfold dimN; rw [← hg]; rfl
    have hl : XS.length = 5 := dimB_len hg.symm
    have HNN : Hid (RQ = (rN, rD, XS, true)) := by show _ = _; rw [HRES.out, ← hg]; rfl
    rw [hN] at HV ⊢
    have HW := hidU (RowM.own HV.out)
    rw [hl]
    rw [hl] at HV
    have HL5 := hidU hl
    clear hN hg hl
    have y0 := K6.out.cell (v := .int .i64 rN) 0 rfl
    have y1 := K6.out.cell (v := .int .i64 rD) 1 rfl
    have KZ := hidU (K3.out.set3 (.int .i64 rN) (.int .i64 rD) (.slice a5 5 c5))
    go_wp2
    obtain ⟨y0, y1, y2⟩ := KZ.out.c3
    have h9 : Kp Z (Z + 1) w5 (((w5.setCell ⟨Z, 0, none⟩ (.int .i64 rN)).setCell ⟨Z, 1, none⟩ (.int .i64 rD)).setCell ⟨Z, 2, none⟩ (.slice a5 5 c5)) := ((Kp.set _ _ (Nat.le_refl _) (Nat.lt_succ_self _)).trans (Kp.set _ _ (Nat.le_refl _) (Nat.lt_succ_self _))).trans (Kp.set _ _ (Nat.le_refl _) (Nat.lt_succ_self _))
    have h7 : RowM w5 X.heap.size w5.heap.size (.slice a5 5 c5) XS := by have h := HW.out; rw [HL5.out] at h; exact h
    have h8 := (h7.kp h9 (.inr HZX.out)).mono HBX.out h9.size
    exact bodyPost_ret (v := .tuple #[.agg #[.int .i64 rN, .int .i64 rD, .slice a5 5 c5], .bool true]) (by simp [results, Try.results26, go_sem, y0, y1, y2]) rfl (by rw [HNN.out]; exact ⟨_, rfl, h8, below_set3 HB.out hZw.out _ _ _⟩)
end Go.Proofs.Ytijdggcfjkfgcal
