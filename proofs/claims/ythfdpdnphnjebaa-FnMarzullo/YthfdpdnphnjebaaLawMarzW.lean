/- The law of Marzullo walked: no number is in more claims than those of the agreed range, all of that are in as many, and it goes no further. -/
import Derived.Test.YthfdpdnphnjebaaDrawA
import Derived.Test.YthfdpdnphnjebaaPk1
namespace Go.Proofs.Ythfdpdnphnjebaa
open Go.RowKit Go.Proofs.Ythfdpdnphnjebaa.RM

theorem rdS_ne {W : World} {v : Value} {ss : List Sp} (h : RdS W v ss) : ∀ b off c n, v = .slice (some ⟨b, off, none⟩) n c → 0 < n → b ≠ W.heap.size := by
  obtain ⟨a, c', rfl, _, _, _, h5⟩ := h
  intro b off c n e hn
  injection e with e1 e2 e3
  obtain ⟨b', off', e4, c1, _⟩ := h5 0 (by omega)
  rw [e1] at e4
  injection e4 with e4
  injection e4 with e5 _ _
  have := World.block_lt_of_cell? W _ c1
  dsimp only at this
  omega
theorem rdS_st {W : World} {v : Value} {ss : List Sp} {B : Nat} (h : RdS W v ss) (hne : ∀ b off c n, v = .slice (some ⟨b, off, none⟩) n c → 0 < n → b ≠ B) (o : Nat) (x : Value) : RdS (W.setCell ⟨B, o, none⟩ x) v ss := by
  obtain ⟨a, c, rfl, h2, h3, h4, h5⟩ := h
  refine ⟨a, c, rfl, h2, h3, h4, fun j hj => ?_⟩
  obtain ⟨b, off, rfl, k1, k2, k3, k4⟩ := h5 j hj
  have := hne b off c _ rfl (by omega)
  exact ⟨b, off, rfl, cell_stb k1 this, cell_stb k2 this, cell_stb k3 this, cell_stb k4 this⟩
theorem agr_no {ls : List Sp} (h : clmB ls = false) : agrR ls = ((0, 0), (0, 0)) ∧ agrN ls = -1 := by
  unfold agrR agrN
  rw [h]
  exact ⟨rfl, rfl⟩
set_option maxRecDepth 100000 in
set_option maxHeartbeats 8000000 in
theorem lawMarz (a : Option Addr) (len cap : Nat) (zs : List Int) (w : World) (hr : IsRow .u8 w a len cap zs) :
    Calls Try.prog 3 #[.slice a len cap] w fun e w' => e = .returned (.bool true) ∧ Below w.heap.size w w' := by
  have HR := hidH hr
  have HBIG := hidH (fun W => big_any a len cap W)
  go_enter Try.func3, Try.ntmps3
  by_cases hbig : 4096 < (len : Int)
  · have HBG : Hid (decide (4096 < (len : Int)) = true) := decide_eq_true hbig
    rw [HBG.out] at HBIG
    go_wp2_with fail
    refine (HBIG.out _).mono ?_
    rintro e w1 ⟨rfl, rfl⟩
    go_wp2
    go_ret
    exact ⟨rfl, Below.refl _ _⟩
  have HBG : Hid (decide (4096 < (len : Int)) = false) := decide_eq_false hbig
  have HLEN : Hid (len ≤ 4096) := by show _ ≤ _; omega
  rw [HBG.out] at HBIG
  clear hr hbig
  go_wp2_with fail
  refine (HBIG.out _).mono ?_
  rintro e w0 ⟨rfl, hw⟩
  have hw2 := hw.symm
  subst hw2
  clear hw
  go_wp2_with fail
  refine (dAgreed_any a len cap zs _ HR.out).mono ?_
  rintro e w1 ⟨v, ss, rfl, hO, hl, hb⟩
  have HV := hidH (RdS.ownRg hO).1
  have HB := hidH hb
  clear hb HBIG HBG hO
  obtain ⟨va, vc, hv, _⟩ := HV.out
  subst hv
  have HI : Hid (∀ W, RdS W (.slice va ss.length vc) ss → Calls Try.prog 6 #[.slice va ss.length vc] W fun e w' => e = .returned (.tuple #[.agg #[.int .i64 (agrR ss).1.1, .int .i64 (agrR ss).1.2, .int .i64 (agrR ss).2.1, .int .i64 (agrR ss).2.2], .int .i64 (agrN ss)]) ∧ Below W.heap.size W w') := fun W hW => iAgreed_any _ ss W hW
  have HS : Hid (∀ W, RdS W (.slice va ss.length vc) ss → Calls Try.prog 8 #[.slice va ss.length vc] W fun e w' => e = .returned (.tuple #[.agg #[.int .i64 (agrR ss).1.1, .int .i64 (agrR ss).1.2, .int .i64 (agrR ss).2.1, .int .i64 (agrR ss).2.2], .int .i64 (agrN ss)]) ∧ Below W.heap.size W w') := fun W hW => sAgreed_any _ ss W hW
  have HD : Hid (∀ x W, RdS W (.slice va ss.length vc) ss → Calls Try.prog 9 #[.slice va ss.length vc, .agg #[.int .i64 x.1, .int .i64 x.2]] W fun e w' => e = .returned (.int .i64 (deeA ss x)) ∧ Below W.heap.size W w') := fun x W hW => iDeep_any _ ss x W hW
  obtain ⟨r, hr⟩ : ∃ r, r = agrR ss := ⟨_, rfl⟩
  obtain ⟨n, hn⟩ : ∃ n, n = agrN ss := ⟨_, rfl⟩
  rw [← hr, ← hn] at HI HS
  have HNO : Hid (clmB ss = false → r = ((0, 0), (0, 0)) ∧ n = -1) := by intro h; rw [hr, hn]; exact agr_no h
  have HYES : Hid (clmB ss = true → 1 ≤ n ∧ rng7 r.1 r.2 = true ∧ (∀ v, ok7 v = true → deeA ss v ≤ n ∧ (within7 r.1 r.2 v = true → deeA ss v = n) ∧ (deeA ss v = n → le7 v r.1 = false)) ∧ deeA ss r.1 = n ∧ deeA ss r.2 = n) := by
    intro h
    obtain ⟨e1, e2, e3, e4, e5, e6, e7⟩ := marz (clmB_out h)
    rw [hr, hn, e2]
    exact ⟨e3, e4, e5, e6, e7⟩
  have HHF : Hid (clmB ss = true → ∀ (m d : Fr) (o q : Bool), m = addF r.1 r.2 → o = addG r.1 r.2 → d = (opN (two m.1 m.2 2 1) (m.1 * 1) (m.2 * 2), opD (two m.1 m.2 2 1) (m.1 * 1) (m.2 * 2)) → q = opOk (two m.1 m.2 2 1) (m.1 * 1) (m.2 * 2) → o = true → q = true → deeA ss d = n) := by
    intro h m d o q h1 h2 h3 h4 h5 h6
    have e2 := (marz (clmB_out h)).2.1
    rw [hr, e2] at h1 h2
    rw [hn]
    exact marz_half (clmB_out h) h1 h2 h3 h4 h5 h6
  have okn : (n != n) = false := by simp
  clear hr hn
  obtain ⟨⟨r1, r2⟩, r3, r4⟩ := r
  dsimp only at HI HS HYES HHF
  go_wp2_with fail
  refine (HI.out _ HV.out).mono ?_
  rintro e w2 ⟨rfl, hb⟩
  replace HV := hidH (HV.out.below hb)
  replace HB := hidH (HB.out.trans (hb.mono HB.out.size))
  clear hb
  have hb := b0H w2 (.cells #[.int .i64 r1, .int .i64 r2, .int .i64 r3, .int .i64 r4] 29)
  go_upto_region 5 with fail
  obtain ⟨Y2, hY⟩ : ∃ Y, Y = w2.alloc (.cells #[.int .i64 r1, .int .i64 r2, .int .i64 r3, .int .i64 r4] 29) := ⟨_, rfl⟩
  obtain ⟨B4, hF⟩ : ∃ F, F = w2.heap.size := ⟨_, rfl⟩
  have K4 : Hid (IsB Y2 B4 #[.int .i64 r1, .int .i64 r2, .int .i64 r3, .int .i64 r4] 29) := by show IsB _ _ _ _; rw [hY, hF]; exact IsB.new _ _ _
  rw [← hY] at hb
  rw [← hY, ← hF]
  clear hY hF
  replace HV := hidH (HV.out.below hb)
  replace HB := hidH (HB.out.trans (hb.mono HB.out.size))
  clear hb
  go_wp2_with fail
  refine (dDeep_any a len cap zs _ (HR.out.below HB.out)).mono ?_
  rintro e w3 ⟨u, tt, x1, x2, rfl, hU, _, hb⟩
  replace HV := hidH (HV.out.below hb)
  replace K4 := hidH (K4.out.below hb)
  replace HB := hidH (HB.out.trans (hb.mono HB.out.size))
  clear hb
  have HU := hidH hU
  clear hU
  obtain ⟨ua, uc, hu, _⟩ := HU.out
  subst hu
  have hb := b0H w3 (.cells #[.int .i64 x1, .int .i64 x2] 27)
  go_upto_region 6 with fail
  obtain ⟨Y3, hY⟩ : ∃ Y, Y = w3.alloc (.cells #[.int .i64 x1, .int .i64 x2] 27) := ⟨_, rfl⟩
  obtain ⟨B7, hF⟩ : ∃ F, F = w3.heap.size := ⟨_, rfl⟩
  have K7 : Hid (IsB Y3 B7 #[.int .i64 x1, .int .i64 x2] 27) := by show IsB _ _ _ _; rw [hY, hF]; exact IsB.new _ _ _
  rw [← hY] at hb
  rw [← hY, ← hF]
  clear hY hF
  replace HV := hidH (HV.out.below hb)
  replace K4 := hidH (K4.out.below hb)
  replace HU := hidH (HU.out.below hb)
  replace HB := hidH (HB.out.trans (hb.mono HB.out.size))
  clear hb
  go_wp2_with fail
  refine (HS.out _ HV.out).mono ?_
  rintro e w4 ⟨rfl, hb⟩
  replace HV := hidH (HV.out.below hb)
  replace K4 := hidH (K4.out.below hb)
  replace HU := hidH (HU.out.below hb)
  replace K7 := hidH (K7.out.below hb)
  replace HB := hidH (HB.out.trans (hb.mono HB.out.size))
  clear hb
  have hb := b0H w4 (.cells #[.int .i64 r1, .int .i64 r2, .int .i64 r3, .int .i64 r4] 29)
  go_upto_region 7 with fail
  obtain ⟨Y4, hY⟩ : ∃ Y, Y = w4.alloc (.cells #[.int .i64 r1, .int .i64 r2, .int .i64 r3, .int .i64 r4] 29) := ⟨_, rfl⟩
  obtain ⟨B8, hF⟩ : ∃ F, F = w4.heap.size := ⟨_, rfl⟩
  have K8 : Hid (IsB Y4 B8 #[.int .i64 r1, .int .i64 r2, .int .i64 r3, .int .i64 r4] 29) := by show IsB _ _ _ _; rw [hY, hF]; exact IsB.new _ _ _
  rw [← hY] at hb
  rw [← hY, ← hF]
  clear hY hF
  replace HV := hidH (HV.out.below hb)
  replace K4 := hidH (K4.out.below hb)
  replace HU := hidH (HU.out.below hb)
  replace K7 := hidH (K7.out.below hb)
  replace HB := hidH (HB.out.trans (hb.mono HB.out.size))
  clear hb
  have HI2 := hidH (fun W (hW : RdS W (.slice ua tt.length uc) tt) => iDeep_any _ tt (x1, x2) W hW)
  have HS2 := hidH (fun W (hW : RdS W (.slice ua tt.length uc) tt) => sDeep_any _ tt (x1, x2) W hW)
  obtain ⟨d2, hd2⟩ : ∃ d, d = deeA tt (x1, x2) := ⟨_, rfl⟩
  rw [← hd2] at HI2 HS2
  have okd : (d2 != d2) = false := by simp
  clear hd2
  have hb := (Below.refl Y4.heap.size Y4).drew
  replace HV := hidH (HV.out.below hb)
  replace K4 := hidH (K4.out.below hb)
  replace HU := hidH (HU.out.below hb)
  replace K7 := hidH (K7.out.below hb)
  replace K8 := hidH (K8.out.below hb)
  replace HB := hidH (HB.out.trans (hb.mono HB.out.size))
  clear hb
  refine wp_region_noPanic ?_
  obtain ⟨wd, hwd⟩ : ∃ u, u = Y4.drew := ⟨_, rfl⟩
  rw [← hwd] at HV K4 HU K7 K8 HB
  have c40 := K4.out.cell 0 rfl
  have c41 := K4.out.cell 1 rfl
  have c42 := K4.out.cell 2 rfl
  have c43 := K4.out.cell 3 rfl
  have c80 := K8.out.cell 0 rfl
  have c81 := K8.out.cell 1 rfl
  have c82 := K8.out.cell 2 rfl
  have c83 := K8.out.cell 3 rfl
  have c70 := K7.out.cell 0 rfl
  have c71 := K7.out.cell 1 rfl
  refine wp_region_held_drew (S := (fun w' => w'.cell? ⟨B4, 0, none⟩ = some (.int .i64 r1) ∧ w'.cell? ⟨B4, 1, none⟩ = some (.int .i64 r2) ∧ w'.cell? ⟨B4, 2, none⟩ = some (.int .i64 r3) ∧ w'.cell? ⟨B4, 3, none⟩ = some (.int .i64 r4) ∧ w'.cell? ⟨B8, 0, none⟩ = some (.int .i64 r1) ∧ w'.cell? ⟨B8, 1, none⟩ = some (.int .i64 r2) ∧ w'.cell? ⟨B8, 2, none⟩ = some (.int .i64 r3) ∧ w'.cell? ⟨B8, 3, none⟩ = some (.int .i64 r4) ∧ w'.cell? ⟨B7, 0, none⟩ = some (.int .i64 x1) ∧ w'.cell? ⟨B7, 1, none⟩ = some (.int .i64 x2))) (by kernel_rfl) (by rw [← hwd]; exact ⟨c40, c41, c42, c43, c80, c81, c82, c83, c70, c71⟩) (fun hHeld => ?_)
  rw [← hwd] at hHeld ⊢
  clear hwd
  refine wpAnyH_take (i := 0) (v := ?_) rfl (by kernel_rfl) (by kernel_rfl) (by kernel_rfl) (fun _ _ _ h => h) (Or.inl ⟨by kernel_rfl, ?_⟩) hHeld ?_
  rotate_left
  · intro wz hSw; (try dsimp only at hSw); go_simp; all_goals (try with_reducible rfl)
  (try simp only [List.getElem_toArray]); (try simp only [List.getElem_cons_succ]); (try simp only [List.getElem_cons_zero]); (try simp only [Act.put]); (try simp only [List.setIfInBounds_toArray]); (try simp only [List.set_cons_succ]); (try simp only [List.set_cons_zero])
  refine wpAnyH_take (i := 1) (v := ?_) rfl (by kernel_rfl) (by kernel_rfl) (by kernel_rfl) (fun _ _ _ h => h) (Or.inl ⟨by kernel_rfl, ?_⟩) hHeld ?_
  rotate_left
  · intro wz hSw; (try dsimp only at hSw); go_simp; all_goals (try with_reducible rfl)
  (try simp only [List.getElem_toArray]); (try simp only [List.getElem_cons_succ]); (try simp only [List.getElem_cons_zero]); (try simp only [Act.put]); (try simp only [List.setIfInBounds_toArray]); (try simp only [List.set_cons_succ]); (try simp only [List.set_cons_zero])
  refine wpAnyH_take (i := 2) (v := .bool false) rfl (by kernel_rfl) (by kernel_rfl) (by kernel_rfl) (fun _ _ _ h => h) (Or.inl ⟨by kernel_rfl, ?_⟩) hHeld ?_
  skip
  · intro wz hSw; (try dsimp only at hSw); go_simp; all_goals (try with_reducible rfl)
  (try simp only [List.getElem_toArray]); (try simp only [List.getElem_cons_succ]); (try simp only [List.getElem_cons_zero]); (try simp only [Act.put]); (try simp only [List.setIfInBounds_toArray]); (try simp only [List.set_cons_succ]); (try simp only [List.set_cons_zero])
  refine wpAnyH_take (i := 3) (v := .bool false) rfl (by kernel_rfl) (by kernel_rfl) (by kernel_rfl) (fun _ _ _ h => h) (Or.inl ⟨by kernel_rfl, ?_⟩) hHeld ?_
  skip
  · intro wz hSw; (try dsimp only at hSw); go_simp; all_goals (try with_reducible rfl)
  (try simp only [List.getElem_toArray]); (try simp only [List.getElem_cons_succ]); (try simp only [List.getElem_cons_zero]); (try simp only [Act.put]); (try simp only [List.setIfInBounds_toArray]); (try simp only [List.set_cons_succ]); (try simp only [List.set_cons_zero])
  refine wpAnyH_take (i := 4) (v := ?_) rfl (by kernel_rfl) (by kernel_rfl) (by kernel_rfl) (fun _ _ _ h => h) (Or.inl ⟨by kernel_rfl, ?_⟩) hHeld ?_
  rotate_left
  · intro wz hSw; (try dsimp only at hSw); go_simp; all_goals (try with_reducible rfl)
  (try simp only [List.getElem_toArray]); (try simp only [List.getElem_cons_succ]); (try simp only [List.getElem_cons_zero]); (try simp only [Act.put]); (try simp only [List.setIfInBounds_toArray]); (try simp only [List.set_cons_succ]); (try simp only [List.set_cons_zero])
  refine wpAnyH_take (i := 5) (v := ?_) rfl (by kernel_rfl) (by kernel_rfl) (by kernel_rfl) (fun _ _ _ h => h) (Or.inl ⟨by kernel_rfl, ?_⟩) hHeld ?_
  rotate_left
  · intro wz hSw; (try dsimp only at hSw); go_simp; all_goals (try with_reducible rfl)
  (try simp only [List.getElem_toArray]); (try simp only [List.getElem_cons_succ]); (try simp only [List.getElem_cons_zero]); (try simp only [Act.put]); (try simp only [List.setIfInBounds_toArray]); (try simp only [List.set_cons_succ]); (try simp only [List.set_cons_zero])
  refine wpAnyH_take (i := 6) (v := .bool false) rfl (by kernel_rfl) (by kernel_rfl) (by kernel_rfl) (fun _ _ _ h => h) (Or.inl ⟨by kernel_rfl, ?_⟩) hHeld ?_
  skip
  · intro wz hSw; (try dsimp only at hSw); go_simp; all_goals (try with_reducible rfl)
  (try simp only [List.getElem_toArray]); (try simp only [List.getElem_cons_succ]); (try simp only [List.getElem_cons_zero]); (try simp only [Act.put]); (try simp only [List.setIfInBounds_toArray]); (try simp only [List.set_cons_succ]); (try simp only [List.set_cons_zero])
  refine wpAnyH_take (i := 7) (v := .bool false) rfl (by kernel_rfl) (by kernel_rfl) (by kernel_rfl) (fun _ _ _ h => h) (Or.inl ⟨by kernel_rfl, ?_⟩) hHeld ?_
  skip
  · intro wz hSw; (try dsimp only at hSw); go_simp; all_goals (try with_reducible rfl)
  (try simp only [List.getElem_toArray]); (try simp only [List.getElem_cons_succ]); (try simp only [List.getElem_cons_zero]); (try simp only [Act.put]); (try simp only [List.setIfInBounds_toArray]); (try simp only [List.set_cons_succ]); (try simp only [List.set_cons_zero])
  refine wpAnyH_take (i := 8) (v := .bool false) rfl (by kernel_rfl) (by kernel_rfl) (by kernel_rfl) (fun _ _ _ h => h) (Or.inl ⟨by kernel_rfl, ?_⟩) hHeld ?_
  skip
  · intro wz hSw; (try dsimp only at hSw); go_simp; all_goals (try with_reducible rfl)
  (try simp only [List.getElem_toArray]); (try simp only [List.getElem_cons_succ]); (try simp only [List.getElem_cons_zero]); (try simp only [Act.put]); (try simp only [List.setIfInBounds_toArray]); (try simp only [List.set_cons_succ]); (try simp only [List.set_cons_zero])
  refine wpAnyH_take (i := 9) (v := ?_) rfl (by kernel_rfl) (by kernel_rfl) (by kernel_rfl) (fun _ _ _ h => h) (Or.inl ⟨by kernel_rfl, ?_⟩) hHeld ?_
  rotate_left
  · intro wz hSw; (try dsimp only at hSw); go_simp; all_goals (try with_reducible rfl)
  (try simp only [List.getElem_toArray]); (try simp only [List.getElem_cons_succ]); (try simp only [List.getElem_cons_zero]); (try simp only [Act.put]); (try simp only [List.setIfInBounds_toArray]); (try simp only [List.set_cons_succ]); (try simp only [List.set_cons_zero])
  refine wpAnyH_take (i := 10) (v := ?_) rfl (by kernel_rfl) (by kernel_rfl) (by kernel_rfl) (fun _ _ _ h => h) (Or.inl ⟨by kernel_rfl, ?_⟩) hHeld ?_
  rotate_left
  · intro wz hSw; (try dsimp only at hSw); go_simp; all_goals (try with_reducible rfl)
  (try simp only [List.getElem_toArray]); (try simp only [List.getElem_cons_succ]); (try simp only [List.getElem_cons_zero]); (try simp only [Act.put]); (try simp only [List.setIfInBounds_toArray]); (try simp only [List.set_cons_succ]); (try simp only [List.set_cons_zero])
  refine wpAnyH_take (i := 12) (v := ?_) rfl (by kernel_rfl) (by kernel_rfl) (by kernel_rfl) (fun _ _ _ h => h) (Or.inl ⟨by kernel_rfl, ?_⟩) hHeld ?_
  rotate_left
  · intro wz hSw; (try dsimp only at hSw); go_simp; all_goals (try with_reducible rfl)
  (try simp only [List.getElem_toArray]); (try simp only [List.getElem_cons_succ]); (try simp only [List.getElem_cons_zero]); (try simp only [Act.put]); (try simp only [List.setIfInBounds_toArray]); (try simp only [List.set_cons_succ]); (try simp only [List.set_cons_zero])
  refine wpAnyH_take (i := 13) (v := ?_) rfl (by kernel_rfl) (by kernel_rfl) (by kernel_rfl) (fun _ _ _ h => h) (Or.inl ⟨by kernel_rfl, ?_⟩) hHeld ?_
  rotate_left
  · intro wz hSw; (try dsimp only at hSw); go_simp; all_goals (try with_reducible rfl)
  (try simp only [List.getElem_toArray]); (try simp only [List.getElem_cons_succ]); (try simp only [List.getElem_cons_zero]); (try simp only [Act.put]); (try simp only [List.setIfInBounds_toArray]); (try simp only [List.set_cons_succ]); (try simp only [List.set_cons_zero])
  refine wpAnyH_ready (rs := [11]) (by kernel_rfl) (by simp) (AllReadyH.cons rfl (fun Kc hKc => ?_) AllReadyH.nil)
  go_simp
  (go_at_call 9; refine (HI2.out _ HU.out).mono ?_; rintro e w5 ⟨rfl, hb⟩)
  clear c40 c41 c42 c43 c80 c81 c82 c83 c70 c71
  replace HV := hidH (HV.out.below hb)
  replace K4 := hidH (K4.out.below hb)
  replace HU := hidH (HU.out.below hb)
  replace K7 := hidH (K7.out.below hb)
  replace K8 := hidH (K8.out.below hb)
  replace HB := hidH (HB.out.trans (hb.mono HB.out.size))
  clear hb
  have c40 := K4.out.cell 0 rfl
  have c41 := K4.out.cell 1 rfl
  have c42 := K4.out.cell 2 rfl
  have c43 := K4.out.cell 3 rfl
  have c80 := K8.out.cell 0 rfl
  have c81 := K8.out.cell 1 rfl
  have c82 := K8.out.cell 2 rfl
  have c83 := K8.out.cell 3 rfl
  have c70 := K7.out.cell 0 rfl
  have c71 := K7.out.cell 1 rfl
  go_wp2_with fail
  refine hKc.out _ _ (by exact ⟨c40, c41, c42, c43, c80, c81, c82, c83, c70, c71⟩) (fun hHeld => ?_)
  clear hKc Kc
  (try simp only [List.getElem_toArray]); (try simp only [List.getElem_cons_succ]); (try simp only [List.getElem_cons_zero]); (try simp only [Act.put]); (try simp only [List.setIfInBounds_toArray]); (try simp only [List.set_cons_succ]); (try simp only [List.set_cons_zero])
  refine wpAnyH_ready (rs := [14]) (by kernel_rfl) (by simp) (AllReadyH.cons rfl (fun Kc hKc => ?_) AllReadyH.nil)
  go_simp
  (go_at_call 10; refine (HS2.out _ HU.out).mono ?_; rintro e w6 ⟨rfl, hb⟩)
  clear c40 c41 c42 c43 c80 c81 c82 c83 c70 c71
  replace HV := hidH (HV.out.below hb)
  replace K4 := hidH (K4.out.below hb)
  replace HU := hidH (HU.out.below hb)
  replace K7 := hidH (K7.out.below hb)
  replace K8 := hidH (K8.out.below hb)
  replace HB := hidH (HB.out.trans (hb.mono HB.out.size))
  clear hb
  have c40 := K4.out.cell 0 rfl
  have c41 := K4.out.cell 1 rfl
  have c42 := K4.out.cell 2 rfl
  have c43 := K4.out.cell 3 rfl
  have c80 := K8.out.cell 0 rfl
  have c81 := K8.out.cell 1 rfl
  have c82 := K8.out.cell 2 rfl
  have c83 := K8.out.cell 3 rfl
  have c70 := K7.out.cell 0 rfl
  have c71 := K7.out.cell 1 rfl
  go_wp2_with fail
  refine hKc.out _ _ (by exact ⟨c40, c41, c42, c43, c80, c81, c82, c83, c70, c71⟩) (fun hHeld => ?_)
  clear hKc Kc
  (try simp only [List.getElem_toArray]); (try simp only [List.getElem_cons_succ]); (try simp only [List.getElem_cons_zero]); (try simp only [Act.put]); (try simp only [List.setIfInBounds_toArray]); (try simp only [List.set_cons_succ]); (try simp only [List.set_cons_zero])
  refine wpAnyH_take (i := 15) (v := .bool false) rfl (by kernel_rfl) (by kernel_rfl) (by kernel_rfl) (fun _ _ _ h => h) (Or.inl ⟨by kernel_rfl, ?_⟩) hHeld ?_
  skip
  · intro wz hSw; (try dsimp only at hSw); go_simp; all_goals (try with_reducible rfl)
  (try simp only [List.getElem_toArray]); (try simp only [List.getElem_cons_succ]); (try simp only [List.getElem_cons_zero]); (try simp only [Act.put]); (try simp only [List.setIfInBounds_toArray]); (try simp only [List.set_cons_succ]); (try simp only [List.set_cons_zero])
  refine wpAnyH_take (i := 16) (v := .bool false) rfl (by kernel_rfl) (by kernel_rfl) (by kernel_rfl) (fun _ _ _ h => h) (Or.inl ⟨by kernel_rfl, ?_⟩) hHeld ?_
  skip
  · intro wz hSw; (try dsimp only at hSw); go_simp; all_goals (try with_reducible rfl)
  (try simp only [List.getElem_toArray]); (try simp only [List.getElem_cons_succ]); (try simp only [List.getElem_cons_zero]); (try simp only [Act.put]); (try simp only [List.setIfInBounds_toArray]); (try simp only [List.set_cons_succ]); (try simp only [List.set_cons_zero])
  refine wpAnyH_done (by kernel_rfl) ?_ _
  refine NoPanic.normal ?_
  clear c40 c41 c42 c43 c80 c81 c82 c83 c70 c71
  clear K7 K8 HU HI2 HS2 okd hHeld HI HS
  obtain ⟨z, hz⟩ : ∃ z, z = clmB ss := ⟨_, rfl⟩
  cases z
  · obtain ⟨e1, e2⟩ := HNO.out hz.symm
    cases e1
    subst e2
    have c0 := K4.out.cell 0 rfl
    have c1 := K4.out.cell 1 rfl
    have c2 := K4.out.cell 2 rfl
    have c3 := K4.out.cell 3 rfl
    have heqz : ∀ W : World, (binOp .eql 29 (.agg #[.int .i64 0, .int .i64 0, .int .i64 0, .int .i64 0]) (.agg #[.int .i64 0, .int .i64 0, .int .i64 0, .int .i64 0])).run Try.prog W = .ok (.bool true) W := fun _ => by kernel_rfl
    go_wp2
    go_ret
    exact ⟨rfl, HB.out⟩
  obtain ⟨n1, hrn, hall, hlo, hhi⟩ := HYES.out hz.symm
  have HCP := hidH (clmB_out hz.symm)
  have HHL := hidH (HHF.out hz.symm)
  have HALL := hidH hall
  have HLO := hidH (HD.out (r1, r2))
  have HHI := hidH (HD.out (r3, r4))
  rw [hlo] at HLO
  rw [hhi] at HHI
  have HRN := hidH (fun W => iRng_any r1 r2 r3 r4 W)
  rw [hrn] at HRN
  have n0 : ¬ n < 0 := by omega
  have n1' : ¬ n < 1 := by omega
  clear hlo hhi hrn hall hz HNO HYES HHF
  have c0 := K4.out.cell 0 rfl
  have c1 := K4.out.cell 1 rfl
  have c2 := K4.out.cell 2 rfl
  have c3 := K4.out.cell 3 rfl
  go_wp2_with fail
  refine (HLO.out _ HV.out).mono ?_
  rintro e w7 ⟨rfl, hb⟩
  replace HV := hidH (HV.out.below hb)
  replace K4 := hidH (K4.out.below hb)
  replace HB := hidH (HB.out.trans (hb.mono HB.out.size))
  clear hb
  clear c0 c1 c2 c3
  have c0 := K4.out.cell 0 rfl
  have c1 := K4.out.cell 1 rfl
  have c2 := K4.out.cell 2 rfl
  have c3 := K4.out.cell 3 rfl
  go_wp2_with fail
  refine (HHI.out _ HV.out).mono ?_
  rintro e w8 ⟨rfl, hb⟩
  replace HV := hidH (HV.out.below hb)
  replace K4 := hidH (K4.out.below hb)
  replace HB := hidH (HB.out.trans (hb.mono HB.out.size))
  clear hb
  clear c0 c1 c2 c3
  have c0 := K4.out.cell 0 rfl
  have c1 := K4.out.cell 1 rfl
  have c2 := K4.out.cell 2 rfl
  have c3 := K4.out.cell 3 rfl
  go_wp2_with fail
  refine (HRN.out _).mono ?_
  rintro e w9 ⟨rfl, hb⟩
  replace HV := hidH (HV.out.below hb)
  replace K4 := hidH (K4.out.below hb)
  replace HB := hidH (HB.out.trans (hb.mono HB.out.size))
  clear hb
  clear c0 c1 c2 c3
  go_wp2
  go_loopw [10] (fun i wr => ∃ k : Nat, k ≤ 12 ∧ i = .int .i64 k ∧ Hid (RdS wr (.slice va ss.length vc) ss) ∧ Hid (IsB wr B4 #[.int .i64 r1, .int .i64 r2, .int .i64 r3, .int .i64 r4] 29) ∧ Hid (Below w.heap.size w wr)) (fun i _ => 12 - (intOf i).toNat)
  case atStart => exact ⟨0, by omega, rfl, HV.out, K4.out, HB.out⟩
  case round =>
    clear HV K4 HB
    obtain ⟨k, hk, rfl, HV, K4, HB⟩ := hrel
    by_cases hlt : k < 12
    · have hk12 : (k : Int) < 12 := by omega
      go_wp2_with fail
      refine (part_any a len cap zs (10 + (k : Int)) _ (HR.out.below HB.out) HLEN.out (by omega) (by omega)).mono ?_
      rintro e w10 ⟨pn, pd, rfl, hok, _, _, _, _, hb⟩
      replace HV := hidH (HV.out.below hb)
      replace K4 := hidH (K4.out.below hb)
      replace HB := hidH (HB.out.trans (hb.mono HB.out.size))
      clear hb
      have HWB0 : Hid (w.heap.size ≤ w10.heap.size) := HB.out.size
      have HNE0 : Hid (B4 < w10.heap.size) := K4.out.lt
      have HVB0 := hidH (rdS_ne HV.out)
      have hb := b0H w10 (.cells #[.int .i64 pn, .int .i64 pd] 27)
      go_upto_region 17 with fail
      obtain ⟨Y10, hY⟩ : ∃ Y, Y = w10.alloc (.cells #[.int .i64 pn, .int .i64 pd] 27) := ⟨_, rfl⟩
      obtain ⟨B11, hF⟩ : ∃ F, F = w10.heap.size := ⟨_, rfl⟩
      have hF0 := hF.symm
      have K11 : Hid (IsB Y10 B11 #[.int .i64 pn, .int .i64 pd] 27) := by show IsB _ _ _ _; rw [hY, hF]; exact IsB.new _ _ _
      rw [← hY] at hb
      rw [← hY, ← hF]
      rw [hF0] at HWB0 HNE0 HVB0
      have HNE : Hid (B4 ≠ B11) := by show _ ≠ _; have := HNE0.out; omega
      have HVB := HVB0
      clear HNE0 HVB0
      clear hY hF
      replace HV := hidH (HV.out.below hb)
      replace K4 := hidH (K4.out.below hb)
      replace HB := hidH (HB.out.trans (hb.mono HB.out.size))
      clear hb
      have HWB : Hid (w.heap.size ≤ B11) := by show _ ≤ _; exact HWB0.out
      by_cases hlv : k < ss.length
      ·
        have hlvI : (k : Int) < (ss.length : Int) := by omega
        obtain ⟨vb, voff, hva, e1, e2, e3, e4⟩ : ∃ b off, va = some ⟨b, off, none⟩ ∧ Y10.cell? ⟨b, off + k * 4, none⟩ = some (.int .i64 (sp ss k).1.1) ∧ Y10.cell? ⟨b, off + k * 4 + 1, none⟩ = some (.int .i64 (sp ss k).1.2) ∧ Y10.cell? ⟨b, off + k * 4 + 2, none⟩ = some (.int .i64 (sp ss k).2.1) ∧ Y10.cell? ⟨b, off + k * 4 + 3, none⟩ = some (.int .i64 (sp ss k).2.2) := by
          obtain ⟨a', c', he, _, _, _, h5⟩ := HV.out
          injection he with h1 _ _
          rw [h1]
          exact h5 k hlv
        subst hva
        have hxok := okHigh HCP.out hlv
        obtain ⟨x, hx⟩ : ∃ x, x = (sp ss k).2 := ⟨_, rfl⟩
        rw [← hx] at e3 e4 hxok
        clear hx e1 e2
        obtain ⟨x1, x2⟩ := x
        dsimp only at e3 e4
        have f0 := K11.out.frozen 0
        have f1 := K11.out.frozen 1
        have g0 := K11.out.cell 0 rfl
        have g1 := K11.out.cell 1 rfl
        go_upto_region 19 with fail
        obtain ⟨Y11, hY⟩ : ∃ Y, Y = (Y10.setCell ⟨B11, 0, none⟩ (.int .i64 x1)).setCell ⟨B11, 1, none⟩ (.int .i64 x2) := ⟨_, rfl⟩
        have hB4 : B4 ≠ B11 := HNE.out
        replace K11 : Hid (IsB Y11 B11 #[.int .i64 x1, .int .i64 x2] 27) := by show IsB _ _ _ _; rw [hY]; exact (K11.out.set 0 _).set 1 _
        replace K4 : Hid (IsB Y11 B4 #[.int .i64 r1, .int .i64 r2, .int .i64 r3, .int .i64 r4] 29) := by show IsB _ _ _ _; rw [hY]; exact (K4.out.other hB4 0 _).other hB4 1 _
        replace HV : Hid (RdS Y11 (.slice (some ⟨vb, voff, none⟩) ss.length vc) ss) := by show RdS _ _ _; rw [hY]; exact rdS_st (rdS_st HV.out HVB.out 0 _) HVB.out 1 _
        replace HB : Hid (Below w.heap.size w Y11) := by show Below _ _ _; rw [hY]; exact (HB.out.setCell (p := ⟨B11, 0, none⟩) HWB.out _).setCell (p := ⟨B11, 1, none⟩) HWB.out _
        rw [← hY]
        clear hY e3 e4 f0 f1 g0 g1
        obtain ⟨hdn, hwn, hln⟩ := HALL.out (x1, x2) hxok
        have HDX := hidH (HD.out (x1, x2))
        have HWX := hidH (fun W => iWithin_any r1 r2 r3 r4 x1 x2 W)
        have HLX := hidH (fun W => iLess_any x1 x2 r1 r2 W)
        obtain ⟨dd, hdd⟩ : ∃ d, d = deeA ss (x1, x2) := ⟨_, rfl⟩
        obtain ⟨wv, hwv⟩ : ∃ d, d = within7 (r1, r2) (r3, r4) (x1, x2) := ⟨_, rfl⟩
        obtain ⟨lv, hlv⟩ : ∃ d, d = lessB x1 x2 r1 r2 := ⟨_, rfl⟩
        rw [← hdd] at HDX hdn hwn hln
        rw [← hwv] at HWX hwn
        rw [← hlv] at HLX
        have hln' : dd = n → lv = false := fun h => by rw [hlv]; exact hln h
        have c0 := K11.out.cell 0 rfl
        have c1 := K11.out.cell 1 rfl
        clear hdd hwv hlv hln hxok
        go_wp2_with fail
        refine (HDX.out _ HV.out).mono ?_
        rintro e w11 ⟨rfl, hb⟩
        replace HV := hidH (HV.out.below hb)
        replace K4 := hidH (K4.out.below hb)
        replace K11 := hidH (K11.out.below hb)
        replace HB := hidH (HB.out.trans (hb.mono HB.out.size))
        clear hb
        clear c0 c1
        have c0 := K4.out.cell 0 rfl
        have c1 := K4.out.cell 1 rfl
        have c2 := K4.out.cell 2 rfl
        have c3 := K4.out.cell 3 rfl
        have c4 := K11.out.cell 0 rfl
        have c5 := K11.out.cell 1 rfl
        have hnd : ¬ n < dd := by omega
        by_cases hde : dd = n
        ·
          have hlf := hln' hde
          subst hlf
          clear hln' hwn
          subst hde
          go_wp2_with fail
          refine (HWX.out _).mono ?_
          rintro e w12 ⟨rfl, hb⟩
          clear c0 c1 c2 c3 c4 c5
          replace HV := hidH (HV.out.below hb)
          replace K4 := hidH (K4.out.below hb)
          replace K11 := hidH (K11.out.below hb)
          replace HB := hidH (HB.out.trans (hb.mono HB.out.size))
          clear hb
          cases wv
          · have c0 := K4.out.cell 0 rfl
            have c1 := K4.out.cell 1 rfl
            have c4 := K11.out.cell 0 rfl
            have c5 := K11.out.cell 1 rfl
            go_wp2_with fail
            refine (HLX.out _).mono ?_
            rintro e w13 ⟨rfl, hb⟩
            clear c0 c1 c4 c5
            replace HV := hidH (HV.out.below hb)
            replace K4 := hidH (K4.out.below hb)
            replace K11 := hidH (K11.out.below hb)
            replace HB := hidH (HB.out.trans (hb.mono HB.out.size))
            clear hb
            go_wp2
            go_roundw
            case rel => exact ⟨k + 1, by omega, by go_num, HV.out, K4.out, HB.out⟩
            case measure => simp [intOf]; omega
          · have c0 := K4.out.cell 0 rfl
            have c1 := K4.out.cell 1 rfl
            have c4 := K11.out.cell 0 rfl
            have c5 := K11.out.cell 1 rfl
            go_wp2_with fail
            refine (HLX.out _).mono ?_
            rintro e w13 ⟨rfl, hb⟩
            clear c0 c1 c4 c5
            replace HV := hidH (HV.out.below hb)
            replace K4 := hidH (K4.out.below hb)
            replace K11 := hidH (K11.out.below hb)
            replace HB := hidH (HB.out.trans (hb.mono HB.out.size))
            clear hb
            go_wp2
            go_roundw
            case rel => exact ⟨k + 1, by omega, by go_num, HV.out, K4.out, HB.out⟩
            case measure => simp [intOf]; omega
        ·
          go_wp2_with fail
          refine (HWX.out _).mono ?_
          rintro e w12 ⟨rfl, hb⟩
          clear c0 c1 c2 c3 c4 c5
          replace HV := hidH (HV.out.below hb)
          replace K4 := hidH (K4.out.below hb)
          replace K11 := hidH (K11.out.below hb)
          replace HB := hidH (HB.out.trans (hb.mono HB.out.size))
          clear hb
          have hwf : wv = false := by
            cases hq : wv
            · rfl
            · exact absurd (hwn hq) hde
          subst hwf
          have hbe : (dd == n) = false := by simpa using hde
          go_wp2
          go_roundw
          case rel => exact ⟨k + 1, by omega, by go_num, HV.out, K4.out, HB.out⟩
          case measure => simp [intOf]; omega
      ·
        have hlvI : ¬ (k : Int) < (ss.length : Int) := by omega
        have hxok : ok7 (pn, pd) = true := hok
        obtain ⟨hdn, hwn, hln⟩ := HALL.out (pn, pd) hxok
        have HDX := hidH (HD.out (pn, pd))
        have HWX := hidH (fun W => iWithin_any r1 r2 r3 r4 pn pd W)
        have HLX := hidH (fun W => iLess_any pn pd r1 r2 W)
        obtain ⟨dd, hdd⟩ : ∃ d, d = deeA ss (pn, pd) := ⟨_, rfl⟩
        obtain ⟨wv, hwv⟩ : ∃ d, d = within7 (r1, r2) (r3, r4) (pn, pd) := ⟨_, rfl⟩
        obtain ⟨lv, hlv⟩ : ∃ d, d = lessB pn pd r1 r2 := ⟨_, rfl⟩
        rw [← hdd] at HDX hdn hwn hln
        rw [← hwv] at HWX hwn
        rw [← hlv] at HLX
        have hln' : dd = n → lv = false := fun h => by rw [hlv]; exact hln h
        have c0 := K11.out.cell 0 rfl
        have c1 := K11.out.cell 1 rfl
        clear hdd hwv hlv hln hxok
        go_wp2_with fail
        refine (HDX.out _ HV.out).mono ?_
        rintro e w11 ⟨rfl, hb⟩
        replace HV := hidH (HV.out.below hb)
        replace K4 := hidH (K4.out.below hb)
        replace K11 := hidH (K11.out.below hb)
        replace HB := hidH (HB.out.trans (hb.mono HB.out.size))
        clear hb
        clear c0 c1
        have c0 := K4.out.cell 0 rfl
        have c1 := K4.out.cell 1 rfl
        have c2 := K4.out.cell 2 rfl
        have c3 := K4.out.cell 3 rfl
        have c4 := K11.out.cell 0 rfl
        have c5 := K11.out.cell 1 rfl
        have hnd : ¬ n < dd := by omega
        by_cases hde : dd = n
        ·
          have hlf := hln' hde
          subst hlf
          clear hln' hwn
          subst hde
          go_wp2_with fail
          refine (HWX.out _).mono ?_
          rintro e w12 ⟨rfl, hb⟩
          clear c0 c1 c2 c3 c4 c5
          replace HV := hidH (HV.out.below hb)
          replace K4 := hidH (K4.out.below hb)
          replace K11 := hidH (K11.out.below hb)
          replace HB := hidH (HB.out.trans (hb.mono HB.out.size))
          clear hb
          cases wv
          · have c0 := K4.out.cell 0 rfl
            have c1 := K4.out.cell 1 rfl
            have c4 := K11.out.cell 0 rfl
            have c5 := K11.out.cell 1 rfl
            go_wp2_with fail
            refine (HLX.out _).mono ?_
            rintro e w13 ⟨rfl, hb⟩
            clear c0 c1 c4 c5
            replace HV := hidH (HV.out.below hb)
            replace K4 := hidH (K4.out.below hb)
            replace K11 := hidH (K11.out.below hb)
            replace HB := hidH (HB.out.trans (hb.mono HB.out.size))
            clear hb
            go_wp2
            go_roundw
            case rel => exact ⟨k + 1, by omega, by go_num, HV.out, K4.out, HB.out⟩
            case measure => simp [intOf]; omega
          · have c0 := K4.out.cell 0 rfl
            have c1 := K4.out.cell 1 rfl
            have c4 := K11.out.cell 0 rfl
            have c5 := K11.out.cell 1 rfl
            go_wp2_with fail
            refine (HLX.out _).mono ?_
            rintro e w13 ⟨rfl, hb⟩
            clear c0 c1 c4 c5
            replace HV := hidH (HV.out.below hb)
            replace K4 := hidH (K4.out.below hb)
            replace K11 := hidH (K11.out.below hb)
            replace HB := hidH (HB.out.trans (hb.mono HB.out.size))
            clear hb
            go_wp2
            go_roundw
            case rel => exact ⟨k + 1, by omega, by go_num, HV.out, K4.out, HB.out⟩
            case measure => simp [intOf]; omega
        ·
          go_wp2_with fail
          refine (HWX.out _).mono ?_
          rintro e w12 ⟨rfl, hb⟩
          clear c0 c1 c2 c3 c4 c5
          replace HV := hidH (HV.out.below hb)
          replace K4 := hidH (K4.out.below hb)
          replace K11 := hidH (K11.out.below hb)
          replace HB := hidH (HB.out.trans (hb.mono HB.out.size))
          clear hb
          have hwf : wv = false := by
            cases hq : wv
            · rfl
            · exact absurd (hwn hq) hde
          subst hwf
          have hbe : (dd == n) = false := by simpa using hde
          go_wp2
          go_roundw
          case rel => exact ⟨k + 1, by omega, by go_num, HV.out, K4.out, HB.out⟩
          case measure => simp [intOf]; omega
    · obtain rfl : k = 12 := by omega
      obtain ⟨m, hm⟩ : ∃ m, m = addF (r1, r2) (r3, r4) := ⟨_, rfl⟩
      obtain ⟨o, ho⟩ : ∃ m, m = addG (r1, r2) (r3, r4) := ⟨_, rfl⟩
      have HAD : Hid (∀ W, Calls Try.prog 15 #[.agg #[.int .i64 r1, .int .i64 r2], .agg #[.int .i64 r3, .int .i64 r4]] W fun e w' => e = .returned (.tuple #[.agg #[.int .i64 m.1, .int .i64 m.2], .bool o]) ∧ Below W.heap.size W w') := by
        intro W; rw [hm, ho]; exact sAdd_any r1 r2 r3 r4 W
      obtain ⟨d, hd⟩ : ∃ d, d = (opN (two m.1 m.2 2 1) (m.1 * 1) (m.2 * 2), opD (two m.1 m.2 2 1) (m.1 * 1) (m.2 * 2)) := ⟨_, rfl⟩
      obtain ⟨y, hy⟩ : ∃ d, d = opOk (two m.1 m.2 2 1) (m.1 * 1) (m.2 * 2) := ⟨_, rfl⟩
      have HDV : Hid (∀ W, Calls Try.prog 16 #[.agg #[.int .i64 m.1, .int .i64 m.2], .agg #[.int .i64 2, .int .i64 1]] W fun e w' => e = .returned (.tuple #[.agg #[.int .i64 d.1, .int .i64 d.2], .bool y]) ∧ Below W.heap.size W w') := by
        intro W; rw [hd, hy]; exact sDiv_any m.1 m.2 2 1 W
      have HFIN := hidH (HHL.out m d o y hm ho hd hy)
      have HDD := hidH (HD.out d)
      clear hm ho hd hy
      obtain ⟨m1, m2⟩ := m
      obtain ⟨d1, d2⟩ := d
      dsimp only at HAD HDV HDD
      have c0 := K4.out.cell 0 rfl
      have c1 := K4.out.cell 1 rfl
      have c2 := K4.out.cell 2 rfl
      have c3 := K4.out.cell 3 rfl
      go_wp2_with fail
      refine (HAD.out _).mono ?_
      rintro e w20 ⟨rfl, hb⟩
      clear c0 c1 c2 c3
      replace HV := hidH (HV.out.below hb)
      replace K4 := hidH (K4.out.below hb)
      replace HB := hidH (HB.out.trans (hb.mono HB.out.size))
      clear hb
      have hb := b0H w20 (.cells #[.int .i64 m1, .int .i64 m2] 27)
      go_upto_region 23 with fail
      obtain ⟨Y20, hY⟩ : ∃ Y, Y = w20.alloc (.cells #[.int .i64 m1, .int .i64 m2] 27) := ⟨_, rfl⟩
      obtain ⟨B13, hF⟩ : ∃ F, F = w20.heap.size := ⟨_, rfl⟩
      have K13 : Hid (IsB Y20 B13 #[.int .i64 m1, .int .i64 m2] 27) := by show IsB _ _ _ _; rw [hY, hF]; exact IsB.new _ _ _
      rw [← hY] at hb
      rw [← hY, ← hF]
      clear hY hF
      replace HV := hidH (HV.out.below hb)
      replace K4 := hidH (K4.out.below hb)
      replace HB := hidH (HB.out.trans (hb.mono HB.out.size))
      clear hb
      clear K4 HAD
      go_cut [15, 16] (fun s15 s16 wx => ∃ T : Nat, s15 = .pointer (some ⟨T, 0, none⟩) ∧ s16 = .bool y ∧ Hid (IsB wx T #[.int .i64 d1, .int .i64 d2] 27) ∧ Hid (RdS wx (.slice va ss.length vc) ss) ∧ Hid (Below w.heap.size w wx))
      case first =>
        have c0 := K13.out.cell 0 rfl
        have c1 := K13.out.cell 1 rfl
        have hb := (Below.refl Y20.heap.size Y20).drew
        refine wp_region_noPanic ?_
        refine wp_region_held_drew (S := (fun w' => w'.cell? ⟨B13, 0, none⟩ = some (.int .i64 m1) ∧ w'.cell? ⟨B13, 1, none⟩ = some (.int .i64 m2))) (by kernel_rfl) ?_ (fun hHeld => ?_)
        · (try dsimp only)
          exact ⟨cell_dr c0, cell_dr c1⟩
        replace c0 := cell_dr c0
        replace c1 := cell_dr c1
        replace HV := hidH (HV.out.below hb)
        replace HB := hidH (HB.out.trans (hb.mono HB.out.size))
        clear hb
        clear K13
        obtain ⟨wd2, hwd⟩ : ∃ u, u = Y20.drew := ⟨_, rfl⟩
        rw [← hwd] at HV HB c0 c1 hHeld ⊢
        clear hwd
        refine wpAnyH_take (i := 0) (v := ?_) rfl (by kernel_rfl) (by kernel_rfl) (by kernel_rfl) (fun _ _ _ h => h) (Or.inl ⟨by kernel_rfl, ?_⟩) hHeld ?_
        rotate_left
        · intro wz hSw; (try dsimp only at hSw); go_simp; all_goals (try with_reducible rfl)
        (try simp only [List.getElem_toArray]); (try simp only [List.getElem_cons_succ]); (try simp only [List.getElem_cons_zero]); (try simp only [Act.put]); (try simp only [List.setIfInBounds_toArray]); (try simp only [List.set_cons_succ]); (try simp only [List.set_cons_zero])
        refine wpAnyH_ready (rs := [1, 6]) (by kernel_rfl) (by simp) (AllReadyH.cons rfl (fun Kc hKc => ?_) (AllReadyH.cons rfl (fun Kc hKc => ?_) AllReadyH.nil))
        ·
          go_simp
          (go_at_call 17; refine (whole_any 2 _).mono ?_; rintro e q1 ⟨rfl, hw⟩)
          have hb : Below wd2.heap.size wd2 q1 := by rw [hw]; exact b0H _ _
          clear hw
          replace c0 := cell_keep hb c0
          replace c1 := cell_keep hb c1
          replace HV := hidH (HV.out.below hb)
          replace HB := hidH (HB.out.trans (hb.mono HB.out.size))
          clear hb
          go_wp2_with fail
          refine hKc.out _ _ ⟨c0, c1⟩ (fun hHeld => ?_)
          clear hKc Kc
          (try simp only [List.getElem_toArray]); (try simp only [List.getElem_cons_succ]); (try simp only [List.getElem_cons_zero]); (try simp only [Act.put]); (try simp only [List.setIfInBounds_toArray]); (try simp only [List.set_cons_succ]); (try simp only [List.set_cons_zero])
          refine wpAnyH_ready (rs := [2, 6]) (by kernel_rfl) (by simp) (AllReadyH.cons rfl (fun Kc hKc => ?_) (AllReadyH.cons rfl (fun Kc hKc => ?_) AllReadyH.nil))
          ·
            go_simp
            (go_at_call 16; refine (HDV.out _).mono ?_; rintro e q2 ⟨rfl, hb⟩)
            replace c0 := cell_keep hb c0
            replace c1 := cell_keep hb c1
            replace HV := hidH (HV.out.below hb)
            replace HB := hidH (HB.out.trans (hb.mono HB.out.size))
            clear hb
            go_wp2_with fail
            refine hKc.out _ _ ⟨c0, c1⟩ (fun hHeld => ?_)
            clear hKc Kc
            (try simp only [List.getElem_toArray]); (try simp only [List.getElem_cons_succ]); (try simp only [List.getElem_cons_zero]); (try simp only [Act.put]); (try simp only [List.setIfInBounds_toArray]); (try simp only [List.set_cons_succ]); (try simp only [List.set_cons_zero])
            refine wpAnyH_take (i := 3) (v := ?_) rfl (by kernel_rfl) (by kernel_rfl) (by kernel_rfl) (fun _ _ _ h => h) (Or.inl ⟨by kernel_rfl, ?_⟩) hHeld ?_
            rotate_left
            · intro wz hSw; (try dsimp only at hSw); go_simp; all_goals (try with_reducible rfl)
            (try simp only [List.getElem_toArray]); (try simp only [List.getElem_cons_succ]); (try simp only [List.getElem_cons_zero]); (try simp only [Act.put]); (try simp only [List.setIfInBounds_toArray]); (try simp only [List.set_cons_succ]); (try simp only [List.set_cons_zero])
            refine wpAnyH_take (i := 4) (v := ?_) rfl (by kernel_rfl) (by kernel_rfl) (by kernel_rfl) (fun _ _ _ h => h) (Or.inl ⟨by kernel_rfl, ?_⟩) hHeld ?_
            rotate_left
            · intro wz hSw; (try dsimp only at hSw); go_simp; all_goals (try with_reducible rfl)
            (try simp only [List.getElem_toArray]); (try simp only [List.getElem_cons_succ]); (try simp only [List.getElem_cons_zero]); (try simp only [Act.put]); (try simp only [List.setIfInBounds_toArray]); (try simp only [List.set_cons_succ]); (try simp only [List.set_cons_zero])
            refine wpAnyH_take (i := 5) (v := ?_) rfl (by kernel_rfl) (by kernel_rfl) (by kernel_rfl) (fun _ _ _ h => h) (Or.inl ⟨by kernel_rfl, ?_⟩) hHeld ?_
            rotate_left
            · intro wz hSw; (try dsimp only at hSw); go_simp; all_goals (try with_reducible rfl)
            (try simp only [List.getElem_toArray]); (try simp only [List.getElem_cons_succ]); (try simp only [List.getElem_cons_zero]); (try simp only [Act.put]); (try simp only [List.setIfInBounds_toArray]); (try simp only [List.set_cons_succ]); (try simp only [List.set_cons_zero])
            refine wpAnyH_ready (rs := [6]) (by kernel_rfl) (by simp) (AllReadyH.cons rfl (fun Kc hKc => ?_) AllReadyH.nil)
            go_simp
            obtain ⟨Ab, hA'⟩ : ∃ A, A = q2.heap.size := ⟨_, rfl⟩
            obtain ⟨q3, hu⟩ : ∃ u, u = q2.alloc (.cells #[.int .i64 0, .int .i64 0] 27) := ⟨_, rfl⟩
            have hb : Below q2.heap.size q2 q3 := by rw [hu]; exact b0H _ _
            have KA : Hid (IsB q3 Ab #[.int .i64 0, .int .i64 0] 27) := by show IsB _ _ _ _; rw [hu, hA']; exact IsB.new _ _ _
            have hAw : w.heap.size ≤ Ab := by rw [hA']; exact HB.out.size
            have hAB : B13 ≠ Ab := by have := World.block_lt_of_cell? q2 _ c0; dsimp only at this; omega
            have hVA : Hid (∀ b off c n, (Value.slice va ss.length vc) = .slice (some ⟨b, off, none⟩) n c → 0 < n → b ≠ Ab) := by rw [hA']; exact rdS_ne HV.out
            rw [← hu, ← hA']
            replace c0 := cell_keep hb c0
            replace c1 := cell_keep hb c1
            replace HV := hidH (HV.out.below hb)
            replace HB := hidH (HB.out.trans (hb.mono HB.out.size))
            clear hb
            clear hu hA'
            refine hKc.out _ _ ⟨c0, c1⟩ (fun hHeld => ?_)
            clear hKc Kc
            (try simp only [List.getElem_toArray]); (try simp only [List.getElem_cons_succ]); (try simp only [List.getElem_cons_zero]); (try simp only [Act.put]); (try simp only [List.setIfInBounds_toArray]); (try simp only [List.set_cons_succ]); (try simp only [List.set_cons_zero])
            have f0 := KA.out.frozen 0
            have f1 := KA.out.frozen 1
            have g0 := KA.out.cell 0 rfl
            have g1 := KA.out.cell 1 rfl
            refine wpAnyH_ready (rs := [7]) (by kernel_rfl) (by simp) (AllReadyH.cons rfl (fun Kc hKc => ?_) AllReadyH.nil)
            go_simp
            replace c0 := cell_stb (cell_stb c0 hAB (q := 0) (u := .int .i64 d1)) hAB (q := 1) (u := .int .i64 d2)
            replace c1 := cell_stb (cell_stb c1 hAB (q := 0) (u := .int .i64 d1)) hAB (q := 1) (u := .int .i64 d2)
            refine hKc.out _ _ ⟨c0, c1⟩ (fun hHeld => ?_)
            clear hKc Kc
            (try simp only [List.getElem_toArray]); (try simp only [List.getElem_cons_succ]); (try simp only [List.getElem_cons_zero]); (try simp only [Act.put]); (try simp only [List.setIfInBounds_toArray]); (try simp only [List.set_cons_succ]); (try simp only [List.set_cons_zero])
            refine wpAnyH_take (i := 8) (v := ?_) rfl (by kernel_rfl) (by kernel_rfl) (by kernel_rfl) (fun _ _ _ h => h) (Or.inl ⟨by kernel_rfl, ?_⟩) hHeld ?_
            rotate_left
            · intro wz hSw; (try dsimp only at hSw); go_simp; all_goals (try with_reducible rfl)
            (try simp only [List.getElem_toArray]); (try simp only [List.getElem_cons_succ]); (try simp only [List.getElem_cons_zero]); (try simp only [Act.put]); (try simp only [List.setIfInBounds_toArray]); (try simp only [List.set_cons_succ]); (try simp only [List.set_cons_zero])
            refine wpAnyH_done (by kernel_rfl) ?_ _
            refine NoPanic.normal ?_
            go_wp2_with fail
            go_meet
            case rel => exact ⟨Ab, rfl, rfl, (KA.out.set 0 _).set 1 _, rdS_st (rdS_st HV.out hVA.out 0 _) hVA.out 1 _, (HB.out.setCell (p := ⟨Ab, 0, none⟩) hAw _).setCell (p := ⟨Ab, 1, none⟩) hAw _⟩
          ·
            go_simp
            obtain ⟨Ab, hA'⟩ : ∃ A, A = q1.heap.size := ⟨_, rfl⟩
            obtain ⟨q4, hu⟩ : ∃ u, u = q1.alloc (.cells #[.int .i64 0, .int .i64 0] 27) := ⟨_, rfl⟩
            have hb : Below q1.heap.size q1 q4 := by rw [hu]; exact b0H _ _
            have KA : Hid (IsB q4 Ab #[.int .i64 0, .int .i64 0] 27) := by show IsB _ _ _ _; rw [hu, hA']; exact IsB.new _ _ _
            have hAw : w.heap.size ≤ Ab := by rw [hA']; exact HB.out.size
            have hAB : B13 ≠ Ab := by have := World.block_lt_of_cell? q1 _ c0; dsimp only at this; omega
            have hVA : Hid (∀ b off c n, (Value.slice va ss.length vc) = .slice (some ⟨b, off, none⟩) n c → 0 < n → b ≠ Ab) := by rw [hA']; exact rdS_ne HV.out
            rw [← hu, ← hA']
            replace c0 := cell_keep hb c0
            replace c1 := cell_keep hb c1
            replace HV := hidH (HV.out.below hb)
            replace HB := hidH (HB.out.trans (hb.mono HB.out.size))
            clear hb
            clear hu hA'
            refine hKc.out _ _ ⟨c0, c1⟩ (fun hHeld => ?_)
            clear hKc Kc
            (try simp only [List.getElem_toArray]); (try simp only [List.getElem_cons_succ]); (try simp only [List.getElem_cons_zero]); (try simp only [Act.put]); (try simp only [List.setIfInBounds_toArray]); (try simp only [List.set_cons_succ]); (try simp only [List.set_cons_zero])
            refine wpAnyH_ready (rs := [2]) (by kernel_rfl) (by simp) (AllReadyH.cons rfl (fun Kc hKc => ?_) AllReadyH.nil)
            go_simp
            (go_at_call 16; refine (HDV.out _).mono ?_; rintro e q5 ⟨rfl, hb⟩)
            replace c0 := cell_keep hb c0
            replace c1 := cell_keep hb c1
            replace HV := hidH (HV.out.below hb)
            replace KA := hidH (KA.out.below hb)
            replace HB := hidH (HB.out.trans (hb.mono HB.out.size))
            clear hb
            go_wp2_with fail
            refine hKc.out _ _ ⟨c0, c1⟩ (fun hHeld => ?_)
            clear hKc Kc
            (try simp only [List.getElem_toArray]); (try simp only [List.getElem_cons_succ]); (try simp only [List.getElem_cons_zero]); (try simp only [Act.put]); (try simp only [List.setIfInBounds_toArray]); (try simp only [List.set_cons_succ]); (try simp only [List.set_cons_zero])
            refine wpAnyH_take (i := 3) (v := ?_) rfl (by kernel_rfl) (by kernel_rfl) (by kernel_rfl) (fun _ _ _ h => h) (Or.inl ⟨by kernel_rfl, ?_⟩) hHeld ?_
            rotate_left
            · intro wz hSw; (try dsimp only at hSw); go_simp; all_goals (try with_reducible rfl)
            (try simp only [List.getElem_toArray]); (try simp only [List.getElem_cons_succ]); (try simp only [List.getElem_cons_zero]); (try simp only [Act.put]); (try simp only [List.setIfInBounds_toArray]); (try simp only [List.set_cons_succ]); (try simp only [List.set_cons_zero])
            refine wpAnyH_take (i := 4) (v := ?_) rfl (by kernel_rfl) (by kernel_rfl) (by kernel_rfl) (fun _ _ _ h => h) (Or.inl ⟨by kernel_rfl, ?_⟩) hHeld ?_
            rotate_left
            · intro wz hSw; (try dsimp only at hSw); go_simp; all_goals (try with_reducible rfl)
            (try simp only [List.getElem_toArray]); (try simp only [List.getElem_cons_succ]); (try simp only [List.getElem_cons_zero]); (try simp only [Act.put]); (try simp only [List.setIfInBounds_toArray]); (try simp only [List.set_cons_succ]); (try simp only [List.set_cons_zero])
            refine wpAnyH_take (i := 5) (v := ?_) rfl (by kernel_rfl) (by kernel_rfl) (by kernel_rfl) (fun _ _ _ h => h) (Or.inl ⟨by kernel_rfl, ?_⟩) hHeld ?_
            rotate_left
            · intro wz hSw; (try dsimp only at hSw); go_simp; all_goals (try with_reducible rfl)
            (try simp only [List.getElem_toArray]); (try simp only [List.getElem_cons_succ]); (try simp only [List.getElem_cons_zero]); (try simp only [Act.put]); (try simp only [List.setIfInBounds_toArray]); (try simp only [List.set_cons_succ]); (try simp only [List.set_cons_zero])
            have f0 := KA.out.frozen 0
            have f1 := KA.out.frozen 1
            have g0 := KA.out.cell 0 rfl
            have g1 := KA.out.cell 1 rfl
            refine wpAnyH_ready (rs := [7]) (by kernel_rfl) (by simp) (AllReadyH.cons rfl (fun Kc hKc => ?_) AllReadyH.nil)
            go_simp
            replace c0 := cell_stb (cell_stb c0 hAB (q := 0) (u := .int .i64 d1)) hAB (q := 1) (u := .int .i64 d2)
            replace c1 := cell_stb (cell_stb c1 hAB (q := 0) (u := .int .i64 d1)) hAB (q := 1) (u := .int .i64 d2)
            refine hKc.out _ _ ⟨c0, c1⟩ (fun hHeld => ?_)
            clear hKc Kc
            (try simp only [List.getElem_toArray]); (try simp only [List.getElem_cons_succ]); (try simp only [List.getElem_cons_zero]); (try simp only [Act.put]); (try simp only [List.setIfInBounds_toArray]); (try simp only [List.set_cons_succ]); (try simp only [List.set_cons_zero])
            refine wpAnyH_take (i := 8) (v := ?_) rfl (by kernel_rfl) (by kernel_rfl) (by kernel_rfl) (fun _ _ _ h => h) (Or.inl ⟨by kernel_rfl, ?_⟩) hHeld ?_
            rotate_left
            · intro wz hSw; (try dsimp only at hSw); go_simp; all_goals (try with_reducible rfl)
            (try simp only [List.getElem_toArray]); (try simp only [List.getElem_cons_succ]); (try simp only [List.getElem_cons_zero]); (try simp only [Act.put]); (try simp only [List.setIfInBounds_toArray]); (try simp only [List.set_cons_succ]); (try simp only [List.set_cons_zero])
            refine wpAnyH_done (by kernel_rfl) ?_ _
            refine NoPanic.normal ?_
            go_wp2_with fail
            go_meet
            case rel => exact ⟨Ab, rfl, rfl, (KA.out.set 0 _).set 1 _, rdS_st (rdS_st HV.out hVA.out 0 _) hVA.out 1 _, (HB.out.setCell (p := ⟨Ab, 0, none⟩) hAw _).setCell (p := ⟨Ab, 1, none⟩) hAw _⟩
        ·
          go_simp
          obtain ⟨Ab, hA'⟩ : ∃ A, A = wd2.heap.size := ⟨_, rfl⟩
          obtain ⟨q6, hu⟩ : ∃ u, u = wd2.alloc (.cells #[.int .i64 0, .int .i64 0] 27) := ⟨_, rfl⟩
          have hb : Below wd2.heap.size wd2 q6 := by rw [hu]; exact b0H _ _
          have KA : Hid (IsB q6 Ab #[.int .i64 0, .int .i64 0] 27) := by show IsB _ _ _ _; rw [hu, hA']; exact IsB.new _ _ _
          have hAw : w.heap.size ≤ Ab := by rw [hA']; exact HB.out.size
          have hAB : B13 ≠ Ab := by have := World.block_lt_of_cell? wd2 _ c0; dsimp only at this; omega
          have hVA : Hid (∀ b off c n, (Value.slice va ss.length vc) = .slice (some ⟨b, off, none⟩) n c → 0 < n → b ≠ Ab) := by rw [hA']; exact rdS_ne HV.out
          rw [← hu, ← hA']
          replace c0 := cell_keep hb c0
          replace c1 := cell_keep hb c1
          replace HV := hidH (HV.out.below hb)
          replace HB := hidH (HB.out.trans (hb.mono HB.out.size))
          clear hb
          clear hu hA'
          refine hKc.out _ _ ⟨c0, c1⟩ (fun hHeld => ?_)
          clear hKc Kc
          (try simp only [List.getElem_toArray]); (try simp only [List.getElem_cons_succ]); (try simp only [List.getElem_cons_zero]); (try simp only [Act.put]); (try simp only [List.setIfInBounds_toArray]); (try simp only [List.set_cons_succ]); (try simp only [List.set_cons_zero])
          refine wpAnyH_ready (rs := [1]) (by kernel_rfl) (by simp) (AllReadyH.cons rfl (fun Kc hKc => ?_) AllReadyH.nil)
          go_simp
          (go_at_call 17; refine (whole_any 2 _).mono ?_; rintro e q7 ⟨rfl, hw⟩)
          have hb : Below q6.heap.size q6 q7 := by rw [hw]; exact b0H _ _
          clear hw
          replace c0 := cell_keep hb c0
          replace c1 := cell_keep hb c1
          replace HV := hidH (HV.out.below hb)
          replace KA := hidH (KA.out.below hb)
          replace HB := hidH (HB.out.trans (hb.mono HB.out.size))
          clear hb
          go_wp2_with fail
          refine hKc.out _ _ ⟨c0, c1⟩ (fun hHeld => ?_)
          clear hKc Kc
          (try simp only [List.getElem_toArray]); (try simp only [List.getElem_cons_succ]); (try simp only [List.getElem_cons_zero]); (try simp only [Act.put]); (try simp only [List.setIfInBounds_toArray]); (try simp only [List.set_cons_succ]); (try simp only [List.set_cons_zero])
          refine wpAnyH_ready (rs := [2]) (by kernel_rfl) (by simp) (AllReadyH.cons rfl (fun Kc hKc => ?_) AllReadyH.nil)
          go_simp
          (go_at_call 16; refine (HDV.out _).mono ?_; rintro e q8 ⟨rfl, hb⟩)
          replace c0 := cell_keep hb c0
          replace c1 := cell_keep hb c1
          replace HV := hidH (HV.out.below hb)
          replace KA := hidH (KA.out.below hb)
          replace HB := hidH (HB.out.trans (hb.mono HB.out.size))
          clear hb
          go_wp2_with fail
          refine hKc.out _ _ ⟨c0, c1⟩ (fun hHeld => ?_)
          clear hKc Kc
          (try simp only [List.getElem_toArray]); (try simp only [List.getElem_cons_succ]); (try simp only [List.getElem_cons_zero]); (try simp only [Act.put]); (try simp only [List.setIfInBounds_toArray]); (try simp only [List.set_cons_succ]); (try simp only [List.set_cons_zero])
          refine wpAnyH_take (i := 3) (v := ?_) rfl (by kernel_rfl) (by kernel_rfl) (by kernel_rfl) (fun _ _ _ h => h) (Or.inl ⟨by kernel_rfl, ?_⟩) hHeld ?_
          rotate_left
          · intro wz hSw; (try dsimp only at hSw); go_simp; all_goals (try with_reducible rfl)
          (try simp only [List.getElem_toArray]); (try simp only [List.getElem_cons_succ]); (try simp only [List.getElem_cons_zero]); (try simp only [Act.put]); (try simp only [List.setIfInBounds_toArray]); (try simp only [List.set_cons_succ]); (try simp only [List.set_cons_zero])
          refine wpAnyH_take (i := 4) (v := ?_) rfl (by kernel_rfl) (by kernel_rfl) (by kernel_rfl) (fun _ _ _ h => h) (Or.inl ⟨by kernel_rfl, ?_⟩) hHeld ?_
          rotate_left
          · intro wz hSw; (try dsimp only at hSw); go_simp; all_goals (try with_reducible rfl)
          (try simp only [List.getElem_toArray]); (try simp only [List.getElem_cons_succ]); (try simp only [List.getElem_cons_zero]); (try simp only [Act.put]); (try simp only [List.setIfInBounds_toArray]); (try simp only [List.set_cons_succ]); (try simp only [List.set_cons_zero])
          refine wpAnyH_take (i := 5) (v := ?_) rfl (by kernel_rfl) (by kernel_rfl) (by kernel_rfl) (fun _ _ _ h => h) (Or.inl ⟨by kernel_rfl, ?_⟩) hHeld ?_
          rotate_left
          · intro wz hSw; (try dsimp only at hSw); go_simp; all_goals (try with_reducible rfl)
          (try simp only [List.getElem_toArray]); (try simp only [List.getElem_cons_succ]); (try simp only [List.getElem_cons_zero]); (try simp only [Act.put]); (try simp only [List.setIfInBounds_toArray]); (try simp only [List.set_cons_succ]); (try simp only [List.set_cons_zero])
          have f0 := KA.out.frozen 0
          have f1 := KA.out.frozen 1
          have g0 := KA.out.cell 0 rfl
          have g1 := KA.out.cell 1 rfl
          refine wpAnyH_ready (rs := [7]) (by kernel_rfl) (by simp) (AllReadyH.cons rfl (fun Kc hKc => ?_) AllReadyH.nil)
          go_simp
          replace c0 := cell_stb (cell_stb c0 hAB (q := 0) (u := .int .i64 d1)) hAB (q := 1) (u := .int .i64 d2)
          replace c1 := cell_stb (cell_stb c1 hAB (q := 0) (u := .int .i64 d1)) hAB (q := 1) (u := .int .i64 d2)
          refine hKc.out _ _ ⟨c0, c1⟩ (fun hHeld => ?_)
          clear hKc Kc
          (try simp only [List.getElem_toArray]); (try simp only [List.getElem_cons_succ]); (try simp only [List.getElem_cons_zero]); (try simp only [Act.put]); (try simp only [List.setIfInBounds_toArray]); (try simp only [List.set_cons_succ]); (try simp only [List.set_cons_zero])
          refine wpAnyH_take (i := 8) (v := ?_) rfl (by kernel_rfl) (by kernel_rfl) (by kernel_rfl) (fun _ _ _ h => h) (Or.inl ⟨by kernel_rfl, ?_⟩) hHeld ?_
          rotate_left
          · intro wz hSw; (try dsimp only at hSw); go_simp; all_goals (try with_reducible rfl)
          (try simp only [List.getElem_toArray]); (try simp only [List.getElem_cons_succ]); (try simp only [List.getElem_cons_zero]); (try simp only [Act.put]); (try simp only [List.setIfInBounds_toArray]); (try simp only [List.set_cons_succ]); (try simp only [List.set_cons_zero])
          refine wpAnyH_done (by kernel_rfl) ?_ _
          refine NoPanic.normal ?_
          go_wp2_with fail
          go_meet
          case rel => exact ⟨Ab, rfl, rfl, (KA.out.set 0 _).set 1 _, rdS_st (rdS_st HV.out hVA.out 0 _) hVA.out 1 _, (HB.out.setCell (p := ⟨Ab, 0, none⟩) hAw _).setCell (p := ⟨Ab, 1, none⟩) hAw _⟩
      case rest =>
        clear HV HB K13
        rename_i wc
        obtain ⟨T, rfl, rfl, KT, HV, HB⟩ := hcut
        cases o
        · go_wp2
          go_ret
          exact ⟨rfl, HB.out⟩
        cases y
        · go_wp2
          go_ret
          exact ⟨rfl, HB.out⟩
        have hfin := HFIN.out rfl rfl
        rw [hfin] at HDD
        have c0 := KT.out.cell 0 rfl
        have c1 := KT.out.cell 1 rfl
        go_wp2_with fail
        refine (HDD.out _ HV.out).mono ?_
        rintro e w30 ⟨rfl, hb⟩
        replace HB := hidH (HB.out.trans (hb.mono HB.out.size))
        have okn2 : (n == n) = true := by simp
        clear hb c0 c1
        go_wp2
        go_ret
        exact ⟨rfl, HB.out⟩
      end Go.Proofs.Ythfdpdnphnjebaa
