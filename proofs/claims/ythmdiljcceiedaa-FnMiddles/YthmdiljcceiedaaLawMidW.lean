/- The law of middles walked: as many lie on the one side of the middle as on the other, it goes with what is added to all, and what lies outside is far off. -/
import Derived.Test.YthmdiljcceiedaaDrawM
import Derived.Test.YthmdiljcceiedaaAgrP6
import Derived.Test.YthmdiljcceiedaaPk1
namespace Go.Proofs.Ythmdiljcceiedaa
open Go.RowKit Go.Proofs.Ythmdiljcceiedaa.RM

theorem RdR.lo {W W' : World} {v : Value} {ps : List Fr} {B : Nat} (h : RdR W v ps) (hb : Below B W W') (hlt : ∀ b off c n, v = .slice (some ⟨b, off, none⟩) n c → 0 < n → b < B) : RdR W' v ps := by
  obtain ⟨a, c, rfl, h2, h3, h4, h5⟩ := h
  refine ⟨a, c, rfl, h2, h3, h4, fun j hj => ?_⟩
  obtain ⟨b, off, rfl, k1, k2⟩ := h5 j hj
  have := hb.block b (hlt b off c _ rfl (by omega))
  exact ⟨b, off, rfl, by rw [← k1]; simp [World.cell?, this], by rw [← k2]; simp [World.cell?, this]⟩
theorem IsB.lo {W W' : World} {B K : Nat} {vs : Array Value} {t : TypeId} (h : IsB W K vs t) (hb : Below B W W') (hlt : K < B) : IsB W' K vs t := (hb.block K hlt).trans h
theorem rdR_lt {W : World} {v : Value} {ps : List Fr} (h : RdR W v ps) : ∀ b off c n, v = .slice (some ⟨b, off, none⟩) n c → 0 < n → b < W.heap.size := by
  obtain ⟨a, c', rfl, _, _, _, h5⟩ := h
  intro b off c n e hn
  injection e with e1 e2 e3
  obtain ⟨b', off', e4, c1, _⟩ := h5 0 (by omega)
  rw [e1] at e4
  injection e4 with e4
  injection e4 with e5 _ _
  have := World.block_lt_of_cell? W _ c1
  dsimp only at this
  omega
theorem rdR_st {W : World} {v : Value} {ps : List Fr} {B : Nat} (h : RdR W v ps) (hne : ∀ b off c n, v = .slice (some ⟨b, off, none⟩) n c → 0 < n → b < B) (o : Nat) (x : Value) : RdR (W.setCell ⟨B, o, none⟩ x) v ps := by
  obtain ⟨a, c, rfl, h2, h3, h4, h5⟩ := h
  refine ⟨a, c, rfl, h2, h3, h4, fun j hj => ?_⟩
  obtain ⟨b, off, rfl, k1, k2⟩ := h5 j hj
  have := hne b off c _ rfl (by omega)
  exact ⟨b, off, rfl, cell_stb k1 (by omega), cell_stb k2 (by omega)⟩
theorem own_stM {W : World} {base e size n b : Nat} {v : Value} {xs : List Value} (h : W.ownsRow base e size v n xs) (hne : ∀ j, v.ownBlock = some j → j < b) (o : Nat) (x : Value) : (W.setCell ⟨b, o, none⟩ x).ownsRow base e size v n xs :=
  h.kept (row := some b) ⟨rfl, rfl, rfl, by simp, fun k _ hk => Below.heap_setCell W ⟨b, o, none⟩ x k (by show k ≠ b; simpa using hk)⟩ (.inr (fun e => by have := hne b e; omega))
theorem litM (W : World) (base : Nat) (hb : base ≤ W.heap.size) : (W.alloc (.cells #[] 27)).ownsRow base 27 2 (.slice (some ⟨W.heap.size, 0, none⟩) 0 0) 0 (cellsR []) :=
  ⟨rfl, .inr ⟨W.heap.size, 0, #[], rfl, hb, World.alloc_heap_new W _, Nat.le_refl _, Nat.zero_le _, rfl, rfl⟩⟩
set_option maxRecDepth 100000 in
set_option maxHeartbeats 16000000 in
theorem lawMid (a : Option Addr) (len cap : Nat) (zs : List Int) (w : World) (hr : IsRow .u8 w a len cap zs) :
    Calls Try.prog 3 #[.slice a len cap] w fun e w' => e = .returned (.bool true) ∧ Below w.heap.size w w' := by
  have HR := hidM hr
  have HBIG := hidM (fun W => big_any a len cap W)
  obtain ⟨i0, hi, hz0, hz1, hz2⟩ := info_parts infoF
  go_enter Try.func3, Try.ntmps3
  by_cases hbig : 4096 < (len : Int)
  · have HBG : Hid (decide (4096 < (len : Int)) = true) := decide_eq_true hbig
    rw [HBG.out] at HBIG
    go_wp2_with fail
    refine (HBIG.out _).mono ?_
    rintro e w1 ⟨rfl, rfl⟩
    go_wp2
    go_ret
    exact ⟨rfl, Below.refl _ _⟩
  have HBG : Hid (decide (4096 < (len : Int)) = false) := decide_eq_false hbig
  rw [HBG.out] at HBIG
  clear hr hbig
  go_wp2_with fail
  refine (HBIG.out _).mono ?_
  rintro e w0 ⟨rfl, hw⟩
  have hw2 := hw.symm
  subst hw2
  clear hw
  go_wp2_with fail
  refine (dMiddle_any a len cap zs _ HR.out).mono ?_
  rintro e w1 ⟨v, ls, rfl, hO, hl, hb⟩
  have HV := hidM (RdR.own hO).1
  have HB := hidM hb
  clear hb HBIG HBG hO
  obtain ⟨va, vc, hv, _⟩ := HV.out
  subst hv
  have HIM : Hid (∀ W, RdR W (.slice va ls.length vc) ls → Calls Try.prog 6 #[.slice va ls.length vc] W fun e w' => e = .returned (.tuple #[.agg #[.int .i64 (midA ls).1, .int .i64 (midA ls).2], .bool (midO ls)]) ∧ Below W.heap.size W w') := fun W hW => iMiddle_any _ ls W hW
  have HSM : Hid (∀ W, RdR W (.slice va ls.length vc) ls → Calls Try.prog 10 #[.slice va ls.length vc] W fun e w' => e = .returned (.tuple #[.agg #[.int .i64 (midA ls).1, .int .i64 (midA ls).2], .bool (midO ls)]) ∧ Below W.heap.size W w') := fun W hW => sMiddle_any _ ls W hW
  have HIS : Hid (∀ W, RdR W (.slice va ls.length vc) ls → Calls Try.prog 7 #[.slice va ls.length vc] W fun e w' => e = .returned (.tuple #[.agg #[.int .i64 (sprA ls).1, .int .i64 (sprA ls).2], .bool (sprO ls)]) ∧ Below W.heap.size W w') := fun W hW => iSpread_any _ ls W hW (by omega)
  have HSS : Hid (∀ W, RdR W (.slice va ls.length vc) ls → Calls Try.prog 11 #[.slice va ls.length vc] W fun e w' => e = .returned (.tuple #[.agg #[.int .i64 (sprA ls).1, .int .i64 (sprA ls).2], .bool (sprO ls)]) ∧ Below W.heap.size W w') := fun W hW => sSpread_any _ ls W hW
  have HHALF : Hid (midO ls = true → ok7 (midA ls) = true ∧ 2 * ls.countP (fun x => le7 x (midA ls)) ≤ ls.length ∧ 2 * ls.countP (fun x => le7 (midA ls) x) ≤ ls.length) := fun h => ⟨(mid_split h).1, (mid_half h).1, (mid_half h).2 _ (mid_split h).1 Rat.le_refl⟩
  have HNN : Hid (sprO ls = true → 0 ≤ (sprA ls).1) := fun h => (spr_nonneg h).2.2
  have HADD : Hid (midO ls = true → mrG ls (3, 1) ls.length = true → midO (mrL ls (3, 1) ls.length) = true → addK (midA ls) (3, 1) = true → midA (mrL ls (3, 1) ls.length) = addP (midA ls) (3, 1)) := fun h1 h2 h3 h4 => mid_add h1 h2 h3 h4
  have HNOM : Hid (midO ls = false → midA ls = (0, 0)) := fun h => midA_no h
  obtain ⟨m, hm⟩ : ∃ r, r = midA ls := ⟨_, rfl⟩
  obtain ⟨o1, ho1⟩ : ∃ r, r = midO ls := ⟨_, rfl⟩
  obtain ⟨s, hs⟩ : ∃ r, r = sprA ls := ⟨_, rfl⟩
  obtain ⟨o2, ho2⟩ : ∃ r, r = sprO ls := ⟨_, rfl⟩
  rw [← hm, ← ho1] at HIM HSM HHALF HADD HNOM
  rw [← hs, ← ho2] at HIS HSS HNN
  clear hm ho1 hs ho2
  obtain ⟨m1, m2⟩ := m
  obtain ⟨s1, s2⟩ := s
  have okb1 : (o1 != o1) = false := by simp
  have okb2 : (o2 != o2) = false := by simp
  dsimp only at HIM HSM HIS HSS HNN HHALF
  go_wp2_with fail
  refine (HIM.out _ HV.out).mono ?_
  rintro e w2 ⟨rfl, hb⟩
  replace HV := hidM (HV.out.below hb)
  replace HB := hidM (HB.out.trans (hb.mono HB.out.size))
  clear hb
  have hb := bM w2 (.cells #[.int .i64 m1, .int .i64 m2] 27)
  go_upto_region 5 with fail
  obtain ⟨Y2, hY⟩ : ∃ Y, Y = w2.alloc (.cells #[.int .i64 m1, .int .i64 m2] 27) := ⟨_, rfl⟩
  obtain ⟨B4, hF⟩ : ∃ F, F = w2.heap.size := ⟨_, rfl⟩
  have K4 : Hid (IsB Y2 B4 #[.int .i64 m1, .int .i64 m2] 27) := by show IsB _ _ _ _; rw [hY, hF]; exact IsB.new _ _ _
  rw [← hY] at hb
  rw [← hY, ← hF]
  clear hY hF
  replace HV := hidM (HV.out.below hb)
  replace HB := hidM (HB.out.trans (hb.mono HB.out.size))
  clear hb
  go_wp2_with fail
  refine (HIS.out _ HV.out).mono ?_
  rintro e w3 ⟨rfl, hb⟩
  replace HV := hidM (HV.out.below hb)
  replace K4 := hidM (K4.out.below hb)
  replace HB := hidM (HB.out.trans (hb.mono HB.out.size))
  clear hb
  have hb := bM w3 (.cells #[.int .i64 s1, .int .i64 s2] 27)
  go_upto_region 6 with fail
  obtain ⟨Y3, hY⟩ : ∃ Y, Y = w3.alloc (.cells #[.int .i64 s1, .int .i64 s2] 27) := ⟨_, rfl⟩
  obtain ⟨B6, hF⟩ : ∃ F, F = w3.heap.size := ⟨_, rfl⟩
  have K6 : Hid (IsB Y3 B6 #[.int .i64 s1, .int .i64 s2] 27) := by show IsB _ _ _ _; rw [hY, hF]; exact IsB.new _ _ _
  rw [← hY] at hb
  rw [← hY, ← hF]
  clear hY hF
  replace HV := hidM (HV.out.below hb)
  replace K4 := hidM (K4.out.below hb)
  replace HB := hidM (HB.out.trans (hb.mono HB.out.size))
  clear hb
  go_wp2_with fail
  refine (dOutside_any a len cap zs _ (HR.out.below HB.out)).mono ?_
  rintro e w4 ⟨u, ts, n, rfl, hU, htl, hb⟩
  replace HV := hidM (HV.out.below hb)
  replace K4 := hidM (K4.out.below hb)
  replace K6 := hidM (K6.out.below hb)
  replace HB := hidM (HB.out.trans (hb.mono HB.out.size))
  clear hb
  have HU := hidM hU
  clear hU
  obtain ⟨ua, uc, hu, _⟩ := HU.out
  subst hu
  have HIO := hidM (fun W (hW : RdR W (.slice ua ts.length uc) ts) => iOutside_any _ ts n W hW (by omega))
  have HSO := hidM (fun W (hW : RdR W (.slice ua ts.length uc) ts) => sOutside_any _ ts n W hW)
  obtain ⟨HOL, hOT⟩ := out_law ts n
  replace HOL := hidM HOL
  replace hOT := hidM hOT
  have HAL := hidM (outA_small ts n)
  obtain ⟨A, hA⟩ : ∃ d, d = outA ts n := ⟨_, rfl⟩
  rw [← hA] at HIO HSO HOL hOT HAL
  clear hA
  go_wp2_with fail
  refine (HIO.out _ HU.out).mono ?_
  rintro e w5 ⟨ov, rfl, hO, hb⟩
  replace HV := hidM (HV.out.below hb)
  replace K4 := hidM (K4.out.below hb)
  replace K6 := hidM (K6.out.below hb)
  replace HU := hidM (HU.out.below hb)
  replace HB := hidM (HB.out.trans (hb.mono HB.out.size))
  clear hb
  have HO := hidM hO
  obtain ⟨ob, hob⟩ : ∃ b, b = w4.heap.size := ⟨_, rfl⟩
  rw [← hob] at HO
  clear hO hob
  obtain ⟨oa, oc, ho⟩ := own_shape HO.out
  subst ho
  go_wp2_with fail
  refine (HSM.out _ HV.out).mono ?_
  rintro e w6 ⟨rfl, hb⟩
  replace HV := hidM (HV.out.below hb)
  replace K4 := hidM (K4.out.below hb)
  replace K6 := hidM (K6.out.below hb)
  replace HU := hidM (HU.out.below hb)
  replace HO := hidM (own_below HO.out hb)
  replace HB := hidM (HB.out.trans (hb.mono HB.out.size))
  clear hb
  have hb := bM w6 (.cells #[.int .i64 m1, .int .i64 m2] 27)
  go_upto_region 9 with fail
  obtain ⟨Y6, hY⟩ : ∃ Y, Y = w6.alloc (.cells #[.int .i64 m1, .int .i64 m2] 27) := ⟨_, rfl⟩
  obtain ⟨B11, hF⟩ : ∃ F, F = w6.heap.size := ⟨_, rfl⟩
  have K11 : Hid (IsB Y6 B11 #[.int .i64 m1, .int .i64 m2] 27) := by show IsB _ _ _ _; rw [hY, hF]; exact IsB.new _ _ _
  rw [← hY] at hb
  rw [← hY, ← hF]
  clear hY hF
  replace HV := hidM (HV.out.below hb)
  replace K4 := hidM (K4.out.below hb)
  replace K6 := hidM (K6.out.below hb)
  replace HU := hidM (HU.out.below hb)
  replace HO := hidM (own_below HO.out hb)
  replace HB := hidM (HB.out.trans (hb.mono HB.out.size))
  clear hb
  have c0 := K4.out.cell 0 rfl
  have c1 := K4.out.cell 1 rfl
  have d0 := K11.out.cell 0 rfl
  have d1 := K11.out.cell 1 rfl
  go_upto_region 11 with fail
  clear c0 c1 d0 d1 K11
  go_wp2_with fail
  refine (HSS.out _ HV.out).mono ?_
  rintro e w7 ⟨rfl, hb⟩
  replace HV := hidM (HV.out.below hb)
  replace K4 := hidM (K4.out.below hb)
  replace K6 := hidM (K6.out.below hb)
  replace HU := hidM (HU.out.below hb)
  replace HO := hidM (own_below HO.out hb)
  replace HB := hidM (HB.out.trans (hb.mono HB.out.size))
  clear hb
  have hb := bM w7 (.cells #[.int .i64 s1, .int .i64 s2] 27)
  go_upto_region 12 with fail
  obtain ⟨Y7, hY⟩ : ∃ Y, Y = w7.alloc (.cells #[.int .i64 s1, .int .i64 s2] 27) := ⟨_, rfl⟩
  obtain ⟨B13, hF⟩ : ∃ F, F = w7.heap.size := ⟨_, rfl⟩
  have K13 : Hid (IsB Y7 B13 #[.int .i64 s1, .int .i64 s2] 27) := by show IsB _ _ _ _; rw [hY, hF]; exact IsB.new _ _ _
  rw [← hY] at hb
  rw [← hY, ← hF]
  clear hY hF
  replace HV := hidM (HV.out.below hb)
  replace K4 := hidM (K4.out.below hb)
  replace K6 := hidM (K6.out.below hb)
  replace HU := hidM (HU.out.below hb)
  replace HO := hidM (own_below HO.out hb)
  replace HB := hidM (HB.out.trans (hb.mono HB.out.size))
  clear hb
  have c0 := K6.out.cell 0 rfl
  have c1 := K6.out.cell 1 rfl
  have d0 := K13.out.cell 0 rfl
  have d1 := K13.out.cell 1 rfl
  go_wp2_with fail
  refine (HSO.out _ HU.out).mono ?_
  rintro e w8 ⟨ov2, rfl, hO2, hb⟩
  clear c0 c1 d0 d1 K13
  replace HV := hidM (HV.out.below hb)
  replace K4 := hidM (K4.out.below hb)
  replace K6 := hidM (K6.out.below hb)
  replace HU := hidM (HU.out.below hb)
  replace HO := hidM (own_below HO.out hb)
  replace HB := hidM (HB.out.trans (hb.mono HB.out.size))
  clear hb
  go_wp2_with fail
  refine (likeI_any _ _ A A _ _ _ _ _ (by have := HAL.out; omega) (by have := HAL.out; omega) HO.out hO2).mono ?_
  rintro e w9 ⟨rfl, hb⟩
  rw [decide_eq_true (rfl : A = A)]
  clear hO2 HSO HIO HSM HIS HSS HIM
  replace HV := hidM (HV.out.below hb)
  replace K4 := hidM (K4.out.below hb)
  replace K6 := hidM (K6.out.below hb)
  replace HU := hidM (HU.out.below hb)
  replace HO := hidM (own_below HO.out hb)
  replace HB := hidM (HB.out.trans (hb.mono HB.out.size))
  clear hb
  go_wp2
  go_loopw [15] (fun i wr => ∃ k : Nat, k ≤ A.length ∧ i = .int .i64 k ∧ Hid (RdR wr (.slice va ls.length vc) ls) ∧ Hid (IsB wr B4 #[.int .i64 m1, .int .i64 m2] 27) ∧ Hid (IsB wr B6 #[.int .i64 s1, .int .i64 s2] 27) ∧ Hid (wr.ownsRow ob 2 1 (.slice oa A.length oc) A.length (List.map (Value.int .i64) A)) ∧ Hid (Below w.heap.size w wr)) (fun i _ => A.length - (intOf i).toNat)
  case atStart => exact ⟨0, by omega, rfl, HV.out, K4.out, K6.out, HO.out, HB.out⟩
  case round =>
    clear HV K4 K6 HO HB HU
    obtain ⟨k, hk, rfl, HV, K4, K6, HO, HB⟩ := hrel
    by_cases hlt : k < A.length
    · obtain ⟨hn0, hn1, hn2⟩ := HOL.out k hlt
      obtain ⟨og, occ, hog⟩ := own_some HO.out (by omega)
      injection hog with ho1 _ _
      subst ho1
      have e0 := own_int HO.out rfl k hlt
      obtain ⟨e, he⟩ : ∃ e, e = A[k]?.getD 0 := ⟨_, rfl⟩
      rw [← he] at e0 hn0 hn1 hn2
      clear he
      by_cases k0 : k = 0
      · subst k0
        have e0' : wr.cell? ⟨og, 0, none⟩ = some (.int .i64 e) := e0
        clear e0 hn2
        go_upto_region 17 with fail
        refine wp_region_noPanic ?_
        refine wp_region_held_drew (S := (fun w' => w'.cell? ⟨og, 0, none⟩ = some (.int .i64 e))) (by kernel_rfl) ?_ (fun hHeld => ?_)
        · (try dsimp only)
          exact cell_dr e0'
        refine wpAnyH_take (i := 0) (v := ?_) rfl (by kernel_rfl) (by kernel_rfl) (by kernel_rfl) (fun _ _ _ h => h) (Or.inl ⟨by kernel_rfl, ?_⟩) hHeld ?_
        rotate_left
        · intro wz hSw; (try dsimp only at hSw); go_simp; all_goals (try with_reducible rfl)
        (try simp only [List.getElem_toArray]); (try simp only [List.getElem_cons_succ]); (try simp only [List.getElem_cons_zero]); (try simp only [Act.put]); (try simp only [List.setIfInBounds_toArray]); (try simp only [List.set_cons_succ]); (try simp only [List.set_cons_zero])
        refine wpAnyH_take (i := 1) (v := ?_) rfl (by kernel_rfl) (by kernel_rfl) (by kernel_rfl) (fun _ _ _ h => h) (Or.inl ⟨by kernel_rfl, ?_⟩) hHeld ?_
        rotate_left
        · intro wz hSw; (try dsimp only at hSw); go_simp; all_goals (try with_reducible rfl)
        (try simp only [List.getElem_toArray]); (try simp only [List.getElem_cons_succ]); (try simp only [List.getElem_cons_zero]); (try simp only [Act.put]); (try simp only [List.setIfInBounds_toArray]); (try simp only [List.set_cons_succ]); (try simp only [List.set_cons_zero])
        refine wpAnyH_take (i := 2) (v := ?_) rfl (by kernel_rfl) (by kernel_rfl) (by kernel_rfl) (fun _ _ _ h => h) (Or.inl ⟨by kernel_rfl, ?_⟩) hHeld ?_
        rotate_left
        · intro wz hSw; (try dsimp only at hSw); go_simp; all_goals (try with_reducible rfl)
        (try simp only [List.getElem_toArray]); (try simp only [List.getElem_cons_succ]); (try simp only [List.getElem_cons_zero]); (try simp only [Act.put]); (try simp only [List.setIfInBounds_toArray]); (try simp only [List.set_cons_succ]); (try simp only [List.set_cons_zero])
        refine wpAnyH_take (i := 3) (v := ?_) rfl (by kernel_rfl) (by kernel_rfl) (by kernel_rfl) (fun _ _ _ h => h) (Or.inl ⟨by kernel_rfl, ?_⟩) hHeld ?_
        rotate_left
        · intro wz hSw; (try dsimp only at hSw); go_simp; all_goals (try with_reducible rfl)
        (try simp only [List.getElem_toArray]); (try simp only [List.getElem_cons_succ]); (try simp only [List.getElem_cons_zero]); (try simp only [Act.put]); (try simp only [List.setIfInBounds_toArray]); (try simp only [List.set_cons_succ]); (try simp only [List.set_cons_zero])
        refine wpAnyH_take (i := 4) (v := .bool false) rfl (by kernel_rfl) (by kernel_rfl) (by kernel_rfl) (fun _ _ _ h => h) (Or.inl ⟨by kernel_rfl, ?_⟩) hHeld ?_
        skip
        · intro wz hSw; (try dsimp only at hSw); go_simp; all_goals (try with_reducible rfl)
        (try simp only [List.getElem_toArray]); (try simp only [List.getElem_cons_succ]); (try simp only [List.getElem_cons_zero]); (try simp only [Act.put]); (try simp only [List.setIfInBounds_toArray]); (try simp only [List.set_cons_succ]); (try simp only [List.set_cons_zero])
        refine wpAnyH_take (i := 5) (v := .bool false) rfl (by kernel_rfl) (by kernel_rfl) (by kernel_rfl) (fun _ _ _ h => h) (Or.inl ⟨by kernel_rfl, ?_⟩) hHeld ?_
        skip
        · intro wz hSw; (try dsimp only at hSw); go_simp; all_goals (try with_reducible rfl)
        (try simp only [List.getElem_toArray]); (try simp only [List.getElem_cons_succ]); (try simp only [List.getElem_cons_zero]); (try simp only [Act.put]); (try simp only [List.setIfInBounds_toArray]); (try simp only [List.set_cons_succ]); (try simp only [List.set_cons_zero])
        refine wpAnyH_take (i := 6) (v := ?_) rfl (by kernel_rfl) (by kernel_rfl) (by kernel_rfl) (fun _ _ _ h => h) (Or.inl ⟨by kernel_rfl, ?_⟩) hHeld ?_
        rotate_left
        · intro wz hSw; (try dsimp only at hSw); go_simp; all_goals (try with_reducible rfl)
        (try simp only [List.getElem_toArray]); (try simp only [List.getElem_cons_succ]); (try simp only [List.getElem_cons_zero]); (try simp only [Act.put]); (try simp only [List.setIfInBounds_toArray]); (try simp only [List.set_cons_succ]); (try simp only [List.set_cons_zero])
        refine wpAnyH_take (i := 7) (v := ?_) rfl (by kernel_rfl) (by kernel_rfl) (by kernel_rfl) (fun _ _ _ h => h) (Or.inl ⟨by kernel_rfl, ?_⟩) hHeld ?_
        rotate_left
        · intro wz hSw; (try dsimp only at hSw); go_simp; all_goals (try with_reducible rfl)
        (try simp only [List.getElem_toArray]); (try simp only [List.getElem_cons_succ]); (try simp only [List.getElem_cons_zero]); (try simp only [Act.put]); (try simp only [List.setIfInBounds_toArray]); (try simp only [List.set_cons_succ]); (try simp only [List.set_cons_zero])
        refine wpAnyH_take (i := 8) (v := ?_) rfl (by kernel_rfl) (by kernel_rfl) (by kernel_rfl) (fun _ _ _ h => h) (Or.inl ⟨by kernel_rfl, ?_⟩) hHeld ?_
        rotate_left
        · intro wz hSw; (try dsimp only at hSw); go_simp; all_goals (try with_reducible rfl)
        (try simp only [List.getElem_toArray]); (try simp only [List.getElem_cons_succ]); (try simp only [List.getElem_cons_zero]); (try simp only [Act.put]); (try simp only [List.setIfInBounds_toArray]); (try simp only [List.set_cons_succ]); (try simp only [List.set_cons_zero])
        refine wpAnyH_take (i := 9) (v := ?_) rfl (by kernel_rfl) (by kernel_rfl) (by kernel_rfl) (fun _ _ _ h => h) (Or.inl ⟨by kernel_rfl, ?_⟩) hHeld ?_
        rotate_left
        · intro wz hSw; (try dsimp only at hSw); go_simp; all_goals (try with_reducible rfl)
        (try simp only [List.getElem_toArray]); (try simp only [List.getElem_cons_succ]); (try simp only [List.getElem_cons_zero]); (try simp only [Act.put]); (try simp only [List.setIfInBounds_toArray]); (try simp only [List.set_cons_succ]); (try simp only [List.set_cons_zero])
        refine wpAnyH_take (i := 10) (v := ?_) rfl (by kernel_rfl) (by kernel_rfl) (by kernel_rfl) (fun _ _ _ h => h) (Or.inl ⟨by kernel_rfl, ?_⟩) hHeld ?_
        rotate_left
        · intro wz hSw; (try dsimp only at hSw); go_simp; all_goals (try with_reducible rfl)
        (try simp only [List.getElem_toArray]); (try simp only [List.getElem_cons_succ]); (try simp only [List.getElem_cons_zero]); (try simp only [Act.put]); (try simp only [List.setIfInBounds_toArray]); (try simp only [List.set_cons_succ]); (try simp only [List.set_cons_zero])
        refine wpAnyH_take (i := 11) (v := ?_) rfl (by kernel_rfl) (by kernel_rfl) (by kernel_rfl) (fun _ _ _ h => h) (Or.inl ⟨by kernel_rfl, ?_⟩) hHeld ?_
        rotate_left
        · intro wz hSw; (try dsimp only at hSw); go_simp; all_goals (try with_reducible rfl)
        (try simp only [List.getElem_toArray]); (try simp only [List.getElem_cons_succ]); (try simp only [List.getElem_cons_zero]); (try simp only [Act.put]); (try simp only [List.setIfInBounds_toArray]); (try simp only [List.set_cons_succ]); (try simp only [List.set_cons_zero])
        refine wpAnyH_take (i := 12) (v := .bool false) rfl (by kernel_rfl) (by kernel_rfl) (by kernel_rfl) (fun _ _ _ h => h) (Or.inl ⟨by kernel_rfl, ?_⟩) hHeld ?_
        skip
        · intro wz hSw; (try dsimp only at hSw); go_simp; all_goals (try with_reducible rfl)
        (try simp only [List.getElem_toArray]); (try simp only [List.getElem_cons_succ]); (try simp only [List.getElem_cons_zero]); (try simp only [Act.put]); (try simp only [List.setIfInBounds_toArray]); (try simp only [List.set_cons_succ]); (try simp only [List.set_cons_zero])
        refine wpAnyH_take (i := 13) (v := .bool false) rfl (by kernel_rfl) (by kernel_rfl) (by kernel_rfl) (fun _ _ _ h => h) (Or.inl ⟨by kernel_rfl, ?_⟩) hHeld ?_
        skip
        · intro wz hSw; (try dsimp only at hSw); go_simp; all_goals (try with_reducible rfl)
        (try simp only [List.getElem_toArray]); (try simp only [List.getElem_cons_succ]); (try simp only [List.getElem_cons_zero]); (try simp only [Act.put]); (try simp only [List.setIfInBounds_toArray]); (try simp only [List.set_cons_succ]); (try simp only [List.set_cons_zero])
        refine wpAnyH_take (i := 14) (v := .bool false) rfl (by kernel_rfl) (by kernel_rfl) (by kernel_rfl) (fun _ _ _ h => h) (Or.inl ⟨by kernel_rfl, ?_⟩) hHeld ?_
        skip
        · intro wz hSw; (try dsimp only at hSw); go_simp; all_goals (try with_reducible rfl)
        (try simp only [List.getElem_toArray]); (try simp only [List.getElem_cons_succ]); (try simp only [List.getElem_cons_zero]); (try simp only [Act.put]); (try simp only [List.setIfInBounds_toArray]); (try simp only [List.set_cons_succ]); (try simp only [List.set_cons_zero])
        refine wpAnyH_take (i := 15) (v := ?_) rfl (by kernel_rfl) (by kernel_rfl) (by kernel_rfl) (fun _ _ _ h => h) (Or.inl ⟨by kernel_rfl, ?_⟩) hHeld ?_
        rotate_left
        · intro wz hSw; (try dsimp only at hSw); go_simp; all_goals (try with_reducible rfl)
        (try simp only [List.getElem_toArray]); (try simp only [List.getElem_cons_succ]); (try simp only [List.getElem_cons_zero]); (try simp only [Act.put]); (try simp only [List.setIfInBounds_toArray]); (try simp only [List.set_cons_succ]); (try simp only [List.set_cons_zero])
        refine wpAnyH_take (i := 16) (v := .bool false) rfl (by kernel_rfl) (by kernel_rfl) (by kernel_rfl) (fun _ _ _ h => h) (Or.inl ⟨by kernel_rfl, ?_⟩) hHeld ?_
        skip
        · intro wz hSw; (try dsimp only at hSw); go_simp; all_goals (try with_reducible rfl)
        (try simp only [List.getElem_toArray]); (try simp only [List.getElem_cons_succ]); (try simp only [List.getElem_cons_zero]); (try simp only [Act.put]); (try simp only [List.setIfInBounds_toArray]); (try simp only [List.set_cons_succ]); (try simp only [List.set_cons_zero])
        refine wpAnyH_take (i := 17) (v := .bool false) rfl (by kernel_rfl) (by kernel_rfl) (by kernel_rfl) (fun _ _ _ h => h) (Or.inl ⟨by kernel_rfl, ?_⟩) hHeld ?_
        skip
        · intro wz hSw; (try dsimp only at hSw); go_simp; all_goals (try with_reducible rfl)
        (try simp only [List.getElem_toArray]); (try simp only [List.getElem_cons_succ]); (try simp only [List.getElem_cons_zero]); (try simp only [Act.put]); (try simp only [List.setIfInBounds_toArray]); (try simp only [List.set_cons_succ]); (try simp only [List.set_cons_zero])
        refine wpAnyH_take (i := 18) (v := undef) rfl (by kernel_rfl) (by kernel_rfl) (by kernel_rfl) (fun _ _ _ h => h) (Or.inr ⟨by kernel_rfl, rfl⟩) hHeld ?_
        (try simp only [List.getElem_toArray]); (try simp only [List.getElem_cons_succ]); (try simp only [List.getElem_cons_zero]); (try simp only [Act.put]); (try simp only [List.setIfInBounds_toArray]); (try simp only [List.set_cons_succ]); (try simp only [List.set_cons_zero])
        refine wpAnyH_take (i := 19) (v := undef) rfl (by kernel_rfl) (by kernel_rfl) (by kernel_rfl) (fun _ _ _ h => h) (Or.inr ⟨by kernel_rfl, rfl⟩) hHeld ?_
        (try simp only [List.getElem_toArray]); (try simp only [List.getElem_cons_succ]); (try simp only [List.getElem_cons_zero]); (try simp only [Act.put]); (try simp only [List.setIfInBounds_toArray]); (try simp only [List.set_cons_succ]); (try simp only [List.set_cons_zero])
        refine wpAnyH_take (i := 20) (v := undef) rfl (by kernel_rfl) (by kernel_rfl) (by kernel_rfl) (fun _ _ _ h => h) (Or.inr ⟨by kernel_rfl, rfl⟩) hHeld ?_
        (try simp only [List.getElem_toArray]); (try simp only [List.getElem_cons_succ]); (try simp only [List.getElem_cons_zero]); (try simp only [Act.put]); (try simp only [List.setIfInBounds_toArray]); (try simp only [List.set_cons_succ]); (try simp only [List.set_cons_zero])
        refine wpAnyH_take (i := 21) (v := undef) rfl (by kernel_rfl) (by kernel_rfl) (by kernel_rfl) (fun _ _ _ h => h) (Or.inr ⟨by kernel_rfl, rfl⟩) hHeld ?_
        (try simp only [List.getElem_toArray]); (try simp only [List.getElem_cons_succ]); (try simp only [List.getElem_cons_zero]); (try simp only [Act.put]); (try simp only [List.setIfInBounds_toArray]); (try simp only [List.set_cons_succ]); (try simp only [List.set_cons_zero])
        refine wpAnyH_take (i := 22) (v := undef) rfl (by kernel_rfl) (by kernel_rfl) (by kernel_rfl) (fun _ _ _ h => h) (Or.inr ⟨by kernel_rfl, rfl⟩) hHeld ?_
        (try simp only [List.getElem_toArray]); (try simp only [List.getElem_cons_succ]); (try simp only [List.getElem_cons_zero]); (try simp only [Act.put]); (try simp only [List.setIfInBounds_toArray]); (try simp only [List.set_cons_succ]); (try simp only [List.set_cons_zero])
        refine wpAnyH_take (i := 23) (v := undef) rfl (by kernel_rfl) (by kernel_rfl) (by kernel_rfl) (fun _ _ _ h => h) (Or.inr ⟨by kernel_rfl, rfl⟩) hHeld ?_
        (try simp only [List.getElem_toArray]); (try simp only [List.getElem_cons_succ]); (try simp only [List.getElem_cons_zero]); (try simp only [Act.put]); (try simp only [List.setIfInBounds_toArray]); (try simp only [List.set_cons_succ]); (try simp only [List.set_cons_zero])
        refine wpAnyH_take (i := 24) (v := undef) rfl (by kernel_rfl) (by kernel_rfl) (by kernel_rfl) (fun _ _ _ h => h) (Or.inr ⟨by kernel_rfl, rfl⟩) hHeld ?_
        (try simp only [List.getElem_toArray]); (try simp only [List.getElem_cons_succ]); (try simp only [List.getElem_cons_zero]); (try simp only [Act.put]); (try simp only [List.setIfInBounds_toArray]); (try simp only [List.set_cons_succ]); (try simp only [List.set_cons_zero])
        refine wpAnyH_take (i := 25) (v := undef) rfl (by kernel_rfl) (by kernel_rfl) (by kernel_rfl) (fun _ _ _ h => h) (Or.inr ⟨by kernel_rfl, rfl⟩) hHeld ?_
        (try simp only [List.getElem_toArray]); (try simp only [List.getElem_cons_succ]); (try simp only [List.getElem_cons_zero]); (try simp only [Act.put]); (try simp only [List.setIfInBounds_toArray]); (try simp only [List.set_cons_succ]); (try simp only [List.set_cons_zero])
        refine wpAnyH_take (i := 26) (v := undef) rfl (by kernel_rfl) (by kernel_rfl) (by kernel_rfl) (fun _ _ _ h => h) (Or.inr ⟨by kernel_rfl, rfl⟩) hHeld ?_
        (try simp only [List.getElem_toArray]); (try simp only [List.getElem_cons_succ]); (try simp only [List.getElem_cons_zero]); (try simp only [Act.put]); (try simp only [List.setIfInBounds_toArray]); (try simp only [List.set_cons_succ]); (try simp only [List.set_cons_zero])
        refine wpAnyH_take (i := 27) (v := undef) rfl (by kernel_rfl) (by kernel_rfl) (by kernel_rfl) (fun _ _ _ h => h) (Or.inr ⟨by kernel_rfl, rfl⟩) hHeld ?_
        (try simp only [List.getElem_toArray]); (try simp only [List.getElem_cons_succ]); (try simp only [List.getElem_cons_zero]); (try simp only [Act.put]); (try simp only [List.setIfInBounds_toArray]); (try simp only [List.set_cons_succ]); (try simp only [List.set_cons_zero])
        refine wpAnyH_take (i := 28) (v := .bool false) rfl (by kernel_rfl) (by kernel_rfl) (by kernel_rfl) (fun _ _ _ h => h) (Or.inl ⟨by kernel_rfl, ?_⟩) hHeld ?_
        skip
        · intro wz hSw; (try dsimp only at hSw); go_simp; all_goals (try with_reducible rfl)
        (try simp only [List.getElem_toArray]); (try simp only [List.getElem_cons_succ]); (try simp only [List.getElem_cons_zero]); (try simp only [Act.put]); (try simp only [List.setIfInBounds_toArray]); (try simp only [List.set_cons_succ]); (try simp only [List.set_cons_zero])
        refine wpAnyH_take (i := 29) (v := .bool false) rfl (by kernel_rfl) (by kernel_rfl) (by kernel_rfl) (fun _ _ _ h => h) (Or.inl ⟨by kernel_rfl, ?_⟩) hHeld ?_
        skip
        · intro wz hSw; (try dsimp only at hSw); go_simp; all_goals (try with_reducible rfl)
        (try simp only [List.getElem_toArray]); (try simp only [List.getElem_cons_succ]); (try simp only [List.getElem_cons_zero]); (try simp only [Act.put]); (try simp only [List.setIfInBounds_toArray]); (try simp only [List.set_cons_succ]); (try simp only [List.set_cons_zero])
        refine wpAnyH_done (by kernel_rfl) ?_ _
        refine NoPanic.normal ?_
        go_wp2
        all_goals
          go_roundw
          case rel => exact ⟨1, by omega, by first | rfl | go_num, HV.out.below ((Below.refl _ _).drew), K4.out.below ((Below.refl _ _).drew), K6.out.below ((Below.refl _ _).drew), own_below HO.out ((Below.refl _ _).drew), HB.out.drew⟩
          case measure => simp [intOf]; omega
      · obtain ⟨k', hk'⟩ : ∃ k', k' = k - 1 := ⟨_, rfl⟩
        have f0 := own_int HO.out rfl k' (by omega)
        have e1 := e0
        have hn3 := hn2 (by omega)
        rw [← hk'] at hn3
        obtain ⟨e', he'⟩ : ∃ e, e = A[k']?.getD 0 := ⟨_, rfl⟩
        rw [← he'] at f0 hn3
        have hkw : (k : Int) - 1 = (k' : Int) := by omega
        have hk0' : 0 < k := by omega
        have hwk : IntKind.i64.wrap (k' : Int) = (k' : Int) := by rw [IntKind.wrap_i64]; have := HAL.out; omega
        have hnl : ¬ e ≤ e' := by omega
        have hk'A : k' < A.length := by omega
        clear he' hn2 e0 hk' hn3
        go_upto_region 17 with fail
        refine wp_region_noPanic ?_
        refine wp_region_held_drew (S := (fun w' => w'.cell? ⟨og, k, none⟩ = some (.int .i64 e) ∧ w'.cell? ⟨og, k', none⟩ = some (.int .i64 e'))) (by kernel_rfl) ?_ (fun hHeld => ?_)
        · (try dsimp only)
          exact ⟨cell_dr e1, cell_dr f0⟩
        refine wpAnyH_take (i := 0) (v := ?_) rfl (by kernel_rfl) (by kernel_rfl) (by kernel_rfl) (fun _ _ _ h => h) (Or.inl ⟨by kernel_rfl, ?_⟩) hHeld ?_
        rotate_left
        · intro wz hSw; (try dsimp only at hSw); go_simp; all_goals (try with_reducible rfl)
        (try simp only [List.getElem_toArray]); (try simp only [List.getElem_cons_succ]); (try simp only [List.getElem_cons_zero]); (try simp only [Act.put]); (try simp only [List.setIfInBounds_toArray]); (try simp only [List.set_cons_succ]); (try simp only [List.set_cons_zero])
        refine wpAnyH_take (i := 1) (v := ?_) rfl (by kernel_rfl) (by kernel_rfl) (by kernel_rfl) (fun _ _ _ h => h) (Or.inl ⟨by kernel_rfl, ?_⟩) hHeld ?_
        rotate_left
        · intro wz hSw; (try dsimp only at hSw); go_simp; all_goals (try with_reducible rfl)
        (try simp only [List.getElem_toArray]); (try simp only [List.getElem_cons_succ]); (try simp only [List.getElem_cons_zero]); (try simp only [Act.put]); (try simp only [List.setIfInBounds_toArray]); (try simp only [List.set_cons_succ]); (try simp only [List.set_cons_zero])
        refine wpAnyH_take (i := 2) (v := ?_) rfl (by kernel_rfl) (by kernel_rfl) (by kernel_rfl) (fun _ _ _ h => h) (Or.inl ⟨by kernel_rfl, ?_⟩) hHeld ?_
        rotate_left
        · intro wz hSw; (try dsimp only at hSw); go_simp; all_goals (try with_reducible rfl)
        (try simp only [List.getElem_toArray]); (try simp only [List.getElem_cons_succ]); (try simp only [List.getElem_cons_zero]); (try simp only [Act.put]); (try simp only [List.setIfInBounds_toArray]); (try simp only [List.set_cons_succ]); (try simp only [List.set_cons_zero])
        refine wpAnyH_take (i := 3) (v := ?_) rfl (by kernel_rfl) (by kernel_rfl) (by kernel_rfl) (fun _ _ _ h => h) (Or.inl ⟨by kernel_rfl, ?_⟩) hHeld ?_
        rotate_left
        · intro wz hSw; (try dsimp only at hSw); go_simp; all_goals (try with_reducible rfl)
        (try simp only [List.getElem_toArray]); (try simp only [List.getElem_cons_succ]); (try simp only [List.getElem_cons_zero]); (try simp only [Act.put]); (try simp only [List.setIfInBounds_toArray]); (try simp only [List.set_cons_succ]); (try simp only [List.set_cons_zero])
        refine wpAnyH_take (i := 4) (v := .bool false) rfl (by kernel_rfl) (by kernel_rfl) (by kernel_rfl) (fun _ _ _ h => h) (Or.inl ⟨by kernel_rfl, ?_⟩) hHeld ?_
        skip
        · intro wz hSw; (try dsimp only at hSw); go_simp; all_goals (try with_reducible rfl)
        (try simp only [List.getElem_toArray]); (try simp only [List.getElem_cons_succ]); (try simp only [List.getElem_cons_zero]); (try simp only [Act.put]); (try simp only [List.setIfInBounds_toArray]); (try simp only [List.set_cons_succ]); (try simp only [List.set_cons_zero])
        refine wpAnyH_take (i := 5) (v := .bool false) rfl (by kernel_rfl) (by kernel_rfl) (by kernel_rfl) (fun _ _ _ h => h) (Or.inl ⟨by kernel_rfl, ?_⟩) hHeld ?_
        skip
        · intro wz hSw; (try dsimp only at hSw); go_simp; all_goals (try with_reducible rfl)
        (try simp only [List.getElem_toArray]); (try simp only [List.getElem_cons_succ]); (try simp only [List.getElem_cons_zero]); (try simp only [Act.put]); (try simp only [List.setIfInBounds_toArray]); (try simp only [List.set_cons_succ]); (try simp only [List.set_cons_zero])
        refine wpAnyH_take (i := 6) (v := ?_) rfl (by kernel_rfl) (by kernel_rfl) (by kernel_rfl) (fun _ _ _ h => h) (Or.inl ⟨by kernel_rfl, ?_⟩) hHeld ?_
        rotate_left
        · intro wz hSw; (try dsimp only at hSw); go_simp; all_goals (try with_reducible rfl)
        (try simp only [List.getElem_toArray]); (try simp only [List.getElem_cons_succ]); (try simp only [List.getElem_cons_zero]); (try simp only [Act.put]); (try simp only [List.setIfInBounds_toArray]); (try simp only [List.set_cons_succ]); (try simp only [List.set_cons_zero])
        refine wpAnyH_take (i := 7) (v := ?_) rfl (by kernel_rfl) (by kernel_rfl) (by kernel_rfl) (fun _ _ _ h => h) (Or.inl ⟨by kernel_rfl, ?_⟩) hHeld ?_
        rotate_left
        · intro wz hSw; (try dsimp only at hSw); go_simp; all_goals (try with_reducible rfl)
        (try simp only [List.getElem_toArray]); (try simp only [List.getElem_cons_succ]); (try simp only [List.getElem_cons_zero]); (try simp only [Act.put]); (try simp only [List.setIfInBounds_toArray]); (try simp only [List.set_cons_succ]); (try simp only [List.set_cons_zero])
        refine wpAnyH_take (i := 8) (v := ?_) rfl (by kernel_rfl) (by kernel_rfl) (by kernel_rfl) (fun _ _ _ h => h) (Or.inl ⟨by kernel_rfl, ?_⟩) hHeld ?_
        rotate_left
        · intro wz hSw; (try dsimp only at hSw); go_simp; all_goals (try with_reducible rfl)
        (try simp only [List.getElem_toArray]); (try simp only [List.getElem_cons_succ]); (try simp only [List.getElem_cons_zero]); (try simp only [Act.put]); (try simp only [List.setIfInBounds_toArray]); (try simp only [List.set_cons_succ]); (try simp only [List.set_cons_zero])
        refine wpAnyH_take (i := 9) (v := ?_) rfl (by kernel_rfl) (by kernel_rfl) (by kernel_rfl) (fun _ _ _ h => h) (Or.inl ⟨by kernel_rfl, ?_⟩) hHeld ?_
        rotate_left
        · intro wz hSw; (try dsimp only at hSw); go_simp; all_goals (try with_reducible rfl)
        (try simp only [List.getElem_toArray]); (try simp only [List.getElem_cons_succ]); (try simp only [List.getElem_cons_zero]); (try simp only [Act.put]); (try simp only [List.setIfInBounds_toArray]); (try simp only [List.set_cons_succ]); (try simp only [List.set_cons_zero])
        refine wpAnyH_take (i := 10) (v := ?_) rfl (by kernel_rfl) (by kernel_rfl) (by kernel_rfl) (fun _ _ _ h => h) (Or.inl ⟨by kernel_rfl, ?_⟩) hHeld ?_
        rotate_left
        · intro wz hSw; (try dsimp only at hSw); go_simp; all_goals (try with_reducible rfl)
        (try simp only [List.getElem_toArray]); (try simp only [List.getElem_cons_succ]); (try simp only [List.getElem_cons_zero]); (try simp only [Act.put]); (try simp only [List.setIfInBounds_toArray]); (try simp only [List.set_cons_succ]); (try simp only [List.set_cons_zero])
        refine wpAnyH_take (i := 11) (v := ?_) rfl (by kernel_rfl) (by kernel_rfl) (by kernel_rfl) (fun _ _ _ h => h) (Or.inl ⟨by kernel_rfl, ?_⟩) hHeld ?_
        rotate_left
        · intro wz hSw; (try dsimp only at hSw); go_simp; all_goals (try with_reducible rfl)
        (try simp only [List.getElem_toArray]); (try simp only [List.getElem_cons_succ]); (try simp only [List.getElem_cons_zero]); (try simp only [Act.put]); (try simp only [List.setIfInBounds_toArray]); (try simp only [List.set_cons_succ]); (try simp only [List.set_cons_zero])
        refine wpAnyH_take (i := 12) (v := .bool false) rfl (by kernel_rfl) (by kernel_rfl) (by kernel_rfl) (fun _ _ _ h => h) (Or.inl ⟨by kernel_rfl, ?_⟩) hHeld ?_
        skip
        · intro wz hSw; (try dsimp only at hSw); go_simp; all_goals (try with_reducible rfl)
        (try simp only [List.getElem_toArray]); (try simp only [List.getElem_cons_succ]); (try simp only [List.getElem_cons_zero]); (try simp only [Act.put]); (try simp only [List.setIfInBounds_toArray]); (try simp only [List.set_cons_succ]); (try simp only [List.set_cons_zero])
        refine wpAnyH_take (i := 13) (v := .bool false) rfl (by kernel_rfl) (by kernel_rfl) (by kernel_rfl) (fun _ _ _ h => h) (Or.inl ⟨by kernel_rfl, ?_⟩) hHeld ?_
        skip
        · intro wz hSw; (try dsimp only at hSw); go_simp; all_goals (try with_reducible rfl)
        (try simp only [List.getElem_toArray]); (try simp only [List.getElem_cons_succ]); (try simp only [List.getElem_cons_zero]); (try simp only [Act.put]); (try simp only [List.setIfInBounds_toArray]); (try simp only [List.set_cons_succ]); (try simp only [List.set_cons_zero])
        refine wpAnyH_take (i := 14) (v := .bool false) rfl (by kernel_rfl) (by kernel_rfl) (by kernel_rfl) (fun _ _ _ h => h) (Or.inl ⟨by kernel_rfl, ?_⟩) hHeld ?_
        skip
        · intro wz hSw; (try dsimp only at hSw); go_simp; all_goals (try with_reducible rfl)
        (try simp only [List.getElem_toArray]); (try simp only [List.getElem_cons_succ]); (try simp only [List.getElem_cons_zero]); (try simp only [Act.put]); (try simp only [List.setIfInBounds_toArray]); (try simp only [List.set_cons_succ]); (try simp only [List.set_cons_zero])
        refine wpAnyH_take (i := 15) (v := ?_) rfl (by kernel_rfl) (by kernel_rfl) (by kernel_rfl) (fun _ _ _ h => h) (Or.inl ⟨by kernel_rfl, ?_⟩) hHeld ?_
        rotate_left
        · intro wz hSw; (try dsimp only at hSw); go_simp; all_goals (try with_reducible rfl)
        (try simp only [List.getElem_toArray]); (try simp only [List.getElem_cons_succ]); (try simp only [List.getElem_cons_zero]); (try simp only [Act.put]); (try simp only [List.setIfInBounds_toArray]); (try simp only [List.set_cons_succ]); (try simp only [List.set_cons_zero])
        refine wpAnyH_take (i := 16) (v := .bool true) rfl (by kernel_rfl) (by kernel_rfl) (by kernel_rfl) (fun _ _ _ h => h) (Or.inl ⟨by kernel_rfl, ?_⟩) hHeld ?_
        skip
        · intro wz hSw; (try dsimp only at hSw); go_simp; all_goals (try with_reducible rfl)
        (try simp only [List.getElem_toArray]); (try simp only [List.getElem_cons_succ]); (try simp only [List.getElem_cons_zero]); (try simp only [Act.put]); (try simp only [List.setIfInBounds_toArray]); (try simp only [List.set_cons_succ]); (try simp only [List.set_cons_zero])
        refine wpAnyH_take (i := 17) (v := .bool true) rfl (by kernel_rfl) (by kernel_rfl) (by kernel_rfl) (fun _ _ _ h => h) (Or.inl ⟨by kernel_rfl, ?_⟩) hHeld ?_
        skip
        · intro wz hSw; (try dsimp only at hSw); go_simp; all_goals (try with_reducible rfl)
        (try simp only [List.getElem_toArray]); (try simp only [List.getElem_cons_succ]); (try simp only [List.getElem_cons_zero]); (try simp only [Act.put]); (try simp only [List.setIfInBounds_toArray]); (try simp only [List.set_cons_succ]); (try simp only [List.set_cons_zero])
        refine wpAnyH_take (i := 18) (v := ?_) rfl (by kernel_rfl) (by kernel_rfl) (by kernel_rfl) (fun _ _ _ h => h) (Or.inl ⟨by kernel_rfl, ?_⟩) hHeld ?_
        rotate_left
        · intro wz hSw; (try dsimp only at hSw); go_simp; all_goals (try with_reducible rfl)
        (try simp only [List.getElem_toArray]); (try simp only [List.getElem_cons_succ]); (try simp only [List.getElem_cons_zero]); (try simp only [Act.put]); (try simp only [List.setIfInBounds_toArray]); (try simp only [List.set_cons_succ]); (try simp only [List.set_cons_zero])
        refine wpAnyH_take (i := 19) (v := ?_) rfl (by kernel_rfl) (by kernel_rfl) (by kernel_rfl) (fun _ _ _ h => h) (Or.inl ⟨by kernel_rfl, ?_⟩) hHeld ?_
        rotate_left
        · intro wz hSw; (try dsimp only at hSw); go_simp; all_goals (try with_reducible rfl)
        (try simp only [List.getElem_toArray]); (try simp only [List.getElem_cons_succ]); (try simp only [List.getElem_cons_zero]); (try simp only [Act.put]); (try simp only [List.setIfInBounds_toArray]); (try simp only [List.set_cons_succ]); (try simp only [List.set_cons_zero])
        refine wpAnyH_take (i := 20) (v := ?_) rfl (by kernel_rfl) (by kernel_rfl) (by kernel_rfl) (fun _ _ _ h => h) (Or.inl ⟨by kernel_rfl, ?_⟩) hHeld ?_
        rotate_left
        · intro wz hSw; (try dsimp only at hSw); go_simp; all_goals (try with_reducible rfl)
        (try simp only [List.getElem_toArray]); (try simp only [List.getElem_cons_succ]); (try simp only [List.getElem_cons_zero]); (try simp only [Act.put]); (try simp only [List.setIfInBounds_toArray]); (try simp only [List.set_cons_succ]); (try simp only [List.set_cons_zero])
        refine wpAnyH_take (i := 21) (v := ?_) rfl (by kernel_rfl) (by kernel_rfl) (by kernel_rfl) (fun _ _ _ h => h) (Or.inl ⟨by kernel_rfl, ?_⟩) hHeld ?_
        rotate_left
        · intro wz hSw; (try dsimp only at hSw); go_simp; all_goals (try with_reducible rfl)
        (try simp only [List.getElem_toArray]); (try simp only [List.getElem_cons_succ]); (try simp only [List.getElem_cons_zero]); (try simp only [Act.put]); (try simp only [List.setIfInBounds_toArray]); (try simp only [List.set_cons_succ]); (try simp only [List.set_cons_zero])
        refine wpAnyH_take (i := 22) (v := ?_) rfl (by kernel_rfl) (by kernel_rfl) (by kernel_rfl) (fun _ _ _ h => h) (Or.inl ⟨by kernel_rfl, ?_⟩) hHeld ?_
        rotate_left
        · intro wz hSw; (try dsimp only at hSw); go_simp; all_goals (try with_reducible rfl)
        (try simp only [List.getElem_toArray]); (try simp only [List.getElem_cons_succ]); (try simp only [List.getElem_cons_zero]); (try simp only [Act.put]); (try simp only [List.setIfInBounds_toArray]); (try simp only [List.set_cons_succ]); (try simp only [List.set_cons_zero])
        refine wpAnyH_take (i := 23) (v := ?_) rfl (by kernel_rfl) (by kernel_rfl) (by kernel_rfl) (fun _ _ _ h => h) (Or.inl ⟨by kernel_rfl, ?_⟩) hHeld ?_
        rotate_left
        · intro wz hSw; (try dsimp only at hSw); go_simp; all_goals (try with_reducible rfl)
        (try simp only [List.getElem_toArray]); (try simp only [List.getElem_cons_succ]); (try simp only [List.getElem_cons_zero]); (try simp only [Act.put]); (try simp only [List.setIfInBounds_toArray]); (try simp only [List.set_cons_succ]); (try simp only [List.set_cons_zero])
        refine wpAnyH_take (i := 24) (v := (.int .i64 (k' : Int))) rfl (by kernel_rfl) (by kernel_rfl) (by kernel_rfl) (fun _ _ _ h => h) (Or.inl ⟨by kernel_rfl, ?_⟩) hHeld ?_
        skip
        · intro wz hSw; (try dsimp only at hSw); go_simp; all_goals (try with_reducible rfl)
        (try simp only [List.getElem_toArray]); (try simp only [List.getElem_cons_succ]); (try simp only [List.getElem_cons_zero]); (try simp only [Act.put]); (try simp only [List.setIfInBounds_toArray]); (try simp only [List.set_cons_succ]); (try simp only [List.set_cons_zero])
        refine wpAnyH_take (i := 25) (v := ?_) rfl (by kernel_rfl) (by kernel_rfl) (by kernel_rfl) (fun _ _ _ h => h) (Or.inl ⟨by kernel_rfl, ?_⟩) hHeld ?_
        rotate_left
        · intro wz hSw; (try dsimp only at hSw); go_simp; all_goals (try with_reducible rfl)
        (try simp only [List.getElem_toArray]); (try simp only [List.getElem_cons_succ]); (try simp only [List.getElem_cons_zero]); (try simp only [Act.put]); (try simp only [List.setIfInBounds_toArray]); (try simp only [List.set_cons_succ]); (try simp only [List.set_cons_zero])
        refine wpAnyH_take (i := 26) (v := ?_) rfl (by kernel_rfl) (by kernel_rfl) (by kernel_rfl) (fun _ _ _ h => h) (Or.inl ⟨by kernel_rfl, ?_⟩) hHeld ?_
        rotate_left
        · intro wz hSw; (try dsimp only at hSw); go_simp; all_goals (try with_reducible rfl)
        (try simp only [List.getElem_toArray]); (try simp only [List.getElem_cons_succ]); (try simp only [List.getElem_cons_zero]); (try simp only [Act.put]); (try simp only [List.setIfInBounds_toArray]); (try simp only [List.set_cons_succ]); (try simp only [List.set_cons_zero])
        refine wpAnyH_take (i := 27) (v := .bool false) rfl (by kernel_rfl) (by kernel_rfl) (by kernel_rfl) (fun _ _ _ h => h) (Or.inl ⟨by kernel_rfl, ?_⟩) hHeld ?_
        skip
        · intro wz hSw; (try dsimp only at hSw); go_simp; all_goals (try with_reducible rfl)
        (try simp only [List.getElem_toArray]); (try simp only [List.getElem_cons_succ]); (try simp only [List.getElem_cons_zero]); (try simp only [Act.put]); (try simp only [List.setIfInBounds_toArray]); (try simp only [List.set_cons_succ]); (try simp only [List.set_cons_zero])
        refine wpAnyH_take (i := 28) (v := .bool false) rfl (by kernel_rfl) (by kernel_rfl) (by kernel_rfl) (fun _ _ _ h => h) (Or.inl ⟨by kernel_rfl, ?_⟩) hHeld ?_
        skip
        · intro wz hSw; (try dsimp only at hSw); go_simp; all_goals (try with_reducible rfl)
        (try simp only [List.getElem_toArray]); (try simp only [List.getElem_cons_succ]); (try simp only [List.getElem_cons_zero]); (try simp only [Act.put]); (try simp only [List.setIfInBounds_toArray]); (try simp only [List.set_cons_succ]); (try simp only [List.set_cons_zero])
        refine wpAnyH_take (i := 29) (v := .bool false) rfl (by kernel_rfl) (by kernel_rfl) (by kernel_rfl) (fun _ _ _ h => h) (Or.inl ⟨by kernel_rfl, ?_⟩) hHeld ?_
        skip
        · intro wz hSw; (try dsimp only at hSw); go_simp; all_goals (try with_reducible rfl)
        (try simp only [List.getElem_toArray]); (try simp only [List.getElem_cons_succ]); (try simp only [List.getElem_cons_zero]); (try simp only [Act.put]); (try simp only [List.setIfInBounds_toArray]); (try simp only [List.set_cons_succ]); (try simp only [List.set_cons_zero])
        refine wpAnyH_done (by kernel_rfl) ?_ _
        refine NoPanic.normal ?_
        clear hkw hwk
        have hAb := HAL.out
        go_wp2
        all_goals
          go_roundw
          case rel => exact ⟨k + 1, by omega, by first | rfl | go_num, HV.out.below ((Below.refl _ _).drew), K4.out.below ((Below.refl _ _).drew), K6.out.below ((Below.refl _ _).drew), own_below HO.out ((Below.refl _ _).drew), HB.out.drew⟩
          case measure => simp [intOf]; omega
    · obtain rfl : k = A.length := by omega
      clear hk hlt
      have hal : (A.length : Int) ≤ 1048576 := by have := HAL.out; omega
      have HCUT : Hid (¬ (1 ≤ n ∧ (ts.length : Int) < 2 * (A.length : Int))) := fun h => by have := hOT.out h.1; omega
      clear HO hOT HOL HAL
      cases o1
      · have hz := HNOM.out rfl
        cases hz
        have c0 := K4.out.cell 0 rfl
        have c1 := K4.out.cell 1 rfl
        have heqz : ∀ W : World, (binOp .eql 27 (.agg #[.int .i64 0, .int .i64 0]) (.agg #[.int .i64 0, .int .i64 0])).run Try.prog W = .ok (.bool true) W := fun _ => by kernel_rfl
        by_cases hn1 : 1 ≤ n
        · have hn2 : ¬ (ts.length : Int) < 2 * (A.length : Int) := fun h => HCUT.out ⟨hn1, h⟩
          clear HCUT
          go_wp2
          go_ret
          exact ⟨rfl, HB.out⟩
        · clear HCUT
          go_wp2
          go_ret
          exact ⟨rfl, HB.out⟩
      obtain ⟨hmok, hb1, hb2⟩ := HHALF.out rfl
      replace hb1 := hidM hb1
      replace hb2 := hidM hb2
      have HCB := hidM (ctN_all ls (fun x => le7 x (m1, m2)))
      have HCA := hidM (ctN_all ls (fun x => le7 (m1, m2) x))
      have HSB : Hid (∀ k, k < ls.length → ctN ls (fun x => le7 x (m1, m2)) (k + 1) = if le7 (fr ls k) (m1, m2) = true then ctN ls (fun x => le7 x (m1, m2)) k + 1 else ctN ls (fun x => le7 x (m1, m2)) k) := fun k h => ctN_step h
      have HSA : Hid (∀ k, k < ls.length → ctN ls (fun x => le7 (m1, m2) x) (k + 1) = if le7 (m1, m2) (fr ls k) = true then ctN ls (fun x => le7 (m1, m2) x) k + 1 else ctN ls (fun x => le7 (m1, m2) x) k) := fun k h => ctN_step h
      have HZB := hidM (ctN_zero ls (fun x => le7 x (m1, m2)))
      have HZA := hidM (ctN_zero ls (fun x => le7 (m1, m2) x))
      have HLB : Hid (∀ k, ctN ls (fun x => le7 x (m1, m2)) k ≤ k) := fun k => ctN_le _ _ k
      have HLA : Hid (∀ k, ctN ls (fun x => le7 (m1, m2) x) k ≤ k) := fun k => ctN_le _ _ k
      obtain ⟨cb, hcb⟩ : ∃ c, c = ctN ls (fun x => le7 x (m1, m2)) := ⟨_, rfl⟩
      obtain ⟨ca, hca⟩ : ∃ c, c = ctN ls (fun x => le7 (m1, m2) x) := ⟨_, rfl⟩
      rw [← hcb] at HCB HSB HZB HLB
      rw [← hca] at HCA HSA HZA HLA
      rw [← HCB.out] at hb1
      rw [← HCA.out] at hb2
      clear hcb hca HCB HCA HHALF HNOM hmok
      have HGO : Hid (ls.length ≤ 200) := hl
      go_upto_region 19 with fail
      go_cut [129] from 120 to 129 (fun s wx => s = .bool false ∧ Hid (wx = wr))
      case first =>
        by_cases hn1 : 1 ≤ n
        · have hn2 : ¬ (ts.length : Int) < 2 * (A.length : Int) := fun h => HCUT.out ⟨hn1, h⟩
          clear HCUT
          go_wp2_with fail
          go_meet
          case rel => exact ⟨rfl, rfl⟩
        · clear HCUT
          go_wp2_with fail
          go_meet
          case rel => exact ⟨rfl, rfl⟩
      case rest =>
        clear HCUT
        obtain ⟨rfl, hwx⟩ := hcut
        obtain rfl := hwx.out
        go_wp2
        go_loopw [16, 17, 18] (fun b2 a2 i wq => ∃ k : Nat, k ≤ ls.length ∧ i = .int .i64 k ∧ b2 = .int .i64 (cb k : Nat) ∧ a2 = .int .i64 (ca k : Nat) ∧ Hid (RdR wq (.slice va ls.length vc) ls) ∧ Hid (IsB wq B4 #[.int .i64 m1, .int .i64 m2] 27) ∧ Hid (IsB wq B6 #[.int .i64 s1, .int .i64 s2] 27) ∧ Hid (Below w.heap.size w wq)) (fun _ _ i _ => ls.length - (intOf i).toNat)
        case atStart => exact ⟨0, by omega, rfl, by rw [HZB.out]; rfl, by rw [HZA.out]; rfl, HV.out, K4.out, K6.out, HB.out⟩
        case round =>
          clear HV K4 K6 HB hwx
          obtain ⟨k, hk, rfl, rfl, rfl, HV, K4, K6, HB⟩ := hrel
          have hl200 := HGO.out
          have hcb1 := HLB.out k
          have hca1 := HLA.out k
          by_cases hlt : k < ls.length
          · have HSBk := hidM (HSB.out k hlt)
            have HSAk := hidM (HSA.out k hlt)
            obtain ⟨vb, voff, hva, c1, c2⟩ : ∃ b off, va = some ⟨b, off, none⟩ ∧ wr.cell? ⟨b, off + k * 2, none⟩ = some (.int .i64 (fr ls k).1) ∧ wr.cell? ⟨b, off + k * 2 + 1, none⟩ = some (.int .i64 (fr ls k).2) := by
              obtain ⟨a', c', he, _, _, _, h5⟩ := HV.out
              injection he with h1 _ _
              rw [h1]
              exact h5 k hlt
            subst hva
            obtain ⟨x, hx⟩ : ∃ x, x = fr ls k := ⟨_, rfl⟩
            rw [← hx] at c1 c2 HSBk HSAk
            obtain ⟨b, hb9⟩ : ∃ b, b = cb k := ⟨_, rfl⟩
            obtain ⟨d, hd9⟩ : ∃ b, b = ca k := ⟨_, rfl⟩
            rw [← hb9] at HSBk hcb1 ⊢
            rw [← hd9] at HSAk hca1 ⊢
            clear hx hb9 hd9
            obtain ⟨x1, x2⟩ := x
            dsimp only at c1 c2
            have HLT1 := hidM (fun W => iLess_any x1 x2 m1 m2 W)
            have HLT2 := hidM (fun W => iLess_any m1 m2 x1 x2 W)
            obtain ⟨q1, hq1⟩ : ∃ q, q = lessB x1 x2 m1 m2 := ⟨_, rfl⟩
            obtain ⟨q2, hq2⟩ : ∃ q, q = lessB m1 m2 x1 x2 := ⟨_, rfl⟩
            have HS1 : Hid (cb (k + 1) = if q1 = true then b + 1 else b) := by show _ = _; rw [hq1]; exact HSBk.out
            have HS2 : Hid (ca (k + 1) = if q2 = true then d + 1 else d) := by show _ = _; rw [hq2]; exact HSAk.out
            rw [← hq1] at HLT1
            rw [← hq2] at HLT2
            clear hq1 hq2 HSBk HSAk
            have c3 := K4.out.cell 0 rfl
            have c4 := K4.out.cell 1 rfl
            go_upto_region 28 with fail
            refine wp_region_noPanic ?_
            refine wp_region_held_drew (S := (fun w' => w'.cell? ⟨vb, voff + k * 2, none⟩ = some (.int .i64 x1) ∧ w'.cell? ⟨vb, voff + k * 2 + 1, none⟩ = some (.int .i64 x2) ∧ w'.cell? ⟨B4, 0, none⟩ = some (.int .i64 m1) ∧ w'.cell? ⟨B4, 1, none⟩ = some (.int .i64 m2))) (by kernel_rfl) ?_ (fun hHeld => ?_)
            · (try dsimp only)
              exact ⟨cell_dr c1, cell_dr c2, cell_dr c3, cell_dr c4⟩
            have hb := (Below.refl wr.heap.size wr).drew
            replace c1 := cell_dr c1
            replace c2 := cell_dr c2
            replace c3 := cell_dr c3
            replace c4 := cell_dr c4
            replace HV := hidM (HV.out.below hb)
            replace K4 := hidM (K4.out.below hb)
            replace K6 := hidM (K6.out.below hb)
            replace HB := hidM (HB.out.trans (hb.mono HB.out.size))
            clear hb
            obtain ⟨p1d, hwd⟩ : ∃ u, u = wr.drew := ⟨_, rfl⟩
            rw [← hwd] at HV K4 K6 HB c1 c2 c3 c4 hHeld ⊢
            clear hwd
            refine wpAnyH_take (i := 0) (v := ?_) rfl (by kernel_rfl) (by kernel_rfl) (by kernel_rfl) (fun _ _ _ h => h) (Or.inl ⟨by kernel_rfl, ?_⟩) hHeld ?_
            rotate_left
            · intro wz hSw; (try dsimp only at hSw); go_simp; all_goals (try with_reducible rfl)
            (try simp only [List.getElem_toArray]); (try simp only [List.getElem_cons_succ]); (try simp only [List.getElem_cons_zero]); (try simp only [Act.put]); (try simp only [List.setIfInBounds_toArray]); (try simp only [List.set_cons_succ]); (try simp only [List.set_cons_zero])
            refine wpAnyH_take (i := 1) (v := ?_) rfl (by kernel_rfl) (by kernel_rfl) (by kernel_rfl) (fun _ _ _ h => h) (Or.inl ⟨by kernel_rfl, ?_⟩) hHeld ?_
            rotate_left
            · intro wz hSw; (try dsimp only at hSw); go_simp; all_goals (try with_reducible rfl)
            (try simp only [List.getElem_toArray]); (try simp only [List.getElem_cons_succ]); (try simp only [List.getElem_cons_zero]); (try simp only [Act.put]); (try simp only [List.setIfInBounds_toArray]); (try simp only [List.set_cons_succ]); (try simp only [List.set_cons_zero])
            refine wpAnyH_take (i := 2) (v := ?_) rfl (by kernel_rfl) (by kernel_rfl) (by kernel_rfl) (fun _ _ _ h => h) (Or.inl ⟨by kernel_rfl, ?_⟩) hHeld ?_
            rotate_left
            · intro wz hSw; (try dsimp only at hSw); go_simp; all_goals (try with_reducible rfl)
            (try simp only [List.getElem_toArray]); (try simp only [List.getElem_cons_succ]); (try simp only [List.getElem_cons_zero]); (try simp only [Act.put]); (try simp only [List.setIfInBounds_toArray]); (try simp only [List.set_cons_succ]); (try simp only [List.set_cons_zero])
            refine wpAnyH_take (i := 3) (v := ?_) rfl (by kernel_rfl) (by kernel_rfl) (by kernel_rfl) (fun _ _ _ h => h) (Or.inl ⟨by kernel_rfl, ?_⟩) hHeld ?_
            rotate_left
            · intro wz hSw; (try dsimp only at hSw); go_simp; all_goals (try with_reducible rfl)
            (try simp only [List.getElem_toArray]); (try simp only [List.getElem_cons_succ]); (try simp only [List.getElem_cons_zero]); (try simp only [Act.put]); (try simp only [List.setIfInBounds_toArray]); (try simp only [List.set_cons_succ]); (try simp only [List.set_cons_zero])
            refine wpAnyH_take (i := 4) (v := ?_) rfl (by kernel_rfl) (by kernel_rfl) (by kernel_rfl) (fun _ _ _ h => h) (Or.inl ⟨by kernel_rfl, ?_⟩) hHeld ?_
            rotate_left
            · intro wz hSw; (try dsimp only at hSw); go_simp; all_goals (try with_reducible rfl)
            (try simp only [List.getElem_toArray]); (try simp only [List.getElem_cons_succ]); (try simp only [List.getElem_cons_zero]); (try simp only [Act.put]); (try simp only [List.setIfInBounds_toArray]); (try simp only [List.set_cons_succ]); (try simp only [List.set_cons_zero])
            refine wpAnyH_ready (rs := [5]) (by kernel_rfl) (by simp) (AllReadyH.cons rfl (fun Kc hKc => ?_) AllReadyH.nil)
            go_simp
            (go_at_call 14; refine (HLT1.out _).mono ?_; rintro e p1 ⟨rfl, hb⟩)
            replace c1 := cell_keep hb c1
            replace c2 := cell_keep hb c2
            replace c3 := cell_keep hb c3
            replace c4 := cell_keep hb c4
            replace HV := hidM (HV.out.below hb)
            replace K4 := hidM (K4.out.below hb)
            replace K6 := hidM (K6.out.below hb)
            replace HB := hidM (HB.out.trans (hb.mono HB.out.size))
            clear hb
            go_wp2_with fail
            refine hKc.out _ _ ⟨c1, c2, c3, c4⟩ (fun hHeld => ?_)
            clear hKc Kc
            (try simp only [List.getElem_toArray]); (try simp only [List.getElem_cons_succ]); (try simp only [List.getElem_cons_zero]); (try simp only [Act.put]); (try simp only [List.setIfInBounds_toArray]); (try simp only [List.set_cons_succ]); (try simp only [List.set_cons_zero])
            refine wpAnyH_done (by kernel_rfl) ?_ _
            refine NoPanic.normal ?_
            cases q1
            ·
              go_upto_region 30 with fail
              refine wp_region_noPanic ?_
              refine wp_region_held_drew (S := (fun w' => w'.cell? ⟨vb, voff + k * 2, none⟩ = some (.int .i64 x1) ∧ w'.cell? ⟨vb, voff + k * 2 + 1, none⟩ = some (.int .i64 x2) ∧ w'.cell? ⟨B4, 0, none⟩ = some (.int .i64 m1) ∧ w'.cell? ⟨B4, 1, none⟩ = some (.int .i64 m2))) (by kernel_rfl) ?_ (fun hHeld => ?_)
              · (try dsimp only)
                exact ⟨cell_dr c1, cell_dr c2, cell_dr c3, cell_dr c4⟩
              have hb := (Below.refl p1.heap.size p1).drew
              replace c1 := cell_dr c1
              replace c2 := cell_dr c2
              replace c3 := cell_dr c3
              replace c4 := cell_dr c4
              replace HV := hidM (HV.out.below hb)
              replace K4 := hidM (K4.out.below hb)
              replace K6 := hidM (K6.out.below hb)
              replace HB := hidM (HB.out.trans (hb.mono HB.out.size))
              clear hb
              obtain ⟨p2d, hwd⟩ : ∃ u, u = p1.drew := ⟨_, rfl⟩
              rw [← hwd] at HV K4 K6 HB c1 c2 c3 c4 hHeld ⊢
              clear hwd
              refine wpAnyH_take (i := 0) (v := ?_) rfl (by kernel_rfl) (by kernel_rfl) (by kernel_rfl) (fun _ _ _ h => h) (Or.inl ⟨by kernel_rfl, ?_⟩) hHeld ?_
              rotate_left
              · intro wz hSw; (try dsimp only at hSw); go_simp; all_goals (try with_reducible rfl)
              (try simp only [List.getElem_toArray]); (try simp only [List.getElem_cons_succ]); (try simp only [List.getElem_cons_zero]); (try simp only [Act.put]); (try simp only [List.setIfInBounds_toArray]); (try simp only [List.set_cons_succ]); (try simp only [List.set_cons_zero])
              refine wpAnyH_take (i := 1) (v := ?_) rfl (by kernel_rfl) (by kernel_rfl) (by kernel_rfl) (fun _ _ _ h => h) (Or.inl ⟨by kernel_rfl, ?_⟩) hHeld ?_
              rotate_left
              · intro wz hSw; (try dsimp only at hSw); go_simp; all_goals (try with_reducible rfl)
              (try simp only [List.getElem_toArray]); (try simp only [List.getElem_cons_succ]); (try simp only [List.getElem_cons_zero]); (try simp only [Act.put]); (try simp only [List.setIfInBounds_toArray]); (try simp only [List.set_cons_succ]); (try simp only [List.set_cons_zero])
              refine wpAnyH_take (i := 2) (v := ?_) rfl (by kernel_rfl) (by kernel_rfl) (by kernel_rfl) (fun _ _ _ h => h) (Or.inl ⟨by kernel_rfl, ?_⟩) hHeld ?_
              rotate_left
              · intro wz hSw; (try dsimp only at hSw); go_simp; all_goals (try with_reducible rfl)
              (try simp only [List.getElem_toArray]); (try simp only [List.getElem_cons_succ]); (try simp only [List.getElem_cons_zero]); (try simp only [Act.put]); (try simp only [List.setIfInBounds_toArray]); (try simp only [List.set_cons_succ]); (try simp only [List.set_cons_zero])
              refine wpAnyH_take (i := 3) (v := ?_) rfl (by kernel_rfl) (by kernel_rfl) (by kernel_rfl) (fun _ _ _ h => h) (Or.inl ⟨by kernel_rfl, ?_⟩) hHeld ?_
              rotate_left
              · intro wz hSw; (try dsimp only at hSw); go_simp; all_goals (try with_reducible rfl)
              (try simp only [List.getElem_toArray]); (try simp only [List.getElem_cons_succ]); (try simp only [List.getElem_cons_zero]); (try simp only [Act.put]); (try simp only [List.setIfInBounds_toArray]); (try simp only [List.set_cons_succ]); (try simp only [List.set_cons_zero])
              refine wpAnyH_take (i := 4) (v := ?_) rfl (by kernel_rfl) (by kernel_rfl) (by kernel_rfl) (fun _ _ _ h => h) (Or.inl ⟨by kernel_rfl, ?_⟩) hHeld ?_
              rotate_left
              · intro wz hSw; (try dsimp only at hSw); go_simp; all_goals (try with_reducible rfl)
              (try simp only [List.getElem_toArray]); (try simp only [List.getElem_cons_succ]); (try simp only [List.getElem_cons_zero]); (try simp only [Act.put]); (try simp only [List.setIfInBounds_toArray]); (try simp only [List.set_cons_succ]); (try simp only [List.set_cons_zero])
              refine wpAnyH_ready (rs := [5]) (by kernel_rfl) (by simp) (AllReadyH.cons rfl (fun Kc hKc => ?_) AllReadyH.nil)
              go_simp
              (go_at_call 14; refine (HLT2.out _).mono ?_; rintro e p2 ⟨rfl, hb⟩)
              replace c1 := cell_keep hb c1
              replace c2 := cell_keep hb c2
              replace c3 := cell_keep hb c3
              replace c4 := cell_keep hb c4
              replace HV := hidM (HV.out.below hb)
              replace K4 := hidM (K4.out.below hb)
              replace K6 := hidM (K6.out.below hb)
              replace HB := hidM (HB.out.trans (hb.mono HB.out.size))
              clear hb
              go_wp2_with fail
              refine hKc.out _ _ ⟨c1, c2, c3, c4⟩ (fun hHeld => ?_)
              clear hKc Kc
              (try simp only [List.getElem_toArray]); (try simp only [List.getElem_cons_succ]); (try simp only [List.getElem_cons_zero]); (try simp only [Act.put]); (try simp only [List.setIfInBounds_toArray]); (try simp only [List.set_cons_succ]); (try simp only [List.set_cons_zero])
              refine wpAnyH_done (by kernel_rfl) ?_ _
              refine NoPanic.normal ?_
              cases q2
              · have HN1 : Hid (cb (k + 1) = b) := by show _ = _; rw [HS1.out]; rfl
                have HN2 : Hid (ca (k + 1) = d) := by show _ = _; rw [HS2.out]; rfl
                clear c1 c2 c3 c4
                go_wp2
                go_roundw
                case rel => exact ⟨k + 1, by omega, by go_num, by rw [HN1.out] <;> first | rfl | go_num, by rw [HN2.out] <;> first | rfl | go_num, HV.out, K4.out, K6.out, HB.out⟩
                case measure => simp [intOf]; omega
              · have HN1 : Hid (cb (k + 1) = b) := by show _ = _; rw [HS1.out]; rfl
                have HN2 : Hid (ca (k + 1) = d + 1) := by show _ = _; rw [HS2.out]; rfl
                clear c1 c2 c3 c4
                go_wp2
                go_roundw
                case rel => exact ⟨k + 1, by omega, by go_num, by rw [HN1.out] <;> first | rfl | go_num, by rw [HN2.out] <;> first | rfl | go_num, HV.out, K4.out, K6.out, HB.out⟩
                case measure => simp [intOf]; omega
            ·
              go_upto_region 30 with fail
              refine wp_region_noPanic ?_
              refine wp_region_held_drew (S := (fun w' => w'.cell? ⟨vb, voff + k * 2, none⟩ = some (.int .i64 x1) ∧ w'.cell? ⟨vb, voff + k * 2 + 1, none⟩ = some (.int .i64 x2) ∧ w'.cell? ⟨B4, 0, none⟩ = some (.int .i64 m1) ∧ w'.cell? ⟨B4, 1, none⟩ = some (.int .i64 m2))) (by kernel_rfl) ?_ (fun hHeld => ?_)
              · (try dsimp only)
                exact ⟨cell_dr c1, cell_dr c2, cell_dr c3, cell_dr c4⟩
              have hb := (Below.refl p1.heap.size p1).drew
              replace c1 := cell_dr c1
              replace c2 := cell_dr c2
              replace c3 := cell_dr c3
              replace c4 := cell_dr c4
              replace HV := hidM (HV.out.below hb)
              replace K4 := hidM (K4.out.below hb)
              replace K6 := hidM (K6.out.below hb)
              replace HB := hidM (HB.out.trans (hb.mono HB.out.size))
              clear hb
              obtain ⟨p2d, hwd⟩ : ∃ u, u = p1.drew := ⟨_, rfl⟩
              rw [← hwd] at HV K4 K6 HB c1 c2 c3 c4 hHeld ⊢
              clear hwd
              refine wpAnyH_take (i := 0) (v := ?_) rfl (by kernel_rfl) (by kernel_rfl) (by kernel_rfl) (fun _ _ _ h => h) (Or.inl ⟨by kernel_rfl, ?_⟩) hHeld ?_
              rotate_left
              · intro wz hSw; (try dsimp only at hSw); go_simp; all_goals (try with_reducible rfl)
              (try simp only [List.getElem_toArray]); (try simp only [List.getElem_cons_succ]); (try simp only [List.getElem_cons_zero]); (try simp only [Act.put]); (try simp only [List.setIfInBounds_toArray]); (try simp only [List.set_cons_succ]); (try simp only [List.set_cons_zero])
              refine wpAnyH_take (i := 1) (v := ?_) rfl (by kernel_rfl) (by kernel_rfl) (by kernel_rfl) (fun _ _ _ h => h) (Or.inl ⟨by kernel_rfl, ?_⟩) hHeld ?_
              rotate_left
              · intro wz hSw; (try dsimp only at hSw); go_simp; all_goals (try with_reducible rfl)
              (try simp only [List.getElem_toArray]); (try simp only [List.getElem_cons_succ]); (try simp only [List.getElem_cons_zero]); (try simp only [Act.put]); (try simp only [List.setIfInBounds_toArray]); (try simp only [List.set_cons_succ]); (try simp only [List.set_cons_zero])
              refine wpAnyH_take (i := 2) (v := ?_) rfl (by kernel_rfl) (by kernel_rfl) (by kernel_rfl) (fun _ _ _ h => h) (Or.inl ⟨by kernel_rfl, ?_⟩) hHeld ?_
              rotate_left
              · intro wz hSw; (try dsimp only at hSw); go_simp; all_goals (try with_reducible rfl)
              (try simp only [List.getElem_toArray]); (try simp only [List.getElem_cons_succ]); (try simp only [List.getElem_cons_zero]); (try simp only [Act.put]); (try simp only [List.setIfInBounds_toArray]); (try simp only [List.set_cons_succ]); (try simp only [List.set_cons_zero])
              refine wpAnyH_take (i := 3) (v := ?_) rfl (by kernel_rfl) (by kernel_rfl) (by kernel_rfl) (fun _ _ _ h => h) (Or.inl ⟨by kernel_rfl, ?_⟩) hHeld ?_
              rotate_left
              · intro wz hSw; (try dsimp only at hSw); go_simp; all_goals (try with_reducible rfl)
              (try simp only [List.getElem_toArray]); (try simp only [List.getElem_cons_succ]); (try simp only [List.getElem_cons_zero]); (try simp only [Act.put]); (try simp only [List.setIfInBounds_toArray]); (try simp only [List.set_cons_succ]); (try simp only [List.set_cons_zero])
              refine wpAnyH_take (i := 4) (v := ?_) rfl (by kernel_rfl) (by kernel_rfl) (by kernel_rfl) (fun _ _ _ h => h) (Or.inl ⟨by kernel_rfl, ?_⟩) hHeld ?_
              rotate_left
              · intro wz hSw; (try dsimp only at hSw); go_simp; all_goals (try with_reducible rfl)
              (try simp only [List.getElem_toArray]); (try simp only [List.getElem_cons_succ]); (try simp only [List.getElem_cons_zero]); (try simp only [Act.put]); (try simp only [List.setIfInBounds_toArray]); (try simp only [List.set_cons_succ]); (try simp only [List.set_cons_zero])
              refine wpAnyH_ready (rs := [5]) (by kernel_rfl) (by simp) (AllReadyH.cons rfl (fun Kc hKc => ?_) AllReadyH.nil)
              go_simp
              (go_at_call 14; refine (HLT2.out _).mono ?_; rintro e p2 ⟨rfl, hb⟩)
              replace c1 := cell_keep hb c1
              replace c2 := cell_keep hb c2
              replace c3 := cell_keep hb c3
              replace c4 := cell_keep hb c4
              replace HV := hidM (HV.out.below hb)
              replace K4 := hidM (K4.out.below hb)
              replace K6 := hidM (K6.out.below hb)
              replace HB := hidM (HB.out.trans (hb.mono HB.out.size))
              clear hb
              go_wp2_with fail
              refine hKc.out _ _ ⟨c1, c2, c3, c4⟩ (fun hHeld => ?_)
              clear hKc Kc
              (try simp only [List.getElem_toArray]); (try simp only [List.getElem_cons_succ]); (try simp only [List.getElem_cons_zero]); (try simp only [Act.put]); (try simp only [List.setIfInBounds_toArray]); (try simp only [List.set_cons_succ]); (try simp only [List.set_cons_zero])
              refine wpAnyH_done (by kernel_rfl) ?_ _
              refine NoPanic.normal ?_
              cases q2
              · have HN1 : Hid (cb (k + 1) = b + 1) := by show _ = _; rw [HS1.out]; rfl
                have HN2 : Hid (ca (k + 1) = d) := by show _ = _; rw [HS2.out]; rfl
                clear c1 c2 c3 c4
                go_wp2
                go_roundw
                case rel => exact ⟨k + 1, by omega, by go_num, by rw [HN1.out] <;> first | rfl | go_num, by rw [HN2.out] <;> first | rfl | go_num, HV.out, K4.out, K6.out, HB.out⟩
                case measure => simp [intOf]; omega
              · have HN1 : Hid (cb (k + 1) = b + 1) := by show _ = _; rw [HS1.out]; rfl
                have HN2 : Hid (ca (k + 1) = d + 1) := by show _ = _; rw [HS2.out]; rfl
                clear c1 c2 c3 c4
                go_wp2
                go_roundw
                case rel => exact ⟨k + 1, by omega, by go_num, by rw [HN1.out] <;> first | rfl | go_num, by rw [HN2.out] <;> first | rfl | go_num, HV.out, K4.out, K6.out, HB.out⟩
                case measure => simp [intOf]; omega
          · obtain rfl : k = ls.length := by omega
            have hb1' := hb1.out
            have hb2' := hb2.out
            have f0 := K6.out.cell 0 rfl
            have f1 := K6.out.cell 1 rfl
            have hnn : o2 = true → ¬ s1 < 0 := fun h => by have := HNN.out h; omega
            obtain ⟨b, hb9⟩ : ∃ b, b = cb ls.length := ⟨_, rfl⟩
            obtain ⟨d, hd9⟩ : ∃ b, b = ca ls.length := ⟨_, rfl⟩
            rw [← hb9] at hb1' hcb1 ⊢
            rw [← hd9] at hb2' hca1 ⊢
            clear hb9 hd9 hb1 hb2 HSB HSA HLB HLA HZB HZA HNN hlt
            go_upto_region 32 with fail
            go_cut [176] from 157 to 176 (fun s wx => s = .bool false ∧ Hid (wx = wr))
            case first =>
              cases o2
              · go_wp2_with fail
                go_meet
                case rel => exact ⟨(by rw [decide_eq_false (show ¬ (ls.length : Int) < 2 * (b : Int) by omega), decide_eq_false (show ¬ (ls.length : Int) < 2 * (d : Int) by omega)] <;> rfl), rfl⟩
              · have hs1 := hnn rfl
                go_wp2_with fail
                go_meet
                case rel => exact ⟨(by rw [decide_eq_false (show ¬ (ls.length : Int) < 2 * (b : Int) by omega), decide_eq_false (show ¬ (ls.length : Int) < 2 * (d : Int) by omega)] <;> rfl), rfl⟩
            case rest =>
              clear hnn f0 f1
              obtain ⟨rfl, hwx2⟩ := hcut
              have hwx3 := hwx2.out.symm
              subst hwx3
              clear K6 hb1' hb2' hcb1 hca1
              have hNB := HB.out.size
              have HLV := hidM (rdR_lt HV.out)
              obtain ⟨N, hN⟩ : ∃ N, N = wr.heap.size := ⟨_, rfl⟩
              have H4N : Hid (B4 < N) := by show _ < _; rw [hN]; exact K4.out.lt
              rw [← hN] at HLV hNB
              have HE := hidM (litM wr N (by omega))
              have hb := bM wr (.cells #[] 27)
              obtain ⟨GG, hG⟩ : ∃ G, G = mrL ls (3, 1) := ⟨_, rfl⟩
              obtain ⟨QQ, hQ⟩ : ∃ Q, Q = mrG ls (3, 1) := ⟨_, rfl⟩
              have HG0 : Hid (GG 0 = []) := by show _ = _; rw [hG]; rfl
              have HQ0 : Hid (QQ 0 = true) := by show _ = _; rw [hQ]; rfl
              have HGS : Hid (∀ k, GG (k + 1) = GG k ++ [addP (fr ls k) (3, 1)]) := by intro k; rw [hG]; rfl
              have HQS : Hid (∀ k, QQ (k + 1) = (QQ k && addK (fr ls k) (3, 1))) := by intro k; rw [hQ]; rfl
              have HGL : Hid (∀ k, (GG k).length = k) := by intro k; rw [hG]; exact mrL_len _ _ k
              rw [← hG, ← hQ] at HADD
              clear hG hQ
              go_wp2
              go_loopw [19, 20, 21] (fun mv gd i wr => ∃ (o : Value) (k : Nat), k ≤ ls.length ∧ i = .int .i64 k ∧ o = mv ∧ gd = .bool (QQ k) ∧ N ≤ wr.heap.size ∧ Hid (wr.ownsRow N 27 2 o k (cellsR (GG k))) ∧ Hid (RdR wr (.slice va ls.length vc) ls) ∧ Hid (IsB wr B4 #[.int .i64 m1, .int .i64 m2] 27) ∧ Hid (Below w.heap.size w wr)) (fun _ _ i _ => ls.length - (intOf i).toNat)
              case atStart => exact ⟨_, 0, by omega, rfl, rfl, by rw [HQ0.out], by have := hb.size; omega, by show World.ownsRow _ _ _ _ _ _ _; rw [HG0.out]; exact HE.out, HV.out.below hb, K4.out.below hb, HB.out.trans (hb.mono HB.out.size)⟩
              case round =>
                clear HV K4 HB HE hb hN hwx2
                obtain ⟨o, k, hk, rfl, rfl, rfl, hNW, HO, HV, K4, HB⟩ := hrel
                have hl200 := HGO.out
                by_cases hlt : k < ls.length
                · have HGk := hidM (HGS.out k)
                  have HQk := hidM (HQS.out k)
                  have HLk := hidM (HGL.out k)
                  obtain ⟨vb, voff, hva, c0, c1⟩ : ∃ b off, va = some ⟨b, off, none⟩ ∧ wr.cell? ⟨b, off + k * 2, none⟩ = some (.int .i64 (fr ls k).1) ∧ wr.cell? ⟨b, off + k * 2 + 1, none⟩ = some (.int .i64 (fr ls k).2) := by
                    obtain ⟨a', c', he, _, _, _, h5⟩ := HV.out
                    injection he with h1 _ _
                    rw [h1]
                    exact h5 k hlt
                  subst hva
                  have hvbN : vb < N := HLV.out vb voff _ _ rfl (by omega)
                  obtain ⟨x, hx⟩ : ∃ x, x = fr ls k := ⟨_, rfl⟩
                  rw [← hx] at c0 c1 HGk HQk
                  obtain ⟨F, hF⟩ : ∃ b, b = GG k := ⟨_, rfl⟩
                  obtain ⟨g, hg⟩ : ∃ b, b = QQ k := ⟨_, rfl⟩
                  rw [← hF] at HGk HLk HO
                  rw [← hg] at HQk ⊢
                  obtain ⟨p, hp⟩ : ∃ p, p = addP x (3, 1) := ⟨_, rfl⟩
                  obtain ⟨y, hy⟩ : ∃ p, p = addK x (3, 1) := ⟨_, rfl⟩
                  obtain ⟨x1, x2⟩ := x
                  have HAX : Hid (∀ W, Calls Try.prog 15 #[.agg #[.int .i64 x1, .int .i64 x2], .agg #[.int .i64 3, .int .i64 1]] W fun e w' => e = .returned (.tuple #[.agg #[.int .i64 p.1, .int .i64 p.2], .bool y]) ∧ Below W.heap.size W w') := by
                    intro W; rw [hp, hy]; exact sAdd_any x1 x2 3 1 W
                  rw [← hp] at HGk
                  rw [← hy] at HQk
                  clear hp hy hx hF hg
                  obtain ⟨p1, p2⟩ := p
                  dsimp only at HAX c0 c1
                  go_upto_region 39 with fail
                  go_cut [22, 23] from 184 to 192 (fun s22 s23 wx => ∃ T : Nat, s22 = .pointer (some ⟨T, 0, none⟩) ∧ s23 = .bool y ∧ N ≤ T ∧ Hid (IsB wx T #[.int .i64 p1, .int .i64 p2] 27) ∧ Hid (wx.ownsRow N 27 2 o k (cellsR F)) ∧ Hid (RdR wx (.slice (some ⟨vb, voff, none⟩) ls.length vc) ls) ∧ Hid (IsB wx B4 #[.int .i64 m1, .int .i64 m2] 27) ∧ Hid (Below w.heap.size w wx))
                  case first =>
                    have hb := (Below.refl wr.heap.size wr).drew
                    refine wp_region_noPanic ?_
                    refine wp_region_held_drew (S := (fun w' => w'.cell? ⟨vb, voff + k * 2, none⟩ = some (.int .i64 x1) ∧ w'.cell? ⟨vb, voff + k * 2 + 1, none⟩ = some (.int .i64 x2))) (by kernel_rfl) ?_ (fun hHeld => ?_)
                    · (try dsimp only)
                      exact ⟨cell_dr c0, cell_dr c1⟩
                    replace c0 := cell_dr c0
                    replace c1 := cell_dr c1
                    replace hNW := Nat.le_trans hNW hb.size
                    replace HV := hidM (HV.out.below hb)
                    replace K4 := hidM (K4.out.below hb)
                    replace HO := hidM (own_below HO.out hb)
                    replace HB := hidM (HB.out.trans (hb.mono HB.out.size))
                    clear hb
                    obtain ⟨wdq1, hwd⟩ : ∃ u, u = wr.drew := ⟨_, rfl⟩
                    rw [← hwd] at HV K4 HO HB c0 c1 hNW hHeld ⊢
                    clear hwd
                    refine wpAnyH_take (i := 0) (v := ?_) rfl (by kernel_rfl) (by kernel_rfl) (by kernel_rfl) (fun _ _ _ h => h) (Or.inl ⟨by kernel_rfl, ?_⟩) hHeld ?_
                    rotate_left
                    · intro wz hSw; (try dsimp only at hSw); go_simp; all_goals (try with_reducible rfl)
                    (try simp only [List.getElem_toArray]); (try simp only [List.getElem_cons_succ]); (try simp only [List.getElem_cons_zero]); (try simp only [Act.put]); (try simp only [List.setIfInBounds_toArray]); (try simp only [List.set_cons_succ]); (try simp only [List.set_cons_zero])
                    refine wpAnyH_take (i := 1) (v := ?_) rfl (by kernel_rfl) (by kernel_rfl) (by kernel_rfl) (fun _ _ _ h => h) (Or.inl ⟨by kernel_rfl, ?_⟩) hHeld ?_
                    rotate_left
                    · intro wz hSw; (try dsimp only at hSw); go_simp; all_goals (try with_reducible rfl)
                    (try simp only [List.getElem_toArray]); (try simp only [List.getElem_cons_succ]); (try simp only [List.getElem_cons_zero]); (try simp only [Act.put]); (try simp only [List.setIfInBounds_toArray]); (try simp only [List.set_cons_succ]); (try simp only [List.set_cons_zero])
                    refine wpAnyH_take (i := 2) (v := ?_) rfl (by kernel_rfl) (by kernel_rfl) (by kernel_rfl) (fun _ _ _ h => h) (Or.inl ⟨by kernel_rfl, ?_⟩) hHeld ?_
                    rotate_left
                    · intro wz hSw; (try dsimp only at hSw); go_simp; all_goals (try with_reducible rfl)
                    (try simp only [List.getElem_toArray]); (try simp only [List.getElem_cons_succ]); (try simp only [List.getElem_cons_zero]); (try simp only [Act.put]); (try simp only [List.setIfInBounds_toArray]); (try simp only [List.set_cons_succ]); (try simp only [List.set_cons_zero])
                    refine wpAnyH_take (i := 3) (v := ?_) rfl (by kernel_rfl) (by kernel_rfl) (by kernel_rfl) (fun _ _ _ h => h) (Or.inl ⟨by kernel_rfl, ?_⟩) hHeld ?_
                    rotate_left
                    · intro wz hSw; (try dsimp only at hSw); go_simp; all_goals (try with_reducible rfl)
                    (try simp only [List.getElem_toArray]); (try simp only [List.getElem_cons_succ]); (try simp only [List.getElem_cons_zero]); (try simp only [Act.put]); (try simp only [List.setIfInBounds_toArray]); (try simp only [List.set_cons_succ]); (try simp only [List.set_cons_zero])
                    refine wpAnyH_ready (rs := [4, 9]) (by kernel_rfl) (by simp) (AllReadyH.cons rfl (fun Kc hKc => ?_) (AllReadyH.cons rfl (fun Kc hKc => ?_) AllReadyH.nil))
                    ·
                      go_simp
                      (go_at_call 16; refine (whole_any 3 _).mono ?_; rintro e q2 ⟨rfl, hw⟩)
                      have hb : Below wdq1.heap.size wdq1 q2 := by rw [hw]; exact bM _ _
                      clear hw
                      replace c0 := cell_keep hb c0
                      replace c1 := cell_keep hb c1
                      replace hNW := Nat.le_trans hNW hb.size
                      replace HV := hidM (HV.out.below hb)
                      replace K4 := hidM (K4.out.below hb)
                      replace HO := hidM (own_below HO.out hb)
                      replace HB := hidM (HB.out.trans (hb.mono HB.out.size))
                      clear hb
                      go_wp2_with fail
                      refine hKc.out _ _ ⟨c0, c1⟩ (fun hHeld => ?_)
                      clear hKc Kc
                      (try simp only [List.getElem_toArray]); (try simp only [List.getElem_cons_succ]); (try simp only [List.getElem_cons_zero]); (try simp only [Act.put]); (try simp only [List.setIfInBounds_toArray]); (try simp only [List.set_cons_succ]); (try simp only [List.set_cons_zero])
                      refine wpAnyH_ready (rs := [5, 9]) (by kernel_rfl) (by simp) (AllReadyH.cons rfl (fun Kc hKc => ?_) (AllReadyH.cons rfl (fun Kc hKc => ?_) AllReadyH.nil))
                      ·
                        go_simp
                        (go_at_call 15; refine (HAX.out _).mono ?_; rintro e q3 ⟨rfl, hb⟩)
                        replace c0 := cell_keep hb c0
                        replace c1 := cell_keep hb c1
                        replace hNW := Nat.le_trans hNW hb.size
                        replace HV := hidM (HV.out.below hb)
                        replace K4 := hidM (K4.out.below hb)
                        replace HO := hidM (own_below HO.out hb)
                        replace HB := hidM (HB.out.trans (hb.mono HB.out.size))
                        clear hb
                        go_wp2_with fail
                        refine hKc.out _ _ ⟨c0, c1⟩ (fun hHeld => ?_)
                        clear hKc Kc
                        (try simp only [List.getElem_toArray]); (try simp only [List.getElem_cons_succ]); (try simp only [List.getElem_cons_zero]); (try simp only [Act.put]); (try simp only [List.setIfInBounds_toArray]); (try simp only [List.set_cons_succ]); (try simp only [List.set_cons_zero])
                        refine wpAnyH_take (i := 6) (v := ?_) rfl (by kernel_rfl) (by kernel_rfl) (by kernel_rfl) (fun _ _ _ h => h) (Or.inl ⟨by kernel_rfl, ?_⟩) hHeld ?_
                        rotate_left
                        · intro wz hSw; (try dsimp only at hSw); go_simp; all_goals (try with_reducible rfl)
                        (try simp only [List.getElem_toArray]); (try simp only [List.getElem_cons_succ]); (try simp only [List.getElem_cons_zero]); (try simp only [Act.put]); (try simp only [List.setIfInBounds_toArray]); (try simp only [List.set_cons_succ]); (try simp only [List.set_cons_zero])
                        refine wpAnyH_take (i := 7) (v := ?_) rfl (by kernel_rfl) (by kernel_rfl) (by kernel_rfl) (fun _ _ _ h => h) (Or.inl ⟨by kernel_rfl, ?_⟩) hHeld ?_
                        rotate_left
                        · intro wz hSw; (try dsimp only at hSw); go_simp; all_goals (try with_reducible rfl)
                        (try simp only [List.getElem_toArray]); (try simp only [List.getElem_cons_succ]); (try simp only [List.getElem_cons_zero]); (try simp only [Act.put]); (try simp only [List.setIfInBounds_toArray]); (try simp only [List.set_cons_succ]); (try simp only [List.set_cons_zero])
                        refine wpAnyH_take (i := 8) (v := ?_) rfl (by kernel_rfl) (by kernel_rfl) (by kernel_rfl) (fun _ _ _ h => h) (Or.inl ⟨by kernel_rfl, ?_⟩) hHeld ?_
                        rotate_left
                        · intro wz hSw; (try dsimp only at hSw); go_simp; all_goals (try with_reducible rfl)
                        (try simp only [List.getElem_toArray]); (try simp only [List.getElem_cons_succ]); (try simp only [List.getElem_cons_zero]); (try simp only [Act.put]); (try simp only [List.setIfInBounds_toArray]); (try simp only [List.set_cons_succ]); (try simp only [List.set_cons_zero])
                        refine wpAnyH_ready (rs := [9]) (by kernel_rfl) (by simp) (AllReadyH.cons rfl (fun Kc hKc => ?_) AllReadyH.nil)
                        go_simp
                        obtain ⟨Ab, hA'⟩ : ∃ A, A = q3.heap.size := ⟨_, rfl⟩
                        obtain ⟨q4, hu⟩ : ∃ u, u = q3.alloc (.cells #[.int .i64 0, .int .i64 0] 27) := ⟨_, rfl⟩
                        have hb : Below q3.heap.size q3 q4 := by rw [hu]; exact bM _ _
                        have KA : Hid (IsB q4 Ab #[.int .i64 0, .int .i64 0] 27) := by show IsB _ _ _ _; rw [hu, hA']; exact IsB.new _ _ _
                        have hAN : N ≤ Ab := by rw [hA']; exact hNW
                        have hAB : vb ≠ Ab := by have := World.block_lt_of_cell? q3 _ c0; dsimp only at this; omega
                        have hOA : Hid (∀ j, o.ownBlock = some j → j < Ab) := fun j e => by have := (World.ownsRow.lt HO.out j e).2; omega
                        rw [← hu, ← hA']
                        replace c0 := cell_keep hb c0
                        replace c1 := cell_keep hb c1
                        replace hNW := Nat.le_trans hNW hb.size
                        replace HV := hidM (HV.out.below hb)
                        replace K4 := hidM (K4.out.below hb)
                        replace HO := hidM (own_below HO.out hb)
                        replace HB := hidM (HB.out.trans (hb.mono HB.out.size))
                        clear hb
                        clear hu hA'
                        refine hKc.out _ _ ⟨c0, c1⟩ (fun hHeld => ?_)
                        clear hKc Kc
                        (try simp only [List.getElem_toArray]); (try simp only [List.getElem_cons_succ]); (try simp only [List.getElem_cons_zero]); (try simp only [Act.put]); (try simp only [List.setIfInBounds_toArray]); (try simp only [List.set_cons_succ]); (try simp only [List.set_cons_zero])
                        have f0 := KA.out.frozen 0
                        have f1 := KA.out.frozen 1
                        have g0 := KA.out.cell 0 rfl
                        have g1 := KA.out.cell 1 rfl
                        refine wpAnyH_ready (rs := [10]) (by kernel_rfl) (by simp) (AllReadyH.cons rfl (fun Kc hKc => ?_) AllReadyH.nil)
                        go_simp
                        replace c0 := cell_stb (cell_stb c0 hAB (q := 0) (u := .int .i64 p1)) hAB (q := 1) (u := .int .i64 p2)
                        replace c1 := cell_stb (cell_stb c1 hAB (q := 0) (u := .int .i64 p1)) hAB (q := 1) (u := .int .i64 p2)
                        refine hKc.out _ _ ⟨c0, c1⟩ (fun hHeld => ?_)
                        clear hKc Kc
                        (try simp only [List.getElem_toArray]); (try simp only [List.getElem_cons_succ]); (try simp only [List.getElem_cons_zero]); (try simp only [Act.put]); (try simp only [List.setIfInBounds_toArray]); (try simp only [List.set_cons_succ]); (try simp only [List.set_cons_zero])
                        refine wpAnyH_take (i := 11) (v := ?_) rfl (by kernel_rfl) (by kernel_rfl) (by kernel_rfl) (fun _ _ _ h => h) (Or.inl ⟨by kernel_rfl, ?_⟩) hHeld ?_
                        rotate_left
                        · intro wz hSw; (try dsimp only at hSw); go_simp; all_goals (try with_reducible rfl)
                        (try simp only [List.getElem_toArray]); (try simp only [List.getElem_cons_succ]); (try simp only [List.getElem_cons_zero]); (try simp only [Act.put]); (try simp only [List.setIfInBounds_toArray]); (try simp only [List.set_cons_succ]); (try simp only [List.set_cons_zero])
                        refine wpAnyH_done (by kernel_rfl) ?_ _
                        refine NoPanic.normal ?_
                        go_wp2_with fail
                        go_meet
                        case rel => exact ⟨Ab, rfl, rfl, hAN, (KA.out.set 0 _).set 1 _, own_stM (own_stM HO.out hOA.out 0 _) hOA.out 1 _, rdR_st (rdR_st HV.out (fun b off c n e h => by have := HLV.out b off c n e h; omega) 0 _) (fun b off c n e h => by have := HLV.out b off c n e h; omega) 1 _, (K4.out.other (by have := H4N.out; omega) 0 _).other (by have := H4N.out; omega) 1 _, (HB.out.setCell (p := ⟨Ab, 0, none⟩) (show w.heap.size ≤ Ab by omega) _).setCell (p := ⟨Ab, 1, none⟩) (show w.heap.size ≤ Ab by omega) _⟩
                      ·
                        go_simp
                        obtain ⟨Ab, hA'⟩ : ∃ A, A = q2.heap.size := ⟨_, rfl⟩
                        obtain ⟨q5, hu⟩ : ∃ u, u = q2.alloc (.cells #[.int .i64 0, .int .i64 0] 27) := ⟨_, rfl⟩
                        have hb : Below q2.heap.size q2 q5 := by rw [hu]; exact bM _ _
                        have KA : Hid (IsB q5 Ab #[.int .i64 0, .int .i64 0] 27) := by show IsB _ _ _ _; rw [hu, hA']; exact IsB.new _ _ _
                        have hAN : N ≤ Ab := by rw [hA']; exact hNW
                        have hAB : vb ≠ Ab := by have := World.block_lt_of_cell? q2 _ c0; dsimp only at this; omega
                        have hOA : Hid (∀ j, o.ownBlock = some j → j < Ab) := fun j e => by have := (World.ownsRow.lt HO.out j e).2; omega
                        rw [← hu, ← hA']
                        replace c0 := cell_keep hb c0
                        replace c1 := cell_keep hb c1
                        replace hNW := Nat.le_trans hNW hb.size
                        replace HV := hidM (HV.out.below hb)
                        replace K4 := hidM (K4.out.below hb)
                        replace HO := hidM (own_below HO.out hb)
                        replace HB := hidM (HB.out.trans (hb.mono HB.out.size))
                        clear hb
                        clear hu hA'
                        refine hKc.out _ _ ⟨c0, c1⟩ (fun hHeld => ?_)
                        clear hKc Kc
                        (try simp only [List.getElem_toArray]); (try simp only [List.getElem_cons_succ]); (try simp only [List.getElem_cons_zero]); (try simp only [Act.put]); (try simp only [List.setIfInBounds_toArray]); (try simp only [List.set_cons_succ]); (try simp only [List.set_cons_zero])
                        refine wpAnyH_ready (rs := [5]) (by kernel_rfl) (by simp) (AllReadyH.cons rfl (fun Kc hKc => ?_) AllReadyH.nil)
                        go_simp
                        (go_at_call 15; refine (HAX.out _).mono ?_; rintro e q6 ⟨rfl, hb⟩)
                        replace c0 := cell_keep hb c0
                        replace c1 := cell_keep hb c1
                        replace hNW := Nat.le_trans hNW hb.size
                        replace HV := hidM (HV.out.below hb)
                        replace K4 := hidM (K4.out.below hb)
                        replace KA := hidM (KA.out.below hb)
                        replace HO := hidM (own_below HO.out hb)
                        replace HB := hidM (HB.out.trans (hb.mono HB.out.size))
                        clear hb
                        go_wp2_with fail
                        refine hKc.out _ _ ⟨c0, c1⟩ (fun hHeld => ?_)
                        clear hKc Kc
                        (try simp only [List.getElem_toArray]); (try simp only [List.getElem_cons_succ]); (try simp only [List.getElem_cons_zero]); (try simp only [Act.put]); (try simp only [List.setIfInBounds_toArray]); (try simp only [List.set_cons_succ]); (try simp only [List.set_cons_zero])
                        refine wpAnyH_take (i := 6) (v := ?_) rfl (by kernel_rfl) (by kernel_rfl) (by kernel_rfl) (fun _ _ _ h => h) (Or.inl ⟨by kernel_rfl, ?_⟩) hHeld ?_
                        rotate_left
                        · intro wz hSw; (try dsimp only at hSw); go_simp; all_goals (try with_reducible rfl)
                        (try simp only [List.getElem_toArray]); (try simp only [List.getElem_cons_succ]); (try simp only [List.getElem_cons_zero]); (try simp only [Act.put]); (try simp only [List.setIfInBounds_toArray]); (try simp only [List.set_cons_succ]); (try simp only [List.set_cons_zero])
                        refine wpAnyH_take (i := 7) (v := ?_) rfl (by kernel_rfl) (by kernel_rfl) (by kernel_rfl) (fun _ _ _ h => h) (Or.inl ⟨by kernel_rfl, ?_⟩) hHeld ?_
                        rotate_left
                        · intro wz hSw; (try dsimp only at hSw); go_simp; all_goals (try with_reducible rfl)
                        (try simp only [List.getElem_toArray]); (try simp only [List.getElem_cons_succ]); (try simp only [List.getElem_cons_zero]); (try simp only [Act.put]); (try simp only [List.setIfInBounds_toArray]); (try simp only [List.set_cons_succ]); (try simp only [List.set_cons_zero])
                        refine wpAnyH_take (i := 8) (v := ?_) rfl (by kernel_rfl) (by kernel_rfl) (by kernel_rfl) (fun _ _ _ h => h) (Or.inl ⟨by kernel_rfl, ?_⟩) hHeld ?_
                        rotate_left
                        · intro wz hSw; (try dsimp only at hSw); go_simp; all_goals (try with_reducible rfl)
                        (try simp only [List.getElem_toArray]); (try simp only [List.getElem_cons_succ]); (try simp only [List.getElem_cons_zero]); (try simp only [Act.put]); (try simp only [List.setIfInBounds_toArray]); (try simp only [List.set_cons_succ]); (try simp only [List.set_cons_zero])
                        have f0 := KA.out.frozen 0
                        have f1 := KA.out.frozen 1
                        have g0 := KA.out.cell 0 rfl
                        have g1 := KA.out.cell 1 rfl
                        refine wpAnyH_ready (rs := [10]) (by kernel_rfl) (by simp) (AllReadyH.cons rfl (fun Kc hKc => ?_) AllReadyH.nil)
                        go_simp
                        replace c0 := cell_stb (cell_stb c0 hAB (q := 0) (u := .int .i64 p1)) hAB (q := 1) (u := .int .i64 p2)
                        replace c1 := cell_stb (cell_stb c1 hAB (q := 0) (u := .int .i64 p1)) hAB (q := 1) (u := .int .i64 p2)
                        refine hKc.out _ _ ⟨c0, c1⟩ (fun hHeld => ?_)
                        clear hKc Kc
                        (try simp only [List.getElem_toArray]); (try simp only [List.getElem_cons_succ]); (try simp only [List.getElem_cons_zero]); (try simp only [Act.put]); (try simp only [List.setIfInBounds_toArray]); (try simp only [List.set_cons_succ]); (try simp only [List.set_cons_zero])
                        refine wpAnyH_take (i := 11) (v := ?_) rfl (by kernel_rfl) (by kernel_rfl) (by kernel_rfl) (fun _ _ _ h => h) (Or.inl ⟨by kernel_rfl, ?_⟩) hHeld ?_
                        rotate_left
                        · intro wz hSw; (try dsimp only at hSw); go_simp; all_goals (try with_reducible rfl)
                        (try simp only [List.getElem_toArray]); (try simp only [List.getElem_cons_succ]); (try simp only [List.getElem_cons_zero]); (try simp only [Act.put]); (try simp only [List.setIfInBounds_toArray]); (try simp only [List.set_cons_succ]); (try simp only [List.set_cons_zero])
                        refine wpAnyH_done (by kernel_rfl) ?_ _
                        refine NoPanic.normal ?_
                        go_wp2_with fail
                        go_meet
                        case rel => exact ⟨Ab, rfl, rfl, hAN, (KA.out.set 0 _).set 1 _, own_stM (own_stM HO.out hOA.out 0 _) hOA.out 1 _, rdR_st (rdR_st HV.out (fun b off c n e h => by have := HLV.out b off c n e h; omega) 0 _) (fun b off c n e h => by have := HLV.out b off c n e h; omega) 1 _, (K4.out.other (by have := H4N.out; omega) 0 _).other (by have := H4N.out; omega) 1 _, (HB.out.setCell (p := ⟨Ab, 0, none⟩) (show w.heap.size ≤ Ab by omega) _).setCell (p := ⟨Ab, 1, none⟩) (show w.heap.size ≤ Ab by omega) _⟩
                    ·
                      go_simp
                      obtain ⟨Ab, hA'⟩ : ∃ A, A = wdq1.heap.size := ⟨_, rfl⟩
                      obtain ⟨q7, hu⟩ : ∃ u, u = wdq1.alloc (.cells #[.int .i64 0, .int .i64 0] 27) := ⟨_, rfl⟩
                      have hb : Below wdq1.heap.size wdq1 q7 := by rw [hu]; exact bM _ _
                      have KA : Hid (IsB q7 Ab #[.int .i64 0, .int .i64 0] 27) := by show IsB _ _ _ _; rw [hu, hA']; exact IsB.new _ _ _
                      have hAN : N ≤ Ab := by rw [hA']; exact hNW
                      have hAB : vb ≠ Ab := by have := World.block_lt_of_cell? wdq1 _ c0; dsimp only at this; omega
                      have hOA : Hid (∀ j, o.ownBlock = some j → j < Ab) := fun j e => by have := (World.ownsRow.lt HO.out j e).2; omega
                      rw [← hu, ← hA']
                      replace c0 := cell_keep hb c0
                      replace c1 := cell_keep hb c1
                      replace hNW := Nat.le_trans hNW hb.size
                      replace HV := hidM (HV.out.below hb)
                      replace K4 := hidM (K4.out.below hb)
                      replace HO := hidM (own_below HO.out hb)
                      replace HB := hidM (HB.out.trans (hb.mono HB.out.size))
                      clear hb
                      clear hu hA'
                      refine hKc.out _ _ ⟨c0, c1⟩ (fun hHeld => ?_)
                      clear hKc Kc
                      (try simp only [List.getElem_toArray]); (try simp only [List.getElem_cons_succ]); (try simp only [List.getElem_cons_zero]); (try simp only [Act.put]); (try simp only [List.setIfInBounds_toArray]); (try simp only [List.set_cons_succ]); (try simp only [List.set_cons_zero])
                      refine wpAnyH_ready (rs := [4]) (by kernel_rfl) (by simp) (AllReadyH.cons rfl (fun Kc hKc => ?_) AllReadyH.nil)
                      go_simp
                      (go_at_call 16; refine (whole_any 3 _).mono ?_; rintro e q8 ⟨rfl, hw⟩)
                      have hb : Below q7.heap.size q7 q8 := by rw [hw]; exact bM _ _
                      clear hw
                      replace c0 := cell_keep hb c0
                      replace c1 := cell_keep hb c1
                      replace hNW := Nat.le_trans hNW hb.size
                      replace HV := hidM (HV.out.below hb)
                      replace K4 := hidM (K4.out.below hb)
                      replace KA := hidM (KA.out.below hb)
                      replace HO := hidM (own_below HO.out hb)
                      replace HB := hidM (HB.out.trans (hb.mono HB.out.size))
                      clear hb
                      go_wp2_with fail
                      refine hKc.out _ _ ⟨c0, c1⟩ (fun hHeld => ?_)
                      clear hKc Kc
                      (try simp only [List.getElem_toArray]); (try simp only [List.getElem_cons_succ]); (try simp only [List.getElem_cons_zero]); (try simp only [Act.put]); (try simp only [List.setIfInBounds_toArray]); (try simp only [List.set_cons_succ]); (try simp only [List.set_cons_zero])
                      refine wpAnyH_ready (rs := [5]) (by kernel_rfl) (by simp) (AllReadyH.cons rfl (fun Kc hKc => ?_) AllReadyH.nil)
                      go_simp
                      (go_at_call 15; refine (HAX.out _).mono ?_; rintro e q9 ⟨rfl, hb⟩)
                      replace c0 := cell_keep hb c0
                      replace c1 := cell_keep hb c1
                      replace hNW := Nat.le_trans hNW hb.size
                      replace HV := hidM (HV.out.below hb)
                      replace K4 := hidM (K4.out.below hb)
                      replace KA := hidM (KA.out.below hb)
                      replace HO := hidM (own_below HO.out hb)
                      replace HB := hidM (HB.out.trans (hb.mono HB.out.size))
                      clear hb
                      go_wp2_with fail
                      refine hKc.out _ _ ⟨c0, c1⟩ (fun hHeld => ?_)
                      clear hKc Kc
                      (try simp only [List.getElem_toArray]); (try simp only [List.getElem_cons_succ]); (try simp only [List.getElem_cons_zero]); (try simp only [Act.put]); (try simp only [List.setIfInBounds_toArray]); (try simp only [List.set_cons_succ]); (try simp only [List.set_cons_zero])
                      refine wpAnyH_take (i := 6) (v := ?_) rfl (by kernel_rfl) (by kernel_rfl) (by kernel_rfl) (fun _ _ _ h => h) (Or.inl ⟨by kernel_rfl, ?_⟩) hHeld ?_
                      rotate_left
                      · intro wz hSw; (try dsimp only at hSw); go_simp; all_goals (try with_reducible rfl)
                      (try simp only [List.getElem_toArray]); (try simp only [List.getElem_cons_succ]); (try simp only [List.getElem_cons_zero]); (try simp only [Act.put]); (try simp only [List.setIfInBounds_toArray]); (try simp only [List.set_cons_succ]); (try simp only [List.set_cons_zero])
                      refine wpAnyH_take (i := 7) (v := ?_) rfl (by kernel_rfl) (by kernel_rfl) (by kernel_rfl) (fun _ _ _ h => h) (Or.inl ⟨by kernel_rfl, ?_⟩) hHeld ?_
                      rotate_left
                      · intro wz hSw; (try dsimp only at hSw); go_simp; all_goals (try with_reducible rfl)
                      (try simp only [List.getElem_toArray]); (try simp only [List.getElem_cons_succ]); (try simp only [List.getElem_cons_zero]); (try simp only [Act.put]); (try simp only [List.setIfInBounds_toArray]); (try simp only [List.set_cons_succ]); (try simp only [List.set_cons_zero])
                      refine wpAnyH_take (i := 8) (v := ?_) rfl (by kernel_rfl) (by kernel_rfl) (by kernel_rfl) (fun _ _ _ h => h) (Or.inl ⟨by kernel_rfl, ?_⟩) hHeld ?_
                      rotate_left
                      · intro wz hSw; (try dsimp only at hSw); go_simp; all_goals (try with_reducible rfl)
                      (try simp only [List.getElem_toArray]); (try simp only [List.getElem_cons_succ]); (try simp only [List.getElem_cons_zero]); (try simp only [Act.put]); (try simp only [List.setIfInBounds_toArray]); (try simp only [List.set_cons_succ]); (try simp only [List.set_cons_zero])
                      have f0 := KA.out.frozen 0
                      have f1 := KA.out.frozen 1
                      have g0 := KA.out.cell 0 rfl
                      have g1 := KA.out.cell 1 rfl
                      refine wpAnyH_ready (rs := [10]) (by kernel_rfl) (by simp) (AllReadyH.cons rfl (fun Kc hKc => ?_) AllReadyH.nil)
                      go_simp
                      replace c0 := cell_stb (cell_stb c0 hAB (q := 0) (u := .int .i64 p1)) hAB (q := 1) (u := .int .i64 p2)
                      replace c1 := cell_stb (cell_stb c1 hAB (q := 0) (u := .int .i64 p1)) hAB (q := 1) (u := .int .i64 p2)
                      refine hKc.out _ _ ⟨c0, c1⟩ (fun hHeld => ?_)
                      clear hKc Kc
                      (try simp only [List.getElem_toArray]); (try simp only [List.getElem_cons_succ]); (try simp only [List.getElem_cons_zero]); (try simp only [Act.put]); (try simp only [List.setIfInBounds_toArray]); (try simp only [List.set_cons_succ]); (try simp only [List.set_cons_zero])
                      refine wpAnyH_take (i := 11) (v := ?_) rfl (by kernel_rfl) (by kernel_rfl) (by kernel_rfl) (fun _ _ _ h => h) (Or.inl ⟨by kernel_rfl, ?_⟩) hHeld ?_
                      rotate_left
                      · intro wz hSw; (try dsimp only at hSw); go_simp; all_goals (try with_reducible rfl)
                      (try simp only [List.getElem_toArray]); (try simp only [List.getElem_cons_succ]); (try simp only [List.getElem_cons_zero]); (try simp only [Act.put]); (try simp only [List.setIfInBounds_toArray]); (try simp only [List.set_cons_succ]); (try simp only [List.set_cons_zero])
                      refine wpAnyH_done (by kernel_rfl) ?_ _
                      refine NoPanic.normal ?_
                      go_wp2_with fail
                      go_meet
                      case rel => exact ⟨Ab, rfl, rfl, hAN, (KA.out.set 0 _).set 1 _, own_stM (own_stM HO.out hOA.out 0 _) hOA.out 1 _, rdR_st (rdR_st HV.out (fun b off c n e h => by have := HLV.out b off c n e h; omega) 0 _) (fun b off c n e h => by have := HLV.out b off c n e h; omega) 1 _, (K4.out.other (by have := H4N.out; omega) 0 _).other (by have := H4N.out; omega) 1 _, (HB.out.setCell (p := ⟨Ab, 0, none⟩) (show w.heap.size ≤ Ab by omega) _).setCell (p := ⟨Ab, 1, none⟩) (show w.heap.size ≤ Ab by omega) _⟩
                  case rest =>
                    clear HV HB HO K4 hNW c0 c1
                    rename_i wc
                    obtain ⟨T, rfl, rfl, hTN, KT, HO, HV, K4, HB⟩ := hcut
                    have hNW : N ≤ wc.heap.size := by have := KT.out.lt; omega
                    have c0 := KT.out.cell 0 rfl
                    have c1 := KT.out.cell 1 rfl
                    cases g
                    · go_wp2_with (at_builtin; refine wpList_append_own _ rfl _ _ 24 rfl N 27 i0 (.agg #[.int .i64 0, .int .i64 0]) 2 16 Try.underlying24 hi hz0 hz1 hz2 rfl (by decide) _ _ _ rfl (HO.out.alloc _) ⟨wc.heap.size, 0, none⟩ 1 1 [.int .i64 p1, .int .i64 p2] rfl rfl (cell_twoF _ _ _ _) (by intro u hu; simp at hu; rcases hu with rfl | rfl <;> rfl) (by unfold maxLen; omega) (by omega) (by simp; omega) ?_; intro v' w5 hown' hgrow _)
                      go_roundw
                      case rel =>
                        have hbn := below_appended HO.out hNW hgrow
                        refine ⟨v', k + 1, by omega, by go_num, rfl, by rw [HQk.out] <;> rfl, Nat.le_trans hNW hbn.size, ?_, HV.out.lo hbn HLV.out, K4.out.lo hbn H4N.out, HB.out.trans (hbn.mono (by omega))⟩
                        show World.ownsRow _ _ _ _ _ _ _
                        rw [HGk.out, cellsR_append]
                        exact hown'
                      case measure => simp [intOf]; omega
                    · go_wp2_with (at_builtin; refine wpList_append_own _ rfl _ _ 24 rfl N 27 i0 (.agg #[.int .i64 0, .int .i64 0]) 2 16 Try.underlying24 hi hz0 hz1 hz2 rfl (by decide) _ _ _ rfl (HO.out.alloc _) ⟨wc.heap.size, 0, none⟩ 1 1 [.int .i64 p1, .int .i64 p2] rfl rfl (cell_twoF _ _ _ _) (by intro u hu; simp at hu; rcases hu with rfl | rfl <;> rfl) (by unfold maxLen; omega) (by omega) (by simp; omega) ?_; intro v' w5 hown' hgrow _)
                      go_roundw
                      case rel =>
                        have hbn := below_appended HO.out hNW hgrow
                        refine ⟨v', k + 1, by omega, by go_num, rfl, by rw [HQk.out] <;> rfl, Nat.le_trans hNW hbn.size, ?_, HV.out.lo hbn HLV.out, K4.out.lo hbn H4N.out, HB.out.trans (hbn.mono (by omega))⟩
                        show World.ownsRow _ _ _ _ _ _ _
                        rw [HGk.out, cellsR_append]
                        exact hown'
                      case measure => simp [intOf]; omega
                · obtain rfl : k = ls.length := by omega
                  have HMM : Hid (∀ W, RdR W o (GG ls.length) → Calls Try.prog 6 #[o] W fun e w' => e = .returned (.tuple #[.agg #[.int .i64 (midA (GG ls.length)).1, .int .i64 (midA (GG ls.length)).2], .bool (midO (GG ls.length))]) ∧ Below W.heap.size W w') := fun W hW => iMiddle_any _ _ W hW
                  have HRO := hidM (RdR.own HO.out).1
                  obtain ⟨d, hd⟩ : ∃ d, d = midA (GG ls.length) := ⟨_, rfl⟩
                  obtain ⟨y, hy⟩ : ∃ d, d = midO (GG ls.length) := ⟨_, rfl⟩
                  obtain ⟨g, hg⟩ : ∃ d, d = QQ ls.length := ⟨_, rfl⟩
                  rw [← hd, ← hy] at HMM
                  rw [← hg] at ⊢
                  obtain ⟨p, hp⟩ : ∃ p, p = addP (m1, m2) (3, 1) := ⟨_, rfl⟩
                  obtain ⟨z, hz⟩ : ∃ p, p = addK (m1, m2) (3, 1) := ⟨_, rfl⟩
                  have HAX : Hid (∀ W, Calls Try.prog 15 #[.agg #[.int .i64 m1, .int .i64 m2], .agg #[.int .i64 3, .int .i64 1]] W fun e w' => e = .returned (.tuple #[.agg #[.int .i64 p.1, .int .i64 p.2], .bool z]) ∧ Below W.heap.size W w') := by
                    intro W; rw [hp, hz]; exact sAdd_any m1 m2 3 1 W
                  have HEND : Hid (g = true → y = true → z = true → d = p) := by
                    intro h1 h2 h3
                    rw [hd, hp]
                    exact HADD.out (by first | trivial | rfl) (hg.symm.trans h1) (hy.symm.trans h2) (hz.symm.trans h3)
                  clear hd hy hg hp hz HADD
                  obtain ⟨d1, d2⟩ := d
                  obtain ⟨p1, p2⟩ := p
                  dsimp only at HMM HAX
                  go_wp2_with fail
                  refine (HMM.out _ HRO.out).mono ?_
                  rintro e w20 ⟨rfl, hb⟩
                  replace hNW := Nat.le_trans hNW hb.size
                  clear HRO HO HV
                  replace K4 := hidM (K4.out.below hb)
                  replace HB := hidM (HB.out.trans (hb.mono HB.out.size))
                  clear hb
                  have hNW0 := hNW
                  have hb := bM w20 (.cells #[.int .i64 d1, .int .i64 d2] 27)
                  go_upto_region 43 with fail
                  obtain ⟨Y20, hY⟩ : ∃ Y, Y = w20.alloc (.cells #[.int .i64 d1, .int .i64 d2] 27) := ⟨_, rfl⟩
                  obtain ⟨B20, hF⟩ : ∃ F, F = w20.heap.size := ⟨_, rfl⟩
                  have K20 : Hid (IsB Y20 B20 #[.int .i64 d1, .int .i64 d2] 27) := by show IsB _ _ _ _; rw [hY, hF]; exact IsB.new _ _ _
                  rw [← hY] at hb
                  rw [← hY, ← hF]
                  clear hY hF
                  replace K4 := hidM (K4.out.below hb)
                  replace HB := hidM (HB.out.trans (hb.mono HB.out.size))
                  clear hb
                  go_cut [26, 27] (fun s26 s27 wx => ∃ T : Nat, s26 = .pointer (some ⟨T, 0, none⟩) ∧ s27 = .bool z ∧ Hid (IsB wx T #[.int .i64 p1, .int .i64 p2] 27) ∧ Hid (IsB wx B20 #[.int .i64 d1, .int .i64 d2] 27) ∧ Hid (Below w.heap.size w wx))
                  case first =>
                    have c0 := K4.out.cell 0 rfl
                    have c1 := K4.out.cell 1 rfl
                    obtain ⟨N, hN⟩ : ∃ N, N = Y20.heap.size := ⟨_, rfl⟩
                    replace hNW : N ≤ Y20.heap.size := by omega
                    have H20 : Hid (B20 < N) := by show _ < _; rw [hN]; exact K20.out.lt
                    have hwN : w.heap.size ≤ N := by rw [hN]; exact HB.out.size
                    clear hN K4
                    have hb := (Below.refl Y20.heap.size Y20).drew
                    refine wp_region_noPanic ?_
                    refine wp_region_held_drew (S := (fun w' => w'.cell? ⟨B4, 0, none⟩ = some (.int .i64 m1) ∧ w'.cell? ⟨B4, 1, none⟩ = some (.int .i64 m2))) (by kernel_rfl) ?_ (fun hHeld => ?_)
                    · (try dsimp only)
                      exact ⟨cell_dr c0, cell_dr c1⟩
                    replace c0 := cell_dr c0
                    replace c1 := cell_dr c1
                    replace hNW := Nat.le_trans hNW hb.size
                    replace K20 := hidM (K20.out.below hb)
                    replace HB := hidM (HB.out.trans (hb.mono HB.out.size))
                    clear hb
                    obtain ⟨wdq10, hwd⟩ : ∃ u, u = Y20.drew := ⟨_, rfl⟩
                    rw [← hwd] at K20 HB c0 c1 hNW hHeld ⊢
                    clear hwd
                    refine wpAnyH_take (i := 0) (v := ?_) rfl (by kernel_rfl) (by kernel_rfl) (by kernel_rfl) (fun _ _ _ h => h) (Or.inl ⟨by kernel_rfl, ?_⟩) hHeld ?_
                    rotate_left
                    · intro wz hSw; (try dsimp only at hSw); go_simp; all_goals (try with_reducible rfl)
                    (try simp only [List.getElem_toArray]); (try simp only [List.getElem_cons_succ]); (try simp only [List.getElem_cons_zero]); (try simp only [Act.put]); (try simp only [List.setIfInBounds_toArray]); (try simp only [List.set_cons_succ]); (try simp only [List.set_cons_zero])
                    refine wpAnyH_ready (rs := [1, 6]) (by kernel_rfl) (by simp) (AllReadyH.cons rfl (fun Kc hKc => ?_) (AllReadyH.cons rfl (fun Kc hKc => ?_) AllReadyH.nil))
                    ·
                      go_simp
                      (go_at_call 16; refine (whole_any 3 _).mono ?_; rintro e q11 ⟨rfl, hw⟩)
                      have hb : Below wdq10.heap.size wdq10 q11 := by rw [hw]; exact bM _ _
                      clear hw
                      replace c0 := cell_keep hb c0
                      replace c1 := cell_keep hb c1
                      replace hNW := Nat.le_trans hNW hb.size
                      replace K20 := hidM (K20.out.below hb)
                      replace HB := hidM (HB.out.trans (hb.mono HB.out.size))
                      clear hb
                      go_wp2_with fail
                      refine hKc.out _ _ ⟨c0, c1⟩ (fun hHeld => ?_)
                      clear hKc Kc
                      (try simp only [List.getElem_toArray]); (try simp only [List.getElem_cons_succ]); (try simp only [List.getElem_cons_zero]); (try simp only [Act.put]); (try simp only [List.setIfInBounds_toArray]); (try simp only [List.set_cons_succ]); (try simp only [List.set_cons_zero])
                      refine wpAnyH_ready (rs := [2, 6]) (by kernel_rfl) (by simp) (AllReadyH.cons rfl (fun Kc hKc => ?_) (AllReadyH.cons rfl (fun Kc hKc => ?_) AllReadyH.nil))
                      ·
                        go_simp
                        (go_at_call 15; refine (HAX.out _).mono ?_; rintro e q12 ⟨rfl, hb⟩)
                        replace c0 := cell_keep hb c0
                        replace c1 := cell_keep hb c1
                        replace hNW := Nat.le_trans hNW hb.size
                        replace K20 := hidM (K20.out.below hb)
                        replace HB := hidM (HB.out.trans (hb.mono HB.out.size))
                        clear hb
                        go_wp2_with fail
                        refine hKc.out _ _ ⟨c0, c1⟩ (fun hHeld => ?_)
                        clear hKc Kc
                        (try simp only [List.getElem_toArray]); (try simp only [List.getElem_cons_succ]); (try simp only [List.getElem_cons_zero]); (try simp only [Act.put]); (try simp only [List.setIfInBounds_toArray]); (try simp only [List.set_cons_succ]); (try simp only [List.set_cons_zero])
                        refine wpAnyH_take (i := 3) (v := ?_) rfl (by kernel_rfl) (by kernel_rfl) (by kernel_rfl) (fun _ _ _ h => h) (Or.inl ⟨by kernel_rfl, ?_⟩) hHeld ?_
                        rotate_left
                        · intro wz hSw; (try dsimp only at hSw); go_simp; all_goals (try with_reducible rfl)
                        (try simp only [List.getElem_toArray]); (try simp only [List.getElem_cons_succ]); (try simp only [List.getElem_cons_zero]); (try simp only [Act.put]); (try simp only [List.setIfInBounds_toArray]); (try simp only [List.set_cons_succ]); (try simp only [List.set_cons_zero])
                        refine wpAnyH_take (i := 4) (v := ?_) rfl (by kernel_rfl) (by kernel_rfl) (by kernel_rfl) (fun _ _ _ h => h) (Or.inl ⟨by kernel_rfl, ?_⟩) hHeld ?_
                        rotate_left
                        · intro wz hSw; (try dsimp only at hSw); go_simp; all_goals (try with_reducible rfl)
                        (try simp only [List.getElem_toArray]); (try simp only [List.getElem_cons_succ]); (try simp only [List.getElem_cons_zero]); (try simp only [Act.put]); (try simp only [List.setIfInBounds_toArray]); (try simp only [List.set_cons_succ]); (try simp only [List.set_cons_zero])
                        refine wpAnyH_take (i := 5) (v := ?_) rfl (by kernel_rfl) (by kernel_rfl) (by kernel_rfl) (fun _ _ _ h => h) (Or.inl ⟨by kernel_rfl, ?_⟩) hHeld ?_
                        rotate_left
                        · intro wz hSw; (try dsimp only at hSw); go_simp; all_goals (try with_reducible rfl)
                        (try simp only [List.getElem_toArray]); (try simp only [List.getElem_cons_succ]); (try simp only [List.getElem_cons_zero]); (try simp only [Act.put]); (try simp only [List.setIfInBounds_toArray]); (try simp only [List.set_cons_succ]); (try simp only [List.set_cons_zero])
                        refine wpAnyH_ready (rs := [6]) (by kernel_rfl) (by simp) (AllReadyH.cons rfl (fun Kc hKc => ?_) AllReadyH.nil)
                        go_simp
                        obtain ⟨Ab, hA'⟩ : ∃ A, A = q12.heap.size := ⟨_, rfl⟩
                        obtain ⟨q13, hu⟩ : ∃ u, u = q12.alloc (.cells #[.int .i64 0, .int .i64 0] 27) := ⟨_, rfl⟩
                        have hb : Below q12.heap.size q12 q13 := by rw [hu]; exact bM _ _
                        have KA : Hid (IsB q13 Ab #[.int .i64 0, .int .i64 0] 27) := by show IsB _ _ _ _; rw [hu, hA']; exact IsB.new _ _ _
                        have hAN : N ≤ Ab := by rw [hA']; exact hNW
                        have hAB : B4 ≠ Ab := by have := World.block_lt_of_cell? q12 _ c0; dsimp only at this; omega
                        rw [← hu, ← hA']
                        replace c0 := cell_keep hb c0
                        replace c1 := cell_keep hb c1
                        replace hNW := Nat.le_trans hNW hb.size
                        replace K20 := hidM (K20.out.below hb)
                        replace HB := hidM (HB.out.trans (hb.mono HB.out.size))
                        clear hb
                        clear hu hA'
                        refine hKc.out _ _ ⟨c0, c1⟩ (fun hHeld => ?_)
                        clear hKc Kc
                        (try simp only [List.getElem_toArray]); (try simp only [List.getElem_cons_succ]); (try simp only [List.getElem_cons_zero]); (try simp only [Act.put]); (try simp only [List.setIfInBounds_toArray]); (try simp only [List.set_cons_succ]); (try simp only [List.set_cons_zero])
                        have f0 := KA.out.frozen 0
                        have f1 := KA.out.frozen 1
                        have g0 := KA.out.cell 0 rfl
                        have g1 := KA.out.cell 1 rfl
                        refine wpAnyH_ready (rs := [7]) (by kernel_rfl) (by simp) (AllReadyH.cons rfl (fun Kc hKc => ?_) AllReadyH.nil)
                        go_simp
                        replace c0 := cell_stb (cell_stb c0 hAB (q := 0) (u := .int .i64 p1)) hAB (q := 1) (u := .int .i64 p2)
                        replace c1 := cell_stb (cell_stb c1 hAB (q := 0) (u := .int .i64 p1)) hAB (q := 1) (u := .int .i64 p2)
                        refine hKc.out _ _ ⟨c0, c1⟩ (fun hHeld => ?_)
                        clear hKc Kc
                        (try simp only [List.getElem_toArray]); (try simp only [List.getElem_cons_succ]); (try simp only [List.getElem_cons_zero]); (try simp only [Act.put]); (try simp only [List.setIfInBounds_toArray]); (try simp only [List.set_cons_succ]); (try simp only [List.set_cons_zero])
                        refine wpAnyH_take (i := 8) (v := ?_) rfl (by kernel_rfl) (by kernel_rfl) (by kernel_rfl) (fun _ _ _ h => h) (Or.inl ⟨by kernel_rfl, ?_⟩) hHeld ?_
                        rotate_left
                        · intro wz hSw; (try dsimp only at hSw); go_simp; all_goals (try with_reducible rfl)
                        (try simp only [List.getElem_toArray]); (try simp only [List.getElem_cons_succ]); (try simp only [List.getElem_cons_zero]); (try simp only [Act.put]); (try simp only [List.setIfInBounds_toArray]); (try simp only [List.set_cons_succ]); (try simp only [List.set_cons_zero])
                        refine wpAnyH_done (by kernel_rfl) ?_ _
                        refine NoPanic.normal ?_
                        go_wp2_with fail
                        go_meet
                        case rel => exact ⟨Ab, rfl, rfl, (KA.out.set 0 _).set 1 _, (K20.out.other (by have := H20.out; omega) 0 _).other (by have := H20.out; omega) 1 _, (HB.out.setCell (p := ⟨Ab, 0, none⟩) (show w.heap.size ≤ Ab by omega) _).setCell (p := ⟨Ab, 1, none⟩) (show w.heap.size ≤ Ab by omega) _⟩
                      ·
                        go_simp
                        obtain ⟨Ab, hA'⟩ : ∃ A, A = q11.heap.size := ⟨_, rfl⟩
                        obtain ⟨q14, hu⟩ : ∃ u, u = q11.alloc (.cells #[.int .i64 0, .int .i64 0] 27) := ⟨_, rfl⟩
                        have hb : Below q11.heap.size q11 q14 := by rw [hu]; exact bM _ _
                        have KA : Hid (IsB q14 Ab #[.int .i64 0, .int .i64 0] 27) := by show IsB _ _ _ _; rw [hu, hA']; exact IsB.new _ _ _
                        have hAN : N ≤ Ab := by rw [hA']; exact hNW
                        have hAB : B4 ≠ Ab := by have := World.block_lt_of_cell? q11 _ c0; dsimp only at this; omega
                        rw [← hu, ← hA']
                        replace c0 := cell_keep hb c0
                        replace c1 := cell_keep hb c1
                        replace hNW := Nat.le_trans hNW hb.size
                        replace K20 := hidM (K20.out.below hb)
                        replace HB := hidM (HB.out.trans (hb.mono HB.out.size))
                        clear hb
                        clear hu hA'
                        refine hKc.out _ _ ⟨c0, c1⟩ (fun hHeld => ?_)
                        clear hKc Kc
                        (try simp only [List.getElem_toArray]); (try simp only [List.getElem_cons_succ]); (try simp only [List.getElem_cons_zero]); (try simp only [Act.put]); (try simp only [List.setIfInBounds_toArray]); (try simp only [List.set_cons_succ]); (try simp only [List.set_cons_zero])
                        refine wpAnyH_ready (rs := [2]) (by kernel_rfl) (by simp) (AllReadyH.cons rfl (fun Kc hKc => ?_) AllReadyH.nil)
                        go_simp
                        (go_at_call 15; refine (HAX.out _).mono ?_; rintro e q15 ⟨rfl, hb⟩)
                        replace c0 := cell_keep hb c0
                        replace c1 := cell_keep hb c1
                        replace hNW := Nat.le_trans hNW hb.size
                        replace K20 := hidM (K20.out.below hb)
                        replace KA := hidM (KA.out.below hb)
                        replace HB := hidM (HB.out.trans (hb.mono HB.out.size))
                        clear hb
                        go_wp2_with fail
                        refine hKc.out _ _ ⟨c0, c1⟩ (fun hHeld => ?_)
                        clear hKc Kc
                        (try simp only [List.getElem_toArray]); (try simp only [List.getElem_cons_succ]); (try simp only [List.getElem_cons_zero]); (try simp only [Act.put]); (try simp only [List.setIfInBounds_toArray]); (try simp only [List.set_cons_succ]); (try simp only [List.set_cons_zero])
                        refine wpAnyH_take (i := 3) (v := ?_) rfl (by kernel_rfl) (by kernel_rfl) (by kernel_rfl) (fun _ _ _ h => h) (Or.inl ⟨by kernel_rfl, ?_⟩) hHeld ?_
                        rotate_left
                        · intro wz hSw; (try dsimp only at hSw); go_simp; all_goals (try with_reducible rfl)
                        (try simp only [List.getElem_toArray]); (try simp only [List.getElem_cons_succ]); (try simp only [List.getElem_cons_zero]); (try simp only [Act.put]); (try simp only [List.setIfInBounds_toArray]); (try simp only [List.set_cons_succ]); (try simp only [List.set_cons_zero])
                        refine wpAnyH_take (i := 4) (v := ?_) rfl (by kernel_rfl) (by kernel_rfl) (by kernel_rfl) (fun _ _ _ h => h) (Or.inl ⟨by kernel_rfl, ?_⟩) hHeld ?_
                        rotate_left
                        · intro wz hSw; (try dsimp only at hSw); go_simp; all_goals (try with_reducible rfl)
                        (try simp only [List.getElem_toArray]); (try simp only [List.getElem_cons_succ]); (try simp only [List.getElem_cons_zero]); (try simp only [Act.put]); (try simp only [List.setIfInBounds_toArray]); (try simp only [List.set_cons_succ]); (try simp only [List.set_cons_zero])
                        refine wpAnyH_take (i := 5) (v := ?_) rfl (by kernel_rfl) (by kernel_rfl) (by kernel_rfl) (fun _ _ _ h => h) (Or.inl ⟨by kernel_rfl, ?_⟩) hHeld ?_
                        rotate_left
                        · intro wz hSw; (try dsimp only at hSw); go_simp; all_goals (try with_reducible rfl)
                        (try simp only [List.getElem_toArray]); (try simp only [List.getElem_cons_succ]); (try simp only [List.getElem_cons_zero]); (try simp only [Act.put]); (try simp only [List.setIfInBounds_toArray]); (try simp only [List.set_cons_succ]); (try simp only [List.set_cons_zero])
                        have f0 := KA.out.frozen 0
                        have f1 := KA.out.frozen 1
                        have g0 := KA.out.cell 0 rfl
                        have g1 := KA.out.cell 1 rfl
                        refine wpAnyH_ready (rs := [7]) (by kernel_rfl) (by simp) (AllReadyH.cons rfl (fun Kc hKc => ?_) AllReadyH.nil)
                        go_simp
                        replace c0 := cell_stb (cell_stb c0 hAB (q := 0) (u := .int .i64 p1)) hAB (q := 1) (u := .int .i64 p2)
                        replace c1 := cell_stb (cell_stb c1 hAB (q := 0) (u := .int .i64 p1)) hAB (q := 1) (u := .int .i64 p2)
                        refine hKc.out _ _ ⟨c0, c1⟩ (fun hHeld => ?_)
                        clear hKc Kc
                        (try simp only [List.getElem_toArray]); (try simp only [List.getElem_cons_succ]); (try simp only [List.getElem_cons_zero]); (try simp only [Act.put]); (try simp only [List.setIfInBounds_toArray]); (try simp only [List.set_cons_succ]); (try simp only [List.set_cons_zero])
                        refine wpAnyH_take (i := 8) (v := ?_) rfl (by kernel_rfl) (by kernel_rfl) (by kernel_rfl) (fun _ _ _ h => h) (Or.inl ⟨by kernel_rfl, ?_⟩) hHeld ?_
                        rotate_left
                        · intro wz hSw; (try dsimp only at hSw); go_simp; all_goals (try with_reducible rfl)
                        (try simp only [List.getElem_toArray]); (try simp only [List.getElem_cons_succ]); (try simp only [List.getElem_cons_zero]); (try simp only [Act.put]); (try simp only [List.setIfInBounds_toArray]); (try simp only [List.set_cons_succ]); (try simp only [List.set_cons_zero])
                        refine wpAnyH_done (by kernel_rfl) ?_ _
                        refine NoPanic.normal ?_
                        go_wp2_with fail
                        go_meet
                        case rel => exact ⟨Ab, rfl, rfl, (KA.out.set 0 _).set 1 _, (K20.out.other (by have := H20.out; omega) 0 _).other (by have := H20.out; omega) 1 _, (HB.out.setCell (p := ⟨Ab, 0, none⟩) (show w.heap.size ≤ Ab by omega) _).setCell (p := ⟨Ab, 1, none⟩) (show w.heap.size ≤ Ab by omega) _⟩
                    ·
                      go_simp
                      obtain ⟨Ab, hA'⟩ : ∃ A, A = wdq10.heap.size := ⟨_, rfl⟩
                      obtain ⟨q16, hu⟩ : ∃ u, u = wdq10.alloc (.cells #[.int .i64 0, .int .i64 0] 27) := ⟨_, rfl⟩
                      have hb : Below wdq10.heap.size wdq10 q16 := by rw [hu]; exact bM _ _
                      have KA : Hid (IsB q16 Ab #[.int .i64 0, .int .i64 0] 27) := by show IsB _ _ _ _; rw [hu, hA']; exact IsB.new _ _ _
                      have hAN : N ≤ Ab := by rw [hA']; exact hNW
                      have hAB : B4 ≠ Ab := by have := World.block_lt_of_cell? wdq10 _ c0; dsimp only at this; omega
                      rw [← hu, ← hA']
                      replace c0 := cell_keep hb c0
                      replace c1 := cell_keep hb c1
                      replace hNW := Nat.le_trans hNW hb.size
                      replace K20 := hidM (K20.out.below hb)
                      replace HB := hidM (HB.out.trans (hb.mono HB.out.size))
                      clear hb
                      clear hu hA'
                      refine hKc.out _ _ ⟨c0, c1⟩ (fun hHeld => ?_)
                      clear hKc Kc
                      (try simp only [List.getElem_toArray]); (try simp only [List.getElem_cons_succ]); (try simp only [List.getElem_cons_zero]); (try simp only [Act.put]); (try simp only [List.setIfInBounds_toArray]); (try simp only [List.set_cons_succ]); (try simp only [List.set_cons_zero])
                      refine wpAnyH_ready (rs := [1]) (by kernel_rfl) (by simp) (AllReadyH.cons rfl (fun Kc hKc => ?_) AllReadyH.nil)
                      go_simp
                      (go_at_call 16; refine (whole_any 3 _).mono ?_; rintro e q17 ⟨rfl, hw⟩)
                      have hb : Below q16.heap.size q16 q17 := by rw [hw]; exact bM _ _
                      clear hw
                      replace c0 := cell_keep hb c0
                      replace c1 := cell_keep hb c1
                      replace hNW := Nat.le_trans hNW hb.size
                      replace K20 := hidM (K20.out.below hb)
                      replace KA := hidM (KA.out.below hb)
                      replace HB := hidM (HB.out.trans (hb.mono HB.out.size))
                      clear hb
                      go_wp2_with fail
                      refine hKc.out _ _ ⟨c0, c1⟩ (fun hHeld => ?_)
                      clear hKc Kc
                      (try simp only [List.getElem_toArray]); (try simp only [List.getElem_cons_succ]); (try simp only [List.getElem_cons_zero]); (try simp only [Act.put]); (try simp only [List.setIfInBounds_toArray]); (try simp only [List.set_cons_succ]); (try simp only [List.set_cons_zero])
                      refine wpAnyH_ready (rs := [2]) (by kernel_rfl) (by simp) (AllReadyH.cons rfl (fun Kc hKc => ?_) AllReadyH.nil)
                      go_simp
                      (go_at_call 15; refine (HAX.out _).mono ?_; rintro e q18 ⟨rfl, hb⟩)
                      replace c0 := cell_keep hb c0
                      replace c1 := cell_keep hb c1
                      replace hNW := Nat.le_trans hNW hb.size
                      replace K20 := hidM (K20.out.below hb)
                      replace KA := hidM (KA.out.below hb)
                      replace HB := hidM (HB.out.trans (hb.mono HB.out.size))
                      clear hb
                      go_wp2_with fail
                      refine hKc.out _ _ ⟨c0, c1⟩ (fun hHeld => ?_)
                      clear hKc Kc
                      (try simp only [List.getElem_toArray]); (try simp only [List.getElem_cons_succ]); (try simp only [List.getElem_cons_zero]); (try simp only [Act.put]); (try simp only [List.setIfInBounds_toArray]); (try simp only [List.set_cons_succ]); (try simp only [List.set_cons_zero])
                      refine wpAnyH_take (i := 3) (v := ?_) rfl (by kernel_rfl) (by kernel_rfl) (by kernel_rfl) (fun _ _ _ h => h) (Or.inl ⟨by kernel_rfl, ?_⟩) hHeld ?_
                      rotate_left
                      · intro wz hSw; (try dsimp only at hSw); go_simp; all_goals (try with_reducible rfl)
                      (try simp only [List.getElem_toArray]); (try simp only [List.getElem_cons_succ]); (try simp only [List.getElem_cons_zero]); (try simp only [Act.put]); (try simp only [List.setIfInBounds_toArray]); (try simp only [List.set_cons_succ]); (try simp only [List.set_cons_zero])
                      refine wpAnyH_take (i := 4) (v := ?_) rfl (by kernel_rfl) (by kernel_rfl) (by kernel_rfl) (fun _ _ _ h => h) (Or.inl ⟨by kernel_rfl, ?_⟩) hHeld ?_
                      rotate_left
                      · intro wz hSw; (try dsimp only at hSw); go_simp; all_goals (try with_reducible rfl)
                      (try simp only [List.getElem_toArray]); (try simp only [List.getElem_cons_succ]); (try simp only [List.getElem_cons_zero]); (try simp only [Act.put]); (try simp only [List.setIfInBounds_toArray]); (try simp only [List.set_cons_succ]); (try simp only [List.set_cons_zero])
                      refine wpAnyH_take (i := 5) (v := ?_) rfl (by kernel_rfl) (by kernel_rfl) (by kernel_rfl) (fun _ _ _ h => h) (Or.inl ⟨by kernel_rfl, ?_⟩) hHeld ?_
                      rotate_left
                      · intro wz hSw; (try dsimp only at hSw); go_simp; all_goals (try with_reducible rfl)
                      (try simp only [List.getElem_toArray]); (try simp only [List.getElem_cons_succ]); (try simp only [List.getElem_cons_zero]); (try simp only [Act.put]); (try simp only [List.setIfInBounds_toArray]); (try simp only [List.set_cons_succ]); (try simp only [List.set_cons_zero])
                      have f0 := KA.out.frozen 0
                      have f1 := KA.out.frozen 1
                      have g0 := KA.out.cell 0 rfl
                      have g1 := KA.out.cell 1 rfl
                      refine wpAnyH_ready (rs := [7]) (by kernel_rfl) (by simp) (AllReadyH.cons rfl (fun Kc hKc => ?_) AllReadyH.nil)
                      go_simp
                      replace c0 := cell_stb (cell_stb c0 hAB (q := 0) (u := .int .i64 p1)) hAB (q := 1) (u := .int .i64 p2)
                      replace c1 := cell_stb (cell_stb c1 hAB (q := 0) (u := .int .i64 p1)) hAB (q := 1) (u := .int .i64 p2)
                      refine hKc.out _ _ ⟨c0, c1⟩ (fun hHeld => ?_)
                      clear hKc Kc
                      (try simp only [List.getElem_toArray]); (try simp only [List.getElem_cons_succ]); (try simp only [List.getElem_cons_zero]); (try simp only [Act.put]); (try simp only [List.setIfInBounds_toArray]); (try simp only [List.set_cons_succ]); (try simp only [List.set_cons_zero])
                      refine wpAnyH_take (i := 8) (v := ?_) rfl (by kernel_rfl) (by kernel_rfl) (by kernel_rfl) (fun _ _ _ h => h) (Or.inl ⟨by kernel_rfl, ?_⟩) hHeld ?_
                      rotate_left
                      · intro wz hSw; (try dsimp only at hSw); go_simp; all_goals (try with_reducible rfl)
                      (try simp only [List.getElem_toArray]); (try simp only [List.getElem_cons_succ]); (try simp only [List.getElem_cons_zero]); (try simp only [Act.put]); (try simp only [List.setIfInBounds_toArray]); (try simp only [List.set_cons_succ]); (try simp only [List.set_cons_zero])
                      refine wpAnyH_done (by kernel_rfl) ?_ _
                      refine NoPanic.normal ?_
                      go_wp2_with fail
                      go_meet
                      case rel => exact ⟨Ab, rfl, rfl, (KA.out.set 0 _).set 1 _, (K20.out.other (by have := H20.out; omega) 0 _).other (by have := H20.out; omega) 1 _, (HB.out.setCell (p := ⟨Ab, 0, none⟩) (show w.heap.size ≤ Ab by omega) _).setCell (p := ⟨Ab, 1, none⟩) (show w.heap.size ≤ Ab by omega) _⟩
                  case rest =>
                    clear HB K4 K20
                    rename_i wc
                    obtain ⟨T, rfl, rfl, KT, K20, HB⟩ := hcut
                    cases g
                    · go_wp2
                      go_ret
                      exact ⟨rfl, HB.out⟩
                    cases y
                    · go_wp2
                      go_ret
                      exact ⟨rfl, HB.out⟩
                    cases z
                    · go_wp2
                      go_ret
                      exact ⟨rfl, HB.out⟩
                    have hE := HEND.out rfl rfl rfl
                    cases hE
                    have c0 := KT.out.cell 0 rfl
                    have c1 := KT.out.cell 1 rfl
                    have c2 := K20.out.cell 0 rfl
                    have c3 := K20.out.cell 1 rfl
                    go_wp2
                    go_ret
                    exact ⟨rfl, HB.out⟩
end Go.Proofs.Ythmdiljcceiedaa
