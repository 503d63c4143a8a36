/- The walk of the law FnSolved. -/
import Derived.Test.YtbbkejfcheobaabDrawW12
import Derived.Test.YtbbkejfcheobaabDrawW4
import Derived.Test.YtbbkejfcheobaabLikeW
import Derived.Test.YtbbkejfcheobaabPk1
import Derived.Test.YtbbkejfcheobaabPk2
import Derived.Test.YtbbkejfcheobaabEchW12
import Derived.BigQuiet
import Derived.Deep.RegionWith
import Derived.Deep.RegionLaw
namespace Go.Proofs.Ytbbkejfcheobaab
open Go.RowKit Go.Proofs.Ytbbkejfcheobaab.RM

/-- a table as a walk reads it -/
theorem RdT.vals {W : World} {v : Value} {T : List (List Fr)} (h : RdT W v T) (h0 : 0 < T.length) : ∃ b off c us, v = .slice (some ⟨b, off, none⟩) T.length c ∧ T.length ≤ c ∧ c ≤ maxLen ∧ us.length = T.length ∧ ∀ i, i < T.length → W.cell? ⟨b, off + i, none⟩ = some (vl us i) ∧ RdR W (vl us i) (rw' T i) := by
  obtain ⟨a, c, h1, h2, h3, h4, h5⟩ := h
  obtain ⟨b, off, u0, e0, -, -⟩ := h5 0 h0
  subst e0
  have h6 : ∀ i, ∃ u, i < T.length → W.cell? ⟨b, off + i, none⟩ = some u ∧ RdR W u (rw' T i) := by
    intro i
    by_cases hi : i < T.length
    · obtain ⟨b', off', u, e, k1, k2⟩ := h5 i hi
      cases e
      exact ⟨u, fun _ => ⟨k1, k2⟩⟩
    · exact ⟨.slice none 0 0, fun hh => absurd hh hi⟩
  refine ⟨b, off, c, (List.range T.length).map fun i => (h6 i).choose, h1, h3, h4, by simp, fun i hi => ?_⟩
  have h7 := (h6 i).choose_spec hi
  have e : vl ((List.range T.length).map fun i => (h6 i).choose) i = (h6 i).choose := by simp [vl, hi]
  rw [e]
  exact h7
theorem RdR.vals {W : World} {v : Value} {ps : List Fr} (h : RdR W v ps) (h0 : 0 < ps.length) : ∃ b off c, v = .slice (some ⟨b, off, none⟩) ps.length c ∧ ∀ j, j < ps.length → W.cell? ⟨b, off + j * 2, none⟩ = some (.int .i64 (fr ps j).1) ∧ W.cell? ⟨b, off + j * 2 + 1, none⟩ = some (.int .i64 (fr ps j).2) := by
  obtain ⟨a, c, h1, h2, h3, h4, h5⟩ := h
  obtain ⟨b, off, e0, -, -⟩ := h5 0 h0
  subst e0
  refine ⟨b, off, c, h1, fun j hj => ?_⟩
  obtain ⟨b', off', e, k1, k2⟩ := h5 j hj
  cases e
  exact ⟨k1, k2⟩
/-- what is put together of the second row and all behind the first -/
theorem twice_vals {us : List Value} {i : Nat} (h : i < us.length) : vl (vl us 1 :: us.drop 1) i = if i = 0 then vl us 1 else vl us i := by
  by_cases e : i = 0
  · subst e; simp [vl]
  · obtain ⟨k, rfl⟩ : ∃ k, i = k + 1 := ⟨i - 1, by omega⟩
    simp [vl]

set_option maxRecDepth 100000 in
set_option maxHeartbeats 4000000 in
theorem lawSolF (a0 : Option Addr) (len cap : Nat) (zs : List Int) (w : World) (hr : IsRow .u8 w a0 len cap zs) :
    Calls Try.prog 5 #[.slice a0 len cap] w fun e w' => e = .returned (.bool true) ∧ Below w.heap.size w w' := by
  obtain ⟨t0, hti, htz0, htz1, htz2⟩ := info_parts infoT
  have b0 : ∀ (u : World) (o : Obj), Below u.heap.size u (u.alloc o) := fun u o => (Below.refl _ _).alloc (Nat.le_refl _) o
  by_cases hl : 4096 < (len : Int)
  · have hbig : decide (4096 < (len : Int)) = true := decide_eq_true hl
    clear hl hr
    go_enter Try.func5, Try.ntmps5
    go_wp2_with fail
    refine (big_any _ _ _ _).mono ?_
    rintro e w1 ⟨rfl, hw⟩
    obtain rfl := hw.symm
    go_wp2
    go_ret
    exact ⟨rfl, Below.refl _ _⟩
  have hbig : decide (4096 < (len : Int)) = false := decide_eq_false hl
  have HR : Hid (IsRow .u8 w a0 len cap zs) := hr
  clear hl hr
  go_enter Try.func5, Try.ntmps5
  go_wp2_with fail
  refine (big_any _ _ _ _).mono ?_
  rintro e w0 ⟨rfl, hw⟩
  obtain rfl := hw.symm
  clear hw
  go_wp2_with fail
  refine (dSolved_any a0 len cap zs _ HR.out).mono ?_
  rintro e w1 ⟨v, u, T, ps, rfl, hT, hP, hTl, hpl, hB⟩
  have HT := hidW hT
  have HP := hidW hP
  have HB := hidW hB
  clear HR hbig
  obtain ⟨q, hq⟩ : ∃ q, q = solO T ps := ⟨_, rfl⟩
  obtain ⟨X, hX⟩ : ∃ X, X = solA T ps := ⟨_, rfl⟩
  have HI : Hid (∀ W : World, Below w1.heap.size w1 W → Calls Try.prog 34 #[v, u] W fun e w' => ∃ x, e = .returned (.tuple #[x, .bool q]) ∧ w'.ownsRow W.heap.size 25 2 x X.length (cellsR X) ∧ Below W.heap.size W w') := by
    intro W hW; rw [hq, hX]; exact iSolved_any v u T ps W (HT.out.below hW) (HP.out.below hW)
  have HS : Hid (∀ W : World, Below w1.heap.size w1 W → Calls Try.prog 35 #[v, u] W fun e w' => ∃ x, e = .returned (.tuple #[x, .bool q]) ∧ w'.ownsRow W.heap.size 25 2 x X.length (cellsR X) ∧ Below W.heap.size W w') := by
    intro W hW; rw [hq, hX]; exact sSolved_any v u T ps W (HT.out.below hW) (HP.out.below hW)
  have HQ := hidW hq
  have HX := hidW hX
  have hXl : X.length ≤ 1000000000 := by rw [hX]; have := solA_small T ps; omega
  clear hq hX hT hP hB
  have e3 : (q != q) = false := by simp
  go_wp2_with fail
  refine (HI.out _ (Below.refl _ _)).mono ?_
  rintro e w2 ⟨x, rfl, hO, hb2⟩
  have HO := hidW hO
  have B1 := hb2
  have hs2 := hb2.size
  clear hO hb2
  go_wp2_with fail
  refine (HS.out _ B1).mono ?_
  rintro e w3 ⟨y, rfl, hO, hb⟩
  have HY := hidW hO
  replace HO := hidW (own_below HO.out hb)
  replace B1 := B1.trans (hb.mono B1.size)
  clear hO hb HI HS
  go_wp2_with fail
  refine (likeR_same x y X X.length _ _ _ rfl hXl HO.out HY.out).mono ?_
  rintro e w4 ⟨rfl, hb⟩
  replace HO := hidW (own_below HO.out hb)
  replace B1 := B1.trans (hb.mono B1.size)
  clear hb HY e3
  have HB4 := hidW (HB.out.trans (B1.mono HB.out.size))
  cases q
  · obtain rfl : X = [] := by rw [HX.out]; exact solA_no HQ.out.symm
    have hO' := HO.out
    simp only [List.length_nil, cellsR_nil] at hO'
    obtain ⟨a', c', rfl⟩ := own_shape hO'
    clear hO' HO
    go_wp2
    go_ret
    exact ⟨rfl, HB4.out⟩
  · have hn1 : 1 ≤ T.length ∧ T.length ≤ 5 ∧ (∀ i, i < T.length → (rw' T i).length = T.length) ∧ ps.length = T.length := by
      obtain ⟨s1, s2, s3, s4⟩ := solC_out (solO_out HQ.out.symm).1
      obtain ⟨⟨t1, -⟩, tr⟩ := tabB_out s2
      exact ⟨t1, s1, fun i hi => by rw [(tr i hi).1, s3], s4⟩
    obtain ⟨n1, n5, hrl, hpn⟩ := hn1
    have HXA : Hid (X = solX T ps) := by show _ = _; rw [HX.out]; exact solA_yes HQ.out.symm
    have hXn : X.length = T.length := by rw [HXA.out]; exact solX_len T ps
    obtain ⟨n, hn⟩ : ∃ n, n = T.length := ⟨_, rfl⟩
    have HN : Hid (n = T.length ∧ X.length = n ∧ ps.length = n ∧ ∀ i, i < n → (rw' T i).length = n) := ⟨hn, by omega, by omega, fun i hi => by rw [hrl i (by omega), hn]⟩
    rw [hXn, ← hn] at HO
    obtain ⟨gx, cx, rfl⟩ := own_some HO.out (by omega)
    obtain ⟨bm, om, cm, us, rfl, hm1, hm2, hus, hmc⟩ := HT.out.vals (by omega)
    obtain ⟨bp, op', cp, rfl, hpc⟩ := HP.out.vals (by omega)
    rw [← hn] at hm1 hus hmc n1 n5
    rw [hpn, ← hn] at hpc ⊢
    have HMC := hidW hmc
    have HPC := hidW hpc
    have HT' : Hid (RdT w1 (.slice (some ⟨bm, om, none⟩) n cm) T) := by have h9 := HT.out; rw [← hn] at h9; exact h9
    have HP' : Hid (RdR w1 (.slice (some ⟨bp, op', none⟩) n cp) ps) := by have h9 := HP.out; rw [hpn, ← hn] at h9; exact h9
    clear hrl hpn hXn hn hmc hpc HT HP hTl hpl hXl
    have hxl := (World.ownsRow.lt HO.out gx rfl).2
    obtain ⟨S, hS⟩ : ∃ S, S = w4.heap.size := ⟨_, rfl⟩
    have HSS := hidW hS
    go_wp2
    go_loopw [9] (fun i wr => ∃ k : Nat, i = .int .i64 k ∧ k ≤ n ∧ Hid (Below w4.heap.size w4 wr)) (fun i _ => n - (intOf i).toNat)
    case atStart => exact ⟨0, rfl, by omega, Below.refl _ _⟩
    case round =>
      obtain ⟨k, rfl, hk, hB⟩ := hrel
      have hszr := hB.out.size
      by_cases hkn : k < n
      · have hki : ((k : Nat) : Int) < (n : Int) := by omega
        obtain ⟨ck, hrk⟩ := HMC.out k hkn
        obtain ⟨bk, ok, lk, ek, hkc⟩ := hrk.vals (by rw [HN.out.2.2.2 k hkn]; omega)
        rw [HN.out.2.2.2 k hkn] at ek hkc
        rw [ek] at ck
        have HKC := hidW hkc
        have CK := hidW ck
        clear hkc ck ek hrk
        go_wp2_with fail
        refine (whole_any _ _).mono ?_
        rintro e w5 ⟨rfl, hw⟩
        obtain ⟨Z, hZ⟩ : ∃ g, g = w5.heap.size := ⟨_, rfl⟩
        obtain ⟨Y, hY⟩ : ∃ X, X = w5.alloc (.cells #[.int .i64 0, .int .i64 1] 25) := ⟨_, rfl⟩
        have h5 : Below wr.heap.size wr w5 := by rw [hw]; exact b0 _ _
        have BY : Below w4.heap.size w4 Y := by rw [hY]; exact hB.out.trans ((h5.trans ((b0 _ _).mono h5.size)).mono hszr)
        have rS : IsR Y Z 0 1 := by rw [hY, hZ]; exact IsR.new w5 0 1
        have hZ4 : w4.heap.size ≤ Z := by rw [hZ]; have := h5.size; omega
        have BY2 := hidW BY
        have RS2 := hidW rS
        clear hw h5 hB hszr BY rS
        go_wp2_with fail
        rw [← hY, ← hZ]
        clear hY hZ
        go_loopw [11, 12] (fun g j wr => ∃ (r : Fr × Bool) (m : Nat), g = .bool r.2 ∧ j = .int .i64 m ∧ m ≤ n ∧ Hid (r = chkS (rw' T k) X m) ∧ Hid (IsR wr Z r.1.1 r.1.2) ∧ Hid (Below w4.heap.size w4 wr)) (fun _ j _ => n - (intOf j).toNat)
        case atStart => exact ⟨((0, 1), true), 0, rfl, rfl, by omega, rfl, RS2.out, BY2.out⟩
        case round =>
          clear RS2 BY2
          obtain ⟨⟨⟨r1, r2⟩, g⟩, m, rfl, rfl, hm, HRR, hS, hB⟩ := hrel
          have hszr := hB.out.size
          have HW : Below w1.heap.size w1 wr := B1.trans (hB.out.mono (B1.size))
          by_cases hmn : m < n
          · have hmi : ((m : Nat) : Int) < (n : Int) := by omega
            have c1 := cell_keep HW CK.out
            obtain ⟨y1, y2⟩ := HKC.out m hmn
            replace y1 := cell_keep HW y1
            replace y2 := cell_keep HW y2
            obtain ⟨x1, x2⟩ := own_R (own_below HO.out hB.out) HN.out.2.1 m hmn
            obtain ⟨p, hp⟩ : ∃ p, p = fr (rw' T k) m := ⟨_, rfl⟩
            obtain ⟨s, hs⟩ : ∃ p, p = fr X m := ⟨_, rfl⟩
            have HPS : Hid (p = fr (rw' T k) m ∧ s = fr X m) := ⟨hp, hs⟩
            rw [← hp] at y1 y2
            rw [show (X[m]?.getD (0, 0)) = s by rw [hs]; rfl] at x1 x2
            obtain ⟨p1, p2⟩ := p
            obtain ⟨s1, s2⟩ := s
            dsimp only at y1 y2 x1 x2
            have l1 := lt_cell c1
            have l2 := lt_cell y1
            have l3 := lt_cell x1
            obtain ⟨q, hq⟩ : ∃ q, q = mulP (p1, p2) (s1, s2) := ⟨_, rfl⟩
            obtain ⟨qo, hqo⟩ : ∃ q, q = mulK (p1, p2) (s1, s2) := ⟨_, rfl⟩
            have HQQ : Hid (q = mulP (p1, p2) (s1, s2) ∧ qo = mulK (p1, p2) (s1, s2)) := ⟨hq, hqo⟩
            obtain ⟨q1, q2⟩ := q
            have HM : Hid (∀ u : World, Calls Try.prog 30 #[.agg #[.int .i64 p1, .int .i64 p2], .agg #[.int .i64 s1, .int .i64 s2]] u fun e w' => e = .returned (.tuple #[.agg #[.int .i64 q1, .int .i64 q2], .bool qo]) ∧ Below u.heap.size u w') := by
              intro u
              have h9 := sMul_any p1 p2 s1 s2 u
              rw [hqo, show q1 = (mulP (p1, p2) (s1, s2)).1 by rw [← hq], show q2 = (mulP (p1, p2) (s1, s2)).2 by rw [← hq]]
              exact h9
            have hZl := hS.out.lt
            clear hp hs hq hqo HW
            go_upto_region 18 with fail
            go_cut [13, 14] from 66 to 80 (fun x13 x14 wx => ∃ P, x13 = .pointer (some ⟨P, 0, none⟩) ∧ x14 = .bool qo ∧ wr.heap.size ≤ P ∧ Hid (IsR wx P q1 q2) ∧ Hid (Below wr.heap.size wr wx))
            case first =>
              --REG18
              refine wp_region_noPanic ?_
              refine wp_region_held_drew (S := (fun w' => w'.cell? ⟨bm, om + k, none⟩ = some (.slice (some ⟨bk, ok, none⟩) n lk) ∧ w'.cell? ⟨bk, ok + m * 2, none⟩ = some (.int .i64 p1) ∧ w'.cell? ⟨bk, ok + m * 2 + 1, none⟩ = some (.int .i64 p2) ∧ w'.cell? ⟨gx, m * 2, none⟩ = some (.int .i64 s1) ∧ w'.cell? ⟨gx, m * 2 + 1, none⟩ = some (.int .i64 s2))) (by kernel_rfl) ?_ (fun hHeld => ?_)
              · (try dsimp only)
                refine ⟨?_, ?_, ?_, ?_, ?_⟩ <;> (repeat (with_reducible (first | exact c1 | exact y1 | exact y2 | exact x1 | exact x2 | refine cell_dr ?_ | refine cell_al _ ?_ | refine cell_stb ?_ ?_ | (show _ ≠ _; omega))))
              refine wpAnyH_take (i := 0) (v := ?_) rfl (by kernel_rfl) (by kernel_rfl) (by kernel_rfl) (fun _ _ _ h => h) (Or.inl ⟨by kernel_rfl, ?_⟩) hHeld ?_
              rotate_left
              · intro wz hSw; (try dsimp only at hSw); go_simp; all_goals (try with_reducible rfl)
              (try simp only [List.getElem_toArray]); (try simp only [List.getElem_cons_succ]); (try simp only [List.getElem_cons_zero]); (try simp only [Act.put]); (try simp only [List.setIfInBounds_toArray]); (try simp only [List.set_cons_succ]); (try simp only [List.set_cons_zero])
              refine wpAnyH_take (i := 1) (v := ?_) rfl (by kernel_rfl) (by kernel_rfl) (by kernel_rfl) (fun _ _ _ h => h) (Or.inl ⟨by kernel_rfl, ?_⟩) hHeld ?_
              rotate_left
              · intro wz hSw; (try dsimp only at hSw); go_simp; all_goals (try with_reducible rfl)
              (try simp only [List.getElem_toArray]); (try simp only [List.getElem_cons_succ]); (try simp only [List.getElem_cons_zero]); (try simp only [Act.put]); (try simp only [List.setIfInBounds_toArray]); (try simp only [List.set_cons_succ]); (try simp only [List.set_cons_zero])
              refine wpAnyH_take (i := 2) (v := ?_) rfl (by kernel_rfl) (by kernel_rfl) (by kernel_rfl) (fun _ _ _ h => h) (Or.inl ⟨by kernel_rfl, ?_⟩) hHeld ?_
              rotate_left
              · intro wz hSw; (try dsimp only at hSw); go_simp; all_goals (try with_reducible rfl)
              (try simp only [List.getElem_toArray]); (try simp only [List.getElem_cons_succ]); (try simp only [List.getElem_cons_zero]); (try simp only [Act.put]); (try simp only [List.setIfInBounds_toArray]); (try simp only [List.set_cons_succ]); (try simp only [List.set_cons_zero])
              refine wpAnyH_take (i := 3) (v := ?_) rfl (by kernel_rfl) (by kernel_rfl) (by kernel_rfl) (fun _ _ _ h => h) (Or.inl ⟨by kernel_rfl, ?_⟩) hHeld ?_
              rotate_left
              · intro wz hSw; (try dsimp only at hSw); go_simp; all_goals (try with_reducible rfl)
              (try simp only [List.getElem_toArray]); (try simp only [List.getElem_cons_succ]); (try simp only [List.getElem_cons_zero]); (try simp only [Act.put]); (try simp only [List.setIfInBounds_toArray]); (try simp only [List.set_cons_succ]); (try simp only [List.set_cons_zero])
              refine wpAnyH_take (i := 4) (v := ?_) rfl (by kernel_rfl) (by kernel_rfl) (by kernel_rfl) (fun _ _ _ h => h) (Or.inl ⟨by kernel_rfl, ?_⟩) hHeld ?_
              rotate_left
              · intro wz hSw; (try dsimp only at hSw); go_simp; all_goals (try with_reducible rfl)
              (try simp only [List.getElem_toArray]); (try simp only [List.getElem_cons_succ]); (try simp only [List.getElem_cons_zero]); (try simp only [Act.put]); (try simp only [List.setIfInBounds_toArray]); (try simp only [List.set_cons_succ]); (try simp only [List.set_cons_zero])
              refine wpAnyH_take (i := 5) (v := ?_) rfl (by kernel_rfl) (by kernel_rfl) (by kernel_rfl) (fun _ _ _ h => h) (Or.inl ⟨by kernel_rfl, ?_⟩) hHeld ?_
              rotate_left
              · intro wz hSw; (try dsimp only at hSw); go_simp; all_goals (try with_reducible rfl)
              (try simp only [List.getElem_toArray]); (try simp only [List.getElem_cons_succ]); (try simp only [List.getElem_cons_zero]); (try simp only [Act.put]); (try simp only [List.setIfInBounds_toArray]); (try simp only [List.set_cons_succ]); (try simp only [List.set_cons_zero])
              refine wpAnyH_take (i := 6) (v := ?_) rfl (by kernel_rfl) (by kernel_rfl) (by kernel_rfl) (fun _ _ _ h => h) (Or.inl ⟨by kernel_rfl, ?_⟩) hHeld ?_
              rotate_left
              · intro wz hSw; (try dsimp only at hSw); go_simp; all_goals (try with_reducible rfl)
              (try simp only [List.getElem_toArray]); (try simp only [List.getElem_cons_succ]); (try simp only [List.getElem_cons_zero]); (try simp only [Act.put]); (try simp only [List.setIfInBounds_toArray]); (try simp only [List.set_cons_succ]); (try simp only [List.set_cons_zero])
              refine wpAnyH_take (i := 7) (v := ?_) rfl (by kernel_rfl) (by kernel_rfl) (by kernel_rfl) (fun _ _ _ h => h) (Or.inl ⟨by kernel_rfl, ?_⟩) hHeld ?_
              rotate_left
              · intro wz hSw; (try dsimp only at hSw); go_simp; all_goals (try with_reducible rfl)
              (try simp only [List.getElem_toArray]); (try simp only [List.getElem_cons_succ]); (try simp only [List.getElem_cons_zero]); (try simp only [Act.put]); (try simp only [List.setIfInBounds_toArray]); (try simp only [List.set_cons_succ]); (try simp only [List.set_cons_zero])
              refine wpAnyH_take (i := 8) (v := ?_) rfl (by kernel_rfl) (by kernel_rfl) (by kernel_rfl) (fun _ _ _ h => h) (Or.inl ⟨by kernel_rfl, ?_⟩) hHeld ?_
              rotate_left
              · intro wz hSw; (try dsimp only at hSw); go_simp; all_goals (try with_reducible rfl)
              (try simp only [List.getElem_toArray]); (try simp only [List.getElem_cons_succ]); (try simp only [List.getElem_cons_zero]); (try simp only [Act.put]); (try simp only [List.setIfInBounds_toArray]); (try simp only [List.set_cons_succ]); (try simp only [List.set_cons_zero])
              refine wpAnyH_take (i := 9) (v := ?_) rfl (by kernel_rfl) (by kernel_rfl) (by kernel_rfl) (fun _ _ _ h => h) (Or.inl ⟨by kernel_rfl, ?_⟩) hHeld ?_
              rotate_left
              · intro wz hSw; (try dsimp only at hSw); go_simp; all_goals (try with_reducible rfl)
              (try simp only [List.getElem_toArray]); (try simp only [List.getElem_cons_succ]); (try simp only [List.getElem_cons_zero]); (try simp only [Act.put]); (try simp only [List.setIfInBounds_toArray]); (try simp only [List.set_cons_succ]); (try simp only [List.set_cons_zero])
              refine wpAnyH_take (i := 10) (v := ?_) rfl (by kernel_rfl) (by kernel_rfl) (by kernel_rfl) (fun _ _ _ h => h) (Or.inl ⟨by kernel_rfl, ?_⟩) hHeld ?_
              rotate_left
              · intro wz hSw; (try dsimp only at hSw); go_simp; all_goals (try with_reducible rfl)
              (try simp only [List.getElem_toArray]); (try simp only [List.getElem_cons_succ]); (try simp only [List.getElem_cons_zero]); (try simp only [Act.put]); (try simp only [List.setIfInBounds_toArray]); (try simp only [List.set_cons_succ]); (try simp only [List.set_cons_zero])
              refine wpAnyH_ready (rs := [11, 15]) (by kernel_rfl) (by simp) (AllReadyH.cons rfl (fun Kc hKc => ?_) (AllReadyH.cons rfl (fun Kc hKc => ?_) AllReadyH.nil))
              · go_simp
                (go_at_call 30; refine (HM.out _).mono ?_; rintro e w2 ⟨rfl, hb2⟩)
                have hbd : Below wr.heap.size wr w2 := ((Below.refl _ _).drew).trans (hb2.mono (by simp))
                have c1 := cell_keep hbd c1
                have y1 := cell_keep hbd y1
                have y2 := cell_keep hbd y2
                have x1 := cell_keep hbd x1
                have x2 := cell_keep hbd x2
                have hsw := hbd.size
                clear hb2
                go_wp2_with fail
                refine hKc.out _ _ ?_ (fun hHeld => ?_)
                · (try dsimp only)
                  refine ⟨?_, ?_, ?_, ?_, ?_⟩ <;> (repeat (with_reducible (first | exact c1 | exact y1 | exact y2 | exact x1 | exact x2 | refine cell_dr ?_ | refine cell_al _ ?_ | refine cell_stb ?_ ?_ | (show _ ≠ _; omega))))
                clear hKc Kc
                (try simp only [List.getElem_toArray]); (try simp only [List.getElem_cons_succ]); (try simp only [List.getElem_cons_zero]); (try simp only [Act.put]); (try simp only [List.setIfInBounds_toArray]); (try simp only [List.set_cons_succ]); (try simp only [List.set_cons_zero])
                refine wpAnyH_take (i := 12) (v := ?_) rfl (by kernel_rfl) (by kernel_rfl) (by kernel_rfl) (fun _ _ _ h => h) (Or.inl ⟨by kernel_rfl, ?_⟩) hHeld ?_
                rotate_left
                · intro wz hSw; (try dsimp only at hSw); go_simp; all_goals (try with_reducible rfl)
                (try simp only [List.getElem_toArray]); (try simp only [List.getElem_cons_succ]); (try simp only [List.getElem_cons_zero]); (try simp only [Act.put]); (try simp only [List.setIfInBounds_toArray]); (try simp only [List.set_cons_succ]); (try simp only [List.set_cons_zero])
                refine wpAnyH_take (i := 13) (v := ?_) rfl (by kernel_rfl) (by kernel_rfl) (by kernel_rfl) (fun _ _ _ h => h) (Or.inl ⟨by kernel_rfl, ?_⟩) hHeld ?_
                rotate_left
                · intro wz hSw; (try dsimp only at hSw); go_simp; all_goals (try with_reducible rfl)
                (try simp only [List.getElem_toArray]); (try simp only [List.getElem_cons_succ]); (try simp only [List.getElem_cons_zero]); (try simp only [Act.put]); (try simp only [List.setIfInBounds_toArray]); (try simp only [List.set_cons_succ]); (try simp only [List.set_cons_zero])
                refine wpAnyH_take (i := 14) (v := ?_) rfl (by kernel_rfl) (by kernel_rfl) (by kernel_rfl) (fun _ _ _ h => h) (Or.inl ⟨by kernel_rfl, ?_⟩) hHeld ?_
                rotate_left
                · intro wz hSw; (try dsimp only at hSw); go_simp; all_goals (try with_reducible rfl)
                (try simp only [List.getElem_toArray]); (try simp only [List.getElem_cons_succ]); (try simp only [List.getElem_cons_zero]); (try simp only [Act.put]); (try simp only [List.setIfInBounds_toArray]); (try simp only [List.set_cons_succ]); (try simp only [List.set_cons_zero])
                refine wpAnyH_ready (rs := [15]) (by kernel_rfl) (by simp) (AllReadyH.cons rfl (fun Kc hKc => ?_) AllReadyH.nil)
                go_simp
                refine hKc.out _ _ ?_ (fun hHeld => ?_)
                · (try dsimp only)
                  refine ⟨?_, ?_, ?_, ?_, ?_⟩ <;> (repeat (with_reducible (first | exact c1 | exact y1 | exact y2 | exact x1 | exact x2 | refine cell_dr ?_ | refine cell_al _ ?_ | refine cell_stb ?_ ?_ | (show _ ≠ _; omega))))
                clear hKc Kc
                (try simp only [List.getElem_toArray]); (try simp only [List.getElem_cons_succ]); (try simp only [List.getElem_cons_zero]); (try simp only [Act.put]); (try simp only [List.setIfInBounds_toArray]); (try simp only [List.set_cons_succ]); (try simp only [List.set_cons_zero])
                refine wpAnyH_ready (rs := [16]) (by kernel_rfl) (by simp) (AllReadyH.cons rfl (fun Kc hKc => ?_) AllReadyH.nil)
                go_simp
                refine hKc.out _ _ ?_ (fun hHeld => ?_)
                · (try dsimp only)
                  refine ⟨?_, ?_, ?_, ?_, ?_⟩ <;> (repeat (with_reducible (first | exact c1 | exact y1 | exact y2 | exact x1 | exact x2 | refine cell_dr ?_ | refine cell_al _ ?_ | refine cell_stb ?_ ?_ | (show _ ≠ _; omega))))
                clear hKc Kc
                (try simp only [List.getElem_toArray]); (try simp only [List.getElem_cons_succ]); (try simp only [List.getElem_cons_zero]); (try simp only [Act.put]); (try simp only [List.setIfInBounds_toArray]); (try simp only [List.set_cons_succ]); (try simp only [List.set_cons_zero])
                refine wpAnyH_take (i := 17) (v := ?_) rfl (by kernel_rfl) (by kernel_rfl) (by kernel_rfl) (fun _ _ _ h => h) (Or.inl ⟨by kernel_rfl, ?_⟩) hHeld ?_
                rotate_left
                · intro wz hSw; (try dsimp only at hSw); go_simp; all_goals (try with_reducible rfl)
                (try simp only [List.getElem_toArray]); (try simp only [List.getElem_cons_succ]); (try simp only [List.getElem_cons_zero]); (try simp only [Act.put]); (try simp only [List.setIfInBounds_toArray]); (try simp only [List.set_cons_succ]); (try simp only [List.set_cons_zero])
                refine wpAnyH_done (by kernel_rfl) ?_ _
                refine NoPanic.normal ?_
                go_wp2
                go_meet
                case rel => exact ⟨w2.heap.size, rfl, rfl, by omega, IsR.new w2 q1 q2, hbd.alloc hsw _⟩
              · go_simp
                refine hKc.out _ _ ?_ (fun hHeld => ?_)
                · (try dsimp only)
                  refine ⟨?_, ?_, ?_, ?_, ?_⟩ <;> (repeat (with_reducible (first | exact c1 | exact y1 | exact y2 | exact x1 | exact x2 | refine cell_dr ?_ | refine cell_al _ ?_ | refine cell_stb ?_ ?_ | (show _ ≠ _; omega))))
                clear hKc Kc
                (try simp only [List.getElem_toArray]); (try simp only [List.getElem_cons_succ]); (try simp only [List.getElem_cons_zero]); (try simp only [Act.put]); (try simp only [List.setIfInBounds_toArray]); (try simp only [List.set_cons_succ]); (try simp only [List.set_cons_zero])
                refine wpAnyH_ready (rs := [11]) (by kernel_rfl) (by simp) (AllReadyH.cons rfl (fun Kc hKc => ?_) AllReadyH.nil)
                go_simp
                (go_at_call 30; refine (HM.out _).mono ?_; rintro e w2 ⟨rfl, hb2⟩)
                have hbd : Below wr.heap.size wr w2 := (((Below.refl _ _).drew).alloc (by simp) _).trans (hb2.mono (by simp))
                have pP : IsR w2 wr.heap.size 0 0 := (show IsR (wr.drew.alloc (.cells #[.int .i64 0, .int .i64 0] 25)) wr.heap.size 0 0 from by simpa using IsR.new wr.drew 0 0).below hb2
                have z0 := pP.c0
                have z1 := pP.c1
                have z2 := pP.f0
                have z3 := pP.f1
                have c1 := cell_keep hbd c1
                have y1 := cell_keep hbd y1
                have y2 := cell_keep hbd y2
                have x1 := cell_keep hbd x1
                have x2 := cell_keep hbd x2
                have hsw := hbd.size
                clear hb2
                go_wp2_with fail
                refine hKc.out _ _ ?_ (fun hHeld => ?_)
                · (try dsimp only)
                  refine ⟨?_, ?_, ?_, ?_, ?_⟩ <;> (repeat (with_reducible (first | exact c1 | exact y1 | exact y2 | exact x1 | exact x2 | refine cell_dr ?_ | refine cell_al _ ?_ | refine cell_stb ?_ ?_ | (show _ ≠ _; omega))))
                clear hKc Kc
                (try simp only [List.getElem_toArray]); (try simp only [List.getElem_cons_succ]); (try simp only [List.getElem_cons_zero]); (try simp only [Act.put]); (try simp only [List.setIfInBounds_toArray]); (try simp only [List.set_cons_succ]); (try simp only [List.set_cons_zero])
                refine wpAnyH_take (i := 12) (v := ?_) rfl (by kernel_rfl) (by kernel_rfl) (by kernel_rfl) (fun _ _ _ h => h) (Or.inl ⟨by kernel_rfl, ?_⟩) hHeld ?_
                rotate_left
                · intro wz hSw; (try dsimp only at hSw); go_simp; all_goals (try with_reducible rfl)
                (try simp only [List.getElem_toArray]); (try simp only [List.getElem_cons_succ]); (try simp only [List.getElem_cons_zero]); (try simp only [Act.put]); (try simp only [List.setIfInBounds_toArray]); (try simp only [List.set_cons_succ]); (try simp only [List.set_cons_zero])
                refine wpAnyH_take (i := 13) (v := ?_) rfl (by kernel_rfl) (by kernel_rfl) (by kernel_rfl) (fun _ _ _ h => h) (Or.inl ⟨by kernel_rfl, ?_⟩) hHeld ?_
                rotate_left
                · intro wz hSw; (try dsimp only at hSw); go_simp; all_goals (try with_reducible rfl)
                (try simp only [List.getElem_toArray]); (try simp only [List.getElem_cons_succ]); (try simp only [List.getElem_cons_zero]); (try simp only [Act.put]); (try simp only [List.setIfInBounds_toArray]); (try simp only [List.set_cons_succ]); (try simp only [List.set_cons_zero])
                refine wpAnyH_take (i := 14) (v := ?_) rfl (by kernel_rfl) (by kernel_rfl) (by kernel_rfl) (fun _ _ _ h => h) (Or.inl ⟨by kernel_rfl, ?_⟩) hHeld ?_
                rotate_left
                · intro wz hSw; (try dsimp only at hSw); go_simp; all_goals (try with_reducible rfl)
                (try simp only [List.getElem_toArray]); (try simp only [List.getElem_cons_succ]); (try simp only [List.getElem_cons_zero]); (try simp only [Act.put]); (try simp only [List.setIfInBounds_toArray]); (try simp only [List.set_cons_succ]); (try simp only [List.set_cons_zero])
                refine wpAnyH_ready (rs := [16]) (by kernel_rfl) (by simp) (AllReadyH.cons rfl (fun Kc hKc => ?_) AllReadyH.nil)
                go_simp
                refine hKc.out _ _ ?_ (fun hHeld => ?_)
                · (try dsimp only)
                  refine ⟨?_, ?_, ?_, ?_, ?_⟩ <;> (repeat (with_reducible (first | exact c1 | exact y1 | exact y2 | exact x1 | exact x2 | refine cell_dr ?_ | refine cell_al _ ?_ | refine cell_stb ?_ ?_ | (show _ ≠ _; omega))))
                clear hKc Kc
                (try simp only [List.getElem_toArray]); (try simp only [List.getElem_cons_succ]); (try simp only [List.getElem_cons_zero]); (try simp only [Act.put]); (try simp only [List.setIfInBounds_toArray]); (try simp only [List.set_cons_succ]); (try simp only [List.set_cons_zero])
                refine wpAnyH_take (i := 17) (v := ?_) rfl (by kernel_rfl) (by kernel_rfl) (by kernel_rfl) (fun _ _ _ h => h) (Or.inl ⟨by kernel_rfl, ?_⟩) hHeld ?_
                rotate_left
                · intro wz hSw; (try dsimp only at hSw); go_simp; all_goals (try with_reducible rfl)
                (try simp only [List.getElem_toArray]); (try simp only [List.getElem_cons_succ]); (try simp only [List.getElem_cons_zero]); (try simp only [Act.put]); (try simp only [List.setIfInBounds_toArray]); (try simp only [List.set_cons_succ]); (try simp only [List.set_cons_zero])
                refine wpAnyH_done (by kernel_rfl) ?_ _
                refine NoPanic.normal ?_
                go_wp2
                go_meet
                case rel => exact ⟨wr.heap.size, rfl, rfl, by omega, (pP.set0 q1).set1 q2, (hbd.setCell (p := ⟨wr.heap.size, 0, none⟩) (Nat.le_refl _) _).setCell (p := ⟨wr.heap.size, 1, none⟩) (Nat.le_refl _) _⟩
            case rest =>
              clear c1 y1 y2 x1 x2 l1 l2 l3
              obtain ⟨P, rfl, rfl, hP, hPR, hBx⟩ := hcut
              have S5 := hidW (hS.out.below hBx.out)
              have B5 := hidW (hB.out.trans (hBx.out.mono hszr))
              have hPZ : Z ≠ P := by omega
              obtain ⟨t, ht⟩ : ∃ q, q = addP (r1, r2) (q1, q2) := ⟨_, rfl⟩
              obtain ⟨tk, htk⟩ : ∃ q, q = addK (r1, r2) (q1, q2) := ⟨_, rfl⟩
              have HCK : Hid (chkS (rw' T k) X (m + 1) = (t, g && qo && tk)) := by
                show _ = _
                have e1 : chkS (rw' T k) X m = ((r1, r2), g) := HRR.out.symm
                simp only [chkS]
                rw [e1, ← HPS.out.1, ← HPS.out.2, ← HQQ.out.1, ← HQQ.out.2, ht, htk]
              obtain ⟨t1, t2⟩ := t
              have HA : Hid (∀ u : World, Calls Try.prog 31 #[.agg #[.int .i64 r1, .int .i64 r2], .agg #[.int .i64 q1, .int .i64 q2]] u fun e w' => e = .returned (.tuple #[.agg #[.int .i64 t1, .int .i64 t2], .bool tk]) ∧ Below u.heap.size u w') := by
                intro u
                have h9 := sAdd_any r1 r2 q1 q2 u
                rw [htk, show t1 = (addP (r1, r2) (q1, q2)).1 by rw [← ht], show t2 = (addP (r1, r2) (q1, q2)).2 by rw [← ht]]
                exact h9
              have n0 := hPR.out.c0
              have n1 := hPR.out.c1
              have m0 := S5.out.c0
              have m1 := S5.out.c1
              clear ht htk hS hB hBx hPR HM HPS HQQ HRR hZl
              go_wp2_with fail
              refine (HA.out _).mono ?_
              rintro e w7 ⟨rfl, hb7⟩
              have S7 := hidW (S5.out.below hb7)
              have B7 := hidW (B5.out.trans (hb7.mono B5.out.size))
              have u0 := S7.out.c0
              have u1 := S7.out.c1
              have u2 := S7.out.f0
              have u3 := S7.out.f1
              have u4 := S7.out.lt
              clear S5 B5 hb7 n0 n1 m0 m1 HA
              have fin : ∀ W : World, W = ((w7.alloc (.cells #[.int .i64 t1, .int .i64 t2] 25)).setCell ⟨Z, 0, none⟩ (.int .i64 t1)).setCell ⟨Z, 1, none⟩ (.int .i64 t2) ∨ W = ((w7.setCell ⟨Z, 0, none⟩ (.int .i64 t1)).setCell ⟨Z, 1, none⟩ (.int .i64 t2)).alloc (.cells #[.int .i64 t1, .int .i64 t2] 25) → Hid (IsR W Z t1 t2) ∧ Hid (Below w4.heap.size w4 W) := by
                intro W hW
                have hz := B7.out.size
                rcases hW with rfl | rfl
                · exact ⟨((S7.out.below (b0 _ _)).set0 t1).set1 t2, ((B7.out.alloc hz _).setCell (p := ⟨Z, 0, none⟩) hZ4 _).setCell (p := ⟨Z, 1, none⟩) hZ4 _⟩
                · exact ⟨((S7.out.set0 t1).set1 t2).below (b0 _ _), ((B7.out.setCell (p := ⟨Z, 0, none⟩) hZ4 _).setCell (p := ⟨Z, 1, none⟩) hZ4 _).alloc (by simpa using hz) _⟩
              have FIN := hidW fin
              clear fin
              cases g <;> cases qo <;> cases tk
              all_goals go_wp2
              all_goals go_roundw
              all_goals
                first
                | (case rel => exact ⟨((t1, t2), _), m + 1, rfl, by go_num, by omega, HCK.out.symm, (FIN.out _ (by first | exact Or.inl rfl | exact Or.inr rfl)).1, (FIN.out _ (by first | exact Or.inl rfl | exact Or.inr rfl)).2⟩)
                | (case measure => simp [intOf]; omega)
          · obtain rfl : m = n := by omega
            obtain ⟨z1, z2⟩ := HPC.out k hkn
            replace z1 := cell_keep HW z1
            replace z2 := cell_keep HW z2
            have l1 := lt_cell z1
            have m0 := hS.out.c0
            have m1 := hS.out.c1
            have HGD : Hid (g = true → r1 = (fr ps k).1 ∧ r2 = (fr ps k).2) := by
              intro hg
              have e1 : chkS (rw' T k) X m = ((r1, r2), g) := HRR.out.symm
              have e2 := sol_check HQ.out.symm k (by rw [← HN.out.1]; exact hkn)
              rw [← HXA.out, ← HN.out.1, e1] at e2
              have e3 := e2 hg
              rw [← e3]
              exact ⟨rfl, rfl⟩
            cases g
            · clear z1 z2 m0 m1 HGD
              go_wp2
              go_quiet (fail)
              go_wp2
              go_roundw
              case rel => exact ⟨k + 1, by go_num, by omega, below_drewN hB.out _⟩
              case measure => simp [intOf]; omega
            · obtain ⟨e1, e2⟩ := HGD.out rfl
              rw [← e1] at z1
              rw [← e2] at z2
              have e3 : (r1 != r1) = false := by simp
              have e4 : (r2 != r2) = false := by simp
              clear e1 e2
              go_wp2
              go_quiet (fail)
              go_wp2
              go_roundw
              case rel => exact ⟨k + 1, by go_num, by omega, below_drewN hB.out _⟩
              case measure => simp [intOf]; omega
      · obtain rfl : k = n := by omega
        by_cases h2 : k < 2
        · have h2i : ((k : Nat) : Int) < 2 := by omega
          go_wp2
          go_ret
          exact ⟨rfl, HB4.out.trans (hB.out.mono HB4.out.size)⟩
        · have h2i : ¬ ((k : Nat) : Int) < 2 := by omega
          have HW := hidW (B1.trans (hB.out.mono B1.size))
          have HBw := hidW (HB4.out.trans (hB.out.mono HB4.out.size))
          obtain ⟨ck, hrk⟩ := HMC.out 1 (by omega)
          obtain ⟨bk, ok, lk, ek, -⟩ := hrk.vals (by rw [HN.out.2.2.2 1 (by omega)]; omega)
          rw [ek] at ck
          replace ck := cell_keep HW.out ck
          have l1 := lt_cell ck
          have hNews : Hid (∀ W : World, Below w1.heap.size w1 W → ∀ j u, (us.drop 1)[j]? = some u → W.cell? ((⟨bm, om + 1, none⟩ : Addr).add j) = some u) := by
            intro W hW j u hu
            rw [List.getElem?_drop] at hu
            have hj : 1 + j < us.length := by
              apply Classical.byContradiction
              intro hn
              rw [List.getElem?_eq_none (by omega)] at hu
              cases hu
            obtain ⟨c1, -⟩ := HMC.out (1 + j) (by omega)
            have e1 : vl us (1 + j) = u := by unfold vl; rw [hu]; rfl
            rw [e1] at c1
            have c2 := cell_keep hW c1
            by_cases h0 : j = 0
            · subst h0; exact c2
            · simp only [Addr.add, h0, if_neg, not_false_iff]
              rw [show om + 1 + j = om + (1 + j) by omega]
              exact c2
          have hOne : Hid (∀ u ∈ us.drop 1, u.oneCell' = true) := by
            intro u hu
            obtain ⟨j, hj, rfl⟩ := List.mem_iff_getElem.1 hu
            rw [List.length_drop] at hj
            obtain ⟨-, a', c', e', -⟩ := HMC.out (1 + j) (by omega)
            have e1 : (us.drop 1)[j] = vl us (1 + j) := by unfold vl; rw [List.getElem_drop, List.getElem?_eq_getElem (by omega)]; rfl
            rw [e1, e']
            rfl
          have hDl : Hid ((us.drop 1).length = (k - 1) * 1) := by show _ = _; rw [List.length_drop, hus]; omega
          have EK : Hid (vl us 1 = .slice (some ⟨bk, ok, none⟩) ((rw' T 1)).length lk) := ek
          have hLen1 : Hid ((rw' T 1).length = k) := HN.out.2.2.2 1 (by omega)
          have hcm1 : cm - 1 ≠ 0 := by omega
          have hcm2 : ¬ cm = 1 := by omega
          have hki1 : (1 : Int) ≤ (k : Int) := by omega
          have hki : (1 : Int) < (k : Int) := by omega
          have hszr := hB.out.size
          rw [show (rw' T 1).length = k from hLen1.out] at ck
          clear ek hrk h2 h2i hB
          go_wp2
          go_region_law (refine step_append_ownS rfl (.tmp 110) (.tmp 112) 33 rfl wr.heap.size 44 t0 (.slice none 0 0) 1 24 Try.underlying33 hti htz0 htz1 htz2 rfl (by decide) (.slice (some ⟨wr.heap.size, 0, none⟩) 1 1) 1 [.slice (some ⟨bk, ok, none⟩) k lk] (by simp [Act.eval]) (by first | exact World.ownsRow_lit wr (base := wr.heap.size) (e := 44) (size := 1) #[.slice (some ⟨bk, ok, none⟩) k lk] 1 (Nat.le_refl _) (by decide) rfl | exact own_below (World.ownsRow_lit wr (base := wr.heap.size) (e := 44) (size := 1) #[.slice (some ⟨bk, ok, none⟩) k lk] 1 (Nat.le_refl _) (by decide) rfl) ((Below.refl _ _).drew)) ⟨bm, om + 1, none⟩ (k - 1) (cm - 1) (us.drop 1) (by simp [Act.eval]) hDl.out (hNews.out _ (HW.out.trans (Below.mono (by first | exact (b0 _ _).drew | exact b0 _ _) HW.out.size))) hOne.out (by unfold maxLen; omega) (by omega) (by simp) ?_; intro v' w6 hown6 hgrow6; have B6 : Below wr.heap.size wr w6 := Below.grown (by first | exact (b0 _ _).drew | exact b0 _ _) hgrow6 (by simp) (fun b e => by cases e; simp); obtain ⟨a6, c6, rfl⟩ := own_shape hown6; have HO6 := hidW hown6; have HB6 := hidW B6; clear hown6 hgrow6 B6)
          go_wp2_with fail
          have hk6 : 1 + (k - 1) = k := by omega
          have O6 : w6.ownsRow wr.heap.size 44 1 (.slice a6 k c6) k ([.slice (some ⟨bk, ok, none⟩) k lk] ++ us.drop 1) := by have h9 := HO6.out; rw [hk6] at h9; exact h9
          have W6 := HW.out.trans (HB6.out.mono HW.out.size)
          have T6 : RdT w6 (.slice a6 k c6) (twiceT T) := by
            have s4 : w6.ownsRow wr.heap.size 44 1 (.slice a6 k c6) (vl us 1 :: us.drop 1).length (vl us 1 :: us.drop 1) := by
              rw [EK.out, hLen1.out, show (Value.slice (some ⟨bk, ok, none⟩) k lk :: us.drop 1).length = k by rw [List.length_cons, List.length_drop, hus]; omega]
              exact O6
            have h2T : 2 ≤ T.length := by rw [← HN.out.1]; omega
            refine rdt_of s4 (by rw [twice_len h2T, List.length_cons, List.length_drop, hus, ← HN.out.1]; omega) (fun i hi => ?_)
            rw [List.length_cons, List.length_drop, hus] at hi
            rw [twice_vals (by rw [hus]; omega)]
            by_cases h0 : i = 0
            · rw [if_pos h0, h0, twice_zero]
              exact (HMC.out 1 (by omega)).2.below W6
            · rw [if_neg h0, twice_at h0]
              exact (HMC.out i (by omega)).2.below W6
          refine (iSolved_any _ _ (twiceT T) ps _ T6 (HP'.out.below W6)).mono ?_
          rintro e w7 ⟨z, rfl, -, hb7⟩
          rw [sol_twice (by rw [← HN.out.1]; omega)]
          have W7 := W6.trans (hb7.mono W6.size)
          have HR7 : Hid (Calls Try.prog 20 #[.slice (some ⟨bm, om, none⟩) k cm] w7 fun e w' => e = .returned (.int .i64 (k : Int)) ∧ Below w7.heap.size w7 w') := by
            show Calls _ _ _ _ _
            have h9 := iRank_any _ T w7 (HT'.out.below W7)
            obtain ⟨r1, r2⟩ := sol_rank HQ.out.symm
            have e9 : rkI T = (k : Int) := by unfold rkI; rw [if_pos r1, r2, ← HN.out.1]
            rw [e9] at h9
            exact h9
          have hs6 := HB6.out.size
          have B7 := hidW (HBw.out.trans ((HB6.out.trans (hb7.mono hs6)).mono HBw.out.size))
          clear W6 W7 T6 O6 hb7 HO6
          go_wp2_with fail
          refine HR7.out.mono ?_
          rintro e w8 ⟨rfl, hb8⟩
          go_wp2
          go_ret
          exact ⟨rfl, B7.out.trans (hb8.mono B7.out.size)⟩
end Go.Proofs.Ytbbkejfcheobaab
