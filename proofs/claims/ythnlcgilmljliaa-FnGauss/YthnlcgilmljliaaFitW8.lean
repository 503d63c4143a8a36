/- The walk of the model's Fitted. -/
import Derived.Test.YthnlcgilmljliaaPk5
namespace Go.Proofs.Ythnlcgilmljliaa
open Go.RowKit Go.Proofs.Ythnlcgilmljliaa.RM

theorem pqStep (K n : Nat) (hn : n ≤ 1000) (N : Int) (hN : N = n) (bd : Bool) (s x : Fr) (e r : Fr × Bool) (he : e = powV x bd n) (hr : r = pqS s x n bd) :
    (∀ W : World, IsK W K bd → Calls Try.prog 46 #[.pointer (some ⟨K, 0, none⟩), .agg #[.int .i64 x.1, .int .i64 x.2], .int .i64 N] W fun z w' => z = .returned (.agg #[.int .i64 e.1.1, .int .i64 e.1.2]) ∧ IsK w' K e.2 ∧ W.grownBy w' (some K)) ∧
    (∀ W : World, IsK W K e.2 → Calls Try.prog 45 #[.pointer (some ⟨K, 0, none⟩), .agg #[.int .i64 s.1, .int .i64 s.2], .agg #[.int .i64 e.1.1, .int .i64 e.1.2]] W fun z w' => z = .returned (.agg #[.int .i64 r.1.1, .int .i64 r.1.2]) ∧ IsK w' K r.2 ∧ W.grownBy w' (some K)) := by
  subst hr
  subst he
  subst hN
  exact ⟨fun W hW => sPow_any K bd x n W hn hW, fun W hW => kAdd K _ _ _ _ _ W hW⟩
theorem Tab.lit2 {W : World} {base : Nat} (hb : base ≤ W.heap.size) : Tab (W.alloc (.cells #[] 27)) base (.slice (some ⟨W.heap.size, 0, none⟩) 0 0) [] [] := Tab.lit hb

set_option maxRecDepth 100000 in
set_option maxHeartbeats 40000000 in
theorem sFitted_any (z : Value) (ss : List Sp) (n : Int) (w : World) (h' : RdS w z ss) :
    Calls Try.prog 12 #[z, .int .i64 n] w fun e w' => ∃ vm, e = .returned (.tuple #[vm, .bool (fitO ss n)]) ∧ w'.ownsRow w.heap.size 33 2 vm (fitA ss n).length (cellsR (fitA ss n)) ∧ Below w.heap.size w w' := by
  obtain ⟨i0, hi, hz0, hz1, hz2⟩ := info_parts infoF
  obtain ⟨t0, hti, htz0, htz1, htz2⟩ := info_parts infoT
  have HO := hidP (fun W (hW : Below w.heap.size w W) => sSpo_any z ss W (h'.below hW))
  have HI := hidP (fun W => in_any n 1 4 W)
  have HG := hidP (fun (a : sptB ss = true) (b : inB n 1 4 = true) => fit_told (ss := ss) (n := n) a b)
  obtain ⟨q, hq⟩ : ∃ q, q = sptB ss := ⟨_, rfl⟩
  rw [← hq] at HO
  have HQ := hidP hq
  obtain ⟨o, ho⟩ : ∃ q, q = inB n 1 4 := ⟨_, rfl⟩
  rw [← ho] at HI
  have HOQ := hidP ho
  have HX : Hid (fitO ss n = (q && (o && (!(fitV ss n.toNat n.toNat).2 && (echK (wideT (fitT ss n) (fitR ss n)) && solF (fitT ss n).length (echC (wideT (fitT ss n) (fitR ss n)))))))) := by show _ = _; unfold fitO; rw [hq, ho]
  clear hq ho
  obtain ⟨a, c, rfl, h2, h3, h4, h5⟩ := h'
  have H5 : Hid (∀ j, j < ss.length → ∃ b off, a = some ⟨b, off, none⟩ ∧ w.cell? ⟨b, off + j * 4, none⟩ = some (.int .i64 (sp ss j).1.1) ∧ w.cell? ⟨b, off + j * 4 + 1, none⟩ = some (.int .i64 (sp ss j).1.2) ∧ w.cell? ⟨b, off + j * 4 + 2, none⟩ = some (.int .i64 (sp ss j).2.1) ∧ w.cell? ⟨b, off + j * 4 + 3, none⟩ = some (.int .i64 (sp ss j).2.2)) := h5
  clear h5 h2 h3 h4
  have HFN := hidP (fitA_no (ss := ss) (n := n))
  have HL12 : Hid (q = true → ss.length ≤ 12) := by intro ho; rw [HQ.out] at ho; exact (sptB_out ho).1.2
  obtain ⟨L, hL⟩ : ∃ L, L = ss.length := ⟨_, rfl⟩
  have HLE := hidP hL
  rw [← hL] at H5 HO HL12 ⊢
  clear hL
  go_enter Try.func12, Try.ntmps12
  cases q
  · have HF : Hid (fitO ss n = false) := by show _ = _; rw [HX.out]; rfl
    have HAN := hidP (HFN.out HF.out)
    go_wp2_with fail
    refine (HO.out _ (Below.refl _ _)).mono ?_
    rintro e w1 ⟨rfl, hb⟩
    go_wp2
    refine bodyPost_ret (v := .tuple #[.slice (some ⟨w1.heap.size, 0, none⟩) 0 0, .bool false]) (by simp [results, Try.results12, go_sem]) rfl ⟨.slice (some ⟨w1.heap.size, 0, none⟩) 0 0, ret_tb HF.out.symm, ?_, hb.alloc hb.size _⟩
    rw [HAN.out]
    exact litN w1 _ hb.size
  go_wp2_with fail
  refine (HO.out _ (Below.refl _ _)).mono ?_
  rintro e w1 ⟨rfl, hb⟩
  have B0 := hidP hb
  clear hb
  have HI2 : Hid (∀ W : World, Calls Try.prog 43 #[.int .i64 n, .int .i64 1, .int .i64 4] W fun e w' => e = .returned (.bool o) ∧ w' = W) := HI.out
  clear HI
  cases o
  · have HF : Hid (fitO ss n = false) := by show _ = _; rw [HX.out]; rfl
    have HAN := hidP (HFN.out HF.out)
    go_wp2_with fail
    refine (HI2.out _).mono ?_
    rintro e w2 ⟨rfl, rfl⟩
    go_wp2
    refine bodyPost_ret (v := .tuple #[.slice (some ⟨w2.heap.size, 0, none⟩) 0 0, .bool false]) (by simp [results, Try.results12, go_sem]) rfl ⟨.slice (some ⟨w2.heap.size, 0, none⟩) 0 0, ret_tb HF.out.symm, ?_, B0.out.alloc B0.out.size _⟩
    rw [HAN.out]
    exact litN w2 _ B0.out.size
  have hL12 := HL12.out trivial
  have hn14 : 1 ≤ n ∧ n ≤ 4 := of_decide_eq_true HOQ.out.symm
  obtain ⟨N, hN⟩ : ∃ N : Nat, n = (N : Int) := ⟨n.toNat, by omega⟩
  have HNN := hidP hN
  have hN1 : 1 ≤ N := by omega
  have hN4 : N ≤ 4 := by omega
  replace HG := hidP (HG.out HQ.out.symm HOQ.out.symm)
  obtain ⟨P, hP⟩ : ∃ P, P = fitV ss N := ⟨_, rfl⟩
  have HPE : Hid (fitV ss n.toNat n.toNat = P N) := by show _ = _; rw [hP, hN]; rfl
  have HP0 : Hid (P 0 = (([], []), false)) := by show _ = _; rw [hP]; rfl
  have HPS : Hid (∀ p, P (p + 1) = (((P p).1.1 ++ [(frwV ss p (P p).2 N).1], (P p).1.2 ++ [(rgtV ss p (frwV ss p (P p).2 N).2 L).1]), (rgtV ss p (frwV ss p (P p).2 N).2 L).2)) := by intro p; rw [hP, HLE.out]; rfl
  have HPT : Hid (∀ p, (P p).1.1.length = p) := by intro p; rw [hP]; exact fitV_lenT _ _ _
  have HPR : Hid (∀ p, (P p).1.2.length = p) := by intro p; rw [hP]; exact fitV_lenR _ _ _
  have HPW : Hid (∀ p k, k < p → (rw' (P p).1.1 k).length = N) := by intro p; rw [hP]; exact fitV_row _ _ _
  clear hn14 hP
  subst hN
  go_wp2_with fail
  refine (HI2.out _).mono ?_
  rintro e w2 ⟨rfl, rfl⟩
  clear HI2 HO
  go_wp2
  obtain ⟨K, hK⟩ : ∃ K, K = w2.heap.size := ⟨_, rfl⟩
  have hwK : w.heap.size ≤ K := by have := B0.out.size; omega
  obtain ⟨X, hX⟩ : ∃ X, X = ((w2.alloc (.cells #[.bool false] 71)).alloc (.cells #[] 27)).alloc (.cells #[] 33) := ⟨_, rfl⟩
  have K0 : Hid (IsK X K (P 0).2) := by show IsK _ _ _; rw [HP0.out, hX, hK]; exact ((IsK.new w2 false).below (b0P _ _)).below (b0P _ _)
  have T0 : Hid (TR X (K + 1) (.slice (some ⟨K + 1, 0, none⟩) 0 0) [] (P 0).1.1 (.slice (some ⟨K + 2, 0, none⟩) 0 0) (P 0).1.2) := by
    have h1 := (Tab.lit2 (W := w2.alloc (.cells #[.bool false] 71)) (base := K + 1) (by rw [hK]; simp)).below (b0P _ (.cells #[] 33))
    have h2 := litN ((w2.alloc (.cells #[.bool false] 71)).alloc (.cells #[] 27)) (K + 1) (by rw [hK]; simp)
    refine ⟨?_, ?_, fun i hi => absurd hi (Nat.not_lt_zero _)⟩
    · rw [HP0.out, hX]; simpa [hK] using h1
    · rw [HP0.out, hX]; simpa [hK] using h2
  have B1 : Hid (Below w.heap.size w X) := by show Below _ _ _; rw [hX]; exact ((B0.out.alloc B0.out.size _).alloc (by have := B0.out.size; simp; omega) _).alloc (by have := B0.out.size; simp; omega) _
  rw [← hX, ← hK]
  clear hX hK B0
  go_loopw [7, 8, 9] (fun q r i wr => ∃ (tv rv : Value) (p : Nat) (us : List Value), p ≤ N ∧ i = .int .i64 p ∧ tv = q ∧ rv = r ∧ us.length = p ∧ Hid (TR wr (K + 1) tv us (P p).1.1 rv (P p).1.2) ∧ Hid (IsK wr K (P p).2) ∧ Hid (Below w.heap.size w wr)) (fun _ _ i _ => N - (intOf i).toNat)
  case atStart => exact ⟨_, _, 0, [], Nat.zero_le _, rfl, rfl, rfl, rfl, T0, K0, B1⟩
  case round =>
    clear T0 K0 B1
    obtain ⟨tv, rv, m, us, hm, rfl, rfl, rfl, hus, hT, kk, hB⟩ := hrel
    by_cases hltm : m < N
    · have hmd : decide ((m : Int) < (N : Int)) = true := decide_eq_true (by omega)
      obtain ⟨C, hC⟩ : ∃ C, C = frwV ss m (P m).2 := ⟨_, rfl⟩
      have HC0 : Hid (C 0 = ([], (P m).2)) := by show _ = _; rw [hC]; rfl
      have HCS : Hid (∀ q, C (q + 1) = ((C q).1 ++ [(pqV ss (m + q) (C q).2 L).1], (pqV ss (m + q) (C q).2 L).2)) := by intro q; rw [hC, HLE.out]; rfl
      have HCL : Hid (∀ q, (C q).1.length = q) := by intro q; rw [hC]; exact frwV_len _ _ _ _
      have HCE : Hid (frwV ss m (P m).2 N = C N) := by show _ = _; rw [hC]
      clear hC
      go_wp2
      obtain ⟨Sk, hSk⟩ : ∃ s, s = wr.heap.size := ⟨_, rfl⟩
      have hKS : K + 1 ≤ Sk := by have := kk.out.lt; omega
      have hwSk : w.heap.size ≤ Sk := by have := hB.out.size; omega
      have HTU : Hid (TRU Sk tv us rv) := by show TRU _ _ _ _; rw [hSk]; exact hT.out.under
      obtain ⟨Y, hY⟩ : ∃ Y, Y = wr.alloc (.cells #[] 33) := ⟨_, rfl⟩
      have O1 : Hid (Y.ownsRow Sk 33 2 (.slice (some ⟨Sk, 0, none⟩) 0 0) 0 (cellsR (C 0).1)) := by show World.ownsRow _ _ _ _ _ _ _; rw [hY, HC0.out, hSk]; exact litN wr wr.heap.size (Nat.le_refl _)
      have T1 : Hid (TR Y (K + 1) tv us (P m).1.1 rv (P m).1.2) := by show TR _ _ _ _ _ _ _; rw [hY]; exact hT.out.below (b0P _ _)
      have K1 : Hid (IsK Y K (C 0).2) := by show IsK _ _ _; rw [hY, HC0.out]; exact kk.out.below (b0P _ _)
      have B1 : Hid (Below w.heap.size w Y) := by show Below _ _ _; rw [hY]; exact hB.out.alloc hB.out.size _
      have G1 : Hid (Sk ≤ Y.heap.size) := by show _ ≤ _; rw [hY, hSk]; simp
      rw [← hSk, ← hY]
      clear hY hSk hT kk hB
      go_loopw [10, 11] (fun q i wr => ∃ (o : Value) (j : Nat), j ≤ N ∧ i = .int .i64 j ∧ o = q ∧ Hid (wr.ownsRow Sk 33 2 o j (cellsR (C j).1)) ∧ Hid (TR wr (K + 1) tv us (P m).1.1 rv (P m).1.2) ∧ Hid (IsK wr K (C j).2) ∧ Hid (Below w.heap.size w wr) ∧ Hid (Sk ≤ wr.heap.size)) (fun _ i _ => N - (intOf i).toNat)
      case atStart => exact ⟨_, 0, Nat.zero_le _, rfl, rfl, O1, T1, K1, B1, G1⟩
      case round =>
        clear O1 T1 K1 B1 G1
        obtain ⟨o, j, hj, rfl, rfl, hO, hT, kk, hB, hg⟩ := hrel
        by_cases hltj : j < N
        · have hjd : decide ((j : Int) < (N : Int)) = true := decide_eq_true (by omega)
          obtain ⟨F, hF⟩ : ∃ F, F = pqV ss (m + j) (C j).2 := ⟨_, rfl⟩
          have HF0 : Hid (F 0 = ((0, 1), (C j).2)) := by show _ = _; rw [hF]; rfl
          have HFS : Hid (∀ k, F (k + 1) = pqS (F k).1 (sp ss k).1 (m + j) (F k).2) := by intro k; rw [hF]; rfl
          have HFE : Hid (pqV ss (m + j) (C j).2 L = F L) := by show _ = _; rw [hF]
          clear hF
          go_wp2_with fail
          refine (zero_any _).mono ?_
          rintro e w4 ⟨rfl, hb⟩
          have hs4 := hb.size
          have hg' := hg.out
          have O4 := hidP (own_below (own_below hO.out hb) (b0P w4 (.cells #[.int .i64 0, .int .i64 1] 33)))
          have T4 := hidP (TR.below (TR.below hT.out hb) (b0P w4 (.cells #[.int .i64 0, .int .i64 1] 33)))
          have K4 : Hid (IsK (w4.alloc (.cells #[.int .i64 0, .int .i64 1] 33)) K (F 0).2) := by show IsK _ _ _; rw [HF0.out]; exact (kk.out.below hb).below (b0P _ _)
          have B4 := hidP ((hB.out.trans (hb.mono hB.out.size)).alloc (by have := hB.out.size; omega) (.cells #[.int .i64 0, .int .i64 1] 33))
          obtain ⟨Sb, hSb⟩ : ∃ S, S = w4.heap.size := ⟨_, rfl⟩
          have hSS : Sk ≤ Sb := by omega
          have hSK : Sb ≠ K := by omega
          have hwS : w.heap.size ≤ Sb := by omega
          have HOS : Hid (∀ b', o.ownBlock = some b' → b' < Sb) := fun b' e => by have := (World.ownsRow.lt hO.out b' e).2; omega
          have S4 : Hid (IsR (w4.alloc (.cells #[.int .i64 0, .int .i64 1] 33)) Sb (F 0).1.1 (F 0).1.2) := by show IsR _ _ _ _; rw [HF0.out, hSb]; exact IsR.new w4 0 1
          have G4 : Hid (Sk ≤ (w4.alloc (.cells #[.int .i64 0, .int .i64 1] 33)).heap.size) := by show _ ≤ _; simp; omega
          go_wp2
          rw [← hSb]
          obtain ⟨Y, hY⟩ : ∃ Y, Y = w4.alloc (.cells #[.int .i64 0, .int .i64 1] 33) := ⟨_, rfl⟩
          rw [← hY] at O4 T4 K4 S4 B4 G4 ⊢
          clear hY hSb hb hs4 hg' hO hT kk hB hg
          go_loopw [13] (fun i wr => ∃ k : Nat, k ≤ L ∧ i = .int .i64 k ∧ Hid (IsR wr Sb (F k).1.1 (F k).1.2) ∧ Hid (IsK wr K (F k).2) ∧ Hid (wr.ownsRow Sk 33 2 o j (cellsR (C j).1)) ∧ Hid (TR wr (K + 1) tv us (P m).1.1 rv (P m).1.2) ∧ Hid (Below w.heap.size w wr) ∧ Hid (Sk ≤ wr.heap.size)) (fun i _ => L - (intOf i).toNat)
          case atStart => exact ⟨0, Nat.zero_le _, rfl, S4, K4, O4, T4, B4, G4⟩
          case round =>
            clear S4 K4 O4 T4 B4 G4
            obtain ⟨k, hk, rfl, hS, kk, hO, hT, hB, hg⟩ := hrel
            by_cases hlt : k < L
            · have hkd : decide ((k : Int) < (L : Int)) = true := decide_eq_true (by omega)
              obtain ⟨b, off, rfl, c1, c2, _, _⟩ := H5.out k hlt
              have l1 := World.block_lt_of_cell? w _ c1
              dsimp only at l1
              have hbK : b ≠ K := by omega
              replace c1 := cell_keep hB.out c1
              replace c2 := cell_keep hB.out c2
              obtain ⟨s, hs⟩ : ∃ z, z = F k := ⟨_, rfl⟩
              obtain ⟨r, hr⟩ : ∃ z, z = F (k + 1) := ⟨_, rfl⟩
              have HQ' : Hid (F (k + 1) = r) := hr.symm
              rw [HFS.out k, ← hs] at hr
              rw [← hs] at hS kk
              obtain ⟨s, so⟩ := s
              obtain ⟨x, hx⟩ : ∃ x, x = (sp ss k).1 := ⟨_, rfl⟩
              rw [← hx] at c1 c2 hr
              obtain ⟨⟨ee, eo⟩, he⟩ : ∃ z, z = powV x so (m + j) := ⟨_, rfl⟩
              obtain ⟨HPW', HAD⟩ := pqStep K (m + j) (by omega) (IntKind.i64.wrap ((m : Int) + (j : Int))) (by rw [IntKind.wrap_i64]; omega) so s x (ee, eo) r he hr
              replace HPW' := hidP HPW'
              replace HAD := hidP HAD
              obtain ⟨x1, x2⟩ := x
              obtain ⟨s1, s2⟩ := s
              obtain ⟨e1, e2⟩ := ee
              obtain ⟨⟨r1, r2⟩, ro⟩ := r
              clear hs hr hx he
              dsimp only at c1 c2 hS kk HPW' HAD
              go_upto_region 17 with fail
              refine wp_region_noPanic ?_
              refine wp_region_held_drew (S := (fun w' => w'.cell? ⟨b, off + k * 4, none⟩ = some (.int .i64 x1) ∧ w'.cell? ⟨b, off + k * 4 + 1, none⟩ = some (.int .i64 x2))) (by kernel_rfl) ?_ (fun hHeld => ?_)
              · (try dsimp only)
                refine ⟨?_, ?_⟩ <;> (repeat (with_reducible (first | exact c1 | exact c2 | refine cell_dr ?_ | refine cell_stb ?_ ?_ | refine cell_al _ ?_ | (show _ ≠ _; omega))))
              have hbd := (Below.refl wr.heap.size wr).drew
              replace hS := hidP (hS.out.below hbd)
              replace hO := hidP (own_below hO.out hbd)
              replace hT := hidP (TR.below hT.out hbd)
              replace kk := hidP (kk.out.below hbd)
              replace hB := hidP (hB.out.trans (hbd.mono hB.out.size))
              clear hbd
              replace c1 := cell_dr c1
              replace c2 := cell_dr c2
              obtain ⟨wd, hwd⟩ : ∃ u, u = wr.drew := ⟨_, rfl⟩
              rw [← hwd] at hS hO hT kk hB c1 c2 hHeld ⊢
              clear hwd
              refine wpAnyH_take (i := 0) (v := ?_) rfl (by kernel_rfl) (by kernel_rfl) (by kernel_rfl) (fun _ _ _ h => h) (Or.inl ⟨by kernel_rfl, ?_⟩) hHeld ?_
              rotate_left
              · intro wz hSw; (try dsimp only at hSw); go_simp; all_goals (try with_reducible rfl)
              (try simp only [List.getElem_toArray]); (try simp only [List.getElem_cons_succ]); (try simp only [List.getElem_cons_zero]); (try simp only [Act.put]); (try simp only [List.setIfInBounds_toArray]); (try simp only [List.set_cons_succ]); (try simp only [List.set_cons_zero])
              refine wpAnyH_take (i := 2) (v := ?_) rfl (by kernel_rfl) (by kernel_rfl) (by kernel_rfl) (fun _ _ _ h => h) (Or.inl ⟨by kernel_rfl, ?_⟩) hHeld ?_
              rotate_left
              · intro wz hSw; (try dsimp only at hSw); go_simp; all_goals (try with_reducible rfl)
              (try simp only [List.getElem_toArray]); (try simp only [List.getElem_cons_succ]); (try simp only [List.getElem_cons_zero]); (try simp only [Act.put]); (try simp only [List.setIfInBounds_toArray]); (try simp only [List.set_cons_succ]); (try simp only [List.set_cons_zero])
              refine wpAnyH_take (i := 3) (v := ?_) rfl (by kernel_rfl) (by kernel_rfl) (by kernel_rfl) (fun _ _ _ h => h) (Or.inl ⟨by kernel_rfl, ?_⟩) hHeld ?_
              rotate_left
              · intro wz hSw; (try dsimp only at hSw); go_simp; all_goals (try with_reducible rfl)
              (try simp only [List.getElem_toArray]); (try simp only [List.getElem_cons_succ]); (try simp only [List.getElem_cons_zero]); (try simp only [Act.put]); (try simp only [List.setIfInBounds_toArray]); (try simp only [List.set_cons_succ]); (try simp only [List.set_cons_zero])
              refine wpAnyH_take (i := 4) (v := ?_) rfl (by kernel_rfl) (by kernel_rfl) (by kernel_rfl) (fun _ _ _ h => h) (Or.inl ⟨by kernel_rfl, ?_⟩) hHeld ?_
              rotate_left
              · intro wz hSw; (try dsimp only at hSw); go_simp; all_goals (try with_reducible rfl)
              (try simp only [List.getElem_toArray]); (try simp only [List.getElem_cons_succ]); (try simp only [List.getElem_cons_zero]); (try simp only [Act.put]); (try simp only [List.setIfInBounds_toArray]); (try simp only [List.set_cons_succ]); (try simp only [List.set_cons_zero])
              refine wpAnyH_take (i := 5) (v := ?_) rfl (by kernel_rfl) (by kernel_rfl) (by kernel_rfl) (fun _ _ _ h => h) (Or.inl ⟨by kernel_rfl, ?_⟩) hHeld ?_
              rotate_left
              · intro wz hSw; (try dsimp only at hSw); go_simp; all_goals (try with_reducible rfl)
              (try simp only [List.getElem_toArray]); (try simp only [List.getElem_cons_succ]); (try simp only [List.getElem_cons_zero]); (try simp only [Act.put]); (try simp only [List.setIfInBounds_toArray]); (try simp only [List.set_cons_succ]); (try simp only [List.set_cons_zero])
              refine wpAnyH_take (i := 6) (v := ?_) rfl (by kernel_rfl) (by kernel_rfl) (by kernel_rfl) (fun _ _ _ h => h) (Or.inl ⟨by kernel_rfl, ?_⟩) hHeld ?_
              rotate_left
              · intro wz hSw; (try dsimp only at hSw); go_simp; all_goals (try with_reducible rfl)
              (try simp only [List.getElem_toArray]); (try simp only [List.getElem_cons_succ]); (try simp only [List.getElem_cons_zero]); (try simp only [Act.put]); (try simp only [List.setIfInBounds_toArray]); (try simp only [List.set_cons_succ]); (try simp only [List.set_cons_zero])
              refine wpAnyH_take (i := 7) (v := ?_) rfl (by kernel_rfl) (by kernel_rfl) (by kernel_rfl) (fun _ _ _ h => h) (Or.inl ⟨by kernel_rfl, ?_⟩) hHeld ?_
              rotate_left
              · intro wz hSw; (try dsimp only at hSw); go_simp; all_goals (try with_reducible rfl)
              (try simp only [List.getElem_toArray]); (try simp only [List.getElem_cons_succ]); (try simp only [List.getElem_cons_zero]); (try simp only [Act.put]); (try simp only [List.setIfInBounds_toArray]); (try simp only [List.set_cons_succ]); (try simp only [List.set_cons_zero])
              refine wpAnyH_take (i := 8) (v := ?_) rfl (by kernel_rfl) (by kernel_rfl) (by kernel_rfl) (fun _ _ _ h => h) (Or.inl ⟨by kernel_rfl, ?_⟩) hHeld ?_
              rotate_left
              · intro wz hSw; (try dsimp only at hSw); go_simp; all_goals (try with_reducible rfl)
              (try simp only [List.getElem_toArray]); (try simp only [List.getElem_cons_succ]); (try simp only [List.getElem_cons_zero]); (try simp only [Act.put]); (try simp only [List.setIfInBounds_toArray]); (try simp only [List.set_cons_succ]); (try simp only [List.set_cons_zero])
              refine wpAnyH_take (i := 9) (v := ?_) rfl (by kernel_rfl) (by kernel_rfl) (by kernel_rfl) (fun _ _ _ h => h) (Or.inl ⟨by kernel_rfl, ?_⟩) hHeld ?_
              rotate_left
              · intro wz hSw; (try dsimp only at hSw); go_simp; all_goals (try with_reducible rfl)
              (try simp only [List.getElem_toArray]); (try simp only [List.getElem_cons_succ]); (try simp only [List.getElem_cons_zero]); (try simp only [Act.put]); (try simp only [List.setIfInBounds_toArray]); (try simp only [List.set_cons_succ]); (try simp only [List.set_cons_zero])
              refine wpAnyH_take (i := 10) (v := ?_) rfl (by kernel_rfl) (by kernel_rfl) (by kernel_rfl) (fun _ _ _ h => h) (Or.inl ⟨by kernel_rfl, ?_⟩) hHeld ?_
              rotate_left
              · intro wz hSw; (try dsimp only at hSw); go_simp; all_goals (try with_reducible rfl)
              (try simp only [List.getElem_toArray]); (try simp only [List.getElem_cons_succ]); (try simp only [List.getElem_cons_zero]); (try simp only [Act.put]); (try simp only [List.setIfInBounds_toArray]); (try simp only [List.set_cons_succ]); (try simp only [List.set_cons_zero])
              refine wpAnyH_ready (rs := [1, 11]) (by kernel_rfl) (by simp) (AllReadyH.cons rfl (fun Kc hKc => ?_) (AllReadyH.cons rfl (fun Kc hKc => ?_) AllReadyH.nil))
              ·
                have e0' := hS.out.c0
                have e1' := hS.out.c1
                go_simp
                refine hKc.out _ _ ?_ (fun hHeld => ?_)
                · (try dsimp only)
                  refine ⟨?_, ?_⟩ <;> (repeat (with_reducible (first | exact c1 | exact c2 | refine cell_dr ?_ | refine cell_stb ?_ ?_ | refine cell_al _ ?_ | (show _ ≠ _; omega))))
                clear hKc Kc
                (try simp only [List.getElem_toArray]); (try simp only [List.getElem_cons_succ]); (try simp only [List.getElem_cons_zero]); (try simp only [Act.put]); (try simp only [List.setIfInBounds_toArray]); (try simp only [List.set_cons_succ]); (try simp only [List.set_cons_zero])
                refine wpAnyH_ready (rs := [11]) (by kernel_rfl) (by simp) (AllReadyH.cons rfl (fun Kc hKc => ?_) AllReadyH.nil)
                go_simp
                (go_at_call 46; refine (HPW'.out _ kk.out).mono ?_; rintro e u2 ⟨rfl, kk', g2⟩)
                have c1 := cell_g g2 c1 hbK
                have c2 := cell_g g2 c2 hbK
                have hS := hidP (IsR.grown (by exact hS.out) g2 hSK)
                have hO := hidP (own_g g2 hO.out (by omega))
                have hT := hidP (TR.g hT.out g2 (by omega))
                have hB := hidP (hB.out.trans (below_grownK g2 hwK hB.out.size))
                have kk := hidP kk'
                clear g2 kk'
                go_wp2_with fail
                refine hKc.out _ _ ?_ (fun hHeld => ?_)
                · (try dsimp only)
                  refine ⟨?_, ?_⟩ <;> (repeat (with_reducible (first | exact c1 | exact c2 | refine cell_dr ?_ | refine cell_stb ?_ ?_ | refine cell_al _ ?_ | (show _ ≠ _; omega))))
                clear hKc Kc
                (try simp only [List.getElem_toArray]); (try simp only [List.getElem_cons_succ]); (try simp only [List.getElem_cons_zero]); (try simp only [Act.put]); (try simp only [List.setIfInBounds_toArray]); (try simp only [List.set_cons_succ]); (try simp only [List.set_cons_zero])
                refine wpAnyH_ready (rs := [12]) (by kernel_rfl) (by simp) (AllReadyH.cons rfl (fun Kc hKc => ?_) AllReadyH.nil)
                go_simp
                (go_at_call 45; refine (HAD.out _ kk.out).mono ?_; rintro e u3 ⟨rfl, kk', g2⟩)
                have c1 := cell_g g2 c1 hbK
                have c2 := cell_g g2 c2 hbK
                have hS := hidP (IsR.grown (by exact hS.out) g2 hSK)
                have hO := hidP (own_g g2 hO.out (by omega))
                have hT := hidP (TR.g hT.out g2 (by omega))
                have hB := hidP (hB.out.trans (below_grownK g2 hwK hB.out.size))
                have kk := hidP kk'
                clear g2 kk'
                go_wp2_with fail
                refine hKc.out _ _ ?_ (fun hHeld => ?_)
                · (try dsimp only)
                  refine ⟨?_, ?_⟩ <;> (repeat (with_reducible (first | exact c1 | exact c2 | refine cell_dr ?_ | refine cell_stb ?_ ?_ | refine cell_al _ ?_ | (show _ ≠ _; omega))))
                clear hKc Kc
                (try simp only [List.getElem_toArray]); (try simp only [List.getElem_cons_succ]); (try simp only [List.getElem_cons_zero]); (try simp only [Act.put]); (try simp only [List.setIfInBounds_toArray]); (try simp only [List.set_cons_succ]); (try simp only [List.set_cons_zero])
                have f0 := hS.out.f0
                have f1 := hS.out.f1
                have e0' := hS.out.c0
                have e1' := hS.out.c1
                refine wpAnyH_ready (rs := [13]) (by kernel_rfl) (by simp) (AllReadyH.cons rfl (fun Kc hKc => ?_) AllReadyH.nil)
                go_simp
                refine hKc.out _ _ ?_ (fun hHeld => ?_)
                · (try dsimp only)
                  refine ⟨?_, ?_⟩ <;> (repeat (with_reducible (first | exact c1 | exact c2 | refine cell_dr ?_ | refine cell_stb ?_ ?_ | refine cell_al _ ?_ | (show _ ≠ _; omega))))
                clear hKc Kc
                (try simp only [List.getElem_toArray]); (try simp only [List.getElem_cons_succ]); (try simp only [List.getElem_cons_zero]); (try simp only [Act.put]); (try simp only [List.setIfInBounds_toArray]); (try simp only [List.set_cons_succ]); (try simp only [List.set_cons_zero])
                refine wpAnyH_done (by kernel_rfl) ?_ _
                refine NoPanic.normal ?_
                go_wp2
                go_roundw
                case rel =>
                  refine ⟨k + 1, by omega, by go_num, ?_, ?_, own_st (own_st hO.out HOS.out 0 _) HOS.out 1 _, TR.st (TR.st hT.out HTU.out hSS 0 _) HTU.out hSS 1 _, (hB.out.setCell (p := ⟨Sb, 0, none⟩) hwS _).setCell (p := ⟨Sb, 1, none⟩) hwS _, by have := hT.out.under; have := hS.out.lt; show _ ≤ _; simp; omega⟩
                  · show IsR _ _ _ _
                    rw [HQ'.out]
                    exact (hS.out.set0 _).set1 _
                  · show IsK _ _ _
                    rw [HQ'.out]
                    exact (kk.out.other hSK.symm 0 (.int .i64 r1)).other hSK.symm 1 (.int .i64 r2)
                case measure => simp [intOf]; omega
              ·
                go_simp
                (go_at_call 46; refine (HPW'.out _ kk.out).mono ?_; rintro e u4 ⟨rfl, kk', g2⟩)
                have c1 := cell_g g2 c1 hbK
                have c2 := cell_g g2 c2 hbK
                have hS := hidP (IsR.grown (by exact hS.out) g2 hSK)
                have hO := hidP (own_g g2 hO.out (by omega))
                have hT := hidP (TR.g hT.out g2 (by omega))
                have hB := hidP (hB.out.trans (below_grownK g2 hwK hB.out.size))
                have kk := hidP kk'
                clear g2 kk'
                go_wp2_with fail
                refine hKc.out _ _ ?_ (fun hHeld => ?_)
                · (try dsimp only)
                  refine ⟨?_, ?_⟩ <;> (repeat (with_reducible (first | exact c1 | exact c2 | refine cell_dr ?_ | refine cell_stb ?_ ?_ | refine cell_al _ ?_ | (show _ ≠ _; omega))))
                clear hKc Kc
                (try simp only [List.getElem_toArray]); (try simp only [List.getElem_cons_succ]); (try simp only [List.getElem_cons_zero]); (try simp only [Act.put]); (try simp only [List.setIfInBounds_toArray]); (try simp only [List.set_cons_succ]); (try simp only [List.set_cons_zero])
                refine wpAnyH_ready (rs := [1]) (by kernel_rfl) (by simp) (AllReadyH.cons rfl (fun Kc hKc => ?_) AllReadyH.nil)
                have e0' := hS.out.c0
                have e1' := hS.out.c1
                go_simp
                refine hKc.out _ _ ?_ (fun hHeld => ?_)
                · (try dsimp only)
                  refine ⟨?_, ?_⟩ <;> (repeat (with_reducible (first | exact c1 | exact c2 | refine cell_dr ?_ | refine cell_stb ?_ ?_ | refine cell_al _ ?_ | (show _ ≠ _; omega))))
                clear hKc Kc
                (try simp only [List.getElem_toArray]); (try simp only [List.getElem_cons_succ]); (try simp only [List.getElem_cons_zero]); (try simp only [Act.put]); (try simp only [List.setIfInBounds_toArray]); (try simp only [List.set_cons_succ]); (try simp only [List.set_cons_zero])
                refine wpAnyH_ready (rs := [12]) (by kernel_rfl) (by simp) (AllReadyH.cons rfl (fun Kc hKc => ?_) AllReadyH.nil)
                go_simp
                (go_at_call 45; refine (HAD.out _ kk.out).mono ?_; rintro e u6 ⟨rfl, kk', g2⟩)
                have c1 := cell_g g2 c1 hbK
                have c2 := cell_g g2 c2 hbK
                have hS := hidP (IsR.grown (by exact hS.out) g2 hSK)
                have hO := hidP (own_g g2 hO.out (by omega))
                have hT := hidP (TR.g hT.out g2 (by omega))
                have hB := hidP (hB.out.trans (below_grownK g2 hwK hB.out.size))
                have kk := hidP kk'
                clear g2 kk'
                go_wp2_with fail
                refine hKc.out _ _ ?_ (fun hHeld => ?_)
                · (try dsimp only)
                  refine ⟨?_, ?_⟩ <;> (repeat (with_reducible (first | exact c1 | exact c2 | refine cell_dr ?_ | refine cell_stb ?_ ?_ | refine cell_al _ ?_ | (show _ ≠ _; omega))))
                clear hKc Kc
                (try simp only [List.getElem_toArray]); (try simp only [List.getElem_cons_succ]); (try simp only [List.getElem_cons_zero]); (try simp only [Act.put]); (try simp only [List.setIfInBounds_toArray]); (try simp only [List.set_cons_succ]); (try simp only [List.set_cons_zero])
                have f0 := hS.out.f0
                have f1 := hS.out.f1
                have e0' := hS.out.c0
                have e1' := hS.out.c1
                refine wpAnyH_ready (rs := [13]) (by kernel_rfl) (by simp) (AllReadyH.cons rfl (fun Kc hKc => ?_) AllReadyH.nil)
                go_simp
                refine hKc.out _ _ ?_ (fun hHeld => ?_)
                · (try dsimp only)
                  refine ⟨?_, ?_⟩ <;> (repeat (with_reducible (first | exact c1 | exact c2 | refine cell_dr ?_ | refine cell_stb ?_ ?_ | refine cell_al _ ?_ | (show _ ≠ _; omega))))
                clear hKc Kc
                (try simp only [List.getElem_toArray]); (try simp only [List.getElem_cons_succ]); (try simp only [List.getElem_cons_zero]); (try simp only [Act.put]); (try simp only [List.setIfInBounds_toArray]); (try simp only [List.set_cons_succ]); (try simp only [List.set_cons_zero])
                refine wpAnyH_done (by kernel_rfl) ?_ _
                refine NoPanic.normal ?_
                go_wp2
                go_roundw
                case rel =>
                  refine ⟨k + 1, by omega, by go_num, ?_, ?_, own_st (own_st hO.out HOS.out 0 _) HOS.out 1 _, TR.st (TR.st hT.out HTU.out hSS 0 _) HTU.out hSS 1 _, (hB.out.setCell (p := ⟨Sb, 0, none⟩) hwS _).setCell (p := ⟨Sb, 1, none⟩) hwS _, by have := hT.out.under; have := hS.out.lt; show _ ≤ _; simp; omega⟩
                  · show IsR _ _ _ _
                    rw [HQ'.out]
                    exact (hS.out.set0 _).set1 _
                  · show IsK _ _ _
                    rw [HQ'.out]
                    exact (kk.out.other hSK.symm 0 (.int .i64 r1)).other hSK.symm 1 (.int .i64 r2)
                case measure => simp [intOf]; omega
            · obtain rfl : k = L := by omega
              have hr0 := hS.out.c0
              have hr1 := hS.out.c1
              have hjm : j + 1 ≤ maxLen := by unfold maxLen; omega
              have hgs := hg.out
              obtain ⟨s1, hs1⟩ : ∃ z, z = (F k).1.1 := ⟨_, rfl⟩
              obtain ⟨s2, hs2⟩ : ∃ z, z = (F k).1.2 := ⟨_, rfl⟩
              have HS12 := hidP (And.intro hs1 hs2)
              rw [← hs1] at hr0
              rw [← hs2] at hr1
              clear hs1 hs2
              go_wp2_with (at_builtin; refine wpList_append_own _ rfl _ _ 27 rfl Sk 33 i0 (.agg #[.int .i64 0, .int .i64 0]) 2 16 Try.underlying27 hi hz0 hz1 hz2 rfl (by decide) _ _ _ rfl (hO.out.alloc _) ⟨wr.heap.size, 0, none⟩ 1 1 [.int .i64 s1, .int .i64 s2] rfl rfl (cell_twoF _ _ _ _) (by intro u hu; simp at hu; rcases hu with rfl | rfl <;> rfl) (by omega) (by omega) (by simp; omega) ?_; intro v' w5 hown' hgrow _)
              go_roundw
              case rel =>
                have hlo : ∀ b', o.ownBlock = some b' → Sk ≤ b' := fun b' e => (World.ownsRow.lt hO.out b' e).1
                have K5 := (kk.out.below (b0P wr (.cells #[.int .i64 s1, .int .i64 s2] 33))).grownO hgrow (fun e => by have := hlo K e; omega)
                have T5 := TR.grown (hT.out.below (b0P wr (.cells #[.int .i64 s1, .int .i64 s2] 33))) HTU.out hgrow hlo
                refine ⟨v', j + 1, by omega, by go_num, rfl, ?_, T5, ?_, hB.out.trans ((below_appended hO.out hgs hgrow).mono (by omega)), by have := hgrow.size; simp at this; show _ ≤ _; omega⟩
                · show World.ownsRow _ _ _ _ _ _ _
                  rw [HCS.out, HFE.out, cellsR_append]
                  have e1 : (F k).1 = (s1, s2) := by rw [HS12.out.1, HS12.out.2]
                  rw [e1]
                  exact hown'
                · show IsK _ _ _
                  rw [HCS.out, HFE.out]
                  exact K5
              case measure => simp [intOf]; omega
        · obtain rfl : j = N := by omega
          obtain ⟨F, hF⟩ : ∃ F, F = rgtV ss m (C j).2 := ⟨_, rfl⟩
          have HF0 : Hid (F 0 = ((0, 1), (C j).2)) := by show _ = _; rw [hF]; rfl
          have HFS : Hid (∀ k, F (k + 1) = nrS (F k).1 (sp ss k).1 m ((sp ss k).2, (F k).2)) := by intro k; rw [hF]; rfl
          have HFE : Hid (rgtV ss m (C j).2 L = F L) := by show _ = _; rw [hF]
          clear hF
          go_wp2_with fail
          refine (zero_any _).mono ?_
          rintro e w4 ⟨rfl, hb⟩
          have hs4 := hb.size
          have hg' := hg.out
          have O4 := hidP (own_below (own_below hO.out hb) (b0P w4 (.cells #[.int .i64 0, .int .i64 1] 33)))
          have T4 := hidP (TR.below (TR.below hT.out hb) (b0P w4 (.cells #[.int .i64 0, .int .i64 1] 33)))
          have K4 : Hid (IsK (w4.alloc (.cells #[.int .i64 0, .int .i64 1] 33)) K (F 0).2) := by show IsK _ _ _; rw [HF0.out]; exact (kk.out.below hb).below (b0P _ _)
          have B4 := hidP ((hB.out.trans (hb.mono hB.out.size)).alloc (by have := hB.out.size; omega) (.cells #[.int .i64 0, .int .i64 1] 33))
          obtain ⟨Sb, hSb⟩ : ∃ S, S = w4.heap.size := ⟨_, rfl⟩
          have hSS : Sk ≤ Sb := by omega
          have hSK : Sb ≠ K := by omega
          have hwS : w.heap.size ≤ Sb := by omega
          have HOS : Hid (∀ b', o.ownBlock = some b' → b' < Sb) := fun b' e => by have := (World.ownsRow.lt hO.out b' e).2; omega
          have S4 : Hid (IsR (w4.alloc (.cells #[.int .i64 0, .int .i64 1] 33)) Sb (F 0).1.1 (F 0).1.2) := by show IsR _ _ _ _; rw [HF0.out, hSb]; exact IsR.new w4 0 1
          have G4 : Hid (Sk ≤ (w4.alloc (.cells #[.int .i64 0, .int .i64 1] 33)).heap.size) := by show _ ≤ _; simp; omega
          go_wp2
          rw [← hSb]
          obtain ⟨Y, hY⟩ : ∃ Y, Y = w4.alloc (.cells #[.int .i64 0, .int .i64 1] 33) := ⟨_, rfl⟩
          rw [← hY] at O4 T4 K4 S4 B4 G4 ⊢
          clear hY hSb hb hs4 hg' hO hT kk hB hg
          go_loopw [15] (fun i wr => ∃ k : Nat, k ≤ L ∧ i = .int .i64 k ∧ Hid (IsR wr Sb (F k).1.1 (F k).1.2) ∧ Hid (IsK wr K (F k).2) ∧ Hid (wr.ownsRow Sk 33 2 o j (cellsR (C j).1)) ∧ Hid (TR wr (K + 1) tv us (P m).1.1 rv (P m).1.2) ∧ Hid (Below w.heap.size w wr) ∧ Hid (Sk ≤ wr.heap.size)) (fun i _ => L - (intOf i).toNat)
          case atStart => exact ⟨0, Nat.zero_le _, rfl, S4, K4, O4, T4, B4, G4⟩
          case round =>
            clear S4 K4 O4 T4 B4 G4
            obtain ⟨k, hk, rfl, hS, kk, hO, hT, hB, hg⟩ := hrel
            by_cases hlt : k < L
            · have hkd : decide ((k : Int) < (L : Int)) = true := decide_eq_true (by omega)
              obtain ⟨b, off, rfl, c1, c2, c3, c4⟩ := H5.out k hlt
              have l1 := World.block_lt_of_cell? w _ c1
              dsimp only at l1
              have hbK : b ≠ K := by omega
              replace c1 := cell_keep hB.out c1
              replace c2 := cell_keep hB.out c2
              replace c3 := cell_keep hB.out c3
              replace c4 := cell_keep hB.out c4
              obtain ⟨s, hs⟩ : ∃ z, z = F k := ⟨_, rfl⟩
              obtain ⟨r, hr⟩ : ∃ z, z = F (k + 1) := ⟨_, rfl⟩
              have HQ' : Hid (F (k + 1) = r) := hr.symm
              rw [HFS.out k, ← hs] at hr
              rw [← hs] at hS kk
              obtain ⟨s, so⟩ := s
              obtain ⟨t, ht⟩ : ∃ x, x = sp ss k := ⟨_, rfl⟩
              rw [← ht] at c1 c2 c3 c4 hr
              obtain ⟨x, y⟩ := t
              obtain ⟨⟨ee, eo⟩, he⟩ : ∃ z, z = powV x so m := ⟨_, rfl⟩
              obtain ⟨q, hq⟩ : ∃ z, z = p1V ee y := ⟨_, rfl⟩
              obtain ⟨HPW', HM, HAD⟩ := nrStep K m (by omega) so s x y q (ee, eo) r he hq hr
              replace HPW' := hidP HPW'
              replace HM := hidP HM
              replace HAD := hidP HAD
              obtain ⟨x1, x2⟩ := x
              obtain ⟨y1, y2⟩ := y
              obtain ⟨s1, s2⟩ := s
              obtain ⟨e1, e2⟩ := ee
              obtain ⟨q1, q2⟩ := q
              obtain ⟨⟨r1, r2⟩, ro⟩ := r
              clear hs hr ht he hq
              dsimp only at c1 c2 c3 c4 hS kk HPW' HM HAD
              go_upto_region 23 with fail
              refine wp_region_noPanic ?_
              refine wp_region_held_drew (S := (fun w' => w'.cell? ⟨b, off + k * 4, none⟩ = some (.int .i64 x1) ∧ w'.cell? ⟨b, off + k * 4 + 1, none⟩ = some (.int .i64 x2) ∧ w'.cell? ⟨b, off + k * 4 + 2, none⟩ = some (.int .i64 y1) ∧ w'.cell? ⟨b, off + k * 4 + 3, none⟩ = some (.int .i64 y2))) (by kernel_rfl) ?_ (fun hHeld => ?_)
              · (try dsimp only)
                refine ⟨?_, ?_, ?_, ?_⟩ <;> (repeat (with_reducible (first | exact c1 | exact c2 | exact c3 | exact c4 | refine cell_dr ?_ | refine cell_stb ?_ ?_ | refine cell_al _ ?_ | (show _ ≠ _; omega))))
              have hbd := (Below.refl wr.heap.size wr).drew
              replace hS := hidP (hS.out.below hbd)
              replace hO := hidP (own_below hO.out hbd)
              replace hT := hidP (TR.below hT.out hbd)
              replace kk := hidP (kk.out.below hbd)
              replace hB := hidP (hB.out.trans (hbd.mono hB.out.size))
              clear hbd
              replace c1 := cell_dr c1
              replace c2 := cell_dr c2
              replace c3 := cell_dr c3
              replace c4 := cell_dr c4
              obtain ⟨wd, hwd⟩ : ∃ u, u = wr.drew := ⟨_, rfl⟩
              rw [← hwd] at hS hO hT kk hB c1 c2 c3 c4 hHeld ⊢
              clear hwd
              refine wpAnyH_take (i := 0) (v := ?_) rfl (by kernel_rfl) (by kernel_rfl) (by kernel_rfl) (fun _ _ _ h => h) (Or.inl ⟨by kernel_rfl, ?_⟩) hHeld ?_
              rotate_left
              · intro wz hSw; (try dsimp only at hSw); go_simp; all_goals (try with_reducible rfl)
              (try simp only [List.getElem_toArray]); (try simp only [List.getElem_cons_succ]); (try simp only [List.getElem_cons_zero]); (try simp only [Act.put]); (try simp only [List.setIfInBounds_toArray]); (try simp only [List.set_cons_succ]); (try simp only [List.set_cons_zero])
              refine wpAnyH_take (i := 2) (v := ?_) rfl (by kernel_rfl) (by kernel_rfl) (by kernel_rfl) (fun _ _ _ h => h) (Or.inl ⟨by kernel_rfl, ?_⟩) hHeld ?_
              rotate_left
              · intro wz hSw; (try dsimp only at hSw); go_simp; all_goals (try with_reducible rfl)
              (try simp only [List.getElem_toArray]); (try simp only [List.getElem_cons_succ]); (try simp only [List.getElem_cons_zero]); (try simp only [Act.put]); (try simp only [List.setIfInBounds_toArray]); (try simp only [List.set_cons_succ]); (try simp only [List.set_cons_zero])
              refine wpAnyH_take (i := 3) (v := ?_) rfl (by kernel_rfl) (by kernel_rfl) (by kernel_rfl) (fun _ _ _ h => h) (Or.inl ⟨by kernel_rfl, ?_⟩) hHeld ?_
              rotate_left
              · intro wz hSw; (try dsimp only at hSw); go_simp; all_goals (try with_reducible rfl)
              (try simp only [List.getElem_toArray]); (try simp only [List.getElem_cons_succ]); (try simp only [List.getElem_cons_zero]); (try simp only [Act.put]); (try simp only [List.setIfInBounds_toArray]); (try simp only [List.set_cons_succ]); (try simp only [List.set_cons_zero])
              refine wpAnyH_take (i := 4) (v := ?_) rfl (by kernel_rfl) (by kernel_rfl) (by kernel_rfl) (fun _ _ _ h => h) (Or.inl ⟨by kernel_rfl, ?_⟩) hHeld ?_
              rotate_left
              · intro wz hSw; (try dsimp only at hSw); go_simp; all_goals (try with_reducible rfl)
              (try simp only [List.getElem_toArray]); (try simp only [List.getElem_cons_succ]); (try simp only [List.getElem_cons_zero]); (try simp only [Act.put]); (try simp only [List.setIfInBounds_toArray]); (try simp only [List.set_cons_succ]); (try simp only [List.set_cons_zero])
              refine wpAnyH_take (i := 5) (v := ?_) rfl (by kernel_rfl) (by kernel_rfl) (by kernel_rfl) (fun _ _ _ h => h) (Or.inl ⟨by kernel_rfl, ?_⟩) hHeld ?_
              rotate_left
              · intro wz hSw; (try dsimp only at hSw); go_simp; all_goals (try with_reducible rfl)
              (try simp only [List.getElem_toArray]); (try simp only [List.getElem_cons_succ]); (try simp only [List.getElem_cons_zero]); (try simp only [Act.put]); (try simp only [List.setIfInBounds_toArray]); (try simp only [List.set_cons_succ]); (try simp only [List.set_cons_zero])
              refine wpAnyH_take (i := 6) (v := ?_) rfl (by kernel_rfl) (by kernel_rfl) (by kernel_rfl) (fun _ _ _ h => h) (Or.inl ⟨by kernel_rfl, ?_⟩) hHeld ?_
              rotate_left
              · intro wz hSw; (try dsimp only at hSw); go_simp; all_goals (try with_reducible rfl)
              (try simp only [List.getElem_toArray]); (try simp only [List.getElem_cons_succ]); (try simp only [List.getElem_cons_zero]); (try simp only [Act.put]); (try simp only [List.setIfInBounds_toArray]); (try simp only [List.set_cons_succ]); (try simp only [List.set_cons_zero])
              refine wpAnyH_take (i := 7) (v := ?_) rfl (by kernel_rfl) (by kernel_rfl) (by kernel_rfl) (fun _ _ _ h => h) (Or.inl ⟨by kernel_rfl, ?_⟩) hHeld ?_
              rotate_left
              · intro wz hSw; (try dsimp only at hSw); go_simp; all_goals (try with_reducible rfl)
              (try simp only [List.getElem_toArray]); (try simp only [List.getElem_cons_succ]); (try simp only [List.getElem_cons_zero]); (try simp only [Act.put]); (try simp only [List.setIfInBounds_toArray]); (try simp only [List.set_cons_succ]); (try simp only [List.set_cons_zero])
              refine wpAnyH_take (i := 8) (v := ?_) rfl (by kernel_rfl) (by kernel_rfl) (by kernel_rfl) (fun _ _ _ h => h) (Or.inl ⟨by kernel_rfl, ?_⟩) hHeld ?_
              rotate_left
              · intro wz hSw; (try dsimp only at hSw); go_simp; all_goals (try with_reducible rfl)
              (try simp only [List.getElem_toArray]); (try simp only [List.getElem_cons_succ]); (try simp only [List.getElem_cons_zero]); (try simp only [Act.put]); (try simp only [List.setIfInBounds_toArray]); (try simp only [List.set_cons_succ]); (try simp only [List.set_cons_zero])
              refine wpAnyH_take (i := 9) (v := ?_) rfl (by kernel_rfl) (by kernel_rfl) (by kernel_rfl) (fun _ _ _ h => h) (Or.inl ⟨by kernel_rfl, ?_⟩) hHeld ?_
              rotate_left
              · intro wz hSw; (try dsimp only at hSw); go_simp; all_goals (try with_reducible rfl)
              (try simp only [List.getElem_toArray]); (try simp only [List.getElem_cons_succ]); (try simp only [List.getElem_cons_zero]); (try simp only [Act.put]); (try simp only [List.setIfInBounds_toArray]); (try simp only [List.set_cons_succ]); (try simp only [List.set_cons_zero])
              refine wpAnyH_take (i := 11) (v := ?_) rfl (by kernel_rfl) (by kernel_rfl) (by kernel_rfl) (fun _ _ _ h => h) (Or.inl ⟨by kernel_rfl, ?_⟩) hHeld ?_
              rotate_left
              · intro wz hSw; (try dsimp only at hSw); go_simp; all_goals (try with_reducible rfl)
              (try simp only [List.getElem_toArray]); (try simp only [List.getElem_cons_succ]); (try simp only [List.getElem_cons_zero]); (try simp only [Act.put]); (try simp only [List.setIfInBounds_toArray]); (try simp only [List.set_cons_succ]); (try simp only [List.set_cons_zero])
              refine wpAnyH_take (i := 12) (v := ?_) rfl (by kernel_rfl) (by kernel_rfl) (by kernel_rfl) (fun _ _ _ h => h) (Or.inl ⟨by kernel_rfl, ?_⟩) hHeld ?_
              rotate_left
              · intro wz hSw; (try dsimp only at hSw); go_simp; all_goals (try with_reducible rfl)
              (try simp only [List.getElem_toArray]); (try simp only [List.getElem_cons_succ]); (try simp only [List.getElem_cons_zero]); (try simp only [Act.put]); (try simp only [List.setIfInBounds_toArray]); (try simp only [List.set_cons_succ]); (try simp only [List.set_cons_zero])
              refine wpAnyH_take (i := 13) (v := ?_) rfl (by kernel_rfl) (by kernel_rfl) (by kernel_rfl) (fun _ _ _ h => h) (Or.inl ⟨by kernel_rfl, ?_⟩) hHeld ?_
              rotate_left
              · intro wz hSw; (try dsimp only at hSw); go_simp; all_goals (try with_reducible rfl)
              (try simp only [List.getElem_toArray]); (try simp only [List.getElem_cons_succ]); (try simp only [List.getElem_cons_zero]); (try simp only [Act.put]); (try simp only [List.setIfInBounds_toArray]); (try simp only [List.set_cons_succ]); (try simp only [List.set_cons_zero])
              refine wpAnyH_take (i := 14) (v := ?_) rfl (by kernel_rfl) (by kernel_rfl) (by kernel_rfl) (fun _ _ _ h => h) (Or.inl ⟨by kernel_rfl, ?_⟩) hHeld ?_
              rotate_left
              · intro wz hSw; (try dsimp only at hSw); go_simp; all_goals (try with_reducible rfl)
              (try simp only [List.getElem_toArray]); (try simp only [List.getElem_cons_succ]); (try simp only [List.getElem_cons_zero]); (try simp only [Act.put]); (try simp only [List.setIfInBounds_toArray]); (try simp only [List.set_cons_succ]); (try simp only [List.set_cons_zero])
              refine wpAnyH_take (i := 15) (v := ?_) rfl (by kernel_rfl) (by kernel_rfl) (by kernel_rfl) (fun _ _ _ h => h) (Or.inl ⟨by kernel_rfl, ?_⟩) hHeld ?_
              rotate_left
              · intro wz hSw; (try dsimp only at hSw); go_simp; all_goals (try with_reducible rfl)
              (try simp only [List.getElem_toArray]); (try simp only [List.getElem_cons_succ]); (try simp only [List.getElem_cons_zero]); (try simp only [Act.put]); (try simp only [List.setIfInBounds_toArray]); (try simp only [List.set_cons_succ]); (try simp only [List.set_cons_zero])
              refine wpAnyH_ready (rs := [1, 10]) (by kernel_rfl) (by simp) (AllReadyH.cons rfl (fun Kc hKc => ?_) (AllReadyH.cons rfl (fun Kc hKc => ?_) AllReadyH.nil))
              ·
                have e0' := hS.out.c0
                have e1' := hS.out.c1
                go_simp
                refine hKc.out _ _ ?_ (fun hHeld => ?_)
                · (try dsimp only)
                  refine ⟨?_, ?_, ?_, ?_⟩ <;> (repeat (with_reducible (first | exact c1 | exact c2 | exact c3 | exact c4 | refine cell_dr ?_ | refine cell_stb ?_ ?_ | refine cell_al _ ?_ | (show _ ≠ _; omega))))
                clear hKc Kc
                (try simp only [List.getElem_toArray]); (try simp only [List.getElem_cons_succ]); (try simp only [List.getElem_cons_zero]); (try simp only [Act.put]); (try simp only [List.setIfInBounds_toArray]); (try simp only [List.set_cons_succ]); (try simp only [List.set_cons_zero])
                refine wpAnyH_ready (rs := [10]) (by kernel_rfl) (by simp) (AllReadyH.cons rfl (fun Kc hKc => ?_) AllReadyH.nil)
                go_simp
                (go_at_call 46; refine (HPW'.out _ kk.out).mono ?_; rintro e u2 ⟨rfl, kk', g2⟩)
                have c1 := cell_g g2 c1 hbK
                have c2 := cell_g g2 c2 hbK
                have c3 := cell_g g2 c3 hbK
                have c4 := cell_g g2 c4 hbK
                have hS := hidP (IsR.grown (by exact hS.out) g2 hSK)
                have hO := hidP (own_g g2 hO.out (by omega))
                have hT := hidP (TR.g hT.out g2 (by omega))
                have hB := hidP (hB.out.trans (below_grownK g2 hwK hB.out.size))
                have kk := hidP kk'
                clear g2 kk'
                go_wp2_with fail
                refine hKc.out _ _ ?_ (fun hHeld => ?_)
                · (try dsimp only)
                  refine ⟨?_, ?_, ?_, ?_⟩ <;> (repeat (with_reducible (first | exact c1 | exact c2 | exact c3 | exact c4 | refine cell_dr ?_ | refine cell_stb ?_ ?_ | refine cell_al _ ?_ | (show _ ≠ _; omega))))
                clear hKc Kc
                (try simp only [List.getElem_toArray]); (try simp only [List.getElem_cons_succ]); (try simp only [List.getElem_cons_zero]); (try simp only [Act.put]); (try simp only [List.setIfInBounds_toArray]); (try simp only [List.set_cons_succ]); (try simp only [List.set_cons_zero])
                refine wpAnyH_ready (rs := [16]) (by kernel_rfl) (by simp) (AllReadyH.cons rfl (fun Kc hKc => ?_) AllReadyH.nil)
                go_simp
                (go_at_call 47; refine (HM.out _ kk.out).mono ?_; rintro e u3 ⟨rfl, kk', g2⟩)
                have c1 := cell_g g2 c1 hbK
                have c2 := cell_g g2 c2 hbK
                have c3 := cell_g g2 c3 hbK
                have c4 := cell_g g2 c4 hbK
                have hS := hidP (IsR.grown (by exact hS.out) g2 hSK)
                have hO := hidP (own_g g2 hO.out (by omega))
                have hT := hidP (TR.g hT.out g2 (by omega))
                have hB := hidP (hB.out.trans (below_grownK g2 hwK hB.out.size))
                have kk := hidP kk'
                clear g2 kk'
                go_wp2_with fail
                refine hKc.out _ _ ?_ (fun hHeld => ?_)
                · (try dsimp only)
                  refine ⟨?_, ?_, ?_, ?_⟩ <;> (repeat (with_reducible (first | exact c1 | exact c2 | exact c3 | exact c4 | refine cell_dr ?_ | refine cell_stb ?_ ?_ | refine cell_al _ ?_ | (show _ ≠ _; omega))))
                clear hKc Kc
                (try simp only [List.getElem_toArray]); (try simp only [List.getElem_cons_succ]); (try simp only [List.getElem_cons_zero]); (try simp only [Act.put]); (try simp only [List.setIfInBounds_toArray]); (try simp only [List.set_cons_succ]); (try simp only [List.set_cons_zero])
                refine wpAnyH_ready (rs := [17]) (by kernel_rfl) (by simp) (AllReadyH.cons rfl (fun Kc hKc => ?_) AllReadyH.nil)
                go_simp
                (go_at_call 45; refine (HAD.out _ kk.out).mono ?_; rintro e u4 ⟨rfl, kk', g2⟩)
                have c1 := cell_g g2 c1 hbK
                have c2 := cell_g g2 c2 hbK
                have c3 := cell_g g2 c3 hbK
                have c4 := cell_g g2 c4 hbK
                have hS := hidP (IsR.grown (by exact hS.out) g2 hSK)
                have hO := hidP (own_g g2 hO.out (by omega))
                have hT := hidP (TR.g hT.out g2 (by omega))
                have hB := hidP (hB.out.trans (below_grownK g2 hwK hB.out.size))
                have kk := hidP kk'
                clear g2 kk'
                go_wp2_with fail
                refine hKc.out _ _ ?_ (fun hHeld => ?_)
                · (try dsimp only)
                  refine ⟨?_, ?_, ?_, ?_⟩ <;> (repeat (with_reducible (first | exact c1 | exact c2 | exact c3 | exact c4 | refine cell_dr ?_ | refine cell_stb ?_ ?_ | refine cell_al _ ?_ | (show _ ≠ _; omega))))
                clear hKc Kc
                (try simp only [List.getElem_toArray]); (try simp only [List.getElem_cons_succ]); (try simp only [List.getElem_cons_zero]); (try simp only [Act.put]); (try simp only [List.setIfInBounds_toArray]); (try simp only [List.set_cons_succ]); (try simp only [List.set_cons_zero])
                have f0 := hS.out.f0
                have f1 := hS.out.f1
                have e0' := hS.out.c0
                have e1' := hS.out.c1
                refine wpAnyH_ready (rs := [18]) (by kernel_rfl) (by simp) (AllReadyH.cons rfl (fun Kc hKc => ?_) AllReadyH.nil)
                go_simp
                refine hKc.out _ _ ?_ (fun hHeld => ?_)
                · (try dsimp only)
                  refine ⟨?_, ?_, ?_, ?_⟩ <;> (repeat (with_reducible (first | exact c1 | exact c2 | exact c3 | exact c4 | refine cell_dr ?_ | refine cell_stb ?_ ?_ | refine cell_al _ ?_ | (show _ ≠ _; omega))))
                clear hKc Kc
                (try simp only [List.getElem_toArray]); (try simp only [List.getElem_cons_succ]); (try simp only [List.getElem_cons_zero]); (try simp only [Act.put]); (try simp only [List.setIfInBounds_toArray]); (try simp only [List.set_cons_succ]); (try simp only [List.set_cons_zero])
                refine wpAnyH_done (by kernel_rfl) ?_ _
                refine NoPanic.normal ?_
                go_wp2
                go_roundw
                case rel =>
                  refine ⟨k + 1, by omega, by go_num, ?_, ?_, own_st (own_st hO.out HOS.out 0 _) HOS.out 1 _, TR.st (TR.st hT.out HTU.out hSS 0 _) HTU.out hSS 1 _, (hB.out.setCell (p := ⟨Sb, 0, none⟩) hwS _).setCell (p := ⟨Sb, 1, none⟩) hwS _, by have := hT.out.under; have := hS.out.lt; show _ ≤ _; simp; omega⟩
                  · show IsR _ _ _ _
                    rw [HQ'.out]
                    exact (hS.out.set0 _).set1 _
                  · show IsK _ _ _
                    rw [HQ'.out]
                    exact (kk.out.other hSK.symm 0 (.int .i64 r1)).other hSK.symm 1 (.int .i64 r2)
                case measure => simp [intOf]; omega
              ·
                go_simp
                (go_at_call 46; refine (HPW'.out _ kk.out).mono ?_; rintro e u5 ⟨rfl, kk', g2⟩)
                have c1 := cell_g g2 c1 hbK
                have c2 := cell_g g2 c2 hbK
                have c3 := cell_g g2 c3 hbK
                have c4 := cell_g g2 c4 hbK
                have hS := hidP (IsR.grown (by exact hS.out) g2 hSK)
                have hO := hidP (own_g g2 hO.out (by omega))
                have hT := hidP (TR.g hT.out g2 (by omega))
                have hB := hidP (hB.out.trans (below_grownK g2 hwK hB.out.size))
                have kk := hidP kk'
                clear g2 kk'
                go_wp2_with fail
                refine hKc.out _ _ ?_ (fun hHeld => ?_)
                · (try dsimp only)
                  refine ⟨?_, ?_, ?_, ?_⟩ <;> (repeat (with_reducible (first | exact c1 | exact c2 | exact c3 | exact c4 | refine cell_dr ?_ | refine cell_stb ?_ ?_ | refine cell_al _ ?_ | (show _ ≠ _; omega))))
                clear hKc Kc
                (try simp only [List.getElem_toArray]); (try simp only [List.getElem_cons_succ]); (try simp only [List.getElem_cons_zero]); (try simp only [Act.put]); (try simp only [List.setIfInBounds_toArray]); (try simp only [List.set_cons_succ]); (try simp only [List.set_cons_zero])
                refine wpAnyH_ready (rs := [1, 16]) (by kernel_rfl) (by simp) (AllReadyH.cons rfl (fun Kc hKc => ?_) (AllReadyH.cons rfl (fun Kc hKc => ?_) AllReadyH.nil))
                ·
                  have e0' := hS.out.c0
                  have e1' := hS.out.c1
                  go_simp
                  refine hKc.out _ _ ?_ (fun hHeld => ?_)
                  · (try dsimp only)
                    refine ⟨?_, ?_, ?_, ?_⟩ <;> (repeat (with_reducible (first | exact c1 | exact c2 | exact c3 | exact c4 | refine cell_dr ?_ | refine cell_stb ?_ ?_ | refine cell_al _ ?_ | (show _ ≠ _; omega))))
                  clear hKc Kc
                  (try simp only [List.getElem_toArray]); (try simp only [List.getElem_cons_succ]); (try simp only [List.getElem_cons_zero]); (try simp only [Act.put]); (try simp only [List.setIfInBounds_toArray]); (try simp only [List.set_cons_succ]); (try simp only [List.set_cons_zero])
                  refine wpAnyH_ready (rs := [16]) (by kernel_rfl) (by simp) (AllReadyH.cons rfl (fun Kc hKc => ?_) AllReadyH.nil)
                  go_simp
                  (go_at_call 47; refine (HM.out _ kk.out).mono ?_; rintro e u7 ⟨rfl, kk', g2⟩)
                  have c1 := cell_g g2 c1 hbK
                  have c2 := cell_g g2 c2 hbK
                  have c3 := cell_g g2 c3 hbK
                  have c4 := cell_g g2 c4 hbK
                  have hS := hidP (IsR.grown (by exact hS.out) g2 hSK)
                  have hO := hidP (own_g g2 hO.out (by omega))
                  have hT := hidP (TR.g hT.out g2 (by omega))
                  have hB := hidP (hB.out.trans (below_grownK g2 hwK hB.out.size))
                  have kk := hidP kk'
                  clear g2 kk'
                  go_wp2_with fail
                  refine hKc.out _ _ ?_ (fun hHeld => ?_)
                  · (try dsimp only)
                    refine ⟨?_, ?_, ?_, ?_⟩ <;> (repeat (with_reducible (first | exact c1 | exact c2 | exact c3 | exact c4 | refine cell_dr ?_ | refine cell_stb ?_ ?_ | refine cell_al _ ?_ | (show _ ≠ _; omega))))
                  clear hKc Kc
                  (try simp only [List.getElem_toArray]); (try simp only [List.getElem_cons_succ]); (try simp only [List.getElem_cons_zero]); (try simp only [Act.put]); (try simp only [List.setIfInBounds_toArray]); (try simp only [List.set_cons_succ]); (try simp only [List.set_cons_zero])
                  refine wpAnyH_ready (rs := [17]) (by kernel_rfl) (by simp) (AllReadyH.cons rfl (fun Kc hKc => ?_) AllReadyH.nil)
                  go_simp
                  (go_at_call 45; refine (HAD.out _ kk.out).mono ?_; rintro e u8 ⟨rfl, kk', g2⟩)
                  have c1 := cell_g g2 c1 hbK
                  have c2 := cell_g g2 c2 hbK
                  have c3 := cell_g g2 c3 hbK
                  have c4 := cell_g g2 c4 hbK
                  have hS := hidP (IsR.grown (by exact hS.out) g2 hSK)
                  have hO := hidP (own_g g2 hO.out (by omega))
                  have hT := hidP (TR.g hT.out g2 (by omega))
                  have hB := hidP (hB.out.trans (below_grownK g2 hwK hB.out.size))
                  have kk := hidP kk'
                  clear g2 kk'
                  go_wp2_with fail
                  refine hKc.out _ _ ?_ (fun hHeld => ?_)
                  · (try dsimp only)
                    refine ⟨?_, ?_, ?_, ?_⟩ <;> (repeat (with_reducible (first | exact c1 | exact c2 | exact c3 | exact c4 | refine cell_dr ?_ | refine cell_stb ?_ ?_ | refine cell_al _ ?_ | (show _ ≠ _; omega))))
                  clear hKc Kc
                  (try simp only [List.getElem_toArray]); (try simp only [List.getElem_cons_succ]); (try simp only [List.getElem_cons_zero]); (try simp only [Act.put]); (try simp only [List.setIfInBounds_toArray]); (try simp only [List.set_cons_succ]); (try simp only [List.set_cons_zero])
                  have f0 := hS.out.f0
                  have f1 := hS.out.f1
                  have e0' := hS.out.c0
                  have e1' := hS.out.c1
                  refine wpAnyH_ready (rs := [18]) (by kernel_rfl) (by simp) (AllReadyH.cons rfl (fun Kc hKc => ?_) AllReadyH.nil)
                  go_simp
                  refine hKc.out _ _ ?_ (fun hHeld => ?_)
                  · (try dsimp only)
                    refine ⟨?_, ?_, ?_, ?_⟩ <;> (repeat (with_reducible (first | exact c1 | exact c2 | exact c3 | exact c4 | refine cell_dr ?_ | refine cell_stb ?_ ?_ | refine cell_al _ ?_ | (show _ ≠ _; omega))))
                  clear hKc Kc
                  (try simp only [List.getElem_toArray]); (try simp only [List.getElem_cons_succ]); (try simp only [List.getElem_cons_zero]); (try simp only [Act.put]); (try simp only [List.setIfInBounds_toArray]); (try simp only [List.set_cons_succ]); (try simp only [List.set_cons_zero])
                  refine wpAnyH_done (by kernel_rfl) ?_ _
                  refine NoPanic.normal ?_
                  go_wp2
                  go_roundw
                  case rel =>
                    refine ⟨k + 1, by omega, by go_num, ?_, ?_, own_st (own_st hO.out HOS.out 0 _) HOS.out 1 _, TR.st (TR.st hT.out HTU.out hSS 0 _) HTU.out hSS 1 _, (hB.out.setCell (p := ⟨Sb, 0, none⟩) hwS _).setCell (p := ⟨Sb, 1, none⟩) hwS _, by have := hT.out.under; have := hS.out.lt; show _ ≤ _; simp; omega⟩
                    · show IsR _ _ _ _
                      rw [HQ'.out]
                      exact (hS.out.set0 _).set1 _
                    · show IsK _ _ _
                      rw [HQ'.out]
                      exact (kk.out.other hSK.symm 0 (.int .i64 r1)).other hSK.symm 1 (.int .i64 r2)
                  case measure => simp [intOf]; omega
                ·
                  go_simp
                  (go_at_call 47; refine (HM.out _ kk.out).mono ?_; rintro e u9 ⟨rfl, kk', g2⟩)
                  have c1 := cell_g g2 c1 hbK
                  have c2 := cell_g g2 c2 hbK
                  have c3 := cell_g g2 c3 hbK
                  have c4 := cell_g g2 c4 hbK
                  have hS := hidP (IsR.grown (by exact hS.out) g2 hSK)
                  have hO := hidP (own_g g2 hO.out (by omega))
                  have hT := hidP (TR.g hT.out g2 (by omega))
                  have hB := hidP (hB.out.trans (below_grownK g2 hwK hB.out.size))
                  have kk := hidP kk'
                  clear g2 kk'
                  go_wp2_with fail
                  refine hKc.out _ _ ?_ (fun hHeld => ?_)
                  · (try dsimp only)
                    refine ⟨?_, ?_, ?_, ?_⟩ <;> (repeat (with_reducible (first | exact c1 | exact c2 | exact c3 | exact c4 | refine cell_dr ?_ | refine cell_stb ?_ ?_ | refine cell_al _ ?_ | (show _ ≠ _; omega))))
                  clear hKc Kc
                  (try simp only [List.getElem_toArray]); (try simp only [List.getElem_cons_succ]); (try simp only [List.getElem_cons_zero]); (try simp only [Act.put]); (try simp only [List.setIfInBounds_toArray]); (try simp only [List.set_cons_succ]); (try simp only [List.set_cons_zero])
                  refine wpAnyH_ready (rs := [1]) (by kernel_rfl) (by simp) (AllReadyH.cons rfl (fun Kc hKc => ?_) AllReadyH.nil)
                  have e0' := hS.out.c0
                  have e1' := hS.out.c1
                  go_simp
                  refine hKc.out _ _ ?_ (fun hHeld => ?_)
                  · (try dsimp only)
                    refine ⟨?_, ?_, ?_, ?_⟩ <;> (repeat (with_reducible (first | exact c1 | exact c2 | exact c3 | exact c4 | refine cell_dr ?_ | refine cell_stb ?_ ?_ | refine cell_al _ ?_ | (show _ ≠ _; omega))))
                  clear hKc Kc
                  (try simp only [List.getElem_toArray]); (try simp only [List.getElem_cons_succ]); (try simp only [List.getElem_cons_zero]); (try simp only [Act.put]); (try simp only [List.setIfInBounds_toArray]); (try simp only [List.set_cons_succ]); (try simp only [List.set_cons_zero])
                  refine wpAnyH_ready (rs := [17]) (by kernel_rfl) (by simp) (AllReadyH.cons rfl (fun Kc hKc => ?_) AllReadyH.nil)
                  go_simp
                  (go_at_call 45; refine (HAD.out _ kk.out).mono ?_; rintro e u11 ⟨rfl, kk', g2⟩)
                  have c1 := cell_g g2 c1 hbK
                  have c2 := cell_g g2 c2 hbK
                  have c3 := cell_g g2 c3 hbK
                  have c4 := cell_g g2 c4 hbK
                  have hS := hidP (IsR.grown (by exact hS.out) g2 hSK)
                  have hO := hidP (own_g g2 hO.out (by omega))
                  have hT := hidP (TR.g hT.out g2 (by omega))
                  have hB := hidP (hB.out.trans (below_grownK g2 hwK hB.out.size))
                  have kk := hidP kk'
                  clear g2 kk'
                  go_wp2_with fail
                  refine hKc.out _ _ ?_ (fun hHeld => ?_)
                  · (try dsimp only)
                    refine ⟨?_, ?_, ?_, ?_⟩ <;> (repeat (with_reducible (first | exact c1 | exact c2 | exact c3 | exact c4 | refine cell_dr ?_ | refine cell_stb ?_ ?_ | refine cell_al _ ?_ | (show _ ≠ _; omega))))
                  clear hKc Kc
                  (try simp only [List.getElem_toArray]); (try simp only [List.getElem_cons_succ]); (try simp only [List.getElem_cons_zero]); (try simp only [Act.put]); (try simp only [List.setIfInBounds_toArray]); (try simp only [List.set_cons_succ]); (try simp only [List.set_cons_zero])
                  have f0 := hS.out.f0
                  have f1 := hS.out.f1
                  have e0' := hS.out.c0
                  have e1' := hS.out.c1
                  refine wpAnyH_ready (rs := [18]) (by kernel_rfl) (by simp) (AllReadyH.cons rfl (fun Kc hKc => ?_) AllReadyH.nil)
                  go_simp
                  refine hKc.out _ _ ?_ (fun hHeld => ?_)
                  · (try dsimp only)
                    refine ⟨?_, ?_, ?_, ?_⟩ <;> (repeat (with_reducible (first | exact c1 | exact c2 | exact c3 | exact c4 | refine cell_dr ?_ | refine cell_stb ?_ ?_ | refine cell_al _ ?_ | (show _ ≠ _; omega))))
                  clear hKc Kc
                  (try simp only [List.getElem_toArray]); (try simp only [List.getElem_cons_succ]); (try simp only [List.getElem_cons_zero]); (try simp only [Act.put]); (try simp only [List.setIfInBounds_toArray]); (try simp only [List.set_cons_succ]); (try simp only [List.set_cons_zero])
                  refine wpAnyH_done (by kernel_rfl) ?_ _
                  refine NoPanic.normal ?_
                  go_wp2
                  go_roundw
                  case rel =>
                    refine ⟨k + 1, by omega, by go_num, ?_, ?_, own_st (own_st hO.out HOS.out 0 _) HOS.out 1 _, TR.st (TR.st hT.out HTU.out hSS 0 _) HTU.out hSS 1 _, (hB.out.setCell (p := ⟨Sb, 0, none⟩) hwS _).setCell (p := ⟨Sb, 1, none⟩) hwS _, by have := hT.out.under; have := hS.out.lt; show _ ≤ _; simp; omega⟩
                    · show IsR _ _ _ _
                      rw [HQ'.out]
                      exact (hS.out.set0 _).set1 _
                    · show IsK _ _ _
                      rw [HQ'.out]
                      exact (kk.out.other hSK.symm 0 (.int .i64 r1)).other hSK.symm 1 (.int .i64 r2)
                  case measure => simp [intOf]; omega
            · obtain rfl : k = L := by omega
              obtain ⟨pr', cr', rfl⟩ := own_shape hO.out
              have hgs := hg.out
              have hum : us.length + 1 ≤ maxLen := by unfold maxLen; omega
              have hRl : (P m).1.2.length + 1 ≤ maxLen := by rw [HPR.out]; unfold maxLen; omega
              have hRl2 : ((P m).1.2.length + 1) * 16 ≤ 140737488355328 := by rw [HPR.out]; omega
              have hK1 : K + 1 ≤ wr.heap.size := by omega
              obtain ⟨s1, hs1⟩ : ∃ z, z = (F k).1.1 := ⟨_, rfl⟩
              obtain ⟨s2, hs2⟩ : ∃ z, z = (F k).1.2 := ⟨_, rfl⟩
              have HS12 := hidP (And.intro hs1 hs2)
              rw [← hs1, ← hs2] at hS
              clear hs1 hs2
              go_upto_region 25 with (at_builtin; refine wpList_append_own _ rfl _ _ 56 rfl (K + 1) 27 t0 (.slice none 0 0) 1 24 Try.underlying56 hti htz0 htz1 htz2 rfl (by decide) _ _ _ rfl (hT.out.tab.outer.alloc _) ⟨wr.heap.size, 0, none⟩ 1 1 [.slice pr' j cr'] rfl rfl (cell_one_new _ _ _) (by simp [Value.oneCell']) (by omega) (by omega) (by simp; omega) ?_; intro tv' w5 hown' hgrow _)
              have hle : (C j).1.length = j := HCL.out j
              have T5 := hidP (TR.row hT.out HTU.out hKS (u := .slice pr' j cr') (ps := (C j).1) (by rw [hle]; exact hO.out) hown' hgrow)
              have K5 := hidP ((kk.out.below (b0P wr (.cells #[.slice pr' j cr'] 27))).grownO hgrow (fun e => by have := (World.ownsRow.lt hT.out.tab.outer K e).1; omega))
              have S5 := hidP ((hS.out.below (b0P wr (.cells #[.slice pr' j cr'] 27))).grownO hgrow (fun e => by have := HTU.out.1.1 Sb e; omega))
              have B5 := hidP (hB.out.trans ((below_appended hT.out.tab.outer hK1 hgrow).mono (by omega)))
              have hK5 : K + 1 ≤ w5.heap.size := K5.out.lt
              clear hown' hgrow hO hT kk hS hB hg hle
              have hr0 := S5.out.c0
              have hr1 := S5.out.c1
              go_wp2_with (at_builtin; refine wpList_append_own_at _ rfl _ _ 27 rfl (K + 1) 33 i0 (.agg #[.int .i64 0, .int .i64 0]) 2 16 Try.underlying27 hi hz0 hz1 hz2 rfl (by decide) _ _ _ rfl (T5.out.rgt.alloc _) ⟨w5.heap.size, 0, none⟩ 1 1 [.int .i64 s1, .int .i64 s2] rfl rfl (cell_twoF _ _ _ _) (by intro u hu; simp at hu; rcases hu with rfl | rfl <;> rfl) hRl hRl2 (by simp; omega) ?_; intro rv' w6 hown' hgrow _ hblk)
              go_roundw
              case rel =>
                have T6 := TR.cell (x := (s1, s2)) T5.out hown' hgrow hblk
                have K6 := (K5.out.below (b0P w5 (.cells #[.int .i64 s1, .int .i64 s2] 33))).grownO hgrow (fun e => by have := (World.ownsRow.lt T5.out.rgt K e).1; omega)
                refine ⟨tv', rv', m + 1, us ++ [.slice pr' j cr'], by omega, by go_num, rfl, rfl, by simp [hus], ?_, ?_, B5.out.trans ((below_appended T5.out.rgt hK5 hgrow).mono (by omega))⟩
                · show TR _ _ _ _ _ _ _
                  rw [HPS.out, HCE.out, HFE.out]
                  have e1 : (F k).1 = (s1, s2) := by rw [HS12.out.1, HS12.out.2]
                  rw [e1]
                  exact T6
                · show IsK _ _ _
                  rw [HPS.out, HCE.out, HFE.out]
                  exact K6
              case measure => simp [intOf]; omega
    · obtain rfl : m = N := by omega
      obtain ⟨f, hf⟩ : ∃ f, f = (P m).2 := ⟨_, rfl⟩
      have HFF : Hid ((P m).2 = f) := hf.symm
      rw [← hf] at kk
      have hkc := kk.out.cell
      have hsz := hB.out.size
      clear hf
      have HTE : Hid (fitT ss (m : Int) = (P m).1.1) := by show _ = _; unfold fitT; rw [HPE.out]
      have HRE : Hid (fitR ss (m : Int) = (P m).1.2) := by show _ = _; unfold fitR; rw [HPE.out]
      cases f
      · have h1 := HPT.out m
        have h2 := HPR.out m
        have hG := HG.out (by rw [HPE.out]; exact HFF.out)
        have HV : Hid (fitO ss (m : Int) = (echK (wideT (fitT ss m) (fitR ss m)) && solF (fitT ss m).length (echC (wideT (fitT ss m) (fitR ss m))))) := by show _ = _; rw [HX.out, HPE.out, HFF.out]; rfl
        have CS := hidP (sL3Solved_any tv rv (P m).1.1 (P m).1.2 wr hT.out.tab.read (RdR.own hT.out.rgt).1 (by omega) (by omega) (fun k hk => by rw [h1] at hk ⊢; exact HPW.out m k hk) (by omega) (by rw [← HTE.out, ← HRE.out]; exact hG))
        rw [← HTE.out, ← HRE.out, ← HV.out] at CS
        clear h1 h2 hG
        obtain ⟨pt, ct, rfl⟩ := own_shape hT.out.tab.outer
        obtain ⟨pr, cr, rfl⟩ := own_shape hT.out.rgt
        rw [hus] at CS
        go_wp2_with fail
        refine CS.out.mono ?_
        rintro e w6 ⟨vm, rfl, hown, hb⟩
        go_wp2
        refine bodyPost_ret (v := .tuple #[vm, .bool (fitO ss (m : Int))]) (by simp [results, Try.results12, go_sem]) rfl ⟨vm, rfl, own_le hown hsz, hB.out.trans (hb.mono hsz)⟩
      · have HO : Hid (fitO ss (m : Int) = false) := by show _ = _; rw [HX.out, HPE.out, HFF.out]; rfl
        have HAN := hidP (HFN.out HO.out)
        go_wp2
        refine bodyPost_ret (v := .tuple #[.slice (some ⟨wr.heap.size, 0, none⟩) 0 0, .bool false]) (by simp [results, Try.results12, go_sem]) rfl ⟨.slice (some ⟨wr.heap.size, 0, none⟩) 0 0, ret_tb HO.out.symm, ?_, hB.out.alloc hsz _⟩
        rw [HAN.out]
        exact litN wr _ hsz
end Go.Proofs.Ythnlcgilmljliaa
