/- The walk of the model's Normal. -/
import Derived.Test.YthnlcgilmljliaaFitW5
import Derived.Test.YthnlcgilmljliaaTimW2
import Derived.Maps.AppendAt
namespace Go.Proofs.Ythnlcgilmljliaa
open Go.RowKit Go.Proofs.Ythnlcgilmljliaa.RM

/-- one summand more -/
def nrS (s x : Fr) (p : Nat) (d : Fr × Bool) : Fr × Bool := (a1V s (p1V (powV x d.2 p).1 d.1), ((powV x d.2 p).2 || !mulK (powV x d.2 p).1 d.1) || !addK s (p1V (powV x d.2 p).1 d.1))
def nrmV (cs : List Fr) (ss : List Sp) (p : Nat) (bd : Bool) : Nat → Fr × Bool
  | 0 => ((0, 1), bd)
  | k + 1 => nrS (nrmV cs ss p bd k).1 (sp ss k).1 p (difV cs (sp ss k) (nrmV cs ss p bd k).2)
def norV (cs : List Fr) (ss : List Sp) : Nat → List Fr × Bool
  | 0 => ([], false)
  | k + 1 => ((norV cs ss k).1 ++ [(nrmV cs ss k (norV cs ss k).2 ss.length).1], (nrmV cs ss k (norV cs ss k).2 ss.length).2)
theorem norV_len (cs : List Fr) (ss : List Sp) : ∀ k, (norV cs ss k).1.length = k
  | 0 => rfl
  | k + 1 => by simp [norV, norV_len cs ss k]
def norO (cs : List Fr) (ss : List Sp) : Bool := crvB cs && (sptB ss && !(norV cs ss cs.length).2)
def norA (cs : List Fr) (ss : List Sp) : List Fr := if norO cs ss = true then (norV cs ss cs.length).1 else []
theorem norA_no {cs : List Fr} {ss : List Sp} (h : norO cs ss = false) : norA cs ss = [] := by unfold norA; rw [h]; rfl
theorem norA_yes {cs : List Fr} {ss : List Sp} (h : norO cs ss = true) : norA cs ss = (norV cs ss cs.length).1 := by unfold norA; rw [if_pos h]
theorem litN (W : World) (base : Nat) (hb : base ≤ W.heap.size) : (W.alloc (.cells #[] 33)).ownsRow base 33 2 (.slice (some ⟨W.heap.size, 0, none⟩) 0 0) 0 (cellsR []) :=
  World.ownsRow_lit W (base := base) (e := 33) (size := 2) #[] 0 hb (Nat.zero_le _) rfl
theorem nrStep (K p : Nat) (hp : p ≤ 1000) (dO : Bool) (s x d q : Fr) (e r : Fr × Bool) (he : e = powV x dO p) (hq : q = p1V e.1 d) (hr : r = nrS s x p (d, dO)) :
    (∀ W : World, IsK W K dO → Calls Try.prog 46 #[.pointer (some ⟨K, 0, none⟩), .agg #[.int .i64 x.1, .int .i64 x.2], .int .i64 p] W fun z w' => z = .returned (.agg #[.int .i64 e.1.1, .int .i64 e.1.2]) ∧ IsK w' K e.2 ∧ W.grownBy w' (some K)) ∧
    (∀ W : World, IsK W K e.2 → Calls Try.prog 47 #[.pointer (some ⟨K, 0, none⟩), .agg #[.int .i64 e.1.1, .int .i64 e.1.2], .agg #[.int .i64 d.1, .int .i64 d.2]] W fun z w' => z = .returned (.agg #[.int .i64 q.1, .int .i64 q.2]) ∧ IsK w' K (e.2 || !mulK e.1 d) ∧ W.grownBy w' (some K)) ∧
    (∀ W : World, IsK W K (e.2 || !mulK e.1 d) → Calls Try.prog 45 #[.pointer (some ⟨K, 0, none⟩), .agg #[.int .i64 s.1, .int .i64 s.2], .agg #[.int .i64 q.1, .int .i64 q.2]] W fun z w' => z = .returned (.agg #[.int .i64 r.1.1, .int .i64 r.1.2]) ∧ IsK w' K r.2 ∧ W.grownBy w' (some K)) := by
  subst hq
  subst hr
  subst he
  exact ⟨fun W hW => sPow_any K dO x p W hp hW, fun W hW => kMul9 K _ _ d W hW, fun W hW => kAdd K _ _ _ _ _ W hW⟩

set_option maxRecDepth 100000 in
set_option maxHeartbeats 4000000 in
theorem sNormal_any (v z : Value) (cs : List Fr) (ss : List Sp) (w : World) (h : RdR w v cs) (h' : RdS w z ss) :
    Calls Try.prog 17 #[v, z] w fun e w' => ∃ vm, e = .returned (.tuple #[vm, .bool (norO cs ss)]) ∧ w'.ownsRow w.heap.size 33 2 vm (norA cs ss).length (cellsR (norA cs ss)) ∧ Below w.heap.size w w' := by
  obtain ⟨i0, hi, hz0, hz1, hz2⟩ := info_parts infoF
  have HC := hidP (fun W (hW : Below w.heap.size w W) => sCrv_any v cs W (h.below hW))
  have HO := hidP (fun W (hW : Below w.heap.size w W) => sSpo_any z ss W (h'.below hW))
  have H := hidP h
  obtain ⟨q, hq⟩ : ∃ q, q = crvB cs := ⟨_, rfl⟩
  rw [← hq] at HC
  have HQ := hidP hq
  obtain ⟨o, ho⟩ : ∃ q, q = sptB ss := ⟨_, rfl⟩
  rw [← ho] at HO
  have HOQ := hidP ho
  clear hq ho
  obtain ⟨pa, ca, rfl, hcm⟩ : ∃ a c, v = .slice a cs.length c ∧ cs.length ≤ maxLen := by obtain ⟨a, c, rfl, hm, _⟩ := h; exact ⟨a, c, rfl, hm⟩
  obtain ⟨a, c, rfl, h2, h3, h4, h5⟩ := h'
  have H5 : Hid (∀ j, j < ss.length → ∃ b off, a = some ⟨b, off, none⟩ ∧ w.cell? ⟨b, off + j * 4, none⟩ = some (.int .i64 (sp ss j).1.1) ∧ w.cell? ⟨b, off + j * 4 + 1, none⟩ = some (.int .i64 (sp ss j).1.2) ∧ w.cell? ⟨b, off + j * 4 + 2, none⟩ = some (.int .i64 (sp ss j).2.1) ∧ w.cell? ⟨b, off + j * 4 + 3, none⟩ = some (.int .i64 (sp ss j).2.2)) := h5
  clear h h5 h2 h3 h4
  obtain ⟨P, hP⟩ : ∃ P, P = norV cs ss := ⟨_, rfl⟩
  have HP0 : Hid (P 0 = ([], false)) := by show _ = _; rw [hP]; rfl
  have HPS : Hid (∀ k, P (k + 1) = ((P k).1 ++ [(nrmV cs ss k (P k).2 ss.length).1], (nrmV cs ss k (P k).2 ss.length).2)) := by intro k; rw [hP]; rfl
  have HPL : Hid (∀ k, (P k).1.length = k) := by intro k; rw [hP]; exact norV_len _ _ _
  have HFA : Hid (norO cs ss = true → norA cs ss = (P cs.length).1) := by intro k; rw [hP]; exact norA_yes k
  have HFN := hidP (norA_no (cs := cs) (ss := ss))
  have HX : Hid (norO cs ss = (q && (o && !(P cs.length).2))) := by show _ = _; unfold norO; rw [HQ.out, HOQ.out, hP]
  have HC1 : Hid (q = true → 1 ≤ cs.length ∧ cs.length ≤ 4) := by intro hq; rw [HQ.out] at hq; exact (crvB_out hq).1
  have HL12 : Hid (o = true → ss.length ≤ 12) := by intro ho; rw [HOQ.out] at ho; exact (sptB_out ho).1.2
  have HDS := hidP (fun (h1 : 1 ≤ cs.length ∧ cs.length ≤ 4) K (hwK : w.heap.size ≤ K) k (bd : Bool) (r d : Fr × Bool) (hr : r = atV cs (sp ss k).1 bd) (hd : d = difV cs (sp ss k) bd) => difStep K bd _ cs (sp ss k) w r d H.out h1.1 h1.2 hwK hr hd)
  obtain ⟨L, hL⟩ : ∃ L, L = ss.length := ⟨_, rfl⟩
  obtain ⟨M, hM⟩ : ∃ M, M = cs.length := ⟨_, rfl⟩
  rw [← hL] at H5 HO HL12 HPS
  rw [← hM] at HC HFA HX HC1 HDS hcm
  rw [← hL, ← hM]
  clear hP hL hM H HQ HOQ
  unfold maxLen at hcm
  go_enter Try.func17, Try.ntmps17
  cases q
  · have HF : Hid (norO cs ss = false) := by show _ = _; rw [HX.out]; rfl
    have HAN := hidP (HFN.out HF.out)
    go_wp2_with fail
    refine (HC.out _ (Below.refl _ _)).mono ?_
    rintro e w1 ⟨rfl, hb⟩
    go_wp2
    refine bodyPost_ret (v := .tuple #[.slice (some ⟨w1.heap.size, 0, none⟩) 0 0, .bool false]) (by simp [results, Try.results17, go_sem]) rfl ⟨.slice (some ⟨w1.heap.size, 0, none⟩) 0 0, ret_tb HF.out.symm, ?_, hb.alloc hb.size _⟩
    rw [HAN.out]
    exact litN w1 _ hb.size
  replace HC1 := hidP (HC1.out rfl)
  replace HDS := hidP (HDS.out HC1.out)
  go_wp2_with fail
  refine (HC.out _ (Below.refl _ _)).mono ?_
  rintro e w1 ⟨rfl, hb⟩
  have B0 := hidP hb
  clear hb
  cases o
  · have HF : Hid (norO cs ss = false) := by show _ = _; rw [HX.out]; rfl
    have HAN := hidP (HFN.out HF.out)
    go_wp2_with fail
    refine (HO.out _ B0.out).mono ?_
    rintro e w2 ⟨rfl, hb⟩
    replace B0 := hidP (B0.out.trans (hb.mono B0.out.size))
    clear hb
    go_wp2
    refine bodyPost_ret (v := .tuple #[.slice (some ⟨w2.heap.size, 0, none⟩) 0 0, .bool false]) (by simp [results, Try.results17, go_sem]) rfl ⟨.slice (some ⟨w2.heap.size, 0, none⟩) 0 0, ret_tb HF.out.symm, ?_, B0.out.alloc B0.out.size _⟩
    rw [HAN.out]
    exact litN w2 _ B0.out.size
  have hL12 := HL12.out rfl
  have hM4 := HC1.out.2
  go_wp2_with fail
  refine (HO.out _ B0.out).mono ?_
  rintro e w2 ⟨rfl, hb⟩
  replace B0 := hidP (B0.out.trans (hb.mono B0.out.size))
  clear hb HC HO
  go_wp2
  obtain ⟨K, hK⟩ : ∃ K, K = w2.heap.size := ⟨_, rfl⟩
  have hwK : w.heap.size ≤ K := by have := B0.out.size; omega
  obtain ⟨X, hX⟩ : ∃ X, X = (w2.alloc (.cells #[.bool false] 71)).alloc (.cells #[] 33) := ⟨_, rfl⟩
  have K0 : Hid (IsK X K (P 0).2) := by show IsK _ _ _; rw [HP0.out, hX, hK]; exact (IsK.new w2 false).below (b0P _ _)
  have O0 : Hid (X.ownsRow (K + 1) 33 2 (.slice (some ⟨K + 1, 0, none⟩) 0 0) 0 (cellsR (P 0).1)) := by
    have := litN (w2.alloc (.cells #[.bool false] 71)) (K + 1) (by rw [hK]; simp)
    show World.ownsRow _ _ _ _ _ _ _
    rw [HP0.out, hX]; simpa [hK] using this
  have B1 : Hid (Below w.heap.size w X) := by show Below _ _ _; rw [hX]; exact (B0.out.alloc B0.out.size _).alloc (by have := B0.out.size; simp; omega) _
  replace HDS := hidP (HDS.out K hwK)
  rw [← hX, ← hK]
  clear hX hK B0
  go_loopw [7, 8] (fun q i wr => ∃ (o : Value) (k : Nat), k ≤ M ∧ i = .int .i64 k ∧ o = q ∧ Hid (wr.ownsRow (K + 1) 33 2 o k (cellsR (P k).1)) ∧ Hid (IsK wr K (P k).2) ∧ Hid (Below w.heap.size w wr)) (fun _ i _ => M - (intOf i).toNat)
  case atStart => exact ⟨_, 0, Nat.zero_le _, rfl, rfl, O0, K0, B1⟩
  case round =>
    clear O0 K0 B1
    obtain ⟨o, m, hm, rfl, rfl, hO, kk, hB⟩ := hrel
    by_cases hltm : m < M
    · have hmd : decide ((m : Int) < (M : Int)) = true := decide_eq_true (by omega)
      obtain ⟨F, hF⟩ : ∃ F, F = nrmV cs ss m (P m).2 := ⟨_, rfl⟩
      have HF0 : Hid (F 0 = ((0, 1), (P m).2)) := by show _ = _; rw [hF]; rfl
      have HFS : Hid (∀ k, F (k + 1) = nrS (F k).1 (sp ss k).1 m (difV cs (sp ss k) (F k).2)) := by intro k; rw [hF]; rfl
      have HFE : Hid (nrmV cs ss m (P m).2 L = F L) := by show _ = _; rw [hF]
      clear hF
      go_wp2_with fail
      refine (zero_any _).mono ?_
      rintro e w4 ⟨rfl, hb⟩
      have hKl := kk.out.lt
      have hs4 := hb.size
      have O4 := hidP (own_below (own_below hO.out hb) (b0P w4 (.cells #[.int .i64 0, .int .i64 1] 33)))
      have K4 : Hid (IsK (w4.alloc (.cells #[.int .i64 0, .int .i64 1] 33)) K (F 0).2) := by show IsK _ _ _; rw [HF0.out]; exact (kk.out.below hb).below (b0P _ _)
      have B4 := hidP ((hB.out.trans (hb.mono hB.out.size)).alloc (by have := hB.out.size; omega) (.cells #[.int .i64 0, .int .i64 1] 33))
      obtain ⟨Sb, hSb⟩ : ∃ S, S = w4.heap.size := ⟨_, rfl⟩
      have hSK : Sb ≠ K := by omega
      have hwS : w.heap.size ≤ Sb := by have := hB.out.size; omega
      have HOS : Hid (∀ b', o.ownBlock = some b' → b' < Sb) := fun b' e => by have := (World.ownsRow.lt hO.out b' e).2; omega
      have S4 : Hid (IsR (w4.alloc (.cells #[.int .i64 0, .int .i64 1] 33)) Sb (F 0).1.1 (F 0).1.2) := by show IsR _ _ _ _; rw [HF0.out, hSb]; exact IsR.new w4 0 1
      go_wp2
      rw [← hSb]
      obtain ⟨Y, hY⟩ : ∃ Y, Y = w4.alloc (.cells #[.int .i64 0, .int .i64 1] 33) := ⟨_, rfl⟩
      rw [← hY] at O4 K4 S4 B4 ⊢
      clear hY hSb hb hs4 hKl hO kk hB
      go_loopw [10] (fun i wr => ∃ k : Nat, k ≤ L ∧ i = .int .i64 k ∧ Hid (IsR wr Sb (F k).1.1 (F k).1.2) ∧ Hid (IsK wr K (F k).2) ∧ Hid (wr.ownsRow (K + 1) 33 2 o m (cellsR (P m).1)) ∧ Hid (Below w.heap.size w wr)) (fun i _ => L - (intOf i).toNat)
      case atStart => exact ⟨0, Nat.zero_le _, rfl, S4, K4, O4, B4⟩
      case round =>
        clear S4 K4 O4 B4
        obtain ⟨k, hk, rfl, hS, kk, hO, hB⟩ := hrel
        by_cases hlt : k < L
        · have hkd : decide ((k : Int) < (L : Int)) = true := decide_eq_true (by omega)
          obtain ⟨b, off, rfl, c1, c2, c3, c4⟩ := H5.out k hlt
          have l1 := World.block_lt_of_cell? w _ c1
          dsimp only at l1
          have hbK : b ≠ K := by omega
          replace c1 := cell_keep hB.out c1
          replace c2 := cell_keep hB.out c2
          replace c3 := cell_keep hB.out c3
          replace c4 := cell_keep hB.out c4
          obtain ⟨s, hs⟩ : ∃ z, z = F k := ⟨_, rfl⟩
          obtain ⟨r, hr⟩ : ∃ z, z = F (k + 1) := ⟨_, rfl⟩
          have HQ' : Hid (F (k + 1) = r) := hr.symm
          rw [HFS.out k, ← hs] at hr
          rw [← hs] at hS kk
          obtain ⟨s, so⟩ := s
          obtain ⟨⟨at', ao⟩, ha⟩ : ∃ z, z = atV cs (sp ss k).1 so := ⟨_, rfl⟩
          obtain ⟨⟨d, dO⟩, hd⟩ : ∃ z, z = difV cs (sp ss k) so := ⟨_, rfl⟩
          obtain ⟨HA, HSU⟩ := HDS.out k so _ _ ha hd
          dsimp only at hr
          rw [← hd] at hr
          obtain ⟨t, ht⟩ : ∃ t, t = sp ss k := ⟨_, rfl⟩
          rw [← ht] at c1 c2 c3 c4 HA HSU hr
          obtain ⟨⟨ee, eo⟩, he⟩ : ∃ z, z = powV t.1 dO m := ⟨_, rfl⟩
          obtain ⟨q, hq⟩ : ∃ z, z = p1V ee d := ⟨_, rfl⟩
          obtain ⟨HPW, HM, HAD⟩ := nrStep K m (by omega) dO s t.1 d q (ee, eo) r he hq hr
          replace HA := hidP HA
          replace HSU := hidP HSU
          replace HM := hidP HM
          replace HPW := hidP HPW
          replace HAD := hidP HAD
          obtain ⟨⟨x1, x2⟩, y1, y2⟩ := t
          obtain ⟨a1, a2⟩ := at'
          obtain ⟨d1, d2⟩ := d
          obtain ⟨s1, s2⟩ := s
          obtain ⟨q1, q2⟩ := q
          obtain ⟨e1, e2⟩ := ee
          obtain ⟨⟨r1, r2⟩, ro⟩ := r
          clear hs hr ha hd hq ht he
          dsimp only at c1 c2 c3 c4 hS kk HA HSU HM HAD HPW
          go_upto_region 12 with fail
          go_cut [11] from 31 to 65 (fun s9 wx => ∃ T : Nat, s9 = .pointer (some ⟨T, 0, none⟩) ∧ T ≠ K ∧ Sb < T ∧ w.heap.size ≤ T ∧ Hid (IsR wx T d1 d2) ∧ Hid (IsK wx K dO) ∧ Hid (IsR wx Sb s1 s2) ∧ Hid (wx.ownsRow (K + 1) 33 2 o m (cellsR (P m).1)) ∧ Hid (Below w.heap.size w wx) ∧ Hid (wx.cell? ⟨b, off + k * 4, none⟩ = some (.int .i64 x1)) ∧ Hid (wx.cell? ⟨b, off + k * 4 + 1, none⟩ = some (.int .i64 x2)))
          case first =>
            refine wp_region_noPanic ?_
            refine wp_region_held_drew (S := (fun w' => w'.cell? ⟨b, off + k * 4, none⟩ = some (.int .i64 x1) ∧ w'.cell? ⟨b, off + k * 4 + 1, none⟩ = some (.int .i64 x2) ∧ w'.cell? ⟨b, off + k * 4 + 2, none⟩ = some (.int .i64 y1) ∧ w'.cell? ⟨b, off + k * 4 + 3, none⟩ = some (.int .i64 y2))) (by kernel_rfl) ?_ (fun hHeld => ?_)
            · (try dsimp only)
              refine ⟨?_, ?_, ?_, ?_⟩ <;> (repeat (with_reducible (first | exact c1 | exact c2 | exact c3 | exact c4 | refine cell_dr ?_ | refine cell_stb ?_ ?_ | refine cell_al _ ?_ | (show _ ≠ _; omega))))
            have hbd := (Below.refl wr.heap.size wr).drew
            replace hS := hidP (hS.out.below hbd)
            replace hO := hidP (own_below hO.out hbd)
            replace kk := hidP (kk.out.below hbd)
            replace hB := hidP (hB.out.trans (hbd.mono hB.out.size))
            clear hbd
            replace c1 := cell_dr c1
            replace c2 := cell_dr c2
            replace c3 := cell_dr c3
            replace c4 := cell_dr c4
            obtain ⟨wd, hwd⟩ : ∃ u, u = wr.drew := ⟨_, rfl⟩
            rw [← hwd] at hS hO kk hB c1 c2 c3 c4 hHeld ⊢
            clear hwd
            refine wpAnyH_take (i := 0) (v := ?_) rfl (by kernel_rfl) (by kernel_rfl) (by kernel_rfl) (fun _ _ _ h => h) (Or.inl ⟨by kernel_rfl, ?_⟩) hHeld ?_
            rotate_left
            · intro wz hSw; (try dsimp only at hSw); go_simp; all_goals (try with_reducible rfl)
            (try simp only [List.getElem_toArray]); (try simp only [List.getElem_cons_succ]); (try simp only [List.getElem_cons_zero]); (try simp only [Act.put]); (try simp only [List.setIfInBounds_toArray]); (try simp only [List.set_cons_succ]); (try simp only [List.set_cons_zero])
            refine wpAnyH_take (i := 1) (v := ?_) rfl (by kernel_rfl) (by kernel_rfl) (by kernel_rfl) (fun _ _ _ h => h) (Or.inl ⟨by kernel_rfl, ?_⟩) hHeld ?_
            rotate_left
            · intro wz hSw; (try dsimp only at hSw); go_simp; all_goals (try with_reducible rfl)
            (try simp only [List.getElem_toArray]); (try simp only [List.getElem_cons_succ]); (try simp only [List.getElem_cons_zero]); (try simp only [Act.put]); (try simp only [List.setIfInBounds_toArray]); (try simp only [List.set_cons_succ]); (try simp only [List.set_cons_zero])
            refine wpAnyH_take (i := 2) (v := ?_) rfl (by kernel_rfl) (by kernel_rfl) (by kernel_rfl) (fun _ _ _ h => h) (Or.inl ⟨by kernel_rfl, ?_⟩) hHeld ?_
            rotate_left
            · intro wz hSw; (try dsimp only at hSw); go_simp; all_goals (try with_reducible rfl)
            (try simp only [List.getElem_toArray]); (try simp only [List.getElem_cons_succ]); (try simp only [List.getElem_cons_zero]); (try simp only [Act.put]); (try simp only [List.setIfInBounds_toArray]); (try simp only [List.set_cons_succ]); (try simp only [List.set_cons_zero])
            refine wpAnyH_take (i := 3) (v := ?_) rfl (by kernel_rfl) (by kernel_rfl) (by kernel_rfl) (fun _ _ _ h => h) (Or.inl ⟨by kernel_rfl, ?_⟩) hHeld ?_
            rotate_left
            · intro wz hSw; (try dsimp only at hSw); go_simp; all_goals (try with_reducible rfl)
            (try simp only [List.getElem_toArray]); (try simp only [List.getElem_cons_succ]); (try simp only [List.getElem_cons_zero]); (try simp only [Act.put]); (try simp only [List.setIfInBounds_toArray]); (try simp only [List.set_cons_succ]); (try simp only [List.set_cons_zero])
            refine wpAnyH_take (i := 4) (v := ?_) rfl (by kernel_rfl) (by kernel_rfl) (by kernel_rfl) (fun _ _ _ h => h) (Or.inl ⟨by kernel_rfl, ?_⟩) hHeld ?_
            rotate_left
            · intro wz hSw; (try dsimp only at hSw); go_simp; all_goals (try with_reducible rfl)
            (try simp only [List.getElem_toArray]); (try simp only [List.getElem_cons_succ]); (try simp only [List.getElem_cons_zero]); (try simp only [Act.put]); (try simp only [List.setIfInBounds_toArray]); (try simp only [List.set_cons_succ]); (try simp only [List.set_cons_zero])
            refine wpAnyH_take (i := 5) (v := ?_) rfl (by kernel_rfl) (by kernel_rfl) (by kernel_rfl) (fun _ _ _ h => h) (Or.inl ⟨by kernel_rfl, ?_⟩) hHeld ?_
            rotate_left
            · intro wz hSw; (try dsimp only at hSw); go_simp; all_goals (try with_reducible rfl)
            (try simp only [List.getElem_toArray]); (try simp only [List.getElem_cons_succ]); (try simp only [List.getElem_cons_zero]); (try simp only [Act.put]); (try simp only [List.setIfInBounds_toArray]); (try simp only [List.set_cons_succ]); (try simp only [List.set_cons_zero])
            refine wpAnyH_take (i := 6) (v := ?_) rfl (by kernel_rfl) (by kernel_rfl) (by kernel_rfl) (fun _ _ _ h => h) (Or.inl ⟨by kernel_rfl, ?_⟩) hHeld ?_
            rotate_left
            · intro wz hSw; (try dsimp only at hSw); go_simp; all_goals (try with_reducible rfl)
            (try simp only [List.getElem_toArray]); (try simp only [List.getElem_cons_succ]); (try simp only [List.getElem_cons_zero]); (try simp only [Act.put]); (try simp only [List.setIfInBounds_toArray]); (try simp only [List.set_cons_succ]); (try simp only [List.set_cons_zero])
            refine wpAnyH_take (i := 7) (v := ?_) rfl (by kernel_rfl) (by kernel_rfl) (by kernel_rfl) (fun _ _ _ h => h) (Or.inl ⟨by kernel_rfl, ?_⟩) hHeld ?_
            rotate_left
            · intro wz hSw; (try dsimp only at hSw); go_simp; all_goals (try with_reducible rfl)
            (try simp only [List.getElem_toArray]); (try simp only [List.getElem_cons_succ]); (try simp only [List.getElem_cons_zero]); (try simp only [Act.put]); (try simp only [List.setIfInBounds_toArray]); (try simp only [List.set_cons_succ]); (try simp only [List.set_cons_zero])
            refine wpAnyH_take (i := 8) (v := ?_) rfl (by kernel_rfl) (by kernel_rfl) (by kernel_rfl) (fun _ _ _ h => h) (Or.inl ⟨by kernel_rfl, ?_⟩) hHeld ?_
            rotate_left
            · intro wz hSw; (try dsimp only at hSw); go_simp; all_goals (try with_reducible rfl)
            (try simp only [List.getElem_toArray]); (try simp only [List.getElem_cons_succ]); (try simp only [List.getElem_cons_zero]); (try simp only [Act.put]); (try simp only [List.setIfInBounds_toArray]); (try simp only [List.set_cons_succ]); (try simp only [List.set_cons_zero])
            refine wpAnyH_take (i := 9) (v := ?_) rfl (by kernel_rfl) (by kernel_rfl) (by kernel_rfl) (fun _ _ _ h => h) (Or.inl ⟨by kernel_rfl, ?_⟩) hHeld ?_
            rotate_left
            · intro wz hSw; (try dsimp only at hSw); go_simp; all_goals (try with_reducible rfl)
            (try simp only [List.getElem_toArray]); (try simp only [List.getElem_cons_succ]); (try simp only [List.getElem_cons_zero]); (try simp only [Act.put]); (try simp only [List.setIfInBounds_toArray]); (try simp only [List.set_cons_succ]); (try simp only [List.set_cons_zero])
            refine wpAnyH_take (i := 10) (v := ?_) rfl (by kernel_rfl) (by kernel_rfl) (by kernel_rfl) (fun _ _ _ h => h) (Or.inl ⟨by kernel_rfl, ?_⟩) hHeld ?_
            rotate_left
            · intro wz hSw; (try dsimp only at hSw); go_simp; all_goals (try with_reducible rfl)
            (try simp only [List.getElem_toArray]); (try simp only [List.getElem_cons_succ]); (try simp only [List.getElem_cons_zero]); (try simp only [Act.put]); (try simp only [List.setIfInBounds_toArray]); (try simp only [List.set_cons_succ]); (try simp only [List.set_cons_zero])
            refine wpAnyH_take (i := 11) (v := ?_) rfl (by kernel_rfl) (by kernel_rfl) (by kernel_rfl) (fun _ _ _ h => h) (Or.inl ⟨by kernel_rfl, ?_⟩) hHeld ?_
            rotate_left
            · intro wz hSw; (try dsimp only at hSw); go_simp; all_goals (try with_reducible rfl)
            (try simp only [List.getElem_toArray]); (try simp only [List.getElem_cons_succ]); (try simp only [List.getElem_cons_zero]); (try simp only [Act.put]); (try simp only [List.setIfInBounds_toArray]); (try simp only [List.set_cons_succ]); (try simp only [List.set_cons_zero])
            refine wpAnyH_take (i := 12) (v := ?_) rfl (by kernel_rfl) (by kernel_rfl) (by kernel_rfl) (fun _ _ _ h => h) (Or.inl ⟨by kernel_rfl, ?_⟩) hHeld ?_
            rotate_left
            · intro wz hSw; (try dsimp only at hSw); go_simp; all_goals (try with_reducible rfl)
            (try simp only [List.getElem_toArray]); (try simp only [List.getElem_cons_succ]); (try simp only [List.getElem_cons_zero]); (try simp only [Act.put]); (try simp only [List.setIfInBounds_toArray]); (try simp only [List.set_cons_succ]); (try simp only [List.set_cons_zero])
            refine wpAnyH_ready (rs := [13, 15]) (by kernel_rfl) (by simp) (AllReadyH.cons rfl (fun Kc hKc => ?_) (AllReadyH.cons rfl (fun Kc hKc => ?_) AllReadyH.nil))
            ·
              go_simp
              (go_at_call 52; refine (HA.out _ hB.out kk.out).mono ?_; rintro e u1 ⟨rfl, kk', g2⟩)
              have c1 := cell_g g2 c1 hbK
              have c2 := cell_g g2 c2 hbK
              have c3 := cell_g g2 c3 hbK
              have c4 := cell_g g2 c4 hbK
              have hS := hidP (IsR.grown (by exact hS.out) g2 hSK)
              have hO := hidP (own_g g2 hO.out (by omega))
              have hB := hidP (hB.out.trans (below_grownK g2 hwK hB.out.size))
              have kk := hidP kk'
              clear g2 kk'
              go_wp2_with fail
              refine hKc.out _ _ ?_ (fun hHeld => ?_)
              · (try dsimp only)
                refine ⟨?_, ?_, ?_, ?_⟩ <;> (repeat (with_reducible (first | exact c1 | exact c2 | exact c3 | exact c4 | refine cell_dr ?_ | refine cell_stb ?_ ?_ | refine cell_al _ ?_ | (show _ ≠ _; omega))))
              clear hKc Kc
              (try simp only [List.getElem_toArray]); (try simp only [List.getElem_cons_succ]); (try simp only [List.getElem_cons_zero]); (try simp only [Act.put]); (try simp only [List.setIfInBounds_toArray]); (try simp only [List.set_cons_succ]); (try simp only [List.set_cons_zero])
              refine wpAnyH_ready (rs := [14, 15]) (by kernel_rfl) (by simp) (AllReadyH.cons rfl (fun Kc hKc => ?_) (AllReadyH.cons rfl (fun Kc hKc => ?_) AllReadyH.nil))
              ·
                go_simp
                (go_at_call 51; refine (HSU.out _ kk.out).mono ?_; rintro e u2 ⟨rfl, kk', g2⟩)
                have c1 := cell_g g2 c1 hbK
                have c2 := cell_g g2 c2 hbK
                have c3 := cell_g g2 c3 hbK
                have c4 := cell_g g2 c4 hbK
                have hS := hidP (IsR.grown (by exact hS.out) g2 hSK)
                have hO := hidP (own_g g2 hO.out (by omega))
                have hB := hidP (hB.out.trans (below_grownK g2 hwK hB.out.size))
                have kk := hidP kk'
                clear g2 kk'
                go_wp2_with fail
                refine hKc.out _ _ ?_ (fun hHeld => ?_)
                · (try dsimp only)
                  refine ⟨?_, ?_, ?_, ?_⟩ <;> (repeat (with_reducible (first | exact c1 | exact c2 | exact c3 | exact c4 | refine cell_dr ?_ | refine cell_stb ?_ ?_ | refine cell_al _ ?_ | (show _ ≠ _; omega))))
                clear hKc Kc
                (try simp only [List.getElem_toArray]); (try simp only [List.getElem_cons_succ]); (try simp only [List.getElem_cons_zero]); (try simp only [Act.put]); (try simp only [List.setIfInBounds_toArray]); (try simp only [List.set_cons_succ]); (try simp only [List.set_cons_zero])
                refine wpAnyH_ready (rs := [15]) (by kernel_rfl) (by simp) (AllReadyH.cons rfl (fun Kc hKc => ?_) AllReadyH.nil)
                go_simp
                obtain ⟨A, hA'⟩ : ∃ A, A = u2.heap.size := ⟨_, rfl⟩
                obtain ⟨u3, hu⟩ : ∃ u, u = u2.alloc (.cells #[.int .i64 0, .int .i64 0] 33) := ⟨_, rfl⟩
                have hb : Below u2.heap.size u2 u3 := by rw [hu]; exact b0P _ _
                have hA : Hid (IsR u3 A 0 0) := by show IsR _ _ _ _; rw [hu, hA']; exact IsR.new _ _ _
                have hAw : w.heap.size ≤ A := by rw [hA']; exact hB.out.size
                have hAK : A ≠ K := by have := kk.out.lt; omega
                have hAhS := hS.out.lt
                rw [← hA'] at hAhS
                rw [← hu, ← hA']
                have hS := hidP (hS.out.below hb)
                have hO := hidP (own_below hO.out hb)
                have c1 := cell_keep hb c1
                have c2 := cell_keep hb c2
                have c3 := cell_keep hb c3
                have c4 := cell_keep hb c4
                have kk := hidP (kk.out.below hb)
                have hB := hidP (hB.out.trans (hb.mono hB.out.size))
                clear hb hu hA'
                refine hKc.out _ _ ?_ (fun hHeld => ?_)
                · (try dsimp only)
                  refine ⟨?_, ?_, ?_, ?_⟩ <;> (repeat (with_reducible (first | exact c1 | exact c2 | exact c3 | exact c4 | refine cell_dr ?_ | refine cell_stb ?_ ?_ | refine cell_al _ ?_ | (show _ ≠ _; omega))))
                clear hKc Kc
                (try simp only [List.getElem_toArray]); (try simp only [List.getElem_cons_succ]); (try simp only [List.getElem_cons_zero]); (try simp only [Act.put]); (try simp only [List.setIfInBounds_toArray]); (try simp only [List.set_cons_succ]); (try simp only [List.set_cons_zero])
                have f0 := hA.out.f0
                have f1 := hA.out.f1
                have g0 := hA.out.c0
                have g1 := hA.out.c1
                refine wpAnyH_ready (rs := [16]) (by kernel_rfl) (by simp) (AllReadyH.cons rfl (fun Kc hKc => ?_) AllReadyH.nil)
                go_simp
                refine hKc.out _ _ ?_ (fun hHeld => ?_)
                · (try dsimp only)
                  refine ⟨?_, ?_, ?_, ?_⟩ <;> (repeat (with_reducible (first | exact c1 | exact c2 | exact c3 | exact c4 | refine cell_dr ?_ | refine cell_stb ?_ ?_ | refine cell_al _ ?_ | (show _ ≠ _; omega))))
                clear hKc Kc
                (try simp only [List.getElem_toArray]); (try simp only [List.getElem_cons_succ]); (try simp only [List.getElem_cons_zero]); (try simp only [Act.put]); (try simp only [List.setIfInBounds_toArray]); (try simp only [List.set_cons_succ]); (try simp only [List.set_cons_zero])
                refine wpAnyH_done (by kernel_rfl) ?_ _
                refine NoPanic.normal ?_
                go_wp2_with fail
                go_meet
                case rel => exact ⟨A, rfl, hAK, by omega, hAw, (hA.out.set0 d1).set1 d2, (kk.out.other hAK.symm 0 (.int .i64 d1)).other hAK.symm 1 (.int .i64 d2), (hS.out.other (by omega) 0 (.int .i64 d1)).other (by omega) 1 (.int .i64 d2), own_st (own_st hO.out (fun b' e => by have := HOS.out b' e; omega) 0 _) (fun b' e => by have := HOS.out b' e; omega) 1 _, (hB.out.setCell (p := ⟨A, 0, none⟩) hAw _).setCell (p := ⟨A, 1, none⟩) hAw _, cell_stb (cell_stb c1 (by omega)) (by omega), cell_stb (cell_stb c2 (by omega)) (by omega)⟩
              ·
                go_simp
                obtain ⟨A, hA'⟩ : ∃ A, A = u1.heap.size := ⟨_, rfl⟩
                obtain ⟨u4, hu⟩ : ∃ u, u = u1.alloc (.cells #[.int .i64 0, .int .i64 0] 33) := ⟨_, rfl⟩
                have hb : Below u1.heap.size u1 u4 := by rw [hu]; exact b0P _ _
                have hA : Hid (IsR u4 A 0 0) := by show IsR _ _ _ _; rw [hu, hA']; exact IsR.new _ _ _
                have hAw : w.heap.size ≤ A := by rw [hA']; exact hB.out.size
                have hAK : A ≠ K := by have := kk.out.lt; omega
                have hAhS := hS.out.lt
                rw [← hA'] at hAhS
                rw [← hu, ← hA']
                have hS := hidP (hS.out.below hb)
                have hO := hidP (own_below hO.out hb)
                have c1 := cell_keep hb c1
                have c2 := cell_keep hb c2
                have c3 := cell_keep hb c3
                have c4 := cell_keep hb c4
                have kk := hidP (kk.out.below hb)
                have hB := hidP (hB.out.trans (hb.mono hB.out.size))
                clear hb hu hA'
                refine hKc.out _ _ ?_ (fun hHeld => ?_)
                · (try dsimp only)
                  refine ⟨?_, ?_, ?_, ?_⟩ <;> (repeat (with_reducible (first | exact c1 | exact c2 | exact c3 | exact c4 | refine cell_dr ?_ | refine cell_stb ?_ ?_ | refine cell_al _ ?_ | (show _ ≠ _; omega))))
                clear hKc Kc
                (try simp only [List.getElem_toArray]); (try simp only [List.getElem_cons_succ]); (try simp only [List.getElem_cons_zero]); (try simp only [Act.put]); (try simp only [List.setIfInBounds_toArray]); (try simp only [List.set_cons_succ]); (try simp only [List.set_cons_zero])
                refine wpAnyH_ready (rs := [14]) (by kernel_rfl) (by simp) (AllReadyH.cons rfl (fun Kc hKc => ?_) AllReadyH.nil)
                go_simp
                (go_at_call 51; refine (HSU.out _ kk.out).mono ?_; rintro e u5 ⟨rfl, kk', g2⟩)
                have c1 := cell_g g2 c1 hbK
                have c2 := cell_g g2 c2 hbK
                have c3 := cell_g g2 c3 hbK
                have c4 := cell_g g2 c4 hbK
                have hS := hidP (IsR.grown (by exact hS.out) g2 hSK)
                have hA := hidP (IsR.grown (by exact hA.out) g2 hAK)
                have hO := hidP (own_g g2 hO.out (by omega))
                have hB := hidP (hB.out.trans (below_grownK g2 hwK hB.out.size))
                have kk := hidP kk'
                clear g2 kk'
                go_wp2_with fail
                refine hKc.out _ _ ?_ (fun hHeld => ?_)
                · (try dsimp only)
                  refine ⟨?_, ?_, ?_, ?_⟩ <;> (repeat (with_reducible (first | exact c1 | exact c2 | exact c3 | exact c4 | refine cell_dr ?_ | refine cell_stb ?_ ?_ | refine cell_al _ ?_ | (show _ ≠ _; omega))))
                clear hKc Kc
                (try simp only [List.getElem_toArray]); (try simp only [List.getElem_cons_succ]); (try simp only [List.getElem_cons_zero]); (try simp only [Act.put]); (try simp only [List.setIfInBounds_toArray]); (try simp only [List.set_cons_succ]); (try simp only [List.set_cons_zero])
                have f0 := hA.out.f0
                have f1 := hA.out.f1
                have g0 := hA.out.c0
                have g1 := hA.out.c1
                refine wpAnyH_ready (rs := [16]) (by kernel_rfl) (by simp) (AllReadyH.cons rfl (fun Kc hKc => ?_) AllReadyH.nil)
                go_simp
                refine hKc.out _ _ ?_ (fun hHeld => ?_)
                · (try dsimp only)
                  refine ⟨?_, ?_, ?_, ?_⟩ <;> (repeat (with_reducible (first | exact c1 | exact c2 | exact c3 | exact c4 | refine cell_dr ?_ | refine cell_stb ?_ ?_ | refine cell_al _ ?_ | (show _ ≠ _; omega))))
                clear hKc Kc
                (try simp only [List.getElem_toArray]); (try simp only [List.getElem_cons_succ]); (try simp only [List.getElem_cons_zero]); (try simp only [Act.put]); (try simp only [List.setIfInBounds_toArray]); (try simp only [List.set_cons_succ]); (try simp only [List.set_cons_zero])
                refine wpAnyH_done (by kernel_rfl) ?_ _
                refine NoPanic.normal ?_
                go_wp2_with fail
                go_meet
                case rel => exact ⟨A, rfl, hAK, by omega, hAw, (hA.out.set0 d1).set1 d2, (kk.out.other hAK.symm 0 (.int .i64 d1)).other hAK.symm 1 (.int .i64 d2), (hS.out.other (by omega) 0 (.int .i64 d1)).other (by omega) 1 (.int .i64 d2), own_st (own_st hO.out (fun b' e => by have := HOS.out b' e; omega) 0 _) (fun b' e => by have := HOS.out b' e; omega) 1 _, (hB.out.setCell (p := ⟨A, 0, none⟩) hAw _).setCell (p := ⟨A, 1, none⟩) hAw _, cell_stb (cell_stb c1 (by omega)) (by omega), cell_stb (cell_stb c2 (by omega)) (by omega)⟩
            ·
              go_simp
              obtain ⟨A, hA'⟩ : ∃ A, A = wd.heap.size := ⟨_, rfl⟩
              obtain ⟨u6, hu⟩ : ∃ u, u = wd.alloc (.cells #[.int .i64 0, .int .i64 0] 33) := ⟨_, rfl⟩
              have hb : Below wd.heap.size wd u6 := by rw [hu]; exact b0P _ _
              have hA : Hid (IsR u6 A 0 0) := by show IsR _ _ _ _; rw [hu, hA']; exact IsR.new _ _ _
              have hAw : w.heap.size ≤ A := by rw [hA']; exact hB.out.size
              have hAK : A ≠ K := by have := kk.out.lt; omega
              have hAhS := hS.out.lt
              rw [← hA'] at hAhS
              rw [← hu, ← hA']
              have hS := hidP (hS.out.below hb)
              have hO := hidP (own_below hO.out hb)
              have c1 := cell_keep hb c1
              have c2 := cell_keep hb c2
              have c3 := cell_keep hb c3
              have c4 := cell_keep hb c4
              have kk := hidP (kk.out.below hb)
              have hB := hidP (hB.out.trans (hb.mono hB.out.size))
              clear hb hu hA'
              refine hKc.out _ _ ?_ (fun hHeld => ?_)
              · (try dsimp only)
                refine ⟨?_, ?_, ?_, ?_⟩ <;> (repeat (with_reducible (first | exact c1 | exact c2 | exact c3 | exact c4 | refine cell_dr ?_ | refine cell_stb ?_ ?_ | refine cell_al _ ?_ | (show _ ≠ _; omega))))
              clear hKc Kc
              (try simp only [List.getElem_toArray]); (try simp only [List.getElem_cons_succ]); (try simp only [List.getElem_cons_zero]); (try simp only [Act.put]); (try simp only [List.setIfInBounds_toArray]); (try simp only [List.set_cons_succ]); (try simp only [List.set_cons_zero])
              refine wpAnyH_ready (rs := [13]) (by kernel_rfl) (by simp) (AllReadyH.cons rfl (fun Kc hKc => ?_) AllReadyH.nil)
              go_simp
              (go_at_call 52; refine (HA.out _ hB.out kk.out).mono ?_; rintro e u7 ⟨rfl, kk', g2⟩)
              have c1 := cell_g g2 c1 hbK
              have c2 := cell_g g2 c2 hbK
              have c3 := cell_g g2 c3 hbK
              have c4 := cell_g g2 c4 hbK
              have hS := hidP (IsR.grown (by exact hS.out) g2 hSK)
              have hA := hidP (IsR.grown (by exact hA.out) g2 hAK)
              have hO := hidP (own_g g2 hO.out (by omega))
              have hB := hidP (hB.out.trans (below_grownK g2 hwK hB.out.size))
              have kk := hidP kk'
              clear g2 kk'
              go_wp2_with fail
              refine hKc.out _ _ ?_ (fun hHeld => ?_)
              · (try dsimp only)
                refine ⟨?_, ?_, ?_, ?_⟩ <;> (repeat (with_reducible (first | exact c1 | exact c2 | exact c3 | exact c4 | refine cell_dr ?_ | refine cell_stb ?_ ?_ | refine cell_al _ ?_ | (show _ ≠ _; omega))))
              clear hKc Kc
              (try simp only [List.getElem_toArray]); (try simp only [List.getElem_cons_succ]); (try simp only [List.getElem_cons_zero]); (try simp only [Act.put]); (try simp only [List.setIfInBounds_toArray]); (try simp only [List.set_cons_succ]); (try simp only [List.set_cons_zero])
              refine wpAnyH_ready (rs := [14]) (by kernel_rfl) (by simp) (AllReadyH.cons rfl (fun Kc hKc => ?_) AllReadyH.nil)
              go_simp
              (go_at_call 51; refine (HSU.out _ kk.out).mono ?_; rintro e u8 ⟨rfl, kk', g2⟩)
              have c1 := cell_g g2 c1 hbK
              have c2 := cell_g g2 c2 hbK
              have c3 := cell_g g2 c3 hbK
              have c4 := cell_g g2 c4 hbK
              have hS := hidP (IsR.grown (by exact hS.out) g2 hSK)
              have hA := hidP (IsR.grown (by exact hA.out) g2 hAK)
              have hO := hidP (own_g g2 hO.out (by omega))
              have hB := hidP (hB.out.trans (below_grownK g2 hwK hB.out.size))
              have kk := hidP kk'
              clear g2 kk'
              go_wp2_with fail
              refine hKc.out _ _ ?_ (fun hHeld => ?_)
              · (try dsimp only)
                refine ⟨?_, ?_, ?_, ?_⟩ <;> (repeat (with_reducible (first | exact c1 | exact c2 | exact c3 | exact c4 | refine cell_dr ?_ | refine cell_stb ?_ ?_ | refine cell_al _ ?_ | (show _ ≠ _; omega))))
              clear hKc Kc
              (try simp only [List.getElem_toArray]); (try simp only [List.getElem_cons_succ]); (try simp only [List.getElem_cons_zero]); (try simp only [Act.put]); (try simp only [List.setIfInBounds_toArray]); (try simp only [List.set_cons_succ]); (try simp only [List.set_cons_zero])
              have f0 := hA.out.f0
              have f1 := hA.out.f1
              have g0 := hA.out.c0
              have g1 := hA.out.c1
              refine wpAnyH_ready (rs := [16]) (by kernel_rfl) (by simp) (AllReadyH.cons rfl (fun Kc hKc => ?_) AllReadyH.nil)
              go_simp
              refine hKc.out _ _ ?_ (fun hHeld => ?_)
              · (try dsimp only)
                refine ⟨?_, ?_, ?_, ?_⟩ <;> (repeat (with_reducible (first | exact c1 | exact c2 | exact c3 | exact c4 | refine cell_dr ?_ | refine cell_stb ?_ ?_ | refine cell_al _ ?_ | (show _ ≠ _; omega))))
              clear hKc Kc
              (try simp only [List.getElem_toArray]); (try simp only [List.getElem_cons_succ]); (try simp only [List.getElem_cons_zero]); (try simp only [Act.put]); (try simp only [List.setIfInBounds_toArray]); (try simp only [List.set_cons_succ]); (try simp only [List.set_cons_zero])
              refine wpAnyH_done (by kernel_rfl) ?_ _
              refine NoPanic.normal ?_
              go_wp2_with fail
              go_meet
              case rel => exact ⟨A, rfl, hAK, by omega, hAw, (hA.out.set0 d1).set1 d2, (kk.out.other hAK.symm 0 (.int .i64 d1)).other hAK.symm 1 (.int .i64 d2), (hS.out.other (by omega) 0 (.int .i64 d1)).other (by omega) 1 (.int .i64 d2), own_st (own_st hO.out (fun b' e => by have := HOS.out b' e; omega) 0 _) (fun b' e => by have := HOS.out b' e; omega) 1 _, (hB.out.setCell (p := ⟨A, 0, none⟩) hAw _).setCell (p := ⟨A, 1, none⟩) hAw _, cell_stb (cell_stb c1 (by omega)) (by omega), cell_stb (cell_stb c2 (by omega)) (by omega)⟩
          case rest =>
            clear c1 c2 c3 c4 hS kk hO hB HA HSU
            rename_i wc
            obtain ⟨T, rfl, hTK, hST, hwT, hT, kk, hS, hO, hB, c1, c2⟩ := hcut
            replace c1 := c1.out
            replace c2 := c2.out
            have c3 := hT.out.c0
            have c4 := hT.out.c1
            go_upto_region 13 with fail
            refine wp_region_noPanic ?_
            refine wp_region_held_drew (S := (fun w' => w'.cell? ⟨b, off + k * 4, none⟩ = some (.int .i64 x1) ∧ w'.cell? ⟨b, off + k * 4 + 1, none⟩ = some (.int .i64 x2) ∧ w'.cell? ⟨T, 0, none⟩ = some (.int .i64 d1) ∧ w'.cell? ⟨T, 1, none⟩ = some (.int .i64 d2))) (by kernel_rfl) ?_ (fun hHeld => ?_)
            · (try dsimp only)
              refine ⟨?_, ?_, ?_, ?_⟩ <;> (repeat (with_reducible (first | exact c1 | exact c2 | exact c3 | exact c4 | refine cell_dr ?_ | refine cell_stb ?_ ?_ | refine cell_al _ ?_ | (show _ ≠ _; omega))))
            have hbd := (Below.refl wc.heap.size wc).drew
            replace hS := hidP (hS.out.below hbd)
            replace hO := hidP (own_below hO.out hbd)
            replace kk := hidP (kk.out.below hbd)
            replace hB := hidP (hB.out.trans (hbd.mono hB.out.size))
            clear hbd
            replace c1 := cell_dr c1
            replace c2 := cell_dr c2
            replace c3 := cell_dr c3
            replace c4 := cell_dr c4
            obtain ⟨wd, hwd⟩ : ∃ u, u = wc.drew := ⟨_, rfl⟩
            rw [← hwd] at hS hO kk hB c1 c2 c3 c4 hHeld ⊢
            clear hwd
            refine wpAnyH_take (i := 0) (v := ?_) rfl (by kernel_rfl) (by kernel_rfl) (by kernel_rfl) (fun _ _ _ h => h) (Or.inl ⟨by kernel_rfl, ?_⟩) hHeld ?_
            rotate_left
            · intro wz hSw; (try dsimp only at hSw); go_simp; all_goals (try with_reducible rfl)
            (try simp only [List.getElem_toArray]); (try simp only [List.getElem_cons_succ]); (try simp only [List.getElem_cons_zero]); (try simp only [Act.put]); (try simp only [List.setIfInBounds_toArray]); (try simp only [List.set_cons_succ]); (try simp only [List.set_cons_zero])
            refine wpAnyH_take (i := 2) (v := ?_) rfl (by kernel_rfl) (by kernel_rfl) (by kernel_rfl) (fun _ _ _ h => h) (Or.inl ⟨by kernel_rfl, ?_⟩) hHeld ?_
            rotate_left
            · intro wz hSw; (try dsimp only at hSw); go_simp; all_goals (try with_reducible rfl)
            (try simp only [List.getElem_toArray]); (try simp only [List.getElem_cons_succ]); (try simp only [List.getElem_cons_zero]); (try simp only [Act.put]); (try simp only [List.setIfInBounds_toArray]); (try simp only [List.set_cons_succ]); (try simp only [List.set_cons_zero])
            refine wpAnyH_take (i := 3) (v := ?_) rfl (by kernel_rfl) (by kernel_rfl) (by kernel_rfl) (fun _ _ _ h => h) (Or.inl ⟨by kernel_rfl, ?_⟩) hHeld ?_
            rotate_left
            · intro wz hSw; (try dsimp only at hSw); go_simp; all_goals (try with_reducible rfl)
            (try simp only [List.getElem_toArray]); (try simp only [List.getElem_cons_succ]); (try simp only [List.getElem_cons_zero]); (try simp only [Act.put]); (try simp only [List.setIfInBounds_toArray]); (try simp only [List.set_cons_succ]); (try simp only [List.set_cons_zero])
            refine wpAnyH_take (i := 4) (v := ?_) rfl (by kernel_rfl) (by kernel_rfl) (by kernel_rfl) (fun _ _ _ h => h) (Or.inl ⟨by kernel_rfl, ?_⟩) hHeld ?_
            rotate_left
            · intro wz hSw; (try dsimp only at hSw); go_simp; all_goals (try with_reducible rfl)
            (try simp only [List.getElem_toArray]); (try simp only [List.getElem_cons_succ]); (try simp only [List.getElem_cons_zero]); (try simp only [Act.put]); (try simp only [List.setIfInBounds_toArray]); (try simp only [List.set_cons_succ]); (try simp only [List.set_cons_zero])
            refine wpAnyH_take (i := 5) (v := ?_) rfl (by kernel_rfl) (by kernel_rfl) (by kernel_rfl) (fun _ _ _ h => h) (Or.inl ⟨by kernel_rfl, ?_⟩) hHeld ?_
            rotate_left
            · intro wz hSw; (try dsimp only at hSw); go_simp; all_goals (try with_reducible rfl)
            (try simp only [List.getElem_toArray]); (try simp only [List.getElem_cons_succ]); (try simp only [List.getElem_cons_zero]); (try simp only [Act.put]); (try simp only [List.setIfInBounds_toArray]); (try simp only [List.set_cons_succ]); (try simp only [List.set_cons_zero])
            refine wpAnyH_take (i := 6) (v := ?_) rfl (by kernel_rfl) (by kernel_rfl) (by kernel_rfl) (fun _ _ _ h => h) (Or.inl ⟨by kernel_rfl, ?_⟩) hHeld ?_
            rotate_left
            · intro wz hSw; (try dsimp only at hSw); go_simp; all_goals (try with_reducible rfl)
            (try simp only [List.getElem_toArray]); (try simp only [List.getElem_cons_succ]); (try simp only [List.getElem_cons_zero]); (try simp only [Act.put]); (try simp only [List.setIfInBounds_toArray]); (try simp only [List.set_cons_succ]); (try simp only [List.set_cons_zero])
            refine wpAnyH_take (i := 7) (v := ?_) rfl (by kernel_rfl) (by kernel_rfl) (by kernel_rfl) (fun _ _ _ h => h) (Or.inl ⟨by kernel_rfl, ?_⟩) hHeld ?_
            rotate_left
            · intro wz hSw; (try dsimp only at hSw); go_simp; all_goals (try with_reducible rfl)
            (try simp only [List.getElem_toArray]); (try simp only [List.getElem_cons_succ]); (try simp only [List.getElem_cons_zero]); (try simp only [Act.put]); (try simp only [List.setIfInBounds_toArray]); (try simp only [List.set_cons_succ]); (try simp only [List.set_cons_zero])
            refine wpAnyH_take (i := 8) (v := ?_) rfl (by kernel_rfl) (by kernel_rfl) (by kernel_rfl) (fun _ _ _ h => h) (Or.inl ⟨by kernel_rfl, ?_⟩) hHeld ?_
            rotate_left
            · intro wz hSw; (try dsimp only at hSw); go_simp; all_goals (try with_reducible rfl)
            (try simp only [List.getElem_toArray]); (try simp only [List.getElem_cons_succ]); (try simp only [List.getElem_cons_zero]); (try simp only [Act.put]); (try simp only [List.setIfInBounds_toArray]); (try simp only [List.set_cons_succ]); (try simp only [List.set_cons_zero])
            refine wpAnyH_take (i := 9) (v := ?_) rfl (by kernel_rfl) (by kernel_rfl) (by kernel_rfl) (fun _ _ _ h => h) (Or.inl ⟨by kernel_rfl, ?_⟩) hHeld ?_
            rotate_left
            · intro wz hSw; (try dsimp only at hSw); go_simp; all_goals (try with_reducible rfl)
            (try simp only [List.getElem_toArray]); (try simp only [List.getElem_cons_succ]); (try simp only [List.getElem_cons_zero]); (try simp only [Act.put]); (try simp only [List.setIfInBounds_toArray]); (try simp only [List.set_cons_succ]); (try simp only [List.set_cons_zero])
            refine wpAnyH_take (i := 11) (v := ?_) rfl (by kernel_rfl) (by kernel_rfl) (by kernel_rfl) (fun _ _ _ h => h) (Or.inl ⟨by kernel_rfl, ?_⟩) hHeld ?_
            rotate_left
            · intro wz hSw; (try dsimp only at hSw); go_simp; all_goals (try with_reducible rfl)
            (try simp only [List.getElem_toArray]); (try simp only [List.getElem_cons_succ]); (try simp only [List.getElem_cons_zero]); (try simp only [Act.put]); (try simp only [List.setIfInBounds_toArray]); (try simp only [List.set_cons_succ]); (try simp only [List.set_cons_zero])
            refine wpAnyH_ready (rs := [1, 10]) (by kernel_rfl) (by simp) (AllReadyH.cons rfl (fun Kc hKc => ?_) (AllReadyH.cons rfl (fun Kc hKc => ?_) AllReadyH.nil))
            ·
              have e0 := hS.out.c0
              have e1 := hS.out.c1
              go_simp
              refine hKc.out _ _ ?_ (fun hHeld => ?_)
              · (try dsimp only)
                refine ⟨?_, ?_, ?_, ?_⟩ <;> (repeat (with_reducible (first | exact c1 | exact c2 | exact c3 | exact c4 | refine cell_dr ?_ | refine cell_stb ?_ ?_ | refine cell_al _ ?_ | (show _ ≠ _; omega))))
              clear hKc Kc
              (try simp only [List.getElem_toArray]); (try simp only [List.getElem_cons_succ]); (try simp only [List.getElem_cons_zero]); (try simp only [Act.put]); (try simp only [List.setIfInBounds_toArray]); (try simp only [List.set_cons_succ]); (try simp only [List.set_cons_zero])
              refine wpAnyH_ready (rs := [10]) (by kernel_rfl) (by simp) (AllReadyH.cons rfl (fun Kc hKc => ?_) AllReadyH.nil)
              go_simp
              (go_at_call 46; refine (HPW.out _ kk.out).mono ?_; rintro e u2 ⟨rfl, kk', g2⟩)
              have c1 := cell_g g2 c1 hbK
              have c2 := cell_g g2 c2 hbK
              have c3 := cell_g g2 c3 hTK
              have c4 := cell_g g2 c4 hTK
              have hS := hidP (IsR.grown (by exact hS.out) g2 hSK)
              have hO := hidP (own_g g2 hO.out (by omega))
              have hB := hidP (hB.out.trans (below_grownK g2 hwK hB.out.size))
              have kk := hidP kk'
              clear g2 kk'
              go_wp2_with fail
              refine hKc.out _ _ ?_ (fun hHeld => ?_)
              · (try dsimp only)
                refine ⟨?_, ?_, ?_, ?_⟩ <;> (repeat (with_reducible (first | exact c1 | exact c2 | exact c3 | exact c4 | refine cell_dr ?_ | refine cell_stb ?_ ?_ | refine cell_al _ ?_ | (show _ ≠ _; omega))))
              clear hKc Kc
              (try simp only [List.getElem_toArray]); (try simp only [List.getElem_cons_succ]); (try simp only [List.getElem_cons_zero]); (try simp only [Act.put]); (try simp only [List.setIfInBounds_toArray]); (try simp only [List.set_cons_succ]); (try simp only [List.set_cons_zero])
              refine wpAnyH_ready (rs := [12]) (by kernel_rfl) (by simp) (AllReadyH.cons rfl (fun Kc hKc => ?_) AllReadyH.nil)
              go_simp
              (go_at_call 47; refine (HM.out _ kk.out).mono ?_; rintro e u3 ⟨rfl, kk', g2⟩)
              have c1 := cell_g g2 c1 hbK
              have c2 := cell_g g2 c2 hbK
              have c3 := cell_g g2 c3 hTK
              have c4 := cell_g g2 c4 hTK
              have hS := hidP (IsR.grown (by exact hS.out) g2 hSK)
              have hO := hidP (own_g g2 hO.out (by omega))
              have hB := hidP (hB.out.trans (below_grownK g2 hwK hB.out.size))
              have kk := hidP kk'
              clear g2 kk'
              go_wp2_with fail
              refine hKc.out _ _ ?_ (fun hHeld => ?_)
              · (try dsimp only)
                refine ⟨?_, ?_, ?_, ?_⟩ <;> (repeat (with_reducible (first | exact c1 | exact c2 | exact c3 | exact c4 | refine cell_dr ?_ | refine cell_stb ?_ ?_ | refine cell_al _ ?_ | (show _ ≠ _; omega))))
              clear hKc Kc
              (try simp only [List.getElem_toArray]); (try simp only [List.getElem_cons_succ]); (try simp only [List.getElem_cons_zero]); (try simp only [Act.put]); (try simp only [List.setIfInBounds_toArray]); (try simp only [List.set_cons_succ]); (try simp only [List.set_cons_zero])
              refine wpAnyH_ready (rs := [13]) (by kernel_rfl) (by simp) (AllReadyH.cons rfl (fun Kc hKc => ?_) AllReadyH.nil)
              go_simp
              (go_at_call 45; refine (HAD.out _ kk.out).mono ?_; rintro e u4 ⟨rfl, kk', g2⟩)
              have c1 := cell_g g2 c1 hbK
              have c2 := cell_g g2 c2 hbK
              have c3 := cell_g g2 c3 hTK
              have c4 := cell_g g2 c4 hTK
              have hS := hidP (IsR.grown (by exact hS.out) g2 hSK)
              have hO := hidP (own_g g2 hO.out (by omega))
              have hB := hidP (hB.out.trans (below_grownK g2 hwK hB.out.size))
              have kk := hidP kk'
              clear g2 kk'
              go_wp2_with fail
              refine hKc.out _ _ ?_ (fun hHeld => ?_)
              · (try dsimp only)
                refine ⟨?_, ?_, ?_, ?_⟩ <;> (repeat (with_reducible (first | exact c1 | exact c2 | exact c3 | exact c4 | refine cell_dr ?_ | refine cell_stb ?_ ?_ | refine cell_al _ ?_ | (show _ ≠ _; omega))))
              clear hKc Kc
              (try simp only [List.getElem_toArray]); (try simp only [List.getElem_cons_succ]); (try simp only [List.getElem_cons_zero]); (try simp only [Act.put]); (try simp only [List.setIfInBounds_toArray]); (try simp only [List.set_cons_succ]); (try simp only [List.set_cons_zero])
              have f0 := hS.out.f0
              have f1 := hS.out.f1
              have e0 := hS.out.c0
              have e1 := hS.out.c1
              refine wpAnyH_ready (rs := [14]) (by kernel_rfl) (by simp) (AllReadyH.cons rfl (fun Kc hKc => ?_) AllReadyH.nil)
              go_simp
              refine hKc.out _ _ ?_ (fun hHeld => ?_)
              · (try dsimp only)
                refine ⟨?_, ?_, ?_, ?_⟩ <;> (repeat (with_reducible (first | exact c1 | exact c2 | exact c3 | exact c4 | refine cell_dr ?_ | refine cell_stb ?_ ?_ | refine cell_al _ ?_ | (show _ ≠ _; omega))))
              clear hKc Kc
              (try simp only [List.getElem_toArray]); (try simp only [List.getElem_cons_succ]); (try simp only [List.getElem_cons_zero]); (try simp only [Act.put]); (try simp only [List.setIfInBounds_toArray]); (try simp only [List.set_cons_succ]); (try simp only [List.set_cons_zero])
              refine wpAnyH_done (by kernel_rfl) ?_ _
              refine NoPanic.normal ?_
              go_wp2
              go_roundw
              case rel =>
                refine ⟨k + 1, by omega, by go_num, ?_, ?_, own_st (own_st hO.out HOS.out 0 _) HOS.out 1 _, (hB.out.setCell (p := ⟨Sb, 0, none⟩) hwS _).setCell (p := ⟨Sb, 1, none⟩) hwS _⟩
                · show IsR _ _ _ _
                  rw [HQ'.out]
                  exact (hS.out.set0 _).set1 _
                · show IsK _ _ _
                  rw [HQ'.out]
                  exact (kk.out.other hSK.symm 0 (.int .i64 r1)).other hSK.symm 1 (.int .i64 r2)
              case measure => simp [intOf]; omega
            ·
              go_simp
              (go_at_call 46; refine (HPW.out _ kk.out).mono ?_; rintro e u5 ⟨rfl, kk', g2⟩)
              have c1 := cell_g g2 c1 hbK
              have c2 := cell_g g2 c2 hbK
              have c3 := cell_g g2 c3 hTK
              have c4 := cell_g g2 c4 hTK
              have hS := hidP (IsR.grown (by exact hS.out) g2 hSK)
              have hO := hidP (own_g g2 hO.out (by omega))
              have hB := hidP (hB.out.trans (below_grownK g2 hwK hB.out.size))
              have kk := hidP kk'
              clear g2 kk'
              go_wp2_with fail
              refine hKc.out _ _ ?_ (fun hHeld => ?_)
              · (try dsimp only)
                refine ⟨?_, ?_, ?_, ?_⟩ <;> (repeat (with_reducible (first | exact c1 | exact c2 | exact c3 | exact c4 | refine cell_dr ?_ | refine cell_stb ?_ ?_ | refine cell_al _ ?_ | (show _ ≠ _; omega))))
              clear hKc Kc
              (try simp only [List.getElem_toArray]); (try simp only [List.getElem_cons_succ]); (try simp only [List.getElem_cons_zero]); (try simp only [Act.put]); (try simp only [List.setIfInBounds_toArray]); (try simp only [List.set_cons_succ]); (try simp only [List.set_cons_zero])
              refine wpAnyH_ready (rs := [1, 12]) (by kernel_rfl) (by simp) (AllReadyH.cons rfl (fun Kc hKc => ?_) (AllReadyH.cons rfl (fun Kc hKc => ?_) AllReadyH.nil))
              ·
                have e0 := hS.out.c0
                have e1 := hS.out.c1
                go_simp
                refine hKc.out _ _ ?_ (fun hHeld => ?_)
                · (try dsimp only)
                  refine ⟨?_, ?_, ?_, ?_⟩ <;> (repeat (with_reducible (first | exact c1 | exact c2 | exact c3 | exact c4 | refine cell_dr ?_ | refine cell_stb ?_ ?_ | refine cell_al _ ?_ | (show _ ≠ _; omega))))
                clear hKc Kc
                (try simp only [List.getElem_toArray]); (try simp only [List.getElem_cons_succ]); (try simp only [List.getElem_cons_zero]); (try simp only [Act.put]); (try simp only [List.setIfInBounds_toArray]); (try simp only [List.set_cons_succ]); (try simp only [List.set_cons_zero])
                refine wpAnyH_ready (rs := [12]) (by kernel_rfl) (by simp) (AllReadyH.cons rfl (fun Kc hKc => ?_) AllReadyH.nil)
                go_simp
                (go_at_call 47; refine (HM.out _ kk.out).mono ?_; rintro e u7 ⟨rfl, kk', g2⟩)
                have c1 := cell_g g2 c1 hbK
                have c2 := cell_g g2 c2 hbK
                have c3 := cell_g g2 c3 hTK
                have c4 := cell_g g2 c4 hTK
                have hS := hidP (IsR.grown (by exact hS.out) g2 hSK)
                have hO := hidP (own_g g2 hO.out (by omega))
                have hB := hidP (hB.out.trans (below_grownK g2 hwK hB.out.size))
                have kk := hidP kk'
                clear g2 kk'
                go_wp2_with fail
                refine hKc.out _ _ ?_ (fun hHeld => ?_)
                · (try dsimp only)
                  refine ⟨?_, ?_, ?_, ?_⟩ <;> (repeat (with_reducible (first | exact c1 | exact c2 | exact c3 | exact c4 | refine cell_dr ?_ | refine cell_stb ?_ ?_ | refine cell_al _ ?_ | (show _ ≠ _; omega))))
                clear hKc Kc
                (try simp only [List.getElem_toArray]); (try simp only [List.getElem_cons_succ]); (try simp only [List.getElem_cons_zero]); (try simp only [Act.put]); (try simp only [List.setIfInBounds_toArray]); (try simp only [List.set_cons_succ]); (try simp only [List.set_cons_zero])
                refine wpAnyH_ready (rs := [13]) (by kernel_rfl) (by simp) (AllReadyH.cons rfl (fun Kc hKc => ?_) AllReadyH.nil)
                go_simp
                (go_at_call 45; refine (HAD.out _ kk.out).mono ?_; rintro e u8 ⟨rfl, kk', g2⟩)
                have c1 := cell_g g2 c1 hbK
                have c2 := cell_g g2 c2 hbK
                have c3 := cell_g g2 c3 hTK
                have c4 := cell_g g2 c4 hTK
                have hS := hidP (IsR.grown (by exact hS.out) g2 hSK)
                have hO := hidP (own_g g2 hO.out (by omega))
                have hB := hidP (hB.out.trans (below_grownK g2 hwK hB.out.size))
                have kk := hidP kk'
                clear g2 kk'
                go_wp2_with fail
                refine hKc.out _ _ ?_ (fun hHeld => ?_)
                · (try dsimp only)
                  refine ⟨?_, ?_, ?_, ?_⟩ <;> (repeat (with_reducible (first | exact c1 | exact c2 | exact c3 | exact c4 | refine cell_dr ?_ | refine cell_stb ?_ ?_ | refine cell_al _ ?_ | (show _ ≠ _; omega))))
                clear hKc Kc
                (try simp only [List.getElem_toArray]); (try simp only [List.getElem_cons_succ]); (try simp only [List.getElem_cons_zero]); (try simp only [Act.put]); (try simp only [List.setIfInBounds_toArray]); (try simp only [List.set_cons_succ]); (try simp only [List.set_cons_zero])
                have f0 := hS.out.f0
                have f1 := hS.out.f1
                have e0 := hS.out.c0
                have e1 := hS.out.c1
                refine wpAnyH_ready (rs := [14]) (by kernel_rfl) (by simp) (AllReadyH.cons rfl (fun Kc hKc => ?_) AllReadyH.nil)
                go_simp
                refine hKc.out _ _ ?_ (fun hHeld => ?_)
                · (try dsimp only)
                  refine ⟨?_, ?_, ?_, ?_⟩ <;> (repeat (with_reducible (first | exact c1 | exact c2 | exact c3 | exact c4 | refine cell_dr ?_ | refine cell_stb ?_ ?_ | refine cell_al _ ?_ | (show _ ≠ _; omega))))
                clear hKc Kc
                (try simp only [List.getElem_toArray]); (try simp only [List.getElem_cons_succ]); (try simp only [List.getElem_cons_zero]); (try simp only [Act.put]); (try simp only [List.setIfInBounds_toArray]); (try simp only [List.set_cons_succ]); (try simp only [List.set_cons_zero])
                refine wpAnyH_done (by kernel_rfl) ?_ _
                refine NoPanic.normal ?_
                go_wp2
                go_roundw
                case rel =>
                  refine ⟨k + 1, by omega, by go_num, ?_, ?_, own_st (own_st hO.out HOS.out 0 _) HOS.out 1 _, (hB.out.setCell (p := ⟨Sb, 0, none⟩) hwS _).setCell (p := ⟨Sb, 1, none⟩) hwS _⟩
                  · show IsR _ _ _ _
                    rw [HQ'.out]
                    exact (hS.out.set0 _).set1 _
                  · show IsK _ _ _
                    rw [HQ'.out]
                    exact (kk.out.other hSK.symm 0 (.int .i64 r1)).other hSK.symm 1 (.int .i64 r2)
                case measure => simp [intOf]; omega
              ·
                go_simp
                (go_at_call 47; refine (HM.out _ kk.out).mono ?_; rintro e u9 ⟨rfl, kk', g2⟩)
                have c1 := cell_g g2 c1 hbK
                have c2 := cell_g g2 c2 hbK
                have c3 := cell_g g2 c3 hTK
                have c4 := cell_g g2 c4 hTK
                have hS := hidP (IsR.grown (by exact hS.out) g2 hSK)
                have hO := hidP (own_g g2 hO.out (by omega))
                have hB := hidP (hB.out.trans (below_grownK g2 hwK hB.out.size))
                have kk := hidP kk'
                clear g2 kk'
                go_wp2_with fail
                refine hKc.out _ _ ?_ (fun hHeld => ?_)
                · (try dsimp only)
                  refine ⟨?_, ?_, ?_, ?_⟩ <;> (repeat (with_reducible (first | exact c1 | exact c2 | exact c3 | exact c4 | refine cell_dr ?_ | refine cell_stb ?_ ?_ | refine cell_al _ ?_ | (show _ ≠ _; omega))))
                clear hKc Kc
                (try simp only [List.getElem_toArray]); (try simp only [List.getElem_cons_succ]); (try simp only [List.getElem_cons_zero]); (try simp only [Act.put]); (try simp only [List.setIfInBounds_toArray]); (try simp only [List.set_cons_succ]); (try simp only [List.set_cons_zero])
                refine wpAnyH_ready (rs := [1]) (by kernel_rfl) (by simp) (AllReadyH.cons rfl (fun Kc hKc => ?_) AllReadyH.nil)
                have e0 := hS.out.c0
                have e1 := hS.out.c1
                go_simp
                refine hKc.out _ _ ?_ (fun hHeld => ?_)
                · (try dsimp only)
                  refine ⟨?_, ?_, ?_, ?_⟩ <;> (repeat (with_reducible (first | exact c1 | exact c2 | exact c3 | exact c4 | refine cell_dr ?_ | refine cell_stb ?_ ?_ | refine cell_al _ ?_ | (show _ ≠ _; omega))))
                clear hKc Kc
                (try simp only [List.getElem_toArray]); (try simp only [List.getElem_cons_succ]); (try simp only [List.getElem_cons_zero]); (try simp only [Act.put]); (try simp only [List.setIfInBounds_toArray]); (try simp only [List.set_cons_succ]); (try simp only [List.set_cons_zero])
                refine wpAnyH_ready (rs := [13]) (by kernel_rfl) (by simp) (AllReadyH.cons rfl (fun Kc hKc => ?_) AllReadyH.nil)
                go_simp
                (go_at_call 45; refine (HAD.out _ kk.out).mono ?_; rintro e u11 ⟨rfl, kk', g2⟩)
                have c1 := cell_g g2 c1 hbK
                have c2 := cell_g g2 c2 hbK
                have c3 := cell_g g2 c3 hTK
                have c4 := cell_g g2 c4 hTK
                have hS := hidP (IsR.grown (by exact hS.out) g2 hSK)
                have hO := hidP (own_g g2 hO.out (by omega))
                have hB := hidP (hB.out.trans (below_grownK g2 hwK hB.out.size))
                have kk := hidP kk'
                clear g2 kk'
                go_wp2_with fail
                refine hKc.out _ _ ?_ (fun hHeld => ?_)
                · (try dsimp only)
                  refine ⟨?_, ?_, ?_, ?_⟩ <;> (repeat (with_reducible (first | exact c1 | exact c2 | exact c3 | exact c4 | refine cell_dr ?_ | refine cell_stb ?_ ?_ | refine cell_al _ ?_ | (show _ ≠ _; omega))))
                clear hKc Kc
                (try simp only [List.getElem_toArray]); (try simp only [List.getElem_cons_succ]); (try simp only [List.getElem_cons_zero]); (try simp only [Act.put]); (try simp only [List.setIfInBounds_toArray]); (try simp only [List.set_cons_succ]); (try simp only [List.set_cons_zero])
                have f0 := hS.out.f0
                have f1 := hS.out.f1
                have e0 := hS.out.c0
                have e1 := hS.out.c1
                refine wpAnyH_ready (rs := [14]) (by kernel_rfl) (by simp) (AllReadyH.cons rfl (fun Kc hKc => ?_) AllReadyH.nil)
                go_simp
                refine hKc.out _ _ ?_ (fun hHeld => ?_)
                · (try dsimp only)
                  refine ⟨?_, ?_, ?_, ?_⟩ <;> (repeat (with_reducible (first | exact c1 | exact c2 | exact c3 | exact c4 | refine cell_dr ?_ | refine cell_stb ?_ ?_ | refine cell_al _ ?_ | (show _ ≠ _; omega))))
                clear hKc Kc
                (try simp only [List.getElem_toArray]); (try simp only [List.getElem_cons_succ]); (try simp only [List.getElem_cons_zero]); (try simp only [Act.put]); (try simp only [List.setIfInBounds_toArray]); (try simp only [List.set_cons_succ]); (try simp only [List.set_cons_zero])
                refine wpAnyH_done (by kernel_rfl) ?_ _
                refine NoPanic.normal ?_
                go_wp2
                go_roundw
                case rel =>
                  refine ⟨k + 1, by omega, by go_num, ?_, ?_, own_st (own_st hO.out HOS.out 0 _) HOS.out 1 _, (hB.out.setCell (p := ⟨Sb, 0, none⟩) hwS _).setCell (p := ⟨Sb, 1, none⟩) hwS _⟩
                  · show IsR _ _ _ _
                    rw [HQ'.out]
                    exact (hS.out.set0 _).set1 _
                  · show IsK _ _ _
                    rw [HQ'.out]
                    exact (kk.out.other hSK.symm 0 (.int .i64 r1)).other hSK.symm 1 (.int .i64 r2)
                case measure => simp [intOf]; omega
        · obtain rfl : k = L := by omega
          have hr0 := hS.out.c0
          have hr1 := hS.out.c1
          have hsz := hB.out.size
          have hKw : K + 1 ≤ wr.heap.size := kk.out.lt
          have hjm : m + 1 ≤ maxLen := by unfold maxLen; omega
          obtain ⟨s1, hs1⟩ : ∃ z, z = (F k).1.1 := ⟨_, rfl⟩
          obtain ⟨s2, hs2⟩ : ∃ z, z = (F k).1.2 := ⟨_, rfl⟩
          have HS12 := hidP (And.intro hs1 hs2)
          rw [← hs1] at hr0
          rw [← hs2] at hr1
          clear hs1 hs2
          go_wp2_with (at_builtin; refine wpList_append_own _ rfl _ _ 27 rfl (K + 1) 33 i0 (.agg #[.int .i64 0, .int .i64 0]) 2 16 Try.underlying27 hi hz0 hz1 hz2 rfl (by decide) _ _ _ rfl (hO.out.alloc _) ⟨wr.heap.size, 0, none⟩ 1 1 [.int .i64 s1, .int .i64 s2] rfl rfl (cell_twoF _ _ _ _) (by intro u hu; simp at hu; rcases hu with rfl | rfl <;> rfl) (by omega) (by omega) (by simp; omega) ?_; intro v' w5 hown' hgrow _)
          go_roundw
          case rel =>
            have K5 := (kk.out.below (b0P wr (.cells #[.int .i64 s1, .int .i64 s2] 33))).grownO hgrow (fun e => by have := (World.ownsRow.lt hO.out K e).1; omega)
            refine ⟨v', m + 1, by omega, by go_num, rfl, ?_, ?_, hB.out.trans ((below_appended hO.out hKw hgrow).mono (by omega))⟩
            · show World.ownsRow _ _ _ _ _ _ _
              rw [HPS.out, HFE.out, cellsR_append]
              have e1 : (F k).1 = (s1, s2) := by rw [HS12.out.1, HS12.out.2]
              rw [e1]
              exact hown'
            · show IsK _ _ _
              rw [HPS.out, HFE.out]
              exact K5
          case measure => simp [intOf]; omega
    · obtain rfl : m = M := by omega
      obtain ⟨f, hf⟩ : ∃ f, f = (P m).2 := ⟨_, rfl⟩
      rw [← hf] at kk HX
      have hkc := kk.out.cell
      have hsz := hB.out.size
      clear hf
      cases f
      · have HO : Hid (norO cs ss = true) := by show _ = _; rw [HX.out]; rfl
        have HAN := hidP (HFA.out HO.out)
        go_wp2
        refine bodyPost_ret (v := .tuple #[o, .bool true]) (by simp [results, Try.results17, go_sem]) rfl ⟨o, ret_tb HO.out.symm, ?_, hB.out⟩
        rw [HAN.out, HPL.out]
        exact own_le hO.out (by omega)
      · have HO : Hid (norO cs ss = false) := by show _ = _; rw [HX.out]; rfl
        have HAN := hidP (HFN.out HO.out)
        go_wp2
        refine bodyPost_ret (v := .tuple #[.slice (some ⟨wr.heap.size, 0, none⟩) 0 0, .bool false]) (by simp [results, Try.results17, go_sem]) rfl ⟨.slice (some ⟨wr.heap.size, 0, none⟩) 0 0, ret_tb HO.out.symm, ?_, hB.out.alloc hsz _⟩
        rw [HAN.out]
        exact litN wr _ hsz
end Go.Proofs.Ythnlcgilmljliaa
