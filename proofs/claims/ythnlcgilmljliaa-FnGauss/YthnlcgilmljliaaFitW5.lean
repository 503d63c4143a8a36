/- The walk of the model's Miss. -/
import Derived.Test.YthnlcgilmljliaaFitW4
namespace Go.Proofs.Ythnlcgilmljliaa
open Go.RowKit Go.Proofs.Ythnlcgilmljliaa.RM

/-- y less the curve -/
def difV (cs : List Fr) (t : Sp) (bd : Bool) : Fr × Bool := (s1V t.2 (atV cs t.1 bd).1, (atV cs t.1 bd).2 || !subK t.2 (atV cs t.1 bd).1)
/-- one square more -/
def sqS (s : Fr) (d : Fr × Bool) : Fr × Bool := (a1V s (p1V d.1 d.1), (d.2 || !mulK d.1 d.1) || !addK s (p1V d.1 d.1))
def misV (cs : List Fr) (ss : List Sp) : Nat → Fr × Bool
  | 0 => ((0, 1), false)
  | k + 1 => sqS (misV cs ss k).1 (difV cs (sp ss k) (misV cs ss k).2)
def misO (cs : List Fr) (ss : List Sp) : Bool := crvB cs && (sptB ss && !(misV cs ss ss.length).2)
def misA (cs : List Fr) (ss : List Sp) : Fr := if misO cs ss = true then (misV cs ss ss.length).1 else (0, 0)
theorem misA_no {cs : List Fr} {ss : List Sp} (h : misO cs ss = false) : misA cs ss = (0, 0) := by unfold misA; rw [h]; rfl
theorem misA_yes {cs : List Fr} {ss : List Sp} (h : misO cs ss = true) : misA cs ss = (misV cs ss ss.length).1 := by unfold misA; rw [if_pos h]
/-- one spot's miss, told -/
theorem difStep (K : Nat) (bd : Bool) (v : Value) (cs : List Fr) (t : Sp) (w : World) (a d : Fr × Bool) (h : RdR w v cs) (hc1 : 1 ≤ cs.length) (hc4 : cs.length ≤ 4) (hwK : w.heap.size ≤ K) (ha : a = atV cs t.1 bd) (hd : d = difV cs t bd) :
    (∀ W : World, Below w.heap.size w W → IsK W K bd → Calls Try.prog 52 #[.pointer (some ⟨K, 0, none⟩), v, .agg #[.int .i64 t.1.1, .int .i64 t.1.2]] W fun e w' => e = .returned (.agg #[.int .i64 a.1.1, .int .i64 a.1.2]) ∧ IsK w' K a.2 ∧ W.grownBy w' (some K)) ∧
    (∀ W : World, IsK W K a.2 → Calls Try.prog 51 #[.pointer (some ⟨K, 0, none⟩), .agg #[.int .i64 t.2.1, .int .i64 t.2.2], .agg #[.int .i64 a.1.1, .int .i64 a.1.2]] W fun e w' => e = .returned (.agg #[.int .i64 d.1.1, .int .i64 d.1.2]) ∧ IsK w' K d.2 ∧ W.grownBy w' (some K)) := by
  subst ha
  subst hd
  exact ⟨fun W hB hW => sAt_any K bd v cs t.1 w W h hc1 hc4 hB hwK hW, fun W hW => kSub9 K _ t.2 _ W hW⟩
theorem sqStep (K : Nat) (bd : Bool) (s d q : Fr) (r : Fr × Bool) (hq : q = p1V d d) (hr : r = sqS s (d, bd)) :
    (∀ W : World, IsK W K bd → Calls Try.prog 47 #[.pointer (some ⟨K, 0, none⟩), .agg #[.int .i64 d.1, .int .i64 d.2], .agg #[.int .i64 d.1, .int .i64 d.2]] W fun e w' => e = .returned (.agg #[.int .i64 q.1, .int .i64 q.2]) ∧ IsK w' K (bd || !mulK d d) ∧ W.grownBy w' (some K)) ∧
    (∀ W : World, IsK W K (bd || !mulK d d) → Calls Try.prog 45 #[.pointer (some ⟨K, 0, none⟩), .agg #[.int .i64 s.1, .int .i64 s.2], .agg #[.int .i64 q.1, .int .i64 q.2]] W fun e w' => e = .returned (.agg #[.int .i64 r.1.1, .int .i64 r.1.2]) ∧ IsK w' K r.2 ∧ W.grownBy w' (some K)) := by
  subst hq
  subst hr
  exact ⟨fun W hW => kMul9 K bd d d W hW, fun W hW => kAdd K _ _ _ _ _ W hW⟩

set_option maxRecDepth 100000 in
set_option maxHeartbeats 4000000 in
theorem sMiss_any (v z : Value) (cs : List Fr) (ss : List Sp) (w : World) (h : RdR w v cs) (h' : RdS w z ss) :
    Calls Try.prog 16 #[v, z] w fun e w' => e = .returned (.tuple #[.agg #[.int .i64 (misA cs ss).1, .int .i64 (misA cs ss).2], .bool (misO cs ss)]) ∧ Below w.heap.size w w' := by
  have HC := hidP (fun W (hW : Below w.heap.size w W) => sCrv_any v cs W (h.below hW))
  have HO := hidP (fun W (hW : Below w.heap.size w W) => sSpo_any z ss W (h'.below hW))
  have H := hidP h
  obtain ⟨q, hq⟩ : ∃ q, q = crvB cs := ⟨_, rfl⟩
  rw [← hq] at HC
  have HQ := hidP hq
  obtain ⟨o, ho⟩ : ∃ q, q = sptB ss := ⟨_, rfl⟩
  rw [← ho] at HO
  have HOQ := hidP ho
  clear hq ho
  obtain ⟨pa, na, ca, rfl⟩ : ∃ a n c, v = .slice a n c := by obtain ⟨a, c, rfl, _⟩ := h; exact ⟨a, _, c, rfl⟩
  obtain ⟨a, c, rfl, h2, h3, h4, h5⟩ := h'
  have H5 : Hid (∀ j, j < ss.length → ∃ b off, a = some ⟨b, off, none⟩ ∧ w.cell? ⟨b, off + j * 4, none⟩ = some (.int .i64 (sp ss j).1.1) ∧ w.cell? ⟨b, off + j * 4 + 1, none⟩ = some (.int .i64 (sp ss j).1.2) ∧ w.cell? ⟨b, off + j * 4 + 2, none⟩ = some (.int .i64 (sp ss j).2.1) ∧ w.cell? ⟨b, off + j * 4 + 3, none⟩ = some (.int .i64 (sp ss j).2.2)) := h5
  clear h h5 h2 h3 h4
  obtain ⟨F, hF⟩ : ∃ F, F = misV cs ss := ⟨_, rfl⟩
  have HF0 : Hid (F 0 = ((0, 1), false)) := by show _ = _; rw [hF]; rfl
  have HFS : Hid (∀ k, F (k + 1) = sqS (F k).1 (difV cs (sp ss k) (F k).2)) := by intro k; rw [hF]; rfl
  have HFA : Hid (misO cs ss = true → misA cs ss = (F ss.length).1) := by intro k; rw [hF]; exact misA_yes k
  have HFN := hidP (misA_no (cs := cs) (ss := ss))
  have HX : Hid (misO cs ss = (q && (o && !(F ss.length).2))) := by show _ = _; unfold misO; rw [HQ.out, HOQ.out, hF]
  obtain ⟨L, hL⟩ : ∃ L, L = ss.length := ⟨_, rfl⟩
  have HLE := hidP hL
  rw [← hL] at H5 HO HFA HX ⊢
  clear hF hL
  obtain ⟨Rb, hRb⟩ : ∃ R, R = w.heap.size := ⟨_, rfl⟩
  have hRw : w.heap.size ≤ Rb := by omega
  go_enter Try.func16, Try.ntmps16
  go_upto_region 1 with fail
  obtain ⟨u, hu⟩ : ∃ u, u = w.alloc (.cells #[.int .i64 0, .int .i64 0] 33) := ⟨_, rfl⟩
  have Z0 : Hid (IsR u Rb 0 0) := by show IsR _ _ _ _; rw [hu, hRb]; exact IsR.new w 0 0
  have B0 : Hid (Below w.heap.size w u) := by show Below _ _ _; rw [hu]; exact (Below.refl _ _).alloc (Nat.le_refl _) _
  rw [← hu, ← hRb]
  clear hu hRb
  cases q
  · have HF : Hid (misO cs ss = false) := by show _ = _; rw [HX.out]; rfl
    go_wp2_with fail
    refine (HC.out _ B0.out).mono ?_
    rintro e w1 ⟨rfl, hb⟩
    replace Z0 := hidP (Z0.out.below hb)
    replace B0 := hidP (B0.out.trans (hb.mono B0.out.size))
    clear hb
    have z0 := Z0.out.c0
    have z1 := Z0.out.c1
    have z2 := Z0.out.f0
    have z3 := Z0.out.f1
    go_wp2
    exact bodyPost_ret (v := .tuple #[.agg #[.int .i64 0, .int .i64 0], .bool false]) (by simp [results, Try.results16, go_sem, z0, z1]) rfl ⟨ret_fb10 (by rw [HFN.out HF.out]) (by rw [HFN.out HF.out]) HF.out.symm, (B0.out.setCell (p := ⟨Rb, 0, none⟩) hRw _).setCell (p := ⟨Rb, 1, none⟩) hRw _⟩
  go_wp2_with fail
  refine (HC.out _ B0.out).mono ?_
  rintro e w1 ⟨rfl, hb⟩
  replace Z0 := hidP (Z0.out.below hb)
  replace B0 := hidP (B0.out.trans (hb.mono B0.out.size))
  clear hb
  cases o
  · have HF : Hid (misO cs ss = false) := by show _ = _; rw [HX.out]; rfl
    go_wp2_with fail
    refine (HO.out _ B0.out).mono ?_
    rintro e w2 ⟨rfl, hb⟩
    replace Z0 := hidP (Z0.out.below hb)
    replace B0 := hidP (B0.out.trans (hb.mono B0.out.size))
    clear hb
    have z0 := Z0.out.c0
    have z1 := Z0.out.c1
    have z2 := Z0.out.f0
    have z3 := Z0.out.f1
    go_wp2
    exact bodyPost_ret (v := .tuple #[.agg #[.int .i64 0, .int .i64 0], .bool false]) (by simp [results, Try.results16, go_sem, z0, z1]) rfl ⟨ret_fb10 (by rw [HFN.out HF.out]) (by rw [HFN.out HF.out]) HF.out.symm, (B0.out.setCell (p := ⟨Rb, 0, none⟩) hRw _).setCell (p := ⟨Rb, 1, none⟩) hRw _⟩
  have HC1 : Hid (1 ≤ cs.length ∧ cs.length ≤ 4) := (crvB_out HQ.out.symm).1
  have HL12 : L ≤ 12 := by have := (sptB_out HOQ.out.symm).1.2; have := HLE.out; omega
  go_wp2_with fail
  refine (HO.out _ B0.out).mono ?_
  rintro e w2 ⟨rfl, hb⟩
  replace Z0 := hidP (Z0.out.below hb)
  replace B0 := hidP (B0.out.trans (hb.mono B0.out.size))
  clear hb
  go_wp2_with fail
  obtain ⟨K, hK⟩ : ∃ K, K = w2.heap.size := ⟨_, rfl⟩
  obtain ⟨Y, hY⟩ : ∃ Y, Y = w2.alloc (.cells #[.bool false] 71) := ⟨_, rfl⟩
  have K0 : Hid (IsK Y K false) := by show IsK _ _ _; rw [hY, hK]; exact IsK.new w2 false
  have hRK : Rb ≠ K := by have := Z0.out.lt; omega
  have hwK : w.heap.size ≤ K := by have := B0.out.size; omega
  replace Z0 := hidP (Z0.out.below (b0P w2 (.cells #[.bool false] 71)))
  replace B0 := hidP (B0.out.alloc B0.out.size (.cells #[.bool false] 71))
  rw [← hY] at Z0 B0
  rw [← hY, ← hK]
  clear hY hK
  refine (zero_any _).mono ?_
  rintro e w3 ⟨rfl, hb⟩
  replace Z0 := hidP (Z0.out.below hb)
  replace K0 := hidP (K0.out.below hb)
  replace B0 := hidP (B0.out.trans (hb.mono B0.out.size))
  clear hb
  go_wp2
  obtain ⟨Sb, hSb⟩ : ∃ K, K = w3.heap.size := ⟨_, rfl⟩
  obtain ⟨X, hX⟩ : ∃ X, X = w3.alloc (.cells #[.int .i64 0, .int .i64 1] 33) := ⟨_, rfl⟩
  have S1 : Hid (IsR X Sb (F 0).1.1 (F 0).1.2) := by show IsR _ _ _ _; rw [HF0.out, hX, hSb]; exact IsR.new w3 0 1
  have Z1 : Hid (IsR X Rb 0 0) := by show IsR _ _ _ _; rw [hX]; exact Z0.out.below (b0P _ _)
  have K1 : Hid (IsK X K (F 0).2) := by show IsK _ _ _; rw [HF0.out, hX]; exact K0.out.below (b0P _ _)
  have B1 : Hid (Below w.heap.size w X) := by show Below _ _ _; rw [hX]; exact B0.out.alloc B0.out.size _
  have hSK : Sb ≠ K := by have := K0.out.lt; omega
  have hRS : Rb ≠ Sb := by have := Z0.out.lt; omega
  have hwS : w.heap.size ≤ Sb := by have := B0.out.size; omega
  rw [← hX, ← hSb]
  clear hX hSb Z0 K0 B0 HC HO
  have HDS := hidP (fun k (bd : Bool) (r d : Fr × Bool) (hr : r = atV cs (sp ss k).1 bd) (hd : d = difV cs (sp ss k) bd) => difStep K bd _ cs (sp ss k) w r d H.out HC1.out.1 HC1.out.2 hwK hr hd)
  clear H HC1
  go_loopw [8] (fun i wr => ∃ k : Nat, k ≤ L ∧ i = .int .i64 k ∧ Hid (IsR wr Sb (F k).1.1 (F k).1.2) ∧ Hid (IsK wr K (F k).2) ∧ Hid (IsR wr Rb 0 0) ∧ Hid (Below w.heap.size w wr)) (fun i _ => L - (intOf i).toNat)
  case atStart => exact ⟨0, Nat.zero_le _, rfl, S1, K1, Z1, B1⟩
  case round =>
    clear S1 K1 Z1 B1
    obtain ⟨k, hk, rfl, hS, kk, hZ, hB⟩ := hrel
    by_cases hlt : k < L
    · have hkd : decide ((k : Int) < (L : Int)) = true := decide_eq_true (by omega)
      obtain ⟨b, off, rfl, c1, c2, c3, c4⟩ := H5.out k hlt
      have l1 := World.block_lt_of_cell? w _ c1
      dsimp only at l1
      have hbK : b ≠ K := by omega
      replace c1 := cell_keep hB.out c1
      replace c2 := cell_keep hB.out c2
      replace c3 := cell_keep hB.out c3
      replace c4 := cell_keep hB.out c4
      obtain ⟨s, hs⟩ : ∃ z, z = F k := ⟨_, rfl⟩
      obtain ⟨r, hr⟩ : ∃ z, z = F (k + 1) := ⟨_, rfl⟩
      have HQ' : Hid (F (k + 1) = r) := hr.symm
      rw [HFS.out k, ← hs] at hr
      rw [← hs] at hS kk
      obtain ⟨s, so⟩ := s
      obtain ⟨⟨at', ao⟩, ha⟩ : ∃ z, z = atV cs (sp ss k).1 so := ⟨_, rfl⟩
      obtain ⟨⟨d, dO⟩, hd⟩ : ∃ z, z = difV cs (sp ss k) so := ⟨_, rfl⟩
      obtain ⟨HA, HSU⟩ := HDS.out k so _ _ ha hd
      dsimp only at hr
      rw [← hd] at hr
      obtain ⟨q, hq⟩ : ∃ z, z = p1V d d := ⟨_, rfl⟩
      obtain ⟨HM, HAD⟩ := sqStep K dO s d q r hq hr
      replace HA := hidP HA
      replace HSU := hidP HSU
      replace HM := hidP HM
      replace HAD := hidP HAD
      obtain ⟨t, ht⟩ : ∃ t, t = sp ss k := ⟨_, rfl⟩
      rw [← ht] at c1 c2 c3 c4 HA HSU
      obtain ⟨⟨x1, x2⟩, y1, y2⟩ := t
      obtain ⟨a1, a2⟩ := at'
      obtain ⟨d1, d2⟩ := d
      obtain ⟨s1, s2⟩ := s
      obtain ⟨q1, q2⟩ := q
      obtain ⟨⟨r1, r2⟩, ro⟩ := r
      clear hs hr ha hd hq ht
      dsimp only at c1 c2 c3 c4 hS kk HA HSU HM HAD
      go_upto_region 8 with fail
      go_cut [9] from 22 to 49 (fun s9 wx => ∃ T : Nat, s9 = .pointer (some ⟨T, 0, none⟩) ∧ T ≠ K ∧ Sb ≠ T ∧ w.heap.size ≤ T ∧ Hid (IsR wx T d1 d2) ∧ Hid (IsK wx K dO) ∧ Hid (IsR wx Sb s1 s2) ∧ Hid (IsR wx Rb 0 0) ∧ Hid (Below w.heap.size w wx))
      case first =>
        refine wp_region_noPanic ?_
        refine wp_region_held_drew (S := (fun w' => w'.cell? ⟨b, off + k * 4, none⟩ = some (.int .i64 x1) ∧ w'.cell? ⟨b, off + k * 4 + 1, none⟩ = some (.int .i64 x2) ∧ w'.cell? ⟨b, off + k * 4 + 2, none⟩ = some (.int .i64 y1) ∧ w'.cell? ⟨b, off + k * 4 + 3, none⟩ = some (.int .i64 y2))) (by kernel_rfl) ?_ (fun hHeld => ?_)
        · (try dsimp only)
          refine ⟨?_, ?_, ?_, ?_⟩ <;> (repeat (with_reducible (first | exact c1 | exact c2 | exact c3 | exact c4 | refine cell_dr ?_ | refine cell_stb ?_ ?_ | refine cell_al _ ?_ | (show _ ≠ _; omega))))
        have hbd := (Below.refl wr.heap.size wr).drew
        replace hS := hidP (hS.out.below hbd)
        replace hZ := hidP (hZ.out.below hbd)
        replace kk := hidP (kk.out.below hbd)
        replace hB := hidP (hB.out.trans (hbd.mono hB.out.size))
        clear hbd
        replace c1 := cell_dr c1
        replace c2 := cell_dr c2
        replace c3 := cell_dr c3
        replace c4 := cell_dr c4
        obtain ⟨wd, hwd⟩ : ∃ u, u = wr.drew := ⟨_, rfl⟩
        rw [← hwd] at hS hZ kk hB c1 c2 c3 c4 hHeld ⊢
        clear hwd
        refine wpAnyH_take (i := 0) (v := ?_) rfl (by kernel_rfl) (by kernel_rfl) (by kernel_rfl) (fun _ _ _ h => h) (Or.inl ⟨by kernel_rfl, ?_⟩) hHeld ?_
        rotate_left
        · intro wz hSw; (try dsimp only at hSw); go_simp; all_goals (try with_reducible rfl)
        (try simp only [List.getElem_toArray]); (try simp only [List.getElem_cons_succ]); (try simp only [List.getElem_cons_zero]); (try simp only [Act.put]); (try simp only [List.setIfInBounds_toArray]); (try simp only [List.set_cons_succ]); (try simp only [List.set_cons_zero])
        refine wpAnyH_take (i := 1) (v := ?_) rfl (by kernel_rfl) (by kernel_rfl) (by kernel_rfl) (fun _ _ _ h => h) (Or.inl ⟨by kernel_rfl, ?_⟩) hHeld ?_
        rotate_left
        · intro wz hSw; (try dsimp only at hSw); go_simp; all_goals (try with_reducible rfl)
        (try simp only [List.getElem_toArray]); (try simp only [List.getElem_cons_succ]); (try simp only [List.getElem_cons_zero]); (try simp only [Act.put]); (try simp only [List.setIfInBounds_toArray]); (try simp only [List.set_cons_succ]); (try simp only [List.set_cons_zero])
        refine wpAnyH_take (i := 2) (v := ?_) rfl (by kernel_rfl) (by kernel_rfl) (by kernel_rfl) (fun _ _ _ h => h) (Or.inl ⟨by kernel_rfl, ?_⟩) hHeld ?_
        rotate_left
        · intro wz hSw; (try dsimp only at hSw); go_simp; all_goals (try with_reducible rfl)
        (try simp only [List.getElem_toArray]); (try simp only [List.getElem_cons_succ]); (try simp only [List.getElem_cons_zero]); (try simp only [Act.put]); (try simp only [List.setIfInBounds_toArray]); (try simp only [List.set_cons_succ]); (try simp only [List.set_cons_zero])
        refine wpAnyH_take (i := 3) (v := ?_) rfl (by kernel_rfl) (by kernel_rfl) (by kernel_rfl) (fun _ _ _ h => h) (Or.inl ⟨by kernel_rfl, ?_⟩) hHeld ?_
        rotate_left
        · intro wz hSw; (try dsimp only at hSw); go_simp; all_goals (try with_reducible rfl)
        (try simp only [List.getElem_toArray]); (try simp only [List.getElem_cons_succ]); (try simp only [List.getElem_cons_zero]); (try simp only [Act.put]); (try simp only [List.setIfInBounds_toArray]); (try simp only [List.set_cons_succ]); (try simp only [List.set_cons_zero])
        refine wpAnyH_take (i := 4) (v := ?_) rfl (by kernel_rfl) (by kernel_rfl) (by kernel_rfl) (fun _ _ _ h => h) (Or.inl ⟨by kernel_rfl, ?_⟩) hHeld ?_
        rotate_left
        · intro wz hSw; (try dsimp only at hSw); go_simp; all_goals (try with_reducible rfl)
        (try simp only [List.getElem_toArray]); (try simp only [List.getElem_cons_succ]); (try simp only [List.getElem_cons_zero]); (try simp only [Act.put]); (try simp only [List.setIfInBounds_toArray]); (try simp only [List.set_cons_succ]); (try simp only [List.set_cons_zero])
        refine wpAnyH_take (i := 5) (v := ?_) rfl (by kernel_rfl) (by kernel_rfl) (by kernel_rfl) (fun _ _ _ h => h) (Or.inl ⟨by kernel_rfl, ?_⟩) hHeld ?_
        rotate_left
        · intro wz hSw; (try dsimp only at hSw); go_simp; all_goals (try with_reducible rfl)
        (try simp only [List.getElem_toArray]); (try simp only [List.getElem_cons_succ]); (try simp only [List.getElem_cons_zero]); (try simp only [Act.put]); (try simp only [List.setIfInBounds_toArray]); (try simp only [List.set_cons_succ]); (try simp only [List.set_cons_zero])
        refine wpAnyH_take (i := 6) (v := ?_) rfl (by kernel_rfl) (by kernel_rfl) (by kernel_rfl) (fun _ _ _ h => h) (Or.inl ⟨by kernel_rfl, ?_⟩) hHeld ?_
        rotate_left
        · intro wz hSw; (try dsimp only at hSw); go_simp; all_goals (try with_reducible rfl)
        (try simp only [List.getElem_toArray]); (try simp only [List.getElem_cons_succ]); (try simp only [List.getElem_cons_zero]); (try simp only [Act.put]); (try simp only [List.setIfInBounds_toArray]); (try simp only [List.set_cons_succ]); (try simp only [List.set_cons_zero])
        refine wpAnyH_take (i := 7) (v := ?_) rfl (by kernel_rfl) (by kernel_rfl) (by kernel_rfl) (fun _ _ _ h => h) (Or.inl ⟨by kernel_rfl, ?_⟩) hHeld ?_
        rotate_left
        · intro wz hSw; (try dsimp only at hSw); go_simp; all_goals (try with_reducible rfl)
        (try simp only [List.getElem_toArray]); (try simp only [List.getElem_cons_succ]); (try simp only [List.getElem_cons_zero]); (try simp only [Act.put]); (try simp only [List.setIfInBounds_toArray]); (try simp only [List.set_cons_succ]); (try simp only [List.set_cons_zero])
        refine wpAnyH_take (i := 8) (v := ?_) rfl (by kernel_rfl) (by kernel_rfl) (by kernel_rfl) (fun _ _ _ h => h) (Or.inl ⟨by kernel_rfl, ?_⟩) hHeld ?_
        rotate_left
        · intro wz hSw; (try dsimp only at hSw); go_simp; all_goals (try with_reducible rfl)
        (try simp only [List.getElem_toArray]); (try simp only [List.getElem_cons_succ]); (try simp only [List.getElem_cons_zero]); (try simp only [Act.put]); (try simp only [List.setIfInBounds_toArray]); (try simp only [List.set_cons_succ]); (try simp only [List.set_cons_zero])
        refine wpAnyH_take (i := 9) (v := ?_) rfl (by kernel_rfl) (by kernel_rfl) (by kernel_rfl) (fun _ _ _ h => h) (Or.inl ⟨by kernel_rfl, ?_⟩) hHeld ?_
        rotate_left
        · intro wz hSw; (try dsimp only at hSw); go_simp; all_goals (try with_reducible rfl)
        (try simp only [List.getElem_toArray]); (try simp only [List.getElem_cons_succ]); (try simp only [List.getElem_cons_zero]); (try simp only [Act.put]); (try simp only [List.setIfInBounds_toArray]); (try simp only [List.set_cons_succ]); (try simp only [List.set_cons_zero])
        refine wpAnyH_take (i := 10) (v := ?_) rfl (by kernel_rfl) (by kernel_rfl) (by kernel_rfl) (fun _ _ _ h => h) (Or.inl ⟨by kernel_rfl, ?_⟩) hHeld ?_
        rotate_left
        · intro wz hSw; (try dsimp only at hSw); go_simp; all_goals (try with_reducible rfl)
        (try simp only [List.getElem_toArray]); (try simp only [List.getElem_cons_succ]); (try simp only [List.getElem_cons_zero]); (try simp only [Act.put]); (try simp only [List.setIfInBounds_toArray]); (try simp only [List.set_cons_succ]); (try simp only [List.set_cons_zero])
        refine wpAnyH_take (i := 11) (v := ?_) rfl (by kernel_rfl) (by kernel_rfl) (by kernel_rfl) (fun _ _ _ h => h) (Or.inl ⟨by kernel_rfl, ?_⟩) hHeld ?_
        rotate_left
        · intro wz hSw; (try dsimp only at hSw); go_simp; all_goals (try with_reducible rfl)
        (try simp only [List.getElem_toArray]); (try simp only [List.getElem_cons_succ]); (try simp only [List.getElem_cons_zero]); (try simp only [Act.put]); (try simp only [List.setIfInBounds_toArray]); (try simp only [List.set_cons_succ]); (try simp only [List.set_cons_zero])
        refine wpAnyH_take (i := 12) (v := ?_) rfl (by kernel_rfl) (by kernel_rfl) (by kernel_rfl) (fun _ _ _ h => h) (Or.inl ⟨by kernel_rfl, ?_⟩) hHeld ?_
        rotate_left
        · intro wz hSw; (try dsimp only at hSw); go_simp; all_goals (try with_reducible rfl)
        (try simp only [List.getElem_toArray]); (try simp only [List.getElem_cons_succ]); (try simp only [List.getElem_cons_zero]); (try simp only [Act.put]); (try simp only [List.setIfInBounds_toArray]); (try simp only [List.set_cons_succ]); (try simp only [List.set_cons_zero])
        refine wpAnyH_ready (rs := [13, 15]) (by kernel_rfl) (by simp) (AllReadyH.cons rfl (fun Kc hKc => ?_) (AllReadyH.cons rfl (fun Kc hKc => ?_) AllReadyH.nil))
        ·
          go_simp
          (go_at_call 52; refine (HA.out _ hB.out kk.out).mono ?_; rintro e u1 ⟨rfl, kk', g2⟩)
          have c1 := cell_g g2 c1 hbK
          have c2 := cell_g g2 c2 hbK
          have c3 := cell_g g2 c3 hbK
          have c4 := cell_g g2 c4 hbK
          have hS := hidP (IsR.grown (by exact hS.out) g2 hSK)
          have hZ := hidP (IsR.grown (by exact hZ.out) g2 hRK)
          have hB := hidP (hB.out.trans (below_grownK g2 hwK hB.out.size))
          have kk := hidP kk'
          clear g2 kk'
          go_wp2_with fail
          refine hKc.out _ _ ?_ (fun hHeld => ?_)
          · (try dsimp only)
            refine ⟨?_, ?_, ?_, ?_⟩ <;> (repeat (with_reducible (first | exact c1 | exact c2 | exact c3 | exact c4 | refine cell_dr ?_ | refine cell_stb ?_ ?_ | refine cell_al _ ?_ | (show _ ≠ _; omega))))
          clear hKc Kc
          (try simp only [List.getElem_toArray]); (try simp only [List.getElem_cons_succ]); (try simp only [List.getElem_cons_zero]); (try simp only [Act.put]); (try simp only [List.setIfInBounds_toArray]); (try simp only [List.set_cons_succ]); (try simp only [List.set_cons_zero])
          refine wpAnyH_ready (rs := [14, 15]) (by kernel_rfl) (by simp) (AllReadyH.cons rfl (fun Kc hKc => ?_) (AllReadyH.cons rfl (fun Kc hKc => ?_) AllReadyH.nil))
          ·
            go_simp
            (go_at_call 51; refine (HSU.out _ kk.out).mono ?_; rintro e u2 ⟨rfl, kk', g2⟩)
            have c1 := cell_g g2 c1 hbK
            have c2 := cell_g g2 c2 hbK
            have c3 := cell_g g2 c3 hbK
            have c4 := cell_g g2 c4 hbK
            have hS := hidP (IsR.grown (by exact hS.out) g2 hSK)
            have hZ := hidP (IsR.grown (by exact hZ.out) g2 hRK)
            have hB := hidP (hB.out.trans (below_grownK g2 hwK hB.out.size))
            have kk := hidP kk'
            clear g2 kk'
            go_wp2_with fail
            refine hKc.out _ _ ?_ (fun hHeld => ?_)
            · (try dsimp only)
              refine ⟨?_, ?_, ?_, ?_⟩ <;> (repeat (with_reducible (first | exact c1 | exact c2 | exact c3 | exact c4 | refine cell_dr ?_ | refine cell_stb ?_ ?_ | refine cell_al _ ?_ | (show _ ≠ _; omega))))
            clear hKc Kc
            (try simp only [List.getElem_toArray]); (try simp only [List.getElem_cons_succ]); (try simp only [List.getElem_cons_zero]); (try simp only [Act.put]); (try simp only [List.setIfInBounds_toArray]); (try simp only [List.set_cons_succ]); (try simp only [List.set_cons_zero])
            refine wpAnyH_ready (rs := [15]) (by kernel_rfl) (by simp) (AllReadyH.cons rfl (fun Kc hKc => ?_) AllReadyH.nil)
            go_simp
            obtain ⟨A, hA'⟩ : ∃ A, A = u2.heap.size := ⟨_, rfl⟩
            obtain ⟨u3, hu⟩ : ∃ u, u = u2.alloc (.cells #[.int .i64 0, .int .i64 0] 33) := ⟨_, rfl⟩
            have hb : Below u2.heap.size u2 u3 := by rw [hu]; exact b0P _ _
            have hA : Hid (IsR u3 A 0 0) := by show IsR _ _ _ _; rw [hu, hA']; exact IsR.new _ _ _
            have hAw : w.heap.size ≤ A := by rw [hA']; exact hB.out.size
            have hAK : A ≠ K := by have := kk.out.lt; omega
            have hAhS := hS.out.lt
            rw [← hA'] at hAhS
            have hAhZ := hZ.out.lt
            rw [← hA'] at hAhZ
            rw [← hu, ← hA']
            have hS := hidP (hS.out.below hb)
            have hZ := hidP (hZ.out.below hb)
            have c1 := cell_keep hb c1
            have c2 := cell_keep hb c2
            have c3 := cell_keep hb c3
            have c4 := cell_keep hb c4
            have kk := hidP (kk.out.below hb)
            have hB := hidP (hB.out.trans (hb.mono hB.out.size))
            clear hb hu hA'
            refine hKc.out _ _ ?_ (fun hHeld => ?_)
            · (try dsimp only)
              refine ⟨?_, ?_, ?_, ?_⟩ <;> (repeat (with_reducible (first | exact c1 | exact c2 | exact c3 | exact c4 | refine cell_dr ?_ | refine cell_stb ?_ ?_ | refine cell_al _ ?_ | (show _ ≠ _; omega))))
            clear hKc Kc
            (try simp only [List.getElem_toArray]); (try simp only [List.getElem_cons_succ]); (try simp only [List.getElem_cons_zero]); (try simp only [Act.put]); (try simp only [List.setIfInBounds_toArray]); (try simp only [List.set_cons_succ]); (try simp only [List.set_cons_zero])
            have f0 := hA.out.f0
            have f1 := hA.out.f1
            have g0 := hA.out.c0
            have g1 := hA.out.c1
            refine wpAnyH_ready (rs := [16]) (by kernel_rfl) (by simp) (AllReadyH.cons rfl (fun Kc hKc => ?_) AllReadyH.nil)
            go_simp
            refine hKc.out _ _ ?_ (fun hHeld => ?_)
            · (try dsimp only)
              refine ⟨?_, ?_, ?_, ?_⟩ <;> (repeat (with_reducible (first | exact c1 | exact c2 | exact c3 | exact c4 | refine cell_dr ?_ | refine cell_stb ?_ ?_ | refine cell_al _ ?_ | (show _ ≠ _; omega))))
            clear hKc Kc
            (try simp only [List.getElem_toArray]); (try simp only [List.getElem_cons_succ]); (try simp only [List.getElem_cons_zero]); (try simp only [Act.put]); (try simp only [List.setIfInBounds_toArray]); (try simp only [List.set_cons_succ]); (try simp only [List.set_cons_zero])
            refine wpAnyH_done (by kernel_rfl) ?_ _
            refine NoPanic.normal ?_
            go_wp2_with fail
            go_meet
            case rel => exact ⟨A, rfl, hAK, by omega, hAw, (hA.out.set0 d1).set1 d2, (kk.out.other hAK.symm 0 (.int .i64 d1)).other hAK.symm 1 (.int .i64 d2), (hS.out.other (by omega) 0 (.int .i64 d1)).other (by omega) 1 (.int .i64 d2), (hZ.out.other (by omega) 0 (.int .i64 d1)).other (by omega) 1 (.int .i64 d2), (hB.out.setCell (p := ⟨A, 0, none⟩) hAw _).setCell (p := ⟨A, 1, none⟩) hAw _⟩
          ·
            go_simp
            obtain ⟨A, hA'⟩ : ∃ A, A = u1.heap.size := ⟨_, rfl⟩
            obtain ⟨u4, hu⟩ : ∃ u, u = u1.alloc (.cells #[.int .i64 0, .int .i64 0] 33) := ⟨_, rfl⟩
            have hb : Below u1.heap.size u1 u4 := by rw [hu]; exact b0P _ _
            have hA : Hid (IsR u4 A 0 0) := by show IsR _ _ _ _; rw [hu, hA']; exact IsR.new _ _ _
            have hAw : w.heap.size ≤ A := by rw [hA']; exact hB.out.size
            have hAK : A ≠ K := by have := kk.out.lt; omega
            have hAhS := hS.out.lt
            rw [← hA'] at hAhS
            have hAhZ := hZ.out.lt
            rw [← hA'] at hAhZ
            rw [← hu, ← hA']
            have hS := hidP (hS.out.below hb)
            have hZ := hidP (hZ.out.below hb)
            have c1 := cell_keep hb c1
            have c2 := cell_keep hb c2
            have c3 := cell_keep hb c3
            have c4 := cell_keep hb c4
            have kk := hidP (kk.out.below hb)
            have hB := hidP (hB.out.trans (hb.mono hB.out.size))
            clear hb hu hA'
            refine hKc.out _ _ ?_ (fun hHeld => ?_)
            · (try dsimp only)
              refine ⟨?_, ?_, ?_, ?_⟩ <;> (repeat (with_reducible (first | exact c1 | exact c2 | exact c3 | exact c4 | refine cell_dr ?_ | refine cell_stb ?_ ?_ | refine cell_al _ ?_ | (show _ ≠ _; omega))))
            clear hKc Kc
            (try simp only [List.getElem_toArray]); (try simp only [List.getElem_cons_succ]); (try simp only [List.getElem_cons_zero]); (try simp only [Act.put]); (try simp only [List.setIfInBounds_toArray]); (try simp only [List.set_cons_succ]); (try simp only [List.set_cons_zero])
            refine wpAnyH_ready (rs := [14]) (by kernel_rfl) (by simp) (AllReadyH.cons rfl (fun Kc hKc => ?_) AllReadyH.nil)
            go_simp
            (go_at_call 51; refine (HSU.out _ kk.out).mono ?_; rintro e u5 ⟨rfl, kk', g2⟩)
            have c1 := cell_g g2 c1 hbK
            have c2 := cell_g g2 c2 hbK
            have c3 := cell_g g2 c3 hbK
            have c4 := cell_g g2 c4 hbK
            have hS := hidP (IsR.grown (by exact hS.out) g2 hSK)
            have hZ := hidP (IsR.grown (by exact hZ.out) g2 hRK)
            have hA := hidP (IsR.grown (by exact hA.out) g2 hAK)
            have hB := hidP (hB.out.trans (below_grownK g2 hwK hB.out.size))
            have kk := hidP kk'
            clear g2 kk'
            go_wp2_with fail
            refine hKc.out _ _ ?_ (fun hHeld => ?_)
            · (try dsimp only)
              refine ⟨?_, ?_, ?_, ?_⟩ <;> (repeat (with_reducible (first | exact c1 | exact c2 | exact c3 | exact c4 | refine cell_dr ?_ | refine cell_stb ?_ ?_ | refine cell_al _ ?_ | (show _ ≠ _; omega))))
            clear hKc Kc
            (try simp only [List.getElem_toArray]); (try simp only [List.getElem_cons_succ]); (try simp only [List.getElem_cons_zero]); (try simp only [Act.put]); (try simp only [List.setIfInBounds_toArray]); (try simp only [List.set_cons_succ]); (try simp only [List.set_cons_zero])
            have f0 := hA.out.f0
            have f1 := hA.out.f1
            have g0 := hA.out.c0
            have g1 := hA.out.c1
            refine wpAnyH_ready (rs := [16]) (by kernel_rfl) (by simp) (AllReadyH.cons rfl (fun Kc hKc => ?_) AllReadyH.nil)
            go_simp
            refine hKc.out _ _ ?_ (fun hHeld => ?_)
            · (try dsimp only)
              refine ⟨?_, ?_, ?_, ?_⟩ <;> (repeat (with_reducible (first | exact c1 | exact c2 | exact c3 | exact c4 | refine cell_dr ?_ | refine cell_stb ?_ ?_ | refine cell_al _ ?_ | (show _ ≠ _; omega))))
            clear hKc Kc
            (try simp only [List.getElem_toArray]); (try simp only [List.getElem_cons_succ]); (try simp only [List.getElem_cons_zero]); (try simp only [Act.put]); (try simp only [List.setIfInBounds_toArray]); (try simp only [List.set_cons_succ]); (try simp only [List.set_cons_zero])
            refine wpAnyH_done (by kernel_rfl) ?_ _
            refine NoPanic.normal ?_
            go_wp2_with fail
            go_meet
            case rel => exact ⟨A, rfl, hAK, by omega, hAw, (hA.out.set0 d1).set1 d2, (kk.out.other hAK.symm 0 (.int .i64 d1)).other hAK.symm 1 (.int .i64 d2), (hS.out.other (by omega) 0 (.int .i64 d1)).other (by omega) 1 (.int .i64 d2), (hZ.out.other (by omega) 0 (.int .i64 d1)).other (by omega) 1 (.int .i64 d2), (hB.out.setCell (p := ⟨A, 0, none⟩) hAw _).setCell (p := ⟨A, 1, none⟩) hAw _⟩
        ·
          go_simp
          obtain ⟨A, hA'⟩ : ∃ A, A = wd.heap.size := ⟨_, rfl⟩
          obtain ⟨u6, hu⟩ : ∃ u, u = wd.alloc (.cells #[.int .i64 0, .int .i64 0] 33) := ⟨_, rfl⟩
          have hb : Below wd.heap.size wd u6 := by rw [hu]; exact b0P _ _
          have hA : Hid (IsR u6 A 0 0) := by show IsR _ _ _ _; rw [hu, hA']; exact IsR.new _ _ _
          have hAw : w.heap.size ≤ A := by rw [hA']; exact hB.out.size
          have hAK : A ≠ K := by have := kk.out.lt; omega
          have hAhS := hS.out.lt
          rw [← hA'] at hAhS
          have hAhZ := hZ.out.lt
          rw [← hA'] at hAhZ
          rw [← hu, ← hA']
          have hS := hidP (hS.out.below hb)
          have hZ := hidP (hZ.out.below hb)
          have c1 := cell_keep hb c1
          have c2 := cell_keep hb c2
          have c3 := cell_keep hb c3
          have c4 := cell_keep hb c4
          have kk := hidP (kk.out.below hb)
          have hB := hidP (hB.out.trans (hb.mono hB.out.size))
          clear hb hu hA'
          refine hKc.out _ _ ?_ (fun hHeld => ?_)
          · (try dsimp only)
            refine ⟨?_, ?_, ?_, ?_⟩ <;> (repeat (with_reducible (first | exact c1 | exact c2 | exact c3 | exact c4 | refine cell_dr ?_ | refine cell_stb ?_ ?_ | refine cell_al _ ?_ | (show _ ≠ _; omega))))
          clear hKc Kc
          (try simp only [List.getElem_toArray]); (try simp only [List.getElem_cons_succ]); (try simp only [List.getElem_cons_zero]); (try simp only [Act.put]); (try simp only [List.setIfInBounds_toArray]); (try simp only [List.set_cons_succ]); (try simp only [List.set_cons_zero])
          refine wpAnyH_ready (rs := [13]) (by kernel_rfl) (by simp) (AllReadyH.cons rfl (fun Kc hKc => ?_) AllReadyH.nil)
          go_simp
          (go_at_call 52; refine (HA.out _ hB.out kk.out).mono ?_; rintro e u7 ⟨rfl, kk', g2⟩)
          have c1 := cell_g g2 c1 hbK
          have c2 := cell_g g2 c2 hbK
          have c3 := cell_g g2 c3 hbK
          have c4 := cell_g g2 c4 hbK
          have hS := hidP (IsR.grown (by exact hS.out) g2 hSK)
          have hZ := hidP (IsR.grown (by exact hZ.out) g2 hRK)
          have hA := hidP (IsR.grown (by exact hA.out) g2 hAK)
          have hB := hidP (hB.out.trans (below_grownK g2 hwK hB.out.size))
          have kk := hidP kk'
          clear g2 kk'
          go_wp2_with fail
          refine hKc.out _ _ ?_ (fun hHeld => ?_)
          · (try dsimp only)
            refine ⟨?_, ?_, ?_, ?_⟩ <;> (repeat (with_reducible (first | exact c1 | exact c2 | exact c3 | exact c4 | refine cell_dr ?_ | refine cell_stb ?_ ?_ | refine cell_al _ ?_ | (show _ ≠ _; omega))))
          clear hKc Kc
          (try simp only [List.getElem_toArray]); (try simp only [List.getElem_cons_succ]); (try simp only [List.getElem_cons_zero]); (try simp only [Act.put]); (try simp only [List.setIfInBounds_toArray]); (try simp only [List.set_cons_succ]); (try simp only [List.set_cons_zero])
          refine wpAnyH_ready (rs := [14]) (by kernel_rfl) (by simp) (AllReadyH.cons rfl (fun Kc hKc => ?_) AllReadyH.nil)
          go_simp
          (go_at_call 51; refine (HSU.out _ kk.out).mono ?_; rintro e u8 ⟨rfl, kk', g2⟩)
          have c1 := cell_g g2 c1 hbK
          have c2 := cell_g g2 c2 hbK
          have c3 := cell_g g2 c3 hbK
          have c4 := cell_g g2 c4 hbK
          have hS := hidP (IsR.grown (by exact hS.out) g2 hSK)
          have hZ := hidP (IsR.grown (by exact hZ.out) g2 hRK)
          have hA := hidP (IsR.grown (by exact hA.out) g2 hAK)
          have hB := hidP (hB.out.trans (below_grownK g2 hwK hB.out.size))
          have kk := hidP kk'
          clear g2 kk'
          go_wp2_with fail
          refine hKc.out _ _ ?_ (fun hHeld => ?_)
          · (try dsimp only)
            refine ⟨?_, ?_, ?_, ?_⟩ <;> (repeat (with_reducible (first | exact c1 | exact c2 | exact c3 | exact c4 | refine cell_dr ?_ | refine cell_stb ?_ ?_ | refine cell_al _ ?_ | (show _ ≠ _; omega))))
          clear hKc Kc
          (try simp only [List.getElem_toArray]); (try simp only [List.getElem_cons_succ]); (try simp only [List.getElem_cons_zero]); (try simp only [Act.put]); (try simp only [List.setIfInBounds_toArray]); (try simp only [List.set_cons_succ]); (try simp only [List.set_cons_zero])
          have f0 := hA.out.f0
          have f1 := hA.out.f1
          have g0 := hA.out.c0
          have g1 := hA.out.c1
          refine wpAnyH_ready (rs := [16]) (by kernel_rfl) (by simp) (AllReadyH.cons rfl (fun Kc hKc => ?_) AllReadyH.nil)
          go_simp
          refine hKc.out _ _ ?_ (fun hHeld => ?_)
          · (try dsimp only)
            refine ⟨?_, ?_, ?_, ?_⟩ <;> (repeat (with_reducible (first | exact c1 | exact c2 | exact c3 | exact c4 | refine cell_dr ?_ | refine cell_stb ?_ ?_ | refine cell_al _ ?_ | (show _ ≠ _; omega))))
          clear hKc Kc
          (try simp only [List.getElem_toArray]); (try simp only [List.getElem_cons_succ]); (try simp only [List.getElem_cons_zero]); (try simp only [Act.put]); (try simp only [List.setIfInBounds_toArray]); (try simp only [List.set_cons_succ]); (try simp only [List.set_cons_zero])
          refine wpAnyH_done (by kernel_rfl) ?_ _
          refine NoPanic.normal ?_
          go_wp2_with fail
          go_meet
          case rel => exact ⟨A, rfl, hAK, by omega, hAw, (hA.out.set0 d1).set1 d2, (kk.out.other hAK.symm 0 (.int .i64 d1)).other hAK.symm 1 (.int .i64 d2), (hS.out.other (by omega) 0 (.int .i64 d1)).other (by omega) 1 (.int .i64 d2), (hZ.out.other (by omega) 0 (.int .i64 d1)).other (by omega) 1 (.int .i64 d2), (hB.out.setCell (p := ⟨A, 0, none⟩) hAw _).setCell (p := ⟨A, 1, none⟩) hAw _⟩
      case rest =>
        clear c1 c2 c3 c4 hS kk hZ hB HA HSU
        rename_i wc
        obtain ⟨T, rfl, hTK, hST, hwT, hT, kk, hS, hZ, hB⟩ := hcut
        have c1 := hT.out.c0
        have c2 := hT.out.c1
        go_upto_region 9 with fail
        refine wp_region_noPanic ?_
        refine wp_region_held_drew (S := (fun w' => w'.cell? ⟨T, 0, none⟩ = some (.int .i64 d1) ∧ w'.cell? ⟨T, 1, none⟩ = some (.int .i64 d2))) (by kernel_rfl) ?_ (fun hHeld => ?_)
        · (try dsimp only)
          refine ⟨?_, ?_⟩ <;> (repeat (with_reducible (first | exact c1 | exact c2 | refine cell_dr ?_ | refine cell_stb ?_ ?_ | refine cell_al _ ?_ | (show _ ≠ _; omega))))
        have hbd := (Below.refl wc.heap.size wc).drew
        replace hS := hidP (hS.out.below hbd)
        replace hZ := hidP (hZ.out.below hbd)
        replace kk := hidP (kk.out.below hbd)
        replace hB := hidP (hB.out.trans (hbd.mono hB.out.size))
        clear hbd
        replace c1 := cell_dr c1
        replace c2 := cell_dr c2
        obtain ⟨wd, hwd⟩ : ∃ u, u = wc.drew := ⟨_, rfl⟩
        rw [← hwd] at hS hZ kk hB c1 c2 hHeld ⊢
        clear hwd
        refine wpAnyH_take (i := 0) (v := ?_) rfl (by kernel_rfl) (by kernel_rfl) (by kernel_rfl) (fun _ _ _ h => h) (Or.inl ⟨by kernel_rfl, ?_⟩) hHeld ?_
        rotate_left
        · intro wz hSw; (try dsimp only at hSw); go_simp; all_goals (try with_reducible rfl)
        (try simp only [List.getElem_toArray]); (try simp only [List.getElem_cons_succ]); (try simp only [List.getElem_cons_zero]); (try simp only [Act.put]); (try simp only [List.setIfInBounds_toArray]); (try simp only [List.set_cons_succ]); (try simp only [List.set_cons_zero])
        refine wpAnyH_take (i := 2) (v := ?_) rfl (by kernel_rfl) (by kernel_rfl) (by kernel_rfl) (fun _ _ _ h => h) (Or.inl ⟨by kernel_rfl, ?_⟩) hHeld ?_
        rotate_left
        · intro wz hSw; (try dsimp only at hSw); go_simp; all_goals (try with_reducible rfl)
        (try simp only [List.getElem_toArray]); (try simp only [List.getElem_cons_succ]); (try simp only [List.getElem_cons_zero]); (try simp only [Act.put]); (try simp only [List.setIfInBounds_toArray]); (try simp only [List.set_cons_succ]); (try simp only [List.set_cons_zero])
        refine wpAnyH_take (i := 3) (v := ?_) rfl (by kernel_rfl) (by kernel_rfl) (by kernel_rfl) (fun _ _ _ h => h) (Or.inl ⟨by kernel_rfl, ?_⟩) hHeld ?_
        rotate_left
        · intro wz hSw; (try dsimp only at hSw); go_simp; all_goals (try with_reducible rfl)
        (try simp only [List.getElem_toArray]); (try simp only [List.getElem_cons_succ]); (try simp only [List.getElem_cons_zero]); (try simp only [Act.put]); (try simp only [List.setIfInBounds_toArray]); (try simp only [List.set_cons_succ]); (try simp only [List.set_cons_zero])
        refine wpAnyH_take (i := 4) (v := ?_) rfl (by kernel_rfl) (by kernel_rfl) (by kernel_rfl) (fun _ _ _ h => h) (Or.inl ⟨by kernel_rfl, ?_⟩) hHeld ?_
        rotate_left
        · intro wz hSw; (try dsimp only at hSw); go_simp; all_goals (try with_reducible rfl)
        (try simp only [List.getElem_toArray]); (try simp only [List.getElem_cons_succ]); (try simp only [List.getElem_cons_zero]); (try simp only [Act.put]); (try simp only [List.setIfInBounds_toArray]); (try simp only [List.set_cons_succ]); (try simp only [List.set_cons_zero])
        refine wpAnyH_ready (rs := [1, 5]) (by kernel_rfl) (by simp) (AllReadyH.cons rfl (fun Kc hKc => ?_) (AllReadyH.cons rfl (fun Kc hKc => ?_) AllReadyH.nil))
        ·
          have e0 := hS.out.c0
          have e1 := hS.out.c1
          go_simp
          refine hKc.out _ _ ?_ (fun hHeld => ?_)
          · (try dsimp only)
            refine ⟨?_, ?_⟩ <;> (repeat (with_reducible (first | exact c1 | exact c2 | refine cell_dr ?_ | refine cell_stb ?_ ?_ | refine cell_al _ ?_ | (show _ ≠ _; omega))))
          clear hKc Kc
          (try simp only [List.getElem_toArray]); (try simp only [List.getElem_cons_succ]); (try simp only [List.getElem_cons_zero]); (try simp only [Act.put]); (try simp only [List.setIfInBounds_toArray]); (try simp only [List.set_cons_succ]); (try simp only [List.set_cons_zero])
          refine wpAnyH_ready (rs := [5]) (by kernel_rfl) (by simp) (AllReadyH.cons rfl (fun Kc hKc => ?_) AllReadyH.nil)
          go_simp
          (go_at_call 47; refine (HM.out _ kk.out).mono ?_; rintro e u2 ⟨rfl, kk', g2⟩)
          have c1 := cell_g g2 c1 hTK
          have c2 := cell_g g2 c2 hTK
          have hS := hidP (IsR.grown (by exact hS.out) g2 hSK)
          have hZ := hidP (IsR.grown (by exact hZ.out) g2 hRK)
          have hB := hidP (hB.out.trans (below_grownK g2 hwK hB.out.size))
          have kk := hidP kk'
          clear g2 kk'
          go_wp2_with fail
          refine hKc.out _ _ ?_ (fun hHeld => ?_)
          · (try dsimp only)
            refine ⟨?_, ?_⟩ <;> (repeat (with_reducible (first | exact c1 | exact c2 | refine cell_dr ?_ | refine cell_stb ?_ ?_ | refine cell_al _ ?_ | (show _ ≠ _; omega))))
          clear hKc Kc
          (try simp only [List.getElem_toArray]); (try simp only [List.getElem_cons_succ]); (try simp only [List.getElem_cons_zero]); (try simp only [Act.put]); (try simp only [List.setIfInBounds_toArray]); (try simp only [List.set_cons_succ]); (try simp only [List.set_cons_zero])
          refine wpAnyH_ready (rs := [6]) (by kernel_rfl) (by simp) (AllReadyH.cons rfl (fun Kc hKc => ?_) AllReadyH.nil)
          go_simp
          (go_at_call 45; refine (HAD.out _ kk.out).mono ?_; rintro e u3 ⟨rfl, kk', g2⟩)
          have c1 := cell_g g2 c1 hTK
          have c2 := cell_g g2 c2 hTK
          have hS := hidP (IsR.grown (by exact hS.out) g2 hSK)
          have hZ := hidP (IsR.grown (by exact hZ.out) g2 hRK)
          have hB := hidP (hB.out.trans (below_grownK g2 hwK hB.out.size))
          have kk := hidP kk'
          clear g2 kk'
          go_wp2_with fail
          refine hKc.out _ _ ?_ (fun hHeld => ?_)
          · (try dsimp only)
            refine ⟨?_, ?_⟩ <;> (repeat (with_reducible (first | exact c1 | exact c2 | refine cell_dr ?_ | refine cell_stb ?_ ?_ | refine cell_al _ ?_ | (show _ ≠ _; omega))))
          clear hKc Kc
          (try simp only [List.getElem_toArray]); (try simp only [List.getElem_cons_succ]); (try simp only [List.getElem_cons_zero]); (try simp only [Act.put]); (try simp only [List.setIfInBounds_toArray]); (try simp only [List.set_cons_succ]); (try simp only [List.set_cons_zero])
          have f0 := hS.out.f0
          have f1 := hS.out.f1
          have e0 := hS.out.c0
          have e1 := hS.out.c1
          refine wpAnyH_ready (rs := [7]) (by kernel_rfl) (by simp) (AllReadyH.cons rfl (fun Kc hKc => ?_) AllReadyH.nil)
          go_simp
          refine hKc.out _ _ ?_ (fun hHeld => ?_)
          · (try dsimp only)
            refine ⟨?_, ?_⟩ <;> (repeat (with_reducible (first | exact c1 | exact c2 | refine cell_dr ?_ | refine cell_stb ?_ ?_ | refine cell_al _ ?_ | (show _ ≠ _; omega))))
          clear hKc Kc
          (try simp only [List.getElem_toArray]); (try simp only [List.getElem_cons_succ]); (try simp only [List.getElem_cons_zero]); (try simp only [Act.put]); (try simp only [List.setIfInBounds_toArray]); (try simp only [List.set_cons_succ]); (try simp only [List.set_cons_zero])
          refine wpAnyH_done (by kernel_rfl) ?_ _
          refine NoPanic.normal ?_
          go_wp2
          go_roundw
          case rel =>
            refine ⟨k + 1, by omega, by go_num, ?_, ?_, (hZ.out.other hRS 0 _).other hRS 1 _, (hB.out.setCell (p := ⟨Sb, 0, none⟩) hwS _).setCell (p := ⟨Sb, 1, none⟩) hwS _⟩
            · show IsR _ _ _ _
              rw [HQ'.out]
              exact (hS.out.set0 _).set1 _
            · show IsK _ _ _
              rw [HQ'.out]
              exact (kk.out.other hSK.symm 0 (.int .i64 r1)).other hSK.symm 1 (.int .i64 r2)
          case measure => simp [intOf]; omega
        ·
          go_simp
          (go_at_call 47; refine (HM.out _ kk.out).mono ?_; rintro e u4 ⟨rfl, kk', g2⟩)
          have c1 := cell_g g2 c1 hTK
          have c2 := cell_g g2 c2 hTK
          have hS := hidP (IsR.grown (by exact hS.out) g2 hSK)
          have hZ := hidP (IsR.grown (by exact hZ.out) g2 hRK)
          have hB := hidP (hB.out.trans (below_grownK g2 hwK hB.out.size))
          have kk := hidP kk'
          clear g2 kk'
          go_wp2_with fail
          refine hKc.out _ _ ?_ (fun hHeld => ?_)
          · (try dsimp only)
            refine ⟨?_, ?_⟩ <;> (repeat (with_reducible (first | exact c1 | exact c2 | refine cell_dr ?_ | refine cell_stb ?_ ?_ | refine cell_al _ ?_ | (show _ ≠ _; omega))))
          clear hKc Kc
          (try simp only [List.getElem_toArray]); (try simp only [List.getElem_cons_succ]); (try simp only [List.getElem_cons_zero]); (try simp only [Act.put]); (try simp only [List.setIfInBounds_toArray]); (try simp only [List.set_cons_succ]); (try simp only [List.set_cons_zero])
          refine wpAnyH_ready (rs := [1]) (by kernel_rfl) (by simp) (AllReadyH.cons rfl (fun Kc hKc => ?_) AllReadyH.nil)
          have e0 := hS.out.c0
          have e1 := hS.out.c1
          go_simp
          refine hKc.out _ _ ?_ (fun hHeld => ?_)
          · (try dsimp only)
            refine ⟨?_, ?_⟩ <;> (repeat (with_reducible (first | exact c1 | exact c2 | refine cell_dr ?_ | refine cell_stb ?_ ?_ | refine cell_al _ ?_ | (show _ ≠ _; omega))))
          clear hKc Kc
          (try simp only [List.getElem_toArray]); (try simp only [List.getElem_cons_succ]); (try simp only [List.getElem_cons_zero]); (try simp only [Act.put]); (try simp only [List.setIfInBounds_toArray]); (try simp only [List.set_cons_succ]); (try simp only [List.set_cons_zero])
          refine wpAnyH_ready (rs := [6]) (by kernel_rfl) (by simp) (AllReadyH.cons rfl (fun Kc hKc => ?_) AllReadyH.nil)
          go_simp
          (go_at_call 45; refine (HAD.out _ kk.out).mono ?_; rintro e u6 ⟨rfl, kk', g2⟩)
          have c1 := cell_g g2 c1 hTK
          have c2 := cell_g g2 c2 hTK
          have hS := hidP (IsR.grown (by exact hS.out) g2 hSK)
          have hZ := hidP (IsR.grown (by exact hZ.out) g2 hRK)
          have hB := hidP (hB.out.trans (below_grownK g2 hwK hB.out.size))
          have kk := hidP kk'
          clear g2 kk'
          go_wp2_with fail
          refine hKc.out _ _ ?_ (fun hHeld => ?_)
          · (try dsimp only)
            refine ⟨?_, ?_⟩ <;> (repeat (with_reducible (first | exact c1 | exact c2 | refine cell_dr ?_ | refine cell_stb ?_ ?_ | refine cell_al _ ?_ | (show _ ≠ _; omega))))
          clear hKc Kc
          (try simp only [List.getElem_toArray]); (try simp only [List.getElem_cons_succ]); (try simp only [List.getElem_cons_zero]); (try simp only [Act.put]); (try simp only [List.setIfInBounds_toArray]); (try simp only [List.set_cons_succ]); (try simp only [List.set_cons_zero])
          have f0 := hS.out.f0
          have f1 := hS.out.f1
          have e0 := hS.out.c0
          have e1 := hS.out.c1
          refine wpAnyH_ready (rs := [7]) (by kernel_rfl) (by simp) (AllReadyH.cons rfl (fun Kc hKc => ?_) AllReadyH.nil)
          go_simp
          refine hKc.out _ _ ?_ (fun hHeld => ?_)
          · (try dsimp only)
            refine ⟨?_, ?_⟩ <;> (repeat (with_reducible (first | exact c1 | exact c2 | refine cell_dr ?_ | refine cell_stb ?_ ?_ | refine cell_al _ ?_ | (show _ ≠ _; omega))))
          clear hKc Kc
          (try simp only [List.getElem_toArray]); (try simp only [List.getElem_cons_succ]); (try simp only [List.getElem_cons_zero]); (try simp only [Act.put]); (try simp only [List.setIfInBounds_toArray]); (try simp only [List.set_cons_succ]); (try simp only [List.set_cons_zero])
          refine wpAnyH_done (by kernel_rfl) ?_ _
          refine NoPanic.normal ?_
          go_wp2
          go_roundw
          case rel =>
            refine ⟨k + 1, by omega, by go_num, ?_, ?_, (hZ.out.other hRS 0 _).other hRS 1 _, (hB.out.setCell (p := ⟨Sb, 0, none⟩) hwS _).setCell (p := ⟨Sb, 1, none⟩) hwS _⟩
            · show IsR _ _ _ _
              rw [HQ'.out]
              exact (hS.out.set0 _).set1 _
            · show IsK _ _ _
              rw [HQ'.out]
              exact (kk.out.other hSK.symm 0 (.int .i64 r1)).other hSK.symm 1 (.int .i64 r2)
          case measure => simp [intOf]; omega
    · obtain rfl : k = L := by omega
      obtain ⟨⟨⟨s1, s2⟩, bd⟩, hs⟩ : ∃ z, z = F k := ⟨_, rfl⟩
      rw [← hs] at hS kk HX HFA
      clear hs
      dsimp only at hS kk HX HFA
      have kc := kk.out.cell
      have c0 := hS.out.c0
      have c1 := hS.out.c1
      have z0 := hZ.out.c0
      have z1 := hZ.out.c1
      have z2 := hZ.out.f0
      have z3 := hZ.out.f1
      cases bd
      · have HF : Hid (misO cs ss = true) := by show _ = _; rw [HX.out]; rfl
        have HV := hidP (HFA.out HF.out)
        go_wp2
        have q0 := ((hZ.out.set0 s1).set1 s2).c0
        have q1 := ((hZ.out.set0 s1).set1 s2).c1
        exact bodyPost_ret (v := .tuple #[.agg #[.int .i64 s1, .int .i64 s2], .bool true]) (by simp [results, Try.results16, go_sem, q0, q1]) rfl ⟨ret_fb10 (by rw [HV.out]) (by rw [HV.out]) HF.out.symm, (hB.out.setCell (p := ⟨Rb, 0, none⟩) hRw _).setCell (p := ⟨Rb, 1, none⟩) hRw _⟩
      · have HF : Hid (misO cs ss = false) := by show _ = _; rw [HX.out]; rfl
        go_wp2
        exact bodyPost_ret (v := .tuple #[.agg #[.int .i64 0, .int .i64 0], .bool false]) (by simp [results, Try.results16, go_sem, z0, z1]) rfl ⟨ret_fb10 (by rw [HFN.out HF.out]) (by rw [HFN.out HF.out]) HF.out.symm, (hB.out.setCell (p := ⟨Rb, 0, none⟩) hRw _).setCell (p := ⟨Rb, 1, none⟩) hRw _⟩
end Go.Proofs.Ythnlcgilmljliaa
