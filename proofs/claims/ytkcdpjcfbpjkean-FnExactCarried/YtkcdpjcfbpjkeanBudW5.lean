/- The walk of the model's Parts. -/
import Derived.Test.YtkcdpjcfbpjkeanBudW4
namespace Go.Proofs.Ytkcdpjcfbpjkean
open Go.RowKit Go.Proofs.Ytkcdpjcfbpjkean.RM

def prtO (ps : List Fr) (rows : List (List Fr)) : Bool := toldC ps rows && !(prtV ps rows rows.length).2
def prtA (ps : List Fr) (rows : List (List Fr)) : List Fr := if prtO ps rows = true then (prtV ps rows rows.length).1 else []
theorem prtA_no {ps : List Fr} {rows : List (List Fr)} (h : prtO ps rows = false) : prtA ps rows = [] := by unfold prtA; rw [h]; rfl
theorem prtA_yes {ps : List Fr} {rows : List (List Fr)} (h : prtO ps rows = true) : prtA ps rows = (prtV ps rows rows.length).1 := by unfold prtA; rw [if_pos h]
theorem litB (W : World) (base : Nat) (hb : base ≤ W.heap.size) : (W.alloc (.cells #[] 32)).ownsRow base 32 2 (.slice (some ⟨W.heap.size, 0, none⟩) 0 0) 0 (cellsR []) :=
  World.ownsRow_lit W (base := base) (e := 32) (size := 2) #[] 0 hb (Nat.zero_le _) rfl

set_option maxRecDepth 100000 in
set_option maxHeartbeats 4000000 in
theorem sParts_any (u v : Value) (ps : List Fr) (rows : List (List Fr)) (w : World) (h0 : RdR w u ps) (h : RdT w v rows) :
    Calls Try.prog 25 #[u, v] w fun e w' => ∃ vm, e = .returned (.tuple #[vm, .bool (prtO ps rows)]) ∧ w'.ownsRow w.heap.size 32 2 vm (prtA ps rows).length (cellsR (prtA ps rows)) ∧ Below w.heap.size w w' := by
  obtain ⟨i0, hi, hz0, hz1, hz2⟩ := info_parts infoF
  have b0 : ∀ {u : World} (o : Obj), Below u.heap.size u (u.alloc o) := fun o => (Below.refl _ _).alloc (Nat.le_refl _) o
  have HT := hidW8 (fun W (hW : Below w.heap.size w W) => sToldC_any u v ps rows W (h0.below hW) (h.below hW))
  obtain ⟨q, hq⟩ : ∃ q, q = toldC ps rows := ⟨_, rfl⟩
  rw [← hq] at HT
  have HQQ := hidW8 hq
  clear hq
  cases q
  · have HO : Hid (prtO ps rows = false) := by show _ = _; unfold prtO; rw [← HQQ.out]; rfl
    have HAN := hidW8 (prtA_no HO.out)
    clear h0 h
    go_enter Try.func25, Try.ntmps25
    go_wp2_with fail
    refine (HT.out _ (Below.refl _ _)).mono ?_
    rintro e w1 ⟨rfl, hb⟩
    go_wp2
    refine bodyPost_ret (v := .tuple #[.slice (some ⟨w1.heap.size, 0, none⟩) 0 0, .bool false]) (by simp [results, Try.results25, go_sem]) rfl ⟨.slice (some ⟨w1.heap.size, 0, none⟩) 0 0, ret_tb HO.out.symm, ?_, hb.alloc hb.size _⟩
    rw [HAN.out]
    exact litB w1 _ hb.size
  obtain ⟨t1, t2, _, t4, _⟩ := toldC_out HQQ.out.symm
  obtain ⟨ap, ac, rfl, ha2, _, _, ha5⟩ := h0
  obtain ⟨tp, tc, rfl, ht2, _, _, ht5⟩ := h
  unfold maxLen at ha2 ht2
  rw [t2] at ha2 ha5 HT ⊢
  have HA5 : Hid (∀ i, i < rows.length → ∃ b off, ap = some ⟨b, off, none⟩ ∧ w.cell? ⟨b, off + i * 2, none⟩ = some (.int .i64 (fr ps i).1) ∧ w.cell? ⟨b, off + i * 2 + 1, none⟩ = some (.int .i64 (fr ps i).2)) := ha5
  have HT5 : Hid (∀ i, i < rows.length → ∃ b off u, tp = some ⟨b, off, none⟩ ∧ w.cell? ⟨b, off + i, none⟩ = some u ∧ RdR w u (rw' rows i)) := ht5
  have HLR : Hid (∀ k, k < rows.length → (rw' rows k).length = rows.length) := fun k hk => (t4 k hk).1
  obtain ⟨P, hP⟩ : ∃ P, P = prtV ps rows := ⟨_, rfl⟩
  have HP := hidW8 hP
  have HPS : Hid (∀ k, P (k + 1) = ((P k).1 ++ [(partS ps rows k (P k).2).1], (partS ps rows k (P k).2).2)) := by intro k; rw [hP]; rfl
  have HPL : Hid (∀ k, (P k).1.length = k) := by intro k; rw [hP]; exact prtV_len _ _ _
  have HP0 : Hid (P 0 = ([], false)) := by show _ = _; rw [hP]; rfl
  obtain ⟨L, hL⟩ : ∃ L, L = rows.length := ⟨_, rfl⟩
  have HL := hidW8 hL
  rw [← hL] at ha2 ht2 HA5 HT5 HLR t1 HT ⊢
  clear ha5 ht5 t2 t4 hP hL
  go_enter Try.func25, Try.ntmps25
  go_wp2_with fail
  refine (HT.out _ (Below.refl _ _)).mono ?_
  rintro e w1 ⟨rfl, hb⟩
  have hs1 := hb.size
  obtain ⟨K, hK⟩ : ∃ K, K = w1.heap.size := ⟨_, rfl⟩
  have hwK : w.heap.size ≤ K := by omega
  go_wp2
  obtain ⟨X, hX⟩ : ∃ X, X = (w1.alloc (.cells #[.bool false] 60)).alloc (.cells #[] 32) := ⟨_, rfl⟩
  have k0 : IsK X K (P 0).2 := by rw [HP0.out, hX, hK]; exact (IsK.new w1 false).below (b0 _)
  have o0 : X.ownsRow (K + 1) 32 2 (.slice (some ⟨K + 1, 0, none⟩) 0 0) 0 (cellsR (P 0).1) := by
    have := litB (w1.alloc (.cells #[.bool false] 60)) (K + 1) (by rw [hK]; simp)
    rw [HP0.out, hX]; simpa [hK] using this
  have B0 : Below w.heap.size w X := by rw [hX]; exact (hb.alloc hs1 _).alloc (by simp; omega) _
  rw [← hX, ← hK]
  clear hX hK hs1 hb HT
  go_loopw [7, 8] (fun q i wr => ∃ (o : Value) (k : Nat), k ≤ L ∧ i = .int .i64 k ∧ o = q ∧ Hid (wr.ownsRow (K + 1) 32 2 o k (cellsR (P k).1)) ∧ Hid (IsK wr K (P k).2) ∧ Hid (Below w.heap.size w wr)) (fun _ i _ => L - (intOf i).toNat)
  case atStart => exact ⟨_, 0, Nat.zero_le _, rfl, rfl, o0, k0, B0⟩
  case round =>
    clear o0 k0 B0
    obtain ⟨o, k, hk, rfl, rfl, hO, hKf, hB⟩ := hrel
    have hsz := hB.out.size
    by_cases hlt : k < L
    · have hdk : decide ((k : Int) < (L : Int)) = true := decide_eq_true (by omega)
      obtain ⟨pb, po, rfl, HA1, HA2⟩ := HA5.out k hlt
      obtain ⟨tb, to', u, rfl, HT1, r1', rc, rfl, _, _, _, hr5⟩ := HT5.out k hlt
      rw [HLR.out k hlt] at HT1 hr5
      have HR5 : Hid (∀ i, i < L → ∃ b off, r1' = some ⟨b, off, none⟩ ∧ w.cell? ⟨b, off + i * 2, none⟩ = some (.int .i64 (fr (rw' rows k) i).1) ∧ w.cell? ⟨b, off + i * 2 + 1, none⟩ = some (.int .i64 (fr (rw' rows k) i).2)) := hr5
      obtain ⟨G, hG'⟩ : ∃ G, G = rowV (fr ps k) (rw' rows k) ps ((0, 1), (P k).2) := ⟨_, rfl⟩
      have HG : Hid (∀ j, G (j + 1) = stpV (G j) (fr ps k) (fr (rw' rows k) j) (fr ps j)) := by intro j; rw [hG']; rfl
      have HG0 : Hid (G 0 = ((0, 1), (P k).2)) := by show _ = _; rw [hG']; rfl
      have HGE : Hid (partS ps rows k (P k).2 = G L) := by show _ = _; unfold partS; rw [hG', HL.out]
      have C1 : Hid (w.cell? ⟨pb, po + k * 2, none⟩ = some (.int .i64 (fr ps k).1)) := HA1
      have C2 : Hid (w.cell? ⟨pb, po + k * 2 + 1, none⟩ = some (.int .i64 (fr ps k).2)) := HA2
      have C3 : Hid (w.cell? ⟨tb, to' + k, none⟩ = some (.slice r1' L rc)) := HT1
      clear hr5 hG' HA1 HA2 HT1
      go_wp2_with fail
      refine (zero_any _).mono ?_
      rintro e w4 ⟨rfl, hb4⟩
      have hlK := hKf.out.lt
      have hs4 := hb4.size
      have hKK : K + 1 ≤ wr.heap.size := hlK
      obtain ⟨Sb, hSb⟩ : ∃ S, S = w4.heap.size := ⟨_, rfl⟩
      have hSK : Sb ≠ K := by omega
      have hwS : w.heap.size ≤ Sb := by omega
      have HOS : Hid (∀ b', o.ownBlock = some b' → b' < Sb) := fun b' e => by have := (World.ownsRow.lt hO.out b' e).2; omega
      have O4 := own_below (own_below hO.out hb4) (b0 (.cells #[.int .i64 0, .int .i64 1] 32))
      have K4 : IsK (w4.alloc (.cells #[.int .i64 0, .int .i64 1] 32)) K (G 0).2 := by rw [HG0.out]; exact (hKf.out.below hb4).below (b0 _)
      have S4 : IsR (w4.alloc (.cells #[.int .i64 0, .int .i64 1] 32)) Sb (G 0).1.1 (G 0).1.2 := by rw [HG0.out, hSb]; exact IsR.new w4 0 1
      have B4 : Below w.heap.size w (w4.alloc (.cells #[.int .i64 0, .int .i64 1] 32)) := (hB.out.trans (hb4.mono hsz)).alloc (by omega) _
      go_wp2
      rw [← hSb]
      obtain ⟨Y, hY⟩ : ∃ Y, Y = w4.alloc (.cells #[.int .i64 0, .int .i64 1] 32) := ⟨_, rfl⟩
      rw [← hY] at O4 K4 S4 B4 ⊢
      clear hY hSb hb4 hs4 hO hKf hB
      go_loopw [10] (fun i wr => ∃ j : Nat, j ≤ L ∧ i = .int .i64 j ∧ Hid (IsR wr Sb (G j).1.1 (G j).1.2) ∧ Hid (IsK wr K (G j).2) ∧ Hid (wr.ownsRow (K + 1) 32 2 o k (cellsR (P k).1)) ∧ Hid (Below w.heap.size w wr)) (fun i _ => L - (intOf i).toNat)
      case atStart => exact ⟨0, Nat.zero_le _, rfl, S4, K4, O4, B4⟩
      case round =>
        clear S4 K4 O4 B4
        obtain ⟨j, hj, rfl, hS, hK, hO, hB⟩ := hrel
        by_cases hlj : j < L
        · obtain ⟨pb', po', e, c6, c7⟩ := HA5.out j hlj
          cases e
          obtain ⟨rb, ro, rfl, c4, c5⟩ := HR5.out j hlj
          have l1 := World.block_lt_of_cell? w _ C1.out
          have l2 := World.block_lt_of_cell? w _ C3.out
          have l3 := World.block_lt_of_cell? w _ c4
          dsimp only at l1 l2 l3
          have c1 := cell_keep hB.out C1.out
          have c2 := cell_keep hB.out C2.out
          have c3 := cell_keep hB.out C3.out
          replace c4 := cell_keep hB.out c4
          replace c5 := cell_keep hB.out c5
          replace c6 := cell_keep hB.out c6
          replace c7 := cell_keep hB.out c7
          obtain ⟨a, ha⟩ : ∃ z, z = fr ps k := ⟨_, rfl⟩
          obtain ⟨x, hx⟩ : ∃ z, z = fr (rw' rows k) j := ⟨_, rfl⟩
          obtain ⟨y, hy⟩ : ∃ z, z = fr ps j := ⟨_, rfl⟩
          obtain ⟨s, hs⟩ : ∃ z, z = G j := ⟨_, rfl⟩
          obtain ⟨r, hr⟩ : ∃ z, z = G (j + 1) := ⟨_, rfl⟩
          have HQ : Hid (G (j + 1) = r) := hr.symm
          rw [HG.out j, ← ha, ← hx, ← hy, ← hs] at hr
          rw [← ha] at c1 c2
          rw [← hx] at c4 c5
          rw [← hy] at c6 c7
          rw [← hs] at hS hK
          obtain ⟨s, so⟩ := s
          obtain ⟨p, hp⟩ : ∃ z, z = p1V a x := ⟨_, rfl⟩
          obtain ⟨q, hq⟩ : ∃ z, z = p1V p y := ⟨_, rfl⟩
          obtain ⟨HM, HM2, HA⟩ := kStep K so s a x y p q r hp hq hr
          replace HM := hidW8 HM
          replace HM2 := hidW8 HM2
          replace HA := hidW8 HA
          obtain ⟨a1, a2⟩ := a
          obtain ⟨x1, x2⟩ := x
          obtain ⟨y1, y2⟩ := y
          obtain ⟨s1, s2⟩ := s
          obtain ⟨p1, p2⟩ := p
          obtain ⟨q1, q2⟩ := q
          obtain ⟨⟨r1, r2⟩, ro'⟩ := r
          clear ha hx hy hs hp hq hr
          dsimp only at c1 c2 c4 c5 c6 c7 hS hK HM HM2 HA
          have hljd : decide ((j : Int) < (L : Int)) = true := decide_eq_true (by omega)
          have hr0 := hS.out.c0
          have hr1 := hS.out.c1
          go_upto_region 12 with fail
          refine wp_region_noPanic ?_
          refine wp_region_held_drew (S := (fun w' => w'.cell? ⟨pb, po + k * 2, none⟩ = some (.int .i64 a1) ∧ w'.cell? ⟨pb, po + k * 2 + 1, none⟩ = some (.int .i64 a2) ∧ w'.cell? ⟨tb, to' + k, none⟩ = some (.slice (some ⟨rb, ro, none⟩) L rc) ∧ w'.cell? ⟨rb, ro + j * 2, none⟩ = some (.int .i64 x1) ∧ w'.cell? ⟨rb, ro + j * 2 + 1, none⟩ = some (.int .i64 x2) ∧ w'.cell? ⟨pb, po + j * 2, none⟩ = some (.int .i64 y1) ∧ w'.cell? ⟨pb, po + j * 2 + 1, none⟩ = some (.int .i64 y2))) (by kernel_rfl) ?_ (fun hHeld => ?_)
          · (try dsimp only)
            refine ⟨?_, ?_, ?_, ?_, ?_, ?_, ?_⟩ <;> (repeat (with_reducible (first | exact c1 | exact c2 | exact c3 | exact c4 | exact c5 | exact c6 | exact c7 | refine cell_dr ?_ | refine cell_stb ?_ ?_ | (show _ ≠ _; omega))))
          refine wpAnyH_take (i := 0) (v := ?_) rfl (by kernel_rfl) (by kernel_rfl) (by kernel_rfl) (fun _ _ _ h => h) (Or.inl ⟨by kernel_rfl, ?_⟩) hHeld ?_
          rotate_left
          · intro wz hSw; (try dsimp only at hSw); go_simp; all_goals (try with_reducible rfl)
          (try simp only [List.getElem_toArray]); (try simp only [List.getElem_cons_succ]); (try simp only [List.getElem_cons_zero]); (try simp only [Act.put]); (try simp only [List.setIfInBounds_toArray]); (try simp only [List.set_cons_succ]); (try simp only [List.set_cons_zero])
          refine wpAnyH_take (i := 2) (v := ?_) rfl (by kernel_rfl) (by kernel_rfl) (by kernel_rfl) (fun _ _ _ h => h) (Or.inl ⟨by kernel_rfl, ?_⟩) hHeld ?_
          rotate_left
          · intro wz hSw; (try dsimp only at hSw); go_simp; all_goals (try with_reducible rfl)
          (try simp only [List.getElem_toArray]); (try simp only [List.getElem_cons_succ]); (try simp only [List.getElem_cons_zero]); (try simp only [Act.put]); (try simp only [List.setIfInBounds_toArray]); (try simp only [List.set_cons_succ]); (try simp only [List.set_cons_zero])
          refine wpAnyH_take (i := 3) (v := ?_) rfl (by kernel_rfl) (by kernel_rfl) (by kernel_rfl) (fun _ _ _ h => h) (Or.inl ⟨by kernel_rfl, ?_⟩) hHeld ?_
          rotate_left
          · intro wz hSw; (try dsimp only at hSw); go_simp; all_goals (try with_reducible rfl)
          (try simp only [List.getElem_toArray]); (try simp only [List.getElem_cons_succ]); (try simp only [List.getElem_cons_zero]); (try simp only [Act.put]); (try simp only [List.setIfInBounds_toArray]); (try simp only [List.set_cons_succ]); (try simp only [List.set_cons_zero])
          refine wpAnyH_take (i := 4) (v := ?_) rfl (by kernel_rfl) (by kernel_rfl) (by kernel_rfl) (fun _ _ _ h => h) (Or.inl ⟨by kernel_rfl, ?_⟩) hHeld ?_
          rotate_left
          · intro wz hSw; (try dsimp only at hSw); go_simp; all_goals (try with_reducible rfl)
          (try simp only [List.getElem_toArray]); (try simp only [List.getElem_cons_succ]); (try simp only [List.getElem_cons_zero]); (try simp only [Act.put]); (try simp only [List.setIfInBounds_toArray]); (try simp only [List.set_cons_succ]); (try simp only [List.set_cons_zero])
          refine wpAnyH_take (i := 5) (v := ?_) rfl (by kernel_rfl) (by kernel_rfl) (by kernel_rfl) (fun _ _ _ h => h) (Or.inl ⟨by kernel_rfl, ?_⟩) hHeld ?_
          rotate_left
          · intro wz hSw; (try dsimp only at hSw); go_simp; all_goals (try with_reducible rfl)
          (try simp only [List.getElem_toArray]); (try simp only [List.getElem_cons_succ]); (try simp only [List.getElem_cons_zero]); (try simp only [Act.put]); (try simp only [List.setIfInBounds_toArray]); (try simp only [List.set_cons_succ]); (try simp only [List.set_cons_zero])
          refine wpAnyH_take (i := 6) (v := ?_) rfl (by kernel_rfl) (by kernel_rfl) (by kernel_rfl) (fun _ _ _ h => h) (Or.inl ⟨by kernel_rfl, ?_⟩) hHeld ?_
          rotate_left
          · intro wz hSw; (try dsimp only at hSw); go_simp; all_goals (try with_reducible rfl)
          (try simp only [List.getElem_toArray]); (try simp only [List.getElem_cons_succ]); (try simp only [List.getElem_cons_zero]); (try simp only [Act.put]); (try simp only [List.setIfInBounds_toArray]); (try simp only [List.set_cons_succ]); (try simp only [List.set_cons_zero])
          refine wpAnyH_take (i := 7) (v := ?_) rfl (by kernel_rfl) (by kernel_rfl) (by kernel_rfl) (fun _ _ _ h => h) (Or.inl ⟨by kernel_rfl, ?_⟩) hHeld ?_
          rotate_left
          · intro wz hSw; (try dsimp only at hSw); go_simp; all_goals (try with_reducible rfl)
          (try simp only [List.getElem_toArray]); (try simp only [List.getElem_cons_succ]); (try simp only [List.getElem_cons_zero]); (try simp only [Act.put]); (try simp only [List.setIfInBounds_toArray]); (try simp only [List.set_cons_succ]); (try simp only [List.set_cons_zero])
          refine wpAnyH_take (i := 8) (v := ?_) rfl (by kernel_rfl) (by kernel_rfl) (by kernel_rfl) (fun _ _ _ h => h) (Or.inl ⟨by kernel_rfl, ?_⟩) hHeld ?_
          rotate_left
          · intro wz hSw; (try dsimp only at hSw); go_simp; all_goals (try with_reducible rfl)
          (try simp only [List.getElem_toArray]); (try simp only [List.getElem_cons_succ]); (try simp only [List.getElem_cons_zero]); (try simp only [Act.put]); (try simp only [List.setIfInBounds_toArray]); (try simp only [List.set_cons_succ]); (try simp only [List.set_cons_zero])
          refine wpAnyH_take (i := 9) (v := ?_) rfl (by kernel_rfl) (by kernel_rfl) (by kernel_rfl) (fun _ _ _ h => h) (Or.inl ⟨by kernel_rfl, ?_⟩) hHeld ?_
          rotate_left
          · intro wz hSw; (try dsimp only at hSw); go_simp; all_goals (try with_reducible rfl)
          (try simp only [List.getElem_toArray]); (try simp only [List.getElem_cons_succ]); (try simp only [List.getElem_cons_zero]); (try simp only [Act.put]); (try simp only [List.setIfInBounds_toArray]); (try simp only [List.set_cons_succ]); (try simp only [List.set_cons_zero])
          refine wpAnyH_take (i := 10) (v := ?_) rfl (by kernel_rfl) (by kernel_rfl) (by kernel_rfl) (fun _ _ _ h => h) (Or.inl ⟨by kernel_rfl, ?_⟩) hHeld ?_
          rotate_left
          · intro wz hSw; (try dsimp only at hSw); go_simp; all_goals (try with_reducible rfl)
          (try simp only [List.getElem_toArray]); (try simp only [List.getElem_cons_succ]); (try simp only [List.getElem_cons_zero]); (try simp only [Act.put]); (try simp only [List.setIfInBounds_toArray]); (try simp only [List.set_cons_succ]); (try simp only [List.set_cons_zero])
          refine wpAnyH_take (i := 11) (v := ?_) rfl (by kernel_rfl) (by kernel_rfl) (by kernel_rfl) (fun _ _ _ h => h) (Or.inl ⟨by kernel_rfl, ?_⟩) hHeld ?_
          rotate_left
          · intro wz hSw; (try dsimp only at hSw); go_simp; all_goals (try with_reducible rfl)
          (try simp only [List.getElem_toArray]); (try simp only [List.getElem_cons_succ]); (try simp only [List.getElem_cons_zero]); (try simp only [Act.put]); (try simp only [List.setIfInBounds_toArray]); (try simp only [List.set_cons_succ]); (try simp only [List.set_cons_zero])
          refine wpAnyH_take (i := 12) (v := ?_) rfl (by kernel_rfl) (by kernel_rfl) (by kernel_rfl) (fun _ _ _ h => h) (Or.inl ⟨by kernel_rfl, ?_⟩) hHeld ?_
          rotate_left
          · intro wz hSw; (try dsimp only at hSw); go_simp; all_goals (try with_reducible rfl)
          (try simp only [List.getElem_toArray]); (try simp only [List.getElem_cons_succ]); (try simp only [List.getElem_cons_zero]); (try simp only [Act.put]); (try simp only [List.setIfInBounds_toArray]); (try simp only [List.set_cons_succ]); (try simp only [List.set_cons_zero])
          refine wpAnyH_take (i := 13) (v := ?_) rfl (by kernel_rfl) (by kernel_rfl) (by kernel_rfl) (fun _ _ _ h => h) (Or.inl ⟨by kernel_rfl, ?_⟩) hHeld ?_
          rotate_left
          · intro wz hSw; (try dsimp only at hSw); go_simp; all_goals (try with_reducible rfl)
          (try simp only [List.getElem_toArray]); (try simp only [List.getElem_cons_succ]); (try simp only [List.getElem_cons_zero]); (try simp only [Act.put]); (try simp only [List.setIfInBounds_toArray]); (try simp only [List.set_cons_succ]); (try simp only [List.set_cons_zero])
          refine wpAnyH_take (i := 14) (v := ?_) rfl (by kernel_rfl) (by kernel_rfl) (by kernel_rfl) (fun _ _ _ h => h) (Or.inl ⟨by kernel_rfl, ?_⟩) hHeld ?_
          rotate_left
          · intro wz hSw; (try dsimp only at hSw); go_simp; all_goals (try with_reducible rfl)
          (try simp only [List.getElem_toArray]); (try simp only [List.getElem_cons_succ]); (try simp only [List.getElem_cons_zero]); (try simp only [Act.put]); (try simp only [List.setIfInBounds_toArray]); (try simp only [List.set_cons_succ]); (try simp only [List.set_cons_zero])
          refine wpAnyH_take (i := 16) (v := ?_) rfl (by kernel_rfl) (by kernel_rfl) (by kernel_rfl) (fun _ _ _ h => h) (Or.inl ⟨by kernel_rfl, ?_⟩) hHeld ?_
          rotate_left
          · intro wz hSw; (try dsimp only at hSw); go_simp; all_goals (try with_reducible rfl)
          (try simp only [List.getElem_toArray]); (try simp only [List.getElem_cons_succ]); (try simp only [List.getElem_cons_zero]); (try simp only [Act.put]); (try simp only [List.setIfInBounds_toArray]); (try simp only [List.set_cons_succ]); (try simp only [List.set_cons_zero])
          refine wpAnyH_take (i := 17) (v := ?_) rfl (by kernel_rfl) (by kernel_rfl) (by kernel_rfl) (fun _ _ _ h => h) (Or.inl ⟨by kernel_rfl, ?_⟩) hHeld ?_
          rotate_left
          · intro wz hSw; (try dsimp only at hSw); go_simp; all_goals (try with_reducible rfl)
          (try simp only [List.getElem_toArray]); (try simp only [List.getElem_cons_succ]); (try simp only [List.getElem_cons_zero]); (try simp only [Act.put]); (try simp only [List.setIfInBounds_toArray]); (try simp only [List.set_cons_succ]); (try simp only [List.set_cons_zero])
          refine wpAnyH_take (i := 18) (v := ?_) rfl (by kernel_rfl) (by kernel_rfl) (by kernel_rfl) (fun _ _ _ h => h) (Or.inl ⟨by kernel_rfl, ?_⟩) hHeld ?_
          rotate_left
          · intro wz hSw; (try dsimp only at hSw); go_simp; all_goals (try with_reducible rfl)
          (try simp only [List.getElem_toArray]); (try simp only [List.getElem_cons_succ]); (try simp only [List.getElem_cons_zero]); (try simp only [Act.put]); (try simp only [List.setIfInBounds_toArray]); (try simp only [List.set_cons_succ]); (try simp only [List.set_cons_zero])
          refine wpAnyH_take (i := 19) (v := ?_) rfl (by kernel_rfl) (by kernel_rfl) (by kernel_rfl) (fun _ _ _ h => h) (Or.inl ⟨by kernel_rfl, ?_⟩) hHeld ?_
          rotate_left
          · intro wz hSw; (try dsimp only at hSw); go_simp; all_goals (try with_reducible rfl)
          (try simp only [List.getElem_toArray]); (try simp only [List.getElem_cons_succ]); (try simp only [List.getElem_cons_zero]); (try simp only [Act.put]); (try simp only [List.setIfInBounds_toArray]); (try simp only [List.set_cons_succ]); (try simp only [List.set_cons_zero])
          refine wpAnyH_ready (rs := [1, 15]) (by kernel_rfl) (by simp) (AllReadyH.cons rfl (fun Kc hKc => ?_) (AllReadyH.cons rfl (fun Kc hKc => ?_) AllReadyH.nil))
          · go_simp
            refine hKc.out _ _ ?_ (fun hHeld => ?_)
            · (try dsimp only)
              refine ⟨?_, ?_, ?_, ?_, ?_, ?_, ?_⟩ <;> (repeat (with_reducible (first | exact c1 | exact c2 | exact c3 | exact c4 | exact c5 | exact c6 | exact c7 | refine cell_dr ?_ | refine cell_stb ?_ ?_ | (show _ ≠ _; omega))))
            clear hKc Kc
            (try simp only [List.getElem_toArray]); (try simp only [List.getElem_cons_succ]); (try simp only [List.getElem_cons_zero]); (try simp only [Act.put]); (try simp only [List.setIfInBounds_toArray]); (try simp only [List.set_cons_succ]); (try simp only [List.set_cons_zero])
            refine wpAnyH_ready (rs := [15]) (by kernel_rfl) (by simp) (AllReadyH.cons rfl (fun Kc hKc => ?_) AllReadyH.nil)
            go_simp
            (go_at_call 46; refine (HM.out _ (IsK.below (by exact hK.out) ((Below.refl _ _).drew))).mono ?_; rintro e w2 ⟨rfl, k2, g2⟩)
            have c1 := cell_g g2 c1 (by omega)
            have c2 := cell_g g2 c2 (by omega)
            have c3 := cell_g g2 c3 (by omega)
            have c4 := cell_g g2 c4 (by omega)
            have c5 := cell_g g2 c5 (by omega)
            have c6 := cell_g g2 c6 (by omega)
            have c7 := cell_g g2 c7 (by omega)
            have S2 : IsR w2 Sb s1 s2 := IsR.grown (by exact hS.out) g2 hSK
            have O2 := own_g g2 (own_below (by exact hO.out) ((Below.refl _ _).drew)) (by omega)
            have B2 : Below w.heap.size w w2 := (hB.out.drew).trans (below_grownK g2 hwK (by have := hB.out.size; first | (simp; omega) | omega))
            have e0 := S2.c0
            have e1 := S2.c1
            clear g2
            go_wp2_with fail
            refine hKc.out _ _ ?_ (fun hHeld => ?_)
            · (try dsimp only)
              refine ⟨?_, ?_, ?_, ?_, ?_, ?_, ?_⟩ <;> (repeat (with_reducible (first | exact c1 | exact c2 | exact c3 | exact c4 | exact c5 | exact c6 | exact c7 | refine cell_dr ?_ | refine cell_stb ?_ ?_ | (show _ ≠ _; omega))))
            clear hKc Kc
            (try simp only [List.getElem_toArray]); (try simp only [List.getElem_cons_succ]); (try simp only [List.getElem_cons_zero]); (try simp only [Act.put]); (try simp only [List.setIfInBounds_toArray]); (try simp only [List.set_cons_succ]); (try simp only [List.set_cons_zero])
            refine wpAnyH_ready (rs := [20]) (by kernel_rfl) (by simp) (AllReadyH.cons rfl (fun Kc hKc => ?_) AllReadyH.nil)
            go_simp
            (go_at_call 46; refine (HM2.out _ (by exact k2)).mono ?_; rintro e w3 ⟨rfl, k3, g2⟩)
            have c1 := cell_g g2 c1 (by omega)
            have c2 := cell_g g2 c2 (by omega)
            have c3 := cell_g g2 c3 (by omega)
            have c4 := cell_g g2 c4 (by omega)
            have c5 := cell_g g2 c5 (by omega)
            have c6 := cell_g g2 c6 (by omega)
            have c7 := cell_g g2 c7 (by omega)
            have S3 : IsR w3 Sb s1 s2 := IsR.grown (S2) g2 hSK
            have O3 := own_g g2 (O2) (by omega)
            have B3 : Below w.heap.size w w3 := B2.trans (below_grownK g2 hwK B2.size)
            have e0 := S3.c0
            have e1 := S3.c1
            clear g2
            go_wp2_with fail
            refine hKc.out _ _ ?_ (fun hHeld => ?_)
            · (try dsimp only)
              refine ⟨?_, ?_, ?_, ?_, ?_, ?_, ?_⟩ <;> (repeat (with_reducible (first | exact c1 | exact c2 | exact c3 | exact c4 | exact c5 | exact c6 | exact c7 | refine cell_dr ?_ | refine cell_stb ?_ ?_ | (show _ ≠ _; omega))))
            clear hKc Kc
            (try simp only [List.getElem_toArray]); (try simp only [List.getElem_cons_succ]); (try simp only [List.getElem_cons_zero]); (try simp only [Act.put]); (try simp only [List.setIfInBounds_toArray]); (try simp only [List.set_cons_succ]); (try simp only [List.set_cons_zero])
            refine wpAnyH_ready (rs := [21]) (by kernel_rfl) (by simp) (AllReadyH.cons rfl (fun Kc hKc => ?_) AllReadyH.nil)
            go_simp
            (go_at_call 45; refine (HA.out _ (by exact k3)).mono ?_; rintro e w4 ⟨rfl, k4, g2⟩)
            have c1 := cell_g g2 c1 (by omega)
            have c2 := cell_g g2 c2 (by omega)
            have c3 := cell_g g2 c3 (by omega)
            have c4 := cell_g g2 c4 (by omega)
            have c5 := cell_g g2 c5 (by omega)
            have c6 := cell_g g2 c6 (by omega)
            have c7 := cell_g g2 c7 (by omega)
            have S4 : IsR w4 Sb s1 s2 := IsR.grown (S3) g2 hSK
            have O4 := own_g g2 (O3) (by omega)
            have B4 : Below w.heap.size w w4 := B3.trans (below_grownK g2 hwK B3.size)
            have e0 := S4.c0
            have e1 := S4.c1
            have i2' := S4.f0
            have i3' := S4.f1
            clear g2
            go_wp2_with fail
            refine hKc.out _ _ ?_ (fun hHeld => ?_)
            · (try dsimp only)
              refine ⟨?_, ?_, ?_, ?_, ?_, ?_, ?_⟩ <;> (repeat (with_reducible (first | exact c1 | exact c2 | exact c3 | exact c4 | exact c5 | exact c6 | exact c7 | refine cell_dr ?_ | refine cell_stb ?_ ?_ | (show _ ≠ _; omega))))
            clear hKc Kc
            (try simp only [List.getElem_toArray]); (try simp only [List.getElem_cons_succ]); (try simp only [List.getElem_cons_zero]); (try simp only [Act.put]); (try simp only [List.setIfInBounds_toArray]); (try simp only [List.set_cons_succ]); (try simp only [List.set_cons_zero])
            refine wpAnyH_ready (rs := [22]) (by kernel_rfl) (by simp) (AllReadyH.cons rfl (fun Kc hKc => ?_) AllReadyH.nil)
            go_simp
            refine hKc.out _ _ ?_ (fun hHeld => ?_)
            · (try dsimp only)
              refine ⟨?_, ?_, ?_, ?_, ?_, ?_, ?_⟩ <;> (repeat (with_reducible (first | exact c1 | exact c2 | exact c3 | exact c4 | exact c5 | exact c6 | exact c7 | refine cell_dr ?_ | refine cell_stb ?_ ?_ | (show _ ≠ _; omega))))
            clear hKc Kc
            (try simp only [List.getElem_toArray]); (try simp only [List.getElem_cons_succ]); (try simp only [List.getElem_cons_zero]); (try simp only [Act.put]); (try simp only [List.setIfInBounds_toArray]); (try simp only [List.set_cons_succ]); (try simp only [List.set_cons_zero])
            refine wpAnyH_done (by kernel_rfl) ?_ _
            refine NoPanic.normal ?_
            go_wp2
            go_roundw
            case rel =>
              refine ⟨j + 1, by omega, by go_num, ?_, ?_, own_st (own_st O4 HOS.out 0 _) HOS.out 1 _, (B4.setCell (p := ⟨Sb, 0, none⟩) hwS _).setCell (p := ⟨Sb, 1, none⟩) hwS _⟩
              · show IsR _ _ _ _
                rw [HQ.out]
                exact (S4.set0 _).set1 _
              · show IsK _ _ _
                rw [HQ.out]
                exact (k4.other hSK.symm 0 (.int .i64 r1)).other hSK.symm 1 (.int .i64 r2)
            case measure => simp [intOf]; omega
          · go_simp
            (go_at_call 46; refine (HM.out _ (IsK.below (by exact hK.out) ((Below.refl _ _).drew))).mono ?_; rintro e w2 ⟨rfl, k2, g2⟩)
            have c1 := cell_g g2 c1 (by omega)
            have c2 := cell_g g2 c2 (by omega)
            have c3 := cell_g g2 c3 (by omega)
            have c4 := cell_g g2 c4 (by omega)
            have c5 := cell_g g2 c5 (by omega)
            have c6 := cell_g g2 c6 (by omega)
            have c7 := cell_g g2 c7 (by omega)
            have S2 : IsR w2 Sb s1 s2 := IsR.grown (by exact hS.out) g2 hSK
            have O2 := own_g g2 (own_below (by exact hO.out) ((Below.refl _ _).drew)) (by omega)
            have B2 : Below w.heap.size w w2 := (hB.out.drew).trans (below_grownK g2 hwK (by have := hB.out.size; first | (simp; omega) | omega))
            have e0 := S2.c0
            have e1 := S2.c1
            clear g2
            go_wp2_with fail
            refine hKc.out _ _ ?_ (fun hHeld => ?_)
            · (try dsimp only)
              refine ⟨?_, ?_, ?_, ?_, ?_, ?_, ?_⟩ <;> (repeat (with_reducible (first | exact c1 | exact c2 | exact c3 | exact c4 | exact c5 | exact c6 | exact c7 | refine cell_dr ?_ | refine cell_stb ?_ ?_ | (show _ ≠ _; omega))))
            clear hKc Kc
            (try simp only [List.getElem_toArray]); (try simp only [List.getElem_cons_succ]); (try simp only [List.getElem_cons_zero]); (try simp only [Act.put]); (try simp only [List.setIfInBounds_toArray]); (try simp only [List.set_cons_succ]); (try simp only [List.set_cons_zero])
            refine wpAnyH_ready (rs := [1, 20]) (by kernel_rfl) (by simp) (AllReadyH.cons rfl (fun Kc hKc => ?_) (AllReadyH.cons rfl (fun Kc hKc => ?_) AllReadyH.nil))
            · go_simp
              refine hKc.out _ _ ?_ (fun hHeld => ?_)
              · (try dsimp only)
                refine ⟨?_, ?_, ?_, ?_, ?_, ?_, ?_⟩ <;> (repeat (with_reducible (first | exact c1 | exact c2 | exact c3 | exact c4 | exact c5 | exact c6 | exact c7 | refine cell_dr ?_ | refine cell_stb ?_ ?_ | (show _ ≠ _; omega))))
              clear hKc Kc
              (try simp only [List.getElem_toArray]); (try simp only [List.getElem_cons_succ]); (try simp only [List.getElem_cons_zero]); (try simp only [Act.put]); (try simp only [List.setIfInBounds_toArray]); (try simp only [List.set_cons_succ]); (try simp only [List.set_cons_zero])
              refine wpAnyH_ready (rs := [20]) (by kernel_rfl) (by simp) (AllReadyH.cons rfl (fun Kc hKc => ?_) AllReadyH.nil)
              go_simp
              (go_at_call 46; refine (HM2.out _ (by exact k2)).mono ?_; rintro e w3 ⟨rfl, k3, g2⟩)
              have c1 := cell_g g2 c1 (by omega)
              have c2 := cell_g g2 c2 (by omega)
              have c3 := cell_g g2 c3 (by omega)
              have c4 := cell_g g2 c4 (by omega)
              have c5 := cell_g g2 c5 (by omega)
              have c6 := cell_g g2 c6 (by omega)
              have c7 := cell_g g2 c7 (by omega)
              have S3 : IsR w3 Sb s1 s2 := IsR.grown (S2) g2 hSK
              have O3 := own_g g2 (O2) (by omega)
              have B3 : Below w.heap.size w w3 := B2.trans (below_grownK g2 hwK B2.size)
              have e0 := S3.c0
              have e1 := S3.c1
              clear g2
              go_wp2_with fail
              refine hKc.out _ _ ?_ (fun hHeld => ?_)
              · (try dsimp only)
                refine ⟨?_, ?_, ?_, ?_, ?_, ?_, ?_⟩ <;> (repeat (with_reducible (first | exact c1 | exact c2 | exact c3 | exact c4 | exact c5 | exact c6 | exact c7 | refine cell_dr ?_ | refine cell_stb ?_ ?_ | (show _ ≠ _; omega))))
              clear hKc Kc
              (try simp only [List.getElem_toArray]); (try simp only [List.getElem_cons_succ]); (try simp only [List.getElem_cons_zero]); (try simp only [Act.put]); (try simp only [List.setIfInBounds_toArray]); (try simp only [List.set_cons_succ]); (try simp only [List.set_cons_zero])
              refine wpAnyH_ready (rs := [21]) (by kernel_rfl) (by simp) (AllReadyH.cons rfl (fun Kc hKc => ?_) AllReadyH.nil)
              go_simp
              (go_at_call 45; refine (HA.out _ (by exact k3)).mono ?_; rintro e w4 ⟨rfl, k4, g2⟩)
              have c1 := cell_g g2 c1 (by omega)
              have c2 := cell_g g2 c2 (by omega)
              have c3 := cell_g g2 c3 (by omega)
              have c4 := cell_g g2 c4 (by omega)
              have c5 := cell_g g2 c5 (by omega)
              have c6 := cell_g g2 c6 (by omega)
              have c7 := cell_g g2 c7 (by omega)
              have S4 : IsR w4 Sb s1 s2 := IsR.grown (S3) g2 hSK
              have O4 := own_g g2 (O3) (by omega)
              have B4 : Below w.heap.size w w4 := B3.trans (below_grownK g2 hwK B3.size)
              have e0 := S4.c0
              have e1 := S4.c1
              have i2' := S4.f0
              have i3' := S4.f1
              clear g2
              go_wp2_with fail
              refine hKc.out _ _ ?_ (fun hHeld => ?_)
              · (try dsimp only)
                refine ⟨?_, ?_, ?_, ?_, ?_, ?_, ?_⟩ <;> (repeat (with_reducible (first | exact c1 | exact c2 | exact c3 | exact c4 | exact c5 | exact c6 | exact c7 | refine cell_dr ?_ | refine cell_stb ?_ ?_ | (show _ ≠ _; omega))))
              clear hKc Kc
              (try simp only [List.getElem_toArray]); (try simp only [List.getElem_cons_succ]); (try simp only [List.getElem_cons_zero]); (try simp only [Act.put]); (try simp only [List.setIfInBounds_toArray]); (try simp only [List.set_cons_succ]); (try simp only [List.set_cons_zero])
              refine wpAnyH_ready (rs := [22]) (by kernel_rfl) (by simp) (AllReadyH.cons rfl (fun Kc hKc => ?_) AllReadyH.nil)
              go_simp
              refine hKc.out _ _ ?_ (fun hHeld => ?_)
              · (try dsimp only)
                refine ⟨?_, ?_, ?_, ?_, ?_, ?_, ?_⟩ <;> (repeat (with_reducible (first | exact c1 | exact c2 | exact c3 | exact c4 | exact c5 | exact c6 | exact c7 | refine cell_dr ?_ | refine cell_stb ?_ ?_ | (show _ ≠ _; omega))))
              clear hKc Kc
              (try simp only [List.getElem_toArray]); (try simp only [List.getElem_cons_succ]); (try simp only [List.getElem_cons_zero]); (try simp only [Act.put]); (try simp only [List.setIfInBounds_toArray]); (try simp only [List.set_cons_succ]); (try simp only [List.set_cons_zero])
              refine wpAnyH_done (by kernel_rfl) ?_ _
              refine NoPanic.normal ?_
              go_wp2
              go_roundw
              case rel =>
                refine ⟨j + 1, by omega, by go_num, ?_, ?_, own_st (own_st O4 HOS.out 0 _) HOS.out 1 _, (B4.setCell (p := ⟨Sb, 0, none⟩) hwS _).setCell (p := ⟨Sb, 1, none⟩) hwS _⟩
                · show IsR _ _ _ _
                  rw [HQ.out]
                  exact (S4.set0 _).set1 _
                · show IsK _ _ _
                  rw [HQ.out]
                  exact (k4.other hSK.symm 0 (.int .i64 r1)).other hSK.symm 1 (.int .i64 r2)
              case measure => simp [intOf]; omega
            · go_simp
              (go_at_call 46; refine (HM2.out _ (by exact k2)).mono ?_; rintro e w3 ⟨rfl, k3, g2⟩)
              have c1 := cell_g g2 c1 (by omega)
              have c2 := cell_g g2 c2 (by omega)
              have c3 := cell_g g2 c3 (by omega)
              have c4 := cell_g g2 c4 (by omega)
              have c5 := cell_g g2 c5 (by omega)
              have c6 := cell_g g2 c6 (by omega)
              have c7 := cell_g g2 c7 (by omega)
              have S3 : IsR w3 Sb s1 s2 := IsR.grown (S2) g2 hSK
              have O3 := own_g g2 (O2) (by omega)
              have B3 : Below w.heap.size w w3 := B2.trans (below_grownK g2 hwK B2.size)
              have e0 := S3.c0
              have e1 := S3.c1
              clear g2
              go_wp2_with fail
              refine hKc.out _ _ ?_ (fun hHeld => ?_)
              · (try dsimp only)
                refine ⟨?_, ?_, ?_, ?_, ?_, ?_, ?_⟩ <;> (repeat (with_reducible (first | exact c1 | exact c2 | exact c3 | exact c4 | exact c5 | exact c6 | exact c7 | refine cell_dr ?_ | refine cell_stb ?_ ?_ | (show _ ≠ _; omega))))
              clear hKc Kc
              (try simp only [List.getElem_toArray]); (try simp only [List.getElem_cons_succ]); (try simp only [List.getElem_cons_zero]); (try simp only [Act.put]); (try simp only [List.setIfInBounds_toArray]); (try simp only [List.set_cons_succ]); (try simp only [List.set_cons_zero])
              refine wpAnyH_ready (rs := [1]) (by kernel_rfl) (by simp) (AllReadyH.cons rfl (fun Kc hKc => ?_) AllReadyH.nil)
              go_simp
              refine hKc.out _ _ ?_ (fun hHeld => ?_)
              · (try dsimp only)
                refine ⟨?_, ?_, ?_, ?_, ?_, ?_, ?_⟩ <;> (repeat (with_reducible (first | exact c1 | exact c2 | exact c3 | exact c4 | exact c5 | exact c6 | exact c7 | refine cell_dr ?_ | refine cell_stb ?_ ?_ | (show _ ≠ _; omega))))
              clear hKc Kc
              (try simp only [List.getElem_toArray]); (try simp only [List.getElem_cons_succ]); (try simp only [List.getElem_cons_zero]); (try simp only [Act.put]); (try simp only [List.setIfInBounds_toArray]); (try simp only [List.set_cons_succ]); (try simp only [List.set_cons_zero])
              refine wpAnyH_ready (rs := [21]) (by kernel_rfl) (by simp) (AllReadyH.cons rfl (fun Kc hKc => ?_) AllReadyH.nil)
              go_simp
              (go_at_call 45; refine (HA.out _ (by exact k3)).mono ?_; rintro e w4 ⟨rfl, k4, g2⟩)
              have c1 := cell_g g2 c1 (by omega)
              have c2 := cell_g g2 c2 (by omega)
              have c3 := cell_g g2 c3 (by omega)
              have c4 := cell_g g2 c4 (by omega)
              have c5 := cell_g g2 c5 (by omega)
              have c6 := cell_g g2 c6 (by omega)
              have c7 := cell_g g2 c7 (by omega)
              have S4 : IsR w4 Sb s1 s2 := IsR.grown (S3) g2 hSK
              have O4 := own_g g2 (O3) (by omega)
              have B4 : Below w.heap.size w w4 := B3.trans (below_grownK g2 hwK B3.size)
              have e0 := S4.c0
              have e1 := S4.c1
              have i2' := S4.f0
              have i3' := S4.f1
              clear g2
              go_wp2_with fail
              refine hKc.out _ _ ?_ (fun hHeld => ?_)
              · (try dsimp only)
                refine ⟨?_, ?_, ?_, ?_, ?_, ?_, ?_⟩ <;> (repeat (with_reducible (first | exact c1 | exact c2 | exact c3 | exact c4 | exact c5 | exact c6 | exact c7 | refine cell_dr ?_ | refine cell_stb ?_ ?_ | (show _ ≠ _; omega))))
              clear hKc Kc
              (try simp only [List.getElem_toArray]); (try simp only [List.getElem_cons_succ]); (try simp only [List.getElem_cons_zero]); (try simp only [Act.put]); (try simp only [List.setIfInBounds_toArray]); (try simp only [List.set_cons_succ]); (try simp only [List.set_cons_zero])
              refine wpAnyH_ready (rs := [22]) (by kernel_rfl) (by simp) (AllReadyH.cons rfl (fun Kc hKc => ?_) AllReadyH.nil)
              go_simp
              refine hKc.out _ _ ?_ (fun hHeld => ?_)
              · (try dsimp only)
                refine ⟨?_, ?_, ?_, ?_, ?_, ?_, ?_⟩ <;> (repeat (with_reducible (first | exact c1 | exact c2 | exact c3 | exact c4 | exact c5 | exact c6 | exact c7 | refine cell_dr ?_ | refine cell_stb ?_ ?_ | (show _ ≠ _; omega))))
              clear hKc Kc
              (try simp only [List.getElem_toArray]); (try simp only [List.getElem_cons_succ]); (try simp only [List.getElem_cons_zero]); (try simp only [Act.put]); (try simp only [List.setIfInBounds_toArray]); (try simp only [List.set_cons_succ]); (try simp only [List.set_cons_zero])
              refine wpAnyH_done (by kernel_rfl) ?_ _
              refine NoPanic.normal ?_
              go_wp2
              go_roundw
              case rel =>
                refine ⟨j + 1, by omega, by go_num, ?_, ?_, own_st (own_st O4 HOS.out 0 _) HOS.out 1 _, (B4.setCell (p := ⟨Sb, 0, none⟩) hwS _).setCell (p := ⟨Sb, 1, none⟩) hwS _⟩
                · show IsR _ _ _ _
                  rw [HQ.out]
                  exact (S4.set0 _).set1 _
                · show IsK _ _ _
                  rw [HQ.out]
                  exact (k4.other hSK.symm 0 (.int .i64 r1)).other hSK.symm 1 (.int .i64 r2)
              case measure => simp [intOf]; omega
        · have e : j = L := by omega
          subst e
          have hr0 := hS.out.c0
          have hr1 := hS.out.c1
          have hsz := hB.out.size
          have hKw : K + 1 ≤ wr.heap.size := hK.out.lt
          have hjm : k + 1 ≤ maxLen := by unfold maxLen; omega
          obtain ⟨s1, hs1⟩ : ∃ z, z = (G j).1.1 := ⟨_, rfl⟩
          obtain ⟨s2, hs2⟩ : ∃ z, z = (G j).1.2 := ⟨_, rfl⟩
          have HS12 := hidW8 (And.intro hs1 hs2)
          rw [← hs1] at hr0
          rw [← hs2] at hr1
          clear hs1 hs2
          go_wp2_with (at_builtin; refine wpList_append_own _ rfl _ _ 35 rfl (K + 1) 32 i0 (.agg #[.int .i64 0, .int .i64 0]) 2 16 Try.underlying35 hi hz0 hz1 hz2 rfl (by decide) _ _ _ rfl (hO.out.alloc _) ⟨wr.heap.size, 0, none⟩ 1 1 [.int .i64 s1, .int .i64 s2] rfl rfl (cell_twoF _ _ _ _) (by intro u hu; simp at hu; rcases hu with rfl | rfl <;> rfl) (by omega) (by omega) (by simp; omega) ?_; intro v' w5 hown' hgrow _)
          go_roundw
          case rel =>
            have K5 := (hK.out.below (b0 (.cells #[.int .i64 s1, .int .i64 s2] 32))).grownO hgrow (fun e => by have := (World.ownsRow.lt hO.out K e).1; omega)
            refine ⟨v', k + 1, by omega, by go_num, rfl, ?_, ?_, hB.out.trans ((below_appended hO.out hKw hgrow).mono (by omega))⟩
            · show World.ownsRow _ _ _ _ _ _ _
              rw [HPS.out, HGE.out, cellsR_append]
              have e1 : (G j).1 = (s1, s2) := by rw [HS12.out.1, HS12.out.2]
              rw [e1]
              exact hown'
            · show IsK _ _ _
              rw [HPS.out, HGE.out]
              exact K5
          case measure => simp [intOf]; omega
    · have e : k = L := by omega
      subst e
      obtain ⟨f, hf⟩ : ∃ f, f = (P k).2 := ⟨_, rfl⟩
      have HF := hidW8 hf
      rw [← hf] at hKf
      have hkc := hKf.out.cell
      clear hf
      cases f
      · have HO : Hid (prtO ps rows = true) := by show _ = _; unfold prtO; rw [← HQQ.out, ← HP.out, ← HL.out, ← HF.out]; rfl
        have HAN := hidW8 (prtA_yes HO.out)
        go_wp2
        refine bodyPost_ret (v := .tuple #[o, .bool true]) (by simp [results, Try.results25, go_sem]) rfl ⟨o, ret_tb HO.out.symm, ?_, hB.out⟩
        rw [HAN.out, ← HP.out, ← HL.out, HPL.out]
        exact own_le hO.out (by omega)
      · have HO : Hid (prtO ps rows = false) := by show _ = _; unfold prtO; rw [← HQQ.out, ← HP.out, ← HL.out, ← HF.out]; rfl
        have HAN := hidW8 (prtA_no HO.out)
        go_wp2
        refine bodyPost_ret (v := .tuple #[.slice (some ⟨wr.heap.size, 0, none⟩) 0 0, .bool false]) (by simp [results, Try.results25, go_sem]) rfl ⟨.slice (some ⟨wr.heap.size, 0, none⟩) 0 0, ret_tb HO.out.symm, ?_, hB.out.alloc hsz _⟩
        rw [HAN.out]
        exact litB wr _ hsz
end Go.Proofs.Ytkcdpjcfbpjkean
