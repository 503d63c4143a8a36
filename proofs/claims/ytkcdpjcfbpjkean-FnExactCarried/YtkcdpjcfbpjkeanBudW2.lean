/- The walk of the model's sum over all of a cover. -/
import Derived.Test.YtkcdpjcfbpjkeanBudMath
import Derived.Test.YtkcdpjcfbpjkeanBudW1
import Derived.Test.YtkcdpjcfbpjkeanTimW3
namespace Go.Proofs.Ytkcdpjcfbpjkean
open Go.RowKit Go.Proofs.Ytkcdpjcfbpjkean.RM

theorem g_drew1 {w w' : World} {row : Option Nat} (h : w.grownBy w' row) : w.grownBy w'.drew row := g_drewN h 1
/-- two products and a sum, told -/
theorem kStep (K : Nat) (bd : Bool) (s a c b : Fr) (p q : Fr) (r : Fr × Bool) (hp : p = p1V a c) (hq : q = p1V p b) (hr : r = stpV (s, bd) a c b) :
    (∀ W : World, IsK W K bd → Calls Try.prog 46 #[.pointer (some ⟨K, 0, none⟩), .agg #[.int .i64 a.1, .int .i64 a.2], .agg #[.int .i64 c.1, .int .i64 c.2]] W fun e w' => e = .returned (.agg #[.int .i64 p.1, .int .i64 p.2]) ∧ IsK w' K (bd || !mulK a c) ∧ W.grownBy w' (some K)) ∧
    (∀ W : World, IsK W K (bd || !mulK a c) → Calls Try.prog 46 #[.pointer (some ⟨K, 0, none⟩), .agg #[.int .i64 p.1, .int .i64 p.2], .agg #[.int .i64 b.1, .int .i64 b.2]] W fun e w' => e = .returned (.agg #[.int .i64 q.1, .int .i64 q.2]) ∧ IsK w' K ((bd || !mulK a c) || !mulK p b) ∧ W.grownBy w' (some K)) ∧
    (∀ W : World, IsK W K ((bd || !mulK a c) || !mulK p b) → Calls Try.prog 45 #[.pointer (some ⟨K, 0, none⟩), .agg #[.int .i64 s.1, .int .i64 s.2], .agg #[.int .i64 q.1, .int .i64 q.2]] W fun e w' => e = .returned (.agg #[.int .i64 r.1.1, .int .i64 r.1.2]) ∧ IsK w' K r.2 ∧ W.grownBy w' (some K)) := by
  subst hp
  subst hq
  subst hr
  exact ⟨fun W hW => kMul K bd a.1 a.2 c.1 c.2 W hW, fun W hW => kMul K _ _ _ b.1 b.2 W hW, fun W hW => kAdd K _ s.1 s.2 _ _ W hW⟩

set_option maxRecDepth 100000 in
set_option maxHeartbeats 4000000 in
theorem sSum_any (K : Nat) (bd : Bool) (va vt vb : Value) (ps bs : List Fr) (rows : List (List Fr)) (w w0 : World) (ha : RdR w va ps) (ht : RdT w vt rows) (hb : RdR w vb bs)
    (hla : ps.length = rows.length) (hlb : bs.length = rows.length) (hlr : ∀ k, k < rows.length → (rw' rows k).length = rows.length) (hB : Below w.heap.size w w0) (hwK : w.heap.size ≤ K) (hK : IsK w0 K bd) :
    Calls Try.prog 38 #[.pointer (some ⟨K, 0, none⟩), va, vt, vb] w0 fun e w' =>
      e = .returned (.agg #[.int .i64 (sumV ps rows bs bd rows.length).1.1, .int .i64 (sumV ps rows bs bd rows.length).1.2]) ∧ IsK w' K (sumV ps rows bs bd rows.length).2 ∧ w0.grownBy w' (some K) := by
  obtain ⟨ap, ac, rfl, ha2, _, _, ha5⟩ := ha
  obtain ⟨tp, tc, rfl, ht2, _, _, ht5⟩ := ht
  obtain ⟨bp, bc, rfl, hb2, _, _, hb5⟩ := hb
  unfold maxLen at ha2 ht2 hb2
  rw [hla] at ha2 ha5 ⊢
  rw [hlb] at hb2 hb5 ⊢
  have HA5 : Hid (∀ i, i < rows.length → ∃ b off, ap = some ⟨b, off, none⟩ ∧ w.cell? ⟨b, off + i * 2, none⟩ = some (.int .i64 (fr ps i).1) ∧ w.cell? ⟨b, off + i * 2 + 1, none⟩ = some (.int .i64 (fr ps i).2)) := ha5
  have HB5 : Hid (∀ i, i < rows.length → ∃ b off, bp = some ⟨b, off, none⟩ ∧ w.cell? ⟨b, off + i * 2, none⟩ = some (.int .i64 (fr bs i).1) ∧ w.cell? ⟨b, off + i * 2 + 1, none⟩ = some (.int .i64 (fr bs i).2)) := hb5
  have HT5 : Hid (∀ i, i < rows.length → ∃ b off u, tp = some ⟨b, off, none⟩ ∧ w.cell? ⟨b, off + i, none⟩ = some u ∧ RdR w u (rw' rows i)) := ht5
  have HLR : Hid (∀ k, k < rows.length → (rw' rows k).length = rows.length) := hlr
  obtain ⟨F, hF⟩ : ∃ F, F = sumV ps rows bs bd := ⟨_, rfl⟩
  have HF : Hid (F = sumV ps rows bs bd) := hF
  have HF0 : Hid (F 0 = ((0, 1), bd)) := by show _ = _; rw [hF]; rfl
  have HFS : Hid (∀ k, F (k + 1) = rowV (fr ps k) (rw' rows k) bs (F k) rows.length) := by intro k; rw [hF]; rfl
  rw [← hF]
  obtain ⟨L, hL⟩ : ∃ L, L = rows.length := ⟨_, rfl⟩
  rw [← hL] at ha2 ht2 hb2 HA5 HB5 HT5 HLR HFS ⊢
  have hlK := hK.lt
  clear ha5 hb5 ht5 hlr hla hlb hF hL
  have hs0 := hB.size
  obtain ⟨Rb, hRb⟩ : ∃ R, R = w0.heap.size := ⟨_, rfl⟩
  have HRb : Hid (Rb = w0.heap.size) := hRb
  have hRK : Rb ≠ K := by omega
  have h0R : w0.heap.size ≤ Rb := by omega
  go_enter Try.func38, Try.ntmps38
  go_wp2_with fail
  refine (zero_any _).mono ?_
  rintro e w1 ⟨rfl, hb⟩
  have K1 : IsK w1 K bd := (IsK.below hK ((Below.refl _ _).alloc (Nat.le_refl _) _)).below hb
  have Z1 : IsR w1 Rb 0 0 := by rw [hRb]; exact (IsR.new w0 0 0).below hb
  have G1 : w0.grownBy w1 (some K) := g_below (g_alloc (g_refl w0 (some K)) _) hb
  have B1 : Below w.heap.size w w1 := hB.trans (below_grownK G1 hwK hs0)
  have hs1 := hb.size
  simp at hs1
  obtain ⟨Sb, hSb⟩ : ∃ S, S = w1.heap.size := ⟨_, rfl⟩
  have hSK : Sb ≠ K := by omega
  have hRS : Rb ≠ Sb := by omega
  have h0S : w0.heap.size ≤ Sb := by omega
  have hwS : w.heap.size ≤ Sb := by omega
  clear hb hK hB
  rw [← hRb]
  go_wp2
  obtain ⟨X, hX⟩ : ∃ X, X = w1.alloc (.cells #[.int .i64 0, .int .i64 1] 32) := ⟨_, rfl⟩
  have S0 : IsR X Sb (F 0).1.1 (F 0).1.2 := by rw [HF0.out, hX, hSb]; exact IsR.new w1 0 1
  have Z0 : IsR X Rb 0 0 := by rw [hX]; exact Z1.below ((Below.refl _ _).alloc (Nat.le_refl _) _)
  have K0 : IsK X K (F 0).2 := by rw [HF0.out, hX]; exact K1.below ((Below.refl _ _).alloc (Nat.le_refl _) _)
  have B0 : Below w.heap.size w X := by rw [hX]; exact B1.alloc B1.size _
  have G0 : w0.grownBy X (some K) := by rw [hX]; exact g_alloc G1 _
  rw [← hX, ← hSb]
  clear hX hSb Z1 K1 B1 G1 hs1 hRb
  go_loopw [10] (fun i wr => ∃ k : Nat, k ≤ L ∧ i = .int .i64 k ∧ Hid (IsR wr Sb (F k).1.1 (F k).1.2) ∧ Hid (IsK wr K (F k).2) ∧ Hid (IsR wr Rb 0 0) ∧ Hid (Below w.heap.size w wr) ∧ Hid (w0.grownBy wr (some K))) (fun i _ => L - (intOf i).toNat)
  case atStart => exact ⟨0, Nat.zero_le _, rfl, S0, K0, Z0, B0, G0⟩
  case round =>
    clear S0 K0 Z0 B0 G0
    obtain ⟨k, hk, rfl, hS, hK, hZ, hB, hG⟩ := hrel
    by_cases hlt : k < L
    · have hkd : decide ((k : Int) < (L : Int)) = true := decide_eq_true (by omega)
      obtain ⟨pb, po, rfl, HA1, HA2⟩ := HA5.out k hlt
      obtain ⟨tb, to', u, rfl, HT1, r1', rc, rfl, _, _, _, hr5⟩ := HT5.out k hlt
      rw [HLR.out k hlt] at HT1 hr5
      have HR5 : Hid (∀ i, i < L → ∃ b off, r1' = some ⟨b, off, none⟩ ∧ w.cell? ⟨b, off + i * 2, none⟩ = some (.int .i64 (fr (rw' rows k) i).1) ∧ w.cell? ⟨b, off + i * 2 + 1, none⟩ = some (.int .i64 (fr (rw' rows k) i).2)) := hr5
      obtain ⟨G, hG'⟩ : ∃ G, G = rowV (fr ps k) (rw' rows k) bs (F k) := ⟨_, rfl⟩
      have HG : Hid (∀ j, G (j + 1) = stpV (G j) (fr ps k) (fr (rw' rows k) j) (fr bs j)) := by intro j; rw [hG']; rfl
      have HG0 : Hid (F k = G 0) := by show _ = _; rw [hG']; rfl
      have HGE : Hid (F (k + 1) = G L) := by show _ = _; rw [HFS.out k, hG']
      rw [HG0.out] at hS hK
      have C1 : Hid (w.cell? ⟨pb, po + k * 2, none⟩ = some (.int .i64 (fr ps k).1)) := HA1
      have C2 : Hid (w.cell? ⟨pb, po + k * 2 + 1, none⟩ = some (.int .i64 (fr ps k).2)) := HA2
      have C3 : Hid (w.cell? ⟨tb, to' + k, none⟩ = some (.slice r1' L rc)) := HT1
      clear hr5 hG' HA1 HA2 HT1
      go_wp2
      go_loopw [11] (fun i wr => ∃ j : Nat, j ≤ L ∧ i = .int .i64 j ∧ Hid (IsR wr Sb (G j).1.1 (G j).1.2) ∧ Hid (IsK wr K (G j).2) ∧ Hid (IsR wr Rb 0 0) ∧ Hid (Below w.heap.size w wr) ∧ Hid (w0.grownBy wr (some K))) (fun i _ => L - (intOf i).toNat)
      case atStart => exact ⟨0, Nat.zero_le _, rfl, hS.out, hK.out, hZ.out, hB.out, hG.out⟩
      case round =>
        clear hS hK hZ hB hG
        obtain ⟨j, hj, rfl, hS, hK, hZ, hB, hG⟩ := hrel
        by_cases hlj : j < L
        · obtain ⟨qb, qo, rfl, c6, c7⟩ := HB5.out j hlj
          obtain ⟨rb, ro, rfl, c4, c5⟩ := HR5.out j hlj
          have l1 := World.block_lt_of_cell? w _ C1.out
          have l2 := World.block_lt_of_cell? w _ C3.out
          have l3 := World.block_lt_of_cell? w _ c4
          have l4 := World.block_lt_of_cell? w _ c6
          dsimp only at l1 l2 l3 l4
          have c1 := cell_keep hB.out C1.out
          have c2 := cell_keep hB.out C2.out
          have c3 := cell_keep hB.out C3.out
          replace c4 := cell_keep hB.out c4
          replace c5 := cell_keep hB.out c5
          replace c6 := cell_keep hB.out c6
          replace c7 := cell_keep hB.out c7
          obtain ⟨a, ha⟩ : ∃ z, z = fr ps k := ⟨_, rfl⟩
          obtain ⟨x, hx⟩ : ∃ z, z = fr (rw' rows k) j := ⟨_, rfl⟩
          obtain ⟨y, hy⟩ : ∃ z, z = fr bs j := ⟨_, rfl⟩
          obtain ⟨s, hs⟩ : ∃ z, z = G j := ⟨_, rfl⟩
          obtain ⟨r, hr⟩ : ∃ z, z = G (j + 1) := ⟨_, rfl⟩
          have HQ : Hid (G (j + 1) = r) := hr.symm
          rw [HG.out j, ← ha, ← hx, ← hy, ← hs] at hr
          rw [← ha] at c1 c2
          rw [← hx] at c4 c5
          rw [← hy] at c6 c7
          rw [← hs] at hS hK
          obtain ⟨s, so⟩ := s
          obtain ⟨p, hp⟩ : ∃ z, z = p1V a x := ⟨_, rfl⟩
          obtain ⟨q, hq⟩ : ∃ z, z = p1V p y := ⟨_, rfl⟩
          obtain ⟨HM, HM2, HA⟩ := kStep K so s a x y p q r hp hq hr
          replace HM := hidW8 HM
          replace HM2 := hidW8 HM2
          replace HA := hidW8 HA
          obtain ⟨a1, a2⟩ := a
          obtain ⟨x1, x2⟩ := x
          obtain ⟨y1, y2⟩ := y
          obtain ⟨s1, s2⟩ := s
          obtain ⟨p1, p2⟩ := p
          obtain ⟨q1, q2⟩ := q
          obtain ⟨⟨r1, r2⟩, ro'⟩ := r
          clear ha hx hy hs hp hq hr
          dsimp only at c1 c2 c4 c5 c6 c7 hS hK HM HM2 HA
          have hljd : decide ((j : Int) < (L : Int)) = true := decide_eq_true (by omega)
          have hr0 := hS.out.c0
          have hr1 := hS.out.c1
          go_upto_region 8 with fail
          refine wp_region_noPanic ?_
          refine wp_region_held_drew (S := (fun w' => w'.cell? ⟨pb, po + k * 2, none⟩ = some (.int .i64 a1) ∧ w'.cell? ⟨pb, po + k * 2 + 1, none⟩ = some (.int .i64 a2) ∧ w'.cell? ⟨tb, to' + k, none⟩ = some (.slice (some ⟨rb, ro, none⟩) L rc) ∧ w'.cell? ⟨rb, ro + j * 2, none⟩ = some (.int .i64 x1) ∧ w'.cell? ⟨rb, ro + j * 2 + 1, none⟩ = some (.int .i64 x2) ∧ w'.cell? ⟨qb, qo + j * 2, none⟩ = some (.int .i64 y1) ∧ w'.cell? ⟨qb, qo + j * 2 + 1, none⟩ = some (.int .i64 y2))) (by kernel_rfl) ?_ (fun hHeld => ?_)
          · (try dsimp only)
            refine ⟨?_, ?_, ?_, ?_, ?_, ?_, ?_⟩ <;> (repeat (with_reducible (first | exact c1 | exact c2 | exact c3 | exact c4 | exact c5 | exact c6 | exact c7 | refine cell_dr ?_ | refine cell_stb ?_ ?_ | (show _ ≠ _; omega))))
          refine wpAnyH_take (i := 0) (v := ?_) rfl (by kernel_rfl) (by kernel_rfl) (by kernel_rfl) (fun _ _ _ h => h) (Or.inl ⟨by kernel_rfl, ?_⟩) hHeld ?_
          rotate_left
          · intro wz hSw; (try dsimp only at hSw); go_simp; all_goals (try with_reducible rfl)
          (try simp only [List.getElem_toArray]); (try simp only [List.getElem_cons_succ]); (try simp only [List.getElem_cons_zero]); (try simp only [Act.put]); (try simp only [List.setIfInBounds_toArray]); (try simp only [List.set_cons_succ]); (try simp only [List.set_cons_zero])
          refine wpAnyH_take (i := 2) (v := ?_) rfl (by kernel_rfl) (by kernel_rfl) (by kernel_rfl) (fun _ _ _ h => h) (Or.inl ⟨by kernel_rfl, ?_⟩) hHeld ?_
          rotate_left
          · intro wz hSw; (try dsimp only at hSw); go_simp; all_goals (try with_reducible rfl)
          (try simp only [List.getElem_toArray]); (try simp only [List.getElem_cons_succ]); (try simp only [List.getElem_cons_zero]); (try simp only [Act.put]); (try simp only [List.setIfInBounds_toArray]); (try simp only [List.set_cons_succ]); (try simp only [List.set_cons_zero])
          refine wpAnyH_take (i := 3) (v := ?_) rfl (by kernel_rfl) (by kernel_rfl) (by kernel_rfl) (fun _ _ _ h => h) (Or.inl ⟨by kernel_rfl, ?_⟩) hHeld ?_
          rotate_left
          · intro wz hSw; (try dsimp only at hSw); go_simp; all_goals (try with_reducible rfl)
          (try simp only [List.getElem_toArray]); (try simp only [List.getElem_cons_succ]); (try simp only [List.getElem_cons_zero]); (try simp only [Act.put]); (try simp only [List.setIfInBounds_toArray]); (try simp only [List.set_cons_succ]); (try simp only [List.set_cons_zero])
          refine wpAnyH_take (i := 4) (v := ?_) rfl (by kernel_rfl) (by kernel_rfl) (by kernel_rfl) (fun _ _ _ h => h) (Or.inl ⟨by kernel_rfl, ?_⟩) hHeld ?_
          rotate_left
          · intro wz hSw; (try dsimp only at hSw); go_simp; all_goals (try with_reducible rfl)
          (try simp only [List.getElem_toArray]); (try simp only [List.getElem_cons_succ]); (try simp only [List.getElem_cons_zero]); (try simp only [Act.put]); (try simp only [List.setIfInBounds_toArray]); (try simp only [List.set_cons_succ]); (try simp only [List.set_cons_zero])
          refine wpAnyH_take (i := 5) (v := ?_) rfl (by kernel_rfl) (by kernel_rfl) (by kernel_rfl) (fun _ _ _ h => h) (Or.inl ⟨by kernel_rfl, ?_⟩) hHeld ?_
          rotate_left
          · intro wz hSw; (try dsimp only at hSw); go_simp; all_goals (try with_reducible rfl)
          (try simp only [List.getElem_toArray]); (try simp only [List.getElem_cons_succ]); (try simp only [List.getElem_cons_zero]); (try simp only [Act.put]); (try simp only [List.setIfInBounds_toArray]); (try simp only [List.set_cons_succ]); (try simp only [List.set_cons_zero])
          refine wpAnyH_take (i := 6) (v := ?_) rfl (by kernel_rfl) (by kernel_rfl) (by kernel_rfl) (fun _ _ _ h => h) (Or.inl ⟨by kernel_rfl, ?_⟩) hHeld ?_
          rotate_left
          · intro wz hSw; (try dsimp only at hSw); go_simp; all_goals (try with_reducible rfl)
          (try simp only [List.getElem_toArray]); (try simp only [List.getElem_cons_succ]); (try simp only [List.getElem_cons_zero]); (try simp only [Act.put]); (try simp only [List.setIfInBounds_toArray]); (try simp only [List.set_cons_succ]); (try simp only [List.set_cons_zero])
          refine wpAnyH_take (i := 7) (v := ?_) rfl (by kernel_rfl) (by kernel_rfl) (by kernel_rfl) (fun _ _ _ h => h) (Or.inl ⟨by kernel_rfl, ?_⟩) hHeld ?_
          rotate_left
          · intro wz hSw; (try dsimp only at hSw); go_simp; all_goals (try with_reducible rfl)
          (try simp only [List.getElem_toArray]); (try simp only [List.getElem_cons_succ]); (try simp only [List.getElem_cons_zero]); (try simp only [Act.put]); (try simp only [List.setIfInBounds_toArray]); (try simp only [List.set_cons_succ]); (try simp only [List.set_cons_zero])
          refine wpAnyH_take (i := 8) (v := ?_) rfl (by kernel_rfl) (by kernel_rfl) (by kernel_rfl) (fun _ _ _ h => h) (Or.inl ⟨by kernel_rfl, ?_⟩) hHeld ?_
          rotate_left
          · intro wz hSw; (try dsimp only at hSw); go_simp; all_goals (try with_reducible rfl)
          (try simp only [List.getElem_toArray]); (try simp only [List.getElem_cons_succ]); (try simp only [List.getElem_cons_zero]); (try simp only [Act.put]); (try simp only [List.setIfInBounds_toArray]); (try simp only [List.set_cons_succ]); (try simp only [List.set_cons_zero])
          refine wpAnyH_take (i := 9) (v := ?_) rfl (by kernel_rfl) (by kernel_rfl) (by kernel_rfl) (fun _ _ _ h => h) (Or.inl ⟨by kernel_rfl, ?_⟩) hHeld ?_
          rotate_left
          · intro wz hSw; (try dsimp only at hSw); go_simp; all_goals (try with_reducible rfl)
          (try simp only [List.getElem_toArray]); (try simp only [List.getElem_cons_succ]); (try simp only [List.getElem_cons_zero]); (try simp only [Act.put]); (try simp only [List.setIfInBounds_toArray]); (try simp only [List.set_cons_succ]); (try simp only [List.set_cons_zero])
          refine wpAnyH_take (i := 10) (v := ?_) rfl (by kernel_rfl) (by kernel_rfl) (by kernel_rfl) (fun _ _ _ h => h) (Or.inl ⟨by kernel_rfl, ?_⟩) hHeld ?_
          rotate_left
          · intro wz hSw; (try dsimp only at hSw); go_simp; all_goals (try with_reducible rfl)
          (try simp only [List.getElem_toArray]); (try simp only [List.getElem_cons_succ]); (try simp only [List.getElem_cons_zero]); (try simp only [Act.put]); (try simp only [List.setIfInBounds_toArray]); (try simp only [List.set_cons_succ]); (try simp only [List.set_cons_zero])
          refine wpAnyH_take (i := 11) (v := ?_) rfl (by kernel_rfl) (by kernel_rfl) (by kernel_rfl) (fun _ _ _ h => h) (Or.inl ⟨by kernel_rfl, ?_⟩) hHeld ?_
          rotate_left
          · intro wz hSw; (try dsimp only at hSw); go_simp; all_goals (try with_reducible rfl)
          (try simp only [List.getElem_toArray]); (try simp only [List.getElem_cons_succ]); (try simp only [List.getElem_cons_zero]); (try simp only [Act.put]); (try simp only [List.setIfInBounds_toArray]); (try simp only [List.set_cons_succ]); (try simp only [List.set_cons_zero])
          refine wpAnyH_take (i := 12) (v := ?_) rfl (by kernel_rfl) (by kernel_rfl) (by kernel_rfl) (fun _ _ _ h => h) (Or.inl ⟨by kernel_rfl, ?_⟩) hHeld ?_
          rotate_left
          · intro wz hSw; (try dsimp only at hSw); go_simp; all_goals (try with_reducible rfl)
          (try simp only [List.getElem_toArray]); (try simp only [List.getElem_cons_succ]); (try simp only [List.getElem_cons_zero]); (try simp only [Act.put]); (try simp only [List.setIfInBounds_toArray]); (try simp only [List.set_cons_succ]); (try simp only [List.set_cons_zero])
          refine wpAnyH_take (i := 13) (v := ?_) rfl (by kernel_rfl) (by kernel_rfl) (by kernel_rfl) (fun _ _ _ h => h) (Or.inl ⟨by kernel_rfl, ?_⟩) hHeld ?_
          rotate_left
          · intro wz hSw; (try dsimp only at hSw); go_simp; all_goals (try with_reducible rfl)
          (try simp only [List.getElem_toArray]); (try simp only [List.getElem_cons_succ]); (try simp only [List.getElem_cons_zero]); (try simp only [Act.put]); (try simp only [List.setIfInBounds_toArray]); (try simp only [List.set_cons_succ]); (try simp only [List.set_cons_zero])
          refine wpAnyH_take (i := 14) (v := ?_) rfl (by kernel_rfl) (by kernel_rfl) (by kernel_rfl) (fun _ _ _ h => h) (Or.inl ⟨by kernel_rfl, ?_⟩) hHeld ?_
          rotate_left
          · intro wz hSw; (try dsimp only at hSw); go_simp; all_goals (try with_reducible rfl)
          (try simp only [List.getElem_toArray]); (try simp only [List.getElem_cons_succ]); (try simp only [List.getElem_cons_zero]); (try simp only [Act.put]); (try simp only [List.setIfInBounds_toArray]); (try simp only [List.set_cons_succ]); (try simp only [List.set_cons_zero])
          refine wpAnyH_take (i := 16) (v := ?_) rfl (by kernel_rfl) (by kernel_rfl) (by kernel_rfl) (fun _ _ _ h => h) (Or.inl ⟨by kernel_rfl, ?_⟩) hHeld ?_
          rotate_left
          · intro wz hSw; (try dsimp only at hSw); go_simp; all_goals (try with_reducible rfl)
          (try simp only [List.getElem_toArray]); (try simp only [List.getElem_cons_succ]); (try simp only [List.getElem_cons_zero]); (try simp only [Act.put]); (try simp only [List.setIfInBounds_toArray]); (try simp only [List.set_cons_succ]); (try simp only [List.set_cons_zero])
          refine wpAnyH_take (i := 17) (v := ?_) rfl (by kernel_rfl) (by kernel_rfl) (by kernel_rfl) (fun _ _ _ h => h) (Or.inl ⟨by kernel_rfl, ?_⟩) hHeld ?_
          rotate_left
          · intro wz hSw; (try dsimp only at hSw); go_simp; all_goals (try with_reducible rfl)
          (try simp only [List.getElem_toArray]); (try simp only [List.getElem_cons_succ]); (try simp only [List.getElem_cons_zero]); (try simp only [Act.put]); (try simp only [List.setIfInBounds_toArray]); (try simp only [List.set_cons_succ]); (try simp only [List.set_cons_zero])
          refine wpAnyH_take (i := 18) (v := ?_) rfl (by kernel_rfl) (by kernel_rfl) (by kernel_rfl) (fun _ _ _ h => h) (Or.inl ⟨by kernel_rfl, ?_⟩) hHeld ?_
          rotate_left
          · intro wz hSw; (try dsimp only at hSw); go_simp; all_goals (try with_reducible rfl)
          (try simp only [List.getElem_toArray]); (try simp only [List.getElem_cons_succ]); (try simp only [List.getElem_cons_zero]); (try simp only [Act.put]); (try simp only [List.setIfInBounds_toArray]); (try simp only [List.set_cons_succ]); (try simp only [List.set_cons_zero])
          refine wpAnyH_take (i := 19) (v := ?_) rfl (by kernel_rfl) (by kernel_rfl) (by kernel_rfl) (fun _ _ _ h => h) (Or.inl ⟨by kernel_rfl, ?_⟩) hHeld ?_
          rotate_left
          · intro wz hSw; (try dsimp only at hSw); go_simp; all_goals (try with_reducible rfl)
          (try simp only [List.getElem_toArray]); (try simp only [List.getElem_cons_succ]); (try simp only [List.getElem_cons_zero]); (try simp only [Act.put]); (try simp only [List.setIfInBounds_toArray]); (try simp only [List.set_cons_succ]); (try simp only [List.set_cons_zero])
          refine wpAnyH_ready (rs := [1, 15]) (by kernel_rfl) (by simp) (AllReadyH.cons rfl (fun Kc hKc => ?_) (AllReadyH.cons rfl (fun Kc hKc => ?_) AllReadyH.nil))
          · go_simp
            refine hKc.out _ _ ?_ (fun hHeld => ?_)
            · (try dsimp only)
              refine ⟨?_, ?_, ?_, ?_, ?_, ?_, ?_⟩ <;> (repeat (with_reducible (first | exact c1 | exact c2 | exact c3 | exact c4 | exact c5 | exact c6 | exact c7 | refine cell_dr ?_ | refine cell_stb ?_ ?_ | (show _ ≠ _; omega))))
            clear hKc Kc
            (try simp only [List.getElem_toArray]); (try simp only [List.getElem_cons_succ]); (try simp only [List.getElem_cons_zero]); (try simp only [Act.put]); (try simp only [List.setIfInBounds_toArray]); (try simp only [List.set_cons_succ]); (try simp only [List.set_cons_zero])
            refine wpAnyH_ready (rs := [15]) (by kernel_rfl) (by simp) (AllReadyH.cons rfl (fun Kc hKc => ?_) AllReadyH.nil)
            go_simp
            (go_at_call 46; refine (HM.out _ (IsK.below (by exact hK.out) ((Below.refl _ _).drew))).mono ?_; rintro e w2 ⟨rfl, k2, g2⟩)
            have c1 := cell_g g2 c1 (by omega)
            have c2 := cell_g g2 c2 (by omega)
            have c3 := cell_g g2 c3 (by omega)
            have c4 := cell_g g2 c4 (by omega)
            have c5 := cell_g g2 c5 (by omega)
            have c6 := cell_g g2 c6 (by omega)
            have c7 := cell_g g2 c7 (by omega)
            have S2 : IsR w2 Sb s1 s2 := IsR.grown (by exact hS.out) g2 hSK
            have Z2 : IsR w2 Rb 0 0 := IsR.grown (by exact hZ.out) g2 hRK
            have B2 : Below w.heap.size w w2 := (hB.out.drew).trans (below_grownK g2 hwK (by have := hB.out.size; first | (simp; omega) | omega))
            have G2 : w0.grownBy w2 (some K) := (g_drew1 hG.out).trans g2
            have e0 := S2.c0
            have e1 := S2.c1
            clear g2
            go_wp2_with fail
            refine hKc.out _ _ ?_ (fun hHeld => ?_)
            · (try dsimp only)
              refine ⟨?_, ?_, ?_, ?_, ?_, ?_, ?_⟩ <;> (repeat (with_reducible (first | exact c1 | exact c2 | exact c3 | exact c4 | exact c5 | exact c6 | exact c7 | refine cell_dr ?_ | refine cell_stb ?_ ?_ | (show _ ≠ _; omega))))
            clear hKc Kc
            (try simp only [List.getElem_toArray]); (try simp only [List.getElem_cons_succ]); (try simp only [List.getElem_cons_zero]); (try simp only [Act.put]); (try simp only [List.setIfInBounds_toArray]); (try simp only [List.set_cons_succ]); (try simp only [List.set_cons_zero])
            refine wpAnyH_ready (rs := [20]) (by kernel_rfl) (by simp) (AllReadyH.cons rfl (fun Kc hKc => ?_) AllReadyH.nil)
            go_simp
            (go_at_call 46; refine (HM2.out _ (by exact k2)).mono ?_; rintro e w3 ⟨rfl, k3, g2⟩)
            have c1 := cell_g g2 c1 (by omega)
            have c2 := cell_g g2 c2 (by omega)
            have c3 := cell_g g2 c3 (by omega)
            have c4 := cell_g g2 c4 (by omega)
            have c5 := cell_g g2 c5 (by omega)
            have c6 := cell_g g2 c6 (by omega)
            have c7 := cell_g g2 c7 (by omega)
            have S3 : IsR w3 Sb s1 s2 := IsR.grown (S2) g2 hSK
            have Z3 : IsR w3 Rb 0 0 := IsR.grown (Z2) g2 hRK
            have B3 : Below w.heap.size w w3 := B2.trans (below_grownK g2 hwK B2.size)
            have G3 : w0.grownBy w3 (some K) := (G2).trans g2
            have e0 := S3.c0
            have e1 := S3.c1
            clear g2
            go_wp2_with fail
            refine hKc.out _ _ ?_ (fun hHeld => ?_)
            · (try dsimp only)
              refine ⟨?_, ?_, ?_, ?_, ?_, ?_, ?_⟩ <;> (repeat (with_reducible (first | exact c1 | exact c2 | exact c3 | exact c4 | exact c5 | exact c6 | exact c7 | refine cell_dr ?_ | refine cell_stb ?_ ?_ | (show _ ≠ _; omega))))
            clear hKc Kc
            (try simp only [List.getElem_toArray]); (try simp only [List.getElem_cons_succ]); (try simp only [List.getElem_cons_zero]); (try simp only [Act.put]); (try simp only [List.setIfInBounds_toArray]); (try simp only [List.set_cons_succ]); (try simp only [List.set_cons_zero])
            refine wpAnyH_ready (rs := [21]) (by kernel_rfl) (by simp) (AllReadyH.cons rfl (fun Kc hKc => ?_) AllReadyH.nil)
            go_simp
            (go_at_call 45; refine (HA.out _ (by exact k3)).mono ?_; rintro e w4 ⟨rfl, k4, g2⟩)
            have c1 := cell_g g2 c1 (by omega)
            have c2 := cell_g g2 c2 (by omega)
            have c3 := cell_g g2 c3 (by omega)
            have c4 := cell_g g2 c4 (by omega)
            have c5 := cell_g g2 c5 (by omega)
            have c6 := cell_g g2 c6 (by omega)
            have c7 := cell_g g2 c7 (by omega)
            have S4 : IsR w4 Sb s1 s2 := IsR.grown (S3) g2 hSK
            have Z4 : IsR w4 Rb 0 0 := IsR.grown (Z3) g2 hRK
            have B4 : Below w.heap.size w w4 := B3.trans (below_grownK g2 hwK B3.size)
            have G4 : w0.grownBy w4 (some K) := (G3).trans g2
            have e0 := S4.c0
            have e1 := S4.c1
            have i2' := S4.f0
            have i3' := S4.f1
            clear g2
            go_wp2_with fail
            refine hKc.out _ _ ?_ (fun hHeld => ?_)
            · (try dsimp only)
              refine ⟨?_, ?_, ?_, ?_, ?_, ?_, ?_⟩ <;> (repeat (with_reducible (first | exact c1 | exact c2 | exact c3 | exact c4 | exact c5 | exact c6 | exact c7 | refine cell_dr ?_ | refine cell_stb ?_ ?_ | (show _ ≠ _; omega))))
            clear hKc Kc
            (try simp only [List.getElem_toArray]); (try simp only [List.getElem_cons_succ]); (try simp only [List.getElem_cons_zero]); (try simp only [Act.put]); (try simp only [List.setIfInBounds_toArray]); (try simp only [List.set_cons_succ]); (try simp only [List.set_cons_zero])
            refine wpAnyH_ready (rs := [22]) (by kernel_rfl) (by simp) (AllReadyH.cons rfl (fun Kc hKc => ?_) AllReadyH.nil)
            go_simp
            refine hKc.out _ _ ?_ (fun hHeld => ?_)
            · (try dsimp only)
              refine ⟨?_, ?_, ?_, ?_, ?_, ?_, ?_⟩ <;> (repeat (with_reducible (first | exact c1 | exact c2 | exact c3 | exact c4 | exact c5 | exact c6 | exact c7 | refine cell_dr ?_ | refine cell_stb ?_ ?_ | (show _ ≠ _; omega))))
            clear hKc Kc
            (try simp only [List.getElem_toArray]); (try simp only [List.getElem_cons_succ]); (try simp only [List.getElem_cons_zero]); (try simp only [Act.put]); (try simp only [List.setIfInBounds_toArray]); (try simp only [List.set_cons_succ]); (try simp only [List.set_cons_zero])
            refine wpAnyH_done (by kernel_rfl) ?_ _
            refine NoPanic.normal ?_
            go_wp2
            go_roundw
            case rel =>
              refine ⟨j + 1, by omega, by go_num, ?_, ?_, (Z4.other hRS 0 _).other hRS 1 _, (B4.setCell (p := ⟨Sb, 0, none⟩) hwS _).setCell (p := ⟨Sb, 1, none⟩) hwS _, g_set (g_set G4 (.inl h0S) 0 _) (.inl h0S) 1 _⟩
              · show IsR _ _ _ _
                rw [HQ.out]
                exact (S4.set0 _).set1 _
              · show IsK _ _ _
                rw [HQ.out]
                exact (k4.other hSK.symm 0 (.int .i64 r1)).other hSK.symm 1 (.int .i64 r2)
            case measure => simp [intOf]; omega
          · go_simp
            (go_at_call 46; refine (HM.out _ (IsK.below (by exact hK.out) ((Below.refl _ _).drew))).mono ?_; rintro e w2 ⟨rfl, k2, g2⟩)
            have c1 := cell_g g2 c1 (by omega)
            have c2 := cell_g g2 c2 (by omega)
            have c3 := cell_g g2 c3 (by omega)
            have c4 := cell_g g2 c4 (by omega)
            have c5 := cell_g g2 c5 (by omega)
            have c6 := cell_g g2 c6 (by omega)
            have c7 := cell_g g2 c7 (by omega)
            have S2 : IsR w2 Sb s1 s2 := IsR.grown (by exact hS.out) g2 hSK
            have Z2 : IsR w2 Rb 0 0 := IsR.grown (by exact hZ.out) g2 hRK
            have B2 : Below w.heap.size w w2 := (hB.out.drew).trans (below_grownK g2 hwK (by have := hB.out.size; first | (simp; omega) | omega))
            have G2 : w0.grownBy w2 (some K) := (g_drew1 hG.out).trans g2
            have e0 := S2.c0
            have e1 := S2.c1
            clear g2
            go_wp2_with fail
            refine hKc.out _ _ ?_ (fun hHeld => ?_)
            · (try dsimp only)
              refine ⟨?_, ?_, ?_, ?_, ?_, ?_, ?_⟩ <;> (repeat (with_reducible (first | exact c1 | exact c2 | exact c3 | exact c4 | exact c5 | exact c6 | exact c7 | refine cell_dr ?_ | refine cell_stb ?_ ?_ | (show _ ≠ _; omega))))
            clear hKc Kc
            (try simp only [List.getElem_toArray]); (try simp only [List.getElem_cons_succ]); (try simp only [List.getElem_cons_zero]); (try simp only [Act.put]); (try simp only [List.setIfInBounds_toArray]); (try simp only [List.set_cons_succ]); (try simp only [List.set_cons_zero])
            refine wpAnyH_ready (rs := [1, 20]) (by kernel_rfl) (by simp) (AllReadyH.cons rfl (fun Kc hKc => ?_) (AllReadyH.cons rfl (fun Kc hKc => ?_) AllReadyH.nil))
            · go_simp
              refine hKc.out _ _ ?_ (fun hHeld => ?_)
              · (try dsimp only)
                refine ⟨?_, ?_, ?_, ?_, ?_, ?_, ?_⟩ <;> (repeat (with_reducible (first | exact c1 | exact c2 | exact c3 | exact c4 | exact c5 | exact c6 | exact c7 | refine cell_dr ?_ | refine cell_stb ?_ ?_ | (show _ ≠ _; omega))))
              clear hKc Kc
              (try simp only [List.getElem_toArray]); (try simp only [List.getElem_cons_succ]); (try simp only [List.getElem_cons_zero]); (try simp only [Act.put]); (try simp only [List.setIfInBounds_toArray]); (try simp only [List.set_cons_succ]); (try simp only [List.set_cons_zero])
              refine wpAnyH_ready (rs := [20]) (by kernel_rfl) (by simp) (AllReadyH.cons rfl (fun Kc hKc => ?_) AllReadyH.nil)
              go_simp
              (go_at_call 46; refine (HM2.out _ (by exact k2)).mono ?_; rintro e w3 ⟨rfl, k3, g2⟩)
              have c1 := cell_g g2 c1 (by omega)
              have c2 := cell_g g2 c2 (by omega)
              have c3 := cell_g g2 c3 (by omega)
              have c4 := cell_g g2 c4 (by omega)
              have c5 := cell_g g2 c5 (by omega)
              have c6 := cell_g g2 c6 (by omega)
              have c7 := cell_g g2 c7 (by omega)
              have S3 : IsR w3 Sb s1 s2 := IsR.grown (S2) g2 hSK
              have Z3 : IsR w3 Rb 0 0 := IsR.grown (Z2) g2 hRK
              have B3 : Below w.heap.size w w3 := B2.trans (below_grownK g2 hwK B2.size)
              have G3 : w0.grownBy w3 (some K) := (G2).trans g2
              have e0 := S3.c0
              have e1 := S3.c1
              clear g2
              go_wp2_with fail
              refine hKc.out _ _ ?_ (fun hHeld => ?_)
              · (try dsimp only)
                refine ⟨?_, ?_, ?_, ?_, ?_, ?_, ?_⟩ <;> (repeat (with_reducible (first | exact c1 | exact c2 | exact c3 | exact c4 | exact c5 | exact c6 | exact c7 | refine cell_dr ?_ | refine cell_stb ?_ ?_ | (show _ ≠ _; omega))))
              clear hKc Kc
              (try simp only [List.getElem_toArray]); (try simp only [List.getElem_cons_succ]); (try simp only [List.getElem_cons_zero]); (try simp only [Act.put]); (try simp only [List.setIfInBounds_toArray]); (try simp only [List.set_cons_succ]); (try simp only [List.set_cons_zero])
              refine wpAnyH_ready (rs := [21]) (by kernel_rfl) (by simp) (AllReadyH.cons rfl (fun Kc hKc => ?_) AllReadyH.nil)
              go_simp
              (go_at_call 45; refine (HA.out _ (by exact k3)).mono ?_; rintro e w4 ⟨rfl, k4, g2⟩)
              have c1 := cell_g g2 c1 (by omega)
              have c2 := cell_g g2 c2 (by omega)
              have c3 := cell_g g2 c3 (by omega)
              have c4 := cell_g g2 c4 (by omega)
              have c5 := cell_g g2 c5 (by omega)
              have c6 := cell_g g2 c6 (by omega)
              have c7 := cell_g g2 c7 (by omega)
              have S4 : IsR w4 Sb s1 s2 := IsR.grown (S3) g2 hSK
              have Z4 : IsR w4 Rb 0 0 := IsR.grown (Z3) g2 hRK
              have B4 : Below w.heap.size w w4 := B3.trans (below_grownK g2 hwK B3.size)
              have G4 : w0.grownBy w4 (some K) := (G3).trans g2
              have e0 := S4.c0
              have e1 := S4.c1
              have i2' := S4.f0
              have i3' := S4.f1
              clear g2
              go_wp2_with fail
              refine hKc.out _ _ ?_ (fun hHeld => ?_)
              · (try dsimp only)
                refine ⟨?_, ?_, ?_, ?_, ?_, ?_, ?_⟩ <;> (repeat (with_reducible (first | exact c1 | exact c2 | exact c3 | exact c4 | exact c5 | exact c6 | exact c7 | refine cell_dr ?_ | refine cell_stb ?_ ?_ | (show _ ≠ _; omega))))
              clear hKc Kc
              (try simp only [List.getElem_toArray]); (try simp only [List.getElem_cons_succ]); (try simp only [List.getElem_cons_zero]); (try simp only [Act.put]); (try simp only [List.setIfInBounds_toArray]); (try simp only [List.set_cons_succ]); (try simp only [List.set_cons_zero])
              refine wpAnyH_ready (rs := [22]) (by kernel_rfl) (by simp) (AllReadyH.cons rfl (fun Kc hKc => ?_) AllReadyH.nil)
              go_simp
              refine hKc.out _ _ ?_ (fun hHeld => ?_)
              · (try dsimp only)
                refine ⟨?_, ?_, ?_, ?_, ?_, ?_, ?_⟩ <;> (repeat (with_reducible (first | exact c1 | exact c2 | exact c3 | exact c4 | exact c5 | exact c6 | exact c7 | refine cell_dr ?_ | refine cell_stb ?_ ?_ | (show _ ≠ _; omega))))
              clear hKc Kc
              (try simp only [List.getElem_toArray]); (try simp only [List.getElem_cons_succ]); (try simp only [List.getElem_cons_zero]); (try simp only [Act.put]); (try simp only [List.setIfInBounds_toArray]); (try simp only [List.set_cons_succ]); (try simp only [List.set_cons_zero])
              refine wpAnyH_done (by kernel_rfl) ?_ _
              refine NoPanic.normal ?_
              go_wp2
              go_roundw
              case rel =>
                refine ⟨j + 1, by omega, by go_num, ?_, ?_, (Z4.other hRS 0 _).other hRS 1 _, (B4.setCell (p := ⟨Sb, 0, none⟩) hwS _).setCell (p := ⟨Sb, 1, none⟩) hwS _, g_set (g_set G4 (.inl h0S) 0 _) (.inl h0S) 1 _⟩
                · show IsR _ _ _ _
                  rw [HQ.out]
                  exact (S4.set0 _).set1 _
                · show IsK _ _ _
                  rw [HQ.out]
                  exact (k4.other hSK.symm 0 (.int .i64 r1)).other hSK.symm 1 (.int .i64 r2)
              case measure => simp [intOf]; omega
            · go_simp
              (go_at_call 46; refine (HM2.out _ (by exact k2)).mono ?_; rintro e w3 ⟨rfl, k3, g2⟩)
              have c1 := cell_g g2 c1 (by omega)
              have c2 := cell_g g2 c2 (by omega)
              have c3 := cell_g g2 c3 (by omega)
              have c4 := cell_g g2 c4 (by omega)
              have c5 := cell_g g2 c5 (by omega)
              have c6 := cell_g g2 c6 (by omega)
              have c7 := cell_g g2 c7 (by omega)
              have S3 : IsR w3 Sb s1 s2 := IsR.grown (S2) g2 hSK
              have Z3 : IsR w3 Rb 0 0 := IsR.grown (Z2) g2 hRK
              have B3 : Below w.heap.size w w3 := B2.trans (below_grownK g2 hwK B2.size)
              have G3 : w0.grownBy w3 (some K) := (G2).trans g2
              have e0 := S3.c0
              have e1 := S3.c1
              clear g2
              go_wp2_with fail
              refine hKc.out _ _ ?_ (fun hHeld => ?_)
              · (try dsimp only)
                refine ⟨?_, ?_, ?_, ?_, ?_, ?_, ?_⟩ <;> (repeat (with_reducible (first | exact c1 | exact c2 | exact c3 | exact c4 | exact c5 | exact c6 | exact c7 | refine cell_dr ?_ | refine cell_stb ?_ ?_ | (show _ ≠ _; omega))))
              clear hKc Kc
              (try simp only [List.getElem_toArray]); (try simp only [List.getElem_cons_succ]); (try simp only [List.getElem_cons_zero]); (try simp only [Act.put]); (try simp only [List.setIfInBounds_toArray]); (try simp only [List.set_cons_succ]); (try simp only [List.set_cons_zero])
              refine wpAnyH_ready (rs := [1]) (by kernel_rfl) (by simp) (AllReadyH.cons rfl (fun Kc hKc => ?_) AllReadyH.nil)
              go_simp
              refine hKc.out _ _ ?_ (fun hHeld => ?_)
              · (try dsimp only)
                refine ⟨?_, ?_, ?_, ?_, ?_, ?_, ?_⟩ <;> (repeat (with_reducible (first | exact c1 | exact c2 | exact c3 | exact c4 | exact c5 | exact c6 | exact c7 | refine cell_dr ?_ | refine cell_stb ?_ ?_ | (show _ ≠ _; omega))))
              clear hKc Kc
              (try simp only [List.getElem_toArray]); (try simp only [List.getElem_cons_succ]); (try simp only [List.getElem_cons_zero]); (try simp only [Act.put]); (try simp only [List.setIfInBounds_toArray]); (try simp only [List.set_cons_succ]); (try simp only [List.set_cons_zero])
              refine wpAnyH_ready (rs := [21]) (by kernel_rfl) (by simp) (AllReadyH.cons rfl (fun Kc hKc => ?_) AllReadyH.nil)
              go_simp
              (go_at_call 45; refine (HA.out _ (by exact k3)).mono ?_; rintro e w4 ⟨rfl, k4, g2⟩)
              have c1 := cell_g g2 c1 (by omega)
              have c2 := cell_g g2 c2 (by omega)
              have c3 := cell_g g2 c3 (by omega)
              have c4 := cell_g g2 c4 (by omega)
              have c5 := cell_g g2 c5 (by omega)
              have c6 := cell_g g2 c6 (by omega)
              have c7 := cell_g g2 c7 (by omega)
              have S4 : IsR w4 Sb s1 s2 := IsR.grown (S3) g2 hSK
              have Z4 : IsR w4 Rb 0 0 := IsR.grown (Z3) g2 hRK
              have B4 : Below w.heap.size w w4 := B3.trans (below_grownK g2 hwK B3.size)
              have G4 : w0.grownBy w4 (some K) := (G3).trans g2
              have e0 := S4.c0
              have e1 := S4.c1
              have i2' := S4.f0
              have i3' := S4.f1
              clear g2
              go_wp2_with fail
              refine hKc.out _ _ ?_ (fun hHeld => ?_)
              · (try dsimp only)
                refine ⟨?_, ?_, ?_, ?_, ?_, ?_, ?_⟩ <;> (repeat (with_reducible (first | exact c1 | exact c2 | exact c3 | exact c4 | exact c5 | exact c6 | exact c7 | refine cell_dr ?_ | refine cell_stb ?_ ?_ | (show _ ≠ _; omega))))
              clear hKc Kc
              (try simp only [List.getElem_toArray]); (try simp only [List.getElem_cons_succ]); (try simp only [List.getElem_cons_zero]); (try simp only [Act.put]); (try simp only [List.setIfInBounds_toArray]); (try simp only [List.set_cons_succ]); (try simp only [List.set_cons_zero])
              refine wpAnyH_ready (rs := [22]) (by kernel_rfl) (by simp) (AllReadyH.cons rfl (fun Kc hKc => ?_) AllReadyH.nil)
              go_simp
              refine hKc.out _ _ ?_ (fun hHeld => ?_)
              · (try dsimp only)
                refine ⟨?_, ?_, ?_, ?_, ?_, ?_, ?_⟩ <;> (repeat (with_reducible (first | exact c1 | exact c2 | exact c3 | exact c4 | exact c5 | exact c6 | exact c7 | refine cell_dr ?_ | refine cell_stb ?_ ?_ | (show _ ≠ _; omega))))
              clear hKc Kc
              (try simp only [List.getElem_toArray]); (try simp only [List.getElem_cons_succ]); (try simp only [List.getElem_cons_zero]); (try simp only [Act.put]); (try simp only [List.setIfInBounds_toArray]); (try simp only [List.set_cons_succ]); (try simp only [List.set_cons_zero])
              refine wpAnyH_done (by kernel_rfl) ?_ _
              refine NoPanic.normal ?_
              go_wp2
              go_roundw
              case rel =>
                refine ⟨j + 1, by omega, by go_num, ?_, ?_, (Z4.other hRS 0 _).other hRS 1 _, (B4.setCell (p := ⟨Sb, 0, none⟩) hwS _).setCell (p := ⟨Sb, 1, none⟩) hwS _, g_set (g_set G4 (.inl h0S) 0 _) (.inl h0S) 1 _⟩
                · show IsR _ _ _ _
                  rw [HQ.out]
                  exact (S4.set0 _).set1 _
                · show IsK _ _ _
                  rw [HQ.out]
                  exact (k4.other hSK.symm 0 (.int .i64 r1)).other hSK.symm 1 (.int .i64 r2)
              case measure => simp [intOf]; omega
        · have e : j = L := by omega
          subst e
          rw [← HGE.out] at hS hK
          go_wp2
          go_roundw
          case rel => exact ⟨k + 1, by omega, by go_num, hS.out, hK.out, hZ.out, hB.out, hG.out⟩
          case measure => simp [intOf]; omega
    · have e : k = L := by omega
      subst e
      have r0 := hS.out.c0
      have r1 := hS.out.c1
      have z0 := hZ.out.c0
      have z1 := hZ.out.c1
      have z2 := hZ.out.f0
      have z3 := hZ.out.f1
      rw [HRb.out] at z0 z1 z2 z3
      go_wp2
      have hKR : K ≠ w0.heap.size := by omega
      exact bodyPost_ret (v := .agg #[.int .i64 (F k).1.1, .int .i64 (F k).1.2]) (by simp [results, Try.results38, go_sem, z0, z1]) rfl ⟨rfl, (hK.out.other hKR 0 _).other hKR 1 _, g_set (g_set hG.out (.inl (Nat.le_refl _)) 0 _) (.inl (Nat.le_refl _)) 1 _⟩
end Go.Proofs.Ytkcdpjcfbpjkean
