/- Rows of ranges: copied, held against each other, marked. -/
import Derived.Test.YthdogphpjflklaaSpW0
namespace Go.Proofs.Ythdogphpjflklaa
open Go.RowKit Go.Proofs.Ythdogphpjflklaa.RM

theorem infoRg : (Try.prog.info? 34).map (fun i => (i.zero, i.size, i.bytes)) = some (some (.agg #[.int .i64 0, .int .i64 0, .int .i64 0, .int .i64 0]), 4, 32) := by kernel_rfl
theorem own_Rg {W : World} {base g n c : Nat} {ss : List Sp} (h : W.ownsRow base 34 4 (.slice (some ⟨g, 0, none⟩) n c) n (cellsS ss)) (hl : ss.length = n) (j : Nat) (hj : j < n) :
    W.cell? ⟨g, j * 4, none⟩ = some (.int .i64 (sp ss j).1.1) ∧ W.cell? ⟨g, j * 4 + 1, none⟩ = some (.int .i64 (sp ss j).1.2) ∧ W.cell? ⟨g, j * 4 + 2, none⟩ = some (.int .i64 (sp ss j).2.1) ∧ W.cell? ⟨g, j * 4 + 3, none⟩ = some (.int .i64 (sp ss j).2.2) := by
  have h1 := h.cellAt (j * 4) (by omega)
  have h2 := h.cellAt (j * 4 + 1) (by omega)
  have h3 := h.cellAt (j * 4 + 2) (by omega)
  have h4 := h.cellAt (j * 4 + 3) (by omega)
  have k := cellsS_at ss j (by omega)
  exact ⟨h1.trans k.1, h2.trans k.2.1, h3.trans k.2.2.1, h4.trans k.2.2.2⟩
theorem RdS.ownRg {W : World} {base : Nat} {v : Value} {n : Nat} {ss : List Sp} (h : W.ownsRow base 34 4 v n (cellsS ss)) : RdS W v ss ∧ ss.length = n := by
  have hl : ss.length = n := by have := h.1; rw [cellsS_len] at this; omega
  subst hl
  refine ⟨?_, rfl⟩
  rcases h.2 with ⟨e, h0⟩ | ⟨g, c, cur, e, _, _, h1, h2, _⟩
  · refine ⟨none, 0, by rw [e, h0], by rw [h0]; exact Nat.zero_le _, by omega, Nat.zero_le _, fun j hj => by omega⟩
  · subst e
    refine ⟨_, c, rfl, by omega, h1, h2, fun j hj => ⟨g, 0, rfl, ?_⟩⟩
    have := own_Rg h rfl j hj
    simpa using this
theorem own_setRg {W : World} {base g n c : Nat} {ss : List Sp} (h : W.ownsRow base 34 4 (.slice (some ⟨g, 0, none⟩) n c) n (cellsS ss)) (hl : ss.length = n) (k : Nat) (hk : k < n) (x1 x2 y1 y2 : Int) :
    ((((W.setCell ⟨g, k * 4, none⟩ (.int .i64 x1)).setCell ⟨g, k * 4 + 1, none⟩ (.int .i64 x2)).setCell ⟨g, k * 4 + 2, none⟩ (.int .i64 y1)).setCell ⟨g, k * 4 + 3, none⟩ (.int .i64 y2)).ownsRow base 34 4 (.slice (some ⟨g, 0, none⟩) n c) n (cellsS (ss.set k ((x1, x2), (y1, y2)))) ∧
    W.grownBy ((((W.setCell ⟨g, k * 4, none⟩ (.int .i64 x1)).setCell ⟨g, k * 4 + 1, none⟩ (.int .i64 x2)).setCell ⟨g, k * 4 + 2, none⟩ (.int .i64 y1)).setCell ⟨g, k * 4 + 3, none⟩ (.int .i64 y2)) (some g) := by
  obtain ⟨p1, q1⟩ := h.stored (k * 4) (.int .i64 x1)
  obtain ⟨p2, q2⟩ := p1.stored (k * 4 + 1) (.int .i64 x2)
  obtain ⟨p3, q3⟩ := p2.stored (k * 4 + 2) (.int .i64 y1)
  obtain ⟨p4, q4⟩ := p3.stored (k * 4 + 3) (.int .i64 y2)
  rw [cellsS_set _ _ _ _ _ _ (by rw [hl]; exact hk)] at p4
  exact ⟨p4, ((q1.trans q2).trans q3).trans q4⟩
set_option maxHeartbeats 1600000 in
theorem toRg_any (a b c d : Int) (w : World) :
    Calls Try.prog 34 #[.agg #[.int .i64 a, .int .i64 b, .int .i64 c, .int .i64 d]] w fun e w' => e = .returned (.agg #[.int .i64 a, .int .i64 b, .int .i64 c, .int .i64 d]) ∧ Below w.heap.size w w' := by
  have H1 := hidU (fun W => to_any a b W)
  have H2 := hidU (fun W => to_any c d W)
  go_enter Try.func34, Try.ntmps34
  go_wp2_with fail
  refine (H1.out _).mono ?_
  rintro e w1 ⟨rfl, hb⟩
  obtain ⟨P, hP⟩ : ∃ P, P = w.heap.size := ⟨_, rfl⟩
  have k0 : IsB w1 P #[.int .i64 a, .int .i64 b, .int .i64 c, .int .i64 d] 58 := by rw [hP]; exact ((IsB.new w _ _).below ((b0S _ _).alloc (by simp) _)).below hb
  have k1 : IsB w1 (P + 1) #[.int .i64 0, .int .i64 0, .int .i64 0, .int .i64 0] 34 := by rw [hP]; exact ((IsB.n2 w _ _ _).below (b0S _ _)).below hb
  have k2 : IsB w1 (P + 1 + 1) #[.int .i64 0, .int .i64 0, .int .i64 0, .int .i64 0] 34 := by rw [hP]; exact (IsB.n3 w _ _ _ _).below hb
  have HB : Hid (Below w.heap.size w w1) := (((b0S w _).alloc (by simp) _).alloc (by simp <;> omega) _).trans (hb.mono (by simp <;> omega))
  rw [← hP]
  have HPw : Hid (w.heap.size ≤ P) := by show _ ≤ _; omega
  clear hb hP
  obtain ⟨R, hR⟩ : ∃ R, R = P + 1 := ⟨_, rfl⟩
  obtain ⟨T, hT⟩ : ∃ T, T = P + 1 + 1 := ⟨_, rfl⟩
  rw [← hT] at k2 ⊢
  rw [← hR] at k1 ⊢
  have HNE : Hid (P ≠ T ∧ R ≠ T ∧ w.heap.size ≤ R ∧ w.heap.size ≤ T) := by have := HPw.out; show _ ∧ _; omega
  clear hR hT
  obtain ⟨n1, n2, n3, n4⟩ := HNE.out
  obtain ⟨z0, z1, z2, z3⟩ := k2.s4
  obtain ⟨f0, f1, f2, f3⟩ := k2.sf4
  go_upto_region 3 with fail
  have k3 : Hid (IsB ((w1.setCell ⟨T, 0, none⟩ (.int .i64 a)).setCell ⟨T, 1, none⟩ (.int .i64 b)) T #[.int .i64 a, .int .i64 b, .int .i64 0, .int .i64 0] 34) := k2.sLo _ _
  have K0 : Hid (IsB ((w1.setCell ⟨T, 0, none⟩ (.int .i64 a)).setCell ⟨T, 1, none⟩ (.int .i64 b)) P #[.int .i64 a, .int .i64 b, .int .i64 c, .int .i64 d] 58) := (k0.other n1 0 _).other n1 1 _
  have K1 : Hid (IsB ((w1.setCell ⟨T, 0, none⟩ (.int .i64 a)).setCell ⟨T, 1, none⟩ (.int .i64 b)) R #[.int .i64 0, .int .i64 0, .int .i64 0, .int .i64 0] 34) := (k1.other n2 0 _).other n2 1 _
  replace HB : Hid (Below w.heap.size w ((w1.setCell ⟨T, 0, none⟩ (.int .i64 a)).setCell ⟨T, 1, none⟩ (.int .i64 b))) := (HB.out.setCell (p := ⟨T, 0, none⟩) n4 _).setCell (p := ⟨T, 1, none⟩) n4 _
  obtain ⟨w2, hw⟩ : ∃ Y, Y = (w1.setCell ⟨T, 0, none⟩ (.int .i64 a)).setCell ⟨T, 1, none⟩ (.int .i64 b) := ⟨_, rfl⟩
  rw [← hw] at k3 K0 K1 HB ⊢
  clear hw z0 z1 z2 z3 f0 f1 f2 f3 k0 k1 k2 n1 n2 n3 n4
  obtain ⟨z0, z1, z2, z3⟩ := K0.out.s4
  go_wp2_with fail
  refine (H2.out _).mono ?_
  rintro e w3 ⟨rfl, hb⟩
  replace k3 := hidU (k3.out.below hb)
  replace K1 := hidU (K1.out.below hb)
  replace HB := hidU (HB.out.trans (hb.mono HB.out.size))
  clear hb z0 z1 z2 z3
  obtain ⟨n1, n2, n3, n4⟩ := HNE.out
  obtain ⟨z0, z1, z2, z3⟩ := k3.out.s4
  obtain ⟨f0, f1, f2, f3⟩ := k3.out.sf4
  go_upto_region 4 with fail
  have k4 : Hid (IsB ((w3.setCell ⟨T, 2, none⟩ (.int .i64 c)).setCell ⟨T, 3, none⟩ (.int .i64 d)) T #[.int .i64 a, .int .i64 b, .int .i64 c, .int .i64 d] 34) := k3.out.sHi _ _
  have K2 : Hid (IsB ((w3.setCell ⟨T, 2, none⟩ (.int .i64 c)).setCell ⟨T, 3, none⟩ (.int .i64 d)) R #[.int .i64 0, .int .i64 0, .int .i64 0, .int .i64 0] 34) := (K1.out.other n2 2 _).other n2 3 _
  replace HB : Hid (Below w.heap.size w ((w3.setCell ⟨T, 2, none⟩ (.int .i64 c)).setCell ⟨T, 3, none⟩ (.int .i64 d))) := (HB.out.setCell (p := ⟨T, 2, none⟩) n4 _).setCell (p := ⟨T, 3, none⟩) n4 _
  obtain ⟨w4, hw⟩ : ∃ Y, Y = (w3.setCell ⟨T, 2, none⟩ (.int .i64 c)).setCell ⟨T, 3, none⟩ (.int .i64 d) := ⟨_, rfl⟩
  rw [← hw] at k4 K2 HB ⊢
  clear hw z0 z1 z2 z3 f0 f1 f2 f3 k3 K0 K1 n1 n2 n3 n4
  obtain ⟨z0, z1, z2, z3⟩ := k4.out.s4
  obtain ⟨y0, y1, y2, y3⟩ := K2.out.s4
  obtain ⟨f0, f1, f2, f3⟩ := K2.out.sf4
  go_wp2
  obtain ⟨q0, q1, q2, q3⟩ := (K2.out.sAll (.int .i64 a) (.int .i64 b) (.int .i64 c) (.int .i64 d)).s4
  exact bodyPost_ret (v := .agg #[.int .i64 a, .int .i64 b, .int .i64 c, .int .i64 d]) (by simp [results, Try.results34, go_sem, q0, q1, q2, q3]) rfl ⟨rfl, below_sAll HB.out HNE.out.2.2.1 _ _ _ _⟩


set_option maxHeartbeats 800000 in
theorem eqRg_same (a b c d : Int) (w : World) :
    Calls Try.prog 16 #[.agg #[.int .i64 a, .int .i64 b, .int .i64 c, .int .i64 d], .agg #[.int .i64 a, .int .i64 b, .int .i64 c, .int .i64 d]] w fun e w' => e = .returned (.bool true) ∧ Below w.heap.size w w' := by
  have H1 := hidU (fun W => eq_same a b W)
  have H2 := hidU (fun W => eq_same c d W)
  go_enter Try.func16, Try.ntmps16
  go_wp2_with fail
  refine (H1.out _).mono ?_
  rintro e w1 ⟨rfl, hb⟩
  obtain ⟨P, hP⟩ : ∃ P, P = w.heap.size := ⟨_, rfl⟩
  have k0 : IsB w1 P #[.int .i64 a, .int .i64 b, .int .i64 c, .int .i64 d] 34 := by rw [hP]; exact ((IsB.new w _ _).below (b0S _ _)).below hb
  have k1 : IsB w1 (P + 1) #[.int .i64 a, .int .i64 b, .int .i64 c, .int .i64 d] 34 := by rw [hP]; exact (IsB.n2 w _ _ _).below hb
  have HB : Hid (Below w.heap.size w w1) := ((b0S w _).alloc (by simp) _).trans (hb.mono (by simp <;> omega))
  rw [← hP]
  clear hb hP
  obtain ⟨z0, z1, z2, z3⟩ := k0.s4
  obtain ⟨y0, y1, y2, y3⟩ := k1.s4
  go_wp2_with fail
  refine (H2.out _).mono ?_
  rintro e w2 ⟨rfl, hb⟩
  replace HB := hidU (HB.out.trans (hb.mono HB.out.size))
  clear hb z0 z1 z2 z3 y0 y1 y2 y3 k0 k1
  go_wp2
  go_ret
  exact ⟨rfl, HB.out⟩

theorem szRg_any (v : Value) (ss : List Sp) (left : Int) (w : World) (h : RdS w v ss) (h0 : 0 ≤ left) (h1 : left ≤ 1048576) :
    Calls Try.prog 8 #[v, .int .i64 left] w fun e w' => e = .returned (.int .i64 (if left - ss.length < 0 then -1 else left - ss.length)) ∧ w' = w := by
  obtain ⟨a, c, rfl, h2, _⟩ := h
  unfold maxLen at h2
  by_cases hs : left - (ss.length : Int) < 0
  · rw [if_pos hs]
    go_enter Try.func8, Try.ntmps8
    go_wp2
    go_ret
    exact ⟨rfl, rfl⟩
  · rw [if_neg hs]
    go_enter Try.func8, Try.ntmps8
    go_wp2
    go_ret
    exact ⟨rfl, rfl⟩

set_option maxRecDepth 100000 in
set_option maxHeartbeats 2000000 in
theorem toRgS_any (v : Value) (ss : List Sp) (w : World) (h : RdS w v ss) (hl : ss.length ≤ 1048576) :
    Calls Try.prog 10 #[v] w fun e w' => ∃ u, e = .returned u ∧ w'.ownsRow w.heap.size 34 4 u ss.length (cellsS ss) ∧ Below w.heap.size w w' := by
  obtain ⟨i0, hi, hz0, hz1, hz2⟩ := info_parts infoRg
  obtain ⟨a, c, rfl, h2, h3, h4, h5⟩ := h
  have H5 : Hid (∀ j, j < ss.length → ∃ b off, a = some ⟨b, off, none⟩ ∧ w.cell? ⟨b, off + j * 4, none⟩ = some (.int .i64 (sp ss j).1.1) ∧ w.cell? ⟨b, off + j * 4 + 1, none⟩ = some (.int .i64 (sp ss j).1.2) ∧ w.cell? ⟨b, off + j * 4 + 2, none⟩ = some (.int .i64 (sp ss j).2.1) ∧ w.cell? ⟨b, off + j * 4 + 3, none⟩ = some (.int .i64 (sp ss j).2.2)) := h5
  clear h5 h2 h3 h4
  go_enter Try.func10, Try.ntmps10
  go_wp2_with (at_make; refine wpList_make_full _ rfl _ _ 27 rfl w.heap.size 34 i0 (.agg #[.int .i64 0, .int .i64 0, .int .i64 0, .int .i64 0]) 4 Try.underlying27 hi hz0 hz1 .i64 .i64 _ _ ss.length rfl rfl rfl rfl (by rw [hz2]; omega) (by unfold maxLen; omega) (Nat.le_refl _) ?_; intro w1 hown hgrow)
  have o0 : w1.ownsRow w.heap.size 34 4 (.slice (some ⟨w.heap.size, 0, none⟩) ss.length ss.length) ss.length (cellsS (cpyS ss 0)) := by
    rw [cpyS_zero, ← madeS]; exact hown
  have hB0 : Below w.heap.size w w1 := (Below.refl _ w).grown hgrow (Nat.le_refl _) (fun k e => by cases e)
  obtain ⟨G, hG⟩ : ∃ G, G = w.heap.size := ⟨_, rfl⟩
  have hwG : w.heap.size ≤ G := by omega
  rw [← hG]
  rw [← hG] at o0
  clear hown hgrow hG
  go_loopw [4] (fun i wr => ∃ k : Nat, k ≤ ss.length ∧ i = .int .i64 k ∧ Hid (wr.ownsRow G 34 4 (.slice (some ⟨G, 0, none⟩) ss.length ss.length) ss.length (cellsS (cpyS ss k))) ∧ Hid (Below w.heap.size w wr)) (fun i _ => ss.length - (intOf i).toNat)
  case atStart => exact ⟨0, Nat.zero_le _, rfl, o0, hB0⟩
  case round =>
    clear o0 hB0
    obtain ⟨k, hk, rfl, hO, hB⟩ := hrel
    by_cases hlt : k < ss.length
    · obtain ⟨b, off, rfl, c1, c2, c3, c4⟩ := H5.out k hlt
      replace c1 := cell_keep hB.out c1
      replace c2 := cell_keep hB.out c2
      replace c3 := cell_keep hB.out c3
      replace c4 := cell_keep hB.out c4
      obtain ⟨p, hp⟩ : ∃ p, p = sp ss k := ⟨_, rfl⟩
      have HP : Hid (p = sp ss k) := hp
      rw [← hp] at c1 c2 c3 c4
      obtain ⟨⟨x1, x2⟩, y1, y2⟩ := p
      dsimp only at c1 c2 c3 c4
      have hsz := hB.out.size
      clear hp
      go_wp2_with (go_at_call 34; refine (toRg_any x1 x2 y1 y2 _).mono ?_; rintro e w2 ⟨rfl, hb2⟩; have hO2 := own_below hO.out hb2; have hB2 := hB.out.trans (hb2.mono hsz); obtain ⟨d1, d2, d3, d4⟩ := own_Rg hO2 (cpyS_len _ _) k hlt; have f1 := hO2.frozenAt (k * 4); have f2 := hO2.frozenAt (k * 4 + 1); have f3 := hO2.frozenAt (k * 4 + 2); have f4 := hO2.frozenAt (k * 4 + 3))
      go_roundw
      case rel =>
        obtain ⟨s3, g3⟩ := own_setRg hO2 (cpyS_len _ _) k hlt x1 x2 y1 y2
        rw [show (((x1, x2), (y1, y2)) : Sp) = sp ss k from HP.out, cpyS_set] at s3
        exact ⟨k + 1, by omega, by go_num, s3, hB2.grown g3 hB2.size (fun j e => by cases e; exact hwG)⟩
      case measure => simp [intOf]; omega
    · obtain rfl : k = ss.length := by omega
      go_wp2
      refine bodyPost_ret (results_tmp rfl _ _ _) rfl ⟨_, rfl, ?_, hB.out⟩
      have := hO.out
      rw [cpyS_all] at this
      exact own_le this hwG

set_option maxRecDepth 100000 in
set_option maxHeartbeats 1000000 in
theorem eqRgS_any (v u : Value) (ss : List Sp) (w : World) (h : RdS w v ss) (h' : RdS w u ss) :
    Calls Try.prog 13 #[v, u] w fun e w' => e = .returned (.bool true) ∧ Below w.heap.size w w' := by
  obtain ⟨a, c, rfl, h2, h3, h4, h5⟩ := h
  obtain ⟨a', c', rfl, _, _, _, h5'⟩ := h'
  have H5 : Hid (∀ j, j < ss.length → ∃ b off, a = some ⟨b, off, none⟩ ∧ w.cell? ⟨b, off + j * 4, none⟩ = some (.int .i64 (sp ss j).1.1) ∧ w.cell? ⟨b, off + j * 4 + 1, none⟩ = some (.int .i64 (sp ss j).1.2) ∧ w.cell? ⟨b, off + j * 4 + 2, none⟩ = some (.int .i64 (sp ss j).2.1) ∧ w.cell? ⟨b, off + j * 4 + 3, none⟩ = some (.int .i64 (sp ss j).2.2)) := h5
  have H6 : Hid (∀ j, j < ss.length → ∃ b off, a' = some ⟨b, off, none⟩ ∧ w.cell? ⟨b, off + j * 4, none⟩ = some (.int .i64 (sp ss j).1.1) ∧ w.cell? ⟨b, off + j * 4 + 1, none⟩ = some (.int .i64 (sp ss j).1.2) ∧ w.cell? ⟨b, off + j * 4 + 2, none⟩ = some (.int .i64 (sp ss j).2.1) ∧ w.cell? ⟨b, off + j * 4 + 3, none⟩ = some (.int .i64 (sp ss j).2.2)) := h5'
  unfold maxLen at h2
  clear h5 h5' h3 h4
  go_enter Try.func13, Try.ntmps13
  go_wp2
  go_loopw [5] (fun i wr => ∃ k : Nat, k ≤ ss.length ∧ i = .int .i64 k ∧ Hid (Below w.heap.size w wr)) (fun i _ => ss.length - (intOf i).toNat)
  case atStart => exact ⟨0, Nat.zero_le _, rfl, Below.refl _ _⟩
  case round =>
    obtain ⟨k, hk, rfl, hB⟩ := hrel
    by_cases hlt : k < ss.length
    · obtain ⟨b, off, rfl, c1, c2, c3, c4⟩ := H5.out k hlt
      obtain ⟨b', off', rfl, d1, d2, d3, d4⟩ := H6.out k hlt
      replace c1 := cell_keep hB.out c1
      replace c2 := cell_keep hB.out c2
      replace c3 := cell_keep hB.out c3
      replace c4 := cell_keep hB.out c4
      replace d1 := cell_keep hB.out d1
      replace d2 := cell_keep hB.out d2
      replace d3 := cell_keep hB.out d3
      replace d4 := cell_keep hB.out d4
      obtain ⟨p, hp⟩ : ∃ p, p = sp ss k := ⟨_, rfl⟩
      rw [← hp] at c1 c2 c3 c4 d1 d2 d3 d4
      obtain ⟨⟨x1, x2⟩, y1, y2⟩ := p
      dsimp only at c1 c2 c3 c4 d1 d2 d3 d4
      clear hp
      go_wp2
      go_region_with (go_at_call 16; refine (eqRg_same _ _ _ _ _).mono ?_; rintro e w1 ⟨rfl, hb⟩; have B1 : Below w.heap.size w w1 := Below.trans (by first | exact hB.out | exact hB.out.drew | exact below_drewN hB.out _) (hb.mono (by simpa using hB.out.size)))
      all_goals go_wp2
      all_goals
        go_roundw
        case rel => exact ⟨k + 1, by omega, by go_num, B1⟩
        case measure => simp [intOf]; omega
    · go_wp2
      go_ret
      exact ⟨rfl, hB.out⟩

end Go.Proofs.Ythdogphpjflklaa
