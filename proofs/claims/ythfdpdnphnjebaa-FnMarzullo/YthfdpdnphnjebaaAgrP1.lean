/- The walks of the program's claimsOk and Deep. -/
import Derived.Test.YthfdpdnphnjebaaAgrW1
namespace Go.Proofs.Ythfdpdnphnjebaa
open Go.RowKit Go.Proofs.Ythfdpdnphnjebaa.RM

set_option maxRecDepth 100000 in
set_option maxHeartbeats 2000000 in
theorem iClm_any (v : Value) (ls : List Sp) (w : World) (h : RdS w v ls) :
    Calls Try.prog 20 #[v] w fun e w' => e = .returned (.bool (clmB ls)) ∧ Below w.heap.size w w' := by
  obtain ⟨a, c, rfl, h2, h3, h4, h5⟩ := h
  have H5 : Hid (∀ j, j < ls.length → ∃ b off, a = some ⟨b, off, none⟩ ∧ w.cell? ⟨b, off + j * 4, none⟩ = some (.int .i64 (sp ls j).1.1) ∧ w.cell? ⟨b, off + j * 4 + 1, none⟩ = some (.int .i64 (sp ls j).1.2) ∧ w.cell? ⟨b, off + j * 4 + 2, none⟩ = some (.int .i64 (sp ls j).2.1) ∧ w.cell? ⟨b, off + j * 4 + 3, none⟩ = some (.int .i64 (sp ls j).2.2)) := h5
  unfold maxLen at h2
  obtain ⟨L, hL⟩ : ∃ L, L = ls.length := ⟨_, rfl⟩
  have HL := hidA hL
  rw [← hL] at h2 H5 ⊢
  clear h5 h3 h4 hL
  by_cases n0 : L < 1
  · have HF : Hid (clmB ls = false) := clmB_len (by have := HL.out; omega)
    go_enter Try.func20, Try.ntmps20
    go_wp2
    go_ret
    exact ⟨ret_b11 HF.out.symm, Below.refl _ _⟩
  by_cases n1 : 12 < L
  · have HF : Hid (clmB ls = false) := clmB_len (by have := HL.out; omega)
    go_enter Try.func20, Try.ntmps20
    go_wp2
    go_ret
    exact ⟨ret_b11 HF.out.symm, Below.refl _ _⟩
  go_enter Try.func20, Try.ntmps20
  go_wp2
  go_loopw [15] (fun i wr => ∃ k : Nat, k ≤ L ∧ i = .int .i64 k ∧ Hid (Below w.heap.size w wr) ∧ Hid (∀ j, j < k → rng7 (sp ls j).1 (sp ls j).2 = true)) (fun i _ => L - (intOf i).toNat)
  case atStart => exact ⟨0, Nat.zero_le _, rfl, Below.refl _ _, fun j hj => absurd hj (Nat.not_lt_zero _)⟩
  case round =>
    obtain ⟨k, hk, rfl, hB, HP⟩ := hrel
    by_cases hlt : k < L
    · obtain ⟨b, off, rfl, c1, c2, c3, c4⟩ := H5.out k hlt
      replace c1 := cell_keep hB.out c1
      replace c2 := cell_keep hB.out c2
      replace c3 := cell_keep hB.out c3
      replace c4 := cell_keep hB.out c4
      obtain ⟨p, hp⟩ : ∃ p, p = sp ls k := ⟨_, rfl⟩
      have HPQ := hidA hp
      rw [← hp] at c1 c2 c3 c4
      obtain ⟨⟨x1, x2⟩, y1, y2⟩ := p
      dsimp only at c1 c2 c3 c4
      clear hp
      have HT := hidA (fun W => iRng_any x1 x2 y1 y2 W)
      obtain ⟨q, hq⟩ : ∃ q, q = rng7 (x1, x2) (y1, y2) := ⟨_, rfl⟩
      have HQ : Hid (rng7 (sp ls k).1 (sp ls k).2 = q) := by show _ = _; rw [← HPQ.out, hq]
      rw [← hq] at HT
      clear hq
      go_upto_region 6 with fail
      obtain ⟨N, hN⟩ : ∃ N, N = wr.heap.size := ⟨_, rfl⟩
      obtain ⟨X, hX⟩ : ∃ X, X = wr.alloc (.cells #[.int .i64 x1, .int .i64 x2, .int .i64 y1, .int .i64 y2] 29) := ⟨_, rfl⟩
      have hb : Below wr.heap.size wr X := by rw [hX]; exact b0S _ _
      have p1 : X.cell? ⟨N, 0, none⟩ = some (.int .i64 x1) := by rw [hX, hN]; simp [go_sem]
      have p2 : X.cell? ⟨N, 1, none⟩ = some (.int .i64 x2) := by rw [hX, hN]; simp [go_sem]
      have p3 : X.cell? ⟨N, 2, none⟩ = some (.int .i64 y1) := by rw [hX, hN]; simp [go_sem]
      have p4 : X.cell? ⟨N, 3, none⟩ = some (.int .i64 y2) := by rw [hX, hN]; simp [go_sem]
      have BX := hidA (hB.out.trans (hb.mono hB.out.size))
      rw [← hX, ← hN]
      clear hX hN hb c1 c2 c3 c4 hB
      go_wp2_with fail
      refine (HT.out _).mono ?_
      rintro e w1 ⟨rfl, hb⟩
      have B1 := hidA (BX.out.trans (hb.mono BX.out.size))
      clear hb p1 p2 p3 p4 BX
      cases q
      · have HF : Hid (clmB ls = false) := clmB_at (k := k) (by rw [← HL.out]; exact hlt) HQ.out
        go_wp2
        go_ret
        exact ⟨ret_b11 HF.out.symm, B1.out⟩
      · go_wp2
        go_roundw
        case rel =>
          refine ⟨k + 1, by omega, by go_num, B1.out, fun j hj => ?_⟩
          by_cases e : j = k
          · subst e; exact HQ.out
          · exact HP.out j (by omega)
        case measure => simp [intOf]; omega
    · obtain rfl : k = L := by omega
      have HF : Hid (clmB ls = true) := decide_eq_true ⟨by have := HL.out; omega, fun j hj => HP.out j (by rw [HL.out]; exact hj)⟩
      go_wp2
      go_ret
      exact ⟨ret_b11 HF.out.symm, hB.out⟩


set_option maxRecDepth 100000 in
set_option maxHeartbeats 4000000 in
theorem iDeep_any (v : Value) (ls : List Sp) (x : Fr) (w : World) (h : RdS w v ls) :
    Calls Try.prog 9 #[v, .agg #[.int .i64 x.1, .int .i64 x.2]] w fun e w' => e = .returned (.int .i64 (deeA ls x)) ∧ Below w.heap.size w w' := by
  have HC := hidA (fun W (hW : Below w.heap.size w W) => iClm_any v ls W (h.below hW))
  have HO := hidA (fun W => right_any x.1 x.2 W)
  obtain ⟨a, c, rfl, h2, h3, h4, h5⟩ := h
  have H5 : Hid (∀ j, j < ls.length → ∃ b off, a = some ⟨b, off, none⟩ ∧ w.cell? ⟨b, off + j * 4, none⟩ = some (.int .i64 (sp ls j).1.1) ∧ w.cell? ⟨b, off + j * 4 + 1, none⟩ = some (.int .i64 (sp ls j).1.2) ∧ w.cell? ⟨b, off + j * 4 + 2, none⟩ = some (.int .i64 (sp ls j).2.1) ∧ w.cell? ⟨b, off + j * 4 + 3, none⟩ = some (.int .i64 (sp ls j).2.2)) := h5
  clear h2 h3 h4 h5
  obtain ⟨q, hq⟩ : ∃ q, q = clmB ls := ⟨_, rfl⟩
  obtain ⟨o, ho⟩ : ∃ q, q = okB x.1 x.2 := ⟨_, rfl⟩
  have HV : Hid (deeA ls x = if (q && o) = true then depI ls x else -1) := by show _ = _; unfold deeA; rw [hq, ho]
  have HQ := hidA hq
  rw [← hq] at HC
  rw [← ho] at HO
  clear hq ho
  obtain ⟨x1, x2⟩ := x
  dsimp only at HO
  go_enter Try.func9, Try.ntmps9
  obtain ⟨X, hX⟩ : ∃ X, X = w.alloc (.cells #[.int .i64 x1, .int .i64 x2] 27) := ⟨_, rfl⟩
  obtain ⟨B, hBk⟩ : ∃ B, B = w.heap.size := ⟨_, rfl⟩
  have X0 : IsR X B x1 x2 := by rw [hX, hBk]; exact IsR.new _ _ _
  have B0 : Below w.heap.size w X := by rw [hX]; exact (Below.refl _ _).alloc (Nat.le_refl _) _
  go_wp2_with fail
  rw [← hX, ← hBk]
  refine (HC.out _ B0).mono ?_
  rintro e w1 ⟨rfl, hb⟩
  replace X0 := X0.below hb
  replace B0 := B0.trans (hb.mono B0.size)
  clear hb hX HC hBk X
  cases q
  · have HF : Hid (deeA ls (x1, x2) = -1) := by show _ = _; rw [HV.out]; rfl
    go_wp2
    go_ret
    exact ⟨ret_i11 HF.out.symm, B0⟩
  have c0 := X0.c0
  have c1 := X0.c1
  go_wp2_with fail
  refine (HO.out _).mono ?_
  rintro e w2 ⟨rfl, hb⟩
  replace X0 := X0.below hb
  replace B0 := B0.trans (hb.mono B0.size)
  clear hb c0 c1 HO
  cases o
  · have HF : Hid (deeA ls (x1, x2) = -1) := by show _ = _; rw [HV.out]; rfl
    go_wp2
    go_ret
    exact ⟨ret_i11 HF.out.symm, B0⟩
  have HF : Hid (deeA ls (x1, x2) = depI ls (x1, x2)) := by show _ = _; rw [HV.out]; rfl
  have hl := (clmB_out HQ.out.symm).1.2
  obtain ⟨D, hD⟩ : ∃ D, D = depN ls (x1, x2) := ⟨_, rfl⟩
  have HDE : Hid (deeA ls (x1, x2) = (D ls.length : Int)) := by show _ = _; rw [HF.out, hD]; rfl
  have HD0 : Hid (D 0 = 0) := by show _ = _; rw [hD]; rfl
  have HDS : Hid (∀ k, D (k + 1) = if hasB ls (x1, x2) k = true then D k + 1 else D k) := by intro k; rw [hD]; rfl
  have HDL : Hid (∀ k, D k ≤ k) := by intro k; rw [hD]; exact depN_le _ _ k
  obtain ⟨L, hL⟩ : ∃ L, L = ls.length := ⟨_, rfl⟩
  have HL := hidA hL
  rw [← hL] at H5 HDE hl ⊢
  clear hL hD HF HV HQ w1
  replace B0 := hidA B0
  replace X0 := hidA X0
  go_wp2
  go_loopw [5, 18] (fun s i wr => ∃ k : Nat, k ≤ L ∧ i = .int .i64 k ∧ s = .int .i64 (D k : Nat) ∧ Hid (Below w.heap.size w wr) ∧ Hid (IsR wr B x1 x2)) (fun _ i _ => L - (intOf i).toNat)
  case atStart => exact ⟨0, Nat.zero_le _, rfl, by rw [HD0.out]; rfl, B0.out, X0.out⟩
  case round =>
    clear X0 B0
    obtain ⟨k, hk, rfl, rfl, hB, hX⟩ := hrel
    by_cases hlt : k < L
    · obtain ⟨b, off, rfl, c1, c2, c3, c4⟩ := H5.out k hlt
      replace c1 := cell_keep hB.out c1
      replace c2 := cell_keep hB.out c2
      replace c3 := cell_keep hB.out c3
      replace c4 := cell_keep hB.out c4
      have hDk := HDL.out k
      have HS := hidA (HDS.out k)
      obtain ⟨d, hd⟩ : ∃ d, d = D k := ⟨_, rfl⟩
      rw [← hd] at hDk HS ⊢
      clear hd
      obtain ⟨p, hp⟩ : ∃ p, p = sp ls k := ⟨_, rfl⟩
      have HPQ := hidA hp
      rw [← hp] at c1 c2 c3 c4
      obtain ⟨⟨l1, l2⟩, h1, h2⟩ := p
      dsimp only at c1 c2 c3 c4
      clear hp
      have HT := hidA (fun W => iWithin_any l1 l2 h1 h2 x1 x2 W)
      obtain ⟨q, hq⟩ : ∃ q, q = within7 (l1, l2) (h1, h2) (x1, x2) := ⟨_, rfl⟩
      have HQ : Hid (hasB ls (x1, x2) k = q) := by show _ = _; unfold hasB; rw [← HPQ.out, hq]
      rw [← hq] at HT
      clear hq
      go_upto_region 7 with fail
      obtain ⟨N, hN⟩ : ∃ N, N = wr.heap.size := ⟨_, rfl⟩
      obtain ⟨X, hX'⟩ : ∃ X, X = wr.alloc (.cells #[.int .i64 l1, .int .i64 l2, .int .i64 h1, .int .i64 h2] 29) := ⟨_, rfl⟩
      have hb : Below wr.heap.size wr X := by rw [hX']; exact b0S _ _
      have p1 : X.cell? ⟨N, 0, none⟩ = some (.int .i64 l1) := by rw [hX', hN]; simp [go_sem]
      have p2 : X.cell? ⟨N, 1, none⟩ = some (.int .i64 l2) := by rw [hX', hN]; simp [go_sem]
      have p3 : X.cell? ⟨N, 2, none⟩ = some (.int .i64 h1) := by rw [hX', hN]; simp [go_sem]
      have p4 : X.cell? ⟨N, 3, none⟩ = some (.int .i64 h2) := by rw [hX', hN]; simp [go_sem]
      have BX := hidA (hB.out.trans (hb.mono hB.out.size))
      have X1 := hidA (hX.out.below hb)
      have c5 := X1.out.c0
      have c6 := X1.out.c1
      rw [← hX', ← hN]
      clear hX' hN hb c1 c2 c3 c4 hB hX
      go_wp2_with fail
      refine (HT.out _).mono ?_
      rintro e w2 ⟨rfl, hb⟩
      replace BX := hidA (BX.out.trans (hb.mono BX.out.size))
      replace X1 := hidA (X1.out.below hb)
      clear hb p1 p2 p3 p4 c5 c6
      cases q
      · have HN : Hid (D (k + 1) = d) := by show _ = _; rw [HS.out, HQ.out]; rfl
        go_wp2
        go_roundw
        case rel => exact ⟨k + 1, by omega, by go_num, by rw [HN.out], BX.out, X1.out⟩
        case measure => simp [intOf]; omega
      · have HN : Hid (D (k + 1) = d + 1) := by show _ = _; rw [HS.out, HQ.out]; rfl
        go_wp2
        go_roundw
        case rel => exact ⟨k + 1, by omega, by go_num, by rw [HN.out]; go_num, BX.out, X1.out⟩
        case measure => simp [intOf]; omega
    · obtain rfl : k = L := by omega
      go_wp2
      go_ret
      exact ⟨ret_i11 HDE.out.symm, hB.out⟩
end Go.Proofs.Ythfdpdnphnjebaa
