/- The walk of multiply: up to its loop. -/
import Derived.Test.YtnhefbhiemdhoaaGreatUnitP6a
namespace Go.Proofs.YtnhefbhiemdhoaaGreat
open Go.RowKit Go.MapKept Go.Proofs.YtnhefbhiemdhoaaGreat.RM

set_option maxRecDepth 100000 in
set_option maxHeartbeats 2000000 in
theorem multiply_any (B M : Nat) (s : ByteArray) (u : UV) (p : Int) (dv : Bool) (P : UV) (w : World) (h : IsT w B M s u p dv P) (hp0 : p ≠ 0) (hp : -9 ≤ p ∧ p ≤ 9) (hu : okD u) (hP : okD P) :
    Calls Tryz.prog 57 #[.pointer (some ⟨B, 0, none⟩)] w fun e w' => ∃ P', e = .returned (.bool (mulP u p dv P).isSome) ∧ IsT w' B M s u p dv P' ∧ w.grownBy w' (some B) ∧ ∀ q, mulP u p dv P = some q → P' = q ∧ okD q := by
  have b0 : ∀ (u : World) (o : Obj), Below u.heap.size u (u.alloc o) := fun u o => (Below.refl _ _).alloc (Nat.le_refl _) o
  have HV := hidU (fun W => vinv_any u W hu)
  obtain ⟨v, hv⟩ : ∃ v, v = (if dv = true then (if p < 0 then u else invV u) else (if p < 0 then invV u else u)) := ⟨_, rfl⟩
  obtain ⟨K, hK⟩ : ∃ K, K = p.natAbs := ⟨_, rfl⟩
  have hvD : okD v := by
    rw [hv]
    split <;> split <;> first | exact hu | exact okD_inv hu
  obtain ⟨o, ho⟩ : ∃ o, o = mulP u p dv P := ⟨_, rfl⟩
  have HO : Hid (o = mulN v K P) := by show _ = _; rw [ho, hv, hK]; rfl
  rw [← ho]
  clear ho
  have HT := hidU h
  have c2 := h.1.cell (v := .int .i64 u.n) 2 rfl
  have c3 := h.1.cell (v := .int .i64 u.d) 3 rfl
  have c4 := h.1.cell (v := .int .i64 u.x0) 4 rfl
  have c5 := h.1.cell (v := .int .i64 u.x1) 5 rfl
  have c6 := h.1.cell (v := .int .i64 u.x2) 6 rfl
  have c7 := h.1.cell (v := .int .i64 u.x3) 7 rfl
  have c8 := h.1.cell (v := .int .i64 u.x4) 8 rfl
  have c9 := h.1.cell (v := .int .i64 p) 9 rfl
  have c10 := h.1.cell (v := .bool dv) 10 rfl
  have HP := hidU hP
  have HVD := hidU hvD
  clear h hP hvD
  cases dv with
  | false =>
    by_cases hn : p < 0
    · have e9 : v = invV u := by rw [hv]; simp [hn]
      have HV2 := hidU (show ∀ W, Calls Tryz.prog 83 #[uVal u] W fun e w' => e = .returned (uVal v) ∧ Below W.heap.size W w' from fun W => by rw [e9]; exact HV.out W)
      clear e9
      obtain ⟨un, ud, ux0, ux1, ux2, ux3, ux4, e'⟩ : ∃ un ud ux0 ux1 ux2 ux3 ux4, u = ⟨un, ud, ux0, ux1, ux2, ux3, ux4⟩ := ⟨_, _, _, _, _, _, _, rfl⟩
      have HV3 := hidU (show ∀ W, Calls Tryz.prog 83 #[uVal ⟨un, ud, ux0, ux1, ux2, ux3, ux4⟩] W fun e w' => e = .returned (uVal v) ∧ Below W.heap.size W w' by rw [← e']; exact HV2.out)
      clear HV2
      have hKp : p = -(K : Int) := by omega
      clear hv hK HV
      have hlt := HT.out.1.lt
      have hne : B ≠ w.heap.size := by omega
      obtain ⟨vn, vd, vx0, vx1, vx2, vx3, vx4⟩ := v
      simp only [uVal] at HV3
      simp only [e'] at c2 c3 c4 c5 c6 c7 c8
      clear e'
      have e2 := fun o => cell_al o c2
      have e3 := fun o => cell_al o c3
      have e4 := fun o => cell_al o c4
      have e5 := fun o => cell_al o c5
      have e6 := fun o => cell_al o c6
      have e7 := fun o => cell_al o c7
      have e8 := fun o => cell_al o c8
      have e9 := fun o => cell_al o c9
      have e10 := fun o => cell_al o c10
      go_enter Tryz.func57, Tryz.ntmps57
      go_upto_region 1 with fail
      go_region
      obtain ⟨X, hX⟩ : ∃ X, X = (w.alloc (.cells #[.int .i64 un, .int .i64 ud, .int .i64 ux0, .int .i64 ux1, .int .i64 ux2, .int .i64 ux3, .int .i64 ux4] 55)).drew := ⟨_, rfl⟩
      obtain ⟨T, hTe⟩ : ∃ T, T = w.heap.size := ⟨_, rfl⟩
      have hbX : Below w.heap.size w X := by rw [hX]; exact (b0 _ _).drew
      have hTB0 : IsB X T #[.int .i64 un, .int .i64 ud, .int .i64 ux0, .int .i64 ux1, .int .i64 ux2, .int .i64 ux3, .int .i64 ux4] 55 := by rw [hX, hTe]; exact (IsB.new _ _ _).drew
      have hTX := HT.out.below hbX
      have HGX := hidU (grown_new (row := some B) hbX)
      have hBT : B ≠ T := by omega
      rw [← hX, ← hTe]
      clear hlt hne c2 e2 c3 e3 c4 e4 c5 e5 c6 e6 c7 e7 c8 e8 c9 e9 c10 e10
      have e10 := hTX.1.cell (v := .bool false) 10 rfl
      have HTX := hidU hTX
      have HTB0 := hidU hTB0
      clear hTX hTB0 hX hbX HT
      have hTw : Hid (w.heap.size ≤ T) := Nat.le_of_eq hTe.symm
      clear hTe
      have tt0 := HTB0.out.cell (v := .int .i64 un) 0 rfl
      have tt1 := HTB0.out.cell (v := .int .i64 ud) 1 rfl
      have tt2 := HTB0.out.cell (v := .int .i64 ux0) 2 rfl
      have tt3 := HTB0.out.cell (v := .int .i64 ux1) 3 rfl
      have tt4 := HTB0.out.cell (v := .int .i64 ux2) 4 rfl
      have tt5 := HTB0.out.cell (v := .int .i64 ux3) 5 rfl
      have tt6 := HTB0.out.cell (v := .int .i64 ux4) 6 rfl
      have hK0 : ¬ (K : Int) < 0 := by omega
      have hK1 : -(K : Int) < 0 := by omega
      have hKw : IntKind.i64.wrap (K : Int) = K := by rw [IntKind.wrap_i64]; omega
      have hKw2 : IntKind.i64.wrap (-(K : Int)) = -K := by rw [IntKind.wrap_i64]; omega
      have hKw3 : IntKind.i64.wrap (- -(K : Int)) = K := by rw [IntKind.wrap_i64]; omega
      go_wp2_with fail
      refine (HV3.out _).mono ?_
      rintro e X1 ⟨rfl, hb1⟩
      have hTX := HTX.out.below hb1
      have hTB0 := HTB0.out.below hb1
      have hGX := g_below HGX.out hb1
      clear HTX HTB0 HGX hb1 HV3 e10 tt0 tt1 tt2 tt3 tt4 tt5 tt6
      have tt0 := hTB0.cell (v := .int .i64 un) 0 rfl
      have tt1 := hTB0.cell (v := .int .i64 ud) 1 rfl
      have tt2 := hTB0.cell (v := .int .i64 ux0) 2 rfl
      have tt3 := hTB0.cell (v := .int .i64 ux1) 3 rfl
      have tt4 := hTB0.cell (v := .int .i64 ux2) 4 rfl
      have tt5 := hTB0.cell (v := .int .i64 ux3) 5 rfl
      have tt6 := hTB0.cell (v := .int .i64 ux4) 6 rfl
      have ff0 := hTB0.frozen 0
      have ff1 := hTB0.frozen 1
      have ff2 := hTB0.frozen 2
      have ff3 := hTB0.frozen 3
      have ff4 := hTB0.frozen 4
      have ff5 := hTB0.frozen 5
      have ff6 := hTB0.frozen 6
      have hMT : M ≠ T := by have := hTX.2; intro e; have h1 : X1.heap[T]? = _ := hTB0; have h2 : X1.heap[M]? = _ := this; rw [e, h1] at h2; cases h2
      have HTX : Hid (IsT (((((((X1.setCell ⟨T, 0, none⟩ (.int .i64 vn)).setCell ⟨T, 1, none⟩ (.int .i64 vd)).setCell ⟨T, 2, none⟩ (.int .i64 vx0)).setCell ⟨T, 3, none⟩ (.int .i64 vx1)).setCell ⟨T, 4, none⟩ (.int .i64 vx2)).setCell ⟨T, 5, none⟩ (.int .i64 vx3)).setCell ⟨T, 6, none⟩ (.int .i64 vx4)) B M s u p false P) := (IsT.other (IsT.other (IsT.other (IsT.other (IsT.other (IsT.other (IsT.other hTX hBT hMT 0 _) hBT hMT 1 _) hBT hMT 2 _) hBT hMT 3 _) hBT hMT 4 _) hBT hMT 5 _) hBT hMT 6 _)
      have HTB : Hid (IsB (((((((X1.setCell ⟨T, 0, none⟩ (.int .i64 vn)).setCell ⟨T, 1, none⟩ (.int .i64 vd)).setCell ⟨T, 2, none⟩ (.int .i64 vx0)).setCell ⟨T, 3, none⟩ (.int .i64 vx1)).setCell ⟨T, 4, none⟩ (.int .i64 vx2)).setCell ⟨T, 5, none⟩ (.int .i64 vx3)).setCell ⟨T, 6, none⟩ (.int .i64 vx4)) T #[.int .i64 vn, .int .i64 vd, .int .i64 vx0, .int .i64 vx1, .int .i64 vx2, .int .i64 vx3, .int .i64 vx4] 55) := (((((((hTB0.set 0 (.int .i64 vn)).set 1 (.int .i64 vd)).set 2 (.int .i64 vx0)).set 3 (.int .i64 vx1)).set 4 (.int .i64 vx2)).set 5 (.int .i64 vx3)).set 6 (.int .i64 vx4))
      have HGX : Hid (w.grownBy (((((((X1.setCell ⟨T, 0, none⟩ (.int .i64 vn)).setCell ⟨T, 1, none⟩ (.int .i64 vd)).setCell ⟨T, 2, none⟩ (.int .i64 vx0)).setCell ⟨T, 3, none⟩ (.int .i64 vx1)).setCell ⟨T, 4, none⟩ (.int .i64 vx2)).setCell ⟨T, 5, none⟩ (.int .i64 vx3)).setCell ⟨T, 6, none⟩ (.int .i64 vx4)) (some B)) := (g_set (g_set (g_set (g_set (g_set (g_set (g_set hGX (.inl hTw.out) 0 _) (.inl hTw.out) 1 _) (.inl hTw.out) 2 _) (.inl hTw.out) 3 _) (.inl hTw.out) 4 _) (.inl hTw.out) 5 _) (.inl hTw.out) 6 _)
      clear hTX hTB0 hGX
      have e10 := True.intro
      go_wp2
      clear e10
      go_loopw [28] (fun i wr => ∃ (k : Nat) (P' : UV), k ≤ K ∧ i = .int .i64 k ∧ Hid (o = mulN ⟨vn, vd, vx0, vx1, vx2, vx3, vx4⟩ (K - k) P') ∧ Hid (okD P') ∧ Hid (IsT wr B M s u p false P') ∧ Hid (IsB wr T #[.int .i64 vn, .int .i64 vd, .int .i64 vx0, .int .i64 vx1, .int .i64 vx2, .int .i64 vx3, .int .i64 vx4] 55) ∧ Hid (w.grownBy wr (some B))) (fun i _ => K - (intOf i).toNat)
      case atStart => exact ⟨0, P, Nat.zero_le _, rfl, HO.out, HP.out, HTX.out, HTB.out, HGX.out⟩
      case round =>
        clear HTX HTB HGX HO HP
        obtain ⟨k, P', hk, rfl, HOk, HPk, HTr, HBr, HGr⟩ := hrel
        by_cases hlt : k < K
        · obtain ⟨qn, qd, qx0, qx1, qx2, qx3, qx4⟩ := P'
          obtain ⟨⟨⟨mn, md, mx0, mx1, mx2, mx3, mx4⟩, mo⟩, hm⟩ : ∃ m, m = mulV ⟨qn, qd, qx0, qx1, qx2, qx3, qx4⟩ ⟨vn, vd, vx0, vx1, vx2, vx3, vx4⟩ := ⟨_, rfl⟩
          have HMul : Hid (∀ W, Calls Tryz.prog 84 #[.agg #[.int .i64 qn, .int .i64 qd, .int .i64 qx0, .int .i64 qx1, .int .i64 qx2, .int .i64 qx3, .int .i64 qx4], .agg #[.int .i64 vn, .int .i64 vd, .int .i64 vx0, .int .i64 vx1, .int .i64 vx2, .int .i64 vx3, .int .i64 vx4]] W fun e w' => e = .returned (.tuple #[.agg #[.int .i64 mn, .int .i64 md, .int .i64 mx0, .int .i64 mx1, .int .i64 mx2, .int .i64 mx3, .int .i64 mx4], .bool mo]) ∧ Below W.heap.size W w') := fun W => by
            have := vtimes_any ⟨qn, qd, qx0, qx1, qx2, qx3, qx4⟩ ⟨vn, vd, vx0, vx1, vx2, vx3, vx4⟩ W HPk.out HVD.out
            rw [← hm] at this
            exact this
          have HS : Hid (o = if mo = true then mulN ⟨vn, vd, vx0, vx1, vx2, vx3, vx4⟩ (K - (k + 1)) ⟨mn, md, mx0, mx1, mx2, mx3, mx4⟩ else none) := by
            show _ = _
            rw [HOk.out, show K - k = (K - (k + 1)) + 1 by omega]
            rw [mulN_succ, ← hm]
          have HD : Hid (mo = true → okD ⟨mn, md, mx0, mx1, mx2, mx3, mx4⟩) := fun e => by
            have := @okD_mul ⟨qn, qd, qx0, qx1, qx2, qx3, qx4⟩ ⟨vn, vd, vx0, vx1, vx2, vx3, vx4⟩ (by rw [← hm]; exact e)
            rw [← hm] at this
            exact this
          have hki : (k : Int) < K := by omega
          clear hm HOk HPk
          have bb0 := HTr.out.1.cell (v := .int .i64 qn) 11 rfl
          have bb1 := HTr.out.1.cell (v := .int .i64 qd) 12 rfl
          have bb2 := HTr.out.1.cell (v := .int .i64 qx0) 13 rfl
          have bb3 := HTr.out.1.cell (v := .int .i64 qx1) 14 rfl
          have bb4 := HTr.out.1.cell (v := .int .i64 qx2) 15 rfl
          have bb5 := HTr.out.1.cell (v := .int .i64 qx3) 16 rfl
          have bb6 := HTr.out.1.cell (v := .int .i64 qx4) 17 rfl
          have tt0 := HBr.out.cell (v := .int .i64 vn) 0 rfl
          have tt1 := HBr.out.cell (v := .int .i64 vd) 1 rfl
          have tt2 := HBr.out.cell (v := .int .i64 vx0) 2 rfl
          have tt3 := HBr.out.cell (v := .int .i64 vx1) 3 rfl
          have tt4 := HBr.out.cell (v := .int .i64 vx2) 4 rfl
          have tt5 := HBr.out.cell (v := .int .i64 vx3) 5 rfl
          have tt6 := HBr.out.cell (v := .int .i64 vx4) 6 rfl
          go_upto_region 8 with fail
          refine wp_region_noPanic ?_
          refine wp_region_held_drew (S := (fun w' => w'.cell? ⟨B, 11, none⟩ = some (.int .i64 qn) ∧ w'.cell? ⟨B, 12, none⟩ = some (.int .i64 qd) ∧ w'.cell? ⟨B, 13, none⟩ = some (.int .i64 qx0) ∧ w'.cell? ⟨B, 14, none⟩ = some (.int .i64 qx1) ∧ w'.cell? ⟨B, 15, none⟩ = some (.int .i64 qx2) ∧ w'.cell? ⟨B, 16, none⟩ = some (.int .i64 qx3) ∧ w'.cell? ⟨B, 17, none⟩ = some (.int .i64 qx4) ∧ w'.cell? ⟨T, 0, none⟩ = some (.int .i64 vn) ∧ w'.cell? ⟨T, 1, none⟩ = some (.int .i64 vd) ∧ w'.cell? ⟨T, 2, none⟩ = some (.int .i64 vx0) ∧ w'.cell? ⟨T, 3, none⟩ = some (.int .i64 vx1) ∧ w'.cell? ⟨T, 4, none⟩ = some (.int .i64 vx2) ∧ w'.cell? ⟨T, 5, none⟩ = some (.int .i64 vx3) ∧ w'.cell? ⟨T, 6, none⟩ = some (.int .i64 vx4))) (by kernel_rfl) ⟨bb0, bb1, bb2, bb3, bb4, bb5, bb6, tt0, tt1, tt2, tt3, tt4, tt5, tt6⟩ (fun hHeld => ?_)
          refine wpAnyH_take (i := 0) (v := ?_) rfl (by kernel_rfl) (by kernel_rfl) (by kernel_rfl) (fun _ _ _ h => h) (Or.inl ⟨by kernel_rfl, ?_⟩) hHeld ?_
          rotate_left
          · intro wz hSw; (try dsimp only at hSw); go_simp; all_goals (try with_reducible rfl)
          (try simp only [List.getElem_toArray]); (try simp only [List.getElem_cons_succ]); (try simp only [List.getElem_cons_zero]); (try simp only [Act.put]); (try simp only [List.setIfInBounds_toArray]); (try simp only [List.set_cons_succ]); (try simp only [List.set_cons_zero])
          refine wpAnyH_take (i := 1) (v := ?_) rfl (by kernel_rfl) (by kernel_rfl) (by kernel_rfl) (fun _ _ _ h => h) (Or.inl ⟨by kernel_rfl, ?_⟩) hHeld ?_
          rotate_left
          · intro wz hSw; (try dsimp only at hSw); go_simp; all_goals (try with_reducible rfl)
          (try simp only [List.getElem_toArray]); (try simp only [List.getElem_cons_succ]); (try simp only [List.getElem_cons_zero]); (try simp only [Act.put]); (try simp only [List.setIfInBounds_toArray]); (try simp only [List.set_cons_succ]); (try simp only [List.set_cons_zero])
          refine wpAnyH_take (i := 2) (v := ?_) rfl (by kernel_rfl) (by kernel_rfl) (by kernel_rfl) (fun _ _ _ h => h) (Or.inl ⟨by kernel_rfl, ?_⟩) hHeld ?_
          rotate_left
          · intro wz hSw; (try dsimp only at hSw); go_simp; all_goals (try with_reducible rfl)
          (try simp only [List.getElem_toArray]); (try simp only [List.getElem_cons_succ]); (try simp only [List.getElem_cons_zero]); (try simp only [Act.put]); (try simp only [List.setIfInBounds_toArray]); (try simp only [List.set_cons_succ]); (try simp only [List.set_cons_zero])
          refine wpAnyH_take (i := 3) (v := ?_) rfl (by kernel_rfl) (by kernel_rfl) (by kernel_rfl) (fun _ _ _ h => h) (Or.inl ⟨by kernel_rfl, ?_⟩) hHeld ?_
          rotate_left
          · intro wz hSw; (try dsimp only at hSw); go_simp; all_goals (try with_reducible rfl)
          (try simp only [List.getElem_toArray]); (try simp only [List.getElem_cons_succ]); (try simp only [List.getElem_cons_zero]); (try simp only [Act.put]); (try simp only [List.setIfInBounds_toArray]); (try simp only [List.set_cons_succ]); (try simp only [List.set_cons_zero])
          refine wpAnyH_take (i := 4) (v := ?_) rfl (by kernel_rfl) (by kernel_rfl) (by kernel_rfl) (fun _ _ _ h => h) (Or.inl ⟨by kernel_rfl, ?_⟩) hHeld ?_
          rotate_left
          · intro wz hSw; (try dsimp only at hSw); go_simp; all_goals (try with_reducible rfl)
          (try simp only [List.getElem_toArray]); (try simp only [List.getElem_cons_succ]); (try simp only [List.getElem_cons_zero]); (try simp only [Act.put]); (try simp only [List.setIfInBounds_toArray]); (try simp only [List.set_cons_succ]); (try simp only [List.set_cons_zero])
          refine wpAnyH_ready (rs := [5, 9]) (by kernel_rfl) (by simp) (AllReadyH.cons rfl (fun Kc hKc => ?_) (AllReadyH.cons rfl (fun Kc hKc => ?_) AllReadyH.nil))
          · go_simp
            (go_at_call 84; refine (HMul.out _).mono ?_)
            rintro e w2 ⟨rfl, hbx⟩
            have hb : Below wr.heap.size wr w2 := ((Below.refl _ _).drew).trans hbx
            have h2 := HTr.out.below hb
            have hb2 := HBr.out.below hb
            have hg2 := g_below HGr.out hb
            clear HTr HBr HGr bb0 bb1 bb2 bb3 bb4 bb5 bb6 tt0 tt1 tt2 tt3 tt4 tt5 tt6
            have HTr := hidU h2
            have HBr := hidU hb2
            have HGr := hidU hg2
            clear h2 hb2 hg2
            have bb0 := HTr.out.1.cell (v := .int .i64 qn) 11 rfl
            have bb1 := HTr.out.1.cell (v := .int .i64 qd) 12 rfl
            have bb2 := HTr.out.1.cell (v := .int .i64 qx0) 13 rfl
            have bb3 := HTr.out.1.cell (v := .int .i64 qx1) 14 rfl
            have bb4 := HTr.out.1.cell (v := .int .i64 qx2) 15 rfl
            have bb5 := HTr.out.1.cell (v := .int .i64 qx3) 16 rfl
            have bb6 := HTr.out.1.cell (v := .int .i64 qx4) 17 rfl
            have tt0 := HBr.out.cell (v := .int .i64 vn) 0 rfl
            have tt1 := HBr.out.cell (v := .int .i64 vd) 1 rfl
            have tt2 := HBr.out.cell (v := .int .i64 vx0) 2 rfl
            have tt3 := HBr.out.cell (v := .int .i64 vx1) 3 rfl
            have tt4 := HBr.out.cell (v := .int .i64 vx2) 4 rfl
            have tt5 := HBr.out.cell (v := .int .i64 vx3) 5 rfl
            have tt6 := HBr.out.cell (v := .int .i64 vx4) 6 rfl
            clear hbx hb
            go_wp2_with fail
            refine hKc.out _ _ ⟨bb0, bb1, bb2, bb3, bb4, bb5, bb6, tt0, tt1, tt2, tt3, tt4, tt5, tt6⟩ (fun hHeld => ?_)
            clear hKc Kc
            (try simp only [List.getElem_toArray]); (try simp only [List.getElem_cons_succ]); (try simp only [List.getElem_cons_zero]); (try simp only [Act.put]); (try simp only [List.setIfInBounds_toArray]); (try simp only [List.set_cons_succ]); (try simp only [List.set_cons_zero])
            refine wpAnyH_take (i := 6) (v := ?_) rfl (by kernel_rfl) (by kernel_rfl) (by kernel_rfl) (fun _ _ _ h => h) (Or.inl ⟨by kernel_rfl, ?_⟩) hHeld ?_
            rotate_left
            · intro wz hSw; (try dsimp only at hSw); go_simp; all_goals (try with_reducible rfl)
            (try simp only [List.getElem_toArray]); (try simp only [List.getElem_cons_succ]); (try simp only [List.getElem_cons_zero]); (try simp only [Act.put]); (try simp only [List.setIfInBounds_toArray]); (try simp only [List.set_cons_succ]); (try simp only [List.set_cons_zero])
            refine wpAnyH_take (i := 7) (v := ?_) rfl (by kernel_rfl) (by kernel_rfl) (by kernel_rfl) (fun _ _ _ h => h) (Or.inl ⟨by kernel_rfl, ?_⟩) hHeld ?_
            rotate_left
            · intro wz hSw; (try dsimp only at hSw); go_simp; all_goals (try with_reducible rfl)
            (try simp only [List.getElem_toArray]); (try simp only [List.getElem_cons_succ]); (try simp only [List.getElem_cons_zero]); (try simp only [Act.put]); (try simp only [List.setIfInBounds_toArray]); (try simp only [List.set_cons_succ]); (try simp only [List.set_cons_zero])
            refine wpAnyH_take (i := 8) (v := ?_) rfl (by kernel_rfl) (by kernel_rfl) (by kernel_rfl) (fun _ _ _ h => h) (Or.inl ⟨by kernel_rfl, ?_⟩) hHeld ?_
            rotate_left
            · intro wz hSw; (try dsimp only at hSw); go_simp; all_goals (try with_reducible rfl)
            (try simp only [List.getElem_toArray]); (try simp only [List.getElem_cons_succ]); (try simp only [List.getElem_cons_zero]); (try simp only [Act.put]); (try simp only [List.setIfInBounds_toArray]); (try simp only [List.set_cons_succ]); (try simp only [List.set_cons_zero])
            refine wpAnyH_ready (rs := [9]) (by kernel_rfl) (by simp) (AllReadyH.cons rfl (fun Kc hKc => ?_) AllReadyH.nil)
            go_simp
            obtain ⟨Y, hY⟩ : ∃ Y, Y = w2.alloc (.cells #[.int .i64 0, .int .i64 0, .int .i64 0, .int .i64 0, .int .i64 0, .int .i64 0, .int .i64 0] 55) := ⟨_, rfl⟩
            obtain ⟨Z, hZ⟩ : ∃ Z, Z = w2.heap.size := ⟨_, rfl⟩
            have hby : Below w2.heap.size w2 Y := by rw [hY]; exact b0 _ _
            have hz1 : IsB Y Z #[.int .i64 0, .int .i64 0, .int .i64 0, .int .i64 0, .int .i64 0, .int .i64 0, .int .i64 0] 55 := by rw [hY, hZ]; exact IsB.new _ _ _
            have HZr := hidU hz1
            have hBZ : B ≠ Z := by have := HTr.out.1.lt; omega
            have hMZ : M ≠ Z := by have := HTr.out.2.lt; omega
            have hTZ : T ≠ Z := by have := HBr.out.lt; omega
            have hZ0 : w.heap.size ≤ Z := by have := HGr.out.size; omega
            rw [← hY, ← hZ]
            clear hz1 hY hZ
            have h2 := HTr.out.below hby
            have hb2 := HBr.out.below hby
            have hg2 := g_below HGr.out hby
            clear HTr HBr HGr bb0 bb1 bb2 bb3 bb4 bb5 bb6 tt0 tt1 tt2 tt3 tt4 tt5 tt6
            have HTr := hidU h2
            have HBr := hidU hb2
            have HGr := hidU hg2
            clear h2 hb2 hg2
            have bb0 := HTr.out.1.cell (v := .int .i64 qn) 11 rfl
            have bb1 := HTr.out.1.cell (v := .int .i64 qd) 12 rfl
            have bb2 := HTr.out.1.cell (v := .int .i64 qx0) 13 rfl
            have bb3 := HTr.out.1.cell (v := .int .i64 qx1) 14 rfl
            have bb4 := HTr.out.1.cell (v := .int .i64 qx2) 15 rfl
            have bb5 := HTr.out.1.cell (v := .int .i64 qx3) 16 rfl
            have bb6 := HTr.out.1.cell (v := .int .i64 qx4) 17 rfl
            have tt0 := HBr.out.cell (v := .int .i64 vn) 0 rfl
            have tt1 := HBr.out.cell (v := .int .i64 vd) 1 rfl
            have tt2 := HBr.out.cell (v := .int .i64 vx0) 2 rfl
            have tt3 := HBr.out.cell (v := .int .i64 vx1) 3 rfl
            have tt4 := HBr.out.cell (v := .int .i64 vx2) 4 rfl
            have tt5 := HBr.out.cell (v := .int .i64 vx3) 5 rfl
            have tt6 := HBr.out.cell (v := .int .i64 vx4) 6 rfl
            clear hby
            refine hKc.out _ _ ⟨bb0, bb1, bb2, bb3, bb4, bb5, bb6, tt0, tt1, tt2, tt3, tt4, tt5, tt6⟩ (fun hHeld => ?_)
            clear hKc Kc
            (try simp only [List.getElem_toArray]); (try simp only [List.getElem_cons_succ]); (try simp only [List.getElem_cons_zero]); (try simp only [Act.put]); (try simp only [List.setIfInBounds_toArray]); (try simp only [List.set_cons_succ]); (try simp only [List.set_cons_zero])
            have f0z := HZr.out.frozen
            have z0 := HZr.out.cell (v := .int .i64 0) 0 rfl
            have z1 := HZr.out.cell (v := .int .i64 0) 1 rfl
            have z2 := HZr.out.cell (v := .int .i64 0) 2 rfl
            have z3 := HZr.out.cell (v := .int .i64 0) 3 rfl
            have z4 := HZr.out.cell (v := .int .i64 0) 4 rfl
            have z5 := HZr.out.cell (v := .int .i64 0) 5 rfl
            have z6 := HZr.out.cell (v := .int .i64 0) 6 rfl
            have fz0 := HZr.out.frozen 0
            have fz1 := HZr.out.frozen 1
            have fz2 := HZr.out.frozen 2
            have fz3 := HZr.out.frozen 3
            have fz4 := HZr.out.frozen 4
            have fz5 := HZr.out.frozen 5
            have fz6 := HZr.out.frozen 6
            refine wpAnyH_ready (rs := [10]) (by kernel_rfl) (by simp) (AllReadyH.cons rfl (fun Kc hKc => ?_) AllReadyH.nil)
            go_simp
            have h2 : IsT (((((((Y.setCell ⟨Z, 0, none⟩ (.int .i64 mn)).setCell ⟨Z, 1, none⟩ (.int .i64 md)).setCell ⟨Z, 2, none⟩ (.int .i64 mx0)).setCell ⟨Z, 3, none⟩ (.int .i64 mx1)).setCell ⟨Z, 4, none⟩ (.int .i64 mx2)).setCell ⟨Z, 5, none⟩ (.int .i64 mx3)).setCell ⟨Z, 6, none⟩ (.int .i64 mx4)) B M s u p false ⟨qn, qd, qx0, qx1, qx2, qx3, qx4⟩ := (IsT.other (IsT.other (IsT.other (IsT.other (IsT.other (IsT.other (IsT.other HTr.out hBZ hMZ 0 _) hBZ hMZ 1 _) hBZ hMZ 2 _) hBZ hMZ 3 _) hBZ hMZ 4 _) hBZ hMZ 5 _) hBZ hMZ 6 _)
            have hb2 : IsB (((((((Y.setCell ⟨Z, 0, none⟩ (.int .i64 mn)).setCell ⟨Z, 1, none⟩ (.int .i64 md)).setCell ⟨Z, 2, none⟩ (.int .i64 mx0)).setCell ⟨Z, 3, none⟩ (.int .i64 mx1)).setCell ⟨Z, 4, none⟩ (.int .i64 mx2)).setCell ⟨Z, 5, none⟩ (.int .i64 mx3)).setCell ⟨Z, 6, none⟩ (.int .i64 mx4)) T #[.int .i64 vn, .int .i64 vd, .int .i64 vx0, .int .i64 vx1, .int .i64 vx2, .int .i64 vx3, .int .i64 vx4] 55 := (((((((HBr.out.other hTZ 0 _).other hTZ 1 _).other hTZ 2 _).other hTZ 3 _).other hTZ 4 _).other hTZ 5 _).other hTZ 6 _)
            have hz2 : IsB (((((((Y.setCell ⟨Z, 0, none⟩ (.int .i64 mn)).setCell ⟨Z, 1, none⟩ (.int .i64 md)).setCell ⟨Z, 2, none⟩ (.int .i64 mx0)).setCell ⟨Z, 3, none⟩ (.int .i64 mx1)).setCell ⟨Z, 4, none⟩ (.int .i64 mx2)).setCell ⟨Z, 5, none⟩ (.int .i64 mx3)).setCell ⟨Z, 6, none⟩ (.int .i64 mx4)) Z #[.int .i64 mn, .int .i64 md, .int .i64 mx0, .int .i64 mx1, .int .i64 mx2, .int .i64 mx3, .int .i64 mx4] 55 := IsB.seven ⟨mn, md, mx0, mx1, mx2, mx3, mx4⟩ HZr.out
            have hg2 : w.grownBy (((((((Y.setCell ⟨Z, 0, none⟩ (.int .i64 mn)).setCell ⟨Z, 1, none⟩ (.int .i64 md)).setCell ⟨Z, 2, none⟩ (.int .i64 mx0)).setCell ⟨Z, 3, none⟩ (.int .i64 mx1)).setCell ⟨Z, 4, none⟩ (.int .i64 mx2)).setCell ⟨Z, 5, none⟩ (.int .i64 mx3)).setCell ⟨Z, 6, none⟩ (.int .i64 mx4)) (some B) := (g_set (g_set (g_set (g_set (g_set (g_set (g_set HGr.out (.inl hZ0) 0 _) (.inl hZ0) 1 _) (.inl hZ0) 2 _) (.inl hZ0) 3 _) (.inl hZ0) 4 _) (.inl hZ0) 5 _) (.inl hZ0) 6 _)
            clear HTr HBr HGr HZr f0z bb0 bb1 bb2 bb3 bb4 bb5 bb6 tt0 tt1 tt2 tt3 tt4 tt5 tt6 z0 fz0 z1 fz1 z2 fz2 z3 fz3 z4 fz4 z5 fz5 z6 fz6
            have HTr := hidU h2
            have HBr := hidU hb2
            have HGr := hidU hg2
            have HZr := hidU hz2
            clear h2 hb2 hg2 hz2
            have bb0 := HTr.out.1.cell (v := .int .i64 qn) 11 rfl
            have bb1 := HTr.out.1.cell (v := .int .i64 qd) 12 rfl
            have bb2 := HTr.out.1.cell (v := .int .i64 qx0) 13 rfl
            have bb3 := HTr.out.1.cell (v := .int .i64 qx1) 14 rfl
            have bb4 := HTr.out.1.cell (v := .int .i64 qx2) 15 rfl
            have bb5 := HTr.out.1.cell (v := .int .i64 qx3) 16 rfl
            have bb6 := HTr.out.1.cell (v := .int .i64 qx4) 17 rfl
            have tt0 := HBr.out.cell (v := .int .i64 vn) 0 rfl
            have tt1 := HBr.out.cell (v := .int .i64 vd) 1 rfl
            have tt2 := HBr.out.cell (v := .int .i64 vx0) 2 rfl
            have tt3 := HBr.out.cell (v := .int .i64 vx1) 3 rfl
            have tt4 := HBr.out.cell (v := .int .i64 vx2) 4 rfl
            have tt5 := HBr.out.cell (v := .int .i64 vx3) 5 rfl
            have tt6 := HBr.out.cell (v := .int .i64 vx4) 6 rfl
            obtain ⟨Y2, hY2⟩ : ∃ Y2, Y2 = (((((((Y.setCell ⟨Z, 0, none⟩ (.int .i64 mn)).setCell ⟨Z, 1, none⟩ (.int .i64 md)).setCell ⟨Z, 2, none⟩ (.int .i64 mx0)).setCell ⟨Z, 3, none⟩ (.int .i64 mx1)).setCell ⟨Z, 4, none⟩ (.int .i64 mx2)).setCell ⟨Z, 5, none⟩ (.int .i64 mx3)).setCell ⟨Z, 6, none⟩ (.int .i64 mx4)) := ⟨_, rfl⟩
            rw [← hY2] at HTr HBr HGr HZr bb0 bb1 bb2 bb3 bb4 bb5 bb6 tt0 tt1 tt2 tt3 tt4 tt5 tt6 ⊢
            clear hY2
            refine hKc.out _ _ ⟨bb0, bb1, bb2, bb3, bb4, bb5, bb6, tt0, tt1, tt2, tt3, tt4, tt5, tt6⟩ (fun hHeld => ?_)
            clear hKc Kc
            (try simp only [List.getElem_toArray]); (try simp only [List.getElem_cons_succ]); (try simp only [List.getElem_cons_zero]); (try simp only [Act.put]); (try simp only [List.setIfInBounds_toArray]); (try simp only [List.set_cons_succ]); (try simp only [List.set_cons_zero])
            refine wpAnyH_take (i := 11) (v := ?_) rfl (by kernel_rfl) (by kernel_rfl) (by kernel_rfl) (fun _ _ _ h => h) (Or.inl ⟨by kernel_rfl, ?_⟩) hHeld ?_
            rotate_left
            · intro wz hSw; (try dsimp only at hSw); go_simp; all_goals (try with_reducible rfl)
            (try simp only [List.getElem_toArray]); (try simp only [List.getElem_cons_succ]); (try simp only [List.getElem_cons_zero]); (try simp only [Act.put]); (try simp only [List.setIfInBounds_toArray]); (try simp only [List.set_cons_succ]); (try simp only [List.set_cons_zero])
            refine wpAnyH_done (by kernel_rfl) ?_ _
            refine NoPanic.normal ?_
            clear hHeld bb0 bb1 bb2 bb3 bb4 bb5 bb6 tt0 tt1 tt2 tt3 tt4 tt5 tt6
            have c10 := HTr.out.1.cell (v := .bool false) 10 rfl
            cases mo with
            | false =>
              obtain rfl : o = none := HS.out
              go_wp2
              go_ret
              exact ⟨_, rfl, HTr.out, HGr.out, fun q hq => by cases hq⟩
            | true =>
              have z0 := HZr.out.cell (v := .int .i64 mn) 0 rfl
              have z1 := HZr.out.cell (v := .int .i64 md) 1 rfl
              have z2 := HZr.out.cell (v := .int .i64 mx0) 2 rfl
              have z3 := HZr.out.cell (v := .int .i64 mx1) 3 rfl
              have z4 := HZr.out.cell (v := .int .i64 mx2) 4 rfl
              have z5 := HZr.out.cell (v := .int .i64 mx3) 5 rfl
              have z6 := HZr.out.cell (v := .int .i64 mx4) 6 rfl
              have bb0 := HTr.out.1.cell (v := .int .i64 qn) 11 rfl
              have bb1 := HTr.out.1.cell (v := .int .i64 qd) 12 rfl
              have bb2 := HTr.out.1.cell (v := .int .i64 qx0) 13 rfl
              have bb3 := HTr.out.1.cell (v := .int .i64 qx1) 14 rfl
              have bb4 := HTr.out.1.cell (v := .int .i64 qx2) 15 rfl
              have bb5 := HTr.out.1.cell (v := .int .i64 qx3) 16 rfl
              have bb6 := HTr.out.1.cell (v := .int .i64 qx4) 17 rfl
              have g0 := HTr.out.1.frozen 11
              have g1 := HTr.out.1.frozen 12
              have g2 := HTr.out.1.frozen 13
              have g3 := HTr.out.1.frozen 14
              have g4 := HTr.out.1.frozen 15
              have g5 := HTr.out.1.frozen 16
              have g6 := HTr.out.1.frozen 17
              have hNT := hidU (IsT.prod HTr.out ⟨mn, md, mx0, mx1, mx2, mx3, mx4⟩)
              have hTB2 : Hid (IsB (((((((Y2.setCell ⟨B, 11, none⟩ (.int .i64 mn)).setCell ⟨B, 12, none⟩ (.int .i64 md)).setCell ⟨B, 13, none⟩ (.int .i64 mx0)).setCell ⟨B, 14, none⟩ (.int .i64 mx1)).setCell ⟨B, 15, none⟩ (.int .i64 mx2)).setCell ⟨B, 16, none⟩ (.int .i64 mx3)).setCell ⟨B, 17, none⟩ (.int .i64 mx4)) T #[.int .i64 vn, .int .i64 vd, .int .i64 vx0, .int .i64 vx1, .int .i64 vx2, .int .i64 vx3, .int .i64 vx4] 55) := (((((((HBr.out.other hBT.symm 11 _).other hBT.symm 12 _).other hBT.symm 13 _).other hBT.symm 14 _).other hBT.symm 15 _).other hBT.symm 16 _).other hBT.symm 17 _)
              have hKk : (k : Int) + 1 ≤ K := by omega
              clear HZr HTr HBr
              go_wp2
              go_roundw
              case rel => exact ⟨k + 1, ⟨mn, md, mx0, mx1, mx2, mx3, mx4⟩, by omega, by go_num, HS.out, HD.out rfl, hNT.out.1, hTB2.out, HGr.out.trans hNT.out.2⟩
              case measure => simp [intOf]; omega
          · go_simp
            obtain ⟨Y, hY⟩ : ∃ Y, Y = (wr.alloc (.cells #[.int .i64 0, .int .i64 0, .int .i64 0, .int .i64 0, .int .i64 0, .int .i64 0, .int .i64 0] 55)).drew := ⟨_, rfl⟩
            obtain ⟨Z, hZ⟩ : ∃ Z, Z = wr.heap.size := ⟨_, rfl⟩
            have hby : Below wr.heap.size wr Y := by rw [hY]; exact (b0 _ _).drew
            have hz1 : IsB Y Z #[.int .i64 0, .int .i64 0, .int .i64 0, .int .i64 0, .int .i64 0, .int .i64 0, .int .i64 0] 55 := by rw [hY, hZ]; exact (IsB.new _ _ _).drew
            have HZr := hidU hz1
            have hBZ : B ≠ Z := by have := HTr.out.1.lt; omega
            have hMZ : M ≠ Z := by have := HTr.out.2.lt; omega
            have hTZ : T ≠ Z := by have := HBr.out.lt; omega
            have hZ0 : w.heap.size ≤ Z := by have := HGr.out.size; omega
            rw [← hY, ← hZ]
            clear hz1 hY hZ
            have h2 := HTr.out.below hby
            have hb2 := HBr.out.below hby
            have hg2 := g_below HGr.out hby
            clear HTr HBr HGr bb0 bb1 bb2 bb3 bb4 bb5 bb6 tt0 tt1 tt2 tt3 tt4 tt5 tt6
            have HTr := hidU h2
            have HBr := hidU hb2
            have HGr := hidU hg2
            clear h2 hb2 hg2
            have bb0 := HTr.out.1.cell (v := .int .i64 qn) 11 rfl
            have bb1 := HTr.out.1.cell (v := .int .i64 qd) 12 rfl
            have bb2 := HTr.out.1.cell (v := .int .i64 qx0) 13 rfl
            have bb3 := HTr.out.1.cell (v := .int .i64 qx1) 14 rfl
            have bb4 := HTr.out.1.cell (v := .int .i64 qx2) 15 rfl
            have bb5 := HTr.out.1.cell (v := .int .i64 qx3) 16 rfl
            have bb6 := HTr.out.1.cell (v := .int .i64 qx4) 17 rfl
            have tt0 := HBr.out.cell (v := .int .i64 vn) 0 rfl
            have tt1 := HBr.out.cell (v := .int .i64 vd) 1 rfl
            have tt2 := HBr.out.cell (v := .int .i64 vx0) 2 rfl
            have tt3 := HBr.out.cell (v := .int .i64 vx1) 3 rfl
            have tt4 := HBr.out.cell (v := .int .i64 vx2) 4 rfl
            have tt5 := HBr.out.cell (v := .int .i64 vx3) 5 rfl
            have tt6 := HBr.out.cell (v := .int .i64 vx4) 6 rfl
            clear hby
            refine hKc.out _ _ ⟨bb0, bb1, bb2, bb3, bb4, bb5, bb6, tt0, tt1, tt2, tt3, tt4, tt5, tt6⟩ (fun hHeld => ?_)
            clear hKc Kc
            (try simp only [List.getElem_toArray]); (try simp only [List.getElem_cons_succ]); (try simp only [List.getElem_cons_zero]); (try simp only [Act.put]); (try simp only [List.setIfInBounds_toArray]); (try simp only [List.set_cons_succ]); (try simp only [List.set_cons_zero])
            refine wpAnyH_ready (rs := [5]) (by kernel_rfl) (by simp) (AllReadyH.cons rfl (fun Kc hKc => ?_) AllReadyH.nil)
            go_simp
            (go_at_call 84; refine (HMul.out _).mono ?_)
            rintro e w2 ⟨rfl, hbx⟩
            have hb : Below Y.heap.size Y w2 := hbx
            replace HZr := hidU (HZr.out.below hb)
            have h2 := HTr.out.below hb
            have hb2 := HBr.out.below hb
            have hg2 := g_below HGr.out hb
            clear HTr HBr HGr bb0 bb1 bb2 bb3 bb4 bb5 bb6 tt0 tt1 tt2 tt3 tt4 tt5 tt6
            have HTr := hidU h2
            have HBr := hidU hb2
            have HGr := hidU hg2
            clear h2 hb2 hg2
            have bb0 := HTr.out.1.cell (v := .int .i64 qn) 11 rfl
            have bb1 := HTr.out.1.cell (v := .int .i64 qd) 12 rfl
            have bb2 := HTr.out.1.cell (v := .int .i64 qx0) 13 rfl
            have bb3 := HTr.out.1.cell (v := .int .i64 qx1) 14 rfl
            have bb4 := HTr.out.1.cell (v := .int .i64 qx2) 15 rfl
            have bb5 := HTr.out.1.cell (v := .int .i64 qx3) 16 rfl
            have bb6 := HTr.out.1.cell (v := .int .i64 qx4) 17 rfl
            have tt0 := HBr.out.cell (v := .int .i64 vn) 0 rfl
            have tt1 := HBr.out.cell (v := .int .i64 vd) 1 rfl
            have tt2 := HBr.out.cell (v := .int .i64 vx0) 2 rfl
            have tt3 := HBr.out.cell (v := .int .i64 vx1) 3 rfl
            have tt4 := HBr.out.cell (v := .int .i64 vx2) 4 rfl
            have tt5 := HBr.out.cell (v := .int .i64 vx3) 5 rfl
            have tt6 := HBr.out.cell (v := .int .i64 vx4) 6 rfl
            clear hbx hb
            go_wp2_with fail
            refine hKc.out _ _ ⟨bb0, bb1, bb2, bb3, bb4, bb5, bb6, tt0, tt1, tt2, tt3, tt4, tt5, tt6⟩ (fun hHeld => ?_)
            clear hKc Kc
            (try simp only [List.getElem_toArray]); (try simp only [List.getElem_cons_succ]); (try simp only [List.getElem_cons_zero]); (try simp only [Act.put]); (try simp only [List.setIfInBounds_toArray]); (try simp only [List.set_cons_succ]); (try simp only [List.set_cons_zero])
            refine wpAnyH_take (i := 6) (v := ?_) rfl (by kernel_rfl) (by kernel_rfl) (by kernel_rfl) (fun _ _ _ h => h) (Or.inl ⟨by kernel_rfl, ?_⟩) hHeld ?_
            rotate_left
            · intro wz hSw; (try dsimp only at hSw); go_simp; all_goals (try with_reducible rfl)
            (try simp only [List.getElem_toArray]); (try simp only [List.getElem_cons_succ]); (try simp only [List.getElem_cons_zero]); (try simp only [Act.put]); (try simp only [List.setIfInBounds_toArray]); (try simp only [List.set_cons_succ]); (try simp only [List.set_cons_zero])
            refine wpAnyH_take (i := 7) (v := ?_) rfl (by kernel_rfl) (by kernel_rfl) (by kernel_rfl) (fun _ _ _ h => h) (Or.inl ⟨by kernel_rfl, ?_⟩) hHeld ?_
            rotate_left
            · intro wz hSw; (try dsimp only at hSw); go_simp; all_goals (try with_reducible rfl)
            (try simp only [List.getElem_toArray]); (try simp only [List.getElem_cons_succ]); (try simp only [List.getElem_cons_zero]); (try simp only [Act.put]); (try simp only [List.setIfInBounds_toArray]); (try simp only [List.set_cons_succ]); (try simp only [List.set_cons_zero])
            refine wpAnyH_take (i := 8) (v := ?_) rfl (by kernel_rfl) (by kernel_rfl) (by kernel_rfl) (fun _ _ _ h => h) (Or.inl ⟨by kernel_rfl, ?_⟩) hHeld ?_
            rotate_left
            · intro wz hSw; (try dsimp only at hSw); go_simp; all_goals (try with_reducible rfl)
            (try simp only [List.getElem_toArray]); (try simp only [List.getElem_cons_succ]); (try simp only [List.getElem_cons_zero]); (try simp only [Act.put]); (try simp only [List.setIfInBounds_toArray]); (try simp only [List.set_cons_succ]); (try simp only [List.set_cons_zero])
            have f0z := HZr.out.frozen
            have z0 := HZr.out.cell (v := .int .i64 0) 0 rfl
            have z1 := HZr.out.cell (v := .int .i64 0) 1 rfl
            have z2 := HZr.out.cell (v := .int .i64 0) 2 rfl
            have z3 := HZr.out.cell (v := .int .i64 0) 3 rfl
            have z4 := HZr.out.cell (v := .int .i64 0) 4 rfl
            have z5 := HZr.out.cell (v := .int .i64 0) 5 rfl
            have z6 := HZr.out.cell (v := .int .i64 0) 6 rfl
            have fz0 := HZr.out.frozen 0
            have fz1 := HZr.out.frozen 1
            have fz2 := HZr.out.frozen 2
            have fz3 := HZr.out.frozen 3
            have fz4 := HZr.out.frozen 4
            have fz5 := HZr.out.frozen 5
            have fz6 := HZr.out.frozen 6
            refine wpAnyH_ready (rs := [10]) (by kernel_rfl) (by simp) (AllReadyH.cons rfl (fun Kc hKc => ?_) AllReadyH.nil)
            go_simp
            have h2 : IsT (((((((w2.setCell ⟨Z, 0, none⟩ (.int .i64 mn)).setCell ⟨Z, 1, none⟩ (.int .i64 md)).setCell ⟨Z, 2, none⟩ (.int .i64 mx0)).setCell ⟨Z, 3, none⟩ (.int .i64 mx1)).setCell ⟨Z, 4, none⟩ (.int .i64 mx2)).setCell ⟨Z, 5, none⟩ (.int .i64 mx3)).setCell ⟨Z, 6, none⟩ (.int .i64 mx4)) B M s u p false ⟨qn, qd, qx0, qx1, qx2, qx3, qx4⟩ := (IsT.other (IsT.other (IsT.other (IsT.other (IsT.other (IsT.other (IsT.other HTr.out hBZ hMZ 0 _) hBZ hMZ 1 _) hBZ hMZ 2 _) hBZ hMZ 3 _) hBZ hMZ 4 _) hBZ hMZ 5 _) hBZ hMZ 6 _)
            have hb2 : IsB (((((((w2.setCell ⟨Z, 0, none⟩ (.int .i64 mn)).setCell ⟨Z, 1, none⟩ (.int .i64 md)).setCell ⟨Z, 2, none⟩ (.int .i64 mx0)).setCell ⟨Z, 3, none⟩ (.int .i64 mx1)).setCell ⟨Z, 4, none⟩ (.int .i64 mx2)).setCell ⟨Z, 5, none⟩ (.int .i64 mx3)).setCell ⟨Z, 6, none⟩ (.int .i64 mx4)) T #[.int .i64 vn, .int .i64 vd, .int .i64 vx0, .int .i64 vx1, .int .i64 vx2, .int .i64 vx3, .int .i64 vx4] 55 := (((((((HBr.out.other hTZ 0 _).other hTZ 1 _).other hTZ 2 _).other hTZ 3 _).other hTZ 4 _).other hTZ 5 _).other hTZ 6 _)
            have hz2 : IsB (((((((w2.setCell ⟨Z, 0, none⟩ (.int .i64 mn)).setCell ⟨Z, 1, none⟩ (.int .i64 md)).setCell ⟨Z, 2, none⟩ (.int .i64 mx0)).setCell ⟨Z, 3, none⟩ (.int .i64 mx1)).setCell ⟨Z, 4, none⟩ (.int .i64 mx2)).setCell ⟨Z, 5, none⟩ (.int .i64 mx3)).setCell ⟨Z, 6, none⟩ (.int .i64 mx4)) Z #[.int .i64 mn, .int .i64 md, .int .i64 mx0, .int .i64 mx1, .int .i64 mx2, .int .i64 mx3, .int .i64 mx4] 55 := IsB.seven ⟨mn, md, mx0, mx1, mx2, mx3, mx4⟩ HZr.out
            have hg2 : w.grownBy (((((((w2.setCell ⟨Z, 0, none⟩ (.int .i64 mn)).setCell ⟨Z, 1, none⟩ (.int .i64 md)).setCell ⟨Z, 2, none⟩ (.int .i64 mx0)).setCell ⟨Z, 3, none⟩ (.int .i64 mx1)).setCell ⟨Z, 4, none⟩ (.int .i64 mx2)).setCell ⟨Z, 5, none⟩ (.int .i64 mx3)).setCell ⟨Z, 6, none⟩ (.int .i64 mx4)) (some B) := (g_set (g_set (g_set (g_set (g_set (g_set (g_set HGr.out (.inl hZ0) 0 _) (.inl hZ0) 1 _) (.inl hZ0) 2 _) (.inl hZ0) 3 _) (.inl hZ0) 4 _) (.inl hZ0) 5 _) (.inl hZ0) 6 _)
            clear HTr HBr HGr HZr f0z bb0 bb1 bb2 bb3 bb4 bb5 bb6 tt0 tt1 tt2 tt3 tt4 tt5 tt6 z0 fz0 z1 fz1 z2 fz2 z3 fz3 z4 fz4 z5 fz5 z6 fz6
            have HTr := hidU h2
            have HBr := hidU hb2
            have HGr := hidU hg2
            have HZr := hidU hz2
            clear h2 hb2 hg2 hz2
            have bb0 := HTr.out.1.cell (v := .int .i64 qn) 11 rfl
            have bb1 := HTr.out.1.cell (v := .int .i64 qd) 12 rfl
            have bb2 := HTr.out.1.cell (v := .int .i64 qx0) 13 rfl
            have bb3 := HTr.out.1.cell (v := .int .i64 qx1) 14 rfl
            have bb4 := HTr.out.1.cell (v := .int .i64 qx2) 15 rfl
            have bb5 := HTr.out.1.cell (v := .int .i64 qx3) 16 rfl
            have bb6 := HTr.out.1.cell (v := .int .i64 qx4) 17 rfl
            have tt0 := HBr.out.cell (v := .int .i64 vn) 0 rfl
            have tt1 := HBr.out.cell (v := .int .i64 vd) 1 rfl
            have tt2 := HBr.out.cell (v := .int .i64 vx0) 2 rfl
            have tt3 := HBr.out.cell (v := .int .i64 vx1) 3 rfl
            have tt4 := HBr.out.cell (v := .int .i64 vx2) 4 rfl
            have tt5 := HBr.out.cell (v := .int .i64 vx3) 5 rfl
            have tt6 := HBr.out.cell (v := .int .i64 vx4) 6 rfl
            obtain ⟨Y2, hY2⟩ : ∃ Y2, Y2 = (((((((w2.setCell ⟨Z, 0, none⟩ (.int .i64 mn)).setCell ⟨Z, 1, none⟩ (.int .i64 md)).setCell ⟨Z, 2, none⟩ (.int .i64 mx0)).setCell ⟨Z, 3, none⟩ (.int .i64 mx1)).setCell ⟨Z, 4, none⟩ (.int .i64 mx2)).setCell ⟨Z, 5, none⟩ (.int .i64 mx3)).setCell ⟨Z, 6, none⟩ (.int .i64 mx4)) := ⟨_, rfl⟩
            rw [← hY2] at HTr HBr HGr HZr bb0 bb1 bb2 bb3 bb4 bb5 bb6 tt0 tt1 tt2 tt3 tt4 tt5 tt6 ⊢
            clear hY2
            refine hKc.out _ _ ⟨bb0, bb1, bb2, bb3, bb4, bb5, bb6, tt0, tt1, tt2, tt3, tt4, tt5, tt6⟩ (fun hHeld => ?_)
            clear hKc Kc
            (try simp only [List.getElem_toArray]); (try simp only [List.getElem_cons_succ]); (try simp only [List.getElem_cons_zero]); (try simp only [Act.put]); (try simp only [List.setIfInBounds_toArray]); (try simp only [List.set_cons_succ]); (try simp only [List.set_cons_zero])
            refine wpAnyH_take (i := 11) (v := ?_) rfl (by kernel_rfl) (by kernel_rfl) (by kernel_rfl) (fun _ _ _ h => h) (Or.inl ⟨by kernel_rfl, ?_⟩) hHeld ?_
            rotate_left
            · intro wz hSw; (try dsimp only at hSw); go_simp; all_goals (try with_reducible rfl)
            (try simp only [List.getElem_toArray]); (try simp only [List.getElem_cons_succ]); (try simp only [List.getElem_cons_zero]); (try simp only [Act.put]); (try simp only [List.setIfInBounds_toArray]); (try simp only [List.set_cons_succ]); (try simp only [List.set_cons_zero])
            refine wpAnyH_done (by kernel_rfl) ?_ _
            refine NoPanic.normal ?_
            clear hHeld bb0 bb1 bb2 bb3 bb4 bb5 bb6 tt0 tt1 tt2 tt3 tt4 tt5 tt6
            have c10 := HTr.out.1.cell (v := .bool false) 10 rfl
            cases mo with
            | false =>
              obtain rfl : o = none := HS.out
              go_wp2
              go_ret
              exact ⟨_, rfl, HTr.out, HGr.out, fun q hq => by cases hq⟩
            | true =>
              have z0 := HZr.out.cell (v := .int .i64 mn) 0 rfl
              have z1 := HZr.out.cell (v := .int .i64 md) 1 rfl
              have z2 := HZr.out.cell (v := .int .i64 mx0) 2 rfl
              have z3 := HZr.out.cell (v := .int .i64 mx1) 3 rfl
              have z4 := HZr.out.cell (v := .int .i64 mx2) 4 rfl
              have z5 := HZr.out.cell (v := .int .i64 mx3) 5 rfl
              have z6 := HZr.out.cell (v := .int .i64 mx4) 6 rfl
              have bb0 := HTr.out.1.cell (v := .int .i64 qn) 11 rfl
              have bb1 := HTr.out.1.cell (v := .int .i64 qd) 12 rfl
              have bb2 := HTr.out.1.cell (v := .int .i64 qx0) 13 rfl
              have bb3 := HTr.out.1.cell (v := .int .i64 qx1) 14 rfl
              have bb4 := HTr.out.1.cell (v := .int .i64 qx2) 15 rfl
              have bb5 := HTr.out.1.cell (v := .int .i64 qx3) 16 rfl
              have bb6 := HTr.out.1.cell (v := .int .i64 qx4) 17 rfl
              have g0 := HTr.out.1.frozen 11
              have g1 := HTr.out.1.frozen 12
              have g2 := HTr.out.1.frozen 13
              have g3 := HTr.out.1.frozen 14
              have g4 := HTr.out.1.frozen 15
              have g5 := HTr.out.1.frozen 16
              have g6 := HTr.out.1.frozen 17
              have hNT := hidU (IsT.prod HTr.out ⟨mn, md, mx0, mx1, mx2, mx3, mx4⟩)
              have hTB2 : Hid (IsB (((((((Y2.setCell ⟨B, 11, none⟩ (.int .i64 mn)).setCell ⟨B, 12, none⟩ (.int .i64 md)).setCell ⟨B, 13, none⟩ (.int .i64 mx0)).setCell ⟨B, 14, none⟩ (.int .i64 mx1)).setCell ⟨B, 15, none⟩ (.int .i64 mx2)).setCell ⟨B, 16, none⟩ (.int .i64 mx3)).setCell ⟨B, 17, none⟩ (.int .i64 mx4)) T #[.int .i64 vn, .int .i64 vd, .int .i64 vx0, .int .i64 vx1, .int .i64 vx2, .int .i64 vx3, .int .i64 vx4] 55) := (((((((HBr.out.other hBT.symm 11 _).other hBT.symm 12 _).other hBT.symm 13 _).other hBT.symm 14 _).other hBT.symm 15 _).other hBT.symm 16 _).other hBT.symm 17 _)
              have hKk : (k : Int) + 1 ≤ K := by omega
              clear HZr HTr HBr
              go_wp2
              go_roundw
              case rel => exact ⟨k + 1, ⟨mn, md, mx0, mx1, mx2, mx3, mx4⟩, by omega, by go_num, HS.out, HD.out rfl, hNT.out.1, hTB2.out, HGr.out.trans hNT.out.2⟩
              case measure => simp [intOf]; omega
        · obtain rfl : k = K := by omega
          have ho : o = some P' := by rw [HOk.out, Nat.sub_self]; rfl
          subst ho
          go_wp2
          go_ret
          exact ⟨P', rfl, HTr.out, HGr.out, fun q hq => by cases hq; exact ⟨rfl, HPk.out⟩⟩
    · have e' : u = v := by rw [hv]; simp [hn]
      have hKp : p = K := by omega
      clear hv hK HV
      have hlt := HT.out.1.lt
      have hne : B ≠ w.heap.size := by omega
      obtain ⟨vn, vd, vx0, vx1, vx2, vx3, vx4⟩ := v
      simp only [e'] at c2 c3 c4 c5 c6 c7 c8
      clear e'
      have e2 := fun o => cell_al o c2
      have e3 := fun o => cell_al o c3
      have e4 := fun o => cell_al o c4
      have e5 := fun o => cell_al o c5
      have e6 := fun o => cell_al o c6
      have e7 := fun o => cell_al o c7
      have e8 := fun o => cell_al o c8
      have e9 := fun o => cell_al o c9
      have e10 := fun o => cell_al o c10
      go_enter Tryz.func57, Tryz.ntmps57
      go_upto_region 1 with fail
      go_region
      obtain ⟨X, hX⟩ : ∃ X, X = (w.alloc (.cells #[.int .i64 vn, .int .i64 vd, .int .i64 vx0, .int .i64 vx1, .int .i64 vx2, .int .i64 vx3, .int .i64 vx4] 55)).drew := ⟨_, rfl⟩
      obtain ⟨T, hTe⟩ : ∃ T, T = w.heap.size := ⟨_, rfl⟩
      have hbX : Below w.heap.size w X := by rw [hX]; exact (b0 _ _).drew
      have hTB : IsB X T #[.int .i64 vn, .int .i64 vd, .int .i64 vx0, .int .i64 vx1, .int .i64 vx2, .int .i64 vx3, .int .i64 vx4] 55 := by rw [hX, hTe]; exact (IsB.new _ _ _).drew
      have hTX := HT.out.below hbX
      have HGX := hidU (grown_new (row := some B) hbX)
      have hBT : B ≠ T := by omega
      rw [← hX, ← hTe]
      clear hlt hne c2 e2 c3 e3 c4 e4 c5 e5 c6 e6 c7 e7 c8 e8 c9 e9 c10 e10
      have e10 := hTX.1.cell (v := .bool false) 10 rfl
      have HTX := hidU hTX
      have HTB := hidU hTB
      clear hTX hTB hX hTe hbX HT
      have hK0 : ¬ (K : Int) < 0 := by omega
      go_wp2
      clear e10
      go_loopw [28] (fun i wr => ∃ (k : Nat) (P' : UV), k ≤ K ∧ i = .int .i64 k ∧ Hid (o = mulN ⟨vn, vd, vx0, vx1, vx2, vx3, vx4⟩ (K - k) P') ∧ Hid (okD P') ∧ Hid (IsT wr B M s u p false P') ∧ Hid (IsB wr T #[.int .i64 vn, .int .i64 vd, .int .i64 vx0, .int .i64 vx1, .int .i64 vx2, .int .i64 vx3, .int .i64 vx4] 55) ∧ Hid (w.grownBy wr (some B))) (fun i _ => K - (intOf i).toNat)
      case atStart => exact ⟨0, P, Nat.zero_le _, rfl, HO.out, HP.out, HTX.out, HTB.out, HGX.out⟩
      case round =>
        clear HTX HTB HGX HO HP
        obtain ⟨k, P', hk, rfl, HOk, HPk, HTr, HBr, HGr⟩ := hrel
        by_cases hlt : k < K
        · obtain ⟨qn, qd, qx0, qx1, qx2, qx3, qx4⟩ := P'
          obtain ⟨⟨⟨mn, md, mx0, mx1, mx2, mx3, mx4⟩, mo⟩, hm⟩ : ∃ m, m = mulV ⟨qn, qd, qx0, qx1, qx2, qx3, qx4⟩ ⟨vn, vd, vx0, vx1, vx2, vx3, vx4⟩ := ⟨_, rfl⟩
          have HMul : Hid (∀ W, Calls Tryz.prog 84 #[.agg #[.int .i64 qn, .int .i64 qd, .int .i64 qx0, .int .i64 qx1, .int .i64 qx2, .int .i64 qx3, .int .i64 qx4], .agg #[.int .i64 vn, .int .i64 vd, .int .i64 vx0, .int .i64 vx1, .int .i64 vx2, .int .i64 vx3, .int .i64 vx4]] W fun e w' => e = .returned (.tuple #[.agg #[.int .i64 mn, .int .i64 md, .int .i64 mx0, .int .i64 mx1, .int .i64 mx2, .int .i64 mx3, .int .i64 mx4], .bool mo]) ∧ Below W.heap.size W w') := fun W => by
            have := vtimes_any ⟨qn, qd, qx0, qx1, qx2, qx3, qx4⟩ ⟨vn, vd, vx0, vx1, vx2, vx3, vx4⟩ W HPk.out HVD.out
            rw [← hm] at this
            exact this
          have HS : Hid (o = if mo = true then mulN ⟨vn, vd, vx0, vx1, vx2, vx3, vx4⟩ (K - (k + 1)) ⟨mn, md, mx0, mx1, mx2, mx3, mx4⟩ else none) := by
            show _ = _
            rw [HOk.out, show K - k = (K - (k + 1)) + 1 by omega]
            rw [mulN_succ, ← hm]
          have HD : Hid (mo = true → okD ⟨mn, md, mx0, mx1, mx2, mx3, mx4⟩) := fun e => by
            have := @okD_mul ⟨qn, qd, qx0, qx1, qx2, qx3, qx4⟩ ⟨vn, vd, vx0, vx1, vx2, vx3, vx4⟩ (by rw [← hm]; exact e)
            rw [← hm] at this
            exact this
          have hki : (k : Int) < K := by omega
          clear hm HOk HPk
          have bb0 := HTr.out.1.cell (v := .int .i64 qn) 11 rfl
          have bb1 := HTr.out.1.cell (v := .int .i64 qd) 12 rfl
          have bb2 := HTr.out.1.cell (v := .int .i64 qx0) 13 rfl
          have bb3 := HTr.out.1.cell (v := .int .i64 qx1) 14 rfl
          have bb4 := HTr.out.1.cell (v := .int .i64 qx2) 15 rfl
          have bb5 := HTr.out.1.cell (v := .int .i64 qx3) 16 rfl
          have bb6 := HTr.out.1.cell (v := .int .i64 qx4) 17 rfl
          have tt0 := HBr.out.cell (v := .int .i64 vn) 0 rfl
          have tt1 := HBr.out.cell (v := .int .i64 vd) 1 rfl
          have tt2 := HBr.out.cell (v := .int .i64 vx0) 2 rfl
          have tt3 := HBr.out.cell (v := .int .i64 vx1) 3 rfl
          have tt4 := HBr.out.cell (v := .int .i64 vx2) 4 rfl
          have tt5 := HBr.out.cell (v := .int .i64 vx3) 5 rfl
          have tt6 := HBr.out.cell (v := .int .i64 vx4) 6 rfl
          go_upto_region 8 with fail
          refine wp_region_noPanic ?_
          refine wp_region_held_drew (S := (fun w' => w'.cell? ⟨B, 11, none⟩ = some (.int .i64 qn) ∧ w'.cell? ⟨B, 12, none⟩ = some (.int .i64 qd) ∧ w'.cell? ⟨B, 13, none⟩ = some (.int .i64 qx0) ∧ w'.cell? ⟨B, 14, none⟩ = some (.int .i64 qx1) ∧ w'.cell? ⟨B, 15, none⟩ = some (.int .i64 qx2) ∧ w'.cell? ⟨B, 16, none⟩ = some (.int .i64 qx3) ∧ w'.cell? ⟨B, 17, none⟩ = some (.int .i64 qx4) ∧ w'.cell? ⟨T, 0, none⟩ = some (.int .i64 vn) ∧ w'.cell? ⟨T, 1, none⟩ = some (.int .i64 vd) ∧ w'.cell? ⟨T, 2, none⟩ = some (.int .i64 vx0) ∧ w'.cell? ⟨T, 3, none⟩ = some (.int .i64 vx1) ∧ w'.cell? ⟨T, 4, none⟩ = some (.int .i64 vx2) ∧ w'.cell? ⟨T, 5, none⟩ = some (.int .i64 vx3) ∧ w'.cell? ⟨T, 6, none⟩ = some (.int .i64 vx4))) (by kernel_rfl) ⟨bb0, bb1, bb2, bb3, bb4, bb5, bb6, tt0, tt1, tt2, tt3, tt4, tt5, tt6⟩ (fun hHeld => ?_)
          refine wpAnyH_take (i := 0) (v := ?_) rfl (by kernel_rfl) (by kernel_rfl) (by kernel_rfl) (fun _ _ _ h => h) (Or.inl ⟨by kernel_rfl, ?_⟩) hHeld ?_
          rotate_left
          · intro wz hSw; (try dsimp only at hSw); go_simp; all_goals (try with_reducible rfl)
          (try simp only [List.getElem_toArray]); (try simp only [List.getElem_cons_succ]); (try simp only [List.getElem_cons_zero]); (try simp only [Act.put]); (try simp only [List.setIfInBounds_toArray]); (try simp only [List.set_cons_succ]); (try simp only [List.set_cons_zero])
          refine wpAnyH_take (i := 1) (v := ?_) rfl (by kernel_rfl) (by kernel_rfl) (by kernel_rfl) (fun _ _ _ h => h) (Or.inl ⟨by kernel_rfl, ?_⟩) hHeld ?_
          rotate_left
          · intro wz hSw; (try dsimp only at hSw); go_simp; all_goals (try with_reducible rfl)
          (try simp only [List.getElem_toArray]); (try simp only [List.getElem_cons_succ]); (try simp only [List.getElem_cons_zero]); (try simp only [Act.put]); (try simp only [List.setIfInBounds_toArray]); (try simp only [List.set_cons_succ]); (try simp only [List.set_cons_zero])
          refine wpAnyH_take (i := 2) (v := ?_) rfl (by kernel_rfl) (by kernel_rfl) (by kernel_rfl) (fun _ _ _ h => h) (Or.inl ⟨by kernel_rfl, ?_⟩) hHeld ?_
          rotate_left
          · intro wz hSw; (try dsimp only at hSw); go_simp; all_goals (try with_reducible rfl)
          (try simp only [List.getElem_toArray]); (try simp only [List.getElem_cons_succ]); (try simp only [List.getElem_cons_zero]); (try simp only [Act.put]); (try simp only [List.setIfInBounds_toArray]); (try simp only [List.set_cons_succ]); (try simp only [List.set_cons_zero])
          refine wpAnyH_take (i := 3) (v := ?_) rfl (by kernel_rfl) (by kernel_rfl) (by kernel_rfl) (fun _ _ _ h => h) (Or.inl ⟨by kernel_rfl, ?_⟩) hHeld ?_
          rotate_left
          · intro wz hSw; (try dsimp only at hSw); go_simp; all_goals (try with_reducible rfl)
          (try simp only [List.getElem_toArray]); (try simp only [List.getElem_cons_succ]); (try simp only [List.getElem_cons_zero]); (try simp only [Act.put]); (try simp only [List.setIfInBounds_toArray]); (try simp only [List.set_cons_succ]); (try simp only [List.set_cons_zero])
          refine wpAnyH_take (i := 4) (v := ?_) rfl (by kernel_rfl) (by kernel_rfl) (by kernel_rfl) (fun _ _ _ h => h) (Or.inl ⟨by kernel_rfl, ?_⟩) hHeld ?_
          rotate_left
          · intro wz hSw; (try dsimp only at hSw); go_simp; all_goals (try with_reducible rfl)
          (try simp only [List.getElem_toArray]); (try simp only [List.getElem_cons_succ]); (try simp only [List.getElem_cons_zero]); (try simp only [Act.put]); (try simp only [List.setIfInBounds_toArray]); (try simp only [List.set_cons_succ]); (try simp only [List.set_cons_zero])
          refine wpAnyH_ready (rs := [5, 9]) (by kernel_rfl) (by simp) (AllReadyH.cons rfl (fun Kc hKc => ?_) (AllReadyH.cons rfl (fun Kc hKc => ?_) AllReadyH.nil))
          · go_simp
            (go_at_call 84; refine (HMul.out _).mono ?_)
            rintro e w2 ⟨rfl, hbx⟩
            have hb : Below wr.heap.size wr w2 := ((Below.refl _ _).drew).trans hbx
            have h2 := HTr.out.below hb
            have hb2 := HBr.out.below hb
            have hg2 := g_below HGr.out hb
            clear HTr HBr HGr bb0 bb1 bb2 bb3 bb4 bb5 bb6 tt0 tt1 tt2 tt3 tt4 tt5 tt6
            have HTr := hidU h2
            have HBr := hidU hb2
            have HGr := hidU hg2
            clear h2 hb2 hg2
            have bb0 := HTr.out.1.cell (v := .int .i64 qn) 11 rfl
            have bb1 := HTr.out.1.cell (v := .int .i64 qd) 12 rfl
            have bb2 := HTr.out.1.cell (v := .int .i64 qx0) 13 rfl
            have bb3 := HTr.out.1.cell (v := .int .i64 qx1) 14 rfl
            have bb4 := HTr.out.1.cell (v := .int .i64 qx2) 15 rfl
            have bb5 := HTr.out.1.cell (v := .int .i64 qx3) 16 rfl
            have bb6 := HTr.out.1.cell (v := .int .i64 qx4) 17 rfl
            have tt0 := HBr.out.cell (v := .int .i64 vn) 0 rfl
            have tt1 := HBr.out.cell (v := .int .i64 vd) 1 rfl
            have tt2 := HBr.out.cell (v := .int .i64 vx0) 2 rfl
            have tt3 := HBr.out.cell (v := .int .i64 vx1) 3 rfl
            have tt4 := HBr.out.cell (v := .int .i64 vx2) 4 rfl
            have tt5 := HBr.out.cell (v := .int .i64 vx3) 5 rfl
            have tt6 := HBr.out.cell (v := .int .i64 vx4) 6 rfl
            clear hbx hb
            go_wp2_with fail
            refine hKc.out _ _ ⟨bb0, bb1, bb2, bb3, bb4, bb5, bb6, tt0, tt1, tt2, tt3, tt4, tt5, tt6⟩ (fun hHeld => ?_)
            clear hKc Kc
            (try simp only [List.getElem_toArray]); (try simp only [List.getElem_cons_succ]); (try simp only [List.getElem_cons_zero]); (try simp only [Act.put]); (try simp only [List.setIfInBounds_toArray]); (try simp only [List.set_cons_succ]); (try simp only [List.set_cons_zero])
            refine wpAnyH_take (i := 6) (v := ?_) rfl (by kernel_rfl) (by kernel_rfl) (by kernel_rfl) (fun _ _ _ h => h) (Or.inl ⟨by kernel_rfl, ?_⟩) hHeld ?_
            rotate_left
            · intro wz hSw; (try dsimp only at hSw); go_simp; all_goals (try with_reducible rfl)
            (try simp only [List.getElem_toArray]); (try simp only [List.getElem_cons_succ]); (try simp only [List.getElem_cons_zero]); (try simp only [Act.put]); (try simp only [List.setIfInBounds_toArray]); (try simp only [List.set_cons_succ]); (try simp only [List.set_cons_zero])
            refine wpAnyH_take (i := 7) (v := ?_) rfl (by kernel_rfl) (by kernel_rfl) (by kernel_rfl) (fun _ _ _ h => h) (Or.inl ⟨by kernel_rfl, ?_⟩) hHeld ?_
            rotate_left
            · intro wz hSw; (try dsimp only at hSw); go_simp; all_goals (try with_reducible rfl)
            (try simp only [List.getElem_toArray]); (try simp only [List.getElem_cons_succ]); (try simp only [List.getElem_cons_zero]); (try simp only [Act.put]); (try simp only [List.setIfInBounds_toArray]); (try simp only [List.set_cons_succ]); (try simp only [List.set_cons_zero])
            refine wpAnyH_take (i := 8) (v := ?_) rfl (by kernel_rfl) (by kernel_rfl) (by kernel_rfl) (fun _ _ _ h => h) (Or.inl ⟨by kernel_rfl, ?_⟩) hHeld ?_
            rotate_left
            · intro wz hSw; (try dsimp only at hSw); go_simp; all_goals (try with_reducible rfl)
            (try simp only [List.getElem_toArray]); (try simp only [List.getElem_cons_succ]); (try simp only [List.getElem_cons_zero]); (try simp only [Act.put]); (try simp only [List.setIfInBounds_toArray]); (try simp only [List.set_cons_succ]); (try simp only [List.set_cons_zero])
            refine wpAnyH_ready (rs := [9]) (by kernel_rfl) (by simp) (AllReadyH.cons rfl (fun Kc hKc => ?_) AllReadyH.nil)
            go_simp
            obtain ⟨Y, hY⟩ : ∃ Y, Y = w2.alloc (.cells #[.int .i64 0, .int .i64 0, .int .i64 0, .int .i64 0, .int .i64 0, .int .i64 0, .int .i64 0] 55) := ⟨_, rfl⟩
            obtain ⟨Z, hZ⟩ : ∃ Z, Z = w2.heap.size := ⟨_, rfl⟩
            have hby : Below w2.heap.size w2 Y := by rw [hY]; exact b0 _ _
            have hz1 : IsB Y Z #[.int .i64 0, .int .i64 0, .int .i64 0, .int .i64 0, .int .i64 0, .int .i64 0, .int .i64 0] 55 := by rw [hY, hZ]; exact IsB.new _ _ _
            have HZr := hidU hz1
            have hBZ : B ≠ Z := by have := HTr.out.1.lt; omega
            have hMZ : M ≠ Z := by have := HTr.out.2.lt; omega
            have hTZ : T ≠ Z := by have := HBr.out.lt; omega
            have hZ0 : w.heap.size ≤ Z := by have := HGr.out.size; omega
            rw [← hY, ← hZ]
            clear hz1 hY hZ
            have h2 := HTr.out.below hby
            have hb2 := HBr.out.below hby
            have hg2 := g_below HGr.out hby
            clear HTr HBr HGr bb0 bb1 bb2 bb3 bb4 bb5 bb6 tt0 tt1 tt2 tt3 tt4 tt5 tt6
            have HTr := hidU h2
            have HBr := hidU hb2
            have HGr := hidU hg2
            clear h2 hb2 hg2
            have bb0 := HTr.out.1.cell (v := .int .i64 qn) 11 rfl
            have bb1 := HTr.out.1.cell (v := .int .i64 qd) 12 rfl
            have bb2 := HTr.out.1.cell (v := .int .i64 qx0) 13 rfl
            have bb3 := HTr.out.1.cell (v := .int .i64 qx1) 14 rfl
            have bb4 := HTr.out.1.cell (v := .int .i64 qx2) 15 rfl
            have bb5 := HTr.out.1.cell (v := .int .i64 qx3) 16 rfl
            have bb6 := HTr.out.1.cell (v := .int .i64 qx4) 17 rfl
            have tt0 := HBr.out.cell (v := .int .i64 vn) 0 rfl
            have tt1 := HBr.out.cell (v := .int .i64 vd) 1 rfl
            have tt2 := HBr.out.cell (v := .int .i64 vx0) 2 rfl
            have tt3 := HBr.out.cell (v := .int .i64 vx1) 3 rfl
            have tt4 := HBr.out.cell (v := .int .i64 vx2) 4 rfl
            have tt5 := HBr.out.cell (v := .int .i64 vx3) 5 rfl
            have tt6 := HBr.out.cell (v := .int .i64 vx4) 6 rfl
            clear hby
            refine hKc.out _ _ ⟨bb0, bb1, bb2, bb3, bb4, bb5, bb6, tt0, tt1, tt2, tt3, tt4, tt5, tt6⟩ (fun hHeld => ?_)
            clear hKc Kc
            (try simp only [List.getElem_toArray]); (try simp only [List.getElem_cons_succ]); (try simp only [List.getElem_cons_zero]); (try simp only [Act.put]); (try simp only [List.setIfInBounds_toArray]); (try simp only [List.set_cons_succ]); (try simp only [List.set_cons_zero])
            have f0z := HZr.out.frozen
            have z0 := HZr.out.cell (v := .int .i64 0) 0 rfl
            have z1 := HZr.out.cell (v := .int .i64 0) 1 rfl
            have z2 := HZr.out.cell (v := .int .i64 0) 2 rfl
            have z3 := HZr.out.cell (v := .int .i64 0) 3 rfl
            have z4 := HZr.out.cell (v := .int .i64 0) 4 rfl
            have z5 := HZr.out.cell (v := .int .i64 0) 5 rfl
            have z6 := HZr.out.cell (v := .int .i64 0) 6 rfl
            have fz0 := HZr.out.frozen 0
            have fz1 := HZr.out.frozen 1
            have fz2 := HZr.out.frozen 2
            have fz3 := HZr.out.frozen 3
            have fz4 := HZr.out.frozen 4
            have fz5 := HZr.out.frozen 5
            have fz6 := HZr.out.frozen 6
            refine wpAnyH_ready (rs := [10]) (by kernel_rfl) (by simp) (AllReadyH.cons rfl (fun Kc hKc => ?_) AllReadyH.nil)
            go_simp
            have h2 : IsT (((((((Y.setCell ⟨Z, 0, none⟩ (.int .i64 mn)).setCell ⟨Z, 1, none⟩ (.int .i64 md)).setCell ⟨Z, 2, none⟩ (.int .i64 mx0)).setCell ⟨Z, 3, none⟩ (.int .i64 mx1)).setCell ⟨Z, 4, none⟩ (.int .i64 mx2)).setCell ⟨Z, 5, none⟩ (.int .i64 mx3)).setCell ⟨Z, 6, none⟩ (.int .i64 mx4)) B M s u p false ⟨qn, qd, qx0, qx1, qx2, qx3, qx4⟩ := (IsT.other (IsT.other (IsT.other (IsT.other (IsT.other (IsT.other (IsT.other HTr.out hBZ hMZ 0 _) hBZ hMZ 1 _) hBZ hMZ 2 _) hBZ hMZ 3 _) hBZ hMZ 4 _) hBZ hMZ 5 _) hBZ hMZ 6 _)
            have hb2 : IsB (((((((Y.setCell ⟨Z, 0, none⟩ (.int .i64 mn)).setCell ⟨Z, 1, none⟩ (.int .i64 md)).setCell ⟨Z, 2, none⟩ (.int .i64 mx0)).setCell ⟨Z, 3, none⟩ (.int .i64 mx1)).setCell ⟨Z, 4, none⟩ (.int .i64 mx2)).setCell ⟨Z, 5, none⟩ (.int .i64 mx3)).setCell ⟨Z, 6, none⟩ (.int .i64 mx4)) T #[.int .i64 vn, .int .i64 vd, .int .i64 vx0, .int .i64 vx1, .int .i64 vx2, .int .i64 vx3, .int .i64 vx4] 55 := (((((((HBr.out.other hTZ 0 _).other hTZ 1 _).other hTZ 2 _).other hTZ 3 _).other hTZ 4 _).other hTZ 5 _).other hTZ 6 _)
            have hz2 : IsB (((((((Y.setCell ⟨Z, 0, none⟩ (.int .i64 mn)).setCell ⟨Z, 1, none⟩ (.int .i64 md)).setCell ⟨Z, 2, none⟩ (.int .i64 mx0)).setCell ⟨Z, 3, none⟩ (.int .i64 mx1)).setCell ⟨Z, 4, none⟩ (.int .i64 mx2)).setCell ⟨Z, 5, none⟩ (.int .i64 mx3)).setCell ⟨Z, 6, none⟩ (.int .i64 mx4)) Z #[.int .i64 mn, .int .i64 md, .int .i64 mx0, .int .i64 mx1, .int .i64 mx2, .int .i64 mx3, .int .i64 mx4] 55 := IsB.seven ⟨mn, md, mx0, mx1, mx2, mx3, mx4⟩ HZr.out
            have hg2 : w.grownBy (((((((Y.setCell ⟨Z, 0, none⟩ (.int .i64 mn)).setCell ⟨Z, 1, none⟩ (.int .i64 md)).setCell ⟨Z, 2, none⟩ (.int .i64 mx0)).setCell ⟨Z, 3, none⟩ (.int .i64 mx1)).setCell ⟨Z, 4, none⟩ (.int .i64 mx2)).setCell ⟨Z, 5, none⟩ (.int .i64 mx3)).setCell ⟨Z, 6, none⟩ (.int .i64 mx4)) (some B) := (g_set (g_set (g_set (g_set (g_set (g_set (g_set HGr.out (.inl hZ0) 0 _) (.inl hZ0) 1 _) (.inl hZ0) 2 _) (.inl hZ0) 3 _) (.inl hZ0) 4 _) (.inl hZ0) 5 _) (.inl hZ0) 6 _)
            clear HTr HBr HGr HZr f0z bb0 bb1 bb2 bb3 bb4 bb5 bb6 tt0 tt1 tt2 tt3 tt4 tt5 tt6 z0 fz0 z1 fz1 z2 fz2 z3 fz3 z4 fz4 z5 fz5 z6 fz6
            have HTr := hidU h2
            have HBr := hidU hb2
            have HGr := hidU hg2
            have HZr := hidU hz2
            clear h2 hb2 hg2 hz2
            have bb0 := HTr.out.1.cell (v := .int .i64 qn) 11 rfl
            have bb1 := HTr.out.1.cell (v := .int .i64 qd) 12 rfl
            have bb2 := HTr.out.1.cell (v := .int .i64 qx0) 13 rfl
            have bb3 := HTr.out.1.cell (v := .int .i64 qx1) 14 rfl
            have bb4 := HTr.out.1.cell (v := .int .i64 qx2) 15 rfl
            have bb5 := HTr.out.1.cell (v := .int .i64 qx3) 16 rfl
            have bb6 := HTr.out.1.cell (v := .int .i64 qx4) 17 rfl
            have tt0 := HBr.out.cell (v := .int .i64 vn) 0 rfl
            have tt1 := HBr.out.cell (v := .int .i64 vd) 1 rfl
            have tt2 := HBr.out.cell (v := .int .i64 vx0) 2 rfl
            have tt3 := HBr.out.cell (v := .int .i64 vx1) 3 rfl
            have tt4 := HBr.out.cell (v := .int .i64 vx2) 4 rfl
            have tt5 := HBr.out.cell (v := .int .i64 vx3) 5 rfl
            have tt6 := HBr.out.cell (v := .int .i64 vx4) 6 rfl
            obtain ⟨Y2, hY2⟩ : ∃ Y2, Y2 = (((((((Y.setCell ⟨Z, 0, none⟩ (.int .i64 mn)).setCell ⟨Z, 1, none⟩ (.int .i64 md)).setCell ⟨Z, 2, none⟩ (.int .i64 mx0)).setCell ⟨Z, 3, none⟩ (.int .i64 mx1)).setCell ⟨Z, 4, none⟩ (.int .i64 mx2)).setCell ⟨Z, 5, none⟩ (.int .i64 mx3)).setCell ⟨Z, 6, none⟩ (.int .i64 mx4)) := ⟨_, rfl⟩
            rw [← hY2] at HTr HBr HGr HZr bb0 bb1 bb2 bb3 bb4 bb5 bb6 tt0 tt1 tt2 tt3 tt4 tt5 tt6 ⊢
            clear hY2
            refine hKc.out _ _ ⟨bb0, bb1, bb2, bb3, bb4, bb5, bb6, tt0, tt1, tt2, tt3, tt4, tt5, tt6⟩ (fun hHeld => ?_)
            clear hKc Kc
            (try simp only [List.getElem_toArray]); (try simp only [List.getElem_cons_succ]); (try simp only [List.getElem_cons_zero]); (try simp only [Act.put]); (try simp only [List.setIfInBounds_toArray]); (try simp only [List.set_cons_succ]); (try simp only [List.set_cons_zero])
            refine wpAnyH_take (i := 11) (v := ?_) rfl (by kernel_rfl) (by kernel_rfl) (by kernel_rfl) (fun _ _ _ h => h) (Or.inl ⟨by kernel_rfl, ?_⟩) hHeld ?_
            rotate_left
            · intro wz hSw; (try dsimp only at hSw); go_simp; all_goals (try with_reducible rfl)
            (try simp only [List.getElem_toArray]); (try simp only [List.getElem_cons_succ]); (try simp only [List.getElem_cons_zero]); (try simp only [Act.put]); (try simp only [List.setIfInBounds_toArray]); (try simp only [List.set_cons_succ]); (try simp only [List.set_cons_zero])
            refine wpAnyH_done (by kernel_rfl) ?_ _
            refine NoPanic.normal ?_
            clear hHeld bb0 bb1 bb2 bb3 bb4 bb5 bb6 tt0 tt1 tt2 tt3 tt4 tt5 tt6
            have c10 := HTr.out.1.cell (v := .bool false) 10 rfl
            cases mo with
            | false =>
              obtain rfl : o = none := HS.out
              go_wp2
              go_ret
              exact ⟨_, rfl, HTr.out, HGr.out, fun q hq => by cases hq⟩
            | true =>
              have z0 := HZr.out.cell (v := .int .i64 mn) 0 rfl
              have z1 := HZr.out.cell (v := .int .i64 md) 1 rfl
              have z2 := HZr.out.cell (v := .int .i64 mx0) 2 rfl
              have z3 := HZr.out.cell (v := .int .i64 mx1) 3 rfl
              have z4 := HZr.out.cell (v := .int .i64 mx2) 4 rfl
              have z5 := HZr.out.cell (v := .int .i64 mx3) 5 rfl
              have z6 := HZr.out.cell (v := .int .i64 mx4) 6 rfl
              have bb0 := HTr.out.1.cell (v := .int .i64 qn) 11 rfl
              have bb1 := HTr.out.1.cell (v := .int .i64 qd) 12 rfl
              have bb2 := HTr.out.1.cell (v := .int .i64 qx0) 13 rfl
              have bb3 := HTr.out.1.cell (v := .int .i64 qx1) 14 rfl
              have bb4 := HTr.out.1.cell (v := .int .i64 qx2) 15 rfl
              have bb5 := HTr.out.1.cell (v := .int .i64 qx3) 16 rfl
              have bb6 := HTr.out.1.cell (v := .int .i64 qx4) 17 rfl
              have g0 := HTr.out.1.frozen 11
              have g1 := HTr.out.1.frozen 12
              have g2 := HTr.out.1.frozen 13
              have g3 := HTr.out.1.frozen 14
              have g4 := HTr.out.1.frozen 15
              have g5 := HTr.out.1.frozen 16
              have g6 := HTr.out.1.frozen 17
              have hNT := hidU (IsT.prod HTr.out ⟨mn, md, mx0, mx1, mx2, mx3, mx4⟩)
              have hTB2 : Hid (IsB (((((((Y2.setCell ⟨B, 11, none⟩ (.int .i64 mn)).setCell ⟨B, 12, none⟩ (.int .i64 md)).setCell ⟨B, 13, none⟩ (.int .i64 mx0)).setCell ⟨B, 14, none⟩ (.int .i64 mx1)).setCell ⟨B, 15, none⟩ (.int .i64 mx2)).setCell ⟨B, 16, none⟩ (.int .i64 mx3)).setCell ⟨B, 17, none⟩ (.int .i64 mx4)) T #[.int .i64 vn, .int .i64 vd, .int .i64 vx0, .int .i64 vx1, .int .i64 vx2, .int .i64 vx3, .int .i64 vx4] 55) := (((((((HBr.out.other hBT.symm 11 _).other hBT.symm 12 _).other hBT.symm 13 _).other hBT.symm 14 _).other hBT.symm 15 _).other hBT.symm 16 _).other hBT.symm 17 _)
              have hKk : (k : Int) + 1 ≤ K := by omega
              clear HZr HTr HBr
              go_wp2
              go_roundw
              case rel => exact ⟨k + 1, ⟨mn, md, mx0, mx1, mx2, mx3, mx4⟩, by omega, by go_num, HS.out, HD.out rfl, hNT.out.1, hTB2.out, HGr.out.trans hNT.out.2⟩
              case measure => simp [intOf]; omega
          · go_simp
            obtain ⟨Y, hY⟩ : ∃ Y, Y = (wr.alloc (.cells #[.int .i64 0, .int .i64 0, .int .i64 0, .int .i64 0, .int .i64 0, .int .i64 0, .int .i64 0] 55)).drew := ⟨_, rfl⟩
            obtain ⟨Z, hZ⟩ : ∃ Z, Z = wr.heap.size := ⟨_, rfl⟩
            have hby : Below wr.heap.size wr Y := by rw [hY]; exact (b0 _ _).drew
            have hz1 : IsB Y Z #[.int .i64 0, .int .i64 0, .int .i64 0, .int .i64 0, .int .i64 0, .int .i64 0, .int .i64 0] 55 := by rw [hY, hZ]; exact (IsB.new _ _ _).drew
            have HZr := hidU hz1
            have hBZ : B ≠ Z := by have := HTr.out.1.lt; omega
            have hMZ : M ≠ Z := by have := HTr.out.2.lt; omega
            have hTZ : T ≠ Z := by have := HBr.out.lt; omega
            have hZ0 : w.heap.size ≤ Z := by have := HGr.out.size; omega
            rw [← hY, ← hZ]
            clear hz1 hY hZ
            have h2 := HTr.out.below hby
            have hb2 := HBr.out.below hby
            have hg2 := g_below HGr.out hby
            clear HTr HBr HGr bb0 bb1 bb2 bb3 bb4 bb5 bb6 tt0 tt1 tt2 tt3 tt4 tt5 tt6
            have HTr := hidU h2
            have HBr := hidU hb2
            have HGr := hidU hg2
            clear h2 hb2 hg2
            have bb0 := HTr.out.1.cell (v := .int .i64 qn) 11 rfl
            have bb1 := HTr.out.1.cell (v := .int .i64 qd) 12 rfl
            have bb2 := HTr.out.1.cell (v := .int .i64 qx0) 13 rfl
            have bb3 := HTr.out.1.cell (v := .int .i64 qx1) 14 rfl
            have bb4 := HTr.out.1.cell (v := .int .i64 qx2) 15 rfl
            have bb5 := HTr.out.1.cell (v := .int .i64 qx3) 16 rfl
            have bb6 := HTr.out.1.cell (v := .int .i64 qx4) 17 rfl
            have tt0 := HBr.out.cell (v := .int .i64 vn) 0 rfl
            have tt1 := HBr.out.cell (v := .int .i64 vd) 1 rfl
            have tt2 := HBr.out.cell (v := .int .i64 vx0) 2 rfl
            have tt3 := HBr.out.cell (v := .int .i64 vx1) 3 rfl
            have tt4 := HBr.out.cell (v := .int .i64 vx2) 4 rfl
            have tt5 := HBr.out.cell (v := .int .i64 vx3) 5 rfl
            have tt6 := HBr.out.cell (v := .int .i64 vx4) 6 rfl
            clear hby
            refine hKc.out _ _ ⟨bb0, bb1, bb2, bb3, bb4, bb5, bb6, tt0, tt1, tt2, tt3, tt4, tt5, tt6⟩ (fun hHeld => ?_)
            clear hKc Kc
            (try simp only [List.getElem_toArray]); (try simp only [List.getElem_cons_succ]); (try simp only [List.getElem_cons_zero]); (try simp only [Act.put]); (try simp only [List.setIfInBounds_toArray]); (try simp only [List.set_cons_succ]); (try simp only [List.set_cons_zero])
            refine wpAnyH_ready (rs := [5]) (by kernel_rfl) (by simp) (AllReadyH.cons rfl (fun Kc hKc => ?_) AllReadyH.nil)
            go_simp
            (go_at_call 84; refine (HMul.out _).mono ?_)
            rintro e w2 ⟨rfl, hbx⟩
            have hb : Below Y.heap.size Y w2 := hbx
            replace HZr := hidU (HZr.out.below hb)
            have h2 := HTr.out.below hb
            have hb2 := HBr.out.below hb
            have hg2 := g_below HGr.out hb
            clear HTr HBr HGr bb0 bb1 bb2 bb3 bb4 bb5 bb6 tt0 tt1 tt2 tt3 tt4 tt5 tt6
            have HTr := hidU h2
            have HBr := hidU hb2
            have HGr := hidU hg2
            clear h2 hb2 hg2
            have bb0 := HTr.out.1.cell (v := .int .i64 qn) 11 rfl
            have bb1 := HTr.out.1.cell (v := .int .i64 qd) 12 rfl
            have bb2 := HTr.out.1.cell (v := .int .i64 qx0) 13 rfl
            have bb3 := HTr.out.1.cell (v := .int .i64 qx1) 14 rfl
            have bb4 := HTr.out.1.cell (v := .int .i64 qx2) 15 rfl
            have bb5 := HTr.out.1.cell (v := .int .i64 qx3) 16 rfl
            have bb6 := HTr.out.1.cell (v := .int .i64 qx4) 17 rfl
            have tt0 := HBr.out.cell (v := .int .i64 vn) 0 rfl
            have tt1 := HBr.out.cell (v := .int .i64 vd) 1 rfl
            have tt2 := HBr.out.cell (v := .int .i64 vx0) 2 rfl
            have tt3 := HBr.out.cell (v := .int .i64 vx1) 3 rfl
            have tt4 := HBr.out.cell (v := .int .i64 vx2) 4 rfl
            have tt5 := HBr.out.cell (v := .int .i64 vx3) 5 rfl
            have tt6 := HBr.out.cell (v := .int .i64 vx4) 6 rfl
            clear hbx hb
            go_wp2_with fail
            refine hKc.out _ _ ⟨bb0, bb1, bb2, bb3, bb4, bb5, bb6, tt0, tt1, tt2, tt3, tt4, tt5, tt6⟩ (fun hHeld => ?_)
            clear hKc Kc
            (try simp only [List.getElem_toArray]); (try simp only [List.getElem_cons_succ]); (try simp only [List.getElem_cons_zero]); (try simp only [Act.put]); (try simp only [List.setIfInBounds_toArray]); (try simp only [List.set_cons_succ]); (try simp only [List.set_cons_zero])
            refine wpAnyH_take (i := 6) (v := ?_) rfl (by kernel_rfl) (by kernel_rfl) (by kernel_rfl) (fun _ _ _ h => h) (Or.inl ⟨by kernel_rfl, ?_⟩) hHeld ?_
            rotate_left
            · intro wz hSw; (try dsimp only at hSw); go_simp; all_goals (try with_reducible rfl)
            (try simp only [List.getElem_toArray]); (try simp only [List.getElem_cons_succ]); (try simp only [List.getElem_cons_zero]); (try simp only [Act.put]); (try simp only [List.setIfInBounds_toArray]); (try simp only [List.set_cons_succ]); (try simp only [List.set_cons_zero])
            refine wpAnyH_take (i := 7) (v := ?_) rfl (by kernel_rfl) (by kernel_rfl) (by kernel_rfl) (fun _ _ _ h => h) (Or.inl ⟨by kernel_rfl, ?_⟩) hHeld ?_
            rotate_left
            · intro wz hSw; (try dsimp only at hSw); go_simp; all_goals (try with_reducible rfl)
            (try simp only [List.getElem_toArray]); (try simp only [List.getElem_cons_succ]); (try simp only [List.getElem_cons_zero]); (try simp only [Act.put]); (try simp only [List.setIfInBounds_toArray]); (try simp only [List.set_cons_succ]); (try simp only [List.set_cons_zero])
            refine wpAnyH_take (i := 8) (v := ?_) rfl (by kernel_rfl) (by kernel_rfl) (by kernel_rfl) (fun _ _ _ h => h) (Or.inl ⟨by kernel_rfl, ?_⟩) hHeld ?_
            rotate_left
            · intro wz hSw; (try dsimp only at hSw); go_simp; all_goals (try with_reducible rfl)
            (try simp only [List.getElem_toArray]); (try simp only [List.getElem_cons_succ]); (try simp only [List.getElem_cons_zero]); (try simp only [Act.put]); (try simp only [List.setIfInBounds_toArray]); (try simp only [List.set_cons_succ]); (try simp only [List.set_cons_zero])
            have f0z := HZr.out.frozen
            have z0 := HZr.out.cell (v := .int .i64 0) 0 rfl
            have z1 := HZr.out.cell (v := .int .i64 0) 1 rfl
            have z2 := HZr.out.cell (v := .int .i64 0) 2 rfl
            have z3 := HZr.out.cell (v := .int .i64 0) 3 rfl
            have z4 := HZr.out.cell (v := .int .i64 0) 4 rfl
            have z5 := HZr.out.cell (v := .int .i64 0) 5 rfl
            have z6 := HZr.out.cell (v := .int .i64 0) 6 rfl
            have fz0 := HZr.out.frozen 0
            have fz1 := HZr.out.frozen 1
            have fz2 := HZr.out.frozen 2
            have fz3 := HZr.out.frozen 3
            have fz4 := HZr.out.frozen 4
            have fz5 := HZr.out.frozen 5
            have fz6 := HZr.out.frozen 6
            refine wpAnyH_ready (rs := [10]) (by kernel_rfl) (by simp) (AllReadyH.cons rfl (fun Kc hKc => ?_) AllReadyH.nil)
            go_simp
            have h2 : IsT (((((((w2.setCell ⟨Z, 0, none⟩ (.int .i64 mn)).setCell ⟨Z, 1, none⟩ (.int .i64 md)).setCell ⟨Z, 2, none⟩ (.int .i64 mx0)).setCell ⟨Z, 3, none⟩ (.int .i64 mx1)).setCell ⟨Z, 4, none⟩ (.int .i64 mx2)).setCell ⟨Z, 5, none⟩ (.int .i64 mx3)).setCell ⟨Z, 6, none⟩ (.int .i64 mx4)) B M s u p false ⟨qn, qd, qx0, qx1, qx2, qx3, qx4⟩ := (IsT.other (IsT.other (IsT.other (IsT.other (IsT.other (IsT.other (IsT.other HTr.out hBZ hMZ 0 _) hBZ hMZ 1 _) hBZ hMZ 2 _) hBZ hMZ 3 _) hBZ hMZ 4 _) hBZ hMZ 5 _) hBZ hMZ 6 _)
            have hb2 : IsB (((((((w2.setCell ⟨Z, 0, none⟩ (.int .i64 mn)).setCell ⟨Z, 1, none⟩ (.int .i64 md)).setCell ⟨Z, 2, none⟩ (.int .i64 mx0)).setCell ⟨Z, 3, none⟩ (.int .i64 mx1)).setCell ⟨Z, 4, none⟩ (.int .i64 mx2)).setCell ⟨Z, 5, none⟩ (.int .i64 mx3)).setCell ⟨Z, 6, none⟩ (.int .i64 mx4)) T #[.int .i64 vn, .int .i64 vd, .int .i64 vx0, .int .i64 vx1, .int .i64 vx2, .int .i64 vx3, .int .i64 vx4] 55 := (((((((HBr.out.other hTZ 0 _).other hTZ 1 _).other hTZ 2 _).other hTZ 3 _).other hTZ 4 _).other hTZ 5 _).other hTZ 6 _)
            have hz2 : IsB (((((((w2.setCell ⟨Z, 0, none⟩ (.int .i64 mn)).setCell ⟨Z, 1, none⟩ (.int .i64 md)).setCell ⟨Z, 2, none⟩ (.int .i64 mx0)).setCell ⟨Z, 3, none⟩ (.int .i64 mx1)).setCell ⟨Z, 4, none⟩ (.int .i64 mx2)).setCell ⟨Z, 5, none⟩ (.int .i64 mx3)).setCell ⟨Z, 6, none⟩ (.int .i64 mx4)) Z #[.int .i64 mn, .int .i64 md, .int .i64 mx0, .int .i64 mx1, .int .i64 mx2, .int .i64 mx3, .int .i64 mx4] 55 := IsB.seven ⟨mn, md, mx0, mx1, mx2, mx3, mx4⟩ HZr.out
            have hg2 : w.grownBy (((((((w2.setCell ⟨Z, 0, none⟩ (.int .i64 mn)).setCell ⟨Z, 1, none⟩ (.int .i64 md)).setCell ⟨Z, 2, none⟩ (.int .i64 mx0)).setCell ⟨Z, 3, none⟩ (.int .i64 mx1)).setCell ⟨Z, 4, none⟩ (.int .i64 mx2)).setCell ⟨Z, 5, none⟩ (.int .i64 mx3)).setCell ⟨Z, 6, none⟩ (.int .i64 mx4)) (some B) := (g_set (g_set (g_set (g_set (g_set (g_set (g_set HGr.out (.inl hZ0) 0 _) (.inl hZ0) 1 _) (.inl hZ0) 2 _) (.inl hZ0) 3 _) (.inl hZ0) 4 _) (.inl hZ0) 5 _) (.inl hZ0) 6 _)
            clear HTr HBr HGr HZr f0z bb0 bb1 bb2 bb3 bb4 bb5 bb6 tt0 tt1 tt2 tt3 tt4 tt5 tt6 z0 fz0 z1 fz1 z2 fz2 z3 fz3 z4 fz4 z5 fz5 z6 fz6
            have HTr := hidU h2
            have HBr := hidU hb2
            have HGr := hidU hg2
            have HZr := hidU hz2
            clear h2 hb2 hg2 hz2
            have bb0 := HTr.out.1.cell (v := .int .i64 qn) 11 rfl
            have bb1 := HTr.out.1.cell (v := .int .i64 qd) 12 rfl
            have bb2 := HTr.out.1.cell (v := .int .i64 qx0) 13 rfl
            have bb3 := HTr.out.1.cell (v := .int .i64 qx1) 14 rfl
            have bb4 := HTr.out.1.cell (v := .int .i64 qx2) 15 rfl
            have bb5 := HTr.out.1.cell (v := .int .i64 qx3) 16 rfl
            have bb6 := HTr.out.1.cell (v := .int .i64 qx4) 17 rfl
            have tt0 := HBr.out.cell (v := .int .i64 vn) 0 rfl
            have tt1 := HBr.out.cell (v := .int .i64 vd) 1 rfl
            have tt2 := HBr.out.cell (v := .int .i64 vx0) 2 rfl
            have tt3 := HBr.out.cell (v := .int .i64 vx1) 3 rfl
            have tt4 := HBr.out.cell (v := .int .i64 vx2) 4 rfl
            have tt5 := HBr.out.cell (v := .int .i64 vx3) 5 rfl
            have tt6 := HBr.out.cell (v := .int .i64 vx4) 6 rfl
            obtain ⟨Y2, hY2⟩ : ∃ Y2, Y2 = (((((((w2.setCell ⟨Z, 0, none⟩ (.int .i64 mn)).setCell ⟨Z, 1, none⟩ (.int .i64 md)).setCell ⟨Z, 2, none⟩ (.int .i64 mx0)).setCell ⟨Z, 3, none⟩ (.int .i64 mx1)).setCell ⟨Z, 4, none⟩ (.int .i64 mx2)).setCell ⟨Z, 5, none⟩ (.int .i64 mx3)).setCell ⟨Z, 6, none⟩ (.int .i64 mx4)) := ⟨_, rfl⟩
            rw [← hY2] at HTr HBr HGr HZr bb0 bb1 bb2 bb3 bb4 bb5 bb6 tt0 tt1 tt2 tt3 tt4 tt5 tt6 ⊢
            clear hY2
            refine hKc.out _ _ ⟨bb0, bb1, bb2, bb3, bb4, bb5, bb6, tt0, tt1, tt2, tt3, tt4, tt5, tt6⟩ (fun hHeld => ?_)
            clear hKc Kc
            (try simp only [List.getElem_toArray]); (try simp only [List.getElem_cons_succ]); (try simp only [List.getElem_cons_zero]); (try simp only [Act.put]); (try simp only [List.setIfInBounds_toArray]); (try simp only [List.set_cons_succ]); (try simp only [List.set_cons_zero])
            refine wpAnyH_take (i := 11) (v := ?_) rfl (by kernel_rfl) (by kernel_rfl) (by kernel_rfl) (fun _ _ _ h => h) (Or.inl ⟨by kernel_rfl, ?_⟩) hHeld ?_
            rotate_left
            · intro wz hSw; (try dsimp only at hSw); go_simp; all_goals (try with_reducible rfl)
            (try simp only [List.getElem_toArray]); (try simp only [List.getElem_cons_succ]); (try simp only [List.getElem_cons_zero]); (try simp only [Act.put]); (try simp only [List.setIfInBounds_toArray]); (try simp only [List.set_cons_succ]); (try simp only [List.set_cons_zero])
            refine wpAnyH_done (by kernel_rfl) ?_ _
            refine NoPanic.normal ?_
            clear hHeld bb0 bb1 bb2 bb3 bb4 bb5 bb6 tt0 tt1 tt2 tt3 tt4 tt5 tt6
            have c10 := HTr.out.1.cell (v := .bool false) 10 rfl
            cases mo with
            | false =>
              obtain rfl : o = none := HS.out
              go_wp2
              go_ret
              exact ⟨_, rfl, HTr.out, HGr.out, fun q hq => by cases hq⟩
            | true =>
              have z0 := HZr.out.cell (v := .int .i64 mn) 0 rfl
              have z1 := HZr.out.cell (v := .int .i64 md) 1 rfl
              have z2 := HZr.out.cell (v := .int .i64 mx0) 2 rfl
              have z3 := HZr.out.cell (v := .int .i64 mx1) 3 rfl
              have z4 := HZr.out.cell (v := .int .i64 mx2) 4 rfl
              have z5 := HZr.out.cell (v := .int .i64 mx3) 5 rfl
              have z6 := HZr.out.cell (v := .int .i64 mx4) 6 rfl
              have bb0 := HTr.out.1.cell (v := .int .i64 qn) 11 rfl
              have bb1 := HTr.out.1.cell (v := .int .i64 qd) 12 rfl
              have bb2 := HTr.out.1.cell (v := .int .i64 qx0) 13 rfl
              have bb3 := HTr.out.1.cell (v := .int .i64 qx1) 14 rfl
              have bb4 := HTr.out.1.cell (v := .int .i64 qx2) 15 rfl
              have bb5 := HTr.out.1.cell (v := .int .i64 qx3) 16 rfl
              have bb6 := HTr.out.1.cell (v := .int .i64 qx4) 17 rfl
              have g0 := HTr.out.1.frozen 11
              have g1 := HTr.out.1.frozen 12
              have g2 := HTr.out.1.frozen 13
              have g3 := HTr.out.1.frozen 14
              have g4 := HTr.out.1.frozen 15
              have g5 := HTr.out.1.frozen 16
              have g6 := HTr.out.1.frozen 17
              have hNT := hidU (IsT.prod HTr.out ⟨mn, md, mx0, mx1, mx2, mx3, mx4⟩)
              have hTB2 : Hid (IsB (((((((Y2.setCell ⟨B, 11, none⟩ (.int .i64 mn)).setCell ⟨B, 12, none⟩ (.int .i64 md)).setCell ⟨B, 13, none⟩ (.int .i64 mx0)).setCell ⟨B, 14, none⟩ (.int .i64 mx1)).setCell ⟨B, 15, none⟩ (.int .i64 mx2)).setCell ⟨B, 16, none⟩ (.int .i64 mx3)).setCell ⟨B, 17, none⟩ (.int .i64 mx4)) T #[.int .i64 vn, .int .i64 vd, .int .i64 vx0, .int .i64 vx1, .int .i64 vx2, .int .i64 vx3, .int .i64 vx4] 55) := (((((((HBr.out.other hBT.symm 11 _).other hBT.symm 12 _).other hBT.symm 13 _).other hBT.symm 14 _).other hBT.symm 15 _).other hBT.symm 16 _).other hBT.symm 17 _)
              have hKk : (k : Int) + 1 ≤ K := by omega
              clear HZr HTr HBr
              go_wp2
              go_roundw
              case rel => exact ⟨k + 1, ⟨mn, md, mx0, mx1, mx2, mx3, mx4⟩, by omega, by go_num, HS.out, HD.out rfl, hNT.out.1, hTB2.out, HGr.out.trans hNT.out.2⟩
              case measure => simp [intOf]; omega
        · obtain rfl : k = K := by omega
          have ho : o = some P' := by rw [HOk.out, Nat.sub_self]; rfl
          subst ho
          go_wp2
          go_ret
          exact ⟨P', rfl, HTr.out, HGr.out, fun q hq => by cases hq; exact ⟨rfl, HPk.out⟩⟩
  | true =>
    by_cases hn : p < 0
    · have e' : u = v := by rw [hv]; simp [hn]
      have hKp : p = -(K : Int) := by omega
      clear hv hK HV
      have hlt := HT.out.1.lt
      have hne : B ≠ w.heap.size := by omega
      obtain ⟨vn, vd, vx0, vx1, vx2, vx3, vx4⟩ := v
      simp only [e'] at c2 c3 c4 c5 c6 c7 c8
      clear e'
      have e2 := fun o => cell_al o c2
      have e3 := fun o => cell_al o c3
      have e4 := fun o => cell_al o c4
      have e5 := fun o => cell_al o c5
      have e6 := fun o => cell_al o c6
      have e7 := fun o => cell_al o c7
      have e8 := fun o => cell_al o c8
      have e9 := fun o => cell_al o c9
      have e10 := fun o => cell_al o c10
      go_enter Tryz.func57, Tryz.ntmps57
      go_upto_region 1 with fail
      go_region
      obtain ⟨X, hX⟩ : ∃ X, X = (w.alloc (.cells #[.int .i64 vn, .int .i64 vd, .int .i64 vx0, .int .i64 vx1, .int .i64 vx2, .int .i64 vx3, .int .i64 vx4] 55)).drew := ⟨_, rfl⟩
      obtain ⟨T, hTe⟩ : ∃ T, T = w.heap.size := ⟨_, rfl⟩
      have hbX : Below w.heap.size w X := by rw [hX]; exact (b0 _ _).drew
      have hTB : IsB X T #[.int .i64 vn, .int .i64 vd, .int .i64 vx0, .int .i64 vx1, .int .i64 vx2, .int .i64 vx3, .int .i64 vx4] 55 := by rw [hX, hTe]; exact (IsB.new _ _ _).drew
      have hTX := HT.out.below hbX
      have HGX := hidU (grown_new (row := some B) hbX)
      have hBT : B ≠ T := by omega
      rw [← hX, ← hTe]
      clear hlt hne c2 e2 c3 e3 c4 e4 c5 e5 c6 e6 c7 e7 c8 e8 c9 e9 c10 e10
      have e10 := hTX.1.cell (v := .bool true) 10 rfl
      have HTX := hidU hTX
      have HTB := hidU hTB
      clear hTX hTB hX hTe hbX HT
      have hK0 : ¬ (K : Int) < 0 := by omega
      have hKw : IntKind.i64.wrap (K : Int) = K := by rw [IntKind.wrap_i64]; omega
      have hKw2 : IntKind.i64.wrap (- -(K : Int)) = K := by rw [IntKind.wrap_i64]; omega
      go_wp2
      clear e10
      go_loopw [28] (fun i wr => ∃ (k : Nat) (P' : UV), k ≤ K ∧ i = .int .i64 k ∧ Hid (o = mulN ⟨vn, vd, vx0, vx1, vx2, vx3, vx4⟩ (K - k) P') ∧ Hid (okD P') ∧ Hid (IsT wr B M s u p true P') ∧ Hid (IsB wr T #[.int .i64 vn, .int .i64 vd, .int .i64 vx0, .int .i64 vx1, .int .i64 vx2, .int .i64 vx3, .int .i64 vx4] 55) ∧ Hid (w.grownBy wr (some B))) (fun i _ => K - (intOf i).toNat)
      case atStart => exact ⟨0, P, Nat.zero_le _, rfl, HO.out, HP.out, HTX.out, HTB.out, HGX.out⟩
      case round =>
        clear HTX HTB HGX HO HP
        obtain ⟨k, P', hk, rfl, HOk, HPk, HTr, HBr, HGr⟩ := hrel
        by_cases hlt : k < K
        · obtain ⟨qn, qd, qx0, qx1, qx2, qx3, qx4⟩ := P'
          obtain ⟨⟨⟨mn, md, mx0, mx1, mx2, mx3, mx4⟩, mo⟩, hm⟩ : ∃ m, m = mulV ⟨qn, qd, qx0, qx1, qx2, qx3, qx4⟩ ⟨vn, vd, vx0, vx1, vx2, vx3, vx4⟩ := ⟨_, rfl⟩
          have HMul : Hid (∀ W, Calls Tryz.prog 84 #[.agg #[.int .i64 qn, .int .i64 qd, .int .i64 qx0, .int .i64 qx1, .int .i64 qx2, .int .i64 qx3, .int .i64 qx4], .agg #[.int .i64 vn, .int .i64 vd, .int .i64 vx0, .int .i64 vx1, .int .i64 vx2, .int .i64 vx3, .int .i64 vx4]] W fun e w' => e = .returned (.tuple #[.agg #[.int .i64 mn, .int .i64 md, .int .i64 mx0, .int .i64 mx1, .int .i64 mx2, .int .i64 mx3, .int .i64 mx4], .bool mo]) ∧ Below W.heap.size W w') := fun W => by
            have := vtimes_any ⟨qn, qd, qx0, qx1, qx2, qx3, qx4⟩ ⟨vn, vd, vx0, vx1, vx2, vx3, vx4⟩ W HPk.out HVD.out
            rw [← hm] at this
            exact this
          have HS : Hid (o = if mo = true then mulN ⟨vn, vd, vx0, vx1, vx2, vx3, vx4⟩ (K - (k + 1)) ⟨mn, md, mx0, mx1, mx2, mx3, mx4⟩ else none) := by
            show _ = _
            rw [HOk.out, show K - k = (K - (k + 1)) + 1 by omega]
            rw [mulN_succ, ← hm]
          have HD : Hid (mo = true → okD ⟨mn, md, mx0, mx1, mx2, mx3, mx4⟩) := fun e => by
            have := @okD_mul ⟨qn, qd, qx0, qx1, qx2, qx3, qx4⟩ ⟨vn, vd, vx0, vx1, vx2, vx3, vx4⟩ (by rw [← hm]; exact e)
            rw [← hm] at this
            exact this
          have hki : (k : Int) < K := by omega
          clear hm HOk HPk
          have bb0 := HTr.out.1.cell (v := .int .i64 qn) 11 rfl
          have bb1 := HTr.out.1.cell (v := .int .i64 qd) 12 rfl
          have bb2 := HTr.out.1.cell (v := .int .i64 qx0) 13 rfl
          have bb3 := HTr.out.1.cell (v := .int .i64 qx1) 14 rfl
          have bb4 := HTr.out.1.cell (v := .int .i64 qx2) 15 rfl
          have bb5 := HTr.out.1.cell (v := .int .i64 qx3) 16 rfl
          have bb6 := HTr.out.1.cell (v := .int .i64 qx4) 17 rfl
          have tt0 := HBr.out.cell (v := .int .i64 vn) 0 rfl
          have tt1 := HBr.out.cell (v := .int .i64 vd) 1 rfl
          have tt2 := HBr.out.cell (v := .int .i64 vx0) 2 rfl
          have tt3 := HBr.out.cell (v := .int .i64 vx1) 3 rfl
          have tt4 := HBr.out.cell (v := .int .i64 vx2) 4 rfl
          have tt5 := HBr.out.cell (v := .int .i64 vx3) 5 rfl
          have tt6 := HBr.out.cell (v := .int .i64 vx4) 6 rfl
          go_upto_region 8 with fail
          refine wp_region_noPanic ?_
          refine wp_region_held_drew (S := (fun w' => w'.cell? ⟨B, 11, none⟩ = some (.int .i64 qn) ∧ w'.cell? ⟨B, 12, none⟩ = some (.int .i64 qd) ∧ w'.cell? ⟨B, 13, none⟩ = some (.int .i64 qx0) ∧ w'.cell? ⟨B, 14, none⟩ = some (.int .i64 qx1) ∧ w'.cell? ⟨B, 15, none⟩ = some (.int .i64 qx2) ∧ w'.cell? ⟨B, 16, none⟩ = some (.int .i64 qx3) ∧ w'.cell? ⟨B, 17, none⟩ = some (.int .i64 qx4) ∧ w'.cell? ⟨T, 0, none⟩ = some (.int .i64 vn) ∧ w'.cell? ⟨T, 1, none⟩ = some (.int .i64 vd) ∧ w'.cell? ⟨T, 2, none⟩ = some (.int .i64 vx0) ∧ w'.cell? ⟨T, 3, none⟩ = some (.int .i64 vx1) ∧ w'.cell? ⟨T, 4, none⟩ = some (.int .i64 vx2) ∧ w'.cell? ⟨T, 5, none⟩ = some (.int .i64 vx3) ∧ w'.cell? ⟨T, 6, none⟩ = some (.int .i64 vx4))) (by kernel_rfl) ⟨bb0, bb1, bb2, bb3, bb4, bb5, bb6, tt0, tt1, tt2, tt3, tt4, tt5, tt6⟩ (fun hHeld => ?_)
          refine wpAnyH_take (i := 0) (v := ?_) rfl (by kernel_rfl) (by kernel_rfl) (by kernel_rfl) (fun _ _ _ h => h) (Or.inl ⟨by kernel_rfl, ?_⟩) hHeld ?_
          rotate_left
          · intro wz hSw; (try dsimp only at hSw); go_simp; all_goals (try with_reducible rfl)
          (try simp only [List.getElem_toArray]); (try simp only [List.getElem_cons_succ]); (try simp only [List.getElem_cons_zero]); (try simp only [Act.put]); (try simp only [List.setIfInBounds_toArray]); (try simp only [List.set_cons_succ]); (try simp only [List.set_cons_zero])
          refine wpAnyH_take (i := 1) (v := ?_) rfl (by kernel_rfl) (by kernel_rfl) (by kernel_rfl) (fun _ _ _ h => h) (Or.inl ⟨by kernel_rfl, ?_⟩) hHeld ?_
          rotate_left
          · intro wz hSw; (try dsimp only at hSw); go_simp; all_goals (try with_reducible rfl)
          (try simp only [List.getElem_toArray]); (try simp only [List.getElem_cons_succ]); (try simp only [List.getElem_cons_zero]); (try simp only [Act.put]); (try simp only [List.setIfInBounds_toArray]); (try simp only [List.set_cons_succ]); (try simp only [List.set_cons_zero])
          refine wpAnyH_take (i := 2) (v := ?_) rfl (by kernel_rfl) (by kernel_rfl) (by kernel_rfl) (fun _ _ _ h => h) (Or.inl ⟨by kernel_rfl, ?_⟩) hHeld ?_
          rotate_left
          · intro wz hSw; (try dsimp only at hSw); go_simp; all_goals (try with_reducible rfl)
          (try simp only [List.getElem_toArray]); (try simp only [List.getElem_cons_succ]); (try simp only [List.getElem_cons_zero]); (try simp only [Act.put]); (try simp only [List.setIfInBounds_toArray]); (try simp only [List.set_cons_succ]); (try simp only [List.set_cons_zero])
          refine wpAnyH_take (i := 3) (v := ?_) rfl (by kernel_rfl) (by kernel_rfl) (by kernel_rfl) (fun _ _ _ h => h) (Or.inl ⟨by kernel_rfl, ?_⟩) hHeld ?_
          rotate_left
          · intro wz hSw; (try dsimp only at hSw); go_simp; all_goals (try with_reducible rfl)
          (try simp only [List.getElem_toArray]); (try simp only [List.getElem_cons_succ]); (try simp only [List.getElem_cons_zero]); (try simp only [Act.put]); (try simp only [List.setIfInBounds_toArray]); (try simp only [List.set_cons_succ]); (try simp only [List.set_cons_zero])
          refine wpAnyH_take (i := 4) (v := ?_) rfl (by kernel_rfl) (by kernel_rfl) (by kernel_rfl) (fun _ _ _ h => h) (Or.inl ⟨by kernel_rfl, ?_⟩) hHeld ?_
          rotate_left
          · intro wz hSw; (try dsimp only at hSw); go_simp; all_goals (try with_reducible rfl)
          (try simp only [List.getElem_toArray]); (try simp only [List.getElem_cons_succ]); (try simp only [List.getElem_cons_zero]); (try simp only [Act.put]); (try simp only [List.setIfInBounds_toArray]); (try simp only [List.set_cons_succ]); (try simp only [List.set_cons_zero])
          refine wpAnyH_ready (rs := [5, 9]) (by kernel_rfl) (by simp) (AllReadyH.cons rfl (fun Kc hKc => ?_) (AllReadyH.cons rfl (fun Kc hKc => ?_) AllReadyH.nil))
          · go_simp
            (go_at_call 84; refine (HMul.out _).mono ?_)
            rintro e w2 ⟨rfl, hbx⟩
            have hb : Below wr.heap.size wr w2 := ((Below.refl _ _).drew).trans hbx
            have h2 := HTr.out.below hb
            have hb2 := HBr.out.below hb
            have hg2 := g_below HGr.out hb
            clear HTr HBr HGr bb0 bb1 bb2 bb3 bb4 bb5 bb6 tt0 tt1 tt2 tt3 tt4 tt5 tt6
            have HTr := hidU h2
            have HBr := hidU hb2
            have HGr := hidU hg2
            clear h2 hb2 hg2
            have bb0 := HTr.out.1.cell (v := .int .i64 qn) 11 rfl
            have bb1 := HTr.out.1.cell (v := .int .i64 qd) 12 rfl
            have bb2 := HTr.out.1.cell (v := .int .i64 qx0) 13 rfl
            have bb3 := HTr.out.1.cell (v := .int .i64 qx1) 14 rfl
            have bb4 := HTr.out.1.cell (v := .int .i64 qx2) 15 rfl
            have bb5 := HTr.out.1.cell (v := .int .i64 qx3) 16 rfl
            have bb6 := HTr.out.1.cell (v := .int .i64 qx4) 17 rfl
            have tt0 := HBr.out.cell (v := .int .i64 vn) 0 rfl
            have tt1 := HBr.out.cell (v := .int .i64 vd) 1 rfl
            have tt2 := HBr.out.cell (v := .int .i64 vx0) 2 rfl
            have tt3 := HBr.out.cell (v := .int .i64 vx1) 3 rfl
            have tt4 := HBr.out.cell (v := .int .i64 vx2) 4 rfl
            have tt5 := HBr.out.cell (v := .int .i64 vx3) 5 rfl
            have tt6 := HBr.out.cell (v := .int .i64 vx4) 6 rfl
            clear hbx hb
            go_wp2_with fail
            refine hKc.out _ _ ⟨bb0, bb1, bb2, bb3, bb4, bb5, bb6, tt0, tt1, tt2, tt3, tt4, tt5, tt6⟩ (fun hHeld => ?_)
            clear hKc Kc
            (try simp only [List.getElem_toArray]); (try simp only [List.getElem_cons_succ]); (try simp only [List.getElem_cons_zero]); (try simp only [Act.put]); (try simp only [List.setIfInBounds_toArray]); (try simp only [List.set_cons_succ]); (try simp only [List.set_cons_zero])
            refine wpAnyH_take (i := 6) (v := ?_) rfl (by kernel_rfl) (by kernel_rfl) (by kernel_rfl) (fun _ _ _ h => h) (Or.inl ⟨by kernel_rfl, ?_⟩) hHeld ?_
            rotate_left
            · intro wz hSw; (try dsimp only at hSw); go_simp; all_goals (try with_reducible rfl)
            (try simp only [List.getElem_toArray]); (try simp only [List.getElem_cons_succ]); (try simp only [List.getElem_cons_zero]); (try simp only [Act.put]); (try simp only [List.setIfInBounds_toArray]); (try simp only [List.set_cons_succ]); (try simp only [List.set_cons_zero])
            refine wpAnyH_take (i := 7) (v := ?_) rfl (by kernel_rfl) (by kernel_rfl) (by kernel_rfl) (fun _ _ _ h => h) (Or.inl ⟨by kernel_rfl, ?_⟩) hHeld ?_
            rotate_left
            · intro wz hSw; (try dsimp only at hSw); go_simp; all_goals (try with_reducible rfl)
            (try simp only [List.getElem_toArray]); (try simp only [List.getElem_cons_succ]); (try simp only [List.getElem_cons_zero]); (try simp only [Act.put]); (try simp only [List.setIfInBounds_toArray]); (try simp only [List.set_cons_succ]); (try simp only [List.set_cons_zero])
            refine wpAnyH_take (i := 8) (v := ?_) rfl (by kernel_rfl) (by kernel_rfl) (by kernel_rfl) (fun _ _ _ h => h) (Or.inl ⟨by kernel_rfl, ?_⟩) hHeld ?_
            rotate_left
            · intro wz hSw; (try dsimp only at hSw); go_simp; all_goals (try with_reducible rfl)
            (try simp only [List.getElem_toArray]); (try simp only [List.getElem_cons_succ]); (try simp only [List.getElem_cons_zero]); (try simp only [Act.put]); (try simp only [List.setIfInBounds_toArray]); (try simp only [List.set_cons_succ]); (try simp only [List.set_cons_zero])
            refine wpAnyH_ready (rs := [9]) (by kernel_rfl) (by simp) (AllReadyH.cons rfl (fun Kc hKc => ?_) AllReadyH.nil)
            go_simp
            obtain ⟨Y, hY⟩ : ∃ Y, Y = w2.alloc (.cells #[.int .i64 0, .int .i64 0, .int .i64 0, .int .i64 0, .int .i64 0, .int .i64 0, .int .i64 0] 55) := ⟨_, rfl⟩
            obtain ⟨Z, hZ⟩ : ∃ Z, Z = w2.heap.size := ⟨_, rfl⟩
            have hby : Below w2.heap.size w2 Y := by rw [hY]; exact b0 _ _
            have hz1 : IsB Y Z #[.int .i64 0, .int .i64 0, .int .i64 0, .int .i64 0, .int .i64 0, .int .i64 0, .int .i64 0] 55 := by rw [hY, hZ]; exact IsB.new _ _ _
            have HZr := hidU hz1
            have hBZ : B ≠ Z := by have := HTr.out.1.lt; omega
            have hMZ : M ≠ Z := by have := HTr.out.2.lt; omega
            have hTZ : T ≠ Z := by have := HBr.out.lt; omega
            have hZ0 : w.heap.size ≤ Z := by have := HGr.out.size; omega
            rw [← hY, ← hZ]
            clear hz1 hY hZ
            have h2 := HTr.out.below hby
            have hb2 := HBr.out.below hby
            have hg2 := g_below HGr.out hby
            clear HTr HBr HGr bb0 bb1 bb2 bb3 bb4 bb5 bb6 tt0 tt1 tt2 tt3 tt4 tt5 tt6
            have HTr := hidU h2
            have HBr := hidU hb2
            have HGr := hidU hg2
            clear h2 hb2 hg2
            have bb0 := HTr.out.1.cell (v := .int .i64 qn) 11 rfl
            have bb1 := HTr.out.1.cell (v := .int .i64 qd) 12 rfl
            have bb2 := HTr.out.1.cell (v := .int .i64 qx0) 13 rfl
            have bb3 := HTr.out.1.cell (v := .int .i64 qx1) 14 rfl
            have bb4 := HTr.out.1.cell (v := .int .i64 qx2) 15 rfl
            have bb5 := HTr.out.1.cell (v := .int .i64 qx3) 16 rfl
            have bb6 := HTr.out.1.cell (v := .int .i64 qx4) 17 rfl
            have tt0 := HBr.out.cell (v := .int .i64 vn) 0 rfl
            have tt1 := HBr.out.cell (v := .int .i64 vd) 1 rfl
            have tt2 := HBr.out.cell (v := .int .i64 vx0) 2 rfl
            have tt3 := HBr.out.cell (v := .int .i64 vx1) 3 rfl
            have tt4 := HBr.out.cell (v := .int .i64 vx2) 4 rfl
            have tt5 := HBr.out.cell (v := .int .i64 vx3) 5 rfl
            have tt6 := HBr.out.cell (v := .int .i64 vx4) 6 rfl
            clear hby
            refine hKc.out _ _ ⟨bb0, bb1, bb2, bb3, bb4, bb5, bb6, tt0, tt1, tt2, tt3, tt4, tt5, tt6⟩ (fun hHeld => ?_)
            clear hKc Kc
            (try simp only [List.getElem_toArray]); (try simp only [List.getElem_cons_succ]); (try simp only [List.getElem_cons_zero]); (try simp only [Act.put]); (try simp only [List.setIfInBounds_toArray]); (try simp only [List.set_cons_succ]); (try simp only [List.set_cons_zero])
            have f0z := HZr.out.frozen
            have z0 := HZr.out.cell (v := .int .i64 0) 0 rfl
            have z1 := HZr.out.cell (v := .int .i64 0) 1 rfl
            have z2 := HZr.out.cell (v := .int .i64 0) 2 rfl
            have z3 := HZr.out.cell (v := .int .i64 0) 3 rfl
            have z4 := HZr.out.cell (v := .int .i64 0) 4 rfl
            have z5 := HZr.out.cell (v := .int .i64 0) 5 rfl
            have z6 := HZr.out.cell (v := .int .i64 0) 6 rfl
            have fz0 := HZr.out.frozen 0
            have fz1 := HZr.out.frozen 1
            have fz2 := HZr.out.frozen 2
            have fz3 := HZr.out.frozen 3
            have fz4 := HZr.out.frozen 4
            have fz5 := HZr.out.frozen 5
            have fz6 := HZr.out.frozen 6
            refine wpAnyH_ready (rs := [10]) (by kernel_rfl) (by simp) (AllReadyH.cons rfl (fun Kc hKc => ?_) AllReadyH.nil)
            go_simp
            have h2 : IsT (((((((Y.setCell ⟨Z, 0, none⟩ (.int .i64 mn)).setCell ⟨Z, 1, none⟩ (.int .i64 md)).setCell ⟨Z, 2, none⟩ (.int .i64 mx0)).setCell ⟨Z, 3, none⟩ (.int .i64 mx1)).setCell ⟨Z, 4, none⟩ (.int .i64 mx2)).setCell ⟨Z, 5, none⟩ (.int .i64 mx3)).setCell ⟨Z, 6, none⟩ (.int .i64 mx4)) B M s u p true ⟨qn, qd, qx0, qx1, qx2, qx3, qx4⟩ := (IsT.other (IsT.other (IsT.other (IsT.other (IsT.other (IsT.other (IsT.other HTr.out hBZ hMZ 0 _) hBZ hMZ 1 _) hBZ hMZ 2 _) hBZ hMZ 3 _) hBZ hMZ 4 _) hBZ hMZ 5 _) hBZ hMZ 6 _)
            have hb2 : IsB (((((((Y.setCell ⟨Z, 0, none⟩ (.int .i64 mn)).setCell ⟨Z, 1, none⟩ (.int .i64 md)).setCell ⟨Z, 2, none⟩ (.int .i64 mx0)).setCell ⟨Z, 3, none⟩ (.int .i64 mx1)).setCell ⟨Z, 4, none⟩ (.int .i64 mx2)).setCell ⟨Z, 5, none⟩ (.int .i64 mx3)).setCell ⟨Z, 6, none⟩ (.int .i64 mx4)) T #[.int .i64 vn, .int .i64 vd, .int .i64 vx0, .int .i64 vx1, .int .i64 vx2, .int .i64 vx3, .int .i64 vx4] 55 := (((((((HBr.out.other hTZ 0 _).other hTZ 1 _).other hTZ 2 _).other hTZ 3 _).other hTZ 4 _).other hTZ 5 _).other hTZ 6 _)
            have hz2 : IsB (((((((Y.setCell ⟨Z, 0, none⟩ (.int .i64 mn)).setCell ⟨Z, 1, none⟩ (.int .i64 md)).setCell ⟨Z, 2, none⟩ (.int .i64 mx0)).setCell ⟨Z, 3, none⟩ (.int .i64 mx1)).setCell ⟨Z, 4, none⟩ (.int .i64 mx2)).setCell ⟨Z, 5, none⟩ (.int .i64 mx3)).setCell ⟨Z, 6, none⟩ (.int .i64 mx4)) Z #[.int .i64 mn, .int .i64 md, .int .i64 mx0, .int .i64 mx1, .int .i64 mx2, .int .i64 mx3, .int .i64 mx4] 55 := IsB.seven ⟨mn, md, mx0, mx1, mx2, mx3, mx4⟩ HZr.out
            have hg2 : w.grownBy (((((((Y.setCell ⟨Z, 0, none⟩ (.int .i64 mn)).setCell ⟨Z, 1, none⟩ (.int .i64 md)).setCell ⟨Z, 2, none⟩ (.int .i64 mx0)).setCell ⟨Z, 3, none⟩ (.int .i64 mx1)).setCell ⟨Z, 4, none⟩ (.int .i64 mx2)).setCell ⟨Z, 5, none⟩ (.int .i64 mx3)).setCell ⟨Z, 6, none⟩ (.int .i64 mx4)) (some B) := (g_set (g_set (g_set (g_set (g_set (g_set (g_set HGr.out (.inl hZ0) 0 _) (.inl hZ0) 1 _) (.inl hZ0) 2 _) (.inl hZ0) 3 _) (.inl hZ0) 4 _) (.inl hZ0) 5 _) (.inl hZ0) 6 _)
            clear HTr HBr HGr HZr f0z bb0 bb1 bb2 bb3 bb4 bb5 bb6 tt0 tt1 tt2 tt3 tt4 tt5 tt6 z0 fz0 z1 fz1 z2 fz2 z3 fz3 z4 fz4 z5 fz5 z6 fz6
            have HTr := hidU h2
            have HBr := hidU hb2
            have HGr := hidU hg2
            have HZr := hidU hz2
            clear h2 hb2 hg2 hz2
            have bb0 := HTr.out.1.cell (v := .int .i64 qn) 11 rfl
            have bb1 := HTr.out.1.cell (v := .int .i64 qd) 12 rfl
            have bb2 := HTr.out.1.cell (v := .int .i64 qx0) 13 rfl
            have bb3 := HTr.out.1.cell (v := .int .i64 qx1) 14 rfl
            have bb4 := HTr.out.1.cell (v := .int .i64 qx2) 15 rfl
            have bb5 := HTr.out.1.cell (v := .int .i64 qx3) 16 rfl
            have bb6 := HTr.out.1.cell (v := .int .i64 qx4) 17 rfl
            have tt0 := HBr.out.cell (v := .int .i64 vn) 0 rfl
            have tt1 := HBr.out.cell (v := .int .i64 vd) 1 rfl
            have tt2 := HBr.out.cell (v := .int .i64 vx0) 2 rfl
            have tt3 := HBr.out.cell (v := .int .i64 vx1) 3 rfl
            have tt4 := HBr.out.cell (v := .int .i64 vx2) 4 rfl
            have tt5 := HBr.out.cell (v := .int .i64 vx3) 5 rfl
            have tt6 := HBr.out.cell (v := .int .i64 vx4) 6 rfl
            obtain ⟨Y2, hY2⟩ : ∃ Y2, Y2 = (((((((Y.setCell ⟨Z, 0, none⟩ (.int .i64 mn)).setCell ⟨Z, 1, none⟩ (.int .i64 md)).setCell ⟨Z, 2, none⟩ (.int .i64 mx0)).setCell ⟨Z, 3, none⟩ (.int .i64 mx1)).setCell ⟨Z, 4, none⟩ (.int .i64 mx2)).setCell ⟨Z, 5, none⟩ (.int .i64 mx3)).setCell ⟨Z, 6, none⟩ (.int .i64 mx4)) := ⟨_, rfl⟩
            rw [← hY2] at HTr HBr HGr HZr bb0 bb1 bb2 bb3 bb4 bb5 bb6 tt0 tt1 tt2 tt3 tt4 tt5 tt6 ⊢
            clear hY2
            refine hKc.out _ _ ⟨bb0, bb1, bb2, bb3, bb4, bb5, bb6, tt0, tt1, tt2, tt3, tt4, tt5, tt6⟩ (fun hHeld => ?_)
            clear hKc Kc
            (try simp only [List.getElem_toArray]); (try simp only [List.getElem_cons_succ]); (try simp only [List.getElem_cons_zero]); (try simp only [Act.put]); (try simp only [List.setIfInBounds_toArray]); (try simp only [List.set_cons_succ]); (try simp only [List.set_cons_zero])
            refine wpAnyH_take (i := 11) (v := ?_) rfl (by kernel_rfl) (by kernel_rfl) (by kernel_rfl) (fun _ _ _ h => h) (Or.inl ⟨by kernel_rfl, ?_⟩) hHeld ?_
            rotate_left
            · intro wz hSw; (try dsimp only at hSw); go_simp; all_goals (try with_reducible rfl)
            (try simp only [List.getElem_toArray]); (try simp only [List.getElem_cons_succ]); (try simp only [List.getElem_cons_zero]); (try simp only [Act.put]); (try simp only [List.setIfInBounds_toArray]); (try simp only [List.set_cons_succ]); (try simp only [List.set_cons_zero])
            refine wpAnyH_done (by kernel_rfl) ?_ _
            refine NoPanic.normal ?_
            clear hHeld bb0 bb1 bb2 bb3 bb4 bb5 bb6 tt0 tt1 tt2 tt3 tt4 tt5 tt6
            have c10 := HTr.out.1.cell (v := .bool true) 10 rfl
            cases mo with
            | false =>
              obtain rfl : o = none := HS.out
              go_wp2
              go_ret
              exact ⟨_, rfl, HTr.out, HGr.out, fun q hq => by cases hq⟩
            | true =>
              have z0 := HZr.out.cell (v := .int .i64 mn) 0 rfl
              have z1 := HZr.out.cell (v := .int .i64 md) 1 rfl
              have z2 := HZr.out.cell (v := .int .i64 mx0) 2 rfl
              have z3 := HZr.out.cell (v := .int .i64 mx1) 3 rfl
              have z4 := HZr.out.cell (v := .int .i64 mx2) 4 rfl
              have z5 := HZr.out.cell (v := .int .i64 mx3) 5 rfl
              have z6 := HZr.out.cell (v := .int .i64 mx4) 6 rfl
              have bb0 := HTr.out.1.cell (v := .int .i64 qn) 11 rfl
              have bb1 := HTr.out.1.cell (v := .int .i64 qd) 12 rfl
              have bb2 := HTr.out.1.cell (v := .int .i64 qx0) 13 rfl
              have bb3 := HTr.out.1.cell (v := .int .i64 qx1) 14 rfl
              have bb4 := HTr.out.1.cell (v := .int .i64 qx2) 15 rfl
              have bb5 := HTr.out.1.cell (v := .int .i64 qx3) 16 rfl
              have bb6 := HTr.out.1.cell (v := .int .i64 qx4) 17 rfl
              have g0 := HTr.out.1.frozen 11
              have g1 := HTr.out.1.frozen 12
              have g2 := HTr.out.1.frozen 13
              have g3 := HTr.out.1.frozen 14
              have g4 := HTr.out.1.frozen 15
              have g5 := HTr.out.1.frozen 16
              have g6 := HTr.out.1.frozen 17
              have hNT := hidU (IsT.prod HTr.out ⟨mn, md, mx0, mx1, mx2, mx3, mx4⟩)
              have hTB2 : Hid (IsB (((((((Y2.setCell ⟨B, 11, none⟩ (.int .i64 mn)).setCell ⟨B, 12, none⟩ (.int .i64 md)).setCell ⟨B, 13, none⟩ (.int .i64 mx0)).setCell ⟨B, 14, none⟩ (.int .i64 mx1)).setCell ⟨B, 15, none⟩ (.int .i64 mx2)).setCell ⟨B, 16, none⟩ (.int .i64 mx3)).setCell ⟨B, 17, none⟩ (.int .i64 mx4)) T #[.int .i64 vn, .int .i64 vd, .int .i64 vx0, .int .i64 vx1, .int .i64 vx2, .int .i64 vx3, .int .i64 vx4] 55) := (((((((HBr.out.other hBT.symm 11 _).other hBT.symm 12 _).other hBT.symm 13 _).other hBT.symm 14 _).other hBT.symm 15 _).other hBT.symm 16 _).other hBT.symm 17 _)
              have hKk : (k : Int) + 1 ≤ K := by omega
              clear HZr HTr HBr
              go_wp2
              go_roundw
              case rel => exact ⟨k + 1, ⟨mn, md, mx0, mx1, mx2, mx3, mx4⟩, by omega, by go_num, HS.out, HD.out rfl, hNT.out.1, hTB2.out, HGr.out.trans hNT.out.2⟩
              case measure => simp [intOf]; omega
          · go_simp
            obtain ⟨Y, hY⟩ : ∃ Y, Y = (wr.alloc (.cells #[.int .i64 0, .int .i64 0, .int .i64 0, .int .i64 0, .int .i64 0, .int .i64 0, .int .i64 0] 55)).drew := ⟨_, rfl⟩
            obtain ⟨Z, hZ⟩ : ∃ Z, Z = wr.heap.size := ⟨_, rfl⟩
            have hby : Below wr.heap.size wr Y := by rw [hY]; exact (b0 _ _).drew
            have hz1 : IsB Y Z #[.int .i64 0, .int .i64 0, .int .i64 0, .int .i64 0, .int .i64 0, .int .i64 0, .int .i64 0] 55 := by rw [hY, hZ]; exact (IsB.new _ _ _).drew
            have HZr := hidU hz1
            have hBZ : B ≠ Z := by have := HTr.out.1.lt; omega
            have hMZ : M ≠ Z := by have := HTr.out.2.lt; omega
            have hTZ : T ≠ Z := by have := HBr.out.lt; omega
            have hZ0 : w.heap.size ≤ Z := by have := HGr.out.size; omega
            rw [← hY, ← hZ]
            clear hz1 hY hZ
            have h2 := HTr.out.below hby
            have hb2 := HBr.out.below hby
            have hg2 := g_below HGr.out hby
            clear HTr HBr HGr bb0 bb1 bb2 bb3 bb4 bb5 bb6 tt0 tt1 tt2 tt3 tt4 tt5 tt6
            have HTr := hidU h2
            have HBr := hidU hb2
            have HGr := hidU hg2
            clear h2 hb2 hg2
            have bb0 := HTr.out.1.cell (v := .int .i64 qn) 11 rfl
            have bb1 := HTr.out.1.cell (v := .int .i64 qd) 12 rfl
            have bb2 := HTr.out.1.cell (v := .int .i64 qx0) 13 rfl
            have bb3 := HTr.out.1.cell (v := .int .i64 qx1) 14 rfl
            have bb4 := HTr.out.1.cell (v := .int .i64 qx2) 15 rfl
            have bb5 := HTr.out.1.cell (v := .int .i64 qx3) 16 rfl
            have bb6 := HTr.out.1.cell (v := .int .i64 qx4) 17 rfl
            have tt0 := HBr.out.cell (v := .int .i64 vn) 0 rfl
            have tt1 := HBr.out.cell (v := .int .i64 vd) 1 rfl
            have tt2 := HBr.out.cell (v := .int .i64 vx0) 2 rfl
            have tt3 := HBr.out.cell (v := .int .i64 vx1) 3 rfl
            have tt4 := HBr.out.cell (v := .int .i64 vx2) 4 rfl
            have tt5 := HBr.out.cell (v := .int .i64 vx3) 5 rfl
            have tt6 := HBr.out.cell (v := .int .i64 vx4) 6 rfl
            clear hby
            refine hKc.out _ _ ⟨bb0, bb1, bb2, bb3, bb4, bb5, bb6, tt0, tt1, tt2, tt3, tt4, tt5, tt6⟩ (fun hHeld => ?_)
            clear hKc Kc
            (try simp only [List.getElem_toArray]); (try simp only [List.getElem_cons_succ]); (try simp only [List.getElem_cons_zero]); (try simp only [Act.put]); (try simp only [List.setIfInBounds_toArray]); (try simp only [List.set_cons_succ]); (try simp only [List.set_cons_zero])
            refine wpAnyH_ready (rs := [5]) (by kernel_rfl) (by simp) (AllReadyH.cons rfl (fun Kc hKc => ?_) AllReadyH.nil)
            go_simp
            (go_at_call 84; refine (HMul.out _).mono ?_)
            rintro e w2 ⟨rfl, hbx⟩
            have hb : Below Y.heap.size Y w2 := hbx
            replace HZr := hidU (HZr.out.below hb)
            have h2 := HTr.out.below hb
            have hb2 := HBr.out.below hb
            have hg2 := g_below HGr.out hb
            clear HTr HBr HGr bb0 bb1 bb2 bb3 bb4 bb5 bb6 tt0 tt1 tt2 tt3 tt4 tt5 tt6
            have HTr := hidU h2
            have HBr := hidU hb2
            have HGr := hidU hg2
            clear h2 hb2 hg2
            have bb0 := HTr.out.1.cell (v := .int .i64 qn) 11 rfl
            have bb1 := HTr.out.1.cell (v := .int .i64 qd) 12 rfl
            have bb2 := HTr.out.1.cell (v := .int .i64 qx0) 13 rfl
            have bb3 := HTr.out.1.cell (v := .int .i64 qx1) 14 rfl
            have bb4 := HTr.out.1.cell (v := .int .i64 qx2) 15 rfl
            have bb5 := HTr.out.1.cell (v := .int .i64 qx3) 16 rfl
            have bb6 := HTr.out.1.cell (v := .int .i64 qx4) 17 rfl
            have tt0 := HBr.out.cell (v := .int .i64 vn) 0 rfl
            have tt1 := HBr.out.cell (v := .int .i64 vd) 1 rfl
            have tt2 := HBr.out.cell (v := .int .i64 vx0) 2 rfl
            have tt3 := HBr.out.cell (v := .int .i64 vx1) 3 rfl
            have tt4 := HBr.out.cell (v := .int .i64 vx2) 4 rfl
            have tt5 := HBr.out.cell (v := .int .i64 vx3) 5 rfl
            have tt6 := HBr.out.cell (v := .int .i64 vx4) 6 rfl
            clear hbx hb
            go_wp2_with fail
            refine hKc.out _ _ ⟨bb0, bb1, bb2, bb3, bb4, bb5, bb6, tt0, tt1, tt2, tt3, tt4, tt5, tt6⟩ (fun hHeld => ?_)
            clear hKc Kc
            (try simp only [List.getElem_toArray]); (try simp only [List.getElem_cons_succ]); (try simp only [List.getElem_cons_zero]); (try simp only [Act.put]); (try simp only [List.setIfInBounds_toArray]); (try simp only [List.set_cons_succ]); (try simp only [List.set_cons_zero])
            refine wpAnyH_take (i := 6) (v := ?_) rfl (by kernel_rfl) (by kernel_rfl) (by kernel_rfl) (fun _ _ _ h => h) (Or.inl ⟨by kernel_rfl, ?_⟩) hHeld ?_
            rotate_left
            · intro wz hSw; (try dsimp only at hSw); go_simp; all_goals (try with_reducible rfl)
            (try simp only [List.getElem_toArray]); (try simp only [List.getElem_cons_succ]); (try simp only [List.getElem_cons_zero]); (try simp only [Act.put]); (try simp only [List.setIfInBounds_toArray]); (try simp only [List.set_cons_succ]); (try simp only [List.set_cons_zero])
            refine wpAnyH_take (i := 7) (v := ?_) rfl (by kernel_rfl) (by kernel_rfl) (by kernel_rfl) (fun _ _ _ h => h) (Or.inl ⟨by kernel_rfl, ?_⟩) hHeld ?_
            rotate_left
            · intro wz hSw; (try dsimp only at hSw); go_simp; all_goals (try with_reducible rfl)
            (try simp only [List.getElem_toArray]); (try simp only [List.getElem_cons_succ]); (try simp only [List.getElem_cons_zero]); (try simp only [Act.put]); (try simp only [List.setIfInBounds_toArray]); (try simp only [List.set_cons_succ]); (try simp only [List.set_cons_zero])
            refine wpAnyH_take (i := 8) (v := ?_) rfl (by kernel_rfl) (by kernel_rfl) (by kernel_rfl) (fun _ _ _ h => h) (Or.inl ⟨by kernel_rfl, ?_⟩) hHeld ?_
            rotate_left
            · intro wz hSw; (try dsimp only at hSw); go_simp; all_goals (try with_reducible rfl)
            (try simp only [List.getElem_toArray]); (try simp only [List.getElem_cons_succ]); (try simp only [List.getElem_cons_zero]); (try simp only [Act.put]); (try simp only [List.setIfInBounds_toArray]); (try simp only [List.set_cons_succ]); (try simp only [List.set_cons_zero])
            have f0z := HZr.out.frozen
            have z0 := HZr.out.cell (v := .int .i64 0) 0 rfl
            have z1 := HZr.out.cell (v := .int .i64 0) 1 rfl
            have z2 := HZr.out.cell (v := .int .i64 0) 2 rfl
            have z3 := HZr.out.cell (v := .int .i64 0) 3 rfl
            have z4 := HZr.out.cell (v := .int .i64 0) 4 rfl
            have z5 := HZr.out.cell (v := .int .i64 0) 5 rfl
            have z6 := HZr.out.cell (v := .int .i64 0) 6 rfl
            have fz0 := HZr.out.frozen 0
            have fz1 := HZr.out.frozen 1
            have fz2 := HZr.out.frozen 2
            have fz3 := HZr.out.frozen 3
            have fz4 := HZr.out.frozen 4
            have fz5 := HZr.out.frozen 5
            have fz6 := HZr.out.frozen 6
            refine wpAnyH_ready (rs := [10]) (by kernel_rfl) (by simp) (AllReadyH.cons rfl (fun Kc hKc => ?_) AllReadyH.nil)
            go_simp
            have h2 : IsT (((((((w2.setCell ⟨Z, 0, none⟩ (.int .i64 mn)).setCell ⟨Z, 1, none⟩ (.int .i64 md)).setCell ⟨Z, 2, none⟩ (.int .i64 mx0)).setCell ⟨Z, 3, none⟩ (.int .i64 mx1)).setCell ⟨Z, 4, none⟩ (.int .i64 mx2)).setCell ⟨Z, 5, none⟩ (.int .i64 mx3)).setCell ⟨Z, 6, none⟩ (.int .i64 mx4)) B M s u p true ⟨qn, qd, qx0, qx1, qx2, qx3, qx4⟩ := (IsT.other (IsT.other (IsT.other (IsT.other (IsT.other (IsT.other (IsT.other HTr.out hBZ hMZ 0 _) hBZ hMZ 1 _) hBZ hMZ 2 _) hBZ hMZ 3 _) hBZ hMZ 4 _) hBZ hMZ 5 _) hBZ hMZ 6 _)
            have hb2 : IsB (((((((w2.setCell ⟨Z, 0, none⟩ (.int .i64 mn)).setCell ⟨Z, 1, none⟩ (.int .i64 md)).setCell ⟨Z, 2, none⟩ (.int .i64 mx0)).setCell ⟨Z, 3, none⟩ (.int .i64 mx1)).setCell ⟨Z, 4, none⟩ (.int .i64 mx2)).setCell ⟨Z, 5, none⟩ (.int .i64 mx3)).setCell ⟨Z, 6, none⟩ (.int .i64 mx4)) T #[.int .i64 vn, .int .i64 vd, .int .i64 vx0, .int .i64 vx1, .int .i64 vx2, .int .i64 vx3, .int .i64 vx4] 55 := (((((((HBr.out.other hTZ 0 _).other hTZ 1 _).other hTZ 2 _).other hTZ 3 _).other hTZ 4 _).other hTZ 5 _).other hTZ 6 _)
            have hz2 : IsB (((((((w2.setCell ⟨Z, 0, none⟩ (.int .i64 mn)).setCell ⟨Z, 1, none⟩ (.int .i64 md)).setCell ⟨Z, 2, none⟩ (.int .i64 mx0)).setCell ⟨Z, 3, none⟩ (.int .i64 mx1)).setCell ⟨Z, 4, none⟩ (.int .i64 mx2)).setCell ⟨Z, 5, none⟩ (.int .i64 mx3)).setCell ⟨Z, 6, none⟩ (.int .i64 mx4)) Z #[.int .i64 mn, .int .i64 md, .int .i64 mx0, .int .i64 mx1, .int .i64 mx2, .int .i64 mx3, .int .i64 mx4] 55 := IsB.seven ⟨mn, md, mx0, mx1, mx2, mx3, mx4⟩ HZr.out
            have hg2 : w.grownBy (((((((w2.setCell ⟨Z, 0, none⟩ (.int .i64 mn)).setCell ⟨Z, 1, none⟩ (.int .i64 md)).setCell ⟨Z, 2, none⟩ (.int .i64 mx0)).setCell ⟨Z, 3, none⟩ (.int .i64 mx1)).setCell ⟨Z, 4, none⟩ (.int .i64 mx2)).setCell ⟨Z, 5, none⟩ (.int .i64 mx3)).setCell ⟨Z, 6, none⟩ (.int .i64 mx4)) (some B) := (g_set (g_set (g_set (g_set (g_set (g_set (g_set HGr.out (.inl hZ0) 0 _) (.inl hZ0) 1 _) (.inl hZ0) 2 _) (.inl hZ0) 3 _) (.inl hZ0) 4 _) (.inl hZ0) 5 _) (.inl hZ0) 6 _)
            clear HTr HBr HGr HZr f0z bb0 bb1 bb2 bb3 bb4 bb5 bb6 tt0 tt1 tt2 tt3 tt4 tt5 tt6 z0 fz0 z1 fz1 z2 fz2 z3 fz3 z4 fz4 z5 fz5 z6 fz6
            have HTr := hidU h2
            have HBr := hidU hb2
            have HGr := hidU hg2
            have HZr := hidU hz2
            clear h2 hb2 hg2 hz2
            have bb0 := HTr.out.1.cell (v := .int .i64 qn) 11 rfl
            have bb1 := HTr.out.1.cell (v := .int .i64 qd) 12 rfl
            have bb2 := HTr.out.1.cell (v := .int .i64 qx0) 13 rfl
            have bb3 := HTr.out.1.cell (v := .int .i64 qx1) 14 rfl
            have bb4 := HTr.out.1.cell (v := .int .i64 qx2) 15 rfl
            have bb5 := HTr.out.1.cell (v := .int .i64 qx3) 16 rfl
            have bb6 := HTr.out.1.cell (v := .int .i64 qx4) 17 rfl
            have tt0 := HBr.out.cell (v := .int .i64 vn) 0 rfl
            have tt1 := HBr.out.cell (v := .int .i64 vd) 1 rfl
            have tt2 := HBr.out.cell (v := .int .i64 vx0) 2 rfl
            have tt3 := HBr.out.cell (v := .int .i64 vx1) 3 rfl
            have tt4 := HBr.out.cell (v := .int .i64 vx2) 4 rfl
            have tt5 := HBr.out.cell (v := .int .i64 vx3) 5 rfl
            have tt6 := HBr.out.cell (v := .int .i64 vx4) 6 rfl
            obtain ⟨Y2, hY2⟩ : ∃ Y2, Y2 = (((((((w2.setCell ⟨Z, 0, none⟩ (.int .i64 mn)).setCell ⟨Z, 1, none⟩ (.int .i64 md)).setCell ⟨Z, 2, none⟩ (.int .i64 mx0)).setCell ⟨Z, 3, none⟩ (.int .i64 mx1)).setCell ⟨Z, 4, none⟩ (.int .i64 mx2)).setCell ⟨Z, 5, none⟩ (.int .i64 mx3)).setCell ⟨Z, 6, none⟩ (.int .i64 mx4)) := ⟨_, rfl⟩
            rw [← hY2] at HTr HBr HGr HZr bb0 bb1 bb2 bb3 bb4 bb5 bb6 tt0 tt1 tt2 tt3 tt4 tt5 tt6 ⊢
            clear hY2
            refine hKc.out _ _ ⟨bb0, bb1, bb2, bb3, bb4, bb5, bb6, tt0, tt1, tt2, tt3, tt4, tt5, tt6⟩ (fun hHeld => ?_)
            clear hKc Kc
            (try simp only [List.getElem_toArray]); (try simp only [List.getElem_cons_succ]); (try simp only [List.getElem_cons_zero]); (try simp only [Act.put]); (try simp only [List.setIfInBounds_toArray]); (try simp only [List.set_cons_succ]); (try simp only [List.set_cons_zero])
            refine wpAnyH_take (i := 11) (v := ?_) rfl (by kernel_rfl) (by kernel_rfl) (by kernel_rfl) (fun _ _ _ h => h) (Or.inl ⟨by kernel_rfl, ?_⟩) hHeld ?_
            rotate_left
            · intro wz hSw; (try dsimp only at hSw); go_simp; all_goals (try with_reducible rfl)
            (try simp only [List.getElem_toArray]); (try simp only [List.getElem_cons_succ]); (try simp only [List.getElem_cons_zero]); (try simp only [Act.put]); (try simp only [List.setIfInBounds_toArray]); (try simp only [List.set_cons_succ]); (try simp only [List.set_cons_zero])
            refine wpAnyH_done (by kernel_rfl) ?_ _
            refine NoPanic.normal ?_
            clear hHeld bb0 bb1 bb2 bb3 bb4 bb5 bb6 tt0 tt1 tt2 tt3 tt4 tt5 tt6
            have c10 := HTr.out.1.cell (v := .bool true) 10 rfl
            cases mo with
            | false =>
              obtain rfl : o = none := HS.out
              go_wp2
              go_ret
              exact ⟨_, rfl, HTr.out, HGr.out, fun q hq => by cases hq⟩
            | true =>
              have z0 := HZr.out.cell (v := .int .i64 mn) 0 rfl
              have z1 := HZr.out.cell (v := .int .i64 md) 1 rfl
              have z2 := HZr.out.cell (v := .int .i64 mx0) 2 rfl
              have z3 := HZr.out.cell (v := .int .i64 mx1) 3 rfl
              have z4 := HZr.out.cell (v := .int .i64 mx2) 4 rfl
              have z5 := HZr.out.cell (v := .int .i64 mx3) 5 rfl
              have z6 := HZr.out.cell (v := .int .i64 mx4) 6 rfl
              have bb0 := HTr.out.1.cell (v := .int .i64 qn) 11 rfl
              have bb1 := HTr.out.1.cell (v := .int .i64 qd) 12 rfl
              have bb2 := HTr.out.1.cell (v := .int .i64 qx0) 13 rfl
              have bb3 := HTr.out.1.cell (v := .int .i64 qx1) 14 rfl
              have bb4 := HTr.out.1.cell (v := .int .i64 qx2) 15 rfl
              have bb5 := HTr.out.1.cell (v := .int .i64 qx3) 16 rfl
              have bb6 := HTr.out.1.cell (v := .int .i64 qx4) 17 rfl
              have g0 := HTr.out.1.frozen 11
              have g1 := HTr.out.1.frozen 12
              have g2 := HTr.out.1.frozen 13
              have g3 := HTr.out.1.frozen 14
              have g4 := HTr.out.1.frozen 15
              have g5 := HTr.out.1.frozen 16
              have g6 := HTr.out.1.frozen 17
              have hNT := hidU (IsT.prod HTr.out ⟨mn, md, mx0, mx1, mx2, mx3, mx4⟩)
              have hTB2 : Hid (IsB (((((((Y2.setCell ⟨B, 11, none⟩ (.int .i64 mn)).setCell ⟨B, 12, none⟩ (.int .i64 md)).setCell ⟨B, 13, none⟩ (.int .i64 mx0)).setCell ⟨B, 14, none⟩ (.int .i64 mx1)).setCell ⟨B, 15, none⟩ (.int .i64 mx2)).setCell ⟨B, 16, none⟩ (.int .i64 mx3)).setCell ⟨B, 17, none⟩ (.int .i64 mx4)) T #[.int .i64 vn, .int .i64 vd, .int .i64 vx0, .int .i64 vx1, .int .i64 vx2, .int .i64 vx3, .int .i64 vx4] 55) := (((((((HBr.out.other hBT.symm 11 _).other hBT.symm 12 _).other hBT.symm 13 _).other hBT.symm 14 _).other hBT.symm 15 _).other hBT.symm 16 _).other hBT.symm 17 _)
              have hKk : (k : Int) + 1 ≤ K := by omega
              clear HZr HTr HBr
              go_wp2
              go_roundw
              case rel => exact ⟨k + 1, ⟨mn, md, mx0, mx1, mx2, mx3, mx4⟩, by omega, by go_num, HS.out, HD.out rfl, hNT.out.1, hTB2.out, HGr.out.trans hNT.out.2⟩
              case measure => simp [intOf]; omega
        · obtain rfl : k = K := by omega
          have ho : o = some P' := by rw [HOk.out, Nat.sub_self]; rfl
          subst ho
          go_wp2
          go_ret
          exact ⟨P', rfl, HTr.out, HGr.out, fun q hq => by cases hq; exact ⟨rfl, HPk.out⟩⟩
    · have e9 : v = invV u := by rw [hv]; simp [hn]
      have HV2 := hidU (show ∀ W, Calls Tryz.prog 83 #[uVal u] W fun e w' => e = .returned (uVal v) ∧ Below W.heap.size W w' from fun W => by rw [e9]; exact HV.out W)
      clear e9
      obtain ⟨un, ud, ux0, ux1, ux2, ux3, ux4, e'⟩ : ∃ un ud ux0 ux1 ux2 ux3 ux4, u = ⟨un, ud, ux0, ux1, ux2, ux3, ux4⟩ := ⟨_, _, _, _, _, _, _, rfl⟩
      have HV3 := hidU (show ∀ W, Calls Tryz.prog 83 #[uVal ⟨un, ud, ux0, ux1, ux2, ux3, ux4⟩] W fun e w' => e = .returned (uVal v) ∧ Below W.heap.size W w' by rw [← e']; exact HV2.out)
      clear HV2
      have hKp : p = K := by omega
      clear hv hK HV
      have hlt := HT.out.1.lt
      have hne : B ≠ w.heap.size := by omega
      obtain ⟨vn, vd, vx0, vx1, vx2, vx3, vx4⟩ := v
      simp only [uVal] at HV3
      simp only [e'] at c2 c3 c4 c5 c6 c7 c8
      clear e'
      have e2 := fun o => cell_al o c2
      have e3 := fun o => cell_al o c3
      have e4 := fun o => cell_al o c4
      have e5 := fun o => cell_al o c5
      have e6 := fun o => cell_al o c6
      have e7 := fun o => cell_al o c7
      have e8 := fun o => cell_al o c8
      have e9 := fun o => cell_al o c9
      have e10 := fun o => cell_al o c10
      go_enter Tryz.func57, Tryz.ntmps57
      go_upto_region 1 with fail
      go_region
      obtain ⟨X, hX⟩ : ∃ X, X = (w.alloc (.cells #[.int .i64 un, .int .i64 ud, .int .i64 ux0, .int .i64 ux1, .int .i64 ux2, .int .i64 ux3, .int .i64 ux4] 55)).drew := ⟨_, rfl⟩
      obtain ⟨T, hTe⟩ : ∃ T, T = w.heap.size := ⟨_, rfl⟩
      have hbX : Below w.heap.size w X := by rw [hX]; exact (b0 _ _).drew
      have hTB0 : IsB X T #[.int .i64 un, .int .i64 ud, .int .i64 ux0, .int .i64 ux1, .int .i64 ux2, .int .i64 ux3, .int .i64 ux4] 55 := by rw [hX, hTe]; exact (IsB.new _ _ _).drew
      have hTX := HT.out.below hbX
      have HGX := hidU (grown_new (row := some B) hbX)
      have hBT : B ≠ T := by omega
      rw [← hX, ← hTe]
      clear hlt hne c2 e2 c3 e3 c4 e4 c5 e5 c6 e6 c7 e7 c8 e8 c9 e9 c10 e10
      have e10 := hTX.1.cell (v := .bool true) 10 rfl
      have HTX := hidU hTX
      have HTB0 := hidU hTB0
      clear hTX hTB0 hX hbX HT
      have hTw : Hid (w.heap.size ≤ T) := Nat.le_of_eq hTe.symm
      clear hTe
      have tt0 := HTB0.out.cell (v := .int .i64 un) 0 rfl
      have tt1 := HTB0.out.cell (v := .int .i64 ud) 1 rfl
      have tt2 := HTB0.out.cell (v := .int .i64 ux0) 2 rfl
      have tt3 := HTB0.out.cell (v := .int .i64 ux1) 3 rfl
      have tt4 := HTB0.out.cell (v := .int .i64 ux2) 4 rfl
      have tt5 := HTB0.out.cell (v := .int .i64 ux3) 5 rfl
      have tt6 := HTB0.out.cell (v := .int .i64 ux4) 6 rfl
      have hK0 : ¬ (K : Int) < 0 := by omega
      have hK1 : -(K : Int) < 0 := by omega
      have hKw : IntKind.i64.wrap (K : Int) = K := by rw [IntKind.wrap_i64]; omega
      have hKw2 : IntKind.i64.wrap (-(K : Int)) = -K := by rw [IntKind.wrap_i64]; omega
      have hKw3 : IntKind.i64.wrap (- -(K : Int)) = K := by rw [IntKind.wrap_i64]; omega
      go_wp2_with fail
      refine (HV3.out _).mono ?_
      rintro e X1 ⟨rfl, hb1⟩
      have hTX := HTX.out.below hb1
      have hTB0 := HTB0.out.below hb1
      have hGX := g_below HGX.out hb1
      clear HTX HTB0 HGX hb1 HV3 e10 tt0 tt1 tt2 tt3 tt4 tt5 tt6
      have tt0 := hTB0.cell (v := .int .i64 un) 0 rfl
      have tt1 := hTB0.cell (v := .int .i64 ud) 1 rfl
      have tt2 := hTB0.cell (v := .int .i64 ux0) 2 rfl
      have tt3 := hTB0.cell (v := .int .i64 ux1) 3 rfl
      have tt4 := hTB0.cell (v := .int .i64 ux2) 4 rfl
      have tt5 := hTB0.cell (v := .int .i64 ux3) 5 rfl
      have tt6 := hTB0.cell (v := .int .i64 ux4) 6 rfl
      have ff0 := hTB0.frozen 0
      have ff1 := hTB0.frozen 1
      have ff2 := hTB0.frozen 2
      have ff3 := hTB0.frozen 3
      have ff4 := hTB0.frozen 4
      have ff5 := hTB0.frozen 5
      have ff6 := hTB0.frozen 6
      have hMT : M ≠ T := by have := hTX.2; intro e; have h1 : X1.heap[T]? = _ := hTB0; have h2 : X1.heap[M]? = _ := this; rw [e, h1] at h2; cases h2
      have HTX : Hid (IsT (((((((X1.setCell ⟨T, 0, none⟩ (.int .i64 vn)).setCell ⟨T, 1, none⟩ (.int .i64 vd)).setCell ⟨T, 2, none⟩ (.int .i64 vx0)).setCell ⟨T, 3, none⟩ (.int .i64 vx1)).setCell ⟨T, 4, none⟩ (.int .i64 vx2)).setCell ⟨T, 5, none⟩ (.int .i64 vx3)).setCell ⟨T, 6, none⟩ (.int .i64 vx4)) B M s u p true P) := (IsT.other (IsT.other (IsT.other (IsT.other (IsT.other (IsT.other (IsT.other hTX hBT hMT 0 _) hBT hMT 1 _) hBT hMT 2 _) hBT hMT 3 _) hBT hMT 4 _) hBT hMT 5 _) hBT hMT 6 _)
      have HTB : Hid (IsB (((((((X1.setCell ⟨T, 0, none⟩ (.int .i64 vn)).setCell ⟨T, 1, none⟩ (.int .i64 vd)).setCell ⟨T, 2, none⟩ (.int .i64 vx0)).setCell ⟨T, 3, none⟩ (.int .i64 vx1)).setCell ⟨T, 4, none⟩ (.int .i64 vx2)).setCell ⟨T, 5, none⟩ (.int .i64 vx3)).setCell ⟨T, 6, none⟩ (.int .i64 vx4)) T #[.int .i64 vn, .int .i64 vd, .int .i64 vx0, .int .i64 vx1, .int .i64 vx2, .int .i64 vx3, .int .i64 vx4] 55) := (((((((hTB0.set 0 (.int .i64 vn)).set 1 (.int .i64 vd)).set 2 (.int .i64 vx0)).set 3 (.int .i64 vx1)).set 4 (.int .i64 vx2)).set 5 (.int .i64 vx3)).set 6 (.int .i64 vx4))
      have HGX : Hid (w.grownBy (((((((X1.setCell ⟨T, 0, none⟩ (.int .i64 vn)).setCell ⟨T, 1, none⟩ (.int .i64 vd)).setCell ⟨T, 2, none⟩ (.int .i64 vx0)).setCell ⟨T, 3, none⟩ (.int .i64 vx1)).setCell ⟨T, 4, none⟩ (.int .i64 vx2)).setCell ⟨T, 5, none⟩ (.int .i64 vx3)).setCell ⟨T, 6, none⟩ (.int .i64 vx4)) (some B)) := (g_set (g_set (g_set (g_set (g_set (g_set (g_set hGX (.inl hTw.out) 0 _) (.inl hTw.out) 1 _) (.inl hTw.out) 2 _) (.inl hTw.out) 3 _) (.inl hTw.out) 4 _) (.inl hTw.out) 5 _) (.inl hTw.out) 6 _)
      clear hTX hTB0 hGX
      have e10 := True.intro
      go_wp2
      clear e10
      go_loopw [28] (fun i wr => ∃ (k : Nat) (P' : UV), k ≤ K ∧ i = .int .i64 k ∧ Hid (o = mulN ⟨vn, vd, vx0, vx1, vx2, vx3, vx4⟩ (K - k) P') ∧ Hid (okD P') ∧ Hid (IsT wr B M s u p true P') ∧ Hid (IsB wr T #[.int .i64 vn, .int .i64 vd, .int .i64 vx0, .int .i64 vx1, .int .i64 vx2, .int .i64 vx3, .int .i64 vx4] 55) ∧ Hid (w.grownBy wr (some B))) (fun i _ => K - (intOf i).toNat)
      case atStart => exact ⟨0, P, Nat.zero_le _, rfl, HO.out, HP.out, HTX.out, HTB.out, HGX.out⟩
      case round =>
        clear HTX HTB HGX HO HP
        obtain ⟨k, P', hk, rfl, HOk, HPk, HTr, HBr, HGr⟩ := hrel
        by_cases hlt : k < K
        · obtain ⟨qn, qd, qx0, qx1, qx2, qx3, qx4⟩ := P'
          obtain ⟨⟨⟨mn, md, mx0, mx1, mx2, mx3, mx4⟩, mo⟩, hm⟩ : ∃ m, m = mulV ⟨qn, qd, qx0, qx1, qx2, qx3, qx4⟩ ⟨vn, vd, vx0, vx1, vx2, vx3, vx4⟩ := ⟨_, rfl⟩
          have HMul : Hid (∀ W, Calls Tryz.prog 84 #[.agg #[.int .i64 qn, .int .i64 qd, .int .i64 qx0, .int .i64 qx1, .int .i64 qx2, .int .i64 qx3, .int .i64 qx4], .agg #[.int .i64 vn, .int .i64 vd, .int .i64 vx0, .int .i64 vx1, .int .i64 vx2, .int .i64 vx3, .int .i64 vx4]] W fun e w' => e = .returned (.tuple #[.agg #[.int .i64 mn, .int .i64 md, .int .i64 mx0, .int .i64 mx1, .int .i64 mx2, .int .i64 mx3, .int .i64 mx4], .bool mo]) ∧ Below W.heap.size W w') := fun W => by
            have := vtimes_any ⟨qn, qd, qx0, qx1, qx2, qx3, qx4⟩ ⟨vn, vd, vx0, vx1, vx2, vx3, vx4⟩ W HPk.out HVD.out
            rw [← hm] at this
            exact this
          have HS : Hid (o = if mo = true then mulN ⟨vn, vd, vx0, vx1, vx2, vx3, vx4⟩ (K - (k + 1)) ⟨mn, md, mx0, mx1, mx2, mx3, mx4⟩ else none) := by
            show _ = _
            rw [HOk.out, show K - k = (K - (k + 1)) + 1 by omega]
            rw [mulN_succ, ← hm]
          have HD : Hid (mo = true → okD ⟨mn, md, mx0, mx1, mx2, mx3, mx4⟩) := fun e => by
            have := @okD_mul ⟨qn, qd, qx0, qx1, qx2, qx3, qx4⟩ ⟨vn, vd, vx0, vx1, vx2, vx3, vx4⟩ (by rw [← hm]; exact e)
            rw [← hm] at this
            exact this
          have hki : (k : Int) < K := by omega
          clear hm HOk HPk
          have bb0 := HTr.out.1.cell (v := .int .i64 qn) 11 rfl
          have bb1 := HTr.out.1.cell (v := .int .i64 qd) 12 rfl
          have bb2 := HTr.out.1.cell (v := .int .i64 qx0) 13 rfl
          have bb3 := HTr.out.1.cell (v := .int .i64 qx1) 14 rfl
          have bb4 := HTr.out.1.cell (v := .int .i64 qx2) 15 rfl
          have bb5 := HTr.out.1.cell (v := .int .i64 qx3) 16 rfl
          have bb6 := HTr.out.1.cell (v := .int .i64 qx4) 17 rfl
          have tt0 := HBr.out.cell (v := .int .i64 vn) 0 rfl
          have tt1 := HBr.out.cell (v := .int .i64 vd) 1 rfl
          have tt2 := HBr.out.cell (v := .int .i64 vx0) 2 rfl
          have tt3 := HBr.out.cell (v := .int .i64 vx1) 3 rfl
          have tt4 := HBr.out.cell (v := .int .i64 vx2) 4 rfl
          have tt5 := HBr.out.cell (v := .int .i64 vx3) 5 rfl
          have tt6 := HBr.out.cell (v := .int .i64 vx4) 6 rfl
          go_upto_region 8 with fail
          refine wp_region_noPanic ?_
          refine wp_region_held_drew (S := (fun w' => w'.cell? ⟨B, 11, none⟩ = some (.int .i64 qn) ∧ w'.cell? ⟨B, 12, none⟩ = some (.int .i64 qd) ∧ w'.cell? ⟨B, 13, none⟩ = some (.int .i64 qx0) ∧ w'.cell? ⟨B, 14, none⟩ = some (.int .i64 qx1) ∧ w'.cell? ⟨B, 15, none⟩ = some (.int .i64 qx2) ∧ w'.cell? ⟨B, 16, none⟩ = some (.int .i64 qx3) ∧ w'.cell? ⟨B, 17, none⟩ = some (.int .i64 qx4) ∧ w'.cell? ⟨T, 0, none⟩ = some (.int .i64 vn) ∧ w'.cell? ⟨T, 1, none⟩ = some (.int .i64 vd) ∧ w'.cell? ⟨T, 2, none⟩ = some (.int .i64 vx0) ∧ w'.cell? ⟨T, 3, none⟩ = some (.int .i64 vx1) ∧ w'.cell? ⟨T, 4, none⟩ = some (.int .i64 vx2) ∧ w'.cell? ⟨T, 5, none⟩ = some (.int .i64 vx3) ∧ w'.cell? ⟨T, 6, none⟩ = some (.int .i64 vx4))) (by kernel_rfl) ⟨bb0, bb1, bb2, bb3, bb4, bb5, bb6, tt0, tt1, tt2, tt3, tt4, tt5, tt6⟩ (fun hHeld => ?_)
          refine wpAnyH_take (i := 0) (v := ?_) rfl (by kernel_rfl) (by kernel_rfl) (by kernel_rfl) (fun _ _ _ h => h) (Or.inl ⟨by kernel_rfl, ?_⟩) hHeld ?_
          rotate_left
          · intro wz hSw; (try dsimp only at hSw); go_simp; all_goals (try with_reducible rfl)
          (try simp only [List.getElem_toArray]); (try simp only [List.getElem_cons_succ]); (try simp only [List.getElem_cons_zero]); (try simp only [Act.put]); (try simp only [List.setIfInBounds_toArray]); (try simp only [List.set_cons_succ]); (try simp only [List.set_cons_zero])
          refine wpAnyH_take (i := 1) (v := ?_) rfl (by kernel_rfl) (by kernel_rfl) (by kernel_rfl) (fun _ _ _ h => h) (Or.inl ⟨by kernel_rfl, ?_⟩) hHeld ?_
          rotate_left
          · intro wz hSw; (try dsimp only at hSw); go_simp; all_goals (try with_reducible rfl)
          (try simp only [List.getElem_toArray]); (try simp only [List.getElem_cons_succ]); (try simp only [List.getElem_cons_zero]); (try simp only [Act.put]); (try simp only [List.setIfInBounds_toArray]); (try simp only [List.set_cons_succ]); (try simp only [List.set_cons_zero])
          refine wpAnyH_take (i := 2) (v := ?_) rfl (by kernel_rfl) (by kernel_rfl) (by kernel_rfl) (fun _ _ _ h => h) (Or.inl ⟨by kernel_rfl, ?_⟩) hHeld ?_
          rotate_left
          · intro wz hSw; (try dsimp only at hSw); go_simp; all_goals (try with_reducible rfl)
          (try simp only [List.getElem_toArray]); (try simp only [List.getElem_cons_succ]); (try simp only [List.getElem_cons_zero]); (try simp only [Act.put]); (try simp only [List.setIfInBounds_toArray]); (try simp only [List.set_cons_succ]); (try simp only [List.set_cons_zero])
          refine wpAnyH_take (i := 3) (v := ?_) rfl (by kernel_rfl) (by kernel_rfl) (by kernel_rfl) (fun _ _ _ h => h) (Or.inl ⟨by kernel_rfl, ?_⟩) hHeld ?_
          rotate_left
          · intro wz hSw; (try dsimp only at hSw); go_simp; all_goals (try with_reducible rfl)
          (try simp only [List.getElem_toArray]); (try simp only [List.getElem_cons_succ]); (try simp only [List.getElem_cons_zero]); (try simp only [Act.put]); (try simp only [List.setIfInBounds_toArray]); (try simp only [List.set_cons_succ]); (try simp only [List.set_cons_zero])
          refine wpAnyH_take (i := 4) (v := ?_) rfl (by kernel_rfl) (by kernel_rfl) (by kernel_rfl) (fun _ _ _ h => h) (Or.inl ⟨by kernel_rfl, ?_⟩) hHeld ?_
          rotate_left
          · intro wz hSw; (try dsimp only at hSw); go_simp; all_goals (try with_reducible rfl)
          (try simp only [List.getElem_toArray]); (try simp only [List.getElem_cons_succ]); (try simp only [List.getElem_cons_zero]); (try simp only [Act.put]); (try simp only [List.setIfInBounds_toArray]); (try simp only [List.set_cons_succ]); (try simp only [List.set_cons_zero])
          refine wpAnyH_ready (rs := [5, 9]) (by kernel_rfl) (by simp) (AllReadyH.cons rfl (fun Kc hKc => ?_) (AllReadyH.cons rfl (fun Kc hKc => ?_) AllReadyH.nil))
          · go_simp
            (go_at_call 84; refine (HMul.out _).mono ?_)
            rintro e w2 ⟨rfl, hbx⟩
            have hb : Below wr.heap.size wr w2 := ((Below.refl _ _).drew).trans hbx
            have h2 := HTr.out.below hb
            have hb2 := HBr.out.below hb
            have hg2 := g_below HGr.out hb
            clear HTr HBr HGr bb0 bb1 bb2 bb3 bb4 bb5 bb6 tt0 tt1 tt2 tt3 tt4 tt5 tt6
            have HTr := hidU h2
            have HBr := hidU hb2
            have HGr := hidU hg2
            clear h2 hb2 hg2
            have bb0 := HTr.out.1.cell (v := .int .i64 qn) 11 rfl
            have bb1 := HTr.out.1.cell (v := .int .i64 qd) 12 rfl
            have bb2 := HTr.out.1.cell (v := .int .i64 qx0) 13 rfl
            have bb3 := HTr.out.1.cell (v := .int .i64 qx1) 14 rfl
            have bb4 := HTr.out.1.cell (v := .int .i64 qx2) 15 rfl
            have bb5 := HTr.out.1.cell (v := .int .i64 qx3) 16 rfl
            have bb6 := HTr.out.1.cell (v := .int .i64 qx4) 17 rfl
            have tt0 := HBr.out.cell (v := .int .i64 vn) 0 rfl
            have tt1 := HBr.out.cell (v := .int .i64 vd) 1 rfl
            have tt2 := HBr.out.cell (v := .int .i64 vx0) 2 rfl
            have tt3 := HBr.out.cell (v := .int .i64 vx1) 3 rfl
            have tt4 := HBr.out.cell (v := .int .i64 vx2) 4 rfl
            have tt5 := HBr.out.cell (v := .int .i64 vx3) 5 rfl
            have tt6 := HBr.out.cell (v := .int .i64 vx4) 6 rfl
            clear hbx hb
            go_wp2_with fail
            refine hKc.out _ _ ⟨bb0, bb1, bb2, bb3, bb4, bb5, bb6, tt0, tt1, tt2, tt3, tt4, tt5, tt6⟩ (fun hHeld => ?_)
            clear hKc Kc
            (try simp only [List.getElem_toArray]); (try simp only [List.getElem_cons_succ]); (try simp only [List.getElem_cons_zero]); (try simp only [Act.put]); (try simp only [List.setIfInBounds_toArray]); (try simp only [List.set_cons_succ]); (try simp only [List.set_cons_zero])
            refine wpAnyH_take (i := 6) (v := ?_) rfl (by kernel_rfl) (by kernel_rfl) (by kernel_rfl) (fun _ _ _ h => h) (Or.inl ⟨by kernel_rfl, ?_⟩) hHeld ?_
            rotate_left
            · intro wz hSw; (try dsimp only at hSw); go_simp; all_goals (try with_reducible rfl)
            (try simp only [List.getElem_toArray]); (try simp only [List.getElem_cons_succ]); (try simp only [List.getElem_cons_zero]); (try simp only [Act.put]); (try simp only [List.setIfInBounds_toArray]); (try simp only [List.set_cons_succ]); (try simp only [List.set_cons_zero])
            refine wpAnyH_take (i := 7) (v := ?_) rfl (by kernel_rfl) (by kernel_rfl) (by kernel_rfl) (fun _ _ _ h => h) (Or.inl ⟨by kernel_rfl, ?_⟩) hHeld ?_
            rotate_left
            · intro wz hSw; (try dsimp only at hSw); go_simp; all_goals (try with_reducible rfl)
            (try simp only [List.getElem_toArray]); (try simp only [List.getElem_cons_succ]); (try simp only [List.getElem_cons_zero]); (try simp only [Act.put]); (try simp only [List.setIfInBounds_toArray]); (try simp only [List.set_cons_succ]); (try simp only [List.set_cons_zero])
            refine wpAnyH_take (i := 8) (v := ?_) rfl (by kernel_rfl) (by kernel_rfl) (by kernel_rfl) (fun _ _ _ h => h) (Or.inl ⟨by kernel_rfl, ?_⟩) hHeld ?_
            rotate_left
            · intro wz hSw; (try dsimp only at hSw); go_simp; all_goals (try with_reducible rfl)
            (try simp only [List.getElem_toArray]); (try simp only [List.getElem_cons_succ]); (try simp only [List.getElem_cons_zero]); (try simp only [Act.put]); (try simp only [List.setIfInBounds_toArray]); (try simp only [List.set_cons_succ]); (try simp only [List.set_cons_zero])
            refine wpAnyH_ready (rs := [9]) (by kernel_rfl) (by simp) (AllReadyH.cons rfl (fun Kc hKc => ?_) AllReadyH.nil)
            go_simp
            obtain ⟨Y, hY⟩ : ∃ Y, Y = w2.alloc (.cells #[.int .i64 0, .int .i64 0, .int .i64 0, .int .i64 0, .int .i64 0, .int .i64 0, .int .i64 0] 55) := ⟨_, rfl⟩
            obtain ⟨Z, hZ⟩ : ∃ Z, Z = w2.heap.size := ⟨_, rfl⟩
            have hby : Below w2.heap.size w2 Y := by rw [hY]; exact b0 _ _
            have hz1 : IsB Y Z #[.int .i64 0, .int .i64 0, .int .i64 0, .int .i64 0, .int .i64 0, .int .i64 0, .int .i64 0] 55 := by rw [hY, hZ]; exact IsB.new _ _ _
            have HZr := hidU hz1
            have hBZ : B ≠ Z := by have := HTr.out.1.lt; omega
            have hMZ : M ≠ Z := by have := HTr.out.2.lt; omega
            have hTZ : T ≠ Z := by have := HBr.out.lt; omega
            have hZ0 : w.heap.size ≤ Z := by have := HGr.out.size; omega
            rw [← hY, ← hZ]
            clear hz1 hY hZ
            have h2 := HTr.out.below hby
            have hb2 := HBr.out.below hby
            have hg2 := g_below HGr.out hby
            clear HTr HBr HGr bb0 bb1 bb2 bb3 bb4 bb5 bb6 tt0 tt1 tt2 tt3 tt4 tt5 tt6
            have HTr := hidU h2
            have HBr := hidU hb2
            have HGr := hidU hg2
            clear h2 hb2 hg2
            have bb0 := HTr.out.1.cell (v := .int .i64 qn) 11 rfl
            have bb1 := HTr.out.1.cell (v := .int .i64 qd) 12 rfl
            have bb2 := HTr.out.1.cell (v := .int .i64 qx0) 13 rfl
            have bb3 := HTr.out.1.cell (v := .int .i64 qx1) 14 rfl
            have bb4 := HTr.out.1.cell (v := .int .i64 qx2) 15 rfl
            have bb5 := HTr.out.1.cell (v := .int .i64 qx3) 16 rfl
            have bb6 := HTr.out.1.cell (v := .int .i64 qx4) 17 rfl
            have tt0 := HBr.out.cell (v := .int .i64 vn) 0 rfl
            have tt1 := HBr.out.cell (v := .int .i64 vd) 1 rfl
            have tt2 := HBr.out.cell (v := .int .i64 vx0) 2 rfl
            have tt3 := HBr.out.cell (v := .int .i64 vx1) 3 rfl
            have tt4 := HBr.out.cell (v := .int .i64 vx2) 4 rfl
            have tt5 := HBr.out.cell (v := .int .i64 vx3) 5 rfl
            have tt6 := HBr.out.cell (v := .int .i64 vx4) 6 rfl
            clear hby
            refine hKc.out _ _ ⟨bb0, bb1, bb2, bb3, bb4, bb5, bb6, tt0, tt1, tt2, tt3, tt4, tt5, tt6⟩ (fun hHeld => ?_)
            clear hKc Kc
            (try simp only [List.getElem_toArray]); (try simp only [List.getElem_cons_succ]); (try simp only [List.getElem_cons_zero]); (try simp only [Act.put]); (try simp only [List.setIfInBounds_toArray]); (try simp only [List.set_cons_succ]); (try simp only [List.set_cons_zero])
            have f0z := HZr.out.frozen
            have z0 := HZr.out.cell (v := .int .i64 0) 0 rfl
            have z1 := HZr.out.cell (v := .int .i64 0) 1 rfl
            have z2 := HZr.out.cell (v := .int .i64 0) 2 rfl
            have z3 := HZr.out.cell (v := .int .i64 0) 3 rfl
            have z4 := HZr.out.cell (v := .int .i64 0) 4 rfl
            have z5 := HZr.out.cell (v := .int .i64 0) 5 rfl
            have z6 := HZr.out.cell (v := .int .i64 0) 6 rfl
            have fz0 := HZr.out.frozen 0
            have fz1 := HZr.out.frozen 1
            have fz2 := HZr.out.frozen 2
            have fz3 := HZr.out.frozen 3
            have fz4 := HZr.out.frozen 4
            have fz5 := HZr.out.frozen 5
            have fz6 := HZr.out.frozen 6
            refine wpAnyH_ready (rs := [10]) (by kernel_rfl) (by simp) (AllReadyH.cons rfl (fun Kc hKc => ?_) AllReadyH.nil)
            go_simp
            have h2 : IsT (((((((Y.setCell ⟨Z, 0, none⟩ (.int .i64 mn)).setCell ⟨Z, 1, none⟩ (.int .i64 md)).setCell ⟨Z, 2, none⟩ (.int .i64 mx0)).setCell ⟨Z, 3, none⟩ (.int .i64 mx1)).setCell ⟨Z, 4, none⟩ (.int .i64 mx2)).setCell ⟨Z, 5, none⟩ (.int .i64 mx3)).setCell ⟨Z, 6, none⟩ (.int .i64 mx4)) B M s u p true ⟨qn, qd, qx0, qx1, qx2, qx3, qx4⟩ := (IsT.other (IsT.other (IsT.other (IsT.other (IsT.other (IsT.other (IsT.other HTr.out hBZ hMZ 0 _) hBZ hMZ 1 _) hBZ hMZ 2 _) hBZ hMZ 3 _) hBZ hMZ 4 _) hBZ hMZ 5 _) hBZ hMZ 6 _)
            have hb2 : IsB (((((((Y.setCell ⟨Z, 0, none⟩ (.int .i64 mn)).setCell ⟨Z, 1, none⟩ (.int .i64 md)).setCell ⟨Z, 2, none⟩ (.int .i64 mx0)).setCell ⟨Z, 3, none⟩ (.int .i64 mx1)).setCell ⟨Z, 4, none⟩ (.int .i64 mx2)).setCell ⟨Z, 5, none⟩ (.int .i64 mx3)).setCell ⟨Z, 6, none⟩ (.int .i64 mx4)) T #[.int .i64 vn, .int .i64 vd, .int .i64 vx0, .int .i64 vx1, .int .i64 vx2, .int .i64 vx3, .int .i64 vx4] 55 := (((((((HBr.out.other hTZ 0 _).other hTZ 1 _).other hTZ 2 _).other hTZ 3 _).other hTZ 4 _).other hTZ 5 _).other hTZ 6 _)
            have hz2 : IsB (((((((Y.setCell ⟨Z, 0, none⟩ (.int .i64 mn)).setCell ⟨Z, 1, none⟩ (.int .i64 md)).setCell ⟨Z, 2, none⟩ (.int .i64 mx0)).setCell ⟨Z, 3, none⟩ (.int .i64 mx1)).setCell ⟨Z, 4, none⟩ (.int .i64 mx2)).setCell ⟨Z, 5, none⟩ (.int .i64 mx3)).setCell ⟨Z, 6, none⟩ (.int .i64 mx4)) Z #[.int .i64 mn, .int .i64 md, .int .i64 mx0, .int .i64 mx1, .int .i64 mx2, .int .i64 mx3, .int .i64 mx4] 55 := IsB.seven ⟨mn, md, mx0, mx1, mx2, mx3, mx4⟩ HZr.out
            have hg2 : w.grownBy (((((((Y.setCell ⟨Z, 0, none⟩ (.int .i64 mn)).setCell ⟨Z, 1, none⟩ (.int .i64 md)).setCell ⟨Z, 2, none⟩ (.int .i64 mx0)).setCell ⟨Z, 3, none⟩ (.int .i64 mx1)).setCell ⟨Z, 4, none⟩ (.int .i64 mx2)).setCell ⟨Z, 5, none⟩ (.int .i64 mx3)).setCell ⟨Z, 6, none⟩ (.int .i64 mx4)) (some B) := (g_set (g_set (g_set (g_set (g_set (g_set (g_set HGr.out (.inl hZ0) 0 _) (.inl hZ0) 1 _) (.inl hZ0) 2 _) (.inl hZ0) 3 _) (.inl hZ0) 4 _) (.inl hZ0) 5 _) (.inl hZ0) 6 _)
            clear HTr HBr HGr HZr f0z bb0 bb1 bb2 bb3 bb4 bb5 bb6 tt0 tt1 tt2 tt3 tt4 tt5 tt6 z0 fz0 z1 fz1 z2 fz2 z3 fz3 z4 fz4 z5 fz5 z6 fz6
            have HTr := hidU h2
            have HBr := hidU hb2
            have HGr := hidU hg2
            have HZr := hidU hz2
            clear h2 hb2 hg2 hz2
            have bb0 := HTr.out.1.cell (v := .int .i64 qn) 11 rfl
            have bb1 := HTr.out.1.cell (v := .int .i64 qd) 12 rfl
            have bb2 := HTr.out.1.cell (v := .int .i64 qx0) 13 rfl
            have bb3 := HTr.out.1.cell (v := .int .i64 qx1) 14 rfl
            have bb4 := HTr.out.1.cell (v := .int .i64 qx2) 15 rfl
            have bb5 := HTr.out.1.cell (v := .int .i64 qx3) 16 rfl
            have bb6 := HTr.out.1.cell (v := .int .i64 qx4) 17 rfl
            have tt0 := HBr.out.cell (v := .int .i64 vn) 0 rfl
            have tt1 := HBr.out.cell (v := .int .i64 vd) 1 rfl
            have tt2 := HBr.out.cell (v := .int .i64 vx0) 2 rfl
            have tt3 := HBr.out.cell (v := .int .i64 vx1) 3 rfl
            have tt4 := HBr.out.cell (v := .int .i64 vx2) 4 rfl
            have tt5 := HBr.out.cell (v := .int .i64 vx3) 5 rfl
            have tt6 := HBr.out.cell (v := .int .i64 vx4) 6 rfl
            obtain ⟨Y2, hY2⟩ : ∃ Y2, Y2 = (((((((Y.setCell ⟨Z, 0, none⟩ (.int .i64 mn)).setCell ⟨Z, 1, none⟩ (.int .i64 md)).setCell ⟨Z, 2, none⟩ (.int .i64 mx0)).setCell ⟨Z, 3, none⟩ (.int .i64 mx1)).setCell ⟨Z, 4, none⟩ (.int .i64 mx2)).setCell ⟨Z, 5, none⟩ (.int .i64 mx3)).setCell ⟨Z, 6, none⟩ (.int .i64 mx4)) := ⟨_, rfl⟩
            rw [← hY2] at HTr HBr HGr HZr bb0 bb1 bb2 bb3 bb4 bb5 bb6 tt0 tt1 tt2 tt3 tt4 tt5 tt6 ⊢
            clear hY2
            refine hKc.out _ _ ⟨bb0, bb1, bb2, bb3, bb4, bb5, bb6, tt0, tt1, tt2, tt3, tt4, tt5, tt6⟩ (fun hHeld => ?_)
            clear hKc Kc
            (try simp only [List.getElem_toArray]); (try simp only [List.getElem_cons_succ]); (try simp only [List.getElem_cons_zero]); (try simp only [Act.put]); (try simp only [List.setIfInBounds_toArray]); (try simp only [List.set_cons_succ]); (try simp only [List.set_cons_zero])
            refine wpAnyH_take (i := 11) (v := ?_) rfl (by kernel_rfl) (by kernel_rfl) (by kernel_rfl) (fun _ _ _ h => h) (Or.inl ⟨by kernel_rfl, ?_⟩) hHeld ?_
            rotate_left
            · intro wz hSw; (try dsimp only at hSw); go_simp; all_goals (try with_reducible rfl)
            (try simp only [List.getElem_toArray]); (try simp only [List.getElem_cons_succ]); (try simp only [List.getElem_cons_zero]); (try simp only [Act.put]); (try simp only [List.setIfInBounds_toArray]); (try simp only [List.set_cons_succ]); (try simp only [List.set_cons_zero])
            refine wpAnyH_done (by kernel_rfl) ?_ _
            refine NoPanic.normal ?_
            clear hHeld bb0 bb1 bb2 bb3 bb4 bb5 bb6 tt0 tt1 tt2 tt3 tt4 tt5 tt6
            have c10 := HTr.out.1.cell (v := .bool true) 10 rfl
            cases mo with
            | false =>
              obtain rfl : o = none := HS.out
              go_wp2
              go_ret
              exact ⟨_, rfl, HTr.out, HGr.out, fun q hq => by cases hq⟩
            | true =>
              have z0 := HZr.out.cell (v := .int .i64 mn) 0 rfl
              have z1 := HZr.out.cell (v := .int .i64 md) 1 rfl
              have z2 := HZr.out.cell (v := .int .i64 mx0) 2 rfl
              have z3 := HZr.out.cell (v := .int .i64 mx1) 3 rfl
              have z4 := HZr.out.cell (v := .int .i64 mx2) 4 rfl
              have z5 := HZr.out.cell (v := .int .i64 mx3) 5 rfl
              have z6 := HZr.out.cell (v := .int .i64 mx4) 6 rfl
              have bb0 := HTr.out.1.cell (v := .int .i64 qn) 11 rfl
              have bb1 := HTr.out.1.cell (v := .int .i64 qd) 12 rfl
              have bb2 := HTr.out.1.cell (v := .int .i64 qx0) 13 rfl
              have bb3 := HTr.out.1.cell (v := .int .i64 qx1) 14 rfl
              have bb4 := HTr.out.1.cell (v := .int .i64 qx2) 15 rfl
              have bb5 := HTr.out.1.cell (v := .int .i64 qx3) 16 rfl
              have bb6 := HTr.out.1.cell (v := .int .i64 qx4) 17 rfl
              have g0 := HTr.out.1.frozen 11
              have g1 := HTr.out.1.frozen 12
              have g2 := HTr.out.1.frozen 13
              have g3 := HTr.out.1.frozen 14
              have g4 := HTr.out.1.frozen 15
              have g5 := HTr.out.1.frozen 16
              have g6 := HTr.out.1.frozen 17
              have hNT := hidU (IsT.prod HTr.out ⟨mn, md, mx0, mx1, mx2, mx3, mx4⟩)
              have hTB2 : Hid (IsB (((((((Y2.setCell ⟨B, 11, none⟩ (.int .i64 mn)).setCell ⟨B, 12, none⟩ (.int .i64 md)).setCell ⟨B, 13, none⟩ (.int .i64 mx0)).setCell ⟨B, 14, none⟩ (.int .i64 mx1)).setCell ⟨B, 15, none⟩ (.int .i64 mx2)).setCell ⟨B, 16, none⟩ (.int .i64 mx3)).setCell ⟨B, 17, none⟩ (.int .i64 mx4)) T #[.int .i64 vn, .int .i64 vd, .int .i64 vx0, .int .i64 vx1, .int .i64 vx2, .int .i64 vx3, .int .i64 vx4] 55) := (((((((HBr.out.other hBT.symm 11 _).other hBT.symm 12 _).other hBT.symm 13 _).other hBT.symm 14 _).other hBT.symm 15 _).other hBT.symm 16 _).other hBT.symm 17 _)
              have hKk : (k : Int) + 1 ≤ K := by omega
              clear HZr HTr HBr
              go_wp2
              go_roundw
              case rel => exact ⟨k + 1, ⟨mn, md, mx0, mx1, mx2, mx3, mx4⟩, by omega, by go_num, HS.out, HD.out rfl, hNT.out.1, hTB2.out, HGr.out.trans hNT.out.2⟩
              case measure => simp [intOf]; omega
          · go_simp
            obtain ⟨Y, hY⟩ : ∃ Y, Y = (wr.alloc (.cells #[.int .i64 0, .int .i64 0, .int .i64 0, .int .i64 0, .int .i64 0, .int .i64 0, .int .i64 0] 55)).drew := ⟨_, rfl⟩
            obtain ⟨Z, hZ⟩ : ∃ Z, Z = wr.heap.size := ⟨_, rfl⟩
            have hby : Below wr.heap.size wr Y := by rw [hY]; exact (b0 _ _).drew
            have hz1 : IsB Y Z #[.int .i64 0, .int .i64 0, .int .i64 0, .int .i64 0, .int .i64 0, .int .i64 0, .int .i64 0] 55 := by rw [hY, hZ]; exact (IsB.new _ _ _).drew
            have HZr := hidU hz1
            have hBZ : B ≠ Z := by have := HTr.out.1.lt; omega
            have hMZ : M ≠ Z := by have := HTr.out.2.lt; omega
            have hTZ : T ≠ Z := by have := HBr.out.lt; omega
            have hZ0 : w.heap.size ≤ Z := by have := HGr.out.size; omega
            rw [← hY, ← hZ]
            clear hz1 hY hZ
            have h2 := HTr.out.below hby
            have hb2 := HBr.out.below hby
            have hg2 := g_below HGr.out hby
            clear HTr HBr HGr bb0 bb1 bb2 bb3 bb4 bb5 bb6 tt0 tt1 tt2 tt3 tt4 tt5 tt6
            have HTr := hidU h2
            have HBr := hidU hb2
            have HGr := hidU hg2
            clear h2 hb2 hg2
            have bb0 := HTr.out.1.cell (v := .int .i64 qn) 11 rfl
            have bb1 := HTr.out.1.cell (v := .int .i64 qd) 12 rfl
            have bb2 := HTr.out.1.cell (v := .int .i64 qx0) 13 rfl
            have bb3 := HTr.out.1.cell (v := .int .i64 qx1) 14 rfl
            have bb4 := HTr.out.1.cell (v := .int .i64 qx2) 15 rfl
            have bb5 := HTr.out.1.cell (v := .int .i64 qx3) 16 rfl
            have bb6 := HTr.out.1.cell (v := .int .i64 qx4) 17 rfl
            have tt0 := HBr.out.cell (v := .int .i64 vn) 0 rfl
            have tt1 := HBr.out.cell (v := .int .i64 vd) 1 rfl
            have tt2 := HBr.out.cell (v := .int .i64 vx0) 2 rfl
            have tt3 := HBr.out.cell (v := .int .i64 vx1) 3 rfl
            have tt4 := HBr.out.cell (v := .int .i64 vx2) 4 rfl
            have tt5 := HBr.out.cell (v := .int .i64 vx3) 5 rfl
            have tt6 := HBr.out.cell (v := .int .i64 vx4) 6 rfl
            clear hby
            refine hKc.out _ _ ⟨bb0, bb1, bb2, bb3, bb4, bb5, bb6, tt0, tt1, tt2, tt3, tt4, tt5, tt6⟩ (fun hHeld => ?_)
            clear hKc Kc
            (try simp only [List.getElem_toArray]); (try simp only [List.getElem_cons_succ]); (try simp only [List.getElem_cons_zero]); (try simp only [Act.put]); (try simp only [List.setIfInBounds_toArray]); (try simp only [List.set_cons_succ]); (try simp only [List.set_cons_zero])
            refine wpAnyH_ready (rs := [5]) (by kernel_rfl) (by simp) (AllReadyH.cons rfl (fun Kc hKc => ?_) AllReadyH.nil)
            go_simp
            (go_at_call 84; refine (HMul.out _).mono ?_)
            rintro e w2 ⟨rfl, hbx⟩
            have hb : Below Y.heap.size Y w2 := hbx
            replace HZr := hidU (HZr.out.below hb)
            have h2 := HTr.out.below hb
            have hb2 := HBr.out.below hb
            have hg2 := g_below HGr.out hb
            clear HTr HBr HGr bb0 bb1 bb2 bb3 bb4 bb5 bb6 tt0 tt1 tt2 tt3 tt4 tt5 tt6
            have HTr := hidU h2
            have HBr := hidU hb2
            have HGr := hidU hg2
            clear h2 hb2 hg2
            have bb0 := HTr.out.1.cell (v := .int .i64 qn) 11 rfl
            have bb1 := HTr.out.1.cell (v := .int .i64 qd) 12 rfl
            have bb2 := HTr.out.1.cell (v := .int .i64 qx0) 13 rfl
            have bb3 := HTr.out.1.cell (v := .int .i64 qx1) 14 rfl
            have bb4 := HTr.out.1.cell (v := .int .i64 qx2) 15 rfl
            have bb5 := HTr.out.1.cell (v := .int .i64 qx3) 16 rfl
            have bb6 := HTr.out.1.cell (v := .int .i64 qx4) 17 rfl
            have tt0 := HBr.out.cell (v := .int .i64 vn) 0 rfl
            have tt1 := HBr.out.cell (v := .int .i64 vd) 1 rfl
            have tt2 := HBr.out.cell (v := .int .i64 vx0) 2 rfl
            have tt3 := HBr.out.cell (v := .int .i64 vx1) 3 rfl
            have tt4 := HBr.out.cell (v := .int .i64 vx2) 4 rfl
            have tt5 := HBr.out.cell (v := .int .i64 vx3) 5 rfl
            have tt6 := HBr.out.cell (v := .int .i64 vx4) 6 rfl
            clear hbx hb
            go_wp2_with fail
            refine hKc.out _ _ ⟨bb0, bb1, bb2, bb3, bb4, bb5, bb6, tt0, tt1, tt2, tt3, tt4, tt5, tt6⟩ (fun hHeld => ?_)
            clear hKc Kc
            (try simp only [List.getElem_toArray]); (try simp only [List.getElem_cons_succ]); (try simp only [List.getElem_cons_zero]); (try simp only [Act.put]); (try simp only [List.setIfInBounds_toArray]); (try simp only [List.set_cons_succ]); (try simp only [List.set_cons_zero])
            refine wpAnyH_take (i := 6) (v := ?_) rfl (by kernel_rfl) (by kernel_rfl) (by kernel_rfl) (fun _ _ _ h => h) (Or.inl ⟨by kernel_rfl, ?_⟩) hHeld ?_
            rotate_left
            · intro wz hSw; (try dsimp only at hSw); go_simp; all_goals (try with_reducible rfl)
            (try simp only [List.getElem_toArray]); (try simp only [List.getElem_cons_succ]); (try simp only [List.getElem_cons_zero]); (try simp only [Act.put]); (try simp only [List.setIfInBounds_toArray]); (try simp only [List.set_cons_succ]); (try simp only [List.set_cons_zero])
            refine wpAnyH_take (i := 7) (v := ?_) rfl (by kernel_rfl) (by kernel_rfl) (by kernel_rfl) (fun _ _ _ h => h) (Or.inl ⟨by kernel_rfl, ?_⟩) hHeld ?_
            rotate_left
            · intro wz hSw; (try dsimp only at hSw); go_simp; all_goals (try with_reducible rfl)
            (try simp only [List.getElem_toArray]); (try simp only [List.getElem_cons_succ]); (try simp only [List.getElem_cons_zero]); (try simp only [Act.put]); (try simp only [List.setIfInBounds_toArray]); (try simp only [List.set_cons_succ]); (try simp only [List.set_cons_zero])
            refine wpAnyH_take (i := 8) (v := ?_) rfl (by kernel_rfl) (by kernel_rfl) (by kernel_rfl) (fun _ _ _ h => h) (Or.inl ⟨by kernel_rfl, ?_⟩) hHeld ?_
            rotate_left
            · intro wz hSw; (try dsimp only at hSw); go_simp; all_goals (try with_reducible rfl)
            (try simp only [List.getElem_toArray]); (try simp only [List.getElem_cons_succ]); (try simp only [List.getElem_cons_zero]); (try simp only [Act.put]); (try simp only [List.setIfInBounds_toArray]); (try simp only [List.set_cons_succ]); (try simp only [List.set_cons_zero])
            have f0z := HZr.out.frozen
            have z0 := HZr.out.cell (v := .int .i64 0) 0 rfl
            have z1 := HZr.out.cell (v := .int .i64 0) 1 rfl
            have z2 := HZr.out.cell (v := .int .i64 0) 2 rfl
            have z3 := HZr.out.cell (v := .int .i64 0) 3 rfl
            have z4 := HZr.out.cell (v := .int .i64 0) 4 rfl
            have z5 := HZr.out.cell (v := .int .i64 0) 5 rfl
            have z6 := HZr.out.cell (v := .int .i64 0) 6 rfl
            have fz0 := HZr.out.frozen 0
            have fz1 := HZr.out.frozen 1
            have fz2 := HZr.out.frozen 2
            have fz3 := HZr.out.frozen 3
            have fz4 := HZr.out.frozen 4
            have fz5 := HZr.out.frozen 5
            have fz6 := HZr.out.frozen 6
            refine wpAnyH_ready (rs := [10]) (by kernel_rfl) (by simp) (AllReadyH.cons rfl (fun Kc hKc => ?_) AllReadyH.nil)
            go_simp
            have h2 : IsT (((((((w2.setCell ⟨Z, 0, none⟩ (.int .i64 mn)).setCell ⟨Z, 1, none⟩ (.int .i64 md)).setCell ⟨Z, 2, none⟩ (.int .i64 mx0)).setCell ⟨Z, 3, none⟩ (.int .i64 mx1)).setCell ⟨Z, 4, none⟩ (.int .i64 mx2)).setCell ⟨Z, 5, none⟩ (.int .i64 mx3)).setCell ⟨Z, 6, none⟩ (.int .i64 mx4)) B M s u p true ⟨qn, qd, qx0, qx1, qx2, qx3, qx4⟩ := (IsT.other (IsT.other (IsT.other (IsT.other (IsT.other (IsT.other (IsT.other HTr.out hBZ hMZ 0 _) hBZ hMZ 1 _) hBZ hMZ 2 _) hBZ hMZ 3 _) hBZ hMZ 4 _) hBZ hMZ 5 _) hBZ hMZ 6 _)
            have hb2 : IsB (((((((w2.setCell ⟨Z, 0, none⟩ (.int .i64 mn)).setCell ⟨Z, 1, none⟩ (.int .i64 md)).setCell ⟨Z, 2, none⟩ (.int .i64 mx0)).setCell ⟨Z, 3, none⟩ (.int .i64 mx1)).setCell ⟨Z, 4, none⟩ (.int .i64 mx2)).setCell ⟨Z, 5, none⟩ (.int .i64 mx3)).setCell ⟨Z, 6, none⟩ (.int .i64 mx4)) T #[.int .i64 vn, .int .i64 vd, .int .i64 vx0, .int .i64 vx1, .int .i64 vx2, .int .i64 vx3, .int .i64 vx4] 55 := (((((((HBr.out.other hTZ 0 _).other hTZ 1 _).other hTZ 2 _).other hTZ 3 _).other hTZ 4 _).other hTZ 5 _).other hTZ 6 _)
            have hz2 : IsB (((((((w2.setCell ⟨Z, 0, none⟩ (.int .i64 mn)).setCell ⟨Z, 1, none⟩ (.int .i64 md)).setCell ⟨Z, 2, none⟩ (.int .i64 mx0)).setCell ⟨Z, 3, none⟩ (.int .i64 mx1)).setCell ⟨Z, 4, none⟩ (.int .i64 mx2)).setCell ⟨Z, 5, none⟩ (.int .i64 mx3)).setCell ⟨Z, 6, none⟩ (.int .i64 mx4)) Z #[.int .i64 mn, .int .i64 md, .int .i64 mx0, .int .i64 mx1, .int .i64 mx2, .int .i64 mx3, .int .i64 mx4] 55 := IsB.seven ⟨mn, md, mx0, mx1, mx2, mx3, mx4⟩ HZr.out
            have hg2 : w.grownBy (((((((w2.setCell ⟨Z, 0, none⟩ (.int .i64 mn)).setCell ⟨Z, 1, none⟩ (.int .i64 md)).setCell ⟨Z, 2, none⟩ (.int .i64 mx0)).setCell ⟨Z, 3, none⟩ (.int .i64 mx1)).setCell ⟨Z, 4, none⟩ (.int .i64 mx2)).setCell ⟨Z, 5, none⟩ (.int .i64 mx3)).setCell ⟨Z, 6, none⟩ (.int .i64 mx4)) (some B) := (g_set (g_set (g_set (g_set (g_set (g_set (g_set HGr.out (.inl hZ0) 0 _) (.inl hZ0) 1 _) (.inl hZ0) 2 _) (.inl hZ0) 3 _) (.inl hZ0) 4 _) (.inl hZ0) 5 _) (.inl hZ0) 6 _)
            clear HTr HBr HGr HZr f0z bb0 bb1 bb2 bb3 bb4 bb5 bb6 tt0 tt1 tt2 tt3 tt4 tt5 tt6 z0 fz0 z1 fz1 z2 fz2 z3 fz3 z4 fz4 z5 fz5 z6 fz6
            have HTr := hidU h2
            have HBr := hidU hb2
            have HGr := hidU hg2
            have HZr := hidU hz2
            clear h2 hb2 hg2 hz2
            have bb0 := HTr.out.1.cell (v := .int .i64 qn) 11 rfl
            have bb1 := HTr.out.1.cell (v := .int .i64 qd) 12 rfl
            have bb2 := HTr.out.1.cell (v := .int .i64 qx0) 13 rfl
            have bb3 := HTr.out.1.cell (v := .int .i64 qx1) 14 rfl
            have bb4 := HTr.out.1.cell (v := .int .i64 qx2) 15 rfl
            have bb5 := HTr.out.1.cell (v := .int .i64 qx3) 16 rfl
            have bb6 := HTr.out.1.cell (v := .int .i64 qx4) 17 rfl
            have tt0 := HBr.out.cell (v := .int .i64 vn) 0 rfl
            have tt1 := HBr.out.cell (v := .int .i64 vd) 1 rfl
            have tt2 := HBr.out.cell (v := .int .i64 vx0) 2 rfl
            have tt3 := HBr.out.cell (v := .int .i64 vx1) 3 rfl
            have tt4 := HBr.out.cell (v := .int .i64 vx2) 4 rfl
            have tt5 := HBr.out.cell (v := .int .i64 vx3) 5 rfl
            have tt6 := HBr.out.cell (v := .int .i64 vx4) 6 rfl
            obtain ⟨Y2, hY2⟩ : ∃ Y2, Y2 = (((((((w2.setCell ⟨Z, 0, none⟩ (.int .i64 mn)).setCell ⟨Z, 1, none⟩ (.int .i64 md)).setCell ⟨Z, 2, none⟩ (.int .i64 mx0)).setCell ⟨Z, 3, none⟩ (.int .i64 mx1)).setCell ⟨Z, 4, none⟩ (.int .i64 mx2)).setCell ⟨Z, 5, none⟩ (.int .i64 mx3)).setCell ⟨Z, 6, none⟩ (.int .i64 mx4)) := ⟨_, rfl⟩
            rw [← hY2] at HTr HBr HGr HZr bb0 bb1 bb2 bb3 bb4 bb5 bb6 tt0 tt1 tt2 tt3 tt4 tt5 tt6 ⊢
            clear hY2
            refine hKc.out _ _ ⟨bb0, bb1, bb2, bb3, bb4, bb5, bb6, tt0, tt1, tt2, tt3, tt4, tt5, tt6⟩ (fun hHeld => ?_)
            clear hKc Kc
            (try simp only [List.getElem_toArray]); (try simp only [List.getElem_cons_succ]); (try simp only [List.getElem_cons_zero]); (try simp only [Act.put]); (try simp only [List.setIfInBounds_toArray]); (try simp only [List.set_cons_succ]); (try simp only [List.set_cons_zero])
            refine wpAnyH_take (i := 11) (v := ?_) rfl (by kernel_rfl) (by kernel_rfl) (by kernel_rfl) (fun _ _ _ h => h) (Or.inl ⟨by kernel_rfl, ?_⟩) hHeld ?_
            rotate_left
            · intro wz hSw; (try dsimp only at hSw); go_simp; all_goals (try with_reducible rfl)
            (try simp only [List.getElem_toArray]); (try simp only [List.getElem_cons_succ]); (try simp only [List.getElem_cons_zero]); (try simp only [Act.put]); (try simp only [List.setIfInBounds_toArray]); (try simp only [List.set_cons_succ]); (try simp only [List.set_cons_zero])
            refine wpAnyH_done (by kernel_rfl) ?_ _
            refine NoPanic.normal ?_
            clear hHeld bb0 bb1 bb2 bb3 bb4 bb5 bb6 tt0 tt1 tt2 tt3 tt4 tt5 tt6
            have c10 := HTr.out.1.cell (v := .bool true) 10 rfl
            cases mo with
            | false =>
              obtain rfl : o = none := HS.out
              go_wp2
              go_ret
              exact ⟨_, rfl, HTr.out, HGr.out, fun q hq => by cases hq⟩
            | true =>
              have z0 := HZr.out.cell (v := .int .i64 mn) 0 rfl
              have z1 := HZr.out.cell (v := .int .i64 md) 1 rfl
              have z2 := HZr.out.cell (v := .int .i64 mx0) 2 rfl
              have z3 := HZr.out.cell (v := .int .i64 mx1) 3 rfl
              have z4 := HZr.out.cell (v := .int .i64 mx2) 4 rfl
              have z5 := HZr.out.cell (v := .int .i64 mx3) 5 rfl
              have z6 := HZr.out.cell (v := .int .i64 mx4) 6 rfl
              have bb0 := HTr.out.1.cell (v := .int .i64 qn) 11 rfl
              have bb1 := HTr.out.1.cell (v := .int .i64 qd) 12 rfl
              have bb2 := HTr.out.1.cell (v := .int .i64 qx0) 13 rfl
              have bb3 := HTr.out.1.cell (v := .int .i64 qx1) 14 rfl
              have bb4 := HTr.out.1.cell (v := .int .i64 qx2) 15 rfl
              have bb5 := HTr.out.1.cell (v := .int .i64 qx3) 16 rfl
              have bb6 := HTr.out.1.cell (v := .int .i64 qx4) 17 rfl
              have g0 := HTr.out.1.frozen 11
              have g1 := HTr.out.1.frozen 12
              have g2 := HTr.out.1.frozen 13
              have g3 := HTr.out.1.frozen 14
              have g4 := HTr.out.1.frozen 15
              have g5 := HTr.out.1.frozen 16
              have g6 := HTr.out.1.frozen 17
              have hNT := hidU (IsT.prod HTr.out ⟨mn, md, mx0, mx1, mx2, mx3, mx4⟩)
              have hTB2 : Hid (IsB (((((((Y2.setCell ⟨B, 11, none⟩ (.int .i64 mn)).setCell ⟨B, 12, none⟩ (.int .i64 md)).setCell ⟨B, 13, none⟩ (.int .i64 mx0)).setCell ⟨B, 14, none⟩ (.int .i64 mx1)).setCell ⟨B, 15, none⟩ (.int .i64 mx2)).setCell ⟨B, 16, none⟩ (.int .i64 mx3)).setCell ⟨B, 17, none⟩ (.int .i64 mx4)) T #[.int .i64 vn, .int .i64 vd, .int .i64 vx0, .int .i64 vx1, .int .i64 vx2, .int .i64 vx3, .int .i64 vx4] 55) := (((((((HBr.out.other hBT.symm 11 _).other hBT.symm 12 _).other hBT.symm 13 _).other hBT.symm 14 _).other hBT.symm 15 _).other hBT.symm 16 _).other hBT.symm 17 _)
              have hKk : (k : Int) + 1 ≤ K := by omega
              clear HZr HTr HBr
              go_wp2
              go_roundw
              case rel => exact ⟨k + 1, ⟨mn, md, mx0, mx1, mx2, mx3, mx4⟩, by omega, by go_num, HS.out, HD.out rfl, hNT.out.1, hTB2.out, HGr.out.trans hNT.out.2⟩
              case measure => simp [intOf]; omega
        · obtain rfl : k = K := by omega
          have ho : o = some P' := by rw [HOk.out, Nat.sub_self]; rfl
          subst ho
          go_wp2
          go_ret
          exact ⟨P', rfl, HTr.out, HGr.out, fun q hq => by cases hq; exact ⟨rfl, HPk.out⟩⟩
end Go.Proofs.YtnhefbhiemdhoaaGreat
