/- The walk of the model's Groups. -/
import Derived.Test.YtbbkejfcheobaakGrpW3
import Derived.Test.YtbbkejfcheobaakKerW3
import Derived.Test.YtbbkejfcheobaakEchW11
namespace Go.Proofs.Ytbbkejfcheobaak
open Go.RowKit Go.Proofs.Ytbbkejfcheobaak.RM

theorem hidM {p : Prop} (h : p) : Hid p := h
/-- the first j numbers of row i of the table of dimensions -/
def dimP (L : List (List Int)) (i j : Nat) : List Fr := (List.range j).map fun c => (fi (ri L c) i, 1)
theorem dimP_len (L : List (List Int)) (i j : Nat) : (dimP L i j).length = j := by simp [dimP]
theorem dimP_more (L : List (List Int)) (i j : Nat) : dimP L i (j + 1) = dimP L i j ++ [(fi (ri L j) i, 1)] := by simp [dimP, List.range_succ]
def nmJ (ps : List Fr) (j : Nat) : List Int := (List.range j).map (nmF ps)
theorem nmJ_len (ps : List Fr) (j : Nat) : (nmJ ps j).length = j := by simp [nmJ]
theorem nmJ_more (ps : List Fr) (j : Nat) : cI (nmJ ps (j + 1)) = cI (nmJ ps j) ++ [.int .i64 (nmF ps j)] := by simp [nmJ, List.range_succ]
theorem nmJ_all (ps : List Fr) : nmJ ps ps.length = lwK ps 0 := by simp [nmJ, lwK]
theorem dimT_take (L : List (List Int)) (k : Nat) (h : k < 5) : (dimT L).take (k + 1) = (dimT L).take k ++ [dimP L k L.length] := by
  have hl : k < (dimT L).length := by rw [(dimT_shape L).1]; exact h
  rw [List.take_succ_eq_append_getElem hl]
  congr 1
  simp [dimT, dimK, dimR, dimP]

set_option maxRecDepth 100000 in
set_option maxHeartbeats 8000000 in
theorem sGroups_any (v : Value) (us : List Value) (L : List (List Int)) (base : Nat) (w : World) (h : TabI w base v us L) :
    Calls Try.prog 8 #[v] w fun e w' => ∃ u vs, e = .returned (.tuple #[u, .bool (grO L)]) ∧ TabI w' w.heap.size u vs (grA L) ∧ Below w.heap.size w w' := by
  have b0 : ∀ (u : World) (o : Obj), Below u.heap.size u (u.alloc o) := fun u o => (Below.refl _ _).alloc (Nat.le_refl _) o
  obtain ⟨i0, hi, hz0, hz1, hz2⟩ := info_parts infoU
  obtain ⟨i1, ji, jz0, jz1, jz2⟩ := info_parts infoF
  obtain ⟨i2, ki, kz0, kz1, kz2⟩ := info_parts infoT
  obtain ⟨i3, li, lz0, lz1, lz2⟩ := info_parts infoI
  have HT := hidM h
  obtain ⟨q, hq⟩ : ∃ q, q = dimsB L := ⟨_, rfl⟩
  have HQ := hidM hq
  have HDo : Hid (∀ W : World, Below w.heap.size w W → Calls Try.prog 27 #[v] W fun e w' => e = .returned (.bool q) ∧ Below W.heap.size W w') := by
    intro W hW; rw [hq]; exact sDims_any v us L base W (HT.out.below hW)
  clear h hq
  obtain ⟨S0, hS0⟩ : ∃ S, S = w.heap.size := ⟨_, rfl⟩
  obtain ⟨X0, hX0⟩ : ∃ X, X = w.alloc (.cells #[] 29) := ⟨_, rfl⟩
  have O0 : Hid (TabI X0 S0 (.slice (some ⟨S0, 0, none⟩) 0 0) [] []) := by show TabI _ _ _ _ _; rw [hX0, hS0]; exact TabI.lit (Nat.le_refl _)
  have BW : Hid (Below w.heap.size w X0) := by show Below _ _ _; rw [hX0]; exact b0 _ _
  have hS0w : w.heap.size ≤ S0 := by omega
  have hS0x : S0 < X0.heap.size := by rw [hX0, hS0]; simp
  cases q
  · have hno : grO L = false := by unfold grO; rw [← HQ.out]; rfl
    rw [grA_no hno, hno]
    clear hno
    go_enter Try.func8, Try.ntmps8
    go_upto_region 2 with fail
    rw [← hX0, ← hS0]
    clear hX0 hS0
    go_wp2_with fail
    refine (HDo.out _ BW.out).mono ?_
    rintro e w1 ⟨rfl, hb⟩
    have B1 := hidM hb
    clear hb
    go_wp2
    go_ret2
    exact ⟨_, [], rfl, (O0.out.below B1.out).le hS0w, BW.out.trans (B1.out.mono BW.out.size)⟩
  · obtain ⟨hd1, hd2⟩ := dimsB_out HQ.out.symm
    obtain ⟨n, hn⟩ : ∃ n, n = L.length := ⟨_, rfl⟩
    have HN := hidM hn
    have HIN : Hid (∀ k, k < n → ∃ g c, vl us k = .slice (some ⟨g, 0, none⟩) 5 c ∧ ∀ j, j < 5 → w.cell? ⟨g, j, none⟩ = some (.int .i64 (fi (ri L k) j))) := by
      intro k hk
      have hin := HT.out.inner k (by have := HT.out.len; omega)
      have h5 := (dim_at (hd2 k (by omega))).1
      rw [h5] at hin
      obtain ⟨g, c, e⟩ := own_some hin (by omega)
      rw [e] at hin ⊢
      exact ⟨g, c, rfl, fun j hj => own_int hin h5 j hj⟩
    obtain ⟨a, c, rfl, hv⟩ := HT.out.vals
    rw [← hn] at hv HDo ⊢
    have hn6 : n ≤ 6 := by omega
    have hn1 : 1 ≤ n := by omega
    have H5 := hidM hv
    obtain ⟨M, hM⟩ : ∃ M, M = dimT L := ⟨_, rfl⟩
    have HM := hidM hM
    obtain ⟨p, hp⟩ : ∃ p, p = echO M := ⟨_, rfl⟩
    have HPq := hidM hp
    have hgr : grO L = p := by unfold grO; rw [← HQ.out, ← hM, ← hp]; rfl
    have HGR := hidM hgr
    clear hd1 hd2 hM hp hgr hn hv HT
    rw [HGR.out]
    go_enter Try.func8, Try.ntmps8
    go_upto_region 2 with fail
    rw [← hX0, ← hS0]
    clear hX0 hS0
    go_wp2_with fail
    refine (HDo.out _ BW.out).mono ?_
    rintro e w1 ⟨rfl, hb⟩
    have HX := hidM hb
    have hSX : X0.heap.size ≤ w1.heap.size := hb.size
    clear hb HDo
    go_upto_region 5 with fail
    obtain ⟨S1, hS1⟩ : ∃ S, S = w1.heap.size := ⟨_, rfl⟩
    obtain ⟨X1, hX1⟩ : ∃ X, X = w1.alloc (.cells #[] 45) := ⟨_, rfl⟩
    have T0 : Hid (Tab X1 S1 (.slice (some ⟨S1, 0, none⟩) 0 0) [] []) := by show Tab _ _ _ _ _; rw [hX1, hS1]; exact Tab.lit (Nat.le_refl _)
    replace HX : Hid (Below X0.heap.size X0 X1) := by show Below _ _ _; rw [hX1]; exact HX.out.alloc HX.out.size _
    have hS1x : S1 ≤ X1.heap.size := by rw [hX1, hS1]; simp
    rw [← hS1] at hSX
    rw [← hX1, ← hS1]
    clear hX1 hS1
    have hML : M.length = 5 := by rw [HM.out]; exact (dimT_shape L).1
    have HML := hidM hML
    clear hML
    go_wp2
    go_loopw [5, 6] (fun g i wr => ∃ (o : Value) (k : Nat) (ws : List Value), o = g ∧ k ≤ 5 ∧ i = .int .i64 k ∧ Hid (ws.length = k) ∧ Hid (Tab wr S1 o ws (M.take k)) ∧ Hid (Below X0.heap.size X0 wr) ∧ Hid (S1 ≤ wr.heap.size)) (fun _ i _ => 5 - (intOf i).toNat)
    case atStart => exact ⟨_, 0, [], rfl, by omega, rfl, rfl, T0.out, HX.out, hS1x⟩
    case round =>
      clear T0 HX hS1x
      obtain ⟨o, k, ws, rfl, hk, rfl, hws, hT, hX, hS1x⟩ := hrel
      by_cases hlt : k < 5
      · obtain ⟨Wr, hVV⟩ : ∃ V, V = wr := ⟨_, rfl⟩
        subst hVV
        obtain ⟨Sr, hSr⟩ : ∃ S, S = Wr.heap.size := ⟨_, rfl⟩
        have HSR := hidM hSr
        obtain ⟨V, hV⟩ : ∃ V, V = Wr.alloc (.cells #[] 37) := ⟨_, rfl⟩
        have r0 : Hid (V.ownsRow Sr 37 2 (.slice (some ⟨Sr, 0, none⟩) 0 0) 0 (cellsR (dimP L k 0))) := by
          show World.ownsRow _ _ _ _ _ _ _
          rw [hV, hSr]; exact World.ownsRow_lit Wr (base := Wr.heap.size) (e := 37) (size := 2) #[] 0 (Nat.le_refl _) (Nat.zero_le _) rfl
        have BV : Hid (Below Sr Wr V) := by show Below _ _ _; rw [hV, hSr]; exact b0 _ _
        have hSV : Sr ≤ V.heap.size := by rw [hV, hSr]; simp
        have hwX : w.heap.size ≤ Sr := by have := BW.out.size; have := hX.out.size; omega
        have hk5 : decide ((k : Int) < 5) = true := by simp; omega
        go_upto_region 9 with fail
        rw [← hV, ← hSr]
        clear hV hSr
        go_wp2
        go_loopw [7, 8] (fun g i wz => ∃ (r : Value) (j : Nat), r = g ∧ j ≤ n ∧ i = .int .i64 j ∧ Hid (wz.ownsRow Sr 37 2 r j (cellsR (dimP L k j))) ∧ Hid (Below Sr Wr wz) ∧ Hid (Sr ≤ wz.heap.size)) (fun _ i _ => n - (intOf i).toNat)
        case atStart => exact ⟨_, 0, rfl, Nat.zero_le _, rfl, r0.out, BV.out, hSV⟩
        case round =>
          clear r0 BV hSV
          obtain ⟨r, j, rfl, hj, rfl, hO, hZ, hsz⟩ := hrel
          have hsz := hsz.out
          have BWZ : Hid (Below w.heap.size w Wr) := BW.out.trans (hX.out.mono BW.out.size)
          have BZ : Hid (Below w.heap.size w wr) := BWZ.out.trans (hZ.out.mono hwX)
          by_cases hjn : j < n
          · obtain ⟨g, cg, ed, hd⟩ := HIN.out j hjn
            obtain ⟨g1, e1, c1⟩ := H5.out j hjn
            subst e1
            rw [ed] at c1
            have d1 := cell_keep BZ.out (hd k hlt)
            replace c1 := cell_keep BZ.out c1
            obtain ⟨p, hp⟩ : ∃ p, p = fi (ri L j) k := ⟨_, rfl⟩
            have HP := hidM hp
            rw [← hp] at d1
            obtain ⟨ra, rc, rfl⟩ := own_shape hO.out
            clear hd ed hp
            have hj7 : j + 1 ≤ maxLen := by unfold maxLen; omega
            go_wp2_with (at_builtin; refine wpList_append_own _ rfl _ _ 45 rfl Sr 37 i1 (.agg #[.int .i64 0, .int .i64 0]) 2 16 Try.underlying45 ji jz0 jz1 jz2 rfl (by decide) _ _ _ rfl (World.ownsRow.alloc hO.out _) ⟨wr.heap.size, 0, none⟩ 1 1 [.int .i64 p, .int .i64 1] rfl rfl (cell_twoF _ _ _ _) (by intro u hu; simp at hu; rcases hu with rfl | rfl <;> rfl) hj7 (by omega) (by simp; omega) ?_; intro v' w5 hown' hgrow _)
            go_roundw
            case rel =>
              refine ⟨v', j + 1, rfl, by omega, by go_num, ?_, hZ.out.trans (below_appended hO.out hsz hgrow), ?_⟩
              · show World.ownsRow _ _ _ _ _ _ _
                rw [dimP_more, cellsR_append, ← HP.out]
                exact hown'
              · show _ ≤ _
                have := hgrow.size; simp at this; omega
            case measure => simp [intOf]; omega
          · obtain rfl : j = n := by omega
            obtain ⟨ra, rc, rfl⟩ := own_shape hO.out
            have T2 : Hid (Tab wr S1 o ws (M.take k)) := Tab.below hT.out (by rw [← HSR.out]; exact hZ.out)
            obtain ⟨oa, oc, rfl⟩ := own_shape T2.out.outer
            have hwl0 : ws.length + 1 ≤ 6 := by rw [hws.out]; omega
            have hwl : ws.length + 1 ≤ maxLen := by unfold maxLen; omega
            go_wp2_with (at_builtin; refine wpList_append_own _ rfl _ _ 44 rfl S1 45 i2 (.slice none 0 0) 1 24 Try.underlying44 ki kz0 kz1 kz2 rfl (by decide) _ _ _ rfl (World.ownsRow.alloc T2.out.outer _) ⟨wr.heap.size, 0, none⟩ 1 1 [.slice ra j rc] rfl rfl (cell_one_new _ _ _) (by simp [Value.oneCell']) hwl (by omega) (by have := hS1x.out; have := HSR.out; simp; omega) ?_; intro v' w5 hown' hgrow _)
            go_roundw
            case rel =>
              have hS1r : S1 ≤ Sr := by have := hS1x.out; have := HSR.out; omega
              have T5 := T2.out.append (ps := dimP L k j) (u := .slice ra j rc) (by rw [dimP_len]; exact own_le hO.out hS1r) (fun i hi b e h2 => by
                have h1 := hT.out.lt i hi b e
                have h3 := (hO.out.lt b h2).1
                have := HSR.out
                omega) hown' hgrow
              have et : M.take (k + 1) = M.take k ++ [dimP L k j] := by rw [HM.out, HN.out]; exact dimT_take L k hlt
              have BA := below_appended T2.out.outer (by omega) hgrow
              refine ⟨_, k + 1, ws ++ [.slice ra j rc], rfl, by omega, by go_num, ?_, ?_, ?_, ?_⟩
              · show _ = _
                rw [List.length_append, hws.out]; rfl
              · show Tab _ _ _ _ _
                rw [et]; exact T5
              · show Below _ _ _
                exact (hX.out.trans (hZ.out.mono (by have := hX.out.size; have := HSR.out; omega))).trans (BA.mono hSX)
              · show _ ≤ _
                have := BA.size; omega
            case measure => simp [intOf]; omega
      · obtain rfl : k = 5 := by omega
        have hT5 : Tab wr S1 o ws M := by have := hT.out; rw [← HML.out, List.take_length] at this; exact this
        have T5 := hidM hT5
        have HRD := hidM (Tab.read hT5)
        have HRK := hidM (sRank_any o M wr HRD.out)
        have BW1 : Hid (Below w.heap.size w wr) := BW.out.trans (hX.out.mono BW.out.size)
        have hsz := hS1x.out
        clear hT hT5 hlt hk
        cases p
        · have hrk : rkI M = -1 := by unfold rkI; rw [← HPq.out]; rfl
          rw [hrk] at HRK
          clear hrk
          go_wp2_with (go_at_call 28; refine HRK.out.mono ?_; rintro e w6 ⟨rfl, hb6⟩)
          go_ret2
          refine ⟨_, [], rfl, ?_, BW1.out.trans (hb6.mono BW1.out.size)⟩
          rw [grA_no HGR.out]
          exact ((O0.out.below hX.out).below hb6).le hS0w
        · have hrk : 0 ≤ rkI M := by unfold rkI; rw [← HPq.out]; exact Int.natCast_nonneg _
          obtain ⟨rk, hrk2⟩ : ∃ r, r = rkI M := ⟨_, rfl⟩
          rw [← hrk2] at HRK hrk
          have hrk3 : ¬ rk < 0 := by omega
          have hGA := grA_yes HGR.out
          rw [← HM.out] at hGA
          obtain ⟨K, hK⟩ : ∃ K, K = kerA M := ⟨_, rfl⟩
          have HGA : Hid (grA L = K.map lwF) := by show _ = _; rw [hGA, hK]
          have HKN : Hid (∀ W : World, Below wr.heap.size wr W → Calls Try.prog 29 #[o] W fun e w' => ∃ vm us, e = .returned vm ∧ Tab w' W.heap.size vm us K ∧ Below W.heap.size W w') := by
            intro W hW; rw [hK]; exact sKernel_any o M W (HRD.out.below hW)
          have HSM : Hid (∀ i, i < K.length → Small (rw' K i) ∧ (rw' K i).length = n) := by
            intro i hi
            have h1 : echO (dimT L) = true := by rw [← HM.out]; exact HPq.out.symm
            have h2 := ker_small HQ.out.symm h1 i (by rw [← HM.out, ← hK]; exact hi)
            rw [← HM.out, ← hK] at h2
            rw [HN.out]; exact h2
          have hKl : K.length ≤ 1048576 := by rw [hK]; exact (kerA_small M).1
          obtain ⟨kn, hkn⟩ : ∃ n, n = K.length := ⟨_, rfl⟩
          have HKL := hidM hkn
          rw [← hkn] at hKl
          clear hrk hrk2 hGA hK hkn
          go_wp2_with (first | (go_at_call 28; refine HRK.out.mono ?_; rintro e w6 ⟨rfl, hb6⟩) | (go_at_call 29; refine (HKN.out _ hb6).mono ?_; rintro e w7 ⟨vm, us4, rfl, tk, hb7⟩))
          have TI0 : Hid (TabI w7 S0 (.slice (some ⟨S0, 0, none⟩) 0 0) [] []) := ((O0.out.below hX.out).below hb6).below hb7
          have B7 : Hid (Below w.heap.size w w7) := (BW1.out.trans (hb6.mono BW1.out.size)).trans (hb7.mono (by have := BW1.out.size; have := hb6.size; omega))
          have hS7 : Hid (S0 ≤ w7.heap.size) := by show _ ≤ _; have := hX.out.size; have := hb6.size; have := hb7.size; omega
          obtain ⟨B, hB5⟩ : ∃ B, B = w6.heap.size := ⟨_, rfl⟩
          rw [← hB5] at tk
          have TK := hidM tk
          have hku : us4.length = kn := by rw [tk.len, HKL.out]
          obtain ⟨ak, ck, rfl⟩ := own_shape tk.outer
          rw [hku] at TK ⊢
          have HKU := hidM hku
          clear tk hku hB5 hb7 hb6 hX hS1x T5 HRD HRK HKN BW1 hsz O0 BW HPq hS0x hSX H5 HIN
          go_wp2
          go_loopw [4, 10] (fun g i wr => ∃ (o : Value) (k : Nat) (ws : List Value), o = g ∧ k ≤ kn ∧ i = .int .i64 k ∧ Hid (ws.length = k) ∧ Hid (TabI wr S0 o ws ((K.take k).map lwF)) ∧ Hid (Tab wr B (.slice ak kn ck) us4 K) ∧ Hid (Below w.heap.size w wr) ∧ Hid (S0 ≤ wr.heap.size)) (fun _ i _ => kn - (intOf i).toNat)
          case atStart => exact ⟨_, 0, [], rfl, Nat.zero_le _, rfl, rfl, TI0.out, TK.out, B7.out, hS7.out⟩
          case round =>
            clear TI0 TK B7 hS7
            obtain ⟨o3, k, ws3, rfl, hk, rfl, hws3, hO, hT, hB, hS⟩ := hrel
            by_cases hlt : k < kn
            · obtain ⟨Wr, hVV⟩ : ∃ V, V = wr := ⟨_, rfl⟩
              subst hVV
              have hku := HKU.out
              obtain ⟨g, cg, eg⟩ := own_some hT.out.outer (by omega)
              injection eg with e1 e2 e3
              subst e1
              clear e2 e3
              have ho := hT.out.outer
              rw [hku] at ho
              have d1 := ho.cellAt k (by omega)
              rw [List.getElem?_eq_getElem (by omega), show us4[k] = vl us4 k by simp [vl, List.getElem?_eq_getElem (show k < us4.length by omega)]] at d1
              have hin := hT.out.inner k (by omega)
              obtain ⟨sm1, sm2⟩ := HSM.out k (by have := HKL.out; omega)
              obtain ⟨ps, hps⟩ : ∃ ps, ps = rw' K k := ⟨_, rfl⟩
              have HPS := hidM hps
              rw [← hps] at hin sm1 sm2
              rw [sm2] at hin
              obtain ⟨y, cy, ey⟩ := own_some hin (by omega)
              rw [ey] at d1 hin
              have HS := hidM sm1
              have HPN := hidM sm2
              have HRow : Hid (∀ j, j < n → Wr.cell? ⟨y, j * 2, none⟩ = some (.int .i64 (fr ps j).1) ∧ Wr.cell? ⟨y, j * 2 + 1, none⟩ = some (.int .i64 (fr ps j).2)) := fun j hj => own_R hin sm2 j hj
              have HC1 := hidM d1
              have hkn : decide ((k : Int) < kn) = true := by simp; omega
              have B0 : Hid (Below Wr.heap.size Wr Wr) := Below.refl _ _
              clear ho hin ey hps sm1 sm2 hku d1
              go_wp2
              go_loopw [11, 12] (fun m i wz => ∃ j : Nat, j ≤ n ∧ i = .int .i64 j ∧ m = .int .i64 (lcF ps j) ∧ Hid (Below Wr.heap.size Wr wz)) (fun _ i _ => n - (intOf i).toNat)
              case atStart => exact ⟨0, Nat.zero_le _, rfl, rfl, B0.out⟩
              case round =>
                clear B0
                obtain ⟨j, hj, rfl, rfl, hZ⟩ := hrel
                have d1 := cell_keep hZ.out HC1.out
                by_cases hjn : j < n
                · have d2 := cell_keep hZ.out (HRow.out j hjn).2
                  obtain ⟨l1, l2⟩ := lcF_small HS.out (k := j) (by have := HPN.out; omega)
                  obtain ⟨m1, m2⟩ := lcF_small HS.out (k := j + 1) (by have := HPN.out; omega)
                  have hd1 := HS.out.den j (by have := HPN.out; omega)
                  have hd2 : (fr ps j).2 ≤ 7085880 := by
                    obtain ⟨D, d1, d2, d3⟩ := HS.out.dvd
                    have := Int.le_of_dvd (by omega) (d3 j (by have := HPN.out; omega))
                    omega
                  have hm := lcF_model HS.out (k := j) (by have := HPN.out; omega)
                  have hg0 : 0 < gcdi (lcF ps j) (fr ps j).2 := gcdi_pos_r _ _ (by omega)
                  obtain ⟨l, hll⟩ : ∃ l, l = lcF ps j := ⟨_, rfl⟩
                  obtain ⟨l', hll'⟩ : ∃ l, l = lcF ps (j + 1) := ⟨_, rfl⟩
                  obtain ⟨G, hG⟩ : ∃ G, G = gcdi (lcF ps j) (fr ps j).2 := ⟨_, rfl⟩
                  obtain ⟨p2, hp2⟩ : ∃ p, p = (fr ps j).2 := ⟨_, rfl⟩
                  have HC : Hid (∀ u : World, Calls Try.prog 30 #[.int .i64 l, .int .i64 p2] u fun e w' => e = .returned (.int .i64 G) ∧ w' = u) := by
                    intro u
                    rw [hG, hll, hp2]
                    exact shared_any _ _ u (by omega) (by omega) (by omega) (by omega)
                  rw [← hll] at l1 l2 ⊢
                  rw [← hll'] at m1 m2
                  rw [← hG] at hg0
                  rw [← hp2] at d2 hd1 hd2
                  have hq : l / G * p2 = l' := by rw [← Int.tdiv_eq_ediv_of_nonneg (by omega), hG, hll, hp2, hll']; exact hm
                  have HLL := hidM hll'
                  have hGn : ¬ G = 0 := by omega
                  have hval : wrap64 (l / G * p2) = l' := by rw [hq]; unfold wrap64; omega
                  have hval2 : wrap64 (l.tdiv G * p2) = l' := by rw [Int.tdiv_eq_ediv_of_nonneg (by omega)]; exact hval
                  have hbig : ¬ l' > 1000000000 := by omega
                  clear hll hll' hG hp2 hm hq
                  go_upto_region 26 with (go_at_call 30; refine (HC.out _).mono ?_; rintro e w4 ⟨rfl, hw4⟩; subst hw4)
                  first | rw [hval] | rw [hval2]
                  clear hval hval2
                  go_wp2
                  go_roundw
                  case rel => exact ⟨j + 1, by omega, by go_num, by rw [HLL.out], hZ.out⟩
                  case measure => simp [intOf]; omega
                · obtain rfl : j = n := by omega
                  obtain ⟨l1, l2⟩ := lcF_small HS.out (k := j) (by have := HPN.out; omega)
                  have hq0 : ∀ x, x < j → lcF ps j / (fr ps x).2 * 1 = lcF ps j / (fr ps x).2 ∧ (fr ps x).1 * (lcF ps j / (fr ps x).2) = nmF ps x ∧ 1 ≤ (fr ps x).2 := by
                    intro x hx
                    have hd1 := HS.out.den x (by have := HPN.out; omega)
                    refine ⟨Int.mul_one _, ?_, hd1⟩
                    have := nmF_model ps x
                    rw [HPN.out, Int.tdiv_eq_ediv_of_nonneg (by omega)] at this
                    exact this
                  obtain ⟨l, hll⟩ : ∃ l, l = lcF ps j := ⟨_, rfl⟩
                  rw [← hll] at l1 l2 hq0 ⊢
                  have HQ0 := hidM hq0
                  obtain ⟨Sr, hSr⟩ : ∃ S, S = wr.heap.size := ⟨_, rfl⟩
                  have HSR := hidM hSr
                  obtain ⟨V, hV⟩ : ∃ V, V = wr.alloc (.cells #[] 2) := ⟨_, rfl⟩
                  have R0 : Hid (V.ownsRow Sr 2 1 (.slice (some ⟨Sr, 0, none⟩) 0 0) 0 (cI (nmJ ps 0))) := by
                    show World.ownsRow _ _ _ _ _ _ _
                    rw [hV, hSr]; exact World.ownsRow_lit wr (base := wr.heap.size) (e := 2) (size := 1) #[] 0 (Nat.le_refl _) (Nat.zero_le _) rfl
                  have hWS : Wr.heap.size ≤ Sr := by rw [hSr]; exact hZ.out.size
                  have BV : Hid (Below Wr.heap.size Wr V) := by show Below _ _ _; rw [hV]; exact hZ.out.alloc hZ.out.size _
                  have hSV : Hid (Sr ≤ V.heap.size) := by show _ ≤ _; rw [hV, hSr]; simp
                  clear hq0 hll
                  go_upto_region 30 with fail
                  rw [← hV, ← hSr]
                  clear hV hSr hZ hjn d1
                  go_wp2
                  go_loopw [14, 15, 16] (fun d g i wz => ∃ (r : Value) (x : Nat), r = g ∧ x ≤ j ∧ i = .int .i64 x ∧ d = .int .i64 (gdF ps x) ∧ Hid (wz.ownsRow Sr 2 1 r x (cI (nmJ ps x))) ∧ Hid (Below Wr.heap.size Wr wz) ∧ Hid (Sr ≤ wz.heap.size)) (fun _ _ i _ => j - (intOf i).toNat)
                  case atStart => exact ⟨_, 0, rfl, Nat.zero_le _, rfl, rfl, R0.out, BV.out, hSV.out⟩
                  case round =>
                    clear R0 BV hSV
                    obtain ⟨r, x, rfl, hx, rfl, rfl, hR, hZ, hSV⟩ := hrel
                    have d1 := cell_keep hZ.out HC1.out
                    obtain ⟨g1, g2, -⟩ := gdF_small HS.out x (by have := HPN.out; omega)
                    by_cases hxj : x < j
                    · have d2 := cell_keep hZ.out (HRow.out x hxj).1
                      have d3 := cell_keep hZ.out (HRow.out x hxj).2
                      obtain ⟨-, hq1, hd1⟩ := HQ0.out x hxj
                      obtain ⟨n1, n2⟩ := nmF_small HS.out (k := x) (by have := HPN.out; omega)
                      have hgn : gdF ps (x + 1) = gcdi (gdF ps x) (nmF ps x) := rfl
                      obtain ⟨z, hz⟩ : ∃ y, y = nmF ps x := ⟨_, rfl⟩
                      obtain ⟨d, hdd⟩ : ∃ y, y = gdF ps x := ⟨_, rfl⟩
                      obtain ⟨d', hdd'⟩ : ∃ y, y = gdF ps (x + 1) := ⟨_, rfl⟩
                      obtain ⟨p1, hp1⟩ : ∃ p, p = (fr ps x).1 := ⟨_, rfl⟩
                      obtain ⟨p2, hp2⟩ : ∃ p, p = (fr ps x).2 := ⟨_, rfl⟩
                      rw [← hp1] at d2 hq1
                      rw [← hp2] at d3 hq1 hd1
                      rw [← hz] at n1 n2 hq1 hgn
                      rw [← hdd] at g1 g2 hgn ⊢
                      rw [← hdd'] at hgn
                      have hval : wrap64 (p1 * (l / p2)) = z := by rw [hq1]; unfold wrap64; omega
                      have hval2 : wrap64 (p1 * (l.tdiv p2)) = z := by rw [Int.tdiv_eq_ediv_of_nonneg (by omega)]; exact hval
                      have HC : Hid (∀ u : World, Calls Try.prog 30 #[.int .i64 d, .int .i64 z] u fun e w' => e = .returned (.int .i64 d') ∧ w' = u) := by
                        intro u
                        rw [hgn]
                        exact shared_any _ _ u (by omega) (by omega) (by omega) (by omega)
                      have HZD := hidM (And.intro hz hdd')
                      have hp2n : ¬ p2 = 0 := by omega
                      clear hz hdd hdd' hp1 hp2 hq1 hgn
                      go_upto_region 33 with fail
                      go_region
                      all_goals first | rw [hval] | rw [hval2]
                      have B5 : Below wr.heap.size wr wr.drew := (Below.refl _ _).drew
                      have R5 : Hid (wr.drew.ownsRow Sr 2 1 r x (cI (nmJ ps x))) := own_below hR.out B5
                      have Z5 : Hid (Below Wr.heap.size Wr wr.drew) := hZ.out.trans (B5.mono hZ.out.size)
                      have hs5 : Sr ≤ wr.drew.heap.size := by have := hSV.out; have := B5.size; omega
                      clear B5 hR hZ hSV d1 d2 d3 hval hval2
                      generalize wr.drew = X5 at R5 Z5 hs5 ⊢
                      obtain ⟨ra, rc, rfl⟩ := own_shape R5.out
                      have hx7 : x + 1 ≤ maxLen := by unfold maxLen; omega
                      go_wp2_with (first | (go_at_call 30; refine (HC.out _).mono ?_; rintro e w4 ⟨rfl, hw4⟩; subst hw4) | (at_builtin; refine wpList_append_own _ rfl _ _ 29 rfl Sr 2 i3 (.int .i64 0) 1 8 Try.underlying29 li lz0 lz1 lz2 rfl (by decide) _ _ _ rfl (World.ownsRow.alloc R5.out _) ⟨_, 0, none⟩ 1 1 [.int .i64 z] rfl rfl (cell_one_new _ _ _) (by simp [Value.oneCell']) hx7 (by omega) (by simp; omega) ?_; intro v' w5 hown' hgrow _))
                      go_roundw
                      case rel =>
                        have BA := below_appended R5.out hs5 hgrow
                        refine ⟨v', x + 1, rfl, by omega, by go_num, by rw [HZD.out.2], ?_, Z5.out.trans (BA.mono hWS), ?_⟩
                        · show World.ownsRow _ _ _ _ _ _ _
                          rw [nmJ_more, ← HZD.out.1]
                          exact hown'
                        · show _ ≤ _
                          have := BA.size; omega
                      case measure => simp [intOf]; omega
                    · obtain rfl : x = j := by omega
                      obtain ⟨gv, cv, rfl⟩ := own_some hR.out (by omega)
                      have hgv := (hR.out.lt gv rfl).1
                      have OL : Hid (wr.ownsRow Sr 2 1 (.slice (some ⟨gv, 0, none⟩) x cv) x (cI (lwK ps 0))) := by
                        show World.ownsRow _ _ _ _ _ _ _
                        rw [← nmJ_all, HPN.out]; exact hR.out
                      have hgd := gdF_pos HS.out
                      rw [HPN.out] at hgd
                      obtain ⟨d, hdd⟩ : ∃ y, y = gdF ps x := ⟨_, rfl⟩
                      have HDD : Hid (d = gdF ps ps.length) := by show _ = _; rw [HPN.out]; exact hdd
                      rw [← hdd] at hgd g1 g2 ⊢
                      clear hR hdd HQ0 HRow HC1
                      go_wp2
                      go_loopw [18] (fun i wz => ∃ z : Nat, z ≤ x ∧ i = .int .i64 z ∧ Hid (wz.ownsRow Sr 2 1 (.slice (some ⟨gv, 0, none⟩) x cv) x (cI (lwK ps z))) ∧ Hid (Below Wr.heap.size Wr wz) ∧ Hid (Sr ≤ wz.heap.size)) (fun i _ => x - (intOf i).toNat)
                      case atStart => exact ⟨0, Nat.zero_le _, rfl, OL.out, hZ.out, hSV.out⟩
                      case round =>
                        clear OL hZ hSV d1
                        obtain ⟨z, hz, rfl, hR, hZ, hSV⟩ := hrel
                        by_cases hlz : z < x
                        · obtain ⟨n1, n2⟩ := nmF_small HS.out (k := z) (by have := HPN.out; omega)
                          have d1 := hR.out.cellAt z (by omega)
                          rw [List.getElem?_map, List.getElem?_eq_getElem (by rw [lwK_len, HPN.out]; exact hlz)] at d1
                          have ev : (lwK ps z)[z]'(by rw [lwK_len, HPN.out]; exact hlz) = nmF ps z := by
                            have := lwK_at ps z (by have := HPN.out; omega)
                            rw [List.getElem?_eq_getElem (by rw [lwK_len, HPN.out]; exact hlz)] at this
                            exact this
                          rw [ev] at d1
                          have f1 := hR.out.frozenAt z
                          obtain ⟨q, hq⟩ : ∃ y, y = nmF ps z := ⟨_, rfl⟩
                          have HYY := hidM hq
                          rw [← hq] at n1 n2 d1
                          simp only [Option.map_some] at d1
                          have hdn : ¬ d = 0 := by omega
                          have hq0 : -7085880000000000 ≤ q.tdiv d ∧ q.tdiv d ≤ 7085880000000000 := by
                            have h1 := Int.natAbs_tdiv_le_natAbs q d
                            omega
                          obtain ⟨hq1, hq2⟩ := hq0
                          clear ev hq
                          have O4 : Hid ((wr.setCell ⟨gv, z, none⟩ (.int .i64 (q.tdiv d))).ownsRow Sr 2 1 (.slice (some ⟨gv, 0, none⟩) x cv) x (cI (lwK ps (z + 1)))) := by
                            show World.ownsRow _ _ _ _ _ _ _
                            rw [← lwK_set, cI, List.map_set, ← HYY.out, ← HDD.out]
                            exact (hR.out.stored z (.int .i64 (q.tdiv d))).1
                          have hwr : wrap64 (q.tdiv d) = q.tdiv d := by unfold wrap64; omega
                          have hgW : Wr.heap.size ≤ gv := by omega
                          have hS6 : Hid (Sr ≤ (wr.setCell ⟨gv, z, none⟩ (.int .i64 (q.tdiv d))).heap.size) := by show _ ≤ _; have := hSV.out; simp; omega
                          go_wp2
                          go_roundw
                          case rel => exact ⟨z + 1, by omega, by go_num, by first | exact O4.out | (rw [hwr]; exact O4.out), by first | exact hZ.out.setCell (p := ⟨gv, z, none⟩) hgW _, by first | exact hS6.out | (rw [hwr]; exact hS6.out)⟩
                          case measure => simp [intOf]; omega
                        · obtain rfl : z = x := by omega
                          have OU : Hid (wr.ownsRow Sr 2 1 (.slice (some ⟨gv, 0, none⟩) z cv) z (cI (lwF ps))) := by
                            show World.ownsRow _ _ _ _ _ _ _
                            have := hR.out
                            have e := lwK_all ps
                            rw [HPN.out] at e
                            rw [e] at this
                            exact this
                          have O5 := hidM (hO.out.below hZ.out)
                          have T5 := hidM (hT.out.below hZ.out)
                          have hWw : w.heap.size ≤ Wr.heap.size := hB.out.size
                          have B5 := hidM (hB.out.trans (hZ.out.mono hWw))
                          have hSS : S0 ≤ Sr := by have := hS.out; omega
                          have hS5 : S0 ≤ wr.heap.size := by have := hSV.out; omega
                          have hlt5 : ∀ i, i < ws3.length → ∀ b, (vl ws3 i).ownBlock = some b → (Value.slice (some ⟨gv, 0, none⟩) z cv).ownBlock ≠ some b := by
                            intro i hi b h1 h2
                            have h3 := hO.out.lt i hi b h1
                            have h4 := (OU.out.lt b h2).1
                            omega
                          have HLT := hidM hlt5
                          have hjm : ws3.length + 1 ≤ 1048577 := by have := hws3.out; omega
                          have hjm2 : ws3.length + 1 ≤ maxLen := by unfold maxLen; omega
                          have hll : (lwF ps).length = z := by simp [lwF, HPN.out]
                          obtain ⟨oa, oc, rfl⟩ := own_shape O5.out.outer
                          clear hlt5 hR hO hT hZ
                          go_wp2_with (at_builtin; refine wpList_append_own _ rfl _ _ 22 rfl S0 29 i0 (.slice none 0 0) 1 24 Try.underlying22 hi hz0 hz1 hz2 rfl (by decide) _ _ _ rfl (O5.out.outer.alloc _) ⟨wr.heap.size, 0, none⟩ 1 1 [.slice (some ⟨gv, 0, none⟩) z cv] rfl rfl (cell_one_new _ _ _) (by simp [Value.oneCell']) hjm2 (by omega) (by simp; omega) ?_; intro v' w6 hown' hgrow _)
                          go_roundw
                          case rel =>
                            have A5 := O5.out.append (ps := lwF ps) (u := .slice (some ⟨gv, 0, none⟩) z cv) (own_le (by rw [hll]; exact OU.out) hSS) HLT.out hown' hgrow
                            rw [HPS.out, ← take_map K k (by have := HKL.out; omega)] at A5
                            have T6 := T5.out.apartI O5.out.outer hgrow
                            have hbA := below_appended O5.out.outer hS5 hgrow
                            refine ⟨_, k + 1, ws3 ++ [_], rfl, by omega, by go_num, ?_, A5, T6, B5.out.trans (hbA.mono hS0w), ?_⟩
                            · show _ = _
                              rw [List.length_append, hws3.out]; rfl
                            · show _ ≤ _
                              have := hbA.size
                              omega
                          case measure => simp [intOf]; omega
            · obtain rfl : k = kn := by omega
              have hO' := hO.out
              rw [HKL.out, List.take_length] at hO'
              have HO := hidM hO'
              clear hO'
              go_wp2
              go_ret2
              refine ⟨_, ws3, rfl, ?_, hB.out⟩
              rw [HGA.out]
              exact HO.out.le hS0w
end Go.Proofs.Ytbbkejfcheobaak
