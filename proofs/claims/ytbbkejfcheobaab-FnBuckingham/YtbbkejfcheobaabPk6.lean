/- Several texts of this proof laid one behind the other: each has its own heading below. -/
import Derived.Test.YtbbkejfcheobaabPk5
import Derived.Test.YtbbkejfcheobaabPk3
import Derived.Test.YtbbkejfcheobaabAlikeW
import Derived.Deep.RegionWith
import Derived.Test.YtbbkejfcheobaabDrawW4
import Derived.Test.YtbbkejfcheobaabPk1
import Derived.Test.YtbbkejfcheobaabPk2

/- The walk of the model's Groups. -/
namespace Go.Proofs.Ytbbkejfcheobaab
open Go.RowKit Go.Proofs.Ytbbkejfcheobaab.RM

theorem hidM {p : Prop} (h : p) : Hid p := h
/-- the first j numbers of row i of the table of dimensions -/
def dimP (L : List (List Int)) (i j : Nat) : List Fr := (List.range j).map fun c => (fi (ri L c) i, 1)
theorem dimP_len (L : List (List Int)) (i j : Nat) : (dimP L i j).length = j := by simp [dimP]
theorem dimP_more (L : List (List Int)) (i j : Nat) : dimP L i (j + 1) = dimP L i j ++ [(fi (ri L j) i, 1)] := by simp [dimP, List.range_succ]
def nmJ (ps : List Fr) (j : Nat) : List Int := (List.range j).map (nmF ps)
theorem nmJ_len (ps : List Fr) (j : Nat) : (nmJ ps j).length = j := by simp [nmJ]
theorem nmJ_more (ps : List Fr) (j : Nat) : cI (nmJ ps (j + 1)) = cI (nmJ ps j) ++ [.int .i64 (nmF ps j)] := by simp [nmJ, List.range_succ]
theorem nmJ_all (ps : List Fr) : nmJ ps ps.length = lwK ps 0 := by simp [nmJ, lwK]
theorem dimT_take (L : List (List Int)) (k : Nat) (h : k < 5) : (dimT L).take (k + 1) = (dimT L).take k ++ [dimP L k L.length] := by
  have hl : k < (dimT L).length := by rw [(dimT_shape L).1]; exact h
  rw [List.take_succ_eq_append_getElem hl]
  congr 1
  simp [dimT, dimK, dimR, dimP]

set_option maxRecDepth 100000 in
set_option maxHeartbeats 8000000 in
theorem sGroups_any (v : Value) (us : List Value) (L : List (List Int)) (w : World) (h : RdD w v us L) :
    Calls Try.prog 40 #[v] w fun e w' => ∃ u vs, e = .returned (.tuple #[u, .bool (grO L)]) ∧ TabI w' w.heap.size u vs (grA L) ∧ Below w.heap.size w w' := by
  have b0 : ∀ (u : World) (o : Obj), Below u.heap.size u (u.alloc o) := fun u o => (Below.refl _ _).alloc (Nat.le_refl _) o
  obtain ⟨i0, hi, hz0, hz1, hz2⟩ := info_parts infoU
  obtain ⟨i1, ji, jz0, jz1, jz2⟩ := info_parts infoF
  obtain ⟨i2, ki, kz0, kz1, kz2⟩ := info_parts infoT
  obtain ⟨i3, li, lz0, lz1, lz2⟩ := info_parts infoI
  have HT := hidM h
  obtain ⟨q, hq⟩ : ∃ q, q = dimsB L := ⟨_, rfl⟩
  have HQ := hidM hq
  have HDo : Hid (∀ W : World, Below w.heap.size w W → Calls Try.prog 80 #[v] W fun e w' => e = .returned (.bool q) ∧ Below W.heap.size W w') := by
    intro W hW; rw [hq]; exact sDims_any v us L W (HT.out.below hW)
  clear h hq
  obtain ⟨S0, hS0⟩ : ∃ S, S = w.heap.size := ⟨_, rfl⟩
  obtain ⟨X0, hX0⟩ : ∃ X, X = w.alloc (.cells #[] 57) := ⟨_, rfl⟩
  have O0 : Hid (TabI X0 S0 (.slice (some ⟨S0, 0, none⟩) 0 0) [] []) := by show TabI _ _ _ _ _; rw [hX0, hS0]; exact TabI.lit (Nat.le_refl _)
  have BW : Hid (Below w.heap.size w X0) := by show Below _ _ _; rw [hX0]; exact b0 _ _
  have hS0w : w.heap.size ≤ S0 := by omega
  have hS0x : S0 < X0.heap.size := by rw [hX0, hS0]; simp
  cases q
  · have hno : grO L = false := by unfold grO; rw [← HQ.out]; rfl
    rw [grA_no hno, hno]
    clear hno
    go_enter Try.func40, Try.ntmps40
    go_upto_region 2 with fail
    rw [← hX0, ← hS0]
    clear hX0 hS0
    go_wp2_with fail
    refine (HDo.out _ BW.out).mono ?_
    rintro e w1 ⟨rfl, hb⟩
    have B1 := hidM hb
    clear hb
    go_wp2
    go_ret2
    exact ⟨_, [], rfl, (O0.out.below B1.out).le hS0w, BW.out.trans (B1.out.mono BW.out.size)⟩
  · obtain ⟨hd1, hd2⟩ := dimsB_out HQ.out.symm
    obtain ⟨n, hn⟩ : ∃ n, n = L.length := ⟨_, rfl⟩
    have HN := hidM hn
    have HIN : Hid (∀ k, k < n → ∃ g c, vl us k = .slice (some ⟨g, 0, none⟩) 5 c ∧ ∀ j, j < 5 → w.cell? ⟨g, j, none⟩ = some (.int .i64 (fi (ri L k) j))) := by
      intro k hk
      have h5 := (dim_at (hd2 k (by omega))).1
      obtain ⟨base, et, hin⟩ := (HT.out.inner k (by omega)).five h5
      rw [h5] at hin
      obtain ⟨g, c, e⟩ := own_some hin (by omega)
      rw [e] at hin ⊢
      exact ⟨g, c, rfl, fun j hj => own_int hin h5 j hj⟩
    obtain ⟨a, c, rfl, hv⟩ := HT.out.vals
    rw [← hn] at hv HDo ⊢
    have hn6 : n ≤ 6 := by omega
    have hn1 : 1 ≤ n := by omega
    have H5 := hidM hv
    obtain ⟨M, hM⟩ : ∃ M, M = dimT L := ⟨_, rfl⟩
    have HM := hidM hM
    obtain ⟨p, hp⟩ : ∃ p, p = echO M := ⟨_, rfl⟩
    have HPq := hidM hp
    have hgr : grO L = p := by unfold grO; rw [← HQ.out, ← hM, ← hp]; rfl
    have HGR := hidM hgr
    clear hd1 hd2 hM hp hgr hn hv HT
    rw [HGR.out]
    go_enter Try.func40, Try.ntmps40
    go_upto_region 2 with fail
    rw [← hX0, ← hS0]
    clear hX0 hS0
    go_wp2_with fail
    refine (HDo.out _ BW.out).mono ?_
    rintro e w1 ⟨rfl, hb⟩
    have HX := hidM hb
    have hSX : X0.heap.size ≤ w1.heap.size := hb.size
    clear hb HDo
    go_upto_region 5 with fail
    obtain ⟨S1, hS1⟩ : ∃ S, S = w1.heap.size := ⟨_, rfl⟩
    obtain ⟨X1, hX1⟩ : ∃ X, X = w1.alloc (.cells #[] 44) := ⟨_, rfl⟩
    have T0 : Hid (Tab X1 S1 (.slice (some ⟨S1, 0, none⟩) 0 0) [] []) := by show Tab _ _ _ _ _; rw [hX1, hS1]; exact Tab.lit (Nat.le_refl _)
    replace HX : Hid (Below X0.heap.size X0 X1) := by show Below _ _ _; rw [hX1]; exact HX.out.alloc HX.out.size _
    have hS1x : S1 ≤ X1.heap.size := by rw [hX1, hS1]; simp
    rw [← hS1] at hSX
    rw [← hX1, ← hS1]
    clear hX1 hS1
    have hML : M.length = 5 := by rw [HM.out]; exact (dimT_shape L).1
    have HML := hidM hML
    clear hML
    go_wp2
    go_loopw [5, 6] (fun g i wr => ∃ (o : Value) (k : Nat) (ws : List Value), o = g ∧ k ≤ 5 ∧ i = .int .i64 k ∧ Hid (ws.length = k) ∧ Hid (Tab wr S1 o ws (M.take k)) ∧ Hid (Below X0.heap.size X0 wr) ∧ Hid (S1 ≤ wr.heap.size)) (fun _ i _ => 5 - (intOf i).toNat)
    case atStart => exact ⟨_, 0, [], rfl, by omega, rfl, rfl, T0.out, HX.out, hS1x⟩
    case round =>
      clear T0 HX hS1x
      obtain ⟨o, k, ws, rfl, hk, rfl, hws, hT, hX, hS1x⟩ := hrel
      by_cases hlt : k < 5
      · obtain ⟨Wr, hVV⟩ : ∃ V, V = wr := ⟨_, rfl⟩
        subst hVV
        obtain ⟨Sr, hSr⟩ : ∃ S, S = Wr.heap.size := ⟨_, rfl⟩
        have HSR := hidM hSr
        obtain ⟨V, hV⟩ : ∃ V, V = Wr.alloc (.cells #[] 25) := ⟨_, rfl⟩
        have r0 : Hid (V.ownsRow Sr 25 2 (.slice (some ⟨Sr, 0, none⟩) 0 0) 0 (cellsR (dimP L k 0))) := by
          show World.ownsRow _ _ _ _ _ _ _
          rw [hV, hSr]; exact World.ownsRow_lit Wr (base := Wr.heap.size) (e := 25) (size := 2) #[] 0 (Nat.le_refl _) (Nat.zero_le _) rfl
        have BV : Hid (Below Sr Wr V) := by show Below _ _ _; rw [hV, hSr]; exact b0 _ _
        have hSV : Sr ≤ V.heap.size := by rw [hV, hSr]; simp
        have hwX : w.heap.size ≤ Sr := by have := BW.out.size; have := hX.out.size; omega
        have hk5 : decide ((k : Int) < 5) = true := by simp; omega
        go_upto_region 9 with fail
        rw [← hV, ← hSr]
        clear hV hSr
        go_wp2
        go_loopw [7, 8] (fun g i wz => ∃ (r : Value) (j : Nat), r = g ∧ j ≤ n ∧ i = .int .i64 j ∧ Hid (wz.ownsRow Sr 25 2 r j (cellsR (dimP L k j))) ∧ Hid (Below Sr Wr wz) ∧ Hid (Sr ≤ wz.heap.size)) (fun _ i _ => n - (intOf i).toNat)
        case atStart => exact ⟨_, 0, rfl, Nat.zero_le _, rfl, r0.out, BV.out, hSV⟩
        case round =>
          clear r0 BV hSV
          obtain ⟨r, j, rfl, hj, rfl, hO, hZ, hsz⟩ := hrel
          have hsz := hsz.out
          have BWZ : Hid (Below w.heap.size w Wr) := BW.out.trans (hX.out.mono BW.out.size)
          have BZ : Hid (Below w.heap.size w wr) := BWZ.out.trans (hZ.out.mono hwX)
          by_cases hjn : j < n
          · obtain ⟨g, cg, ed, hd⟩ := HIN.out j hjn
            obtain ⟨g1, e1, c1⟩ := H5.out j hjn
            subst e1
            rw [ed] at c1
            have d1 := cell_keep BZ.out (hd k hlt)
            replace c1 := cell_keep BZ.out c1
            obtain ⟨p, hp⟩ : ∃ p, p = fi (ri L j) k := ⟨_, rfl⟩
            have HP := hidM hp
            rw [← hp] at d1
            obtain ⟨ra, rc, rfl⟩ := own_shape hO.out
            clear hd ed hp
            have hj7 : j + 1 ≤ maxLen := by unfold maxLen; omega
            go_wp2_with (at_builtin; refine wpList_append_own _ rfl _ _ 44 rfl Sr 25 i1 (.agg #[.int .i64 0, .int .i64 0]) 2 16 Try.underlying44 ji jz0 jz1 jz2 rfl (by decide) _ _ _ rfl (World.ownsRow.alloc hO.out _) ⟨wr.heap.size, 0, none⟩ 1 1 [.int .i64 p, .int .i64 1] rfl rfl (cell_twoF _ _ _ _) (by intro u hu; simp at hu; rcases hu with rfl | rfl <;> rfl) hj7 (by omega) (by simp; omega) ?_; intro v' w5 hown' hgrow _)
            go_roundw
            case rel =>
              refine ⟨v', j + 1, rfl, by omega, by go_num, ?_, hZ.out.trans (below_appended hO.out hsz hgrow), ?_⟩
              · show World.ownsRow _ _ _ _ _ _ _
                rw [dimP_more, cellsR_append, ← HP.out]
                exact hown'
              · show _ ≤ _
                have := hgrow.size; simp at this; omega
            case measure => simp [intOf]; omega
          · obtain rfl : j = n := by omega
            obtain ⟨ra, rc, rfl⟩ := own_shape hO.out
            have T2 : Hid (Tab wr S1 o ws (M.take k)) := Tab.below hT.out (by rw [← HSR.out]; exact hZ.out)
            obtain ⟨oa, oc, rfl⟩ := own_shape T2.out.outer
            have hwl0 : ws.length + 1 ≤ 6 := by rw [hws.out]; omega
            have hwl : ws.length + 1 ≤ maxLen := by unfold maxLen; omega
            go_wp2_with (at_builtin; refine wpList_append_own _ rfl _ _ 33 rfl S1 44 i2 (.slice none 0 0) 1 24 Try.underlying33 ki kz0 kz1 kz2 rfl (by decide) _ _ _ rfl (World.ownsRow.alloc T2.out.outer _) ⟨wr.heap.size, 0, none⟩ 1 1 [.slice ra j rc] rfl rfl (cell_one_new _ _ _) (by simp [Value.oneCell']) hwl (by omega) (by have := hS1x.out; have := HSR.out; simp; omega) ?_; intro v' w5 hown' hgrow _)
            go_roundw
            case rel =>
              have hS1r : S1 ≤ Sr := by have := hS1x.out; have := HSR.out; omega
              have T5 := T2.out.append (ps := dimP L k j) (u := .slice ra j rc) (by rw [dimP_len]; exact own_le hO.out hS1r) (fun i hi b e h2 => by
                have h1 := hT.out.lt i hi b e
                have h3 := (hO.out.lt b h2).1
                have := HSR.out
                omega) hown' hgrow
              have et : M.take (k + 1) = M.take k ++ [dimP L k j] := by rw [HM.out, HN.out]; exact dimT_take L k hlt
              have BA := below_appended T2.out.outer (by omega) hgrow
              refine ⟨_, k + 1, ws ++ [.slice ra j rc], rfl, by omega, by go_num, ?_, ?_, ?_, ?_⟩
              · show _ = _
                rw [List.length_append, hws.out]; rfl
              · show Tab _ _ _ _ _
                rw [et]; exact T5
              · show Below _ _ _
                exact (hX.out.trans (hZ.out.mono (by have := hX.out.size; have := HSR.out; omega))).trans (BA.mono hSX)
              · show _ ≤ _
                have := BA.size; omega
            case measure => simp [intOf]; omega
      · obtain rfl : k = 5 := by omega
        have hT5 : Tab wr S1 o ws M := by have := hT.out; rw [← HML.out, List.take_length] at this; exact this
        have T5 := hidM hT5
        have HRD := hidM (Tab.read hT5)
        have HRK := hidM (sRank_any o M wr HRD.out)
        have BW1 : Hid (Below w.heap.size w wr) := BW.out.trans (hX.out.mono BW.out.size)
        have hsz := hS1x.out
        clear hT hT5 hlt hk
        cases p
        · have hrk : rkI M = -1 := by unfold rkI; rw [← HPq.out]; rfl
          rw [hrk] at HRK
          clear hrk
          go_wp2_with (go_at_call 27; refine HRK.out.mono ?_; rintro e w6 ⟨rfl, hb6⟩)
          go_ret2
          refine ⟨_, [], rfl, ?_, BW1.out.trans (hb6.mono BW1.out.size)⟩
          rw [grA_no HGR.out]
          exact ((O0.out.below hX.out).below hb6).le hS0w
        · have hrk : 0 ≤ rkI M := by unfold rkI; rw [← HPq.out]; exact Int.natCast_nonneg _
          obtain ⟨rk, hrk2⟩ : ∃ r, r = rkI M := ⟨_, rfl⟩
          rw [← hrk2] at HRK hrk
          have hrk3 : ¬ rk < 0 := by omega
          have hGA := grA_yes HGR.out
          rw [← HM.out] at hGA
          obtain ⟨K, hK⟩ : ∃ K, K = kerA M := ⟨_, rfl⟩
          have HGA : Hid (grA L = K.map lwF) := by show _ = _; rw [hGA, hK]
          have HKN : Hid (∀ W : World, Below wr.heap.size wr W → Calls Try.prog 26 #[o] W fun e w' => ∃ vm us, e = .returned vm ∧ Tab w' W.heap.size vm us K ∧ Below W.heap.size W w') := by
            intro W hW; rw [hK]; exact sKernel_any o M W (HRD.out.below hW)
          have HSM : Hid (∀ i, i < K.length → Small (rw' K i) ∧ (rw' K i).length = n) := by
            intro i hi
            have h1 : echO (dimT L) = true := by rw [← HM.out]; exact HPq.out.symm
            have h2 := ker_small HQ.out.symm h1 i (by rw [← HM.out, ← hK]; exact hi)
            rw [← HM.out, ← hK] at h2
            rw [HN.out]; exact h2
          have hKl : K.length ≤ 1048576 := by rw [hK]; exact (kerA_small M).1
          obtain ⟨kn, hkn⟩ : ∃ n, n = K.length := ⟨_, rfl⟩
          have HKL := hidM hkn
          rw [← hkn] at hKl
          clear hrk hrk2 hGA hK hkn
          go_wp2_with (first | (go_at_call 27; refine HRK.out.mono ?_; rintro e w6 ⟨rfl, hb6⟩) | (go_at_call 26; refine (HKN.out _ hb6).mono ?_; rintro e w7 ⟨vm, us4, rfl, tk, hb7⟩))
          have TI0 : Hid (TabI w7 S0 (.slice (some ⟨S0, 0, none⟩) 0 0) [] []) := ((O0.out.below hX.out).below hb6).below hb7
          have B7 : Hid (Below w.heap.size w w7) := (BW1.out.trans (hb6.mono BW1.out.size)).trans (hb7.mono (by have := BW1.out.size; have := hb6.size; omega))
          have hS7 : Hid (S0 ≤ w7.heap.size) := by show _ ≤ _; have := hX.out.size; have := hb6.size; have := hb7.size; omega
          obtain ⟨B, hB5⟩ : ∃ B, B = w6.heap.size := ⟨_, rfl⟩
          rw [← hB5] at tk
          have TK := hidM tk
          have hku : us4.length = kn := by rw [tk.len, HKL.out]
          obtain ⟨ak, ck, rfl⟩ := own_shape tk.outer
          rw [hku] at TK ⊢
          have HKU := hidM hku
          clear tk hku hB5 hb7 hb6 hX hS1x T5 HRD HRK HKN BW1 hsz O0 BW HPq hS0x hSX H5 HIN
          go_wp2
          go_loopw [4, 10] (fun g i wr => ∃ (o : Value) (k : Nat) (ws : List Value), o = g ∧ k ≤ kn ∧ i = .int .i64 k ∧ Hid (ws.length = k) ∧ Hid (TabI wr S0 o ws ((K.take k).map lwF)) ∧ Hid (Tab wr B (.slice ak kn ck) us4 K) ∧ Hid (Below w.heap.size w wr) ∧ Hid (S0 ≤ wr.heap.size)) (fun _ i _ => kn - (intOf i).toNat)
          case atStart => exact ⟨_, 0, [], rfl, Nat.zero_le _, rfl, rfl, TI0.out, TK.out, B7.out, hS7.out⟩
          case round =>
            clear TI0 TK B7 hS7
            obtain ⟨o3, k, ws3, rfl, hk, rfl, hws3, hO, hT, hB, hS⟩ := hrel
            by_cases hlt : k < kn
            · obtain ⟨Wr, hVV⟩ : ∃ V, V = wr := ⟨_, rfl⟩
              subst hVV
              have hku := HKU.out
              obtain ⟨g, cg, eg⟩ := own_some hT.out.outer (by omega)
              injection eg with e1 e2 e3
              subst e1
              clear e2 e3
              have ho := hT.out.outer
              rw [hku] at ho
              have d1 := ho.cellAt k (by omega)
              rw [List.getElem?_eq_getElem (by omega), show us4[k] = vl us4 k by simp [vl, List.getElem?_eq_getElem (show k < us4.length by omega)]] at d1
              have hin := hT.out.inner k (by omega)
              obtain ⟨sm1, sm2⟩ := HSM.out k (by have := HKL.out; omega)
              obtain ⟨ps, hps⟩ : ∃ ps, ps = rw' K k := ⟨_, rfl⟩
              have HPS := hidM hps
              rw [← hps] at hin sm1 sm2
              rw [sm2] at hin
              obtain ⟨y, cy, ey⟩ := own_some hin (by omega)
              rw [ey] at d1 hin
              have HS := hidM sm1
              have HPN := hidM sm2
              have HRow : Hid (∀ j, j < n → Wr.cell? ⟨y, j * 2, none⟩ = some (.int .i64 (fr ps j).1) ∧ Wr.cell? ⟨y, j * 2 + 1, none⟩ = some (.int .i64 (fr ps j).2)) := fun j hj => own_R hin sm2 j hj
              have HC1 := hidM d1
              have hkn : decide ((k : Int) < kn) = true := by simp; omega
              have B0 : Hid (Below Wr.heap.size Wr Wr) := Below.refl _ _
              clear ho hin ey hps sm1 sm2 hku d1
              go_wp2
              go_loopw [11, 12] (fun m i wz => ∃ j : Nat, j ≤ n ∧ i = .int .i64 j ∧ m = .int .i64 (lcF ps j) ∧ Hid (Below Wr.heap.size Wr wz)) (fun _ i _ => n - (intOf i).toNat)
              case atStart => exact ⟨0, Nat.zero_le _, rfl, rfl, B0.out⟩
              case round =>
                clear B0
                obtain ⟨j, hj, rfl, rfl, hZ⟩ := hrel
                have d1 := cell_keep hZ.out HC1.out
                by_cases hjn : j < n
                · have d2 := cell_keep hZ.out (HRow.out j hjn).2
                  obtain ⟨l1, l2⟩ := lcF_small HS.out (k := j) (by have := HPN.out; omega)
                  obtain ⟨m1, m2⟩ := lcF_small HS.out (k := j + 1) (by have := HPN.out; omega)
                  have hd1 := HS.out.den j (by have := HPN.out; omega)
                  have hd2 : (fr ps j).2 ≤ 7085880 := by
                    obtain ⟨D, d1, d2, d3⟩ := HS.out.dvd
                    have := Int.le_of_dvd (by omega) (d3 j (by have := HPN.out; omega))
                    omega
                  have hm := lcF_model HS.out (k := j) (by have := HPN.out; omega)
                  have hg0 : 0 < gcdi (lcF ps j) (fr ps j).2 := gcdi_pos_r _ _ (by omega)
                  obtain ⟨l, hll⟩ : ∃ l, l = lcF ps j := ⟨_, rfl⟩
                  obtain ⟨l', hll'⟩ : ∃ l, l = lcF ps (j + 1) := ⟨_, rfl⟩
                  obtain ⟨G, hG⟩ : ∃ G, G = gcdi (lcF ps j) (fr ps j).2 := ⟨_, rfl⟩
                  obtain ⟨p2, hp2⟩ : ∃ p, p = (fr ps j).2 := ⟨_, rfl⟩
                  have HC : Hid (∀ u : World, Calls Try.prog 59 #[.int .i64 l, .int .i64 p2] u fun e w' => e = .returned (.int .i64 G) ∧ w' = u) := by
                    intro u
                    rw [hG, hll, hp2]
                    exact shared_any _ _ u (by omega) (by omega) (by omega) (by omega)
                  rw [← hll] at l1 l2 ⊢
                  rw [← hll'] at m1 m2
                  rw [← hG] at hg0
                  rw [← hp2] at d2 hd1 hd2
                  have hq : l / G * p2 = l' := by rw [← Int.tdiv_eq_ediv_of_nonneg (by omega), hG, hll, hp2, hll']; exact hm
                  have HLL := hidM hll'
                  have hGn : ¬ G = 0 := by omega
                  have hval : wrap64 (l / G * p2) = l' := by rw [hq]; unfold wrap64; omega
                  have hval2 : wrap64 (l.tdiv G * p2) = l' := by rw [Int.tdiv_eq_ediv_of_nonneg (by omega)]; exact hval
                  have hbig : ¬ l' > 1000000000 := by omega
                  clear hll hll' hG hp2 hm hq
                  go_upto_region 26 with (go_at_call 59; refine (HC.out _).mono ?_; rintro e w4 ⟨rfl, hw4⟩; subst hw4)
                  first | rw [hval] | rw [hval2]
                  clear hval hval2
                  go_wp2
                  go_roundw
                  case rel => exact ⟨j + 1, by omega, by go_num, by rw [HLL.out], hZ.out⟩
                  case measure => simp [intOf]; omega
                · obtain rfl : j = n := by omega
                  obtain ⟨l1, l2⟩ := lcF_small HS.out (k := j) (by have := HPN.out; omega)
                  have hq0 : ∀ x, x < j → lcF ps j / (fr ps x).2 * 1 = lcF ps j / (fr ps x).2 ∧ (fr ps x).1 * (lcF ps j / (fr ps x).2) = nmF ps x ∧ 1 ≤ (fr ps x).2 := by
                    intro x hx
                    have hd1 := HS.out.den x (by have := HPN.out; omega)
                    refine ⟨Int.mul_one _, ?_, hd1⟩
                    have := nmF_model ps x
                    rw [HPN.out, Int.tdiv_eq_ediv_of_nonneg (by omega)] at this
                    exact this
                  obtain ⟨l, hll⟩ : ∃ l, l = lcF ps j := ⟨_, rfl⟩
                  rw [← hll] at l1 l2 hq0 ⊢
                  have HQ0 := hidM hq0
                  obtain ⟨Sr, hSr⟩ : ∃ S, S = wr.heap.size := ⟨_, rfl⟩
                  have HSR := hidM hSr
                  obtain ⟨V, hV⟩ : ∃ V, V = wr.alloc (.cells #[] 2) := ⟨_, rfl⟩
                  have R0 : Hid (V.ownsRow Sr 2 1 (.slice (some ⟨Sr, 0, none⟩) 0 0) 0 (cI (nmJ ps 0))) := by
                    show World.ownsRow _ _ _ _ _ _ _
                    rw [hV, hSr]; exact World.ownsRow_lit wr (base := wr.heap.size) (e := 2) (size := 1) #[] 0 (Nat.le_refl _) (Nat.zero_le _) rfl
                  have hWS : Wr.heap.size ≤ Sr := by rw [hSr]; exact hZ.out.size
                  have BV : Hid (Below Wr.heap.size Wr V) := by show Below _ _ _; rw [hV]; exact hZ.out.alloc hZ.out.size _
                  have hSV : Hid (Sr ≤ V.heap.size) := by show _ ≤ _; rw [hV, hSr]; simp
                  clear hq0 hll
                  go_upto_region 30 with fail
                  rw [← hV, ← hSr]
                  clear hV hSr hZ hjn d1
                  go_wp2
                  go_loopw [14, 15, 16] (fun d g i wz => ∃ (r : Value) (x : Nat), r = g ∧ x ≤ j ∧ i = .int .i64 x ∧ d = .int .i64 (gdF ps x) ∧ Hid (wz.ownsRow Sr 2 1 r x (cI (nmJ ps x))) ∧ Hid (Below Wr.heap.size Wr wz) ∧ Hid (Sr ≤ wz.heap.size)) (fun _ _ i _ => j - (intOf i).toNat)
                  case atStart => exact ⟨_, 0, rfl, Nat.zero_le _, rfl, rfl, R0.out, BV.out, hSV.out⟩
                  case round =>
                    clear R0 BV hSV
                    obtain ⟨r, x, rfl, hx, rfl, rfl, hR, hZ, hSV⟩ := hrel
                    have d1 := cell_keep hZ.out HC1.out
                    obtain ⟨g1, g2, -⟩ := gdF_small HS.out x (by have := HPN.out; omega)
                    by_cases hxj : x < j
                    · have d2 := cell_keep hZ.out (HRow.out x hxj).1
                      have d3 := cell_keep hZ.out (HRow.out x hxj).2
                      obtain ⟨-, hq1, hd1⟩ := HQ0.out x hxj
                      obtain ⟨n1, n2⟩ := nmF_small HS.out (k := x) (by have := HPN.out; omega)
                      have hgn : gdF ps (x + 1) = gcdi (gdF ps x) (nmF ps x) := rfl
                      obtain ⟨z, hz⟩ : ∃ y, y = nmF ps x := ⟨_, rfl⟩
                      obtain ⟨d, hdd⟩ : ∃ y, y = gdF ps x := ⟨_, rfl⟩
                      obtain ⟨d', hdd'⟩ : ∃ y, y = gdF ps (x + 1) := ⟨_, rfl⟩
                      obtain ⟨p1, hp1⟩ : ∃ p, p = (fr ps x).1 := ⟨_, rfl⟩
                      obtain ⟨p2, hp2⟩ : ∃ p, p = (fr ps x).2 := ⟨_, rfl⟩
                      rw [← hp1] at d2 hq1
                      rw [← hp2] at d3 hq1 hd1
                      rw [← hz] at n1 n2 hq1 hgn
                      rw [← hdd] at g1 g2 hgn ⊢
                      rw [← hdd'] at hgn
                      have hval : wrap64 (p1 * (l / p2)) = z := by rw [hq1]; unfold wrap64; omega
                      have hval2 : wrap64 (p1 * (l.tdiv p2)) = z := by rw [Int.tdiv_eq_ediv_of_nonneg (by omega)]; exact hval
                      have HC : Hid (∀ u : World, Calls Try.prog 59 #[.int .i64 d, .int .i64 z] u fun e w' => e = .returned (.int .i64 d') ∧ w' = u) := by
                        intro u
                        rw [hgn]
                        exact shared_any _ _ u (by omega) (by omega) (by omega) (by omega)
                      have HZD := hidM (And.intro hz hdd')
                      have hp2n : ¬ p2 = 0 := by omega
                      clear hz hdd hdd' hp1 hp2 hq1 hgn
                      go_upto_region 33 with fail
                      go_region
                      all_goals first | rw [hval] | rw [hval2]
                      have B5 : Below wr.heap.size wr wr.drew := (Below.refl _ _).drew
                      have R5 : Hid (wr.drew.ownsRow Sr 2 1 r x (cI (nmJ ps x))) := own_below hR.out B5
                      have Z5 : Hid (Below Wr.heap.size Wr wr.drew) := hZ.out.trans (B5.mono hZ.out.size)
                      have hs5 : Sr ≤ wr.drew.heap.size := by have := hSV.out; have := B5.size; omega
                      clear B5 hR hZ hSV d1 d2 d3 hval hval2
                      generalize wr.drew = X5 at R5 Z5 hs5 ⊢
                      obtain ⟨ra, rc, rfl⟩ := own_shape R5.out
                      have hx7 : x + 1 ≤ maxLen := by unfold maxLen; omega
                      go_wp2_with (first | (go_at_call 59; refine (HC.out _).mono ?_; rintro e w4 ⟨rfl, hw4⟩; subst hw4) | (at_builtin; refine wpList_append_own _ rfl _ _ 57 rfl Sr 2 i3 (.int .i64 0) 1 8 Try.underlying57 li lz0 lz1 lz2 rfl (by decide) _ _ _ rfl (World.ownsRow.alloc R5.out _) ⟨_, 0, none⟩ 1 1 [.int .i64 z] rfl rfl (cell_one_new _ _ _) (by simp [Value.oneCell']) hx7 (by omega) (by simp; omega) ?_; intro v' w5 hown' hgrow _))
                      go_roundw
                      case rel =>
                        have BA := below_appended R5.out hs5 hgrow
                        refine ⟨v', x + 1, rfl, by omega, by go_num, by rw [HZD.out.2], ?_, Z5.out.trans (BA.mono hWS), ?_⟩
                        · show World.ownsRow _ _ _ _ _ _ _
                          rw [nmJ_more, ← HZD.out.1]
                          exact hown'
                        · show _ ≤ _
                          have := BA.size; omega
                      case measure => simp [intOf]; omega
                    · obtain rfl : x = j := by omega
                      obtain ⟨gv, cv, rfl⟩ := own_some hR.out (by omega)
                      have hgv := (hR.out.lt gv rfl).1
                      have OL : Hid (wr.ownsRow Sr 2 1 (.slice (some ⟨gv, 0, none⟩) x cv) x (cI (lwK ps 0))) := by
                        show World.ownsRow _ _ _ _ _ _ _
                        rw [← nmJ_all, HPN.out]; exact hR.out
                      have hgd := gdF_pos HS.out
                      rw [HPN.out] at hgd
                      obtain ⟨d, hdd⟩ : ∃ y, y = gdF ps x := ⟨_, rfl⟩
                      have HDD : Hid (d = gdF ps ps.length) := by show _ = _; rw [HPN.out]; exact hdd
                      rw [← hdd] at hgd g1 g2 ⊢
                      clear hR hdd HQ0 HRow HC1
                      go_wp2
                      go_loopw [18] (fun i wz => ∃ z : Nat, z ≤ x ∧ i = .int .i64 z ∧ Hid (wz.ownsRow Sr 2 1 (.slice (some ⟨gv, 0, none⟩) x cv) x (cI (lwK ps z))) ∧ Hid (Below Wr.heap.size Wr wz) ∧ Hid (Sr ≤ wz.heap.size)) (fun i _ => x - (intOf i).toNat)
                      case atStart => exact ⟨0, Nat.zero_le _, rfl, OL.out, hZ.out, hSV.out⟩
                      case round =>
                        clear OL hZ hSV d1
                        obtain ⟨z, hz, rfl, hR, hZ, hSV⟩ := hrel
                        by_cases hlz : z < x
                        · obtain ⟨n1, n2⟩ := nmF_small HS.out (k := z) (by have := HPN.out; omega)
                          have d1 := hR.out.cellAt z (by omega)
                          rw [List.getElem?_map, List.getElem?_eq_getElem (by rw [lwK_len, HPN.out]; exact hlz)] at d1
                          have ev : (lwK ps z)[z]'(by rw [lwK_len, HPN.out]; exact hlz) = nmF ps z := by
                            have := lwK_at ps z (by have := HPN.out; omega)
                            rw [List.getElem?_eq_getElem (by rw [lwK_len, HPN.out]; exact hlz)] at this
                            exact this
                          rw [ev] at d1
                          have f1 := hR.out.frozenAt z
                          obtain ⟨q, hq⟩ : ∃ y, y = nmF ps z := ⟨_, rfl⟩
                          have HYY := hidM hq
                          rw [← hq] at n1 n2 d1
                          simp only [Option.map_some] at d1
                          have hdn : ¬ d = 0 := by omega
                          have hq0 : -7085880000000000 ≤ q.tdiv d ∧ q.tdiv d ≤ 7085880000000000 := by
                            have h1 := Int.natAbs_tdiv_le_natAbs q d
                            omega
                          obtain ⟨hq1, hq2⟩ := hq0
                          clear ev hq
                          have O4 : Hid ((wr.setCell ⟨gv, z, none⟩ (.int .i64 (q.tdiv d))).ownsRow Sr 2 1 (.slice (some ⟨gv, 0, none⟩) x cv) x (cI (lwK ps (z + 1)))) := by
                            show World.ownsRow _ _ _ _ _ _ _
                            rw [← lwK_set, cI, List.map_set, ← HYY.out, ← HDD.out]
                            exact (hR.out.stored z (.int .i64 (q.tdiv d))).1
                          have hwr : wrap64 (q.tdiv d) = q.tdiv d := by unfold wrap64; omega
                          have hgW : Wr.heap.size ≤ gv := by omega
                          have hS6 : Hid (Sr ≤ (wr.setCell ⟨gv, z, none⟩ (.int .i64 (q.tdiv d))).heap.size) := by show _ ≤ _; have := hSV.out; simp; omega
                          go_wp2
                          go_roundw
                          case rel => exact ⟨z + 1, by omega, by go_num, by first | exact O4.out | (rw [hwr]; exact O4.out), by first | exact hZ.out.setCell (p := ⟨gv, z, none⟩) hgW _, by first | exact hS6.out | (rw [hwr]; exact hS6.out)⟩
                          case measure => simp [intOf]; omega
                        · obtain rfl : z = x := by omega
                          have OU : Hid (wr.ownsRow Sr 2 1 (.slice (some ⟨gv, 0, none⟩) z cv) z (cI (lwF ps))) := by
                            show World.ownsRow _ _ _ _ _ _ _
                            have := hR.out
                            have e := lwK_all ps
                            rw [HPN.out] at e
                            rw [e] at this
                            exact this
                          have O5 := hidM (hO.out.below hZ.out)
                          have T5 := hidM (hT.out.below hZ.out)
                          have hWw : w.heap.size ≤ Wr.heap.size := hB.out.size
                          have B5 := hidM (hB.out.trans (hZ.out.mono hWw))
                          have hSS : S0 ≤ Sr := by have := hS.out; omega
                          have hS5 : S0 ≤ wr.heap.size := by have := hSV.out; omega
                          have hlt5 : ∀ i, i < ws3.length → ∀ b, (vl ws3 i).ownBlock = some b → (Value.slice (some ⟨gv, 0, none⟩) z cv).ownBlock ≠ some b := by
                            intro i hi b h1 h2
                            have h3 := hO.out.lt i hi b h1
                            have h4 := (OU.out.lt b h2).1
                            omega
                          have HLT := hidM hlt5
                          have hjm : ws3.length + 1 ≤ 1048577 := by have := hws3.out; omega
                          have hjm2 : ws3.length + 1 ≤ maxLen := by unfold maxLen; omega
                          have hll : (lwF ps).length = z := by simp [lwF, HPN.out]
                          obtain ⟨oa, oc, rfl⟩ := own_shape O5.out.outer
                          clear hlt5 hR hO hT hZ
                          go_wp2_with (at_builtin; refine wpList_append_own _ rfl _ _ 53 rfl S0 57 i0 (.slice none 0 0) 1 24 Try.underlying53 hi hz0 hz1 hz2 rfl (by decide) _ _ _ rfl (O5.out.outer.alloc _) ⟨wr.heap.size, 0, none⟩ 1 1 [.slice (some ⟨gv, 0, none⟩) z cv] rfl rfl (cell_one_new _ _ _) (by simp [Value.oneCell']) hjm2 (by omega) (by simp; omega) ?_; intro v' w6 hown' hgrow _)
                          go_roundw
                          case rel =>
                            have A5 := O5.out.append (ps := lwF ps) (u := .slice (some ⟨gv, 0, none⟩) z cv) (own_le (by rw [hll]; exact OU.out) hSS) HLT.out hown' hgrow
                            rw [HPS.out, ← take_map K k (by have := HKL.out; omega)] at A5
                            have T6 := T5.out.apartI O5.out.outer hgrow
                            have hbA := below_appended O5.out.outer hS5 hgrow
                            refine ⟨_, k + 1, ws3 ++ [_], rfl, by omega, by go_num, ?_, A5, T6, B5.out.trans (hbA.mono hS0w), ?_⟩
                            · show _ = _
                              rw [List.length_append, hws3.out]; rfl
                            · show _ ≤ _
                              have := hbA.size
                              omega
                          case measure => simp [intOf]; omega
            · obtain rfl : k = kn := by omega
              have hO' := hO.out
              rw [HKL.out, List.take_length] at hO'
              have HO := hidM hO'
              clear hO'
              go_wp2
              go_ret2
              refine ⟨_, ws3, rfl, ?_, hB.out⟩
              rw [HGA.out]
              exact HO.out.le hS0w
end Go.Proofs.Ytbbkejfcheobaab

/- The walks of the program's and the model's Alike. -/
namespace Go.Proofs.Ytbbkejfcheobaab
open Go.RowKit Go.Proofs.Ytbbkejfcheobaab.RM

set_option maxRecDepth 100000 in
set_option maxHeartbeats 2000000 in
theorem iAlike_any (v0 v1 : Value) (us : List Value) (rows : List (List Int)) (ps : List Int) (b1 : Nat) (e1 : TypeId) (w : World) (h0 : RdD w v0 us rows) (h1 : w.ownsRow b1 e1 1 v1 ps.length (ps.map (Value.int .i64))) :
    Calls Try.prog 43 #[v0, v1] w fun e w' => RowP w (ansAlike rows ps) e w' := by
  obtain ⟨q, hq⟩ : ∃ q, q = dimsB rows := ⟨_, rfl⟩
  have HQ := hidL0 hq
  have HDo : Hid (∀ W : World, Below w.heap.size w W → Calls Try.prog 77 #[v0] W fun e w' => e = .returned (.bool q) ∧ Below W.heap.size W w') := by
    intro W hW; rw [hq]; exact iDims_any v0 us rows W (h0.below hW)
  obtain ⟨n, hn⟩ : ∃ n, n = rows.length := ⟨_, rfl⟩
  obtain ⟨m, hm⟩ : ∃ m, m = ps.length := ⟨_, rfl⟩
  have HIN : Hid (∀ k, k < n → ∀ W : World, Below w.heap.size w W → DimIn W (vl us k) (ri rows k)) := fun k hk W hW => (h0.inner k (by omega)).below hW
  obtain ⟨a, c, rfl, hv⟩ := h0.vals
  rw [← hn] at hv HDo ⊢
  rw [← hm] at h1
  obtain ⟨a', c', rfl⟩ := own_shape h1
  have H5 := hidL0 hv
  have HP : Hid (∀ k, k < m → ∃ g, a' = some ⟨g, 0, none⟩ ∧ w.cell? ⟨g, k, none⟩ = some (.int .i64 (fi ps k))) := by
    intro k hk
    obtain ⟨g, cc, e⟩ := own_some h1 (by omega)
    cases e
    exact ⟨g, rfl, own_int h1 hm.symm k hk⟩
  have HN := hidL0 hn
  have HM := hidL0 hm
  clear h0 h1 hv hn hm hq
  have no : (q = false ∨ n ≠ m) → Hid (ansAlike rows ps = []) := fun h => ansAlike_no (by rw [← HQ.out, ← HN.out, ← HM.out]; exact h)
  cases q
  · rw [(no (.inl rfl)).out]
    clear no
    go_enter Try.func43, Try.ntmps43
    go_wp2_with fail
    refine (HDo.out _ (Below.refl _ _)).mono ?_
    rintro e w1 ⟨rfl, hb⟩
    go_wp2
    go_ret
    exact ⟨_, 2, rfl, by simpa using World.ownsRow_lit w1 (base := w.heap.size) (e := 2) (size := 1) #[] 0 hb.size (Nat.zero_le _) rfl, hb.alloc hb.size _⟩
  · by_cases hnm : n = m
    · subst hnm
      clear no
      have HA : Hid (ansAlike rows ps = alikeF rows ps n) := by show _ = _; rw [HN.out]; exact ansAlike_yes HQ.out.symm (by rw [← HN.out]; exact HM.out)
      rw [HA.out]
      have hnn : ((n : Int) != (n : Int)) = false := by simp
      have n6 : n ≤ 6 := by have := (dimsB_out HQ.out.symm).1.2; have := HN.out; omega
      go_enter Try.func43, Try.ntmps43
      go_wp2_with fail
      refine (HDo.out _ (Below.refl _ _)).mono ?_
      rintro e w1 ⟨rfl, hb1⟩
      have B1 := hidL0 hb1
      have HLs : Hid (∀ u : World, Calls Try.prog 81 #[.agg #[.int .i64 0, .int .i64 0, .int .i64 0, .int .i64 0, .int .i64 0], .bool true] u fun x w' => RowP u [0, 0, 0, 0, 0] x w') := fun u => listed_any 0 0 0 0 0 true u
      clear hb1 HDo HA
      go_wp2_with fail
      refine (HLs.out _).mono ?_
      rintro e w2 ⟨o0, et0, rfl, ho, hb⟩
      have O0 := hidL0 (own_le ho B1.out.size)
      have B2 := hidL0 (B1.out.trans (hb.mono B1.out.size))
      clear ho hb HLs B1
      go_wp2
      go_loopw [5, 23] (fun o i wr => ∃ (k : Nat) (et : TypeId), k ≤ n ∧ i = .int .i64 k ∧ Hid (wr.ownsRow w.heap.size et 1 o (alikeF rows ps k).length ((alikeF rows ps k).map (Value.int .i64))) ∧ Hid (Below w.heap.size w wr)) (fun _ i _ => n - (intOf i).toNat)
      case atStart => exact ⟨0, et0, Nat.zero_le _, rfl, O0.out, B2.out⟩
      case round =>
        clear O0 B2
        obtain ⟨k, et, hk, rfl, hO, hB⟩ := hrel
        by_cases hlt : k < n
        · obtain ⟨g, rfl, c1⟩ := H5.out k hlt
          obtain ⟨g', rfl, c2⟩ := HP.out k hlt
          replace c1 := cell_keep hB.out c1
          replace c2 := cell_keep hB.out c2
          have HIk := hidL0 (HIN.out k hlt _ hB.out)
          obtain ⟨x, hx⟩ : ∃ x, x = vl us k := ⟨_, rfl⟩
          obtain ⟨p, hp⟩ : ∃ p, p = fi ps k := ⟨_, rfl⟩
          have HPk := hidL0 hp
          rw [← hx] at c1 HIk
          rw [← hp] at c2
          clear hx hp
          go_wp2_with fail
          refine (iDimPower_in x (ri rows k) p _ HIk.out).mono ?_
          rintro e x1 ⟨y, ey, rfl, oy, hb⟩
          have OY := hidL0 oy
          replace hO := hidL0 (own_below hO.out hb)
          replace hB := hidL0 (hB.out.trans (hb.mono hB.out.size))
          clear oy hb HIk c1 c2
          go_wp2_with fail
          refine (iDimTimes_any _ y _ _ _ _ _ _ _ hO.out OY.out).mono ?_
          rintro e x2 ⟨z, ez, rfl, oz, hb⟩
          have OZ : Hid (x2.ownsRow w.heap.size ez 1 z (alikeF rows ps (k + 1)).length ((alikeF rows ps (k + 1)).map (Value.int .i64))) := by
            show World.ownsRow _ _ _ _ _ _ _
            have := own_le oz hB.out.size
            simp only [alikeF]
            rw [← HPk.out]
            exact this
          replace hB := hidL0 (hB.out.trans (hb.mono hB.out.size))
          clear oz hb hO OY
          go_wp2
          go_roundw
          case rel => exact ⟨k + 1, ez, by omega, by go_num, OZ, hB⟩
          case measure => simp [intOf]; omega
        · obtain rfl : k = n := by omega
          go_wp2
          go_ret
          exact ⟨_, et, rfl, hO.out, hB.out⟩
    · rw [(no (.inr hnm)).out]
      clear no
      have hne : ((n : Int) != (m : Int)) = true := by simp; omega
      go_enter Try.func43, Try.ntmps43
      go_wp2_with fail
      refine (HDo.out _ (Below.refl _ _)).mono ?_
      rintro e w1 ⟨rfl, hb⟩
      go_wp2
      go_ret
      exact ⟨_, 2, rfl, by simpa using World.ownsRow_lit w1 (base := w.heap.size) (e := 2) (size := 1) #[] 0 hb.size (Nat.zero_le _) rfl, hb.alloc hb.size _⟩

set_option maxRecDepth 100000 in
set_option maxHeartbeats 2000000 in
theorem sAlike_any (v0 v1 : Value) (us : List Value) (rows : List (List Int)) (ps : List Int) (b1 : Nat) (e1 : TypeId) (w : World) (h0 : RdD w v0 us rows) (h1 : w.ownsRow b1 e1 1 v1 ps.length (ps.map (Value.int .i64))) :
    Calls Try.prog 44 #[v0, v1] w fun e w' => RowP w (ansAlike rows ps) e w' := by
  obtain ⟨q, hq⟩ : ∃ q, q = dimsB rows := ⟨_, rfl⟩
  have HQ := hidL0 hq
  have HDo : Hid (∀ W : World, Below w.heap.size w W → Calls Try.prog 80 #[v0] W fun e w' => e = .returned (.bool q) ∧ Below W.heap.size W w') := by
    intro W hW; rw [hq]; exact sDims_any v0 us rows W (h0.below hW)
  obtain ⟨n, hn⟩ : ∃ n, n = rows.length := ⟨_, rfl⟩
  obtain ⟨m, hm⟩ : ∃ m, m = ps.length := ⟨_, rfl⟩
  have HIN : Hid (∀ k, k < n → ∀ W : World, Below w.heap.size w W → DimIn W (vl us k) (ri rows k)) := fun k hk W hW => (h0.inner k (by omega)).below hW
  obtain ⟨a, c, rfl, hv⟩ := h0.vals
  rw [← hn] at hv HDo ⊢
  rw [← hm] at h1
  obtain ⟨a', c', rfl⟩ := own_shape h1
  have H5 := hidL0 hv
  have HP : Hid (∀ k, k < m → ∃ g, a' = some ⟨g, 0, none⟩ ∧ w.cell? ⟨g, k, none⟩ = some (.int .i64 (fi ps k))) := by
    intro k hk
    obtain ⟨g, cc, e⟩ := own_some h1 (by omega)
    cases e
    exact ⟨g, rfl, own_int h1 hm.symm k hk⟩
  have HN := hidL0 hn
  have HM := hidL0 hm
  clear h0 h1 hv hn hm hq
  have no : (q = false ∨ n ≠ m) → Hid (ansAlike rows ps = []) := fun h => ansAlike_no (by rw [← HQ.out, ← HN.out, ← HM.out]; exact h)
  cases q
  · rw [(no (.inl rfl)).out]
    clear no
    go_enter Try.func44, Try.ntmps44
    go_wp2_with fail
    refine (HDo.out _ (Below.refl _ _)).mono ?_
    rintro e w1 ⟨rfl, hb⟩
    go_wp2
    go_ret
    exact ⟨_, 2, rfl, by simpa using World.ownsRow_lit w1 (base := w.heap.size) (e := 2) (size := 1) #[] 0 hb.size (Nat.zero_le _) rfl, hb.alloc hb.size _⟩
  · by_cases hnm : n = m
    · subst hnm
      clear no
      have HA : Hid (ansAlike rows ps = alikeF rows ps n) := by show _ = _; rw [HN.out]; exact ansAlike_yes HQ.out.symm (by rw [← HN.out]; exact HM.out)
      have hnn : ((n : Int) != (n : Int)) = false := by simp
      have n6 : n ≤ 6 := by have := (dimsB_out HQ.out.symm).1.2; have := HN.out; omega
      go_enter Try.func44, Try.ntmps44
      go_wp2_with fail
      refine (HDo.out _ (Below.refl _ _)).mono ?_
      rintro e w1 ⟨rfl, hb1⟩
      have B1 := hidL0 hb1
      clear hb1 HDo
      go_upto_region 4 with fail
      obtain ⟨X, hX⟩ : ∃ X, X = w1.alloc (.cells #[.int .i64 0, .int .i64 0, .int .i64 0, .int .i64 0, .int .i64 0] 2) := ⟨_, rfl⟩
      have O0 : Hid (X.ownsRow w.heap.size 2 1 (.slice (some ⟨w1.heap.size, 0, none⟩) 5 5) (alikeF rows ps 0).length ((alikeF rows ps 0).map (Value.int .i64))) := by
        show World.ownsRow _ _ _ _ _ _ _
        rw [hX]
        simpa [alikeF] using World.ownsRow_lit w1 (base := w.heap.size) (e := 2) (size := 1) #[.int .i64 0, .int .i64 0, .int .i64 0, .int .i64 0, .int .i64 0] 5 B1.out.size (by decide) rfl
      have B2 : Hid (Below w.heap.size w X) := by show Below _ _ _; rw [hX]; exact B1.out.alloc B1.out.size _
      rw [← hX]
      clear B1 hX
      go_wp2
      go_loopw [5, 6] (fun o i wr => ∃ (k : Nat) (et : TypeId), k ≤ n ∧ i = .int .i64 k ∧ Hid (wr.ownsRow w.heap.size et 1 o (alikeF rows ps k).length ((alikeF rows ps k).map (Value.int .i64))) ∧ Hid (Below w.heap.size w wr)) (fun _ i _ => n - (intOf i).toNat)
      case atStart => exact ⟨0, 2, Nat.zero_le _, rfl, O0.out, B2.out⟩
      case round =>
        clear O0 B2
        obtain ⟨k, et, hk, rfl, hO, hB⟩ := hrel
        by_cases hlt : k < n
        · obtain ⟨g, rfl, c1⟩ := H5.out k hlt
          obtain ⟨g', rfl, c2⟩ := HP.out k hlt
          replace c1 := cell_keep hB.out c1
          replace c2 := cell_keep hB.out c2
          have HIk := hidL0 (fun W (hW : Below wr.heap.size wr W) => DimIn.below (HIN.out k hlt _ hB.out) hW)
          obtain ⟨x, hx⟩ : ∃ x, x = vl us k := ⟨_, rfl⟩
          obtain ⟨p, hp⟩ : ∃ p, p = fi ps k := ⟨_, rfl⟩
          have HPk := hidL0 hp
          rw [← hx] at c1 HIk
          rw [← hp] at c2
          obtain ⟨r1, hr1⟩ : ∃ r, r = ansDimPower (ri rows k) p := ⟨_, rfl⟩
          obtain ⟨r2, hr2⟩ : ∃ r, r = alikeF rows ps (k + 1) := ⟨_, rfl⟩
          have HR2 := hidL0 hr2
          have C1 : Hid (∀ W : World, Below wr.heap.size wr W → Calls Try.prog 85 #[x, .int .i64 p] W fun e w' => RowP W r1 e w') := by
            intro W hW; rw [hr1]; exact sDimPower_in x (ri rows k) p W (HIk.out W hW)
          obtain ⟨o, ho⟩ : ∃ o, o = u5 := ⟨_, rfl⟩
          have C2 : Hid (∀ (W : World) (y : Value) (b : Nat) (ey : TypeId), Below wr.heap.size wr W → W.ownsRow b ey 1 y r1.length (r1.map (Value.int .i64)) → Calls Try.prog 84 #[u5, y] W fun e w' => RowP W r2 e w') := by
            intro W y b ey hW hy
            rw [hr2]
            simp only [alikeF]
            rw [← HPk.out, ← hr1]
            exact sDimTimes_any _ y _ _ _ _ _ _ W (own_below hO.out hW) hy
          have hr5 : r2.length ≤ 1000000000 := by rw [hr2]; exact alikeF_len _ _ _
          have HZ : Hid (r2.length = 0 → ansAlike rows ps = r2) := by
            intro hz
            have e1 : alikeF rows ps (k + 1) = [] := by rw [← hr2]; exact List.eq_nil_of_length_eq_zero hz
            rw [HA.out, hr2, e1]
            have := alikeF_nil e1 (n - (k + 1))
            rw [show k + 1 + (n - (k + 1)) = n by omega] at this
            exact this
          have hsz := hB.out.size
          clear hx hp hr1 hr2 ho
          go_wp2
          go_region_with (first | (go_at_call 85; refine (C1.out _ (by first | exact Below.refl _ _ | exact (Below.refl _ _).drew | exact below_drewN (Below.refl _ _) _)).mono ?_; rintro e x1 ⟨y, ey, rfl, oy, hb1⟩; have K1 : Below wr.heap.size wr x1 := Below.trans (by first | exact Below.refl _ _ | exact (Below.refl _ _).drew | exact below_drewN (Below.refl _ _) _) (hb1.mono (by simp))) | (go_at_call 84; refine (C2.out _ y _ ey (by first | exact K1 | exact K1.drew | exact below_drewN K1 _) (by first | exact oy | exact own_below oy ((Below.refl _ _).drew) | exact own_drewN oy _)).mono ?_; rintro e x2 ⟨z, ez, rfl, oz, hb2⟩; have K2 : Below wr.heap.size wr x2 := Below.trans (by first | exact K1 | exact K1.drew | exact below_drewN K1 _) (hb2.mono (by have := K1.size; simpa using this)); replace oz := own_le oz (by have h7 := K1.size; simp; exact Nat.le_trans hsz h7); obtain ⟨za, zc, rfl⟩ := own_shape oz))
          all_goals
            have OZ := hidL0 oz
            have KB := hidL0 (hB.out.trans (K2.mono hsz))
            clear oz hb1 hb2 K1 K2 oy
            by_cases hz : r2.length = 0
            · obtain rfl : r2 = [] := List.eq_nil_of_length_eq_zero hz
              have e9 := HZ.out rfl
              have OZ2 : Hid (x2.ownsRow w.heap.size ez 1 (.slice za 0 zc) 0 []) := OZ.out
              clear hz HZ HR2 C1 C2
              simp only [List.length_nil]
              go_wp2
              go_ret
              exact ⟨_, ez, rfl, by rw [e9]; exact OZ2.out, KB.out⟩
            · have hzi : ¬ ((r2.length : Nat) : Int) = 0 := by omega
              go_wp2
              go_roundw
              case rel => exact ⟨k + 1, ez, by omega, by go_num, by rw [← HR2.out]; exact OZ.out, KB⟩
              case measure => simp [intOf]; omega
        · obtain rfl : k = n := by omega
          go_wp2
          go_ret
          exact ⟨_, et, rfl, by rw [HA.out]; exact hO.out, hB.out⟩
    · rw [(no (.inr hnm)).out]
      clear no
      have hne : ((m : Int) != (n : Int)) = true := by simp; omega
      go_enter Try.func44, Try.ntmps44
      go_wp2_with fail
      refine (HDo.out _ (Below.refl _ _)).mono ?_
      rintro e w1 ⟨rfl, hb⟩
      go_wp2
      go_ret
      exact ⟨_, 2, rfl, by simpa using World.ownsRow_lit w1 (base := w.heap.size) (e := 2) (size := 1) #[] 0 hb.size (Nat.zero_le _) rfl, hb.alloc hb.size _⟩
end Go.Proofs.Ytbbkejfcheobaab

/- What the law of groups says of them, in plain numbers: each is without dimension, none is nought, and there are as many as dimensions less their rank. -/
namespace Go.Proofs.Ytbbkejfcheobaab
open Go.RowKit Go.Proofs.Ytbbkejfcheobaab.RM

theorem gdF_dvd {ps : List Fr} : ∀ n k, k < n → gdF ps n ∣ nmF ps k
  | n + 1, k, hk => by
    simp only [gdF]
    by_cases e : k = n
    · subst e; exact gcdi_dvd_r _ _
    · exact Int.dvd_trans (gcdi_dvd_l _ _) (gdF_dvd n k (by omega))
theorem lwF_len (ps : List Fr) : (lwF ps).length = ps.length := by simp [lwF]
theorem lwF_at (ps : List Fr) (k : Nat) (h : k < ps.length) : fi (lwF ps) k = (nmF ps k).tdiv (gdF ps ps.length) := by simp [fi, lwF, h]
/-- times the common divisor it is the number that was divided -/
theorem lwF_mul {ps : List Fr} (h : Small ps) {k : Nat} (hk : k < ps.length) : gdF ps ps.length * fi (lwF ps) k = nmF ps k := by
  rw [lwF_at ps k hk]
  have hg := gdF_pos h
  obtain ⟨q, hq⟩ := gdF_dvd (ps := ps) ps.length k hk
  rw [hq, Int.mul_tdiv_cancel_left _ (by omega)]
theorem lwF_small {ps : List Fr} (h : Small ps) {k : Nat} (hk : k < ps.length) : -7085880000000000 ≤ fi (lwF ps) k ∧ fi (lwF ps) k ≤ 7085880000000000 := by
  rw [lwF_at ps k hk]
  obtain ⟨n1, n2⟩ := nmF_small h hk
  have h1 := Int.natAbs_tdiv_le_natAbs (nmF ps k) (gdF ps ps.length)
  omega
/-- the numbers are the fractions times the common denominator -/
theorem nmF_rat {ps : List Fr} (h : Small ps) {k : Nat} (hk : k < ps.length) : ((nmF ps k : Int) : Rat) = (lcF ps ps.length : Int) * qf (fr ps k) := by
  obtain ⟨x, hx⟩ := den_lcF h ps.length k hk (Nat.le_refl _)
  have hd := h.den k hk
  have e : nmF ps k = x * (fr ps k).1 := by
    unfold nmF
    rw [hx, Int.mul_tdiv_cancel_left _ (by omega)]
  have hd0 : (((fr ps k).2 : Int) : Rat) ≠ 0 := by
    intro h0
    have := Rat.intCast_eq_zero_iff.1 h0
    omega
  rw [e, hx, Rat.intCast_mul, Rat.intCast_mul]
  unfold qf
  rw [Rat.divInt_eq_div]
  grind
theorem buck_facts {L : List (List Int)} (hd : dimsB L = true) (h : echO (dimT L) = true) (i : Nat) (hi : i < (kerA (dimT L)).length) :
    (lwF (rw' (kerA (dimT L)) i)).length = L.length ∧ (∀ k, k < L.length → -7085880000000000 ≤ fi (lwF (rw' (kerA (dimT L)) i)) k ∧ fi (lwF (rw' (kerA (dimT L)) i)) k ≤ 7085880000000000) ∧
    (∀ n, n < 5 → sumI (fun k => fi (lwF (rw' (kerA (dimT L)) i)) k * fi (ri L k) n) L.length = 0) ∧ ∃ k, k < L.length ∧ fi (lwF (rw' (kerA (dimT L)) i)) k ≠ 0 := by
  obtain ⟨hS, hl⟩ := ker_small hd h i hi
  obtain ⟨s1, s2⟩ := dimT_shape L
  have hL : (rw' (dimT L) 0).length = L.length := (s2 0 (by omega)).1
  have hz : ∀ n, n < 5 → sumN (fun j => mv (dimT L) n j * qf (fr (rw' (kerA (dimT L)) i) j)) L.length = 0 := by
    intro n hn
    have hi2 := hi
    rw [kerA_yes h, List.length_map] at hi2
    obtain ⟨hm1, hm2⟩ := freeC_mem.1 (List.getElem_mem hi2)
    have e : rw' (kerA (dimT L)) i = kerRow (echR (dimT L)) (echC (dimT L)) (rw' (dimT L) 0).length (freeC (rw' (dimT L) 0).length (echC (dimT L)))[i] := by
      rw [kerA_yes h]
      show (List.map _ _)[i]?.getD [] = _
      rw [List.getElem?_map, List.getElem?_eq_getElem hi2]
      rfl
    rw [e, ← hL]
    exact ker_solves h hm1 hm2 n (by omega)
  obtain ⟨ps, hps⟩ : ∃ ps, ps = rw' (kerA (dimT L)) i := ⟨_, rfl⟩
  rw [← hps] at hS hl hz ⊢
  refine ⟨by rw [lwF_len, hl], fun k hk => lwF_small hS (by omega), fun n hn => ?_, ?_⟩
  · have h1 : sumI (fun k => nmF ps k * fi (ri L k) n) L.length = 0 := by
      have h2 : ((sumI (fun k => nmF ps k * fi (ri L k) n) L.length : Int) : Rat) = 0 := by
        rw [sum_cast]
        have h3 : sumN (fun j => ((nmF ps j * fi (ri L j) n : Int) : Rat)) L.length = sumN (fun j => ((lcF ps ps.length : Int) : Rat) * (mv (dimT L) n j * qf (fr ps j))) L.length := by
          refine sumN_congr fun j hj => ?_
          have e1 : mv (dimT L) n j = ((fi (ri L j) n : Int) : Rat) := by
            unfold mv
            rw [(s2 n hn).2 j hj, qf_int]
          rw [e1, Rat.intCast_mul, nmF_rat hS (by omega)]
          grind
        rw [h3, sumN_mulL, hz n hn]
        grind
      exact Rat.intCast_eq_zero_iff.1 h2
    have h4 : sumI (fun k => nmF ps k * fi (ri L k) n) L.length = gdF ps ps.length * sumI (fun k => fi (lwF ps) k * fi (ri L k) n) L.length := by
      rw [← sumI_mul]
      refine sumI_congr fun j hj => ?_
      rw [← Int.mul_assoc, lwF_mul hS (by omega)]
    rw [h4] at h1
    have hg := gdF_pos hS
    rcases Int.mul_eq_zero.1 h1 with h5 | h5
    · omega
    · exact h5
  · obtain ⟨k, hk, hne⟩ := hS.one
    refine ⟨k, by omega, fun h0 => nmF_ne hS hk hne ?_⟩
    rw [← lwF_mul hS hk, h0, Int.mul_zero]
theorem buck_count {L : List (List Int)} (h : echO (dimT L) = true) : (kerA (dimT L)).length + (echC (dimT L)).length = L.length := by
  have h1 := rank_ker h
  have hL : (rw' (dimT L) 0).length = L.length := ((dimT_shape L).2 0 (by omega)).1
  omega
/-- the sum as far as it goes is small -/
theorem buck_part {L : List (List Int)} {r : List Int} (hd : dimsB L = true) (hr : ∀ k, k < L.length → -7085880000000000 ≤ fi r k ∧ fi r k ≤ 7085880000000000) (n : Nat) (hn : n < 5) (k : Nat) (hk : k ≤ L.length) : (sumI (fun k => fi r k * fi (ri L k) n) k).natAbs ≤ 382637520000000000 := by
  obtain ⟨hd1, hd2⟩ := dimsB_out hd
  have := sumI_abs (fun k => fi r k * fi (ri L k) n) 63772920000000000 k (fun j hj => by
    have h1 := hr j (by omega)
    have h2 := (dim_at (hd2 j (by omega))).2 n hn
    rw [Int.natAbs_mul]
    have h3 : (fi r j).natAbs ≤ 7085880000000000 := by omega
    have h4 : (fi (ri L j) n).natAbs ≤ 9 := by unfold fi; omega
    exact Nat.mul_le_mul h3 h4)
  have h6 : k * 63772920000000000 ≤ 6 * 63772920000000000 := Nat.mul_le_mul_right _ (by omega)
  omega
end Go.Proofs.Ytbbkejfcheobaab

/- The walk of the law FnBuckingham. -/
namespace Go.Proofs.Ytbbkejfcheobaab
open Go.RowKit Go.Proofs.Ytbbkejfcheobaab.RM

theorem hidB {p : Prop} (h : p) : Hid p := h
theorem grA_fits (L : List (List Int)) : (grA L).length ≤ 1048576 ∧ ∀ i, i < (grA L).length → (ri (grA L) i).length ≤ 1048576 := by
  cases h : grO L with
  | false => rw [grA_no h]; exact ⟨by simp, fun i hi => absurd hi (Nat.not_lt_zero _)⟩
  | true =>
    rw [grA_yes h]
    obtain ⟨k1, k2⟩ := kerA_small (dimT L)
    rw [List.length_map]
    refine ⟨k1, fun i hi => ?_⟩
    have e : ri ((kerA (dimT L)).map lwF) i = lwF (rw' (kerA (dimT L)) i) := by simp [ri, rw', hi]
    rw [e]
    have := k2 i hi
    simp only [lwF, List.length_map, List.length_range]
    exact this
/-- whether one of the first k numbers is not 0 -/
def sm (r : List Int) : Nat → Bool
  | 0 => false
  | k + 1 => sm r k || decide (fi r k ≠ 0)
theorem sm_yes {r : List Int} {k : Nat} (hn : fi r k ≠ 0) : ∀ n, k < n → sm r n = true
  | n + 1, h => by
    simp only [sm]
    by_cases e : k = n
    · subst e; rw [decide_eq_true hn, Bool.or_true]
    · rw [sm_yes hn n (by omega), Bool.true_or]

set_option maxRecDepth 100000 in
set_option maxHeartbeats 8000000 in
theorem lawBuck (a0 : Option Addr) (len cap : Nat) (zs : List Int) (w : World) (hr : IsRow .u8 w a0 len cap zs) :
    Calls Try.prog 6 #[.slice a0 len cap] w fun e w' => e = .returned (.bool true) ∧ Below w.heap.size w w' := by
  obtain ⟨i1, ji, jz0, jz1, jz2⟩ := info_parts infoF
  obtain ⟨i2, ki, kz0, kz1, kz2⟩ := info_parts infoT
  have b0 : ∀ (u : World) (o : Obj), Below u.heap.size u (u.alloc o) := fun u o => (Below.refl _ _).alloc (Nat.le_refl _) o
  by_cases hl : 4096 < (len : Int)
  · have hbig : decide (4096 < (len : Int)) = true := decide_eq_true hl
    clear hl hr
    go_enter Try.func6, Try.ntmps6
    go_wp2_with fail
    refine (big_any _ _ _ _).mono ?_
    rintro e w1 ⟨rfl, hw⟩
    obtain rfl := hw.symm
    go_wp2
    go_ret
    exact ⟨rfl, Below.refl _ _⟩
  have hbig : decide (4096 < (len : Int)) = false := decide_eq_false hl
  have HR := hidB hr
  clear hl hr
  go_enter Try.func6, Try.ntmps6
  go_wp2_with fail
  refine (big_any _ _ _ _).mono ?_
  rintro e w0 ⟨rfl, hw⟩
  obtain rfl := hw.symm
  clear hw
  go_wp2_with fail
  refine (dGroups_any a0 len cap zs _ HR.out).mono ?_
  rintro e w1 ⟨v, us, L, rfl, hL6, hT, hb⟩
  have HL := hidB hT.rd
  have HB := hidB hb
  replace HR := hidB (HR.out.below hb)
  clear hT hb hbig
  obtain ⟨q, hq⟩ : ∃ q, q = grO L := ⟨_, rfl⟩
  obtain ⟨G, hG⟩ : ∃ G, G = grA L := ⟨_, rfl⟩
  have HQ := hidB hq
  have HG := hidB hG
  have IG : Hid (∀ W : World, RdD W v us L → Calls Try.prog 38 #[v] W fun e w' => ∃ u vs, e = .returned (.tuple #[u, .bool q]) ∧ TabI w' W.heap.size u vs G ∧ Below W.heap.size W w') := by
    intro W h; rw [hq, hG]; exact iGroups_any v us L W h
  have SG : Hid (∀ W : World, RdD W v us L → Calls Try.prog 40 #[v] W fun e w' => ∃ u vs, e = .returned (.tuple #[u, .bool q]) ∧ TabI w' W.heap.size u vs G ∧ Below W.heap.size W w') := by
    intro W h; rw [hq, hG]; exact sGroups_any v us L W h
  have GF : Hid (G.length ≤ 1048576 ∧ ∀ i, i < G.length → (ri G i).length ≤ 1048576) := by show _ ∧ _; rw [hG]; exact grA_fits L
  clear hq hG
  go_wp2_with fail
  refine (IG.out _ HL.out).mono ?_
  rintro e w2 ⟨g, gs, rfl, t, hb⟩
  have TG := hidB t
  replace HL := hidB (HL.out.below hb)
  replace HR := hidB (HR.out.below hb)
  replace HB := hidB (HB.out.trans (hb.mono HB.out.size))
  clear t hb IG
  go_wp2_with fail
  refine (dAlike_any a0 len cap zs _ HR.out).mono ?_
  rintro e w3 ⟨va, ua, R, vp, ps, rfl, hR6, hT, hP, hb⟩
  have HA := hidB hT.rd
  have HP := hidB hP
  replace TG := hidB (TG.out.below hb)
  replace HL := hidB (HL.out.below hb)
  replace HB := hidB (HB.out.trans (hb.mono HB.out.size))
  clear hT hP hb HR hR6
  go_wp2_with fail
  refine (SG.out _ HL.out).mono ?_
  rintro e w4 ⟨x, xs, rfl, t, hb⟩
  have TX := hidB t
  replace TG := hidB (TG.out.below hb)
  replace HL := hidB (HL.out.below hb)
  replace HA := hidB (HA.out.below hb)
  replace HP := hidB (own_below HP.out hb)
  replace HB := hidB (HB.out.trans (hb.mono HB.out.size))
  clear t hb SG
  obtain ⟨rs, hrs⟩ : ∃ rs, rs = ansAlike R ps := ⟨_, rfl⟩
  have hrl : rs.length ≤ 1000000000 := by rw [hrs]; exact ansAlike_len R ps
  have AI : Hid (∀ W : World, RdD W va ua R → W.ownsRow w2.heap.size 2 1 vp ps.length (ps.map (Value.int .i64)) → Calls Try.prog 43 #[va, vp] W fun e w' => RowP W rs e w') := by
    intro W h1 h2; rw [hrs]; exact iAlike_any va vp ua R ps _ _ W h1 h2
  have AS : Hid (∀ W : World, RdD W va ua R → W.ownsRow w2.heap.size 2 1 vp ps.length (ps.map (Value.int .i64)) → Calls Try.prog 44 #[va, vp] W fun e w' => RowP W rs e w') := by
    intro W h1 h2; rw [hrs]; exact sAlike_any va vp ua R ps _ _ W h1 h2
  have hqq : (q != q) = false := by simp
  clear hrs
  go_wp2_with fail
  refine (likeG_any g x gs xs _ _ G _ GF.out.1 GF.out.2 TG.out TX.out).mono ?_
  rintro e w5 ⟨rfl, hb⟩
  replace TG := hidB (TG.out.below hb)
  replace HL := hidB (HL.out.below hb)
  replace HA := hidB (HA.out.below hb)
  replace HP := hidB (own_below HP.out hb)
  replace HB := hidB (HB.out.trans (hb.mono HB.out.size))
  clear hb TX
  go_wp2_with fail
  refine (AI.out _ HA.out HP.out).mono ?_
  rintro e w6 ⟨y1, e1, rfl, t, hb⟩
  have Y1 := hidB t
  replace TG := hidB (TG.out.below hb)
  replace HL := hidB (HL.out.below hb)
  replace HA := hidB (HA.out.below hb)
  replace HP := hidB (own_below HP.out hb)
  replace HB := hidB (HB.out.trans (hb.mono HB.out.size))
  clear hb t AI
  go_wp2_with fail
  refine (AS.out _ HA.out HP.out).mono ?_
  rintro e w7 ⟨y2, e2, rfl, t, hb⟩
  have Y2 := hidB t
  replace Y1 := hidB (own_below Y1.out hb)
  replace TG := hidB (TG.out.below hb)
  replace HL := hidB (HL.out.below hb)
  replace HB := hidB (HB.out.trans (hb.mono HB.out.size))
  clear hb t AS HA HP
  go_wp2_with fail
  have hlk := likeI_any y1 y2 rs rs _ _ _ _ _ hrl hrl Y1.out Y2.out
  rw [decide_eq_true rfl] at hlk
  refine hlk.mono ?_
  rintro e w8 ⟨rfl, hb⟩
  replace TG := hidB (TG.out.below hb)
  replace HL := hidB (HL.out.below hb)
  replace HB := hidB (HB.out.trans (hb.mono HB.out.size))
  clear hb hlk Y1 Y2 hqq
  obtain ⟨wq, hwq⟩ : ∃ V, V = w8 := ⟨_, rfl⟩
  subst hwq
  obtain ⟨ga, gc, rfl⟩ := own_shape TG.out.outer
  cases q
  · have hG0 : G = [] := by rw [HG.out]; exact grA_no HQ.out.symm
    have hgl : gs.length = 0 := by rw [TG.out.len, hG0]; rfl
    rw [hgl]
    clear TG HL
    go_wp2
    go_ret
    exact ⟨rfl, HB.out⟩
  have hgo : dimsB L = true ∧ echO (dimT L) = true := by
    have := HQ.out.symm
    unfold grO at this
    rw [Bool.and_eq_true] at this
    exact this
  have HGO := hidB hgo
  obtain ⟨hd1, hd2⟩ := dimsB_out hgo.1
  obtain ⟨n, hn⟩ : ∃ n, n = L.length := ⟨_, rfl⟩
  have HN := hidB hn
  obtain ⟨M, hM⟩ : ∃ M, M = dimT L := ⟨_, rfl⟩
  have HM := hidB hM
  have hML : M.length = 5 := by rw [hM]; exact (dimT_shape L).1
  have HML := hidB hML
  obtain ⟨K, hK⟩ : ∃ K, K = kerA M := ⟨_, rfl⟩
  obtain ⟨kn, hkn⟩ : ∃ k, k = K.length := ⟨_, rfl⟩
  have hGK : G = K.map lwF := by rw [HG.out, grA_yes HQ.out.symm, hK, hM]
  have hgl : gs.length = kn := by rw [TG.out.len, hGK, hkn, List.length_map]
  have hcnt : kn + (echC M).length = n := by rw [hkn, hK, hn, hM]; exact buck_count hgo.2
  have HRK : Hid (rkI M = (n : Int) - (kn : Int)) := by
    show _ = _
    unfold rkI
    rw [if_pos (by rw [hM]; exact hgo.2)]
    omega
  have HF : Hid (∀ k, k < kn → (ri G k).length = n ∧ (∀ j, j < n → -7085880000000000 ≤ fi (ri G k) j ∧ fi (ri G k) j ≤ 7085880000000000) ∧ (∀ m, m < 5 → sumI (fun j => fi (ri G k) j * fi (ri L j) m) n = 0) ∧ ∃ j, j < n ∧ fi (ri G k) j ≠ 0) := by
    intro k hk
    have e : ri G k = lwF (rw' (kerA (dimT L)) k) := by
      have hk2 : k < K.length := by omega
      rw [hGK, ← hM, ← hK]
      simp [ri, rw', hk2]
    rw [e, hn]
    exact buck_facts hgo.1 hgo.2 k (by rw [← hM, ← hK]; omega)
  have HIN : Hid (∀ k, k < n → ∃ g c, vl us k = .slice (some ⟨g, 0, none⟩) 5 c ∧ ∀ j, j < 5 → wq.cell? ⟨g, j, none⟩ = some (.int .i64 (fi (ri L k) j))) := by
    intro k hk
    have h5 := (dim_at (hd2 k (by omega))).1
    obtain ⟨base, et, hin⟩ := (HL.out.inner k (by omega)).five h5
    rw [h5] at hin
    obtain ⟨g, c, e⟩ := own_some hin (by omega)
    rw [e] at hin ⊢
    exact ⟨g, c, rfl, fun j hj => own_int hin h5 j hj⟩
  have HD9 : Hid (∀ k, k < n → ∀ j, j < 5 → (fi (ri L k) j).natAbs ≤ 9) := by
    intro k hk j hj
    have h2 := (dim_at (hd2 k (by omega))).2 j hj
    unfold fi; omega
  have HGI : Hid (∀ k, k < kn → ∃ gb y c, ga = some ⟨gb, 0, none⟩ ∧ wq.cell? ⟨gb, k, none⟩ = some (.slice (some ⟨y, 0, none⟩) n c) ∧ ∀ j, j < n → wq.cell? ⟨y, j, none⟩ = some (.int .i64 (fi (ri G k) j))) := by
    intro k hk
    obtain ⟨gb, cc, e⟩ := own_some TG.out.outer (by omega)
    cases e
    have d1 := TG.out.outer.cellAt k (by omega)
    rw [List.getElem?_eq_getElem (by omega), show gs[k] = vl gs k by simp [vl, List.getElem?_eq_getElem (show k < gs.length by omega)]] at d1
    have hin := TG.out.inner k (by omega)
    have hl := (HF.out k hk).1
    rw [hl] at hin
    obtain ⟨y, c, e⟩ := own_some hin (by omega)
    rw [e] at hin d1
    exact ⟨gb, y, c, rfl, d1, fun j hj => own_int hin hl j hj⟩
  obtain ⟨a, c, rfl, hv⟩ := HL.out.vals
  rw [← hn] at hv ⊢
  rw [hgl]
  have hn6 : n ≤ 6 := by omega
  have hn1 : 1 ≤ n := by omega
  have hkn6 : kn ≤ n := by omega
  have H5 := hidB hv
  clear hd1 hd2 hn hM hK hkn hGK hgl hcnt hv TG HL hL6 hML hgo HG HQ GF
  go_upto_region 12 with fail
  obtain ⟨S1, hS1⟩ : ∃ S, S = wq.heap.size := ⟨_, rfl⟩
  obtain ⟨X1, hX1⟩ : ∃ X, X = wq.alloc (.cells #[] 44) := ⟨_, rfl⟩
  have T0 : Hid (Tab X1 S1 (.slice (some ⟨S1, 0, none⟩) 0 0) [] []) := by show Tab _ _ _ _ _; rw [hX1, hS1]; exact Tab.lit (Nat.le_refl _)
  have BX : Hid (Below wq.heap.size wq X1) := by show Below _ _ _; rw [hX1]; exact b0 _ _
  have hS1x : S1 ≤ X1.heap.size := by rw [hX1, hS1]; simp
  have HS1 := hidB hS1
  rw [← hX1, ← hS1]
  clear hX1 hS1
  go_wp2
  go_loopw [10, 11] (fun g i wr => ∃ (o : Value) (k : Nat) (ws : List Value), o = g ∧ k ≤ 5 ∧ i = .int .i64 k ∧ Hid (ws.length = k) ∧ Hid (Tab wr S1 o ws (M.take k)) ∧ Hid (Below wq.heap.size wq wr) ∧ Hid (S1 ≤ wr.heap.size)) (fun _ i _ => 5 - (intOf i).toNat)
  case atStart => exact ⟨_, 0, [], rfl, by omega, rfl, rfl, T0.out, BX.out, hS1x⟩
  case round =>
    clear T0 BX hS1x
    obtain ⟨o, k, ws, rfl, hk, rfl, hws, hT, hX, hS1x⟩ := hrel
    by_cases hlt : k < 5
    · obtain ⟨Wr, hVV⟩ : ∃ V, V = wr := ⟨_, rfl⟩
      subst hVV
      obtain ⟨Sr, hSr⟩ : ∃ S, S = Wr.heap.size := ⟨_, rfl⟩
      have HSR := hidB hSr
      obtain ⟨V, hV⟩ : ∃ V, V = Wr.alloc (.cells #[] 25) := ⟨_, rfl⟩
      have r0 : Hid (V.ownsRow Sr 25 2 (.slice (some ⟨Sr, 0, none⟩) 0 0) 0 (cellsR (dimP L k 0))) := by
        show World.ownsRow _ _ _ _ _ _ _
        rw [hV, hSr]; exact World.ownsRow_lit Wr (base := Wr.heap.size) (e := 25) (size := 2) #[] 0 (Nat.le_refl _) (Nat.zero_le _) rfl
      have BV : Hid (Below Sr Wr V) := by show Below _ _ _; rw [hV, hSr]; exact b0 _ _
      have hSV : Sr ≤ V.heap.size := by rw [hV, hSr]; simp
      have hqX : wq.heap.size ≤ Sr := by have := hX.out.size; omega
      have hk5 : decide ((k : Int) < 5) = true := by simp; omega
      go_upto_region 16 with fail
      rw [← hV, ← hSr]
      clear hV hSr
      go_wp2
      go_loopw [12, 13] (fun g i wz => ∃ (r : Value) (j : Nat), r = g ∧ j ≤ n ∧ i = .int .i64 j ∧ Hid (wz.ownsRow Sr 25 2 r j (cellsR (dimP L k j))) ∧ Hid (Below Sr Wr wz) ∧ Hid (Sr ≤ wz.heap.size)) (fun _ i _ => n - (intOf i).toNat)
      case atStart => exact ⟨_, 0, rfl, Nat.zero_le _, rfl, r0.out, BV.out, hSV⟩
      case round =>
        clear r0 BV hSV
        obtain ⟨r, j, rfl, hj, rfl, hO, hZ, hsz⟩ := hrel
        have hsz := hsz.out
        have BZ : Hid (Below wq.heap.size wq wr) := hX.out.trans (hZ.out.mono hqX)
        by_cases hjn : j < n
        · obtain ⟨g, cg, ed, hd⟩ := HIN.out j hjn
          obtain ⟨g1, e1, c1⟩ := H5.out j hjn
          subst e1
          rw [ed] at c1
          have d1 := cell_keep BZ.out (hd k hlt)
          replace c1 := cell_keep BZ.out c1
          obtain ⟨p, hp⟩ : ∃ p, p = fi (ri L j) k := ⟨_, rfl⟩
          have HP := hidB hp
          rw [← hp] at d1
          obtain ⟨ra, rc, rfl⟩ := own_shape hO.out
          clear hd ed hp
          have hj7 : j + 1 ≤ maxLen := by unfold maxLen; omega
          go_wp2_with fail
          refine (whole_any _ _).mono ?_
          rintro e w5 ⟨rfl, hw⟩
          have hbw : Below wr.heap.size wr w5 := by rw [hw]; exact b0 _ _
          have O5 := hidB (own_below hO.out hbw)
          have Z5 := hidB (hZ.out.trans (hbw.mono hsz))
          have hs5 : Sr ≤ w5.heap.size := by have := hbw.size; omega
          clear hw hbw hO hZ BZ d1 c1 hsz
          go_wp2_with (at_builtin; refine wpList_append_own _ rfl _ _ 44 rfl Sr 25 i1 (.agg #[.int .i64 0, .int .i64 0]) 2 16 Try.underlying44 ji jz0 jz1 jz2 rfl (by decide) _ _ _ rfl (World.ownsRow.alloc O5.out _) ⟨_, 0, none⟩ 1 1 [.int .i64 p, .int .i64 1] rfl rfl (cell_twoF _ _ _ _) (by intro u hu; simp at hu; rcases hu with rfl | rfl <;> rfl) hj7 (by omega) (by simp; omega) ?_; intro v' w6 hown' hgrow _)
          go_roundw
          case rel =>
            refine ⟨v', j + 1, rfl, by omega, by go_num, ?_, Z5.out.trans (below_appended O5.out hs5 hgrow), ?_⟩
            · show World.ownsRow _ _ _ _ _ _ _
              rw [dimP_more, cellsR_append, ← HP.out]
              exact hown'
            · show _ ≤ _
              have := hgrow.size; simp at this; omega
          case measure => simp [intOf]; omega
        · obtain rfl : j = n := by omega
          obtain ⟨ra, rc, rfl⟩ := own_shape hO.out
          have T2 : Hid (Tab wr S1 o ws (M.take k)) := Tab.below hT.out (by rw [← HSR.out]; exact hZ.out)
          obtain ⟨oa, oc, rfl⟩ := own_shape T2.out.outer
          have hwl0 : ws.length + 1 ≤ 6 := by rw [hws.out]; omega
          have hwl : ws.length + 1 ≤ maxLen := by unfold maxLen; omega
          go_wp2_with (at_builtin; refine wpList_append_own _ rfl _ _ 33 rfl S1 44 i2 (.slice none 0 0) 1 24 Try.underlying33 ki kz0 kz1 kz2 rfl (by decide) _ _ _ rfl (World.ownsRow.alloc T2.out.outer _) ⟨wr.heap.size, 0, none⟩ 1 1 [.slice ra j rc] rfl rfl (cell_one_new _ _ _) (by simp [Value.oneCell']) hwl (by omega) (by have := hS1x.out; have := HSR.out; simp; omega) ?_; intro v' w5 hown' hgrow _)
          go_roundw
          case rel =>
            have hS1r : S1 ≤ Sr := by have := hS1x.out; have := HSR.out; omega
            have T5 := T2.out.append (ps := dimP L k j) (u := .slice ra j rc) (by rw [dimP_len]; exact own_le hO.out hS1r) (fun i hi b e h2 => by
              have h1 := hT.out.lt i hi b e
              have h3 := (hO.out.lt b h2).1
              have := HSR.out
              omega) hown' hgrow
            have et : M.take (k + 1) = M.take k ++ [dimP L k j] := by rw [HM.out, HN.out]; exact dimT_take L k hlt
            have BA := below_appended T2.out.outer (by omega) hgrow
            refine ⟨_, k + 1, ws ++ [.slice ra j rc], rfl, by omega, by go_num, ?_, ?_, ?_, ?_⟩
            · show _ = _
              rw [List.length_append, hws.out]; rfl
            · show Tab _ _ _ _ _
              rw [et]; exact T5
            · show Below _ _ _
              exact BZ.out.trans (BA.mono (by rw [HS1.out]; exact Nat.le_refl _))
            · show _ ≤ _
              have := BA.size; omega
          case measure => simp [intOf]; omega
    · obtain rfl : k = 5 := by omega
      have hT5 : Tab wr S1 o ws M := by have := hT.out; rw [← HML.out, List.take_length] at this; exact this
      have HRD := hidB (Tab.read hT5)
      have HRn := hidB (sRank_any o M wr HRD.out)
      obtain ⟨rk, hrk⟩ : ∃ r, r = rkI M := ⟨_, rfl⟩
      have hrk2 : rk = (n : Int) - (kn : Int) := by rw [hrk]; exact HRK.out
      rw [← hrk] at HRn
      clear hT hT5 hlt hk hrk
      subst hrk2
      go_wp2_with fail
      refine HRn.out.mono ?_
      rintro e w6 ⟨rfl, hb6⟩
      have B6 := hidB (hX.out.trans (hb6.mono hX.out.size))
      clear hb6 HRn HRD hX hS1x HS1
      have hsub : (n : Int) - ((n : Int) - (kn : Int)) = (kn : Int) := by omega
      have hne : ((kn : Int) != (kn : Int)) = false := by simp
      go_wp2
      go_loopw [14] (fun i wr => ∃ k : Nat, k ≤ kn ∧ i = .int .i64 k ∧ Hid (Below wq.heap.size wq wr)) (fun i _ => kn - (intOf i).toNat)
      case atStart => exact ⟨0, Nat.zero_le _, rfl, B6.out⟩
      case round =>
        clear B6
        obtain ⟨k, hk, rfl, hB⟩ := hrel
        by_cases hkk : k < kn
        · obtain ⟨gb, y, cy, rfl, g1, g2⟩ := HGI.out k hkk
          obtain ⟨-, f1, f2, ⟨j0, f3, f4⟩⟩ := HF.out k hkk
          obtain ⟨r, hr⟩ : ∃ r, r = ri G k := ⟨_, rfl⟩
          rw [← hr] at g2 f1 f2 f4
          have HG1 := hidB g1
          have HG2 := hidB g2
          have HF1 := hidB f1
          have HF2 := hidB f2
          have hsm : sm r n = true := sm_yes f4 n f3
          have HSM := hidB hsm
          have hkk2 : decide ((k : Int) < kn) = true := by simp; omega
          clear g1 g2 f1 f2 f3 f4 hr hsm
          go_wp2
          go_loopw [15, 16] (fun b i wr => ∃ m : Nat, m ≤ 5 ∧ i = .int .i64 m ∧ b = .bool (decide (0 < m)) ∧ Hid (Below wq.heap.size wq wr)) (fun _ i _ => 5 - (intOf i).toNat)
          case atStart => exact ⟨0, by omega, rfl, rfl, hB⟩
          case round =>
            clear hB
            obtain ⟨m, hm, rfl, rfl, hB⟩ := hrel
            by_cases hm5 : m < 5
            · obtain ⟨b1, hb1⟩ : ∃ b, b = decide (0 < m) := ⟨_, rfl⟩
              have HB1 := hidB hb1
              rw [← hb1]
              clear hb1
              have hmm : decide ((m : Int) < 5) = true := by simp; omega
              go_wp2
              go_loopw [15, 17, 18] (fun b t i wr => ∃ j : Nat, j ≤ n ∧ i = .int .i64 j ∧ b = .bool (b1 || sm r j) ∧ t = .int .i64 (sumI (fun j => fi r j * fi (ri L j) m) j) ∧ Hid (Below wq.heap.size wq wr)) (fun _ _ i _ => n - (intOf i).toNat)
              case atStart => exact ⟨0, Nat.zero_le _, rfl, by simp [sm], rfl, hB⟩
              case round =>
                clear hB
                obtain ⟨j, hj, rfl, rfl, rfl, hB⟩ := hrel
                by_cases hjn : j < n
                · obtain ⟨gl, cl, ed, hd⟩ := HIN.out j hjn
                  obtain ⟨g2, e1, c1⟩ := H5.out j hjn
                  subst e1
                  rw [ed] at c1
                  have d1 := cell_keep hB.out (hd m hm5)
                  replace c1 := cell_keep hB.out c1
                  have c2 := cell_keep hB.out HG1.out
                  have d2 := cell_keep hB.out (HG2.out j hjn)
                  have hs0 := buck_part HGO.out.1 (r := r) (by rw [← HN.out]; exact HF1.out) m hm5 j (by rw [← HN.out]; omega)
                  have hs1 := buck_part HGO.out.1 (r := r) (by rw [← HN.out]; exact HF1.out) m hm5 (j + 1) (by rw [← HN.out]; omega)
                  have hstep : sumI (fun j => fi r j * fi (ri L j) m) (j + 1) = sumI (fun j => fi r j * fi (ri L j) m) j + fi r j * fi (ri L j) m := rfl
                  have hsmj : sm r (j + 1) = (sm r j || decide (fi r j ≠ 0)) := rfl
                  obtain ⟨s0, hs0e⟩ : ∃ s, s = sumI (fun j => fi r j * fi (ri L j) m) j := ⟨_, rfl⟩
                  obtain ⟨s1, hs1e⟩ : ∃ s, s = sumI (fun j => fi r j * fi (ri L j) m) (j + 1) := ⟨_, rfl⟩
                  obtain ⟨x1, hx1⟩ : ∃ s, s = fi r j := ⟨_, rfl⟩
                  obtain ⟨x2, hx2⟩ : ∃ s, s = fi (ri L j) m := ⟨_, rfl⟩
                  rw [← hs0e] at hs0 hstep ⊢
                  rw [← hs1e] at hs1 hstep
                  rw [← hx1] at d2 hstep hsmj
                  rw [← hx2] at d1 hstep
                  have hw1 : wrap64 (x1 * x2) = x1 * x2 := by unfold wrap64; omega
                  have hval : wrap64 (s0 + wrap64 (x1 * x2)) = s1 := by rw [hw1, hstep]; unfold wrap64; omega
                  have hval2 : wrap64 (s0 + x1 * x2) = s1 := by rw [hw1] at hval; exact hval
                  have hval3 : s0 + x1 * x2 = s1 := hstep.symm
                  have hval4 : wrap64 s1 = s1 := by unfold wrap64; omega
                  obtain ⟨bb, hbb⟩ : ∃ b, b = (b1 || sm r j) := ⟨_, rfl⟩
                  have HBB : Hid ((b1 || sm r (j + 1)) = (bb || decide (x1 ≠ 0))) := by show _ = _; rw [hsmj, hbb, Bool.or_assoc]
                  have HS1E := hidB hs1e
                  rw [← hbb]
                  clear hd ed hs0 hs1 hstep hsmj hs0e hs1e hx1 hx2 hbb
                  go_upto_region 34 with fail
                  go_region
                  all_goals first | rw [hval4] | rw [hval] | rw [hval2] | rw [hval3]
                  have B5 : Below wr.heap.size wr wr.drew := (Below.refl _ _).drew
                  replace c2 := cell_keep B5 c2
                  replace d2 := cell_keep B5 d2
                  have Z5 : Hid (Below wq.heap.size wq wr.drew) := hB.out.trans (B5.mono hB.out.size)
                  clear B5 hB c1 d1 hw1 hval hval2 hval3 hval4
                  generalize wr.drew = X5 at c2 d2 Z5 ⊢
                  cases bb
                  · by_cases hx0 : x1 = 0
                    · subst hx0
                      go_wp2
                      go_roundw
                      case rel => exact ⟨j + 1, by omega, by go_num, by rw [HBB.out]; rfl, by rw [HS1E.out], Z5.out⟩
                      case measure => simp [intOf]; omega
                    · have hx9 : (x1 != 0) = true := by simpa using hx0
                      have hx8 : decide (x1 ≠ 0) = true := decide_eq_true hx0
                      go_wp2
                      go_roundw
                      case rel => exact ⟨j + 1, by omega, by go_num, by rw [HBB.out, hx8]; rfl, by rw [HS1E.out], Z5.out⟩
                      case measure => simp [intOf]; omega
                  · go_wp2
                    go_roundw
                    case rel => exact ⟨j + 1, by omega, by go_num, by rw [HBB.out]; rfl, by rw [HS1E.out], Z5.out⟩
                    case measure => simp [intOf]; omega
                · obtain rfl : j = n := by omega
                  rw [HF2.out m hm5, HSM.out, Bool.or_true]
                  go_wp2
                  go_roundw
                  case rel => exact ⟨m + 1, by omega, by go_num, by simp, hB⟩
                  case measure => simp [intOf]; omega
            · obtain rfl : m = 5 := by omega
              have h05 : decide (0 < 5) = true := by decide
              rw [h05]
              go_wp2
              go_roundw
              case rel => exact ⟨k + 1, by omega, by go_num, hB⟩
              case measure => simp [intOf]; omega
        · obtain rfl : k = kn := by omega
          go_wp2
          go_ret
          exact ⟨rfl, HB.out.trans (hB.out.mono HB.out.size)⟩
end Go.Proofs.Ytbbkejfcheobaab
