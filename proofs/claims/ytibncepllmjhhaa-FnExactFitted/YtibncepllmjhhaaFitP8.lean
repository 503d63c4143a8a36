/- The walk of the program's Fitted: rows that overlap in one list of sums. -/
import Derived.Test.YtibncepllmjhhaaPk1
import Derived.Test.YtibncepllmjhhaaPk3
namespace Go.Proofs.Ytibncepllmjhhaa
open Go.RowKit Go.Proofs.Ytibncepllmjhhaa.RM

theorem ret_tb11 {v : Value} {a b : Bool} (h : a = b) : Ending.returned (.tuple #[v, .bool a]) = .returned (.tuple #[v, .bool b]) := by rw [h]
theorem infoT11 : (Try.prog.info? 36).map (fun i => (i.zero, i.size, i.bytes)) = some (some (.slice none 0 0), 1, 24) := by kernel_rfl
/-- the rows can be read -/
theorem rows_read {W : World} {base base' g gr n c cr : Nat} {ss : List Sp} {xs : List Value} (hn : n ≤ 900) (hs : W.ownsRow base 33 2 (.slice (some ⟨g, 0, none⟩) (2 * n - 1) c) (2 * n - 1) (cellsR (smsL oneF ss (2 * n - 1))))
    (hr : W.ownsRow base' 36 1 (.slice (some ⟨gr, 0, none⟩) n cr) n xs) (hnc : n ≤ cr) (hcr : cr ≤ maxLen) (hx : ∀ j, j < n → ∃ k, xs[j]? = some (.slice (some ⟨g, j * 2, none⟩) n k) ∧ n ≤ k ∧ k ≤ maxLen) : RdT W (.slice (some ⟨gr, 0, none⟩) n cr) (prgT ss n) := by
  have hm : n ≤ maxLen := by unfold maxLen; omega
  refine ⟨_, _, by rw [prgT_len], by rw [prgT_len]; exact hm, by rw [prgT_len]; exact hnc, hcr, fun i hi => ?_⟩
  rw [prgT_len] at hi
  obtain ⟨k, e, k1, k2⟩ := hx i hi
  have hci := hr.cellAt i (by omega)
  refine ⟨gr, 0, _, rfl, by rw [Nat.zero_add]; exact hci.trans e, ?_⟩
  refine ⟨_, _, by rw [prgT_rowlen _ _ _ hi], by rw [prgT_rowlen _ _ _ hi]; exact hm, by rw [prgT_rowlen _ _ _ hi]; exact k1, k2, fun j hj => ?_⟩
  rw [prgT_rowlen _ _ _ hi] at hj
  obtain ⟨d1, d2⟩ := own_R hs (smsL_len _ _ _) (i + j) (by omega)
  rw [show (smsL oneF ss (2 * n - 1))[i + j]?.getD (0, 0) = spS oneF ss (i + j) ss.length from smsL_at (by omega)] at d1 d2
  rw [prgT_at _ _ _ _ hi hj]
  exact ⟨g, i * 2, rfl, by rw [← Nat.add_mul]; exact d1, by rw [← Nat.add_mul]; exact d2⟩

set_option maxRecDepth 100000 in
set_option maxHeartbeats 4000000 in
theorem iFitted_any (z : Value) (ss : List Sp) (n : Int) (w : World) (h' : RdS w z ss) :
    Calls Try.prog 23 #[z, .int .i64 n] w fun e w' => ∃ vm, e = .returned (.tuple #[vm, .bool (fitO ss n)]) ∧ w'.ownsRow w.heap.size 33 2 vm (fitA ss n).length (cellsR (fitA ss n)) ∧ Below w.heap.size w w' := by
  obtain ⟨t0, hti, htz0, htz1, htz2⟩ := info_parts infoT11
  have HO := hidP (fun W (hW : Below w.heap.size w W) => iSpo_any z ss W (h'.below hW))
  have HS := hidP h'
  obtain ⟨pz, cz, rfl, _⟩ := h'
  obtain ⟨o, ho⟩ : ∃ q, q = sptB ss := ⟨_, rfl⟩
  have HQ := hidP ho
  have HN := hidP (fitA_no (ss := ss) (n := n))
  rw [← ho] at HO
  clear ho
  go_enter Try.func23, Try.ntmps23
  go_wp2_with fail
  refine (HO.out _ (Below.refl _ _)).mono ?_
  rintro e w1 ⟨rfl, hb⟩
  have B0 := hb
  have hs1 := B0.size
  clear hb HO
  cases o
  · have HF : Hid (fitO ss n = false) := by show _ = _; unfold fitO; rw [← HQ.out]; rfl
    have HAN := hidP (HN.out HF.out)
    go_wp2
    refine bodyPost_ret (v := .tuple #[.slice (some ⟨w1.heap.size, 0, none⟩) 0 0, .bool false]) (by simp [results, Try.results23, go_sem]) rfl ⟨.slice (some ⟨w1.heap.size, 0, none⟩) 0 0, ret_tb11 HF.out.symm, ?_, B0.alloc hs1 _⟩
    rw [HAN.out]
    exact litN w1 _ hs1
  by_cases hn1 : n < 1
  · have HF : Hid (fitO ss n = false) := by show _ = _; unfold fitO; rw [show inB n 1 4 = false from decide_eq_false (by omega)]; simp
    have HAN := hidP (HN.out HF.out)
    go_wp2
    refine bodyPost_ret (v := .tuple #[.slice (some ⟨w1.heap.size, 0, none⟩) 0 0, .bool false]) (by simp [results, Try.results23, go_sem]) rfl ⟨.slice (some ⟨w1.heap.size, 0, none⟩) 0 0, ret_tb11 HF.out.symm, ?_, B0.alloc hs1 _⟩
    rw [HAN.out]
    exact litN w1 _ hs1
  by_cases hn4 : 4 < n
  · have HF : Hid (fitO ss n = false) := by show _ = _; unfold fitO; rw [show inB n 1 4 = false from decide_eq_false (by omega)]; simp
    have HAN := hidP (HN.out HF.out)
    go_wp2
    refine bodyPost_ret (v := .tuple #[.slice (some ⟨w1.heap.size, 0, none⟩) 0 0, .bool false]) (by simp [results, Try.results23, go_sem]) rfl ⟨.slice (some ⟨w1.heap.size, 0, none⟩) 0 0, ret_tb11 HF.out.symm, ?_, B0.alloc hs1 _⟩
    rw [HAN.out]
    exact litN w1 _ hs1
  have HA := hidP (fit_all (ss := ss) (n := n) HQ.out.symm (decide_eq_true (by omega)))
  obtain ⟨N, hN⟩ : ∃ N : Nat, n = (N : Int) := ⟨n.toNat, by omega⟩
  have hN1 : 1 ≤ N := by omega
  have hN4 : N ≤ 4 := by omega
  subst hN
  rw [Int.toNat_natCast] at HA
  clear hn1 hn4 HQ HN
  have hM : (2 * (N : Int) - 1) = ((2 * N - 1 : Nat) : Int) := by omega
  have HT1 : Hid (Calls Try.prog 50 #[.slice pz ss.length cz, .int .i64 ((2 * N - 1 : Nat) : Int), .func (.func 51) #[] #[]] w1 fun e w' => ∃ g, e = .returned (.slice (some ⟨g, 0, none⟩) (2 * N - 1) (2 * N - 1)) ∧ w'.ownsRow w1.heap.size 33 2 (.slice (some ⟨g, 0, none⟩) (2 * N - 1) (2 * N - 1)) (2 * N - 1) (cellsR (smsL oneF ss (2 * N - 1))) ∧ Below w1.heap.size w1 w') :=
    sumsA_any oneF _ ss (2 * N - 1) w1 (HS.out.below B0) (by omega) (fun k _ W _ => oneT_any _ _ _ _ W)
  rw [← hM] at HT1
  clear hM
  go_wp2_with fail
  refine HT1.out.mono ?_
  rintro e w2 ⟨g, rfl, ho1, hb⟩
  replace B0 := B0.trans (hb.mono hs1)
  have hs2 := B0.size
  have HT2 : Hid (Calls Try.prog 50 #[.slice pz ss.length cz, .int .i64 (N : Int), .func (.func 52) #[] #[]] w2 fun e w' => ∃ g, e = .returned (.slice (some ⟨g, 0, none⟩) N N) ∧ w'.ownsRow w2.heap.size 33 2 (.slice (some ⟨g, 0, none⟩) N N) N (cellsR (prgR ss N)) ∧ Below w2.heap.size w2 w') :=
    sumsB_any (fun j => (sp ss j).2) _ ss N w2 (HS.out.below B0) (by omega) (fun k _ W _ => sndT_any _ _ _ _ W)
  have O1 := hidP (own_le ho1 hs1)
  clear hb HT1 HS ho1 hs1
  go_wp2_with fail
  refine HT2.out.mono ?_
  rintro e w3 ⟨g2, rfl, ho2, hb⟩
  replace B0 := B0.trans (hb.mono hs2)
  replace O1 := hidP (own_below O1.out hb)
  have O2 := hidP (own_le ho2 hs2)
  have hs3 := B0.size
  clear hb HT2 ho2 hs2
  obtain ⟨M, hM⟩ : ∃ M, M = 2 * N - 1 := ⟨_, rfl⟩
  have hM1 : N ≤ M := by omega
  have hM2 : M ≤ 7 := by omega
  have hM3 : ∀ p : Nat, p < N → p + N ≤ M := by intro p hp; omega
  have HM := hidP hM
  rw [← hM] at O1 ⊢
  clear hM
  go_wp2_with (at_make; refine wpList_make_full _ rfl _ _ 75 rfl w.heap.size 36 t0 (.slice none 0 0) 1 Try.underlying75 hti htz0 htz1 .i64 .i64 _ _ N rfl rfl rfl rfl (by rw [htz2]; omega) (by unfold maxLen; omega) hs3 ?_; intro w4 hown hgrow)
  obtain ⟨Gr, hGr⟩ : ∃ G, G = w3.heap.size := ⟨_, rfl⟩
  have hgG : g < Gr := by have := (World.ownsRow.lt O1.out g rfl).2; omega
  have hg2G : g2 < Gr := by have := (World.ownsRow.lt O2.out g2 rfl).2; omega
  have hwG : w.heap.size ≤ Gr := by omega
  have hbg : Below w3.heap.size w3 w4 := (Below.refl _ _).grown hgrow (Nat.le_refl _) (fun k e => by cases e)
  replace B0 := hidP (B0.trans (hbg.mono hs3))
  replace O1 := hidP (own_below O1.out hbg)
  replace O2 := hidP (own_below O2.out hbg)
  rw [← hGr]
  rw [← hGr] at hown
  obtain ⟨xs0, hx0⟩ : ∃ xs, xs = (madeCells (Value.slice none 0 0).cells (N * 1)).toList := ⟨_, rfl⟩
  rw [← hx0] at hown
  have hxl0 : xs0.length = N := by have := hown.1; omega
  clear hgrow hGr hbg hs3 hx0
  go_loopw [33] (fun i wr => ∃ (p : Nat) (xs : List Value), p ≤ N ∧ i = .int .i64 p ∧ xs.length = N ∧ Hid (wr.ownsRow w.heap.size 36 1 (.slice (some ⟨Gr, 0, none⟩) N N) N xs) ∧ Hid (∀ j, j < p → xs[j]? = some (.slice (some ⟨g, j * 2, none⟩) N (M - j))) ∧ Hid (wr.ownsRow w.heap.size 33 2 (.slice (some ⟨g, 0, none⟩) M M) M (cellsR (smsL oneF ss M))) ∧ Hid (wr.ownsRow w.heap.size 33 2 (.slice (some ⟨g2, 0, none⟩) N N) N (cellsR (prgR ss N))) ∧ Hid (Below w.heap.size w wr)) (fun i _ => N - (intOf i).toNat)
  case atStart => exact ⟨0, xs0, Nat.zero_le _, rfl, hxl0, hown, fun j hj => absurd hj (Nat.not_lt_zero _), O1.out, O2.out, B0.out⟩
  case round =>
    clear hown O1 O2 B0 hxl0
    obtain ⟨p, xs, hp, rfl, hxl, hO, hX, O1, O2, hB⟩ := hrel
    by_cases hlt : p < N
    · have d1 := hO.out.cellAt p (by omega)
      have f1 := hO.out.frozenAt p
      rw [List.getElem?_eq_getElem (by omega)] at d1
      generalize xs[p]'(by omega) = y at d1
      have hs1 : p + N ≤ M := hM3 p hlt
      have hs2 : (p : Int) + (N : Int) ≤ (M : Int) := by omega
      have HXL := hidP hxl
      clear hM3
      go_wp2
      go_roundw
      case rel =>
        obtain ⟨s1, _⟩ := hO.out.stored p (.slice (some ⟨g, p * 2, none⟩) N (M - p))
        refine ⟨p + 1, xs.set p (.slice (some ⟨g, p * 2, none⟩) N (M - p)), by omega, by go_num, by rw [List.length_set]; exact HXL.out, s1, ?_, own_st O1.out (S := Gr) (fun b e => by cases e; exact hgG) p _, own_st O2.out (S := Gr) (fun b e => by cases e; exact hg2G) p _, hB.out.setCell (p := ⟨Gr, p, none⟩) hwG _⟩
        intro j hj
        by_cases e : j = p
        · subst e; rw [List.getElem?_set_self (by rw [HXL.out]; omega)]
        · rw [List.getElem?_set_ne (fun h => e h.symm)]; exact hX.out j (by omega)
      case measure => simp [intOf]; omega
    · obtain rfl : p = N := by omega
      have hR := rows_read (by omega) (by rw [← HM.out]; exact O1.out) hO.out (Nat.le_refl _) (by unfold maxLen; omega) (fun j hj => ⟨_, hX.out j hj, by have := hM3 j hj; omega, by unfold maxLen; omega⟩)
      have hR2 := (RdR.own O2.out).1
      have HC := hidP (iSolved_any _ _ _ _ wr hR hR2)
      have hsz := hB.out.size
      obtain ⟨so, hso⟩ : ∃ o, o = solO (prgT ss p) (prgR ss p) := ⟨_, rfl⟩
      obtain ⟨sa, hsa⟩ : ∃ o, o = solA (prgT ss p) (prgR ss p) := ⟨_, rfl⟩
      have HE : Hid (so = fitO ss (p : Int) ∧ sa = fitA ss (p : Int)) := by show _ ∧ _; rw [hso, hsa]; exact HA.out
      unfold SolP at HC
      rw [← hso, ← hsa] at HC
      clear hso hsa hR hR2 hO hX O1 O2 HA hM3
      go_wp2_with fail
      refine HC.out.mono ?_
      rintro e w6 ⟨vm, rfl, hown, hb⟩
      go_wp2
      refine bodyPost_ret (v := .tuple #[vm, .bool so]) (by simp [results, Try.results23, go_sem]) rfl ⟨vm, ret_tb11 HE.out.1, ?_, hB.out.trans (hb.mono hsz)⟩
      rw [← HE.out.2]
      exact own_le hown hsz
end Go.Proofs.Ytibncepllmjhhaa
