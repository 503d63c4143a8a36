/- The walk of the program's Normal. -/
import Derived.Test.YtibncepllmjhhaaFitP6C
namespace Go.Proofs.Ytibncepllmjhhaa
open Go.RowKit Go.Proofs.Ytibncepllmjhhaa.RM

theorem ret_tb10 {v : Value} {a b : Bool} (h : a = b) : Ending.returned (.tuple #[v, .bool a]) = .returned (.tuple #[v, .bool b]) := by rw [h]
set_option maxRecDepth 100000 in
set_option maxHeartbeats 4000000 in
theorem iNormal_any (v z : Value) (cs : List Fr) (ss : List Sp) (w : World) (h : RdR w v cs) (h' : RdS w z ss) :
    Calls Try.prog 28 #[v, z] w fun e w' => ∃ vm, e = .returned (.tuple #[vm, .bool (norO cs ss)]) ∧ w'.ownsRow w.heap.size 33 2 vm (norA cs ss).length (cellsR (norA cs ss)) ∧ Below w.heap.size w w' := by
  have HC := hidP (fun W (hW : Below w.heap.size w W) => iCrv_any v cs W (h.below hW))
  have HO := hidP (fun W (hW : Below w.heap.size w W) => iSpo_any z ss W (h'.below hW))
  have HR := hidP h
  have HS := hidP h'
  obtain ⟨pv, cv, rfl, hv2, _⟩ := h
  obtain ⟨pz, cz, rfl, _⟩ := h'
  obtain ⟨q, hq⟩ : ∃ q, q = crvB cs := ⟨_, rfl⟩
  obtain ⟨o, ho⟩ : ∃ q, q = sptB ss := ⟨_, rfl⟩
  have HQ := hidP (And.intro hq ho)
  have HN := hidP (norA_no (cs := cs) (ss := ss))
  rw [← hq] at HC
  rw [← ho] at HO
  clear hq ho
  unfold maxLen at hv2
  go_enter Try.func28, Try.ntmps28
  obtain ⟨X, hX⟩ : ∃ X, X = w.alloc (.cells #[.slice pv cs.length cv] 36) := ⟨_, rfl⟩
  have B0 : Below w.heap.size w X := by rw [hX]; exact b0S _ _
  have C0 : X.cell? ⟨w.heap.size, 0, none⟩ = some (.slice pv cs.length cv) := by rw [hX]; simp [go_sem]
  have hw0 : w.heap.size < X.heap.size := by rw [hX]; simp
  go_wp2_with fail
  rw [← hX]
  refine (HC.out _ B0).mono ?_
  rintro e w1 ⟨rfl, hb⟩
  replace C0 := cell_keep hb C0
  replace B0 := B0.trans (hb.mono B0.size)
  clear hb hX HC hw0
  have hs1 := B0.size
  cases q
  · have HF : Hid (norO cs ss = false) := by show _ = _; unfold norO; rw [← HQ.out.1]; rfl
    have HAN := hidP (HN.out HF.out)
    go_wp2
    refine bodyPost_ret (v := .tuple #[.slice (some ⟨w1.heap.size, 0, none⟩) 0 0, .bool false]) (by simp [results, Try.results28, go_sem]) rfl ⟨.slice (some ⟨w1.heap.size, 0, none⟩) 0 0, ret_tb10 HF.out.symm, ?_, B0.alloc hs1 _⟩
    rw [HAN.out]
    exact litN w1 _ hs1
  go_wp2_with fail
  refine (HO.out _ B0).mono ?_
  rintro e w2 ⟨rfl, hb⟩
  replace C0 := cell_keep hb C0
  replace B0 := B0.trans (hb.mono B0.size)
  clear hb HO hs1
  have hs2 := B0.size
  cases o
  · have HF : Hid (norO cs ss = false) := by show _ = _; unfold norO; rw [← HQ.out.2]; simp
    have HAN := hidP (HN.out HF.out)
    go_wp2
    refine bodyPost_ret (v := .tuple #[.slice (some ⟨w2.heap.size, 0, none⟩) 0 0, .bool false]) (by simp [results, Try.results28, go_sem]) rfl ⟨.slice (some ⟨w2.heap.size, 0, none⟩) 0 0, ret_tb10 HF.out.symm, ?_, B0.alloc hs2 _⟩
    rw [HAN.out]
    exact litN w2 _ hs2
  have HV := hidP (nor_all HQ.out.1.symm HQ.out.2.symm)
  have hc4 := (crvB_out HQ.out.1.symm).1
  have HT : Hid (Calls Try.prog 50 #[.slice pz ss.length cz, .int .i64 cs.length, .func (.func 54) #[] #[.pointer (some ⟨w.heap.size, 0, none⟩)]] w2 fun e w' => ∃ g, e = .returned (.slice (some ⟨g, 0, none⟩) cs.length cs.length) ∧ w'.ownsRow w2.heap.size 33 2 (.slice (some ⟨g, 0, none⟩) cs.length cs.length) cs.length (cellsR (smsL (fun j => abv cs (sp ss j)) ss cs.length)) ∧ Below w2.heap.size w2 w') :=
    sumsC_any (fun j => abv cs (sp ss j)) _ ss cs.length (.pointer (some ⟨w.heap.size, 0, none⟩)) w2 (HS.out.below B0) (by omega) (fun k hk W hW => norF_any w.heap.size (.slice pv cs.length cv) cs (sp ss k) W (cell_keep hW C0) (HR.out.below (B0.trans (hW.mono hs2))))
  obtain ⟨M, hM⟩ : ∃ M, M = smsL (fun j => abv cs (sp ss j)) ss cs.length := ⟨_, rfl⟩
  rw [← hM] at HT HV
  have hml : M.length = cs.length := by rw [hM, smsL_len]
  have HML := hidP hml
  clear hM hml HR HS HQ
  obtain ⟨L, hL⟩ : ∃ L, L = cs.length := ⟨_, rfl⟩
  rw [← hL] at HT HML hc4 hv2 C0 ⊢
  clear hL
  go_wp2_with fail
  refine HT.out.mono ?_
  rintro e w3 ⟨g, rfl, hown, hb⟩
  replace B0 := B0.trans (hb.mono hs2)
  have HT2 : Hid (Calls Try.prog 55 #[.slice (some ⟨g, 0, none⟩) L L] w3 fun e w' => e = .returned (.bool (rowB M)) ∧ Below w3.heap.size w3 w') := iRow_any _ M w3 (RdR.own hown).1
  have O3 := hidP (own_le hown hs2)
  clear hb hown HT C0 hs2
  have hs3 := B0.size
  obtain ⟨r, hr⟩ : ∃ r, r = rowB M := ⟨_, rfl⟩
  have HE : Hid (norO cs ss = r) := by show _ = _; rw [hr, HV.out.1]
  rw [← hr] at HT2
  clear hr
  go_wp2_with fail
  refine HT2.out.mono ?_
  rintro e w4 ⟨rfl, hb⟩
  replace B0 := B0.trans (hb.mono hs3)
  replace O3 := hidP (own_below O3.out hb)
  clear hb HT2 hs3
  have hs4 := B0.size
  cases r
  · have HAN := hidP (HN.out HE.out)
    go_wp2
    refine bodyPost_ret (v := .tuple #[.slice (some ⟨w4.heap.size, 0, none⟩) 0 0, .bool false]) (by simp [results, Try.results28, go_sem]) rfl ⟨.slice (some ⟨w4.heap.size, 0, none⟩) 0 0, ret_tb10 HE.out.symm, ?_, B0.alloc hs4 _⟩
    rw [HAN.out]
    exact litN w4 _ hs4
  · have HAN : Hid (M = norA cs ss) := HV.out.2 HE.out
    go_wp2
    refine bodyPost_ret (v := .tuple #[.slice (some ⟨g, 0, none⟩) L L, .bool true]) (by simp [results, Try.results28, go_sem]) rfl ⟨.slice (some ⟨g, 0, none⟩) L L, ret_tb10 HE.out.symm, ?_, B0⟩
    rw [← HAN.out, HML.out]
    exact O3.out
end Go.Proofs.Ytibncepllmjhhaa
