/- The walk of the law of Word. -/
import Derived.Test.YtpgidpiaodgndakUnitR
import Derived.Test.YtpgidpiaodgndakUnitW9
import Derived.Outline
import Derived.Deep.DeepCutAuto
namespace Go.Proofs.Ytpgidpiaodgndak
open Go.RowKit Go.Proofs.Ytpgidpiaodgndak.RM

theorem eqR_word (n d : Int) (w : World) :
    Calls Try.prog 24 #[.agg #[.int .i64 n, .int .i64 d], .agg #[.int .i64 n, .int .i64 d]] w fun e w' => e = .returned (.bool true) ∧ Below w.heap.size w w' := by
  have e1 : (n != n) = false := by simp
  have e2 : (d != d) = false := by simp
  go_enter Try.func24, Try.ntmps24
  go_wp2
  go_ret
  exact ⟨rfl, ((Below.refl _ _).alloc (Nat.le_refl _) _).alloc (by simp <;> omega) _⟩

set_option maxRecDepth 100000 in
set_option maxHeartbeats 2000000 in
theorem lawWord (s : ByteArray) (w : World) :
    Calls Try.prog 5 #[.string s] w fun e w' => e = .returned (.bool true) ∧ Below w.heap.size w w' := by
  have b0 : ∀ (u : World) (o : Obj), Below u.heap.size u (u.alloc o) := fun u o => (Below.refl _ _).alloc (Nat.le_refl _) o
  by_cases hs : s.size ≤ 1048576
  · have hsi : ¬ (1048576 : Int) < s.size := by omega
    obtain ⟨R, hR⟩ : ∃ R, R = wordS s.data.toList := ⟨_, rfl⟩
    have hlen : R.2.2.1.length ≤ 5 := by rw [hR]; exact told_len _
    have HS : Hid (∀ W : World, Calls Try.prog 22 #[.string s] W fun e w' => ∃ v, e = .returned (.tuple #[.agg #[.int .i64 R.1, .int .i64 R.2.1], v, .bool R.2.2.2]) ∧ w'.ownsRow W.heap.size 2 1 v R.2.2.1.length (R.2.2.1.map (Value.int .i64)) ∧ Below W.heap.size W w') := fun W => by rw [hR]; exact sWord_any s W
    have HI : Hid (∀ W : World, Calls Try.prog 23 #[.string s] W fun e w' => ∃ v, e = .returned (.tuple #[.agg #[.int .i64 R.1, .int .i64 R.2.1], v, .bool R.2.2.2]) ∧ RowU w' W.heap.size v R.2.2.1 ∧ Below W.heap.size W w') := fun W => by rw [hR]; exact iWord_any s W hs
    clear hR hs
    obtain ⟨n, d, xs, o⟩ := R
    simp only at HS HI hlen
    obtain ⟨m, hm⟩ : ∃ m, m = xs.length := ⟨_, rfl⟩
    have HL := hidU hm.symm
    rw [← hm] at HS hlen
    clear hm
    have ho : (o != o) = false := by simp
    go_enter Try.func5, Try.ntmps5
    go_wp2_with fail
    refine (HS.out _).mono ?_
    rintro e w1 ⟨v, rfl, hv, hb⟩
    have HB := hidU hb
    have HV := hidU hv
    clear hb hv
    go_upto_region 4 with fail
    obtain ⟨X, hX⟩ : ∃ X, X = w1.alloc (.cells #[.int .i64 n, .int .i64 d] 36) := ⟨_, rfl⟩
    obtain ⟨Z, hZ⟩ : ∃ Z, Z = w1.heap.size := ⟨_, rfl⟩
    have c0 : X.cell? ⟨Z, 0, none⟩ = some (.int .i64 n) := by rw [hX, hZ]; simp [go_sem]
    have c1 : X.cell? ⟨Z, 1, none⟩ = some (.int .i64 d) := by rw [hX, hZ]; simp [go_sem]
    have hbx : Below w1.heap.size w1 X := by rw [hX]; exact b0 _ _
    replace HV := hidU (own_below HV.out hbx)
    replace HB := hidU (HB.out.trans (hbx.mono HB.out.size))
    have HVlt := hidU (show ∀ j, v.ownBlock = some j → j < X.heap.size from fun j hj => (HV.out.lt j hj).2)
    have HXs := hidU HB.out.size
    have HZX := hidU (lt_cell c0)
    rw [← hX, ← hZ]
    clear hX hZ hbx
    go_wp2_with fail
    refine (HI.out _).mono ?_
    rintro e w2 ⟨g, rfl, hg, hb⟩
    replace c0 := cell_later hb c0
    replace c1 := cell_later hb c1
    replace HV := hidU (own_below HV.out hb)
    replace HB := hidU (HB.out.trans (hb.mono HB.out.size))
    obtain ⟨G, off, rfl, hG0, hG1, -⟩ := hg.cells
    rw [HL.out]
    have HG := hidU hg
    rw [HL.out] at HG
    have HG0 := hidU hG0
    have hZG := lt_cell c0
    clear hb hg hG0 hG1
    go_upto_region 5 with fail
    obtain ⟨Y, hY⟩ : ∃ Y, Y = w2.alloc (.cells #[.int .i64 n, .int .i64 d] 36) := ⟨_, rfl⟩
    obtain ⟨T, hT⟩ : ∃ T, T = w2.heap.size := ⟨_, rfl⟩
    have d0 : Y.cell? ⟨T, 0, none⟩ = some (.int .i64 n) := by rw [hY, hT]; simp [go_sem]
    have d1 : Y.cell? ⟨T, 1, none⟩ = some (.int .i64 d) := by rw [hY, hT]; simp [go_sem]
    have hby : Below w2.heap.size w2 Y := by rw [hY]; exact b0 _ _
    replace c0 := cell_later hby c0
    replace c1 := cell_later hby c1
    replace HV := hidU (own_below HV.out hby)
    replace HG := hidU (HG.out.below hby)
    replace HB := hidU (HB.out.trans (hby.mono HB.out.size))
    rw [← hY, ← hT]
    clear hY hT hby hZG
    go_wp2_with fail
    refine (eqR_word n d _).mono ?_
    rintro e w3 ⟨rfl, hb⟩
    replace c0 := cell_later hb c0
    replace c1 := cell_later hb c1
    replace HV := hidU (own_below HV.out hb)
    replace HG := hidU (HG.out.below hb)
    replace HB := hidU (HB.out.trans (hb.mono HB.out.size))
    clear hb d0 d1
    go_wp2_with fail
    refine (eqU_same _ v xs m _ _ _ _ HL.out (by omega) HG.out HV.out).mono ?_
    rintro e w4 ⟨rfl, mm, hw⟩
    have hb : Below w3.heap.size w3 w4 := by rw [hw]; exact below_drewN (Below.refl _ _) _
    replace c0 := cell_later hb c0
    replace c1 := cell_later hb c1
    replace HV := hidU (own_below HV.out hb)
    replace HG := hidU (HG.out.below hb)
    replace HB := hidU (HB.out.trans (hb.mono HB.out.size))
    clear hb hw
    have hGc := HG.out.cells
    obtain ⟨G', off', he, hq0, hq1, hq2⟩ := hGc
    have he2 : G' = G ∧ off' = off := by
      injection he with e1 e2 e3
      injection e1 with e1
      injection e1 with e1 e4 e5
      exact ⟨e1.symm, e4.symm⟩
    obtain ⟨rfl, rfl⟩ := he2
    have HM : Hid (MkU w4 G' off' m 1 xs 0) := fun j hj => by
      obtain ⟨k1, k2⟩ := hq2 j (by rw [HL.out]; exact hj)
      exact ⟨by rw [if_neg (by omega)]; exact k1, k2⟩
    have HQ := hidU hq1
    clear he hq0 hq1 hq2 HG
    go_wp2_with fail
    refine (markU_any G' off' m xs 1 _ (by omega) (by omega) (by omega) HM.out).mono ?_
    rintro e w5 ⟨rfl, hM, hg⟩
    have hZG : Z ≠ G' := by
      have h9 := HG0.out
      have h8 := HZX.out
      omega
    replace c0 := keep_cell hg c0 hZG
    replace c1 := keep_cell hg c1 hZG
    replace HV := hidU (HV.out.kept hg (.inr fun e' => by have h7 := HVlt.out G' e'; have h9 := HG0.out; omega))
    replace HM := hidU hM
    replace HQ := hidU (Nat.lt_of_lt_of_le HQ.out hg.size)
    replace HB := hidU (HB.out.trans (below_grownK hg (by have := HG0.out; have := HXs.out; omega) HB.out.size))
    clear hM hg hZG
    have hmm : ((1 + (m : Int)) != (1 + (m : Int))) = false := by simp
    go_wp2_with fail
    refine (heldU_any' G' off' m xs 1 _ (by omega) (by omega) (by omega) HM.out).mono ?_
    rintro e w6 ⟨rfl, mm6, hw⟩
    have hb : Below w5.heap.size w5 w6 := by rw [hw]; exact below_drewN (Below.refl _ _) _
    replace c0 := cell_later hb c0
    replace c1 := cell_later hb c1
    replace HV := hidU (own_below HV.out hb)
    replace HM := hidU (HM.out.below HQ.out hb)
    replace HQ := hidU (Nat.lt_of_lt_of_le HQ.out hb.size)
    replace HB := hidU (HB.out.trans (hb.mono HB.out.size))
    clear hb hw
    go_wp2_with fail
    refine (HI.out _).mono ?_
    rintro e w7 ⟨g, rfl, hg, hb⟩
    replace c0 := cell_later hb c0
    replace c1 := cell_later hb c1
    replace HV := hidU (own_below HV.out hb)
    replace HM := hidU (HM.out.below HQ.out hb)
    replace HQ := hidU (Nat.lt_of_lt_of_le HQ.out hb.size)
    replace HB := hidU (HB.out.trans (hb.mono HB.out.size))
    have HG := hidU hg
    clear hb hg
    go_upto_region 16 with fail
    obtain ⟨Y, hY⟩ : ∃ Y, Y = w7.alloc (.cells #[.int .i64 n, .int .i64 d] 36) := ⟨_, rfl⟩
    obtain ⟨T, hT⟩ : ∃ T, T = w7.heap.size := ⟨_, rfl⟩
    have d0 : Y.cell? ⟨T, 0, none⟩ = some (.int .i64 n) := by rw [hY, hT]; simp [go_sem]
    have d1 : Y.cell? ⟨T, 1, none⟩ = some (.int .i64 d) := by rw [hY, hT]; simp [go_sem]
    have hby : Below w7.heap.size w7 Y := by rw [hY]; exact b0 _ _
    replace c0 := cell_later hby c0
    replace c1 := cell_later hby c1
    replace HV := hidU (own_below HV.out hby)
    replace HG := hidU (HG.out.below hby)
    replace HM := hidU (HM.out.below HQ.out hby)
    replace HQ := hidU (Nat.lt_of_lt_of_le HQ.out hby.size)
    replace HB := hidU (HB.out.trans (hby.mono HB.out.size))
    rw [← hY, ← hT]
    clear hY hT hby
    go_wp2_with fail
    refine (eqR_word n d _).mono ?_
    rintro e w8 ⟨rfl, hb⟩
    replace HV := hidU (own_below HV.out hb)
    replace HG := hidU (HG.out.below hb)
    replace HM := hidU (HM.out.below HQ.out hb)
    replace HQ := hidU (Nat.lt_of_lt_of_le HQ.out hb.size)
    replace HB := hidU (HB.out.trans (hb.mono HB.out.size))
    clear hb d0 d1 c0 c1
    go_wp2_with fail
    refine (eqU_same _ v xs m _ _ _ _ HL.out (by omega) HG.out HV.out).mono ?_
    rintro e w9 ⟨rfl, mm9, hw⟩
    have hb : Below w8.heap.size w8 w9 := by rw [hw]; exact below_drewN (Below.refl _ _) _
    replace HM := hidU (HM.out.below HQ.out hb)
    replace HB := hidU (HB.out.trans (hb.mono HB.out.size))
    clear hb hw HG HV HQ
    go_wp2_with fail
    refine (heldU_any' G' off' m xs 1 _ (by omega) (by omega) (by omega) HM.out).mono ?_
    rintro e w10 ⟨rfl, mm10, hw⟩
    have hb : Below w9.heap.size w9 w10 := by rw [hw]; exact below_drewN (Below.refl _ _) _
    replace HB := hidU (HB.out.trans (hb.mono HB.out.size))
    clear hb hw HM
    go_wp2
    go_ret
    exact ⟨rfl, HB.out⟩
  · have hsi : (1048576 : Int) < s.size := by omega
    go_enter Try.func5, Try.ntmps5
    go_wp2
    go_ret
    exact ⟨rfl, Below.refl _ _⟩
end Go.Proofs.Ytpgidpiaodgndak
