/- The walk of the law FnShown. -/
import Derived.Test.YtbbkejfcheobaaaDoorBendW
import Derived.Test.YtbbkejfcheobaaaDoorPickI
import Derived.Test.YtbbkejfcheobaaaDoorDrawW4
import Derived.Test.YtbbkejfcheobaaaDoorReadW2
import Derived.Test.YtbbkejfcheobaaaDoorReadW4
import Derived.Lib.ItoaLen
import Derived.BigQuiet
namespace Go.Proofs.YtbbkejfcheobaaaDoor
open Go.RowKit Go.Proofs.YtbbkejfcheobaaaDoor.RM

theorem hidV {p : Prop} (h : p) : Hid p := h
theorem shw_len64 (n d : Int) : (shw n d).length ≤ 64 := by
  cases h : okB n d with
  | false => rw [shw_no h]; exact Nat.zero_le _
  | true =>
    obtain ⟨h1, h2, h3, h4, -⟩ := okB_out h
    by_cases hd : d = 1
    · subst hd
      rw [shw_one h]
      have := Lib.itoa_length_le n (by omega) (by omega)
      omega
    · rw [shw_more h hd]
      have a := Lib.itoa_length_le n (by omega) (by omega)
      have b := Lib.itoa_length_le d (by omega) (by omega)
      rw [List.length_append, List.length_cons]
      omega
theorem shw_ne {n d : Int} (h : okB n d = true) : shw n d ≠ [] := by
  intro e
  have h1 := rdI_shw h
  have h2 := rdI_no (s := []) 
  rw [e] at h1
  by_cases hx : ∃ n d, okB n d = true ∧ shw n d = []
  · obtain ⟨h3, h4, h5, h6, -⟩ := okB_out h
    by_cases hd : d = 1
    · subst hd
      rw [shw_one h] at e
      unfold Lib.itoa at e
      split at e
      · cases e
      · rw [Lib.decDigits_eq] at e
        have := Lib.nDigits_pos n.toNat
        have := congrArg List.length e
        simp at this
        omega
    · rw [shw_more h hd] at e
      simp at e
  · rw [h2 hx] at h1
    cases h1
/-- what is read is what is shown so, or nothing -/
theorem rdI_both (t : List UInt8) : (∃ n d, okB n d = true ∧ shw n d = t ∧ rdI t = (n, d, true)) ∨ rdI t = (0, 0, false) := by
  by_cases h : ∃ n d, okB n d = true ∧ shw n d = t
  · obtain ⟨n, d, h1, h2⟩ := h
    exact .inl ⟨n, d, h1, h2, by rw [← h2]; exact rdI_shw h1⟩
  · exact .inr (rdI_no h)

set_option maxHeartbeats 800000 in
theorem dShowRatio_any (a : Option Addr) (len cap : Nat) (zs : List Int) (w : World) (hr : IsRow .u8 w a len cap zs) :
    Calls Tryd.prog 5 #[.slice a len cap] w fun e w' => ∃ n d : Int, e = .returned (.agg #[.int .i64 n, .int .i64 d]) ∧ Below w.heap.size w w' := by
  have HR : Hid (IsRow .u8 (w.alloc (.cells #[.int .i64 0, .int .i64 0] 25)) a len cap zs) := hr.below ((Below.refl _ _).alloc (Nat.le_refl _) _)
  clear hr
  go_enter Tryd.func5, Tryd.ntmps5
  go_wp2_with fail
  refine (dRatio_any a len cap zs _ HR.out).mono ?_
  rintro e w1 ⟨n, d, rfl, hB1⟩
  have B1 : Below w.heap.size w w1 := ((Below.refl _ _).alloc (Nat.le_refl _) _).trans (hB1.mono (by simp))
  have rc0 : w1.cell? ⟨w.heap.size, 0, none⟩ = some (.int .i64 0) := by refine cell_later hB1 ?_; simp [go_sem]
  have rc1 : w1.cell? ⟨w.heap.size, 1, none⟩ = some (.int .i64 0) := by refine cell_later hB1 ?_; simp [go_sem]
  have rf0 : w1.frozen? ⟨w.heap.size, 0, none⟩ = false := by refine frozen_later (v := .int .i64 0) hB1 ?_ ?_ <;> simp [go_sem]
  have rf1 : w1.frozen? ⟨w.heap.size, 1, none⟩ = false := by refine frozen_later (v := .int .i64 0) hB1 ?_ ?_ <;> simp [go_sem]
  clear hB1 HR
  have r0 := (new2 (n := .int .i64 n) (d := .int .i64 d) rc0 rc1)
  go_wp2
  exact bodyPost_ret (v := .agg #[.int .i64 n, .int .i64 d]) (by simp [results, Tryd.results5, go_sem, r0.1, r0.2]) rfl ⟨_, _, rfl, (B1.setCell (Nat.le_refl _) _).setCell (Nat.le_refl _) _⟩

set_option maxHeartbeats 1600000 in
theorem dReadRatio_any (a : Option Addr) (len cap : Nat) (zs : List Int) (w : World) (hr : IsRow .u8 w a len cap zs) :
    Calls Tryd.prog 7 #[.slice a len cap] w fun e w' => ∃ t : List UInt8, e = .returned (.string ⟨t.toArray⟩) ∧ t.length ≤ 1000 ∧ Below w.heap.size w w' := by
  have HR := hidV hr
  clear hr
  go_enter Tryd.func7, Tryd.ntmps7
  go_wp2_with fail
  refine (new_any a len cap zs _ HR.out).mono ?_
  rintro e w1 ⟨rfl, hC1, hB1, hs1⟩
  obtain ⟨cb, hcb'⟩ : ∃ cb, cb = w.heap.size := ⟨_, rfl⟩
  have hcb : w.heap.size ≤ cb := by omega
  rw [← hcb'] at hC1 ⊢
  have HC := hidV hC1
  have HE := hidV (Ex.of_below (cb := cb) hB1)
  clear hC1 hB1 hs1 hcb' HR
  go_wp2_with fail
  refine (drawAny_any cb a len cap zs _ HC.out).mono ?_
  rintro e w2 ⟨n, d, rfl, hC, hE⟩
  replace HC := hidV hC
  replace HE := hidV (HE.out.trans hE)
  clear hC hE
  have hsl := shw_len64 n d
  obtain ⟨l, hl⟩ : ∃ l, l = shw n d := ⟨_, rfl⟩
  have HS : Hid (∀ W : World, Calls Tryd.prog 10 #[.agg #[.int .i64 n, .int .i64 d]] W fun e w' => e = .returned (.string ⟨l.toArray⟩) ∧ Below W.heap.size W w') := by intro W; rw [hl]; exact sShow_any n d W
  rw [← hl] at hsl
  clear hl
  go_wp2_with fail
  refine (HS.out _).mono ?_
  rintro e w3 ⟨rfl, hb⟩
  replace HE := hidV (HE.out.trans (Ex.of_below hb))
  replace HC := hidV (HC.out.below hb)
  clear hb HS
  go_wp2_with fail
  refine (once_any cb _ a len cap zs _ HC.out (by omega)).mono ?_
  rintro e w4 ⟨z, rfl, hC, hE⟩
  replace HC := hidV hC
  replace HE := hidV (HE.out.trans hE)
  clear hC hE
  cases z
  · go_wp2
    go_ret
    exact ⟨l, rfl, by omega, Ex.below (Below.refl _ _) HE.out hcb⟩
  · go_wp2_with fail
    refine (bend_any cb a len cap zs ⟨l.toArray⟩ ⟨#[48, 49, 57, 47, 45]⟩ _ HC.out (by show l.toArray.size ≤ _; simp; omega) (by decide) (by decide)).mono ?_
    rintro e w5 ⟨t, rfl, ht, hC, hE⟩
    replace HE := hidV (HE.out.trans hE)
    clear hC hE
    have ht2 : t.length ≤ 1000 := by
      have : (ByteArray.mk l.toArray).size = l.length := by show l.toArray.size = _; simp
      omega
    clear ht
    go_wp2
    go_ret
    exact ⟨t, rfl, ht2, Ex.below (Below.refl _ _) HE.out hcb⟩

set_option maxRecDepth 100000 in
set_option maxHeartbeats 4000000 in
theorem lawShownF (a0 : Option Addr) (len cap : Nat) (zs : List Int) (w : World) (hr : IsRow .u8 w a0 len cap zs) (hP : Pow w.heap.size w) (hE : Errs w.heap.size w) :
    Calls Tryd.prog 3 #[.slice a0 len cap] w fun e w' => e = .returned (.bool true) ∧ Below w.heap.size w w' := by
  have b0 : ∀ (u : World) (o : Obj), Below u.heap.size u (u.alloc o) := fun u o => (Below.refl _ _).alloc (Nat.le_refl _) o
  by_cases hl : 4096 < (len : Int)
  · have hbig : decide (4096 < (len : Int)) = true := decide_eq_true hl
    clear hl hr
    go_enter Tryd.func3, Tryd.ntmps3
    go_wp2_with fail
    refine (bigD_any _ _ _ _).mono ?_
    rintro e w1 ⟨rfl, hw⟩
    obtain rfl := hw.symm
    go_wp2
    go_ret
    exact ⟨rfl, Below.refl _ _⟩
  have hbig : decide (4096 < (len : Int)) = false := decide_eq_false hl
  have HR := hidV hr
  have HP := hidV hP
  have HEr := hidV hE
  clear hl hr hP hE
  go_enter Tryd.func3, Tryd.ntmps3
  go_wp2_with fail
  refine (bigD_any _ _ _ _).mono ?_
  rintro e w0 ⟨rfl, hw⟩
  obtain rfl := hw.symm
  clear hw
  have HB : Hid (Below w.heap.size w w) := Below.refl _ _
  go_wp2_with fail
  refine (dShowRatio_any a0 len cap zs _ HR.out).mono ?_
  rintro e w1 ⟨n, d, rfl, hb⟩
  replace HR := hidV (HR.out.below hb)
  replace HB := hidV (HB.out.trans (hb.mono HB.out.size))
  clear hb
  clear hbig
  go_upto_region 4 with fail
  obtain ⟨X, hX⟩ : ∃ X, X = w1.alloc (.cells #[.int .i64 n, .int .i64 d] 25) := ⟨_, rfl⟩
  obtain ⟨Z, hZ⟩ : ∃ Z, Z = w1.heap.size := ⟨_, rfl⟩
  have c0 : X.cell? ⟨Z, 0, none⟩ = some (.int .i64 n) := by rw [hX, hZ]; simp [go_sem]
  have c1 : X.cell? ⟨Z, 1, none⟩ = some (.int .i64 d) := by rw [hX, hZ]; simp [go_sem]
  replace HR := hidV (HR.out.below (show Below w1.heap.size w1 X by rw [hX]; exact b0 _ _))
  replace HB := hidV (HB.out.trans (show Below w.heap.size w1 X by rw [hX]; exact (b0 _ _).mono HB.out.size))
  rw [← hX, ← hZ]
  clear hX hZ
  obtain ⟨s, hs⟩ : ∃ s : ByteArray, s = ⟨(shw n d).toArray⟩ := ⟨_, rfl⟩
  have HSS := hidV hs
  have CI1 : Hid (∀ W : World, Below w.heap.size w W → Calls Tryd.prog 6 #[.agg #[.int .i64 n, .int .i64 d]] W fun e w' => e = .returned (.string s) ∧ Below W.heap.size W w') := by intro W hW; rw [hs]; exact iShow_any n d w.heap.size W (HP.out.below hW) hW.size
  have CS1 : Hid (∀ W : World, Calls Tryd.prog 10 #[.agg #[.int .i64 n, .int .i64 d]] W fun e w' => e = .returned (.string s) ∧ Below W.heap.size W w') := by intro W; rw [hs]; exact sShow_any n d W
  obtain ⟨ok, hok⟩ : ∃ q, q = okB n d := ⟨_, rfl⟩
  have HOK := hidV hok
  have COK : Hid (∀ W : World, Calls Tryd.prog 11 #[.agg #[.int .i64 n, .int .i64 d]] W fun e w' => e = .returned (.bool ok) ∧ Below W.heap.size W w') := by intro W; rw [hok]; exact sOk_any n d W
  have CR2 : Hid (ok = true → ∀ W : World, Below w.heap.size w W → Calls Tryd.prog 8 #[.string s] W fun e w' => e = .returned (.tuple #[.agg #[.int .i64 n, .int .i64 d], .bool true]) ∧ Below W.heap.size W w') := by
    intro h1 W hW
    have h2 := iRead_any (shw n d) w.heap.size W (HP.out.below hW) (HEr.out.below hW) hW.size (by have := shw_len64 n d; omega)
    rw [rdI_shw (by rw [← hok]; exact h1), ← hs] at h2
    exact h2
  have HSE : Hid ((ok = true → s.toList ≠ []) ∧ (ok = false → s = ⟨#[]⟩)) := by
    refine ⟨fun h1 h2 => ?_, fun h1 => by rw [hs, shw_no (by rw [← hok]; exact h1)]⟩
    rw [hs, ByteArray.toList_eq] at h2
    exact shw_ne (by rw [← hok]; exact h1) h2
  clear hs hok
  go_wp2_with fail
  refine (CI1.out _ HB.out).mono ?_
  rintro e w2 ⟨rfl, hb⟩
  replace c0 := cell_later hb c0
  replace c1 := cell_later hb c1
  replace HR := hidV (HR.out.below hb)
  replace HB := hidV (HB.out.trans (hb.mono HB.out.size))
  clear hb CI1
  go_wp2_with fail
  refine (dReadRatio_any a0 len cap zs _ HR.out).mono ?_
  rintro e w3 ⟨t, rfl, ht, hb⟩
  replace c0 := cell_later hb c0
  replace c1 := cell_later hb c1
  replace HB := hidV (HB.out.trans (hb.mono HB.out.size))
  clear hb HR
  obtain ⟨T, hT⟩ : ∃ s : ByteArray, s = ⟨t.toArray⟩ := ⟨_, rfl⟩
  obtain ⟨R, hRR⟩ : ∃ r, r = rdI t := ⟨_, rfl⟩
  have CR1 : Hid (∀ W : World, Below w.heap.size w W → Calls Tryd.prog 8 #[.string T] W fun e w' => e = .returned (.tuple #[.agg #[.int .i64 R.1, .int .i64 R.2.1], .bool R.2.2]) ∧ Below W.heap.size W w') := by
    intro W hW
    rw [hT, hRR]
    exact iRead_any t w.heap.size W (HP.out.below hW) (HEr.out.below hW) hW.size (by omega)
  have SR1 : Hid (∀ W : World, Calls Tryd.prog 9 #[.string T] W fun e w' => e = .returned (.tuple #[.agg #[.int .i64 R.1, .int .i64 R.2.1], .bool R.2.2]) ∧ Below W.heap.size W w') := by
    intro W
    have h := sRead_any T W (by rw [hT]; show t.toArray.size ≤ _; simp; omega)
    rw [show T.data.toList = t from by rw [hT], ← hRR] at h
    exact h
  have CI2 : Hid (R.2.2 = true → ∀ W : World, Below w.heap.size w W → Calls Tryd.prog 6 #[.agg #[.int .i64 R.1, .int .i64 R.2.1]] W fun e w' => e = .returned (.string T) ∧ Below W.heap.size W w') := by
    intro h1 W hW
    have h2 := iShow_any R.1 R.2.1 w.heap.size W (HP.out.below hW) hW.size
    rcases rdI_both t with ⟨p, q, k1, k2, k3⟩ | k3
    · rw [hRR, k3] at h2 ⊢
      simp only at h2 ⊢
      rw [k2, ← hT] at h2
      exact h2
    · rw [hRR, k3] at h1
      cases h1
  have HRN : Hid (R.2.2 = false → R.1 = 0 ∧ R.2.1 = 0) := by
    intro h1
    rcases rdI_both t with ⟨p, q, k1, k2, k3⟩ | k3
    · rw [hRR, k3] at h1
      cases h1
    · rw [hRR, k3]
      exact ⟨rfl, rfl⟩
  obtain ⟨x1, x2, q⟩ := R
  simp only at CR1 SR1 CI2 HRN
  rw [← hT]
  clear hT hRR ht
  have hqq : (q != q) = false := by simp
  go_wp2_with fail
  refine (CR1.out _ HB.out).mono ?_
  rintro e w4 ⟨rfl, hb⟩
  replace c0 := cell_later hb c0
  replace c1 := cell_later hb c1
  replace HB := hidV (HB.out.trans (hb.mono HB.out.size))
  clear hb CR1
  go_upto_region 7 with fail
  obtain ⟨X2, hX⟩ : ∃ X, X = w4.alloc (.cells #[.int .i64 x1, .int .i64 x2] 25) := ⟨_, rfl⟩
  obtain ⟨Z2, hZ⟩ : ∃ Z, Z = w4.heap.size := ⟨_, rfl⟩
  have d0 : X2.cell? ⟨Z2, 0, none⟩ = some (.int .i64 x1) := by rw [hX, hZ]; simp [go_sem]
  have d1 : X2.cell? ⟨Z2, 1, none⟩ = some (.int .i64 x2) := by rw [hX, hZ]; simp [go_sem]
  have hb : Below w4.heap.size w4 X2 := by rw [hX]; exact b0 _ _
  replace c0 := cell_later hb c0
  replace c1 := cell_later hb c1
  replace HB := hidV (HB.out.trans (hb.mono HB.out.size))
  rw [← hX, ← hZ]
  clear hX hZ hb
  go_wp2_with fail
  refine (SR1.out _).mono ?_
  rintro e w5 ⟨rfl, hb⟩
  replace c0 := cell_later hb c0
  replace c1 := cell_later hb c1
  replace d0 := cell_later hb d0
  replace d1 := cell_later hb d1
  replace HB := hidV (HB.out.trans (hb.mono HB.out.size))
  clear hb SR1
  go_upto_region 8 with fail
  obtain ⟨X3, hX⟩ : ∃ X, X = w5.alloc (.cells #[.int .i64 x1, .int .i64 x2] 25) := ⟨_, rfl⟩
  obtain ⟨Z3, hZ⟩ : ∃ Z, Z = w5.heap.size := ⟨_, rfl⟩
  have f0 : X3.cell? ⟨Z3, 0, none⟩ = some (.int .i64 x1) := by rw [hX, hZ]; simp [go_sem]
  have f1 : X3.cell? ⟨Z3, 1, none⟩ = some (.int .i64 x2) := by rw [hX, hZ]; simp [go_sem]
  have hb : Below w5.heap.size w5 X3 := by rw [hX]; exact b0 _ _
  replace c0 := cell_later hb c0
  replace c1 := cell_later hb c1
  replace d0 := cell_later hb d0
  replace d1 := cell_later hb d1
  replace HB := hidV (HB.out.trans (hb.mono HB.out.size))
  rw [← hX, ← hZ]
  clear hX hZ hb
  go_wp2_with fail
  refine (CS1.out _).mono ?_
  rintro e w6 ⟨rfl, hb⟩
  replace c0 := cell_later hb c0
  replace c1 := cell_later hb c1
  replace d0 := cell_later hb d0
  replace d1 := cell_later hb d1
  replace HB := hidV (HB.out.trans (hb.mono HB.out.size))
  clear hb CS1 f0 f1
  go_wp2_with fail
  refine (COK.out _).mono ?_
  rintro e w7 ⟨rfl, hb⟩
  replace c0 := cell_later hb c0
  replace c1 := cell_later hb c1
  replace d0 := cell_later hb d0
  replace d1 := cell_later hb d1
  replace HB := hidV (HB.out.trans (hb.mono HB.out.size))
  clear hb COK
  have FIN : q = true ∨ (q = false ∧ x1 = 0 ∧ x2 = 0) := by
    cases q
    · exact .inr ⟨rfl, HRN.out rfl⟩
    · exact .inl rfl
  cases ok
  · obtain rfl := HSE.out.2 rfl
    clear CR2
    rcases FIN with rfl | ⟨rfl, rfl, rfl⟩
    · go_wp2_with fail
      refine (CI2.out (by first | rfl | trivial) _ HB.out).mono ?_
      rintro e w8 ⟨rfl, hb⟩
      replace HB := hidV (HB.out.trans (hb.mono HB.out.size))
      go_wp2
      go_ret
      exact ⟨rfl, HB.out⟩
    · go_wp2
      go_ret
      exact ⟨rfl, HB.out⟩
  · have hne := HSE.out.1 rfl
    have hnb : (s.toList == []) = false := by rw [beq_eq_false_iff_ne]; exact hne
    have hnb2 : (s.toList == (ByteArray.mk #[]).toList) = false := by rw [beq_eq_false_iff_ne, ByteArray.toList_eq (ByteArray.mk #[])]; exact hne
    have hni : s.toList.isEmpty = false := by rw [← Bool.not_eq_true, List.isEmpty_iff]; exact hne
    go_wp2_with fail
    refine (CR2.out (by first | rfl | trivial) _ HB.out).mono ?_
    rintro e w8 ⟨rfl, hb⟩
    replace c0 := cell_later hb c0
    replace c1 := cell_later hb c1
    replace d0 := cell_later hb d0
    replace d1 := cell_later hb d1
    replace HB := hidV (HB.out.trans (hb.mono HB.out.size))
    clear hb CR2
    go_upto_region 12 with fail
    obtain ⟨X4, hX⟩ : ∃ X, X = w8.alloc (.cells #[.int .i64 n, .int .i64 d] 25) := ⟨_, rfl⟩
    obtain ⟨Z4, hZ⟩ : ∃ Z, Z = w8.heap.size := ⟨_, rfl⟩
    have f0 : X4.cell? ⟨Z4, 0, none⟩ = some (.int .i64 n) := by rw [hX, hZ]; simp [go_sem]
    have f1 : X4.cell? ⟨Z4, 1, none⟩ = some (.int .i64 d) := by rw [hX, hZ]; simp [go_sem]
    have hb : Below w8.heap.size w8 X4 := by rw [hX]; exact b0 _ _
    replace c0 := cell_later hb c0
    replace c1 := cell_later hb c1
    replace d0 := cell_later hb d0
    replace d1 := cell_later hb d1
    replace HB := hidV (HB.out.trans (hb.mono HB.out.size))
    rw [← hX, ← hZ]
    clear hX hZ hb
    rcases FIN with rfl | ⟨rfl, rfl, rfl⟩
    · go_wp2_with fail
      refine (CI2.out (by first | rfl | trivial) _ HB.out).mono ?_
      rintro e w9 ⟨rfl, hb⟩
      replace HB := hidV (HB.out.trans (hb.mono HB.out.size))
      go_wp2
      go_ret
      exact ⟨rfl, HB.out⟩
    · go_wp2
      go_ret
      exact ⟨rfl, HB.out⟩
end Go.Proofs.YtbbkejfcheobaaaDoor
