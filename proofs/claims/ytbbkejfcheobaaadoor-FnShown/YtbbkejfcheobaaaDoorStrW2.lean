/- Both texts of a fraction are one. -/
import Derived.Test.YtbbkejfcheobaaaDoorStrW1
import Derived.Test.YtbbkejfcheobaaaDoorRatioW2
import Derived.Test.YtbbkejfcheobaaaDoorShelf
import Derived.Lib.AppendIntMem
import Derived.Deep.Cut
import Derived.Deep.RegionWith
import Derived.Deep.DeepMust
namespace Go.Proofs.YtbbkejfcheobaaaDoor
open Go.RowKit Go.Proofs.YtbbkejfcheobaaaDoor.RM

theorem hidS {p : Prop} (h : p) : Hid p := h
theorem dec_len (u : Nat) : (Lib.decDigits u).length ≤ u + 1 := by
  induction u using Nat.strongRecOn with
  | _ u ih =>
    rw [dec_step]
    by_cases h : u / 10 = 0
    · rw [if_pos h]; simp
    · rw [if_neg h]
      have := ih (u / 10) (by omega)
      simp only [List.length_append, List.length_singleton]
      omega
theorem itoa_len (n : Int) : (Lib.itoa n).length ≤ n.natAbs + 2 := by
  unfold Lib.itoa
  split
  · have := dec_len n.natAbs; simp only [List.length_cons]; omega
  · have := dec_len n.toNat; omega
/-- the text of a fraction -/
def shw (n d : Int) : List UInt8 := if okB n d = true then (if d = 1 then Lib.itoa n else Lib.itoa n ++ 47 :: Lib.itoa d) else []
theorem shw_no {n d : Int} (h : okB n d = false) : shw n d = [] := by unfold shw; rw [h]; rfl
theorem shw_one {n : Int} (h : okB n 1 = true) : shw n 1 = Lib.itoa n := by unfold shw; rw [if_pos h, if_pos rfl]
theorem shw_more {n d : Int} (h : okB n d = true) (hd : d ≠ 1) : shw n d = Lib.itoa n ++ 47 :: Lib.itoa d := by unfold shw; rw [if_pos h, if_neg hd]
theorem cat3 (a b : List UInt8) : (ByteArray.mk a.toArray ++ ByteArray.mk #[47] ++ ByteArray.mk b.toArray) = ByteArray.mk (a ++ 47 :: b).toArray := by
  rw [show (ByteArray.mk #[47]) = ByteArray.mk [47].toArray from rfl, ByteArray.mk_append_mk, ByteArray.mk_append_mk]
  simp

set_option maxRecDepth 100000 in
set_option maxHeartbeats 1000000 in
theorem sShow_any (n d : Int) (w : World) :
    Calls Tryd.prog 10 #[.agg #[.int .i64 n, .int .i64 d]] w fun e w' => e = .returned (.string ⟨(shw n d).toArray⟩) ∧ Below w.heap.size w w' := by
  have b0 : ∀ (u : World) (o : Obj), Below u.heap.size u (u.alloc o) := fun u o => (Below.refl _ _).alloc (Nat.le_refl _) o
  obtain ⟨S, hS⟩ : ∃ S, S = shw n d := ⟨_, rfl⟩
  have HS := hidS hS
  rw [← hS]
  clear hS
  go_enter Tryd.func10, Tryd.ntmps10
  go_upto_region 1 with fail
  obtain ⟨X, hX⟩ : ∃ X, X = w.alloc (.cells #[.int .i64 n, .int .i64 d] 25) := ⟨_, rfl⟩
  obtain ⟨Z, hZ⟩ : ∃ Z, Z = w.heap.size := ⟨_, rfl⟩
  have c0 : X.cell? ⟨Z, 0, none⟩ = some (.int .i64 n) := by rw [hX, hZ]; simp [go_sem]
  have c1 : X.cell? ⟨Z, 1, none⟩ = some (.int .i64 d) := by rw [hX, hZ]; simp [go_sem]
  have HB : Hid (Below w.heap.size w X) := by show Below _ _ _; rw [hX]; exact b0 _ _
  rw [← hX, ← hZ]
  clear hX hZ
  go_wp2_with fail
  refine (sOk_any n d _).mono ?_
  rintro e w1 ⟨rfl, hb⟩
  replace c0 := cell_later hb c0
  replace c1 := cell_later hb c1
  replace HB := hidS (HB.out.trans (hb.mono HB.out.size))
  clear hb
  cases hk : okB n d with
  | false =>
    obtain rfl : S = [] := by rw [HS.out]; exact shw_no hk
    go_wp2
    go_ret
    exact ⟨rfl, HB.out⟩
  | true =>
    obtain ⟨hd1, hd2, hn1, hn2, -⟩ := okB_out hk
    have HK := hidS hk
    have HI : Hid (∀ (x : Int) (W : World), -1000000000 ≤ x → x ≤ 1000000000 → Calls Tryd.prog 22 #[.int .i64 x] W fun e w' => e = .returned (.string ⟨(Lib.itoa x).toArray⟩) ∧ Below W.heap.size W w') := fun x W h0 h1 => sInt_any x W h0 h1
    clear hk
    have hl := lt_cell c0
    by_cases h1 : d = 1
    · subst h1
      obtain rfl : S = Lib.itoa n := by rw [HS.out]; exact shw_one HK.out
      clear HS
      go_wp2_with fail
      refine (HI.out _ _ hn1 hn2).mono ?_
      rintro e w2 ⟨rfl, hb⟩
      go_wp2
      go_ret
      exact ⟨rfl, HB.out.trans (hb.mono HB.out.size)⟩
    · have HSS : Hid (S = Lib.itoa n ++ 47 :: Lib.itoa d) := by show _ = _; rw [HS.out]; exact shw_more HK.out h1
      obtain ⟨f, hf⟩ : ∃ f, f = Lib.itoa := ⟨_, rfl⟩
      have q1 : (f n).length ≤ 1000000002 := by rw [hf]; have := itoa_len n; omega
      have q2 : (f d).length ≤ 1000000002 := by rw [hf]; have := itoa_len d; omega
      rw [← hf] at HI HSS
      have q3 : ¬ 9223372036854775807 < (f n).length + 1 := by omega
      have q4 : ¬ 9223372036854775807 < (f n).length + 1 + (f d).length := by omega
      clear HS HK hf q1 q2
      go_wp2
      go_region_with (go_at_call 22; go_must (refine (HI.out _ _ (by omega) (by omega)).mono ?_); rintro e w4 ⟨rfl, hb⟩; replace c0 := cell_later hb (by first | exact c0 | exact cell_dr c0); replace c1 := cell_later hb (by first | exact c1 | exact cell_dr c1); have HBn : Below w.heap.size w w4 := Below.trans (by first | exact HB.out | exact HB.out.drew) (hb.mono (by first | exact HB.out.size | (simp; exact HB.out.size))); replace HB := hidS HBn; clear HBn; replace hl := lt_cell c0; clear hb)
      all_goals go_wp2
      all_goals rw [cat3 (f n) (f d)]
      all_goals exact bodyPost_ret (v := .string ⟨(f n ++ 47 :: f d).toArray⟩) (by simp [results, Tryd.results10, go_sem]) rfl ⟨by rw [HSS.out], HB.out⟩

/-- the library's table of powers reads as it should wherever the call has come -/
def Pow (B : Nat) (w : World) : Prop := Lib.TabBelow Tryd.prog B w "internal/strconv.uint64pow10" .u64 Lib.pow10Tab
theorem Pow.below {w w' : World} {B : Nat} (h : Pow B w) (hb : Below B w w') : Pow B w' := Lib.TabBelow.on h hb
theorem fmt_any (x : Int) (B : Nat) (w : World) (h : Pow B w) (h0 : -9223372036854775808 ≤ x) (h1 : x ≤ 9223372036854775807) :
    Calls Tryd.prog 14 #[.int .i64 x, .int .i64 10] w fun e w' => e = .returned (.string ⟨(Lib.itoa x).toArray⟩) ∧ Below w.heap.size w w' := by
  refine (Tryd.strconv_FormatInt_10 x h0 h1 w h.here).mono ?_
  rintro e w' ⟨rfl, k, os, rfl⟩
  exact ⟨rfl, Lib.below_grow _ _ (Nat.le_refl _) _ _⟩

set_option maxRecDepth 100000 in
set_option maxHeartbeats 1000000 in
theorem iShow_any (n d : Int) (B : Nat) (w : World) (hP : Pow B w) (hBw : B ≤ w.heap.size) :
    Calls Tryd.prog 6 #[.agg #[.int .i64 n, .int .i64 d]] w fun e w' => e = .returned (.string ⟨(shw n d).toArray⟩) ∧ Below w.heap.size w w' := by
  have b0 : ∀ (u : World) (o : Obj), Below u.heap.size u (u.alloc o) := fun u o => (Below.refl _ _).alloc (Nat.le_refl _) o
  obtain ⟨S, hS⟩ : ∃ S, S = shw n d := ⟨_, rfl⟩
  have HS := hidS hS
  have HP := hidS hP
  rw [← hS]
  clear hS hP
  go_enter Tryd.func6, Tryd.ntmps6
  go_upto_region 1 with fail
  obtain ⟨X, hX⟩ : ∃ X, X = w.alloc (.cells #[.int .i64 n, .int .i64 d] 25) := ⟨_, rfl⟩
  obtain ⟨Z, hZ⟩ : ∃ Z, Z = w.heap.size := ⟨_, rfl⟩
  have c0 : X.cell? ⟨Z, 0, none⟩ = some (.int .i64 n) := by rw [hX, hZ]; simp [go_sem]
  have c1 : X.cell? ⟨Z, 1, none⟩ = some (.int .i64 d) := by rw [hX, hZ]; simp [go_sem]
  have HB : Hid (Below w.heap.size w X) := by show Below _ _ _; rw [hX]; exact b0 _ _
  rw [← hX, ← hZ]
  clear hX hZ
  go_wp2_with fail
  refine (right_any n d _).mono ?_
  rintro e w1 ⟨rfl, hb⟩
  replace c0 := cell_later hb c0
  replace c1 := cell_later hb c1
  replace HB := hidS (HB.out.trans (hb.mono HB.out.size))
  clear hb
  cases hk : okB n d with
  | false =>
    obtain rfl : S = [] := by rw [HS.out]; exact shw_no hk
    go_wp2
    go_ret
    exact ⟨rfl, HB.out⟩
  | true =>
    obtain ⟨hd1, hd2, hn1, hn2, -⟩ := okB_out hk
    have HK := hidS hk
    have HI : Hid (∀ (x : Int) (W : World), Below w.heap.size w W → -1000000000 ≤ x → x ≤ 1000000000 → Calls Tryd.prog 14 #[.int .i64 x, .int .i64 10] W fun e w' => e = .returned (.string ⟨(Lib.itoa x).toArray⟩) ∧ Below W.heap.size W w') := fun x W hW h0 h1 => fmt_any x B W (HP.out.below (hW.mono hBw)) (by omega) (by omega)
    clear hk
    have hl := lt_cell c0
    have q1 : (Lib.itoa n).length ≤ 1000000002 := by have := itoa_len n; omega
    have q2 : (Lib.itoa d).length ≤ 1000000002 := by have := itoa_len d; omega
    have HSS : Hid (S = if d = 1 then Lib.itoa n else Lib.itoa n ++ 47 :: Lib.itoa d) := by
      show _ = _
      rw [HS.out]
      unfold shw
      rw [if_pos HK.out]
    obtain ⟨f, hf⟩ : ∃ f, f = Lib.itoa := ⟨_, rfl⟩
    rw [← hf] at HI HSS q1 q2
    have q3 : ¬ 9223372036854775807 < (f n).length + 1 := by omega
    have q4 : ¬ 9223372036854775807 < (f n).length + 1 + (f d).length := by omega
    clear HS HK hf q1 q2
    go_wp2_with fail
    refine (HI.out _ _ HB.out (by omega) (by omega)).mono ?_
    rintro e w4 ⟨rfl, hb⟩
    replace c0 := cell_later hb c0
    replace c1 := cell_later hb c1
    replace HB := hidS (HB.out.trans (hb.mono HB.out.size))
    replace hl := lt_cell c0
    clear hb
    by_cases h1 : d = 1
    · subst h1
      rw [if_pos rfl] at HSS
      go_wp2
      exact bodyPost_ret (v := .string ⟨(f n).toArray⟩) (by simp [results, Tryd.results6, go_sem]) rfl ⟨by rw [HSS.out], HB.out⟩
    · rw [if_neg h1] at HSS
      go_wp2_with fail
      refine (HI.out _ _ HB.out (by omega) (by omega)).mono ?_
      rintro e w5 ⟨rfl, hb⟩
      replace HB := hidS (HB.out.trans (hb.mono HB.out.size))
      clear hb
      go_wp2
      rw [cat3 (f n) (f d)]
      exact bodyPost_ret (v := .string ⟨(f n ++ 47 :: f d).toArray⟩) (by simp [results, Tryd.results6, go_sem]) rfl ⟨by rw [HSS.out], HB.out⟩
end Go.Proofs.YtbbkejfcheobaaaDoor
