/- Fractions that are drawn, right or not. -/
import Derived.Test.YthmdiljcceiedaaDrawW2
namespace Go.Proofs.Ythmdiljcceiedaa
open Go.RowKit Go.Proofs.Ythmdiljcceiedaa.RM
theorem frz_st {w : World} {a p : Addr} {u : Value} (h : w.frozen? a = false) : (w.setCell p u).frozen? a = false := by simp [h]
theorem set00 {w : World} {B : Nat} {x n : Value} (h : w.cell? ⟨B, 0, none⟩ = some x) : (w.setCell ⟨B, 0, none⟩ n).cell? ⟨B, 0, none⟩ = some n := by simp [go_sem, h]
theorem set01 {w : World} {B : Nat} {y n : Value} (h : w.cell? ⟨B, 1, none⟩ = some y) : (w.setCell ⟨B, 0, none⟩ n).cell? ⟨B, 1, none⟩ = some y := by simp [go_sem, h]

set_option maxHeartbeats 1600000 in
theorem drawAny_any (cb : Nat) (a : Option Addr) (len cap : Nat) (zs : List Int) (w : World) (hc : Cur w cb a len cap zs) :
    Calls Try.prog 42 #[.pointer (some ⟨cb, 0, none⟩)] w fun e w' => ∃ n d : Int, e = .returned (.agg #[.int .i64 n, .int .i64 d]) ∧ Cur w' cb a len cap zs ∧ Ex cb w w' := by
  have HC : Hid (Cur (w.alloc (.cells #[.int .i64 0, .int .i64 0] 27)) cb a len cap zs) := hc.below ((Below.refl _ _).alloc (Nat.le_refl _) _)
  have hlt := hc.lt
  have HROW : Hid (∀ b off, a = some ⟨b, off, none⟩ → 0 < zs.length → b < w.heap.size) := hc.2.1.lt
  clear hc
  go_enter Try.func42, Try.ntmps42
  go_wp2_with fail
  refine (draw_any cb a len cap zs _ HC.out).mono ?_
  rintro e w1 ⟨n, d, rfl, _, _, _, _, _, hC1, hE1⟩
  have rc0 : w1.cell? ⟨w.heap.size, 0, none⟩ = some (.int .i64 0) := by refine hE1.cell ?_ (by omega); simp [go_sem]
  have rc1 : w1.cell? ⟨w.heap.size, 1, none⟩ = some (.int .i64 0) := by refine hE1.cell ?_ (by omega); simp [go_sem]
  have rf0 : w1.frozen? ⟨w.heap.size, 0, none⟩ = false := by refine hE1.frozen (v := .int .i64 0) ?_ ?_ (by omega) <;> simp [go_sem]
  have rf1 : w1.frozen? ⟨w.heap.size, 1, none⟩ = false := by refine hE1.frozen (v := .int .i64 0) ?_ ?_ (by omega) <;> simp [go_sem]
  have hz1 : w.heap.size < w1.heap.size := lt_cell rc0
  replace HC : Hid (Cur w1 cb a len cap zs) := hC1
  have HE : Hid (Ex cb w w1) := (Ex.alloc (Ex.refl cb w) _).trans hE1
  clear hC1 hE1
  go_wp2_with fail
  refine (once_any cb _ a len cap zs _ ?_ (by omega)).mono ?_
  · exact HC.out.below ((Below.refl _ _).alloc (Nat.le_refl _) _)
  rintro e w2 ⟨x, rfl, hC2, hE2⟩
  replace HC : Hid (Cur w2 cb a len cap zs) := hC2
  replace HE : Hid (Ex cb w w2) := (HE.out.alloc _).trans hE2
  replace rf0 := hE2.frozen (cell_al _ rc0) (frozen_later ((Below.refl _ _).alloc (Nat.le_refl _) _) rc0 rf0) (by omega)
  replace rf1 := hE2.frozen (cell_al _ rc1) (frozen_later ((Below.refl _ _).alloc (Nat.le_refl _) _) rc1 rf1) (by omega)
  replace rc0 := hE2.cell (cell_al _ rc0) (by omega)
  replace rc1 := hE2.cell (cell_al _ rc1) (by omega)
  have vc0 : w2.cell? ⟨w1.heap.size, 0, none⟩ = some (.int .i64 n) := by refine hE2.cell ?_ (by omega); simp [go_sem]
  have vc1 : w2.cell? ⟨w1.heap.size, 1, none⟩ = some (.int .i64 d) := by refine hE2.cell ?_ (by omega); simp [go_sem]
  have vf0 : w2.frozen? ⟨w1.heap.size, 0, none⟩ = false := by refine hE2.frozen (v := .int .i64 n) ?_ ?_ (by omega) <;> simp [go_sem]
  have vf1 : w2.frozen? ⟨w1.heap.size, 1, none⟩ = false := by refine hE2.frozen (v := .int .i64 d) ?_ ?_ (by omega) <;> simp [go_sem]
  clear hC2 hE2
  cases x
  · go_wp2_with fail
    refine (once_any cb _ a len cap zs _ HC.out (by omega)).mono ?_
    rintro e Y ⟨y, rfl, hCY, hEY⟩
    replace HC : Hid (Cur Y cb a len cap zs) := hCY
    replace HE : Hid (Ex cb w Y) := HE.out.trans hEY
    replace rf0 := hEY.frozen rc0 rf0 (by omega)
    replace rf1 := hEY.frozen rc1 rf1 (by omega)
    replace rc0 := hEY.cell rc0 (by omega)
    replace rc1 := hEY.cell rc1 (by omega)
    replace vf0 := hEY.frozen vc0 vf0 (by omega)
    replace vf1 := hEY.frozen vc1 vf1 (by omega)
    replace vc0 := hEY.cell vc0 (by omega)
    replace vc1 := hEY.cell vc1 (by omega)
    clear hCY hEY
    have hsz : w1.heap.size < Y.heap.size := lt_cell vc0
    cases y
    · have r0 : ((Y.setCell ⟨w.heap.size, 0, none⟩ (.int .i64 n)).setCell ⟨w.heap.size, 1, none⟩ (.int .i64 d)).cell? ⟨w.heap.size, 0, none⟩ = some (.int .i64 n) := (new2 rc0 rc1).1
      have r1 : ((Y.setCell ⟨w.heap.size, 0, none⟩ (.int .i64 n)).setCell ⟨w.heap.size, 1, none⟩ (.int .i64 d)).cell? ⟨w.heap.size, 1, none⟩ = some (.int .i64 d) := (new2 rc0 rc1).2
      go_wp2
      refine bodyPost_ret (v := .agg #[.int .i64 n, .int .i64 d]) (by simp [results, Try.results42, go_sem, r0, r1]) rfl ⟨_, _, rfl, ?_, ?_⟩
      · exact HC.out.ex (x := w.heap.size) (((Ex.refl _ Y).setCell (.inl rfl) _).setCell (.inl rfl) _) (by omega) (fun b off e hz => by have := HROW.out b off e hz; omega)
      · exact (HE.out.setCell (.inr (Nat.le_refl _)) _).setCell (.inr (Nat.le_refl _)) _
    · go_wp2_with fail
      refine (below_any cb _ a len cap zs _ ?_ (by omega)).mono ?_
      · exact HC.out.below ((Below.refl _ _).alloc (Nat.le_refl _) _)
      rintro e Z ⟨i, rfl, hi0, hi1, hCZ, hEZ⟩
      replace HC : Hid (Cur Z cb a len cap zs) := hCZ
      replace HE : Hid (Ex cb w Z) := (HE.out.alloc _).trans hEZ
      have hidx : ∃ v, Z.cell? ⟨Y.heap.size, i.toNat, none⟩ = some (.int .i64 v) := by
        have hi : i = 0 ∨ i = 1 ∨ i = 2 ∨ i = 3 ∨ i = 4 ∨ i = 5 := by omega
        have hne : Y.heap.size ≠ cb := by omega
        rcases hi with rfl | rfl | rfl | rfl | rfl | rfl
        · exact ⟨0, hEZ.cell (by simp [go_sem]) hne⟩
        · exact ⟨1000000000, hEZ.cell (by simp [go_sem]) hne⟩
        · exact ⟨-1000000000, hEZ.cell (by simp [go_sem]) hne⟩
        · exact ⟨1000000001, hEZ.cell (by simp [go_sem]) hne⟩
        · exact ⟨4611686018427387904, hEZ.cell (by simp [go_sem]) hne⟩
        · exact ⟨-9223372036854775808, hEZ.cell (by simp [go_sem]) hne⟩
      obtain ⟨v, hidx⟩ := hidx
      replace rf0 := hEZ.frozen (cell_al _ rc0) (frozen_later ((Below.refl _ _).alloc (Nat.le_refl _) _) rc0 rf0) (by omega)
      replace rf1 := hEZ.frozen (cell_al _ rc1) (frozen_later ((Below.refl _ _).alloc (Nat.le_refl _) _) rc1 rf1) (by omega)
      replace vf0 := hEZ.frozen (cell_al _ vc0) (frozen_later ((Below.refl _ _).alloc (Nat.le_refl _) _) vc0 vf0) (by omega)
      replace vf1 := hEZ.frozen (cell_al _ vc1) (frozen_later ((Below.refl _ _).alloc (Nat.le_refl _) _) vc1 vf1) (by omega)
      replace rc0 := hEZ.cell (cell_al _ rc0) (by omega)
      replace rc1 := hEZ.cell (cell_al _ rc1) (by omega)
      replace vc0 := hEZ.cell (cell_al _ vc0) (by omega)
      replace vc1 := hEZ.cell (cell_al _ vc1) (by omega)
      clear hCZ hEZ
      go_wp2_with fail
      refine (below_any cb _ a len cap zs _ ?_ (by omega)).mono ?_
      · exact (HC.out.ex (x := w1.heap.size) ((Ex.refl _ Z).setCell (.inl rfl) _) (by omega) (fun b off e hz => by have := HROW.out b off e hz; omega)).below ((Below.refl _ _).alloc (Nat.le_refl _) _)
      rintro e U ⟨j, rfl, hj0, hj1, hCU, hEU⟩
      have hsz2 : w1.heap.size < Z.heap.size := lt_cell vc0
      replace HC : Hid (Cur U cb a len cap zs) := hCU
      replace HE : Hid (Ex cb w U) := ((HE.out.setCell (.inr (by omega)) _).alloc _).trans hEU
      have hjdx : ∃ v, U.cell? ⟨Z.heap.size, j.toNat, none⟩ = some (.int .i64 v) := by
        have hj : j = 0 ∨ j = 1 ∨ j = 2 ∨ j = 3 ∨ j = 4 ∨ j = 5 := by omega
        have hne : Z.heap.size ≠ cb := by omega
        rcases hj with rfl | rfl | rfl | rfl | rfl | rfl
        · exact ⟨0, hEU.cell (by simp [go_sem]) hne⟩
        · exact ⟨1, hEU.cell (by simp [go_sem]) hne⟩
        · exact ⟨2, hEU.cell (by simp [go_sem]) hne⟩
        · exact ⟨1000000000, hEU.cell (by simp [go_sem]) hne⟩
        · exact ⟨-1, hEU.cell (by simp [go_sem]) hne⟩
        · exact ⟨1000000001, hEU.cell (by simp [go_sem]) hne⟩
      obtain ⟨u, hjdx⟩ := hjdx
      replace rf0 := hEU.frozen (cell_al _ (cell_stb rc0 (by omega))) (frozen_later ((Below.refl _ _).alloc (Nat.le_refl _) _) (cell_stb rc0 (by omega)) (frz_st rf0)) (by omega)
      replace rf1 := hEU.frozen (cell_al _ (cell_stb rc1 (by omega))) (frozen_later ((Below.refl _ _).alloc (Nat.le_refl _) _) (cell_stb rc1 (by omega)) (frz_st rf1)) (by omega)
      replace vf1 := hEU.frozen (cell_al _ (set01 vc1)) (frozen_later ((Below.refl _ _).alloc (Nat.le_refl _) _) (set01 vc1) (frz_st vf1)) (by omega)
      replace rc0 := hEU.cell (cell_al _ (cell_stb rc0 (by omega))) (by omega)
      replace rc1 := hEU.cell (cell_al _ (cell_stb rc1 (by omega))) (by omega)
      replace vc0 := hEU.cell (cell_al _ (set00 vc0)) (by omega)
      replace vc1 := hEU.cell (cell_al _ (set01 vc1)) (by omega)
      clear hCU hEU hidx vf0
      have r0 : (((U.setCell ⟨w1.heap.size, 1, none⟩ (.int .i64 u)).setCell ⟨w.heap.size, 0, none⟩ (.int .i64 v)).setCell ⟨w.heap.size, 1, none⟩ (.int .i64 u)).cell? ⟨w.heap.size, 0, none⟩ = some (.int .i64 v) := (new2 (cell_stb rc0 (by omega)) (cell_stb rc1 (by omega))).1
      have r1 : (((U.setCell ⟨w1.heap.size, 1, none⟩ (.int .i64 u)).setCell ⟨w.heap.size, 0, none⟩ (.int .i64 v)).setCell ⟨w.heap.size, 1, none⟩ (.int .i64 u)).cell? ⟨w.heap.size, 1, none⟩ = some (.int .i64 u) := (new2 (cell_stb rc0 (by omega)) (cell_stb rc1 (by omega))).2
      have hne1 : w1.heap.size ≠ w.heap.size := by omega
      go_wp2
      refine bodyPost_ret (v := .agg #[.int .i64 v, .int .i64 u]) (by simp [results, Try.results42, go_sem, r0, r1]) rfl ⟨_, _, rfl, ?_, ?_⟩
      · exact (HC.out.ex (x := w1.heap.size) ((Ex.refl _ U).setCell (.inl rfl) _) (by omega) (fun b off e hz => by have := HROW.out b off e hz; omega)).ex (x := w.heap.size) (((Ex.refl _ _).setCell (.inl rfl) _).setCell (.inl rfl) _) (by omega) (fun b off e hz => by have := HROW.out b off e hz; omega)
      · exact ((HE.out.setCell (.inr (by omega)) _).setCell (.inr (Nat.le_refl _)) _).setCell (.inr (Nat.le_refl _)) _
  · go_wp2_with fail
    refine (below_any cb _ a len cap zs _ HC.out (by omega)).mono ?_
    rintro e w3 ⟨p, rfl, hp0, hp1, hC3, hE3⟩
    replace HC : Hid (Cur w3 cb a len cap zs) := hC3
    replace HE : Hid (Ex cb w w3) := HE.out.trans hE3
    replace rf0 := hE3.frozen rc0 rf0 (by omega)
    replace rf1 := hE3.frozen rc1 rf1 (by omega)
    replace rc0 := hE3.cell rc0 (by omega)
    replace rc1 := hE3.cell rc1 (by omega)
    replace vf0 := hE3.frozen vc0 vf0 (by omega)
    replace vf1 := hE3.frozen vc1 vf1 (by omega)
    replace vc0 := hE3.cell vc0 (by omega)
    replace vc1 := hE3.cell vc1 (by omega)
    clear hC3 hE3
    go_wp2_with fail
    refine (below_any cb _ a len cap zs _ HC.out (by omega)).mono ?_
    rintro e w4 ⟨q, rfl, hq0, hq1, hC4, hE4⟩
    replace HC : Hid (Cur w4 cb a len cap zs) := hC4
    replace HE : Hid (Ex cb w w4) := HE.out.trans hE4
    replace rf0 := hE4.frozen rc0 rf0 (by omega)
    replace rf1 := hE4.frozen rc1 rf1 (by omega)
    replace rc0 := hE4.cell rc0 (by omega)
    replace rc1 := hE4.cell rc1 (by omega)
    replace vf0 := hE4.frozen vc0 vf0 (by omega)
    replace vf1 := hE4.frozen vc1 vf1 (by omega)
    replace vc0 := hE4.cell vc0 (by omega)
    replace vc1 := hE4.cell vc1 (by omega)
    clear hC4 hE4
    go_wp2_with fail
    refine (sRed_any _ _ _).mono ?_
    rintro e w5 ⟨rfl, hb5⟩
    have hE5 : Ex cb w4 w5 := Ex.of_below hb5
    replace HC : Hid (Cur w5 cb a len cap zs) := HC.out.below hb5
    replace HE : Hid (Ex cb w w5) := HE.out.trans hE5
    replace rf0 := hE5.frozen rc0 rf0 (by omega)
    replace rf1 := hE5.frozen rc1 rf1 (by omega)
    replace rc0 := hE5.cell rc0 (by omega)
    replace rc1 := hE5.cell rc1 (by omega)
    replace vf0 := hE5.frozen vc0 vf0 (by omega)
    replace vf1 := hE5.frozen vc1 vf1 (by omega)
    replace vc0 := hE5.cell vc0 (by omega)
    replace vc1 := hE5.cell vc1 (by omega)
    clear hb5 hE5
    go_wp2_with fail
    refine (once_any cb _ a len cap zs _ ?_ (by omega)).mono ?_
    · exact HC.out.ex (x := w1.heap.size) (((Ex.refl _ w5).setCell (.inl rfl) _).setCell (.inl rfl) _) (by omega) (fun b off e hz => by have := HROW.out b off e hz; omega)
    rintro e Y ⟨y, rfl, hCY, hEY⟩
    replace HC : Hid (Cur Y cb a len cap zs) := hCY
    replace HE : Hid (Ex cb w Y) := ((HE.out.setCell (.inr (by omega)) _).setCell (.inr (by omega)) _).trans hEY
    replace rf0 := hEY.frozen (cell_stb (cell_stb rc0 (by omega)) (by omega)) (frz_st (frz_st rf0)) (by omega)
    replace rf1 := hEY.frozen (cell_stb (cell_stb rc1 (by omega)) (by omega)) (frz_st (frz_st rf1)) (by omega)
    replace rc0 := hEY.cell (cell_stb (cell_stb rc0 (by omega)) (by omega)) (by omega)
    replace rc1 := hEY.cell (cell_stb (cell_stb rc1 (by omega)) (by omega)) (by omega)
    replace vf0 := hEY.frozen (new2 vc0 vc1).1 (frz_st (frz_st vf0)) (by omega)
    replace vf1 := hEY.frozen (new2 vc0 vc1).2 (frz_st (frz_st vf1)) (by omega)
    have vx : ∃ g k : Int, Y.cell? ⟨w1.heap.size, 0, none⟩ = some (.int .i64 g) ∧ Y.cell? ⟨w1.heap.size, 1, none⟩ = some (.int .i64 k) := ⟨_, _, hEY.cell (new2 vc0 vc1).1 (by omega), hEY.cell (new2 vc0 vc1).2 (by omega)⟩
    clear vc0 vc1 hCY hEY
    obtain ⟨g, k, vc0, vc1⟩ := vx
    have hsz : w1.heap.size < Y.heap.size := lt_cell vc0
    cases y
    · have r0 : ((Y.setCell ⟨w.heap.size, 0, none⟩ (.int .i64 g)).setCell ⟨w.heap.size, 1, none⟩ (.int .i64 k)).cell? ⟨w.heap.size, 0, none⟩ = some (.int .i64 g) := (new2 rc0 rc1).1
      have r1 : ((Y.setCell ⟨w.heap.size, 0, none⟩ (.int .i64 g)).setCell ⟨w.heap.size, 1, none⟩ (.int .i64 k)).cell? ⟨w.heap.size, 1, none⟩ = some (.int .i64 k) := (new2 rc0 rc1).2
      go_wp2
      refine bodyPost_ret (v := .agg #[.int .i64 g, .int .i64 k]) (by simp [results, Try.results42, go_sem, r0, r1]) rfl ⟨_, _, rfl, ?_, ?_⟩
      · exact HC.out.ex (x := w.heap.size) (((Ex.refl _ Y).setCell (.inl rfl) _).setCell (.inl rfl) _) (by omega) (fun b off e hz => by have := HROW.out b off e hz; omega)
      · exact (HE.out.setCell (.inr (Nat.le_refl _)) _).setCell (.inr (Nat.le_refl _)) _
    · go_wp2_with fail
      refine (below_any cb _ a len cap zs _ ?_ (by omega)).mono ?_
      · exact HC.out.below ((Below.refl _ _).alloc (Nat.le_refl _) _)
      rintro e Z ⟨i, rfl, hi0, hi1, hCZ, hEZ⟩
      replace HC : Hid (Cur Z cb a len cap zs) := hCZ
      replace HE : Hid (Ex cb w Z) := (HE.out.alloc _).trans hEZ
      have hidx : ∃ v, Z.cell? ⟨Y.heap.size, i.toNat, none⟩ = some (.int .i64 v) := by
        have hi : i = 0 ∨ i = 1 ∨ i = 2 ∨ i = 3 ∨ i = 4 ∨ i = 5 := by omega
        have hne : Y.heap.size ≠ cb := by omega
        rcases hi with rfl | rfl | rfl | rfl | rfl | rfl
        · exact ⟨0, hEZ.cell (by simp [go_sem]) hne⟩
        · exact ⟨1000000000, hEZ.cell (by simp [go_sem]) hne⟩
        · exact ⟨-1000000000, hEZ.cell (by simp [go_sem]) hne⟩
        · exact ⟨1000000001, hEZ.cell (by simp [go_sem]) hne⟩
        · exact ⟨4611686018427387904, hEZ.cell (by simp [go_sem]) hne⟩
        · exact ⟨-9223372036854775808, hEZ.cell (by simp [go_sem]) hne⟩
      obtain ⟨v, hidx⟩ := hidx
      replace rf0 := hEZ.frozen (cell_al _ rc0) (frozen_later ((Below.refl _ _).alloc (Nat.le_refl _) _) rc0 rf0) (by omega)
      replace rf1 := hEZ.frozen (cell_al _ rc1) (frozen_later ((Below.refl _ _).alloc (Nat.le_refl _) _) rc1 rf1) (by omega)
      replace vf0 := hEZ.frozen (cell_al _ vc0) (frozen_later ((Below.refl _ _).alloc (Nat.le_refl _) _) vc0 vf0) (by omega)
      replace vf1 := hEZ.frozen (cell_al _ vc1) (frozen_later ((Below.refl _ _).alloc (Nat.le_refl _) _) vc1 vf1) (by omega)
      replace rc0 := hEZ.cell (cell_al _ rc0) (by omega)
      replace rc1 := hEZ.cell (cell_al _ rc1) (by omega)
      replace vc0 := hEZ.cell (cell_al _ vc0) (by omega)
      replace vc1 := hEZ.cell (cell_al _ vc1) (by omega)
      clear hCZ hEZ
      go_wp2_with fail
      refine (below_any cb _ a len cap zs _ ?_ (by omega)).mono ?_
      · exact (HC.out.ex (x := w1.heap.size) ((Ex.refl _ Z).setCell (.inl rfl) _) (by omega) (fun b off e hz => by have := HROW.out b off e hz; omega)).below ((Below.refl _ _).alloc (Nat.le_refl _) _)
      rintro e U ⟨j, rfl, hj0, hj1, hCU, hEU⟩
      have hsz2 : w1.heap.size < Z.heap.size := lt_cell vc0
      replace HC : Hid (Cur U cb a len cap zs) := hCU
      replace HE : Hid (Ex cb w U) := ((HE.out.setCell (.inr (by omega)) _).alloc _).trans hEU
      have hjdx : ∃ v, U.cell? ⟨Z.heap.size, j.toNat, none⟩ = some (.int .i64 v) := by
        have hj : j = 0 ∨ j = 1 ∨ j = 2 ∨ j = 3 ∨ j = 4 ∨ j = 5 := by omega
        have hne : Z.heap.size ≠ cb := by omega
        rcases hj with rfl | rfl | rfl | rfl | rfl | rfl
        · exact ⟨0, hEU.cell (by simp [go_sem]) hne⟩
        · exact ⟨1, hEU.cell (by simp [go_sem]) hne⟩
        · exact ⟨2, hEU.cell (by simp [go_sem]) hne⟩
        · exact ⟨1000000000, hEU.cell (by simp [go_sem]) hne⟩
        · exact ⟨-1, hEU.cell (by simp [go_sem]) hne⟩
        · exact ⟨1000000001, hEU.cell (by simp [go_sem]) hne⟩
      obtain ⟨u, hjdx⟩ := hjdx
      replace rf0 := hEU.frozen (cell_al _ (cell_stb rc0 (by omega))) (frozen_later ((Below.refl _ _).alloc (Nat.le_refl _) _) (cell_stb rc0 (by omega)) (frz_st rf0)) (by omega)
      replace rf1 := hEU.frozen (cell_al _ (cell_stb rc1 (by omega))) (frozen_later ((Below.refl _ _).alloc (Nat.le_refl _) _) (cell_stb rc1 (by omega)) (frz_st rf1)) (by omega)
      replace vf1 := hEU.frozen (cell_al _ (set01 vc1)) (frozen_later ((Below.refl _ _).alloc (Nat.le_refl _) _) (set01 vc1) (frz_st vf1)) (by omega)
      replace rc0 := hEU.cell (cell_al _ (cell_stb rc0 (by omega))) (by omega)
      replace rc1 := hEU.cell (cell_al _ (cell_stb rc1 (by omega))) (by omega)
      replace vc0 := hEU.cell (cell_al _ (set00 vc0)) (by omega)
      replace vc1 := hEU.cell (cell_al _ (set01 vc1)) (by omega)
      clear hCU hEU hidx vf0
      have r0 : (((U.setCell ⟨w1.heap.size, 1, none⟩ (.int .i64 u)).setCell ⟨w.heap.size, 0, none⟩ (.int .i64 v)).setCell ⟨w.heap.size, 1, none⟩ (.int .i64 u)).cell? ⟨w.heap.size, 0, none⟩ = some (.int .i64 v) := (new2 (cell_stb rc0 (by omega)) (cell_stb rc1 (by omega))).1
      have r1 : (((U.setCell ⟨w1.heap.size, 1, none⟩ (.int .i64 u)).setCell ⟨w.heap.size, 0, none⟩ (.int .i64 v)).setCell ⟨w.heap.size, 1, none⟩ (.int .i64 u)).cell? ⟨w.heap.size, 1, none⟩ = some (.int .i64 u) := (new2 (cell_stb rc0 (by omega)) (cell_stb rc1 (by omega))).2
      have hne1 : w1.heap.size ≠ w.heap.size := by omega
      go_wp2
      refine bodyPost_ret (v := .agg #[.int .i64 v, .int .i64 u]) (by simp [results, Try.results42, go_sem, r0, r1]) rfl ⟨_, _, rfl, ?_, ?_⟩
      · exact (HC.out.ex (x := w1.heap.size) ((Ex.refl _ U).setCell (.inl rfl) _) (by omega) (fun b off e hz => by have := HROW.out b off e hz; omega)).ex (x := w.heap.size) (((Ex.refl _ _).setCell (.inl rfl) _).setCell (.inl rfl) _) (by omega) (fun b off e hz => by have := HROW.out b off e hz; omega)
      · exact ((HE.out.setCell (.inr (by omega)) _).setCell (.inr (Nat.le_refl _)) _).setCell (.inr (Nat.le_refl _)) _
end Go.Proofs.Ythmdiljcceiedaa
