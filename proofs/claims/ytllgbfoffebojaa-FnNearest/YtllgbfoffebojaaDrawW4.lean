/- What is drawn from the bytes: one fraction, two of them, small right ones. -/
import Derived.Test.YtllgbfoffebojaaDrawW3
import Derived.Deep.RegionHeld3
import Derived.Deep.DeepCutAuto
namespace Go.Proofs.Ytllgbfoffebojaa
open Go.RowKit Go.Proofs.Ytllgbfoffebojaa.RM

set_option maxHeartbeats 800000 in
theorem dRatio_any (a : Option Addr) (len cap : Nat) (zs : List Int) (w : World) (hr : IsRow .u8 w a len cap zs) :
    Calls Try.prog 61 #[.slice a len cap] w fun e w' => ∃ n d : Int, e = .returned (.agg #[.int .i64 n, .int .i64 d]) ∧ Below w.heap.size w w' := by
  have HR : Hid (IsRow .u8 (w.alloc (.cells #[.int .i64 0, .int .i64 0] 25)) a len cap zs) := hr.below ((Below.refl _ _).alloc (Nat.le_refl _) _)
  clear hr
  go_enter Try.func61, Try.ntmps61
  go_wp2_with fail
  refine (new_any a len cap zs _ HR.out).mono ?_
  rintro e w1 ⟨rfl, hC1, hB1, hs1⟩
  have B1 : Below w.heap.size w w1 := ((Below.refl _ _).alloc (Nat.le_refl _) _).trans (hB1.mono (by simp))
  have rc0 : w1.cell? ⟨w.heap.size, 0, none⟩ = some (.int .i64 0) := by refine cell_later hB1 ?_; simp [go_sem]
  have rc1 : w1.cell? ⟨w.heap.size, 1, none⟩ = some (.int .i64 0) := by refine cell_later hB1 ?_; simp [go_sem]
  have rf0 : w1.frozen? ⟨w.heap.size, 0, none⟩ = false := by refine frozen_later (v := .int .i64 0) hB1 ?_ ?_ <;> simp [go_sem]
  have rf1 : w1.frozen? ⟨w.heap.size, 1, none⟩ = false := by refine frozen_later (v := .int .i64 0) hB1 ?_ ?_ <;> simp [go_sem]
  obtain ⟨cb, hcb⟩ : ∃ cb, cb = (w.alloc (.cells #[.int .i64 0, .int .i64 0] 25)).heap.size := ⟨_, rfl⟩
  have hcb2 : w.heap.size < cb := by rw [hcb]; simp
  rw [← hcb] at hC1 ⊢
  have HC : Hid (Cur w1 cb a len cap zs) := hC1
  clear hC1 hB1 hs1 hcb HR
  go_wp2_with fail
  refine (drawAny_any cb a len cap zs _ HC.out).mono ?_
  rintro e w2 ⟨n, d, rfl, hC2, hE2⟩
  have B2 : Below w.heap.size w w2 := Ex.below B1 hE2 (by omega)
  replace rf0 := hE2.frozen rc0 rf0 (by omega)
  replace rf1 := hE2.frozen rc1 rf1 (by omega)
  replace rc0 := hE2.cell rc0 (by omega)
  replace rc1 := hE2.cell rc1 (by omega)
  have r0 : ((w2.setCell ⟨w.heap.size, 0, none⟩ (.int .i64 n)).setCell ⟨w.heap.size, 1, none⟩ (.int .i64 d)).cell? ⟨w.heap.size, 0, none⟩ = some (.int .i64 n) := (new2 rc0 rc1).1
  have r1 : ((w2.setCell ⟨w.heap.size, 0, none⟩ (.int .i64 n)).setCell ⟨w.heap.size, 1, none⟩ (.int .i64 d)).cell? ⟨w.heap.size, 1, none⟩ = some (.int .i64 d) := (new2 rc0 rc1).2
  clear hC2 hE2 HC
  go_wp2
  exact bodyPost_ret (v := .agg #[.int .i64 n, .int .i64 d]) (by simp [results, Try.results61, go_sem, r0, r1]) rfl ⟨_, _, rfl, (B2.setCell (Nat.le_refl _) _).setCell (Nat.le_refl _) _⟩

set_option maxHeartbeats 1600000 in
theorem dAdd_any (a : Option Addr) (len cap : Nat) (zs : List Int) (w : World) (hr : IsRow .u8 w a len cap zs) :
    Calls Try.prog 8 #[.slice a len cap] w fun e w' => ∃ n d p q : Int, e = .returned (.tuple #[.agg #[.int .i64 n, .int .i64 d], .agg #[.int .i64 p, .int .i64 q]]) ∧ Below w.heap.size w w' := by
  have HR : Hid (IsRow .u8 ((w.alloc (.cells #[.int .i64 0, .int .i64 0] 25)).alloc (.cells #[.int .i64 0, .int .i64 0] 25)) a len cap zs) := (hr.below ((Below.refl _ _).alloc (Nat.le_refl _) _)).below ((Below.refl _ _).alloc (Nat.le_refl _) _)
  clear hr
  go_enter Try.func8, Try.ntmps8
  go_wp2_with fail
  refine (new_any a len cap zs _ HR.out).mono ?_
  rintro e w1 ⟨rfl, hC1, hB1, hs1⟩
  have B1 : Below w.heap.size w w1 := (below_alN _ (below_alN _ (Below.refl _ _))).trans (hB1.mono (by simp <;> omega))
  have rc0 : w1.cell? ⟨w.heap.size, 0, none⟩ = some (.int .i64 0) := by refine cell_later hB1 ?_; simp [go_sem]
  have rc1 : w1.cell? ⟨w.heap.size, 1, none⟩ = some (.int .i64 0) := by refine cell_later hB1 ?_; simp [go_sem]
  have rc2 : w1.cell? ⟨w.heap.size + 1, 0, none⟩ = some (.int .i64 0) := by refine cell_later hB1 ?_; simp [go_sem]
  have rc3 : w1.cell? ⟨w.heap.size + 1, 1, none⟩ = some (.int .i64 0) := by refine cell_later hB1 ?_; simp [go_sem]
  have rf0 : w1.frozen? ⟨w.heap.size, 0, none⟩ = false := by refine frozen_later (v := .int .i64 0) hB1 ?_ ?_ <;> simp [go_sem]
  have rf1 : w1.frozen? ⟨w.heap.size, 1, none⟩ = false := by refine frozen_later (v := .int .i64 0) hB1 ?_ ?_ <;> simp [go_sem]
  have rf2 : w1.frozen? ⟨w.heap.size + 1, 0, none⟩ = false := by refine frozen_later (v := .int .i64 0) hB1 ?_ ?_ <;> simp [go_sem]
  have rf3 : w1.frozen? ⟨w.heap.size + 1, 1, none⟩ = false := by refine frozen_later (v := .int .i64 0) hB1 ?_ ?_ <;> simp [go_sem]
  obtain ⟨cb, hcb⟩ : ∃ cb, cb = ((w.alloc (.cells #[.int .i64 0, .int .i64 0] 25)).alloc (.cells #[.int .i64 0, .int .i64 0] 25)).heap.size := ⟨_, rfl⟩
  have hcb2 : w.heap.size + 1 < cb := by rw [hcb]; simp
  rw [← hcb] at hC1 ⊢
  have HC : Hid (Cur w1 cb a len cap zs) := hC1
  clear hC1 hB1 hs1 hcb HR
  go_wp2_with fail
  refine (drawAny_any cb a len cap zs _ HC.out).mono ?_
  rintro e w2 ⟨n, d, rfl, hC2, hE2⟩
  replace HC : Hid (Cur w2 cb a len cap zs) := hC2
  have B2 : Below w.heap.size w w2 := Ex.below B1 hE2 (by omega)
  replace rf0 := hE2.frozen rc0 rf0 (by omega)
  replace rf1 := hE2.frozen rc1 rf1 (by omega)
  replace rf2 := hE2.frozen rc2 rf2 (by omega)
  replace rf3 := hE2.frozen rc3 rf3 (by omega)
  replace rc0 := hE2.cell rc0 (by omega)
  replace rc1 := hE2.cell rc1 (by omega)
  replace rc2 := hE2.cell rc2 (by omega)
  replace rc3 := hE2.cell rc3 (by omega)
  have hcb3 : cb < w2.heap.size := HC.out.lt
  clear hC2 hE2 B1
  go_upto_region 3 with fail
  obtain ⟨W, hW⟩ : ∃ W, W = w2.alloc (.cells #[.int .i64 n, .int .i64 d] 25) := ⟨_, rfl⟩
  have hBW : Below w2.heap.size w2 W := by rw [hW]; exact (Below.refl _ _).alloc (Nat.le_refl _) _
  have k0 : W.cell? ⟨w2.heap.size, 0, none⟩ = some (.int .i64 n) := by rw [hW]; simp [go_sem]
  have k1 : W.cell? ⟨w2.heap.size, 1, none⟩ = some (.int .i64 d) := by rw [hW]; simp [go_sem]
  replace rf0 := frozen_later hBW rc0 rf0
  replace rf1 := frozen_later hBW rc1 rf1
  replace rf2 := frozen_later hBW rc2 rf2
  replace rf3 := frozen_later hBW rc3 rf3
  replace rc0 := cell_later hBW rc0
  replace rc1 := cell_later hBW rc1
  replace rc2 := cell_later hBW rc2
  replace rc3 := cell_later hBW rc3
  replace HC : Hid (Cur W cb a len cap zs) := HC.out.below hBW
  replace B2 : Hid (Below w.heap.size w W) := B2.trans (hBW.mono B2.size)
  rw [← hW]
  clear hW hBW
  go_region_held3 (fun w' => w'.cell? ⟨w2.heap.size, 0, none⟩ = some (.int .i64 n) ∧ w'.cell? ⟨w2.heap.size, 1, none⟩ = some (.int .i64 d)) (refine ⟨?_, ?_⟩ <;> (repeat (with_reducible (first | exact k0 | exact k1 | refine cell_dr ?_ | exact hx0 | exact hx1 | refine cell_stb ?_ ?_ | (show _ ≠ _; omega)))))
    (first | (go_at_call 44; refine (drawAny_any cb a len cap zs _ ?hcur).mono ?_; (case hcur => exact HC.out.below (Below.drew (Below.refl _ _))); rintro e w3 ⟨p, q, rfl, hC3, hE3⟩; have hx0 : w3.cell? ⟨w2.heap.size, 0, none⟩ = some (.int .i64 n) := (hE3.cell k0 (by omega)); have hx1 : w3.cell? ⟨w2.heap.size, 1, none⟩ = some (.int .i64 d) := (hE3.cell k1 (by omega)); have B3 : Below w.heap.size w w3 := (Ex.below B2.out.drew hE3 (by omega)); have s0 := hE3.frozen rc0 rf0 (by omega); have s1 := hE3.frozen rc1 rf1 (by omega); have s2 := hE3.frozen rc2 rf2 (by omega); have s3 := hE3.frozen rc3 rf3 (by omega); have t0 := hE3.cell rc0 (by omega); have t1 := hE3.cell rc1 (by omega); have t2 := hE3.cell rc2 (by omega); have t3 := hE3.cell rc3 (by omega); clear hE3 hC3))
  go_wp2
  have u0 := (new2 (n := .int .i64 n) (d := .int .i64 d) t0 t1)
  have u2 := (new2 (n := .int .i64 p) (d := .int .i64 q) (cell_stb (u := .int .i64 d) (q := 1) (c := w.heap.size) (cell_stb (u := .int .i64 n) (q := 0) (c := w.heap.size) t2 (by omega)) (by omega)) (cell_stb (u := .int .i64 d) (q := 1) (c := w.heap.size) (cell_stb (u := .int .i64 n) (q := 0) (c := w.heap.size) t3 (by omega)) (by omega)))
  have r0 := cell_stb (u := .int .i64 q) (q := 1) (c := w.heap.size + 1) (cell_stb (u := .int .i64 p) (q := 0) (c := w.heap.size + 1) u0.1 (by omega)) (by omega)
  have r1 := cell_stb (u := .int .i64 q) (q := 1) (c := w.heap.size + 1) (cell_stb (u := .int .i64 p) (q := 0) (c := w.heap.size + 1) u0.2 (by omega)) (by omega)
  exact bodyPost_ret (v := .tuple #[.agg #[.int .i64 n, .int .i64 d], .agg #[.int .i64 p, .int .i64 q]]) (by simp [results, Try.results8, go_sem, r0, r1, u2.1, u2.2]) rfl ⟨_, _, _, _, rfl, (((B3.setCell (Nat.le_refl _) _).setCell (Nat.le_refl _) _).setCell (by simp) _).setCell (by simp) _⟩

set_option maxHeartbeats 800000 in
theorem dLess_any (a : Option Addr) (len cap : Nat) (zs : List Int) (w : World) (hr : IsRow .u8 w a len cap zs) :
    Calls Try.prog 23 #[.slice a len cap] w fun e w' => ∃ n d p q : Int, e = .returned (.tuple #[.agg #[.int .i64 n, .int .i64 d], .agg #[.int .i64 p, .int .i64 q]]) ∧ Below w.heap.size w w' := by
  have HR : Hid (IsRow .u8 ((w.alloc (.cells #[.int .i64 0, .int .i64 0] 25)).alloc (.cells #[.int .i64 0, .int .i64 0] 25)) a len cap zs) := (hr.below ((Below.refl _ _).alloc (Nat.le_refl _) _)).below ((Below.refl _ _).alloc (Nat.le_refl _) _)
  clear hr
  go_enter Try.func23, Try.ntmps23
  go_wp2_with fail
  refine (dAdd_any a len cap zs _ HR.out).mono ?_
  rintro e w1 ⟨n, d, p, q, rfl, hB1⟩
  have B1 : Below w.heap.size w w1 := (below_alN _ (below_alN _ (Below.refl _ _))).trans (hB1.mono (by simp <;> omega))
  have t0 : w1.cell? ⟨w.heap.size, 0, none⟩ = some (.int .i64 0) := by refine cell_later hB1 ?_; simp [go_sem]
  have t1 : w1.cell? ⟨w.heap.size, 1, none⟩ = some (.int .i64 0) := by refine cell_later hB1 ?_; simp [go_sem]
  have t2 : w1.cell? ⟨w.heap.size + 1, 0, none⟩ = some (.int .i64 0) := by refine cell_later hB1 ?_; simp [go_sem]
  have t3 : w1.cell? ⟨w.heap.size + 1, 1, none⟩ = some (.int .i64 0) := by refine cell_later hB1 ?_; simp [go_sem]
  have rf0 : w1.frozen? ⟨w.heap.size, 0, none⟩ = false := by refine frozen_later (v := .int .i64 0) hB1 ?_ ?_ <;> simp [go_sem]
  have rf1 : w1.frozen? ⟨w.heap.size, 1, none⟩ = false := by refine frozen_later (v := .int .i64 0) hB1 ?_ ?_ <;> simp [go_sem]
  have rf2 : w1.frozen? ⟨w.heap.size + 1, 0, none⟩ = false := by refine frozen_later (v := .int .i64 0) hB1 ?_ ?_ <;> simp [go_sem]
  have rf3 : w1.frozen? ⟨w.heap.size + 1, 1, none⟩ = false := by refine frozen_later (v := .int .i64 0) hB1 ?_ ?_ <;> simp [go_sem]
  clear hB1 HR
  go_wp2
  have u0 := (new2 (n := .int .i64 n) (d := .int .i64 d) t0 t1)
  have u2 := (new2 (n := .int .i64 p) (d := .int .i64 q) (cell_stb (u := .int .i64 d) (q := 1) (c := w.heap.size) (cell_stb (u := .int .i64 n) (q := 0) (c := w.heap.size) t2 (by omega)) (by omega)) (cell_stb (u := .int .i64 d) (q := 1) (c := w.heap.size) (cell_stb (u := .int .i64 n) (q := 0) (c := w.heap.size) t3 (by omega)) (by omega)))
  have r0 := cell_stb (u := .int .i64 q) (q := 1) (c := w.heap.size + 1) (cell_stb (u := .int .i64 p) (q := 0) (c := w.heap.size + 1) u0.1 (by omega)) (by omega)
  have r1 := cell_stb (u := .int .i64 q) (q := 1) (c := w.heap.size + 1) (cell_stb (u := .int .i64 p) (q := 0) (c := w.heap.size + 1) u0.2 (by omega)) (by omega)
  exact bodyPost_ret (v := .tuple #[.agg #[.int .i64 n, .int .i64 d], .agg #[.int .i64 p, .int .i64 q]]) (by simp [results, Try.results23, go_sem, r0, r1, u2.1, u2.2]) rfl ⟨_, _, _, _, rfl, (((B1.setCell (Nat.le_refl _) _).setCell (Nat.le_refl _) _).setCell (by simp) _).setCell (by simp) _⟩

set_option maxHeartbeats 800000 in
theorem dFloor_any (a : Option Addr) (len cap : Nat) (zs : List Int) (w : World) (hr : IsRow .u8 w a len cap zs) :
    Calls Try.prog 24 #[.slice a len cap] w fun e w' => ∃ n d : Int, e = .returned (.agg #[.int .i64 n, .int .i64 d]) ∧ Below w.heap.size w w' := by
  have HR : Hid (IsRow .u8 (w.alloc (.cells #[.int .i64 0, .int .i64 0] 25)) a len cap zs) := hr.below ((Below.refl _ _).alloc (Nat.le_refl _) _)
  clear hr
  go_enter Try.func24, Try.ntmps24
  go_wp2_with fail
  refine (dRatio_any a len cap zs _ HR.out).mono ?_
  rintro e w1 ⟨n, d, rfl, hB1⟩
  have B1 : Below w.heap.size w w1 := ((Below.refl _ _).alloc (Nat.le_refl _) _).trans (hB1.mono (by simp))
  have rc0 : w1.cell? ⟨w.heap.size, 0, none⟩ = some (.int .i64 0) := by refine cell_later hB1 ?_; simp [go_sem]
  have rc1 : w1.cell? ⟨w.heap.size, 1, none⟩ = some (.int .i64 0) := by refine cell_later hB1 ?_; simp [go_sem]
  have rf0 : w1.frozen? ⟨w.heap.size, 0, none⟩ = false := by refine frozen_later (v := .int .i64 0) hB1 ?_ ?_ <;> simp [go_sem]
  have rf1 : w1.frozen? ⟨w.heap.size, 1, none⟩ = false := by refine frozen_later (v := .int .i64 0) hB1 ?_ ?_ <;> simp [go_sem]
  clear hB1 HR
  have r0 := (new2 (n := .int .i64 n) (d := .int .i64 d) rc0 rc1)
  go_wp2
  exact bodyPost_ret (v := .agg #[.int .i64 n, .int .i64 d]) (by simp [results, Try.results24, go_sem, r0.1, r0.2]) rfl ⟨_, _, rfl, (B1.setCell (Nat.le_refl _) _).setCell (Nat.le_refl _) _⟩

theorem big_any (a : Option Addr) (len cap : Nat) (w : World) :
    Calls Try.prog 7 #[.slice a len cap] w fun e w' => e = .returned (.bool (decide (4096 < (len : Int)))) ∧ w' = w := by
  by_cases h : 4096 < (len : Int)
  · rw [decide_eq_true h]
    go_enter Try.func7, Try.ntmps7
    go_wp2
    go_ret
    exact ⟨rfl, rfl⟩
  · rw [decide_eq_false h]
    go_enter Try.func7, Try.ntmps7
    go_wp2
    go_ret
    exact ⟨rfl, rfl⟩

theorem whole_any (n : Int) (w : World) :
    Calls Try.prog 29 #[.int .i64 n] w fun e w' => e = .returned (.agg #[.int .i64 n, .int .i64 1]) ∧ w' = w.alloc (.cells #[.int .i64 n, .int .i64 1] 25) := by
  go_enter Try.func29, Try.ntmps29
  go_wp2
  exact bodyPost_ret (v := .agg #[.int .i64 n, .int .i64 1]) (by simp [results, Try.results29, go_sem]) rfl ⟨rfl, rfl⟩

set_option maxHeartbeats 800000 in
theorem pick_any (a : Option Addr) (len cap : Nat) (zs : List Int) (seed n : Int) (w : World) (hr : IsRow .u8 w a len cap zs) (hl : len ≤ 4096) (hs0 : 0 ≤ seed) (hs1 : seed ≤ 1000) (hn : 0 < n) :
    Calls Try.prog 60 #[.slice a len cap, .int .i64 seed, .int .i64 n] w fun e w' => ∃ x : Int, e = .returned (.int .i64 x) ∧ 0 ≤ x ∧ x < n ∧ w' = w := by
  have HR : Hid (IsRow .u8 w a len cap zs) := hr
  clear hr
  go_enter Try.func60, Try.ntmps60
  go_wp2
  go_loop [7, 8] (fun x y => ∃ (h : Int) (k : Nat), 0 ≤ h ∧ h ≤ 10000000 ∧ k ≤ len ∧ x = .int .i64 h ∧ y = .int .i64 k) (fun _ y => len - (intOf y).toNat)
  case atStart => exact ⟨_, 0, by omega, by omega, Nat.zero_le _, rfl, rfl⟩
  case round =>
    obtain ⟨h, k, hh0, hh1, hk, rfl, rfl⟩ := hrel
    by_cases hlt : k < len
    · rcases HR.out with ⟨rfl, _⟩ | ⟨b, off, rfl, g1, g2, g3, g4, g5⟩
      · omega
      · have hx := g4 k (by omega)
        have hwf := range_u8 g5 k
        have hy : ∃ y, w.cell? ⟨b, off + k, none⟩ = some (.int .u8 y) ∧ 0 ≤ y ∧ y ≤ 255 := ⟨_, hx, by rw [List.getD_eq_getElem?_getD]; exact hwf.1, by rw [List.getD_eq_getElem?_getD]; exact hwf.2⟩
        obtain ⟨y, hy1, hy2, hy3⟩ := hy
        clear hx hwf g4 g5
        have hm := rem_in (h * 139 + y + seed) 1000003 (by omega)
        obtain ⟨hm0, hm1⟩ := hm
        go_wp2
        go_round
        case rel => exact ⟨_, k + 1, hm0, by omega, by omega, rfl, by go_num⟩
        case measure => simp [intOf]; omega
    · have hm := rem_in h n hn
      obtain ⟨hm0, hm1⟩ := hm
      have hn0 : ¬ n = 0 := by omega
      go_wp2
      go_ret
      exact ⟨_, rfl, hm0, hm1, rfl⟩

set_option maxHeartbeats 800000 in
theorem part_any (a : Option Addr) (len cap : Nat) (zs : List Int) (seed : Int) (w : World) (hr : IsRow .u8 w a len cap zs) (hl : len ≤ 4096) (hs0 : 0 ≤ seed) (hs1 : seed ≤ 900) :
    Calls Try.prog 22 #[.slice a len cap, .int .i64 seed] w fun e w' => ∃ n d : Int, e = .returned (.agg #[.int .i64 n, .int .i64 d]) ∧ okB n d = true ∧ -6 ≤ n ∧ n ≤ 6 ∧ 1 ≤ d ∧ d ≤ 4 ∧ Below w.heap.size w w' := by
  have HR : Hid (IsRow .u8 (w.alloc (.cells #[.int .i64 0, .int .i64 0] 25)) a len cap zs) := hr.below ((Below.refl _ _).alloc (Nat.le_refl _) _)
  clear hr
  go_enter Try.func22, Try.ntmps22
  go_wp2_with fail
  refine (pick_any a len cap zs _ _ _ HR.out hl hs0 (by omega) (by omega)).mono ?_
  rintro e w1 ⟨x, rfl, hx0, hx1, rfl⟩
  go_wp2_with fail
  refine (pick_any a len cap zs _ _ _ HR.out hl (by omega) (by omega) (by omega)).mono ?_
  rintro e w2 ⟨y, rfl, hy0, hy1, rfl⟩
  go_wp2_with fail
  refine (sRed_any _ _ _).mono ?_
  rintro e w3 ⟨rfl, hB3⟩
  obtain ⟨r1, r2, r3, r4, r5, r6⟩ := red_small (x := x - 6) (y := 1 + y) (m := 6) (by omega) (by omega) (by omega) (by omega) (by omega)
  have B3 : Below w.heap.size w w3 := ((Below.refl _ _).alloc (Nat.le_refl _) _).trans (hB3.mono (by simp))
  have rc0 : w3.cell? ⟨w.heap.size, 0, none⟩ = some (.int .i64 0) := by refine cell_later hB3 ?_; simp [go_sem]
  have rc1 : w3.cell? ⟨w.heap.size, 1, none⟩ = some (.int .i64 0) := by refine cell_later hB3 ?_; simp [go_sem]
  have rf0 : w3.frozen? ⟨w.heap.size, 0, none⟩ = false := by refine frozen_later (v := .int .i64 0) hB3 ?_ ?_ <;> simp [go_sem]
  have rf1 : w3.frozen? ⟨w.heap.size, 1, none⟩ = false := by refine frozen_later (v := .int .i64 0) hB3 ?_ ?_ <;> simp [go_sem]
  have hsz : w.heap.size < w3.heap.size := lt_cell rc0
  clear hB3 HR r1
  have r0 : (((w3.setCell ⟨w.heap.size, 0, none⟩ (.int .i64 (redN (x - 6) (1 + y)))).setCell ⟨w.heap.size, 1, none⟩ (.int .i64 (redD (x - 6) (1 + y)))).alloc (.cells #[.int .i64 (redN (x - 6) (1 + y)), .int .i64 (redD (x - 6) (1 + y))] 25)).cell? ⟨w.heap.size, 0, none⟩ = some (.int .i64 (redN (x - 6) (1 + y))) := cell_al _ (new2 rc0 rc1).1
  have r01 : (((w3.setCell ⟨w.heap.size, 0, none⟩ (.int .i64 (redN (x - 6) (1 + y)))).setCell ⟨w.heap.size, 1, none⟩ (.int .i64 (redD (x - 6) (1 + y)))).alloc (.cells #[.int .i64 (redN (x - 6) (1 + y)), .int .i64 (redD (x - 6) (1 + y))] 25)).cell? ⟨w.heap.size, 1, none⟩ = some (.int .i64 (redD (x - 6) (1 + y))) := cell_al _ (new2 rc0 rc1).2
  go_wp2
  exact bodyPost_ret (v := .agg #[.int .i64 (redN (x - 6) (1 + y)), .int .i64 (redD (x - 6) (1 + y))]) (by simp [results, Try.results22, go_sem, r0, r01]) rfl ⟨_, _, rfl, r2, r3, r4, r5, by omega, below_alN _ ((B3.setCell (Nat.le_refl _) _).setCell (Nat.le_refl _) _)⟩
end Go.Proofs.Ytllgbfoffebojaa
