/- The cursor is made, and fractions are drawn by it. -/
import Derived.Test.YthmdiljcceiedaaDrawW1
namespace Go.Proofs.Ythmdiljcceiedaa
open Go.RowKit Go.Proofs.Ythmdiljcceiedaa.RM


set_option maxHeartbeats 800000 in
theorem new_any (a : Option Addr) (len cap : Nat) (zs : List Int) (w : World) (hr : IsRow .u8 w a len cap zs) :
    Calls Try.prog 17 #[.slice a len cap] w fun e w' => e = .returned (.pointer (some ⟨w.heap.size, 0, none⟩)) ∧ Cur w' w.heap.size a len cap zs ∧ Below w.heap.size w w' ∧ w'.heap.size = w.heap.size + 1 := by
  have HR : Hid (IsRow .u8 w a len cap zs) := hr
  have fin : ∀ h : Int, Cur (w.alloc (.cells #[.slice a len cap, .int .i64 0, .int .i64 h] 58)) w.heap.size a len cap zs := by
    intro h
    refine ⟨⟨0, h, Int.le_refl _, by omega, ?_, ?_, ?_, ?_, ?_⟩, hr.below ((Below.refl _ _).alloc (Nat.le_refl _) _), ?_⟩
    all_goals try (simp [go_sem]; done)
    intro b off e hz
    have := hr.lt b off e hz
    omega
  have FIN : Hid (∀ h : Int, Cur (w.alloc (.cells #[.slice a len cap, .int .i64 0, .int .i64 h] 58)) w.heap.size a len cap zs) := fin
  clear fin
  have hlen : len ≤ 9223372036854775807 := by
    rcases hr with ⟨h, _⟩ | ⟨b, off, _, h1, h2, _⟩
    · omega
    · unfold maxLen at h2; omega
  clear hr
  go_enter Try.func17, Try.ntmps17
  go_wp2
  go_loop [3, 4] (fun x y => ∃ (h : Int) (k : Nat), k ≤ len ∧ x = .int .i64 h ∧ y = .int .i64 k) (fun _ y => len - (intOf y).toNat)
  case atStart => exact ⟨_, 0, Nat.zero_le _, rfl, rfl⟩
  case round =>
    obtain ⟨h, k, hk, rfl, rfl⟩ := hrel
    by_cases hlt : k < len
    · rcases HR.out with ⟨rfl, _⟩ | ⟨b, off, rfl, g1, g2, g3, g4, g5⟩
      · omega
      · have hx := g4 k (by omega)
        have hwf := range_u8 g5 k
        have hy : ∃ y, w.cell? ⟨b, off + k, none⟩ = some (.int .u8 y) ∧ 0 ≤ y ∧ y ≤ 255 := ⟨_, hx, by rw [List.getD_eq_getElem?_getD]; exact hwf.1, by rw [List.getD_eq_getElem?_getD]; exact hwf.2⟩
        obtain ⟨y, hy1, hy2, hy3⟩ := hy
        clear hx hwf g4 g5
        go_wp2
        go_round
        case rel => exact ⟨_, k + 1, by omega, rfl, by go_num⟩
        case measure => simp [intOf]; omega
    · go_wp2
      go_ret
      exact ⟨rfl, FIN.out _, (Below.refl _ _).alloc (Nat.le_refl _) _, by simp⟩

set_option maxHeartbeats 800000 in
theorem draw_any (cb : Nat) (a : Option Addr) (len cap : Nat) (zs : List Int) (w : World) (hc : Cur w cb a len cap zs) :
    Calls Try.prog 41 #[.pointer (some ⟨cb, 0, none⟩)] w fun e w' => ∃ n d : Int, e = .returned (.agg #[.int .i64 n, .int .i64 d]) ∧ okB n d = true ∧ -25 ≤ n ∧ n ≤ 25 ∧ 1 ≤ d ∧ d ≤ 6 ∧ Cur w' cb a len cap zs ∧ Ex cb w w' := by
  have HC : Hid (Cur (w.alloc (.cells #[.int .i64 0, .int .i64 0] 27)) cb a len cap zs) := hc.below ((Below.refl _ _).alloc (Nat.le_refl _) _)
  have hlt := hc.lt
  have HROW : Hid (∀ b off, a = some ⟨b, off, none⟩ → 0 < zs.length → b < w.heap.size) := hc.2.1.lt
  clear hc
  go_enter Try.func41, Try.ntmps41
  go_wp2_with fail
  refine (from_any cb _ _ a len cap zs _ HC.out (by omega) (by omega) (by omega)).mono ?_
  rintro e w1 ⟨x, rfl, hx0, hx1, hC1, hE1⟩
  have HC1 : Hid (Cur w1 cb a len cap zs) := hC1
  have HE1 : Hid (Ex cb w w1) := (Ex.alloc (Ex.refl cb w) _).trans hE1
  have c0 : w1.cell? ⟨w.heap.size, 0, none⟩ = some (.int .i64 0) := by refine hE1.cell ?_ (by omega); simp [go_sem]
  have c1 : w1.cell? ⟨w.heap.size, 1, none⟩ = some (.int .i64 0) := by refine hE1.cell ?_ (by omega); simp [go_sem]
  have f0 : w1.frozen? ⟨w.heap.size, 0, none⟩ = false := by refine hE1.frozen (v := .int .i64 0) ?_ ?_ (by omega) <;> simp [go_sem]
  have f1 : w1.frozen? ⟨w.heap.size, 1, none⟩ = false := by refine hE1.frozen (v := .int .i64 0) ?_ ?_ (by omega) <;> simp [go_sem]
  clear hC1 hE1 HC
  go_wp2_with fail
  refine (below_any cb _ a len cap zs _ HC1.out (by omega)).mono ?_
  rintro e w2 ⟨y, rfl, hy0, hy1, hC2, hE2⟩
  have HC2 : Hid (Cur w2 cb a len cap zs) := hC2
  have HE2 : Hid (Ex cb w w2) := HE1.out.trans hE2
  have d0 := hE2.cell c0 (by omega)
  have d1 := hE2.cell c1 (by omega)
  have k0 := hE2.frozen c0 f0 (by omega)
  have k1 := hE2.frozen c1 f1 (by omega)
  clear hC2 hE2 HC1 HE1 c0 c1 f0 f1
  go_wp2_with fail
  refine (sRed_any _ _ _).mono ?_
  rintro e w3 ⟨rfl, hb3⟩
  obtain ⟨r1, r2, r3, r4, r5, r6⟩ := red_small (x := x) (y := 1 + y) (m := 25) (by omega) (by omega) (by omega) (by omega) (by omega)
  have HC3 : Hid (Cur w3 cb a len cap zs) := HC2.out.below hb3
  have HE3 : Hid (Ex cb w w3) := HE2.out.trans (Ex.of_below hb3)
  have e0 := cell_later hb3 d0
  have e1 := cell_later hb3 d1
  have q0 : w3.frozen? ⟨w.heap.size, 0, none⟩ = false := (Ex.of_below (cb := cb) hb3).frozen d0 k0 (by omega)
  have q1 : w3.frozen? ⟨w.heap.size, 1, none⟩ = false := (Ex.of_below (cb := cb) hb3).frozen d1 k1 (by omega)
  have hsz : w.heap.size < w3.heap.size := lt_cell e0
  clear hb3 HC2 HE2 d0 d1 k0 k1 r1
  have r0 : (((w3.setCell ⟨w.heap.size, 0, none⟩ (.int .i64 (redN x (1 + y)))).setCell ⟨w.heap.size, 1, none⟩ (.int .i64 (redD x (1 + y)))).alloc (.cells #[.int .i64 (redN x (1 + y)), .int .i64 (redD x (1 + y))] 27)).cell? ⟨w.heap.size, 0, none⟩ = some (.int .i64 (redN x (1 + y))) := cell_al _ (new2 e0 e1).1
  have r01 : (((w3.setCell ⟨w.heap.size, 0, none⟩ (.int .i64 (redN x (1 + y)))).setCell ⟨w.heap.size, 1, none⟩ (.int .i64 (redD x (1 + y)))).alloc (.cells #[.int .i64 (redN x (1 + y)), .int .i64 (redD x (1 + y))] 27)).cell? ⟨w.heap.size, 1, none⟩ = some (.int .i64 (redD x (1 + y))) := cell_al _ (new2 e0 e1).2
  go_wp2
  refine bodyPost_ret (v := .agg #[.int .i64 (redN x (1 + y)), .int .i64 (redD x (1 + y))]) (by simp [results, Try.results41, go_sem, r0, r01]) rfl ⟨_, _, rfl, r2, r3, r4, r5, by omega, ?_, ?_⟩
  · exact HC3.out.ex (x := w.heap.size) ((((Ex.refl _ w3).setCell (.inl rfl) _).setCell (.inl rfl) _).alloc _) (by omega) (fun b off e hz => by have := HROW.out b off e hz; omega)
  · exact ((HE3.out.setCell (.inr (Nat.le_refl _)) _).setCell (.inr (Nat.le_refl _)) _).alloc _
end Go.Proofs.Ythmdiljcceiedaa
