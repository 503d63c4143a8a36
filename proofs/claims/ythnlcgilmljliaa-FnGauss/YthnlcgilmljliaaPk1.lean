/- Several texts of this proof laid one behind the other: each has its own heading below. -/
import Derived.Test.YthnlcgilmljliaaDrawW3
import Derived.Test.YthnlcgilmljliaaTimW3
import Derived.Deep.RegionHeld3
import Derived.Deep.DeepCutAuto
import Derived.Test.YthnlcgilmljliaaRowsW

/- Lists and tables of fractions that are drawn. -/
namespace Go.Proofs.Ythnlcgilmljliaa
open Go.RowKit Go.Proofs.Ythnlcgilmljliaa.RM

theorem cellsR_snoc (ps : List Fr) (x y : Int) : cellsR (ps ++ [(x, y)]) = cellsR ps ++ [Value.int .i64 x, .int .i64 y] := by simp [cellsR]
theorem hidW {p : Prop} (h : p) : Hid p := h
theorem cur_grown {w w' : World} {cb : Nat} {a : Option Addr} {len cap : Nat} {zs : List Int} {row : Option Nat} (h : Cur w cb a len cap zs) (hg : w.grownBy w' row) (hne : row ≠ some cb) (hrow : ∀ b off, a = some ⟨b, off, none⟩ → 0 < zs.length → row ≠ some b) : Cur w' cb a len cap zs := by
  cases row with
  | none => exact h.below ⟨hg.os, hg.tape, hg.output, hg.size, fun k hk => hg.block k hk (by simp)⟩
  | some g => exact h.ex (x := g) ⟨hg.os, hg.tape, hg.output, hg.size, fun k hk hne => hg.block k hk (by simpa using hne)⟩ (by simpa using hne) (fun b off e hz hb => hrow b off e hz (by rw [hb]))
/-- a row that lies beyond the cursor stays where the cursor moves -/
theorem ownEx {w w' : World} {cb base : Nat} {e : TypeId} {size : Nat} {v : Value} {n : Nat} {xs : List Value} (h : w.ownsRow base e size v n xs) (hx : Ex cb w w') (hc : cb < base) : w'.ownsRow base e size v n xs := by
  refine h.kept (row := some cb) ⟨hx.1, hx.2.1, hx.2.2.1, hx.2.2.2.1, fun k hk hne => hx.2.2.2.2 k hk (by simpa using hne)⟩ (.inr fun e => ?_)
  have := (h.lt cb e).1
  omega
theorem Tab.ex {w w' : World} {cb base : Nat} {v : Value} {us : List Value} {rows : List (List Fr)} (h : Tab w base v us rows) (hx : Ex cb w w') (hc : cb < base) : Tab w' base v us rows :=
  ⟨ownEx h.outer hx hc, h.len, fun i hi => ownEx (h.inner i hi) hx hc, h.apart⟩
/-- the cursor stays where a row beyond it grows -/
theorem curRow {w w1 : World} {cb base : Nat} {a : Option Addr} {len cap : Nat} {zs : List Int} {e : TypeId} {size : Nat} {v : Value} {n : Nat} {xs : List Value} {o : Obj} (h : Cur w cb a len cap zs) (hr : w.ownsRow base e size v n xs) (hc : cb < base) (ha : ∀ b off, a = some ⟨b, off, none⟩ → 0 < zs.length → b < base) (hg : (w.alloc o).grownBy w1 v.ownBlock) : Cur w1 cb a len cap zs := by
  have h1 : Cur (w.alloc o) cb a len cap zs := h.below ((Below.refl _ _).alloc (Nat.le_refl _) _)
  refine cur_grown h1 hg (fun e => ?_) (fun b off e hz hb => ?_)
  · have := (hr.lt cb e).1; omega
  · have := (hr.lt b hb).1; have := ha b off e hz; omega
/-- all else stays where a row beyond it grows -/
theorem exRow {w0 w w1 : World} {cb base : Nat} {e : TypeId} {size : Nat} {v : Value} {n : Nat} {xs : List Value} {o : Obj} (h : Ex cb w0 w) (hr : w.ownsRow base e size v n xs) (hb : w0.heap.size ≤ base) (hg : (w.alloc o).grownBy w1 v.ownBlock) : Ex cb w0 w1 := by
  have h1 := h.alloc o
  refine ⟨hg.os.trans h1.1, hg.tape.trans h1.2.1, hg.output.trans h1.2.2.1, Nat.le_trans h1.size hg.size, fun k hk hne => ?_⟩
  refine (hg.block k (Nat.lt_of_lt_of_le hk h1.size) (fun e => ?_)).trans (h1.2.2.2.2 k hk hne)
  have := (hr.lt k e.symm).1
  omega
theorem exSet {w0 w : World} {cb b o : Nat} {u : Value} (h : Ex cb w0 w) (hb : w0.heap.size ≤ b) : Ex cb w0 (w.setCell ⟨b, o, none⟩ u) := h.setCell (.inr hb) u
theorem curSet {w : World} {cb b o : Nat} {a : Option Addr} {len cap : Nat} {zs : List Int} {u : Value} (h : Cur w cb a len cap zs) (hc : cb ≠ b) (ha : ∀ b' off, a = some ⟨b', off, none⟩ → 0 < zs.length → b' ≠ b) : Cur (w.setCell ⟨b, o, none⟩ u) cb a len cap zs :=
  h.ex (x := b) ((Ex.refl _ w).setCell (.inl rfl) _) (by omega) (fun b' off e hz hb => ha b' off e hz hb)

end Go.Proofs.Ythnlcgilmljliaa

/- What is drawn from the bytes: one fraction, two of them, small right ones. -/
namespace Go.Proofs.Ythnlcgilmljliaa
open Go.RowKit Go.Proofs.Ythnlcgilmljliaa.RM

theorem big_any (a : Option Addr) (len cap : Nat) (w : World) :
    Calls Try.prog 4 #[.slice a len cap] w fun e w' => e = .returned (.bool (decide (4096 < (len : Int)))) ∧ w' = w := by
  by_cases h : 4096 < (len : Int)
  · rw [decide_eq_true h]
    go_enter Try.func4, Try.ntmps4
    go_wp2
    go_ret
    exact ⟨rfl, rfl⟩
  · rw [decide_eq_false h]
    go_enter Try.func4, Try.ntmps4
    go_wp2
    go_ret
    exact ⟨rfl, rfl⟩

theorem whole_any (n : Int) (w : World) :
    Calls Try.prog 54 #[.int .i64 n] w fun e w' => e = .returned (.agg #[.int .i64 n, .int .i64 1]) ∧ w' = w.alloc (.cells #[.int .i64 n, .int .i64 1] 33) := by
  go_enter Try.func54, Try.ntmps54
  go_wp2
  exact bodyPost_ret (v := .agg #[.int .i64 n, .int .i64 1]) (by simp [results, Try.results54, go_sem]) rfl ⟨rfl, rfl⟩

set_option maxHeartbeats 800000 in
theorem pick_any (a : Option Addr) (len cap : Nat) (zs : List Int) (seed n : Int) (w : World) (hr : IsRow .u8 w a len cap zs) (hl : len ≤ 4096) (hs0 : 0 ≤ seed) (hs1 : seed ≤ 1000) (hn : 0 < n) :
    Calls Try.prog 20 #[.slice a len cap, .int .i64 seed, .int .i64 n] w fun e w' => ∃ x : Int, e = .returned (.int .i64 x) ∧ 0 ≤ x ∧ x < n ∧ w' = w := by
  have HR : Hid (IsRow .u8 w a len cap zs) := hr
  clear hr
  go_enter Try.func20, Try.ntmps20
  go_wp2
  go_loop [7, 8] (fun x y => ∃ (h : Int) (k : Nat), 0 ≤ h ∧ h ≤ 10000000 ∧ k ≤ len ∧ x = .int .i64 h ∧ y = .int .i64 k) (fun _ y => len - (intOf y).toNat)
  case atStart => exact ⟨_, 0, by omega, by omega, Nat.zero_le _, rfl, rfl⟩
  case round =>
    obtain ⟨h, k, hh0, hh1, hk, rfl, rfl⟩ := hrel
    by_cases hlt : k < len
    · rcases HR.out with ⟨rfl, _⟩ | ⟨b, off, rfl, g1, g2, g3, g4, g5⟩
      · omega
      · have hx := g4 k (by omega)
        have hwf := range_u8 g5 k
        have hy : ∃ y, w.cell? ⟨b, off + k, none⟩ = some (.int .u8 y) ∧ 0 ≤ y ∧ y ≤ 255 := ⟨_, hx, by rw [List.getD_eq_getElem?_getD]; exact hwf.1, by rw [List.getD_eq_getElem?_getD]; exact hwf.2⟩
        obtain ⟨y, hy1, hy2, hy3⟩ := hy
        clear hx hwf g4 g5
        have hm := rem_in (h * 139 + y + seed) 1000003 (by omega)
        obtain ⟨hm0, hm1⟩ := hm
        go_wp2
        go_round
        case rel => exact ⟨_, k + 1, hm0, by omega, by omega, rfl, by go_num⟩
        case measure => simp [intOf]; omega
    · have hm := rem_in h n hn
      obtain ⟨hm0, hm1⟩ := hm
      have hn0 : ¬ n = 0 := by omega
      go_wp2
      go_ret
      exact ⟨_, rfl, hm0, hm1, rfl⟩

set_option maxHeartbeats 800000 in
theorem part_any (a : Option Addr) (len cap : Nat) (zs : List Int) (seed : Int) (w : World) (hr : IsRow .u8 w a len cap zs) (hl : len ≤ 4096) (hs0 : 0 ≤ seed) (hs1 : seed ≤ 900) :
    Calls Try.prog 22 #[.slice a len cap, .int .i64 seed] w fun e w' => ∃ n d : Int, e = .returned (.agg #[.int .i64 n, .int .i64 d]) ∧ okB n d = true ∧ -6 ≤ n ∧ n ≤ 6 ∧ 1 ≤ d ∧ d ≤ 4 ∧ Below w.heap.size w w' := by
  have HR : Hid (IsRow .u8 (w.alloc (.cells #[.int .i64 0, .int .i64 0] 33)) a len cap zs) := hr.below ((Below.refl _ _).alloc (Nat.le_refl _) _)
  clear hr
  go_enter Try.func22, Try.ntmps22
  go_wp2_with fail
  refine (pick_any a len cap zs _ _ _ HR.out hl hs0 (by omega) (by omega)).mono ?_
  rintro e w1 ⟨x, rfl, hx0, hx1, rfl⟩
  go_wp2_with fail
  refine (pick_any a len cap zs _ _ _ HR.out hl (by omega) (by omega) (by omega)).mono ?_
  rintro e w2 ⟨y, rfl, hy0, hy1, rfl⟩
  go_wp2_with fail
  refine (sRed_any _ _ _).mono ?_
  rintro e w3 ⟨rfl, hB3⟩
  obtain ⟨r1, r2, r3, r4, r5, r6⟩ := red_small (x := x - 6) (y := 1 + y) (m := 6) (by omega) (by omega) (by omega) (by omega) (by omega)
  have B3 : Below w.heap.size w w3 := ((Below.refl _ _).alloc (Nat.le_refl _) _).trans (hB3.mono (by simp))
  have rc0 : w3.cell? ⟨w.heap.size, 0, none⟩ = some (.int .i64 0) := by refine cell_later hB3 ?_; simp [go_sem]
  have rc1 : w3.cell? ⟨w.heap.size, 1, none⟩ = some (.int .i64 0) := by refine cell_later hB3 ?_; simp [go_sem]
  have rf0 : w3.frozen? ⟨w.heap.size, 0, none⟩ = false := by refine frozen_later (v := .int .i64 0) hB3 ?_ ?_ <;> simp [go_sem]
  have rf1 : w3.frozen? ⟨w.heap.size, 1, none⟩ = false := by refine frozen_later (v := .int .i64 0) hB3 ?_ ?_ <;> simp [go_sem]
  have hsz : w.heap.size < w3.heap.size := lt_cell rc0
  clear hB3 HR r1
  have r0 : (((w3.setCell ⟨w.heap.size, 0, none⟩ (.int .i64 (redN (x - 6) (1 + y)))).setCell ⟨w.heap.size, 1, none⟩ (.int .i64 (redD (x - 6) (1 + y)))).alloc (.cells #[.int .i64 (redN (x - 6) (1 + y)), .int .i64 (redD (x - 6) (1 + y))] 33)).cell? ⟨w.heap.size, 0, none⟩ = some (.int .i64 (redN (x - 6) (1 + y))) := cell_al _ (new2 rc0 rc1).1
  have r01 : (((w3.setCell ⟨w.heap.size, 0, none⟩ (.int .i64 (redN (x - 6) (1 + y)))).setCell ⟨w.heap.size, 1, none⟩ (.int .i64 (redD (x - 6) (1 + y)))).alloc (.cells #[.int .i64 (redN (x - 6) (1 + y)), .int .i64 (redD (x - 6) (1 + y))] 33)).cell? ⟨w.heap.size, 1, none⟩ = some (.int .i64 (redD (x - 6) (1 + y))) := cell_al _ (new2 rc0 rc1).2
  go_wp2
  exact bodyPost_ret (v := .agg #[.int .i64 (redN (x - 6) (1 + y)), .int .i64 (redD (x - 6) (1 + y))]) (by simp [results, Try.results22, go_sem, r0, r01]) rfl ⟨_, _, rfl, r2, r3, r4, r5, by omega, below_alN _ ((B3.setCell (Nat.le_refl _) _).setCell (Nat.le_refl _) _)⟩
end Go.Proofs.Ythnlcgilmljliaa

/- What is drawn for the law of terms: a fraction, and a list of numbers. -/
namespace Go.Proofs.Ythnlcgilmljliaa
open Go.RowKit Go.Proofs.Ythnlcgilmljliaa.RM

def slLen : Value → Nat
  | .slice _ n _ => n
  | _ => 0
theorem Cur.grown {w w' : World} {cb : Nat} {a : Option Addr} {len cap : Nat} {zs : List Int} {row : Option Nat} (h : Cur w cb a len cap zs) (hg : w.grownBy w' row) (hne : row ≠ some cb) (hrow : ∀ b off, a = some ⟨b, off, none⟩ → 0 < zs.length → row ≠ some b) : Cur w' cb a len cap zs := by
  cases row with
  | none => exact h.below ⟨hg.os, hg.tape, hg.output, hg.size, fun k hk => hg.block k hk (by simp)⟩
  | some g => exact h.ex (x := g) ⟨hg.os, hg.tape, hg.output, hg.size, fun k hk hne => hg.block k hk (by simpa using hne)⟩ (by simpa using hne) (fun b off e hz hb => hrow b off e hz (by rw [hb]))
/-- a row that lies beyond the cursor stays where the cursor moves -/
theorem own_ex {w w' : World} {cb base : Nat} {e : TypeId} {size : Nat} {v : Value} {n : Nat} {xs : List Value} (h : w.ownsRow base e size v n xs) (hx : Ex cb w w') (hc : cb < base) : w'.ownsRow base e size v n xs := by
  refine h.kept (row := some cb) ⟨hx.1, hx.2.1, hx.2.2.1, hx.2.2.2.1, fun k hk hne => hx.2.2.2.2 k hk (by simpa using hne)⟩ (.inr fun e => ?_)
  have := (h.lt cb e).1
  omega
/-- the cursor stays where a row beyond it grows -/
theorem Cur.row {w w1 : World} {cb base : Nat} {a : Option Addr} {len cap : Nat} {zs : List Int} {e : TypeId} {size : Nat} {v : Value} {n : Nat} {xs : List Value} {o : Obj} (h : Cur w cb a len cap zs) (hr : w.ownsRow base e size v n xs) (hc : cb < base) (ha : ∀ b off, a = some ⟨b, off, none⟩ → 0 < zs.length → b < base) (hg : (w.alloc o).grownBy w1 v.ownBlock) : Cur w1 cb a len cap zs := by
  have h1 : Cur (w.alloc o) cb a len cap zs := h.below ((Below.refl _ _).alloc (Nat.le_refl _) _)
  refine h1.grown hg (fun e => ?_) (fun b off e hz hb => ?_)
  · have := (hr.lt cb e).1; omega
  · have := (hr.lt b hb).1; have := ha b off e hz; omega

end Go.Proofs.Ythnlcgilmljliaa

/- A fraction and a bound that are drawn for Nearest. -/
namespace Go.Proofs.Ythnlcgilmljliaa
open Go.RowKit Go.Proofs.Ythnlcgilmljliaa.RM

theorem isR_ex {w w' : World} {cb R : Nat} {n d : Int} (h : IsR w R n d) (hx : Ex cb w w') (hne : R ≠ cb) : IsR w' R n d := (hx.2.2.2.2 R h.lt hne).trans h
theorem isR_st {W : World} {R b : Nat} {n d : Int} (h : IsR W R n d) (hne : R ≠ b) (o : Nat) (v : Value) : IsR (W.setCell ⟨b, o, none⟩ v) R n d := (Below.heap_setCell W ⟨b, o, none⟩ v R hne).trans h

end Go.Proofs.Ythnlcgilmljliaa
