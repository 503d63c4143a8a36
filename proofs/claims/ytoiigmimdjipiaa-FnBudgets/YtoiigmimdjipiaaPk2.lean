/- Several texts of this proof laid one behind the other: each has its own heading below. -/
import Derived.Test.YtoiigmimdjipiaaRatioW3
import Derived.OpenShut
import Derived.Deep.RegionHeld3
import Derived.Deep.DeepCutAuto
import Derived.Test.YtoiigmimdjipiaaRowsR
import Derived.Test.YtoiigmimdjipiaaTabW0
import Derived.Deep.RegionWith
import Derived.Test.YtoiigmimdjipiaaBudP10
import Derived.Test.YtoiigmimdjipiaaPk1
import Derived.Test.YtoiigmimdjipiaaTimW3
import Derived.Deep.DeepMust
import Derived.Deep.LoopGhost
import Derived.Test.YtoiigmimdjipiaaBudW6

/- The cursor over the bytes of a draw: what each step of it keeps. -/
namespace Go.Proofs.Ytoiigmimdjipiaa
open Go.RowKit Go.Proofs.Ytoiigmimdjipiaa.RM

/-- what the walk is told of a slice of bytes that came in: it is empty, or it leads to a row of numbers -/
def IsRow (k : IntKind) (w : World) (a : Option Addr) (len cap : Nat) (zs : List Int) : Prop :=
  (len = 0 ∧ cap = 0 ∧ zs = []) ∨
  ∃ b off, a = some ⟨b, off, none⟩ ∧ len ≤ cap ∧ cap ≤ maxLen ∧ zs.length = cap ∧ (∀ i, i < zs.length → w.cell? ⟨b, off + i, none⟩ = some (.int k (zs.getD i 0))) ∧ ∀ n ∈ zs, (Lit.int k n).wf = true

/-- all blocks but one are as they were -/
def Ex (cb : Nat) (w w' : World) : Prop :=
  w'.os = w.os ∧ w'.tape = w.tape ∧ w'.output = w.output ∧ w.heap.size ≤ w'.heap.size ∧ ∀ k, k < w.heap.size → k ≠ cb → w'.heap[k]? = w.heap[k]?
theorem Ex.refl (cb : Nat) (w : World) : Ex cb w w := ⟨rfl, rfl, rfl, Nat.le_refl _, fun _ _ _ => rfl⟩
theorem Ex.trans {cb : Nat} {a b c : World} (h : Ex cb a b) (k : Ex cb b c) : Ex cb a c :=
  ⟨k.1.trans h.1, k.2.1.trans h.2.1, k.2.2.1.trans h.2.2.1, Nat.le_trans h.2.2.2.1 k.2.2.2.1, fun n hn hne => (k.2.2.2.2 n (Nat.lt_of_lt_of_le hn h.2.2.2.1) hne).trans (h.2.2.2.2 n hn hne)⟩
theorem Ex.size {cb : Nat} {w w' : World} (h : Ex cb w w') : w.heap.size ≤ w'.heap.size := h.2.2.2.1
theorem Ex.of_below {cb : Nat} {w w' : World} (h : Below w.heap.size w w') : Ex cb w w' := ⟨h.os, h.tape, h.output, h.size, fun k hk _ => h.block k hk⟩
theorem Ex.cell {cb : Nat} {w w' : World} (h : Ex cb w w') {b o : Nat} {v : Value} (hc : w.cell? ⟨b, o, none⟩ = some v) (hne : b ≠ cb) : w'.cell? ⟨b, o, none⟩ = some v := by
  have hb : b < w.heap.size := World.block_lt_of_cell? w _ hc
  rw [World.cell?_of_block (w := w) (a := ⟨b, o, none⟩) (h.2.2.2.2 b hb hne)]; exact hc
theorem Ex.frozen {cb : Nat} {w w' : World} (h : Ex cb w w') {b o : Nat} {v : Value} (hc : w.cell? ⟨b, o, none⟩ = some v) (hf : w.frozen? ⟨b, o, none⟩ = false) (hne : b ≠ cb) : w'.frozen? ⟨b, o, none⟩ = false := by
  have hb : b < w.heap.size := World.block_lt_of_cell? w _ hc
  rw [World.frozen?_of_block (w := w) (a := ⟨b, o, none⟩) (h.2.2.2.2 b hb hne)]; exact hf
theorem Ex.alloc {cb : Nat} {a w : World} (h : Ex cb a w) (o : Obj) : Ex cb a (w.alloc o) := by
  have hb : Below w.heap.size w (w.alloc o) := (Below.refl _ _).alloc (Nat.le_refl _) _
  exact h.trans (Ex.of_below hb)
theorem Ex.drew {cb : Nat} {a w : World} (h : Ex cb a w) : Ex cb a w.drew := ⟨h.1, h.2.1, h.2.2.1, h.2.2.2.1, h.2.2.2.2⟩
theorem Ex.drewN {cb : Nat} {a w : World} (h : Ex cb a w) (n : Nat) : Ex cb a (w.drewN n) := by
  have hb : Below w.heap.size w (w.drewN n) := below_drewN (Below.refl _ _) n
  exact h.trans (Ex.of_below hb)
theorem Ex.setCell {cb : Nat} {a w : World} (h : Ex cb a w) {b o : Nat} (hb : b = cb ∨ a.heap.size ≤ b) (u : Value) : Ex cb a (w.setCell ⟨b, o, none⟩ u) := by
  have hs : (w.setCell ⟨b, o, none⟩ u).heap.size = w.heap.size := by simp
  refine ⟨h.1, h.2.1, h.2.2.1, by rw [hs]; exact h.size, fun k hk hne => ?_⟩
  rw [Below.heap_setCell w ⟨b, o, none⟩ u k (by show k ≠ b; rcases hb with rfl | hb <;> omega)]
  exact h.2.2.2.2 k hk hne
/-- where the one block is new all old ones are as they were -/
theorem Ex.below {W w w' : World} {cb : Nat} (h : Below W.heap.size W w) (k : Ex cb w w') (hc : W.heap.size ≤ cb) : Below W.heap.size W w' :=
  ⟨k.1.trans h.os, k.2.1.trans h.tape, k.2.2.1.trans h.output, Nat.le_trans h.size k.size, fun n hn => (k.2.2.2.2 n (Nat.lt_of_lt_of_le hn h.size) (by omega)).trans (h.block n hn)⟩
theorem IsRow.ex {k : IntKind} {cb : Nat} {w w' : World} {a : Option Addr} {len cap : Nat} {zs : List Int} (h : IsRow k w a len cap zs) (hx : Ex cb w w') (hne : ∀ b off, a = some ⟨b, off, none⟩ → 0 < zs.length → b ≠ cb) : IsRow k w' a len cap zs := by
  rcases h with h | ⟨b, off, ha, h1, h2, h3, h4, h5⟩
  · exact .inl h
  · exact .inr ⟨b, off, ha, h1, h2, h3, fun i hi => hx.cell (h4 i hi) (hne b off ha (by omega)), h5⟩

/-- the cursor in block cb over the bytes zs -/
def Cur (w : World) (cb : Nat) (a : Option Addr) (len cap : Nat) (zs : List Int) : Prop :=
  (∃ i h : Int, 0 ≤ i ∧ i ≤ len ∧ w.cell? ⟨cb, 0, none⟩ = some (.slice a len cap) ∧ w.cell? ⟨cb, 1, none⟩ = some (.int .i64 i) ∧ w.cell? ⟨cb, 2, none⟩ = some (.int .i64 h) ∧ w.frozen? ⟨cb, 1, none⟩ = false ∧ w.frozen? ⟨cb, 2, none⟩ = false) ∧
  IsRow .u8 w a len cap zs ∧ ∀ b off, a = some ⟨b, off, none⟩ → 0 < zs.length → b ≠ cb
theorem Cur.ex {w w' : World} {cb x : Nat} {a : Option Addr} {len cap : Nat} {zs : List Int} (h : Cur w cb a len cap zs) (hx : Ex x w w') (hne : x ≠ cb) (hn2 : ∀ b off, a = some ⟨b, off, none⟩ → 0 < zs.length → b ≠ x) : Cur w' cb a len cap zs := by
  obtain ⟨⟨i, h, h1, h2, h3, h4, h5, h6, h7⟩, hr, hb⟩ := h
  exact ⟨⟨i, h, h1, h2, hx.cell h3 hne.symm, hx.cell h4 hne.symm, hx.cell h5 hne.symm, hx.frozen h4 h6 hne.symm, hx.frozen h5 h7 hne.symm⟩, hr.ex hx hn2, hb⟩
theorem Cur.lt {w : World} {cb : Nat} {a : Option Addr} {len cap : Nat} {zs : List Int} (h : Cur w cb a len cap zs) : cb < w.heap.size := by
  obtain ⟨⟨i, h, h1, h2, h3, _⟩, _⟩ := h
  exact World.block_lt_of_cell? w _ h3
theorem IsRow.lt {k : IntKind} {w : World} {a : Option Addr} {len cap : Nat} {zs : List Int} (h : IsRow k w a len cap zs) : ∀ b off, a = some ⟨b, off, none⟩ → 0 < zs.length → b < w.heap.size := by
  intro b off e hz
  rcases h with ⟨_, _, rfl⟩ | ⟨b', off', ha, h1, h2, h3, h4, h5⟩
  · simp at hz
  · rw [ha] at e; injection e with e; injection e with e1 e2 e3
    rw [← e1]; exact World.block_lt_of_cell? w _ (h4 0 hz)
/-- new blocks leave the cursor as it was -/
theorem Cur.below {w w' : World} {cb : Nat} {a : Option Addr} {len cap : Nat} {zs : List Int} (h : Cur w cb a len cap zs) (hb : Below w.heap.size w w') : Cur w' cb a len cap zs := by
  have hl := h.lt
  refine h.ex (x := w.heap.size) (Ex.of_below hb) (by omega) ?_
  intro b off e hz
  have := h.2.1.lt b off e hz
  omega
theorem IsRow.below {k : IntKind} {w w' : World} {a : Option Addr} {len cap : Nat} {zs : List Int} (h : IsRow k w a len cap zs) (hb : Below w.heap.size w w') : IsRow k w' a len cap zs := by
  refine h.ex (cb := w.heap.size) (Ex.of_below hb) ?_
  intro b off e hz
  have := h.lt b off e hz
  omega
theorem and255 (n : Int) : bits .and .i64 n 255 = n % 256 := by
  have h255 : (BitVec.ofInt 64 255).toNat = 2 ^ 8 - 1 := by decide
  have key : (BitVec.ofInt 64 n &&& BitVec.ofInt 64 255).toNat = (n % ((2 ^ 64 : Nat) : Int)).toNat % 2 ^ 8 := by
    rw [BitVec.toNat_and, BitVec.toNat_ofInt, h255, Nat.and_two_pow_sub_one_eq_mod]
  show IntKind.i64.wrap ((BitVec.ofInt 64 n &&& BitVec.ofInt 64 255).toNat : Nat) = n % 256
  rw [key, IntKind.wrap_i64]
  omega
theorem and255_0 (n : Int) : 0 ≤ bits .and .i64 n 255 := by rw [and255]; omega
theorem and255_1 (n : Int) : bits .and .i64 n 255 ≤ 255 := by rw [and255]; omega

theorem Cur.moved1 {w : World} {cb : Nat} {a : Option Addr} {len cap : Nat} {zs : List Int} (hc : Cur w cb a len cap zs) (x : Int) (n : Nat) :
    Cur ((w.setCell ⟨cb, 2, none⟩ (.int .i64 x)).drewN n) cb a len cap zs := by
  obtain ⟨⟨i, h, h1, h2, h3, h4, h5, h6, h7⟩, hr, hb⟩ := hc
  refine ⟨⟨i, x, h1, h2, ?_, ?_, ?_, ?_, ?_⟩, hr.ex (((Ex.refl cb w).setCell (.inl rfl) _).drewN n) hb, hb⟩ <;> simp [go_sem, h3, h4, h5, h6, h7]
theorem Cur.drewN {w : World} {cb : Nat} {a : Option Addr} {len cap : Nat} {zs : List Int} (hc : Cur w cb a len cap zs) (n : Nat) : Cur (w.drewN n) cb a len cap zs :=
  hc.below (below_drewN (Below.refl _ _) n)
theorem Cur.moved2 {w : World} {cb : Nat} {a : Option Addr} {len cap : Nat} {zs : List Int} (hc : Cur w cb a len cap zs) (j : Int) (h1 : 0 ≤ j) (h2 : j ≤ len) :
    Cur (w.setCell ⟨cb, 1, none⟩ (.int .i64 j)) cb a len cap zs := by
  obtain ⟨⟨i, h, _, _, h3, h4, h5, h6, h7⟩, hr, hb⟩ := hc
  refine ⟨⟨j, h, h1, h2, ?_, ?_, ?_, ?_, ?_⟩, hr.ex ((Ex.refl cb w).setCell (.inl rfl) _) hb, hb⟩ <;> simp [go_sem, h3, h4, h5, h6, h7]

set_option maxHeartbeats 800000 in
theorem byte_any (cb : Nat) (a : Option Addr) (len cap : Nat) (zs : List Int) (w : World) (hc : Cur w cb a len cap zs) :
    Calls Try.prog 49 #[.pointer (some ⟨cb, 0, none⟩)] w fun e w' => ∃ x : Int, e = .returned (.int .i64 x) ∧ 0 ≤ x ∧ x ≤ 255 ∧ Cur w' cb a len cap zs ∧ Ex cb w w' := by
  have HC : Hid (Cur w cb a len cap zs) := hc
  obtain ⟨⟨i, h, h1, h2, h3, h4, h5, h6, h7⟩, hr, hb⟩ := hc
  by_cases hl : i < len
  · obtain ⟨k, rfl⟩ := Int.eq_ofNat_of_zero_le h1
    rcases hr with ⟨rfl, _⟩ | ⟨b, off, rfl, g1, g2, g3, g4, g5⟩
    · omega
    · have hk : k < zs.length := by omega
      have hx := g4 k hk
      have hne := hb b off rfl (by omega)
      have hne2 : cb ≠ b := hne.symm
      have hwf := g5 (zs.getD k 0) (by rw [List.getD_eq_getElem?_getD, List.getElem?_eq_getElem hk]; simp)
      have hy : ∃ y, w.cell? ⟨b, off + k, none⟩ = some (.int .u8 y) ∧ 0 ≤ y ∧ y ≤ 255 := ⟨_, hx, (bounds_u8 hwf).1, (bounds_u8 hwf).2⟩
      obtain ⟨y, hy1, hy2, hy3⟩ := hy
      clear hx hwf g4 g5 hb
      unfold maxLen at g2
      go_enter Try.func49, Try.ntmps49
      go_wp2
      go_quiet (fail)
      go_wp2
      go_quiet (fail)
      go_wp2
      go_quiet (fail)
      go_wp2
      go_ret
      exact ⟨_, rfl, and255_0 _, and255_1 _, (HC.out.moved1 _ _).moved2 _ (by omega) (by omega), (((Ex.refl cb w).setCell (.inl rfl) _).drewN _).setCell (.inl rfl) _⟩
  · clear hr hb
    go_enter Try.func49, Try.ntmps49
    go_wp2
    go_quiet (fail)
    go_wp2
    go_quiet (fail)
    go_wp2
    go_ret
    exact ⟨_, rfl, and255_0 _, and255_1 _, (HC.out.moved1 _ _).drewN _, (((Ex.refl cb w).setCell (.inl rfl) _).drewN _).drewN _⟩

/-- the rest of a number from 0 on -/
theorem rem_in (x n : Int) (hn : 0 < n) : 0 ≤ x % n ∧ x % n < n := ⟨Int.emod_nonneg _ (by omega), Int.emod_lt_of_pos _ hn⟩

set_option maxHeartbeats 800000 in
theorem below_any (cb : Nat) (n : Int) (a : Option Addr) (len cap : Nat) (zs : List Int) (w : World) (hc : Cur w cb a len cap zs) (hn : 0 < n) :
    Calls Try.prog 26 #[.pointer (some ⟨cb, 0, none⟩), .int .i64 n] w fun e w' => ∃ x : Int, e = .returned (.int .i64 x) ∧ 0 ≤ x ∧ x < n ∧ Cur w' cb a len cap zs ∧ Ex cb w w' := by
  have HC : Hid (Cur w cb a len cap zs) := hc
  clear hc
  by_cases h : n ≤ 256
  · go_enter Try.func26, Try.ntmps26
    go_wp2_with fail
    refine (byte_any cb a len cap zs _ HC.out).mono ?_
    rintro e w1 ⟨x, rfl, hx0, hx1, hC1, hE1⟩
    have HC1 : Hid (Cur w1 cb a len cap zs) := hC1
    have HE1 : Hid (Ex cb w w1) := hE1
    clear hC1 hE1
    have hr := rem_in x n hn
    obtain ⟨hr0, hr1⟩ := hr
    go_wp2
    go_ret
    exact ⟨_, rfl, hr0, hr1, HC1.out, HE1.out⟩
  · go_enter Try.func26, Try.ntmps26
    go_wp2_with fail
    refine (byte_any cb a len cap zs _ HC.out).mono ?_
    rintro e w1 ⟨x, rfl, hx0, hx1, hC1, hE1⟩
    have HC1 : Hid (Cur w1 cb a len cap zs) := hC1
    have HE1 : Hid (Ex cb w w1) := hE1
    clear hC1 hE1
    go_wp2_with fail
    refine (byte_any cb a len cap zs _ HC1.out).mono ?_
    rintro e w2 ⟨y, rfl, hy0, hy1, hC2, hE2⟩
    have HC2 : Hid (Cur w2 cb a len cap zs) := hC2
    have HE2 : Hid (Ex cb w w2) := HE1.out.trans hE2
    clear hC2 hE2 HC1 HE1
    go_wp2_with fail
    refine (byte_any cb a len cap zs _ HC2.out).mono ?_
    rintro e w3 ⟨z, rfl, hz0, hz1, hC3, hE3⟩
    have HC3 : Hid (Cur w3 cb a len cap zs) := hC3
    have HE3 : Hid (Ex cb w w3) := HE2.out.trans hE3
    clear hC3 hE3 HC2 HE2
    go_wp2_with fail
    refine (byte_any cb a len cap zs _ HC3.out).mono ?_
    rintro e w4 ⟨u, rfl, hu0, hu1, hC4, hE4⟩
    have HC4 : Hid (Cur w4 cb a len cap zs) := hC4
    have HE4 : Hid (Ex cb w w4) := HE3.out.trans hE4
    clear hC4 hE4 HC3 HE3
    have hr := rem_in (x * 16777216 + y * 65536 + z * 256 + u) n hn
    obtain ⟨hr0, hr1⟩ := hr
    go_wp2
    go_ret
    exact ⟨_, rfl, hr0, hr1, HC4.out, HE4.out⟩

theorem once_any (cb : Nat) (n : Int) (a : Option Addr) (len cap : Nat) (zs : List Int) (w : World) (hc : Cur w cb a len cap zs) (hn : 0 < n) :
    Calls Try.prog 35 #[.pointer (some ⟨cb, 0, none⟩), .int .i64 n] w fun e w' => ∃ x : Bool, e = .returned (.bool x) ∧ Cur w' cb a len cap zs ∧ Ex cb w w' := by
  have HC : Hid (Cur w cb a len cap zs) := hc
  clear hc
  go_enter Try.func35, Try.ntmps35
  go_wp2_with fail
  refine (below_any cb n a len cap zs _ HC.out hn).mono ?_
  rintro e w1 ⟨x, rfl, hx0, hx1, hC1, hE1⟩
  have HC1 : Hid (Cur w1 cb a len cap zs) := hC1
  have HE1 : Hid (Ex cb w w1) := hE1
  clear hC1 hE1
  go_wp2
  go_ret
  exact ⟨_, rfl, HC1.out, HE1.out⟩

theorem from_any (cb : Nat) (lo hi : Int) (a : Option Addr) (len cap : Nat) (zs : List Int) (w : World) (hc : Cur w cb a len cap zs) (hn : lo ≤ hi) (h1 : -1000000000000 ≤ lo) (h2 : hi ≤ 1000000000000) :
    Calls Try.prog 65 #[.pointer (some ⟨cb, 0, none⟩), .int .i64 lo, .int .i64 hi] w fun e w' => ∃ x : Int, e = .returned (.int .i64 x) ∧ lo ≤ x ∧ x ≤ hi ∧ Cur w' cb a len cap zs ∧ Ex cb w w' := by
  have HC : Hid (Cur w cb a len cap zs) := hc
  clear hc
  go_enter Try.func65, Try.ntmps65
  go_wp2_with fail
  refine (below_any cb _ a len cap zs _ HC.out (by omega)).mono ?_
  rintro e w1 ⟨x, rfl, hx0, hx1, hC1, hE1⟩
  have HC1 : Hid (Cur w1 cb a len cap zs) := hC1
  have HE1 : Hid (Ex cb w w1) := hE1
  clear hC1 hE1
  go_wp2
  go_ret
  exact ⟨_, rfl, by omega, by omega, HC1.out, HE1.out⟩
end Go.Proofs.Ytoiigmimdjipiaa

/- The cursor is made, and fractions are drawn by it. -/
namespace Go.Proofs.Ytoiigmimdjipiaa
open Go.RowKit Go.Proofs.Ytoiigmimdjipiaa.RM


set_option maxHeartbeats 800000 in
theorem new_any (a : Option Addr) (len cap : Nat) (zs : List Int) (w : World) (hr : IsRow .u8 w a len cap zs) :
    Calls Try.prog 25 #[.slice a len cap] w fun e w' => e = .returned (.pointer (some ⟨w.heap.size, 0, none⟩)) ∧ Cur w' w.heap.size a len cap zs ∧ Below w.heap.size w w' ∧ w'.heap.size = w.heap.size + 1 := by
  have HR : Hid (IsRow .u8 w a len cap zs) := hr
  have fin : ∀ h : Int, Cur (w.alloc (.cells #[.slice a len cap, .int .i64 0, .int .i64 h] 76)) w.heap.size a len cap zs := by
    intro h
    refine ⟨⟨0, h, Int.le_refl _, by omega, ?_, ?_, ?_, ?_, ?_⟩, hr.below ((Below.refl _ _).alloc (Nat.le_refl _) _), ?_⟩
    all_goals try (simp [go_sem]; done)
    intro b off e hz
    have := hr.lt b off e hz
    omega
  have FIN : Hid (∀ h : Int, Cur (w.alloc (.cells #[.slice a len cap, .int .i64 0, .int .i64 h] 76)) w.heap.size a len cap zs) := fin
  clear fin
  have hlen : len ≤ 9223372036854775807 := by
    rcases hr with ⟨h, _⟩ | ⟨b, off, _, h1, h2, _⟩
    · omega
    · unfold maxLen at h2; omega
  clear hr
  go_enter Try.func25, Try.ntmps25
  go_wp2
  go_loop [3, 4] (fun x y => ∃ (h : Int) (k : Nat), k ≤ len ∧ x = .int .i64 h ∧ y = .int .i64 k) (fun _ y => len - (intOf y).toNat)
  case atStart => exact ⟨_, 0, Nat.zero_le _, rfl, rfl⟩
  case round =>
    obtain ⟨h, k, hk, rfl, rfl⟩ := hrel
    by_cases hlt : k < len
    · rcases HR.out with ⟨rfl, _⟩ | ⟨b, off, rfl, g1, g2, g3, g4, g5⟩
      · omega
      · have hx := g4 k (by omega)
        have hwf := range_u8 g5 k
        have hy : ∃ y, w.cell? ⟨b, off + k, none⟩ = some (.int .u8 y) ∧ 0 ≤ y ∧ y ≤ 255 := ⟨_, hx, by rw [List.getD_eq_getElem?_getD]; exact hwf.1, by rw [List.getD_eq_getElem?_getD]; exact hwf.2⟩
        obtain ⟨y, hy1, hy2, hy3⟩ := hy
        clear hx hwf g4 g5
        go_wp2
        go_round
        case rel => exact ⟨_, k + 1, by omega, rfl, by go_num⟩
        case measure => simp [intOf]; omega
    · go_wp2
      go_ret
      exact ⟨rfl, FIN.out _, (Below.refl _ _).alloc (Nat.le_refl _) _, by simp⟩

set_option maxHeartbeats 800000 in
theorem draw_any (cb : Nat) (a : Option Addr) (len cap : Nat) (zs : List Int) (w : World) (hc : Cur w cb a len cap zs) :
    Calls Try.prog 52 #[.pointer (some ⟨cb, 0, none⟩)] w fun e w' => ∃ n d : Int, e = .returned (.agg #[.int .i64 n, .int .i64 d]) ∧ okB n d = true ∧ -25 ≤ n ∧ n ≤ 25 ∧ 1 ≤ d ∧ d ≤ 6 ∧ Cur w' cb a len cap zs ∧ Ex cb w w' := by
  have HC : Hid (Cur (w.alloc (.cells #[.int .i64 0, .int .i64 0] 29)) cb a len cap zs) := hc.below ((Below.refl _ _).alloc (Nat.le_refl _) _)
  have hlt := hc.lt
  have HROW : Hid (∀ b off, a = some ⟨b, off, none⟩ → 0 < zs.length → b < w.heap.size) := hc.2.1.lt
  clear hc
  go_enter Try.func52, Try.ntmps52
  go_wp2_with fail
  refine (from_any cb _ _ a len cap zs _ HC.out (by omega) (by omega) (by omega)).mono ?_
  rintro e w1 ⟨x, rfl, hx0, hx1, hC1, hE1⟩
  have HC1 : Hid (Cur w1 cb a len cap zs) := hC1
  have HE1 : Hid (Ex cb w w1) := (Ex.alloc (Ex.refl cb w) _).trans hE1
  have c0 : w1.cell? ⟨w.heap.size, 0, none⟩ = some (.int .i64 0) := by refine hE1.cell ?_ (by omega); simp [go_sem]
  have c1 : w1.cell? ⟨w.heap.size, 1, none⟩ = some (.int .i64 0) := by refine hE1.cell ?_ (by omega); simp [go_sem]
  have f0 : w1.frozen? ⟨w.heap.size, 0, none⟩ = false := by refine hE1.frozen (v := .int .i64 0) ?_ ?_ (by omega) <;> simp [go_sem]
  have f1 : w1.frozen? ⟨w.heap.size, 1, none⟩ = false := by refine hE1.frozen (v := .int .i64 0) ?_ ?_ (by omega) <;> simp [go_sem]
  clear hC1 hE1 HC
  go_wp2_with fail
  refine (below_any cb _ a len cap zs _ HC1.out (by omega)).mono ?_
  rintro e w2 ⟨y, rfl, hy0, hy1, hC2, hE2⟩
  have HC2 : Hid (Cur w2 cb a len cap zs) := hC2
  have HE2 : Hid (Ex cb w w2) := HE1.out.trans hE2
  have d0 := hE2.cell c0 (by omega)
  have d1 := hE2.cell c1 (by omega)
  have k0 := hE2.frozen c0 f0 (by omega)
  have k1 := hE2.frozen c1 f1 (by omega)
  clear hC2 hE2 HC1 HE1 c0 c1 f0 f1
  go_wp2_with fail
  refine (sRed_any _ _ _).mono ?_
  rintro e w3 ⟨rfl, hb3⟩
  obtain ⟨r1, r2, r3, r4, r5, r6⟩ := red_small (x := x) (y := 1 + y) (m := 25) (by omega) (by omega) (by omega) (by omega) (by omega)
  have HC3 : Hid (Cur w3 cb a len cap zs) := HC2.out.below hb3
  have HE3 : Hid (Ex cb w w3) := HE2.out.trans (Ex.of_below hb3)
  have e0 := cell_later hb3 d0
  have e1 := cell_later hb3 d1
  have q0 : w3.frozen? ⟨w.heap.size, 0, none⟩ = false := (Ex.of_below (cb := cb) hb3).frozen d0 k0 (by omega)
  have q1 : w3.frozen? ⟨w.heap.size, 1, none⟩ = false := (Ex.of_below (cb := cb) hb3).frozen d1 k1 (by omega)
  have hsz : w.heap.size < w3.heap.size := lt_cell e0
  clear hb3 HC2 HE2 d0 d1 k0 k1 r1
  have r0 : (((w3.setCell ⟨w.heap.size, 0, none⟩ (.int .i64 (redN x (1 + y)))).setCell ⟨w.heap.size, 1, none⟩ (.int .i64 (redD x (1 + y)))).alloc (.cells #[.int .i64 (redN x (1 + y)), .int .i64 (redD x (1 + y))] 29)).cell? ⟨w.heap.size, 0, none⟩ = some (.int .i64 (redN x (1 + y))) := cell_al _ (new2 e0 e1).1
  have r01 : (((w3.setCell ⟨w.heap.size, 0, none⟩ (.int .i64 (redN x (1 + y)))).setCell ⟨w.heap.size, 1, none⟩ (.int .i64 (redD x (1 + y)))).alloc (.cells #[.int .i64 (redN x (1 + y)), .int .i64 (redD x (1 + y))] 29)).cell? ⟨w.heap.size, 1, none⟩ = some (.int .i64 (redD x (1 + y))) := cell_al _ (new2 e0 e1).2
  go_wp2
  refine bodyPost_ret (v := .agg #[.int .i64 (redN x (1 + y)), .int .i64 (redD x (1 + y))]) (by simp [results, Try.results52, go_sem, r0, r01]) rfl ⟨_, _, rfl, r2, r3, r4, r5, by omega, ?_, ?_⟩
  · exact HC3.out.ex (x := w.heap.size) ((((Ex.refl _ w3).setCell (.inl rfl) _).setCell (.inl rfl) _).alloc _) (by omega) (fun b off e hz => by have := HROW.out b off e hz; omega)
  · exact ((HE3.out.setCell (.inr (Nat.le_refl _)) _).setCell (.inr (Nat.le_refl _)) _).alloc _
end Go.Proofs.Ytoiigmimdjipiaa

/- Fractions that are drawn, right or not. -/
namespace Go.Proofs.Ytoiigmimdjipiaa
open Go.RowKit Go.Proofs.Ytoiigmimdjipiaa.RM
theorem frz_st {w : World} {a p : Addr} {u : Value} (h : w.frozen? a = false) : (w.setCell p u).frozen? a = false := by simp [h]
theorem set00 {w : World} {B : Nat} {x n : Value} (h : w.cell? ⟨B, 0, none⟩ = some x) : (w.setCell ⟨B, 0, none⟩ n).cell? ⟨B, 0, none⟩ = some n := by simp [go_sem, h]
theorem set01 {w : World} {B : Nat} {y n : Value} (h : w.cell? ⟨B, 1, none⟩ = some y) : (w.setCell ⟨B, 0, none⟩ n).cell? ⟨B, 1, none⟩ = some y := by simp [go_sem, h]

set_option maxHeartbeats 1600000 in
theorem drawAny_any (cb : Nat) (a : Option Addr) (len cap : Nat) (zs : List Int) (w : World) (hc : Cur w cb a len cap zs) :
    Calls Try.prog 51 #[.pointer (some ⟨cb, 0, none⟩)] w fun e w' => ∃ n d : Int, e = .returned (.agg #[.int .i64 n, .int .i64 d]) ∧ Cur w' cb a len cap zs ∧ Ex cb w w' := by
  have HC : Hid (Cur (w.alloc (.cells #[.int .i64 0, .int .i64 0] 29)) cb a len cap zs) := hc.below ((Below.refl _ _).alloc (Nat.le_refl _) _)
  have hlt := hc.lt
  have HROW : Hid (∀ b off, a = some ⟨b, off, none⟩ → 0 < zs.length → b < w.heap.size) := hc.2.1.lt
  clear hc
  go_enter Try.func51, Try.ntmps51
  go_wp2_with fail
  refine (draw_any cb a len cap zs _ HC.out).mono ?_
  rintro e w1 ⟨n, d, rfl, _, _, _, _, _, hC1, hE1⟩
  have rc0 : w1.cell? ⟨w.heap.size, 0, none⟩ = some (.int .i64 0) := by refine hE1.cell ?_ (by omega); simp [go_sem]
  have rc1 : w1.cell? ⟨w.heap.size, 1, none⟩ = some (.int .i64 0) := by refine hE1.cell ?_ (by omega); simp [go_sem]
  have rf0 : w1.frozen? ⟨w.heap.size, 0, none⟩ = false := by refine hE1.frozen (v := .int .i64 0) ?_ ?_ (by omega) <;> simp [go_sem]
  have rf1 : w1.frozen? ⟨w.heap.size, 1, none⟩ = false := by refine hE1.frozen (v := .int .i64 0) ?_ ?_ (by omega) <;> simp [go_sem]
  have hz1 : w.heap.size < w1.heap.size := lt_cell rc0
  replace HC : Hid (Cur w1 cb a len cap zs) := hC1
  have HE : Hid (Ex cb w w1) := (Ex.alloc (Ex.refl cb w) _).trans hE1
  clear hC1 hE1
  go_wp2_with fail
  refine (once_any cb _ a len cap zs _ ?_ (by omega)).mono ?_
  · exact HC.out.below ((Below.refl _ _).alloc (Nat.le_refl _) _)
  rintro e w2 ⟨x, rfl, hC2, hE2⟩
  replace HC : Hid (Cur w2 cb a len cap zs) := hC2
  replace HE : Hid (Ex cb w w2) := (HE.out.alloc _).trans hE2
  replace rf0 := hE2.frozen (cell_al _ rc0) (frozen_later ((Below.refl _ _).alloc (Nat.le_refl _) _) rc0 rf0) (by omega)
  replace rf1 := hE2.frozen (cell_al _ rc1) (frozen_later ((Below.refl _ _).alloc (Nat.le_refl _) _) rc1 rf1) (by omega)
  replace rc0 := hE2.cell (cell_al _ rc0) (by omega)
  replace rc1 := hE2.cell (cell_al _ rc1) (by omega)
  have vc0 : w2.cell? ⟨w1.heap.size, 0, none⟩ = some (.int .i64 n) := by refine hE2.cell ?_ (by omega); simp [go_sem]
  have vc1 : w2.cell? ⟨w1.heap.size, 1, none⟩ = some (.int .i64 d) := by refine hE2.cell ?_ (by omega); simp [go_sem]
  have vf0 : w2.frozen? ⟨w1.heap.size, 0, none⟩ = false := by refine hE2.frozen (v := .int .i64 n) ?_ ?_ (by omega) <;> simp [go_sem]
  have vf1 : w2.frozen? ⟨w1.heap.size, 1, none⟩ = false := by refine hE2.frozen (v := .int .i64 d) ?_ ?_ (by omega) <;> simp [go_sem]
  clear hC2 hE2
  cases x
  · go_wp2_with fail
    refine (once_any cb _ a len cap zs _ HC.out (by omega)).mono ?_
    rintro e Y ⟨y, rfl, hCY, hEY⟩
    replace HC : Hid (Cur Y cb a len cap zs) := hCY
    replace HE : Hid (Ex cb w Y) := HE.out.trans hEY
    replace rf0 := hEY.frozen rc0 rf0 (by omega)
    replace rf1 := hEY.frozen rc1 rf1 (by omega)
    replace rc0 := hEY.cell rc0 (by omega)
    replace rc1 := hEY.cell rc1 (by omega)
    replace vf0 := hEY.frozen vc0 vf0 (by omega)
    replace vf1 := hEY.frozen vc1 vf1 (by omega)
    replace vc0 := hEY.cell vc0 (by omega)
    replace vc1 := hEY.cell vc1 (by omega)
    clear hCY hEY
    have hsz : w1.heap.size < Y.heap.size := lt_cell vc0
    cases y
    · have r0 : ((Y.setCell ⟨w.heap.size, 0, none⟩ (.int .i64 n)).setCell ⟨w.heap.size, 1, none⟩ (.int .i64 d)).cell? ⟨w.heap.size, 0, none⟩ = some (.int .i64 n) := (new2 rc0 rc1).1
      have r1 : ((Y.setCell ⟨w.heap.size, 0, none⟩ (.int .i64 n)).setCell ⟨w.heap.size, 1, none⟩ (.int .i64 d)).cell? ⟨w.heap.size, 1, none⟩ = some (.int .i64 d) := (new2 rc0 rc1).2
      go_wp2
      refine bodyPost_ret (v := .agg #[.int .i64 n, .int .i64 d]) (by simp [results, Try.results51, go_sem, r0, r1]) rfl ⟨_, _, rfl, ?_, ?_⟩
      · exact HC.out.ex (x := w.heap.size) (((Ex.refl _ Y).setCell (.inl rfl) _).setCell (.inl rfl) _) (by omega) (fun b off e hz => by have := HROW.out b off e hz; omega)
      · exact (HE.out.setCell (.inr (Nat.le_refl _)) _).setCell (.inr (Nat.le_refl _)) _
    · go_wp2_with fail
      refine (below_any cb _ a len cap zs _ ?_ (by omega)).mono ?_
      · exact HC.out.below ((Below.refl _ _).alloc (Nat.le_refl _) _)
      rintro e Z ⟨i, rfl, hi0, hi1, hCZ, hEZ⟩
      replace HC : Hid (Cur Z cb a len cap zs) := hCZ
      replace HE : Hid (Ex cb w Z) := (HE.out.alloc _).trans hEZ
      have hidx : ∃ v, Z.cell? ⟨Y.heap.size, i.toNat, none⟩ = some (.int .i64 v) := by
        have hi : i = 0 ∨ i = 1 ∨ i = 2 ∨ i = 3 ∨ i = 4 ∨ i = 5 := by omega
        have hne : Y.heap.size ≠ cb := by omega
        rcases hi with rfl | rfl | rfl | rfl | rfl | rfl
        · exact ⟨0, hEZ.cell (by simp [go_sem]) hne⟩
        · exact ⟨1000000000, hEZ.cell (by simp [go_sem]) hne⟩
        · exact ⟨-1000000000, hEZ.cell (by simp [go_sem]) hne⟩
        · exact ⟨1000000001, hEZ.cell (by simp [go_sem]) hne⟩
        · exact ⟨4611686018427387904, hEZ.cell (by simp [go_sem]) hne⟩
        · exact ⟨-9223372036854775808, hEZ.cell (by simp [go_sem]) hne⟩
      obtain ⟨v, hidx⟩ := hidx
      replace rf0 := hEZ.frozen (cell_al _ rc0) (frozen_later ((Below.refl _ _).alloc (Nat.le_refl _) _) rc0 rf0) (by omega)
      replace rf1 := hEZ.frozen (cell_al _ rc1) (frozen_later ((Below.refl _ _).alloc (Nat.le_refl _) _) rc1 rf1) (by omega)
      replace vf0 := hEZ.frozen (cell_al _ vc0) (frozen_later ((Below.refl _ _).alloc (Nat.le_refl _) _) vc0 vf0) (by omega)
      replace vf1 := hEZ.frozen (cell_al _ vc1) (frozen_later ((Below.refl _ _).alloc (Nat.le_refl _) _) vc1 vf1) (by omega)
      replace rc0 := hEZ.cell (cell_al _ rc0) (by omega)
      replace rc1 := hEZ.cell (cell_al _ rc1) (by omega)
      replace vc0 := hEZ.cell (cell_al _ vc0) (by omega)
      replace vc1 := hEZ.cell (cell_al _ vc1) (by omega)
      clear hCZ hEZ
      go_wp2_with fail
      refine (below_any cb _ a len cap zs _ ?_ (by omega)).mono ?_
      · exact (HC.out.ex (x := w1.heap.size) ((Ex.refl _ Z).setCell (.inl rfl) _) (by omega) (fun b off e hz => by have := HROW.out b off e hz; omega)).below ((Below.refl _ _).alloc (Nat.le_refl _) _)
      rintro e U ⟨j, rfl, hj0, hj1, hCU, hEU⟩
      have hsz2 : w1.heap.size < Z.heap.size := lt_cell vc0
      replace HC : Hid (Cur U cb a len cap zs) := hCU
      replace HE : Hid (Ex cb w U) := ((HE.out.setCell (.inr (by omega)) _).alloc _).trans hEU
      have hjdx : ∃ v, U.cell? ⟨Z.heap.size, j.toNat, none⟩ = some (.int .i64 v) := by
        have hj : j = 0 ∨ j = 1 ∨ j = 2 ∨ j = 3 ∨ j = 4 ∨ j = 5 := by omega
        have hne : Z.heap.size ≠ cb := by omega
        rcases hj with rfl | rfl | rfl | rfl | rfl | rfl
        · exact ⟨0, hEU.cell (by simp [go_sem]) hne⟩
        · exact ⟨1, hEU.cell (by simp [go_sem]) hne⟩
        · exact ⟨2, hEU.cell (by simp [go_sem]) hne⟩
        · exact ⟨1000000000, hEU.cell (by simp [go_sem]) hne⟩
        · exact ⟨-1, hEU.cell (by simp [go_sem]) hne⟩
        · exact ⟨1000000001, hEU.cell (by simp [go_sem]) hne⟩
      obtain ⟨u, hjdx⟩ := hjdx
      replace rf0 := hEU.frozen (cell_al _ (cell_stb rc0 (by omega))) (frozen_later ((Below.refl _ _).alloc (Nat.le_refl _) _) (cell_stb rc0 (by omega)) (frz_st rf0)) (by omega)
      replace rf1 := hEU.frozen (cell_al _ (cell_stb rc1 (by omega))) (frozen_later ((Below.refl _ _).alloc (Nat.le_refl _) _) (cell_stb rc1 (by omega)) (frz_st rf1)) (by omega)
      replace vf1 := hEU.frozen (cell_al _ (set01 vc1)) (frozen_later ((Below.refl _ _).alloc (Nat.le_refl _) _) (set01 vc1) (frz_st vf1)) (by omega)
      replace rc0 := hEU.cell (cell_al _ (cell_stb rc0 (by omega))) (by omega)
      replace rc1 := hEU.cell (cell_al _ (cell_stb rc1 (by omega))) (by omega)
      replace vc0 := hEU.cell (cell_al _ (set00 vc0)) (by omega)
      replace vc1 := hEU.cell (cell_al _ (set01 vc1)) (by omega)
      clear hCU hEU hidx vf0
      have r0 : (((U.setCell ⟨w1.heap.size, 1, none⟩ (.int .i64 u)).setCell ⟨w.heap.size, 0, none⟩ (.int .i64 v)).setCell ⟨w.heap.size, 1, none⟩ (.int .i64 u)).cell? ⟨w.heap.size, 0, none⟩ = some (.int .i64 v) := (new2 (cell_stb rc0 (by omega)) (cell_stb rc1 (by omega))).1
      have r1 : (((U.setCell ⟨w1.heap.size, 1, none⟩ (.int .i64 u)).setCell ⟨w.heap.size, 0, none⟩ (.int .i64 v)).setCell ⟨w.heap.size, 1, none⟩ (.int .i64 u)).cell? ⟨w.heap.size, 1, none⟩ = some (.int .i64 u) := (new2 (cell_stb rc0 (by omega)) (cell_stb rc1 (by omega))).2
      have hne1 : w1.heap.size ≠ w.heap.size := by omega
      go_wp2
      refine bodyPost_ret (v := .agg #[.int .i64 v, .int .i64 u]) (by simp [results, Try.results51, go_sem, r0, r1]) rfl ⟨_, _, rfl, ?_, ?_⟩
      · exact (HC.out.ex (x := w1.heap.size) ((Ex.refl _ U).setCell (.inl rfl) _) (by omega) (fun b off e hz => by have := HROW.out b off e hz; omega)).ex (x := w.heap.size) (((Ex.refl _ _).setCell (.inl rfl) _).setCell (.inl rfl) _) (by omega) (fun b off e hz => by have := HROW.out b off e hz; omega)
      · exact ((HE.out.setCell (.inr (by omega)) _).setCell (.inr (Nat.le_refl _)) _).setCell (.inr (Nat.le_refl _)) _
  · go_wp2_with fail
    refine (below_any cb _ a len cap zs _ HC.out (by omega)).mono ?_
    rintro e w3 ⟨p, rfl, hp0, hp1, hC3, hE3⟩
    replace HC : Hid (Cur w3 cb a len cap zs) := hC3
    replace HE : Hid (Ex cb w w3) := HE.out.trans hE3
    replace rf0 := hE3.frozen rc0 rf0 (by omega)
    replace rf1 := hE3.frozen rc1 rf1 (by omega)
    replace rc0 := hE3.cell rc0 (by omega)
    replace rc1 := hE3.cell rc1 (by omega)
    replace vf0 := hE3.frozen vc0 vf0 (by omega)
    replace vf1 := hE3.frozen vc1 vf1 (by omega)
    replace vc0 := hE3.cell vc0 (by omega)
    replace vc1 := hE3.cell vc1 (by omega)
    clear hC3 hE3
    go_wp2_with fail
    refine (below_any cb _ a len cap zs _ HC.out (by omega)).mono ?_
    rintro e w4 ⟨q, rfl, hq0, hq1, hC4, hE4⟩
    replace HC : Hid (Cur w4 cb a len cap zs) := hC4
    replace HE : Hid (Ex cb w w4) := HE.out.trans hE4
    replace rf0 := hE4.frozen rc0 rf0 (by omega)
    replace rf1 := hE4.frozen rc1 rf1 (by omega)
    replace rc0 := hE4.cell rc0 (by omega)
    replace rc1 := hE4.cell rc1 (by omega)
    replace vf0 := hE4.frozen vc0 vf0 (by omega)
    replace vf1 := hE4.frozen vc1 vf1 (by omega)
    replace vc0 := hE4.cell vc0 (by omega)
    replace vc1 := hE4.cell vc1 (by omega)
    clear hC4 hE4
    go_wp2_with fail
    refine (sRed_any _ _ _).mono ?_
    rintro e w5 ⟨rfl, hb5⟩
    have hE5 : Ex cb w4 w5 := Ex.of_below hb5
    replace HC : Hid (Cur w5 cb a len cap zs) := HC.out.below hb5
    replace HE : Hid (Ex cb w w5) := HE.out.trans hE5
    replace rf0 := hE5.frozen rc0 rf0 (by omega)
    replace rf1 := hE5.frozen rc1 rf1 (by omega)
    replace rc0 := hE5.cell rc0 (by omega)
    replace rc1 := hE5.cell rc1 (by omega)
    replace vf0 := hE5.frozen vc0 vf0 (by omega)
    replace vf1 := hE5.frozen vc1 vf1 (by omega)
    replace vc0 := hE5.cell vc0 (by omega)
    replace vc1 := hE5.cell vc1 (by omega)
    clear hb5 hE5
    go_wp2_with fail
    refine (once_any cb _ a len cap zs _ ?_ (by omega)).mono ?_
    · exact HC.out.ex (x := w1.heap.size) (((Ex.refl _ w5).setCell (.inl rfl) _).setCell (.inl rfl) _) (by omega) (fun b off e hz => by have := HROW.out b off e hz; omega)
    rintro e Y ⟨y, rfl, hCY, hEY⟩
    replace HC : Hid (Cur Y cb a len cap zs) := hCY
    replace HE : Hid (Ex cb w Y) := ((HE.out.setCell (.inr (by omega)) _).setCell (.inr (by omega)) _).trans hEY
    replace rf0 := hEY.frozen (cell_stb (cell_stb rc0 (by omega)) (by omega)) (frz_st (frz_st rf0)) (by omega)
    replace rf1 := hEY.frozen (cell_stb (cell_stb rc1 (by omega)) (by omega)) (frz_st (frz_st rf1)) (by omega)
    replace rc0 := hEY.cell (cell_stb (cell_stb rc0 (by omega)) (by omega)) (by omega)
    replace rc1 := hEY.cell (cell_stb (cell_stb rc1 (by omega)) (by omega)) (by omega)
    replace vf0 := hEY.frozen (new2 vc0 vc1).1 (frz_st (frz_st vf0)) (by omega)
    replace vf1 := hEY.frozen (new2 vc0 vc1).2 (frz_st (frz_st vf1)) (by omega)
    have vx : ∃ g k : Int, Y.cell? ⟨w1.heap.size, 0, none⟩ = some (.int .i64 g) ∧ Y.cell? ⟨w1.heap.size, 1, none⟩ = some (.int .i64 k) := ⟨_, _, hEY.cell (new2 vc0 vc1).1 (by omega), hEY.cell (new2 vc0 vc1).2 (by omega)⟩
    clear vc0 vc1 hCY hEY
    obtain ⟨g, k, vc0, vc1⟩ := vx
    have hsz : w1.heap.size < Y.heap.size := lt_cell vc0
    cases y
    · have r0 : ((Y.setCell ⟨w.heap.size, 0, none⟩ (.int .i64 g)).setCell ⟨w.heap.size, 1, none⟩ (.int .i64 k)).cell? ⟨w.heap.size, 0, none⟩ = some (.int .i64 g) := (new2 rc0 rc1).1
      have r1 : ((Y.setCell ⟨w.heap.size, 0, none⟩ (.int .i64 g)).setCell ⟨w.heap.size, 1, none⟩ (.int .i64 k)).cell? ⟨w.heap.size, 1, none⟩ = some (.int .i64 k) := (new2 rc0 rc1).2
      go_wp2
      refine bodyPost_ret (v := .agg #[.int .i64 g, .int .i64 k]) (by simp [results, Try.results51, go_sem, r0, r1]) rfl ⟨_, _, rfl, ?_, ?_⟩
      · exact HC.out.ex (x := w.heap.size) (((Ex.refl _ Y).setCell (.inl rfl) _).setCell (.inl rfl) _) (by omega) (fun b off e hz => by have := HROW.out b off e hz; omega)
      · exact (HE.out.setCell (.inr (Nat.le_refl _)) _).setCell (.inr (Nat.le_refl _)) _
    · go_wp2_with fail
      refine (below_any cb _ a len cap zs _ ?_ (by omega)).mono ?_
      · exact HC.out.below ((Below.refl _ _).alloc (Nat.le_refl _) _)
      rintro e Z ⟨i, rfl, hi0, hi1, hCZ, hEZ⟩
      replace HC : Hid (Cur Z cb a len cap zs) := hCZ
      replace HE : Hid (Ex cb w Z) := (HE.out.alloc _).trans hEZ
      have hidx : ∃ v, Z.cell? ⟨Y.heap.size, i.toNat, none⟩ = some (.int .i64 v) := by
        have hi : i = 0 ∨ i = 1 ∨ i = 2 ∨ i = 3 ∨ i = 4 ∨ i = 5 := by omega
        have hne : Y.heap.size ≠ cb := by omega
        rcases hi with rfl | rfl | rfl | rfl | rfl | rfl
        · exact ⟨0, hEZ.cell (by simp [go_sem]) hne⟩
        · exact ⟨1000000000, hEZ.cell (by simp [go_sem]) hne⟩
        · exact ⟨-1000000000, hEZ.cell (by simp [go_sem]) hne⟩
        · exact ⟨1000000001, hEZ.cell (by simp [go_sem]) hne⟩
        · exact ⟨4611686018427387904, hEZ.cell (by simp [go_sem]) hne⟩
        · exact ⟨-9223372036854775808, hEZ.cell (by simp [go_sem]) hne⟩
      obtain ⟨v, hidx⟩ := hidx
      replace rf0 := hEZ.frozen (cell_al _ rc0) (frozen_later ((Below.refl _ _).alloc (Nat.le_refl _) _) rc0 rf0) (by omega)
      replace rf1 := hEZ.frozen (cell_al _ rc1) (frozen_later ((Below.refl _ _).alloc (Nat.le_refl _) _) rc1 rf1) (by omega)
      replace vf0 := hEZ.frozen (cell_al _ vc0) (frozen_later ((Below.refl _ _).alloc (Nat.le_refl _) _) vc0 vf0) (by omega)
      replace vf1 := hEZ.frozen (cell_al _ vc1) (frozen_later ((Below.refl _ _).alloc (Nat.le_refl _) _) vc1 vf1) (by omega)
      replace rc0 := hEZ.cell (cell_al _ rc0) (by omega)
      replace rc1 := hEZ.cell (cell_al _ rc1) (by omega)
      replace vc0 := hEZ.cell (cell_al _ vc0) (by omega)
      replace vc1 := hEZ.cell (cell_al _ vc1) (by omega)
      clear hCZ hEZ
      go_wp2_with fail
      refine (below_any cb _ a len cap zs _ ?_ (by omega)).mono ?_
      · exact (HC.out.ex (x := w1.heap.size) ((Ex.refl _ Z).setCell (.inl rfl) _) (by omega) (fun b off e hz => by have := HROW.out b off e hz; omega)).below ((Below.refl _ _).alloc (Nat.le_refl _) _)
      rintro e U ⟨j, rfl, hj0, hj1, hCU, hEU⟩
      have hsz2 : w1.heap.size < Z.heap.size := lt_cell vc0
      replace HC : Hid (Cur U cb a len cap zs) := hCU
      replace HE : Hid (Ex cb w U) := ((HE.out.setCell (.inr (by omega)) _).alloc _).trans hEU
      have hjdx : ∃ v, U.cell? ⟨Z.heap.size, j.toNat, none⟩ = some (.int .i64 v) := by
        have hj : j = 0 ∨ j = 1 ∨ j = 2 ∨ j = 3 ∨ j = 4 ∨ j = 5 := by omega
        have hne : Z.heap.size ≠ cb := by omega
        rcases hj with rfl | rfl | rfl | rfl | rfl | rfl
        · exact ⟨0, hEU.cell (by simp [go_sem]) hne⟩
        · exact ⟨1, hEU.cell (by simp [go_sem]) hne⟩
        · exact ⟨2, hEU.cell (by simp [go_sem]) hne⟩
        · exact ⟨1000000000, hEU.cell (by simp [go_sem]) hne⟩
        · exact ⟨-1, hEU.cell (by simp [go_sem]) hne⟩
        · exact ⟨1000000001, hEU.cell (by simp [go_sem]) hne⟩
      obtain ⟨u, hjdx⟩ := hjdx
      replace rf0 := hEU.frozen (cell_al _ (cell_stb rc0 (by omega))) (frozen_later ((Below.refl _ _).alloc (Nat.le_refl _) _) (cell_stb rc0 (by omega)) (frz_st rf0)) (by omega)
      replace rf1 := hEU.frozen (cell_al _ (cell_stb rc1 (by omega))) (frozen_later ((Below.refl _ _).alloc (Nat.le_refl _) _) (cell_stb rc1 (by omega)) (frz_st rf1)) (by omega)
      replace vf1 := hEU.frozen (cell_al _ (set01 vc1)) (frozen_later ((Below.refl _ _).alloc (Nat.le_refl _) _) (set01 vc1) (frz_st vf1)) (by omega)
      replace rc0 := hEU.cell (cell_al _ (cell_stb rc0 (by omega))) (by omega)
      replace rc1 := hEU.cell (cell_al _ (cell_stb rc1 (by omega))) (by omega)
      replace vc0 := hEU.cell (cell_al _ (set00 vc0)) (by omega)
      replace vc1 := hEU.cell (cell_al _ (set01 vc1)) (by omega)
      clear hCU hEU hidx vf0
      have r0 : (((U.setCell ⟨w1.heap.size, 1, none⟩ (.int .i64 u)).setCell ⟨w.heap.size, 0, none⟩ (.int .i64 v)).setCell ⟨w.heap.size, 1, none⟩ (.int .i64 u)).cell? ⟨w.heap.size, 0, none⟩ = some (.int .i64 v) := (new2 (cell_stb rc0 (by omega)) (cell_stb rc1 (by omega))).1
      have r1 : (((U.setCell ⟨w1.heap.size, 1, none⟩ (.int .i64 u)).setCell ⟨w.heap.size, 0, none⟩ (.int .i64 v)).setCell ⟨w.heap.size, 1, none⟩ (.int .i64 u)).cell? ⟨w.heap.size, 1, none⟩ = some (.int .i64 u) := (new2 (cell_stb rc0 (by omega)) (cell_stb rc1 (by omega))).2
      have hne1 : w1.heap.size ≠ w.heap.size := by omega
      go_wp2
      refine bodyPost_ret (v := .agg #[.int .i64 v, .int .i64 u]) (by simp [results, Try.results51, go_sem, r0, r1]) rfl ⟨_, _, rfl, ?_, ?_⟩
      · exact (HC.out.ex (x := w1.heap.size) ((Ex.refl _ U).setCell (.inl rfl) _) (by omega) (fun b off e hz => by have := HROW.out b off e hz; omega)).ex (x := w.heap.size) (((Ex.refl _ _).setCell (.inl rfl) _).setCell (.inl rfl) _) (by omega) (fun b off e hz => by have := HROW.out b off e hz; omega)
      · exact ((HE.out.setCell (.inr (by omega)) _).setCell (.inr (Nat.le_refl _)) _).setCell (.inr (Nat.le_refl _)) _
end Go.Proofs.Ytoiigmimdjipiaa

/- What is drawn from the bytes: one fraction, two of them, small right ones. -/
namespace Go.Proofs.Ytoiigmimdjipiaa
open Go.RowKit Go.Proofs.Ytoiigmimdjipiaa.RM

theorem big_any (a : Option Addr) (len cap : Nat) (w : World) :
    Calls Try.prog 4 #[.slice a len cap] w fun e w' => e = .returned (.bool (decide (4096 < (len : Int)))) ∧ w' = w := by
  by_cases h : 4096 < (len : Int)
  · rw [decide_eq_true h]
    go_enter Try.func4, Try.ntmps4
    go_wp2
    go_ret
    exact ⟨rfl, rfl⟩
  · rw [decide_eq_false h]
    go_enter Try.func4, Try.ntmps4
    go_wp2
    go_ret
    exact ⟨rfl, rfl⟩

theorem whole_any (n : Int) (w : World) :
    Calls Try.prog 20 #[.int .i64 n] w fun e w' => e = .returned (.agg #[.int .i64 n, .int .i64 1]) ∧ w' = w.alloc (.cells #[.int .i64 n, .int .i64 1] 29) := by
  go_enter Try.func20, Try.ntmps20
  go_wp2
  exact bodyPost_ret (v := .agg #[.int .i64 n, .int .i64 1]) (by simp [results, Try.results20, go_sem]) rfl ⟨rfl, rfl⟩

set_option maxHeartbeats 800000 in
theorem pick_any (a : Option Addr) (len cap : Nat) (zs : List Int) (seed n : Int) (w : World) (hr : IsRow .u8 w a len cap zs) (hl : len ≤ 4096) (hs0 : 0 ≤ seed) (hs1 : seed ≤ 1000) (hn : 0 < n) :
    Calls Try.prog 23 #[.slice a len cap, .int .i64 seed, .int .i64 n] w fun e w' => ∃ x : Int, e = .returned (.int .i64 x) ∧ 0 ≤ x ∧ x < n ∧ w' = w := by
  have HR : Hid (IsRow .u8 w a len cap zs) := hr
  clear hr
  go_enter Try.func23, Try.ntmps23
  go_wp2
  go_loop [7, 8] (fun x y => ∃ (h : Int) (k : Nat), 0 ≤ h ∧ h ≤ 10000000 ∧ k ≤ len ∧ x = .int .i64 h ∧ y = .int .i64 k) (fun _ y => len - (intOf y).toNat)
  case atStart => exact ⟨_, 0, by omega, by omega, Nat.zero_le _, rfl, rfl⟩
  case round =>
    obtain ⟨h, k, hh0, hh1, hk, rfl, rfl⟩ := hrel
    by_cases hlt : k < len
    · rcases HR.out with ⟨rfl, _⟩ | ⟨b, off, rfl, g1, g2, g3, g4, g5⟩
      · omega
      · have hx := g4 k (by omega)
        have hwf := range_u8 g5 k
        have hy : ∃ y, w.cell? ⟨b, off + k, none⟩ = some (.int .u8 y) ∧ 0 ≤ y ∧ y ≤ 255 := ⟨_, hx, by rw [List.getD_eq_getElem?_getD]; exact hwf.1, by rw [List.getD_eq_getElem?_getD]; exact hwf.2⟩
        obtain ⟨y, hy1, hy2, hy3⟩ := hy
        clear hx hwf g4 g5
        have hm := rem_in (h * 139 + y + seed) 1000003 (by omega)
        obtain ⟨hm0, hm1⟩ := hm
        go_wp2
        go_round
        case rel => exact ⟨_, k + 1, hm0, by omega, by omega, rfl, by go_num⟩
        case measure => simp [intOf]; omega
    · have hm := rem_in h n hn
      obtain ⟨hm0, hm1⟩ := hm
      have hn0 : ¬ n = 0 := by omega
      go_wp2
      go_ret
      exact ⟨_, rfl, hm0, hm1, rfl⟩

set_option maxHeartbeats 800000 in
theorem part_any (a : Option Addr) (len cap : Nat) (zs : List Int) (seed : Int) (w : World) (hr : IsRow .u8 w a len cap zs) (hl : len ≤ 4096) (hs0 : 0 ≤ seed) (hs1 : seed ≤ 900) :
    Calls Try.prog 22 #[.slice a len cap, .int .i64 seed] w fun e w' => ∃ n d : Int, e = .returned (.agg #[.int .i64 n, .int .i64 d]) ∧ okB n d = true ∧ -6 ≤ n ∧ n ≤ 6 ∧ 1 ≤ d ∧ d ≤ 4 ∧ Below w.heap.size w w' := by
  have HR : Hid (IsRow .u8 (w.alloc (.cells #[.int .i64 0, .int .i64 0] 29)) a len cap zs) := hr.below ((Below.refl _ _).alloc (Nat.le_refl _) _)
  clear hr
  go_enter Try.func22, Try.ntmps22
  go_wp2_with fail
  refine (pick_any a len cap zs _ _ _ HR.out hl hs0 (by omega) (by omega)).mono ?_
  rintro e w1 ⟨x, rfl, hx0, hx1, rfl⟩
  go_wp2_with fail
  refine (pick_any a len cap zs _ _ _ HR.out hl (by omega) (by omega) (by omega)).mono ?_
  rintro e w2 ⟨y, rfl, hy0, hy1, rfl⟩
  go_wp2_with fail
  refine (sRed_any _ _ _).mono ?_
  rintro e w3 ⟨rfl, hB3⟩
  obtain ⟨r1, r2, r3, r4, r5, r6⟩ := red_small (x := x - 6) (y := 1 + y) (m := 6) (by omega) (by omega) (by omega) (by omega) (by omega)
  have B3 : Below w.heap.size w w3 := ((Below.refl _ _).alloc (Nat.le_refl _) _).trans (hB3.mono (by simp))
  have rc0 : w3.cell? ⟨w.heap.size, 0, none⟩ = some (.int .i64 0) := by refine cell_later hB3 ?_; simp [go_sem]
  have rc1 : w3.cell? ⟨w.heap.size, 1, none⟩ = some (.int .i64 0) := by refine cell_later hB3 ?_; simp [go_sem]
  have rf0 : w3.frozen? ⟨w.heap.size, 0, none⟩ = false := by refine frozen_later (v := .int .i64 0) hB3 ?_ ?_ <;> simp [go_sem]
  have rf1 : w3.frozen? ⟨w.heap.size, 1, none⟩ = false := by refine frozen_later (v := .int .i64 0) hB3 ?_ ?_ <;> simp [go_sem]
  have hsz : w.heap.size < w3.heap.size := lt_cell rc0
  clear hB3 HR r1
  have r0 : (((w3.setCell ⟨w.heap.size, 0, none⟩ (.int .i64 (redN (x - 6) (1 + y)))).setCell ⟨w.heap.size, 1, none⟩ (.int .i64 (redD (x - 6) (1 + y)))).alloc (.cells #[.int .i64 (redN (x - 6) (1 + y)), .int .i64 (redD (x - 6) (1 + y))] 29)).cell? ⟨w.heap.size, 0, none⟩ = some (.int .i64 (redN (x - 6) (1 + y))) := cell_al _ (new2 rc0 rc1).1
  have r01 : (((w3.setCell ⟨w.heap.size, 0, none⟩ (.int .i64 (redN (x - 6) (1 + y)))).setCell ⟨w.heap.size, 1, none⟩ (.int .i64 (redD (x - 6) (1 + y)))).alloc (.cells #[.int .i64 (redN (x - 6) (1 + y)), .int .i64 (redD (x - 6) (1 + y))] 29)).cell? ⟨w.heap.size, 1, none⟩ = some (.int .i64 (redD (x - 6) (1 + y))) := cell_al _ (new2 rc0 rc1).2
  go_wp2
  exact bodyPost_ret (v := .agg #[.int .i64 (redN (x - 6) (1 + y)), .int .i64 (redD (x - 6) (1 + y))]) (by simp [results, Try.results22, go_sem, r0, r01]) rfl ⟨_, _, rfl, r2, r3, r4, r5, by omega, below_alN _ ((B3.setCell (Nat.le_refl _) _).setCell (Nat.le_refl _) _)⟩
end Go.Proofs.Ytoiigmimdjipiaa

/- The walks of the laws' helpers that hold two lists against each other. -/
namespace Go.Proofs.Ytoiigmimdjipiaa
open Go.RowKit Go.Proofs.Ytoiigmimdjipiaa.RM

set_option maxRecDepth 100000 in
set_option maxHeartbeats 1000000 in
theorem likeR_same (v u : Value) (ps : List (Int × Int)) (n b1 b2 : Nat) (w : World) (hn : ps.length = n) (hn2 : n ≤ 1000000000) (h1 : w.ownsRow b1 29 2 v n (cellsR ps)) (h2 : w.ownsRow b2 29 2 u n (cellsR ps)) :
    Calls Try.prog 18 #[v, u] w fun e w' => e = .returned (.bool true) ∧ Below w.heap.size w w' := by
  by_cases h0 : n = 0
  · obtain ⟨a, c, rfl⟩ := own_shape h1
    obtain ⟨a', c', rfl⟩ := own_shape h2
    subst h0
    clear h1 h2 hn
    go_enter Try.func18, Try.ntmps18
    go_wp2
    go_loop [5] (fun i => i = .int .i64 0) (fun _ => 0)
    case atStart => exact rfl
    case round =>
      subst hrel
      go_wp2
      go_ret
      exact ⟨rfl, Below.refl _ _⟩
  · obtain ⟨g, c, rfl⟩ := own_some h1 (by omega)
    obtain ⟨g', c', rfl⟩ := own_some h2 (by omega)
    have hg : g < w.heap.size := (h1.lt g rfl).2
    have hg' : g' < w.heap.size := (h2.lt g' rfl).2
    have H1 : Hid (∀ j, j < n → w.cell? ⟨g, j * 2, none⟩ = some (.int .i64 (ps[j]?.getD (0, 0)).1) ∧ w.cell? ⟨g, j * 2 + 1, none⟩ = some (.int .i64 (ps[j]?.getD (0, 0)).2)) := fun j hj => own_R h1 hn j hj
    have H2 : Hid (∀ j, j < n → w.cell? ⟨g', j * 2, none⟩ = some (.int .i64 (ps[j]?.getD (0, 0)).1) ∧ w.cell? ⟨g', j * 2 + 1, none⟩ = some (.int .i64 (ps[j]?.getD (0, 0)).2)) := fun j hj => own_R h2 hn j hj
    clear h1 h2 hn h0
    go_enter Try.func18, Try.ntmps18
    go_wp2
    go_loopw [5] (fun i wr => ∃ k : Nat, k ≤ n ∧ i = .int .i64 k ∧ Hid (Below w.heap.size w wr)) (fun i _ => n - (intOf i).toNat)
    case atStart => exact ⟨0, Nat.zero_le _, rfl, Below.refl _ _⟩
    case round =>
      obtain ⟨k, hk, rfl, hB⟩ := hrel
      by_cases hlt : k < n
      · obtain ⟨c1, c2⟩ := H1.out k hlt
        obtain ⟨c3, c4⟩ := H2.out k hlt
        obtain ⟨p, hp⟩ : ∃ p, p = ps[k]?.getD (0, 0) := ⟨_, rfl⟩
        rw [← hp] at c1 c2 c3 c4
        obtain ⟨x, y⟩ := p
        replace c1 := (hB.out.cell (p := ⟨g, k * 2, none⟩) hg).trans c1
        replace c2 := (hB.out.cell (p := ⟨g, k * 2 + 1, none⟩) hg).trans c2
        replace c3 := (hB.out.cell (p := ⟨g', k * 2, none⟩) hg').trans c3
        replace c4 := (hB.out.cell (p := ⟨g', k * 2 + 1, none⟩) hg').trans c4
        clear hp
        have ht : (x != x) = false := by simp
        have ht2 : (y != y) = false := by simp
        go_wp2
        go_quiet (fail)
        go_wp2
        go_roundw
        case rel => exact ⟨k + 1, by omega, by go_num, below_drewN hB.out _⟩
        case measure => simp [intOf]; omega
      · go_wp2
        go_ret
        exact ⟨rfl, hB.out⟩

end Go.Proofs.Ytoiigmimdjipiaa

/- likeRow, likeRows and nought at rows and tables that can be read. -/
namespace Go.Proofs.Ytoiigmimdjipiaa
open Go.RowKit Go.Proofs.Ytoiigmimdjipiaa.RM

theorem hidL {p : Prop} (h : p) : Hid p := h
theorem rdr_cells {w : World} {v : Value} {ps : List Fr} (h : RdR w v ps) (h0 : ps.length ≠ 0) : ∃ b off c, v = .slice (some ⟨b, off, none⟩) ps.length c ∧ b < w.heap.size ∧ ∀ j, j < ps.length → w.cell? ⟨b, off + j * 2, none⟩ = some (.int .i64 (fr ps j).1) ∧ w.cell? ⟨b, off + j * 2 + 1, none⟩ = some (.int .i64 (fr ps j).2) := by
  obtain ⟨a, c, rfl, -, -, -, h5⟩ := h
  obtain ⟨b, off, rfl, k1, k2⟩ := h5 0 (by omega)
  refine ⟨b, off, c, rfl, lt_cell k1, fun j hj => ?_⟩
  obtain ⟨b', off', e, k3, k4⟩ := h5 j hj
  injection e with e
  injection e with e1 e2
  subst e1 e2
  exact ⟨k3, k4⟩
set_option maxRecDepth 100000 in
set_option maxHeartbeats 1000000 in
theorem likeRow_rd (v u : Value) (ps : List Fr) (w : World) (hn2 : ps.length ≤ 1000000000) (h1 : RdR w v ps) (h2 : RdR w u ps) :
    Calls Try.prog 18 #[v, u] w fun e w' => e = .returned (.bool true) ∧ Below w.heap.size w w' := by
  obtain ⟨n, hn⟩ : ∃ n, n = ps.length := ⟨_, rfl⟩
  by_cases h0 : ps.length = 0
  · obtain ⟨a, c, rfl, -, -, -, -⟩ := h1
    obtain ⟨a', c', rfl, -, -, -, -⟩ := h2
    rw [h0]
    clear hn hn2 h0
    go_enter Try.func18, Try.ntmps18
    go_wp2
    go_loop [5] (fun i => i = .int .i64 0) (fun _ => 0)
    case atStart => exact rfl
    case round =>
      subst hrel
      go_wp2
      go_ret
      exact ⟨rfl, Below.refl _ _⟩
  · obtain ⟨g, o, c, rfl, hg, H1'⟩ := rdr_cells h1 h0
    obtain ⟨g', o', c', rfl, hg', H2'⟩ := rdr_cells h2 h0
    rw [← hn] at H1' H2' hn2 h0 ⊢
    have H1 := hidL H1'
    have H2 := hidL H2'
    clear h1 h2 H1' H2' hn
    go_enter Try.func18, Try.ntmps18
    go_wp2
    go_loopw [5] (fun i wr => ∃ k : Nat, k ≤ n ∧ i = .int .i64 k ∧ Hid (Below w.heap.size w wr)) (fun i _ => n - (intOf i).toNat)
    case atStart => exact ⟨0, Nat.zero_le _, rfl, Below.refl _ _⟩
    case round =>
      obtain ⟨k, hk, rfl, hB⟩ := hrel
      by_cases hlt : k < n
      · obtain ⟨c1, c2⟩ := H1.out k hlt
        obtain ⟨c3, c4⟩ := H2.out k hlt
        obtain ⟨p, hp⟩ : ∃ p, p = fr ps k := ⟨_, rfl⟩
        rw [← hp] at c1 c2 c3 c4
        obtain ⟨x, y⟩ := p
        replace c1 := (hB.out.cell (p := ⟨g, o + k * 2, none⟩) hg).trans c1
        replace c2 := (hB.out.cell (p := ⟨g, o + k * 2 + 1, none⟩) hg).trans c2
        replace c3 := (hB.out.cell (p := ⟨g', o' + k * 2, none⟩) hg').trans c3
        replace c4 := (hB.out.cell (p := ⟨g', o' + k * 2 + 1, none⟩) hg').trans c4
        clear hp
        have ht : (x != x) = false := by simp
        have ht2 : (y != y) = false := by simp
        go_wp2
        go_quiet (fail)
        go_wp2
        go_roundw
        case rel => exact ⟨k + 1, by omega, by go_num, below_drewN hB.out _⟩
        case measure => simp [intOf]; omega
      · go_wp2
        go_ret
        exact ⟨rfl, hB.out⟩
set_option maxRecDepth 100000 in
set_option maxHeartbeats 1000000 in
theorem likeRows_rd (v u : Value) (T : List (List Fr)) (w : World) (hn2 : T.length ≤ 1000000000) (hr : ∀ i, i < T.length → (rw' T i).length ≤ 1000000000) (h1 : RdT w v T) (h2 : RdT w u T) :
    Calls Try.prog 14 #[v, u] w fun e w' => e = .returned (.bool true) ∧ Below w.heap.size w w' := by
  have HT1 := hidL h1
  have HT2 := hidL h2
  have HR := hidL hr
  obtain ⟨n, hn⟩ : ∃ n, n = T.length := ⟨_, rfl⟩
  by_cases h0 : T.length = 0
  · obtain ⟨a, c, rfl, -, -, -, -⟩ := h1
    obtain ⟨a', c', rfl, -, -, -, -⟩ := h2
    rw [h0]
    clear hn hn2 h0 HT1 HT2 HR hr
    go_enter Try.func14, Try.ntmps14
    go_wp2
    go_loop [5] (fun i => i = .int .i64 0) (fun _ => 0)
    case atStart => exact rfl
    case round =>
      subst hrel
      go_wp2
      go_ret
      exact ⟨rfl, Below.refl _ _⟩
  · obtain ⟨a, c, rfl, -, -, -, h5⟩ := h1
    obtain ⟨a', c', rfl, -, -, -, h6⟩ := h2
    obtain ⟨g, o, -, rfl, -, -⟩ := h5 0 (by omega)
    obtain ⟨g', o', -, rfl, -, -⟩ := h6 0 (by omega)
    have H1 : Hid (∀ i, i < n → ∃ x, w.cell? ⟨g, o + i, none⟩ = some x ∧ RdR w x (rw' T i)) := fun i hi => by
      obtain ⟨b, off, x, e, k2, k3⟩ := h5 i (by omega)
      injection e with e
      injection e with e1 e2
      subst e1 e2
      exact ⟨x, k2, k3⟩
    have H2 : Hid (∀ i, i < n → ∃ x, w.cell? ⟨g', o' + i, none⟩ = some x ∧ RdR w x (rw' T i)) := fun i hi => by
      obtain ⟨b, off, x, e, k2, k3⟩ := h6 i (by omega)
      injection e with e
      injection e with e1 e2
      subst e1 e2
      exact ⟨x, k2, k3⟩
    rw [← hn] at hn2 h0 ⊢
    have HN := hidL hn
    clear h5 h6 HT1 HT2 hr hn
    go_enter Try.func14, Try.ntmps14
    go_wp2
    go_loopw [5] (fun i wr => ∃ k : Nat, k ≤ n ∧ i = .int .i64 k ∧ Hid (Below w.heap.size w wr)) (fun i _ => n - (intOf i).toNat)
    case atStart => exact ⟨0, Nat.zero_le _, rfl, Below.refl _ _⟩
    case round =>
      obtain ⟨k, hk, rfl, hB⟩ := hrel
      by_cases hlt : k < n
      · obtain ⟨x, c1, q1⟩ := H1.out k hlt
        obtain ⟨y, c2, q2⟩ := H2.out k hlt
        have HC : Hid (∀ W : World, Below w.heap.size w W → Calls Try.prog 18 #[x, y] W fun e w' => e = .returned (.bool true) ∧ Below W.heap.size W w') := fun W hW => likeRow_rd x y (rw' T k) W (HR.out k (by rw [← HN.out]; exact hlt)) (q1.below hW) (q2.below hW)
        replace c1 := cell_keep hB.out c1
        replace c2 := cell_keep hB.out c2
        clear q1 q2
        go_wp2
        go_region_with (go_at_call 18; refine (HC.out _ (by first | exact hB.out | exact hB.out.drew | exact below_drewN hB.out _)).mono ?_; rintro e w1 ⟨rfl, hb⟩; have B1 : Below w.heap.size w w1 := Below.trans (by first | exact hB.out | exact hB.out.drew | exact below_drewN hB.out _) (hb.mono (by simpa using hB.out.size)))
        all_goals
          go_wp2
          go_roundw
          case rel => exact ⟨k + 1, by omega, by go_num, by first | exact B1 | exact B1.drew | exact below_drewN B1 _⟩
          case measure => simp [intOf]; omega
      · go_wp2
        go_ret
        exact ⟨rfl, hB.out⟩
end Go.Proofs.Ytoiigmimdjipiaa

/- Three lists that a call appends to, two of them in a table of its own; a pick as a value. -/
namespace Go
open Go.RowKit
/-- append to a row of the call's own, as one step of a region that draws, told where the row lies -/
theorem step_app_at {P : Program} {ops : Array Oper} {o : Oper} {a : Act} {w : World} {K : Act → World → Prop} {Q : Exit → Act → World → Prop} {E : Prop}
    (hg : o.guard = none) (s x : Operand) (t : TypeId) (hop : o.op = Op.call { callee := Callee.builtin Builtin.append, args := #[s, x], argTypes := #[t, t] })
    (base : Nat) (e : TypeId) (i : TypeInfo) (z : Value) (size bytes : Nat) (ht : P.underlying t = some (.slice e)) (hi : P.info? e = some i) (hz : i.zero = some z)
    (hsize : i.size = size) (hby : i.bytes = bytes) (hzs : z.cells.size = size) (hsz : 0 < size)
    (v : Value) (n : Nat) (xs : List Value) (hs : a.eval s = v) (hown : w.ownsRow base e size v n xs)
    (ad : Addr) (m c : Nat) (news : List Value) (hx : a.eval x = .slice (some ad) m c) (hl : news.length = m * size) (hnews : ∀ j u, news[j]? = some u → w.cell? (ad.add j) = some u) (h1 : ∀ u ∈ news, u.oneCell' = true)
    (h63 : n + m ≤ maxLen) (hbytes : (n + m) * bytes ≤ 140737488355328) (hbase : base ≤ w.heap.size)
    (hK : ∀ v' w', w'.ownsRow base e size v' (n + m) (xs ++ news) → w.grownBy w' v.ownBlock → (v'.ownBlock = v.ownBlock ∨ v'.ownBlock = some w.heap.size) → K (a.put o.dst v') w') :
    if Region.wanted o (yielded ops a.tmps) = true then Oper.wp P o a w K Q else E := by
  have hw : Region.wanted o (yielded ops a.tmps) = true := by simp [Region.wanted, hg]
  rw [if_pos hw]
  obtain ⟨v', w', hrun, h2, h3, _, h4⟩ := run_append_own_at (P := P) (w := w) base t o.type e i z size bytes ht hi hz hsize hby hzs hsz v n xs hown ad m c news hl hnews h1 h63 hbytes hbase
  unfold Oper.wp
  simp [execOp, hop, resolve, invoke, builtin, hs, hx, hrun, Result.andThen]
  exact hK _ _ h2 h3 h4
end Go
namespace Go.Proofs.Ytoiigmimdjipiaa
open Go.RowKit Go.Proofs.Ytoiigmimdjipiaa.RM

/-- what a pick reckons with behind k bytes -/
def pickH (len : Nat) (zs : List Int) (seed : Int) : Nat → Int
  | 0 => (len : Int) + 7919 * seed
  | k + 1 => (pickH len zs seed k * 139 + zs.getD k 0 + seed) % 1000003
def pickV (len : Nat) (zs : List Int) (seed n : Int) : Int := pickH len zs seed len % n
set_option maxHeartbeats 1600000 in
theorem pickV_any (a : Option Addr) (len cap : Nat) (zs : List Int) (seed n : Int) (w : World) (hr : IsRow .u8 w a len cap zs) (hl : len ≤ 4096) (hs0 : 0 ≤ seed) (hs1 : seed ≤ 1000) (hn : 0 < n) :
    Calls Try.prog 23 #[.slice a len cap, .int .i64 seed, .int .i64 n] w fun e w' => e = .returned (.int .i64 (pickV len zs seed n)) ∧ Below w.heap.size w w' := by
  have HR : Hid (IsRow .u8 w a len cap zs) := hr
  obtain ⟨H, hH⟩ : ∃ H, H = pickH len zs seed := ⟨_, rfl⟩
  have H0 : Hid (H 0 = (len : Int) + 7919 * seed) := by show _ = _; rw [hH]; rfl
  have HS : Hid (∀ k, H (k + 1) = (H k * 139 + zs.getD k 0 + seed) % 1000003) := by intro k; rw [hH]; rfl
  have HV : Hid (pickV len zs seed n = H len % n) := by show _ = _; rw [hH]; rfl
  rw [HV.out]
  clear hr hH HV
  go_enter Try.func23, Try.ntmps23
  go_wp2
  go_loop [7, 8] (fun x y => ∃ (k : Nat), 0 ≤ H k ∧ H k ≤ 10000000 ∧ k ≤ len ∧ x = .int .i64 (H k) ∧ y = .int .i64 k) (fun _ y => len - (intOf y).toNat)
  case atStart => exact ⟨0, by rw [H0.out]; omega, by rw [H0.out]; omega, Nat.zero_le _, by rw [H0.out], rfl⟩
  case round =>
    obtain ⟨k, hh0, hh1, hk, rfl, rfl⟩ := hrel
    by_cases hlt : k < len
    · rcases HR.out with ⟨rfl, _⟩ | ⟨b, off, rfl, g1, g2, g3, g4, g5⟩
      · omega
      · have hx := g4 k (by omega)
        have hwf := range_u8 g5 k
        have hq := HS.out k
        have hy : ∃ y, y = zs.getD k 0 ∧ w.cell? ⟨b, off + k, none⟩ = some (.int .u8 y) ∧ 0 ≤ y ∧ y ≤ 255 := ⟨_, rfl, hx, by rw [List.getD_eq_getElem?_getD]; exact hwf.1, by rw [List.getD_eq_getElem?_getD]; exact hwf.2⟩
        obtain ⟨y, hy0, hy1, hy2, hy3⟩ := hy
        rw [← hy0] at hq
        obtain ⟨h, hh⟩ : ∃ h, h = H k := ⟨_, rfl⟩
        rw [← hh] at hh0 hh1 hq ⊢
        have HQ := hidW8 hq
        clear hx hwf g4 g5 hy0 hh hq
        have hm := rem_in (h * 139 + y + seed) 1000003 (by omega)
        obtain ⟨hm0, hm1⟩ := hm
        go_wp2
        go_round
        case rel => exact ⟨k + 1, by rw [HQ.out]; omega, by rw [HQ.out]; omega, by omega, by rw [HQ.out], by go_num⟩
        case measure => simp [intOf]; omega
    · obtain rfl : k = len := by omega
      have hm := rem_in (H k) n hn
      obtain ⟨hm0, hm1⟩ := hm
      have hn0 : ¬ n = 0 := by omega
      go_wp2
      go_ret
      exact ⟨rfl, Below.refl _ _⟩
theorem pickV_in (len : Nat) (zs : List Int) (seed : Int) {n : Int} (hn : 0 < n) : 0 ≤ pickV len zs seed n ∧ pickV len zs seed n < n := rem_in _ _ hn
theorem wholeB_any (n : Int) (w : World) :
    Calls Try.prog 20 #[.int .i64 n] w fun e w' => e = .returned (.agg #[.int .i64 n, .int .i64 1]) ∧ Below w.heap.size w w' := by
  refine (whole_any n w).mono ?_
  rintro e w' ⟨rfl, rfl⟩
  exact ⟨rfl, (Below.refl _ _).alloc (Nat.le_refl _) _⟩

/-- three lists of fractions of one's own, two of them in a table -/
structure Own3 (W : World) (B : Nat) (o : Value) (Tb : Nat) (u0 u1 : Value) (vs xs ys : List Fr) : Prop where
  ov : W.ownsRow B 29 2 o vs.length (cellsR vs)
  ox : W.ownsRow B 29 2 u0 xs.length (cellsR xs)
  oy : W.ownsRow B 29 2 u1 ys.length (cellsR ys)
  tb : W.heap[Tb]? = some (.cells #[u0, u1] 24 (0, 0))
  hB : B ≤ Tb
  vx : ∀ b, o.ownBlock = some b → u0.ownBlock ≠ some b
  vy : ∀ b, o.ownBlock = some b → u1.ownBlock ≠ some b
  xy : ∀ b, u0.ownBlock = some b → u1.ownBlock ≠ some b
theorem Own3.ltT {W : World} {B : Nat} {o : Value} {Tb : Nat} {u0 u1 : Value} {vs xs ys : List Fr} (h : Own3 W B o Tb u0 u1 vs xs ys) : Tb < W.heap.size := (Array.getElem?_eq_some_iff.1 h.tb).1
theorem Own3.below {W W' : World} {B : Nat} {o : Value} {Tb : Nat} {u0 u1 : Value} {vs xs ys : List Fr} (h : Own3 W B o Tb u0 u1 vs xs ys) (hb : Below W.heap.size W W') : Own3 W' B o Tb u0 u1 vs xs ys :=
  ⟨own_below h.ov hb, own_below h.ox hb, own_below h.oy hb, (hb.block Tb h.ltT).trans h.tb, h.hB, h.vx, h.vy, h.xy⟩
theorem own3_type {W : World} {B Tb : Nat} {v u0 u1 : Value} {n : Nat} {xs : List Value} (h : W.ownsRow B 29 2 v n xs) (ht : W.heap[Tb]? = some (.cells #[u0, u1] 24 (0, 0))) : v.ownBlock ≠ some Tb := by
  intro e
  obtain ⟨cs, h1⟩ := own_type h e
  rw [ht] at h1; injection h1 with hc; injection hc with _ hc _
  exact absurd hc (by decide)
theorem own3_keep {W W' : World} {B : Nat} {v u : Value} {n : Nat} {xs : List Value} (h : W.ownsRow B 29 2 v n xs) (hg : W.grownBy W' u.ownBlock) (hne : ∀ b, u.ownBlock = some b → v.ownBlock ≠ some b) : W'.ownsRow B 29 2 v n xs := by
  refine h.kept hg ?_
  cases e : u.ownBlock
  · cases e2 : v.ownBlock
    · exact .inl rfl
    · exact .inr (by simp)
  · exact .inr (hne _ e)
theorem own3_apart {W : World} {B : Nat} {v v' u : Value} {n : Nat} {xs : List Value} (h : W.ownsRow B 29 2 u n xs) (hb : v'.ownBlock = v.ownBlock ∨ v'.ownBlock = some W.heap.size) (hne : ∀ b, v.ownBlock = some b → u.ownBlock ≠ some b) : ∀ b, v'.ownBlock = some b → u.ownBlock ≠ some b := by
  intro b e e2
  rcases hb with k | k
  · exact hne b (k.symm.trans e) e2
  · rw [k] at e; injection e with e; subst e
    exact absurd (World.ownsRow.lt h _ e2).2 (Nat.lt_irrefl _)
theorem symm3 {v u : Value} (h : ∀ b, v.ownBlock = some b → u.ownBlock ≠ some b) : ∀ b, u.ownBlock = some b → v.ownBlock ≠ some b := fun b e k => h b k e
theorem len_snoc (l : List Fr) (x : Fr) : (l ++ [x]).length = l.length + 1 := by simp
theorem cells_snoc (l : List Fr) (x y : Int) : cellsR (l ++ [(x, y)]) = cellsR l ++ [.int .i64 x, .int .i64 y] := by rw [cellsR_append]; rfl
theorem Own3.appV {W W' : World} {B : Nat} {o o' : Value} {Tb : Nat} {u0 u1 : Value} {vs xs ys : List Fr} (h : Own3 W B o Tb u0 u1 vs xs ys) {x y : Int} (ho : W'.ownsRow B 29 2 o' (vs.length + 1) (cellsR vs ++ [.int .i64 x, .int .i64 y]))
    (hg : W.grownBy W' o.ownBlock) (hb : o'.ownBlock = o.ownBlock ∨ o'.ownBlock = some W.heap.size) : Own3 W' B o' Tb u0 u1 (vs ++ [(x, y)]) xs ys :=
  ⟨by rw [len_snoc, cells_snoc]; exact ho, own3_keep h.ox hg h.vx, own3_keep h.oy hg h.vy, (hg.block Tb h.ltT (fun e => own3_type h.ov h.tb e.symm)).trans h.tb, h.hB, own3_apart h.ox hb h.vx, own3_apart h.oy hb h.vy, h.xy⟩
theorem set_0 {W : World} {Tb : Nat} {u0 u1 u : Value} (h : W.heap[Tb]? = some (.cells #[u0, u1] 24 (0, 0))) : (W.setCell ⟨Tb, 0, none⟩ u).heap[Tb]? = some (.cells #[u, u1] 24 (0, 0)) := by
  obtain ⟨hlt, hk⟩ := Array.getElem?_eq_some_iff.1 h
  show (W.heap.modify Tb _)[Tb]? = _
  rw [Array.getElem?_eq_getElem (by rw [Array.size_modify]; exact hlt), Array.getElem_modify_self, hk]
  rfl
theorem set_1 {W : World} {Tb : Nat} {u0 u1 u : Value} (h : W.heap[Tb]? = some (.cells #[u0, u1] 24 (0, 0))) : (W.setCell ⟨Tb, 1, none⟩ u).heap[Tb]? = some (.cells #[u0, u] 24 (0, 0)) := by
  obtain ⟨hlt, hk⟩ := Array.getElem?_eq_some_iff.1 h
  show (W.heap.modify Tb _)[Tb]? = _
  rw [Array.getElem?_eq_getElem (by rw [Array.size_modify]; exact hlt), Array.getElem_modify_self, hk]
  rfl
theorem own3_set {W : World} {B Tb o : Nat} {v u : Value} {n : Nat} {xs : List Value} (h : W.ownsRow B 29 2 v n xs) (hne : v.ownBlock ≠ some Tb) : (W.setCell ⟨Tb, o, none⟩ u).ownsRow B 29 2 v n xs :=
  h.kept (grown_set W Tb o u) (.inr hne)
theorem Own3.appX {W W' : World} {B : Nat} {o : Value} {Tb : Nat} {u0 u1 u' : Value} {vs xs ys : List Fr} (h : Own3 W B o Tb u0 u1 vs xs ys) {x y : Int} (ho : W'.ownsRow B 29 2 u' (xs.length + 1) (cellsR xs ++ [.int .i64 x, .int .i64 y]))
    (hg : W.grownBy W' u0.ownBlock) (hb : u'.ownBlock = u0.ownBlock ∨ u'.ownBlock = some W.heap.size) : Own3 (W'.setCell ⟨Tb, 0, none⟩ u') B o Tb u' u1 vs (xs ++ [(x, y)]) ys := by
  have ht := (hg.block Tb h.ltT (fun e => own3_type h.ox h.tb e.symm)).trans h.tb
  have k1 := own3_keep h.ov hg (symm3 h.vx)
  have k2 := own3_keep h.oy hg h.xy
  exact ⟨own3_set k1 (own3_type k1 ht), by rw [len_snoc, cells_snoc]; exact own3_set ho (own3_type ho ht), own3_set k2 (own3_type k2 ht), set_0 ht, h.hB, symm3 (own3_apart h.ov hb (symm3 h.vx)), h.vy, own3_apart h.oy hb h.xy⟩
theorem Own3.appY {W W' : World} {B : Nat} {o : Value} {Tb : Nat} {u0 u1 u' : Value} {vs xs ys : List Fr} (h : Own3 W B o Tb u0 u1 vs xs ys) {x y : Int} (ho : W'.ownsRow B 29 2 u' (ys.length + 1) (cellsR ys ++ [.int .i64 x, .int .i64 y]))
    (hg : W.grownBy W' u1.ownBlock) (hb : u'.ownBlock = u1.ownBlock ∨ u'.ownBlock = some W.heap.size) : Own3 (W'.setCell ⟨Tb, 1, none⟩ u') B o Tb u0 u' vs xs (ys ++ [(x, y)]) := by
  have ht := (hg.block Tb h.ltT (fun e => own3_type h.oy h.tb e.symm)).trans h.tb
  have k1 := own3_keep h.ov hg (symm3 h.vy)
  have k2 := own3_keep h.ox hg (symm3 h.xy)
  exact ⟨own3_set k1 (own3_type k1 ht), own3_set k2 (own3_type k2 ht), by rw [len_snoc, cells_snoc]; exact own3_set ho (own3_type ho ht), set_1 ht, h.hB, h.vx, symm3 (own3_apart h.ov hb (symm3 h.vy)), symm3 (own3_apart h.ox hb (symm3 h.xy))⟩
theorem Own3.c0 {W : World} {B : Nat} {o : Value} {Tb : Nat} {u0 u1 : Value} {vs xs ys : List Fr} (h : Own3 W B o Tb u0 u1 vs xs ys) : W.cell? ⟨Tb, 0, none⟩ = some u0 := by simp [World.cell?, h.tb]
theorem Own3.c1 {W : World} {B : Nat} {o : Value} {Tb : Nat} {u0 u1 : Value} {vs xs ys : List Fr} (h : Own3 W B o Tb u0 u1 vs xs ys) : W.cell? ⟨Tb, 1, none⟩ = some u1 := by simp [World.cell?, h.tb]
theorem Own3.f0 {W : World} {B : Nat} {o : Value} {Tb : Nat} {u0 u1 : Value} {vs xs ys : List Fr} (h : Own3 W B o Tb u0 u1 vs xs ys) : W.frozen? ⟨Tb, 0, none⟩ = false := by simp [World.frozen?, h.tb]
theorem Own3.f1 {W : World} {B : Nat} {o : Value} {Tb : Nat} {u0 u1 : Value} {vs xs ys : List Fr} (h : Own3 W B o Tb u0 u1 vs xs ys) : W.frozen? ⟨Tb, 1, none⟩ = false := by simp [World.frozen?, h.tb]
theorem rdT_two {W : World} {Tb : Nat} {u0 u1 : Value} {xs ys : List Fr} (h : W.heap[Tb]? = some (.cells #[u0, u1] 24 (0, 0))) (h0 : RdR W u0 xs) (h1 : RdR W u1 ys) : RdT W (.slice (some ⟨Tb, 0, none⟩) 2 2) [xs, ys] := by
  refine ⟨some ⟨Tb, 0, none⟩, 2, rfl, by unfold maxLen; simp, by simp, by unfold maxLen; omega, ?_⟩
  intro i hi
  have hi2 : i < 2 := hi
  obtain rfl | rfl : i = 0 ∨ i = 1 := by omega
  · exact ⟨Tb, 0, u0, rfl, by simp [World.cell?, h], h0⟩
  · exact ⟨Tb, 0, u1, rfl, by simp [World.cell?, h], h1⟩
theorem Own3.rd {W : World} {B : Nat} {o : Value} {Tb : Nat} {u0 u1 : Value} {vs xs ys : List Fr} (h : Own3 W B o Tb u0 u1 vs xs ys) : RdR W o vs ∧ RdT W (.slice (some ⟨Tb, 0, none⟩) 2 2) [xs, ys] :=
  ⟨(RdR.own h.ov).1, rdT_two h.tb (RdR.own h.ox).1 (RdR.own h.oy).1⟩
/-- rows[1] = rows[0] -/
theorem Own3.same {W : World} {B : Nat} {o : Value} {Tb : Nat} {u0 u1 : Value} {vs xs ys : List Fr} (h : Own3 W B o Tb u0 u1 vs xs ys) : RdR (W.setCell ⟨Tb, 1, none⟩ u0) o vs ∧ RdT (W.setCell ⟨Tb, 1, none⟩ u0) (.slice (some ⟨Tb, 0, none⟩) 2 2) [xs, xs] := by
  have k1 := own3_set (o := 1) (u := u0) h.ov (own3_type h.ov h.tb)
  have k2 := own3_set (o := 1) (u := u0) h.ox (own3_type h.ox h.tb)
  exact ⟨(RdR.own k1).1, rdT_two (set_1 h.tb) (RdR.own k2).1 (RdR.own k2).1⟩
/-- small fractions that a law draws -/
def SmL (l : List Fr) (A B : Int) : Prop := ∀ i, i < l.length → Sm (fr l i) A B
theorem SmL.nil (A B : Int) : SmL [] A B := fun _ h => absurd h (Nat.not_lt_zero _)
theorem SmL.snoc {l : List Fr} {A B : Int} (h : SmL l A B) {x : Fr} (hx : Sm x A B) : SmL (l ++ [x]) A B := by
  intro i hi
  rw [len_snoc] at hi
  by_cases e : i < l.length
  · rw [fr_app1 _ _ _ e]; exact h i e
  · obtain rfl : i = l.length := by omega
    rw [fr_app2 _ _ _ (Nat.le_refl _), Nat.sub_self]; exact hx
theorem whole_sm {n A : Int} (h1 : -A ≤ n) (h2 : n ≤ A) (hA : A ≤ 1000000000) {B : Int} (hB : 1 ≤ B) : Sm (n, 1) A B := by
  refine ⟨?_, h1, h2, by show (1 : Int) ≤ 1; omega, hB⟩
  exact okB_whole (by omega) (by omega)
end Go.Proofs.Ytoiigmimdjipiaa

/- Lists and tables of fractions that are drawn. -/
namespace Go.Proofs.Ytoiigmimdjipiaa
open Go.RowKit Go.Proofs.Ytoiigmimdjipiaa.RM

theorem cellsR_snoc (ps : List Fr) (x y : Int) : cellsR (ps ++ [(x, y)]) = cellsR ps ++ [Value.int .i64 x, .int .i64 y] := by simp [cellsR]
theorem hidW {p : Prop} (h : p) : Hid p := h
theorem cur_grown {w w' : World} {cb : Nat} {a : Option Addr} {len cap : Nat} {zs : List Int} {row : Option Nat} (h : Cur w cb a len cap zs) (hg : w.grownBy w' row) (hne : row ≠ some cb) (hrow : ∀ b off, a = some ⟨b, off, none⟩ → 0 < zs.length → row ≠ some b) : Cur w' cb a len cap zs := by
  cases row with
  | none => exact h.below ⟨hg.os, hg.tape, hg.output, hg.size, fun k hk => hg.block k hk (by simp)⟩
  | some g => exact h.ex (x := g) ⟨hg.os, hg.tape, hg.output, hg.size, fun k hk hne => hg.block k hk (by simpa using hne)⟩ (by simpa using hne) (fun b off e hz hb => hrow b off e hz (by rw [hb]))
/-- a row that lies beyond the cursor stays where the cursor moves -/
theorem ownEx {w w' : World} {cb base : Nat} {e : TypeId} {size : Nat} {v : Value} {n : Nat} {xs : List Value} (h : w.ownsRow base e size v n xs) (hx : Ex cb w w') (hc : cb < base) : w'.ownsRow base e size v n xs := by
  refine h.kept (row := some cb) ⟨hx.1, hx.2.1, hx.2.2.1, hx.2.2.2.1, fun k hk hne => hx.2.2.2.2 k hk (by simpa using hne)⟩ (.inr fun e => ?_)
  have := (h.lt cb e).1
  omega
theorem Tab.ex {w w' : World} {cb base : Nat} {v : Value} {us : List Value} {rows : List (List Fr)} (h : Tab w base v us rows) (hx : Ex cb w w') (hc : cb < base) : Tab w' base v us rows :=
  ⟨ownEx h.outer hx hc, h.len, fun i hi => ownEx (h.inner i hi) hx hc, h.apart⟩
/-- the cursor stays where a row beyond it grows -/
theorem curRow {w w1 : World} {cb base : Nat} {a : Option Addr} {len cap : Nat} {zs : List Int} {e : TypeId} {size : Nat} {v : Value} {n : Nat} {xs : List Value} {o : Obj} (h : Cur w cb a len cap zs) (hr : w.ownsRow base e size v n xs) (hc : cb < base) (ha : ∀ b off, a = some ⟨b, off, none⟩ → 0 < zs.length → b < base) (hg : (w.alloc o).grownBy w1 v.ownBlock) : Cur w1 cb a len cap zs := by
  have h1 : Cur (w.alloc o) cb a len cap zs := h.below ((Below.refl _ _).alloc (Nat.le_refl _) _)
  refine cur_grown h1 hg (fun e => ?_) (fun b off e hz hb => ?_)
  · have := (hr.lt cb e).1; omega
  · have := (hr.lt b hb).1; have := ha b off e hz; omega
/-- all else stays where a row beyond it grows -/
theorem exRow {w0 w w1 : World} {cb base : Nat} {e : TypeId} {size : Nat} {v : Value} {n : Nat} {xs : List Value} {o : Obj} (h : Ex cb w0 w) (hr : w.ownsRow base e size v n xs) (hb : w0.heap.size ≤ base) (hg : (w.alloc o).grownBy w1 v.ownBlock) : Ex cb w0 w1 := by
  have h1 := h.alloc o
  refine ⟨hg.os.trans h1.1, hg.tape.trans h1.2.1, hg.output.trans h1.2.2.1, Nat.le_trans h1.size hg.size, fun k hk hne => ?_⟩
  refine (hg.block k (Nat.lt_of_lt_of_le hk h1.size) (fun e => ?_)).trans (h1.2.2.2.2 k hk hne)
  have := (hr.lt k e.symm).1
  omega
theorem exSet {w0 w : World} {cb b o : Nat} {u : Value} (h : Ex cb w0 w) (hb : w0.heap.size ≤ b) : Ex cb w0 (w.setCell ⟨b, o, none⟩ u) := h.setCell (.inr hb) u
theorem curSet {w : World} {cb b o : Nat} {a : Option Addr} {len cap : Nat} {zs : List Int} {u : Value} (h : Cur w cb a len cap zs) (hc : cb ≠ b) (ha : ∀ b' off, a = some ⟨b', off, none⟩ → 0 < zs.length → b' ≠ b) : Cur (w.setCell ⟨b, o, none⟩ u) cb a len cap zs :=
  h.ex (x := b) ((Ex.refl _ w).setCell (.inl rfl) _) (by omega) (fun b' off e hz hb => ha b' off e hz hb)

set_option maxRecDepth 100000 in
set_option maxHeartbeats 4000000 in
theorem dList_any (cb : Nat) (n : Int) (a : Option Addr) (len cap : Nat) (zs : List Int) (w : World) (hc : Cur w cb a len cap zs) (hn0 : 0 ≤ n) (hn1 : n ≤ 100) :
    Calls Try.prog 28 #[.pointer (some ⟨cb, 0, none⟩), .int .i64 n] w fun e w' => ∃ (v : Value) (ps : List Fr), e = .returned v ∧ w'.ownsRow w.heap.size 29 2 v ps.length (cellsR ps) ∧ ps.length ≤ 200 ∧ Cur w' cb a len cap zs ∧ Ex cb w w' := by
  obtain ⟨i0, hi, hz0, hz1, hz2⟩ := info_parts infoF
  have b0 : ∀ (u : World) (o : Obj), Below u.heap.size u (u.alloc o) := fun u o => (Below.refl _ _).alloc (Nat.le_refl _) o
  have hlt := hc.lt
  have HROW : Hid (∀ b off, a = some ⟨b, off, none⟩ → 0 < zs.length → b < w.heap.size) := hc.2.1.lt
  have HC : Hid (Cur w cb a len cap zs) := hc
  clear hc
  go_enter Try.func28, Try.ntmps28
  go_wp2
  have o0 : (w.alloc (.cells #[] 29)).ownsRow w.heap.size 29 2 (.slice (some ⟨w.heap.size, 0, none⟩) 0 0) ([] : List Fr).length (cellsR []) := ⟨rfl, .inr ⟨w.heap.size, 0, #[], rfl, Nat.le_refl _, World.alloc_heap_new w _, Nat.le_refl _, Nat.zero_le _, rfl, rfl⟩⟩
  have C0 : Cur (w.alloc (.cells #[] 29)) cb a len cap zs := HC.out.below (b0 _ _)
  have E0 : Ex cb w (w.alloc (.cells #[] 29)) := (Ex.refl cb w).alloc _
  go_loopw [5, 1] (fun o i wr => ∃ (ps : List Fr) (m : Int), i = .int .i64 m ∧ 0 ≤ m ∧ ps.length + m ≤ 100 ∧ Hid (wr.ownsRow w.heap.size 29 2 o ps.length (cellsR ps)) ∧ Hid (Cur wr cb a len cap zs) ∧ Hid (Ex cb w wr)) (fun _ i _ => (intOf i).toNat)
  case atStart => exact ⟨[], n, rfl, hn0, by simp; omega, o0, C0, E0⟩
  case round =>
    clear o0 C0 E0 HC hn0 hn1
    obtain ⟨ps, m, rfl, hm0, hm1, hO, HC, HE⟩ := hrel
    have hsz := HE.out.size
    by_cases hlt2 : 0 < m
    · have hkm : ps.length + 1 ≤ maxLen := by unfold maxLen; omega
      go_wp2_with fail
      refine (draw_any cb a len cap zs _ HC.out).mono ?_
      rintro e w4 ⟨x, y, rfl, q1, q2, q3, q4, q5, hC', hE⟩
      have hO2 := hidW (ownEx hO.out hE hlt)
      have hE2 := hidW (HE.out.trans hE)
      have hC2 := hidW hC'
      have hs2 := hE2.out.size
      clear q1 q2 q3 q4 q5 hC' hE
      go_wp2_with (at_builtin; refine wpList_append_own _ rfl _ _ 24 rfl w.heap.size 29 i0 (.agg #[.int .i64 0, .int .i64 0]) 2 16 Try.underlying24 hi hz0 hz1 hz2 rfl (by decide) _ _ _ rfl (World.ownsRow.alloc hO2.out _) ⟨w4.heap.size, 0, none⟩ 1 1 [.int .i64 x, .int .i64 y] rfl rfl (cell_twoF _ _ _ _) (by intro u hu; simp at hu; rcases hu with rfl | rfl <;> rfl) (by omega) (by omega) (by simp; omega) ?_; intro v' w5 hown' hgrow _)
      go_roundw
      case rel =>
        refine ⟨ps ++ [(x, y)], m - 1, by go_num, by omega, by simp; omega, ?_, curRow hC2.out hO2.out hlt HROW.out hgrow, exRow hE2.out hO2.out (Nat.le_refl _) hgrow⟩
        show World.ownsRow _ _ _ _ _ _ _
        rw [cellsR_snoc]
        simpa using hown'
      case measure => simp [intOf]; omega
    · have hp : ps.length ≤ 101 := by omega
      clear hm0 hm1
      go_wp2_with fail
      refine (once_any cb _ a len cap zs _ HC.out (by omega)).mono ?_
      rintro e w4 ⟨z, rfl, hC', hE⟩
      replace HC : Hid (Cur w4 cb a len cap zs) := hC'
      replace hO := hidW (ownEx hO.out hE hlt)
      replace HE := hidW (HE.out.trans hE)
      replace hsz := HE.out.size
      clear hC' hE
      have tail : ∀ (qs : List Fr) (v : Value) (W : World), qs.length ≤ 101 → W.ownsRow w.heap.size 29 2 v qs.length (cellsR qs) → Cur W cb a len cap zs → Ex cb w W → True := fun _ _ _ _ _ _ _ => trivial
      clear tail
      cases z
      · go_wp2_with fail
        refine (once_any cb _ a len cap zs _ HC.out (by omega)).mono ?_
        rintro e w6 ⟨z, rfl, hC', hE⟩
        replace HC : Hid (Cur w6 cb a len cap zs) := hC'
        replace hO := hidW (ownEx hO.out hE hlt)
        replace HE := hidW (HE.out.trans hE)
        replace hsz := HE.out.size
        clear hC' hE
        cases z
        · go_wp2
          refine bodyPost_ret (results_tmp rfl _ _ _) rfl ⟨_, ps, rfl, ?_, by omega, HC.out, HE.out⟩; exact hO.out
        · have hkm : ps.length + 1 ≤ maxLen := by unfold maxLen; omega
          go_wp2_with fail
          refine (draw_any cb a len cap zs _ HC.out).mono ?_
          rintro e w7 ⟨x, y, rfl, q1, q2, q3, q4, q5, hC', hE⟩
          have hO2 := hidW (ownEx hO.out hE hlt)
          have hE2 := hidW (HE.out.trans hE)
          have hC2 := hidW hC'
          have hs2 := hE2.out.size
          clear q1 q2 q3 q4 q5 hC' hE
          go_wp2_with (at_builtin; refine wpList_append_own _ rfl _ _ 24 rfl w.heap.size 29 i0 (.agg #[.int .i64 0, .int .i64 0]) 2 16 Try.underlying24 hi hz0 hz1 hz2 rfl (by decide) _ _ _ rfl (World.ownsRow.alloc hO2.out _) ⟨w7.heap.size, 0, none⟩ 1 1 [.int .i64 x, .int .i64 y] rfl rfl (cell_twoF _ _ _ _) (by intro u hu; simp at hu; rcases hu with rfl | rfl <;> rfl) (by omega) (by omega) (by simp; omega) ?_; intro v' w8 hown' hgrow _)
          refine bodyPost_ret (results_tmp rfl _ _ _) rfl ⟨_, ps ++ [(x, y)], rfl, ?_, by simp; omega, curRow hC2.out hO2.out hlt HROW.out hgrow, exRow hE2.out hO2.out (Nat.le_refl _) hgrow⟩
          rw [cellsR_snoc]
          simpa using hown'
      · by_cases hp0 : ps.length = 0
        · obtain rfl : ps = [] := List.eq_nil_of_length_eq_zero hp0
          have hO' := hO.out
          simp only [List.length_nil, cellsR_nil] at hO'
          replace hO := hidW hO'
          obtain ⟨a', c', rfl⟩ := own_shape hO'
          clear hO'
          clear hp0
          go_wp2_with fail
          refine (once_any cb _ a len cap zs _ HC.out (by omega)).mono ?_
          rintro e w6 ⟨z, rfl, hC', hE⟩
          replace HC : Hid (Cur w6 cb a len cap zs) := hC'
          replace hO := hidW (ownEx hO.out hE hlt)
          replace HE := hidW (HE.out.trans hE)
          replace hsz := HE.out.size
          clear hC' hE
          cases z
          · go_wp2
            refine bodyPost_ret (results_tmp rfl _ _ _) rfl ⟨_, [], rfl, ?_, by omega, HC.out, HE.out⟩; exact hO.out
          · have hkm : 0 + 1 ≤ maxLen := by unfold maxLen; omega
            go_wp2_with fail
            refine (draw_any cb a len cap zs _ HC.out).mono ?_
            rintro e w7 ⟨x, y, rfl, q1, q2, q3, q4, q5, hC', hE⟩
            have hO2 := hidW (ownEx hO.out hE hlt)
            have hE2 := hidW (HE.out.trans hE)
            have hC2 := hidW hC'
            have hs2 := hE2.out.size
            clear q1 q2 q3 q4 q5 hC' hE
            go_wp2_with (at_builtin; refine wpList_append_own _ rfl _ _ 24 rfl w.heap.size 29 i0 (.agg #[.int .i64 0, .int .i64 0]) 2 16 Try.underlying24 hi hz0 hz1 hz2 rfl (by decide) _ _ _ rfl (World.ownsRow.alloc hO2.out _) ⟨w7.heap.size, 0, none⟩ 1 1 [.int .i64 x, .int .i64 y] rfl rfl (cell_twoF _ _ _ _) (by intro u hu; simp at hu; rcases hu with rfl | rfl <;> rfl) (by omega) (by omega) (by simp; omega) ?_; intro v' w8 hown' hgrow _)
            refine bodyPost_ret (results_tmp rfl _ _ _) rfl ⟨_, [(x, y)], rfl, ?_, by simp, curRow hC2.out hO2.out hlt HROW.out hgrow, exRow hE2.out hO2.out (Nat.le_refl _) hgrow⟩
            simpa [cellsR] using hown'
        · obtain ⟨g, c, rfl⟩ := own_some hO.out (by omega)
          have hp0i : 0 < (ps.length : Int) := by omega
          go_wp2_with fail
          refine (drawAny_any cb a len cap zs _ HC.out).mono ?_
          rintro e w5 ⟨x, y, rfl, hC', hE⟩
          replace HC : Hid (Cur w5 cb a len cap zs) := hC'
          replace hO := hidW (ownEx hO.out hE hlt)
          replace HE := hidW (HE.out.trans hE)
          replace hsz := HE.out.size
          clear hC' hE
          have hg1 := (World.ownsRow.lt hO.out g rfl)
          obtain ⟨c0, c1⟩ := own_R hO.out rfl 0 (by omega)
          have f0 := World.ownsRow.frozenAt hO.out 0
          have f1 := World.ownsRow.frozenAt hO.out 1
          obtain ⟨s1, s2⟩ := World.ownsRow.stored hO.out 0 (.int .i64 x)
          obtain ⟨s3, s4⟩ := s1.stored 1 (.int .i64 y)
          have s5 := cellsR_set ps 0 x y (by omega)
          simp only [Nat.zero_mul, Nat.zero_add] at s5 c0 c1
          rw [s5] at s3
          have C5 := hidW (curSet (o := 1) (u := .int .i64 y) (curSet (o := 0) (u := .int .i64 x) HC.out (show cb ≠ g by omega) (fun b' off e hz => by have := HROW.out b' off e hz; omega)) (show cb ≠ g by omega) (fun b' off e hz => by have := HROW.out b' off e hz; omega))
          have E5 := hidW (exSet (o := 1) (u := .int .i64 y) (exSet (o := 0) (u := .int .i64 x) HE.out hg1.1) hg1.1)
          have S5 := hidW s3
          clear s1 s2 s3 s4 s5
          go_wp2_with fail
          refine (once_any cb _ a len cap zs _ C5.out (by omega)).mono ?_
          rintro e w6 ⟨z, rfl, hC', hE⟩
          have C6 : Hid (Cur w6 cb a len cap zs) := hC'
          have O6 := hidW (ownEx S5.out hE hlt)
          have E6 := hidW (E5.out.trans hE)
          have hsz6 := E6.out.size
          clear hC' hE
          have hln : (ps.set 0 (x, y)).length = ps.length := by simp
          cases z
          · go_wp2
            refine bodyPost_ret (results_tmp rfl _ _ _) rfl ⟨_, ps.set 0 (x, y), rfl, ?_, by omega, C6.out, E6.out⟩; rw [hln]; exact O6.out
          · have hkm : ps.length + 1 ≤ maxLen := by unfold maxLen; omega
            go_wp2_with fail
            refine (draw_any cb a len cap zs _ C6.out).mono ?_
            rintro e w7 ⟨x', y', rfl, q1, q2, q3, q4, q5, hC', hE⟩
            have hO2 := hidW (ownEx O6.out hE hlt)
            have hE2 := hidW (E6.out.trans hE)
            have hC2 := hidW hC'
            have hs2 := hE2.out.size
            clear q1 q2 q3 q4 q5 hC' hE
            go_wp2_with (at_builtin; refine wpList_append_own _ rfl _ _ 24 rfl w.heap.size 29 i0 (.agg #[.int .i64 0, .int .i64 0]) 2 16 Try.underlying24 hi hz0 hz1 hz2 rfl (by decide) _ _ _ rfl (World.ownsRow.alloc hO2.out _) ⟨w7.heap.size, 0, none⟩ 1 1 [.int .i64 x', .int .i64 y'] rfl rfl (cell_twoF _ _ _ _) (by intro u hu; simp at hu; rcases hu with rfl | rfl <;> rfl) (by omega) (by omega) (by simp; omega) ?_; intro v' w8 hown' hgrow _)
            refine bodyPost_ret (results_tmp rfl _ _ _) rfl ⟨_, ps.set 0 (x, y) ++ [(x', y')], rfl, ?_, by simp; omega, curRow hC2.out hO2.out hlt HROW.out hgrow, exRow hE2.out hO2.out (Nat.le_refl _) hgrow⟩
            rw [cellsR_snoc]
            simpa using hown'
end Go.Proofs.Ytoiigmimdjipiaa

/- A table of fractions that is drawn. -/
namespace Go.Proofs.Ytoiigmimdjipiaa
open Go.RowKit Go.Proofs.Ytoiigmimdjipiaa.RM

/-- a row's cells as what is appended -/
theorem own_newsF {W : World} {base g n c : Nat} {ps : List Fr} (h : W.ownsRow base 29 2 (.slice (some ⟨g, 0, none⟩) n c) n (cellsR ps)) (hl : ps.length = n) : ∀ j u, (cellsR ps)[j]? = some u → W.cell? ((⟨g, 0, none⟩ : Addr).add j) = some u := by
  intro j u hu
  have hj : j < (cellsR ps).length := by
    apply Classical.byContradiction
    intro hn
    rw [List.getElem?_eq_none (by omega)] at hu
    cases hu
  rw [cellsR_len] at hj
  have := h.cellAt j (by omega)
  rw [hu] at this
  by_cases h0 : j = 0
  · subst h0; exact this
  · simpa [Addr.add, h0] using this
theorem cell_keep' {W W' : World} (hb : Below W.heap.size W W') {a : Addr} {v : Value} (h : W.cell? a = some v) : W'.cell? a = some v :=
  (hb.cell (p := a) (World.block_lt_of_cell? W _ h)).trans h
theorem cellTwo (w : World) (S : Nat) (a b : Value) (t : TypeId) (h : S = w.heap.size) : ∀ j u, [a, b][j]? = some u → (w.alloc (.cells #[a, b] t)).cell? ((⟨S, 0, none⟩ : Addr).add j) = some u := by
  subst h; exact cell_twoF w a b t
/-- the rows are that long -/
def AllL (T : List (List Fr)) (L : Nat) : Prop := ∀ x, x < T.length → (rw' T x).length = L

set_option maxRecDepth 100000 in
set_option maxHeartbeats 4000000 in
theorem dTab_any (cb rows cols : Nat) (a : Option Addr) (len cap : Nat) (zs : List Int) (w : World) (hc : Cur w cb a len cap zs) (hr1 : rows ≤ 100) (hc0 : 1 ≤ cols) (hc1 : cols ≤ 100) :
    Calls Try.prog 50 #[.pointer (some ⟨cb, 0, none⟩), .int .i64 rows, .int .i64 cols] w fun e w' => ∃ (v : Value) (us : List Value) (T : List (List Fr)), e = .returned v ∧ Tab w' w.heap.size v us T ∧ T.length = rows ∧ AllL T cols ∧ Cur w' cb a len cap zs ∧ Ex cb w w' := by
  obtain ⟨i0, hi, hz0, hz1, hz2⟩ := info_parts infoF
  obtain ⟨t0, hti, htz0, htz1, htz2⟩ := info_parts infoT
  have b0 : ∀ (u : World) (o : Obj), Below u.heap.size u (u.alloc o) := fun u o => (Below.refl _ _).alloc (Nat.le_refl _) o
  have hlt := hc.lt
  have HROW : Hid (∀ b off, a = some ⟨b, off, none⟩ → 0 < zs.length → b < w.heap.size) := hc.2.1.lt
  have HC : Hid (Cur w cb a len cap zs) := hc
  clear hc
  go_enter Try.func50, Try.ntmps50
  go_wp2
  have o0 : Tab (w.alloc (.cells #[] 24)) w.heap.size (.slice (some ⟨w.heap.size, 0, none⟩) 0 0) [] [] := Tab.lit (Nat.le_refl _)
  have C0 : Cur (w.alloc (.cells #[] 24)) cb a len cap zs := HC.out.below (b0 _ _)
  have E0 : Ex cb w (w.alloc (.cells #[] 24)) := (Ex.refl cb w).alloc _
  go_loopw [7, 1] (fun q0 i wr => ∃ (o : Value) (us : List Value) (T : List (List Fr)) (m : Nat), o = q0 ∧ i = .int .i64 m ∧ T.length + m = rows ∧ us.length = T.length ∧ Hid (AllL T cols) ∧ Hid (Tab wr w.heap.size o us T) ∧ Hid (Cur wr cb a len cap zs) ∧ Hid (Ex cb w wr)) (fun _ i _ => (intOf i).toNat)
  case atStart => exact ⟨_, [], [], rows, rfl, rfl, by simp, rfl, fun x hx => absurd hx (by simp), o0, C0, E0⟩
  case round =>
    clear o0 C0 E0 HC
    obtain ⟨o, us, T, m, rfl, rfl, hm0, hus, hAL, hT, HC, HE⟩ := hrel
    have hsz := HE.out.size
    by_cases hmz : 0 < m
    · have hmi : (0 : Int) < (m : Int) := by omega
      go_upto_region 6 with fail
      obtain ⟨Sk, hSk⟩ : ∃ g, g = wr.heap.size := ⟨_, rfl⟩
      obtain ⟨X, hX⟩ : ∃ X, X = wr.alloc (.cells #[] 29) := ⟨_, rfl⟩
      have o1 : X.ownsRow Sk 29 2 (.slice (some ⟨Sk, 0, none⟩) 0 0) 0 (cellsR []) := by rw [hX, hSk]; exact ⟨rfl, .inr ⟨wr.heap.size, 0, #[], rfl, Nat.le_refl _, World.alloc_heap_new wr _, Nat.le_refl _, Nat.zero_le _, rfl, rfl⟩⟩
      have C1 : Cur X cb a len cap zs := by rw [hX]; exact HC.out.below (b0 _ _)
      have E1 : Ex cb w X := by rw [hX]; exact HE.out.alloc _
      have T1 : Tab X w.heap.size o us T := by rw [hX]; exact hT.out.below (b0 _ _)
      have U1 : Hid (Under Sk o us) := by rw [hSk]; exact hT.out.under
      have hwS : w.heap.size ≤ Sk := by omega
      have hXS : Sk + 1 ≤ X.heap.size := by rw [hX, hSk]; simp
      rw [← hX, ← hSk]
      clear hX hSk hT HC HE hsz
      go_loopw [8, 9] (fun q0 i wr => ∃ (q : Value) (ps : List Fr) (k : Nat), q = q0 ∧ i = .int .i64 k ∧ k ≤ cols ∧ ps.length = k ∧ Hid (wr.ownsRow Sk 29 2 q k (cellsR ps)) ∧ Hid (Tab wr w.heap.size o us T) ∧ Hid (Cur wr cb a len cap zs) ∧ Hid (Ex cb w wr) ∧ Sk + 1 ≤ wr.heap.size) (fun _ i _ => cols - (intOf i).toNat)
      case atStart => exact ⟨_, [], 0, rfl, rfl, by omega, rfl, o1, T1, C1, E1, hXS⟩
      case round =>
        clear o1 C1 E1 T1 hXS
        obtain ⟨q, ps, k, rfl, rfl, hk, hpl, hO, hT, HC, HE, hXS⟩ := hrel
        by_cases hlt2 : k < cols
        · have hki : ((k : Nat) : Int) < (cols : Int) := by omega
          have hkm : k + 1 ≤ maxLen := by unfold maxLen; omega
          go_wp2_with fail
          refine (zero_any _).mono ?_
          rintro e w4 ⟨rfl, hb4⟩
          obtain ⟨Z, hZ⟩ : ∃ g, g = w4.heap.size := ⟨_, rfl⟩
          obtain ⟨Y, hY⟩ : ∃ X, X = w4.alloc (.cells #[.int .i64 0, .int .i64 1] 29) := ⟨_, rfl⟩
          have hbY : Below wr.heap.size wr Y := by rw [hY]; exact hb4.trans ((b0 _ _).mono hb4.size)
          have r0 : Y.cell? ⟨Z, 0, none⟩ = some (.int .i64 0) := by rw [hY, hZ]; simp [go_sem]
          have r1 : Y.cell? ⟨Z, 1, none⟩ = some (.int .i64 1) := by rw [hY, hZ]; simp [go_sem]
          have f0 : Y.frozen? ⟨Z, 0, none⟩ = false := by rw [hY, hZ]; simp [go_sem]
          have f1 : Y.frozen? ⟨Z, 1, none⟩ = false := by rw [hY, hZ]; simp [go_sem]
          have hZS : Sk < Z := by rw [hZ]; have := hb4.size; omega
          have hwZ : w.heap.size ≤ Z := by omega
          have O5 := hidW (own_below hO.out hbY)
          have T5 := hidW (hT.out.below hbY)
          have C5 := hidW (HC.out.below hbY)
          have E5 := hidW (HE.out.trans (Ex.of_below hbY))
          have hcZ : Z ≠ cb := by omega
          have HQ : Hid (∀ b, q.ownBlock = some b → b < Z) := fun b e => by have h1 := (World.ownsRow.lt hO.out b e).2; have := hb4.size; omega
          go_wp2_with fail
          try rw [← hY]
          try rw [← hZ]
          clear hY hZ hbY hb4 hO hT HC HE
          refine (once_any cb _ a len cap zs _ C5.out (by omega)).mono ?_
          rintro e w5 ⟨z, rfl, hC', hE⟩
          replace O5 := hidW (ownEx O5.out hE (by omega))
          replace T5 := hidW (T5.out.ex hE hlt)
          replace C5 : Hid (Cur w5 cb a len cap zs) := hC'
          replace E5 := hidW (E5.out.trans hE)
          replace f0 := hE.frozen r0 f0 hcZ
          replace f1 := hE.frozen r1 f1 hcZ
          replace r0 := hE.cell r0 hcZ
          replace r1 := hE.cell r1 hcZ
          have hs5 := E5.out.size
          have hz5 := lt_cell r0
          clear hC' hE
          have fin : ∀ (W : World) (x y : Int) (v' : Value) (w7 : World), W.ownsRow Sk 29 2 q k (cellsR ps) → Tab W w.heap.size o us T → Cur W cb a len cap zs → Ex cb w W → Sk + 1 ≤ W.heap.size → w7.ownsRow Sk 29 2 v' (k + 1) (cellsR ps ++ [.int .i64 x, .int .i64 y]) → (W.alloc (.cells #[.int .i64 x, .int .i64 y] 29)).grownBy w7 q.ownBlock →
              ∃ (q' : Value) (ps' : List Fr) (k' : Nat), q' = v' ∧ Value.int .i64 ((k : Int) + 1) = .int .i64 k' ∧ k' ≤ cols ∧ ps'.length = k' ∧ Hid (w7.ownsRow Sk 29 2 q' k' (cellsR ps')) ∧ Hid (Tab w7 w.heap.size o us T) ∧ Hid (Cur w7 cb a len cap zs) ∧ Hid (Ex cb w w7) ∧ Sk + 1 ≤ w7.heap.size := by
            intro W x y v' w7 h1 h2 h3 h4 h5 h6 h7
            have hbl : ∀ b', q.ownBlock = some b' → Sk ≤ b' := fun b' e => (World.ownsRow.lt h1 b' e).1
            have T7 := (h2.below (b0 W (.cells #[.int .i64 x, .int .i64 y] 29))).kept h7 (fun q e h2 => by have := hbl q e; have := U1.out.1 q h2; omega) (fun i hi q e h2 => by have := hbl q e; have := U1.out.2 i hi q h2; omega)
            refine ⟨v', ps ++ [(x, y)], k + 1, rfl, by go_num, by omega, by simp [hpl], ?_, T7, curRow h3 h1 (by omega) (fun b off e hz => by have := HROW.out b off e hz; omega) h7, exRow h4 h1 hwS h7, by have := h7.size; simp at this; omega⟩
            show World.ownsRow _ _ _ _ _ _ _
            rw [cellsR_snoc]
            exact h6
          have FIN := hidW fin
          clear fin
          cases z
          · go_wp2_with fail
            refine (from_any cb _ _ a len cap zs _ C5.out (by omega) (by omega) (by omega)).mono ?_
            rintro e w6 ⟨x, rfl, hx0, hx1, hC', hE⟩
            replace O5 := hidW (ownEx O5.out hE (by omega))
            replace T5 := hidW (T5.out.ex hE hlt)
            replace C5 : Hid (Cur w6 cb a len cap zs) := hC'
            replace E5 := hidW (E5.out.trans hE)
            replace f0 := hE.frozen r0 f0 hcZ
            replace f1 := hE.frozen r1 f1 hcZ
            replace r0 := hE.cell r0 hcZ
            replace r1 := hE.cell r1 hcZ
            clear hC' hE
            go_wp2_with fail
            refine (below_any cb _ a len cap zs _ C5.out (by omega)).mono ?_
            rintro e w7 ⟨y, rfl, hy0, hy1, hC', hE⟩
            replace O5 := hidW (ownEx O5.out hE (by omega))
            replace T5 := hidW (T5.out.ex hE hlt)
            replace C5 : Hid (Cur w7 cb a len cap zs) := hC'
            replace E5 := hidW (E5.out.trans hE)
            replace f0 := hE.frozen r0 f0 hcZ
            replace f1 := hE.frozen r1 f1 hcZ
            replace r0 := hE.cell r0 hcZ
            replace r1 := hE.cell r1 hcZ
            clear hC' hE hs5 hz5
            go_wp2_with fail
            refine (sRed_any _ _ _).mono ?_
            rintro e w8 ⟨rfl, hb8⟩
            obtain ⟨p, hp⟩ : ∃ p, p = redN x (1 + y) := ⟨_, rfl⟩
            obtain ⟨d, hd⟩ : ∃ p, p = redD x (1 + y) := ⟨_, rfl⟩
            rw [← hp, ← hd]
            clear hp hd hx0 hx1 hy0 hy1
            have hE8 : Ex cb w7 w8 := Ex.of_below hb8
            replace O5 := hidW (own_below O5.out hb8)
            replace T5 := hidW (T5.out.below hb8)
            replace C5 := hidW (C5.out.below hb8)
            replace E5 := hidW (E5.out.trans hE8)
            replace f0 := hE8.frozen r0 f0 hcZ
            replace f1 := hE8.frozen r1 f1 hcZ
            replace r0 := hE8.cell r0 hcZ
            replace r1 := hE8.cell r1 hcZ
            have hz8 := lt_cell r0
            have hws8 := E5.out.size
            clear hb8 hE8
            have UZ : Hid (Under Z o us) := U1.out.le (by omega)
            go_upto_region 12 with fail
            obtain ⟨W, hW⟩ : ∃ W, W = ((w8.setCell ⟨Z, 0, none⟩ (.int .i64 p)).setCell ⟨Z, 1, none⟩ (.int .i64 d)).alloc (.cells #[.int .i64 p, .int .i64 d] 29) := ⟨_, rfl⟩
            have O6 : Hid (W.ownsRow Sk 29 2 q k (cellsR ps)) := by show World.ownsRow _ _ _ _ _ _ _; rw [hW]; exact own_below (own_st (own_st O5.out HQ.out 0 (.int .i64 p)) HQ.out 1 (.int .i64 d)) (b0 _ _)
            have T6 : Hid (Tab W w.heap.size o us T) := by show Tab _ _ _ _ _; rw [hW]; exact ((T5.out.st UZ.out.2 UZ.out.1 0 (.int .i64 p)).st UZ.out.2 UZ.out.1 1 (.int .i64 d)).below (b0 _ _)
            have C6 : Hid (Cur W cb a len cap zs) := by show Cur _ _ _ _ _ _; rw [hW]; exact (curSet (o := 1) (u := .int .i64 d) (curSet (o := 0) (u := .int .i64 p) C5.out hcZ.symm (fun b' off e hz => by have := HROW.out b' off e hz; omega)) hcZ.symm (fun b' off e hz => by have := HROW.out b' off e hz; omega)).below (b0 _ _)
            have E6 : Hid (Ex cb w W) := by show Ex _ _ _; rw [hW]; exact (exSet (o := 1) (u := .int .i64 d) (exSet (o := 0) (u := .int .i64 p) E5.out hwZ) hwZ).alloc _
            have p0 : W.cell? ⟨Z, 0, none⟩ = some (.int .i64 p) := by rw [hW]; exact cell_al _ (new2 r0 r1).1
            have p1 : W.cell? ⟨Z, 1, none⟩ = some (.int .i64 d) := by rw [hW]; exact cell_al _ (new2 r0 r1).2
            have hS6 : Sk + 1 ≤ W.heap.size := by rw [hW]; simp; omega
            try rw [← hW]
            clear hW O5 T5 C5 E5 r0 r1 f0 f1 hz8 hws8
            go_wp2_with (at_builtin; refine wpList_append_own _ rfl _ _ 24 rfl Sk 29 i0 (.agg #[.int .i64 0, .int .i64 0]) 2 16 Try.underlying24 hi hz0 hz1 hz2 rfl (by decide) _ _ _ rfl (World.ownsRow.alloc O6.out _) ⟨W.heap.size, 0, none⟩ 1 1 [.int .i64 p, .int .i64 d] rfl rfl (cell_twoF _ _ _ _) (by intro u hu; simp at hu; rcases hu with rfl | rfl <;> rfl) (by omega) (by omega) (by simp; omega) ?_; intro v' w9 hown' hgrow _)
            go_roundw
            case rel => exact FIN.out _ p d _ _ O6.out T6.out C6.out E6.out hS6 hown' hgrow
            case measure => simp [intOf]; omega
          · have hXS5 : Sk + 1 ≤ w5.heap.size := by omega
            go_wp2_with (at_builtin; refine wpList_append_own _ rfl _ _ 24 rfl Sk 29 i0 (.agg #[.int .i64 0, .int .i64 0]) 2 16 Try.underlying24 hi hz0 hz1 hz2 rfl (by decide) _ _ _ rfl (World.ownsRow.alloc O5.out _) ⟨w5.heap.size, 0, none⟩ 1 1 [.int .i64 0, .int .i64 1] rfl rfl (cell_twoF _ _ _ _) (by intro u hu; simp at hu; rcases hu with rfl | rfl <;> rfl) (by omega) (by omega) (by simp; omega) ?_; intro v' w7 hown' hgrow _)
            go_roundw
            case rel => exact FIN.out _ 0 1 _ _ O5.out T5.out C5.out E5.out hXS5 hown' hgrow
            case measure => simp [intOf]; omega
        · obtain rfl : k = cols := by omega
          obtain ⟨pq, cq, rfl⟩ := own_shape hO.out
          have hsz := HE.out.size
          have hTl := hT.out.len
          have hjm : us.length + 1 ≤ maxLen := by unfold maxLen; omega
          go_wp2_with (at_builtin; refine wpList_append_own _ rfl _ _ 25 rfl w.heap.size 24 t0 (.slice none 0 0) 1 24 Try.underlying25 hti htz0 htz1 htz2 rfl (by decide) _ _ _ rfl (World.ownsRow.alloc hT.out.outer _) ⟨wr.heap.size, 0, none⟩ 1 1 [.slice pq k cq] rfl rfl (cell_one_new _ _ _) (by simp [Value.oneCell']) (by omega) (by omega) (by simp; omega) ?_; intro v' w5 hown' hgrow _)
          go_roundw
          case rel =>
            have T5 := hT.out.append (ps := ps) (u := .slice pq k cq) (own_le (by rw [hpl]; exact hO.out) hwS) (fun i hi b' e h2 => by
              have h1 := U1.out.2 i hi b' e
              have h3 := (World.ownsRow.lt hO.out b' h2).1
              omega) hown' hgrow
            refine ⟨v', us ++ [.slice pq k cq], T ++ [ps], m - 1, rfl, by go_num, by simp; omega, by simp; omega, ?_, hidW T5, curRow HC.out hT.out.outer hlt HROW.out hgrow, exRow HE.out hT.out.outer (Nat.le_refl _) hgrow⟩
            show AllL _ _
            intro x hx
            rw [List.length_append, List.length_singleton] at hx
            rw [rw_app _ _ _ hx]
            split
            · exact hAL.out x (by omega)
            · exact hpl
          case measure => simp [intOf]; omega
    · obtain rfl : m = 0 := by omega
      have HUS : Hid (us.length = T.length ∧ T.length = rows) := ⟨hus, by omega⟩
      obtain ⟨aq, cq, rfl⟩ := own_shape hT.out.outer
      clear hus hm0
      go_wp2_with fail
      refine (once_any cb _ a len cap zs _ HC.out (by omega)).mono ?_
      rintro e w4 ⟨z, rfl, hC', hE⟩
      replace HC : Hid (Cur w4 cb a len cap zs) := hC'
      replace hT := hidW (hT.out.ex hE hlt)
      replace HE := hidW (HE.out.trans hE)
      replace hsz := HE.out.size
      clear hC' hE
      cases z
      · go_wp2
        refine bodyPost_ret (results_tmp rfl _ _ _) rfl ⟨_, us, T, rfl, ?_, HUS.out.2, hAL.out, HC.out, HE.out⟩; exact hT.out
      · by_cases h1 : 1 < us.length
        · have h1T : 1 < T.length := by rw [← HUS.out.1]; exact h1
          have hi0 := hT.out.inner 0 (by omega)
          have hL0 := hAL.out 0 (by omega)
          rw [hL0] at hi0
          obtain ⟨g0, c0, e0⟩ := own_some hi0 (by omega)
          rw [e0] at hi0
          obtain ⟨G, cG, eG⟩ := own_some hT.out.outer (by omega)
          have hul1 : 0 < us.length := by omega
          obtain ⟨rfl, -, rfl⟩ := Value.slice.inj eG
          have k0 := hT.out.outer.cellAt 0 (by omega)
          rw [show us[0]? = some (vl us 0) by unfold vl; rw [List.getElem?_eq_getElem hul1]; rfl, e0] at k0
          have hGl := (hT.out.outer.lt G rfl)
          have hN0 := hidW (own_newsF hi0 hL0)
          have hLL := hidW (show (cellsR (rw' T 0)).length = cols * 2 by rw [cellsR_len, hL0])
          have hsz0 := HE.out.size
          have oY : Hid ((w4.alloc (.cells #[] 29)).ownsRow w4.heap.size 29 2 (.slice (some ⟨w4.heap.size, 0, none⟩) 0 0) 0 []) := ⟨rfl, .inr ⟨w4.heap.size, 0, #[], rfl, Nat.le_refl _, World.alloc_heap_new w4 _, Nat.le_refl _, Nat.zero_le _, rfl, rfl⟩⟩
          have NY : Hid (∀ j u, (cellsR (rw' T 0))[j]? = some u → (w4.alloc (.cells #[] 29)).cell? ((⟨g0, 0, none⟩ : Addr).add j) = some u) := fun j u hu => cell_keep' (b0 w4 _) (hN0.out j u hu)
          have TY := hidW (hT.out.below (b0 w4 (.cells #[] 29)))
          have CY := hidW (HC.out.below (b0 w4 (.cells #[] 29)))
          have EY := hidW (HE.out.alloc (.cells #[] 29))
          have USk := hidW hT.out.under
          have hcS : cb < w4.heap.size := by omega
          clear hT HC HE hN0
          go_wp2_with (at_builtin; refine wpList_append_own _ rfl _ _ 24 rfl w4.heap.size 29 i0 (.agg #[.int .i64 0, .int .i64 0]) 2 16 Try.underlying24 hi hz0 hz1 hz2 rfl (by decide) _ _ _ rfl oY.out ⟨g0, 0, none⟩ cols c0 (cellsR (rw' T 0)) rfl hLL.out NY.out (cellsR_one _) (by unfold maxLen; omega) (by omega) (by simp) ?_; intro v' w5 hown' hgrow _; have f5 := World.ownsRow.frozenAt (Tab.outer (TY.out.kept hgrow (fun q e h2 => by have h8 := USk.out.1 q h2; have h9 : w4.heap.size = q := Option.some.inj e; omega) (fun i hi q e h2 => by have h8 := USk.out.2 i hi q h2; have h9 : w4.heap.size = q := Option.some.inj e; omega))) 1; have g5 := World.ownsRow.cellAt (Tab.outer (TY.out.kept hgrow (fun q e h2 => by have h8 := USk.out.1 q h2; have h9 : w4.heap.size = q := Option.some.inj e; omega) (fun i hi q e h2 => by have h8 := USk.out.2 i hi q h2; have h9 : w4.heap.size = q := Option.some.inj e; omega))) 1 (by omega); rw [List.getElem?_eq_getElem h1] at g5; rw [Nat.zero_add] at hown'; obtain ⟨ax, cx, rfl⟩ := own_shape hown')
          have T5 := TY.out.kept hgrow (fun q e h2 => by have h8 := USk.out.1 q h2; have h9 : w4.heap.size = q := Option.some.inj e; omega) (fun i hi q e h2 => by have h8 := USk.out.2 i hi q h2; have h9 : w4.heap.size = q := Option.some.inj e; omega)
          have T6 := T5.put (k := 1) (u := .slice ax cols cx) (ps := rw' T 0) h1 (own_le (by rw [hL0]; exact hown') hsz0) (fun i hi _ b e h2 => by have h8 := USk.out.2 i hi b e; have h9 := (World.ownsRow.lt hown' b h2).1; omega)
          refine bodyPost_ret (results_tmp rfl _ _ _) rfl ⟨_, us.set 1 (.slice ax cols cx), T.set 1 (rw' T 0), rfl, ?_, by rw [List.length_set]; exact HUS.out.2, ?_, ?_, ?_⟩
          · exact T6
          · intro x hx
            rw [List.length_set] at hx
            rw [rw_set _ _ _ _ h1T]
            split
            · exact hL0
            · exact hAL.out x hx
          · have C5 : Cur w5 cb a len cap zs := cur_grown CY.out hgrow (fun e => by have h8 : w4.heap.size = cb := Option.some.inj e; omega) (fun b off e hz hb => by have h8 : w4.heap.size = b := Option.some.inj hb; have := HROW.out b off e hz; omega)
            exact curSet C5 (by omega) (fun b' off e hz => by have := HROW.out b' off e hz; omega)
          · have E5 : Ex cb w w5 := by
              have h1 := EY.out
              refine ⟨hgrow.os.trans h1.1, hgrow.tape.trans h1.2.1, hgrow.output.trans h1.2.2.1, Nat.le_trans h1.size hgrow.size, fun k hk hne => ?_⟩
              refine (hgrow.block k (Nat.lt_of_lt_of_le hk h1.size) (fun e => ?_)).trans (h1.2.2.2.2 k hk hne)
              have h9 : w4.heap.size = k := (Option.some.inj e).symm
              omega
            exact exSet E5 hGl.1
        · have h1i : ¬ ((1 : Int) < (us.length : Int)) := by omega
          go_wp2
          refine bodyPost_ret (results_tmp rfl _ _ _) rfl ⟨_, us, T, rfl, ?_, HUS.out.2, hAL.out, HC.out, HE.out⟩; exact hT.out
end Go.Proofs.Ytoiigmimdjipiaa

/- The walk of the program's kernelRow. -/
namespace Go.Proofs.Ytoiigmimdjipiaa
open Go.RowKit Go.Proofs.Ytoiigmimdjipiaa.RM

/-- a number of a list of columns, as it is read -/
theorem nat_at {W : World} {base g n c : Nat} {C : List Nat} (h : W.ownsRow base 3 1 (.slice (some ⟨g, 0, none⟩) n c) C.length (natV C)) (k : Nat) (hk : k < C.length) : W.cell? ⟨g, k, none⟩ = some (.int .i64 (nt C k : Int)) := by
  have hn : n = C.length := by
    rcases h.2 with ⟨e, _⟩ | ⟨g', c', cur, e, _⟩ <;> cases e; rfl
  subst hn
  have h1 := h.cellAt k (by omega)
  rw [h1]
  unfold natV nt
  rw [List.getElem?_map, List.getElem?_eq_getElem hk]
  rfl
/-- two cells of a row are stored -/
theorem row_set {W : World} {base g L c : Nat} {ps : List Fr} (h : W.ownsRow base 29 2 (.slice (some ⟨g, 0, none⟩) L c) L (cellsR ps)) (hl : ps.length = L) (k : Nat) (hk : k < L) (x y : Int) :
    ((W.setCell ⟨g, k * 2, none⟩ (.int .i64 x)).setCell ⟨g, k * 2 + 1, none⟩ (.int .i64 y)).ownsRow base 29 2 (.slice (some ⟨g, 0, none⟩) L c) L (cellsR (ps.set k (x, y))) ∧ W.grownBy ((W.setCell ⟨g, k * 2, none⟩ (.int .i64 x)).setCell ⟨g, k * 2 + 1, none⟩ (.int .i64 y)) (some g) := by
  obtain ⟨p1, p2⟩ := h.stored (k * 2) (.int .i64 x)
  obtain ⟨p3, p4⟩ := p1.stored (k * 2 + 1) (.int .i64 y)
  rw [cellsR_set _ _ _ _ (by rw [hl]; exact hk)] at p3
  exact ⟨p3, p2.trans p4⟩
theorem blk_set {W : World} {E b : Nat} {cs : Array Value} {t : TypeId} (h : W.heap[E]? = some (.cells cs t (0, 0))) (hne : E ≠ b) (o : Nat) (v : Value) : (W.setCell ⟨b, o, none⟩ v).heap[E]? = some (.cells cs t (0, 0)) := (Below.heap_setCell W ⟨b, o, none⟩ v E hne).trans h

end Go.Proofs.Ytoiigmimdjipiaa

/- Tables that are drawn, right or not; what is drawn for the law of Solved. -/
namespace Go.Proofs.Ytoiigmimdjipiaa
open Go.RowKit Go.Proofs.Ytoiigmimdjipiaa.RM

theorem rdt_of {W : World} {base : Nat} {v : Value} {xs : List Value} {T : List (List Fr)} (ho : W.ownsRow base 24 1 v xs.length xs) (hl : xs.length = T.length) (hr : ∀ i, i < xs.length → RdR W (vl xs i) (rw' T i)) : RdT W v T := by
  rcases ho.2 with ⟨e, h0⟩ | ⟨g, c, cur, e, _, _, h1, h2, _⟩
  · exact ⟨none, 0, by rw [e, ← hl, h0], by rw [← hl, h0]; exact Nat.zero_le _, by omega, Nat.zero_le _, fun j hj => by omega⟩
  · subst e
    refine ⟨_, c, by rw [hl], by omega, by omega, h2, fun i hi => ⟨g, 0, vl xs i, rfl, ?_, hr i (by omega)⟩⟩
    rw [Nat.zero_add, ho.cellAt i (by omega), List.getElem?_eq_getElem (by omega)]
    simp [vl, List.getElem?_eq_getElem (show i < xs.length by omega)]
theorem rdr_drop {W : World} {base g n c : Nat} {ps : List Fr} (h : W.ownsRow base 29 2 (.slice (some ⟨g, 0, none⟩) n c) n (cellsR ps)) (hl : ps.length = n) (h1 : 1 ≤ n) : RdR W (.slice (some ⟨g, 2, none⟩) (n - 1) (c - 1)) (ps.drop 1) := by
  have hc : n ≤ c ∧ c ≤ maxLen := by
    rcases h.2 with ⟨e, _⟩ | ⟨g', c', cur, e, _, _, h1, h2, _⟩
    · cases e
    · cases e; exact ⟨h1, h2⟩
  refine ⟨_, c - 1, by rw [List.length_drop, hl], by rw [List.length_drop]; omega, by rw [List.length_drop]; omega, by omega, fun j hj => ⟨g, 2, rfl, ?_⟩⟩
  rw [List.length_drop] at hj
  have := own_R h hl (j + 1) (by omega)
  have e1 : fr (ps.drop 1) j = fr ps (j + 1) := by unfold fr; rw [List.getElem?_drop, Nat.add_comm]
  rw [e1, show 2 + j * 2 = (j + 1) * 2 by omega]
  exact this
/-- a table that can be read wherever the cursor moves -/
def RdX (cb : Nat) (W : World) (v : Value) (T : List (List Fr)) : Prop := ∀ W', Ex cb W W' → RdT W' v T
theorem RdX.read {cb : Nat} {W : World} {v : Value} {T : List (List Fr)} (h : RdX cb W v T) : RdT W v T := h W (Ex.refl _ _)
theorem RdX.ex {cb : Nat} {W W1 : World} {v : Value} {T : List (List Fr)} (h : RdX cb W v T) (hx : Ex cb W W1) : RdX cb W1 v T := fun W' k => h W' (hx.trans k)
/-- the first row's slice is another one -/
theorem Tab.rdx_put {cb base g n c : Nat} {W : World} {us : List Value} {T : List (List Fr)} {sl : Value} {ps : List Fr} (h : Tab W base (.slice (some ⟨g, 0, none⟩) n c) us T) (hc : cb < base) (h0 : 0 < us.length)
    (hr : ∀ W', Ex cb (W.setCell ⟨g, 0, none⟩ sl) W' → RdR W' sl ps) : RdX cb (W.setCell ⟨g, 0, none⟩ sl) (.slice (some ⟨g, 0, none⟩) n c) (T.set 0 ps) := by
  intro W' hx
  have hn : us.length = n := by
    rcases h.outer.2 with ⟨e, _⟩ | ⟨g', c', cur, e, _⟩ <;> cases e; rfl
  subst hn
  obtain ⟨s1, s2⟩ := h.outer.stored 0 sl
  have s3 := ownEx s1 hx hc
  have s4 : W'.ownsRow base 24 1 (.slice (some ⟨g, 0, none⟩) us.length c) (us.set 0 sl).length (us.set 0 sl) := by rw [List.length_set]; exact s3
  refine rdt_of s4 (by rw [List.length_set, List.length_set]; exact h.len) (fun i hi => ?_)
  rw [List.length_set] at hi
  rw [vl_set _ _ _ _ h0, rw_set _ _ _ _ (by rw [← h.len]; exact h0)]
  by_cases e : 0 = i
  · rw [if_pos e, if_pos e]; exact hr W' hx
  · rw [if_neg e, if_neg e]; exact (RdR.own (ownEx (own_oth (h.inner i hi) h.outer (by decide) s2) hx hc)).1
/-- the first row's slice stands at the end once more -/
theorem Tab.rdx_app {cb base : Nat} {W w1 : World} {v v' u : Value} {us : List Value} {T : List (List Fr)} {o : Obj} (h : Tab W base v us T) (hc : cb < base) (h0 : 0 < us.length) (hu : vl us 0 = u)
    (hown : w1.ownsRow base 24 1 v' (us.length + 1) (us ++ [u])) (hgrow : (W.alloc o).grownBy w1 v.ownBlock) : RdX cb w1 v' (T ++ [rw' T 0]) := by
  intro W' hx
  have keep : ∀ {m : Nat} {x : Value} {xs : List Value}, W.ownsRow base 29 2 x m xs → W'.ownsRow base 29 2 x m xs := fun hx2 => ownEx (own_oth (hx2.alloc o) (h.outer.alloc o) (by decide) hgrow) hx hc
  have s4 : W'.ownsRow base 24 1 v' (us ++ [u]).length (us ++ [u]) := by rw [List.length_append]; exact ownEx hown hx hc
  refine rdt_of s4 (by simp [h.len]) (fun i hi => ?_)
  rw [List.length_append, List.length_singleton] at hi
  rw [vl_app _ _ _ hi, rw_app _ _ _ (by have := h.len; omega)]
  by_cases e : i < us.length
  · rw [if_pos e, if_pos (by have := h.len; omega)]; exact (RdR.own (keep (h.inner i e))).1
  · rw [if_neg e, if_neg (by have := h.len; omega), ← hu]; exact (RdR.own (keep (h.inner 0 h0))).1

set_option maxRecDepth 100000 in
set_option maxHeartbeats 4000000 in
theorem dTabAny_any (cb rows cols : Nat) (a : Option Addr) (len cap : Nat) (zs : List Int) (w : World) (hc : Cur w cb a len cap zs) (hr1 : rows ≤ 100) (hc0 : 1 ≤ cols) (hc1 : cols ≤ 100) :
    Calls Try.prog 36 #[.pointer (some ⟨cb, 0, none⟩), .int .i64 rows, .int .i64 cols] w fun e w' => ∃ (v : Value) (T : List (List Fr)), e = .returned v ∧ RdX cb w' v T ∧ T.length ≤ 200 ∧ Cur w' cb a len cap zs ∧ Ex cb w w' := by
  obtain ⟨i0, hi, hz0, hz1, hz2⟩ := info_parts infoF
  obtain ⟨t0, hti, htz0, htz1, htz2⟩ := info_parts infoT
  have b0 : ∀ (u : World) (o : Obj), Below u.heap.size u (u.alloc o) := fun u o => (Below.refl _ _).alloc (Nat.le_refl _) o
  have hlt := hc.lt
  have HROW : Hid (∀ b off, a = some ⟨b, off, none⟩ → 0 < zs.length → b < w.heap.size) := hc.2.1.lt
  have HC : Hid (Cur w cb a len cap zs) := hc
  clear hc
  go_enter Try.func36, Try.ntmps36
  go_wp2_with fail
  refine (dTab_any cb rows cols a len cap zs _ HC.out hr1 hc0 hc1).mono ?_
  rintro e w1 ⟨v, us, T, rfl, hT, hTl, hAL, hC', hE⟩
  have HT := hidW hT
  have HAL := hidW hAL
  replace HC := hidW hC'
  have HE := hidW hE
  have HUS : Hid (us.length = T.length ∧ T.length = rows) := ⟨hT.len, hTl⟩
  have hur : us.length ≤ 100 := by have := hT.len; omega
  obtain ⟨aq, cq, rfl⟩ := own_shape hT.outer
  have hsz := HE.out.size
  clear hT hAL hC' hE hTl
  go_wp2_with fail
  refine (once_any cb _ a len cap zs _ HC.out (by omega)).mono ?_
  rintro e w2 ⟨z, rfl, hC', hE⟩
  replace HC : Hid (Cur w2 cb a len cap zs) := hC'
  replace HT := hidW (HT.out.ex hE hlt)
  replace HE := hidW (HE.out.trans hE)
  replace hsz := HE.out.size
  clear hC' hE
  have keep : ∀ (W : World) (v : Value) (us : List Value) (T : List (List Fr)), Tab W w.heap.size v us T → RdX cb W v T := fun W v us T h W' hx => (h.ex hx hlt).read
  have KEEP := hidW keep
  clear keep
  cases z
  · go_wp2
    refine bodyPost_ret (results_tmp rfl _ _ _) rfl ⟨_, T, rfl, ?_, by have := HUS.out; omega, HC.out, HE.out⟩; exact KEEP.out _ _ _ _ HT.out
  · by_cases h1 : 0 < us.length
    · have h1T : 0 < T.length := by rw [← HUS.out.1]; exact h1
      have hi0 := HT.out.inner 0 (by omega)
      have hL0 := HAL.out 0 (by omega)
      rw [hL0] at hi0
      obtain ⟨g0, c0, e0⟩ := own_some hi0 (by omega)
      rw [e0] at hi0
      obtain ⟨G, cG, eG⟩ := own_some HT.out.outer (by omega)
      have hul1 : 0 < us.length := h1
      obtain ⟨rfl, -, rfl⟩ := Value.slice.inj eG
      have k0 := HT.out.outer.cellAt 0 (by omega)
      rw [show us[0]? = some (vl us 0) by unfold vl; rw [List.getElem?_eq_getElem hul1]; rfl, e0] at k0
      have hGl := (HT.out.outer.lt G rfl)
      have hgl := (World.ownsRow.lt hi0 g0 rfl)
      have HI := hidW hi0
      have HE0 := hidW e0
      have HL0 := hidW hL0
      have hci : (0 : Int) < (cols : Int) := by omega
      clear hi0 e0 hL0 eG
      go_wp2_with fail
      refine (below_any cb _ a len cap zs _ HC.out (by omega)).mono ?_
      rintro e w3 ⟨y, rfl, hy0, hy1, hC', hE⟩
      replace HC : Hid (Cur w3 cb a len cap zs) := hC'
      replace HT := hidW (HT.out.ex hE hlt)
      replace HI := hidW (ownEx HI.out hE hlt)
      replace HE := hidW (HE.out.trans hE)
      replace hsz := HE.out.size
      have hGc : G ≠ cb := by omega
      replace k0 := hE.cell k0 hGc
      have hGl3 : G < w3.heap.size := Nat.lt_of_lt_of_le hGl.2 hE.size
      have hgl3 : g0 < w3.heap.size := Nat.lt_of_lt_of_le hgl.2 hE.size
      clear hC' hE
      have kf0 := World.ownsRow.frozenAt HT.out.outer 0
      have hcc : cols ≤ c0 ∧ c0 ≤ maxLen := by
        rcases HI.out.2 with ⟨e, _⟩ | ⟨g', c', cur, e, _, _, h1, h2, _⟩
        · cases e
        · cases e; exact ⟨h1, h2⟩
      have LT : Hid (T.length ≤ 100) := by show _ ≤ _; have := HUS.out.1; omega
      obtain rfl | rfl | rfl : y = 0 ∨ y = 1 ∨ y = 2 := by omega
      · obtain ⟨q0, q1⟩ := own_R HI.out HL0.out 0 (by omega)
        have qf0 := World.ownsRow.frozenAt HI.out 0
        have qf1 := World.ownsRow.frozenAt HI.out 1
        simp only [Nat.zero_mul, Nat.zero_add] at q0 q1
        generalize ((rw' T 0)[0]?.getD (0, 0)).1 = y1 at q0
        generalize ((rw' T 0)[0]?.getD (0, 0)).2 = y2 at q1
        have hg0c : g0 ≠ cb := by omega
        have fin : ∀ (W : World) (p d : Int), Cur W cb a len cap zs → Ex cb w3 W → RdX cb ((W.setCell ⟨g0, 0, none⟩ (.int .i64 p)).setCell ⟨g0, 1, none⟩ (.int .i64 d)) (.slice (some ⟨G, 0, none⟩) us.length cq) (T.set 0 ((rw' T 0).set 0 (p, d))) ∧ Cur ((W.setCell ⟨g0, 0, none⟩ (.int .i64 p)).setCell ⟨g0, 1, none⟩ (.int .i64 d)) cb a len cap zs ∧ Ex cb w ((W.setCell ⟨g0, 0, none⟩ (.int .i64 p)).setCell ⟨g0, 1, none⟩ (.int .i64 d)) := by
          intro W p d hC hx
          obtain ⟨s1, s2⟩ := row_set (ownEx HI.out hx hlt) HL0.out 0 (by omega) p d
          simp only [Nat.zero_mul, Nat.zero_add] at s1 s2
          have T2 := (HT.out.ex hx hlt).turn (k := 0) (ps := (rw' T 0).set 0 (p, d)) hul1 (by rw [List.length_set, HL0.out, HE0.out]; exact s1) (by rw [HE0.out]; exact s2)
          refine ⟨KEEP.out _ _ _ _ T2, ?_, exSet (exSet (HE.out.trans hx) (by omega)) (by omega)⟩
          exact curSet (curSet hC (by omega) (fun b' off e hz => by have := HROW.out b' off e hz; omega)) (by omega) (fun b' off e hz => by have := HROW.out b' off e hz; omega)
        have FIN := hidW fin
        clear fin
        go_wp2
        go_region_with (go_at_call 51; refine (drawAny_any cb a len cap zs _ (by first | exact HC.out | exact HC.out.drewN 1)).mono ?_; rintro e w4 ⟨p, d, rfl, hC', hE⟩; have C4 := hidW hC'; have hE4 : Ex cb w3 w4 := Ex.trans (by first | exact Ex.refl _ _ | exact (Ex.refl _ _).drew) hE; have E4 := hidW hE4; have z0 := hE4.cell q0 hg0c; have z1 := hE4.cell q1 hg0c; have z2 := hE4.frozen q0 qf0 hg0c; have z3 := hE4.frozen q1 qf1 hg0c; have z4 := hE4.cell k0 hGc; clear hC' hE hE4)
        all_goals go_wp2
        all_goals
          obtain ⟨f1, f2, f3⟩ := FIN.out _ p d C4.out E4.out
          refine bodyPost_ret (results_tmp rfl _ _ _) rfl ⟨_, T.set 0 ((rw' T 0).set 0 (p, d)), rfl, ?_, by rw [List.length_set]; have := LT.out; omega, f2, f3⟩
          exact f1
      · have C5 : ∀ u, Cur (w3.setCell ⟨G, 0, none⟩ u) cb a len cap zs := fun u => curSet HC.out (by omega) (fun b' off e hz => by have := HROW.out b' off e hz; omega)
        have E5 : ∀ u, Ex cb w (w3.setCell ⟨G, 0, none⟩ u) := fun u => exSet HE.out hGl.1
        have HCE := hidW (And.intro C5 E5)
        clear C5 E5
        by_cases hc2 : c0 = 1
        · subst hc2
          obtain rfl : cols = 1 := by omega
          have R5 : RdX cb (w3.setCell ⟨G, 0, none⟩ (.slice (some ⟨g0, 0, none⟩) 0 0)) (.slice (some ⟨G, 0, none⟩) us.length cq) (T.set 0 []) := HT.out.rdx_put hlt hul1 (fun W' hx => by
            exact ⟨_, 0, rfl, Nat.zero_le _, Nat.zero_le _, Nat.zero_le _, fun j hj => absurd hj (by simp)⟩)
          have HR5 := hidW R5
          clear R5
          go_wp2
          refine bodyPost_ret (results_tmp rfl _ _ _) rfl ⟨_, T.set 0 [], rfl, ?_, by rw [List.length_set]; have := LT.out; omega, HCE.out.1 _, HCE.out.2 _⟩
          exact HR5.out
        · have hc3 : c0 - 1 ≠ 0 := by omega
          have R5 : RdX cb (w3.setCell ⟨G, 0, none⟩ (.slice (some ⟨g0, 2, none⟩) (cols - 1) (c0 - 1))) (.slice (some ⟨G, 0, none⟩) us.length cq) (T.set 0 ((rw' T 0).drop 1)) := HT.out.rdx_put hlt hul1 (fun W' hx => by
            have h8 := own_oth HI.out HT.out.outer (by decide) (HT.out.outer.stored 0 (.slice (some ⟨g0, 2, none⟩) (cols - 1) (c0 - 1))).2
            exact rdr_drop (ownEx h8 hx hlt) HL0.out hc0)
          have HR5 := hidW R5
          clear R5
          go_wp2
          refine bodyPost_ret (results_tmp rfl _ _ _) rfl ⟨_, T.set 0 ((rw' T 0).drop 1), rfl, ?_, by rw [List.length_set]; have := LT.out; omega, HCE.out.1 _, HCE.out.2 _⟩
          exact HR5.out
      · have hjm : us.length + 1 ≤ maxLen := by unfold maxLen; omega
        go_wp2_with (at_builtin; refine wpList_append_own _ rfl _ _ 25 rfl w.heap.size 24 t0 (.slice none 0 0) 1 24 Try.underlying25 hti htz0 htz1 htz2 rfl (by decide) _ _ _ rfl (World.ownsRow.alloc HT.out.outer _) ⟨w3.heap.size, 0, none⟩ 1 1 [.slice (some ⟨g0, 0, none⟩) cols c0] rfl rfl (cell_one_new _ _ _) (by simp [Value.oneCell']) (by omega) (by omega) (by simp; omega) ?_; intro v' w5 hown' hgrow _)
        refine bodyPost_ret (results_tmp rfl _ _ _) rfl ⟨_, T ++ [rw' T 0], rfl, ?_, by rw [List.length_append, List.length_singleton]; have := LT.out; omega, curRow HC.out HT.out.outer hlt HROW.out hgrow, exRow HE.out HT.out.outer (Nat.le_refl _) hgrow⟩
        exact HT.out.rdx_app hlt hul1 HE0.out hown' hgrow
    · have h1i : ¬ ((0 : Int) < (us.length : Int)) := by omega
      have hUs0 : Hid (T.length ≤ 200) := by show _ ≤ _; have := HUS.out; omega
      go_wp2
      refine bodyPost_ret (results_tmp rfl _ _ _) rfl ⟨_, T, rfl, ?_, hUs0.out, HC.out, HE.out⟩; exact KEEP.out _ _ _ _ HT.out
end Go.Proofs.Ytoiigmimdjipiaa

/- The draw of covers. -/
namespace Go.Proofs.Ytoiigmimdjipiaa
open Go.RowKit Go.Proofs.Ytoiigmimdjipiaa.RM

theorem rowB_set2 {W : World} {base g L c : Nat} {ps : List Fr} (h : W.ownsRow base 29 2 (.slice (some ⟨g, 0, none⟩) L c) L (cellsR ps)) (hl : ps.length = L) (k : Nat) (hk : k < L) (x y : Int) :
    ((W.setCell ⟨g, k * 2, none⟩ (.int .i64 x)).setCell ⟨g, k * 2 + 1, none⟩ (.int .i64 y)).ownsRow base 29 2 (.slice (some ⟨g, 0, none⟩) L c) L (cellsR (ps.set k (x, y))) ∧ W.grownBy ((W.setCell ⟨g, k * 2, none⟩ (.int .i64 x)).setCell ⟨g, k * 2 + 1, none⟩ (.int .i64 y)) (some g) := by
  obtain ⟨p1, p2⟩ := h.stored (k * 2) (.int .i64 x)
  obtain ⟨p3, p4⟩ := p1.stored (k * 2 + 1) (.int .i64 y)
  rw [cellsR_set _ _ _ _ (by rw [hl]; exact hk)] at p3
  exact ⟨p3, p2.trans p4⟩
/-- as many rows as long -/
def SqT (T : List (List Fr)) (N : Nat) : Prop := T.length = N ∧ AllL T N
theorem SqT.set {T : List (List Fr)} {N : Nat} (h : SqT T N) (k : Nat) (hk : k < N) (r : List Fr) (hr : r.length = N) : SqT (T.set k r) N := by
  refine ⟨by rw [List.length_set]; exact h.1, fun x hx => ?_⟩
  rw [List.length_set] at hx
  rw [rw_set _ _ _ _ (by rw [h.1]; exact hk)]
  by_cases e : k = x
  · rw [if_pos e]; exact hr
  · rw [if_neg e]; exact h.2 x hx
theorem Tab.rowAt {W : World} {base G N cG : Nat} {us : List Value} {T : List (List Fr)} (h : Tab W base (.slice (some ⟨G, 0, none⟩) N cG) us T) (hs : SqT T N) (k : Nat) (hk : k < N) :
    ∃ g c, vl us k = .slice (some ⟨g, 0, none⟩) N c ∧ W.cell? ⟨G, k, none⟩ = some (.slice (some ⟨g, 0, none⟩) N c) ∧ base ≤ g ∧ g ≠ G ∧ W.ownsRow base 29 2 (.slice (some ⟨g, 0, none⟩) N c) N (cellsR (rw' T k)) := by
  have hl := h.len
  have hin := h.inner k (by rw [hl, hs.1]; exact hk)
  rw [hs.2 k (by rw [hs.1]; exact hk)] at hin
  obtain ⟨g, c, e⟩ := own_some hin (by omega)
  have ho := own_unlike hin h.outer (by decide) (b := g) (by rw [e]; rfl)
  rw [e] at hin
  have ho2 := h.outer
  rw [show us.length = N by rw [hl, hs.1]] at ho2
  have ck := ho2.cellAt k (by omega)
  rw [show us[k]? = some (vl us k) by unfold vl; rw [List.getElem?_eq_getElem (by rw [hl, hs.1]; exact hk)]; rfl, e] at ck
  exact ⟨g, c, e, ck, (hin.lt g rfl).1, fun e2 => ho (by rw [e2]; rfl), hin⟩
theorem Tab.setAt {W : World} {base G N cG g c : Nat} {us : List Value} {T : List (List Fr)} (h : Tab W base (.slice (some ⟨G, 0, none⟩) N cG) us T) (hs : SqT T N) {k : Nat} (hk : k < N) (e : vl us k = .slice (some ⟨g, 0, none⟩) N c)
    (hin : W.ownsRow base 29 2 (.slice (some ⟨g, 0, none⟩) N c) N (cellsR (rw' T k))) (j : Nat) (hj : j < N) (x y : Int) :
    Tab ((W.setCell ⟨g, j * 2, none⟩ (.int .i64 x)).setCell ⟨g, j * 2 + 1, none⟩ (.int .i64 y)) base (.slice (some ⟨G, 0, none⟩) N cG) us (T.set k ((rw' T k).set j (x, y))) ∧ SqT (T.set k ((rw' T k).set j (x, y))) N := by
  have hl := hs.2 k (by rw [hs.1]; exact hk)
  obtain ⟨s1, s2⟩ := rowB_set2 hin hl j hj x y
  exact ⟨h.turn (by rw [h.len, hs.1]; exact hk) (by rw [e, List.length_set, hl]; exact s1) (by rw [e]; exact s2), hs.set k hk _ (by rw [List.length_set]; exact hl)⟩

theorem set_sameB {l : List Value} {i : Nat} {v : Value} (h : l[i]? = some v) : l.set i v = l := by
  apply List.ext_getElem?
  intro j
  rw [List.getElem?_set]
  by_cases e : i = j
  · subst e
    rw [if_pos rfl, if_pos (List.getElem?_eq_some_iff.1 h).1, h]
  · rw [if_neg e]
theorem Tab.setN {W : World} {base G N cG g c : Nat} {us : List Value} {T : List (List Fr)} (h : Tab W base (.slice (some ⟨G, 0, none⟩) N cG) us T) (hs : SqT T N) {k : Nat} (hk : k < N) (e : vl us k = .slice (some ⟨g, 0, none⟩) N c)
    (hin : W.ownsRow base 29 2 (.slice (some ⟨g, 0, none⟩) N c) N (cellsR (rw' T k))) (j : Nat) (hj : j < N) (x : Int) :
    ∃ T', Tab (W.setCell ⟨g, j * 2, none⟩ (.int .i64 x)) base (.slice (some ⟨G, 0, none⟩) N cG) us T' ∧ SqT T' N := by
  have hl := hs.2 k (by rw [hs.1]; exact hk)
  obtain ⟨o1, o2⟩ := own_R hin hl j hj
  obtain ⟨y, hy⟩ : ∃ y, y = ((rw' T k)[j]?.getD (0, 0)).2 := ⟨_, rfl⟩
  rw [← hy] at o2
  obtain ⟨p1, p2⟩ := hin.stored (j * 2) (.int .i64 x)
  have e2 : ((cellsR (rw' T k)).set (j * 2) (.int .i64 x))[j * 2 + 1]? = some (.int .i64 y) := by
    rw [List.getElem?_set, if_neg (by omega)]
    have hlen : j * 2 + 1 < N * 2 := by omega
    have := hin.cellAt (j * 2 + 1) hlen
    rw [← this]; exact o2
  have e3 := cellsR_set (rw' T k) j x y (by rw [hl]; exact hj)
  rw [set_sameB e2] at e3
  rw [e3] at p1
  exact ⟨_, h.turn (by rw [h.len, hs.1]; exact hk) (by rw [e, List.length_set, hl]; exact p1) (by rw [e]; exact p2), hs.set k hk _ (by rw [List.length_set]; exact hl)⟩

set_option maxRecDepth 100000 in
set_option maxHeartbeats 4000000 in
theorem dCov_any (cb N : Nat) (a : Option Addr) (len cap : Nat) (zs : List Int) (w : World) (hc : Cur w cb a len cap zs) (hn0 : 1 ≤ N) (hn1 : N ≤ 100) :
    Calls Try.prog 27 #[.pointer (some ⟨cb, 0, none⟩), .int .i64 N] w fun e w' => ∃ (v : Value) (us : List Value) (T : List (List Fr)), e = .returned v ∧ Tab w' w.heap.size v us T ∧ SqT T N ∧ Cur w' cb a len cap zs ∧ Ex cb w w' := by
  have hlt := hc.lt
  have HROW : Hid (∀ b off, a = some ⟨b, off, none⟩ → 0 < zs.length → b < w.heap.size) := hc.2.1.lt
  have HC : Hid (Cur w cb a len cap zs) := hc
  clear hc
  go_enter Try.func27, Try.ntmps27
  go_wp2_with fail
  refine (dTab_any cb N N a len cap zs _ HC.out hn1 hn0 hn1).mono ?_
  rintro e w1 ⟨v, us, T, rfl, hT, hTl, hAL, hC', hE⟩
  obtain ⟨G, cG, rfl⟩ := own_some hT.outer (by rw [hT.len, hTl]; omega)
  have hul : us.length = N := by rw [hT.len, hTl]
  rw [hul] at hT ⊢
  have hGw : w.heap.size ≤ G := (hT.outer.lt G rfl).1
  have hGc : G ≠ cb := by omega
  have S0 : SqT T N := ⟨hTl, hAL⟩
  clear HC hTl hAL
  go_wp2
  go_loopw [6] (fun i wr => ∃ (T : List (List Fr)) (k : Nat), k ≤ N ∧ i = .int .i64 k ∧ Hid (Tab wr w.heap.size (.slice (some ⟨G, 0, none⟩) N cG) us T) ∧ Hid (SqT T N) ∧ Hid (Cur wr cb a len cap zs) ∧ Hid (Ex cb w wr)) (fun i _ => N - (intOf i).toNat)
  case atStart => exact ⟨T, 0, Nat.zero_le _, rfl, hT, S0, hC', hE⟩
  case round =>
    clear hT S0 hC' hE
    obtain ⟨T, k, hk, rfl, hT, hS, HC, HE⟩ := hrel
    by_cases hlk : k < N
    · have hdk : decide ((k : Int) < (N : Int)) = true := decide_eq_true (by omega)
      go_wp2
      go_loopw [7] (fun i wr => ∃ (T : List (List Fr)) (j : Nat), j ≤ k ∧ i = .int .i64 j ∧ Hid (Tab wr w.heap.size (.slice (some ⟨G, 0, none⟩) N cG) us T) ∧ Hid (SqT T N) ∧ Hid (Cur wr cb a len cap zs) ∧ Hid (Ex cb w wr)) (fun i _ => k - (intOf i).toNat)
      case atStart => exact ⟨T, 0, Nat.zero_le _, rfl, hT.out, hS.out, HC.out, HE.out⟩
      case round =>
        clear hT hS HC HE
        obtain ⟨T, j, hj, rfl, hT, hS, HC, HE⟩ := hrel
        obtain ⟨gk, ck, ek, c1, q1, q2, ok⟩ := hT.out.rowAt hS.out k hlk
        have HEK := hidW8 ek
        have HOK := hidW8 ok
        by_cases hlj : j < k
        · obtain ⟨gj, cj, ej, c2, q3, q4, oj⟩ := hT.out.rowAt hS.out j (by omega)
          have hne : gk ≠ gj := by
            have := hT.out.apart k j (by rw [hul]; exact hlk) (by rw [hul]; omega) (by omega) gk (by rw [ek]; rfl)
            intro e; rw [ej] at this; exact this (by rw [e]; rfl)
          obtain ⟨c3, c4⟩ := own_R oj (hS.out.2 j (by rw [hS.out.1]; omega)) k hlk
          obtain ⟨z1, z2⟩ := own_R ok (hS.out.2 k (by rw [hS.out.1]; omega)) j (by omega)
          have z3 := ok.frozenAt (j * 2)
          have z4 := ok.frozenAt (j * 2 + 1)
          generalize ((rw' T j)[k]?.getD (0, 0)).1 = x1 at c3
          generalize ((rw' T j)[k]?.getD (0, 0)).2 = x2 at c4
          generalize ((rw' T k)[j]?.getD (0, 0)).1 = y1 at z1
          generalize ((rw' T k)[j]?.getD (0, 0)).2 = y2 at z2
          have hjN : (j : Int) < (N : Int) := by omega
          have hkN : (k : Int) < (N : Int) := by omega
          clear ek ej ok oj
          go_upto_region 8 with fail
          refine wp_region_noPanic ?_
          refine wp_region_held_drew (S := (fun w' => w'.cell? ⟨G, k, none⟩ = some (.slice (some ⟨gk, 0, none⟩) N ck) ∧ w'.cell? ⟨G, j, none⟩ = some (.slice (some ⟨gj, 0, none⟩) N cj) ∧ w'.cell? ⟨gj, k * 2, none⟩ = some (.int .i64 x1) ∧ w'.cell? ⟨gj, k * 2 + 1, none⟩ = some (.int .i64 x2))) (by kernel_rfl) ?_ (fun hHeld => ?_)
          · (try dsimp only)
            refine ⟨?_, ?_, ?_, ?_⟩ <;> (repeat (with_reducible (first | exact c1 | exact c2 | exact c3 | exact c4 | refine cell_dr ?_ | refine cell_stb ?_ ?_ | (show _ ≠ _; omega))))
          refine wpAnyH_take (i := 0) (v := ?_) rfl (by kernel_rfl) (by kernel_rfl) (by kernel_rfl) (fun _ _ _ h => h) (Or.inl ⟨by kernel_rfl, ?_⟩) hHeld ?_
          rotate_left
          · intro wz hSw; (try dsimp only at hSw); go_simp; all_goals (try with_reducible rfl)
          (try simp only [List.getElem_toArray]); (try simp only [List.getElem_cons_succ]); (try simp only [List.getElem_cons_zero]); (try simp only [Act.put]); (try simp only [List.setIfInBounds_toArray]); (try simp only [List.set_cons_succ]); (try simp only [List.set_cons_zero])
          refine wpAnyH_take (i := 1) (v := ?_) rfl (by kernel_rfl) (by kernel_rfl) (by kernel_rfl) (fun _ _ _ h => h) (Or.inl ⟨by kernel_rfl, ?_⟩) hHeld ?_
          rotate_left
          · intro wz hSw; (try dsimp only at hSw); go_simp; all_goals (try with_reducible rfl)
          (try simp only [List.getElem_toArray]); (try simp only [List.getElem_cons_succ]); (try simp only [List.getElem_cons_zero]); (try simp only [Act.put]); (try simp only [List.setIfInBounds_toArray]); (try simp only [List.set_cons_succ]); (try simp only [List.set_cons_zero])
          refine wpAnyH_take (i := 2) (v := ?_) rfl (by kernel_rfl) (by kernel_rfl) (by kernel_rfl) (fun _ _ _ h => h) (Or.inl ⟨by kernel_rfl, ?_⟩) hHeld ?_
          rotate_left
          · intro wz hSw; (try dsimp only at hSw); go_simp; all_goals (try with_reducible rfl)
          (try simp only [List.getElem_toArray]); (try simp only [List.getElem_cons_succ]); (try simp only [List.getElem_cons_zero]); (try simp only [Act.put]); (try simp only [List.setIfInBounds_toArray]); (try simp only [List.set_cons_succ]); (try simp only [List.set_cons_zero])
          refine wpAnyH_take (i := 3) (v := ?_) rfl (by kernel_rfl) (by kernel_rfl) (by kernel_rfl) (fun _ _ _ h => h) (Or.inl ⟨by kernel_rfl, ?_⟩) hHeld ?_
          rotate_left
          · intro wz hSw; (try dsimp only at hSw); go_simp; all_goals (try with_reducible rfl)
          (try simp only [List.getElem_toArray]); (try simp only [List.getElem_cons_succ]); (try simp only [List.getElem_cons_zero]); (try simp only [Act.put]); (try simp only [List.setIfInBounds_toArray]); (try simp only [List.set_cons_succ]); (try simp only [List.set_cons_zero])
          refine wpAnyH_take (i := 4) (v := ?_) rfl (by kernel_rfl) (by kernel_rfl) (by kernel_rfl) (fun _ _ _ h => h) (Or.inl ⟨by kernel_rfl, ?_⟩) hHeld ?_
          rotate_left
          · intro wz hSw; (try dsimp only at hSw); go_simp; all_goals (try with_reducible rfl)
          (try simp only [List.getElem_toArray]); (try simp only [List.getElem_cons_succ]); (try simp only [List.getElem_cons_zero]); (try simp only [Act.put]); (try simp only [List.setIfInBounds_toArray]); (try simp only [List.set_cons_succ]); (try simp only [List.set_cons_zero])
          refine wpAnyH_take (i := 5) (v := ?_) rfl (by kernel_rfl) (by kernel_rfl) (by kernel_rfl) (fun _ _ _ h => h) (Or.inl ⟨by kernel_rfl, ?_⟩) hHeld ?_
          rotate_left
          · intro wz hSw; (try dsimp only at hSw); go_simp; all_goals (try with_reducible rfl)
          (try simp only [List.getElem_toArray]); (try simp only [List.getElem_cons_succ]); (try simp only [List.getElem_cons_zero]); (try simp only [Act.put]); (try simp only [List.setIfInBounds_toArray]); (try simp only [List.set_cons_succ]); (try simp only [List.set_cons_zero])
          refine wpAnyH_take (i := 6) (v := ?_) rfl (by kernel_rfl) (by kernel_rfl) (by kernel_rfl) (fun _ _ _ h => h) (Or.inl ⟨by kernel_rfl, ?_⟩) hHeld ?_
          rotate_left
          · intro wz hSw; (try dsimp only at hSw); go_simp; all_goals (try with_reducible rfl)
          (try simp only [List.getElem_toArray]); (try simp only [List.getElem_cons_succ]); (try simp only [List.getElem_cons_zero]); (try simp only [Act.put]); (try simp only [List.setIfInBounds_toArray]); (try simp only [List.set_cons_succ]); (try simp only [List.set_cons_zero])
          refine wpAnyH_take (i := 7) (v := ?_) rfl (by kernel_rfl) (by kernel_rfl) (by kernel_rfl) (fun _ _ _ h => h) (Or.inl ⟨by kernel_rfl, ?_⟩) hHeld ?_
          rotate_left
          · intro wz hSw; (try dsimp only at hSw); go_simp; all_goals (try with_reducible rfl)
          (try simp only [List.getElem_toArray]); (try simp only [List.getElem_cons_succ]); (try simp only [List.getElem_cons_zero]); (try simp only [Act.put]); (try simp only [List.setIfInBounds_toArray]); (try simp only [List.set_cons_succ]); (try simp only [List.set_cons_zero])
          refine wpAnyH_take (i := 8) (v := ?_) rfl (by kernel_rfl) (by kernel_rfl) (by kernel_rfl) (fun _ _ _ h => h) (Or.inl ⟨by kernel_rfl, ?_⟩) hHeld ?_
          rotate_left
          · intro wz hSw; (try dsimp only at hSw); go_simp; all_goals (try with_reducible rfl)
          (try simp only [List.getElem_toArray]); (try simp only [List.getElem_cons_succ]); (try simp only [List.getElem_cons_zero]); (try simp only [Act.put]); (try simp only [List.setIfInBounds_toArray]); (try simp only [List.set_cons_succ]); (try simp only [List.set_cons_zero])
          refine wpAnyH_take (i := 9) (v := ?_) rfl (by kernel_rfl) (by kernel_rfl) (by kernel_rfl) (fun _ _ _ h => h) (Or.inl ⟨by kernel_rfl, ?_⟩) hHeld ?_
          rotate_left
          · intro wz hSw; (try dsimp only at hSw); go_simp; all_goals (try with_reducible rfl)
          (try simp only [List.getElem_toArray]); (try simp only [List.getElem_cons_succ]); (try simp only [List.getElem_cons_zero]); (try simp only [Act.put]); (try simp only [List.setIfInBounds_toArray]); (try simp only [List.set_cons_succ]); (try simp only [List.set_cons_zero])
          refine wpAnyH_take (i := 10) (v := ?_) rfl (by kernel_rfl) (by kernel_rfl) (by kernel_rfl) (fun _ _ _ h => h) (Or.inl ⟨by kernel_rfl, ?_⟩) hHeld ?_
          rotate_left
          · intro wz hSw; (try dsimp only at hSw); go_simp; all_goals (try with_reducible rfl)
          (try simp only [List.getElem_toArray]); (try simp only [List.getElem_cons_succ]); (try simp only [List.getElem_cons_zero]); (try simp only [Act.put]); (try simp only [List.setIfInBounds_toArray]); (try simp only [List.set_cons_succ]); (try simp only [List.set_cons_zero])
          refine wpAnyH_take (i := 11) (v := ?_) rfl (by kernel_rfl) (by kernel_rfl) (by kernel_rfl) (fun _ _ _ h => h) (Or.inl ⟨by kernel_rfl, ?_⟩) hHeld ?_
          rotate_left
          · intro wz hSw; (try dsimp only at hSw); go_simp; all_goals (try with_reducible rfl)
          (try simp only [List.getElem_toArray]); (try simp only [List.getElem_cons_succ]); (try simp only [List.getElem_cons_zero]); (try simp only [Act.put]); (try simp only [List.setIfInBounds_toArray]); (try simp only [List.set_cons_succ]); (try simp only [List.set_cons_zero])
          refine wpAnyH_take (i := 12) (v := ?_) rfl (by kernel_rfl) (by kernel_rfl) (by kernel_rfl) (fun _ _ _ h => h) (Or.inl ⟨by kernel_rfl, ?_⟩) hHeld ?_
          rotate_left
          · intro wz hSw; (try dsimp only at hSw); go_simp; all_goals (try with_reducible rfl)
          (try simp only [List.getElem_toArray]); (try simp only [List.getElem_cons_succ]); (try simp only [List.getElem_cons_zero]); (try simp only [Act.put]); (try simp only [List.setIfInBounds_toArray]); (try simp only [List.set_cons_succ]); (try simp only [List.set_cons_zero])
          refine wpAnyH_ready (rs := [13]) (by kernel_rfl) (by simp) (AllReadyH.cons rfl (fun Kc hKc => ?_) AllReadyH.nil)
          go_simp
          refine hKc.out _ _ ?_ (fun hHeld => ?_)
          · (try dsimp only)
            refine ⟨?_, ?_, ?_, ?_⟩ <;> (repeat (with_reducible (first | exact c1 | exact c2 | exact c3 | exact c4 | refine cell_dr ?_ | refine cell_stb ?_ ?_ | (show _ ≠ _; omega))))
          clear hKc Kc
          (try simp only [List.getElem_toArray]); (try simp only [List.getElem_cons_succ]); (try simp only [List.getElem_cons_zero]); (try simp only [Act.put]); (try simp only [List.setIfInBounds_toArray]); (try simp only [List.set_cons_succ]); (try simp only [List.set_cons_zero])
          refine wpAnyH_done (by kernel_rfl) ?_ _
          refine NoPanic.normal ?_
          go_wp2
          go_roundw
          case rel =>
            obtain ⟨t1, t2⟩ := (hT.out.below ((Below.refl _ _).drew)).setAt hS.out hlk HEK.out (own_below HOK.out ((Below.refl _ _).drew)) j (by omega) x1 x2
            exact ⟨_, j + 1, by omega, by go_num, t1, t2, curSet (curSet (HC.out.drewN 1) (by omega) (fun b' off e hz => by have := HROW.out b' off e hz; omega)) (by omega) (fun b' off e hz => by have := HROW.out b' off e hz; omega), exSet (exSet HE.out.drew q1) q1⟩
          case measure => simp [intOf]; omega
        · obtain rfl : j = k := by omega
          obtain ⟨z1, z2⟩ := own_R ok (hS.out.2 j (by rw [hS.out.1]; omega)) j (by omega)
          have z3 := ok.frozenAt (j * 2)
          have z4 := ok.frozenAt (j * 2 + 1)
          generalize hy1 : ((rw' T j)[j]?.getD (0, 0)).1 = y1 at z1
          generalize hy2 : ((rw' T j)[j]?.getD (0, 0)).2 = y2 at z2
          have hkN : (j : Int) < (N : Int) := by omega
          clear ek ok hy1 hy2
          by_cases hy : y1 < 0
          · go_upto_region 10 with fail
            refine wp_region_noPanic ?_
            refine wp_region_held_drew (S := (fun w' => w'.cell? ⟨G, j, none⟩ = some (.slice (some ⟨gk, 0, none⟩) N ck))) (by kernel_rfl) ?_ (fun hHeld => ?_)
            · (try dsimp only)
              with_reducible (repeat (first | exact c1 | refine cell_dr ?_ | refine cell_stb ?_ ?_ | (show _ ≠ _; omega)))
            refine wpAnyH_take (i := 0) (v := ?_) rfl (by kernel_rfl) (by kernel_rfl) (by kernel_rfl) (fun _ _ _ h => h) (Or.inl ⟨by kernel_rfl, ?_⟩) hHeld ?_
            rotate_left
            · intro wz hSw; (try dsimp only at hSw); go_simp; all_goals (try with_reducible rfl)
            (try simp only [List.getElem_toArray]); (try simp only [List.getElem_cons_succ]); (try simp only [List.getElem_cons_zero]); (try simp only [Act.put]); (try simp only [List.setIfInBounds_toArray]); (try simp only [List.set_cons_succ]); (try simp only [List.set_cons_zero])
            refine wpAnyH_take (i := 1) (v := ?_) rfl (by kernel_rfl) (by kernel_rfl) (by kernel_rfl) (fun _ _ _ h => h) (Or.inl ⟨by kernel_rfl, ?_⟩) hHeld ?_
            rotate_left
            · intro wz hSw; (try dsimp only at hSw); go_simp; all_goals (try with_reducible rfl)
            (try simp only [List.getElem_toArray]); (try simp only [List.getElem_cons_succ]); (try simp only [List.getElem_cons_zero]); (try simp only [Act.put]); (try simp only [List.setIfInBounds_toArray]); (try simp only [List.set_cons_succ]); (try simp only [List.set_cons_zero])
            refine wpAnyH_take (i := 2) (v := ?_) rfl (by kernel_rfl) (by kernel_rfl) (by kernel_rfl) (fun _ _ _ h => h) (Or.inl ⟨by kernel_rfl, ?_⟩) hHeld ?_
            rotate_left
            · intro wz hSw; (try dsimp only at hSw); go_simp; all_goals (try with_reducible rfl)
            (try simp only [List.getElem_toArray]); (try simp only [List.getElem_cons_succ]); (try simp only [List.getElem_cons_zero]); (try simp only [Act.put]); (try simp only [List.setIfInBounds_toArray]); (try simp only [List.set_cons_succ]); (try simp only [List.set_cons_zero])
            refine wpAnyH_take (i := 3) (v := ?_) rfl (by kernel_rfl) (by kernel_rfl) (by kernel_rfl) (fun _ _ _ h => h) (Or.inl ⟨by kernel_rfl, ?_⟩) hHeld ?_
            rotate_left
            · intro wz hSw; (try dsimp only at hSw); go_simp; all_goals (try with_reducible rfl)
            (try simp only [List.getElem_toArray]); (try simp only [List.getElem_cons_succ]); (try simp only [List.getElem_cons_zero]); (try simp only [Act.put]); (try simp only [List.setIfInBounds_toArray]); (try simp only [List.set_cons_succ]); (try simp only [List.set_cons_zero])
            refine wpAnyH_take (i := 4) (v := ?_) rfl (by kernel_rfl) (by kernel_rfl) (by kernel_rfl) (fun _ _ _ h => h) (Or.inl ⟨by kernel_rfl, ?_⟩) hHeld ?_
            rotate_left
            · intro wz hSw; (try dsimp only at hSw); go_simp; all_goals (try with_reducible rfl)
            (try simp only [List.getElem_toArray]); (try simp only [List.getElem_cons_succ]); (try simp only [List.getElem_cons_zero]); (try simp only [Act.put]); (try simp only [List.setIfInBounds_toArray]); (try simp only [List.set_cons_succ]); (try simp only [List.set_cons_zero])
            refine wpAnyH_take (i := 5) (v := ?_) rfl (by kernel_rfl) (by kernel_rfl) (by kernel_rfl) (fun _ _ _ h => h) (Or.inl ⟨by kernel_rfl, ?_⟩) hHeld ?_
            rotate_left
            · intro wz hSw; (try dsimp only at hSw); go_simp; all_goals (try with_reducible rfl)
            (try simp only [List.getElem_toArray]); (try simp only [List.getElem_cons_succ]); (try simp only [List.getElem_cons_zero]); (try simp only [Act.put]); (try simp only [List.setIfInBounds_toArray]); (try simp only [List.set_cons_succ]); (try simp only [List.set_cons_zero])
            refine wpAnyH_take (i := 6) (v := ?_) rfl (by kernel_rfl) (by kernel_rfl) (by kernel_rfl) (fun _ _ _ h => h) (Or.inl ⟨by kernel_rfl, ?_⟩) hHeld ?_
            rotate_left
            · intro wz hSw; (try dsimp only at hSw); go_simp; all_goals (try with_reducible rfl)
            (try simp only [List.getElem_toArray]); (try simp only [List.getElem_cons_succ]); (try simp only [List.getElem_cons_zero]); (try simp only [Act.put]); (try simp only [List.setIfInBounds_toArray]); (try simp only [List.set_cons_succ]); (try simp only [List.set_cons_zero])
            refine wpAnyH_take (i := 7) (v := ?_) rfl (by kernel_rfl) (by kernel_rfl) (by kernel_rfl) (fun _ _ _ h => h) (Or.inl ⟨by kernel_rfl, ?_⟩) hHeld ?_
            rotate_left
            · intro wz hSw; (try dsimp only at hSw); go_simp; all_goals (try with_reducible rfl)
            (try simp only [List.getElem_toArray]); (try simp only [List.getElem_cons_succ]); (try simp only [List.getElem_cons_zero]); (try simp only [Act.put]); (try simp only [List.setIfInBounds_toArray]); (try simp only [List.set_cons_succ]); (try simp only [List.set_cons_zero])
            refine wpAnyH_take (i := 8) (v := ?_) rfl (by kernel_rfl) (by kernel_rfl) (by kernel_rfl) (fun _ _ _ h => h) (Or.inl ⟨by kernel_rfl, ?_⟩) hHeld ?_
            rotate_left
            · intro wz hSw; (try dsimp only at hSw); go_simp; all_goals (try with_reducible rfl)
            (try simp only [List.getElem_toArray]); (try simp only [List.getElem_cons_succ]); (try simp only [List.getElem_cons_zero]); (try simp only [Act.put]); (try simp only [List.setIfInBounds_toArray]); (try simp only [List.set_cons_succ]); (try simp only [List.set_cons_zero])
            refine wpAnyH_take (i := 9) (v := ?_) rfl (by kernel_rfl) (by kernel_rfl) (by kernel_rfl) (fun _ _ _ h => h) (Or.inl ⟨by kernel_rfl, ?_⟩) hHeld ?_
            rotate_left
            · intro wz hSw; (try dsimp only at hSw); go_simp; all_goals (try with_reducible rfl)
            (try simp only [List.getElem_toArray]); (try simp only [List.getElem_cons_succ]); (try simp only [List.getElem_cons_zero]); (try simp only [Act.put]); (try simp only [List.setIfInBounds_toArray]); (try simp only [List.set_cons_succ]); (try simp only [List.set_cons_zero])
            refine wpAnyH_take (i := 10) (v := ?_) rfl (by kernel_rfl) (by kernel_rfl) (by kernel_rfl) (fun _ _ _ h => h) (Or.inl ⟨by kernel_rfl, ?_⟩) hHeld ?_
            rotate_left
            · intro wz hSw; (try dsimp only at hSw); go_simp; all_goals (try with_reducible rfl)
            (try simp only [List.getElem_toArray]); (try simp only [List.getElem_cons_succ]); (try simp only [List.getElem_cons_zero]); (try simp only [Act.put]); (try simp only [List.setIfInBounds_toArray]); (try simp only [List.set_cons_succ]); (try simp only [List.set_cons_zero])
            refine wpAnyH_take (i := 11) (v := ?_) rfl (by kernel_rfl) (by kernel_rfl) (by kernel_rfl) (fun _ _ _ h => h) (Or.inl ⟨by kernel_rfl, ?_⟩) hHeld ?_
            rotate_left
            · intro wz hSw; (try dsimp only at hSw); go_simp; all_goals (try with_reducible rfl)
            (try simp only [List.getElem_toArray]); (try simp only [List.getElem_cons_succ]); (try simp only [List.getElem_cons_zero]); (try simp only [Act.put]); (try simp only [List.setIfInBounds_toArray]); (try simp only [List.set_cons_succ]); (try simp only [List.set_cons_zero])
            refine wpAnyH_ready (rs := [12]) (by kernel_rfl) (by simp) (AllReadyH.cons rfl (fun Kc hKc => ?_) AllReadyH.nil)
            go_simp
            refine hKc.out _ _ ?_ (fun hHeld => ?_)
            · (try dsimp only)
              with_reducible (repeat (first | exact c1 | refine cell_dr ?_ | refine cell_stb ?_ ?_ | (show _ ≠ _; omega)))
            clear hKc Kc
            (try simp only [List.getElem_toArray]); (try simp only [List.getElem_cons_succ]); (try simp only [List.getElem_cons_zero]); (try simp only [Act.put]); (try simp only [List.setIfInBounds_toArray]); (try simp only [List.set_cons_succ]); (try simp only [List.set_cons_zero])
            refine wpAnyH_take (i := 13) (v := ?_) rfl (by kernel_rfl) (by kernel_rfl) (by kernel_rfl) (fun _ _ _ h => h) (Or.inl ⟨by kernel_rfl, ?_⟩) hHeld ?_
            rotate_left
            · intro wz hSw; (try dsimp only at hSw); go_simp; all_goals (try with_reducible rfl)
            (try simp only [List.getElem_toArray]); (try simp only [List.getElem_cons_succ]); (try simp only [List.getElem_cons_zero]); (try simp only [Act.put]); (try simp only [List.setIfInBounds_toArray]); (try simp only [List.set_cons_succ]); (try simp only [List.set_cons_zero])
            refine wpAnyH_take (i := 14) (v := ?_) rfl (by kernel_rfl) (by kernel_rfl) (by kernel_rfl) (fun _ _ _ h => h) (Or.inl ⟨by kernel_rfl, ?_⟩) hHeld ?_
            rotate_left
            · intro wz hSw; (try dsimp only at hSw); go_simp; all_goals (try with_reducible rfl)
            (try simp only [List.getElem_toArray]); (try simp only [List.getElem_cons_succ]); (try simp only [List.getElem_cons_zero]); (try simp only [Act.put]); (try simp only [List.setIfInBounds_toArray]); (try simp only [List.set_cons_succ]); (try simp only [List.set_cons_zero])
            refine wpAnyH_take (i := 15) (v := ?_) rfl (by kernel_rfl) (by kernel_rfl) (by kernel_rfl) (fun _ _ _ h => h) (Or.inl ⟨by kernel_rfl, ?_⟩) hHeld ?_
            rotate_left
            · intro wz hSw; (try dsimp only at hSw); go_simp; all_goals (try with_reducible rfl)
            (try simp only [List.getElem_toArray]); (try simp only [List.getElem_cons_succ]); (try simp only [List.getElem_cons_zero]); (try simp only [Act.put]); (try simp only [List.setIfInBounds_toArray]); (try simp only [List.set_cons_succ]); (try simp only [List.set_cons_zero])
            refine wpAnyH_ready (rs := [16]) (by kernel_rfl) (by simp) (AllReadyH.cons rfl (fun Kc hKc => ?_) AllReadyH.nil)
            go_simp
            refine hKc.out _ _ ?_ (fun hHeld => ?_)
            · (try dsimp only)
              with_reducible (repeat (first | exact c1 | refine cell_dr ?_ | refine cell_stb ?_ ?_ | (show _ ≠ _; omega)))
            clear hKc Kc
            (try simp only [List.getElem_toArray]); (try simp only [List.getElem_cons_succ]); (try simp only [List.getElem_cons_zero]); (try simp only [Act.put]); (try simp only [List.setIfInBounds_toArray]); (try simp only [List.set_cons_succ]); (try simp only [List.set_cons_zero])
            refine wpAnyH_done (by kernel_rfl) ?_ _
            refine NoPanic.normal ?_
            go_wp2
            go_roundw
            case rel =>
              obtain ⟨T', t1, t2⟩ := (hT.out.below ((Below.refl _ _).drew)).setN hS.out hlk HEK.out (own_below HOK.out ((Below.refl _ _).drew)) j (by omega) (wrap64 (-y1))
              exact ⟨T', j + 1, by omega, by go_num, t1, t2, curSet (HC.out.drewN 1) (by omega) (fun b' off e hz => by have := HROW.out b' off e hz; omega), exSet HE.out.drew q1⟩
            case measure => simp [intOf]; omega
          · go_wp2
            go_roundw
            case rel => exact ⟨T, j + 1, by omega, by go_num, hT.out, hS.out, HC.out, HE.out⟩
            case measure => simp [intOf]; omega
    · have e : k = N := by omega
      subst e
      have hn0i : (0 : Int) < (k : Int) := by omega
      go_wp2_with fail
      refine (once_any cb _ a len cap zs _ HC.out (by omega)).mono ?_
      rintro e w4 ⟨z, rfl, hC', hE'⟩
      replace hT := hidW8 (hT.out.ex hE' hlt)
      replace HC := hidW8 hC'
      replace HE := hidW8 (HE.out.trans hE')
      clear hC' hE'
      cases z
      · go_wp2
        refine bodyPost_ret (results_tmp rfl _ _ _) rfl ⟨_, us, T, rfl, ?_, hS.out, HC.out, HE.out⟩
        exact hT.out
      · obtain ⟨gk, ck, ek, c1, q1, q2, ok⟩ := hT.out.rowAt hS.out 0 (by omega)
        have HEK := hidW8 ek
        have HOK := hidW8 ok
        have hkm : (k : Int) - 1 < (k : Int) := by omega
        obtain ⟨z1, z2⟩ := own_R ok (hS.out.2 0 (by rw [hS.out.1]; omega)) (k - 1) (by omega)
        have z3 := ok.frozenAt ((k - 1) * 2)
        have z4 := ok.frozenAt ((k - 1) * 2 + 1)
        generalize ((rw' T 0)[k - 1]?.getD (0, 0)).1 = y1 at z1
        generalize ((rw' T 0)[k - 1]?.getD (0, 0)).2 = y2 at z2
        clear ek ok
        obtain ⟨m, rfl⟩ : ∃ m, k = m + 1 := ⟨k - 1, by omega⟩
        have hm1 : m + 1 - 1 = m := by omega
        rw [hm1] at z1 z2 z3 z4
        have hm2 : ((m + 1 : Nat) : Int) - 1 = (m : Int) := by omega
        have hgc : gk ≠ cb := by omega
        have hwm : IntKind.i64.wrap (m : Int) = m := by rw [IntKind.wrap_i64]; omega
        have hm3 : (m : Int) < (m : Int) + 1 := by omega
        go_upto_region 12 with fail
        refine wp_region_noPanic ?_
        refine wp_region_held_drew (S := (fun w' => w'.cell? ⟨G, 0, none⟩ = some (.slice (some ⟨gk, 0, none⟩) (m + 1) ck))) (by kernel_rfl) ?_ (fun hHeld => ?_)
        · (try dsimp only)
          with_reducible (repeat (first | exact c1 | refine cell_dr ?_ | refine cell_stb ?_ ?_ | (show _ ≠ _; omega)))
        refine wpAnyH_take (i := 0) (v := ?_) rfl (by kernel_rfl) (by kernel_rfl) (by kernel_rfl) (fun _ _ _ h => h) (Or.inl ⟨by kernel_rfl, ?_⟩) hHeld ?_
        rotate_left
        · intro wz hSw; (try dsimp only at hSw); go_simp; all_goals (try with_reducible rfl)
        (try simp only [List.getElem_toArray]); (try simp only [List.getElem_cons_succ]); (try simp only [List.getElem_cons_zero]); (try simp only [Act.put]); (try simp only [List.setIfInBounds_toArray]); (try simp only [List.set_cons_succ]); (try simp only [List.set_cons_zero])
        refine wpAnyH_take (i := 1) (v := ?_) rfl (by kernel_rfl) (by kernel_rfl) (by kernel_rfl) (fun _ _ _ h => h) (Or.inl ⟨by kernel_rfl, ?_⟩) hHeld ?_
        rotate_left
        · intro wz hSw; (try dsimp only at hSw); go_simp; all_goals (try with_reducible rfl)
        (try simp only [List.getElem_toArray]); (try simp only [List.getElem_cons_succ]); (try simp only [List.getElem_cons_zero]); (try simp only [Act.put]); (try simp only [List.setIfInBounds_toArray]); (try simp only [List.set_cons_succ]); (try simp only [List.set_cons_zero])
        refine wpAnyH_take (i := 2) (v := ?_) rfl (by kernel_rfl) (by kernel_rfl) (by kernel_rfl) (fun _ _ _ h => h) (Or.inl ⟨by kernel_rfl, ?_⟩) hHeld ?_
        rotate_left
        · intro wz hSw; (try dsimp only at hSw); go_simp; all_goals (try with_reducible rfl)
        (try simp only [List.getElem_toArray]); (try simp only [List.getElem_cons_succ]); (try simp only [List.getElem_cons_zero]); (try simp only [Act.put]); (try simp only [List.setIfInBounds_toArray]); (try simp only [List.set_cons_succ]); (try simp only [List.set_cons_zero])
        refine wpAnyH_take (i := 3) (v := ?_) rfl (by kernel_rfl) (by kernel_rfl) (by kernel_rfl) (fun _ _ _ h => h) (Or.inl ⟨by kernel_rfl, ?_⟩) hHeld ?_
        rotate_left
        · intro wz hSw; (try dsimp only at hSw); go_simp; all_goals (try with_reducible rfl)
        (try simp only [List.getElem_toArray]); (try simp only [List.getElem_cons_succ]); (try simp only [List.getElem_cons_zero]); (try simp only [Act.put]); (try simp only [List.setIfInBounds_toArray]); (try simp only [List.set_cons_succ]); (try simp only [List.set_cons_zero])
        refine wpAnyH_take (i := 4) (v := ?_) rfl (by kernel_rfl) (by kernel_rfl) (by kernel_rfl) (fun _ _ _ h => h) (Or.inl ⟨by kernel_rfl, ?_⟩) hHeld ?_
        rotate_left
        · intro wz hSw; (try dsimp only at hSw); go_simp; all_goals (try with_reducible rfl); all_goals (try (rw [IntKind.wrap_i64]; omega))
        (try simp only [List.getElem_toArray]); (try simp only [List.getElem_cons_succ]); (try simp only [List.getElem_cons_zero]); (try simp only [Act.put]); (try simp only [List.setIfInBounds_toArray]); (try simp only [List.set_cons_succ]); (try simp only [List.set_cons_zero])
        refine wpAnyH_take (i := 5) (v := ?_) rfl (by kernel_rfl) (by kernel_rfl) (by kernel_rfl) (fun _ _ _ h => h) (Or.inl ⟨by kernel_rfl, ?_⟩) hHeld ?_
        rotate_left
        · intro wz hSw; (try dsimp only at hSw); go_simp; all_goals (try with_reducible rfl)
        (try simp only [List.getElem_toArray]); (try simp only [List.getElem_cons_succ]); (try simp only [List.getElem_cons_zero]); (try simp only [Act.put]); (try simp only [List.setIfInBounds_toArray]); (try simp only [List.set_cons_succ]); (try simp only [List.set_cons_zero])
        refine wpAnyH_ready (rs := [6]) (by kernel_rfl) (by simp) (AllReadyH.cons rfl (fun Kc hKc => ?_) AllReadyH.nil)
        go_simp
        (go_at_call 51; refine (drawAny_any cb a len cap zs _ (HC.out.drewN 1)).mono ?_; rintro e w5 ⟨p, d, rfl, hC', hE'⟩)
        replace c1 := hE'.cell (cell_dr c1) hGc
        replace z3 := hE'.frozen (cell_dr z1) (by simpa using z3) hgc
        replace z4 := hE'.frozen (cell_dr z2) (by simpa using z4) hgc
        replace z1 := hE'.cell (cell_dr z1) hgc
        replace z2 := hE'.cell (cell_dr z2) hgc
        have T5 := hidW8 (Tab.ex (hT.out.below ((Below.refl _ _).drew)) hE' hlt)
        have O5 := hidW8 (ownEx (own_below HOK.out ((Below.refl _ _).drew)) hE' hlt)
        have C5 := hidW8 hC'
        have E5 := hidW8 (HE.out.drew.trans hE')
        clear hC' hE'
        go_wp2_with fail
        refine hKc.out _ _ ?_ (fun hHeld => ?_)
        · (try dsimp only)
          with_reducible (repeat (first | exact c1 | refine cell_dr ?_ | refine cell_stb ?_ ?_ | (show _ ≠ _; omega)))
        clear hKc Kc
        (try simp only [List.getElem_toArray]); (try simp only [List.getElem_cons_succ]); (try simp only [List.getElem_cons_zero]); (try simp only [Act.put]); (try simp only [List.setIfInBounds_toArray]); (try simp only [List.set_cons_succ]); (try simp only [List.set_cons_zero])
        refine wpAnyH_take (i := 7) (v := ?_) rfl (by kernel_rfl) (by kernel_rfl) (by kernel_rfl) (fun _ _ _ h => h) (Or.inl ⟨by kernel_rfl, ?_⟩) hHeld ?_
        rotate_left
        · intro wz hSw; (try dsimp only at hSw); go_simp; all_goals (try with_reducible rfl)
        (try simp only [List.getElem_toArray]); (try simp only [List.getElem_cons_succ]); (try simp only [List.getElem_cons_zero]); (try simp only [Act.put]); (try simp only [List.setIfInBounds_toArray]); (try simp only [List.set_cons_succ]); (try simp only [List.set_cons_zero])
        refine wpAnyH_ready (rs := [8]) (by kernel_rfl) (by simp) (AllReadyH.cons rfl (fun Kc hKc => ?_) AllReadyH.nil)
        go_simp
        refine hKc.out _ _ ?_ (fun hHeld => ?_)
        · (try dsimp only)
          with_reducible (repeat (first | exact c1 | refine cell_dr ?_ | refine cell_stb ?_ ?_ | (show _ ≠ _; omega)))
        clear hKc Kc
        (try simp only [List.getElem_toArray]); (try simp only [List.getElem_cons_succ]); (try simp only [List.getElem_cons_zero]); (try simp only [Act.put]); (try simp only [List.setIfInBounds_toArray]); (try simp only [List.set_cons_succ]); (try simp only [List.set_cons_zero])
        refine wpAnyH_done (by kernel_rfl) ?_ _
        refine NoPanic.normal ?_
        go_wp2
        obtain ⟨t1, t2⟩ := T5.out.setAt hS.out (by omega) HEK.out O5.out m (by omega) p d
        refine bodyPost_ret (results_tmp rfl _ _ _) rfl ⟨_, us, _, rfl, ?_, t2, curSet (curSet C5.out (by omega) (fun b' off e hz => by have := HROW.out b' off e hz; omega)) (by omega) (fun b' off e hz => by have := HROW.out b' off e hz; omega), exSet (exSet E5.out q1) q1⟩
        exact t1
end Go.Proofs.Ytoiigmimdjipiaa

/- What is drawn for the law of budgets. -/
namespace Go.Proofs.Ytoiigmimdjipiaa
open Go.RowKit Go.Proofs.Ytoiigmimdjipiaa.RM

theorem Tab.rdx {cb base : Nat} {W : World} {v : Value} {us : List Value} {T : List (List Fr)} (h : Tab W base v us T) (hc : cb < base) : RdX cb W v T := fun _ hx => (h.ex hx hc).read

set_option maxRecDepth 100000 in
set_option maxHeartbeats 4000000 in
theorem dVar_any (a : Option Addr) (len cap : Nat) (zs : List Int) (w : World) (hr : IsRow .u8 w a len cap zs) :
    Calls Try.prog 5 #[.slice a len cap] w fun e w' => ∃ (u v : Value) (ps : List Fr) (T : List (List Fr)), e = .returned (.tuple #[u, v]) ∧ RdR w' u ps ∧ RdT w' v T ∧ ps.length ≤ 200 ∧ T.length ≤ 200 ∧ Below w.heap.size w w' := by
  have HR : Hid (IsRow .u8 w a len cap zs) := hr
  clear hr
  go_enter Try.func5, Try.ntmps5
  go_wp2_with fail
  refine (new_any a len cap zs _ HR.out).mono ?_
  rintro e w1 ⟨rfl, hC1, B1, hs1⟩
  obtain ⟨cb, hcb⟩ : ∃ b, b = w.heap.size := ⟨_, rfl⟩
  rw [← hcb] at hC1
  have HC : Hid (Cur w1 cb a len cap zs) := hC1
  have HB := hidW B1
  have hcw : w.heap.size ≤ cb := by omega
  rw [← hcb]
  clear hC1 HR B1 hcb
  go_wp2_with fail
  refine (below_any cb _ a len cap zs _ HC.out (by omega)).mono ?_
  rintro e w2 ⟨x, rfl, hx0, hx1, hC', hE⟩
  obtain ⟨n, hn⟩ : ∃ n : Nat, 1 + x = (n : Int) := ⟨(1 + x).toNat, by omega⟩
  replace HC : Hid (Cur w2 cb a len cap zs) := hC'
  replace HB := hidW (Ex.below HB.out hE hcw)
  have hn1 : 1 ≤ n := by omega
  have hn2 : n ≤ 100 := by omega
  clear hC' hE
  go_wp2_with fail
  clear hn hx0 hx1
  refine (dCov_any cb n a len cap zs _ HC.out hn1 hn2).mono ?_
  rintro e w3 ⟨v, us, T, rfl, hT, hS, hC', hE⟩
  have hlt := HC.out.lt
  replace HC : Hid (Cur w3 cb a len cap zs) := hC'
  replace HB := hidW (Ex.below HB.out hE hcw)
  have HT := hidW (hT.rdx hlt)
  have hTl : T.length ≤ 200 := by have := hS.1; omega
  clear hC' hE hT hlt
  go_wp2_with fail
  refine (dList_any cb n a len cap zs _ HC.out (by omega) (by omega)).mono ?_
  rintro e w4 ⟨u, ps, rfl, hO, hpl, hC', hE⟩
  replace HB := hidW (Ex.below HB.out hE hcw)
  replace HT := hidW (HT.out.ex hE)
  have HO := hidW (RdR.own hO).1
  clear hC' hE hO
  go_wp2
  refine bodyPost_ret (v := .tuple #[u, v]) (by simp [results, Try.results5, go_sem]) rfl ⟨u, v, ps, T, rfl, HO.out, HT.out.read, hpl, hTl, HB.out⟩

set_option maxRecDepth 100000 in
set_option maxHeartbeats 4000000 in
theorem dAlo_any (a : Option Addr) (len cap : Nat) (zs : List Int) (w : World) (hr : IsRow .u8 w a len cap zs) :
    Calls Try.prog 10 #[.slice a len cap] w fun e w' => ∃ (u : Value) (ps : List Fr), e = .returned u ∧ RdR w' u ps ∧ ps.length ≤ 200 ∧ Below w.heap.size w w' := by
  have HR : Hid (IsRow .u8 w a len cap zs) := hr
  clear hr
  go_enter Try.func10, Try.ntmps10
  go_wp2_with fail
  refine (new_any a len cap zs _ HR.out).mono ?_
  rintro e w1 ⟨rfl, hC1, B1, hs1⟩
  obtain ⟨cb, hcb⟩ : ∃ b, b = w.heap.size := ⟨_, rfl⟩
  rw [← hcb] at hC1
  have HC : Hid (Cur w1 cb a len cap zs) := hC1
  have HB := hidW B1
  have hcw : w.heap.size ≤ cb := by omega
  rw [← hcb]
  clear hC1 HR B1 hcb
  go_wp2_with fail
  refine (below_any cb _ a len cap zs _ HC.out (by omega)).mono ?_
  rintro e w2 ⟨x, rfl, hx0, hx1, hC', hE⟩
  replace HC : Hid (Cur w2 cb a len cap zs) := hC'
  replace HB := hidW (Ex.below HB.out hE hcw)
  clear hC' hE
  go_wp2_with fail
  refine (dList_any cb x a len cap zs _ HC.out (by omega) (by omega)).mono ?_
  rintro e w4 ⟨u, ps, rfl, hO, hpl, hC', hE⟩
  replace HB := hidW (Ex.below HB.out hE hcw)
  have HO := hidW (RdR.own hO).1
  clear hC' hE hO
  go_wp2
  refine bodyPost_ret (results_tmp rfl _ _ _) rfl ⟨u, ps, rfl, HO.out, hpl, HB.out⟩

set_option maxRecDepth 100000 in
set_option maxHeartbeats 4000000 in
theorem dCarr_any (a : Option Addr) (len cap : Nat) (zs : List Int) (w : World) (hr : IsRow .u8 w a len cap zs) :
    Calls Try.prog 8 #[.slice a len cap] w fun e w' => ∃ (u v : Value) (S T : List (List Fr)), e = .returned (.tuple #[u, v]) ∧ RdT w' u S ∧ RdT w' v T ∧ S.length ≤ 200 ∧ T.length ≤ 200 ∧ Below w.heap.size w w' := by
  have HR : Hid (IsRow .u8 w a len cap zs) := hr
  clear hr
  go_enter Try.func8, Try.ntmps8
  go_wp2_with fail
  refine (new_any a len cap zs _ HR.out).mono ?_
  rintro e w1 ⟨rfl, hC1, B1, hs1⟩
  obtain ⟨cb, hcb⟩ : ∃ b, b = w.heap.size := ⟨_, rfl⟩
  rw [← hcb] at hC1
  have HC : Hid (Cur w1 cb a len cap zs) := hC1
  have HB := hidW B1
  have hcw : w.heap.size ≤ cb := by omega
  rw [← hcb]
  clear hC1 HR B1 hcb
  go_wp2_with fail
  refine (below_any cb _ a len cap zs _ HC.out (by omega)).mono ?_
  rintro e w2 ⟨x, rfl, hx0, hx1, hC', hE⟩
  obtain ⟨n, hn⟩ : ∃ n : Nat, 1 + x = (n : Int) := ⟨(1 + x).toNat, by omega⟩
  replace HC : Hid (Cur w2 cb a len cap zs) := hC'
  replace HB := hidW (Ex.below HB.out hE hcw)
  have hn1 : 1 ≤ n := by omega
  have hn2 : n ≤ 10 := by omega
  clear hC' hE
  go_wp2_with fail
  clear hn hx0 hx1
  refine (dCov_any cb n a len cap zs _ HC.out hn1 (by omega)).mono ?_
  rintro e w3 ⟨v, us, T, rfl, hT, hS, hC', hE⟩
  have hlt := HC.out.lt
  replace HC : Hid (Cur w3 cb a len cap zs) := hC'
  replace HB := hidW (Ex.below HB.out hE hcw)
  have HT := hidW (hT.rdx hlt)
  have hTl : T.length ≤ 200 := by have := hS.1; omega
  clear hC' hE hT hlt hS
  go_wp2_with fail
  refine (once_any cb _ a len cap zs _ HC.out (by omega)).mono ?_
  rintro e w4 ⟨z, rfl, hC', hE⟩
  replace HC : Hid (Cur w4 cb a len cap zs) := hC'
  replace HB := hidW (Ex.below HB.out hE hcw)
  replace HT := hidW (HT.out.ex hE)
  clear hC' hE
  have hwn : IntKind.i64.wrap ((n : Int) + 1) = (n : Int) + 1 := by rw [IntKind.wrap_i64]; omega
  cases z
  · go_wp2_with fail
    refine (below_any cb _ a len cap zs _ HC.out (by omega)).mono ?_
    rintro e w5 ⟨x, rfl, hx0, hx1, hC', hE⟩
    obtain ⟨m, hm⟩ : ∃ n : Nat, 1 + x = (n : Int) := ⟨(1 + x).toNat, by omega⟩
    have hm2 : m ≤ 100 := by omega
    replace HC : Hid (Cur w5 cb a len cap zs) := hC'
    replace HB := hidW (Ex.below HB.out hE hcw)
    replace HT := hidW (HT.out.ex hE)
    clear hC' hE
    go_wp2_with fail
    clear hm hx0 hx1
    refine (dTabAny_any cb m n a len cap zs _ HC.out hm2 hn1 (by omega)).mono ?_
    rintro e w6 ⟨u, S, rfl, hS, hSl, hC', hE⟩
    replace HB := hidW (Ex.below HB.out hE hcw)
    replace HT := hidW (HT.out.ex hE)
    have HS := hidW hS
    clear hC' hE hS
    go_wp2
    refine bodyPost_ret (v := .tuple #[u, v]) (by simp [results, Try.results8, go_sem]) rfl ⟨u, v, S, T, rfl, HS.out.read, HT.out.read, hSl, hTl, HB.out⟩
  · go_wp2_with fail
    refine (below_any cb _ a len cap zs _ HC.out (by omega)).mono ?_
    rintro e w5 ⟨x, rfl, hx0, hx1, hC', hE⟩
    obtain ⟨m, hm⟩ : ∃ n : Nat, 1 + x = (n : Int) := ⟨(1 + x).toNat, by omega⟩
    have hm2 : m ≤ 100 := by omega
    replace HC : Hid (Cur w5 cb a len cap zs) := hC'
    replace HB := hidW (Ex.below HB.out hE hcw)
    replace HT := hidW (HT.out.ex hE)
    clear hC' hE
    go_wp2_with fail
    clear hm hx0 hx1
    refine (dTabAny_any cb m (n + 1) a len cap zs _ HC.out hm2 (by omega) (by omega)).mono ?_
    rintro e w6 ⟨u, S, rfl, hS, hSl, hC', hE⟩
    replace HB := hidW (Ex.below HB.out hE hcw)
    replace HT := hidW (HT.out.ex hE)
    have HS := hidW hS
    clear hC' hE hS
    go_wp2
    refine bodyPost_ret (v := .tuple #[u, v]) (by simp [results, Try.results8, go_sem]) rfl ⟨u, v, S, T, rfl, HS.out.read, HT.out.read, hSl, hTl, HB.out⟩
end Go.Proofs.Ytoiigmimdjipiaa
