/- The cursor over the bytes of a draw: what each step of it keeps. -/
import Derived.Test.YthmdiljcceiedaaRatioW3
import Derived.OpenShut
namespace Go.Proofs.Ythmdiljcceiedaa
open Go.RowKit Go.Proofs.Ythmdiljcceiedaa.RM

/-- what the walk is told of a slice of bytes that came in: it is empty, or it leads to a row of numbers -/
def IsRow (k : IntKind) (w : World) (a : Option Addr) (len cap : Nat) (zs : List Int) : Prop :=
  (len = 0 ∧ cap = 0 ∧ zs = []) ∨
  ∃ b off, a = some ⟨b, off, none⟩ ∧ len ≤ cap ∧ cap ≤ maxLen ∧ zs.length = cap ∧ (∀ i, i < zs.length → w.cell? ⟨b, off + i, none⟩ = some (.int k (zs.getD i 0))) ∧ ∀ n ∈ zs, (Lit.int k n).wf = true

/-- all blocks but one are as they were -/
def Ex (cb : Nat) (w w' : World) : Prop :=
  w'.os = w.os ∧ w'.tape = w.tape ∧ w'.output = w.output ∧ w.heap.size ≤ w'.heap.size ∧ ∀ k, k < w.heap.size → k ≠ cb → w'.heap[k]? = w.heap[k]?
theorem Ex.refl (cb : Nat) (w : World) : Ex cb w w := ⟨rfl, rfl, rfl, Nat.le_refl _, fun _ _ _ => rfl⟩
theorem Ex.trans {cb : Nat} {a b c : World} (h : Ex cb a b) (k : Ex cb b c) : Ex cb a c :=
  ⟨k.1.trans h.1, k.2.1.trans h.2.1, k.2.2.1.trans h.2.2.1, Nat.le_trans h.2.2.2.1 k.2.2.2.1, fun n hn hne => (k.2.2.2.2 n (Nat.lt_of_lt_of_le hn h.2.2.2.1) hne).trans (h.2.2.2.2 n hn hne)⟩
theorem Ex.size {cb : Nat} {w w' : World} (h : Ex cb w w') : w.heap.size ≤ w'.heap.size := h.2.2.2.1
theorem Ex.of_below {cb : Nat} {w w' : World} (h : Below w.heap.size w w') : Ex cb w w' := ⟨h.os, h.tape, h.output, h.size, fun k hk _ => h.block k hk⟩
theorem Ex.cell {cb : Nat} {w w' : World} (h : Ex cb w w') {b o : Nat} {v : Value} (hc : w.cell? ⟨b, o, none⟩ = some v) (hne : b ≠ cb) : w'.cell? ⟨b, o, none⟩ = some v := by
  have hb : b < w.heap.size := World.block_lt_of_cell? w _ hc
  rw [World.cell?_of_block (w := w) (a := ⟨b, o, none⟩) (h.2.2.2.2 b hb hne)]; exact hc
theorem Ex.frozen {cb : Nat} {w w' : World} (h : Ex cb w w') {b o : Nat} {v : Value} (hc : w.cell? ⟨b, o, none⟩ = some v) (hf : w.frozen? ⟨b, o, none⟩ = false) (hne : b ≠ cb) : w'.frozen? ⟨b, o, none⟩ = false := by
  have hb : b < w.heap.size := World.block_lt_of_cell? w _ hc
  rw [World.frozen?_of_block (w := w) (a := ⟨b, o, none⟩) (h.2.2.2.2 b hb hne)]; exact hf
theorem Ex.alloc {cb : Nat} {a w : World} (h : Ex cb a w) (o : Obj) : Ex cb a (w.alloc o) := by
  have hb : Below w.heap.size w (w.alloc o) := (Below.refl _ _).alloc (Nat.le_refl _) _
  exact h.trans (Ex.of_below hb)
theorem Ex.drew {cb : Nat} {a w : World} (h : Ex cb a w) : Ex cb a w.drew := ⟨h.1, h.2.1, h.2.2.1, h.2.2.2.1, h.2.2.2.2⟩
theorem Ex.drewN {cb : Nat} {a w : World} (h : Ex cb a w) (n : Nat) : Ex cb a (w.drewN n) := by
  have hb : Below w.heap.size w (w.drewN n) := below_drewN (Below.refl _ _) n
  exact h.trans (Ex.of_below hb)
theorem Ex.setCell {cb : Nat} {a w : World} (h : Ex cb a w) {b o : Nat} (hb : b = cb ∨ a.heap.size ≤ b) (u : Value) : Ex cb a (w.setCell ⟨b, o, none⟩ u) := by
  have hs : (w.setCell ⟨b, o, none⟩ u).heap.size = w.heap.size := by simp
  refine ⟨h.1, h.2.1, h.2.2.1, by rw [hs]; exact h.size, fun k hk hne => ?_⟩
  rw [Below.heap_setCell w ⟨b, o, none⟩ u k (by show k ≠ b; rcases hb with rfl | hb <;> omega)]
  exact h.2.2.2.2 k hk hne
/-- where the one block is new all old ones are as they were -/
theorem Ex.below {W w w' : World} {cb : Nat} (h : Below W.heap.size W w) (k : Ex cb w w') (hc : W.heap.size ≤ cb) : Below W.heap.size W w' :=
  ⟨k.1.trans h.os, k.2.1.trans h.tape, k.2.2.1.trans h.output, Nat.le_trans h.size k.size, fun n hn => (k.2.2.2.2 n (Nat.lt_of_lt_of_le hn h.size) (by omega)).trans (h.block n hn)⟩
theorem IsRow.ex {k : IntKind} {cb : Nat} {w w' : World} {a : Option Addr} {len cap : Nat} {zs : List Int} (h : IsRow k w a len cap zs) (hx : Ex cb w w') (hne : ∀ b off, a = some ⟨b, off, none⟩ → 0 < zs.length → b ≠ cb) : IsRow k w' a len cap zs := by
  rcases h with h | ⟨b, off, ha, h1, h2, h3, h4, h5⟩
  · exact .inl h
  · exact .inr ⟨b, off, ha, h1, h2, h3, fun i hi => hx.cell (h4 i hi) (hne b off ha (by omega)), h5⟩

/-- the cursor in block cb over the bytes zs -/
def Cur (w : World) (cb : Nat) (a : Option Addr) (len cap : Nat) (zs : List Int) : Prop :=
  (∃ i h : Int, 0 ≤ i ∧ i ≤ len ∧ w.cell? ⟨cb, 0, none⟩ = some (.slice a len cap) ∧ w.cell? ⟨cb, 1, none⟩ = some (.int .i64 i) ∧ w.cell? ⟨cb, 2, none⟩ = some (.int .i64 h) ∧ w.frozen? ⟨cb, 1, none⟩ = false ∧ w.frozen? ⟨cb, 2, none⟩ = false) ∧
  IsRow .u8 w a len cap zs ∧ ∀ b off, a = some ⟨b, off, none⟩ → 0 < zs.length → b ≠ cb
theorem Cur.ex {w w' : World} {cb x : Nat} {a : Option Addr} {len cap : Nat} {zs : List Int} (h : Cur w cb a len cap zs) (hx : Ex x w w') (hne : x ≠ cb) (hn2 : ∀ b off, a = some ⟨b, off, none⟩ → 0 < zs.length → b ≠ x) : Cur w' cb a len cap zs := by
  obtain ⟨⟨i, h, h1, h2, h3, h4, h5, h6, h7⟩, hr, hb⟩ := h
  exact ⟨⟨i, h, h1, h2, hx.cell h3 hne.symm, hx.cell h4 hne.symm, hx.cell h5 hne.symm, hx.frozen h4 h6 hne.symm, hx.frozen h5 h7 hne.symm⟩, hr.ex hx hn2, hb⟩
theorem Cur.lt {w : World} {cb : Nat} {a : Option Addr} {len cap : Nat} {zs : List Int} (h : Cur w cb a len cap zs) : cb < w.heap.size := by
  obtain ⟨⟨i, h, h1, h2, h3, _⟩, _⟩ := h
  exact World.block_lt_of_cell? w _ h3
theorem IsRow.lt {k : IntKind} {w : World} {a : Option Addr} {len cap : Nat} {zs : List Int} (h : IsRow k w a len cap zs) : ∀ b off, a = some ⟨b, off, none⟩ → 0 < zs.length → b < w.heap.size := by
  intro b off e hz
  rcases h with ⟨_, _, rfl⟩ | ⟨b', off', ha, h1, h2, h3, h4, h5⟩
  · simp at hz
  · rw [ha] at e; injection e with e; injection e with e1 e2 e3
    rw [← e1]; exact World.block_lt_of_cell? w _ (h4 0 hz)
/-- new blocks leave the cursor as it was -/
theorem Cur.below {w w' : World} {cb : Nat} {a : Option Addr} {len cap : Nat} {zs : List Int} (h : Cur w cb a len cap zs) (hb : Below w.heap.size w w') : Cur w' cb a len cap zs := by
  have hl := h.lt
  refine h.ex (x := w.heap.size) (Ex.of_below hb) (by omega) ?_
  intro b off e hz
  have := h.2.1.lt b off e hz
  omega
theorem IsRow.below {k : IntKind} {w w' : World} {a : Option Addr} {len cap : Nat} {zs : List Int} (h : IsRow k w a len cap zs) (hb : Below w.heap.size w w') : IsRow k w' a len cap zs := by
  refine h.ex (cb := w.heap.size) (Ex.of_below hb) ?_
  intro b off e hz
  have := h.lt b off e hz
  omega
theorem and255 (n : Int) : bits .and .i64 n 255 = n % 256 := by
  have h255 : (BitVec.ofInt 64 255).toNat = 2 ^ 8 - 1 := by decide
  have key : (BitVec.ofInt 64 n &&& BitVec.ofInt 64 255).toNat = (n % ((2 ^ 64 : Nat) : Int)).toNat % 2 ^ 8 := by
    rw [BitVec.toNat_and, BitVec.toNat_ofInt, h255, Nat.and_two_pow_sub_one_eq_mod]
  show IntKind.i64.wrap ((BitVec.ofInt 64 n &&& BitVec.ofInt 64 255).toNat : Nat) = n % 256
  rw [key, IntKind.wrap_i64]
  omega
theorem and255_0 (n : Int) : 0 ≤ bits .and .i64 n 255 := by rw [and255]; omega
theorem and255_1 (n : Int) : bits .and .i64 n 255 ≤ 255 := by rw [and255]; omega

theorem Cur.moved1 {w : World} {cb : Nat} {a : Option Addr} {len cap : Nat} {zs : List Int} (hc : Cur w cb a len cap zs) (x : Int) (n : Nat) :
    Cur ((w.setCell ⟨cb, 2, none⟩ (.int .i64 x)).drewN n) cb a len cap zs := by
  obtain ⟨⟨i, h, h1, h2, h3, h4, h5, h6, h7⟩, hr, hb⟩ := hc
  refine ⟨⟨i, x, h1, h2, ?_, ?_, ?_, ?_, ?_⟩, hr.ex (((Ex.refl cb w).setCell (.inl rfl) _).drewN n) hb, hb⟩ <;> simp [go_sem, h3, h4, h5, h6, h7]
theorem Cur.drewN {w : World} {cb : Nat} {a : Option Addr} {len cap : Nat} {zs : List Int} (hc : Cur w cb a len cap zs) (n : Nat) : Cur (w.drewN n) cb a len cap zs :=
  hc.below (below_drewN (Below.refl _ _) n)
theorem Cur.moved2 {w : World} {cb : Nat} {a : Option Addr} {len cap : Nat} {zs : List Int} (hc : Cur w cb a len cap zs) (j : Int) (h1 : 0 ≤ j) (h2 : j ≤ len) :
    Cur (w.setCell ⟨cb, 1, none⟩ (.int .i64 j)) cb a len cap zs := by
  obtain ⟨⟨i, h, _, _, h3, h4, h5, h6, h7⟩, hr, hb⟩ := hc
  refine ⟨⟨j, h, h1, h2, ?_, ?_, ?_, ?_, ?_⟩, hr.ex ((Ex.refl cb w).setCell (.inl rfl) _) hb, hb⟩ <;> simp [go_sem, h3, h4, h5, h6, h7]

set_option maxHeartbeats 800000 in
theorem byte_any (cb : Nat) (a : Option Addr) (len cap : Nat) (zs : List Int) (w : World) (hc : Cur w cb a len cap zs) :
    Calls Try.prog 43 #[.pointer (some ⟨cb, 0, none⟩)] w fun e w' => ∃ x : Int, e = .returned (.int .i64 x) ∧ 0 ≤ x ∧ x ≤ 255 ∧ Cur w' cb a len cap zs ∧ Ex cb w w' := by
  have HC : Hid (Cur w cb a len cap zs) := hc
  obtain ⟨⟨i, h, h1, h2, h3, h4, h5, h6, h7⟩, hr, hb⟩ := hc
  by_cases hl : i < len
  · obtain ⟨k, rfl⟩ := Int.eq_ofNat_of_zero_le h1
    rcases hr with ⟨rfl, _⟩ | ⟨b, off, rfl, g1, g2, g3, g4, g5⟩
    · omega
    · have hk : k < zs.length := by omega
      have hx := g4 k hk
      have hne := hb b off rfl (by omega)
      have hne2 : cb ≠ b := hne.symm
      have hwf := g5 (zs.getD k 0) (by rw [List.getD_eq_getElem?_getD, List.getElem?_eq_getElem hk]; simp)
      have hy : ∃ y, w.cell? ⟨b, off + k, none⟩ = some (.int .u8 y) ∧ 0 ≤ y ∧ y ≤ 255 := ⟨_, hx, (bounds_u8 hwf).1, (bounds_u8 hwf).2⟩
      obtain ⟨y, hy1, hy2, hy3⟩ := hy
      clear hx hwf g4 g5 hb
      unfold maxLen at g2
      go_enter Try.func43, Try.ntmps43
      go_wp2
      go_quiet (fail)
      go_wp2
      go_quiet (fail)
      go_wp2
      go_quiet (fail)
      go_wp2
      go_ret
      exact ⟨_, rfl, and255_0 _, and255_1 _, (HC.out.moved1 _ _).moved2 _ (by omega) (by omega), (((Ex.refl cb w).setCell (.inl rfl) _).drewN _).setCell (.inl rfl) _⟩
  · clear hr hb
    go_enter Try.func43, Try.ntmps43
    go_wp2
    go_quiet (fail)
    go_wp2
    go_quiet (fail)
    go_wp2
    go_ret
    exact ⟨_, rfl, and255_0 _, and255_1 _, (HC.out.moved1 _ _).drewN _, (((Ex.refl cb w).setCell (.inl rfl) _).drewN _).drewN _⟩

/-- the rest of a number from 0 on -/
theorem rem_in (x n : Int) (hn : 0 < n) : 0 ≤ x % n ∧ x % n < n := ⟨Int.emod_nonneg _ (by omega), Int.emod_lt_of_pos _ hn⟩

set_option maxHeartbeats 800000 in
theorem below_any (cb : Nat) (n : Int) (a : Option Addr) (len cap : Nat) (zs : List Int) (w : World) (hc : Cur w cb a len cap zs) (hn : 0 < n) :
    Calls Try.prog 20 #[.pointer (some ⟨cb, 0, none⟩), .int .i64 n] w fun e w' => ∃ x : Int, e = .returned (.int .i64 x) ∧ 0 ≤ x ∧ x < n ∧ Cur w' cb a len cap zs ∧ Ex cb w w' := by
  have HC : Hid (Cur w cb a len cap zs) := hc
  clear hc
  by_cases h : n ≤ 256
  · go_enter Try.func20, Try.ntmps20
    go_wp2_with fail
    refine (byte_any cb a len cap zs _ HC.out).mono ?_
    rintro e w1 ⟨x, rfl, hx0, hx1, hC1, hE1⟩
    have HC1 : Hid (Cur w1 cb a len cap zs) := hC1
    have HE1 : Hid (Ex cb w w1) := hE1
    clear hC1 hE1
    have hr := rem_in x n hn
    obtain ⟨hr0, hr1⟩ := hr
    go_wp2
    go_ret
    exact ⟨_, rfl, hr0, hr1, HC1.out, HE1.out⟩
  · go_enter Try.func20, Try.ntmps20
    go_wp2_with fail
    refine (byte_any cb a len cap zs _ HC.out).mono ?_
    rintro e w1 ⟨x, rfl, hx0, hx1, hC1, hE1⟩
    have HC1 : Hid (Cur w1 cb a len cap zs) := hC1
    have HE1 : Hid (Ex cb w w1) := hE1
    clear hC1 hE1
    go_wp2_with fail
    refine (byte_any cb a len cap zs _ HC1.out).mono ?_
    rintro e w2 ⟨y, rfl, hy0, hy1, hC2, hE2⟩
    have HC2 : Hid (Cur w2 cb a len cap zs) := hC2
    have HE2 : Hid (Ex cb w w2) := HE1.out.trans hE2
    clear hC2 hE2 HC1 HE1
    go_wp2_with fail
    refine (byte_any cb a len cap zs _ HC2.out).mono ?_
    rintro e w3 ⟨z, rfl, hz0, hz1, hC3, hE3⟩
    have HC3 : Hid (Cur w3 cb a len cap zs) := hC3
    have HE3 : Hid (Ex cb w w3) := HE2.out.trans hE3
    clear hC3 hE3 HC2 HE2
    go_wp2_with fail
    refine (byte_any cb a len cap zs _ HC3.out).mono ?_
    rintro e w4 ⟨u, rfl, hu0, hu1, hC4, hE4⟩
    have HC4 : Hid (Cur w4 cb a len cap zs) := hC4
    have HE4 : Hid (Ex cb w w4) := HE3.out.trans hE4
    clear hC4 hE4 HC3 HE3
    have hr := rem_in (x * 16777216 + y * 65536 + z * 256 + u) n hn
    obtain ⟨hr0, hr1⟩ := hr
    go_wp2
    go_ret
    exact ⟨_, rfl, hr0, hr1, HC4.out, HE4.out⟩

theorem once_any (cb : Nat) (n : Int) (a : Option Addr) (len cap : Nat) (zs : List Int) (w : World) (hc : Cur w cb a len cap zs) (hn : 0 < n) :
    Calls Try.prog 18 #[.pointer (some ⟨cb, 0, none⟩), .int .i64 n] w fun e w' => ∃ x : Bool, e = .returned (.bool x) ∧ Cur w' cb a len cap zs ∧ Ex cb w w' := by
  have HC : Hid (Cur w cb a len cap zs) := hc
  clear hc
  go_enter Try.func18, Try.ntmps18
  go_wp2_with fail
  refine (below_any cb n a len cap zs _ HC.out hn).mono ?_
  rintro e w1 ⟨x, rfl, hx0, hx1, hC1, hE1⟩
  have HC1 : Hid (Cur w1 cb a len cap zs) := hC1
  have HE1 : Hid (Ex cb w w1) := hE1
  clear hC1 hE1
  go_wp2
  go_ret
  exact ⟨_, rfl, HC1.out, HE1.out⟩

theorem from_any (cb : Nat) (lo hi : Int) (a : Option Addr) (len cap : Nat) (zs : List Int) (w : World) (hc : Cur w cb a len cap zs) (hn : lo ≤ hi) (h1 : -1000000000000 ≤ lo) (h2 : hi ≤ 1000000000000) :
    Calls Try.prog 61 #[.pointer (some ⟨cb, 0, none⟩), .int .i64 lo, .int .i64 hi] w fun e w' => ∃ x : Int, e = .returned (.int .i64 x) ∧ lo ≤ x ∧ x ≤ hi ∧ Cur w' cb a len cap zs ∧ Ex cb w w' := by
  have HC : Hid (Cur w cb a len cap zs) := hc
  clear hc
  go_enter Try.func61, Try.ntmps61
  go_wp2_with fail
  refine (below_any cb _ a len cap zs _ HC.out (by omega)).mono ?_
  rintro e w1 ⟨x, rfl, hx0, hx1, hC1, hE1⟩
  have HC1 : Hid (Cur w1 cb a len cap zs) := hC1
  have HE1 : Hid (Ex cb w w1) := hE1
  clear hC1 hE1
  go_wp2
  go_ret
  exact ⟨_, rfl, by omega, by omega, HC1.out, HE1.out⟩
end Go.Proofs.Ythmdiljcceiedaa
