/- The walks of the model's reckoning that remembers whether something was too great: one block of one Bool. -/
import Derived.Test.YtkcdpjcfbpjkeanRatioW4
import Derived.Test.YtkcdpjcfbpjkeanTermsW
import Derived.Test.YtkcdpjcfbpjkeanFromMath
namespace Go.Proofs.Ytkcdpjcfbpjkean
open Go.RowKit Go.Proofs.Ytkcdpjcfbpjkean.RM

/-- block K is the reckoning's: was something too great? -/
def IsK (W : World) (K : Nat) (b : Bool) : Prop := W.heap[K]? = some (.cells #[.bool b] 60 (0, 0))
theorem IsK.new (W : World) (b : Bool) : IsK (W.alloc (.cells #[.bool b] 60)) W.heap.size b := World.alloc_heap_new W _
theorem IsK.lt {W : World} {K : Nat} {b : Bool} (h : IsK W K b) : K < W.heap.size := (Array.getElem?_eq_some_iff.1 h).1
theorem IsK.cell {W : World} {K : Nat} {b : Bool} (h : IsK W K b) : W.cell? ⟨K, 0, none⟩ = some (.bool b) := by simp [World.cell?, show W.heap[K]? = _ from h]
theorem IsK.frozen {W : World} {K : Nat} {b : Bool} (h : IsK W K b) : W.frozen? ⟨K, 0, none⟩ = false := by simp [World.frozen?, show W.heap[K]? = _ from h]
theorem IsK.below {W W' : World} {K : Nat} {b : Bool} (h : IsK W K b) (hb : Below W.heap.size W W') : IsK W' K b := (hb.block K h.lt).trans h
theorem IsK.set {W : World} {K : Nat} {b : Bool} (h : IsK W K b) (x : Bool) : IsK (W.setCell ⟨K, 0, none⟩ (.bool x)) K x := by
  obtain ⟨hlt, hk⟩ := Array.getElem?_eq_some_iff.1 h
  show (W.heap.modify K _)[K]? = _
  rw [Array.getElem?_eq_getElem (by rw [Array.size_modify]; exact hlt), Array.getElem_modify_self, hk]
  rfl
theorem grown_new {w w' : World} {row : Option Nat} (h : Below w.heap.size w w') : w.grownBy w' row := (grown_of_below h).but row
theorem IsR.grown {W W' : World} {R K : Nat} {n d : Int} (h : IsR W R n d) (hg : W.grownBy W' (some K)) (hne : R ≠ K) : IsR W' R n d := (hg.block R h.lt (by simpa using hne)).trans h
theorem below_grownK {B K : Nat} {w w' : World} (hg : w.grownBy w' (some K)) (hB : B ≤ K) (hs : B ≤ w.heap.size) : Below B w w' :=
  (Below.refl B w).grown hg hs (fun j ej => by cases ej; exact hB)

theorem g_refl (w : World) (row : Option Nat) : w.grownBy w row := grown_new (Below.refl _ _)
theorem g_below {w w' w'' : World} {row : Option Nat} (h : w.grownBy w' row) (hb : Below w'.heap.size w' w'') : w.grownBy w'' row := h.trans (grown_new hb)
theorem g_alloc {w w' : World} {row : Option Nat} (h : w.grownBy w' row) (o : Obj) : w.grownBy (w'.alloc o) row := g_below h ((Below.refl _ _).alloc (Nat.le_refl _) _)
theorem g_set {w w' : World} {row : Option Nat} (h : w.grownBy w' row) {b : Nat} (hb : w.heap.size ≤ b ∨ row = some b) (o : Nat) (v : Value) : w.grownBy (w'.setCell ⟨b, o, none⟩ v) row := by
  refine ⟨h.os, h.tape, h.output, by simpa using h.size, fun k hk hne => (Below.heap_setCell w' ⟨b, o, none⟩ v k ?_).trans (h.block k hk hne)⟩
  intro e
  have e' : k = b := e
  rcases hb with hb | hb
  · omega
  · exact hne (by rw [e', hb])
theorem g_cell {w w' : World} {row : Option Nat} (hg : w.grownBy w' row) {b : Nat} (o : Nat) (hlt : b < w.heap.size) (hne : some b ≠ row) : w'.cell? ⟨b, o, none⟩ = w.cell? ⟨b, o, none⟩ := World.cell?_of_block (w := w) (a := ⟨b, o, none⟩) (hg.block b hlt hne)
theorem g_frozen {w w' : World} {row : Option Nat} (hg : w.grownBy w' row) {b : Nat} (o : Nat) (hlt : b < w.heap.size) (hne : some b ≠ row) : w'.frozen? ⟨b, o, none⟩ = w.frozen? ⟨b, o, none⟩ := World.frozen?_of_block (w := w) (a := ⟨b, o, none⟩) (hg.block b hlt hne)
theorem g_drewN {w w' : World} {row : Option Nat} (h : w.grownBy w' row) (n : Nat) : w.grownBy (w'.drewN n) row := g_below h (below_drewN (Below.refl _ _) _)
theorem IsK.other {W : World} {K b : Nat} {x : Bool} (h : IsK W K x) (hne : K ≠ b) (o : Nat) (v : Value) : IsK (W.setCell ⟨b, o, none⟩ v) K x := (Below.heap_setCell W ⟨b, o, none⟩ v K hne).trans h
theorem IsR.other {W : World} {R b : Nat} {n d : Int} (h : IsR W R n d) (hne : R ≠ b) (o : Nat) (v : Value) : IsR (W.setCell ⟨b, o, none⟩ v) R n d := (Below.heap_setCell W ⟨b, o, none⟩ v R hne).trans h

theorem zero_any (w : World) :
    Calls Try.prog 43 #[] w fun e w' => e = .returned (.agg #[.int .i64 0, .int .i64 1]) ∧ Below w.heap.size w w' := by
  go_enter Try.func43, Try.ntmps43
  go_wp2
  exact bodyPost_ret (v := .agg #[.int .i64 0, .int .i64 1]) (by simp [results, Try.results43, go_sem]) rfl ⟨rfl, (Below.refl _ _).alloc (Nat.le_refl _) _⟩

set_option maxHeartbeats 1000000 in
theorem keep_any (K : Nat) (bd : Bool) (n d : Int) (o : Bool) (w : World) (hK : IsK w K bd) :
    Calls Try.prog 61 #[.pointer (some ⟨K, 0, none⟩), .agg #[.int .i64 n, .int .i64 d], .bool o] w fun e w' => e = .returned (.agg #[.int .i64 (kN o n), .int .i64 (kD o d)]) ∧ IsK w' K (bd || !o) ∧ w.grownBy w' (some K) := by
  have hlt := hK.lt
  have k0 := hK.cell
  have f0 := hK.frozen
  cases o
  · have hn : K ≠ w.heap.size := by omega
    have hn1 : K ≠ w.heap.size + 1 := by omega
    go_enter Try.func61, Try.ntmps61
    go_wp2_with fail
    refine (zero_any _).mono ?_
    rintro e w1 ⟨rfl, hb⟩
    have hs := hb.size
    have c0 : w1.cell? ⟨w.heap.size + 1, 0, none⟩ = some (.int .i64 0) := (hb.cell (p := ⟨w.heap.size + 1, 0, none⟩) (by simp)).trans (by simp [go_sem])
    have c1 : w1.cell? ⟨w.heap.size + 1, 1, none⟩ = some (.int .i64 0) := (hb.cell (p := ⟨w.heap.size + 1, 1, none⟩) (by simp)).trans (by simp [go_sem])
    have f0' : w1.frozen? ⟨w.heap.size + 1, 0, none⟩ = false := (hb.frozen (p := ⟨w.heap.size + 1, 0, none⟩) (by simp)).trans (by simp [go_sem])
    have f1' : w1.frozen? ⟨w.heap.size + 1, 1, none⟩ = false := (hb.frozen (p := ⟨w.heap.size + 1, 1, none⟩) (by simp)).trans (by simp [go_sem])
    have q1 : IsK w1 K true := (((hK.set true).below ((Below.refl _ _).alloc (Nat.le_refl _) _)).below ((Below.refl _ _).alloc (Nat.le_refl _) _)).below hb
    have G := g_below (g_alloc (g_alloc (g_set (g_refl w (some K)) (.inr rfl) 0 (.bool true)) _) _) hb
    clear hb hK
    go_wp2
    exact bodyPost_ret (v := .agg #[.int .i64 0, .int .i64 1]) (by simp [results, Try.results61, go_sem, c0, c1]) rfl ⟨rfl, by simpa using (q1.other hn1 0 _).other hn1 1 _, g_set (g_set G (.inl (by omega)) 0 _) (.inl (by omega)) 1 _⟩
  · go_enter Try.func61, Try.ntmps61
    go_wp2_with fail
    exact bodyPost_ret (v := .agg #[.int .i64 n, .int .i64 d]) (by simp [results, Try.results61, go_sem]) rfl ⟨rfl, by simpa using (hK.below ((Below.refl _ _).alloc (Nat.le_refl _) _)).below ((Below.refl _ _).alloc (Nat.le_refl _) _), g_alloc (g_alloc (g_refl w _) _) _⟩

set_option maxHeartbeats 1000000 in
theorem cAdd_any (K : Nat) (bd : Bool) (a b c d : Int) (w : World) (hK : IsK w K bd) :
    Calls Try.prog 45 #[.pointer (some ⟨K, 0, none⟩), .agg #[.int .i64 a, .int .i64 b], .agg #[.int .i64 c, .int .i64 d]] w fun e w' =>
      e = .returned (.agg #[.int .i64 (kN (opOk (two a b c d) (a * d + c * b) (b * d)) (opN (two a b c d) (a * d + c * b) (b * d))), .int .i64 (kD (opOk (two a b c d) (a * d + c * b) (b * d)) (opD (two a b c d) (a * d + c * b) (b * d)))]) ∧ IsK w' K (bd || !opOk (two a b c d) (a * d + c * b) (b * d)) ∧ w.grownBy w' (some K) := by
  have hlt := hK.lt
  obtain ⟨n, hn⟩ : ∃ x, x = opN (two a b c d) (a * d + c * b) (b * d) := ⟨_, rfl⟩
  obtain ⟨m, hm⟩ : ∃ x, x = opD (two a b c d) (a * d + c * b) (b * d) := ⟨_, rfl⟩
  obtain ⟨o, ho⟩ : ∃ x, x = opOk (two a b c d) (a * d + c * b) (b * d) := ⟨_, rfl⟩
  have HC : Hid (∀ u : World, Calls Try.prog 60 #[.agg #[.int .i64 a, .int .i64 b], .agg #[.int .i64 c, .int .i64 d]] u fun e u' => e = .returned (.tuple #[.agg #[.int .i64 n, .int .i64 m], .bool o]) ∧ Below u.heap.size u u') := by
    intro u; rw [hn, hm, ho]; exact sAdd_any a b c d u
  rw [← hn, ← hm, ← ho]
  clear hn hm ho
  go_enter Try.func45, Try.ntmps45
  go_wp2_with fail
  refine (HC.out _).mono ?_
  rintro e w1 ⟨rfl, hb⟩
  have hs := hb.size
  have q1 : IsK w1 K bd := (((hK.below ((Below.refl _ _).alloc (Nat.le_refl _) _)).below ((Below.refl _ _).alloc (Nat.le_refl _) _)).below ((Below.refl _ _).alloc (Nat.le_refl _) _)).below hb
  have G := g_below (g_alloc (g_alloc (g_alloc (g_refl w (some K)) _) _) _) hb
  obtain ⟨A, hA⟩ : ∃ A, A = w.heap.size := ⟨_, rfl⟩
  have c0 : w1.cell? ⟨A + 1 + 1, 0, none⟩ = some (.int .i64 0) := by rw [hA]; exact (hb.cell (p := ⟨w.heap.size + 1 + 1, 0, none⟩) (by simp)).trans (by simp [go_sem])
  have c1 : w1.cell? ⟨A + 1 + 1, 1, none⟩ = some (.int .i64 0) := by rw [hA]; exact (hb.cell (p := ⟨w.heap.size + 1 + 1, 1, none⟩) (by simp)).trans (by simp [go_sem])
  have f0 : w1.frozen? ⟨A + 1 + 1, 0, none⟩ = false := by rw [hA]; exact (hb.frozen (p := ⟨w.heap.size + 1 + 1, 0, none⟩) (by simp)).trans (by simp [go_sem])
  have f1 : w1.frozen? ⟨A + 1 + 1, 1, none⟩ = false := by rw [hA]; exact (hb.frozen (p := ⟨w.heap.size + 1 + 1, 1, none⟩) (by simp)).trans (by simp [go_sem])
  have hz : A + 1 + 1 < w1.heap.size := World.block_lt_of_cell? w1 _ c0
  have hA2 : w.heap.size ≤ A + 1 + 1 := by omega
  have hA3 : Hid (A = w.heap.size) := hA
  rw [← hA]
  clear hb hK hs hA
  go_wp2_with fail
  refine (keep_any K bd n m o _ (q1.below ((Below.refl _ _).alloc (Nat.le_refl _) _))).mono ?_
  rintro e w2 ⟨rfl, q2, g2⟩
  have hne : A + 1 + 1 ≠ K := by have := hA3.out; omega
  have G2 : w.grownBy w2 (some K) := (g_alloc G _).trans g2
  have d0 : w2.cell? ⟨A + 1 + 1, 0, none⟩ = some (.int .i64 0) := (g_cell g2 0 (by simp; omega) (by simpa using hne)).trans ((((Below.refl _ w1).alloc (Nat.le_refl _) _).cell (p := ⟨A + 1 + 1, 0, none⟩) hz).trans c0)
  have d1 : w2.cell? ⟨A + 1 + 1, 1, none⟩ = some (.int .i64 0) := (g_cell g2 1 (by simp; omega) (by simpa using hne)).trans ((((Below.refl _ w1).alloc (Nat.le_refl _) _).cell (p := ⟨A + 1 + 1, 1, none⟩) hz).trans c1)
  have e0 : w2.frozen? ⟨A + 1 + 1, 0, none⟩ = false := (g_frozen g2 0 (by simp; omega) (by simpa using hne)).trans ((((Below.refl _ w1).alloc (Nat.le_refl _) _).frozen (p := ⟨A + 1 + 1, 0, none⟩) hz).trans f0)
  have e1 : w2.frozen? ⟨A + 1 + 1, 1, none⟩ = false := (g_frozen g2 1 (by simp; omega) (by simpa using hne)).trans ((((Below.refl _ w1).alloc (Nat.le_refl _) _).frozen (p := ⟨A + 1 + 1, 1, none⟩) hz).trans f1)
  clear c0 c1 f0 f1 g2 G q1
  go_wp2
  exact bodyPost_ret (v := .agg #[.int .i64 (kN o n), .int .i64 (kD o m)]) (by simp [results, Try.results45, go_sem, d0, d1]) rfl ⟨rfl, (q2.other hne.symm 0 _).other hne.symm 1 _, g_set (g_set G2 (.inl hA2) 0 _) (.inl hA2) 1 _⟩

set_option maxHeartbeats 1000000 in
theorem cMul_any (K : Nat) (bd : Bool) (a b c d : Int) (w : World) (hK : IsK w K bd) :
    Calls Try.prog 46 #[.pointer (some ⟨K, 0, none⟩), .agg #[.int .i64 a, .int .i64 b], .agg #[.int .i64 c, .int .i64 d]] w fun e w' =>
      e = .returned (.agg #[.int .i64 (kN (opOk (two a b c d) (a * c) (b * d)) (opN (two a b c d) (a * c) (b * d))), .int .i64 (kD (opOk (two a b c d) (a * c) (b * d)) (opD (two a b c d) (a * c) (b * d)))]) ∧ IsK w' K (bd || !opOk (two a b c d) (a * c) (b * d)) ∧ w.grownBy w' (some K) := by
  have hlt := hK.lt
  obtain ⟨n, hn⟩ : ∃ x, x = opN (two a b c d) (a * c) (b * d) := ⟨_, rfl⟩
  obtain ⟨m, hm⟩ : ∃ x, x = opD (two a b c d) (a * c) (b * d) := ⟨_, rfl⟩
  obtain ⟨o, ho⟩ : ∃ x, x = opOk (two a b c d) (a * c) (b * d) := ⟨_, rfl⟩
  have HC : Hid (∀ u : World, Calls Try.prog 62 #[.agg #[.int .i64 a, .int .i64 b], .agg #[.int .i64 c, .int .i64 d]] u fun e u' => e = .returned (.tuple #[.agg #[.int .i64 n, .int .i64 m], .bool o]) ∧ Below u.heap.size u u') := by
    intro u; rw [hn, hm, ho]; exact sMul_any a b c d u
  rw [← hn, ← hm, ← ho]
  clear hn hm ho
  go_enter Try.func46, Try.ntmps46
  go_wp2_with fail
  refine (HC.out _).mono ?_
  rintro e w1 ⟨rfl, hb⟩
  have hs := hb.size
  have q1 : IsK w1 K bd := (((hK.below ((Below.refl _ _).alloc (Nat.le_refl _) _)).below ((Below.refl _ _).alloc (Nat.le_refl _) _)).below ((Below.refl _ _).alloc (Nat.le_refl _) _)).below hb
  have G := g_below (g_alloc (g_alloc (g_alloc (g_refl w (some K)) _) _) _) hb
  obtain ⟨A, hA⟩ : ∃ A, A = w.heap.size := ⟨_, rfl⟩
  have c0 : w1.cell? ⟨A + 1 + 1, 0, none⟩ = some (.int .i64 0) := by rw [hA]; exact (hb.cell (p := ⟨w.heap.size + 1 + 1, 0, none⟩) (by simp)).trans (by simp [go_sem])
  have c1 : w1.cell? ⟨A + 1 + 1, 1, none⟩ = some (.int .i64 0) := by rw [hA]; exact (hb.cell (p := ⟨w.heap.size + 1 + 1, 1, none⟩) (by simp)).trans (by simp [go_sem])
  have f0 : w1.frozen? ⟨A + 1 + 1, 0, none⟩ = false := by rw [hA]; exact (hb.frozen (p := ⟨w.heap.size + 1 + 1, 0, none⟩) (by simp)).trans (by simp [go_sem])
  have f1 : w1.frozen? ⟨A + 1 + 1, 1, none⟩ = false := by rw [hA]; exact (hb.frozen (p := ⟨w.heap.size + 1 + 1, 1, none⟩) (by simp)).trans (by simp [go_sem])
  have hz : A + 1 + 1 < w1.heap.size := World.block_lt_of_cell? w1 _ c0
  have hA2 : w.heap.size ≤ A + 1 + 1 := by omega
  have hA3 : Hid (A = w.heap.size) := hA
  rw [← hA]
  clear hb hK hs hA
  go_wp2_with fail
  refine (keep_any K bd n m o _ (q1.below ((Below.refl _ _).alloc (Nat.le_refl _) _))).mono ?_
  rintro e w2 ⟨rfl, q2, g2⟩
  have hne : A + 1 + 1 ≠ K := by have := hA3.out; omega
  have G2 : w.grownBy w2 (some K) := (g_alloc G _).trans g2
  have d0 : w2.cell? ⟨A + 1 + 1, 0, none⟩ = some (.int .i64 0) := (g_cell g2 0 (by simp; omega) (by simpa using hne)).trans ((((Below.refl _ w1).alloc (Nat.le_refl _) _).cell (p := ⟨A + 1 + 1, 0, none⟩) hz).trans c0)
  have d1 : w2.cell? ⟨A + 1 + 1, 1, none⟩ = some (.int .i64 0) := (g_cell g2 1 (by simp; omega) (by simpa using hne)).trans ((((Below.refl _ w1).alloc (Nat.le_refl _) _).cell (p := ⟨A + 1 + 1, 1, none⟩) hz).trans c1)
  have e0 : w2.frozen? ⟨A + 1 + 1, 0, none⟩ = false := (g_frozen g2 0 (by simp; omega) (by simpa using hne)).trans ((((Below.refl _ w1).alloc (Nat.le_refl _) _).frozen (p := ⟨A + 1 + 1, 0, none⟩) hz).trans f0)
  have e1 : w2.frozen? ⟨A + 1 + 1, 1, none⟩ = false := (g_frozen g2 1 (by simp; omega) (by simpa using hne)).trans ((((Below.refl _ w1).alloc (Nat.le_refl _) _).frozen (p := ⟨A + 1 + 1, 1, none⟩) hz).trans f1)
  clear c0 c1 f0 f1 g2 G q1
  go_wp2
  exact bodyPost_ret (v := .agg #[.int .i64 (kN o n), .int .i64 (kD o m)]) (by simp [results, Try.results46, go_sem, d0, d1]) rfl ⟨rfl, (q2.other hne.symm 0 _).other hne.symm 1 _, g_set (g_set G2 (.inl hA2) 0 _) (.inl hA2) 1 _⟩

end Go.Proofs.Ytkcdpjcfbpjkean
