/- The walks of the model's reckoning that remembers whether something was too great: one block of one Bool. -/
import Derived.Test.YthfdpdnphnjebaaRatioW4
import Derived.Test.YthfdpdnphnjebaaTermsW
import Derived.Test.YthfdpdnphnjebaaFromMath
namespace Go.Proofs.Ythfdpdnphnjebaa
open Go.RowKit Go.Proofs.Ythfdpdnphnjebaa.RM

theorem grown_new {w w' : World} {row : Option Nat} (h : Below w.heap.size w w') : w.grownBy w' row := (grown_of_below h).but row
theorem IsR.grown {W W' : World} {R K : Nat} {n d : Int} (h : IsR W R n d) (hg : W.grownBy W' (some K)) (hne : R ≠ K) : IsR W' R n d := (hg.block R h.lt (by simpa using hne)).trans h
theorem below_grownK {B K : Nat} {w w' : World} (hg : w.grownBy w' (some K)) (hB : B ≤ K) (hs : B ≤ w.heap.size) : Below B w w' :=
  (Below.refl B w).grown hg hs (fun j ej => by cases ej; exact hB)

theorem g_refl (w : World) (row : Option Nat) : w.grownBy w row := grown_new (Below.refl _ _)
theorem g_below {w w' w'' : World} {row : Option Nat} (h : w.grownBy w' row) (hb : Below w'.heap.size w' w'') : w.grownBy w'' row := h.trans (grown_new hb)
theorem g_alloc {w w' : World} {row : Option Nat} (h : w.grownBy w' row) (o : Obj) : w.grownBy (w'.alloc o) row := g_below h ((Below.refl _ _).alloc (Nat.le_refl _) _)
theorem g_set {w w' : World} {row : Option Nat} (h : w.grownBy w' row) {b : Nat} (hb : w.heap.size ≤ b ∨ row = some b) (o : Nat) (v : Value) : w.grownBy (w'.setCell ⟨b, o, none⟩ v) row := by
  refine ⟨h.os, h.tape, h.output, by simpa using h.size, fun k hk hne => (Below.heap_setCell w' ⟨b, o, none⟩ v k ?_).trans (h.block k hk hne)⟩
  intro e
  have e' : k = b := e
  rcases hb with hb | hb
  · omega
  · exact hne (by rw [e', hb])
theorem g_cell {w w' : World} {row : Option Nat} (hg : w.grownBy w' row) {b : Nat} (o : Nat) (hlt : b < w.heap.size) (hne : some b ≠ row) : w'.cell? ⟨b, o, none⟩ = w.cell? ⟨b, o, none⟩ := World.cell?_of_block (w := w) (a := ⟨b, o, none⟩) (hg.block b hlt hne)
theorem g_frozen {w w' : World} {row : Option Nat} (hg : w.grownBy w' row) {b : Nat} (o : Nat) (hlt : b < w.heap.size) (hne : some b ≠ row) : w'.frozen? ⟨b, o, none⟩ = w.frozen? ⟨b, o, none⟩ := World.frozen?_of_block (w := w) (a := ⟨b, o, none⟩) (hg.block b hlt hne)
theorem g_drewN {w w' : World} {row : Option Nat} (h : w.grownBy w' row) (n : Nat) : w.grownBy (w'.drewN n) row := g_below h (below_drewN (Below.refl _ _) _)
theorem IsR.other {W : World} {R b : Nat} {n d : Int} (h : IsR W R n d) (hne : R ≠ b) (o : Nat) (v : Value) : IsR (W.setCell ⟨b, o, none⟩ v) R n d := (Below.heap_setCell W ⟨b, o, none⟩ v R hne).trans h

theorem zero_any (w : World) :
    Calls Try.prog 25 #[] w fun e w' => e = .returned (.agg #[.int .i64 0, .int .i64 1]) ∧ Below w.heap.size w w' := by
  go_enter Try.func25, Try.ntmps25
  go_wp2
  exact bodyPost_ret (v := .agg #[.int .i64 0, .int .i64 1]) (by simp [results, Try.results25, go_sem]) rfl ⟨rfl, (Below.refl _ _).alloc (Nat.le_refl _) _⟩

end Go.Proofs.Ythfdpdnphnjebaa
