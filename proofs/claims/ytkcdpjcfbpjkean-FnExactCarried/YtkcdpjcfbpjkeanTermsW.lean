/- The walks of Terms, the program's (over its iterator) and the model's: both answer the list of the terms, in new memory. -/
import Derived.Test.YtkcdpjcfbpjkeanFloorW
import Derived.Test.YtkcdpjcfbpjkeanNearMath
import Derived.Test.YtkcdpjcfbpjkeanIterLaw
import Derived.RangeFuncBound
import Derived.RangeFuncCalls
import Derived.RangeFuncLeaves
import Derived.Shelf.Abstract
import Derived.Shelf.RegionOpen
import Derived.OwnWalkIn
import Derived.TacticsInMore
import Derived.LoopNIn
import Derived.LoopIn
import Derived.Maps.AppendAt
namespace Go.Proofs.Ytkcdpjcfbpjkean
open Go.RowKit Go.Shelf Go.Proofs.Ytkcdpjcfbpjkean.RM
attribute [local go_sem] Oper.semAt_some

/-- block R is a fraction's own: two cells of its type -/
def IsR (W : World) (R : Nat) (n d : Int) : Prop := W.heap[R]? = some (.cells #[.int .i64 n, .int .i64 d] 32 (0, 0))
theorem IsR.new (W : World) (n d : Int) : IsR (W.alloc (.cells #[.int .i64 n, .int .i64 d] 32)) W.heap.size n d := World.alloc_heap_new W _
theorem IsR.lt {W : World} {R : Nat} {n d : Int} (h : IsR W R n d) : R < W.heap.size := (Array.getElem?_eq_some_iff.1 h).1
theorem IsR.c0 {W : World} {R : Nat} {n d : Int} (h : IsR W R n d) : W.cell? ⟨R, 0, none⟩ = some (.int .i64 n) := by simp [World.cell?, show W.heap[R]? = _ from h]
theorem IsR.c1 {W : World} {R : Nat} {n d : Int} (h : IsR W R n d) : W.cell? ⟨R, 1, none⟩ = some (.int .i64 d) := by simp [World.cell?, show W.heap[R]? = _ from h]
theorem IsR.f0 {W : World} {R : Nat} {n d : Int} (h : IsR W R n d) : W.frozen? ⟨R, 0, none⟩ = false := by simp [World.frozen?, show W.heap[R]? = _ from h]
theorem IsR.f1 {W : World} {R : Nat} {n d : Int} (h : IsR W R n d) : W.frozen? ⟨R, 1, none⟩ = false := by simp [World.frozen?, show W.heap[R]? = _ from h]
theorem IsR.below {W W' : World} {R : Nat} {n d : Int} (h : IsR W R n d) (hb : Below W.heap.size W W') : IsR W' R n d := (hb.block R h.lt).trans h
theorem grown_of_below {W W' : World} (h : Below W.heap.size W W') : W.grownBy W' none := ⟨h.os, h.tape, h.output, h.size, fun k hk _ => h.block k hk⟩

theorem IsR.set0 {W : World} {R : Nat} {n d : Int} (h : IsR W R n d) (x : Int) : IsR (W.setCell ⟨R, 0, none⟩ (.int .i64 x)) R x d := by
  obtain ⟨hlt, hk⟩ := Array.getElem?_eq_some_iff.1 h
  show (W.heap.modify R _)[R]? = _
  rw [Array.getElem?_eq_getElem (by rw [Array.size_modify]; exact hlt), Array.getElem_modify_self, hk]
  rfl
theorem IsR.set1 {W : World} {R : Nat} {n d : Int} (h : IsR W R n d) (x : Int) : IsR (W.setCell ⟨R, 1, none⟩ (.int .i64 x)) R n x := by
  obtain ⟨hlt, hk⟩ := Array.getElem?_eq_some_iff.1 h
  show (W.heap.modify R _)[R]? = _
  rw [Array.getElem?_eq_getElem (by rw [Array.size_modify]; exact hlt), Array.getElem_modify_self, hk]
  rfl
theorem grown_set (W : World) (b o : Nat) (v : Value) : W.grownBy (W.setCell ⟨b, o, none⟩ v) (some b) :=
  ⟨rfl, rfl, rfl, (KeepsWalks.setCell W _ v).size, fun k _ hk => Below.heap_setCell _ _ _ k (fun e => hk (by rw [e]))⟩
/-- what bears a turn of a fraction's own block bears a store of both its parts -/
theorem AbT.two {β : Type} {B : Nat} {J : β → World → Prop} (h : AbT 32 B J) {s : β} {W : World} {R : Nat} {n d : Int} (hs : J s W) (hr : IsR W R n d) (hB : B ≤ R) (x y : Int) :
    J s ((W.setCell ⟨R, 0, none⟩ (.int .i64 x)).setCell ⟨R, 1, none⟩ (.int .i64 y)) :=
  h s _ _ (some R) (h s W _ (some R) hs (grown_set W R 0 _) (fun r e => by cases e; exact ⟨hB, _, _, hr⟩)) (grown_set _ R 1 _) (fun r e => by cases e; exact ⟨hB, _, _, hr.set0 x⟩)
theorem AbT.new {β : Type} {B : Nat} {J : β → World → Prop} (h : AbT 32 B J) {s : β} {W : World} (hs : J s W) (o : Obj) : J s (W.alloc o) := h.grown hs (World.grownBy_alloc W o none)
/-- the second number of the fraction that a pointer leads to: for the loop's measure -/
def denAt (p : Value) (w : World) : Nat :=
  match p with
  | .pointer (some a) => (match w.cell? ⟨a.block, 1, none⟩ with | some v => (intOf v).toNat | none => 0)
  | _ => 0
theorem denAt_eq {w : World} {R : Nat} {n d : Int} (h : IsR w R n d) : denAt (.pointer (some ⟨R, 0, none⟩)) w = d.toNat := by
  unfold denAt; simp only [h.c1]; rfl

theorem infoI : (Try.prog.info? 2).map (fun i => (i.zero, i.size, i.bytes)) = some (some (.int .i64 0), 1, 8) := by kernel_rfl

theorem below_abT {β : Type} (T : Nat) (w : World) (D : Nat) (h : w.heap.size ≤ D) : AbT T D (fun (_ : β) W => Below w.heap.size w W) :=
  fun _ _ _ _ hs hg hr => hs.grown hg hs.size (fun k e => by have := (hr k e).1; omega)
theorem holdsRow_abT {β : Type} (n₀ B t e size : Nat) (k : β → Nat) (f : β → List Value) (G : β → Value → Prop) (T D : Nat) (hBD : B < D) (hTe : e ≠ T) :
    AbT T D (fun s W => ∃ v, Boxed W B t v ∧ W.ownsRow n₀ e size v (k s) (f s) ∧ G s v) := by
  rintro s X Y row ⟨v, hv, hr, hG⟩ hg hrow
  refine ⟨v, hv.kept hg (fun e' => by have := (hrow B e'.symm).1; omega), hr.kept hg ?_, hG⟩
  rcases hr.2 with ⟨rfl, _⟩ | ⟨g, cap, cur, rfl, _, hgb, _⟩
  · exact .inl rfl
  · refine .inr fun e' => ?_
    obtain ⟨_, cs, fz, hc⟩ := hrow g (by simpa [Value.ownBlock] using e'.symm)
    rw [hgb] at hc; injection hc with hc; injection hc with _ hc _
    exact hTe hc
/-- an append to a row of another type, and the store of the slice, leave the blocks of type T alone -/
theorem KpT.appended {T D n₀ B e size k : Nat} {W w1 : World} {v v' : Value} {xs : List Value} {tmp : Obj} (hrow : W.ownsRow n₀ e size v k xs) (hTe : e ≠ T) (hgrow : (W.alloc tmp).grownBy w1 v.ownBlock) (hB : B < D) :
    KpT T D W (w1.setCell ⟨B, 0, none⟩ v') := by
  refine ((KpT.grown (World.grownBy_alloc W tmp none) (fun r e => by cases e)).trans (KpT.grown hgrow (fun r er => .inr fun cs fz hc => ?_))).trans (KpT.grown (grown_set w1 B 0 v') (fun r e => by cases e; exact .inl hB))
  rcases (hrow.alloc tmp).2 with ⟨rfl, _⟩ | ⟨g, cap, cur, rfl, _, hgb, _⟩
  · simp [Value.ownBlock] at er
  · obtain rfl : g = r := by simpa [Value.ownBlock] using er
    rw [hgb] at hc; injection hc with hc; injection hc with _ hc _
    exact hTe hc

theorem own_below {w w' : World} {base : Nat} {e : TypeId} {size : Nat} {v : Value} {n : Nat} {xs : List Value} (h : w.ownsRow base e size v n xs) (hb : Below w.heap.size w w') : w'.ownsRow base e size v n xs :=
  h.kept (grown_of_below hb) (by by_cases k : v.ownBlock = none; exact .inl k; exact .inr k)
theorem own_le {w : World} {base base' : Nat} {e : TypeId} {size : Nat} {v : Value} {n : Nat} {xs : List Value} (h : w.ownsRow base e size v n xs) (hb : base' ≤ base) : w.ownsRow base' e size v n xs :=
  ⟨h.1, h.2.imp id fun ⟨g, cap, cur, hv, h1, r⟩ => ⟨g, cap, cur, hv, Nat.le_trans hb h1, r⟩⟩
theorem IsR.appended {W w1 : World} {R n₀ e size k : Nat} {n d : Int} {v : Value} {xs : List Value} {tmp : Obj} (h : IsR W R n d) (hrow : W.ownsRow n₀ e size v k xs) (hTe : e ≠ 32) (hgrow : (W.alloc tmp).grownBy w1 v.ownBlock) : IsR w1 R n d := by
  refine (KpT.grown (T := 32) (B := 0) hgrow (fun r er => .inr fun cs fz hc => ?_)) R _ _ (Nat.zero_le _) (KpT.grown (T := 32) (B := 0) (World.grownBy_alloc W tmp none) (fun r e => by cases e) R _ _ (Nat.zero_le _) h)
  rcases (hrow.alloc tmp).2 with ⟨rfl, _⟩ | ⟨g, cap, cur, rfl, _, hgb, _⟩
  · simp [Value.ownBlock] at er
  · obtain rfl : g = r := by simpa [Value.ownBlock] using er
    rw [hgb] at hc; injection hc with hc; injection hc with _ hc _
    exact hTe hc
theorem below_appended {W w1 : World} {n₀ e size k : Nat} {v : Value} {xs : List Value} {tmp : Obj} (hrow : W.ownsRow n₀ e size v k xs) (hn : n₀ ≤ W.heap.size) (hgrow : (W.alloc tmp).grownBy w1 v.ownBlock) : Below n₀ W w1 :=
  ((Below.refl n₀ W).alloc hn tmp).grown hgrow (by simp; omega) (fun j ej => (hrow.lt j ej).1)
theorem own_set {W : World} {R n₀ e size k : Nat} {n d : Int} {v : Value} {xs : List Value} (hrow : W.ownsRow n₀ e size v k xs) (h : IsR W R n d) (hTe : e ≠ 32) (o : Nat) (u : Value) : (W.setCell ⟨R, o, none⟩ u).ownsRow n₀ e size v k xs := by
  refine hrow.kept (grown_set W R o u) ?_
  rcases hrow.2 with ⟨rfl, _⟩ | ⟨g, cap, cur, rfl, _, hgb, _⟩
  · exact .inl rfl
  · refine .inr fun er => ?_
    obtain rfl : g = R := by simpa [Value.ownBlock] using er
    have h' : W.heap[g]? = _ := h
    rw [hgb] at h'; injection h' with hc; injection hc with _ hc _
    exact hTe hc

end Go.Proofs.Ytkcdpjcfbpjkean
