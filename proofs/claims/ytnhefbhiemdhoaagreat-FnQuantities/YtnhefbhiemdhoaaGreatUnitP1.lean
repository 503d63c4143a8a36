/- A unit text that is being read: its block; one byte passed. -/
import Derived.Test.YtnhefbhiemdhoaaGreatUnitW4
import Derived.Test.YtnhefbhiemdhoaaGreatUnitB
import Derived.Test.YtnhefbhiemdhoaaGreatCalcW
import Derived.Outline
import Derived.Deep.DeepCutAuto
namespace Go.Proofs.YtnhefbhiemdhoaaGreat
open Go.RowKit Go.MapKept Go.Proofs.YtnhefbhiemdhoaaGreat.RM

/-- the cells of a unit text of which a part has been read -/
def tArr (M : Nat) (s : ByteArray) (u : UV) (p : Int) (dv : Bool) (P : UV) : Array Value :=
  #[.map (some M), .string s, .int .i64 u.n, .int .i64 u.d, .int .i64 u.x0, .int .i64 u.x1, .int .i64 u.x2, .int .i64 u.x3, .int .i64 u.x4, .int .i64 p, .bool dv,
    .int .i64 P.n, .int .i64 P.d, .int .i64 P.x0, .int .i64 P.x1, .int .i64 P.x2, .int .i64 P.x3, .int .i64 P.x4]
def IsT (W : World) (B M : Nat) (s : ByteArray) (u : UV) (p : Int) (dv : Bool) (P : UV) : Prop := IsB W B (tArr M s u p dv P) 89 ∧ IsM W M uEnts 15
theorem IsT.ne {W : World} {B M : Nat} {s : ByteArray} {u : UV} {p : Int} {dv : Bool} {P : UV} (h : IsT W B M s u p dv P) : M ≠ B := by
  intro e
  have h1 : W.heap[B]? = _ := h.1
  have h2 : W.heap[M]? = _ := h.2
  rw [e, h1] at h2
  cases h2
theorem IsT.below {W W' : World} {B M : Nat} {s : ByteArray} {u : UV} {p : Int} {dv : Bool} {P : UV} (h : IsT W B M s u p dv P) (hb : Below W.heap.size W W') : IsT W' B M s u p dv P := ⟨h.1.below hb, h.2.below hb⟩
theorem IsM.otherB {W : World} {M b : Nat} {es : List MapEntry} {c : Nat} (h : IsM W M es c) (hne : M ≠ b) (o : Nat) (v : Value) : IsM (W.setCell ⟨b, o, none⟩ v) M es c := (Below.heap_setCell W ⟨b, o, none⟩ v M hne).trans h
theorem IsT.rest {W : World} {B M : Nat} {s : ByteArray} {u : UV} {p : Int} {dv : Bool} {P : UV} (h : IsT W B M s u p dv P) (s' : ByteArray) : IsT (W.setCell ⟨B, 1, none⟩ (.string s')) B M s' u p dv P :=
  ⟨h.1.set 1 _, h.2.otherB h.ne _ _⟩
theorem IsT.power {W : World} {B M : Nat} {s : ByteArray} {u : UV} {p : Int} {dv : Bool} {P : UV} (h : IsT W B M s u p dv P) (p' : Int) : IsT (W.setCell ⟨B, 9, none⟩ (.int .i64 p')) B M s u p' dv P :=
  ⟨h.1.set 9 _, h.2.otherB h.ne _ _⟩
theorem IsT.divides {W : World} {B M : Nat} {s : ByteArray} {u : UV} {p : Int} {dv : Bool} {P : UV} (h : IsT W B M s u p dv P) (d' : Bool) : IsT (W.setCell ⟨B, 10, none⟩ (.bool d')) B M s u p d' P :=
  ⟨h.1.set 10 _, h.2.otherB h.ne _ _⟩
theorem set_grown (W : World) (B o : Nat) (v : Value) : W.grownBy (W.setCell ⟨B, o, none⟩ v) (some B) := g_set (g_refl W _) (.inr rfl) o v
theorem byte_0 {s : ByteArray} {b : UInt8} {r : List UInt8} (hl : s.data.toList = b :: r) : ∀ h : 0 < s.size, s[0] = b := fun h => by
  have h0 : s.data.toList[0]? = some b := by rw [hl]; rfl
  have := (Array.getElem?_toList (xs := s.data) (i := 0)).symm.trans h0
  rw [Array.getElem?_eq_getElem (by exact h)] at this
  exact Option.some.inj this
theorem emp_cons {s : ByteArray} {b : UInt8} {r : List UInt8} (hl : s.data.toList = b :: r) : s.toList.isEmpty = false ∧ ¬ s = ByteArray.empty ∧ (1 : Int) ≤ s.size := by
  have hz : s.size = s.data.toList.length := rfl
  refine ⟨by rw [ByteArray.toList_eq]; show s.data.toList.isEmpty = false; rw [hl]; rfl, ?_, by rw [hz, hl]; simp; omega⟩
  intro e
  rw [e] at hl
  cases hl
theorem emp_nil {s : ByteArray} (hl : s.data.toList = []) : s.toList.isEmpty = true := by rw [ByteArray.toList_eq]; show s.data.toList.isEmpty = true; rw [hl]; rfl

/-- what is left where the first byte is passed, and whether it was -/
def passL (c : UInt8) (l : List UInt8) : List UInt8 × Bool := match l with | [] => ([], false) | b :: r => if b = c then (r, true) else (b :: r, false)

set_option maxRecDepth 100000 in
set_option maxHeartbeats 1000000 in
theorem passes_any (B M : Nat) (s : ByteArray) (u : UV) (p : Int) (dv : Bool) (P : UV) (c : UInt8) (w : World) (h : IsT w B M s u p dv P) :
    Calls Tryz.prog 55 #[.pointer (some ⟨B, 0, none⟩), .int .u8 (c.toNat : Int)] w fun e w' => ∃ s', e = .returned (.bool (passL c s.data.toList).2) ∧ s'.data.toList = (passL c s.data.toList).1 ∧ IsT w' B M s' u p dv P ∧ w.grownBy w' (some B) := by
  have c1 := h.1.cell (v := .string s) 1 rfl
  have f1 := h.1.frozen 1
  cases hl : s.data.toList with
  | nil =>
    have he := emp_nil hl
    go_enter Tryz.func55, Tryz.ntmps55
    go_wp2
    go_ret
    exact ⟨s, rfl, hl, h, g_refl _ _⟩
  | cons b r =>
    obtain ⟨he, hs0, hs1⟩ := emp_cons hl
    have hbb := byte_0 hl
    have ht := tail_b s b r hl
    by_cases hbc : b = c
    · subst hbc
      have hp : passL b (b :: r) = (r, true) := by simp [passL]
      rw [hp]
      have HT := hidU h
      clear hl h hp
      go_enter Tryz.func55, Tryz.ntmps55
      go_wp2
      go_ret
      exact ⟨_, rfl, ht, HT.out.rest _, set_grown _ _ _ _⟩
    · have hp : passL c (b :: r) = (b :: r, false) := by simp [passL, hbc]
      rw [hp]
      have hne : ¬ (b.toNat : Int) = (c.toNat : Int) := fun e => hbc (UInt8.toNat.inj (by omega))
      have hn2 : ((b.toNat : Int) != (c.toNat : Int)) = true := by simpa using hne
      have HT := hidU h
      have HL := hidU hl
      clear hl h hp hbc hne ht
      go_enter Tryz.func55, Tryz.ntmps55
      go_wp2
      go_ret
      exact ⟨s, rfl, HL.out, HT.out, g_refl _ _⟩
end Go.Proofs.YtnhefbhiemdhoaaGreat
