/- So many times a word is multiplied. -/
import Derived.Test.YtnhefbhiemdhoaaGreatUnitP5
namespace Go.Proofs.YtnhefbhiemdhoaaGreat
open Go.RowKit Go.MapKept Go.Proofs.YtnhefbhiemdhoaaGreat.RM

theorem IsT.p0 {W : World} {B M : Nat} {s : ByteArray} {u : UV} {p : Int} {dv : Bool} {P : UV} (h : IsT W B M s u p dv P) (x : Int) : IsT (W.setCell ⟨B, 11, none⟩ (.int .i64 x)) B M s u p dv { P with n := x } := ⟨h.1.set 11 _, h.2.otherB h.ne _ _⟩
theorem IsT.p1 {W : World} {B M : Nat} {s : ByteArray} {u : UV} {p : Int} {dv : Bool} {P : UV} (h : IsT W B M s u p dv P) (x : Int) : IsT (W.setCell ⟨B, 12, none⟩ (.int .i64 x)) B M s u p dv { P with d := x } := ⟨h.1.set 12 _, h.2.otherB h.ne _ _⟩
theorem IsT.p2 {W : World} {B M : Nat} {s : ByteArray} {u : UV} {p : Int} {dv : Bool} {P : UV} (h : IsT W B M s u p dv P) (x : Int) : IsT (W.setCell ⟨B, 13, none⟩ (.int .i64 x)) B M s u p dv { P with x0 := x } := ⟨h.1.set 13 _, h.2.otherB h.ne _ _⟩
theorem IsT.p3 {W : World} {B M : Nat} {s : ByteArray} {u : UV} {p : Int} {dv : Bool} {P : UV} (h : IsT W B M s u p dv P) (x : Int) : IsT (W.setCell ⟨B, 14, none⟩ (.int .i64 x)) B M s u p dv { P with x1 := x } := ⟨h.1.set 14 _, h.2.otherB h.ne _ _⟩
theorem IsT.p4 {W : World} {B M : Nat} {s : ByteArray} {u : UV} {p : Int} {dv : Bool} {P : UV} (h : IsT W B M s u p dv P) (x : Int) : IsT (W.setCell ⟨B, 15, none⟩ (.int .i64 x)) B M s u p dv { P with x2 := x } := ⟨h.1.set 15 _, h.2.otherB h.ne _ _⟩
theorem IsT.p5 {W : World} {B M : Nat} {s : ByteArray} {u : UV} {p : Int} {dv : Bool} {P : UV} (h : IsT W B M s u p dv P) (x : Int) : IsT (W.setCell ⟨B, 16, none⟩ (.int .i64 x)) B M s u p dv { P with x3 := x } := ⟨h.1.set 16 _, h.2.otherB h.ne _ _⟩
theorem IsT.p6 {W : World} {B M : Nat} {s : ByteArray} {u : UV} {p : Int} {dv : Bool} {P : UV} (h : IsT W B M s u p dv P) (x : Int) : IsT (W.setCell ⟨B, 17, none⟩ (.int .i64 x)) B M s u p dv { P with x4 := x } := ⟨h.1.set 17 _, h.2.otherB h.ne _ _⟩
theorem IsT.prod {W : World} {B M : Nat} {s : ByteArray} {u : UV} {p : Int} {dv : Bool} {P : UV} (h : IsT W B M s u p dv P) (v : UV) : IsT (((((((W.setCell ⟨B, 11, none⟩ (.int .i64 v.n)).setCell ⟨B, 12, none⟩ (.int .i64 v.d)).setCell ⟨B, 13, none⟩ (.int .i64 v.x0)).setCell ⟨B, 14, none⟩ (.int .i64 v.x1)).setCell ⟨B, 15, none⟩ (.int .i64 v.x2)).setCell ⟨B, 16, none⟩ (.int .i64 v.x3)).setCell ⟨B, 17, none⟩ (.int .i64 v.x4)) B M s u p dv v ∧ W.grownBy (((((((W.setCell ⟨B, 11, none⟩ (.int .i64 v.n)).setCell ⟨B, 12, none⟩ (.int .i64 v.d)).setCell ⟨B, 13, none⟩ (.int .i64 v.x0)).setCell ⟨B, 14, none⟩ (.int .i64 v.x1)).setCell ⟨B, 15, none⟩ (.int .i64 v.x2)).setCell ⟨B, 16, none⟩ (.int .i64 v.x3)).setCell ⟨B, 17, none⟩ (.int .i64 v.x4)) (some B) :=
  ⟨(IsT.p6 (IsT.p5 (IsT.p4 (IsT.p3 (IsT.p2 (IsT.p1 (IsT.p0 h v.n) v.d) v.x0) v.x1) v.x2) v.x3) v.x4), (g_set ((g_set ((g_set ((g_set ((g_set ((g_set ((g_set (g_refl W _) (.inr rfl) _ _)) (.inr rfl) _ _)) (.inr rfl) _ _)) (.inr rfl) _ _)) (.inr rfl) _ _)) (.inr rfl) _ _)) (.inr rfl) _ _)⟩
theorem IsT.other {W : World} {B M b : Nat} {s : ByteArray} {u : UV} {p : Int} {dv : Bool} {P : UV} (h : IsT W B M s u p dv P) (hB : B ≠ b) (hM : M ≠ b) (o : Nat) (x : Value) : IsT (W.setCell ⟨b, o, none⟩ x) B M s u p dv P := ⟨h.1.other hB o x, h.2.otherB hM o x⟩
theorem IsB.seven {W : World} {B : Nat} (v : UV) (h : IsB W B #[.int .i64 0, .int .i64 0, .int .i64 0, .int .i64 0, .int .i64 0, .int .i64 0, .int .i64 0] 55) :
    IsB (((((((W.setCell ⟨B, 0, none⟩ (.int .i64 v.n)).setCell ⟨B, 1, none⟩ (.int .i64 v.d)).setCell ⟨B, 2, none⟩ (.int .i64 v.x0)).setCell ⟨B, 3, none⟩ (.int .i64 v.x1)).setCell ⟨B, 4, none⟩ (.int .i64 v.x2)).setCell ⟨B, 5, none⟩ (.int .i64 v.x3)).setCell ⟨B, 6, none⟩ (.int .i64 v.x4)) B #[.int .i64 v.n, .int .i64 v.d, .int .i64 v.x0, .int .i64 v.x1, .int .i64 v.x2, .int .i64 v.x3, .int .i64 v.x4] 55 := (((((((h.set 0 (.int .i64 v.n)).set 1 (.int .i64 v.d)).set 2 (.int .i64 v.x0)).set 3 (.int .i64 v.x1)).set 4 (.int .i64 v.x2)).set 5 (.int .i64 v.x3)).set 6 (.int .i64 v.x4))

/-- so many times, as far as it goes -/
def mulN (v : UV) : Nat → UV → Option UV
  | 0, P => some P
  | k + 1, P => if (mulV P v).2 = true then mulN v k (mulV P v).1 else none
theorem mulN_succ (v : UV) (k : Nat) (P : UV) : mulN v (k + 1) P = if (mulV P v).2 = true then mulN v k (mulV P v).1 else none := rfl
theorem cl_in {x : Int} (h : (x == cl x) = true) : -9 ≤ x ∧ x ≤ 9 := by
  rw [beq_iff_eq] at h
  unfold cl at h
  split at h <;> split at h <;> omega
theorem okD_mul {P v : UV} (h : (mulV P v).2 = true) : okD (mulV P v).1 := by
  unfold mulV at h ⊢
  simp only [Bool.and_eq_true, lim5] at h
  obtain ⟨-, h0, h1, h2, h3, h4⟩ := h
  exact ⟨cl_in h0, cl_in h1, cl_in h2, cl_in h3, cl_in h4⟩
theorem okD_inv {u : UV} (h : okD u) : okD (invV u) := by
  obtain ⟨h0, h1, h2, h3, h4⟩ := h
  refine ⟨?_, ?_, ?_, ?_, ?_⟩ <;> (simp only [invV]; omega)
/-- a word with its power, behind the / or not -/
def mulP (u : UV) (p : Int) (dv : Bool) (P : UV) : Option UV := mulN (if dv = true then (if p < 0 then u else invV u) else (if p < 0 then invV u else u)) p.natAbs P
end Go.Proofs.YtnhefbhiemdhoaaGreat
