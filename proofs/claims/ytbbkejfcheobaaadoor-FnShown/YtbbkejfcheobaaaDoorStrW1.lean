/- The model's decimal numeral is Go's. -/
import Derived.Test.YtbbkejfcheobaaaDoorRatioW1
import Derived.Deep.LoopGhost
import Derived.Laws.BytesArg
import Derived.Laws.Concat
import Derived.Lib.ItoaNum
namespace Go.Proofs.YtbbkejfcheobaaaDoor
open Go.RowKit

theorem dec_step (u : Nat) : Lib.decDigits u = (if u / 10 = 0 then [] else Lib.decDigits (u / 10)) ++ [UInt8.ofNat (48 + u % 10)] := by
  rw [Lib.decDigits]
  by_cases h : u < 10
  · rw [dif_pos h, if_pos (by omega), show u % 10 = u by omega]; rfl
  · rw [dif_neg h, if_neg (by omega)]
/-- what is left of n0 is n, what is told of it is l -/
def IntI (n0 n : Int) (l : List UInt8) : Prop := Lib.decDigits n0.natAbs = (if l ≠ [] ∧ n = 0 then [] else Lib.decDigits n.natAbs) ++ l
theorem IntI.step {n0 n : Int} {l : List UInt8} (h : IntI n0 n l) (hg : l = [] ∨ n ≠ 0) : IntI n0 (n.tdiv 10) (UInt8.ofNat (48 + n.natAbs % 10) :: l) := by
  unfold IntI at h ⊢
  have e1 : ¬ (l ≠ [] ∧ n = 0) := by rintro ⟨h1, h2⟩; rcases hg with h3 | h3 <;> contradiction
  rw [if_neg e1, dec_step n.natAbs] at h
  rw [h]
  have e2 : (n.tdiv 10).natAbs = n.natAbs / 10 := by rw [Int.natAbs_tdiv]; rfl
  have e3 : (n.tdiv 10 = 0) ↔ (n.natAbs / 10 = 0) := by omega
  rw [e2]
  by_cases hz : n.natAbs / 10 = 0
  · rw [if_pos hz, if_pos ⟨by simp, e3.2 hz⟩]; simp
  · rw [if_neg hz, if_neg (fun h => hz (e3.1 h.2))]; simp
theorem IntI.done {n0 : Int} {l : List UInt8} (h : IntI n0 0 l) (hl : l ≠ []) : Lib.itoa n0 = if n0 < 0 then 45 :: l else l := by
  unfold IntI at h
  rw [if_pos ⟨hl, rfl⟩, List.nil_append] at h
  unfold Lib.itoa
  split
  · rw [h]
  · rw [show n0.toNat = n0.natAbs by omega, h]
theorem digN {n : Int} (h : n.tmod 10 < 0) : (wrap64 (48 + wrap64 (-n.tmod 10)) % 256).toNat = 48 + n.natAbs % 10 := by
  have e := Int.natAbs_tmod n 10
  have e2 : n.natAbs % (10 : Int).natAbs = n.natAbs % 10 := rfl
  unfold wrap64
  omega
theorem digP {n : Int} (h : ¬ n.tmod 10 < 0) : (wrap64 (48 + n.tmod 10) % 256).toNat = 48 + n.natAbs % 10 := by
  have e := Int.natAbs_tmod n 10
  have e2 : n.natAbs % (10 : Int).natAbs = n.natAbs % 10 := rfl
  unfold wrap64
  omega
theorem conv_one (w : World) (x : Int) : Sem.run Tryd.prog (convert 22 9 (.slice (some ⟨w.heap.size, 0, none⟩) 1 1)) (w.alloc (.cells #[.int .u8 x] 5)) = .ok (.string ⟨[UInt8.ofNat x.toNat].toArray⟩) (w.alloc (.cells #[.int .u8 x] 5)) := by
  have h := run_convert_bytes_arg (P := Tryd.prog) (w.alloc (.cells #[.int .u8 x] 5)) 22 5 Tryd.underlying22 Tryd.underlying5 w.heap.size 0 1 1 [x] rfl (by
    intro i hi
    obtain rfl : i = 0 := by omega
    simp [go_sem]) 9 Tryd.underlying9
  rw [h]
  rfl
theorem cat1 (y : UInt8) (l : List UInt8) : (ByteArray.mk [y].toArray ++ ByteArray.mk l.toArray) = ByteArray.mk (y :: l).toArray := by rw [ByteArray.mk_append_mk]; rfl

set_option maxRecDepth 100000 in
set_option maxHeartbeats 1000000 in
theorem sInt_any (n0 : Int) (w : World) (h0 : -1000000000 ≤ n0) (h1 : n0 ≤ 1000000000) :
    Calls Tryd.prog 22 #[.int .i64 n0] w fun e w' => e = .returned (.string ⟨(Lib.itoa n0).toArray⟩) ∧ Below w.heap.size w w' := by
  have b0 : ∀ (u : World) (o : Obj), Below u.heap.size u (u.alloc o) := fun u o => (Below.refl _ _).alloc (Nat.le_refl _) o
  go_enter Tryd.func22, Tryd.ntmps22
  go_wp2
  go_loopg [0, 3] (n0.natAbs + 1) (fun g a b wr => ∃ (n : Int) (l : List UInt8), a = .int .i64 n ∧ b = .string ⟨l.toArray⟩ ∧ -1000000000 ≤ n ∧ n ≤ 1000000000 ∧ n.natAbs + (if l = [] then 1 else 0) ≤ g ∧ l.length + n.natAbs ≤ n0.natAbs + 1 ∧ Hid (IntI n0 n l) ∧ Hid (Below w.heap.size w wr))
  case atStart => exact ⟨n0, [], rfl, rfl, h0, h1, by simp, by simp, by unfold Hid IntI; simp, Below.refl _ _⟩
  case round =>
    obtain ⟨n, l, rfl, rfl, hn0, hn1, hg, hll, hI, hB⟩ := hrel
    have hcv := conv_one wr
    have hsz := hB.out.size
    by_cases hstop : l ≠ [] ∧ n = 0
    · obtain ⟨hl0, rfl⟩ := hstop
      obtain ⟨x, l, rfl⟩ : ∃ x t, l = x :: t := by cases l with | nil => exact absurd rfl hl0 | cons x t => exact ⟨x, t, rfl⟩
      have HD : Hid _ := hI.out.done hl0
      have hcl : (x :: l).length ≤ 1000000001 := by omega
      have hcl2 : ¬ 9223372036854775807 < 1 + (l.length + 1) := by simp at hcl; omega
      clear hI hl0 hg hll hcl
      by_cases hneg : n0 < 0
      · go_wp2
        rw [show (ByteArray.mk #[45] ++ ByteArray.mk (x :: l).toArray) = ByteArray.mk (45 :: x :: l).toArray from cat1 45 (x :: l)]
        go_ret
        rw [HD.out, if_pos (by omega)]
        exact ⟨rfl, hB.out⟩
      · go_wp2
        go_ret
        rw [HD.out, if_neg (by omega)]
        exact ⟨rfl, hB.out⟩
    · have hgo : l = [] ∨ n ≠ 0 := by
        by_cases e : l = []
        · exact .inl e
        · exact .inr (fun h => hstop ⟨e, h⟩)
      have HS : Hid _ := hI.out.step hgo
      have e2 : (n.tdiv 10).natAbs = n.natAbs / 10 := by rw [Int.natAbs_tdiv]; rfl
      have hcl2 : ¬ 9223372036854775807 < 1 + l.length := by omega
      have HB2 : Hid (∀ x : Int, Below w.heap.size w (wr.alloc (.cells #[.int .u8 x] 5))) := fun x => hB.out.alloc hsz _
      obtain ⟨q, hq⟩ : ∃ q, q = n.tdiv 10 := ⟨_, rfl⟩
      have wq : IntKind.i64.wrap q = q := by rw [IntKind.wrap_i64]; omega
      have hqr : n.tdiv 10 = q := hq.symm
      rw [← hq] at e2 HS
      cases gk with
      | zero => exfalso; rcases hgo with h | h <;> simp [h] at hg
      | succ g =>
        have hg2 : q.natAbs + 0 ≤ g := by
          by_cases e : l = []
          · rw [if_pos e] at hg; omega
          · rw [if_neg e] at hg
            have : n ≠ 0 := by rcases hgo with h | h; exact absurd h e; exact h
            omega
        have hll2 : l.length + 1 + q.natAbs ≤ n0.natAbs + 1 := by
          by_cases e : n = 0
          · subst e
            have : l = [] := by rcases hgo with h | h; exact h; exact absurd rfl h
            subst this
            simp; omega
          · omega
        have fin : ∀ x : Int, x.toNat = 48 + n.natAbs % 10 → ∃ (n' : Int) (l' : List UInt8), Value.int .i64 q = .int .i64 n' ∧ Value.string (ByteArray.mk [UInt8.ofNat x.toNat].toArray ++ ByteArray.mk l.toArray) = .string ⟨l'.toArray⟩ ∧ -1000000000 ≤ n' ∧ n' ≤ 1000000000 ∧ n'.natAbs + (if l' = [] then 1 else 0) ≤ g ∧ l'.length + n'.natAbs ≤ n0.natAbs + 1 ∧ Hid (IntI n0 n' l') ∧ Hid (Below w.heap.size w (wr.alloc (.cells #[.int .u8 x] 5))) := by
          intro x hx
          refine ⟨q, UInt8.ofNat x.toNat :: l, rfl, by rw [cat1], by omega, by omega, by simpa using hg2, by simpa using hll2, ?_, HB2.out x⟩
          rw [hx]
          exact HS
        have FIN : Hid _ := fin
        have hn10 : n.natAbs ≤ 1000000000 := by omega
        clear fin hq HS hI hg hll hstop hg2 hll2 e2 HB2 hB
        by_cases hd : n.tmod 10 < 0
        · have HX : Hid _ := digN hd
          cases l with
          | nil =>
            go_wp2
            go_roundg g
            case rel => exact FIN.out _ HX.out
            case measure => omega
          | cons x l =>
            have hnz : n ≠ 0 := by rcases hgo with h | h; exact absurd h (by simp); exact h
            simp only [List.length_cons] at hcl2
            go_wp2
            go_roundg g
            case rel => exact FIN.out _ HX.out
            case measure => omega
        · have HX : Hid _ := digP hd
          cases l with
          | nil =>
            go_wp2
            go_roundg g
            case rel => exact FIN.out _ HX.out
            case measure => omega
          | cons x l =>
            have hnz : n ≠ 0 := by rcases hgo with h | h; exact absurd h (by simp); exact h
            simp only [List.length_cons] at hcl2
            go_wp2
            go_roundg g
            case rel => exact FIN.out _ HX.out
            case measure => omega
end Go.Proofs.YtbbkejfcheobaaaDoor
