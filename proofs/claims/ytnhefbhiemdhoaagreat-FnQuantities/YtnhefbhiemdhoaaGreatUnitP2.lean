/- A power is read. -/
import Derived.Test.YtnhefbhiemdhoaaGreatUnitP1
namespace Go.Proofs.YtnhefbhiemdhoaaGreat
open Go.RowKit Go.MapKept Go.Proofs.YtnhefbhiemdhoaaGreat.RM

/-- the power that stands at the beginning, and what is behind it -/
def powA (n : Bool) (l : List UInt8) : Option (Int × List UInt8) :=
  match l with
  | [] => none
  | b :: r => if b.toNat < 49 ∨ 57 < b.toNat then none else some ((if n = true then -1 else 1) * ((b.toNat : Int) - 48), r)
def powL (l : List UInt8) : Option (Int × List UInt8) := powA (passL 45 l).2 (passL 45 l).1

set_option maxRecDepth 100000 in
set_option maxHeartbeats 1000000 in
theorem readPower_any (B M : Nat) (s : ByteArray) (u : UV) (p : Int) (dv : Bool) (P : UV) (w : World) (h : IsT w B M s u p dv P) :
    Calls Tryz.prog 56 #[.pointer (some ⟨B, 0, none⟩)] w fun e w' => ∃ s' p', e = .returned (.bool (powL s.data.toList).isSome) ∧ IsT w' B M s' u p' dv P ∧ w.grownBy w' (some B) ∧ ∀ q, powL s.data.toList = some q → p' = q.1 ∧ s'.data.toList = q.2 := by
  have HP : Hid (Calls Tryz.prog 55 #[.pointer (some ⟨B, 0, none⟩), .int .u8 45] w fun e w' => ∃ s', e = .returned (.bool (passL 45 s.data.toList).2) ∧ s'.data.toList = (passL 45 s.data.toList).1 ∧ IsT w' B M s' u p dv P ∧ w.grownBy w' (some B)) := passes_any B M s u p dv P 45 w h
  obtain ⟨o, ho⟩ : ∃ o, o = powL s.data.toList := ⟨_, rfl⟩
  obtain ⟨l1, hl1⟩ : ∃ l, l = (passL 45 s.data.toList).1 := ⟨_, rfl⟩
  obtain ⟨n1, hn1⟩ : ∃ l, l = (passL 45 s.data.toList).2 := ⟨_, rfl⟩
  have hO : o = powA n1 l1 := by rw [ho, hl1, hn1]; rfl
  rw [← ho]
  rw [← hl1, ← hn1] at HP
  clear ho hl1 hn1 h
  have HO := hidU hO
  clear hO
  cases n1 with
  | true =>
    go_enter Tryz.func56, Tryz.ntmps56
    go_wp2_with fail
    refine HP.out.mono ?_
    rintro e w1 ⟨s1, rfl, hs1, hT, hg⟩
    have c1 := hT.1.cell (v := .string s1) 1 rfl
    have c9 := hT.1.cell (v := .int .i64 p) 9 rfl
    have f1 := hT.1.frozen 1
    have f9 := hT.1.frozen 9
    have HT := hidU hT
    have HG := hidU hg
    clear hT hg HP
    cases l1 with
    | nil =>
      obtain rfl : o = none := HO.out
      have he := emp_nil hs1
      clear hs1
      go_wp2
      go_ret
      exact ⟨s1, p, rfl, HT.out, HG.out, fun q hq => by cases hq⟩
    | cons b r =>
      obtain ⟨he, hs0, hz1⟩ := emp_cons hs1
      have hbb := byte_0 hs1
      have ht := hidU (tail_b s1 b r hs1)
      clear hs1
      by_cases hb1 : b.toNat < 49
      · obtain rfl : o = none := by rw [HO.out]; simp [powA, hb1]
        have hb2 : (b.toNat : Int) < 49 := by omega
        clear hb1
        go_wp2
        go_ret
        exact ⟨s1, p, rfl, HT.out, HG.out, fun q hq => by cases hq⟩
      · by_cases hb3 : 57 < b.toNat
        · obtain rfl : o = none := by rw [HO.out]; simp [powA, hb3]
          have hb2 : ¬ (b.toNat : Int) < 49 := by omega
          have hb4 : (57 : Int) < b.toNat := by omega
          clear hb1 hb3
          go_wp2
          go_ret
          exact ⟨s1, p, rfl, HT.out, HG.out, fun q hq => by cases hq⟩
        · obtain rfl : o = some (-1 * ((b.toNat : Int) - 48), r) := by rw [HO.out]; simp [powA, hb1, hb3]
          have hb2 : ¬ (b.toNat : Int) < 49 := by omega
          have hb4 : ¬ (57 : Int) < b.toNat := by omega
          have w1' : IntKind.u8.wrap ((b.toNat : Int) - 48) = (b.toNat : Int) - 48 := by rw [IntKind.wrap_u8]; omega
          have w2' : IntKind.i64.wrap ((b.toNat : Int) - 48) = (b.toNat : Int) - 48 := by rw [IntKind.wrap_i64]; omega
          have w3' : IntKind.i64.wrap (-((b.toNat : Int) - 48)) = -((b.toNat : Int) - 48) := by rw [IntKind.wrap_i64]; omega
          clear hb1 hb3
          go_wp2
          go_ret
          exact ⟨_, _, rfl, (HT.out.power _).rest _, (HG.out.trans (set_grown _ _ _ _)).trans (set_grown _ _ _ _), fun q hq => by cases hq; exact ⟨by simp; try omega, ht.out⟩⟩
  | false =>
    go_enter Tryz.func56, Tryz.ntmps56
    go_wp2_with fail
    refine HP.out.mono ?_
    rintro e w1 ⟨s1, rfl, hs1, hT, hg⟩
    have c1 := hT.1.cell (v := .string s1) 1 rfl
    have c9 := hT.1.cell (v := .int .i64 p) 9 rfl
    have f1 := hT.1.frozen 1
    have f9 := hT.1.frozen 9
    have HT := hidU hT
    have HG := hidU hg
    clear hT hg HP
    cases l1 with
    | nil =>
      obtain rfl : o = none := HO.out
      have he := emp_nil hs1
      clear hs1
      go_wp2
      go_ret
      exact ⟨s1, p, rfl, HT.out, HG.out, fun q hq => by cases hq⟩
    | cons b r =>
      obtain ⟨he, hs0, hz1⟩ := emp_cons hs1
      have hbb := byte_0 hs1
      have ht := hidU (tail_b s1 b r hs1)
      clear hs1
      by_cases hb1 : b.toNat < 49
      · obtain rfl : o = none := by rw [HO.out]; simp [powA, hb1]
        have hb2 : (b.toNat : Int) < 49 := by omega
        clear hb1
        go_wp2
        go_ret
        exact ⟨s1, p, rfl, HT.out, HG.out, fun q hq => by cases hq⟩
      · by_cases hb3 : 57 < b.toNat
        · obtain rfl : o = none := by rw [HO.out]; simp [powA, hb3]
          have hb2 : ¬ (b.toNat : Int) < 49 := by omega
          have hb4 : (57 : Int) < b.toNat := by omega
          clear hb1 hb3
          go_wp2
          go_ret
          exact ⟨s1, p, rfl, HT.out, HG.out, fun q hq => by cases hq⟩
        · obtain rfl : o = some (1 * ((b.toNat : Int) - 48), r) := by rw [HO.out]; simp [powA, hb1, hb3]
          have hb2 : ¬ (b.toNat : Int) < 49 := by omega
          have hb4 : ¬ (57 : Int) < b.toNat := by omega
          have w1' : IntKind.u8.wrap ((b.toNat : Int) - 48) = (b.toNat : Int) - 48 := by rw [IntKind.wrap_u8]; omega
          have w2' : IntKind.i64.wrap ((b.toNat : Int) - 48) = (b.toNat : Int) - 48 := by rw [IntKind.wrap_i64]; omega
          have w3' : IntKind.i64.wrap (-((b.toNat : Int) - 48)) = -((b.toNat : Int) - 48) := by rw [IntKind.wrap_i64]; omega
          clear hb1 hb3
          go_wp2
          go_ret
          exact ⟨_, _, rfl, (HT.out.power _).rest _, (HG.out.trans (set_grown _ _ _ _)).trans (set_grown _ _ _ _), fun q hq => by cases hq; exact ⟨by simp; try omega, ht.out⟩⟩
end Go.Proofs.YtnhefbhiemdhoaaGreat
