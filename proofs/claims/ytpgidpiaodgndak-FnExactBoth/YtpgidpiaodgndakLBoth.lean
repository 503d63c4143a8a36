/- The walk of the law of Both. -/
import Derived.Test.YtpgidpiaodgndakUnitW5
import Derived.Test.YtpgidpiaodgndakUnitW9
namespace Go.Proofs.Ytpgidpiaodgndak
open Go.RowKit Go.Proofs.Ytpgidpiaodgndak.RM

theorem both_same (l : List UInt8) : ((unitS l).2.2.2 && (preS l).2.2.2) = ((uFind l).isSome && (preI l).2) := by
  have h1 : (unitS l).2.2.2 = (uFind l).isSome := by
    unfold unitS
    cases uFind l <;> rfl
  have h2 : (preS l).2.2.2 = (preI l).2 := by
    unfold preS told
    cases (preI l).2 <;> rfl
  rw [h1, h2]

set_option maxRecDepth 100000 in
set_option maxHeartbeats 1000000 in
theorem lawBoth (s : ByteArray) (w : World) :
    Calls Try.prog 8 #[.string s] w fun e w' => e = .returned (.bool true) ∧ Below w.heap.size w w' := by
  by_cases hs : s.size ≤ 1048576
  · have hsi : ¬ (1048576 : Int) < s.size := by omega
    obtain ⟨b, hb⟩ : ∃ b, b = ((uFind s.data.toList).isSome && (preI s.data.toList).2) := ⟨_, rfl⟩
    have HS : Hid (∀ W : World, Calls Try.prog 30 #[.string s] W fun e w' => e = .returned (.bool b) ∧ Below W.heap.size W w') := fun W => by rw [hb, ← both_same]; exact sBoth_any s W
    have HI : Hid (∀ W : World, Calls Try.prog 31 #[.string s] W fun e w' => e = .returned (.bool b) ∧ Below W.heap.size W w') := fun W => by rw [hb]; exact iBoth_any s W hs
    clear hb hs
    have hr : (b != b) = false := by simp
    go_enter Try.func8, Try.ntmps8
    go_wp2_with fail
    refine (HS.out _).mono ?_
    rintro e w1 ⟨rfl, hb⟩
    go_wp2_with fail
    refine (HI.out _).mono ?_
    rintro e w2 ⟨rfl, hb2⟩
    have HB := hidU (hb.trans (hb2.mono hb.size))
    clear hb hb2
    go_wp2
    go_ret
    exact ⟨rfl, HB.out⟩
  · have hsi : (1048576 : Int) < s.size := by omega
    go_enter Try.func8, Try.ntmps8
    go_wp2
    go_ret
    exact ⟨rfl, Below.refl _ _⟩
end Go.Proofs.Ytpgidpiaodgndak
