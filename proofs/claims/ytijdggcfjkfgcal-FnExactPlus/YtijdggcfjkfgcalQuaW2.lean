/- What is shown of a measure; the program's QuantityOk and Plus. -/
import Derived.Test.YtijdggcfjkfgcalQuaW1
import Derived.Test.YtijdggcfjkfgcalRowM
import Derived.Test.YtijdggcfjkfgcalQuaMath
import Derived.Test.YtijdggcfjkfgcalRatioW5
namespace Go.Proofs.Ytijdggcfjkfgcal
open Go.RowKit Go.Proofs.Ytijdggcfjkfgcal.RM

theorem toldQ_no (n d : Int) (xs : List Int) : toldQ n d xs false = (0, 0, [], false) := rfl
theorem toldQ_yes (n d : Int) (xs : List Int) : toldQ n d xs true = (n, d, xs, true) := rfl
/-- a quantity's value in memory of the call's own -/
def QuaP (w : World) (q : Int × Int × List Int × Bool) (x : Ending) (w' : World) : Prop :=
  ∃ v, x = .returned (.tuple #[.agg #[.int .i64 q.1, .int .i64 q.2.1, v], .bool q.2.2.2]) ∧ RowM w' w.heap.size w'.heap.size v q.2.2.1 ∧ Below w.heap.size w w'

set_option maxRecDepth 100000 in
set_option maxHeartbeats 1000000 in
theorem shownM_any (s0 s1 s2 s3 s4 n d : Int) (b : Bool) (w : World) :
    Calls Try.prog 43 #[.agg #[.int .i64 s0, .int .i64 s1, .int .i64 s2, .int .i64 s3, .int .i64 s4, .int .i64 n, .int .i64 d], .bool b] w fun e w' => QuaP w (toldQ n d [s0, s1, s2, s3, s4] b) e w' := by
  have b0 : ∀ (u : World) (o : Obj), Below u.heap.size u (u.alloc o) := fun u o => (Below.refl _ _).alloc (Nat.le_refl _) o
  cases b
  · rw [toldQ_no]
    go_enter Try.func43, Try.ntmps43
    go_wp2
    exact bodyPost_ret (v := .tuple #[.agg #[.int .i64 0, .int .i64 0, .slice none 0 0], .bool false]) (by simp [results, Try.results43, go_sem]) rfl ⟨_, rfl, RowM.empty _ _, (b0 _ _).alloc (by simp) _⟩
  · rw [toldQ_yes]
    go_enter Try.func43, Try.ntmps43
    go_upto_region 3 with fail
    go_region
    go_wp2
    refine bodyPost_ret (v := .tuple #[.agg #[.int .i64 n, .int .i64 d, .slice (some ⟨w.heap.size, 0, none⟩) 5 5], .bool true]) (by simp [results, Try.results43, go_sem]) rfl ⟨_, rfl, ?_, ?_⟩
    · have h2 := ((IsB.new w #[.int .i64 s0, .int .i64 s1, .int .i64 s2, .int .i64 s3, .int .i64 s4, .int .i64 n, .int .i64 d] 58).below (b0 _ (.cells #[.int .i64 n, .int .i64 d, .slice (some ⟨w.heap.size, 0, none⟩) 5 5] 35))).drew
      refine RowM.put (n := 5) rfl (fun j hj => ?_) (Nat.le_refl _) h2.lt
      rw [Nat.zero_add]
      obtain rfl | rfl | rfl | rfl | rfl : j = 0 ∨ j = 1 ∨ j = 2 ∨ j = 3 ∨ j = 4 := by omega
      · exact ⟨h2.cell (v := .int .i64 s0) 0 rfl, h2.frozen 0⟩
      · exact ⟨h2.cell (v := .int .i64 s1) 1 rfl, h2.frozen 1⟩
      · exact ⟨h2.cell (v := .int .i64 s2) 2 rfl, h2.frozen 2⟩
      · exact ⟨h2.cell (v := .int .i64 s3) 3 rfl, h2.frozen 3⟩
      · exact ⟨h2.cell (v := .int .i64 s4) 4 rfl, h2.frozen 4⟩
    · exact ((b0 _ _).alloc (by simp) _).drew

set_option maxRecDepth 100000 in
set_option maxHeartbeats 1000000 in
theorem iQuaOk_any (n d : Int) (v : Value) (ys : List Int) (w : World) (h : DimIn w v ys) :
    Calls Try.prog 17 #[.agg #[.int .i64 n, .int .i64 d, v]] w fun e w' => e = .returned (.bool (quaB n d ys)) ∧ Below w.heap.size w w' := by
  have b0 : ∀ (u : World) (o : Obj), Below u.heap.size u (u.alloc o) := fun u o => (Below.refl _ _).alloc (Nat.le_refl _) o
  have HM := hidU (fun W (hW : Below w.heap.size w W) => measOf_any n d v ys W (h.below hW))
  rw [show quaB n d ys = (dimB ys && okB n d) from Bool.and_comm _ _]
  obtain ⟨q, hq⟩ : ∃ q, q = (dimB ys && okB n d) := ⟨_, rfl⟩
  rw [← hq] at HM ⊢
  clear hq h
  go_enter Try.func17, Try.ntmps17
  go_wp2_with fail
  refine (HM.out _ (b0 _ _)).mono ?_
  rintro e w1 ⟨s0, s1, s2, s3, s4, rfl, hs, hb⟩
  have HB := hidU ((b0 w _).trans (hb.mono (by simp)))
  clear hs hb
  go_wp2
  go_ret
  exact ⟨rfl, HB.out.alloc HB.out.size _⟩
end Go.Proofs.Ytijdggcfjkfgcal
