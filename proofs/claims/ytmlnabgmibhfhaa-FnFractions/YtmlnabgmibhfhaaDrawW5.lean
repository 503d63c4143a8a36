/- Two whole numbers are drawn. -/
import Derived.Test.YtmlnabgmibhfhaaDrawW4
namespace Go.Proofs.Ytmlnabgmibhfhaa
open Go.RowKit Go.Proofs.Ytmlnabgmibhfhaa.RM

set_option maxHeartbeats 1600000 in
theorem dReduced_any (a : Option Addr) (len cap : Nat) (zs : List Int) (w : World) (hr : IsRow .u8 w a len cap zs) :
    Calls Try.prog 13 #[.slice a len cap] w fun e w' => ∃ n d : Int, e = .returned (.tuple #[.int .i64 n, .int .i64 d]) ∧ Below w.heap.size w w' := by
  have HR : Hid (IsRow .u8 w a len cap zs) := hr
  clear hr
  go_enter Try.func13, Try.ntmps13
  go_wp2_with fail
  refine (new_any a len cap zs _ HR.out).mono ?_
  rintro e w1 ⟨rfl, hC1, hB1, hs1⟩
  obtain ⟨cb, hcb'⟩ : ∃ cb, cb = w.heap.size := ⟨_, rfl⟩
  have hcb : w.heap.size ≤ cb := by omega
  rw [← hcb'] at hC1 ⊢
  have HC : Hid (Cur w1 cb a len cap zs) := hC1
  have HE : Hid (Ex cb w w1) := Ex.of_below hB1
  clear hC1 hB1 hs1 hcb' HR
  go_wp2_with fail
  refine (from_any cb _ _ a len cap zs _ HC.out (by omega) (by omega) (by omega)).mono ?_
  rintro e w2 ⟨p, rfl, hp0, hp1, hC, hE⟩
  replace HC : Hid (Cur w2 cb a len cap zs) := hC
  replace HE : Hid (Ex cb w w2) := HE.out.trans hE
  clear hC hE
  go_wp2_with fail
  refine (from_any cb _ _ a len cap zs _ HC.out (by omega) (by omega) (by omega)).mono ?_
  rintro e w3 ⟨q, rfl, hq0, hq1, hC, hE⟩
  replace HC : Hid (Cur w3 cb a len cap zs) := hC
  replace HE : Hid (Ex cb w w3) := HE.out.trans hE
  clear hC hE
  go_wp2_with fail
  refine (once_any cb _ a len cap zs _ HC.out (by omega)).mono ?_
  rintro e X ⟨x, rfl, hC, hE⟩
  replace HC : Hid (Cur X cb a len cap zs) := hC
  replace HE : Hid (Ex cb w X) := HE.out.trans hE
  clear hC hE
  have hlt : cb < X.heap.size := HC.out.lt
  cases x
  · go_wp2_with fail
    refine (once_any cb _ a len cap zs _ HC.out (by omega)).mono ?_
    rintro e Y ⟨y, rfl, hC, hE⟩
    replace HC : Hid (Cur Y cb a len cap zs) := hC
    replace HE : Hid (Ex cb w Y) := HE.out.trans hE
    clear hC hE
    have hlt : cb < Y.heap.size := HC.out.lt
    cases y
    · go_wp2
      go_ret2
      exact ⟨_, _, rfl, Ex.below (Below.refl _ _) HE.out hcb⟩
    · go_wp2_with fail
      refine (below_any cb _ a len cap zs _ ?_ (by omega)).mono ?_
      · exact HC.out.below ((Below.refl _ _).alloc (Nat.le_refl _) _)
      rintro e Z ⟨j, rfl, hi0, hi1, hC, hE⟩
      have hidx : ∃ v, Z.cell? ⟨Y.heap.size, j.toNat, none⟩ = some (.int .i64 v) := by
        have hi : j = 0 ∨ j = 1 ∨ j = 2 ∨ j = 3 ∨ j = 4 ∨ j = 5 := by omega
        have hne : Y.heap.size ≠ cb := by omega
        rcases hi with rfl | rfl | rfl | rfl | rfl | rfl
        · exact ⟨0, hE.cell (by simp [go_sem]) hne⟩
        · exact ⟨-1, hE.cell (by simp [go_sem]) hne⟩
        · exact ⟨1000000000, hE.cell (by simp [go_sem]) hne⟩
        · exact ⟨4611686018427387904, hE.cell (by simp [go_sem]) hne⟩
        · exact ⟨-9223372036854775808, hE.cell (by simp [go_sem]) hne⟩
        · exact ⟨6, hE.cell (by simp [go_sem]) hne⟩
      obtain ⟨v, hidx⟩ := hidx
      replace HC : Hid (Cur Z cb a len cap zs) := hC
      replace HE : Hid (Ex cb w Z) := (HE.out.alloc _).trans hE
      clear hC hE hlt
      go_wp2
      go_ret2
      exact ⟨_, _, rfl, Ex.below (Below.refl _ _) HE.out hcb⟩
  · go_wp2_with fail
    refine (below_any cb _ a len cap zs _ ?_ (by omega)).mono ?_
    · exact HC.out.below ((Below.refl _ _).alloc (Nat.le_refl _) _)
    rintro e V ⟨i, rfl, hi0, hi1, hC, hE⟩
    have hidx : ∃ v, V.cell? ⟨X.heap.size, i.toNat, none⟩ = some (.int .i64 v) := by
      have hi : i = 0 ∨ i = 1 ∨ i = 2 ∨ i = 3 ∨ i = 4 ∨ i = 5 := by omega
      have hne : X.heap.size ≠ cb := by omega
      rcases hi with rfl | rfl | rfl | rfl | rfl | rfl
      · exact ⟨0, hE.cell (by simp [go_sem]) hne⟩
      · exact ⟨1000000000, hE.cell (by simp [go_sem]) hne⟩
      · exact ⟨4611686018427387904, hE.cell (by simp [go_sem]) hne⟩
      · exact ⟨4611686018427387905, hE.cell (by simp [go_sem]) hne⟩
      · exact ⟨-9223372036854775808, hE.cell (by simp [go_sem]) hne⟩
      · exact ⟨6000000000, hE.cell (by simp [go_sem]) hne⟩
    obtain ⟨v, hidx⟩ := hidx
    replace HC : Hid (Cur V cb a len cap zs) := hC
    replace HE : Hid (Ex cb w V) := (HE.out.alloc _).trans hE
    clear hC hE hlt
    go_wp2_with fail
    refine (once_any cb _ a len cap zs _ HC.out (by omega)).mono ?_
    rintro e Y ⟨y, rfl, hC, hE⟩
    replace HC : Hid (Cur Y cb a len cap zs) := hC
    replace HE : Hid (Ex cb w Y) := HE.out.trans hE
    clear hC hE
    have hlt : cb < Y.heap.size := HC.out.lt
    cases y
    · go_wp2
      go_ret2
      exact ⟨_, _, rfl, Ex.below (Below.refl _ _) HE.out hcb⟩
    · go_wp2_with fail
      refine (below_any cb _ a len cap zs _ ?_ (by omega)).mono ?_
      · exact HC.out.below ((Below.refl _ _).alloc (Nat.le_refl _) _)
      rintro e Z ⟨j, rfl, hi0, hi1, hC, hE⟩
      have hidx : ∃ v, Z.cell? ⟨Y.heap.size, j.toNat, none⟩ = some (.int .i64 v) := by
        have hi : j = 0 ∨ j = 1 ∨ j = 2 ∨ j = 3 ∨ j = 4 ∨ j = 5 := by omega
        have hne : Y.heap.size ≠ cb := by omega
        rcases hi with rfl | rfl | rfl | rfl | rfl | rfl
        · exact ⟨0, hE.cell (by simp [go_sem]) hne⟩
        · exact ⟨-1, hE.cell (by simp [go_sem]) hne⟩
        · exact ⟨1000000000, hE.cell (by simp [go_sem]) hne⟩
        · exact ⟨4611686018427387904, hE.cell (by simp [go_sem]) hne⟩
        · exact ⟨-9223372036854775808, hE.cell (by simp [go_sem]) hne⟩
        · exact ⟨6, hE.cell (by simp [go_sem]) hne⟩
      obtain ⟨v, hidx⟩ := hidx
      replace HC : Hid (Cur Z cb a len cap zs) := hC
      replace HE : Hid (Ex cb w Z) := (HE.out.alloc _).trans hE
      clear hC hE hlt
      go_wp2
      go_ret2
      exact ⟨_, _, rfl, Ex.below (Below.refl _ _) HE.out hcb⟩
end Go.Proofs.Ytmlnabgmibhfhaa
