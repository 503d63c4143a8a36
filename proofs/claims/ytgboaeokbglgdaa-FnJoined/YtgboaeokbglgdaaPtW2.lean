/- The walks of the model's Weight and Inside. -/
import Derived.Test.YtgboaeokbglgdaaPtW1
namespace Go.Proofs.Ytgboaeokbglgdaa
open Go.RowKit Go.Proofs.Ytgboaeokbglgdaa.RM

/-- the weights of those of the first k points that lie from lo to hi -/
def insS (ps : List Fr) (lo hi : Int) : Nat → Int
  | 0 => 0
  | k + 1 => if lo ≤ (fr ps k).1 ∧ (fr ps k).1 ≤ hi then insS ps lo hi k + (fr ps k).2 else insS ps lo hi k
theorem insS_in {ps : List Fr} {lo hi : Int} : ∀ {k : Nat}, (∀ j, j < k → ptP ps j) → 0 ≤ insS ps lo hi k ∧ insS ps lo hi k ≤ wtS ps k
  | 0, _ => ⟨Int.le_refl _, Int.le_refl _⟩
  | k + 1, h => by
    have h1 := insS_in (ps := ps) (lo := lo) (hi := hi) (k := k) (fun j hj => h j (by omega))
    have h2 := (h k (by omega)).2.1
    rw [show insS ps lo hi (k + 1) = if lo ≤ (fr ps k).1 ∧ (fr ps k).1 ≤ hi then insS ps lo hi k + (fr ps k).2 else insS ps lo hi k from rfl, show wtS ps (k + 1) = wtS ps k + (fr ps k).2 from rfl]
    split <;> omega
def wgtA (ps : List Fr) : Int := if sprB ps = true then wtS ps ps.length else -1
def insA (ps : List Fr) (lo hi : Int) : Int := if sprB ps = true then insS ps lo hi ps.length else -1
theorem ret_i {a b : Int} (h : a = b) : Ending.returned (.int .i64 a) = .returned (.int .i64 b) := by rw [h]

set_option maxRecDepth 100000 in
set_option maxHeartbeats 2000000 in
theorem sWt_any (v : Value) (ps : List Fr) (w : World) (h : RdR w v ps) (hn : ps.length ≤ 40) (hP : ∀ k, k < ps.length → ptP ps k) :
    Calls Try.prog 27 #[v] w fun e w' => e = .returned (.int .i64 (wtS ps ps.length)) ∧ Below w.heap.size w w' := by
  obtain ⟨a, c, rfl, h2, h3, h4, h5⟩ := h
  have H5 : Hid (∀ j, j < ps.length → ∃ b off, a = some ⟨b, off, none⟩ ∧ w.cell? ⟨b, off + j * 2, none⟩ = some (.int .i64 (fr ps j).1) ∧ w.cell? ⟨b, off + j * 2 + 1, none⟩ = some (.int .i64 (fr ps j).2)) := h5
  have HP := hidP hP
  obtain ⟨L, hL⟩ : ∃ L, L = ps.length := ⟨_, rfl⟩
  rw [← hL] at hn H5 HP ⊢
  clear h5 h2 h3 h4 hL hP
  go_enter Try.func27, Try.ntmps27
  go_wp2
  go_loopw [3, 4] (fun s i wr => ∃ k : Nat, k ≤ L ∧ i = .int .i64 k ∧ s = .int .i64 (wtS ps k) ∧ Hid (Below w.heap.size w wr)) (fun _ i _ => L - (intOf i).toNat)
  case atStart => exact ⟨0, Nat.zero_le _, rfl, rfl, Below.refl _ _⟩
  case round =>
    obtain ⟨k, hk, rfl, rfl, hB⟩ := hrel
    have hw := wtS_in (ps := ps) (k := k) (fun j hj => HP.out j (by omega))
    obtain ⟨s, hs⟩ : ∃ s, s = wtS ps k := ⟨_, rfl⟩
    have HS := hidP hs
    rw [← hs] at hw ⊢
    clear hs
    by_cases hlt : k < L
    · obtain ⟨b, off, rfl, c1, c2⟩ := H5.out k hlt
      have hp2 := (HP.out k hlt).2.1
      replace c1 := cell_keep hB.out c1
      replace c2 := cell_keep hB.out c2
      obtain ⟨y, hy⟩ : ∃ y, y = (fr ps k).2 := ⟨_, rfl⟩
      have HY := hidP hy
      rw [← hy] at c2 hp2
      clear hy c1
      have hk1 : s + y ≤ 41000000 := by omega
      have hk0 : 0 ≤ s + y := by omega
      go_wp2
      go_roundw
      case rel => exact ⟨k + 1, by omega, by go_num, by rw [HS.out, HY.out]; rfl, hB.out⟩
      case measure => simp [intOf]; omega
    · obtain rfl : k = L := by omega
      go_wp2
      go_ret
      exact ⟨ret_i HS.out, hB.out⟩

set_option maxHeartbeats 1000000 in
theorem sWgt_any (v : Value) (ps : List Fr) (w : World) (h : RdR w v ps) :
    Calls Try.prog 12 #[v] w fun e w' => e = .returned (.int .i64 (wgtA ps)) ∧ Below w.heap.size w w' := by
  have HS := hidP (fun W (hW : Below w.heap.size w W) => sSpr_any v ps W (h.below hW))
  have H := hidP h
  obtain ⟨pa, na, ca, rfl⟩ : ∃ a n c, v = .slice a n c := by obtain ⟨a, c, rfl, _⟩ := h; exact ⟨a, _, c, rfl⟩
  obtain ⟨q, hq⟩ : ∃ q, q = sprB ps := ⟨_, rfl⟩
  rw [← hq] at HS
  have HQ := hidP hq
  clear h hq
  go_enter Try.func12, Try.ntmps12
  go_wp2_with fail
  refine (HS.out _ (Below.refl _ _)).mono ?_
  rintro e w1 ⟨rfl, hb⟩
  cases q
  · have HA : Hid (wgtA ps = -1) := by show _ = _; unfold wgtA; rw [← HQ.out]; rfl
    go_wp2
    go_ret
    exact ⟨ret_i HA.out.symm, hb⟩
  · obtain ⟨p1, p2, p3⟩ := sprB_out HQ.out.symm
    have HA : Hid (wgtA ps = wtS ps ps.length) := by show _ = _; unfold wgtA; rw [← HQ.out]; rfl
    have HW := hidP (sWt_any _ ps w1 (H.out.below hb) p1.2 p2)
    rw [← HA.out] at HW
    clear p1 p2 p3
    go_wp2_with fail
    refine HW.out.mono ?_
    rintro e w2 ⟨rfl, hb2⟩
    have hbb := hb.trans (hb2.mono hb.size)
    clear hb hb2
    go_wp2
    go_ret
    exact ⟨rfl, hbb⟩

end Go.Proofs.Ytgboaeokbglgdaa
