/- The walk of the model's ShowDim. -/
import Derived.Test.YtbbkejfcheobaabDoorDimW5
import Derived.Test.YtbbkejfcheobaabDoorDimStr
import Derived.Test.YtbbkejfcheobaabDoorStrW1
import Derived.Deep.RegionWith
import Derived.Deep.DeepMust
namespace Go.Proofs.YtbbkejfcheobaabDoor
open Go.RowKit Go.Proofs.YtbbkejfcheobaabDoor.RM

theorem catS (a b : List UInt8) : (ByteArray.mk a.toArray ++ ByteArray.mk b.toArray) = ByteArray.mk (a ++ b).toArray := ByteArray.mk_append_mk a b

/-- one letter of the five -/
theorem let1 {k : Nat} (hk : k < 5) : (ByteArray.mk #[76, 77, 84, 73, 75]).extract k (k + 1) = ByteArray.mk [dl k].toArray := by
  match k, hk with
  | 0, _ => rfl
  | 1, _ => rfl
  | 2, _ => rfl
  | 3, _ => rfl
  | 4, _ => rfl

set_option maxRecDepth 100000 in
set_option maxHeartbeats 2000000 in
theorem sShowD_in (v : Value) (ys : List Int) (w : World) (h : DimIn w v ys) :
    Calls Tryd.prog 14 #[v] w fun e w' => e = .returned (.string ⟨(showD ys).toArray⟩) ∧ Below w.heap.size w w' := by
  have H := hidD h
  obtain ⟨S, hS⟩ : ∃ S, S = showD ys := ⟨_, rfl⟩
  have HS := hidD hS
  have HD : Hid (∀ W : World, DimIn W v ys → Calls Tryd.prog 16 #[v] W fun e w' => e = .returned (.bool (dimB ys)) ∧ ∃ m, w' = W.drewN m) := fun W hW => sDimOk_in v ys W hW
  obtain ⟨q, hq⟩ : ∃ q, q = dimB ys := ⟨_, rfl⟩
  have HQ := hidD hq
  rw [← hq] at HD
  rw [← hS]
  clear h hS hq
  go_enter Tryd.func14, Tryd.ntmps14
  go_wp2_with fail
  refine (HD.out _ H.out).mono ?_
  rintro e w1 ⟨rfl, m, hw⟩
  have B1 : Below w.heap.size w w1 := by rw [hw]; exact below_drewN (Below.refl _ _) _
  have H1 := hidD (DimIn.below H.out B1)
  clear hw HD H
  cases q with
  | false =>
    obtain rfl : S = [] := by rw [HS.out]; unfold showD; rw [← HQ.out]; rfl
    go_wp2
    exact bodyPost_ret (v := .string ⟨#[]⟩) (by simp [results, Tryd.results14, go_sem]) rfl ⟨rfl, B1⟩
  | true =>
    have h5 : ys.length = 5 ∧ ∀ k, k < 5 → -9 ≤ ky ys k ∧ ky ys k ≤ 9 := by
      have h9 := HQ.out.symm
      unfold dimB at h9
      rw [Bool.and_eq_true, decide_eq_true_eq, List.all_eq_true] at h9
      refine ⟨h9.1, fun k hk => ?_⟩
      have := h9.2 (ky ys k) (by unfold ky; rw [List.getElem?_eq_getElem (by omega)]; exact List.getElem_mem _)
      exact in9_out this
    obtain ⟨h5, hr⟩ := h5
    have HR := hidD hr
    have HL := hidD (txU_len hr)
    have HSS : Hid (S = if wdU ys 5 = [] then [49] else txU ys 5) := by show _ = _; rw [HS.out]; unfold showD; rw [← HQ.out]; rfl
    obtain ⟨base, et, H2⟩ := H1.out.five h5
    rw [h5] at H2
    obtain ⟨g, c, rfl⟩ := own_some H2 (by omega)
    have HO := hidD H2
    have HI : Hid (∀ (x : Int) (W : World), -9 ≤ x → x ≤ 9 → Calls Tryd.prog 30 #[.int .i64 x] W fun e w' => e = .returned (.string ⟨(Lib.itoa x).toArray⟩) ∧ Below W.heap.size W w') := fun x W h0 h1 => sInt_any x W (by omega) (by omega)
    have B2 := hidD B1
    clear hr HS HQ H1 H2 B1
    go_wp2
    go_loopw [3, 4] (fun a i wr => ∃ k : Nat, a = .string ⟨(txU ys k).toArray⟩ ∧ i = .int .i64 k ∧ k ≤ 5 ∧ Hid (Below w1.heap.size w1 wr)) (fun _ i _ => 5 - (intOf i).toNat)
    case atStart => exact ⟨0, rfl, rfl, by omega, Below.refl _ _⟩
    case round =>
      obtain ⟨k, rfl, rfl, hk, hB⟩ := hrel
      by_cases hk5 : k < 5
      · have hki : ((k : Nat) : Int) < 5 := by omega
        have hcell := (own_below HO.out hB.out).cellAt k (by omega)
        have hy : (ys.map (Value.int .i64))[k]? = some (.int .i64 (ky ys k)) := by unfold ky; rw [List.getElem?_map, List.getElem?_eq_getElem (by omega)]; rfl
        rw [hy] at hcell
        obtain ⟨y, hyy⟩ : ∃ y, y = ky ys k := ⟨_, rfl⟩
        rw [← hyy] at hcell
        have HY := hidD hyy
        have hyb := HR.out k hk5
        rw [← hyy] at hyb
        have hgl := lt_cell hcell
        clear hyy hy
        by_cases hz : y = 0
        · subst hz
          go_wp2
          go_roundw
          case rel => exact ⟨k + 1, by rw [txU_no HY.out.symm], by go_num, by omega, hB.out⟩
          case measure => simp [intOf]; omega
        · obtain ⟨L, hL⟩ : ∃ L, L = txU ys k := ⟨_, rfl⟩
          have hLl := HL.out k (by omega)
          rw [← hL] at hLl ⊢
          have HLL := hidD hL
          have hsz := hB.out.size
          clear hL
          obtain ⟨l2, hl2⟩ : ∃ l, l = Lib.itoa y := ⟨_, rfl⟩
          have hl2l : l2.length ≤ 2 := by rw [hl2]; exact itoa_small hyb.1 hyb.2
          have HC : Hid (∀ W : World, Calls Tryd.prog 30 #[.int .i64 y] W fun e w' => e = .returned (.string ⟨l2.toArray⟩) ∧ Below W.heap.size W w') := by intro W; rw [hl2]; exact HI.out y W hyb.1 hyb.2
          have HT : Hid (txU ys (k + 1) = if L = [] then dl k :: l2 else L ++ [32] ++ dl k :: l2) := by
            show _ = _
            have e1 : ky ys k ≠ 0 := by rw [← HY.out]; exact hz
            by_cases hw : wdU ys k = []
            · rw [txU_first e1 hw, if_pos (by rw [HLL.out]; exact txU_nil.2 hw), hl2, HY.out]
            · rw [txU_more e1 hw, if_neg (by rw [HLL.out]; exact fun h => hw (txU_nil.1 h)), ← HLL.out, hl2, HY.out]
          clear hl2 hyb
          have hcl : L.length ≤ 20 := by omega
          clear hLl HLL HI
          have hs1 : (0 : Int) ≤ (k : Int) + 1 := by omega
          have hs2 : (k : Int) + 1 ≤ 5 := by omega
          have hs3 : (0 : Int) ≤ (k : Int) := by omega
          have hs4 : (k : Int) ≤ (k : Int) + 1 := by omega
          have hex : (ByteArray.mk #[76, 77, 84, 73, 75]).extract k (k + 1) = ByteArray.mk #[dl k] := let1 hk5
          have htn : ((k : Int) + 1).toNat = k + 1 := by omega
          have hwr : IntKind.i64.wrap ((k : Int) + 1) = (k : Int) + 1 := by rw [IntKind.wrap_i64]; omega
          cases L with
          | nil =>
            rw [if_pos rfl] at HT
            go_wp2
            go_region_with (go_at_call 30; go_must (refine (HC.out _).mono ?_); rintro e w4 ⟨rfl, hb⟩; have HB4 : Hid (Below wr.heap.size wr w4) := (by first | exact hb | exact ((Below.refl _ _).drew).trans hb); clear hb)
            all_goals go_wp2
            all_goals exact ⟨⟨k + 1, by rw [HT.out]; exact congrArg Value.string (by apply ByteArray.ext; simp [ByteArray.data_append]), by go_num, by omega, hB.out.trans (HB4.out.mono hsz)⟩, by simp [intOf]; omega⟩
          | cons x L =>
            rw [if_neg (by simp)] at HT
            simp only [List.length_cons] at hcl
            go_wp2
            go_region_with (go_at_call 30; go_must (refine (HC.out _).mono ?_); rintro e w4 ⟨rfl, hb⟩; have HB4 : Hid (Below wr.heap.size wr w4) := (by first | exact hb | exact ((Below.refl _ _).drew).trans hb); clear hb)
            all_goals go_wp2
            all_goals exact ⟨⟨k + 1, by rw [HT.out]; exact congrArg Value.string (by apply ByteArray.ext; simp [ByteArray.data_append]), by go_num, by omega, hB.out.trans (HB4.out.mono hsz)⟩, by simp [intOf]; omega⟩
      · obtain rfl : k = 5 := by omega
        have hBf := hidD (B2.out.trans (hB.out.mono B2.out.size))
        obtain ⟨L, hL⟩ : ∃ L, L = txU ys 5 := ⟨_, rfl⟩
        rw [← hL] at HSS ⊢
        have HN : Hid (L = [] ↔ wdU ys 5 = []) := by rw [hL]; exact txU_nil
        clear hL
        cases L with
        | nil =>
          rw [if_pos (HN.out.1 rfl)] at HSS
          go_wp2
          exact bodyPost_ret (v := .string ⟨#[49]⟩) (by simp [results, Tryd.results14, go_sem]) rfl ⟨by rw [HSS.out], hBf.out⟩
        | cons x L =>
          rw [if_neg (fun h => by have := HN.out.2 h; cases this)] at HSS
          go_wp2
          exact bodyPost_ret (v := .string ⟨(x :: L).toArray⟩) (by simp [results, Tryd.results14, go_sem]) rfl ⟨by rw [HSS.out], hBf.out⟩
theorem sShowD_any (v : Value) (ys : List Int) (base : Nat) (et : TypeId) (w : World) (h : w.ownsRow base et 1 v ys.length (ys.map (Value.int .i64))) :
    Calls Tryd.prog 14 #[v] w fun e w' => e = .returned (.string ⟨(showD ys).toArray⟩) ∧ Below w.heap.size w w' := sShowD_in v ys w (.of h)
end Go.Proofs.YtbbkejfcheobaabDoor
