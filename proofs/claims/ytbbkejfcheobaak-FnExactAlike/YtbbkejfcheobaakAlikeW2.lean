/- The walks of the program's and the model's Alike. -/
import Derived.Test.YtbbkejfcheobaakAlikeW
import Derived.Deep.RegionWith
namespace Go.Proofs.Ytbbkejfcheobaak
open Go.RowKit Go.Proofs.Ytbbkejfcheobaak.RM

set_option maxRecDepth 100000 in
set_option maxHeartbeats 2000000 in
theorem iAlike_any (v0 v1 : Value) (us : List Value) (rows : List (List Int)) (ps : List Int) (b0 b1 : Nat) (e1 : TypeId) (w : World) (h0 : TabI w b0 v0 us rows) (h1 : w.ownsRow b1 e1 1 v1 ps.length (ps.map (Value.int .i64))) :
    Calls Try.prog 16 #[v0, v1] w fun e w' => RowP w (ansAlike rows ps) e w' := by
  obtain ⟨q, hq⟩ : ∃ q, q = dimsB rows := ⟨_, rfl⟩
  have HQ := hidL0 hq
  have HDo : Hid (∀ W : World, Below w.heap.size w W → Calls Try.prog 31 #[v0] W fun e w' => e = .returned (.bool q) ∧ Below W.heap.size W w') := by
    intro W hW; rw [hq]; exact iDims_any v0 us rows b0 W (h0.below hW)
  obtain ⟨n, hn⟩ : ∃ n, n = rows.length := ⟨_, rfl⟩
  obtain ⟨m, hm⟩ : ∃ m, m = ps.length := ⟨_, rfl⟩
  have HIN : Hid (∀ k, k < n → ∀ W : World, Below w.heap.size w W → W.ownsRow b0 2 1 (vl us k) (ri rows k).length (cI (ri rows k))) := fun k hk W hW => own_below (h0.inner k (by have := h0.len; omega)) hW
  obtain ⟨a, c, rfl, hv⟩ := h0.vals
  rw [← hn] at hv HDo ⊢
  rw [← hm] at h1
  obtain ⟨a', c', rfl⟩ := own_shape h1
  have H5 := hidL0 hv
  have HP : Hid (∀ k, k < m → ∃ g, a' = some ⟨g, 0, none⟩ ∧ w.cell? ⟨g, k, none⟩ = some (.int .i64 (fi ps k))) := by
    intro k hk
    obtain ⟨g, cc, e⟩ := own_some h1 (by omega)
    cases e
    exact ⟨g, rfl, own_int h1 hm.symm k hk⟩
  have HN := hidL0 hn
  have HM := hidL0 hm
  clear h0 h1 hv hn hm hq
  have no : (q = false ∨ n ≠ m) → Hid (ansAlike rows ps = []) := fun h => ansAlike_no (by rw [← HQ.out, ← HN.out, ← HM.out]; exact h)
  cases q
  · rw [(no (.inl rfl)).out]
    clear no
    go_enter Try.func16, Try.ntmps16
    go_wp2_with fail
    refine (HDo.out _ (Below.refl _ _)).mono ?_
    rintro e w1 ⟨rfl, hb⟩
    go_wp2
    go_ret
    exact ⟨_, 2, rfl, by simpa using World.ownsRow_lit w1 (base := w.heap.size) (e := 2) (size := 1) #[] 0 hb.size (Nat.zero_le _) rfl, hb.alloc hb.size _⟩
  · by_cases hnm : n = m
    · subst hnm
      clear no
      have HA : Hid (ansAlike rows ps = alikeF rows ps n) := by show _ = _; rw [HN.out]; exact ansAlike_yes HQ.out.symm (by rw [← HN.out]; exact HM.out)
      rw [HA.out]
      have hnn : ((n : Int) != (n : Int)) = false := by simp
      have n6 : n ≤ 6 := by have := (dimsB_out HQ.out.symm).1.2; have := HN.out; omega
      go_enter Try.func16, Try.ntmps16
      go_wp2_with fail
      refine (HDo.out _ (Below.refl _ _)).mono ?_
      rintro e w1 ⟨rfl, hb1⟩
      have B1 := hidL0 hb1
      have HLs : Hid (∀ u : World, Calls Try.prog 38 #[.agg #[.int .i64 0, .int .i64 0, .int .i64 0, .int .i64 0, .int .i64 0], .bool true] u fun x w' => RowP u [0, 0, 0, 0, 0] x w') := fun u => listed_any 0 0 0 0 0 true u
      clear hb1 HDo HA
      go_wp2_with fail
      refine (HLs.out _).mono ?_
      rintro e w2 ⟨o0, et0, rfl, ho, hb⟩
      have O0 := hidL0 (own_le ho B1.out.size)
      have B2 := hidL0 (B1.out.trans (hb.mono B1.out.size))
      clear ho hb HLs B1
      go_wp2
      go_loopw [5, 23] (fun o i wr => ∃ (k : Nat) (et : TypeId), k ≤ n ∧ i = .int .i64 k ∧ Hid (wr.ownsRow w.heap.size et 1 o (alikeF rows ps k).length ((alikeF rows ps k).map (Value.int .i64))) ∧ Hid (Below w.heap.size w wr)) (fun _ i _ => n - (intOf i).toNat)
      case atStart => exact ⟨0, et0, Nat.zero_le _, rfl, O0.out, B2.out⟩
      case round =>
        clear O0 B2
        obtain ⟨k, et, hk, rfl, hO, hB⟩ := hrel
        by_cases hlt : k < n
        · obtain ⟨g, rfl, c1⟩ := H5.out k hlt
          obtain ⟨g', rfl, c2⟩ := HP.out k hlt
          replace c1 := cell_keep hB.out c1
          replace c2 := cell_keep hB.out c2
          have HIk := hidL0 (HIN.out k hlt _ hB.out)
          obtain ⟨x, hx⟩ : ∃ x, x = vl us k := ⟨_, rfl⟩
          obtain ⟨p, hp⟩ : ∃ p, p = fi ps k := ⟨_, rfl⟩
          have HPk := hidL0 hp
          rw [← hx] at c1 HIk
          rw [← hp] at c2
          clear hx hp
          go_wp2_with fail
          refine (iDimPower_any x (ri rows k) p b0 2 _ HIk.out).mono ?_
          rintro e x1 ⟨y, ey, rfl, oy, hb⟩
          have OY := hidL0 oy
          replace hO := hidL0 (own_below hO.out hb)
          replace hB := hidL0 (hB.out.trans (hb.mono hB.out.size))
          clear oy hb HIk c1 c2
          go_wp2_with fail
          refine (iDimTimes_any _ y _ _ _ _ _ _ _ hO.out OY.out).mono ?_
          rintro e x2 ⟨z, ez, rfl, oz, hb⟩
          have OZ : Hid (x2.ownsRow w.heap.size ez 1 z (alikeF rows ps (k + 1)).length ((alikeF rows ps (k + 1)).map (Value.int .i64))) := by
            show World.ownsRow _ _ _ _ _ _ _
            have := own_le oz hB.out.size
            simp only [alikeF]
            rw [← HPk.out]
            exact this
          replace hB := hidL0 (hB.out.trans (hb.mono hB.out.size))
          clear oz hb hO OY
          go_wp2
          go_roundw
          case rel => exact ⟨k + 1, ez, by omega, by go_num, OZ, hB⟩
          case measure => simp [intOf]; omega
        · obtain rfl : k = n := by omega
          go_wp2
          go_ret
          exact ⟨_, et, rfl, hO.out, hB.out⟩
    · rw [(no (.inr hnm)).out]
      clear no
      have hne : ((n : Int) != (m : Int)) = true := by simp; omega
      go_enter Try.func16, Try.ntmps16
      go_wp2_with fail
      refine (HDo.out _ (Below.refl _ _)).mono ?_
      rintro e w1 ⟨rfl, hb⟩
      go_wp2
      go_ret
      exact ⟨_, 2, rfl, by simpa using World.ownsRow_lit w1 (base := w.heap.size) (e := 2) (size := 1) #[] 0 hb.size (Nat.zero_le _) rfl, hb.alloc hb.size _⟩

set_option maxRecDepth 100000 in
set_option maxHeartbeats 2000000 in
theorem sAlike_any (v0 v1 : Value) (us : List Value) (rows : List (List Int)) (ps : List Int) (b0 b1 : Nat) (e1 : TypeId) (w : World) (h0 : TabI w b0 v0 us rows) (h1 : w.ownsRow b1 e1 1 v1 ps.length (ps.map (Value.int .i64))) :
    Calls Try.prog 14 #[v0, v1] w fun e w' => RowP w (ansAlike rows ps) e w' := by
  obtain ⟨q, hq⟩ : ∃ q, q = dimsB rows := ⟨_, rfl⟩
  have HQ := hidL0 hq
  have HDo : Hid (∀ W : World, Below w.heap.size w W → Calls Try.prog 27 #[v0] W fun e w' => e = .returned (.bool q) ∧ Below W.heap.size W w') := by
    intro W hW; rw [hq]; exact sDims_any v0 us rows b0 W (h0.below hW)
  obtain ⟨n, hn⟩ : ∃ n, n = rows.length := ⟨_, rfl⟩
  obtain ⟨m, hm⟩ : ∃ m, m = ps.length := ⟨_, rfl⟩
  have HIN : Hid (∀ k, k < n → ∀ W : World, Below w.heap.size w W → W.ownsRow b0 2 1 (vl us k) (ri rows k).length (cI (ri rows k))) := fun k hk W hW => own_below (h0.inner k (by have := h0.len; omega)) hW
  obtain ⟨a, c, rfl, hv⟩ := h0.vals
  rw [← hn] at hv HDo ⊢
  rw [← hm] at h1
  obtain ⟨a', c', rfl⟩ := own_shape h1
  have H5 := hidL0 hv
  have HP : Hid (∀ k, k < m → ∃ g, a' = some ⟨g, 0, none⟩ ∧ w.cell? ⟨g, k, none⟩ = some (.int .i64 (fi ps k))) := by
    intro k hk
    obtain ⟨g, cc, e⟩ := own_some h1 (by omega)
    cases e
    exact ⟨g, rfl, own_int h1 hm.symm k hk⟩
  have HN := hidL0 hn
  have HM := hidL0 hm
  clear h0 h1 hv hn hm hq
  have no : (q = false ∨ n ≠ m) → Hid (ansAlike rows ps = []) := fun h => ansAlike_no (by rw [← HQ.out, ← HN.out, ← HM.out]; exact h)
  cases q
  · rw [(no (.inl rfl)).out]
    clear no
    go_enter Try.func14, Try.ntmps14
    go_wp2_with fail
    refine (HDo.out _ (Below.refl _ _)).mono ?_
    rintro e w1 ⟨rfl, hb⟩
    go_wp2
    go_ret
    exact ⟨_, 2, rfl, by simpa using World.ownsRow_lit w1 (base := w.heap.size) (e := 2) (size := 1) #[] 0 hb.size (Nat.zero_le _) rfl, hb.alloc hb.size _⟩
  · by_cases hnm : n = m
    · subst hnm
      clear no
      have HA : Hid (ansAlike rows ps = alikeF rows ps n) := by show _ = _; rw [HN.out]; exact ansAlike_yes HQ.out.symm (by rw [← HN.out]; exact HM.out)
      have hnn : ((n : Int) != (n : Int)) = false := by simp
      have n6 : n ≤ 6 := by have := (dimsB_out HQ.out.symm).1.2; have := HN.out; omega
      go_enter Try.func14, Try.ntmps14
      go_wp2_with fail
      refine (HDo.out _ (Below.refl _ _)).mono ?_
      rintro e w1 ⟨rfl, hb1⟩
      have B1 := hidL0 hb1
      clear hb1 HDo
      go_upto_region 4 with fail
      obtain ⟨X, hX⟩ : ∃ X, X = w1.alloc (.cells #[.int .i64 0, .int .i64 0, .int .i64 0, .int .i64 0, .int .i64 0] 2) := ⟨_, rfl⟩
      have O0 : Hid (X.ownsRow w.heap.size 2 1 (.slice (some ⟨w1.heap.size, 0, none⟩) 5 5) (alikeF rows ps 0).length ((alikeF rows ps 0).map (Value.int .i64))) := by
        show World.ownsRow _ _ _ _ _ _ _
        rw [hX]
        simpa [alikeF] using World.ownsRow_lit w1 (base := w.heap.size) (e := 2) (size := 1) #[.int .i64 0, .int .i64 0, .int .i64 0, .int .i64 0, .int .i64 0] 5 B1.out.size (by decide) rfl
      have B2 : Hid (Below w.heap.size w X) := by show Below _ _ _; rw [hX]; exact B1.out.alloc B1.out.size _
      rw [← hX]
      clear B1 hX
      go_wp2
      go_loopw [5, 6] (fun o i wr => ∃ (k : Nat) (et : TypeId), k ≤ n ∧ i = .int .i64 k ∧ Hid (wr.ownsRow w.heap.size et 1 o (alikeF rows ps k).length ((alikeF rows ps k).map (Value.int .i64))) ∧ Hid (Below w.heap.size w wr)) (fun _ i _ => n - (intOf i).toNat)
      case atStart => exact ⟨0, 2, Nat.zero_le _, rfl, O0.out, B2.out⟩
      case round =>
        clear O0 B2
        obtain ⟨k, et, hk, rfl, hO, hB⟩ := hrel
        by_cases hlt : k < n
        · obtain ⟨g, rfl, c1⟩ := H5.out k hlt
          obtain ⟨g', rfl, c2⟩ := HP.out k hlt
          replace c1 := cell_keep hB.out c1
          replace c2 := cell_keep hB.out c2
          have HIk := hidL0 (fun W (hW : Below wr.heap.size wr W) => own_below (HIN.out k hlt _ hB.out) hW)
          obtain ⟨x, hx⟩ : ∃ x, x = vl us k := ⟨_, rfl⟩
          obtain ⟨p, hp⟩ : ∃ p, p = fi ps k := ⟨_, rfl⟩
          have HPk := hidL0 hp
          rw [← hx] at c1 HIk
          rw [← hp] at c2
          obtain ⟨r1, hr1⟩ : ∃ r, r = ansDimPower (ri rows k) p := ⟨_, rfl⟩
          obtain ⟨r2, hr2⟩ : ∃ r, r = alikeF rows ps (k + 1) := ⟨_, rfl⟩
          have HR2 := hidL0 hr2
          have C1 : Hid (∀ W : World, Below wr.heap.size wr W → Calls Try.prog 37 #[x, .int .i64 p] W fun e w' => RowP W r1 e w') := by
            intro W hW; rw [hr1]; exact sDimPower_any x (ri rows k) p b0 2 W (HIk.out W hW)
          obtain ⟨o, ho⟩ : ∃ o, o = u5 := ⟨_, rfl⟩
          have C2 : Hid (∀ (W : World) (y : Value) (b : Nat) (ey : TypeId), Below wr.heap.size wr W → W.ownsRow b ey 1 y r1.length (r1.map (Value.int .i64)) → Calls Try.prog 36 #[u5, y] W fun e w' => RowP W r2 e w') := by
            intro W y b ey hW hy
            rw [hr2]
            simp only [alikeF]
            rw [← HPk.out, ← hr1]
            exact sDimTimes_any _ y _ _ _ _ _ _ W (own_below hO.out hW) hy
          have hr5 : r2.length ≤ 1000000000 := by rw [hr2]; exact alikeF_len _ _ _
          have HZ : Hid (r2.length = 0 → ansAlike rows ps = r2) := by
            intro hz
            have e1 : alikeF rows ps (k + 1) = [] := by rw [← hr2]; exact List.eq_nil_of_length_eq_zero hz
            rw [HA.out, hr2, e1]
            have := alikeF_nil e1 (n - (k + 1))
            rw [show k + 1 + (n - (k + 1)) = n by omega] at this
            exact this
          have hsz := hB.out.size
          clear hx hp hr1 hr2 ho
          go_wp2
          go_region_with (first | (go_at_call 37; refine (C1.out _ (by first | exact Below.refl _ _ | exact (Below.refl _ _).drew | exact below_drewN (Below.refl _ _) _)).mono ?_; rintro e x1 ⟨y, ey, rfl, oy, hb1⟩; have K1 : Below wr.heap.size wr x1 := Below.trans (by first | exact Below.refl _ _ | exact (Below.refl _ _).drew | exact below_drewN (Below.refl _ _) _) (hb1.mono (by simp))) | (go_at_call 36; refine (C2.out _ y _ ey (by first | exact K1 | exact K1.drew | exact below_drewN K1 _) (by first | exact oy | exact own_below oy ((Below.refl _ _).drew) | exact own_drewN oy _)).mono ?_; rintro e x2 ⟨z, ez, rfl, oz, hb2⟩; have K2 : Below wr.heap.size wr x2 := Below.trans (by first | exact K1 | exact K1.drew | exact below_drewN K1 _) (hb2.mono (by have := K1.size; simpa using this)); replace oz := own_le oz (by have h7 := K1.size; simp; exact Nat.le_trans hsz h7); obtain ⟨za, zc, rfl⟩ := own_shape oz))
          all_goals
            have OZ := hidL0 oz
            have KB := hidL0 (hB.out.trans (K2.mono hsz))
            clear oz hb1 hb2 K1 K2 oy
            by_cases hz : r2.length = 0
            · obtain rfl : r2 = [] := List.eq_nil_of_length_eq_zero hz
              have e9 := HZ.out rfl
              have OZ2 : Hid (x2.ownsRow w.heap.size ez 1 (.slice za 0 zc) 0 []) := OZ.out
              clear hz HZ HR2 C1 C2
              simp only [List.length_nil]
              go_wp2
              go_ret
              exact ⟨_, ez, rfl, by rw [e9]; exact OZ2.out, KB.out⟩
            · have hzi : ¬ ((r2.length : Nat) : Int) = 0 := by omega
              go_wp2
              go_roundw
              case rel => exact ⟨k + 1, ez, by omega, by go_num, by rw [← HR2.out]; exact OZ.out, KB⟩
              case measure => simp [intOf]; omega
        · obtain rfl : k = n := by omega
          go_wp2
          go_ret
          exact ⟨_, et, rfl, by rw [HA.out]; exact hO.out, hB.out⟩
    · rw [(no (.inr hnm)).out]
      clear no
      have hne : ((m : Int) != (n : Int)) = true := by simp; omega
      go_enter Try.func14, Try.ntmps14
      go_wp2_with fail
      refine (HDo.out _ (Below.refl _ _)).mono ?_
      rintro e w1 ⟨rfl, hb⟩
      go_wp2
      go_ret
      exact ⟨_, 2, rfl, by simpa using World.ownsRow_lit w1 (base := w.heap.size) (e := 2) (size := 1) #[] 0 hb.size (Nat.zero_le _) rfl, hb.alloc hb.size _⟩
end Go.Proofs.Ytbbkejfcheobaak
