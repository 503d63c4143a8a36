/- The walks of DimTimes, DimPower: the model's. -/
import Derived.Test.YtijdggcfjkfgcalDimW5
import Derived.IntWalk
namespace Go.Proofs.Ytijdggcfjkfgcal
open Go.RowKit Go.Proofs.Ytijdggcfjkfgcal.RM

/-- the same, from a base on -/
def RowQ (base : Nat) (w : World) (rs : List Int) (x : Ending) (w' : World) : Prop := ∃ v et, x = .returned v ∧ w'.ownsRow base et 1 v rs.length (rs.map (Value.int .i64)) ∧ Below w.heap.size w w'

set_option maxRecDepth 100000 in
set_option maxHeartbeats 1000000 in
theorem none_any (v : Value) (ys : List Int) (base : Nat) (et : TypeId) (w : World) (h : w.ownsRow base et 1 v ys.length (ys.map (Value.int .i64))) (hbs : base ≤ w.heap.size) :
    Calls Try.prog 75 #[v] w fun e w' => RowQ base w (dimN ys) e w' := by
  have HD := hidD (sDimOk_any v ys base et w h)
  have H := hidD h
  obtain ⟨q, hq⟩ : ∃ q, q = dimB ys := ⟨_, rfl⟩
  have HQ := hidD hq
  clear hq h
  cases q
  · have HN : Hid (dimN ys = []) := by show _ = _; unfold dimN; rw [← HQ.out]; rfl
    go_enter Try.func75, Try.ntmps75
    go_wp2_with (go_at_call 35; refine (HD.out).mono ?_; rintro x w1 ⟨rfl, m, rfl⟩; rw [← HQ.out])
    have h4 := World.ownsRow_lit (w.drewN m) (base := base) (e := 2) (size := 1) #[] 0 (by simpa using hbs) (Nat.zero_le _) rfl
    go_ret
    refine ⟨_, 2, rfl, ?_, (below_drewN (Below.refl _ _) m).alloc (by simp) _⟩
    rw [HN.out]
    simpa using h4
  · have HN : Hid (dimN ys = ys) := by show _ = _; unfold dimN; rw [← HQ.out]; rfl
    go_enter Try.func75, Try.ntmps75
    go_wp2_with (go_at_call 35; refine (HD.out).mono ?_; rintro x w1 ⟨rfl, m, rfl⟩; rw [← HQ.out])
    go_ret
    refine ⟨v, et, rfl, ?_, below_drewN (Below.refl _ _) m⟩
    rw [HN.out]
    exact own_below H.out (below_drewN (Below.refl _ _) m)
theorem zip_at (a b : List Int) (k : Nat) (ha : k < a.length) (hb : k < b.length) : (List.zipWith (· + ·) a b).take (k + 1) = (List.zipWith (· + ·) a b).take k ++ [a[k]?.getD 0 + b[k]?.getD 0] := by
  rw [List.take_add_one, List.getElem?_eq_getElem (by rw [List.length_zipWith]; omega)]
  simp [ha, hb]
theorem map_at (a : List Int) (n : Int) (k : Nat) (ha : k < a.length) : (a.map (· * n)).take (k + 1) = (a.map (· * n)).take k ++ [a[k]?.getD 0 * n] := by
  rw [List.take_add_one, List.getElem?_eq_getElem (by rw [List.length_map]; omega)]
  simp [ha]
theorem dim_at {ys : List Int} (h : dimB ys = true) : ys.length = 5 ∧ ∀ k, k < 5 → -9 ≤ ys[k]?.getD 0 ∧ ys[k]?.getD 0 ≤ 9 := by
  unfold dimB at h
  rw [Bool.and_eq_true, decide_eq_true_eq, List.all_eq_true] at h
  refine ⟨h.1, fun k hk => ?_⟩
  have hl : k < ys.length := by omega
  rw [List.getElem?_eq_getElem hl]
  exact in9_out (h.2 _ (List.getElem_mem hl))

set_option maxRecDepth 100000 in
set_option maxHeartbeats 2000000 in
theorem sDimTimes_in (v0 v1 : Value) (ys0 ys1 : List Int) (w : World) (h0 : DimIn w v0 ys0) (h1 : DimIn w v1 ys1) :
    Calls Try.prog 48 #[v0, v1] w fun e w' => RowP w (ansDimTimes ys0 ys1) e w' := by
  obtain ⟨i0, hi, hz0, hz1, hz2⟩ := info_parts infoI
  have H0 := hidD h0
  have H1 := hidD h1
  obtain ⟨q0, hq0⟩ : ∃ q, q = dimB ys0 := ⟨_, rfl⟩
  obtain ⟨q1, hq1⟩ : ∃ q, q = dimB ys1 := ⟨_, rfl⟩
  have HQ0 := hidD hq0
  have HQ1 := hidD hq1
  have b0 : ∀ (u : World) (o : Obj), Below u.heap.size u (u.alloc o) := fun u o => (Below.refl _ _).alloc (Nat.le_refl _) o
  have L0 := World.ownsRow_lit w (base := w.heap.size) (e := 2) (size := 1) #[] 0 (Nat.le_refl _) (Nat.zero_le _) rfl
  have HL0 := hidD L0
  clear hq0 hq1 L0 h0 h1
  cases q0
  · have HN : Hid (ansDimTimes ys0 ys1 = []) := ansT_no (.inl HQ0.out.symm)
    go_enter Try.func48, Try.ntmps48
    go_wp2_with (go_at_call 35; refine Calls.mono (sDimOk_in _ ys0 _ ?_) ?_; exact DimIn.below H0.out (b0 _ _); rintro x w1 ⟨rfl, m, rfl⟩; rw [← HQ0.out])
    go_ret
    refine ⟨_, 2, rfl, ?_, below_drewN (b0 _ _) _⟩
    rw [HN.out]
    exact own_below HL0.out (below_drewN (Below.refl _ _) _)
  cases q1
  · have HN : Hid (ansDimTimes ys0 ys1 = []) := ansT_no (.inr HQ1.out.symm)
    go_enter Try.func48, Try.ntmps48
    go_wp2_with (first | (go_at_call 35; refine Calls.mono (sDimOk_in _ ys0 _ ?_) ?_; exact DimIn.below H0.out (b0 _ _); rintro x w1 ⟨rfl, m, rfl⟩; rw [← HQ0.out]) | (go_at_call 35; refine Calls.mono (sDimOk_in _ ys1 _ ?_) ?_; exact DimIn.below H1.out (below_drewN (b0 _ _) _); rintro x w1 ⟨rfl, m2, rfl⟩; rw [← HQ1.out]))
    go_ret
    refine ⟨_, 2, rfl, ?_, below_drewN (b0 _ _) _⟩
    rw [HN.out]
    exact own_below HL0.out (below_drewN (Below.refl _ _) _)
  obtain ⟨n0, r0⟩ := dim_at HQ0.out.symm
  obtain ⟨n1, r1⟩ := dim_at HQ1.out.symm
  obtain ⟨base0, e0, H0⟩ := H0.out.five n0
  replace H0 := hidD H0
  obtain ⟨base1, e1, H1⟩ := H1.out.five n1
  replace H1 := hidD H1
  obtain ⟨g0, c0, rfl⟩ := own_some H0.out (by omega)
  obtain ⟨g1, c1, rfl⟩ := own_some H1.out (by omega)
  have HC0 : Hid (∀ j, j < 5 → w.cell? ⟨g0, j, none⟩ = some (.int .i64 (ys0[j]?.getD 0))) := fun j hj => own_int H0.out rfl j (by omega)
  have HC1 : Hid (∀ j, j < 5 → w.cell? ⟨g1, j, none⟩ = some (.int .i64 (ys1[j]?.getD 0))) := fun j hj => own_int H1.out rfl j (by omega)
  have hg0 : g0 < w.heap.size := (H0.out.lt g0 rfl).2
  have hg1 : g1 < w.heap.size := (H1.out.lt g1 rfl).2
  obtain ⟨l0, hl0⟩ : ∃ n, n = ys0.length := ⟨_, rfl⟩
  obtain ⟨l1, hl1⟩ : ∃ n, n = ys1.length := ⟨_, rfl⟩
  have HN0 := hidD hl0
  have HN1 := hidD hl1
  have HZ0 : Hid (w.ownsRow base0 e0 1 (.slice (some ⟨g0, 0, none⟩) 5 c0) ys0.length (ys0.map (Value.int .i64))) := by
    have h := H0.out
    rw [show (Value.slice (some ⟨g0, 0, none⟩) ys0.length c0) = .slice (some ⟨g0, 0, none⟩) 5 c0 by rw [n0]] at h
    exact h
  have HZ1 : Hid (w.ownsRow base1 e1 1 (.slice (some ⟨g1, 0, none⟩) 5 c1) ys1.length (ys1.map (Value.int .i64))) := by
    have h := H1.out
    rw [show (Value.slice (some ⟨g1, 0, none⟩) ys1.length c1) = .slice (some ⟨g1, 0, none⟩) 5 c1 by rw [n1]] at h
    exact h
  rw [← hl0] at n0 ⊢
  rw [← hl1] at n1 ⊢
  have HR0 : Hid (∀ k, k < 5 → -9 ≤ ys0[k]?.getD 0 ∧ ys0[k]?.getD 0 ≤ 9) := r0
  have HR1 : Hid (∀ k, k < 5 → -9 ≤ ys1[k]?.getD 0 ∧ ys1[k]?.getD 0 ≤ 9) := r1
  have HA : Hid (ansDimTimes ys0 ys1 = dimN (List.zipWith (· + ·) ys0 ys1)) := by show _ = _; unfold ansDimTimes; rw [← HQ0.out, ← HQ1.out]; rfl
  obtain ⟨zs, hzs⟩ : ∃ zs, zs = List.zipWith (· + ·) ys0 ys1 := ⟨_, rfl⟩
  have HZ := hidD hzs
  rw [HA.out, ← hzs]
  subst n0 n1
  clear hl0 hl1 r0 r1 hzs H0 H1
  go_enter Try.func48, Try.ntmps48
  go_wp2_with (first | (go_at_call 35; refine Calls.mono (sDimOk_in _ ys0 _ ?_) ?_; exact DimIn.of (own_below HZ0.out (b0 _ _)); rintro x w1 ⟨rfl, m, rfl⟩; rw [← HQ0.out]) | (go_at_call 35; refine Calls.mono (sDimOk_in _ ys1 _ ?_) ?_; exact DimIn.of (own_below HZ1.out (below_drewN (b0 _ _) _)); rintro x w1 ⟨rfl, m2, rfl⟩; rw [← HQ1.out]))
  go_loopw [5, 6] (fun o i wr => ∃ (r : Value) (k : Nat), k ≤ 5 ∧ i = .int .i64 k ∧ r = o ∧ Hid (wr.ownsRow w.heap.size 2 1 r k ((zs.take k).map (Value.int .i64))) ∧ Hid (Below w.heap.size w wr)) (fun _ i _ => 5 - (intOf i).toNat)
  case atStart => exact ⟨_, 0, Nat.zero_le _, rfl, rfl, own_below HL0.out (below_drewN (Below.refl _ _) _), below_drewN (b0 _ _) _⟩
  case round =>
    obtain ⟨r, k, hk, rfl, rfl, hO, hB⟩ := hrel
    have hsz := hB.out.size
    by_cases hlt : k < 5
    · have d0 := (hB.out.cell (p := ⟨g0, k, none⟩) hg0).trans (HC0.out k hlt)
      have d1 := (hB.out.cell (p := ⟨g1, k, none⟩) hg1).trans (HC1.out k hlt)
      obtain ⟨x1, x2⟩ := HR0.out k hlt
      obtain ⟨y1, y2⟩ := HR1.out k hlt
      have hzk := zip_at ys0 ys1 k (by have := HN0.out; omega) (by have := HN1.out; omega)
      obtain ⟨x, hx⟩ : ∃ x, x = ys0[k]?.getD 0 := ⟨_, rfl⟩
      obtain ⟨y, hy⟩ : ∃ x, x = ys1[k]?.getD 0 := ⟨_, rfl⟩
      rw [← hx] at d0 x1 x2 hzk
      rw [← hy] at d1 y1 y2 hzk
      rw [← HZ.out] at hzk
      have HZK := hidD hzk
      obtain ⟨ao, co, rfl⟩ := own_shape hO.out
      have HW := hidD (IntWalk.i64_in (x + y) ⟨by omega, by omega⟩)
      clear hx hy hzk
      go_wp2
      go_region_law (refine step_append_own rfl (.tmp 21) (.tmp 31) 22 rfl w.heap.size 2 i0 (.int .i64 0) 1 8 Try.underlying22 hi hz0 hz1 hz2 rfl (by decide) _ k _ (by simp [Act.eval]) (own_below hO.out (by first | exact (b0 _ _).drew | exact b0 _ _)) ⟨wr.heap.size, 0, none⟩ 1 1 [.int .i64 (IntKind.i64.wrap (x + y))] (by simp [Act.eval]) rfl (fun j u h => by first | exact cell_dr (cell_one_new wr _ _ j u h) | exact cell_one_new wr _ _ j u h) (by simp [Value.oneCell']) (by unfold maxLen; omega) (by omega) (by simp; omega) ?_; intro v' w3 hown' hgrow)
      all_goals go_wp2
      all_goals
        go_roundw
        case rel =>
          rw [HW.out] at hown'
          refine ⟨v', k + 1, by omega, by go_num, rfl, ?_, (hB.out.trans ((b0 wr (.cells #[.int .i64 (IntKind.i64.wrap (x + y))] 2)).mono hsz)).drew.grown hgrow (by simp; omega) (fun b e => by have := (hO.out.lt b e).1; exact this)⟩
          show World.ownsRow _ _ _ _ _ _ _
          rw [HZK.out, List.map_append]
          exact hown'
        case measure => simp [intOf]; omega
    · obtain rfl : k = 5 := by omega
      have hzl : zs.length = 5 := by rw [HZ.out, List.length_zipWith, ← HN0.out, ← HN1.out]; rfl
      have o5 := hO.out
      rw [List.take_of_length_le (by omega)] at o5
      have HNN := hidD (none_any r zs w.heap.size 2 wr (by rw [hzl]; exact o5) hsz)
      clear o5 hzl
      go_wp2_with (go_at_call 75; refine (HNN.out).mono ?_; rintro e w4 ⟨v', et, rfl, o, hb⟩)
      go_ret
      exact ⟨v', et, rfl, o, hB.out.trans (hb.mono hsz)⟩
theorem sDimTimes_any (v0 v1 : Value) (ys0 ys1 : List Int) (base0 base1 : Nat) (e0 e1 : TypeId) (w : World) (h0 : w.ownsRow base0 e0 1 v0 ys0.length (ys0.map (Value.int .i64))) (h1 : w.ownsRow base1 e1 1 v1 ys1.length (ys1.map (Value.int .i64))) :
    Calls Try.prog 48 #[v0, v1] w fun e w' => RowP w (ansDimTimes ys0 ys1) e w' := sDimTimes_in v0 v1 ys0 ys1 w (.of h0) (.of h1)

set_option maxRecDepth 100000 in
set_option maxHeartbeats 2000000 in
theorem sDimPower_in (v0 : Value) (ys0 : List Int) (n : Int) (w : World) (h0 : DimIn w v0 ys0) :
    Calls Try.prog 59 #[v0, .int .i64 n] w fun e w' => RowP w (ansDimPower ys0 n) e w' := by
  obtain ⟨i0, hi, hz0, hz1, hz2⟩ := info_parts infoI
  have H0 := hidD h0
  obtain ⟨q0, hq0⟩ : ∃ q, q = dimB ys0 := ⟨_, rfl⟩
  have HQ0 := hidD hq0
  have b0 : ∀ (u : World) (o : Obj), Below u.heap.size u (u.alloc o) := fun u o => (Below.refl _ _).alloc (Nat.le_refl _) o
  have L0 := World.ownsRow_lit w (base := w.heap.size) (e := 2) (size := 1) #[] 0 (Nat.le_refl _) (Nat.zero_le _) rfl
  have HL0 := hidD L0
  clear hq0 L0 h0
  cases q0
  · have HN : Hid (ansDimPower ys0 n = []) := ansP_no HQ0.out.symm
    go_enter Try.func59, Try.ntmps59
    go_wp2_with (go_at_call 35; refine Calls.mono (sDimOk_in _ ys0 _ ?_) ?_; exact DimIn.below H0.out (b0 _ _); rintro x w1 ⟨rfl, m, rfl⟩; rw [← HQ0.out])
    go_ret
    refine ⟨_, 2, rfl, ?_, below_drewN (b0 _ _) _⟩
    rw [HN.out]
    exact own_below HL0.out (below_drewN (Below.refl _ _) _)
  obtain ⟨n0, r0⟩ := dim_at HQ0.out.symm
  obtain ⟨base0, e0, H0⟩ := H0.out.five n0
  replace H0 := hidD H0
  obtain ⟨g0, c0, rfl⟩ := own_some H0.out (by omega)
  have HC0 : Hid (∀ j, j < 5 → w.cell? ⟨g0, j, none⟩ = some (.int .i64 (ys0[j]?.getD 0))) := fun j hj => own_int H0.out rfl j (by omega)
  have hg0 : g0 < w.heap.size := (H0.out.lt g0 rfl).2
  obtain ⟨l0, hl0⟩ : ∃ n, n = ys0.length := ⟨_, rfl⟩
  have HN0 := hidD hl0
  have HZ0 : Hid (w.ownsRow base0 e0 1 (.slice (some ⟨g0, 0, none⟩) 5 c0) ys0.length (ys0.map (Value.int .i64))) := by
    have h := H0.out
    rw [show (Value.slice (some ⟨g0, 0, none⟩) ys0.length c0) = .slice (some ⟨g0, 0, none⟩) 5 c0 by rw [n0]] at h
    exact h
  rw [← hl0] at n0 ⊢
  have HR0 : Hid (∀ k, k < 5 → -9 ≤ ys0[k]?.getD 0 ∧ ys0[k]?.getD 0 ≤ 9) := r0
  obtain ⟨zs, hzs⟩ : ∃ zs, zs = ys0.map (· * n) := ⟨_, rfl⟩
  have HZ := hidD hzs
  obtain ⟨rs, hrs⟩ : ∃ rs, rs = ansDimPower ys0 n := ⟨_, rfl⟩
  have HRS := hidD hrs
  rw [← hrs]
  subst n0
  clear hl0 r0 hzs H0 hrs
  go_enter Try.func59, Try.ntmps59
  go_wp2_with (go_at_call 35; refine Calls.mono (sDimOk_in _ ys0 _ ?_) ?_; exact DimIn.of (own_below HZ0.out (b0 _ _)); rintro x w1 ⟨rfl, m, rfl⟩; rw [← HQ0.out])
  go_loopw [5, 6] (fun o i wr => ∃ (r : Value) (k : Nat), k ≤ 5 ∧ i = .int .i64 k ∧ r = o ∧ Hid (wr.ownsRow w.heap.size 2 1 r k ((zs.take k).map (Value.int .i64))) ∧ Hid (Below w.heap.size w wr) ∧ Hid (∀ j, j < k → ys0[j]?.getD 0 = 0 ∨ in9 n = true)) (fun _ i _ => 5 - (intOf i).toNat)
  case atStart => exact ⟨_, 0, Nat.zero_le _, rfl, rfl, own_below HL0.out (below_drewN (Below.refl _ _) _), below_drewN (b0 _ _) _, fun j hj => absurd hj (Nat.not_lt_zero _)⟩
  case round =>
    obtain ⟨r, k, hk, rfl, rfl, hO, hB, hP⟩ := hrel
    have hsz := hB.out.size
    by_cases hlt : k < 5
    · have d0 := (hB.out.cell (p := ⟨g0, k, none⟩) hg0).trans (HC0.out k hlt)
      obtain ⟨x1, x2⟩ := HR0.out k hlt
      have hzk := map_at ys0 n k (by have := HN0.out; omega)
      obtain ⟨x, hx⟩ : ∃ x, x = ys0[k]?.getD 0 := ⟨_, rfl⟩
      have HX := hidD hx
      rw [← hx] at d0 x1 x2 hzk
      rw [← HZ.out] at hzk
      have HZK := hidD hzk
      obtain ⟨ao, co, rfl⟩ := own_shape hO.out
      clear hx hzk
      by_cases x0 : x = 0
      · subst x0
        go_wp2_with (at_builtin; refine wpList_append_own _ rfl _ _ 22 rfl w.heap.size 2 i0 (.int .i64 0) 1 8 Try.underlying22 hi hz0 hz1 hz2 rfl (by decide) _ _ _ rfl (own_below hO.out (b0 _ _)) ⟨wr.heap.size, 0, none⟩ 1 1 [.int .i64 0] rfl rfl (cell_one_new _ _ _) (by simp [Value.oneCell']) (by unfold maxLen; omega) (by omega) (by simp; omega) ?_; intro v' w3 hown' hgrow _)
        go_roundw
        case rel =>
          refine ⟨v', k + 1, by omega, by go_num, rfl, ?_, (hB.out.trans ((b0 wr (.cells #[.int .i64 0] 2)).mono hsz)).grown hgrow (by simp; omega) (fun b e => by have := (hO.out.lt b e).1; exact this), fun j hj => ?_⟩
          · show World.ownsRow _ _ _ _ _ _ _
            rw [HZK.out, List.map_append, Int.zero_mul]
            exact hown'
          · by_cases e : j = k
            · subst e; exact .inl HX.out.symm
            · exact hP.out j (by omega)
        case measure => simp [intOf]; omega
      · by_cases hn : in9 n = true
        · have hn9 := in9_out hn
          have mb := mul_b ⟨x1, x2⟩ hn9
          have HNI := hidD hn
          clear hn
          obtain ⟨mb1, mb2⟩ := mb
          go_wp2_with (first | (go_at_call 57; refine (in_any _ _ _ _).mono ?_; rintro e w' ⟨rfl, hw⟩; obtain rfl := hw.symm; rw [inB9, HNI.out]) | (at_builtin; refine wpList_append_own _ rfl _ _ 22 rfl w.heap.size 2 i0 (.int .i64 0) 1 8 Try.underlying22 hi hz0 hz1 hz2 rfl (by decide) _ _ _ rfl (own_below hO.out (b0 _ _)) ⟨wr.heap.size, 0, none⟩ 1 1 [.int .i64 (x * n)] rfl rfl (cell_one_new _ _ _) (by simp [Value.oneCell']) (by unfold maxLen; omega) (by omega) (by simp; omega) ?_; intro v' w3 hown' hgrow _))
          go_roundw
          case rel =>
            refine ⟨v', k + 1, by omega, by go_num, rfl, ?_, (hB.out.trans ((b0 wr (.cells #[.int .i64 (x * n)] 2)).mono hsz)).grown hgrow (by simp; omega) (fun b e => by have := (hO.out.lt b e).1; exact this), fun j hj => .inr HNI.out⟩
            show World.ownsRow _ _ _ _ _ _ _
            rw [HZK.out, List.map_append]
            exact hown'
          case measure => simp [intOf]; omega
        · rw [Bool.not_eq_true] at hn
          have HNI := hidD hn
          have hrs2 : rs = [] := by
            rw [HRS.out]
            unfold ansDimPower
            rw [← HQ0.out]
            have : (ys0.all fun x => decide (x = 0) || in9 n) = false := by
              rw [← Bool.not_eq_true, List.all_eq_true]
              intro ha
              have hl : k < ys0.length := by have := HN0.out; omega
              have := ha ys0[k] (List.getElem_mem hl)
              have e1 := HX.out
              rw [List.getElem?_eq_getElem hl] at e1
              rw [← show x = ys0[k] from e1, hn] at this
              simp at this
              exact x0 this
            rw [this]
            simp
          have HR2 := hidD hrs2
          clear hn hrs2
          go_wp2_with (go_at_call 57; refine (in_any _ _ _ _).mono ?_; rintro e w' ⟨rfl, hw⟩; obtain rfl := hw.symm; rw [inB9, HNI.out])
          have h4 := World.ownsRow_lit wr (base := w.heap.size) (e := 2) (size := 1) #[] 0 hsz (Nat.zero_le _) rfl
          go_ret
          refine ⟨_, 2, rfl, ?_, hB.out.alloc hsz _⟩
          rw [HR2.out]
          exact h4
    · obtain rfl : k = 5 := by omega
      have hzl : zs.length = 5 := by rw [HZ.out, List.length_map, ← HN0.out]
      have hrs2 : rs = dimN zs := by
        rw [HRS.out, HZ.out]
        unfold ansDimPower
        rw [← HQ0.out]
        have : (ys0.all fun x => decide (x = 0) || in9 n) = true := by
          rw [List.all_eq_true]
          intro x hx
          obtain ⟨j, hj, rfl⟩ := List.mem_iff_getElem.1 hx
          have := hP.out j (by have := HN0.out; omega)
          rw [List.getElem?_eq_getElem hj] at this
          rcases this with h | h
          · simp [show ys0[j] = 0 from h]
          · simp [h]
        rw [this]
        rfl
      have HR2 := hidD hrs2
      have o5 := hO.out
      rw [List.take_of_length_le (by omega)] at o5
      have HNN := hidD (none_any r zs w.heap.size 2 wr (by rw [hzl]; exact o5) hsz)
      clear o5 hzl hrs2
      go_wp2_with (go_at_call 75; refine (HNN.out).mono ?_; rintro e w4 ⟨v', et, rfl, o, hb⟩)
      go_ret
      rw [← HR2.out] at o
      exact ⟨v', et, rfl, o, hB.out.trans (hb.mono hsz)⟩
theorem sDimPower_any (v0 : Value) (ys0 : List Int) (n : Int) (base0 : Nat) (e0 : TypeId) (w : World) (h0 : w.ownsRow base0 e0 1 v0 ys0.length (ys0.map (Value.int .i64))) :
    Calls Try.prog 59 #[v0, .int .i64 n] w fun e w' => RowP w (ansDimPower ys0 n) e w' := sDimPower_in v0 ys0 n w (.of h0)
end Go.Proofs.Ytijdggcfjkfgcal
