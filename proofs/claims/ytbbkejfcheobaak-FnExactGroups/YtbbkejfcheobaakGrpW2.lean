/- The walk of the program's least whole numbers of a row. -/
import Derived.Test.YtbbkejfcheobaakGrpMath
import Derived.Test.YtbbkejfcheobaakTabI0
namespace Go.Proofs.Ytbbkejfcheobaak
open Go.RowKit Go.Proofs.Ytbbkejfcheobaak.RM

theorem hidN {p : Prop} (h : p) : Hid p := h
/-- what is filled in when k numbers are there -/
def nmK (ps : List Fr) (k : Nat) : List Int := (List.range ps.length).map fun i => if i < k then nmF ps i else 0
def lwK (ps : List Fr) (k : Nat) : List Int := (List.range ps.length).map fun i => if i < k then (nmF ps i).tdiv (gdF ps ps.length) else nmF ps i
theorem nmK_len (ps : List Fr) (k : Nat) : (nmK ps k).length = ps.length := by simp [nmK]
theorem lwK_len (ps : List Fr) (k : Nat) : (lwK ps k).length = ps.length := by simp [lwK]
theorem nmK_zero (ps : List Fr) : nmK ps 0 = List.replicate ps.length 0 := by
  apply List.ext_getElem
  · simp [nmK]
  · intro i h1 h2
    simp [nmK]
theorem nmK_set (ps : List Fr) (k : Nat) : (nmK ps k).set k (nmF ps k) = nmK ps (k + 1) := by
  apply List.ext_getElem
  · simp [nmK]
  · intro i h1 h2
    simp only [nmK, List.getElem_set, List.getElem_map, List.getElem_range]
    by_cases e : k = i
    · subst e; rw [if_pos rfl, if_pos (by omega)]
    · rw [if_neg e]
      by_cases h3 : i < k
      · rw [if_pos h3, if_pos (by omega)]
      · rw [if_neg h3, if_neg (by omega)]
theorem nmK_all (ps : List Fr) : nmK ps ps.length = lwK ps 0 := by
  apply List.ext_getElem
  · simp [nmK, lwK]
  · intro i h1 h2
    have hi : i < ps.length := by simpa [nmK] using h1
    simp [nmK, lwK, hi]
theorem lwK_set (ps : List Fr) (k : Nat) : (lwK ps k).set k ((nmF ps k).tdiv (gdF ps ps.length)) = lwK ps (k + 1) := by
  apply List.ext_getElem
  · simp [lwK]
  · intro i h1 h2
    simp only [lwK, List.getElem_set, List.getElem_map, List.getElem_range]
    by_cases e : k = i
    · subst e; rw [if_pos rfl, if_pos (by omega)]
    · rw [if_neg e]
      by_cases h3 : i < k
      · rw [if_pos h3, if_pos (by omega)]
      · rw [if_neg h3, if_neg (by omega)]
theorem lwK_at (ps : List Fr) (k : Nat) (h : k < ps.length) : (lwK ps k)[k]?.getD 0 = nmF ps k := by simp [lwK, h]
theorem lwK_all (ps : List Fr) : lwK ps ps.length = lwF ps := by
  apply List.ext_getElem
  · simp [lwK, lwF]
  · intro i h1 h2
    have hi : i < ps.length := by simpa [lwK] using h1
    simp [lwK, lwF, hi]

set_option maxRecDepth 100000 in
set_option maxHeartbeats 4000000 in
theorem iLeast_any (v : Value) (ps : List Fr) (w : World) (h : RdR w v ps) (hs : Small ps) (hl : ps.length ≤ 1000) :
    Calls Try.prog 35 #[v] w fun e w' => ∃ u, e = .returned u ∧ w'.ownsRow w.heap.size 2 1 u ps.length ((lwF ps).map (Value.int .i64)) ∧ Below w.heap.size w w' := by
  have b0 : ∀ (u : World) (o : Obj), Below u.heap.size u (u.alloc o) := fun u o => (Below.refl _ _).alloc (Nat.le_refl _) o
  obtain ⟨i0, hi, hz0, hz1, hz2⟩ := info_parts infoI
  obtain ⟨a, c, rfl, h2, h3, h4, h5⟩ := h
  have H5 := hidN h5
  have HS := hidN hs
  obtain ⟨n, hn⟩ : ∃ n, n = ps.length := ⟨_, rfl⟩
  rw [← hn] at h5 hl ⊢
  have HN := hidN hn
  have hnn : 1 ≤ n := by obtain ⟨k, hk, _⟩ := hs.one; omega
  clear h5 h2 h3 h4 hs hn
  go_enter Try.func35, Try.ntmps35
  go_wp2
  go_loopw [3, 13] (fun m i wr => ∃ k : Nat, k ≤ n ∧ i = .int .i64 k ∧ m = .int .i64 (lcF ps k) ∧ Hid (Below w.heap.size w wr)) (fun _ i _ => n - (intOf i).toNat)
  case atStart => exact ⟨0, Nat.zero_le _, rfl, rfl, Below.refl _ _⟩
  case round =>
    obtain ⟨k, hk, rfl, rfl, hB⟩ := hrel
    have hsz := hB.out.size
    by_cases hlt : k < n
    · obtain ⟨b, off, rfl, c1, c2⟩ := H5.out k (by have := HN.out; omega)
      replace c1 := cell_keep hB.out c1
      replace c2 := cell_keep hB.out c2
      obtain ⟨l1, l2⟩ := lcF_small HS.out (k := k) (by have := HN.out; omega)
      obtain ⟨m1, m2⟩ := lcF_small HS.out (k := k + 1) (by have := HN.out; omega)
      have hd1 := HS.out.den k (by have := HN.out; omega)
      have hd2 : (fr ps k).2 ≤ 7085880 := by
        obtain ⟨D, d1, d2, d3⟩ := HS.out.dvd
        have := Int.le_of_dvd (by omega) (d3 k (by have := HN.out; omega))
        omega
      obtain ⟨q, hq1, hq2, hq3⟩ := tdiv_gcd (a := lcF ps k) hd1
      have hg0 : 0 < gcdi (lcF ps k) (fr ps k).2 := gcdi_pos_r _ _ (by omega)
      have hm : lcF ps (k + 1) = lcF ps k * (fr ps k).2.tdiv (gcdi (lcF ps k) (fr ps k).2) := rfl
      have hq4 : q ≤ 7085880 := by
        have : 1 * q ≤ gcdi (lcF ps k) (fr ps k).2 * q := Int.mul_le_mul_of_nonneg_right (by omega) (by omega)
        omega
      rw [hq2] at hm
      have hq6 : (fr ps k).2 / gcdi (lcF ps k) (fr ps k).2 = q := by rw [← Int.tdiv_eq_ediv_of_nonneg (by omega)]; exact hq2
      obtain ⟨l, hll⟩ : ∃ l, l = lcF ps k := ⟨_, rfl⟩
      obtain ⟨l', hll'⟩ : ∃ l, l = lcF ps (k + 1) := ⟨_, rfl⟩
      obtain ⟨G, hG⟩ : ∃ G, G = gcdi (lcF ps k) (fr ps k).2 := ⟨_, rfl⟩
      obtain ⟨p1, hp1⟩ : ∃ p, p = (fr ps k).1 := ⟨_, rfl⟩
      obtain ⟨p2, hp2⟩ : ∃ p, p = (fr ps k).2 := ⟨_, rfl⟩
      have HC : Hid (∀ u : World, Calls Try.prog 62 #[.int .i64 l, .int .i64 p2] u fun e w' => e = .returned (.int .i64 G) ∧ ∃ n, w' = u.drewN n) := by
        intro u
        rw [hG, hll, hp2]
        exact common_any _ _ u (by omega) (by omega) (by omega) (by omega)
      rw [← hG, ← hp2] at hq6
      rw [← hll] at l1 l2 hm ⊢
      rw [← hll'] at m1 m2 hm
      rw [← hG] at hg0
      rw [← hp1] at c1
      rw [← hp2] at c2 hd1 hd2
      have HLL := hidN (hll'.symm.trans hm)
      have hb1 : 1 ≤ l * q := by omega
      have hb2 : l * q ≤ 7085880 := by omega
      have hGn : ¬ G = 0 := by omega
      have HB := hB
      clear hll hG hp1 hp2 hq1 hq2 hll' hm m1 m2 hB
      go_upto_region 5 with fail
      obtain ⟨X, hX⟩ : ∃ X, X = wr.alloc (.cells #[.int .i64 p1, .int .i64 p2] 37) := ⟨_, rfl⟩
      obtain ⟨Z, hZ⟩ : ∃ Z, Z = wr.heap.size := ⟨_, rfl⟩
      have r1 : X.cell? ⟨Z, 1, none⟩ = some (.int .i64 p2) := by rw [hX, hZ]; simp [go_sem]
      replace HB := hidN (HB.out.trans (show Below w.heap.size wr X by rw [hX]; exact (b0 _ _).mono hsz))
      rw [← hX, ← hZ]
      clear hX hZ c1 c2
      go_region_with (go_at_call 62; refine (HC.out _).mono ?_; rintro e w2 ⟨rfl, nn, hw2⟩; have hb : Below X.heap.size X w2 := (by rw [hw2]; first | exact below_drewN (Below.refl _ _) _ | exact below_drewN ((Below.refl _ _).drew) _); have r1 := cell_later hb r1; clear hw2)
      all_goals go_wp2
      all_goals
        go_roundw
        case rel => exact ⟨k + 1, by omega, by go_num, by rw [hq6, show wrap64 (l * q) = l * q by unfold wrap64; omega, HLL.out], HB.out.trans (hb.mono HB.out.size)⟩
        case measure => simp [intOf]; omega
    · obtain rfl : k = n := by omega
      obtain ⟨l1, l2⟩ := lcF_small HS.out (k := k) (by have := HN.out; omega)
      have hl0 : ∀ j, j < k → ∃ x, (lcF ps k) / (fr ps j).2 = x ∧ nmF ps j = x * (fr ps j).1 ∧ 1 ≤ (fr ps j).2 := by
        intro j hj
        have hd1 := HS.out.den j (by have := HN.out; omega)
        refine ⟨_, rfl, ?_, hd1⟩
        unfold nmF
        rw [← HN.out, Int.tdiv_eq_ediv_of_nonneg (by omega)]
      obtain ⟨l, hll⟩ : ∃ l, l = lcF ps k := ⟨_, rfl⟩
      rw [← hll] at l1 l2 hl0 ⊢
      have HL0 := hidN hl0
      clear hl0 hll hk hlt
      go_wp2_with (at_make; refine wpList_make_full _ rfl _ _ 29 rfl wr.heap.size 2 i0 (.int .i64 0) 1 Try.underlying29 hi hz0 hz1 .i64 .i64 _ _ k rfl rfl rfl rfl (by rw [hz2]; omega) (by unfold maxLen; omega) (Nat.le_refl _) ?_; intro w1 hown hgrow)
      have o0 : w1.ownsRow wr.heap.size 2 1 (.slice (some ⟨wr.heap.size, 0, none⟩) k k) k ((nmK ps 0).map (Value.int .i64)) := by
        have e : (madeCells (Value.int .i64 0).cells (k * 1)).toList = (nmK ps 0).map (Value.int .i64) := by
          rw [show (Value.int .i64 0).cells = #[Value.int .i64 0] from rfl, Nat.mul_one, toList_madeCells_one]
          rw [nmK_zero, ← HN.out]; simp
        rw [← e]; exact hown
      have HB1 := hidN (hB.out.grown hgrow hsz (fun b e => by cases e))
      obtain ⟨S, hS⟩ : ∃ S, S = wr.heap.size := ⟨_, rfl⟩
      rw [← hS]
      rw [← hS] at o0
      have hwS : w.heap.size ≤ S := by omega
      have O0 := hidN o0
      clear hown hgrow hS o0 hB hsz
      go_loopw [7, 32] (fun d i wr2 => ∃ j : Nat, j ≤ k ∧ i = .int .i64 j ∧ d = .int .i64 (gdF ps j) ∧ Hid (wr2.ownsRow S 2 1 (.slice (some ⟨S, 0, none⟩) k k) k ((nmK ps j).map (Value.int .i64))) ∧ Hid (Below w.heap.size w wr2)) (fun _ i _ => k - (intOf i).toNat)
      case atStart => exact ⟨0, Nat.zero_le _, rfl, rfl, O0.out, HB1.out⟩
      case round =>
        clear O0 HB1
        obtain ⟨j, hj, rfl, rfl, hO, hB⟩ := hrel
        have hsz := hB.out.size
        obtain ⟨g1, g2, -⟩ := gdF_small HS.out j (by have := HN.out; omega)
        by_cases hlt : j < k
        · obtain ⟨b, off, rfl, c1, c2⟩ := H5.out j (by have := HN.out; omega)
          replace c1 := cell_keep hB.out c1
          replace c2 := cell_keep hB.out c2
          obtain ⟨x, hx1, hx2, hd1⟩ := HL0.out j hlt
          obtain ⟨n1, n2⟩ := nmF_small HS.out (k := j) (by have := HN.out; omega)
          have hgn : gdF ps (j + 1) = gcdi (gdF ps j) (nmF ps j) := rfl
          obtain ⟨y, hy⟩ : ∃ y, y = nmF ps j := ⟨_, rfl⟩
          obtain ⟨d, hdd⟩ : ∃ y, y = gdF ps j := ⟨_, rfl⟩
          obtain ⟨d', hdd'⟩ : ∃ y, y = gdF ps (j + 1) := ⟨_, rfl⟩
          obtain ⟨p1, hp1⟩ : ∃ p, p = (fr ps j).1 := ⟨_, rfl⟩
          obtain ⟨p2, hp2⟩ : ∃ p, p = (fr ps j).2 := ⟨_, rfl⟩
          rw [← hp1] at c1 hx2
          rw [← hp2] at c2 hx1 hd1
          rw [← hy] at n1 n2 hx2 hgn
          rw [← hdd] at g1 g2 hgn ⊢
          rw [← hdd'] at hgn
          have hval : wrap64 (l / p2 * p1) = y := by rw [hx1, ← hx2]; unfold wrap64; omega
          have HC : Hid (∀ u : World, Calls Try.prog 62 #[.int .i64 d, .int .i64 y] u fun e w' => e = .returned (.int .i64 d') ∧ ∃ n, w' = u.drewN n) := by
            intro u
            rw [hgn]
            exact common_any _ _ u (by omega) (by omega) (by omega) (by omega)
          have HYD := hidN (And.intro hy hdd')
          have hp2n : ¬ p2 = 0 := by omega
          have hcl := cI_len (nmK ps j)
          clear hy hdd hdd' hp1 hp2 hx1 hx2 hgn
          go_upto_region 11 with fail
          obtain ⟨X, hX⟩ : ∃ X, X = wr.alloc (.cells #[.int .i64 p1, .int .i64 p2] 37) := ⟨_, rfl⟩
          obtain ⟨Z, hZ⟩ : ∃ Z, Z = wr.heap.size := ⟨_, rfl⟩
          have r0 : X.cell? ⟨Z, 0, none⟩ = some (.int .i64 p1) := by rw [hX, hZ]; simp [go_sem]
          have r1 : X.cell? ⟨Z, 1, none⟩ = some (.int .i64 p2) := by rw [hX, hZ]; simp [go_sem]
          have OX : Hid (X.ownsRow S 2 1 (.slice (some ⟨S, 0, none⟩) k k) k ((nmK ps j).map (Value.int .i64))) := by show World.ownsRow _ _ _ _ _ _ _; rw [hX]; exact hO.out.alloc _
          replace hB := hidN (hB.out.trans (show Below w.heap.size wr X by rw [hX]; exact (b0 _ _).mono hsz))
          rw [← hX, ← hZ]
          have hZS : Z ≠ S := by have := (hO.out.lt S rfl).2; omega
          clear hX hZ c1 c2 hO
          have d1 := OX.out.cellAt j (by omega)
          rw [List.getElem?_eq_getElem (by rw [List.length_map, nmK_len, ← HN.out]; exact hlt)] at d1
          have f1 := OX.out.frozenAt j
          go_region
          all_goals rw [hval]
          all_goals
            have O4 : Hid ((X.setCell ⟨S, j, none⟩ (.int .i64 y)).ownsRow S 2 1 (.slice (some ⟨S, 0, none⟩) k k) k ((nmK ps (j + 1)).map (Value.int .i64))) := by
              show World.ownsRow _ _ _ _ _ _ _
              rw [← nmK_set, List.map_set, ← HYD.out.1]
              exact (OX.out.stored j (.int .i64 y)).1
            have B4 : Hid (Below w.heap.size w (X.setCell ⟨S, j, none⟩ (.int .i64 y))) := hB.out.setCell (p := ⟨S, j, none⟩) hwS _
            have c4 : (X.setCell ⟨S, j, none⟩ (.int .i64 y)).cell? ⟨S, j, none⟩ = some (.int .i64 y) := by
              have := O4.out.cellAt j (by omega)
              rw [this, List.getElem?_map, List.getElem?_eq_getElem (by rw [nmK_len, ← HN.out]; exact hlt)]
              simp [nmK, ← HYD.out.1]
            generalize X.setCell ⟨S, j, none⟩ (.int .i64 y) = X5 at O4 B4 c4 ⊢
            clear OX hB d1 f1 r0 r1 hval
            go_wp2_with fail
            refine (HC.out _).mono ?_
            rintro e w6 ⟨rfl, nn, hw6⟩
            have hb6 : Below X5.heap.size X5 w6 := by rw [hw6]; first | exact below_drewN ((Below.refl _ _).drew) _ | exact below_drewN (Below.refl _ _) _
            clear hw6
            go_wp2
            go_roundw
            case rel => exact ⟨j + 1, by omega, by go_num, by rw [HYD.out.2], own_below O4.out hb6, B4.out.trans (hb6.mono B4.out.size)⟩
            case measure => simp [intOf]; omega
        · obtain rfl : j = k := by omega
          have hgd := gdF_pos HS.out
          rw [← HN.out] at hgd
          have hOL : Hid (wr.ownsRow S 2 1 (.slice (some ⟨S, 0, none⟩) j j) j ((lwK ps 0).map (Value.int .i64))) := by
            show World.ownsRow _ _ _ _ _ _ _
            have := hO.out
            have e := nmK_all ps
            rw [← HN.out] at e
            rw [e] at this
            exact this
          obtain ⟨d, hdd⟩ : ∃ y, y = gdF ps j := ⟨_, rfl⟩
          have HDD : Hid (d = gdF ps ps.length) := by show _ = _; rw [← HN.out]; exact hdd
          rw [← hdd] at hgd g1 g2 ⊢
          clear hO hdd HL0 H5
          go_wp2
          go_loopw [56] (fun i wr3 => ∃ x : Nat, x ≤ j ∧ i = .int .i64 x ∧ Hid (wr3.ownsRow S 2 1 (.slice (some ⟨S, 0, none⟩) j j) j ((lwK ps x).map (Value.int .i64))) ∧ Hid (Below w.heap.size w wr3)) (fun i _ => j - (intOf i).toNat)
          case atStart => exact ⟨0, Nat.zero_le _, rfl, hOL.out, hB.out⟩
          case round =>
            clear hOL hB hsz
            obtain ⟨x, hx, rfl, hO, hB⟩ := hrel
            by_cases hlx : x < j
            · obtain ⟨n1, n2⟩ := nmF_small HS.out (k := x) (by have := HN.out; omega)
              have d1 := hO.out.cellAt x (by omega)
              rw [List.getElem?_map, List.getElem?_eq_getElem (by rw [lwK_len, ← HN.out]; exact hlx)] at d1
              have ev : (lwK ps x)[x]'(by rw [lwK_len, ← HN.out]; exact hlx) = nmF ps x := by
                have := lwK_at ps x (by have := HN.out; omega)
                rw [List.getElem?_eq_getElem (by rw [lwK_len, ← HN.out]; exact hlx)] at this
                exact this
              rw [ev] at d1
              have f1 := hO.out.frozenAt x
              obtain ⟨y, hy⟩ : ∃ y, y = nmF ps x := ⟨_, rfl⟩
              have HYY := hidN hy
              rw [← hy] at n1 n2 d1
              simp only [Option.map_some] at d1
              have hdn : ¬ d = 0 := by omega
              have hq0 : -7085880000000000 ≤ y.tdiv d ∧ y.tdiv d ≤ 7085880000000000 := by
                have h1 := Int.natAbs_tdiv_le_natAbs y d
                omega
              obtain ⟨hq1, hq2⟩ := hq0
              clear ev hy
              have O4 : Hid ((wr.setCell ⟨S, x, none⟩ (.int .i64 (y.tdiv d))).ownsRow S 2 1 (.slice (some ⟨S, 0, none⟩) j j) j ((lwK ps (x + 1)).map (Value.int .i64))) := by
                show World.ownsRow _ _ _ _ _ _ _
                rw [← lwK_set, List.map_set, ← HYY.out, ← HDD.out]
                exact (hO.out.stored x (.int .i64 (y.tdiv d))).1
              have hwr : wrap64 (y.tdiv d) = y.tdiv d := by unfold wrap64; omega
              go_wp2
              go_roundw
              case rel => exact ⟨x + 1, by omega, by go_num, by first | exact O4.out | (rw [hwr]; exact O4.out), by first | exact hB.out.setCell (p := ⟨S, x, none⟩) hwS _⟩
              case measure => simp [intOf]; omega
            · obtain rfl : x = j := by omega
              go_wp2
              go_ret
              refine ⟨_, rfl, ?_, hB.out⟩
              have := hO.out
              have e := lwK_all ps
              rw [← HN.out] at e
              rw [e] at this
              exact own_le this hwS
end Go.Proofs.Ytbbkejfcheobaak
