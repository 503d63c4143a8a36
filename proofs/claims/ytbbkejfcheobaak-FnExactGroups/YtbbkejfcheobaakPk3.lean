/- Several texts of this proof laid one behind the other: each has its own heading below. -/
import Derived.Test.YtbbkejfcheobaakPk2
import Derived.Test.YtbbkejfcheobaakTabI0
import Derived.Deep.DeepMust
import Derived.Deep.LoopGhost
import Derived.Test.YtbbkejfcheobaakGrpW1

/- The walk of the program's least whole numbers of a row. -/
namespace Go.Proofs.Ytbbkejfcheobaak
open Go.RowKit Go.Proofs.Ytbbkejfcheobaak.RM

theorem hidN {p : Prop} (h : p) : Hid p := h
/-- what is filled in when k numbers are there -/
def nmK (ps : List Fr) (k : Nat) : List Int := (List.range ps.length).map fun i => if i < k then nmF ps i else 0
def lwK (ps : List Fr) (k : Nat) : List Int := (List.range ps.length).map fun i => if i < k then (nmF ps i).tdiv (gdF ps ps.length) else nmF ps i
theorem nmK_len (ps : List Fr) (k : Nat) : (nmK ps k).length = ps.length := by simp [nmK]
theorem lwK_len (ps : List Fr) (k : Nat) : (lwK ps k).length = ps.length := by simp [lwK]
theorem nmK_zero (ps : List Fr) : nmK ps 0 = List.replicate ps.length 0 := by
  apply List.ext_getElem
  · simp [nmK]
  · intro i h1 h2
    simp [nmK]
theorem nmK_set (ps : List Fr) (k : Nat) : (nmK ps k).set k (nmF ps k) = nmK ps (k + 1) := by
  apply List.ext_getElem
  · simp [nmK]
  · intro i h1 h2
    simp only [nmK, List.getElem_set, List.getElem_map, List.getElem_range]
    by_cases e : k = i
    · subst e; rw [if_pos rfl, if_pos (by omega)]
    · rw [if_neg e]
      by_cases h3 : i < k
      · rw [if_pos h3, if_pos (by omega)]
      · rw [if_neg h3, if_neg (by omega)]
theorem nmK_all (ps : List Fr) : nmK ps ps.length = lwK ps 0 := by
  apply List.ext_getElem
  · simp [nmK, lwK]
  · intro i h1 h2
    have hi : i < ps.length := by simpa [nmK] using h1
    simp [nmK, lwK, hi]
theorem lwK_set (ps : List Fr) (k : Nat) : (lwK ps k).set k ((nmF ps k).tdiv (gdF ps ps.length)) = lwK ps (k + 1) := by
  apply List.ext_getElem
  · simp [lwK]
  · intro i h1 h2
    simp only [lwK, List.getElem_set, List.getElem_map, List.getElem_range]
    by_cases e : k = i
    · subst e; rw [if_pos rfl, if_pos (by omega)]
    · rw [if_neg e]
      by_cases h3 : i < k
      · rw [if_pos h3, if_pos (by omega)]
      · rw [if_neg h3, if_neg (by omega)]
theorem lwK_at (ps : List Fr) (k : Nat) (h : k < ps.length) : (lwK ps k)[k]?.getD 0 = nmF ps k := by simp [lwK, h]
theorem lwK_all (ps : List Fr) : lwK ps ps.length = lwF ps := by
  apply List.ext_getElem
  · simp [lwK, lwF]
  · intro i h1 h2
    have hi : i < ps.length := by simpa [lwK] using h1
    simp [lwK, lwF, hi]

set_option maxRecDepth 100000 in
set_option maxHeartbeats 4000000 in
theorem iLeast_any (v : Value) (ps : List Fr) (w : World) (h : RdR w v ps) (hs : Small ps) (hl : ps.length ≤ 1000) :
    Calls Try.prog 35 #[v] w fun e w' => ∃ u, e = .returned u ∧ w'.ownsRow w.heap.size 2 1 u ps.length ((lwF ps).map (Value.int .i64)) ∧ Below w.heap.size w w' := by
  have b0 : ∀ (u : World) (o : Obj), Below u.heap.size u (u.alloc o) := fun u o => (Below.refl _ _).alloc (Nat.le_refl _) o
  obtain ⟨i0, hi, hz0, hz1, hz2⟩ := info_parts infoI
  obtain ⟨a, c, rfl, h2, h3, h4, h5⟩ := h
  have H5 := hidN h5
  have HS := hidN hs
  obtain ⟨n, hn⟩ : ∃ n, n = ps.length := ⟨_, rfl⟩
  rw [← hn] at h5 hl ⊢
  have HN := hidN hn
  have hnn : 1 ≤ n := by obtain ⟨k, hk, _⟩ := hs.one; omega
  clear h5 h2 h3 h4 hs hn
  go_enter Try.func35, Try.ntmps35
  go_wp2
  go_loopw [3, 13] (fun m i wr => ∃ k : Nat, k ≤ n ∧ i = .int .i64 k ∧ m = .int .i64 (lcF ps k) ∧ Hid (Below w.heap.size w wr)) (fun _ i _ => n - (intOf i).toNat)
  case atStart => exact ⟨0, Nat.zero_le _, rfl, rfl, Below.refl _ _⟩
  case round =>
    obtain ⟨k, hk, rfl, rfl, hB⟩ := hrel
    have hsz := hB.out.size
    by_cases hlt : k < n
    · obtain ⟨b, off, rfl, c1, c2⟩ := H5.out k (by have := HN.out; omega)
      replace c1 := cell_keep hB.out c1
      replace c2 := cell_keep hB.out c2
      obtain ⟨l1, l2⟩ := lcF_small HS.out (k := k) (by have := HN.out; omega)
      obtain ⟨m1, m2⟩ := lcF_small HS.out (k := k + 1) (by have := HN.out; omega)
      have hd1 := HS.out.den k (by have := HN.out; omega)
      have hd2 : (fr ps k).2 ≤ 7085880 := by
        obtain ⟨D, d1, d2, d3⟩ := HS.out.dvd
        have := Int.le_of_dvd (by omega) (d3 k (by have := HN.out; omega))
        omega
      obtain ⟨q, hq1, hq2, hq3⟩ := tdiv_gcd (a := lcF ps k) hd1
      have hg0 : 0 < gcdi (lcF ps k) (fr ps k).2 := gcdi_pos_r _ _ (by omega)
      have hm : lcF ps (k + 1) = lcF ps k * (fr ps k).2.tdiv (gcdi (lcF ps k) (fr ps k).2) := rfl
      have hq4 : q ≤ 7085880 := by
        have : 1 * q ≤ gcdi (lcF ps k) (fr ps k).2 * q := Int.mul_le_mul_of_nonneg_right (by omega) (by omega)
        omega
      rw [hq2] at hm
      have hq6 : (fr ps k).2 / gcdi (lcF ps k) (fr ps k).2 = q := by rw [← Int.tdiv_eq_ediv_of_nonneg (by omega)]; exact hq2
      obtain ⟨l, hll⟩ : ∃ l, l = lcF ps k := ⟨_, rfl⟩
      obtain ⟨l', hll'⟩ : ∃ l, l = lcF ps (k + 1) := ⟨_, rfl⟩
      obtain ⟨G, hG⟩ : ∃ G, G = gcdi (lcF ps k) (fr ps k).2 := ⟨_, rfl⟩
      obtain ⟨p1, hp1⟩ : ∃ p, p = (fr ps k).1 := ⟨_, rfl⟩
      obtain ⟨p2, hp2⟩ : ∃ p, p = (fr ps k).2 := ⟨_, rfl⟩
      have HC : Hid (∀ u : World, Calls Try.prog 62 #[.int .i64 l, .int .i64 p2] u fun e w' => e = .returned (.int .i64 G) ∧ ∃ n, w' = u.drewN n) := by
        intro u
        rw [hG, hll, hp2]
        exact common_any _ _ u (by omega) (by omega) (by omega) (by omega)
      rw [← hG, ← hp2] at hq6
      rw [← hll] at l1 l2 hm ⊢
      rw [← hll'] at m1 m2 hm
      rw [← hG] at hg0
      rw [← hp1] at c1
      rw [← hp2] at c2 hd1 hd2
      have HLL := hidN (hll'.symm.trans hm)
      have hb1 : 1 ≤ l * q := by omega
      have hb2 : l * q ≤ 7085880 := by omega
      have hGn : ¬ G = 0 := by omega
      have HB := hB
      clear hll hG hp1 hp2 hq1 hq2 hll' hm m1 m2 hB
      go_upto_region 5 with fail
      obtain ⟨X, hX⟩ : ∃ X, X = wr.alloc (.cells #[.int .i64 p1, .int .i64 p2] 37) := ⟨_, rfl⟩
      obtain ⟨Z, hZ⟩ : ∃ Z, Z = wr.heap.size := ⟨_, rfl⟩
      have r1 : X.cell? ⟨Z, 1, none⟩ = some (.int .i64 p2) := by rw [hX, hZ]; simp [go_sem]
      replace HB := hidN (HB.out.trans (show Below w.heap.size wr X by rw [hX]; exact (b0 _ _).mono hsz))
      rw [← hX, ← hZ]
      clear hX hZ c1 c2
      go_region_with (go_at_call 62; refine (HC.out _).mono ?_; rintro e w2 ⟨rfl, nn, hw2⟩; have hb : Below X.heap.size X w2 := (by rw [hw2]; first | exact below_drewN (Below.refl _ _) _ | exact below_drewN ((Below.refl _ _).drew) _); have r1 := cell_later hb r1; clear hw2)
      all_goals go_wp2
      all_goals
        go_roundw
        case rel => exact ⟨k + 1, by omega, by go_num, by rw [hq6, show wrap64 (l * q) = l * q by unfold wrap64; omega, HLL.out], HB.out.trans (hb.mono HB.out.size)⟩
        case measure => simp [intOf]; omega
    · obtain rfl : k = n := by omega
      obtain ⟨l1, l2⟩ := lcF_small HS.out (k := k) (by have := HN.out; omega)
      have hl0 : ∀ j, j < k → ∃ x, (lcF ps k) / (fr ps j).2 = x ∧ nmF ps j = x * (fr ps j).1 ∧ 1 ≤ (fr ps j).2 := by
        intro j hj
        have hd1 := HS.out.den j (by have := HN.out; omega)
        refine ⟨_, rfl, ?_, hd1⟩
        unfold nmF
        rw [← HN.out, Int.tdiv_eq_ediv_of_nonneg (by omega)]
      obtain ⟨l, hll⟩ : ∃ l, l = lcF ps k := ⟨_, rfl⟩
      rw [← hll] at l1 l2 hl0 ⊢
      have HL0 := hidN hl0
      clear hl0 hll hk hlt
      go_wp2_with (at_make; refine wpList_make_full _ rfl _ _ 29 rfl wr.heap.size 2 i0 (.int .i64 0) 1 Try.underlying29 hi hz0 hz1 .i64 .i64 _ _ k rfl rfl rfl rfl (by rw [hz2]; omega) (by unfold maxLen; omega) (Nat.le_refl _) ?_; intro w1 hown hgrow)
      have o0 : w1.ownsRow wr.heap.size 2 1 (.slice (some ⟨wr.heap.size, 0, none⟩) k k) k ((nmK ps 0).map (Value.int .i64)) := by
        have e : (madeCells (Value.int .i64 0).cells (k * 1)).toList = (nmK ps 0).map (Value.int .i64) := by
          rw [show (Value.int .i64 0).cells = #[Value.int .i64 0] from rfl, Nat.mul_one, toList_madeCells_one]
          rw [nmK_zero, ← HN.out]; simp
        rw [← e]; exact hown
      have HB1 := hidN (hB.out.grown hgrow hsz (fun b e => by cases e))
      obtain ⟨S, hS⟩ : ∃ S, S = wr.heap.size := ⟨_, rfl⟩
      rw [← hS]
      rw [← hS] at o0
      have hwS : w.heap.size ≤ S := by omega
      have O0 := hidN o0
      clear hown hgrow hS o0 hB hsz
      go_loopw [7, 32] (fun d i wr2 => ∃ j : Nat, j ≤ k ∧ i = .int .i64 j ∧ d = .int .i64 (gdF ps j) ∧ Hid (wr2.ownsRow S 2 1 (.slice (some ⟨S, 0, none⟩) k k) k ((nmK ps j).map (Value.int .i64))) ∧ Hid (Below w.heap.size w wr2)) (fun _ i _ => k - (intOf i).toNat)
      case atStart => exact ⟨0, Nat.zero_le _, rfl, rfl, O0.out, HB1.out⟩
      case round =>
        clear O0 HB1
        obtain ⟨j, hj, rfl, rfl, hO, hB⟩ := hrel
        have hsz := hB.out.size
        obtain ⟨g1, g2, -⟩ := gdF_small HS.out j (by have := HN.out; omega)
        by_cases hlt : j < k
        · obtain ⟨b, off, rfl, c1, c2⟩ := H5.out j (by have := HN.out; omega)
          replace c1 := cell_keep hB.out c1
          replace c2 := cell_keep hB.out c2
          obtain ⟨x, hx1, hx2, hd1⟩ := HL0.out j hlt
          obtain ⟨n1, n2⟩ := nmF_small HS.out (k := j) (by have := HN.out; omega)
          have hgn : gdF ps (j + 1) = gcdi (gdF ps j) (nmF ps j) := rfl
          obtain ⟨y, hy⟩ : ∃ y, y = nmF ps j := ⟨_, rfl⟩
          obtain ⟨d, hdd⟩ : ∃ y, y = gdF ps j := ⟨_, rfl⟩
          obtain ⟨d', hdd'⟩ : ∃ y, y = gdF ps (j + 1) := ⟨_, rfl⟩
          obtain ⟨p1, hp1⟩ : ∃ p, p = (fr ps j).1 := ⟨_, rfl⟩
          obtain ⟨p2, hp2⟩ : ∃ p, p = (fr ps j).2 := ⟨_, rfl⟩
          rw [← hp1] at c1 hx2
          rw [← hp2] at c2 hx1 hd1
          rw [← hy] at n1 n2 hx2 hgn
          rw [← hdd] at g1 g2 hgn ⊢
          rw [← hdd'] at hgn
          have hval : wrap64 (l / p2 * p1) = y := by rw [hx1, ← hx2]; unfold wrap64; omega
          have HC : Hid (∀ u : World, Calls Try.prog 62 #[.int .i64 d, .int .i64 y] u fun e w' => e = .returned (.int .i64 d') ∧ ∃ n, w' = u.drewN n) := by
            intro u
            rw [hgn]
            exact common_any _ _ u (by omega) (by omega) (by omega) (by omega)
          have HYD := hidN (And.intro hy hdd')
          have hp2n : ¬ p2 = 0 := by omega
          have hcl := cI_len (nmK ps j)
          clear hy hdd hdd' hp1 hp2 hx1 hx2 hgn
          go_upto_region 11 with fail
          obtain ⟨X, hX⟩ : ∃ X, X = wr.alloc (.cells #[.int .i64 p1, .int .i64 p2] 37) := ⟨_, rfl⟩
          obtain ⟨Z, hZ⟩ : ∃ Z, Z = wr.heap.size := ⟨_, rfl⟩
          have r0 : X.cell? ⟨Z, 0, none⟩ = some (.int .i64 p1) := by rw [hX, hZ]; simp [go_sem]
          have r1 : X.cell? ⟨Z, 1, none⟩ = some (.int .i64 p2) := by rw [hX, hZ]; simp [go_sem]
          have OX : Hid (X.ownsRow S 2 1 (.slice (some ⟨S, 0, none⟩) k k) k ((nmK ps j).map (Value.int .i64))) := by show World.ownsRow _ _ _ _ _ _ _; rw [hX]; exact hO.out.alloc _
          replace hB := hidN (hB.out.trans (show Below w.heap.size wr X by rw [hX]; exact (b0 _ _).mono hsz))
          rw [← hX, ← hZ]
          have hZS : Z ≠ S := by have := (hO.out.lt S rfl).2; omega
          clear hX hZ c1 c2 hO
          have d1 := OX.out.cellAt j (by omega)
          rw [List.getElem?_eq_getElem (by rw [List.length_map, nmK_len, ← HN.out]; exact hlt)] at d1
          have f1 := OX.out.frozenAt j
          go_region
          all_goals rw [hval]
          all_goals
            have O4 : Hid ((X.setCell ⟨S, j, none⟩ (.int .i64 y)).ownsRow S 2 1 (.slice (some ⟨S, 0, none⟩) k k) k ((nmK ps (j + 1)).map (Value.int .i64))) := by
              show World.ownsRow _ _ _ _ _ _ _
              rw [← nmK_set, List.map_set, ← HYD.out.1]
              exact (OX.out.stored j (.int .i64 y)).1
            have B4 : Hid (Below w.heap.size w (X.setCell ⟨S, j, none⟩ (.int .i64 y))) := hB.out.setCell (p := ⟨S, j, none⟩) hwS _
            have c4 : (X.setCell ⟨S, j, none⟩ (.int .i64 y)).cell? ⟨S, j, none⟩ = some (.int .i64 y) := by
              have := O4.out.cellAt j (by omega)
              rw [this, List.getElem?_map, List.getElem?_eq_getElem (by rw [nmK_len, ← HN.out]; exact hlt)]
              simp [nmK, ← HYD.out.1]
            generalize X.setCell ⟨S, j, none⟩ (.int .i64 y) = X5 at O4 B4 c4 ⊢
            clear OX hB d1 f1 r0 r1 hval
            go_wp2_with fail
            refine (HC.out _).mono ?_
            rintro e w6 ⟨rfl, nn, hw6⟩
            have hb6 : Below X5.heap.size X5 w6 := by rw [hw6]; first | exact below_drewN ((Below.refl _ _).drew) _ | exact below_drewN (Below.refl _ _) _
            clear hw6
            go_wp2
            go_roundw
            case rel => exact ⟨j + 1, by omega, by go_num, by rw [HYD.out.2], own_below O4.out hb6, B4.out.trans (hb6.mono B4.out.size)⟩
            case measure => simp [intOf]; omega
        · obtain rfl : j = k := by omega
          have hgd := gdF_pos HS.out
          rw [← HN.out] at hgd
          have hOL : Hid (wr.ownsRow S 2 1 (.slice (some ⟨S, 0, none⟩) j j) j ((lwK ps 0).map (Value.int .i64))) := by
            show World.ownsRow _ _ _ _ _ _ _
            have := hO.out
            have e := nmK_all ps
            rw [← HN.out] at e
            rw [e] at this
            exact this
          obtain ⟨d, hdd⟩ : ∃ y, y = gdF ps j := ⟨_, rfl⟩
          have HDD : Hid (d = gdF ps ps.length) := by show _ = _; rw [← HN.out]; exact hdd
          rw [← hdd] at hgd g1 g2 ⊢
          clear hO hdd HL0 H5
          go_wp2
          go_loopw [56] (fun i wr3 => ∃ x : Nat, x ≤ j ∧ i = .int .i64 x ∧ Hid (wr3.ownsRow S 2 1 (.slice (some ⟨S, 0, none⟩) j j) j ((lwK ps x).map (Value.int .i64))) ∧ Hid (Below w.heap.size w wr3)) (fun i _ => j - (intOf i).toNat)
          case atStart => exact ⟨0, Nat.zero_le _, rfl, hOL.out, hB.out⟩
          case round =>
            clear hOL hB hsz
            obtain ⟨x, hx, rfl, hO, hB⟩ := hrel
            by_cases hlx : x < j
            · obtain ⟨n1, n2⟩ := nmF_small HS.out (k := x) (by have := HN.out; omega)
              have d1 := hO.out.cellAt x (by omega)
              rw [List.getElem?_map, List.getElem?_eq_getElem (by rw [lwK_len, ← HN.out]; exact hlx)] at d1
              have ev : (lwK ps x)[x]'(by rw [lwK_len, ← HN.out]; exact hlx) = nmF ps x := by
                have := lwK_at ps x (by have := HN.out; omega)
                rw [List.getElem?_eq_getElem (by rw [lwK_len, ← HN.out]; exact hlx)] at this
                exact this
              rw [ev] at d1
              have f1 := hO.out.frozenAt x
              obtain ⟨y, hy⟩ : ∃ y, y = nmF ps x := ⟨_, rfl⟩
              have HYY := hidN hy
              rw [← hy] at n1 n2 d1
              simp only [Option.map_some] at d1
              have hdn : ¬ d = 0 := by omega
              have hq0 : -7085880000000000 ≤ y.tdiv d ∧ y.tdiv d ≤ 7085880000000000 := by
                have h1 := Int.natAbs_tdiv_le_natAbs y d
                omega
              obtain ⟨hq1, hq2⟩ := hq0
              clear ev hy
              have O4 : Hid ((wr.setCell ⟨S, x, none⟩ (.int .i64 (y.tdiv d))).ownsRow S 2 1 (.slice (some ⟨S, 0, none⟩) j j) j ((lwK ps (x + 1)).map (Value.int .i64))) := by
                show World.ownsRow _ _ _ _ _ _ _
                rw [← lwK_set, List.map_set, ← HYY.out, ← HDD.out]
                exact (hO.out.stored x (.int .i64 (y.tdiv d))).1
              have hwr : wrap64 (y.tdiv d) = y.tdiv d := by unfold wrap64; omega
              go_wp2
              go_roundw
              case rel => exact ⟨x + 1, by omega, by go_num, by first | exact O4.out | (rw [hwr]; exact O4.out), by first | exact hB.out.setCell (p := ⟨S, x, none⟩) hwS _⟩
              case measure => simp [intOf]; omega
            · obtain rfl : x = j := by omega
              go_wp2
              go_ret
              refine ⟨_, rfl, ?_, hB.out⟩
              have := hO.out
              have e := lwK_all ps
              rw [← HN.out] at e
              rw [e] at this
              exact own_le this hwS
end Go.Proofs.Ytbbkejfcheobaak

/- The walk of the program's kernelRow. -/
namespace Go.Proofs.Ytbbkejfcheobaak
open Go.RowKit Go.Proofs.Ytbbkejfcheobaak.RM

theorem mirI_any (n d : Int) (w : World) :
    Calls Try.prog 80 #[.agg #[.int .i64 n, .int .i64 d]] w fun e w' => e = .returned (.agg #[.int .i64 (wrap64 (-n)), .int .i64 d]) ∧ Below w.heap.size w w' := by
  go_enter Try.func80, Try.ntmps80
  go_wp2
  exact bodyPost_ret (v := .agg #[.int .i64 (wrap64 (-n)), .int .i64 d]) (by simp [results, Try.results80, go_sem]) rfl ⟨rfl, ((Below.refl _ _).alloc (Nat.le_refl _) _).alloc (by simp) _⟩
theorem mirS_any (n d : Int) (w : World) :
    Calls Try.prog 56 #[.agg #[.int .i64 n, .int .i64 d]] w fun e w' => e = .returned (.agg #[.int .i64 (wrap64 (-n)), .int .i64 d]) ∧ Below w.heap.size w w' := by
  go_enter Try.func56, Try.ntmps56
  go_wp2
  exact bodyPost_ret (v := .agg #[.int .i64 (wrap64 (-n)), .int .i64 d]) (by simp [results, Try.results56, go_sem]) rfl ⟨rfl, ((Below.refl _ _).alloc (Nat.le_refl _) _).alloc (by simp) _⟩
/-- a number of a list of columns, as it is read -/
theorem nat_at {W : World} {base g n c : Nat} {C : List Nat} (h : W.ownsRow base 3 1 (.slice (some ⟨g, 0, none⟩) n c) C.length (natV C)) (k : Nat) (hk : k < C.length) : W.cell? ⟨g, k, none⟩ = some (.int .i64 (nt C k : Int)) := by
  have hn : n = C.length := by
    rcases h.2 with ⟨e, _⟩ | ⟨g', c', cur, e, _⟩ <;> cases e; rfl
  subst hn
  have h1 := h.cellAt k (by omega)
  rw [h1]
  unfold natV nt
  rw [List.getElem?_map, List.getElem?_eq_getElem hk]
  rfl
/-- two cells of a row are stored -/
theorem row_set {W : World} {base g L c : Nat} {ps : List Fr} (h : W.ownsRow base 37 2 (.slice (some ⟨g, 0, none⟩) L c) L (cellsR ps)) (hl : ps.length = L) (k : Nat) (hk : k < L) (x y : Int) :
    ((W.setCell ⟨g, k * 2, none⟩ (.int .i64 x)).setCell ⟨g, k * 2 + 1, none⟩ (.int .i64 y)).ownsRow base 37 2 (.slice (some ⟨g, 0, none⟩) L c) L (cellsR (ps.set k (x, y))) ∧ W.grownBy ((W.setCell ⟨g, k * 2, none⟩ (.int .i64 x)).setCell ⟨g, k * 2 + 1, none⟩ (.int .i64 y)) (some g) := by
  obtain ⟨p1, p2⟩ := h.stored (k * 2) (.int .i64 x)
  obtain ⟨p3, p4⟩ := p1.stored (k * 2 + 1) (.int .i64 y)
  rw [cellsR_set _ _ _ _ (by rw [hl]; exact hk)] at p3
  exact ⟨p3, p2.trans p4⟩
theorem blk_set {W : World} {E b : Nat} {cs : Array Value} {t : TypeId} (h : W.heap[E]? = some (.cells cs t (0, 0))) (hne : E ≠ b) (o : Nat) (v : Value) : (W.setCell ⟨b, o, none⟩ v).heap[E]? = some (.cells cs t (0, 0)) := (Below.heap_setCell W ⟨b, o, none⟩ v E hne).trans h

set_option maxRecDepth 1000000 in
set_option maxHeartbeats 4000000 in
theorem kerRow_any (vm vc vf : Value) (us : List Value) (R : List (List Fr)) (C F : List Nat) (L col b1 b2 b3 : Nat) (w : World) (ht : Tab w b1 vm us R) (hc : w.ownsRow b2 3 1 vc C.length (natV C)) (hf : w.ownsRow b3 3 1 vf F.length (natV F))
    (hL1 : 1 ≤ L) (hL2 : L ≤ 1000) (hR : 1 ≤ R.length) (hRL : ∀ x, x < R.length → (rw' R x).length = L) (hCR : C.length ≤ R.length) (hR2 : R.length ≤ 1000) (hCL : ∀ c, c ∈ C → c < L) (hFL : ∀ c, c ∈ F → c < L) (hF2 : F.length ≤ 1000) (hcol : col < L) :
    Calls Try.prog 61 #[.agg #[vm, vc, vf], .int .i64 col] w fun e w' => ∃ g, e = .returned (.slice (some ⟨g, 0, none⟩) L L) ∧ w'.ownsRow w.heap.size 37 2 (.slice (some ⟨g, 0, none⟩) L L) L (cellsR (setsK R C col C.length ((setsF F F.length (List.replicate L (0, 0))).set col (1, 1)))) ∧ Below w.heap.size w w' := by
  obtain ⟨i0, hi, hz0, hz1, hz2⟩ := info_parts infoF
  have hul := ht.len
  obtain ⟨G, cG, rfl⟩ := own_some ht.outer (by omega)
  obtain ⟨ac, cc, rfl⟩ := own_shape hc
  obtain ⟨af, cf, rfl⟩ := own_shape hf
  obtain ⟨N, hN⟩ : ∃ n, n = us.length := ⟨_, rfl⟩
  obtain ⟨nc, hnc⟩ : ∃ n, n = C.length := ⟨_, rfl⟩
  obtain ⟨nf, hnf⟩ : ∃ n, n = F.length := ⟨_, rfl⟩
  have ho := ht.outer
  have c0 := ho.cellAt 0 (by omega)
  obtain ⟨g0, d0, e0⟩ := own_some (ht.inner 0 (by omega)) (by rw [hRL 0 (by omega)]; omega)
  rw [hRL 0 (by omega)] at e0
  rw [show us[0]? = some (vl us 0) by unfold vl; rw [List.getElem?_eq_getElem (by omega)]; rfl, e0] at c0
  have HT : Hid (∀ k, k < R.length → ∃ g d, w.cell? ⟨G, k, none⟩ = some (.slice (some ⟨g, 0, none⟩) L d) ∧ w.cell? ⟨g, col * 2, none⟩ = some (.int .i64 (fr (rw' R k) col).1) ∧ w.cell? ⟨g, col * 2 + 1, none⟩ = some (.int .i64 (fr (rw' R k) col).2)) := by
    intro k hk
    have ck := ho.cellAt k (by omega)
    have hin := ht.inner k (by omega)
    rw [hRL k hk] at hin
    obtain ⟨g, d, ek⟩ := own_some hin (by omega)
    rw [show us[k]? = some (vl us k) by unfold vl; rw [List.getElem?_eq_getElem (by omega)]; rfl, ek] at ck
    rw [ek] at hin
    obtain ⟨h1, h2⟩ := own_R hin (hRL k hk) col hcol
    exact ⟨g, d, ck, h1, h2⟩
  have HC : Hid (∀ k, k < C.length → ∃ g, ac = some ⟨g, 0, none⟩ ∧ w.cell? ⟨g, k, none⟩ = some (.int .i64 (nt C k : Int)) ∧ nt C k < L) := by
    intro k hk
    obtain ⟨g, c', e⟩ := own_some hc (by omega)
    cases e
    exact ⟨g, rfl, nat_at hc k hk, hCL _ (nt_mem hk)⟩
  have HF : Hid (∀ k, k < F.length → ∃ g, af = some ⟨g, 0, none⟩ ∧ w.cell? ⟨g, k, none⟩ = some (.int .i64 (nt F k : Int)) ∧ nt F k < L) := by
    intro k hk
    obtain ⟨g, c', e⟩ := own_some hf (by omega)
    cases e
    exact ⟨g, rfl, nat_at hf k hk, hFL _ (nt_mem hk)⟩
  have HN : Hid (N = us.length ∧ us.length = R.length ∧ nc = C.length ∧ nf = F.length) := ⟨hN, hul, hnc, hnf⟩
  rw [← hN, ← hnc, ← hnf]
  have hN1 : 1 ≤ N := by omega
  have hN2 : N ≤ 1000 := by omega
  have hncN : nc ≤ N := by omega
  have hnf2 : nf ≤ 1000 := by omega
  clear ht hc hf ho e0 hul hN hnc hnf hR hRL hCR hR2 hCL hFL hF2
  go_enter Try.func61, Try.ntmps61
  go_upto_region 1 with fail
  obtain ⟨E, hE⟩ : ∃ E, E = w.heap.size := ⟨_, rfl⟩
  obtain ⟨X, hX⟩ : ∃ X, X = w.alloc (.cells #[.slice (some ⟨G, 0, none⟩) N cG, .slice ac nc cc, .slice af nf cf] 51) := ⟨_, rfl⟩
  have hblk : X.heap[E]? = some (.cells #[.slice (some ⟨G, 0, none⟩) N cG, .slice ac nc cc, .slice af nf cf] 51 (0, 0)) := by rw [hX, hE]; exact World.alloc_heap_new w _
  have BX : Below w.heap.size w X := by rw [hX]; exact (Below.refl _ _).alloc (Nat.le_refl _) _
  have hXs : X.heap.size = E + 1 := by rw [hX, hE]; simp
  rw [← hX, ← hE]
  have c0X := cell_keep BX c0
  obtain ⟨r0, r1, r2, z0, z1, z2, hEl⟩ := cells3 hblk
  have hwE : w.heap.size ≤ E := by omega
  have HXS := hid hXs
  clear hX hE hXs
  go_wp2_with (at_make; refine wpList_make_full _ rfl _ _ 45 rfl w.heap.size 37 i0 (.agg #[.int .i64 0, .int .i64 0]) 2 Try.underlying45 hi hz0 hz1 .i64 .i64 _ _ L rfl rfl rfl rfl (by rw [hz2]; omega) (by unfold maxLen; omega) BX.size ?_; intro w3 hown hgrow; have hblk3 := (hgrow.block E hEl (by simp)).trans hblk; obtain ⟨p0, p1, p2, y0, y1, y2, hEl3⟩ := cells3 hblk3)
  have B3 : Below w.heap.size w w3 := BX.grown hgrow BX.size (fun b e => by cases e)
  obtain ⟨Rw, hRw⟩ : ∃ g, g = X.heap.size := ⟨_, rfl⟩
  have o0 : w3.ownsRow w.heap.size 37 2 (.slice (some ⟨Rw, 0, none⟩) L L) L (cellsR (setsF F 0 (List.replicate L (0, 0)))) := by
    rw [hRw]; show World.ownsRow _ _ _ _ _ _ _; rw [show setsF F 0 (List.replicate L ((0, 0) : Fr)) = List.replicate L (0, 0) from rfl, ← madeF]; exact hown
  have hER : E ≠ Rw := by have := HXS.out; omega
  have hwR : w.heap.size ≤ Rw := by have := HXS.out; omega
  rw [← hRw]
  clear hRw hown hgrow hblk HXS r0 r1 r2 z0 z1 z2 hEl c0X BX p0 p1 p2 y0 y1 y2 hEl3
  go_loopg [19] nf (fun g i wr => ∃ k : Nat, k + g = nf ∧ i = .int .i64 k ∧ Hid (wr.ownsRow w.heap.size 37 2 (.slice (some ⟨Rw, 0, none⟩) L L) L (cellsR (setsF F k (List.replicate L (0, 0))))) ∧ Hid (wr.heap[E]? = some (.cells #[.slice (some ⟨G, 0, none⟩) N cG, .slice ac nc cc, .slice af nf cf] 51 (0, 0))) ∧ Hid (Below w.heap.size w wr))
  case atStart => exact ⟨0, by omega, rfl, o0, hblk3, B3⟩
  case round =>
    clear o0 hblk3 B3
    obtain ⟨kf, hkg, rfl, hO, hK, hB⟩ := hrel
    cases gk with
    | zero =>
      obtain rfl : kf = nf := by omega
      have hsl : (setsF F kf (List.replicate L ((0, 0) : Fr))).length = L := by rw [setsF_len]; simp
      obtain ⟨o1, o2⟩ := own_R hO.out hsl col hcol
      have z1 := hO.out.frozenAt (col * 2)
      have z2 := hO.out.frozenAt (col * 2 + 1)
      generalize ((setsF F kf (List.replicate L ((0, 0) : Fr)))[col]?.getD (0, 0)).1 = y1 at o1
      generalize ((setsF F kf (List.replicate L ((0, 0) : Fr)))[col]?.getD (0, 0)).2 = y2 at o2
      obtain ⟨s1, s2⟩ := row_set hO.out hsl col hcol 1 1
      have K2 := blk_set (blk_set hK.out hER (col * 2) (.int .i64 1)) hER (col * 2 + 1) (.int .i64 1)
      have B2 := (hB.out.setCell (p := ⟨Rw, col * 2, none⟩) hwR (.int .i64 1)).setCell (p := ⟨Rw, col * 2 + 1, none⟩) hwR (.int .i64 1)
      clear hsl
      go_upto_region 8 with fail
      obtain ⟨Y, hY⟩ : ∃ Y, Y = (wr.setCell ⟨Rw, col * 2, none⟩ (.int .i64 1)).setCell ⟨Rw, col * 2 + 1, none⟩ (.int .i64 1) := ⟨_, rfl⟩
      rw [← hY] at s1 K2 B2 ⊢
      clear hY o1 o2 z1 z2 s2 hO hK hB
      obtain ⟨bs, hbs⟩ : ∃ b, b = (setsF F kf (List.replicate L ((0, 0) : Fr))).set col (1, 1) := ⟨_, rfl⟩
      have HBS := hid hbs
      have hbl : bs.length = L := by rw [hbs, List.length_set, setsF_len]; simp
      have HBL := hid hbl
      rw [← hbs] at s1
      obtain ⟨r0, r1, r2, _, _, _, hEl⟩ := cells3 K2
      clear hbs hbl
      go_wp2
      clear r0 r1 r2 hEl
      go_loopg [35] nc (fun g i wr => ∃ k : Nat, k + g = nc ∧ i = .int .i64 k ∧ Hid (wr.ownsRow w.heap.size 37 2 (.slice (some ⟨Rw, 0, none⟩) L L) L (cellsR (setsK R C col k bs))) ∧ Hid (wr.heap[E]? = some (.cells #[.slice (some ⟨G, 0, none⟩) N cG, .slice ac nc cc, .slice af kf cf] 51 (0, 0))) ∧ Hid (Below w.heap.size w wr))
      case atStart => exact ⟨0, by omega, rfl, s1, K2, B2⟩
      case round =>
        clear s1 K2 B2
        obtain ⟨k, hkg2, rfl, hO, hK, hB⟩ := hrel
        cases gk with
        | zero =>
          obtain rfl : k = nc := by omega
          go_wp2
          go_ret
          refine ⟨Rw, rfl, ?_, hB.out⟩
          have := hO.out
          rw [HBS.out] at this
          exact this
        | succ g =>
          have hkn : k < nc := by omega
          obtain ⟨gc, rfl, f1, f2⟩ := HC.out k (by have := HN.out.2.2.1; omega)
          replace f1 := cell_keep hB.out f1
          obtain ⟨gr, dr, t1, t2, t3⟩ := HT.out k (by have := HN.out; omega)
          replace t1 := cell_keep hB.out t1
          replace t2 := cell_keep hB.out t2
          replace t3 := cell_keep hB.out t3
          obtain ⟨x, hx⟩ : ∃ x, x = nt C k := ⟨_, rfl⟩
          obtain ⟨p, hp⟩ : ∃ p, p = fr (rw' R k) col := ⟨_, rfl⟩
          have HX : Hid (x = nt C k ∧ p = fr (rw' R k) col) := ⟨hx, hp⟩
          rw [← hx] at f1 f2
          rw [← hp] at t2 t3
          obtain ⟨p1, p2⟩ := p
          have hsl : (setsK R C col k bs).length = L := by rw [setsK_len]; exact HBL.out
          have HSL := hid hsl
          have hkN : k < N := by omega
          obtain ⟨r0, r1, r2, _, _, _, hEl⟩ := cells3 hK.out
          clear hx hp hsl
          go_wp2_with (go_at_call 80; refine (mirI_any p1 p2 _).mono ?_; rintro e w4 ⟨rfl, hb4⟩; have O4 : w4.ownsRow w.heap.size 37 2 (.slice (some ⟨Rw, 0, none⟩) L L) L (cellsR (setsK R C col k bs)) := own_below hO.out hb4; obtain ⟨o1, o2⟩ := own_R O4 HSL.out x f2; have z1 := O4.frozenAt (x * 2); have z2 := O4.frozenAt (x * 2 + 1); have HO4 := hid O4; clear O4)
          go_roundg g
          case measure => omega
          case rel =>
            obtain ⟨s1, s2⟩ := row_set HO4.out HSL.out x f2 (wrap64 (-p1)) p2
            have B4 := hB.out.trans (hb4.mono hB.out.size)
            refine ⟨k + 1, by omega, by go_num, ?_, blk_set (blk_set ((hb4.block E (cells3 hK.out).2.2.2.2.2.2).trans hK.out) hER _ _) hER _ _, (B4.setCell (p := ⟨Rw, x * 2, none⟩) hwR _).setCell (p := ⟨Rw, x * 2 + 1, none⟩) hwR _⟩
            show World.ownsRow _ _ _ _ _ _ _
            have e1 : setsK R C col (k + 1) bs = (setsK R C col k bs).set x (wrap64 (-p1), p2) := by
              simp only [setsK]
              rw [← HX.out.1, ← HX.out.2]
              rfl
            rw [e1]
            exact s1
    | succ g =>
      have hkn : kf < nf := by omega
      obtain ⟨gf, rfl, f1, f2⟩ := HF.out kf (by have := HN.out.2.2.2; omega)
      replace f1 := cell_keep hB.out f1
      obtain ⟨x, hx⟩ : ∃ x, x = nt F kf := ⟨_, rfl⟩
      have HX := hid hx
      rw [← hx] at f1 f2
      have hsl : (setsF F kf (List.replicate L ((0, 0) : Fr))).length = L := by rw [setsF_len]; simp
      obtain ⟨o1, o2⟩ := own_R hO.out hsl x f2
      have z1 := hO.out.frozenAt (x * 2)
      have z2 := hO.out.frozenAt (x * 2 + 1)
      generalize ((setsF F kf (List.replicate L ((0, 0) : Fr)))[x]?.getD (0, 0)).1 = y1 at o1
      generalize ((setsF F kf (List.replicate L ((0, 0) : Fr)))[x]?.getD (0, 0)).2 = y2 at o2
      have HSL := hid hsl
      clear hx hsl
      go_wp2
      go_roundg g
      case measure => omega
      case rel =>
        obtain ⟨s1, s2⟩ := row_set hO.out HSL.out x f2 0 1
        refine ⟨kf + 1, by omega, by go_num, ?_, blk_set (blk_set hK.out hER _ _) hER _ _, (hB.out.setCell (p := ⟨Rw, x * 2, none⟩) hwR _).setCell (p := ⟨Rw, x * 2 + 1, none⟩) hwR _⟩
        show World.ownsRow _ _ _ _ _ _ _
        rw [HX.out] at s1 ⊢
        exact s1
end Go.Proofs.Ytbbkejfcheobaak

/- The walks of the program's kernel and Kernel. -/
namespace Go.Proofs.Ytbbkejfcheobaak
open Go.RowKit Go.Proofs.Ytbbkejfcheobaak.RM

theorem rw_map (f : Nat → List Fr) (F : List Nat) (k : Nat) (h : k < F.length) : rw' (F.map f) k = f (nt F k) := by
  show (List.map _ _)[k]?.getD [] = _
  unfold nt
  rw [List.getElem?_map, List.getElem?_eq_getElem h]
  rfl

set_option maxRecDepth 1000000 in
set_option maxHeartbeats 4000000 in
theorem kernel_any (vm vc vf : Value) (us : List Value) (R : List (List Fr)) (C : List Nat) (L b1 b2 b3 : Nat) (w : World) (ht : Tab w b1 vm us R) (hc : w.ownsRow b2 3 1 vc C.length (natV C)) (hf : w.ownsRow b3 3 1 vf (freeC L C).length (natV (freeC L C)))
    (hL1 : 1 ≤ L) (hL2 : L ≤ 1000) (hR : 1 ≤ R.length) (hRL : ∀ x, x < R.length → (rw' R x).length = L) (hCR : C.length ≤ R.length) (hR2 : R.length ≤ 1000) (hCL : ∀ c, c ∈ C → c < L) :
    Calls Try.prog 34 #[.agg #[vm, vc, vf]] w fun e w' => ∃ v us', e = .returned v ∧ Tab w' w.heap.size v us' ((freeC L C).map (kerRow R C L)) ∧ Below w.heap.size w w' := by
  obtain ⟨t0, hti, htz0, htz1, htz2⟩ := info_parts infoT
  obtain ⟨F, hF⟩ : ∃ F, F = freeC L C := ⟨_, rfl⟩
  rw [← hF] at hf ⊢
  have hF2 : F.length ≤ 1000 := by rw [hF]; have := freeC_len L C; omega
  have hFL : ∀ c, c ∈ F → c < L := by intro c h; rw [hF] at h; exact (freeC_mem.1 h).1
  have HK : Hid (∀ (W : World) (col : Nat), Below w.heap.size w W → col < L → Calls Try.prog 61 #[.agg #[vm, vc, vf], .int .i64 col] W fun e w' => ∃ g, e = .returned (.slice (some ⟨g, 0, none⟩) L L) ∧ w'.ownsRow W.heap.size 37 2 (.slice (some ⟨g, 0, none⟩) L L) L (cellsR (kerRow R C L col)) ∧ Below W.heap.size W w') := by
    intro W col hW hcol
    have := kerRow_any vm vc vf us R C F L col b1 b2 b3 W (ht.below hW) (own_below hc hW) (own_below hf hW) hL1 hL2 hR hRL hCR hR2 hCL hFL hF2 hcol
    rw [show setsK R C col C.length ((setsF F F.length (List.replicate L ((0, 0) : Fr))).set col (1, 1)) = kerRow R C L col by rw [hF]; exact kerRow_impl R C L col hCL hcol] at this
    exact this
  obtain ⟨G, cG, rfl⟩ := own_some ht.outer (by rw [ht.len]; omega)
  obtain ⟨ac, cc, rfl⟩ := own_shape hc
  obtain ⟨af, cf, rfl⟩ := own_shape hf
  have HFC : Hid (∀ k, k < F.length → ∃ g, af = some ⟨g, 0, none⟩ ∧ w.cell? ⟨g, k, none⟩ = some (.int .i64 (nt F k : Int)) ∧ nt F k < L) := by
    intro k hk
    obtain ⟨g, c', e⟩ := own_some hf (by omega)
    cases e
    exact ⟨g, rfl, nat_at hf k hk, hFL _ (nt_mem hk)⟩
  obtain ⟨T, hT⟩ : ∃ T, T = F.map (kerRow R C L) := ⟨_, rfl⟩
  have hTl : T.length = F.length := by rw [hT, List.length_map]
  have HT : Hid (∀ k, k < F.length → rw' T k = kerRow R C L (nt F k)) := by intro k hk; rw [hT]; exact rw_map _ _ _ hk
  rw [← hT]
  obtain ⟨nf, hnf⟩ : ∃ n, n = F.length := ⟨_, rfl⟩
  have HN : Hid (nf = F.length ∧ T.length = F.length) := ⟨hnf, hTl⟩
  rw [← hnf] at hF2 HK ⊢
  obtain ⟨N, hN⟩ : ∃ n, n = us.length := ⟨_, rfl⟩
  obtain ⟨nc, hnc⟩ : ∃ n, n = C.length := ⟨_, rfl⟩
  rw [← hN, ← hnc] at HK ⊢
  clear ht hc hf hR hRL hCR hR2 hCL hFL hF hT hTl hnf hN hnc
  go_enter Try.func34, Try.ntmps34
  go_upto_region 1 with fail
  obtain ⟨E, hE⟩ : ∃ E, E = w.heap.size := ⟨_, rfl⟩
  obtain ⟨X, hX⟩ : ∃ X, X = w.alloc (.cells #[.slice (some ⟨G, 0, none⟩) N cG, .slice ac nc cc, .slice af nf cf] 51) := ⟨_, rfl⟩
  have hblk : X.heap[E]? = some (.cells #[.slice (some ⟨G, 0, none⟩) N cG, .slice ac nc cc, .slice af nf cf] 51 (0, 0)) := by rw [hX, hE]; exact World.alloc_heap_new w _
  have BX : Below w.heap.size w X := by rw [hX]; exact (Below.refl _ _).alloc (Nat.le_refl _) _
  have hXs : X.heap.size = E + 1 := by rw [hX, hE]; simp
  rw [← hX, ← hE]
  obtain ⟨r0, r1, r2, z0, z1, z2, hEl⟩ := cells3 hblk
  have HXS := hid hXs
  have hwE : w.heap.size ≤ E := by omega
  clear hX hE hXs
  go_wp2_with (at_make; refine wpList_make_full _ rfl _ _ 44 rfl w.heap.size 45 t0 (.slice none 0 0) 1 Try.underlying44 hti htz0 htz1 .i64 .i64 _ _ nf rfl rfl rfl rfl (by rw [htz2]; omega) (by unfold maxLen; omega) BX.size ?_; intro w3 hown hgrow; have hblk3 := (hgrow.block E hEl (by simp)).trans hblk; obtain ⟨p0, p1, p2, y0, y1, y2, hEl3⟩ := cells3 hblk3)
  have B3 : Below w.heap.size w w3 := BX.grown hgrow BX.size (fun b e => by cases e)
  obtain ⟨Gk, hGk⟩ : ∃ g, g = X.heap.size := ⟨_, rfl⟩
  have o0 : Tab w3 w.heap.size (.slice (some ⟨Gk, 0, none⟩) nf nf) (List.replicate nf (.slice none 0 0)) (cpyT T 0) := by
    rw [cpyT_zero, HN.out.2, ← HN.out.1, hGk]; refine Tab.made ?_; rw [← madeT]; exact hown
  have hER : E ≠ Gk := by have := HXS.out; omega
  have hwR : w.heap.size ≤ Gk := by have := HXS.out; omega
  rw [← hGk]
  clear hGk hown hgrow hblk HXS r0 r1 r2 z0 z1 z2 hEl BX p0 p1 p2 y0 y1 y2 hEl3
  go_loopg [13] nf (fun g i wr => ∃ (k : Nat) (us' : List Value), k + g = nf ∧ i = .int .i64 k ∧ Hid (Tab wr w.heap.size (.slice (some ⟨Gk, 0, none⟩) nf nf) us' (cpyT T k)) ∧ Hid (wr.heap[E]? = some (.cells #[.slice (some ⟨G, 0, none⟩) N cG, .slice ac nc cc, .slice af nf cf] 51 (0, 0))) ∧ Hid (Below w.heap.size w wr))
  case atStart => exact ⟨0, _, by omega, rfl, o0, hblk3, B3⟩
  case round =>
    clear o0 hblk3 B3
    obtain ⟨k, us', hkg, rfl, hT, hK, hB⟩ := hrel
    cases gk with
    | zero =>
      obtain rfl : k = nf := by omega
      go_wp2
      go_ret
      have := hT.out
      rw [show cpyT T k = T by rw [HN.out.1, ← HN.out.2]; exact cpyT_all T] at this
      exact ⟨_, us', rfl, this, hB.out⟩
    | succ g =>
      have hkn : k < nf := by omega
      obtain ⟨gf, rfl, f1, f2⟩ := HFC.out k (by have := HN.out.1; omega)
      replace f1 := cell_keep hB.out f1
      obtain ⟨x, hx⟩ : ∃ x, x = nt F k := ⟨_, rfl⟩
      have HX := hid hx
      rw [← hx] at f1 f2
      have hlu : us'.length = nf := by have := hT.out.len; rw [cpyT_len] at this; have := HN.out; omega
      have HLU := hid hlu
      have HKR := hid (HK.out wr x hB.out f2)
      obtain ⟨r0, r1, r2, _, _, _, hEl⟩ := cells3 hK.out
      have hsz := hB.out.size
      clear hx hlu
      go_wp2_with (go_at_call 61; refine (HKR.out).mono ?_; rintro e w4 ⟨gr, rfl, orow, hb4⟩; have T4 := hT.out.below hb4; have ho := T4.outer; rw [HLU.out] at ho; have d1 := ho.cellAt k (by omega); have f3 := ho.frozenAt k; rw [List.getElem?_eq_getElem (by have := HLU.out; omega)] at d1; have HT4 := hid T4; have HOR := hid orow; clear T4 ho orow)
      go_roundg g
      case measure => omega
      case rel =>
        have T5 := HT4.out.put (k := k) (u := .slice (some ⟨gr, 0, none⟩) L L) (ps := kerRow R C L x) (by rw [HLU.out]; exact hkn) (by rw [kerRow_len]; exact own_le HOR.out hsz) (fun i hi _ b hb hb2 => by
          have h1 := hT.out.lt i hi b hb
          have h2 := (HOR.out.lt b hb2).1
          omega)
        rw [show kerRow R C L x = rw' T k by rw [HT.out k (by have := HN.out.1; omega), HX.out], cpyT_set] at T5
        exact ⟨k + 1, _, by omega, by go_num, T5, blk_set ((hb4.block E (cells3 hK.out).2.2.2.2.2.2).trans hK.out) hER _ _, (hB.out.trans (hb4.mono hsz)).setCell (p := ⟨Gk, k, none⟩) hwR _⟩

end Go.Proofs.Ytbbkejfcheobaak

/- The walk of the program's Groups. -/
namespace Go.Proofs.Ytbbkejfcheobaak
open Go.RowKit Go.Proofs.Ytbbkejfcheobaak.RM

theorem hidH {p : Prop} (h : p) : Hid p := h
theorem ri_app (rows : List (List Int)) (ps : List Int) (i : Nat) (h : i < rows.length + 1) : ri (rows ++ [ps]) i = if i < rows.length then ri rows i else ps := by
  unfold ri
  by_cases e : i < rows.length
  · rw [if_pos e, List.getElem?_append_left e]
  · rw [if_neg e, List.getElem?_append_right (by omega), show i - rows.length = 0 by omega]; rfl
theorem TabI.empty {W : World} {base : Nat} {v : Value} (h : W.ownsRow base 29 1 v 0 []) : TabI W base v [] [] :=
  ⟨h, rfl, fun _ hi => absurd hi (Nat.not_lt_zero _), fun _ _ hi => absurd hi (Nat.not_lt_zero _)⟩
theorem TabI.lit {W : World} {base : Nat} (hb : base ≤ W.heap.size) : TabI (W.alloc (.cells #[] 29)) base (.slice (some ⟨W.heap.size, 0, none⟩) 0 0) [] [] :=
  TabI.empty (World.ownsRow_lit W (base := base) (e := 29) (size := 1) #[] 0 hb (Nat.zero_le _) rfl)
/-- a row of its own is laid behind the table -/
theorem TabI.append {W w' : World} {base : Nat} {v v' : Value} {us : List Value} {rows : List (List Int)} {u : Value} {ps : List Int} {tmp : Obj} (h : TabI W base v us rows)
    (hu : W.ownsRow base 2 1 u ps.length (cI ps)) (ha : ∀ i, i < us.length → ∀ b, (vl us i).ownBlock = some b → u.ownBlock ≠ some b)
    (hown : w'.ownsRow base 29 1 v' (us.length + 1) (us ++ [u])) (hgrow : (W.alloc tmp).grownBy w' v.ownBlock) : TabI w' base v' (us ++ [u]) (rows ++ [ps]) := by
  have keep : ∀ {m : Nat} {x : Value} {xs : List Value}, W.ownsRow base 2 1 x m xs → w'.ownsRow base 2 1 x m xs := fun hx => own_oth (hx.alloc tmp) (h.outer.alloc tmp) (by decide) hgrow
  have hl := h.len
  refine ⟨by rw [List.length_append]; exact hown, by simp [hl], fun i hi => ?_, fun i j hi hj hne b hb => ?_⟩
  · rw [List.length_append, List.length_singleton] at hi
    rw [vl_app _ _ _ hi, ri_app _ _ _ (by omega)]
    by_cases e : i < us.length
    · rw [if_pos e, if_pos (by omega)]; exact keep (h.inner i e)
    · rw [if_neg e, if_neg (by omega)]; exact keep hu
  · rw [List.length_append, List.length_singleton] at hi hj
    rw [vl_app _ _ _ hi] at hb
    rw [vl_app _ _ _ hj]
    by_cases e : i < us.length
    · rw [if_pos e] at hb
      by_cases e2 : j < us.length
      · rw [if_pos e2]; exact h.apart i j e e2 hne b hb
      · rw [if_neg e2]; exact ha i e b hb
    · rw [if_neg e] at hb
      rw [if_pos (by omega)]
      intro h2
      exact ha j (by omega) b h2 hb
/-- a table of fractions stays where a table of numbers grows -/
theorem Tab.apartI {W W' : World} {B base n : Nat} {v o : Value} {us xs : List Value} {rows : List (List Fr)} {tmp : Obj} (h : Tab W B v us rows) (ho : W.ownsRow base 29 1 o n xs) (hg : (W.alloc tmp).grownBy W' o.ownBlock) : Tab W' B v us rows := by
  have h2 := h.below ((Below.refl _ _).alloc (Nat.le_refl _) tmp)
  have o2 := ho.alloc tmp
  exact h2.kept hg (fun k e1 e2 => own_unlike h2.outer o2 (by decide) e2 e1) (fun i hi k e1 e2 => own_unlike (h2.inner i hi) o2 (by decide) e2 e1)
theorem take_map (K : List (List Fr)) (k : Nat) (h : k < K.length) : (K.take (k + 1)).map lwF = (K.take k).map lwF ++ [lwF (rw' K k)] := by
  rw [List.take_succ_eq_append_getElem h, List.map_append]
  simp [rw', h]
/-- the rows of the kernel of a table of dimensions -/
theorem ker_small {L : List (List Int)} (hd : dimsB L = true) (h : echO (dimT L) = true) (i : Nat) (hi : i < (kerA (dimT L)).length) : Small (rw' (kerA (dimT L)) i) ∧ (rw' (kerA (dimT L)) i).length = L.length := by
  obtain ⟨hd1, hd2⟩ := dimsB_out hd
  obtain ⟨s1, s2⟩ := dimT_shape L
  have hL : (rw' (dimT L) 0).length = L.length := (s2 0 (by omega)).1
  have hint : ∀ i, i < (dimT L).length → ∀ j, j < (rw' (dimT L) 0).length → (fr (rw' (dimT L) i) j).2 = 1 ∧ ((fr (rw' (dimT L) i) j).1).natAbs ≤ 9 := by
    intro i hi j hj
    rw [s1] at hi
    rw [hL] at hj
    rw [(s2 i hi).2 j hj]
    have := (dim_at (hd2 j hj)).2 i hi
    refine ⟨rfl, ?_⟩
    show (fi (ri L j) i).natAbs ≤ 9
    unfold fi
    omega
  rw [kerA_yes h] at hi ⊢
  rw [List.length_map] at hi
  obtain ⟨hm1, hm2⟩ := freeC_mem.1 (List.getElem_mem hi)
  have e : rw' ((freeC (rw' (dimT L) 0).length (echC (dimT L))).map (kerRow (echR (dimT L)) (echC (dimT L)) (rw' (dimT L) 0).length)) i = kerRow (echR (dimT L)) (echC (dimT L)) (rw' (dimT L) 0).length (freeC (rw' (dimT L) 0).length (echC (dimT L)))[i] := by
    show (List.map _ _)[i]?.getD [] = _
    rw [List.getElem?_map, List.getElem?_eq_getElem hi]
    rfl
  rw [e]
  obtain ⟨col, hcol⟩ : ∃ c, c = (freeC (rw' (dimT L) 0).length (echC (dimT L)))[i] := ⟨_, rfl⟩
  rw [← hcol] at hm1 hm2 ⊢
  have hdv := ker_den h (by rw [s1]; omega) hint hm1 hm2
  have h' := h
  unfold echO at h'
  rw [Bool.and_eq_true] at h'
  have hB := (ech_keeps rfl h'.1 h'.2).2
  obtain ⟨k1, k2, k3⟩ := kerRow_at (R := echR (dimT L)) (ech_rises h'.2) hB.chs hm1 hm2
  have hlen := kerRow_len (echR (dimT L)) (echC (dimT L)) (rw' (dimT L) 0).length col
  have hok : ∀ k, k < (rw' (dimT L) 0).length → okF (fr (kerRow (echR (dimT L)) (echC (dimT L)) (rw' (dimT L) 0).length col) k) = true := by
    intro k hk
    by_cases e1 : k = col
    · rw [e1, k1]; decide
    · by_cases e2 : k ∈ echC (dimT L)
      · obtain ⟨x, hx, rfl⟩ := mem_nt e2
        rw [k2 x hx]
        have hb : okF (fr (rw' (echR (dimT L)) x) col) = true := hB.ok x (by have := hB.cl; omega) col hm1
        obtain ⟨q1, q2, q3, q4, q5⟩ := okB_out hb
        unfold mirF okF
        simp only
        have hw : wrap64 (-(fr (rw' (echR (dimT L)) x) col).1) = -(fr (rw' (echR (dimT L)) x) col).1 := by unfold wrap64; omega
        rw [hw]
        exact okB_mk ⟨q1, q2, by omega, by omega, by rw [gcdi_neg_l]; exact q5⟩
      · rw [k3 k hk e1 e2]; decide
  refine ⟨⟨fun k hk => ?_, fun k hk => ?_, ⟨col, by rw [hlen]; exact hm1, by rw [k1]; decide⟩, ?_⟩, by rw [hlen, hL]⟩
  · rw [hlen] at hk
    exact (okB_out (hok k hk)).1
  · rw [hlen] at hk
    exact ⟨(okB_out (hok k hk)).2.2.1, (okB_out (hok k hk)).2.2.2.1⟩
  · rw [hlen]
    exact hdv
def grO (L : List (List Int)) : Bool := dimsB L && echO (dimT L)
def grA (L : List (List Int)) : List (List Int) := if grO L then (kerA (dimT L)).map lwF else []
theorem grA_no {L : List (List Int)} (h : grO L = false) : grA L = [] := by simp [grA, h]
theorem grA_yes {L : List (List Int)} (h : grO L = true) : grA L = (kerA (dimT L)).map lwF := by simp [grA, h]

set_option maxRecDepth 100000 in
set_option maxHeartbeats 4000000 in
theorem iGroups_any (v : Value) (us : List Value) (L : List (List Int)) (base : Nat) (w : World) (h : TabI w base v us L) :
    Calls Try.prog 10 #[v] w fun e w' => ∃ u vs, e = .returned (.tuple #[u, .bool (grO L)]) ∧ TabI w' w.heap.size u vs (grA L) ∧ Below w.heap.size w w' := by
  have b0 : ∀ (u : World) (o : Obj), Below u.heap.size u (u.alloc o) := fun u o => (Below.refl _ _).alloc (Nat.le_refl _) o
  obtain ⟨i0, hi, hz0, hz1, hz2⟩ := info_parts infoU
  have HT := hidH h
  obtain ⟨q, hq⟩ : ∃ q, q = dimsB L := ⟨_, rfl⟩
  have HQ := hidH hq
  have HDo : Hid (∀ W : World, Below w.heap.size w W → Calls Try.prog 31 #[v] W fun e w' => e = .returned (.bool q) ∧ Below W.heap.size W w') := by
    intro W hW; rw [hq]; exact iDims_any v us L base W (HT.out.below hW)
  clear h hq
  cases q
  · have hno : grO L = false := by unfold grO; rw [← HQ.out]; rfl
    rw [grA_no hno, hno]
    clear hno
    go_enter Try.func10, Try.ntmps10
    go_wp2_with fail
    refine (HDo.out _ (Below.refl _ _)).mono ?_
    rintro e w1 ⟨rfl, hb⟩
    go_wp2
    go_ret2
    exact ⟨_, [], rfl, TabI.lit hb.size, hb.alloc hb.size _⟩
  · obtain ⟨hd1, hd2⟩ := dimsB_out HQ.out.symm
    have HDT : Hid (∀ W : World, Below w.heap.size w W → Calls Try.prog 33 #[v] W fun e w' => ∃ u vs, e = .returned u ∧ Tab w' W.heap.size u vs (dimT L) ∧ Below W.heap.size W w') := by
      intro W hW; exact iDimTab_any v us L base W (HT.out.below hW) hd1.2 (fun k hk => (dim_at (hd2 k hk)).1)
    obtain ⟨M, hM⟩ : ∃ M, M = dimT L := ⟨_, rfl⟩
    rw [← hM] at HDT
    have HM := hidH hM
    obtain ⟨p, hp⟩ : ∃ p, p = echO M := ⟨_, rfl⟩
    have HPq := hidH hp
    have hgr : grO L = p := by unfold grO; rw [← HQ.out, ← hM, ← hp]; rfl
    have HGR := hidH hgr
    clear hd1 hd2 hM hp hgr
    cases p
    · rw [grA_no HGR.out, HGR.out]
      go_enter Try.func10, Try.ntmps10
      go_wp2_with fail
      refine (HDo.out _ (Below.refl _ _)).mono ?_
      rintro e w1 ⟨rfl, hb⟩
      have HB := hidH hb
      clear hb HDo
      go_wp2_with fail
      refine (HDT.out _ HB.out).mono ?_
      rintro e w2 ⟨um, vs, rfl, tm, hb⟩
      have HTM := hidH (Tab.read tm)
      replace HB := hidH (HB.out.trans (hb.mono HB.out.size))
      clear tm hb HDT
      go_wp2_with fail
      refine (iEch_any um M _ HTM.out).mono ?_
      rintro e w3 ⟨vm, vc, vf, us3, rfl, t, c, f, hb⟩
      rw [← HPq.out]
      obtain ⟨am, cm, rfl⟩ := own_shape t.outer
      obtain ⟨ac, cc, rfl⟩ := own_shape c
      obtain ⟨af, cf, rfl⟩ := own_shape f
      replace HB := hidH (HB.out.trans (hb.mono HB.out.size))
      have hs := HB.out.size
      clear c f t hb
      go_wp2
      go_ret2
      have tl := TabI.lit (W := w3.alloc (.cells #[.slice am us3.length cm, .slice ac (echCh M).length cc, .slice af (echFe M).length cf] 51)) (base := w.heap.size) (HB.out.alloc hs (.cells #[.slice am us3.length cm, .slice ac (echCh M).length cc, .slice af (echFe M).length cf] 51)).size
      rw [show (w3.alloc (.cells #[.slice am us3.length cm, .slice ac (echCh M).length cc, .slice af (echFe M).length cf] 51)).heap.size = w3.heap.size + 1 by simp] at tl
      exact ⟨_, [], rfl, tl, (HB.out.alloc hs _).alloc (HB.out.alloc hs (.cells #[.slice am us3.length cm, .slice ac (echCh M).length cc, .slice af (echFe M).length cf] 51)).size _⟩
    · have hGA := grA_yes HGR.out
      rw [← HM.out] at hGA
      have hk : tabB M 6 = true ∧ echK M = true := by have := HPq.out.symm; unfold echO at this; rw [Bool.and_eq_true] at this; exact this
      obtain ⟨⟨t1, t2, t3, t4⟩, tr⟩ := tabB_out hk.1
      obtain ⟨d1, d2, d3, d4⟩ := ech_dims hk.1 hk.2
      obtain ⟨e1, e2, e3⟩ := echO_yes HPq.out.symm
      obtain ⟨K, hK⟩ : ∃ K, K = kerA M := ⟨_, rfl⟩
      have HSM : Hid (∀ i, i < K.length → Small (rw' K i) ∧ (rw' K i).length ≤ 1000) := by
        intro i hi
        have h1 : echO (dimT L) = true := by rw [← HM.out]; exact HPq.out.symm
        have h2 := ker_small HQ.out.symm h1 i (by rw [← HM.out, ← hK]; exact hi)
        rw [← HM.out, ← hK] at h2
        have h3 := (dimsB_out HQ.out.symm).1.2
        exact ⟨h2.1, by omega⟩
      have hKl : K.length ≤ 1048576 := by rw [hK]; exact (kerA_small M).1
      have HE2 : Hid (∀ (W : World) (vm vc vf : Value) (us : List Value) (b : Nat), Tab W b vm us (echA M) → W.ownsRow b 3 1 vc (echCh M).length (natV (echCh M)) → W.ownsRow b 3 1 vf (echFe M).length (natV (echFe M)) → Calls Try.prog 34 #[.agg #[vm, vc, vf]] W fun e w' => ∃ v us', e = .returned v ∧ Tab w' W.heap.size v us' K ∧ Below W.heap.size W w') := by
        intro W vm vc vf us b ht hc hf
        rw [e1] at ht
        rw [e2] at hc
        rw [e3] at hf
        rw [hK, kerA_yes HPq.out.symm]
        exact kernel_any vm vc vf us (echR M) (echC M) (rw' M 0).length b b b W ht hc hf t3 (by omega) (by omega) d2 (by omega) (by omega) d4
      have HGA : Hid (grA L = K.map lwF) := by show _ = _; rw [hGA, hK]
      rw [HGA.out, HGR.out]
      clear hk t1 t2 t3 t4 tr d1 d2 d3 d4 e1 e2 e3 hGA hK
      go_enter Try.func10, Try.ntmps10
      go_wp2_with fail
      refine (HDo.out _ (Below.refl _ _)).mono ?_
      rintro e w1 ⟨rfl, hb⟩
      have HB := hidH hb
      clear hb HDo
      go_wp2_with fail
      refine (HDT.out _ HB.out).mono ?_
      rintro e w2 ⟨um, vs, rfl, tm, hb⟩
      have HTM := hidH (Tab.read tm)
      replace HB := hidH (HB.out.trans (hb.mono HB.out.size))
      clear tm hb HDT
      go_wp2_with fail
      refine (iEch_any um M _ HTM.out).mono ?_
      rintro e w3 ⟨vm, vc, vf, us3, rfl, t, c, f, hb⟩
      rw [← HPq.out]
      obtain ⟨am, cm, rfl⟩ := own_shape t.outer
      obtain ⟨ac, cc, rfl⟩ := own_shape c
      obtain ⟨af, cf, rfl⟩ := own_shape f
      replace HB := hidH (HB.out.trans (hb.mono HB.out.size))
      have hs := HB.out.size
      have T := hidH t
      have CC := hidH c
      have FF := hidH f
      clear c f t hb HTM
      go_wp2_with fail
      have hbY : Below w3.heap.size w3 ((w3.alloc (.cells #[.slice am us3.length cm, .slice ac (echCh M).length cc, .slice af (echFe M).length cf] 51)).alloc (.cells #[] 29)) := ((Below.refl _ _).alloc (Nat.le_refl _) _).alloc (by simp) _
      refine (HE2.out _ _ _ _ us3 _ (T.out.below hbY) (own_below CC.out hbY) (own_below FF.out hbY)).mono ?_
      rintro e w4 ⟨vk, us4, rfl, tk, hb4⟩
      have o0 := TabI.lit (W := w3.alloc (.cells #[.slice am us3.length cm, .slice ac (echCh M).length cc, .slice af (echFe M).length cf] 51)) (base := w3.heap.size) (by simp)
      have O0 := hidH (o0.below hb4)
      have B4 := hidH (HB.out.trans ((hbY.trans (hb4.mono hbY.size)).mono hs))
      have hS3 : w.heap.size ≤ w3.heap.size := hs
      have hS4 : w3.heap.size ≤ w4.heap.size := (hbY.trans (hb4.mono hbY.size)).size
      obtain ⟨S, hS⟩ : ∃ S, S = w3.heap.size := ⟨_, rfl⟩
      have hz1' : (w3.alloc (.cells #[.slice am us3.length cm, .slice ac (echCh M).length cc, .slice af (echFe M).length cf] 51)).heap.size = w3.heap.size + 1 := by simp
      rw [hz1', ← hS] at O0
      rw [← hS] at hS3 hS4 ⊢
      have TK := hidH tk
      obtain ⟨B, hB5⟩ : ∃ B, B = ((w3.alloc (.cells #[.slice am us3.length cm, .slice ac (echCh M).length cc, .slice af (echFe M).length cf] 51)).alloc (.cells #[] 29)).heap.size := ⟨_, rfl⟩
      rw [← hB5] at TK
      have hku : us4.length = K.length := tk.len
      obtain ⟨ak, ck, rfl⟩ := own_shape tk.outer
      rw [hku] at TK ⊢
      clear hb4 tk o0 hbY hs hS hz1' hB5 T CC FF HE2 HB
      obtain ⟨kn, hkn⟩ : ∃ n, n = K.length := ⟨_, rfl⟩
      have HKN := hidH hkn
      rw [← hkn] at TK hku hKl ⊢
      have HKU := hidH hku
      clear hkn hku
      go_wp2
      go_loopw [6, 26] (fun g i wr => ∃ (o : Value) (k : Nat) (ws : List Value), o = g ∧ k ≤ kn ∧ i = .int .i64 k ∧ Hid (ws.length = k) ∧ Hid (TabI wr S o ws ((K.take k).map lwF)) ∧ Hid (Tab wr B (.slice ak kn ck) us4 K) ∧ Hid (Below w.heap.size w wr) ∧ Hid (S ≤ wr.heap.size)) (fun _ i _ => kn - (intOf i).toNat)
      case atStart => exact ⟨_, 0, [], rfl, Nat.zero_le _, rfl, rfl, O0.out, TK.out, B4.out, hS4⟩
      case round =>
        clear O0 TK B4 hS4
        obtain ⟨o, k, ws, rfl, hk, rfl, hws, hO, hT, hB, hS4⟩ := hrel
        have hsz := hB.out.size
        have hS5 := hS4.out
        by_cases hlt : k < kn
        · have hku := HKU.out
          obtain ⟨g, cg, eg⟩ := own_some hT.out.outer (by omega)
          injection eg with e1 e2 e3
          subst e1
          clear e2 e3
          have ho := hT.out.outer
          rw [hku] at ho
          have d1 := ho.cellAt k (by omega)
          rw [List.getElem?_eq_getElem (by omega), show us4[k] = vl us4 k by simp [vl, List.getElem?_eq_getElem (show k < us4.length by omega)]] at d1
          have hin := (RdR.own (hT.out.inner k (by omega))).1
          obtain ⟨y, hy⟩ : ∃ y, y = vl us4 k := ⟨_, rfl⟩
          rw [← hy] at d1 hin
          obtain ⟨sm1, sm2⟩ := HSM.out k (by have := HKN.out; omega)
          have HL := hidH (iLeast_any y (rw' K k) wr hin sm1 sm2)
          have hll : (lwF (rw' K k)).length = (rw' K k).length := by simp [lwF]
          obtain ⟨r, hr⟩ : ∃ r, r = lwF (rw' K k) := ⟨_, rfl⟩
          rw [← hr] at HL hll
          have HRR := hidH hr
          rw [← hll] at HL
          clear ho hin hy hr sm1 sm2 hll hku
          go_wp2_with fail
          refine HL.out.mono ?_
          rintro e w5 ⟨u, rfl, ou, hb5⟩
          have OU := hidH ou
          have O5 := hidH (hO.out.below hb5)
          have T5 := hidH (hT.out.below hb5)
          have B5 := hidH (hB.out.trans (hb5.mono hsz))
          have hs5 := hb5.size
          have hlt5 : ∀ i, i < ws.length → ∀ b, (vl ws i).ownBlock = some b → u.ownBlock ≠ some b := by
            intro i hi b h1 h2
            have h3 := hO.out.lt i hi b h1
            have h4 := (ou.lt b h2).1
            omega
          have HLT := hidH hlt5
          obtain ⟨ua, uc, rfl⟩ := own_shape ou
          clear ou hb5 hlt5 hO hT hB d1 HL
          have hjm : ws.length + 1 ≤ 1048577 := by have := hws.out; omega
          have hjm2 : ws.length + 1 ≤ maxLen := by unfold maxLen; omega
          obtain ⟨oa, oc, rfl⟩ := own_shape O5.out.outer
          go_wp2_with (at_builtin; refine wpList_append_own _ rfl _ _ 22 rfl S 29 i0 (.slice none 0 0) 1 24 Try.underlying22 hi hz0 hz1 hz2 rfl (by decide) _ _ _ rfl (O5.out.outer.alloc _) ⟨w5.heap.size, 0, none⟩ 1 1 [.slice ua r.length uc] rfl rfl (cell_one_new _ _ _) (by simp [Value.oneCell']) hjm2 (by omega) (by simp; omega) ?_; intro v' w6 hown' hgrow _; obtain ⟨va', vc', rfl⟩ := own_shape hown')
          go_roundw
          case rel =>
            have A5 := O5.out.append (ps := r) (u := .slice ua r.length uc) (own_le OU.out (by omega)) HLT.out hown' hgrow
            rw [HRR.out, ← take_map K k (by have := HKN.out; omega)] at A5
            have T6 := T5.out.apartI O5.out.outer hgrow
            have hbA := below_appended O5.out.outer (by omega) hgrow
            refine ⟨_, k + 1, ws ++ [_], rfl, by omega, by go_num, ?_, A5, T6, B5.out.trans (hbA.mono (by omega)), ?_⟩
            · show _ = _
              rw [List.length_append, hws.out]; rfl
            · show _ ≤ _
              have := hbA.size
              omega
          case measure => simp [intOf]; omega
        · obtain rfl : k = kn := by omega
          have hO' := hO.out
          rw [HKN.out, List.take_length] at hO'
          have HO := hidH hO'
          clear hO'
          go_wp2
          go_ret2
          exact ⟨_, ws, rfl, HO.out.le hS3, hB.out⟩
end Go.Proofs.Ytbbkejfcheobaak
