/- Several texts of this proof laid one behind the other: each has its own heading below. -/
import Derived.Test.YthnlcgilmljliaaFitW2
import Derived.Test.YthnlcgilmljliaaTabW3
import Derived.Test.YthnlcgilmljliaaFitPM
import Derived.RangeFuncWrites
import Derived.RangeFuncBox
import Derived.RangeFuncNested
import Derived.RangeFuncLeaves
import Derived.RangeFuncBound
import Derived.RangeFuncCalls
import Derived.Shelf.RegionOpen
import Derived.Test.YthnlcgilmljliaaSpW0
import Derived.Test.YthnlcgilmljliaaPk3
import Derived.Test.YthnlcgilmljliaaFitW5
import Derived.Test.YthnlcgilmljliaaBudMath
import Derived.Test.YthnlcgilmljliaaBudW1
import Derived.Test.YthnlcgilmljliaaTimW3
import Derived.Maps.AppendAt

/- The walks of the program's SpotsOk and curveOk. -/
namespace Go.Proofs.Ythnlcgilmljliaa
open Go.RowKit Go.Proofs.Ythnlcgilmljliaa.RM

theorem two_dec (a b c d : Int) : two a b c d = (okB a b && okB c d) := rfl

set_option maxRecDepth 100000 in
set_option maxHeartbeats 2000000 in
theorem iSpo_any (v : Value) (ss : List Sp) (w : World) (h : RdS w v ss) :
    Calls Try.prog 14 #[v] w fun e w' => e = .returned (.bool (sptB ss)) ∧ Below w.heap.size w w' := by
  obtain ⟨a, c, rfl, h2, h3, h4, h5⟩ := h
  have H5 : Hid (∀ j, j < ss.length → ∃ b off, a = some ⟨b, off, none⟩ ∧ w.cell? ⟨b, off + j * 4, none⟩ = some (.int .i64 (sp ss j).1.1) ∧ w.cell? ⟨b, off + j * 4 + 1, none⟩ = some (.int .i64 (sp ss j).1.2) ∧ w.cell? ⟨b, off + j * 4 + 2, none⟩ = some (.int .i64 (sp ss j).2.1) ∧ w.cell? ⟨b, off + j * 4 + 3, none⟩ = some (.int .i64 (sp ss j).2.2)) := h5
  unfold maxLen at h2
  obtain ⟨L, hL⟩ : ∃ L, L = ss.length := ⟨_, rfl⟩
  have HL := hidP hL
  rw [← hL] at h2 H5 ⊢
  clear h5 h3 h4 hL
  by_cases n0 : L < 2
  · have HF : Hid (sptB ss = false) := sptB_len (by have := HL.out; omega)
    go_enter Try.func14, Try.ntmps14
    go_wp2
    go_ret
    exact ⟨ret_b10 HF.out.symm, Below.refl _ _⟩
  by_cases n1 : 12 < L
  · have HF : Hid (sptB ss = false) := sptB_len (by have := HL.out; omega)
    go_enter Try.func14, Try.ntmps14
    go_wp2
    go_ret
    exact ⟨ret_b10 HF.out.symm, Below.refl _ _⟩
  go_enter Try.func14, Try.ntmps14
  go_wp2
  go_loopw [15] (fun i wr => ∃ k : Nat, k ≤ L ∧ i = .int .i64 k ∧ Hid (Below w.heap.size w wr) ∧ Hid (∀ j, j < k → two (sp ss j).1.1 (sp ss j).1.2 (sp ss j).2.1 (sp ss j).2.2 = true)) (fun i _ => L - (intOf i).toNat)
  case atStart => exact ⟨0, Nat.zero_le _, rfl, Below.refl _ _, fun j hj => absurd hj (Nat.not_lt_zero _)⟩
  case round =>
    obtain ⟨k, hk, rfl, hB, HP⟩ := hrel
    by_cases hlt : k < L
    · obtain ⟨b, off, rfl, c1, c2, c3, c4⟩ := H5.out k hlt
      replace c1 := cell_keep hB.out c1
      replace c2 := cell_keep hB.out c2
      replace c3 := cell_keep hB.out c3
      replace c4 := cell_keep hB.out c4
      obtain ⟨p, hp⟩ : ∃ p, p = sp ss k := ⟨_, rfl⟩
      have HPQ := hidP hp
      rw [← hp] at c1 c2 c3 c4
      obtain ⟨⟨x1, x2⟩, y1, y2⟩ := p
      dsimp only at c1 c2 c3 c4
      clear hp
      have HX := hidP (fun W => right_any x1 x2 W)
      have HY := hidP (fun W => right_any y1 y2 W)
      have HK : Hid (two (sp ss k).1.1 (sp ss k).1.2 (sp ss k).2.1 (sp ss k).2.2 = (okB x1 x2 && okB y1 y2)) := by show _ = _; rw [← HPQ.out]; rfl
      obtain ⟨q1, hq1⟩ : ∃ q, q = okB x1 x2 := ⟨_, rfl⟩
      obtain ⟨q2, hq2⟩ : ∃ q, q = okB y1 y2 := ⟨_, rfl⟩
      rw [← hq1] at HX HK
      rw [← hq2] at HY HK
      clear hq1 hq2
      go_upto_region 6 with fail
      obtain ⟨N, hN⟩ : ∃ N, N = wr.heap.size := ⟨_, rfl⟩
      obtain ⟨X, hX⟩ : ∃ X, X = wr.alloc (.cells #[.int .i64 x1, .int .i64 x2, .int .i64 y1, .int .i64 y2] 54) := ⟨_, rfl⟩
      have hb : Below wr.heap.size wr X := by rw [hX]; exact b0S _ _
      have p1 : X.cell? ⟨N, 0, none⟩ = some (.int .i64 x1) := by rw [hX, hN]; simp [go_sem]
      have p2 : X.cell? ⟨N, 1, none⟩ = some (.int .i64 x2) := by rw [hX, hN]; simp [go_sem]
      have p3 : X.cell? ⟨N, 2, none⟩ = some (.int .i64 y1) := by rw [hX, hN]; simp [go_sem]
      have p4 : X.cell? ⟨N, 3, none⟩ = some (.int .i64 y2) := by rw [hX, hN]; simp [go_sem]
      have BX := hidP (hB.out.trans (hb.mono hB.out.size))
      rw [← hX, ← hN]
      clear hX hN hb c1 c2 c3 c4 hB
      go_wp2_with fail
      refine (HX.out _).mono ?_
      rintro e w1 ⟨rfl, hb⟩
      replace BX := hidP (BX.out.trans (hb.mono BX.out.size))
      replace p3 := cell_keep hb p3
      replace p4 := cell_keep hb p4
      clear hb p1 p2 HX
      cases q1
      · have HF : Hid (sptB ss = false) := sptB_at (k := k) (by rw [← HL.out]; exact hlt) (by rw [HK.out]; rfl)
        go_wp2
        go_ret
        exact ⟨ret_b10 HF.out.symm, BX.out⟩
      · go_wp2_with fail
        refine (HY.out _).mono ?_
        rintro e w2 ⟨rfl, hb⟩
        replace BX := hidP (BX.out.trans (hb.mono BX.out.size))
        clear hb p3 p4 HY
        cases q2
        · have HF : Hid (sptB ss = false) := sptB_at (k := k) (by rw [← HL.out]; exact hlt) (by rw [HK.out]; rfl)
          go_wp2
          go_ret
          exact ⟨ret_b10 HF.out.symm, BX.out⟩
        · go_wp2
          go_roundw
          case rel =>
            refine ⟨k + 1, by omega, by go_num, BX.out, fun j hj => ?_⟩
            by_cases e : j = k
            · subst e
              rw [HK.out]
              rfl
            · exact HP.out j (by omega)
          case measure => simp [intOf]; omega
    · obtain rfl : k = L := by omega
      have HF : Hid (sptB ss = true) := decide_eq_true ⟨by have := HL.out; omega, fun j hj => HP.out j (by rw [HL.out]; exact hj)⟩
      go_wp2
      go_ret
      exact ⟨ret_b10 HF.out.symm, hB.out⟩

theorem crv_row {cs : List Fr} (h : cs.length ≤ 4) : crvB cs = rowB cs := by
  unfold crvB rowB
  by_cases h1 : 1 ≤ cs.length
  · rw [decide_eq_true (show 1 ≤ cs.length ∧ cs.length ≤ 4 from ⟨h1, h⟩), decide_eq_true (show 1 ≤ cs.length ∧ cs.length ≤ 6 by omega)]
  · rw [decide_eq_false (show ¬ (1 ≤ cs.length ∧ cs.length ≤ 4) by omega), decide_eq_false (show ¬ (1 ≤ cs.length ∧ cs.length ≤ 6) by omega)]
set_option maxRecDepth 100000 in
set_option maxHeartbeats 2000000 in
theorem iCrv_any (v : Value) (cs : List Fr) (w : World) (h : RdR w v cs) :
    Calls Try.prog 32 #[v] w fun e w' => e = .returned (.bool (crvB cs)) ∧ Below w.heap.size w w' := by
  have HR := hidP (iRow_any v cs w h)
  obtain ⟨a, c, rfl, h2, h3, h4, h5⟩ := h
  unfold maxLen at h2
  clear h5 h3 h4
  obtain ⟨L, hL⟩ : ∃ L, L = cs.length := ⟨_, rfl⟩
  have HL := hidP hL
  rw [← hL] at h2 HR ⊢
  clear hL
  go_enter Try.func32, Try.ntmps32
  by_cases n1 : 4 < L
  · have HF : Hid (crvB cs = false) := crvB_no (by have := HL.out; omega)
    go_wp2
    go_ret
    exact ⟨ret_b10 HF.out.symm, Below.refl _ _⟩
  · have HF : Hid (crvB cs = rowB cs) := crv_row (by have := HL.out; omega)
    go_wp2_with fail
    refine HR.out.mono ?_
    rintro e w1 ⟨rfl, hb⟩
    go_wp2
    go_ret
    exact ⟨ret_b10 HF.out.symm, hb⟩
end Go.Proofs.Ythnlcgilmljliaa

/- The walk of the program's CurveAt: the library's iterator from the end on, and a step of the curve in each round. -/
namespace Go.Proofs.Ythnlcgilmljliaa
open Go.RowKit Go.Shelf Go.Proofs.Ythnlcgilmljliaa.RM
attribute [local go_sem] Oper.semAt_some

/-- blocks p and q lie as they lay -/
def KpB (p q : Nat) (W W' : World) : Prop := W'.heap[p]? = W.heap[p]? ∧ W'.heap[q]? = W.heap[q]?
theorem KpB.refl (p q : Nat) (W : World) : KpB p q W W := ⟨rfl, rfl⟩
theorem KpB.trans {p q : Nat} {X Y Z : World} (h : KpB p q X Y) (k : KpB p q Y Z) : KpB p q X Z := ⟨k.1.trans h.1, k.2.trans h.2⟩
theorem KpB.below {p q : Nat} {W W' : World} (h : Below W.heap.size W W') (hp : p < W.heap.size) (hq : q < W.heap.size) : KpB p q W W' := ⟨h.block p hp, h.block q hq⟩
theorem KpB.set {p q b o : Nat} {W : World} {v : Value} (hp : b ≠ p) (hq : b ≠ q) : KpB p q W (W.setCell ⟨b, o, none⟩ v) := ⟨Below.heap_setCell W ⟨b, o, none⟩ v p hp.symm, Below.heap_setCell W ⟨b, o, none⟩ v q hq.symm⟩
/-- what has come when j rounds from the end on are over -/
def frEnd (cs : List Fr) (m j : Nat) : List (Int × Fr) := (List.range j).map (fun (i : Nat) => ((m : Int) - 1 - (i : Int), fr cs (m - 1 - i)))
theorem frEnd_succ (cs : List Fr) (m j : Nat) : frEnd cs m (j + 1) = frEnd cs m j ++ [((m : Int) - 1 - j, fr cs (m - 1 - j))] := by simp [frEnd, List.range_succ]
theorem frEnd_len (cs : List Fr) (m j : Nat) : (frEnd cs m j).length = j := by simp [frEnd]
/-- the curve's steps over what has come -/
def phF (x : Fr) (pre : List (Int × Fr)) : Fr × Bool := pre.foldl (fun s y => (addP (mulP s.1 x) y.2, addK (mulP s.1 x) y.2)) ((0, 1), true)
theorem phF_app (x : Fr) (pre : List (Int × Fr)) (y : Int × Fr) : phF x (pre ++ [y]) = (addP (mulP (phF x pre).1 x) y.2, addK (mulP (phF x pre).1 x) y.2) := by unfold phF; rw [List.foldl_append]; rfl
theorem phF_all (cs : List Fr) (x : Fr) : ∀ j, phF x (frEnd cs cs.length j) = phr cs x j
  | 0 => rfl
  | j + 1 => by rw [frEnd_succ, phF_app, phF_all cs x j]; rfl

set_option maxRecDepth 100000 in
set_option maxHeartbeats 2000000 in
/-- the library's iterator from the end on -/
theorem backR_in (n l Bs g off m cap : Nat) (cs : List Fr) (hn : 1 ≤ n) (hm : m ≤ 1000000000) (J Jx : List (Int × Fr) → World → Prop)
    (hY : ∀ pre x W1, J pre W1 → pre.length < m → YieldAt Fence.wide (n - 1) Try.prog l #[.int .i64 x.1, .agg #[.int .i64 x.2.1, .int .i64 x.2.2]] W1 fun e W' =>
      (e = .returned (.bool true) ∧ J (pre ++ [x]) W' ∧ KpB Bs g W1 W') ∨ (e = .returned (.bool false) ∧ Jx (pre ++ [x]) W'))
    (W : World) (hBs : W.cell? ⟨Bs, 0, none⟩ = some (.slice (some ⟨g, off, none⟩) m cap)) (hc : ∀ j, j < m → W.cell? ⟨g, off + j * 2, none⟩ = some (.int .i64 (fr cs j).1) ∧ W.cell? ⟨g, off + j * 2 + 1, none⟩ = some (.int .i64 (fr cs j).2)) (h0 : J [] W) :
    CallsIn Fence.wide n Try.prog 69 #[.func (.yield l) #[] #[], .pointer (some ⟨Bs, 0, none⟩)] W fun e W' => (∃ v, e = .returned v) ∧
      ((∃ ys, ys = frEnd cs m m ∧ J ys W') ∨ (∃ pre, True ∧ Jx pre W')) := by
  have HC : Hid (∀ j, j < m → W.cell? ⟨g, off + j * 2, none⟩ = some (.int .i64 (fr cs j).1) ∧ W.cell? ⟨g, off + j * 2 + 1, none⟩ = some (.int .i64 (fr cs j).2)) := hc
  have HS : Hid (W.cell? ⟨Bs, 0, none⟩ = some (.slice (some ⟨g, off, none⟩) m cap)) := hBs
  clear hc
  refine callsIn_of_wp Try.func69 rfl trivial ?_ rfl
  simp only [Try.ntmps69, List.size_toArray, List.length_cons, List.length_nil, Nat.reduceAdd, Nat.reduceSub, Array.replicate_succ, Array.replicate_zero, List.push_toArray, List.append_toArray, List.nil_append, List.cons_append]
  gi_wp2
  clear hBs
  gi_loopw [3] (fun i wr => ∃ (j : Nat) (i0 : Int), j ≤ m ∧ i0 = (m : Int) - 1 - j ∧ i = .int .i64 i0 ∧ Hid (J (frEnd cs m j) wr) ∧ Hid (KpB Bs g W wr)) (fun i _ => (intOf i + 1).toNat)
  case atStart => exact ⟨0, (m : Int) - 1, Nat.zero_le _, by omega, rfl, h0, KpB.refl _ _ _⟩
  case round =>
    clear h0
    obtain ⟨j, i0, hj, hi0, rfl, hJ, hK⟩ := hrel
    have hs : wr.cell? ⟨Bs, 0, none⟩ = some (.slice (some ⟨g, off, none⟩) m cap) := (World.cell?_of_block (w := W) (a := ⟨Bs, 0, none⟩) hK.out.1).trans HS.out
    by_cases hlt : j < m
    · obtain ⟨i, rfl⟩ : ∃ i : Nat, i0 = i := ⟨i0.toNat, by omega⟩
      have hi : i < m := by omega
      have ei : m - 1 - j = i := by omega
      have hx : wr.cell? ⟨g, off + i * 2, none⟩ = some (.int .i64 (fr cs i).1) := (World.cell?_of_block (w := W) (a := ⟨g, off + i * 2, none⟩) hK.out.2).trans (HC.out i hi).1
      have hx' : wr.cell? ⟨g, off + i * 2 + 1, none⟩ = some (.int .i64 (fr cs i).2) := (World.cell?_of_block (w := W) (a := ⟨g, off + i * 2 + 1, none⟩) hK.out.2).trans (HC.out i hi).2
      obtain ⟨fn, tmps, assign, body, hy, hR⟩ := hY _ ((i : Int), fr cs i) wr hJ.out (by rw [frEnd_len]; exact hlt)
      dsimp only at hy
      obtain ⟨x, hxx⟩ : ∃ x, x = fr cs i := ⟨_, rfl⟩
      have HX : Hid (x = fr cs i) := hxx
      rw [← hxx] at hx hx' hy hR
      have HI : Hid ((i : Int) = (m : Int) - 1 - j) := hi0
      have HE : Hid (m - 1 - j = i) := ei
      clear hxx hi0 ei
      obtain ⟨x1, x2⟩ := x
      dsimp only at hx hx' hy hR
      gi_wp2
      refine hR.mono ?_
      rintro e W3 (⟨rfl, hJ3, hk3⟩ | ⟨rfl, hJx3⟩)
      · clear hy hR hx hx' hs
        gi_wp2
        go_roundw
        case rel => exact ⟨j + 1, (i : Int) - 1, by omega, by have := HI.out; omega, rfl, by rw [frEnd_succ, ← HI.out, HE.out, ← HX.out]; exact hJ3, hK.out.trans hk3⟩
        case measure => simp [intOf] <;> omega
      · gi_wp2
        refine bodyPost_ret (results_none rfl _ _ _) rfl ?_
        exact ⟨⟨_, rfl⟩, .inr ⟨_, trivial, hJx3⟩⟩
    · obtain rfl : j = m := by omega
      obtain rfl : i0 = -1 := by omega
      gi_wp2
      go_end0
      exact ⟨⟨_, rfl⟩, .inl ⟨_, rfl, hJ.out⟩⟩

theorem backRv_in (n : Nat) (a : Option Addr) (len cap : Nat) (w : World) :
    CallsIn Fence.wide n Try.prog 41 #[.slice a len cap] w fun e w' => e = .returned (.func (.func 69) #[] #[.pointer (some ⟨w.heap.size, 0, none⟩)]) ∧ w' = w.alloc (.cells #[.slice a len cap] 27) := by
  refine callsIn_of_wp Try.func41 rfl trivial ?_ rfl
  simp only [Try.ntmps41, List.size_toArray, List.length_cons, List.length_nil, Nat.reduceAdd, Nat.reduceSub, Array.replicate_succ, Array.replicate_zero, List.push_toArray, List.append_toArray, List.nil_append, List.cons_append]
  gi_wp2
  go_ret
  exact ⟨rfl, rfl⟩
theorem backR_seq (n Bs g off m cap : Nat) (cs : List Fr) (hn : 1 ≤ n) (hm : m ≤ 1000000000) (w : World) (hBs : w.cell? ⟨Bs, 0, none⟩ = some (.slice (some ⟨g, off, none⟩) m cap)) (hg : g < w.heap.size) (hc : ∀ j, j < m → w.cell? ⟨g, off + j * 2, none⟩ = some (.int .i64 (fr cs j).1) ∧ w.cell? ⟨g, off + j * 2 + 1, none⟩ = some (.int .i64 (fr cs j).2)) :
    SeqStopsK Fence.wide n Try.prog 69 #[.pointer (some ⟨Bs, 0, none⟩)] (fun x : Int × Fr => #[Value.int .i64 x.1, .agg #[.int .i64 x.2.1, .int .i64 x.2.2]]) (KpB Bs g) (fun ys => ys = frEnd cs m m) (fun _ => True) m w :=
  fun l J Jx W hW _ _ hY h0 => backR_in n l Bs g off m cap cs hn hm J Jx hY W ((hW.cell (p := ⟨Bs, 0, none⟩) (World.block_lt_of_cell? w _ hBs)).trans hBs) (fun j hj => ⟨(hW.cell (p := ⟨g, off + j * 2, none⟩) hg).trans (hc j hj).1, (hW.cell (p := ⟨g, off + j * 2 + 1, none⟩) hg).trans (hc j hj).2⟩) h0
end Go.Proofs.Ythnlcgilmljliaa

/- The walk of the program's CurveAt. -/
namespace Go.Proofs.Ythnlcgilmljliaa
open Go.RowKit Go.Shelf Go.Proofs.Ythnlcgilmljliaa.RM
attribute [local go_sem] Oper.semAt_some

theorem boxed_oth {W : World} {B b : Nat} {t : TypeId} {v : Value} (h : Boxed W B t v) (hne : B ≠ b) (o : Nat) (u : Value) : Boxed (W.setCell ⟨b, o, none⟩ u) B t v := (Below.heap_setCell W ⟨b, o, none⟩ u B hne).trans h
theorem own_isR2 {X Y : World} {row : Option Nat} {R : Nat} {n d : Int} (h : IsR X R n d) (hg : X.grownBy Y row) (hr : ∀ r, row = some r → ∃ o : Obj, X.heap[r]? = some o ∧ o.isCells = false) : IsR Y R n d :=
  (hg.block R h.lt (fun e => by obtain ⟨o, ho, hc⟩ := hr _ e.symm; rw [show X.heap[R]? = _ from h] at ho; cases ho; cases hc)).trans h
theorem crvO_no1 {cs : List Fr} {x : Fr} (h : crvB cs = false) : crvO cs x = false := by unfold crvO; rw [h]; rfl
theorem crvO_no2 {cs : List Fr} {x : Fr} (h : okB x.1 x.2 = false) : crvO cs x = false := by unfold crvO; rw [h]; simp
theorem crv_ret {cs : List Fr} {x : Fr} (h : crvO cs x = false) : Ending.returned (.tuple #[.agg #[.int .i64 0, .int .i64 0], .bool false]) = .returned (.tuple #[.agg #[.int .i64 (crvA cs x).1, .int .i64 (crvA cs x).2], .bool (crvO cs x)]) := by rw [crvA_no h, h]

set_option maxRecDepth 100000 in
set_option maxHeartbeats 2000000 in
theorem iCurveAt_no (v : Value) (cs : List Fr) (x : Fr) (w : World) (h : RdR w v cs) (hn : crvB cs = false ∨ okB x.1 x.2 = false) :
    Calls Try.prog 11 #[v, .agg #[.int .i64 x.1, .int .i64 x.2]] w fun e w' => e = .returned (.tuple #[.agg #[.int .i64 (crvA cs x).1, .int .i64 (crvA cs x).2], .bool (crvO cs x)]) ∧ Below w.heap.size w w' := by
  have HC := hidP (fun W (hW : Below w.heap.size w W) => iCrv_any v cs W (h.below hW))
  have HO := hidP (fun W => right_any x.1 x.2 W)
  have HR : Hid (crvO cs x = false) := by show _ = _; rcases hn with k | k; exact crvO_no1 k; exact crvO_no2 k
  have HN := hidP hn
  obtain ⟨a, c, rfl, h2, h3, h4, h5⟩ := h
  clear h5 h3 h4 hn
  obtain ⟨q, hq⟩ : ∃ q, q = crvB cs := ⟨_, rfl⟩
  obtain ⟨o, ho⟩ : ∃ q, q = okB x.1 x.2 := ⟨_, rfl⟩
  have HRE := hidP (crv_ret HR.out)
  rw [← hq] at HC HN
  rw [← ho] at HO HN
  clear hq ho
  obtain ⟨x1, x2⟩ := x
  dsimp only at HO
  go_enter Try.func11, Try.ntmps11
  obtain ⟨A, hA⟩ : ∃ A, A = w.heap.size + 1 := ⟨_, rfl⟩
  have B0 : Below w.heap.size w ((w.alloc (.cells #[.int .i64 x1, .int .i64 x2] 33)).alloc (.cells #[.int .i64 0, .int .i64 0] 33)) := ((Below.refl _ _).alloc (Nat.le_refl _) _).alloc (by simp) _
  have X0 : IsR ((w.alloc (.cells #[.int .i64 x1, .int .i64 x2] 33)).alloc (.cells #[.int .i64 0, .int .i64 0] 33)) w.heap.size x1 x2 := (IsR.new w x1 x2).below ((Below.refl _ _).alloc (Nat.le_refl _) _)
  have A0 : IsR ((w.alloc (.cells #[.int .i64 x1, .int .i64 x2] 33)).alloc (.cells #[.int .i64 0, .int .i64 0] 33)) (w.heap.size + 1) 0 0 := by
    have := IsR.new (w.alloc (.cells #[.int .i64 x1, .int .i64 x2] 33)) 0 0
    simpa using this
  go_wp2_with fail
  refine (HC.out _ B0).mono ?_
  rintro e w1 ⟨rfl, hb⟩
  replace X0 := X0.below hb
  replace A0 := A0.below hb
  replace B0 := B0.trans (hb.mono B0.size)
  clear hb
  cases q
  · have a0 := A0.c0
    have a1 := A0.c1
    have a2 := A0.f0
    have a3 := A0.f1
    go_wp2
    exact bodyPost_ret (v := .tuple #[.agg #[.int .i64 0, .int .i64 0], .bool false]) (by simp [results, Try.results11, go_sem, a0, a1]) rfl ⟨HRE.out, (B0.setCell (p := ⟨w.heap.size + 1, 0, none⟩) (by simp) _).setCell (p := ⟨w.heap.size + 1, 1, none⟩) (by simp) _⟩
  · obtain rfl : o = false := by rcases HN.out with k | k; cases k; exact k
    have x0 := X0.c0
    have x1' := X0.c1
    go_wp2_with fail
    refine (HO.out _).mono ?_
    rintro e w2 ⟨rfl, hb⟩
    replace A0 := A0.below hb
    replace B0 := B0.trans (hb.mono B0.size)
    clear hb
    have a0 := A0.c0
    have a1 := A0.c1
    have a2 := A0.f0
    have a3 := A0.f1
    go_wp2
    exact bodyPost_ret (v := .tuple #[.agg #[.int .i64 0, .int .i64 0], .bool false]) (by simp [results, Try.results11, go_sem, a0, a1]) rfl ⟨HRE.out, (B0.setCell (p := ⟨w.heap.size + 1, 0, none⟩) (by simp) _).setCell (p := ⟨w.heap.size + 1, 1, none⟩) (by simp) _⟩

/-- the loop's own cells -/
def CvS (H X A : Nat) (x : Fr) (pre : List (Int × Fr)) (W : World) : Prop :=
  IsR W H (phF x pre).1.1 (phF x pre).1.2 ∧ Boxed W (H + 1) 4 (.bool (phF x pre).2) ∧ IsR W X x.1 x.2 ∧ IsR W A 0 0
theorem CvS.own (H X A : Nat) (x : Fr) {pre : List (Int × Fr)} {Y Z : World} {row : Option Nat} (hs : CvS H X A x pre Y) (hgr : Y.grownBy Z row) (hrow : ∀ r, row = some r → ∃ o : Obj, Y.heap[r]? = some o ∧ o.isCells = false) : CvS H X A x pre Z :=
  ⟨own_isR2 hs.1 hgr hrow, hs.2.1.kept hgr (fun e => by obtain ⟨o, ho, hc⟩ := hrow _ e.symm; rw [show Y.heap[H + 1]? = _ from hs.2.1] at ho; cases ho; cases hc), own_isR2 hs.2.2.1 hgr hrow, own_isR2 hs.2.2.2 hgr hrow⟩

set_option maxRecDepth 100000 in
set_option maxHeartbeats 4000000 in
theorem iCurveAt_any (v : Value) (cs : List Fr) (x : Fr) (w : World) (h : RdR w v cs) :
    Calls Try.prog 11 #[v, .agg #[.int .i64 x.1, .int .i64 x.2]] w fun e w' => e = .returned (.tuple #[.agg #[.int .i64 (crvA cs x).1, .int .i64 (crvA cs x).2], .bool (crvO cs x)]) ∧ Below w.heap.size w w' := by
  cases hq : crvB cs
  · exact iCurveAt_no v cs x w h (.inl hq)
  cases ho : okB x.1 x.2
  · exact iCurveAt_no v cs x w h (.inr ho)
  have HV : Hid (phr cs x cs.length = (crvA cs x, crvO cs x)) := crv_both cs x hq ho
  have HPF := hidP (phF_all cs x cs.length)
  rw [HV.out] at HPF
  have HC := hidP (fun W (hW : Below w.heap.size w W) => iCrv_any v cs W (h.below hW))
  have HO := hidP (fun W => right_any x.1 x.2 W)
  rw [hq] at HC
  rw [ho] at HO
  have hc14 := (crvB_out hq).1
  obtain ⟨a, c, rfl, h2, h3, h4, h5⟩ := h
  obtain ⟨g, off, rfl, _, _⟩ := h5 0 (by omega)
  have H5 : Hid (∀ j, j < cs.length → w.cell? ⟨g, off + j * 2, none⟩ = some (.int .i64 (fr cs j).1) ∧ w.cell? ⟨g, off + j * 2 + 1, none⟩ = some (.int .i64 (fr cs j).2)) := by
    intro j hj
    obtain ⟨b, o, e, k1, k2⟩ := h5 j hj
    cases e
    exact ⟨k1, k2⟩
  have hg : g < w.heap.size := World.block_lt_of_cell? w _ (H5.out 0 (by omega)).1
  clear h5 h3 h4 hq ho HV h2
  obtain ⟨L, hL⟩ : ∃ L, L = cs.length := ⟨_, rfl⟩
  have HL := hidP hL
  rw [← hL] at H5 HC HPF hc14 ⊢
  clear hL
  refine (callsIn_wide (n := 5)).1 ?_
  obtain ⟨x1, x2⟩ := x
  dsimp only at HO
  dsimp only
  refine callsIn_of_wp_marks Try.func11 rfl trivial ?_ rfl
  simp only [Try.ntmps11, List.size_toArray, List.length_cons, List.length_nil, Nat.reduceAdd, Nat.reduceSub, Array.replicate_succ, Array.replicate_zero, List.push_toArray, List.append_toArray, List.nil_append, List.cons_append]
  have B0 : Below w.heap.size w ((w.alloc (.cells #[.int .i64 x1, .int .i64 x2] 33)).alloc (.cells #[.int .i64 0, .int .i64 0] 33)) := ((Below.refl _ _).alloc (Nat.le_refl _) _).alloc (by simp) _
  have X0 : IsR ((w.alloc (.cells #[.int .i64 x1, .int .i64 x2] 33)).alloc (.cells #[.int .i64 0, .int .i64 0] 33)) w.heap.size x1 x2 := (IsR.new w x1 x2).below ((Below.refl _ _).alloc (Nat.le_refl _) _)
  have A0 : IsR ((w.alloc (.cells #[.int .i64 x1, .int .i64 x2] 33)).alloc (.cells #[.int .i64 0, .int .i64 0] 33)) (w.heap.size + 1) 0 0 := by
    have := IsR.new (w.alloc (.cells #[.int .i64 x1, .int .i64 x2] 33)) 0 0
    simpa using this
  gi_wp2_with (first | (refine ⟨trivial, ?_⟩; gi_at_call 32; refine (callsIn_wide.2 (HC.out _ B0)).mono ?_; rintro e w1 ⟨rfl, hb1⟩; have X1 := X0.below hb1; have A1 := A0.below hb1; have B1 := B0.trans (hb1.mono B0.size); have i0 := X1.c0; have i1 := X1.c1; clear hb1) | (refine ⟨trivial, ?_⟩; gi_at_call 40; refine (callsIn_wide.2 (HO.out _)).mono ?_; rintro e w2 ⟨rfl, hb2⟩; have X2 := X1.below hb2; have A2 := A1.below hb2; have B2 := B1.trans (hb2.mono B1.size); clear hb2) | (refine ⟨trivial, ?_⟩; gi_at_call 41; refine (backRv_in _ _ _ _ _).mono ?_; rintro e w' ⟨rfl, rfl⟩))
  clear X0 A0 B0 X1 A1 B1 i0 i1 HC HO
  obtain ⟨X, hX⟩ : ∃ X, X = w.heap.size := ⟨_, rfl⟩
  obtain ⟨A, hA⟩ : ∃ A, A = w.heap.size + 1 := ⟨_, rfl⟩
  obtain ⟨H, hH⟩ : ∃ H, H = w2.heap.size := ⟨_, rfl⟩
  have hs2 := B2.size
  have hlX := X2.lt
  have hlA := A2.lt
  have b0 : ∀ {W : World} (o : Obj), Below W.heap.size W (W.alloc o) := fun o => (Below.refl _ _).alloc (Nat.le_refl _) o
  obtain ⟨Wl, hWl⟩ : ∃ Wl, Wl = ((w2.alloc (.cells #[.int .i64 0, .int .i64 1] 33)).alloc (.cells #[.bool true] 4)).alloc (.cells #[.slice (some ⟨g, off, none⟩) L c] 27) := ⟨_, rfl⟩
  have r0 : IsR Wl H 0 1 := by rw [hWl, hH]; exact (((IsR.new w2 0 1).below (b0 _))).below (b0 _)
  have f0 : Boxed Wl (H + 1) 4 (.bool true) := by
    have := (Boxed.new (w2.alloc (.cells #[.int .i64 0, .int .i64 1] 33)) 4 (.bool true)).alloc (.cells #[.slice (some ⟨g, off, none⟩) L c] 27)
    rw [hWl, hH]; simpa using this
  have s0 : Boxed Wl (H + 1 + 1) 27 (.slice (some ⟨g, off, none⟩) L c) := by
    have := Boxed.new ((w2.alloc (.cells #[.int .i64 0, .int .i64 1] 33)).alloc (.cells #[.bool true] 4)) 27 (.slice (some ⟨g, off, none⟩) L c)
    rw [hWl, hH]; simpa using this
  have xl : IsR Wl X x1 x2 := by rw [hWl, hX]; exact ((X2.below (b0 _)).below (b0 _)).below (b0 _)
  have al : IsR Wl A 0 0 := by rw [hWl, hA]; exact ((A2.below (b0 _)).below (b0 _)).below (b0 _)
  have hsW : Wl.heap.size = H + 1 + 1 + 1 := by rw [hWl, hH]; simp
  have BL : Below w.heap.size w Wl := by
    rw [hWl]
    exact ((B2.alloc B2.size _).alloc (by simp; omega) _).alloc (by simp; omega) _
  have c0 : ∀ j, j < L → Wl.cell? ⟨g, off + j * 2, none⟩ = some (.int .i64 (fr cs j).1) ∧ Wl.cell? ⟨g, off + j * 2 + 1, none⟩ = some (.int .i64 (fr cs j).2) := fun j hj => ⟨(BL.cell (p := ⟨g, off + j * 2, none⟩) hg).trans (H5.out j hj).1, (BL.cell (p := ⟨g, off + j * 2 + 1, none⟩) hg).trans (H5.out j hj).2⟩
  have hgH : g < H := by omega
  have hXH : X < H := by omega
  have hAH : A < H := by omega
  have hXA : X ≠ A := by omega
  have hwX : w.heap.size ≤ X := by omega
  have hwA : w.heap.size ≤ A := by omega
  have i0 : CvS H X A (x1, x2) [] Wl := ⟨r0, f0, xl, al⟩
  rw [← hWl, ← hA, ← hX, ← hH]
  clear hWl r0 f0 xl al B2 X2 A2 hs2 hlX hlA hX hA hH
  refine wpIn_rangeFunc_ownH rfl (by omega) (gf := 69) (lb := #[.pointer (some ⟨H + 1 + 1, 0, none⟩)]) rfl trivial (enters_of Try.func69 (by kernel_rfl) rfl)
    (backR_seq 4 (H + 1 + 1) g off L c cs (by omega) (by omega) Wl s0.cell (by omega) c0) (fun h k => h.trans k)
    (fun W l o o' hl h _ _ => ⟨World.putObj_heap_other (by omega), World.putObj_heap_other (by omega)⟩) (Below.refl _ _) (fun _ => rfl)
    (fun pre W => CvS H X A (x1, x2) pre W ∧ Below w.heap.size w W ∧ Wl.heap.size ≤ W.heap.size)
    (fun _ _ _ => False)
    (OwnFrom.and (fun s Y Z row hs hgr hrow => CvS.own H X A (x1, x2) hs hgr (fun r e => (hrow r e).2)) (OwnFrom.and (ownFrom_below (Nat.le_refl _) (by omega)) (fun _ _ _ _ hs hgr _ => Nat.le_trans hs hgr.size)))
    (fun _ _ _ _ _ hs _ _ => hs)
    ⟨i0, BL, Nat.le_refl _⟩
    (fun y a' W => ∃ N, Wl.heap.size ≤ N ∧ IsR W N y.2.1 y.2.2 ∧ a' = { tmps := #[.slice (some ⟨g, off, none⟩) L c, .agg #[.int .i64 x1, .int .i64 x2], undef, .pointer (some ⟨X, 0, none⟩), .pointer (some ⟨A, 0, none⟩), .bool false, .pointer (some ⟨H, 0, none⟩), .pointer (some ⟨H + 1, 0, none⟩), undef, .pointer (some ⟨N, 0, none⟩), undef, undef, .slice (some ⟨g, off, none⟩) L c, .bool true, .bool false, .bool false, .agg #[.int .i64 x1, .int .i64 x2], .bool true, .bool false, .bool false, undef, .agg #[.int .i64 0, .int .i64 1], .slice (some ⟨g, off, none⟩) L c, .func (.func 69) #[] #[.pointer (some ⟨H + 1 + 1, 0, none⟩)], .int .i64 y.1, .agg #[.int .i64 y.2.1, .int .i64 y.2.2], undef, undef, undef, undef, undef, undef, undef, undef, undef, undef, undef, undef, undef, undef], defers := [] })
    (fun y a' _ W W' row hs hgr hrow => by obtain ⟨N, hN, hr, e⟩ := hs; exact ⟨N, hN, own_isR2 hr hgr (fun r e => (hrow r e).2), e⟩)
    ?assign ?body ?done ?stop
  case assign =>
    rintro l pre y W K ⟨hs, hB, hsz⟩ hK
    gi_wp2
    exact hK _ _ ((KeepsOthers.alloc _ _).from _) (KpB.below (b0 _) (by omega) (by omega)) ⟨CvS.own H X A (x1, x2) hs (grown_of_below (b0 _)) (fun r e => by cases e), hB.alloc hB.size _, by simp; omega⟩ ⟨W.heap.size, hsz, IsR.new _ _ _, rfl⟩
  case body =>
    rintro l pre y a' W hl ⟨r, hr⟩ ⟨⟨sH, sF, sX, sA⟩, hB, hsz⟩ ⟨N, hN, hy, rfl⟩ hlt
    have e := phF_app (x1, x2) pre y
    have E : Hid _ := e
    clear e i0 s0 c0 BL
    obtain ⟨y0, y1, y2⟩ := y
    dsimp only at hy E
    generalize phF (x1, x2) pre = q at *
    obtain ⟨⟨q1, q2⟩, qo⟩ := q
    dsimp only at sH sF
    have HM := hidP (fun W => mulC q1 q2 x1 x2 W)
    obtain ⟨p, hp⟩ : ∃ p, p = mulP (q1, q2) (x1, x2) := ⟨_, rfl⟩
    obtain ⟨po, hpo⟩ : ∃ p, p = mulK (q1, q2) (x1, x2) := ⟨_, rfl⟩
    have E2 : Hid (phF (x1, x2) (pre ++ [(y0, y1, y2)]) = (addP p (y1, y2), addK p (y1, y2))) := by show _ = _; rw [E.out, hp]
    rw [← hp, ← hpo] at HM
    clear hp hpo E
    obtain ⟨p1, p2⟩ := p
    have HA := hidP (fun W => addC p1 p2 y1 y2 W)
    obtain ⟨t, ht⟩ : ∃ p, p = addP (p1, p2) (y1, y2) := ⟨_, rfl⟩
    obtain ⟨tk, htk⟩ : ∃ p, p = addK (p1, p2) (y1, y2) := ⟨_, rfl⟩
    rw [← ht, ← htk] at HA E2
    clear ht htk
    obtain ⟨t1, t2⟩ := t
    dsimp only at HM HA
    have k0 := sH.c0
    have k1 := sH.c1
    have k2 := sX.c0
    have k3 := sX.c1
    have hHl := sH.lt
    have hFl := sF.lt
    have hNl := hy.lt
    gi_wp2_with (first | (refine ⟨trivial, ?_⟩; gi_at_call 35; refine (CallsIn.inRound l (callsIn_wide.2 (HM.out _))).mono ?_; rintro e w3 ⟨rfl, hb3⟩; have v0 := ((hy.below hb3).below (b0 (.cells #[.int .i64 p1, .int .i64 p2] 33))).c0; have v1 := ((hy.below hb3).below (b0 (.cells #[.int .i64 p1, .int .i64 p2] 33))).c1) | (refine ⟨trivial, ?_⟩; gi_at_call 42; refine (CallsIn.inRound l (callsIn_wide.2 (HA.out _))).mono ?_; rintro e w4 ⟨rfl, hb4⟩; have hb5 : Below W.heap.size W w4 := (hb3.trans (b0 (.cells #[.int .i64 p1, .int .i64 p2] 33) |>.mono hb3.size)).trans (hb4.mono (by have := hb3.size; simp; omega)); have uH := sH.below hb5; have uF : Boxed w4 (H + 1) 4 (.bool qo) := (hb5.block (H + 1) hFl).trans sF; have f0 := uH.f0; have f1 := uH.f1; have f2 := uH.c0; have f3 := uH.c1; have f4 := uF.cell; have f5 := uF.frozen))
    clear hb3 hb4 v0 v1
    refine ⟨((((KeepsOthers.of_grownBy (grown_of_below hb5) (fun j o e _ => by cases e)).trans (KeepsOthers.setCell _ _ _)).trans (KeepsOthers.setCell _ _ _)).trans (KeepsOthers.setCell _ _ _)).from _,
      (((KpB.below hb5 (by omega) (by omega)).trans (KpB.set (by omega) (by omega))).trans (KpB.set (by omega) (by omega))).trans (KpB.set (by omega) (by omega)), ⟨?_, ?_, ?_, ?_⟩, ?_, ?_⟩
    · show IsR _ _ _ _
      rw [E2.out]
      exact ((uH.set0 _).set1 _).other (by omega) 0 _
    · show Boxed _ _ _ _
      rw [E2.out]
      exact (boxed_oth (boxed_oth uF (by omega) 0 _) (by omega) 1 _).set _
    · exact (((sX.below hb5).other (by omega) 0 _).other (by omega) 1 _).other (by omega) 0 _
    · exact (((sA.below hb5).other (by omega) 0 _).other (by omega) 1 _).other (by omega) 0 _
    · exact (((hB.trans (hb5.mono hB.size)).setCell (p := ⟨H, 0, none⟩) (by show _ ≤ H; omega) _).setCell (p := ⟨H, 1, none⟩) (by show _ ≤ H; omega) _).setCell (p := ⟨H + 1, 0, none⟩) (by show _ ≤ H + 1; omega) _
    · have := hb5.size
      simp; omega
  case done =>
    rintro D ys W hD rfl ⟨⟨sH, sF, sX, sA⟩, hB, hsz⟩ hK
    rw [HPF.out] at sH sF
    clear i0 s0 c0 BL sX
    obtain ⟨q, hq⟩ : ∃ q, q = crvA cs (x1, x2) := ⟨_, rfl⟩
    obtain ⟨qo, hqo⟩ : ∃ q, q = crvO cs (x1, x2) := ⟨_, rfl⟩
    rw [← hq] at sH
    rw [← hqo] at sF
    obtain ⟨qn, qd⟩ := q
    dsimp only at sH sF
    have HQ : Hid (Ending.returned (.tuple #[.agg #[.int .i64 qn, .int .i64 qd], .bool qo]) = .returned (.tuple #[.agg #[.int .i64 (crvA cs (x1, x2)).1, .int .i64 (crvA cs (x1, x2)).2], .bool (crvO cs (x1, x2))])) := by show _ = _; rw [← hq, ← hqo]
    clear hq hqo
    have q0 := sH.c0
    have q1 := sH.c1
    have q2 := sF.cell
    have q3 := sA.f0
    have q4 := sA.f1
    have q5 := sA.c0
    have q6 := sA.c1
    gi_wp2
    have hmix : Try.prog.follows Departure.mixedOrders = true := by kernel_rfl
    have hlate : Try.prog.follows Departure.lateStores = true := by kernel_rfl
    gi_region_o
    all_goals gi_wp2
    have hK2 : (((W.setCell ⟨A, 0, none⟩ (.int .i64 qn)).setCell ⟨A, 1, none⟩ (.int .i64 qd)).drew).heap[D]? = some (.deferred (some [])) := ((KeepsOthers.setCell W ⟨A, 0, none⟩ (.int .i64 qn)).trans (KeepsOthers.setCell _ ⟨A, 1, none⟩ (.int .i64 qd))).same D _ hK rfl
    have a2 : IsR (((W.setCell ⟨A, 0, none⟩ (.int .i64 qn)).setCell ⟨A, 1, none⟩ (.int .i64 qd)).drew) A qn qd := (sA.set0 qn).set1 qd
    have B2 : Below w.heap.size w (((W.setCell ⟨A, 0, none⟩ (.int .i64 qn)).setCell ⟨A, 1, none⟩ (.int .i64 qd)).drew) := ((hB.setCell (p := ⟨A, 0, none⟩) hwA _).setCell (p := ⟨A, 1, none⟩) hwA _).drew
    obtain ⟨W2, hW2⟩ : ∃ W2, W2 = (((W.setCell ⟨A, 0, none⟩ (.int .i64 qn)).setCell ⟨A, 1, none⟩ (.int .i64 qd)).drew) := ⟨_, rfl⟩
    rw [← hW2] at hK2 a2 B2 ⊢
    have a3 : IsR (W2.putObj D (.deferred none)) A qn qd := (World.putObj_heap_other (by omega)).trans a2
    have e0 := a3.c0
    have e1 := a3.c1
    refine ⟨by simp, .inl ⟨_, _, rfl, run_takeDeferred hK2, ?_⟩⟩
    exact ⟨.tuple #[.agg #[.int .i64 qn, .int .i64 qd], .bool qo], by simp [results, Try.results11, go_sem, e0, e1], HQ.out, B2.trans (belowK_b (w := w) (Nat.le_refl _) W2 D _ _ (by omega) hK2 rfl rfl)⟩
  case stop =>
    rintro D c pre W _ _ h _
    exact h.elim
end Go.Proofs.Ythnlcgilmljliaa

/- The walks of the program's Miss: a spot's distance from the curve, its square, the sum over the spots. -/
namespace Go.Proofs.Ythnlcgilmljliaa
open Go.RowKit Go.Proofs.Ythnlcgilmljliaa.RM

theorem ret_ag10 {a b a' b' : Int} (h1 : a = a') (h2 : b = b') : Ending.returned (.agg #[.int .i64 a, .int .i64 b]) = .returned (.agg #[.int .i64 a', .int .i64 b']) := by rw [h1, h2]

set_option maxRecDepth 100000 in
set_option maxHeartbeats 2000000 in
theorem above_any (v : Value) (cs : List Fr) (t : Sp) (w : World) (h : RdR w v cs) :
    Calls Try.prog 34 #[.agg #[.int .i64 t.1.1, .int .i64 t.1.2, .int .i64 t.2.1, .int .i64 t.2.2], v] w fun e w' => e = .returned (.agg #[.int .i64 (abv cs t).1, .int .i64 (abv cs t).2]) ∧ Below w.heap.size w w' := by
  have HC := hidP (fun W (hW : Below w.heap.size w W) => iCurveAt_any v cs t.1 W (h.below hW))
  obtain ⟨pr, c, rfl, _⟩ := h
  obtain ⟨a, ha⟩ : ∃ a, a = crvA cs t.1 := ⟨_, rfl⟩
  obtain ⟨ao, hao⟩ : ∃ a, a = crvO cs t.1 := ⟨_, rfl⟩
  have HS := hidP (fun W => subC t.2.1 t.2.2 a.1 a.2 W)
  have HV : Hid (abv cs t = subP (t.2.1, t.2.2) (a.1, a.2)) := by show _ = _; rw [ha]; rfl
  rw [← ha, ← hao] at HC
  obtain ⟨r, hr⟩ : ∃ r, r = subP (t.2.1, t.2.2) (a.1, a.2) := ⟨_, rfl⟩
  obtain ⟨ro, hro⟩ : ∃ r, r = subK (t.2.1, t.2.2) (a.1, a.2) := ⟨_, rfl⟩
  rw [← hr] at HV HS
  rw [← hro] at HS
  clear ha hao hr hro
  obtain ⟨⟨x1, x2⟩, y1, y2⟩ := t
  obtain ⟨a1, a2⟩ := a
  obtain ⟨r1, r2⟩ := r
  dsimp only at HC HS ⊢
  rw [HV.out]
  go_enter Try.func34, Try.ntmps34
  obtain ⟨X, hX⟩ : ∃ X, X = (w.alloc (.cells #[.int .i64 x1, .int .i64 x2, .int .i64 y1, .int .i64 y2] 54)).alloc (.cells #[.int .i64 0, .int .i64 0] 33) := ⟨_, rfl⟩
  have B0 : Below w.heap.size w X := by rw [hX]; exact ((Below.refl _ _).alloc (Nat.le_refl _) _).alloc (by simp) _
  have S0 : IsB X w.heap.size #[.int .i64 x1, .int .i64 x2, .int .i64 y1, .int .i64 y2] 54 := by
    rw [hX]; exact (IsB.new w _ _).below (b0S _ _)
  have R0 : IsR X (w.heap.size + 1) 0 0 := by
    rw [hX]
    have := IsR.new (w.alloc (.cells #[.int .i64 x1, .int .i64 x2, .int .i64 y1, .int .i64 y2] 54)) 0 0
    simpa using this
  go_wp2_with fail
  rw [← hX]
  refine (HC.out _ B0).mono ?_
  rintro e w1 ⟨rfl, hb⟩
  replace S0 := S0.below hb
  replace R0 := R0.below hb
  replace B0 := B0.trans (hb.mono B0.size)
  clear hb hX
  have hb' := b0S w1 (.cells #[.int .i64 a1, .int .i64 a2] 33)
  have S1 := (S0.below hb').s4
  obtain ⟨-, -, s2, s3⟩ := S1
  replace R0 := R0.below hb'
  replace B0 := B0.trans (hb'.mono B0.size)
  clear hb' S0
  go_wp2_with fail
  refine (HS.out _).mono ?_
  rintro e w2 ⟨rfl, hb⟩
  replace R0 := R0.below hb
  replace B0 := B0.trans (hb.mono B0.size)
  clear hb s2 s3
  have hb' := b0S w2 (.cells #[.int .i64 r1, .int .i64 r2] 33)
  replace R0 := R0.below hb'
  replace B0 := B0.trans (hb'.mono B0.size)
  have z0 := R0.c0
  have z1 := R0.c1
  have z2 := R0.f0
  have z3 := R0.f1
  clear hb'
  go_wp2
  exact bodyPost_ret (v := .agg #[.int .i64 r1, .int .i64 r2]) (by simp [results, Try.results34, go_sem, z0, z1]) rfl ⟨rfl, (B0.setCell (p := ⟨w.heap.size + 1, 0, none⟩) (by simp) _).setCell (p := ⟨w.heap.size + 1, 1, none⟩) (by simp) _⟩

set_option maxRecDepth 100000 in
set_option maxHeartbeats 2000000 in
theorem misF_any (B : Nat) (v : Value) (cs : List Fr) (t : Sp) (w : World) (h1 : w.cell? ⟨B, 0, none⟩ = some v) (h : RdR w v cs) :
    Calls Try.prog 33 #[.agg #[.int .i64 t.1.1, .int .i64 t.1.2, .int .i64 t.2.1, .int .i64 t.2.2], .pointer (some ⟨B, 0, none⟩)] w fun e w' => e = .returned (.agg #[.int .i64 (mulP (abv cs t) (abv cs t)).1, .int .i64 (mulP (abv cs t) (abv cs t)).2]) ∧ Below w.heap.size w w' := by
  have HC := hidP (fun W (hW : Below w.heap.size w W) => above_any v cs t W (h.below hW))
  obtain ⟨pr, c, rfl, _⟩ := h
  obtain ⟨a, ha⟩ : ∃ a, a = abv cs t := ⟨_, rfl⟩
  rw [← ha] at HC ⊢
  clear ha
  have HS := hidP (fun W => mulC a.1 a.2 a.1 a.2 W)
  obtain ⟨r, hr⟩ : ∃ r, r = mulP (a.1, a.2) (a.1, a.2) := ⟨_, rfl⟩
  obtain ⟨ro, hro⟩ : ∃ r, r = mulK (a.1, a.2) (a.1, a.2) := ⟨_, rfl⟩
  have HV : Hid (mulP a a = r) := by show _ = _; rw [hr]
  rw [← hr, ← hro] at HS
  rw [HV.out]
  clear hr hro HV
  obtain ⟨r1, r2⟩ := r
  obtain ⟨⟨x1, x2⟩, y1, y2⟩ := t
  obtain ⟨a1, a2⟩ := a
  dsimp only at HC ⊢
  dsimp only at HS
  go_enter Try.func33, Try.ntmps33
  obtain ⟨X, hX⟩ : ∃ X, X = (w.alloc (.cells #[.int .i64 x1, .int .i64 x2, .int .i64 y1, .int .i64 y2] 54)).alloc (.cells #[.int .i64 0, .int .i64 0] 33) := ⟨_, rfl⟩
  have B0 : Below w.heap.size w X := by rw [hX]; exact ((Below.refl _ _).alloc (Nat.le_refl _) _).alloc (by simp) _
  have S0 : IsB X w.heap.size #[.int .i64 x1, .int .i64 x2, .int .i64 y1, .int .i64 y2] 54 := by
    rw [hX]; exact (IsB.new w _ _).below (b0S _ _)
  have R0 : IsR X (w.heap.size + 1) 0 0 := by
    rw [hX]
    have := IsR.new (w.alloc (.cells #[.int .i64 x1, .int .i64 x2, .int .i64 y1, .int .i64 y2] 54)) 0 0
    simpa using this
  have c1 := cell_keep B0 h1
  obtain ⟨s0, s1, s2, s3⟩ := S0.s4
  rw [hX] at s0 s1 s2 s3 c1
  go_wp2_with fail
  rw [← hX]
  refine (HC.out _ B0).mono ?_
  rintro e w1 ⟨rfl, hb⟩
  replace R0 := R0.below hb
  replace B0 := B0.trans (hb.mono B0.size)
  clear hb hX s0 s1 s2 s3 c1 h1 S0 HC
  have hb' := b0S w1 (.cells #[.int .i64 a1, .int .i64 a2] 33)
  replace R0 := R0.below hb'
  replace B0 := B0.trans (hb'.mono B0.size)
  clear hb'
  go_wp2_with fail
  refine (HS.out _).mono ?_
  rintro e w2 ⟨rfl, hb⟩
  replace R0 := R0.below hb
  replace B0 := B0.trans (hb.mono B0.size)
  clear hb
  have hb' := b0S w2 (.cells #[.int .i64 r1, .int .i64 r2] 33)
  replace R0 := R0.below hb'
  replace B0 := B0.trans (hb'.mono B0.size)
  clear hb'
  have z0 := R0.c0
  have z1 := R0.c1
  have z2 := R0.f0
  have z3 := R0.f1
  go_wp2
  exact bodyPost_ret (v := .agg #[.int .i64 r1, .int .i64 r2]) (by simp [results, Try.results33, go_sem, z0, z1]) rfl ⟨rfl, (B0.setCell (p := ⟨w.heap.size + 1, 0, none⟩) (by simp) _).setCell (p := ⟨w.heap.size + 1, 1, none⟩) (by simp) _⟩

set_option maxRecDepth 100000 in
set_option maxHeartbeats 2000000 in
theorem norF_any (B : Nat) (v : Value) (cs : List Fr) (t : Sp) (w : World) (h1 : w.cell? ⟨B, 0, none⟩ = some v) (h : RdR w v cs) :
    Calls Try.prog 37 #[.agg #[.int .i64 t.1.1, .int .i64 t.1.2, .int .i64 t.2.1, .int .i64 t.2.2], .pointer (some ⟨B, 0, none⟩)] w fun e w' => e = .returned (.agg #[.int .i64 (abv cs t).1, .int .i64 (abv cs t).2]) ∧ Below w.heap.size w w' := by
  have HC := hidP (fun W (hW : Below w.heap.size w W) => above_any v cs t W (h.below hW))
  obtain ⟨pr, c, rfl, _⟩ := h
  obtain ⟨a, ha⟩ : ∃ a, a = abv cs t := ⟨_, rfl⟩
  rw [← ha] at HC ⊢
  clear ha
  obtain ⟨⟨x1, x2⟩, y1, y2⟩ := t
  obtain ⟨a1, a2⟩ := a
  dsimp only at HC ⊢
  go_enter Try.func37, Try.ntmps37
  obtain ⟨X, hX⟩ : ∃ X, X = (w.alloc (.cells #[.int .i64 x1, .int .i64 x2, .int .i64 y1, .int .i64 y2] 54)).alloc (.cells #[.int .i64 0, .int .i64 0] 33) := ⟨_, rfl⟩
  have B0 : Below w.heap.size w X := by rw [hX]; exact ((Below.refl _ _).alloc (Nat.le_refl _) _).alloc (by simp) _
  have S0 : IsB X w.heap.size #[.int .i64 x1, .int .i64 x2, .int .i64 y1, .int .i64 y2] 54 := by
    rw [hX]; exact (IsB.new w _ _).below (b0S _ _)
  have R0 : IsR X (w.heap.size + 1) 0 0 := by
    rw [hX]
    have := IsR.new (w.alloc (.cells #[.int .i64 x1, .int .i64 x2, .int .i64 y1, .int .i64 y2] 54)) 0 0
    simpa using this
  have c1 := cell_keep B0 h1
  obtain ⟨s0, s1, s2, s3⟩ := S0.s4
  rw [hX] at s0 s1 s2 s3 c1
  go_wp2_with fail
  rw [← hX]
  refine (HC.out _ B0).mono ?_
  rintro e w1 ⟨rfl, hb⟩
  replace R0 := R0.below hb
  replace B0 := B0.trans (hb.mono B0.size)
  clear hb hX s0 s1 s2 s3 c1 h1 S0 HC
  have z0 := R0.c0
  have z1 := R0.c1
  have z2 := R0.f0
  have z3 := R0.f1
  go_wp2
  exact bodyPost_ret (v := .agg #[.int .i64 a1, .int .i64 a2]) (by simp [results, Try.results37, go_sem, z0, z1]) rfl ⟨rfl, (B0.setCell (p := ⟨w.heap.size + 1, 0, none⟩) (by simp) _).setCell (p := ⟨w.heap.size + 1, 1, none⟩) (by simp) _⟩

theorem hidW10 {p : Prop} (h : p) : Hid p := h
set_option maxRecDepth 100000 in
set_option maxHeartbeats 4000000 in
theorem totS_any (f : Nat → Fr) (ss : List Sp) (g off n c : Nat) (p1 : Value) (w : World) (hn : n ≤ 36)
    (hE : ∀ k, k < n → w.cell? ⟨g, off + k * 4, none⟩ = some (.int .i64 (sp ss k).1.1) ∧ w.cell? ⟨g, off + k * 4 + 1, none⟩ = some (.int .i64 (sp ss k).1.2) ∧ w.cell? ⟨g, off + k * 4 + 2, none⟩ = some (.int .i64 (sp ss k).2.1) ∧ w.cell? ⟨g, off + k * 4 + 3, none⟩ = some (.int .i64 (sp ss k).2.2))
    (hf : ∀ k, k < n → ∀ W : World, Below w.heap.size w W → Calls Try.prog 33 #[.agg #[.int .i64 (sp ss k).1.1, .int .i64 (sp ss k).1.2, .int .i64 (sp ss k).2.1, .int .i64 (sp ss k).2.2], p1] W fun e w' => e = .returned (.agg #[.int .i64 (f k).1, .int .i64 (f k).2]) ∧ Below W.heap.size W w') :
    Calls Try.prog 36 #[.agg #[.slice (some ⟨g, off, none⟩) n c, .func (.func 33) #[] #[p1]]] w fun e w' =>
      e = .returned (.tuple #[.agg #[.int .i64 (pfold f n).1.1, .int .i64 (pfold f n).1.2], .bool (pfold f n).2]) ∧ Below w.heap.size w w' := by
  have b0 : ∀ {u : World} (o : Obj), Below u.heap.size u (u.alloc o) := fun o => (Below.refl _ _).alloc (Nat.le_refl _) o
  have HF := hidW10 hf
  have HE := hidW10 hE
  obtain ⟨G, hG⟩ : ∃ G, G = pfold f := ⟨_, rfl⟩
  have HG0 : Hid (G 0 = ((0, 1), true)) := by show _ = _; rw [hG]; rfl
  have HGS : Hid (∀ k, G (k + 1) = (addP (G k).1 (f k), addK (G k).1 (f k))) := by intro k; rw [hG]; rfl
  rw [← hG]
  clear hf hE hG
  go_enter Try.func36, Try.ntmps36
  go_wp2
  obtain ⟨Xb, hXb⟩ : ∃ N, N = w.heap.size := ⟨_, rfl⟩
  obtain ⟨Rb, hRb⟩ : ∃ N, N = w.heap.size + 1 := ⟨_, rfl⟩
  obtain ⟨Sb, hSb⟩ : ∃ N, N = w.heap.size + 2 := ⟨_, rfl⟩
  obtain ⟨X, hX⟩ : ∃ X, X = ((w.alloc (.cells #[.slice (some ⟨g, off, none⟩) n c, .func (.func 33) #[] #[p1]] 61)).alloc (.cells #[.int .i64 0, .int .i64 0] 33)).alloc (.cells #[.int .i64 0, .int .i64 1] 33) := ⟨_, rfl⟩
  have Z0 : IsR X Rb 0 0 := by
    rw [hX, hRb]
    have := (IsR.new (w.alloc (.cells #[.slice (some ⟨g, off, none⟩) n c, .func (.func 33) #[] #[p1]] 61)) 0 0).below (b0 (.cells #[.int .i64 0, .int .i64 1] 33))
    simpa using this
  have S0 : IsR X Sb (G 0).1.1 (G 0).1.2 := by
    rw [hX, hSb, HG0.out]
    have := IsR.new ((w.alloc (.cells #[.slice (some ⟨g, off, none⟩) n c, .func (.func 33) #[] #[p1]] 61)).alloc (.cells #[.int .i64 0, .int .i64 0] 33)) 0 1
    simpa using this
  have B0 : Below w.heap.size w X := by rw [hX]; exact (((Below.refl _ _).alloc (Nat.le_refl _) _).alloc (by simp) _).alloc (by simp; omega) _
  have X0 : X.cell? ⟨Xb, 0, none⟩ = some (.slice (some ⟨g, off, none⟩) n c) := by rw [hX, hXb]; simp [go_sem]
  have X1 : X.cell? ⟨Xb, 1, none⟩ = some (.func (.func 33) #[] #[p1]) := by rw [hX, hXb]; simp [go_sem]
  have hwS : w.heap.size ≤ Sb := by omega
  have hwR : w.heap.size ≤ Rb := by omega
  have hXS : Xb < Sb := by omega
  have hXR : Xb ≠ Rb := by omega
  have hRS : Rb < Sb := by omega
  rw [← hX, ← hXb, show Xb + 1 = Rb by omega, show Rb + 1 = Sb by omega]
  clear hX hXb hRb hSb
  go_loopw [5, 12] (fun q i wr => ∃ k : Nat, k ≤ n ∧ i = .int .i64 k ∧ q = .bool (G k).2 ∧ Hid (IsR wr Sb (G k).1.1 (G k).1.2) ∧ Hid (IsR wr Rb 0 0) ∧ Hid (Below w.heap.size w wr) ∧ Hid (wr.cell? ⟨Xb, 0, none⟩ = some (.slice (some ⟨g, off, none⟩) n c) ∧ wr.cell? ⟨Xb, 1, none⟩ = some (.func (.func 33) #[] #[p1]))) (fun _ i _ => n - (intOf i).toNat)
  case atStart => exact ⟨0, Nat.zero_le _, rfl, by rw [HG0.out], S0, Z0, B0, X0, X1⟩
  case round =>
    clear S0 Z0 B0 X0 X1
    obtain ⟨k, hk, rfl, rfl, hS, hZ, hB, hX⟩ := hrel
    by_cases hlt : k < n
    · obtain ⟨c1, c2⟩ := hX.out
      obtain ⟨d1, d2, d3, d4⟩ := HE.out k hlt
      replace d1 := cell_keep hB.out d1
      replace d2 := cell_keep hB.out d2
      replace d3 := cell_keep hB.out d3
      replace d4 := cell_keep hB.out d4
      obtain ⟨s, hs⟩ : ∃ z, z = G k := ⟨_, rfl⟩
      obtain ⟨r, hr⟩ : ∃ z, z = G (k + 1) := ⟨_, rfl⟩
      have HQ : Hid (G (k + 1) = r) := hr.symm
      obtain ⟨y, hy⟩ : ∃ z, z = f k := ⟨_, rfl⟩
      have HC := hidW10 (HF.out k hlt)
      rw [HGS.out k, ← hs, ← hy] at hr
      rw [← hs] at hS
      rw [← hy] at HC
      obtain ⟨pt, hpt⟩ : ∃ z, z = sp ss k := ⟨_, rfl⟩
      rw [← hpt] at d1 d2 d3 d4 HC
      clear hpt
      obtain ⟨⟨t1, t2⟩, t3, t4⟩ := pt
      dsimp only at d1 d2 d3 d4 HC
      obtain ⟨⟨s1, s2⟩, so⟩ := s
      obtain ⟨y1, y2⟩ := y
      have HA : Hid (∀ W : World, Calls Try.prog 42 #[.agg #[.int .i64 s1, .int .i64 s2], .agg #[.int .i64 y1, .int .i64 y2]] W fun e w' => e = .returned (.tuple #[.agg #[.int .i64 r.1.1, .int .i64 r.1.2], .bool r.2]) ∧ Below W.heap.size W w') := by
        intro W; rw [hr]; exact addC s1 s2 y1 y2 W
      clear hs hr hy
      obtain ⟨⟨r1, r2⟩, ro⟩ := r
      have S0 : IsR wr Sb s1 s2 := hS.out
      have Z0 : IsR wr Rb 0 0 := hZ.out
      have B0 : Below w.heap.size w wr := hB.out
      have hsz := B0.size
      have hlS := S0.lt
      clear hX hS hZ hB
      go_upto_region 5 with fail
      obtain ⟨N, hN⟩ : ∃ N, N = wr.heap.size := ⟨_, rfl⟩
      obtain ⟨X, hX⟩ : ∃ X, X = wr.alloc (.cells #[.int .i64 t1, .int .i64 t2, .int .i64 t3, .int .i64 t4] 54) := ⟨_, rfl⟩
      have hbx : Below wr.heap.size wr X := by rw [hX]; exact b0 _
      have c3 : X.cell? ⟨N, 0, none⟩ = some (.int .i64 t1) := by rw [hX, hN]; simp [go_sem]
      have c4 : X.cell? ⟨N, 1, none⟩ = some (.int .i64 t2) := by rw [hX, hN]; simp [go_sem]
      have c5 : X.cell? ⟨N, 2, none⟩ = some (.int .i64 t3) := by rw [hX, hN]; simp [go_sem]
      have c6 : X.cell? ⟨N, 3, none⟩ = some (.int .i64 t4) := by rw [hX, hN]; simp [go_sem]
      replace c1 := cell_keep hbx c1
      replace c2 := cell_keep hbx c2
      replace S0 := S0.below hbx
      replace Z0 := Z0.below hbx
      replace B0 := B0.trans (hbx.mono hsz)
      have hNS : N ≠ Sb := by omega
      rw [← hX, ← hN]
      clear hX hN hbx d1 d2 d3 d4
      refine wp_region_noPanic ?_
      refine wp_region_held_drew (S := (fun w' => w'.cell? ⟨Xb, 0, none⟩ = some (.slice (some ⟨g, off, none⟩) n c) ∧ w'.cell? ⟨Xb, 1, none⟩ = some (.func (.func 33) #[] #[p1]) ∧ w'.cell? ⟨N, 0, none⟩ = some (.int .i64 t1) ∧ w'.cell? ⟨N, 1, none⟩ = some (.int .i64 t2) ∧ w'.cell? ⟨N, 2, none⟩ = some (.int .i64 t3) ∧ w'.cell? ⟨N, 3, none⟩ = some (.int .i64 t4))) (by kernel_rfl) ?_ (fun hHeld => ?_)
      · (try dsimp only)
        refine ⟨?_, ?_, ?_, ?_, ?_, ?_⟩ <;> (repeat (with_reducible (first | exact c1 | exact c2 | exact c3 | exact c4 | exact c5 | exact c6 | refine cell_dr ?_ | refine cell_stb ?_ ?_ | (show _ ≠ _; omega))))
      refine wpAnyH_take (i := 1) (v := ?_) rfl (by kernel_rfl) (by kernel_rfl) (by kernel_rfl) (fun _ _ _ h => h) (Or.inl ⟨by kernel_rfl, ?_⟩) hHeld ?_
      rotate_left
      · intro wz hSw; (try dsimp only at hSw); go_simp; all_goals (try with_reducible rfl)
      (try simp only [List.getElem_toArray]); (try simp only [List.getElem_cons_succ]); (try simp only [List.getElem_cons_zero]); (try simp only [Act.put]); (try simp only [List.setIfInBounds_toArray]); (try simp only [List.set_cons_succ]); (try simp only [List.set_cons_zero])
      refine wpAnyH_take (i := 2) (v := ?_) rfl (by kernel_rfl) (by kernel_rfl) (by kernel_rfl) (fun _ _ _ h => h) (Or.inl ⟨by kernel_rfl, ?_⟩) hHeld ?_
      rotate_left
      · intro wz hSw; (try dsimp only at hSw); go_simp; all_goals (try with_reducible rfl)
      (try simp only [List.getElem_toArray]); (try simp only [List.getElem_cons_succ]); (try simp only [List.getElem_cons_zero]); (try simp only [Act.put]); (try simp only [List.setIfInBounds_toArray]); (try simp only [List.set_cons_succ]); (try simp only [List.set_cons_zero])
      refine wpAnyH_take (i := 3) (v := ?_) rfl (by kernel_rfl) (by kernel_rfl) (by kernel_rfl) (fun _ _ _ h => h) (Or.inl ⟨by kernel_rfl, ?_⟩) hHeld ?_
      rotate_left
      · intro wz hSw; (try dsimp only at hSw); go_simp; all_goals (try with_reducible rfl)
      (try simp only [List.getElem_toArray]); (try simp only [List.getElem_cons_succ]); (try simp only [List.getElem_cons_zero]); (try simp only [Act.put]); (try simp only [List.setIfInBounds_toArray]); (try simp only [List.set_cons_succ]); (try simp only [List.set_cons_zero])
      have s0 := S0.c0
      have s1' := S0.c1
      refine wpAnyH_ready (rs := [0, 4]) (by kernel_rfl) (by simp) (AllReadyH.cons rfl (fun Kc hKc => ?_) (AllReadyH.cons rfl (fun Kc hKc => ?_) AllReadyH.nil))
      · go_simp
        refine hKc.out _ _ ?_ (fun hHeld => ?_)
        · (try dsimp only)
          refine ⟨?_, ?_, ?_, ?_, ?_, ?_⟩ <;> (repeat (with_reducible (first | exact c1 | exact c2 | exact c3 | exact c4 | exact c5 | exact c6 | refine cell_dr ?_ | refine cell_stb ?_ ?_ | (show _ ≠ _; omega))))
        clear hKc Kc
        (try simp only [List.getElem_toArray]); (try simp only [List.getElem_cons_succ]); (try simp only [List.getElem_cons_zero]); (try simp only [Act.put]); (try simp only [List.setIfInBounds_toArray]); (try simp only [List.set_cons_succ]); (try simp only [List.set_cons_zero])
        refine wpAnyH_ready (rs := [4]) (by kernel_rfl) (by simp) (AllReadyH.cons rfl (fun Kc hKc => ?_) AllReadyH.nil)
        go_simp
        (go_at_call 33; refine (HC.out _ (B0.trans (((Below.refl _ _).drew).mono B0.size))).mono ?_; rintro e w2 ⟨rfl, hb2⟩)
        have hbd : Below X.heap.size X w2 := ((Below.refl _ _).drew).trans (hb2.mono (by simp))
        have c1 := cell_keep hbd c1
        have c2 := cell_keep hbd c2
        have c3 := cell_keep hbd c3
        have c4 := cell_keep hbd c4
        have c5 := cell_keep hbd c5
        have c6 := cell_keep hbd c6
        have S2 := S0.below hbd
        have Z2 := Z0.below hbd
        have B2 := B0.trans (hbd.mono B0.size)
        have s0 := S2.c0
        have s1' := S2.c1
        clear hb2 hbd
        go_wp2_with fail
        refine hKc.out _ _ ?_ (fun hHeld => ?_)
        · (try dsimp only)
          refine ⟨?_, ?_, ?_, ?_, ?_, ?_⟩ <;> (repeat (with_reducible (first | exact c1 | exact c2 | exact c3 | exact c4 | exact c5 | exact c6 | refine cell_dr ?_ | refine cell_stb ?_ ?_ | (show _ ≠ _; omega))))
        clear hKc Kc
        (try simp only [List.getElem_toArray]); (try simp only [List.getElem_cons_succ]); (try simp only [List.getElem_cons_zero]); (try simp only [Act.put]); (try simp only [List.setIfInBounds_toArray]); (try simp only [List.set_cons_succ]); (try simp only [List.set_cons_zero])
        refine wpAnyH_ready (rs := [5]) (by kernel_rfl) (by simp) (AllReadyH.cons rfl (fun Kc hKc => ?_) AllReadyH.nil)
        go_simp
        (go_at_call 42; refine (HA.out _).mono ?_; rintro e w3 ⟨rfl, hb3⟩)
        have c1 := cell_keep hb3 c1
        have c2 := cell_keep hb3 c2
        have c3 := cell_keep hb3 c3
        have c4 := cell_keep hb3 c4
        have c5 := cell_keep hb3 c5
        have c6 := cell_keep hb3 c6
        have S3 := S2.below hb3
        have Z3 := Z2.below hb3
        have B3 := B2.trans (hb3.mono B2.size)
        have s0 := S3.c0
        have s1' := S3.c1
        have s2' := S3.f0
        have s3' := S3.f1
        clear hb3
        go_wp2_with fail
        refine hKc.out _ _ ?_ (fun hHeld => ?_)
        · (try dsimp only)
          refine ⟨?_, ?_, ?_, ?_, ?_, ?_⟩ <;> (repeat (with_reducible (first | exact c1 | exact c2 | exact c3 | exact c4 | exact c5 | exact c6 | refine cell_dr ?_ | refine cell_stb ?_ ?_ | (show _ ≠ _; omega))))
        clear hKc Kc
        (try simp only [List.getElem_toArray]); (try simp only [List.getElem_cons_succ]); (try simp only [List.getElem_cons_zero]); (try simp only [Act.put]); (try simp only [List.setIfInBounds_toArray]); (try simp only [List.set_cons_succ]); (try simp only [List.set_cons_zero])
        refine wpAnyH_take (i := 6) (v := ?_) rfl (by kernel_rfl) (by kernel_rfl) (by kernel_rfl) (fun _ _ _ h => h) (Or.inl ⟨by kernel_rfl, ?_⟩) hHeld ?_
        rotate_left
        · intro wz hSw; (try dsimp only at hSw); go_simp; all_goals (try with_reducible rfl)
        (try simp only [List.getElem_toArray]); (try simp only [List.getElem_cons_succ]); (try simp only [List.getElem_cons_zero]); (try simp only [Act.put]); (try simp only [List.setIfInBounds_toArray]); (try simp only [List.set_cons_succ]); (try simp only [List.set_cons_zero])
        refine wpAnyH_take (i := 7) (v := ?_) rfl (by kernel_rfl) (by kernel_rfl) (by kernel_rfl) (fun _ _ _ h => h) (Or.inl ⟨by kernel_rfl, ?_⟩) hHeld ?_
        rotate_left
        · intro wz hSw; (try dsimp only at hSw); go_simp; all_goals (try with_reducible rfl)
        (try simp only [List.getElem_toArray]); (try simp only [List.getElem_cons_succ]); (try simp only [List.getElem_cons_zero]); (try simp only [Act.put]); (try simp only [List.setIfInBounds_toArray]); (try simp only [List.set_cons_succ]); (try simp only [List.set_cons_zero])
        refine wpAnyH_take (i := 8) (v := ?_) rfl (by kernel_rfl) (by kernel_rfl) (by kernel_rfl) (fun _ _ _ h => h) (Or.inl ⟨by kernel_rfl, ?_⟩) hHeld ?_
        rotate_left
        · intro wz hSw; (try dsimp only at hSw); go_simp; all_goals (try with_reducible rfl)
        (try simp only [List.getElem_toArray]); (try simp only [List.getElem_cons_succ]); (try simp only [List.getElem_cons_zero]); (try simp only [Act.put]); (try simp only [List.setIfInBounds_toArray]); (try simp only [List.set_cons_succ]); (try simp only [List.set_cons_zero])
        refine wpAnyH_ready (rs := [9]) (by kernel_rfl) (by simp) (AllReadyH.cons rfl (fun Kc hKc => ?_) AllReadyH.nil)
        go_simp
        refine hKc.out _ _ ?_ (fun hHeld => ?_)
        · (try dsimp only)
          refine ⟨?_, ?_, ?_, ?_, ?_, ?_⟩ <;> (repeat (with_reducible (first | exact c1 | exact c2 | exact c3 | exact c4 | exact c5 | exact c6 | refine cell_dr ?_ | refine cell_stb ?_ ?_ | (show _ ≠ _; omega))))
        clear hKc Kc
        (try simp only [List.getElem_toArray]); (try simp only [List.getElem_cons_succ]); (try simp only [List.getElem_cons_zero]); (try simp only [Act.put]); (try simp only [List.setIfInBounds_toArray]); (try simp only [List.set_cons_succ]); (try simp only [List.set_cons_zero])
        refine wpAnyH_take (i := 10) (v := ?_) rfl (by kernel_rfl) (by kernel_rfl) (by kernel_rfl) (fun _ _ _ h => h) (Or.inl ⟨by kernel_rfl, ?_⟩) hHeld ?_
        rotate_left
        · intro wz hSw; (try dsimp only at hSw); go_simp; all_goals (try with_reducible rfl)
        (try simp only [List.getElem_toArray]); (try simp only [List.getElem_cons_succ]); (try simp only [List.getElem_cons_zero]); (try simp only [Act.put]); (try simp only [List.setIfInBounds_toArray]); (try simp only [List.set_cons_succ]); (try simp only [List.set_cons_zero])
        refine wpAnyH_done (by kernel_rfl) ?_ _
        refine NoPanic.normal ?_
        go_wp2
        go_roundw
        case rel =>
          refine ⟨k + 1, by omega, by go_num, by rw [HQ.out], ?_, (Z3.other (by omega) 0 _).other (by omega) 1 _, (B3.setCell (p := ⟨Sb, 0, none⟩) hwS _).setCell (p := ⟨Sb, 1, none⟩) hwS _, ?_⟩
          · show IsR _ _ _ _
            rw [HQ.out]
            exact (S3.set0 _).set1 _
          · refine ⟨?_, ?_⟩ <;> (repeat (with_reducible (first | exact c1 | exact c2 | refine cell_stb ?_ ?_ | (show _ ≠ _; omega))))
        case measure => simp [intOf]; omega
      · go_simp
        (go_at_call 33; refine (HC.out _ (B0.trans (((Below.refl _ _).drew).mono B0.size))).mono ?_; rintro e w2 ⟨rfl, hb2⟩)
        have hbd : Below X.heap.size X w2 := ((Below.refl _ _).drew).trans (hb2.mono (by simp))
        have c1 := cell_keep hbd c1
        have c2 := cell_keep hbd c2
        have c3 := cell_keep hbd c3
        have c4 := cell_keep hbd c4
        have c5 := cell_keep hbd c5
        have c6 := cell_keep hbd c6
        have S2 := S0.below hbd
        have Z2 := Z0.below hbd
        have B2 := B0.trans (hbd.mono B0.size)
        have s0 := S2.c0
        have s1' := S2.c1
        clear hb2 hbd
        go_wp2_with fail
        refine hKc.out _ _ ?_ (fun hHeld => ?_)
        · (try dsimp only)
          refine ⟨?_, ?_, ?_, ?_, ?_, ?_⟩ <;> (repeat (with_reducible (first | exact c1 | exact c2 | exact c3 | exact c4 | exact c5 | exact c6 | refine cell_dr ?_ | refine cell_stb ?_ ?_ | (show _ ≠ _; omega))))
        clear hKc Kc
        (try simp only [List.getElem_toArray]); (try simp only [List.getElem_cons_succ]); (try simp only [List.getElem_cons_zero]); (try simp only [Act.put]); (try simp only [List.setIfInBounds_toArray]); (try simp only [List.set_cons_succ]); (try simp only [List.set_cons_zero])
        refine wpAnyH_ready (rs := [0]) (by kernel_rfl) (by simp) (AllReadyH.cons rfl (fun Kc hKc => ?_) AllReadyH.nil)
        go_simp
        refine hKc.out _ _ ?_ (fun hHeld => ?_)
        · (try dsimp only)
          refine ⟨?_, ?_, ?_, ?_, ?_, ?_⟩ <;> (repeat (with_reducible (first | exact c1 | exact c2 | exact c3 | exact c4 | exact c5 | exact c6 | refine cell_dr ?_ | refine cell_stb ?_ ?_ | (show _ ≠ _; omega))))
        clear hKc Kc
        (try simp only [List.getElem_toArray]); (try simp only [List.getElem_cons_succ]); (try simp only [List.getElem_cons_zero]); (try simp only [Act.put]); (try simp only [List.setIfInBounds_toArray]); (try simp only [List.set_cons_succ]); (try simp only [List.set_cons_zero])
        refine wpAnyH_ready (rs := [5]) (by kernel_rfl) (by simp) (AllReadyH.cons rfl (fun Kc hKc => ?_) AllReadyH.nil)
        go_simp
        (go_at_call 42; refine (HA.out _).mono ?_; rintro e w3 ⟨rfl, hb3⟩)
        have c1 := cell_keep hb3 c1
        have c2 := cell_keep hb3 c2
        have c3 := cell_keep hb3 c3
        have c4 := cell_keep hb3 c4
        have c5 := cell_keep hb3 c5
        have c6 := cell_keep hb3 c6
        have S3 := S2.below hb3
        have Z3 := Z2.below hb3
        have B3 := B2.trans (hb3.mono B2.size)
        have s0 := S3.c0
        have s1' := S3.c1
        have s2' := S3.f0
        have s3' := S3.f1
        clear hb3
        go_wp2_with fail
        refine hKc.out _ _ ?_ (fun hHeld => ?_)
        · (try dsimp only)
          refine ⟨?_, ?_, ?_, ?_, ?_, ?_⟩ <;> (repeat (with_reducible (first | exact c1 | exact c2 | exact c3 | exact c4 | exact c5 | exact c6 | refine cell_dr ?_ | refine cell_stb ?_ ?_ | (show _ ≠ _; omega))))
        clear hKc Kc
        (try simp only [List.getElem_toArray]); (try simp only [List.getElem_cons_succ]); (try simp only [List.getElem_cons_zero]); (try simp only [Act.put]); (try simp only [List.setIfInBounds_toArray]); (try simp only [List.set_cons_succ]); (try simp only [List.set_cons_zero])
        refine wpAnyH_take (i := 6) (v := ?_) rfl (by kernel_rfl) (by kernel_rfl) (by kernel_rfl) (fun _ _ _ h => h) (Or.inl ⟨by kernel_rfl, ?_⟩) hHeld ?_
        rotate_left
        · intro wz hSw; (try dsimp only at hSw); go_simp; all_goals (try with_reducible rfl)
        (try simp only [List.getElem_toArray]); (try simp only [List.getElem_cons_succ]); (try simp only [List.getElem_cons_zero]); (try simp only [Act.put]); (try simp only [List.setIfInBounds_toArray]); (try simp only [List.set_cons_succ]); (try simp only [List.set_cons_zero])
        refine wpAnyH_take (i := 7) (v := ?_) rfl (by kernel_rfl) (by kernel_rfl) (by kernel_rfl) (fun _ _ _ h => h) (Or.inl ⟨by kernel_rfl, ?_⟩) hHeld ?_
        rotate_left
        · intro wz hSw; (try dsimp only at hSw); go_simp; all_goals (try with_reducible rfl)
        (try simp only [List.getElem_toArray]); (try simp only [List.getElem_cons_succ]); (try simp only [List.getElem_cons_zero]); (try simp only [Act.put]); (try simp only [List.setIfInBounds_toArray]); (try simp only [List.set_cons_succ]); (try simp only [List.set_cons_zero])
        refine wpAnyH_take (i := 8) (v := ?_) rfl (by kernel_rfl) (by kernel_rfl) (by kernel_rfl) (fun _ _ _ h => h) (Or.inl ⟨by kernel_rfl, ?_⟩) hHeld ?_
        rotate_left
        · intro wz hSw; (try dsimp only at hSw); go_simp; all_goals (try with_reducible rfl)
        (try simp only [List.getElem_toArray]); (try simp only [List.getElem_cons_succ]); (try simp only [List.getElem_cons_zero]); (try simp only [Act.put]); (try simp only [List.setIfInBounds_toArray]); (try simp only [List.set_cons_succ]); (try simp only [List.set_cons_zero])
        refine wpAnyH_ready (rs := [9]) (by kernel_rfl) (by simp) (AllReadyH.cons rfl (fun Kc hKc => ?_) AllReadyH.nil)
        go_simp
        refine hKc.out _ _ ?_ (fun hHeld => ?_)
        · (try dsimp only)
          refine ⟨?_, ?_, ?_, ?_, ?_, ?_⟩ <;> (repeat (with_reducible (first | exact c1 | exact c2 | exact c3 | exact c4 | exact c5 | exact c6 | refine cell_dr ?_ | refine cell_stb ?_ ?_ | (show _ ≠ _; omega))))
        clear hKc Kc
        (try simp only [List.getElem_toArray]); (try simp only [List.getElem_cons_succ]); (try simp only [List.getElem_cons_zero]); (try simp only [Act.put]); (try simp only [List.setIfInBounds_toArray]); (try simp only [List.set_cons_succ]); (try simp only [List.set_cons_zero])
        refine wpAnyH_take (i := 10) (v := ?_) rfl (by kernel_rfl) (by kernel_rfl) (by kernel_rfl) (fun _ _ _ h => h) (Or.inl ⟨by kernel_rfl, ?_⟩) hHeld ?_
        rotate_left
        · intro wz hSw; (try dsimp only at hSw); go_simp; all_goals (try with_reducible rfl)
        (try simp only [List.getElem_toArray]); (try simp only [List.getElem_cons_succ]); (try simp only [List.getElem_cons_zero]); (try simp only [Act.put]); (try simp only [List.setIfInBounds_toArray]); (try simp only [List.set_cons_succ]); (try simp only [List.set_cons_zero])
        refine wpAnyH_done (by kernel_rfl) ?_ _
        refine NoPanic.normal ?_
        go_wp2
        go_roundw
        case rel =>
          refine ⟨k + 1, by omega, by go_num, by rw [HQ.out], ?_, (Z3.other (by omega) 0 _).other (by omega) 1 _, (B3.setCell (p := ⟨Sb, 0, none⟩) hwS _).setCell (p := ⟨Sb, 1, none⟩) hwS _, ?_⟩
          · show IsR _ _ _ _
            rw [HQ.out]
            exact (S3.set0 _).set1 _
          · refine ⟨?_, ?_⟩ <;> (repeat (with_reducible (first | exact c1 | exact c2 | refine cell_stb ?_ ?_ | (show _ ≠ _; omega))))
        case measure => simp [intOf]; omega
    · obtain rfl : k = n := by omega
      have B1 : Below w.heap.size w wr := hB.out
      have s0 := hS.out.c0
      have s1' := hS.out.c1
      have z0 := hZ.out.c0
      have z1 := hZ.out.c1
      have z2 := hZ.out.f0
      have z3 := hZ.out.f1
      clear hS hZ hB hX
      obtain ⟨⟨⟨s1, s2⟩, so⟩, hs⟩ : ∃ z, z = G k := ⟨_, rfl⟩
      rw [← hs] at s0 s1' ⊢
      have HSS := hidW10 hs
      clear hs
      go_wp2
      exact bodyPost_ret (v := .tuple #[.agg #[.int .i64 s1, .int .i64 s2], .bool so]) (by simp [results, Try.results36, go_sem, z0, z1]) rfl ⟨by rw [← HSS.out], (B1.setCell (p := ⟨Rb, 0, none⟩) hwR _).setCell (p := ⟨Rb, 1, none⟩) hwR _⟩

theorem mis_ret {cs : List Fr} {ss : List Sp} (h : misO cs ss = false) : Ending.returned (.tuple #[.agg #[.int .i64 0, .int .i64 0], .bool false]) = .returned (.tuple #[.agg #[.int .i64 (misA cs ss).1, .int .i64 (misA cs ss).2], .bool (misO cs ss)]) := by rw [misA_no h, h]
set_option maxRecDepth 100000 in
set_option maxHeartbeats 2000000 in
theorem iMiss_any (v z : Value) (cs : List Fr) (ss : List Sp) (w : World) (h : RdR w v cs) (h' : RdS w z ss) :
    Calls Try.prog 8 #[v, z] w fun e w' => e = .returned (.tuple #[.agg #[.int .i64 (misA cs ss).1, .int .i64 (misA cs ss).2], .bool (misO cs ss)]) ∧ Below w.heap.size w w' := by
  have HC := hidP (fun W (hW : Below w.heap.size w W) => iCrv_any v cs W (h.below hW))
  have HO := hidP (fun W (hW : Below w.heap.size w W) => iSpo_any z ss W (h'.below hW))
  have HR := hidP h
  have HS := hidP h'
  obtain ⟨pv, cv, rfl, _⟩ := h
  obtain ⟨pz, cz, rfl, _⟩ := h'
  have b0 : ∀ {u : World} (o : Obj), Below u.heap.size u (u.alloc o) := fun o => (Below.refl _ _).alloc (Nat.le_refl _) o
  obtain ⟨q, hq⟩ : ∃ q, q = crvB cs := ⟨_, rfl⟩
  obtain ⟨o, ho⟩ : ∃ q, q = sptB ss := ⟨_, rfl⟩
  have HQ := hidP (And.intro hq ho)
  rw [← hq] at HC
  rw [← ho] at HO
  clear hq ho
  go_enter Try.func8, Try.ntmps8
  obtain ⟨X, hX⟩ : ∃ X, X = (w.alloc (.cells #[.slice pv cs.length cv] 27)).alloc (.cells #[.int .i64 0, .int .i64 0] 33) := ⟨_, rfl⟩
  have B0 : Below w.heap.size w X := by rw [hX]; exact ((Below.refl _ _).alloc (Nat.le_refl _) _).alloc (by simp) _
  have C0 : X.cell? ⟨w.heap.size, 0, none⟩ = some (.slice pv cs.length cv) := by rw [hX]; simp [go_sem]
  have R0 : IsR X (w.heap.size + 1) 0 0 := by
    rw [hX]
    have := IsR.new (w.alloc (.cells #[.slice pv cs.length cv] 27)) 0 0
    simpa using this
  go_wp2_with fail
  rw [← hX]
  refine (HC.out _ B0).mono ?_
  rintro e w1 ⟨rfl, hb⟩
  replace R0 := R0.below hb
  replace C0 := cell_keep hb C0
  replace B0 := B0.trans (hb.mono B0.size)
  clear hb hX HC
  cases q
  · have HN := hidP (mis_ret (cs := cs) (ss := ss) (by unfold misO; rw [← HQ.out.1]; rfl))
    have z0 := R0.c0
    have z1 := R0.c1
    have z2 := R0.f0
    have z3 := R0.f1
    go_wp2
    exact bodyPost_ret (v := .tuple #[.agg #[.int .i64 0, .int .i64 0], .bool false]) (by simp [results, Try.results8, go_sem, z0, z1]) rfl ⟨HN.out, (B0.setCell (p := ⟨w.heap.size + 1, 0, none⟩) (by simp) _).setCell (p := ⟨w.heap.size + 1, 1, none⟩) (by simp) _⟩
  go_wp2_with fail
  refine (HO.out _ B0).mono ?_
  rintro e w2 ⟨rfl, hb⟩
  replace R0 := R0.below hb
  replace C0 := cell_keep hb C0
  replace B0 := B0.trans (hb.mono B0.size)
  clear hb HO
  cases o
  · have HN := hidP (mis_ret (cs := cs) (ss := ss) (by unfold misO; rw [← HQ.out.2]; simp))
    have z0 := R0.c0
    have z1 := R0.c1
    have z2 := R0.f0
    have z3 := R0.f1
    go_wp2
    exact bodyPost_ret (v := .tuple #[.agg #[.int .i64 0, .int .i64 0], .bool false]) (by simp [results, Try.results8, go_sem, z0, z1]) rfl ⟨HN.out, (B0.setCell (p := ⟨w.heap.size + 1, 0, none⟩) (by simp) _).setCell (p := ⟨w.heap.size + 1, 1, none⟩) (by simp) _⟩
  have HN := hidP (mis_all (cs := cs) (ss := ss) HQ.out.1.symm HQ.out.2.symm)
  have hl := (sptB_out HQ.out.2.symm).1
  have HT : Hid (Calls Try.prog 36 #[.agg #[.slice pz ss.length cz, .func (.func 33) #[] #[.pointer (some ⟨w.heap.size, 0, none⟩)]]] w2 fun e w' =>
      e = .returned (.tuple #[.agg #[.int .i64 (misA cs ss).1, .int .i64 (misA cs ss).2], .bool (misO cs ss)]) ∧ Below w2.heap.size w2 w') := by
    obtain ⟨a, c, e, k2, k3, k4, k5⟩ := HS.out.below B0
    injection e with e1 e2 e3
    subst e1
    obtain ⟨g, off, rfl, m1, -⟩ := k5 0 (by omega)
    have ht := totS_any (sqF cs ss) ss g off ss.length cz (.pointer (some ⟨w.heap.size, 0, none⟩)) w2 (by omega) (fun k hk => by
      obtain ⟨b, o, e, h1, h2, h3, h4⟩ := k5 k hk
      cases e
      exact ⟨h1, h2, h3, h4⟩) (fun k hk W hW => misF_any w.heap.size (.slice pv cs.length cv) cs (sp ss k) W (cell_keep hW C0) (HR.out.below (B0.trans (hW.mono B0.size))))
    rw [HN.out] at ht
    exact ht
  obtain ⟨ma, hma⟩ : ∃ m, m = misA cs ss := ⟨_, rfl⟩
  obtain ⟨mo, hmo⟩ : ∃ m, m = misO cs ss := ⟨_, rfl⟩
  have HE : Hid (Ending.returned (.tuple #[.agg #[.int .i64 ma.1, .int .i64 ma.2], .bool mo]) = .returned (.tuple #[.agg #[.int .i64 (misA cs ss).1, .int .i64 (misA cs ss).2], .bool (misO cs ss)])) := by show _ = _; rw [hma, hmo]
  rw [← hma, ← hmo] at HT
  clear hma hmo HN hl HS HR HQ
  obtain ⟨m1, m2⟩ := ma
  dsimp only at HT HE
  go_wp2_with fail
  refine HT.out.mono ?_
  rintro e w3 ⟨rfl, hb⟩
  replace R0 := R0.below hb
  replace B0 := B0.trans (hb.mono B0.size)
  clear hb C0
  have z0 := R0.c0
  have z1 := R0.c1
  have z2 := R0.f0
  have z3 := R0.f1
  go_wp2
  exact bodyPost_ret (v := .tuple #[.agg #[.int .i64 m1, .int .i64 m2], .bool mo]) (by simp [results, Try.results8, go_sem, z0, z1]) rfl ⟨HE.out, (B0.setCell (p := ⟨w.heap.size + 1, 0, none⟩) (by simp) _).setCell (p := ⟨w.heap.size + 1, 1, none⟩) (by simp) _⟩
end Go.Proofs.Ythnlcgilmljliaa

/- The walk of the model's sum over all of a cover. -/
namespace Go.Proofs.Ythnlcgilmljliaa
open Go.RowKit Go.Proofs.Ythnlcgilmljliaa.RM

theorem g_drew1 {w w' : World} {row : Option Nat} (h : w.grownBy w' row) : w.grownBy w'.drew row := g_drewN h 1
/-- two products and a sum, told -/
theorem kStep (K : Nat) (bd : Bool) (s a c b : Fr) (p q : Fr) (r : Fr × Bool) (hp : p = p1V a c) (hq : q = p1V p b) (hr : r = stpV (s, bd) a c b) :
    (∀ W : World, IsK W K bd → Calls Try.prog 47 #[.pointer (some ⟨K, 0, none⟩), .agg #[.int .i64 a.1, .int .i64 a.2], .agg #[.int .i64 c.1, .int .i64 c.2]] W fun e w' => e = .returned (.agg #[.int .i64 p.1, .int .i64 p.2]) ∧ IsK w' K (bd || !mulK a c) ∧ W.grownBy w' (some K)) ∧
    (∀ W : World, IsK W K (bd || !mulK a c) → Calls Try.prog 47 #[.pointer (some ⟨K, 0, none⟩), .agg #[.int .i64 p.1, .int .i64 p.2], .agg #[.int .i64 b.1, .int .i64 b.2]] W fun e w' => e = .returned (.agg #[.int .i64 q.1, .int .i64 q.2]) ∧ IsK w' K ((bd || !mulK a c) || !mulK p b) ∧ W.grownBy w' (some K)) ∧
    (∀ W : World, IsK W K ((bd || !mulK a c) || !mulK p b) → Calls Try.prog 45 #[.pointer (some ⟨K, 0, none⟩), .agg #[.int .i64 s.1, .int .i64 s.2], .agg #[.int .i64 q.1, .int .i64 q.2]] W fun e w' => e = .returned (.agg #[.int .i64 r.1.1, .int .i64 r.1.2]) ∧ IsK w' K r.2 ∧ W.grownBy w' (some K)) := by
  subst hp
  subst hq
  subst hr
  exact ⟨fun W hW => kMul K bd a.1 a.2 c.1 c.2 W hW, fun W hW => kMul K _ _ _ b.1 b.2 W hW, fun W hW => kAdd K _ s.1 s.2 _ _ W hW⟩

end Go.Proofs.Ythnlcgilmljliaa

/- The walk of the model's Variance. -/
namespace Go.Proofs.Ythnlcgilmljliaa
open Go.RowKit Go.Proofs.Ythnlcgilmljliaa.RM

/-- the variance of shares: does the model tell it, and what -/
def varS (ps : List Fr) (rows : List (List Fr)) : Fr × Bool := sumV ps rows ps false rows.length
def varO (ps : List Fr) (rows : List (List Fr)) : Bool := toldC ps rows && !(varS ps rows).2
def varA (ps : List Fr) (rows : List (List Fr)) : Fr := if varO ps rows = true then (varS ps rows).1 else (0, 0)
theorem varA_no {ps : List Fr} {rows : List (List Fr)} (h : varO ps rows = false) : varA ps rows = (0, 0) := by unfold varA; rw [h]; rfl
theorem varA_yes {ps : List Fr} {rows : List (List Fr)} (h : varO ps rows = true) : varA ps rows = (varS ps rows).1 := by unfold varA; rw [if_pos h]
theorem toldC_out {ps : List Fr} {rows : List (List Fr)} (h : toldC ps rows = true) : (1 ≤ rows.length ∧ rows.length ≤ 6) ∧ ps.length = rows.length ∧ allOk ps = true ∧ (∀ k, k < rows.length → (rw' rows k).length = rows.length ∧ allOk (rw' rows k) = true) ∧ symP rows := by
  unfold toldC at h
  rw [Bool.and_eq_true] at h
  obtain ⟨h1, h2, h3⟩ := covB_out h.1
  obtain ⟨h4, h5⟩ := allB_len (by omega) h.2
  exact ⟨h1, by omega, h5, h2, h3⟩
theorem ret_vb {a b a' b' : Int} {o o' : Bool} (h1 : a = a') (h2 : b = b') (h3 : o = o') : Ending.returned (.tuple #[.agg #[.int .i64 a, .int .i64 b], .bool o]) = .returned (.tuple #[.agg #[.int .i64 a', .int .i64 b'], .bool o']) := by rw [h1, h2, h3]

end Go.Proofs.Ythnlcgilmljliaa

/- The walk of the model's Alone. -/
namespace Go.Proofs.Ythnlcgilmljliaa
open Go.RowKit Go.Proofs.Ythnlcgilmljliaa.RM

theorem repB_succ (n : Nat) (x : Fr) : List.replicate (n + 1) x = List.replicate n x ++ [x] := by rw [List.replicate_succ']
theorem rowB_set {W : World} {base g L c : Nat} {ps : List Fr} (h : W.ownsRow base 33 2 (.slice (some ⟨g, 0, none⟩) L c) L (cellsR ps)) (hl : ps.length = L) (k : Nat) (hk : k < L) (x y : Int) :
    ((W.setCell ⟨g, k * 2, none⟩ (.int .i64 x)).setCell ⟨g, k * 2 + 1, none⟩ (.int .i64 y)).ownsRow base 33 2 (.slice (some ⟨g, 0, none⟩) L c) L (cellsR (ps.set k (x, y))) := by
  obtain ⟨p1, p2⟩ := h.stored (k * 2) (.int .i64 x)
  obtain ⟨p3, p4⟩ := p1.stored (k * 2 + 1) (.int .i64 y)
  rw [cellsR_set _ _ _ _ (by rw [hl]; exact hk)] at p3
  exact p3
theorem ownB_low {S : Nat} {W W' : World} {base e size n : Nat} {v : Value} {xs : List Value} (h : W.ownsRow base e size v n xs) (hu : ∀ b, v.ownBlock = some b → b < S) (hb : Below S W W') : W'.ownsRow base e size v n xs := by
  refine ⟨h.1, ?_⟩
  rcases h.2 with k | ⟨g, cap, cur, e1, e2, e3, r⟩
  · exact .inl k
  · subst e1
    exact .inr ⟨g, cap, cur, rfl, e2, (hb.block g (hu g rfl)).trans e3, r⟩
theorem TabB_low {S : Nat} {W W' : World} {base : Nat} {v : Value} {us : List Value} {rows : List (List Fr)} (h : Tab W base v us rows) (hu : Under S v us) (hb : Below S W W') : Tab W' base v us rows :=
  ⟨ownB_low h.outer hu.1 hb, h.len, fun i hi => ownB_low (h.inner i hi) (hu.2 i hi) hb, h.apart⟩

/-- a row of noughts but for one -/
def aloneR (vs : List Fr) (n i : Nat) : List Fr := (List.replicate n (0, 1)).set i (fr vs i)
def aloneT (vs : List Fr) (k : Nat) : List (List Fr) := (List.range k).map fun i => aloneR vs vs.length i
def aloneC (vs : List Fr) : Bool := decide (1 ≤ vs.length ∧ vs.length ≤ 6) && allB vs vs.length
def aloneA (vs : List Fr) : List (List Fr) := if aloneC vs = true then aloneT vs vs.length else []
theorem aloneR_len (vs : List Fr) (n i : Nat) : (aloneR vs n i).length = n := by simp [aloneR]
theorem aloneT_succ (vs : List Fr) (k : Nat) : aloneT vs (k + 1) = aloneT vs k ++ [aloneR vs vs.length k] := by simp [aloneT, List.range_succ]
theorem aloneA_no {vs : List Fr} (h : aloneC vs = false) : aloneA vs = [] := by unfold aloneA; rw [h]; rfl
theorem aloneA_yes {vs : List Fr} (h : aloneC vs = true) : aloneA vs = aloneT vs vs.length := by unfold aloneA; rw [if_pos h]

end Go.Proofs.Ythnlcgilmljliaa

/- The walks of the program's powers and of Fitted's function values; the rows of sums on their way. -/
namespace Go.Proofs.Ythnlcgilmljliaa
open Go.RowKit Go.Proofs.Ythnlcgilmljliaa.RM

theorem pwr_any (x1 x2 : Int) (w : World) :
    Calls Try.prog 60 #[.agg #[.int .i64 x1, .int .i64 x2]] w fun e w' => e = .returned (.func (.func 78) #[] #[.pointer (some ⟨w.heap.size + 1, 0, none⟩), .pointer (some ⟨w.heap.size, 0, none⟩)]) ∧ w' = (w.alloc (.cells #[.int .i64 x1, .int .i64 x2] 33)).alloc (.cells #[.int .i64 1, .int .i64 1] 33) := by
  go_enter Try.func60, Try.ntmps60
  go_wp2
  go_ret
  exact ⟨rfl, rfl⟩

theorem IsR.gk {W W' : World} {R K : Nat} {n d : Int} (h : IsR W R n d) (hg : W.grownBy W' (some K)) (hne : R ≠ K) : IsR W' R n d := IsR.grown h hg hne
theorem own_gne {K : Nat} {W W' : World} {base e size n : Nat} {v : Value} {xs : List Value} (h : W.ownsRow base e size v n xs) (hg : W.grownBy W' (some K)) (hne : v.ownBlock ≠ some K) : W'.ownsRow base e size v n xs := h.kept hg (.inr hne)

set_option maxRecDepth 100000 in
set_option maxHeartbeats 2000000 in
theorem nxt_any (P X : Nat) (p1 p2 x1 x2 : Int) (w : World) (hP : IsR w P p1 p2) (hX : IsR w X x1 x2) :
    Calls Try.prog 78 #[.pointer (some ⟨P, 0, none⟩), .pointer (some ⟨X, 0, none⟩)] w fun e w' => e = .returned (.agg #[.int .i64 p1, .int .i64 p2]) ∧ IsR w' P (mulP (p1, p2) (x1, x2)).1 (mulP (p1, p2) (x1, x2)).2 ∧ w.grownBy w' (some P) := by
  have HM := hidP (fun W => mulC p1 p2 x1 x2 W)
  obtain ⟨r, hr⟩ : ∃ r, r = mulP (p1, p2) (x1, x2) := ⟨_, rfl⟩
  obtain ⟨ro, hro⟩ : ∃ r, r = mulK (p1, p2) (x1, x2) := ⟨_, rfl⟩
  rw [← hr, ← hro] at HM
  rw [← hr]
  clear hr hro
  obtain ⟨r1, r2⟩ := r
  dsimp only at HM ⊢
  go_enter Try.func78, Try.ntmps78
  obtain ⟨Y, hY⟩ : ∃ Y, Y = w.alloc (.cells #[.int .i64 0, .int .i64 0] 33) := ⟨_, rfl⟩
  have hb0 : Below w.heap.size w Y := by rw [hY]; exact b0S _ _
  have hsY : Y.heap.size = w.heap.size + 1 := by rw [hY]; simp
  have R0 : IsR Y w.heap.size 0 0 := by rw [hY]; exact IsR.new _ _ _
  have P0 := hP.below hb0
  have X0 := hX.below hb0
  obtain ⟨Z, hZ⟩ : ∃ Z, Z = Y.alloc (.cells #[.int .i64 p1, .int .i64 p2] 33) := ⟨_, rfl⟩
  have hb1 : Below Y.heap.size Y Z := by rw [hZ]; exact b0S _ _
  have M1 : IsR Z (w.heap.size + 1) p1 p2 := by rw [hZ, ← hsY]; exact IsR.new _ _ _
  have P1 := P0.below hb1
  have X1 := X0.below hb1
  have R1 := R0.below hb1
  have B1 : Below w.heap.size w Z := hb0.trans (hb1.mono hb0.size)
  have a0 := P0.c0
  have a1 := P0.c1
  have a2 := P1.c0
  have a3 := P1.c1
  have a4 := X1.c0
  have a5 := X1.c1
  have hPl := hP.lt
  rw [hZ, hY] at a2 a3 a4 a5
  rw [hY] at a0 a1
  go_wp2_with fail
  rw [← hY, ← hZ]
  clear a0 a1 a2 a3 a4 a5
  refine (HM.out _).mono ?_
  rintro e w1 ⟨rfl, hb⟩
  replace P1 := P1.below hb
  replace M1 := M1.below hb
  replace R1 := R1.below hb
  replace B1 := B1.trans (hb.mono B1.size)
  clear hb P0 X0 R0 hb0 hb1 hY hZ X1
  have hPM : w.heap.size + 1 ≠ P := by omega
  have hPR : w.heap.size ≠ P := by omega
  have e0 := P1.f0
  have e1 := P1.f1
  have e2 := P1.c0
  have e3 := P1.c1
  have m0 := M1.c0
  have m1 := M1.c1
  have z0 := R1.c0
  have z1 := R1.c1
  have z2 := R1.f0
  have z3 := R1.f1
  go_wp2
  have P2 : IsR ((w1.setCell ⟨P, 0, none⟩ (.int .i64 r1)).setCell ⟨P, 1, none⟩ (.int .i64 r2)) P r1 r2 := (P1.set0 r1).set1 r2
  have R2 : IsR ((w1.setCell ⟨P, 0, none⟩ (.int .i64 r1)).setCell ⟨P, 1, none⟩ (.int .i64 r2)) w.heap.size 0 0 := (R1.other hPR 0 _).other hPR 1 _
  obtain ⟨V, hV⟩ : ∃ V, V = ((w1.setCell ⟨P, 0, none⟩ (.int .i64 r1)).setCell ⟨P, 1, none⟩ (.int .i64 r2)) := ⟨_, rfl⟩
  have G1 : w.grownBy V (some P) := by
    rw [hV]
    exact g_set (g_set (grown_new B1) (.inr rfl) 0 _) (.inr rfl) 1 _
  rw [← hV] at P2 R2 ⊢
  have R3 := (R2.set0 p1).set1 p2
  have v0 := R3.c0
  have v1 := R3.c1
  exact bodyPost_ret (v := .agg #[.int .i64 p1, .int .i64 p2]) (by simp [results, Try.results78, go_sem, v0, v1]) rfl ⟨rfl, (P2.other hPR.symm 0 _).other hPR.symm 1 _, g_set (g_set G1 (.inl (Nat.le_refl _)) 0 _) (.inl (Nat.le_refl _)) 1 _⟩

theorem oneT_any (x1 x2 y1 y2 : Int) (w : World) :
    Calls Try.prog 28 #[.agg #[.int .i64 x1, .int .i64 x2, .int .i64 y1, .int .i64 y2]] w fun e w' => e = .returned (.agg #[.int .i64 1, .int .i64 1]) ∧ Below w.heap.size w w' := by
  go_enter Try.func28, Try.ntmps28
  go_wp2
  exact bodyPost_ret (v := .agg #[.int .i64 1, .int .i64 1]) (by simp [results, Try.results28, go_sem]) rfl ⟨rfl, ((Below.refl _ _).alloc (Nat.le_refl _) _).alloc (by simp) _⟩
theorem sndT_any (x1 x2 y1 y2 : Int) (w : World) :
    Calls Try.prog 29 #[.agg #[.int .i64 x1, .int .i64 x2, .int .i64 y1, .int .i64 y2]] w fun e w' => e = .returned (.agg #[.int .i64 y1, .int .i64 y2]) ∧ Below w.heap.size w w' := by
  go_enter Try.func29, Try.ntmps29
  go_wp2
  exact bodyPost_ret (v := .agg #[.int .i64 y1, .int .i64 y2]) (by simp [results, Try.results29, go_sem]) rfl ⟨rfl, ((Below.refl _ _).alloc (Nat.le_refl _) _).alloc (by simp) _⟩

/-- a list told by its places -/
theorem fr_map (n : Nat) (h : Nat → Fr) (p : Nat) (hp : p < n) : fr ((List.range n).map h) p = h p := by unfold fr; simp [hp]
theorem map_set (n : Nat) (h h' : Nat → Fr) (p : Nat) (x : Fr) (hp : h' p = x) (ho : ∀ i, i < n → i ≠ p → h' i = h i) : ((List.range n).map h).set p x = (List.range n).map h' := by
  apply List.ext_getElem?
  intro i
  by_cases hi : i < n
  · by_cases e : p = i
    · subst e
      rw [List.getElem?_set_self (by simp; exact hi)]
      simp [hi, hp]
    · rw [List.getElem?_set_ne e]
      simp [hi, ho i hi (fun k => e k.symm)]
  · rw [List.getElem?_eq_none (by simp; omega), List.getElem?_eq_none (by simp; omega)]
/-- the sums, of which the first j are 0 -/
def iniS (n j : Nat) : List Fr := (List.range n).map fun i => if i < j then (0, 1) else (0, 0)
/-- the sums over k spots, the first p with one more -/
def mixS (f : Nat → Fr) (ss : List Sp) (n k p : Nat) : List Fr := (List.range n).map fun i => if i < p then spS f ss i (k + 1) else spS f ss i k
def smsK (f : Nat → Fr) (ss : List Sp) (n k : Nat) : List Fr := (List.range n).map fun i => spS f ss i k
theorem iniS_len (n j : Nat) : (iniS n j).length = n := by simp [iniS]
theorem mixS_len (f : Nat → Fr) (ss : List Sp) (n k p : Nat) : (mixS f ss n k p).length = n := by simp [mixS]
theorem iniS_zero (n : Nat) : iniS n 0 = List.replicate n (0, 0) := by
  unfold iniS
  apply List.ext_getElem?
  intro i
  by_cases h : i < n <;> simp [h]
theorem iniS_all (f : Nat → Fr) (ss : List Sp) (n : Nat) : iniS n n = smsK f ss n 0 := by
  unfold iniS smsK
  exact List.map_congr_left fun i hi => by rw [List.mem_range] at hi; rw [if_pos hi]; rfl
theorem iniS_set (n j : Nat) : (iniS n j).set j (0, 1) = iniS n (j + 1) := by
  unfold iniS
  refine map_set n _ _ j (0, 1) (by rw [if_pos (by omega)]) fun i _ hne => ?_
  by_cases e : i < j
  · rw [if_pos e, if_pos (by omega)]
  · rw [if_neg e, if_neg (by omega)]
theorem mixS_zero (f : Nat → Fr) (ss : List Sp) (n k : Nat) : mixS f ss n k 0 = smsK f ss n k := by
  unfold mixS smsK
  exact List.map_congr_left fun i _ => by rw [if_neg (by omega)]
theorem mixS_all (f : Nat → Fr) (ss : List Sp) (n k : Nat) : mixS f ss n k n = smsK f ss n (k + 1) := by
  unfold mixS smsK
  exact List.map_congr_left fun i hi => by rw [List.mem_range] at hi; rw [if_pos hi]
theorem mixS_at (f : Nat → Fr) (ss : List Sp) (n k p : Nat) (hp : p < n) : fr (mixS f ss n k p) p = spS f ss p k := by
  unfold mixS
  rw [fr_map _ _ _ hp, if_neg (Nat.lt_irrefl _)]
theorem mixS_set (f : Nat → Fr) (ss : List Sp) (n k p : Nat) : (mixS f ss n k p).set p (spS f ss p (k + 1)) = mixS f ss n k (p + 1) := by
  unfold mixS
  refine map_set n _ _ p _ (by rw [if_pos (by omega)]) fun i _ hne => ?_
  by_cases e : i < p
  · rw [if_pos e, if_pos (by omega)]
  · rw [if_neg e, if_neg (by omega)]
theorem smsK_all (f : Nat → Fr) (ss : List Sp) (n : Nat) : smsK f ss n ss.length = smsL f ss n := rfl
end Go.Proofs.Ythnlcgilmljliaa
