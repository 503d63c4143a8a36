/- The walk of the program's CurveAt. -/
import Derived.Test.YtibncepllmjhhaaFitP2
namespace Go.Proofs.Ytibncepllmjhhaa
open Go.RowKit Go.Shelf Go.Proofs.Ytibncepllmjhhaa.RM
attribute [local go_sem] Oper.semAt_some

theorem boxed_oth {W : World} {B b : Nat} {t : TypeId} {v : Value} (h : Boxed W B t v) (hne : B ≠ b) (o : Nat) (u : Value) : Boxed (W.setCell ⟨b, o, none⟩ u) B t v := (Below.heap_setCell W ⟨b, o, none⟩ u B hne).trans h
theorem own_isR2 {X Y : World} {row : Option Nat} {R : Nat} {n d : Int} (h : IsR X R n d) (hg : X.grownBy Y row) (hr : ∀ r, row = some r → ∃ o : Obj, X.heap[r]? = some o ∧ o.isCells = false) : IsR Y R n d :=
  (hg.block R h.lt (fun e => by obtain ⟨o, ho, hc⟩ := hr _ e.symm; rw [show X.heap[R]? = _ from h] at ho; cases ho; cases hc)).trans h
theorem crvO_no1 {cs : List Fr} {x : Fr} (h : crvB cs = false) : crvO cs x = false := by unfold crvO; rw [h]; rfl
theorem crvO_no2 {cs : List Fr} {x : Fr} (h : okB x.1 x.2 = false) : crvO cs x = false := by unfold crvO; rw [h]; simp
theorem crv_ret {cs : List Fr} {x : Fr} (h : crvO cs x = false) : Ending.returned (.tuple #[.agg #[.int .i64 0, .int .i64 0], .bool false]) = .returned (.tuple #[.agg #[.int .i64 (crvA cs x).1, .int .i64 (crvA cs x).2], .bool (crvO cs x)]) := by rw [crvA_no h, h]

set_option maxRecDepth 100000 in
set_option maxHeartbeats 2000000 in
theorem iCurveAt_no (v : Value) (cs : List Fr) (x : Fr) (w : World) (h : RdR w v cs) (hn : crvB cs = false ∨ okB x.1 x.2 = false) :
    Calls Try.prog 17 #[v, .agg #[.int .i64 x.1, .int .i64 x.2]] w fun e w' => e = .returned (.tuple #[.agg #[.int .i64 (crvA cs x).1, .int .i64 (crvA cs x).2], .bool (crvO cs x)]) ∧ Below w.heap.size w w' := by
  have HC := hidP (fun W (hW : Below w.heap.size w W) => iCrv_any v cs W (h.below hW))
  have HO := hidP (fun W => right_any x.1 x.2 W)
  have HR : Hid (crvO cs x = false) := by show _ = _; rcases hn with k | k; exact crvO_no1 k; exact crvO_no2 k
  have HN := hidP hn
  obtain ⟨a, c, rfl, h2, h3, h4, h5⟩ := h
  clear h5 h3 h4 hn
  obtain ⟨q, hq⟩ : ∃ q, q = crvB cs := ⟨_, rfl⟩
  obtain ⟨o, ho⟩ : ∃ q, q = okB x.1 x.2 := ⟨_, rfl⟩
  have HRE := hidP (crv_ret HR.out)
  rw [← hq] at HC HN
  rw [← ho] at HO HN
  clear hq ho
  obtain ⟨x1, x2⟩ := x
  dsimp only at HO
  go_enter Try.func17, Try.ntmps17
  obtain ⟨A, hA⟩ : ∃ A, A = w.heap.size + 1 := ⟨_, rfl⟩
  have B0 : Below w.heap.size w ((w.alloc (.cells #[.int .i64 x1, .int .i64 x2] 33)).alloc (.cells #[.int .i64 0, .int .i64 0] 33)) := ((Below.refl _ _).alloc (Nat.le_refl _) _).alloc (by simp) _
  have X0 : IsR ((w.alloc (.cells #[.int .i64 x1, .int .i64 x2] 33)).alloc (.cells #[.int .i64 0, .int .i64 0] 33)) w.heap.size x1 x2 := (IsR.new w x1 x2).below ((Below.refl _ _).alloc (Nat.le_refl _) _)
  have A0 : IsR ((w.alloc (.cells #[.int .i64 x1, .int .i64 x2] 33)).alloc (.cells #[.int .i64 0, .int .i64 0] 33)) (w.heap.size + 1) 0 0 := by
    have := IsR.new (w.alloc (.cells #[.int .i64 x1, .int .i64 x2] 33)) 0 0
    simpa using this
  go_wp2_with fail
  refine (HC.out _ B0).mono ?_
  rintro e w1 ⟨rfl, hb⟩
  replace X0 := X0.below hb
  replace A0 := A0.below hb
  replace B0 := B0.trans (hb.mono B0.size)
  clear hb
  cases q
  · have a0 := A0.c0
    have a1 := A0.c1
    have a2 := A0.f0
    have a3 := A0.f1
    go_wp2
    exact bodyPost_ret (v := .tuple #[.agg #[.int .i64 0, .int .i64 0], .bool false]) (by simp [results, Try.results17, go_sem, a0, a1]) rfl ⟨HRE.out, (B0.setCell (p := ⟨w.heap.size + 1, 0, none⟩) (by simp) _).setCell (p := ⟨w.heap.size + 1, 1, none⟩) (by simp) _⟩
  · obtain rfl : o = false := by rcases HN.out with k | k; cases k; exact k
    have x0 := X0.c0
    have x1' := X0.c1
    go_wp2_with fail
    refine (HO.out _).mono ?_
    rintro e w2 ⟨rfl, hb⟩
    replace A0 := A0.below hb
    replace B0 := B0.trans (hb.mono B0.size)
    clear hb
    have a0 := A0.c0
    have a1 := A0.c1
    have a2 := A0.f0
    have a3 := A0.f1
    go_wp2
    exact bodyPost_ret (v := .tuple #[.agg #[.int .i64 0, .int .i64 0], .bool false]) (by simp [results, Try.results17, go_sem, a0, a1]) rfl ⟨HRE.out, (B0.setCell (p := ⟨w.heap.size + 1, 0, none⟩) (by simp) _).setCell (p := ⟨w.heap.size + 1, 1, none⟩) (by simp) _⟩

/-- the loop's own cells -/
def CvS (H X A : Nat) (x : Fr) (pre : List (Int × Fr)) (W : World) : Prop :=
  IsR W H (phF x pre).1.1 (phF x pre).1.2 ∧ Boxed W (H + 1) 4 (.bool (phF x pre).2) ∧ IsR W X x.1 x.2 ∧ IsR W A 0 0
theorem CvS.own (H X A : Nat) (x : Fr) {pre : List (Int × Fr)} {Y Z : World} {row : Option Nat} (hs : CvS H X A x pre Y) (hgr : Y.grownBy Z row) (hrow : ∀ r, row = some r → ∃ o : Obj, Y.heap[r]? = some o ∧ o.isCells = false) : CvS H X A x pre Z :=
  ⟨own_isR2 hs.1 hgr hrow, hs.2.1.kept hgr (fun e => by obtain ⟨o, ho, hc⟩ := hrow _ e.symm; rw [show Y.heap[H + 1]? = _ from hs.2.1] at ho; cases ho; cases hc), own_isR2 hs.2.2.1 hgr hrow, own_isR2 hs.2.2.2 hgr hrow⟩

set_option maxRecDepth 100000 in
set_option maxHeartbeats 4000000 in
theorem iCurveAt_any (v : Value) (cs : List Fr) (x : Fr) (w : World) (h : RdR w v cs) :
    Calls Try.prog 17 #[v, .agg #[.int .i64 x.1, .int .i64 x.2]] w fun e w' => e = .returned (.tuple #[.agg #[.int .i64 (crvA cs x).1, .int .i64 (crvA cs x).2], .bool (crvO cs x)]) ∧ Below w.heap.size w w' := by
  cases hq : crvB cs
  · exact iCurveAt_no v cs x w h (.inl hq)
  cases ho : okB x.1 x.2
  · exact iCurveAt_no v cs x w h (.inr ho)
  have HV : Hid (phr cs x cs.length = (crvA cs x, crvO cs x)) := crv_both cs x hq ho
  have HPF := hidP (phF_all cs x cs.length)
  rw [HV.out] at HPF
  have HC := hidP (fun W (hW : Below w.heap.size w W) => iCrv_any v cs W (h.below hW))
  have HO := hidP (fun W => right_any x.1 x.2 W)
  rw [hq] at HC
  rw [ho] at HO
  have hc14 := (crvB_out hq).1
  obtain ⟨a, c, rfl, h2, h3, h4, h5⟩ := h
  obtain ⟨g, off, rfl, _, _⟩ := h5 0 (by omega)
  have H5 : Hid (∀ j, j < cs.length → w.cell? ⟨g, off + j * 2, none⟩ = some (.int .i64 (fr cs j).1) ∧ w.cell? ⟨g, off + j * 2 + 1, none⟩ = some (.int .i64 (fr cs j).2)) := by
    intro j hj
    obtain ⟨b, o, e, k1, k2⟩ := h5 j hj
    cases e
    exact ⟨k1, k2⟩
  have hg : g < w.heap.size := World.block_lt_of_cell? w _ (H5.out 0 (by omega)).1
  clear h5 h3 h4 hq ho HV h2
  obtain ⟨L, hL⟩ : ∃ L, L = cs.length := ⟨_, rfl⟩
  have HL := hidP hL
  rw [← hL] at H5 HC HPF hc14 ⊢
  clear hL
  refine (callsIn_wide (n := 5)).1 ?_
  obtain ⟨x1, x2⟩ := x
  dsimp only at HO
  dsimp only
  refine callsIn_of_wp_marks Try.func17 rfl trivial ?_ rfl
  simp only [Try.ntmps17, List.size_toArray, List.length_cons, List.length_nil, Nat.reduceAdd, Nat.reduceSub, Array.replicate_succ, Array.replicate_zero, List.push_toArray, List.append_toArray, List.nil_append, List.cons_append]
  have B0 : Below w.heap.size w ((w.alloc (.cells #[.int .i64 x1, .int .i64 x2] 33)).alloc (.cells #[.int .i64 0, .int .i64 0] 33)) := ((Below.refl _ _).alloc (Nat.le_refl _) _).alloc (by simp) _
  have X0 : IsR ((w.alloc (.cells #[.int .i64 x1, .int .i64 x2] 33)).alloc (.cells #[.int .i64 0, .int .i64 0] 33)) w.heap.size x1 x2 := (IsR.new w x1 x2).below ((Below.refl _ _).alloc (Nat.le_refl _) _)
  have A0 : IsR ((w.alloc (.cells #[.int .i64 x1, .int .i64 x2] 33)).alloc (.cells #[.int .i64 0, .int .i64 0] 33)) (w.heap.size + 1) 0 0 := by
    have := IsR.new (w.alloc (.cells #[.int .i64 x1, .int .i64 x2] 33)) 0 0
    simpa using this
  gi_wp2_with (first | (refine ⟨trivial, ?_⟩; gi_at_call 36; refine (callsIn_wide.2 (HC.out _ B0)).mono ?_; rintro e w1 ⟨rfl, hb1⟩; have X1 := X0.below hb1; have A1 := A0.below hb1; have B1 := B0.trans (hb1.mono B0.size); have i0 := X1.c0; have i1 := X1.c1; clear hb1) | (refine ⟨trivial, ?_⟩; gi_at_call 31; refine (callsIn_wide.2 (HO.out _)).mono ?_; rintro e w2 ⟨rfl, hb2⟩; have X2 := X1.below hb2; have A2 := A1.below hb2; have B2 := B1.trans (hb2.mono B1.size); clear hb2) | (refine ⟨trivial, ?_⟩; gi_at_call 37; refine (backRv_in _ _ _ _ _).mono ?_; rintro e w' ⟨rfl, rfl⟩))
  clear X0 A0 B0 X1 A1 B1 i0 i1 HC HO
  obtain ⟨X, hX⟩ : ∃ X, X = w.heap.size := ⟨_, rfl⟩
  obtain ⟨A, hA⟩ : ∃ A, A = w.heap.size + 1 := ⟨_, rfl⟩
  obtain ⟨H, hH⟩ : ∃ H, H = w2.heap.size := ⟨_, rfl⟩
  have hs2 := B2.size
  have hlX := X2.lt
  have hlA := A2.lt
  have b0 : ∀ {W : World} (o : Obj), Below W.heap.size W (W.alloc o) := fun o => (Below.refl _ _).alloc (Nat.le_refl _) o
  obtain ⟨Wl, hWl⟩ : ∃ Wl, Wl = ((w2.alloc (.cells #[.int .i64 0, .int .i64 1] 33)).alloc (.cells #[.bool true] 4)).alloc (.cells #[.slice (some ⟨g, off, none⟩) L c] 36) := ⟨_, rfl⟩
  have r0 : IsR Wl H 0 1 := by rw [hWl, hH]; exact (((IsR.new w2 0 1).below (b0 _))).below (b0 _)
  have f0 : Boxed Wl (H + 1) 4 (.bool true) := by
    have := (Boxed.new (w2.alloc (.cells #[.int .i64 0, .int .i64 1] 33)) 4 (.bool true)).alloc (.cells #[.slice (some ⟨g, off, none⟩) L c] 36)
    rw [hWl, hH]; simpa using this
  have s0 : Boxed Wl (H + 1 + 1) 36 (.slice (some ⟨g, off, none⟩) L c) := by
    have := Boxed.new ((w2.alloc (.cells #[.int .i64 0, .int .i64 1] 33)).alloc (.cells #[.bool true] 4)) 36 (.slice (some ⟨g, off, none⟩) L c)
    rw [hWl, hH]; simpa using this
  have xl : IsR Wl X x1 x2 := by rw [hWl, hX]; exact ((X2.below (b0 _)).below (b0 _)).below (b0 _)
  have al : IsR Wl A 0 0 := by rw [hWl, hA]; exact ((A2.below (b0 _)).below (b0 _)).below (b0 _)
  have hsW : Wl.heap.size = H + 1 + 1 + 1 := by rw [hWl, hH]; simp
  have BL : Below w.heap.size w Wl := by
    rw [hWl]
    exact ((B2.alloc B2.size _).alloc (by simp; omega) _).alloc (by simp; omega) _
  have c0 : ∀ j, j < L → Wl.cell? ⟨g, off + j * 2, none⟩ = some (.int .i64 (fr cs j).1) ∧ Wl.cell? ⟨g, off + j * 2 + 1, none⟩ = some (.int .i64 (fr cs j).2) := fun j hj => ⟨(BL.cell (p := ⟨g, off + j * 2, none⟩) hg).trans (H5.out j hj).1, (BL.cell (p := ⟨g, off + j * 2 + 1, none⟩) hg).trans (H5.out j hj).2⟩
  have hgH : g < H := by omega
  have hXH : X < H := by omega
  have hAH : A < H := by omega
  have hXA : X ≠ A := by omega
  have hwX : w.heap.size ≤ X := by omega
  have hwA : w.heap.size ≤ A := by omega
  have i0 : CvS H X A (x1, x2) [] Wl := ⟨r0, f0, xl, al⟩
  rw [← hWl, ← hA, ← hX, ← hH]
  clear hWl r0 f0 xl al B2 X2 A2 hs2 hlX hlA hX hA hH
  refine wpIn_rangeFunc_ownH rfl (by omega) (gf := 60) (lb := #[.pointer (some ⟨H + 1 + 1, 0, none⟩)]) rfl trivial (enters_of Try.func60 (by kernel_rfl) rfl)
    (backR_seq 4 (H + 1 + 1) g off L c cs (by omega) (by omega) Wl s0.cell (by omega) c0) (fun h k => h.trans k)
    (fun W l o o' hl h _ _ => ⟨World.putObj_heap_other (by omega), World.putObj_heap_other (by omega)⟩) (Below.refl _ _) (fun _ => rfl)
    (fun pre W => CvS H X A (x1, x2) pre W ∧ Below w.heap.size w W ∧ Wl.heap.size ≤ W.heap.size)
    (fun _ _ _ => False)
    (OwnFrom.and (fun s Y Z row hs hgr hrow => CvS.own H X A (x1, x2) hs hgr (fun r e => (hrow r e).2)) (OwnFrom.and (ownFrom_below (Nat.le_refl _) (by omega)) (fun _ _ _ _ hs hgr _ => Nat.le_trans hs hgr.size)))
    (fun _ _ _ _ _ hs _ _ => hs)
    ⟨i0, BL, Nat.le_refl _⟩
    (fun y a' W => ∃ N, Wl.heap.size ≤ N ∧ IsR W N y.2.1 y.2.2 ∧ a' = { tmps := #[.slice (some ⟨g, off, none⟩) L c, .agg #[.int .i64 x1, .int .i64 x2], undef, .pointer (some ⟨X, 0, none⟩), .pointer (some ⟨A, 0, none⟩), .bool false, .pointer (some ⟨H, 0, none⟩), .pointer (some ⟨H + 1, 0, none⟩), undef, .pointer (some ⟨N, 0, none⟩), undef, undef, .slice (some ⟨g, off, none⟩) L c, .bool true, .bool false, .bool false, .agg #[.int .i64 x1, .int .i64 x2], .bool true, .bool false, .bool false, undef, .agg #[.int .i64 0, .int .i64 1], .slice (some ⟨g, off, none⟩) L c, .func (.func 60) #[] #[.pointer (some ⟨H + 1 + 1, 0, none⟩)], .int .i64 y.1, .agg #[.int .i64 y.2.1, .int .i64 y.2.2], undef, undef, undef, undef, undef, undef, undef, undef, undef, undef, undef, undef, undef, undef], defers := [] })
    (fun y a' _ W W' row hs hgr hrow => by obtain ⟨N, hN, hr, e⟩ := hs; exact ⟨N, hN, own_isR2 hr hgr (fun r e => (hrow r e).2), e⟩)
    ?assign ?body ?done ?stop
  case assign =>
    rintro l pre y W K ⟨hs, hB, hsz⟩ hK
    gi_wp2
    exact hK _ _ ((KeepsOthers.alloc _ _).from _) (KpB.below (b0 _) (by omega) (by omega)) ⟨CvS.own H X A (x1, x2) hs (grown_of_below (b0 _)) (fun r e => by cases e), hB.alloc hB.size _, by simp; omega⟩ ⟨W.heap.size, hsz, IsR.new _ _ _, rfl⟩
  case body =>
    rintro l pre y a' W hl ⟨r, hr⟩ ⟨⟨sH, sF, sX, sA⟩, hB, hsz⟩ ⟨N, hN, hy, rfl⟩ hlt
    have e := phF_app (x1, x2) pre y
    have E : Hid _ := e
    clear e i0 s0 c0 BL
    obtain ⟨y0, y1, y2⟩ := y
    dsimp only at hy E
    generalize phF (x1, x2) pre = q at *
    obtain ⟨⟨q1, q2⟩, qo⟩ := q
    dsimp only at sH sF
    have HM := hidP (fun W => mulC q1 q2 x1 x2 W)
    obtain ⟨p, hp⟩ : ∃ p, p = mulP (q1, q2) (x1, x2) := ⟨_, rfl⟩
    obtain ⟨po, hpo⟩ : ∃ p, p = mulK (q1, q2) (x1, x2) := ⟨_, rfl⟩
    have E2 : Hid (phF (x1, x2) (pre ++ [(y0, y1, y2)]) = (addP p (y1, y2), addK p (y1, y2))) := by show _ = _; rw [E.out, hp]
    rw [← hp, ← hpo] at HM
    clear hp hpo E
    obtain ⟨p1, p2⟩ := p
    have HA := hidP (fun W => addC p1 p2 y1 y2 W)
    obtain ⟨t, ht⟩ : ∃ p, p = addP (p1, p2) (y1, y2) := ⟨_, rfl⟩
    obtain ⟨tk, htk⟩ : ∃ p, p = addK (p1, p2) (y1, y2) := ⟨_, rfl⟩
    rw [← ht, ← htk] at HA E2
    clear ht htk
    obtain ⟨t1, t2⟩ := t
    dsimp only at HM HA
    have k0 := sH.c0
    have k1 := sH.c1
    have k2 := sX.c0
    have k3 := sX.c1
    have hHl := sH.lt
    have hFl := sF.lt
    have hNl := hy.lt
    gi_wp2_with (first | (refine ⟨trivial, ?_⟩; gi_at_call 38; refine (CallsIn.inRound l (callsIn_wide.2 (HM.out _))).mono ?_; rintro e w3 ⟨rfl, hb3⟩; have v0 := ((hy.below hb3).below (b0 (.cells #[.int .i64 p1, .int .i64 p2] 33))).c0; have v1 := ((hy.below hb3).below (b0 (.cells #[.int .i64 p1, .int .i64 p2] 33))).c1) | (refine ⟨trivial, ?_⟩; gi_at_call 39; refine (CallsIn.inRound l (callsIn_wide.2 (HA.out _))).mono ?_; rintro e w4 ⟨rfl, hb4⟩; have hb5 : Below W.heap.size W w4 := (hb3.trans (b0 (.cells #[.int .i64 p1, .int .i64 p2] 33) |>.mono hb3.size)).trans (hb4.mono (by have := hb3.size; simp; omega)); have uH := sH.below hb5; have uF : Boxed w4 (H + 1) 4 (.bool qo) := (hb5.block (H + 1) hFl).trans sF; have f0 := uH.f0; have f1 := uH.f1; have f2 := uH.c0; have f3 := uH.c1; have f4 := uF.cell; have f5 := uF.frozen))
    clear hb3 hb4 v0 v1
    refine ⟨((((KeepsOthers.of_grownBy (grown_of_below hb5) (fun j o e _ => by cases e)).trans (KeepsOthers.setCell _ _ _)).trans (KeepsOthers.setCell _ _ _)).trans (KeepsOthers.setCell _ _ _)).from _,
      (((KpB.below hb5 (by omega) (by omega)).trans (KpB.set (by omega) (by omega))).trans (KpB.set (by omega) (by omega))).trans (KpB.set (by omega) (by omega)), ⟨?_, ?_, ?_, ?_⟩, ?_, ?_⟩
    · show IsR _ _ _ _
      rw [E2.out]
      exact ((uH.set0 _).set1 _).other (by omega) 0 _
    · show Boxed _ _ _ _
      rw [E2.out]
      exact (boxed_oth (boxed_oth uF (by omega) 0 _) (by omega) 1 _).set _
    · exact (((sX.below hb5).other (by omega) 0 _).other (by omega) 1 _).other (by omega) 0 _
    · exact (((sA.below hb5).other (by omega) 0 _).other (by omega) 1 _).other (by omega) 0 _
    · exact (((hB.trans (hb5.mono hB.size)).setCell (p := ⟨H, 0, none⟩) (by show _ ≤ H; omega) _).setCell (p := ⟨H, 1, none⟩) (by show _ ≤ H; omega) _).setCell (p := ⟨H + 1, 0, none⟩) (by show _ ≤ H + 1; omega) _
    · have := hb5.size
      simp; omega
  case done =>
    rintro D ys W hD rfl ⟨⟨sH, sF, sX, sA⟩, hB, hsz⟩ hK
    rw [HPF.out] at sH sF
    clear i0 s0 c0 BL sX
    obtain ⟨q, hq⟩ : ∃ q, q = crvA cs (x1, x2) := ⟨_, rfl⟩
    obtain ⟨qo, hqo⟩ : ∃ q, q = crvO cs (x1, x2) := ⟨_, rfl⟩
    rw [← hq] at sH
    rw [← hqo] at sF
    obtain ⟨qn, qd⟩ := q
    dsimp only at sH sF
    have HQ : Hid (Ending.returned (.tuple #[.agg #[.int .i64 qn, .int .i64 qd], .bool qo]) = .returned (.tuple #[.agg #[.int .i64 (crvA cs (x1, x2)).1, .int .i64 (crvA cs (x1, x2)).2], .bool (crvO cs (x1, x2))])) := by show _ = _; rw [← hq, ← hqo]
    clear hq hqo
    have q0 := sH.c0
    have q1 := sH.c1
    have q2 := sF.cell
    have q3 := sA.f0
    have q4 := sA.f1
    have q5 := sA.c0
    have q6 := sA.c1
    gi_wp2
    have hmix : Try.prog.follows Departure.mixedOrders = true := by kernel_rfl
    have hlate : Try.prog.follows Departure.lateStores = true := by kernel_rfl
    gi_region_o
    all_goals gi_wp2
    have hK2 : (((W.setCell ⟨A, 0, none⟩ (.int .i64 qn)).setCell ⟨A, 1, none⟩ (.int .i64 qd)).drew).heap[D]? = some (.deferred (some [])) := ((KeepsOthers.setCell W ⟨A, 0, none⟩ (.int .i64 qn)).trans (KeepsOthers.setCell _ ⟨A, 1, none⟩ (.int .i64 qd))).same D _ hK rfl
    have a2 : IsR (((W.setCell ⟨A, 0, none⟩ (.int .i64 qn)).setCell ⟨A, 1, none⟩ (.int .i64 qd)).drew) A qn qd := (sA.set0 qn).set1 qd
    have B2 : Below w.heap.size w (((W.setCell ⟨A, 0, none⟩ (.int .i64 qn)).setCell ⟨A, 1, none⟩ (.int .i64 qd)).drew) := ((hB.setCell (p := ⟨A, 0, none⟩) hwA _).setCell (p := ⟨A, 1, none⟩) hwA _).drew
    obtain ⟨W2, hW2⟩ : ∃ W2, W2 = (((W.setCell ⟨A, 0, none⟩ (.int .i64 qn)).setCell ⟨A, 1, none⟩ (.int .i64 qd)).drew) := ⟨_, rfl⟩
    rw [← hW2] at hK2 a2 B2 ⊢
    have a3 : IsR (W2.putObj D (.deferred none)) A qn qd := (World.putObj_heap_other (by omega)).trans a2
    have e0 := a3.c0
    have e1 := a3.c1
    refine ⟨by simp, .inl ⟨_, _, rfl, run_takeDeferred hK2, ?_⟩⟩
    exact ⟨.tuple #[.agg #[.int .i64 qn, .int .i64 qd], .bool qo], by simp [results, Try.results17, go_sem, e0, e1], HQ.out, B2.trans (belowK_b (w := w) (Nat.le_refl _) W2 D _ _ (by omega) hK2 rfl rfl)⟩
  case stop =>
    rintro D c pre W _ _ h _
    exact h.elim
end Go.Proofs.Ytibncepllmjhhaa
