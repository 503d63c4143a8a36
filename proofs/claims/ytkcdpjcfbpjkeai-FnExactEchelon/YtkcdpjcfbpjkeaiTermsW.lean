/- The walks of Terms, the program's (over its iterator) and the model's: both answer the list of the terms, in new memory. -/
import Derived.Test.YtkcdpjcfbpjkeaiFloorW
import Derived.Test.YtkcdpjcfbpjkeaiNearMath
import Derived.Test.YtkcdpjcfbpjkeaiIterLaw
import Derived.RangeFuncBound
import Derived.RangeFuncCalls
import Derived.RangeFuncLeaves
import Derived.Shelf.Abstract
import Derived.Shelf.RegionOpen
import Derived.OwnWalkIn
import Derived.TacticsInMore
import Derived.LoopNIn
import Derived.LoopIn
import Derived.Maps.AppendAt
namespace Go.Proofs.Ytkcdpjcfbpjkeai
open Go.RowKit Go.Shelf Go.Proofs.Ytkcdpjcfbpjkeai.RM
attribute [local go_sem] Oper.semAt_some

/-- block R is a fraction's own: two cells of its type -/
def IsR (W : World) (R : Nat) (n d : Int) : Prop := W.heap[R]? = some (.cells #[.int .i64 n, .int .i64 d] 24 (0, 0))
theorem IsR.new (W : World) (n d : Int) : IsR (W.alloc (.cells #[.int .i64 n, .int .i64 d] 24)) W.heap.size n d := World.alloc_heap_new W _
theorem IsR.lt {W : World} {R : Nat} {n d : Int} (h : IsR W R n d) : R < W.heap.size := (Array.getElem?_eq_some_iff.1 h).1
theorem IsR.c0 {W : World} {R : Nat} {n d : Int} (h : IsR W R n d) : W.cell? ⟨R, 0, none⟩ = some (.int .i64 n) := by simp [World.cell?, show W.heap[R]? = _ from h]
theorem IsR.c1 {W : World} {R : Nat} {n d : Int} (h : IsR W R n d) : W.cell? ⟨R, 1, none⟩ = some (.int .i64 d) := by simp [World.cell?, show W.heap[R]? = _ from h]
theorem IsR.f0 {W : World} {R : Nat} {n d : Int} (h : IsR W R n d) : W.frozen? ⟨R, 0, none⟩ = false := by simp [World.frozen?, show W.heap[R]? = _ from h]
theorem IsR.f1 {W : World} {R : Nat} {n d : Int} (h : IsR W R n d) : W.frozen? ⟨R, 1, none⟩ = false := by simp [World.frozen?, show W.heap[R]? = _ from h]
theorem IsR.below {W W' : World} {R : Nat} {n d : Int} (h : IsR W R n d) (hb : Below W.heap.size W W') : IsR W' R n d := (hb.block R h.lt).trans h
theorem grown_of_below {W W' : World} (h : Below W.heap.size W W') : W.grownBy W' none := ⟨h.os, h.tape, h.output, h.size, fun k hk _ => h.block k hk⟩

theorem IsR.set0 {W : World} {R : Nat} {n d : Int} (h : IsR W R n d) (x : Int) : IsR (W.setCell ⟨R, 0, none⟩ (.int .i64 x)) R x d := by
  obtain ⟨hlt, hk⟩ := Array.getElem?_eq_some_iff.1 h
  show (W.heap.modify R _)[R]? = _
  rw [Array.getElem?_eq_getElem (by rw [Array.size_modify]; exact hlt), Array.getElem_modify_self, hk]
  rfl
theorem IsR.set1 {W : World} {R : Nat} {n d : Int} (h : IsR W R n d) (x : Int) : IsR (W.setCell ⟨R, 1, none⟩ (.int .i64 x)) R n x := by
  obtain ⟨hlt, hk⟩ := Array.getElem?_eq_some_iff.1 h
  show (W.heap.modify R _)[R]? = _
  rw [Array.getElem?_eq_getElem (by rw [Array.size_modify]; exact hlt), Array.getElem_modify_self, hk]
  rfl
theorem grown_set (W : World) (b o : Nat) (v : Value) : W.grownBy (W.setCell ⟨b, o, none⟩ v) (some b) :=
  ⟨rfl, rfl, rfl, (KeepsWalks.setCell W _ v).size, fun k _ hk => Below.heap_setCell _ _ _ k (fun e => hk (by rw [e]))⟩
/-- what bears a turn of a fraction's own block bears a store of both its parts -/
theorem AbT.two {β : Type} {B : Nat} {J : β → World → Prop} (h : AbT 24 B J) {s : β} {W : World} {R : Nat} {n d : Int} (hs : J s W) (hr : IsR W R n d) (hB : B ≤ R) (x y : Int) :
    J s ((W.setCell ⟨R, 0, none⟩ (.int .i64 x)).setCell ⟨R, 1, none⟩ (.int .i64 y)) :=
  h s _ _ (some R) (h s W _ (some R) hs (grown_set W R 0 _) (fun r e => by cases e; exact ⟨hB, _, _, hr⟩)) (grown_set _ R 1 _) (fun r e => by cases e; exact ⟨hB, _, _, hr.set0 x⟩)
theorem AbT.new {β : Type} {B : Nat} {J : β → World → Prop} (h : AbT 24 B J) {s : β} {W : World} (hs : J s W) (o : Obj) : J s (W.alloc o) := h.grown hs (World.grownBy_alloc W o none)
/-- the second number of the fraction that a pointer leads to: for the loop's measure -/
def denAt (p : Value) (w : World) : Nat :=
  match p with
  | .pointer (some a) => (match w.cell? ⟨a.block, 1, none⟩ with | some v => (intOf v).toNat | none => 0)
  | _ => 0
theorem denAt_eq {w : World} {R : Nat} {n d : Int} (h : IsR w R n d) : denAt (.pointer (some ⟨R, 0, none⟩)) w = d.toNat := by
  unfold denAt; simp only [h.c1]; rfl

set_option maxRecDepth 100000 in
set_option maxHeartbeats 2000000 in
/-- the iterator's loop: whatever the body keeps, all the terms come, in their order, or a beginning of them -/
theorem terms1_in (n l R0 : Nat) (a b : Int) (hn : 1 ≤ n) (J Jx : List Int → World → Prop) (W : World) (hW : IsR W R0 a b)
    (hJ : AbT 24 W.heap.size J)
    (hY : ∀ pre x W1, J pre W1 → pre ++ [x] <+: termsL a b → YieldAt Fence.wide (n - 1) Try.prog l #[.int .i64 x] W1 fun e W' =>
      (e = .returned (.bool true) ∧ J (pre ++ [x]) W' ∧ KpT 24 W.heap.size W1 W') ∨ (e = .returned (.bool false) ∧ Jx (pre ++ [x]) W'))
    (h0 : J [] W) :
    CallsIn Fence.wide n Try.prog 61 #[.func (.yield l) #[] #[], .pointer (some ⟨R0, 0, none⟩)] W fun e W' => (∃ v, e = .returned v) ∧
      ((∃ ys, ys = termsL a b ∧ J ys W') ∨ (∃ pre, pre <+: termsL a b ∧ Jx pre W')) := by
  have hc0 := hW.c0
  have hc1 := hW.c1
  have HW : Hid (IsR W R0 a b) := hW
  have HJ : Hid (AbT 24 W.heap.size J) := hJ
  clear hW hJ
  refine callsIn_of_wp Try.func61 rfl trivial ?_ rfl
  simp only [Try.ntmps61, List.size_toArray, List.length_cons, List.length_nil, Nat.reduceAdd, Nat.reduceSub, Array.replicate_succ, Array.replicate_zero, List.push_toArray, List.append_toArray, List.nil_append, List.cons_append]
  by_cases hok : okB a b = true
  · gi_wp2_with (refine ⟨trivial, ?_⟩; gi_at_call 32; refine (callsIn_wide.2 (right_any a b _)).mono ?_; rintro e W1 ⟨rfl, hb1⟩; rw [hok]; have k0 := (hb1.cell (p := ⟨R0, 0, none⟩) HW.out.lt).trans hc0; have k1 := (hb1.cell (p := ⟨R0, 1, none⟩) HW.out.lt).trans hc1)
    have j1 : J [] (W1.alloc (.cells #[.int .i64 a, .int .i64 b] 24)) := HJ.out.new (HJ.out.grown h0 (grown_of_below hb1)) _
    have hsz := hb1.size
    clear h0 k0 k1 hc0 hc1
    gi_loopw [3] (fun p wr => ∃ (pre : List Int) (n d : Int) (R : Nat), p = .pointer (some ⟨R, 0, none⟩) ∧ Hid (IsR wr R n d) ∧ W.heap.size ≤ R ∧ Hid (J pre wr) ∧ ((d = 0 ∧ pre = termsL a b) ∨ (okB n d = true ∧ termsL a b = pre ++ cf n d))) (fun p wr => denAt p wr)
    case atStart => exact ⟨[], a, b, W1.heap.size, rfl, IsR.new _ _ _, hsz, j1, .inr ⟨hok, termsL_yes hok⟩⟩
    case round =>
      obtain ⟨pre, m, d, R, rfl, hR, hle, hj, hd⟩ := hrel
      have q0 := hR.out.c0
      have q1 := hR.out.c1
      have f0 := hR.out.f0
      have f1 := hR.out.f1
      rcases hd with ⟨rfl, hp⟩ | ⟨hk, hp⟩
      · gi_wp2
        go_end0
        exact ⟨⟨_, rfl⟩, .inl ⟨pre, hp, hj.out⟩⟩
      · obtain ⟨b1, b2, b3, b4, _⟩ := okB_out hk
        have hz : (d != 0) = true := by simp; omega
        obtain ⟨v1, v2⟩ := whole_bd hk
        obtain ⟨u1, u2⟩ := wmul_bd hk
        have el := left_eq m d
        have HE : Hid (m - m / d * d = m % d) := el
        clear el
        have HL : Hid (pre ++ [m / d] <+: termsL a b) := by
          show _ <+: _
          rw [hp, cf_eq m d b1]
          exact ⟨_, by rw [List.append_assoc]; rfl⟩
        have HP : Hid (termsL a b = pre ++ cf m d) := hp
        clear hp
        have LT := hR.out.lt
        gi_wp2_with (refine ⟨trivial, ?_⟩; gi_at_call 62; refine (callsIn_wide.2 (iFloor_any m d _)).mono ?_; rintro e W2 ⟨rfl, hb2⟩; rw [flo_ok hk]; have r2 := hR.out.below hb2; replace q0 := r2.c0; replace q1 := r2.c1; obtain ⟨fn, tmps, assign, body, hy, hRR⟩ := hY pre (m / d) W2 (HJ.out.grown hj.out (grown_of_below hb2)) HL.out)
        refine hRR.mono ?_
        rintro e W3 (⟨rfl, hJ3, hk3⟩ | ⟨rfl, hJx3⟩)
        · have r3 : IsR W3 R m d := hk3 R _ _ hle r2
          have p0 := r3.c0
          have p1 := r3.c1
          have g0 := r3.f0
          have g1 := r3.f1
          clear hy hRR q0 q1 f0 f1
          gi_wp2
          go_roundw
          case rel =>
            rw [HE.out]
            refine ⟨pre ++ [m / d], d, m % d, W3.heap.size, rfl, ?_, ?_, HJ.out.new (HJ.out.two hJ3 r3 hle _ _) _, ?_⟩
            · show IsR _ _ _ _
              simpa using IsR.new ((W3.setCell ⟨R, 0, none⟩ (.int .i64 d)).setCell ⟨R, 1, none⟩ (.int .i64 (m % d))) d (m % d)
            · have := r3.lt; omega
            · by_cases hz0 : m % d = 0
              · exact .inl ⟨hz0, by rw [HP.out, cf_last m d b1 hz0]⟩
              · exact .inr ⟨ok_left hk hz0, by rw [HP.out, cf_more m d b1 hz0]; simp⟩
          case measure =>
            have h1 : IsR (((W3.setCell ⟨R, 0, none⟩ (.int .i64 d)).setCell ⟨R, 1, none⟩ (.int .i64 (m - m / d * d))).alloc (.cells #[.int .i64 d, .int .i64 (m - m / d * d)] 24)) W3.heap.size d (m - m / d * d) := by
              simpa using IsR.new ((W3.setCell ⟨R, 0, none⟩ (.int .i64 d)).setCell ⟨R, 1, none⟩ (.int .i64 (m - m / d * d))) d (m - m / d * d)
            have h2 := denAt_eq hR.out
            have h3 := denAt_eq h1
            have h4 := Int.emod_lt_of_pos m (show 0 < d by omega)
            have h5 := HE.out
            have h6 : denAt (.pointer (some ⟨W3.heap.size, 0, none⟩)) (((W3.setCell ⟨R, 0, none⟩ (.int .i64 d)).setCell ⟨R, 1, none⟩ (.int .i64 (m - m / d * d))).alloc (.cells #[.int .i64 d, .int .i64 (m - m / d * d)] 24)) < denAt (.pointer (some ⟨R, 0, none⟩)) wr := by rw [h2, h3]; omega
            exact h6
        · gi_wp2
          refine bodyPost_ret (results_none rfl _ _ _) rfl ?_
          exact ⟨⟨_, rfl⟩, .inr ⟨pre ++ [m / d], HL.out, hJx3⟩⟩
  · rw [Bool.not_eq_true] at hok
    gi_wp2_with (refine ⟨trivial, ?_⟩; gi_at_call 32; refine (callsIn_wide.2 (right_any a b _)).mono ?_; rintro e W1 ⟨rfl, hb1⟩; rw [hok])
    refine bodyPost_ret (results_none rfl _ _ _) rfl ?_
    exact ⟨⟨_, rfl⟩, .inl ⟨[], (termsL_no hok).symm, HJ.out.grown h0 (grown_of_below hb1)⟩⟩

theorem terms_in (n : Nat) (a b : Int) (w : World) :
    CallsIn Fence.wide n Try.prog 33 #[.agg #[.int .i64 a, .int .i64 b]] w fun e w' => e = .returned (.func (.func 61) #[] #[.pointer (some ⟨w.heap.size, 0, none⟩)]) ∧ w' = w.alloc (.cells #[.int .i64 a, .int .i64 b] 24) := by
  refine callsIn_of_wp Try.func33 rfl trivial ?_ rfl
  simp only [Try.ntmps33, List.size_toArray, List.length_cons, List.length_nil, Nat.reduceAdd, Nat.reduceSub, Array.replicate_succ, Array.replicate_zero, List.push_toArray, List.append_toArray, List.nil_append, List.cons_append]
  gi_wp2
  go_ret
  exact ⟨rfl, rfl⟩

theorem terms_seq (n R0 : Nat) (a b : Int) (hn : 1 ≤ n) (w : World) (h : IsR w R0 a b) :
    SeqT 24 Fence.wide n Try.prog 61 #[.pointer (some ⟨R0, 0, none⟩)] (fun x : Int => #[Value.int .i64 x]) (fun ys => ys = termsL a b) (fun pre => pre <+: termsL a b) (fun pre x => pre ++ [x] <+: termsL a b) w :=
  fun l J Jx W hW hJ _ hY h0 => terms1_in n l R0 a b hn J Jx W (h.below hW) hJ hY h0

theorem infoI : (Try.prog.info? 2).map (fun i => (i.zero, i.size, i.bytes)) = some (some (.int .i64 0), 1, 8) := by kernel_rfl

theorem below_abT {β : Type} (T : Nat) (w : World) (D : Nat) (h : w.heap.size ≤ D) : AbT T D (fun (_ : β) W => Below w.heap.size w W) :=
  fun _ _ _ _ hs hg hr => hs.grown hg hs.size (fun k e => by have := (hr k e).1; omega)
theorem holdsRow_abT {β : Type} (n₀ B t e size : Nat) (k : β → Nat) (f : β → List Value) (G : β → Value → Prop) (T D : Nat) (hBD : B < D) (hTe : e ≠ T) :
    AbT T D (fun s W => ∃ v, Boxed W B t v ∧ W.ownsRow n₀ e size v (k s) (f s) ∧ G s v) := by
  rintro s X Y row ⟨v, hv, hr, hG⟩ hg hrow
  refine ⟨v, hv.kept hg (fun e' => by have := (hrow B e'.symm).1; omega), hr.kept hg ?_, hG⟩
  rcases hr.2 with ⟨rfl, _⟩ | ⟨g, cap, cur, rfl, _, hgb, _⟩
  · exact .inl rfl
  · refine .inr fun e' => ?_
    obtain ⟨_, cs, fz, hc⟩ := hrow g (by simpa [Value.ownBlock] using e'.symm)
    rw [hgb] at hc; injection hc with hc; injection hc with _ hc _
    exact hTe hc
/-- an append to a row of another type, and the store of the slice, leave the blocks of type T alone -/
theorem KpT.appended {T D n₀ B e size k : Nat} {W w1 : World} {v v' : Value} {xs : List Value} {tmp : Obj} (hrow : W.ownsRow n₀ e size v k xs) (hTe : e ≠ T) (hgrow : (W.alloc tmp).grownBy w1 v.ownBlock) (hB : B < D) :
    KpT T D W (w1.setCell ⟨B, 0, none⟩ v') := by
  refine ((KpT.grown (World.grownBy_alloc W tmp none) (fun r e => by cases e)).trans (KpT.grown hgrow (fun r er => .inr fun cs fz hc => ?_))).trans (KpT.grown (grown_set w1 B 0 v') (fun r e => by cases e; exact .inl hB))
  rcases (hrow.alloc tmp).2 with ⟨rfl, _⟩ | ⟨g, cap, cur, rfl, _, hgb, _⟩
  · simp [Value.ownBlock] at er
  · obtain rfl : g = r := by simpa [Value.ownBlock] using er
    rw [hgb] at hc; injection hc with hc; injection hc with _ hc _
    exact hTe hc

theorem own_below {w w' : World} {base : Nat} {e : TypeId} {size : Nat} {v : Value} {n : Nat} {xs : List Value} (h : w.ownsRow base e size v n xs) (hb : Below w.heap.size w w') : w'.ownsRow base e size v n xs :=
  h.kept (grown_of_below hb) (by by_cases k : v.ownBlock = none; exact .inl k; exact .inr k)
theorem own_le {w : World} {base base' : Nat} {e : TypeId} {size : Nat} {v : Value} {n : Nat} {xs : List Value} (h : w.ownsRow base e size v n xs) (hb : base' ≤ base) : w.ownsRow base' e size v n xs :=
  ⟨h.1, h.2.imp id fun ⟨g, cap, cur, hv, h1, r⟩ => ⟨g, cap, cur, hv, Nat.le_trans hb h1, r⟩⟩
theorem IsR.appended {W w1 : World} {R n₀ e size k : Nat} {n d : Int} {v : Value} {xs : List Value} {tmp : Obj} (h : IsR W R n d) (hrow : W.ownsRow n₀ e size v k xs) (hTe : e ≠ 24) (hgrow : (W.alloc tmp).grownBy w1 v.ownBlock) : IsR w1 R n d := by
  refine (KpT.grown (T := 24) (B := 0) hgrow (fun r er => .inr fun cs fz hc => ?_)) R _ _ (Nat.zero_le _) (KpT.grown (T := 24) (B := 0) (World.grownBy_alloc W tmp none) (fun r e => by cases e) R _ _ (Nat.zero_le _) h)
  rcases (hrow.alloc tmp).2 with ⟨rfl, _⟩ | ⟨g, cap, cur, rfl, _, hgb, _⟩
  · simp [Value.ownBlock] at er
  · obtain rfl : g = r := by simpa [Value.ownBlock] using er
    rw [hgb] at hc; injection hc with hc; injection hc with _ hc _
    exact hTe hc
theorem below_appended {W w1 : World} {n₀ e size k : Nat} {v : Value} {xs : List Value} {tmp : Obj} (hrow : W.ownsRow n₀ e size v k xs) (hn : n₀ ≤ W.heap.size) (hgrow : (W.alloc tmp).grownBy w1 v.ownBlock) : Below n₀ W w1 :=
  ((Below.refl n₀ W).alloc hn tmp).grown hgrow (by simp; omega) (fun j ej => (hrow.lt j ej).1)
theorem own_set {W : World} {R n₀ e size k : Nat} {n d : Int} {v : Value} {xs : List Value} (hrow : W.ownsRow n₀ e size v k xs) (h : IsR W R n d) (hTe : e ≠ 24) (o : Nat) (u : Value) : (W.setCell ⟨R, o, none⟩ u).ownsRow n₀ e size v k xs := by
  refine hrow.kept (grown_set W R o u) ?_
  rcases hrow.2 with ⟨rfl, _⟩ | ⟨g, cap, cur, rfl, _, hgb, _⟩
  · exact .inl rfl
  · refine .inr fun er => ?_
    obtain rfl : g = R := by simpa [Value.ownBlock] using er
    have h' : W.heap[g]? = _ := h
    rw [hgb] at h'; injection h' with hc; injection hc with _ hc _
    exact hTe hc

set_option maxRecDepth 100000 in
set_option maxHeartbeats 2000000 in
theorem s2Terms_any (a b : Int) (w : World) (hok : okB a b = true) :
    Calls Try.prog 30 #[.agg #[.int .i64 a, .int .i64 b]] w fun e w' => ∃ v, e = .returned v ∧ w'.ownsRow w.heap.size 2 1 v (cf a b).length ((cf a b).map (Value.int .i64)) ∧ Below w.heap.size w w' := by
  obtain ⟨i0, hi, hz0', hz1, hz2⟩ := info_parts infoI
  refine (callsIn_wide (n := 5)).1 ?_
  refine callsIn_of_wp Try.func30 rfl trivial ?_ rfl
  simp only [Try.ntmps30, List.size_toArray, List.length_cons, List.length_nil, Nat.reduceAdd, Nat.reduceSub, Array.replicate_succ, Array.replicate_zero, List.push_toArray, List.append_toArray, List.nil_append, List.cons_append]
  gi_wp2
  have hR0 := IsR.new w a b
  have hO : ((w.alloc (.cells #[.int .i64 a, .int .i64 b] 24)).alloc (.cells #[] 2)).ownsRow w.heap.size 2 1 (.slice (some ⟨w.heap.size + 1, 0, none⟩) 0 0) 0 [] := by
    have := World.ownsRow_lit (w.alloc (.cells #[.int .i64 a, .int .i64 b] 24)) (base := w.heap.size) (e := 2) (size := 1) #[] 0 (by simp) (Nat.zero_le _) rfl
    simpa using this
  have hB0 : Below w.heap.size w ((w.alloc (.cells #[.int .i64 a, .int .i64 b] 24)).alloc (.cells #[] 2)) := ((Below.refl _ w).alloc (Nat.le_refl _) _).alloc (by simp) _
  gi_loopw [3] (fun v wr => ∃ (pre : List Int) (n d : Int), Hid (IsR wr w.heap.size n d) ∧ Hid (wr.ownsRow w.heap.size 2 1 v pre.length (pre.map (Value.int .i64))) ∧ Hid (Below w.heap.size w wr) ∧ okB n d = true ∧ Hid (cf a b = pre ++ cf n d)) (fun _ wr => denAt (.pointer (some ⟨w.heap.size, 0, none⟩)) wr)
  case atStart => exact ⟨[], a, b, hR0.below ((Below.refl _ _).alloc (Nat.le_refl _) _), hO, hB0, hok, rfl⟩
  case round =>
    obtain ⟨pre, m, d, hR, hrow, hB, hk, hp⟩ := hrel
    obtain ⟨b1, b2, b3, b4, _⟩ := okB_out hk
    obtain ⟨v1, v2⟩ := whole_bd hk
    obtain ⟨u1', u2'⟩ := wmul_bd hk
    have HE : Hid (m - m / d * d = m % d) := left_eq m d
    have hm0 : pre.length + 1 ≤ 1000000000 := by
      have h1 := congrArg List.length hp.out
      have h2 := cf_len_le a b (okB_out hok).2.1
      have h3 : 0 < (cf m d).length := by rw [cf_eq m d b1]; simp
      simp at h1; omega
    have hm1 : pre.length + 1 ≤ maxLen := by unfold maxLen; omega
    have q0 := hR.out.c0
    have q1 := hR.out.c1
    have hsz := hB.out.size
    clear hR0 hO hB0
    by_cases hz0 : m % d = 0
    · have ht : (m - m / d * d == 0) = true := by rw [left_eq]; simpa using hz0
      gi_wp2_with (first | (refine ⟨trivial, ?_⟩; gi_at_call 37; refine (callsIn_wide.2 (sFloor_any m d _)).mono ?_; rintro e W2 ⟨rfl, hb2⟩; rw [flo_ok hk]; have hrow2 := own_below hrow.out hb2; have r2 := hR.out.below hb2; have hs2 := hb2.size) | (gi_at_builtin; refine wpListIn_append_own _ rfl _ _ 47 rfl w.heap.size 2 i0 (.int .i64 0) 1 8 Try.underlying47 hi hz0' hz1 hz2 rfl (by decide) _ _ _ rfl (hrow2.alloc _) ⟨W2.heap.size, 0, none⟩ 1 1 [.int .i64 (m / d)] rfl rfl (cell_one_new _ _ _) (by simp [Value.oneCell']) (by omega) (by omega) (by simp; omega) ?_; intro v' w1 hown' hgrow _; obtain ⟨g', cap', rfl⟩ := ownsRow_succ hown'; have r3 := r2.appended hrow2 (by decide) hgrow; have hb3 := below_appended hrow2 (by omega) hgrow; have k0 := r3.c0; have k1 := r3.c1))
      refine bodyPost_ret (results_tmp rfl _ _ _) rfl ⟨_, rfl, ?_, hB.out.trans ((hb2.mono (by omega)).trans hb3)⟩
      rw [hp.out, cf_last m d b1 hz0]
      simpa using hown'
    · have ht : (m - m / d * d == 0) = false := by rw [left_eq]; simpa using hz0
      gi_wp2_with (first | (refine ⟨trivial, ?_⟩; gi_at_call 37; refine (callsIn_wide.2 (sFloor_any m d _)).mono ?_; rintro e W2 ⟨rfl, hb2⟩; rw [flo_ok hk]; have hrow2 := own_below hrow.out hb2; have r2 := hR.out.below hb2; have hs2 := hb2.size) | (gi_at_builtin; refine wpListIn_append_own _ rfl _ _ 47 rfl w.heap.size 2 i0 (.int .i64 0) 1 8 Try.underlying47 hi hz0' hz1 hz2 rfl (by decide) _ _ _ rfl (hrow2.alloc _) ⟨W2.heap.size, 0, none⟩ 1 1 [.int .i64 (m / d)] rfl rfl (cell_one_new _ _ _) (by simp [Value.oneCell']) (by omega) (by omega) (by simp; omega) ?_; intro v' w1 hown' hgrow _; obtain ⟨g', cap', rfl⟩ := ownsRow_succ hown'; have r3 := r2.appended hrow2 (by decide) hgrow; have hb3 := below_appended hrow2 (by omega) hgrow; have k0 := r3.c0; have k1 := r3.c1; have g0 := r3.f0; have g1 := r3.f1))
      have hs3 := hb3.size
      go_roundw
      case rel =>
        rw [HE.out]
        refine ⟨pre ++ [m / d], d, m % d, (r3.set0 d).set1 (m % d), ?_, ?_, ok_left hk hz0, ?_⟩
        · show World.ownsRow _ _ _ _ _ _ _
          have := own_set (own_set hown' r3 (by decide) 0 (.int .i64 d)) (r3.set0 d) (by decide) 1 (.int .i64 (m % d))
          simpa using this
        · exact ((hB.out.trans ((hb2.mono (by omega)).trans hb3)).setCell (p := ⟨w.heap.size, 0, none⟩) (Nat.le_refl _) _).setCell (p := ⟨w.heap.size, 1, none⟩) (Nat.le_refl _) _
        · show _ = _
          rw [hp.out, cf_more m d b1 hz0]; simp
      case measure =>
        have h2 := denAt_eq hR.out
        have h3 := denAt_eq ((r3.set0 d).set1 (m - m / d * d))
        have h4 := Int.emod_lt_of_pos m (show 0 < d by omega)
        have h5 := HE.out
        rw [h2, h3]
        omega

end Go.Proofs.Ytkcdpjcfbpjkeai
