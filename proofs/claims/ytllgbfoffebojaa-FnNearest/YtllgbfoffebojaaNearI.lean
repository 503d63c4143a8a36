/- The walk of the program's Nearest: over its iterator, and out of it. -/
import Derived.Test.YtllgbfoffebojaaNearW3
import Derived.Test.YtllgbfoffebojaaLiftRound
namespace Go.Proofs.Ytllgbfoffebojaa
open Go.RowKit Go.Shelf Go.Proofs.Ytllgbfoffebojaa.RM
attribute [local go_sem] Oper.semAt_some

theorem isR_own {X Y : World} {row : Option Nat} {R : Nat} {n d : Int} (h : IsR X R n d) (hg : X.grownBy Y row) (hr : ∀ r, row = some r → ∃ o : Obj, X.heap[r]? = some o ∧ o.isCells = false) : IsR Y R n d :=
  (hg.block R h.lt (fun e => by obtain ⟨o, ho, hc⟩ := hr _ e.symm; rw [show X.heap[R]? = _ from h] at ho; cases ho; cases hc)).trans h
theorem isR_abT {X Y : World} {row : Option Nat} {R B : Nat} {n d : Int} (h : IsR X R n d) (hR : R < B) (hg : X.grownBy Y row) (hr : ∀ r, row = some r → B ≤ r ∧ ∃ cs fz, X.heap[r]? = some (.cells cs 25 fz)) : IsR Y R n d :=
  (hg.block R h.lt (fun e => by have := (hr _ e.symm).1; omega)).trans h
theorem box_own {X Y : World} {row : Option Nat} {B : Nat} {t : TypeId} {v : Value} (h : Boxed X B t v) (hg : X.grownBy Y row) (hr : ∀ r, row = some r → ∃ o : Obj, X.heap[r]? = some o ∧ o.isCells = false) : Boxed Y B t v :=
  h.kept hg (fun e => by obtain ⟨o, ho, hc⟩ := hr _ e.symm; rw [show X.heap[B]? = _ from h] at ho; cases ho; cases hc)
theorem box_abT {X Y : World} {row : Option Nat} {B D : Nat} {t : TypeId} {v : Value} (h : Boxed X B t v) (hB : B < D) (hg : X.grownBy Y row) (hr : ∀ r, row = some r → D ≤ r ∧ ∃ cs fz, X.heap[r]? = some (.cells cs 25 fz)) : Boxed Y B t v :=
  h.kept hg (fun e => by have := (hr _ e.symm).1; omega)
theorem box_below {W W' : World} {B : Nat} {t : TypeId} {v : Value} (h : Boxed W B t v) (hb : Below W.heap.size W W') : Boxed W' B t v := (hb.block B h.lt).trans h
theorem box_other {W : World} {B b : Nat} {t : TypeId} {v : Value} (h : Boxed W B t v) (hne : B ≠ b) (o : Nat) (u : Value) : Boxed (W.setCell ⟨b, o, none⟩ u) B t v := (Below.heap_setCell W ⟨b, o, none⟩ u B hne).trans h
theorem isR_other {W : World} {R b : Nat} {n d : Int} (h : IsR W R n d) (hne : R ≠ b) (o : Nat) (v : Value) : IsR (W.setCell ⟨b, o, none⟩ v) R n d := (Below.heap_setCell W ⟨b, o, none⟩ v R hne).trans h

/-- what stays through the loop: the fraction, the bound, the two answers' places -/
structure Fx (p q most : Int) (P : Nat) (x y : Int) (b : Bool) (W : World) : Prop where
  r : IsR W P p q
  m : Boxed W (P + 1) 2 (.int .i64 most)
  a : IsR W (P + 1 + 1) x y
  f : Boxed W (P + 1 + 1 + 1) 4 (.bool b)
theorem Fx.below {p q most : Int} {P : Nat} {x y : Int} {b : Bool} {W W' : World} (h : Fx p q most P x y b W) (hb : Below W.heap.size W W') : Fx p q most P x y b W' := ⟨h.r.below hb, box_below h.m hb, h.a.below hb, box_below h.f hb⟩
theorem Fx.own {p q most : Int} {P : Nat} {x y : Int} {b : Bool} {X Y : World} {row : Option Nat} (h : Fx p q most P x y b X) (hg : X.grownBy Y row) (hr : ∀ r, row = some r → ∃ o : Obj, X.heap[r]? = some o ∧ o.isCells = false) : Fx p q most P x y b Y := ⟨isR_own h.r hg hr, box_own h.m hg hr, isR_own h.a hg hr, box_own h.f hg hr⟩
theorem Fx.abT {p q most : Int} {P D : Nat} {x y : Int} {b : Bool} {X Y : World} {row : Option Nat} (h : Fx p q most P x y b X) (hD : P + 1 + 1 + 1 < D) (hg : X.grownBy Y row) (hr : ∀ r, row = some r → D ≤ r ∧ ∃ cs fz, X.heap[r]? = some (.cells cs 25 fz)) : Fx p q most P x y b Y := ⟨isR_abT h.r (by omega) hg hr, box_abT h.m (by omega) hg hr, isR_abT h.a (by omega) hg hr, box_abT h.f (by omega) hg hr⟩
theorem Fx.other {p q most : Int} {P b' : Nat} {x y : Int} {b : Bool} {W : World} (h : Fx p q most P x y b W) (hne : P + 1 + 1 + 1 < b') (o : Nat) (v : Value) : Fx p q most P x y b (W.setCell ⟨b', o, none⟩ v) := ⟨isR_other h.r (by omega) o v, box_other h.m (by omega) o v, isR_other h.a (by omega) o v, box_other h.f (by omega) o v⟩
/-- the answer is laid -/
theorem Fx.told {p q most : Int} {P : Nat} {x y : Int} {b : Bool} {W : World} (h : Fx p q most P x y b W) (x' y' : Int) (b' : Bool) : Fx p q most P x' y' b' (((W.setCell ⟨P + 1 + 1, 0, none⟩ (.int .i64 x')).setCell ⟨P + 1 + 1, 1, none⟩ (.int .i64 y')).setCell ⟨P + 1 + 1 + 1, 0, none⟩ (.bool b')) :=
  ⟨isR_other (isR_other (isR_other h.r (by omega) _ _) (by omega) _ _) (by omega) _ _, box_other (box_other (box_other h.m (by omega) _ _) (by omega) _ _) (by omega) _ _, isR_other ((h.a.set0 x').set1 y') (by omega) _ _, (box_other (box_other h.f (by omega) _ _) (by omega) _ _).set _⟩

theorem Fx_start (p q most : Int) (w W1 : World) (hb : Below ((((w.alloc (.cells #[.int .i64 p, .int .i64 q] 25)).alloc (.cells #[.int .i64 most] 2)).alloc (.cells #[.int .i64 0, .int .i64 0] 25)).alloc (.cells #[.bool false] 4)).heap.size ((((w.alloc (.cells #[.int .i64 p, .int .i64 q] 25)).alloc (.cells #[.int .i64 most] 2)).alloc (.cells #[.int .i64 0, .int .i64 0] 25)).alloc (.cells #[.bool false] 4)) W1) :
    Fx p q most w.heap.size 0 0 false W1 ∧ Below w.heap.size w W1 := by
  have b0 : ∀ {u : World} (o : Obj), Below u.heap.size u (u.alloc o) := fun o => below_alR o (Below.refl _ _)
  refine ⟨Fx.below ⟨(((IsR.new w p q).below (b0 _)).below (b0 _)).below (b0 _), ?_, ?_, ?_⟩ hb, (below_alR _ (below_alR _ (below_alR _ (below_alR _ (Below.refl _ _))))).trans (hb.mono (by simp; omega))⟩
  · simpa using box_below (box_below (Boxed.new (w.alloc (.cells #[.int .i64 p, .int .i64 q] 25)) 2 (.int .i64 most)) (b0 (.cells #[.int .i64 0, .int .i64 0] 25))) (b0 (.cells #[.bool false] 4))
  · simpa using (IsR.new ((w.alloc (.cells #[.int .i64 p, .int .i64 q] 25)).alloc (.cells #[.int .i64 most] 2)) 0 0).below (b0 (.cells #[.bool false] 4))
  · simpa using Boxed.new (((w.alloc (.cells #[.int .i64 p, .int .i64 q] 25)).alloc (.cells #[.int .i64 most] 2)).alloc (.cells #[.int .i64 0, .int .i64 0] 25)) 4 (.bool false)

theorem fx_drew {p q most : Int} {P : Nat} {x y : Int} {b : Bool} {W : World} (h : Fx p q most P x y b W) : Fx p q most P x y b W.drew := ⟨h.r, h.m, h.a, h.f⟩
/-- the two fractions moved on, and a new one laid beyond -/
theorem moved_end {p q most : Int} {P U D : Nat} {x y : Int} {b : Bool} {w W w2 : World} {n d hn hd tn td : Int} (hB : Below w.heap.size w W) (hb2 : Below W.heap.size W w2) (hD : U + 1 < D) (hP : P + 1 + 1 + 1 < U) (hw : w.heap.size ≤ P)
    (u2 : IsR w2 U hn hd) (v2 : IsR w2 (U + 1) n d) (F2 : Fx p q most P x y b w2) (o : Obj) :
    KeepsFrom D W (((((w2.setCell ⟨U, 0, none⟩ (.int .i64 n)).setCell ⟨U, 1, none⟩ (.int .i64 d)).setCell ⟨U + 1, 0, none⟩ (.int .i64 tn)).setCell ⟨U + 1, 1, none⟩ (.int .i64 td)).alloc o).drew ∧
    KpT 25 D W (((((w2.setCell ⟨U, 0, none⟩ (.int .i64 n)).setCell ⟨U, 1, none⟩ (.int .i64 d)).setCell ⟨U + 1, 0, none⟩ (.int .i64 tn)).setCell ⟨U + 1, 1, none⟩ (.int .i64 td)).alloc o).drew ∧
    (IsR (((((w2.setCell ⟨U, 0, none⟩ (.int .i64 n)).setCell ⟨U, 1, none⟩ (.int .i64 d)).setCell ⟨U + 1, 0, none⟩ (.int .i64 tn)).setCell ⟨U + 1, 1, none⟩ (.int .i64 td)).alloc o).drew U n d ∧
     IsR (((((w2.setCell ⟨U, 0, none⟩ (.int .i64 n)).setCell ⟨U, 1, none⟩ (.int .i64 d)).setCell ⟨U + 1, 0, none⟩ (.int .i64 tn)).setCell ⟨U + 1, 1, none⟩ (.int .i64 td)).alloc o).drew (U + 1) tn td ∧
     Fx p q most P x y b (((((w2.setCell ⟨U, 0, none⟩ (.int .i64 n)).setCell ⟨U, 1, none⟩ (.int .i64 d)).setCell ⟨U + 1, 0, none⟩ (.int .i64 tn)).setCell ⟨U + 1, 1, none⟩ (.int .i64 td)).alloc o).drew) ∧
    Below w.heap.size w (((((w2.setCell ⟨U, 0, none⟩ (.int .i64 n)).setCell ⟨U, 1, none⟩ (.int .i64 d)).setCell ⟨U + 1, 0, none⟩ (.int .i64 tn)).setCell ⟨U + 1, 1, none⟩ (.int .i64 td)).alloc o).drew := by
  obtain ⟨X1, h1⟩ : ∃ X, X = w2.setCell ⟨U, 0, none⟩ (.int .i64 n) := ⟨_, rfl⟩
  obtain ⟨X2, h2⟩ : ∃ X, X = X1.setCell ⟨U, 1, none⟩ (.int .i64 d) := ⟨_, rfl⟩
  obtain ⟨X3, h3⟩ : ∃ X, X = X2.setCell ⟨U + 1, 0, none⟩ (.int .i64 tn) := ⟨_, rfl⟩
  obtain ⟨X4, h4⟩ : ∃ X, X = X3.setCell ⟨U + 1, 1, none⟩ (.int .i64 td) := ⟨_, rfl⟩
  rw [← h1, ← h2, ← h3, ← h4]
  have k1 : KeepsOthers w2 X4 := by rw [h4, h3, h2, h1]; exact (((KeepsOthers.setCell _ _ _).trans (KeepsOthers.setCell _ _ _)).trans (KeepsOthers.setCell _ _ _)).trans (KeepsOthers.setCell _ _ _)
  have t1 : KpT 25 D w2 X4 := by
    rw [h4, h3, h2, h1]
    exact (((KpT.grown (grown_set _ _ _ _) (fun r e => .inl (by injection e with e; omega))).trans (KpT.grown (grown_set _ _ _ _) (fun r e => .inl (by injection e with e; omega)))).trans (KpT.grown (grown_set _ _ _ _) (fun r e => .inl (by injection e with e; omega)))).trans (KpT.grown (grown_set _ _ _ _) (fun r e => .inl (by injection e with e; omega)))
  have u4 : IsR X4 U n d := by rw [h4, h3, h2, h1]; exact isR_other (isR_other ((u2.set0 n).set1 d) (by omega) _ _) (by omega) _ _
  have v4 : IsR X4 (U + 1) tn td := by rw [h4, h3, h2, h1]; exact ((isR_other (isR_other v2 (by omega) _ _) (by omega) _ _).set0 tn).set1 td
  have F4 : Fx p q most P x y b X4 := by rw [h4, h3, h2, h1]; exact (((F2.other hP _ _).other hP _ _).other (by omega) _ _).other (by omega) _ _
  have B4 : Below w.heap.size w X4 := by
    rw [h4, h3, h2, h1]
    exact ((((hB.trans (hb2.mono hB.size)).setCell (p := ⟨U, 0, none⟩) (by show _ ≤ U; omega) _).setCell (p := ⟨U, 1, none⟩) (by show _ ≤ U; omega) _).setCell (p := ⟨U + 1, 0, none⟩) (by show _ ≤ U + 1; omega) _).setCell (p := ⟨U + 1, 1, none⟩) (by show _ ≤ U + 1; omega) _
  have b0 : Below X4.heap.size X4 (X4.alloc o) := below_alR o (Below.refl _ _)
  refine ⟨((((KeepsOthers.of_grownBy (grown_of_below hb2) (fun j o e _ => by cases e)).trans k1).trans (KeepsOthers.alloc _ _)).trans (KeepsOthers.drew _)).from _, ((KpT.below hb2).trans t1).trans (KpT.below (W := X4) (W' := (X4.alloc o).drew) b0.drew), ⟨u4.below b0.drew, v4.below b0.drew, fx_drew (F4.below b0)⟩, (B4.alloc B4.size _).drew⟩

set_option maxRecDepth 100000 in
set_option maxHeartbeats 4000000 in
theorem iNear_any (p q most : Int) (w : World) :
    Calls Try.prog 41 #[.agg #[.int .i64 p, .int .i64 q], .int .i64 most] w fun e w' => e = .returned (.tuple #[.agg #[.int .i64 (nrN p q most), .int .i64 (nrD p q most)], .bool (nrB p q most)]) ∧ Below w.heap.size w w' := by
  by_cases hb : nrB p q most = true
  · refine (callsIn_wide (n := 5)).1 ?_
    have h' := hb
    unfold nrB at h'
    rw [Bool.and_eq_true] at h'
    obtain ⟨hok, hm⟩ := h'
    obtain ⟨m1, m2⟩ := of_decide_eq_true hm
    have HB : Hid (nrB p q most = true) := hb
    have HK : Hid (okB p q = true) := hok
    obtain ⟨q1, q2, p1, p2, _⟩ := okB_out hok
    clear hb hm
    refine callsIn_of_wp_marks Try.func41 rfl trivial ?_ rfl
    simp only [Try.ntmps41, List.size_toArray, List.length_cons, List.length_nil, Nat.reduceAdd, Nat.reduceSub, Array.replicate_succ, Array.replicate_zero, List.push_toArray, List.append_toArray, List.nil_append, List.cons_append]
    have g1 : ¬ most < 1 := by omega
    have g2 : ¬ 1000000000 < most := by omega
    have g3 : decide (most < 1) = false := decide_eq_false g1
    have g4 : decide (1000000000 < most) = false := decide_eq_false g2
    gi_wp2_with (first | (refine ⟨trivial, ?_⟩; gi_at_call 57; refine (callsIn_wide.2 (right_any p q _)).mono ?_; rintro e W1 ⟨rfl, hb1⟩; rw [hok]; obtain ⟨FX1, B1⟩ := Fx_start p q most w W1 hb1; have c0 := FX1.r.c0; have c1 := FX1.r.c1; have hl0 := FX1.r.lt; have cm := FX1.m.cell) | (refine ⟨trivial, ?_⟩; gi_at_call 62; refine (terms_in _ p q _).mono ?_; rintro e w' ⟨rfl, rfl⟩))
    obtain ⟨P, hP⟩ : ∃ P, P = w.heap.size := ⟨_, rfl⟩
    obtain ⟨U, hU⟩ : ∃ U, U = W1.heap.size := ⟨_, rfl⟩
    have b0 : ∀ {u : World} (o : Obj), Below u.heap.size u (u.alloc o) := fun o => below_alR o (Below.refl _ _)
    obtain ⟨Wl, hWl⟩ : ∃ Wl, Wl = ((W1.alloc (.cells #[.int .i64 0, .int .i64 1] 25)).alloc (.cells #[.int .i64 1, .int .i64 0] 25)).alloc (.cells #[.int .i64 p, .int .i64 q] 25) := ⟨_, rfl⟩
    have FXl : Fx p q most P 0 0 false Wl := by rw [hWl, hP]; exact ((FX1.below (b0 _)).below (b0 _)).below (b0 _)
    have rU : IsR Wl U 0 1 := by rw [hWl, hU]; exact ((IsR.new W1 0 1).below (b0 _)).below (b0 _)
    have rV : IsR Wl (U + 1) 1 0 := by rw [hWl, hU]; simpa using (IsR.new (W1.alloc (.cells #[.int .i64 0, .int .i64 1] 25)) 1 0).below (b0 (.cells #[.int .i64 p, .int .i64 q] 25))
    have rC : IsR Wl (U + 1 + 1) p q := by rw [hWl, hU]; simpa using IsR.new ((W1.alloc (.cells #[.int .i64 0, .int .i64 1] 25)).alloc (.cells #[.int .i64 1, .int .i64 0] 25)) p q
    have Bl : Below w.heap.size w Wl := by rw [hWl]; exact below_alN _ (below_alN _ (below_alN _ B1))
    have hsl : Wl.heap.size = U + 1 + 1 + 1 := by rw [hWl, hU]; simp
    have hPU : P + 1 + 1 + 1 < U := by rw [hU, hP]; exact FX1.f.lt
    have hwP : w.heap.size ≤ P := by omega
    rw [← hWl, ← hU, ← hP]
    clear hWl hU hP FX1 B1 c0 c1 hl0 cm hb1
    have i0 : (IsR Wl U (cvs []).hn (cvs []).hd ∧ IsR Wl (U + 1) (cvs []).n (cvs []).d ∧ Fx p q most P 0 0 false Wl) ∧ Below w.heap.size w Wl ∧ Hid ((∀ rest, cf p q = [] ++ rest → near p q most = nearL p q most rest (cvs [])) ∧ (cvs []).d ≤ most ∧ (([] : List Int) ≠ [] → (cvs []).hd ≤ most)) :=
      ⟨⟨rU, rV, FXl⟩, Bl, fun rest h => by (unfold near; rw [h]; rfl), by show (0 : Int) ≤ most; omega, fun h => absurd rfl h⟩
    refine range_T rfl (by omega) (gf := 75) (T := 25) (lb := #[.pointer (some ⟨U + 1 + 1, 0, none⟩)]) rfl trivial (enters_of Try.func75 (by kernel_rfl) rfl)
      (terms_seq 4 _ p q (by omega) Wl rC) (Below.refl _ _) (fun _ => rfl)
      (fun pre W => (IsR W U (cvs pre).hn (cvs pre).hd ∧ IsR W (U + 1) (cvs pre).n (cvs pre).d ∧ Fx p q most P 0 0 false W) ∧ Below w.heap.size w W ∧ Hid ((∀ rest, cf p q = pre ++ rest → near p q most = nearL p q most rest (cvs pre)) ∧ (cvs pre).d ≤ most ∧ (pre ≠ [] → (cvs pre).hd ≤ most)))
      (fun c pre W => (c = .ret ∧ Fx p q most P (near p q most).1 (near p q most).2 true W) ∧ Below w.heap.size w W)
      (OwnFrom.and (Own.from (fun s X Y row hs hg hr => ⟨isR_own hs.1 hg hr, isR_own hs.2.1 hg hr, hs.2.2.own hg hr⟩) _) (OwnFrom.and (ownFrom_below (Nat.le_refl _) (by omega)) (fun _ _ _ _ hs _ _ => hs)))
      (fun c => OwnFrom.and (Own.from (fun s X Y row hs hg hr => ⟨hs.1, hs.2.own hg hr⟩) _) (ownFrom_below (Nat.le_refl _) (by omega)))
      (AbT.and (fun s X Y row hs hg hr => ⟨isR_abT hs.1 (by omega) hg hr, isR_abT hs.2.1 (by omega) hg hr, hs.2.2.abT (by omega) hg hr⟩) (AbT.and (fun s X Y row hs hg hr => hs.grown hg hs.size (fun k e => by have := (hr k e).1; omega)) (fun _ _ _ _ hs _ _ => hs)))
      (fun c => AbT.and (fun s X Y row hs hg hr => ⟨hs.1, hs.2.abT (by omega) hg hr⟩) (fun s X Y row hs hg hr => hs.grown hg hs.size (fun k e => by have := (hr k e).1; omega)))
      i0
      (fun x => { tmps := #[.agg #[.int .i64 p, .int .i64 q], .int .i64 most, .pointer (some ⟨P, 0, none⟩), .pointer (some ⟨P + 1, 0, none⟩), .pointer (some ⟨P + 1 + 1, 0, none⟩), .pointer (some ⟨P + 1 + 1 + 1, 0, none⟩), .pointer (some ⟨U, 0, none⟩), .pointer (some ⟨U + 1, 0, none⟩), .int .i64 x, undef, undef, .agg #[.int .i64 p, .int .i64 q], .bool true, .bool false, .bool false, .int .i64 most, .bool false, .bool false, .bool false, .int .i64 most, .bool false, .bool false, undef, .agg #[.int .i64 0, .int .i64 1], .agg #[.int .i64 1, .int .i64 0], .agg #[.int .i64 p, .int .i64 q], .func (.func 75) #[] #[.pointer (some ⟨U + 1 + 1, 0, none⟩)], .int .i64 x, undef, undef, undef, undef, undef, undef, undef, undef, undef, undef, undef, undef, undef, undef, undef, undef, undef, undef, undef, undef, undef, undef, undef, undef, undef], defers := [] }) ?assign ?body ?done ?stop
    case assign =>
      intro l x W K hK
      gi_wp2
      exact hK
    case body =>
      rintro l pre x W ⟨⟨rU', rV', FX⟩, hB, hpure⟩ hpre
      rw [termsL_yes HK.out] at hpre
      obtain ⟨rest, hcf'⟩ := hpre
      have hcf : cf p q = pre ++ x :: rest := by rw [← hcf']; simp
      obtain ⟨r, s, ha, htr⟩ := termsL_head HK.out hcf
      have hb1 := ha.bounds HK.out
      have hb2 := ha.next_bounds HK.out
      have hw := whole_bd ha.ok
      rw [← htr] at hb2 hw
      obtain ⟨hE0, hdm, hhm⟩ := hpure.out
      have hE := hE0 (x :: rest) hcf
      have HP : Hid (pre ++ [x] <+: cf p q) := ⟨rest, hcf'⟩
      obtain ⟨t1, t2⟩ := hw
      clear hcf' i0
      by_cases hex : most < (cvs pre).hd + x * (cvs pre).d
      · have sd := ha.side m1 hdm hhm (by rw [← htr]; exact hex)
        have sb := sd.bounds HK.out ha (by omega)
        obtain ⟨kk, k0, kl, d1, hmm, xd, xm, iv, lf⟩ := sd
        clear kk kl iv lf hE0 hpure hhm HP
        obtain ⟨c, hV⟩ : ∃ c, c = cvs pre := ⟨_, rfl⟩
        rw [← hV] at rU' rV' hb1 hb2 hdm hex hE sb k0 d1 hmm xd xm
        obtain ⟨hn, hd, n, d⟩ := c
        simp only at rU' rV' hb1 hb2 hdm hex sb k0 d1 hmm xd xm
        obtain ⟨b1, b2, b3, b4, b5, b6, b7, b8⟩ := hb1
        obtain ⟨n1, n2, n3, n4⟩ := hb2
        obtain ⟨s1, s2, s3, s4⟩ := sb
        obtain ⟨K, hK⟩ : ∃ K, K = (most - hd) / d := ⟨_, rfl⟩
        rw [← hK] at k0 xd xm s1 s2 s3 s4
        have hKr : (most - hd) / d = K := hK.symm
        have hNE : near p q most = (selI (nearB (iabs (p * d - n * q)) (hd + K * d) (iabs (p * (hd + K * d) - (hn + K * n) * q)) d n (hn + K * n)) n (hn + K * n), selI (nearB (iabs (p * d - n * q)) (hd + K * d) (iabs (p * (hd + K * d) - (hn + K * n) * q)) d n (hn + K * n)) d (hd + K * d)) := by
          rw [hE]
          show (if most < hd + x * d then _ else _) = _
          rw [if_pos hex, pick_eq (k := K) hK]
          simp only
          rw [← near_same]
          cases nearB (iabs (p * d - n * q)) (hd + K * d) (iabs (p * (hd + K * d) - (hn + K * n) * q)) d n (hn + K * n) <;> rfl
        have HW1 : Hid (∀ u : World, Calls Try.prog 70 #[.agg #[.int .i64 hn, .int .i64 hd], .agg #[.int .i64 n, .int .i64 d], .int .i64 x] u fun e w' => e = .returned (.agg #[.int .i64 (hn + x * n), .int .i64 (hd + x * d)]) ∧ Below u.heap.size u w') :=
          fun u => withParts_any hn hd n d x u (by omega) (by omega) (by omega) (by omega) (by omega) (by omega) (by omega) (by omega)
        have kn1 : -3000000003 ≤ K * n := by omega
        have kn2 : K * n ≤ 3000000003 := by omega
        have kd1 : -3000000003 ≤ K * d := by omega
        have kd2 : K * d ≤ 3000000003 := by omega
        have HW2 : Hid (∀ u : World, Calls Try.prog 70 #[.agg #[.int .i64 hn, .int .i64 hd], .agg #[.int .i64 n, .int .i64 d], .int .i64 K] u fun e w' => e = .returned (.agg #[.int .i64 (hn + K * n), .int .i64 (hd + K * d)]) ∧ Below u.heap.size u w') :=
          fun u => withParts_any hn hd n d K u (by omega) (by omega) (by omega) (by omega) (by omega) (by omega) (by omega) (by omega)
        have HN := fun u : World => nearer_any p q n d (hn + K * n) (hd + K * d) u p1 p2 (by omega) q2 (by omega) (by omega) (by omega) (by omega) (by omega) (by omega) (by omega) (by omega) (by omega) (by omega)
        obtain ⟨nn, hnn⟩ : ∃ z, z = (near p q most).1 := ⟨_, rfl⟩
        obtain ⟨nd, hnd⟩ : ∃ z, z = (near p q most).2 := ⟨_, rfl⟩
        have e1 : selI (nearB (iabs (p * d - n * q)) (hd + K * d) (iabs (p * (hd + K * d) - (hn + K * n) * q)) d n (hn + K * n)) n (hn + K * n) = nn := by rw [hnn, hNE]
        have e2 : selI (nearB (iabs (p * d - n * q)) (hd + K * d) (iabs (p * (hd + K * d) - (hn + K * n) * q)) d n (hn + K * n)) d (hd + K * d) = nd := by rw [hnd, hNE]
        rw [e1, e2] at HN
        replace HN : Hid _ := HN
        obtain ⟨xn, hxn⟩ : ∃ z, z = hn + K * n := ⟨_, rfl⟩
        obtain ⟨xe, hxe⟩ : ∃ z, z = hd + K * d := ⟨_, rfl⟩
        rw [← hxn, ← hxe] at HN HW2
        obtain ⟨tn, htn⟩ : ∃ z, z = hn + x * n := ⟨_, rfl⟩
        obtain ⟨td, htd⟩ : ∃ z, z = hd + x * d := ⟨_, rfl⟩
        rw [← htn, ← htd] at HW1
        rw [← htd] at hex
        have hdec : decide (most < td) = true := decide_eq_true hex
        have HNN : Hid (nn = (near p q most).1 ∧ nd = (near p q most).2) := ⟨hnn, hnd⟩
        have hm0 : 0 ≤ most - hd := by omega
        have hm1' : most - hd ≤ 1000000000 := by omega
        have hK9 : K ≤ 1000000000 := by
          have h := Int.ediv_le_self d hm0
          rw [hKr] at h; omega
        have eS : IntKind.i64.wrap (most - hd) = most - hd := by rw [IntKind.wrap_i64]; omega
        have hd0 : ¬ d = 0 := by omega
        have eT : (most - hd).tdiv d = K := by rw [Int.tdiv_eq_ediv_of_nonneg hm0, hKr]
        have eQ : IntKind.i64.wrap K = K := by rw [IntKind.wrap_i64]; omega
        clear hV b5 b6 b7 b8 n1 n2 n3 n4 htn htd t1 t2 hE e1 e2 hnn hnd hNE s1 s2 s3 s4 hxn hxe xd xm kn1 kn2 kd1 kd2 hcf ha htr hK
        have kU0 := rU'.c0
        have kU1 := rU'.c1
        have kV0 := rV'.c0
        have kV1 := rV'.c1
        have hUl := rU'.lt
        have hVl := rV'.lt
        have hszB := hB.size
        gi_wp2_with (refine ⟨trivial, ?_⟩; gi_at_call 70; refine (CallsIn.inRound l (callsIn_wide.2 (HW1.out _))).mono ?_; rintro e w2 ⟨rfl, hb2⟩; have u2 := rU'.below hb2; have v2 := rV'.below hb2; have F2 := FX.below hb2; have q8' := F2.m.cell; have hU2 := u2.lt; have hV2 := v2.lt; have hM2 := F2.m.lt)
        obtain ⟨Y, hY⟩ : ∃ Y, Y = w2.alloc (.cells #[.int .i64 tn, .int .i64 td] 25) := ⟨_, rfl⟩
        have by0 : Below w2.heap.size w2 Y := by rw [hY]; exact b0 _
        have uY : IsR Y U hn hd := u2.below by0
        have vY : IsR Y (U + 1) n d := v2.below by0
        have FY : Fx p q most P 0 0 false Y := F2.below by0
        have BY : Below W.heap.size W Y := by rw [hY]; exact below_alN _ hb2
        rw [← hY]
        clear hY by0 u2 v2 F2 q8' hU2 hV2 hM2 hb2 kU0 kU1 kV0 kV1
        have kU0 := uY.c0
        have kU1 := uY.c1
        have kV0 := vY.c0
        have kV1 := vY.c1
        have kM := FY.m.cell
        refine Code.wpIn_mono NoPanic.imp ?_
        refine region_inRound (S := (fun w' => w'.cell? ⟨U, 0, none⟩ = some (.int .i64 hn) ∧ w'.cell? ⟨U, 1, none⟩ = some (.int .i64 hd) ∧ w'.cell? ⟨U + 1, 0, none⟩ = some (.int .i64 n) ∧ w'.cell? ⟨U + 1, 1, none⟩ = some (.int .i64 d) ∧ w'.cell? ⟨P + 1, 0, none⟩ = some (.int .i64 most))) (by kernel_rfl) (by kernel_rfl) (by rintro ⟨_, _, h⟩; exact h) ?_ (fun hHeld => ?_)
        · (try dsimp only)
          refine ⟨?_, ?_, ?_, ?_, ?_⟩ <;> (repeat (with_reducible (first | refine cell_dr ?_ | refine cell_al _ ?_ | exact kU0 | exact kU1 | exact kV0 | exact kV1 | exact kM)))
        refine wpAnyH_take (i := 0) (v := ?_) rfl (by kernel_rfl) (by kernel_rfl) (by kernel_rfl) (fun _ _ _ h => h) (Or.inl ⟨by kernel_rfl, ?_⟩) hHeld ?_
        rotate_left
        · intro wz hSw; (try dsimp only at hSw); go_simp; all_goals (try with_reducible rfl)
        (try simp only [List.getElem_toArray]); (try simp only [List.getElem_cons_succ]); (try simp only [List.getElem_cons_zero]); (try simp only [Act.put]); (try simp only [List.setIfInBounds_toArray]); (try simp only [List.set_cons_succ]); (try simp only [List.set_cons_zero])
        refine wpAnyH_take (i := 1) (v := ?_) rfl (by kernel_rfl) (by kernel_rfl) (by kernel_rfl) (fun _ _ _ h => h) (Or.inl ⟨by kernel_rfl, ?_⟩) hHeld ?_
        rotate_left
        · intro wz hSw; (try dsimp only at hSw); go_simp; all_goals (try with_reducible rfl)
        (try simp only [List.getElem_toArray]); (try simp only [List.getElem_cons_succ]); (try simp only [List.getElem_cons_zero]); (try simp only [Act.put]); (try simp only [List.setIfInBounds_toArray]); (try simp only [List.set_cons_succ]); (try simp only [List.set_cons_zero])
        refine wpAnyH_take (i := 2) (v := ?_) rfl (by kernel_rfl) (by kernel_rfl) (by kernel_rfl) (fun _ _ _ h => h) (Or.inl ⟨by kernel_rfl, ?_⟩) hHeld ?_
        rotate_left
        · intro wz hSw; (try dsimp only at hSw); go_simp; all_goals (try with_reducible rfl)
        (try simp only [List.getElem_toArray]); (try simp only [List.getElem_cons_succ]); (try simp only [List.getElem_cons_zero]); (try simp only [Act.put]); (try simp only [List.setIfInBounds_toArray]); (try simp only [List.set_cons_succ]); (try simp only [List.set_cons_zero])
        refine wpAnyH_take (i := 3) (v := ?_) rfl (by kernel_rfl) (by kernel_rfl) (by kernel_rfl) (fun _ _ _ h => h) (Or.inl ⟨by kernel_rfl, ?_⟩) hHeld ?_
        rotate_left
        · intro wz hSw; (try dsimp only at hSw); go_simp; all_goals (try with_reducible rfl)
        (try simp only [List.getElem_toArray]); (try simp only [List.getElem_cons_succ]); (try simp only [List.getElem_cons_zero]); (try simp only [Act.put]); (try simp only [List.setIfInBounds_toArray]); (try simp only [List.set_cons_succ]); (try simp only [List.set_cons_zero])
        refine wpAnyH_take (i := 4) (v := ?_) rfl (by kernel_rfl) (by kernel_rfl) (by kernel_rfl) (fun _ _ _ h => h) (Or.inl ⟨by kernel_rfl, ?_⟩) hHeld ?_
        rotate_left
        · intro wz hSw; (try dsimp only at hSw); go_simp; all_goals (try with_reducible rfl)
        (try simp only [List.getElem_toArray]); (try simp only [List.getElem_cons_succ]); (try simp only [List.getElem_cons_zero]); (try simp only [Act.put]); (try simp only [List.setIfInBounds_toArray]); (try simp only [List.set_cons_succ]); (try simp only [List.set_cons_zero])
        refine wpAnyH_take (i := 6) (v := ?_) rfl (by kernel_rfl) (by kernel_rfl) (by kernel_rfl) (fun _ _ _ h => h) (Or.inl ⟨by kernel_rfl, ?_⟩) hHeld ?_
        rotate_left
        · intro wz hSw; (try dsimp only at hSw); go_simp; all_goals (try with_reducible rfl)
        (try simp only [List.getElem_toArray]); (try simp only [List.getElem_cons_succ]); (try simp only [List.getElem_cons_zero]); (try simp only [Act.put]); (try simp only [List.setIfInBounds_toArray]); (try simp only [List.set_cons_succ]); (try simp only [List.set_cons_zero])
        refine wpAnyH_take (i := 7) (v := ?_) rfl (by kernel_rfl) (by kernel_rfl) (by kernel_rfl) (fun _ _ _ h => h) (Or.inl ⟨by kernel_rfl, ?_⟩) hHeld ?_
        rotate_left
        · intro wz hSw; (try dsimp only at hSw); go_simp; all_goals (try with_reducible rfl)
        (try simp only [List.getElem_toArray]); (try simp only [List.getElem_cons_succ]); (try simp only [List.getElem_cons_zero]); (try simp only [Act.put]); (try simp only [List.setIfInBounds_toArray]); (try simp only [List.set_cons_succ]); (try simp only [List.set_cons_zero])
        refine wpAnyH_take (i := 5) (v := (.int .i64 (most - hd))) rfl (by kernel_rfl) (by kernel_rfl) (by kernel_rfl) (fun _ _ _ h => h) (Or.inl ⟨by kernel_rfl, ?_⟩) hHeld ?_
        skip
        · intro wz hSw; (try dsimp only at hSw); go_simp; all_goals (try with_reducible rfl); all_goals (try rw [eS])
        (try simp only [List.getElem_toArray]); (try simp only [List.getElem_cons_succ]); (try simp only [List.getElem_cons_zero]); (try simp only [Act.put]); (try simp only [List.setIfInBounds_toArray]); (try simp only [List.set_cons_succ]); (try simp only [List.set_cons_zero])
        refine wpAnyH_take (i := 8) (v := (.int .i64 K)) rfl (by kernel_rfl) (by kernel_rfl) (by kernel_rfl) (fun _ _ _ h => h) (Or.inl ⟨by kernel_rfl, ?_⟩) hHeld ?_
        skip
        · intro wz hSw; (try dsimp only at hSw); go_simp; all_goals (try with_reducible rfl); all_goals (try rw [eQ])
        (try simp only [List.getElem_toArray]); (try simp only [List.getElem_cons_succ]); (try simp only [List.getElem_cons_zero]); (try simp only [Act.put]); (try simp only [List.setIfInBounds_toArray]); (try simp only [List.set_cons_succ]); (try simp only [List.set_cons_zero])
        refine wpAnyH_ready (rs := [9, 10]) (by kernel_rfl) (by simp) (AllReadyH.cons rfl (fun Kc hKc => ?_) (AllReadyH.cons rfl (fun Kc hKc => ?_) AllReadyH.nil))
        · go_simp
          (go_at_call 70; refine (HW2.out _).mono ?_; rintro e wN ⟨rfl, hbN⟩)
          have uN : IsR wN U hn hd := IsR.below (W := Y.drew) uY hbN
          have vN : IsR wN (U + 1) n d := IsR.below (W := Y.drew) vY hbN
          have FN : Fx p q most P 0 0 false wN := (fx_drew FY).below hbN
          have BN : Below W.heap.size W wN := BY.drew.trans (hbN.mono BY.drew.size)
          clear hbN
          have kU0N := uN.c0
          have kU1N := uN.c1
          have kV0N := vN.c0
          have kV1N := vN.c1
          have kMN := FN.m.cell
          go_wp2_with fail
          refine hKc.out _ _ ?_ (fun hHeld => ?_)
          · (try dsimp only)
            refine ⟨?_, ?_, ?_, ?_, ?_⟩ <;> (repeat (with_reducible (first | refine cell_dr ?_ | refine cell_al _ ?_ | exact kU0N | exact kU1N | exact kV0N | exact kV1N | exact kMN)))
          clear hKc Kc
          (try simp only [List.getElem_toArray]); (try simp only [List.getElem_cons_succ]); (try simp only [List.getElem_cons_zero]); (try simp only [Act.put]); (try simp only [List.setIfInBounds_toArray]); (try simp only [List.set_cons_succ]); (try simp only [List.set_cons_zero])
          refine wpAnyH_ready (rs := [10]) (by kernel_rfl) (by simp) (AllReadyH.cons rfl (fun Kc hKc => ?_) AllReadyH.nil)
          go_simp
          refine hKc.out _ _ ?_ (fun hHeld => ?_)
          · (try dsimp only)
            refine ⟨?_, ?_, ?_, ?_, ?_⟩ <;> (repeat (with_reducible (first | refine cell_dr ?_ | refine cell_al _ ?_ | exact kU0N | exact kU1N | exact kV0N | exact kV1N | exact kMN)))
          clear hKc Kc
          (try simp only [List.getElem_toArray]); (try simp only [List.getElem_cons_succ]); (try simp only [List.getElem_cons_zero]); (try simp only [Act.put]); (try simp only [List.setIfInBounds_toArray]); (try simp only [List.set_cons_succ]); (try simp only [List.set_cons_zero])
          refine wpAnyH_ready (rs := [11]) (by kernel_rfl) (by simp) (AllReadyH.cons rfl (fun Kc hKc => ?_) AllReadyH.nil)
          go_simp
          refine hKc.out _ _ ?_ (fun hHeld => ?_)
          · (try dsimp only)
            refine ⟨?_, ?_, ?_, ?_, ?_⟩ <;> (repeat (with_reducible (first | refine cell_dr ?_ | refine cell_al _ ?_ | exact kU0N | exact kU1N | exact kV0N | exact kV1N | exact kMN)))
          clear hKc Kc
          (try simp only [List.getElem_toArray]); (try simp only [List.getElem_cons_succ]); (try simp only [List.getElem_cons_zero]); (try simp only [Act.put]); (try simp only [List.setIfInBounds_toArray]); (try simp only [List.set_cons_succ]); (try simp only [List.set_cons_zero])
          obtain ⟨Z, hZ⟩ : ∃ Z, Z = wN.heap.size := ⟨_, rfl⟩
          obtain ⟨V6, hV6⟩ : ∃ V6, V6 = wN.alloc (.cells #[.int .i64 xn, .int .i64 xe] 25) := ⟨_, rfl⟩
          have v6 : IsR V6 (U + 1) n d := by rw [hV6]; exact vN.below (b0 _)
          have F6 : Fx p q most P 0 0 false V6 := by rw [hV6]; exact FN.below (b0 _)
          have B6 : Below W.heap.size W V6 := by rw [hV6]; exact below_alN _ BN
          have z6 : IsR V6 Z xn xe := by rw [hV6, hZ]; exact IsR.new wN xn xe
          rw [← hV6, ← hZ]
          clear hV6 hZ uN vN FN BN kU0N kU1N kV0N kV1N kMN
          refine wpAnyH_done (by kernel_rfl) ?_ _
          refine NoPanic.normal ?_
          clear hHeld
          have hs6 := B6.size
          have z0 := z6.c0
          have z1 := z6.c1
          have v0 := v6.c0
          have v1 := v6.c1
          have r0 := F6.r.c0
          have r1 := F6.r.c1
          gi_wp2_with (refine ⟨trivial, ?_⟩; gi_at_call 71; refine (CallsIn.inRound l (callsIn_wide.2 (HN.out _))).mono ?_; rintro e w7 ⟨rfl, hb7⟩; have F7 := F6.below hb7; have B7 : Below W.heap.size W w7 := B6.trans (hb7.mono hs6); have g2' := F7.a.f0; have g3' := F7.a.f1; have g4' := F7.a.c0; have g5' := F7.a.c1; have g6' := F7.f.cell; have g7' := F7.f.frozen)
          refine ⟨((((KeepsOthers.of_grownBy (grown_of_below B7) (fun j o e _ => by cases e)).trans (KeepsOthers.setCell _ _ _)).trans (KeepsOthers.setCell _ _ _)).trans (KeepsOthers.setCell _ _ _)).from _, ⟨rfl, by rw [← HNN.out.1, ← HNN.out.2]; exact F7.told nn nd true⟩, (((hB.trans (B7.mono hB.size)).setCell (p := ⟨P + 1 + 1, 0, none⟩) (by show _ ≤ P + 1 + 1; omega) _).setCell (p := ⟨P + 1 + 1, 1, none⟩) (by show _ ≤ P + 1 + 1; omega) _).setCell (p := ⟨P + 1 + 1 + 1, 0, none⟩) (by show _ ≤ P + 1 + 1 + 1; omega) _⟩
        · go_simp
          refine hKc.out _ _ ?_ (fun hHeld => ?_)
          · (try dsimp only)
            refine ⟨?_, ?_, ?_, ?_, ?_⟩ <;> (repeat (with_reducible (first | refine cell_dr ?_ | refine cell_al _ ?_ | exact kU0 | exact kU1 | exact kV0 | exact kV1 | exact kM)))
          clear hKc Kc
          (try simp only [List.getElem_toArray]); (try simp only [List.getElem_cons_succ]); (try simp only [List.getElem_cons_zero]); (try simp only [Act.put]); (try simp only [List.setIfInBounds_toArray]); (try simp only [List.set_cons_succ]); (try simp only [List.set_cons_zero])
          obtain ⟨Z, hZ⟩ : ∃ Z, Z = Y.heap.size := ⟨_, rfl⟩
          obtain ⟨X, hX⟩ : ∃ X, X = (Y.alloc (.cells #[.int .i64 0, .int .i64 0] 25)).drew := ⟨_, rfl⟩
          have uX : IsR X U hn hd := by rw [hX]; exact uY.below (b0 _).drew
          have vX : IsR X (U + 1) n d := by rw [hX]; exact vY.below (b0 _).drew
          have FX' : Fx p q most P 0 0 false X := by rw [hX]; exact FY.below (b0 _).drew
          have BX : Below W.heap.size W X := by rw [hX]; exact (below_alN _ BY).drew
          have zX : IsR X Z 0 0 := by rw [hX, hZ]; exact IsR.new Y 0 0
          have hUZ : U + 1 < Z := by rw [hZ]; exact vY.lt
          have hWZ : W.heap.size ≤ Z := by rw [hZ]; exact BY.size
          rw [← hX] at hHeld ⊢
          rw [← hZ]
          clear hX hZ kU0 kU1 kV0 kV1 kM uY vY FY BY
          refine wpAnyH_ready (rs := [9]) (by kernel_rfl) (by simp) (AllReadyH.cons rfl (fun Kc hKc => ?_) AllReadyH.nil)
          go_simp
          (go_at_call 70; refine (HW2.out _).mono ?_; rintro e wN ⟨rfl, hbN⟩)
          have uN := uX.below hbN
          have vN := vX.below hbN
          have FN := FX'.below hbN
          have zN := zX.below hbN
          have BN : Below W.heap.size W wN := BX.trans (hbN.mono BX.size)
          clear hbN uX vX FX' BX zX
          have kU0N := uN.c0
          have kU1N := uN.c1
          have kV0N := vN.c0
          have kV1N := vN.c1
          have kMN := FN.m.cell
          have y0 := zN.c0
          have y1 := zN.c1
          have y2 := zN.f0
          have y3 := zN.f1
          have hlt6 := zN.lt
          go_wp2_with fail
          refine hKc.out _ _ ?_ (fun hHeld => ?_)
          · (try dsimp only)
            refine ⟨?_, ?_, ?_, ?_, ?_⟩ <;> (repeat (with_reducible (first | refine cell_dr ?_ | refine cell_al _ ?_ | exact kU0N | exact kU1N | exact kV0N | exact kV1N | exact kMN)))
          clear hKc Kc
          (try simp only [List.getElem_toArray]); (try simp only [List.getElem_cons_succ]); (try simp only [List.getElem_cons_zero]); (try simp only [Act.put]); (try simp only [List.setIfInBounds_toArray]); (try simp only [List.set_cons_succ]); (try simp only [List.set_cons_zero])
          refine wpAnyH_ready (rs := [11]) (by kernel_rfl) (by simp) (AllReadyH.cons rfl (fun Kc hKc => ?_) AllReadyH.nil)
          go_simp
          have u6 : IsR ((wN.setCell ⟨Z, 0, none⟩ (.int .i64 xn)).setCell ⟨Z, 1, none⟩ (.int .i64 xe)) U hn hd := isR_other (isR_other uN (by omega) _ _) (by omega) _ _
          have v6 : IsR ((wN.setCell ⟨Z, 0, none⟩ (.int .i64 xn)).setCell ⟨Z, 1, none⟩ (.int .i64 xe)) (U + 1) n d := isR_other (isR_other vN (by omega) _ _) (by omega) _ _
          have F6 : Fx p q most P 0 0 false ((wN.setCell ⟨Z, 0, none⟩ (.int .i64 xn)).setCell ⟨Z, 1, none⟩ (.int .i64 xe)) := (FN.other (by omega) _ _).other (by omega) _ _
          have z6 : IsR ((wN.setCell ⟨Z, 0, none⟩ (.int .i64 xn)).setCell ⟨Z, 1, none⟩ (.int .i64 xe)) Z xn xe := (zN.set0 xn).set1 xe
          have B6 : Below W.heap.size W ((wN.setCell ⟨Z, 0, none⟩ (.int .i64 xn)).setCell ⟨Z, 1, none⟩ (.int .i64 xe)) := (BN.setCell (p := ⟨Z, 0, none⟩) hWZ _).setCell (p := ⟨Z, 1, none⟩) hWZ _
          obtain ⟨V6, hV6⟩ : ∃ V6, V6 = ((wN.setCell ⟨Z, 0, none⟩ (.int .i64 xn)).setCell ⟨Z, 1, none⟩ (.int .i64 xe)) := ⟨_, rfl⟩
          rw [← hV6] at u6 v6 F6 z6 B6 ⊢
          clear hV6 uN vN FN zN BN y0 y1 y2 y3 hlt6 kU0N kU1N kV0N kV1N kMN
          have kU0S := u6.c0
          have kU1S := u6.c1
          have kV0S := v6.c0
          have kV1S := v6.c1
          have kMS := F6.m.cell
          refine hKc.out _ _ ?_ (fun hHeld => ?_)
          · (try dsimp only)
            refine ⟨?_, ?_, ?_, ?_, ?_⟩ <;> (repeat (with_reducible (first | refine cell_dr ?_ | refine cell_al _ ?_ | exact kU0S | exact kU1S | exact kV0S | exact kV1S | exact kMS)))
          clear hKc Kc
          (try simp only [List.getElem_toArray]); (try simp only [List.getElem_cons_succ]); (try simp only [List.getElem_cons_zero]); (try simp only [Act.put]); (try simp only [List.setIfInBounds_toArray]); (try simp only [List.set_cons_succ]); (try simp only [List.set_cons_zero])
          clear kU0S kU1S kV0S kV1S kMS u6
          refine wpAnyH_done (by kernel_rfl) ?_ _
          refine NoPanic.normal ?_
          clear hHeld
          have hs6 := B6.size
          have z0 := z6.c0
          have z1 := z6.c1
          have v0 := v6.c0
          have v1 := v6.c1
          have r0 := F6.r.c0
          have r1 := F6.r.c1
          gi_wp2_with (refine ⟨trivial, ?_⟩; gi_at_call 71; refine (CallsIn.inRound l (callsIn_wide.2 (HN.out _))).mono ?_; rintro e w7 ⟨rfl, hb7⟩; have F7 := F6.below hb7; have B7 : Below W.heap.size W w7 := B6.trans (hb7.mono hs6); have g2' := F7.a.f0; have g3' := F7.a.f1; have g4' := F7.a.c0; have g5' := F7.a.c1; have g6' := F7.f.cell; have g7' := F7.f.frozen)
          refine ⟨((((KeepsOthers.of_grownBy (grown_of_below B7) (fun j o e _ => by cases e)).trans (KeepsOthers.setCell _ _ _)).trans (KeepsOthers.setCell _ _ _)).trans (KeepsOthers.setCell _ _ _)).from _, ⟨rfl, by rw [← HNN.out.1, ← HNN.out.2]; exact F7.told nn nd true⟩, (((hB.trans (B7.mono hB.size)).setCell (p := ⟨P + 1 + 1, 0, none⟩) (by show _ ≤ P + 1 + 1; omega) _).setCell (p := ⟨P + 1 + 1, 1, none⟩) (by show _ ≤ P + 1 + 1; omega) _).setCell (p := ⟨P + 1 + 1 + 1, 0, none⟩) (by show _ ≤ P + 1 + 1 + 1; omega) _⟩
      · have HE' : Hid (∀ rest', cf p q = (pre ++ [x]) ++ rest' → near p q most = nearL p q most rest' (cvs (pre ++ [x]))) := by
          intro rest' h'
          have h2 := hE0 (x :: rest') (by rw [h']; simp)
          rw [h2, cvs_snoc]
          show (if most < (cvs pre).hd + x * (cvs pre).d then _ else _) = _
          rw [if_neg hex]
        have HV' : Hid (cvs (pre ++ [x]) = ⟨(cvs pre).n, (cvs pre).d, (cvs pre).hn + x * (cvs pre).n, (cvs pre).hd + x * (cvs pre).d⟩) := cvs_snoc _ _
        clear hE hE0 hpure hcf hhm ha htr
        obtain ⟨c, hV⟩ : ∃ c, c = cvs pre := ⟨_, rfl⟩
        rw [← hV] at rU' rV' hb1 hb2 hdm hex HV'
        obtain ⟨hn, hd, n, d⟩ := c
        simp only at rU' rV' hb1 hb2 hdm hex
        obtain ⟨b1, b2, b3, b4, b5, b6, b7, b8⟩ := hb1
        obtain ⟨n1, n2, n3, n4⟩ := hb2
        have HW1 : Hid (∀ u : World, Calls Try.prog 70 #[.agg #[.int .i64 hn, .int .i64 hd], .agg #[.int .i64 n, .int .i64 d], .int .i64 x] u fun e w' => e = .returned (.agg #[.int .i64 (hn + x * n), .int .i64 (hd + x * d)]) ∧ Below u.heap.size u w') :=
          fun u => withParts_any hn hd n d x u (by omega) (by omega) (by omega) (by omega) (by omega) (by omega) (by omega) (by omega)
        obtain ⟨tn, htn⟩ : ∃ z, z = hn + x * n := ⟨_, rfl⟩
        obtain ⟨td, htd⟩ : ∃ z, z = hd + x * d := ⟨_, rfl⟩
        simp only at HV'
        rw [← htn, ← htd] at HV' HW1
        rw [← htd] at hex
        have hdec : decide (most < td) = false := decide_eq_false hex
        clear hV b1 b2 b3 b4 b5 b6 b7 b8 n1 n2 n3 n4 htn htd t1 t2
        have q0 := rU'.c0
        have q1 := rU'.c1
        have q2 := rV'.c0
        have q3 := rV'.c1
        have hUl := rU'.lt
        have hVl := rV'.lt
        have hszB := hB.size
        gi_wp2_with (refine ⟨trivial, ?_⟩; gi_at_call 70; refine (CallsIn.inRound l (callsIn_wide.2 (HW1.out _))).mono ?_; rintro e w2 ⟨rfl, hb2⟩; have u2 := rU'.below hb2; have v2 := rV'.below hb2; have F2 := FX.below hb2; have q0' := u2.c0; have q1' := u2.c1; have q2' := v2.c0; have q3' := v2.c1; have q4' := u2.f0; have q5' := u2.f1; have q6' := v2.f0; have q7' := v2.f1; have q8' := F2.m.cell; have hU2 := u2.lt; have hV2 := v2.lt; have hM2 := F2.m.lt)
        have hmix : Try.prog.follows Departure.mixedOrders = true := by kernel_rfl
        have hlate : Try.prog.follows Departure.lateStores = true := by kernel_rfl
        gi_region_o
        all_goals gi_wp2
        all_goals (obtain ⟨e1, e2, ⟨e3, e4, e5⟩, e6⟩ := moved_end (D := Wl.heap.size) (tn := tn) (td := td) hB hb2 (by omega) hPU hwP u2 v2 F2 (.cells #[.int .i64 tn, .int .i64 td] 25); exact ⟨e1, e2, ⟨by rw [HV'.out]; exact e3, by rw [HV'.out]; exact e4, e5⟩, e6, HE'.out, by rw [HV'.out]; exact hex, fun _ => by rw [HV'.out]; exact hdm⟩)
    case done =>
      rintro D ys W hD rfl ⟨⟨rU', rV', FX⟩, hB, hpure⟩ hK
      have hall := hpure.out.1 [] (by rw [termsL_yes HK.out]; simp)
      have HNr : Hid (near p q most = ((cvs (termsL p q)).n, (cvs (termsL p q)).d)) := hall
      clear i0 hpure hall rU'
      obtain ⟨qn, hqn⟩ : ∃ z, z = (cvs (termsL p q)).n := ⟨_, rfl⟩
      obtain ⟨qd, hqd⟩ : ∃ z, z = (cvs (termsL p q)).d := ⟨_, rfl⟩
      rw [← hqn, ← hqd] at HNr rV'
      clear hqn hqd
      have q0 := rV'.c0
      have q1 := rV'.c1
      have q2 := FX.a.f0
      have q3 := FX.a.f1
      have q4 := FX.a.c0
      have q5 := FX.a.c1
      have q6 := FX.f.cell
      have q7 := FX.f.frozen
      gi_wp2
      have hK2 : (((W.setCell ⟨P + 1 + 1, 0, none⟩ (.int .i64 qn)).setCell ⟨P + 1 + 1, 1, none⟩ (.int .i64 qd)).setCell ⟨P + 1 + 1 + 1, 0, none⟩ (.bool true)).heap[D]? = some (.deferred (some [])) := (((KeepsOthers.setCell W ⟨P + 1 + 1, 0, none⟩ (.int .i64 qn)).trans (KeepsOthers.setCell _ ⟨P + 1 + 1, 1, none⟩ (.int .i64 qd))).trans (KeepsOthers.setCell _ ⟨P + 1 + 1 + 1, 0, none⟩ (.bool true))).same D _ hK rfl
      have F2 := FX.told qn qd true
      have B2 : Below w.heap.size w (((W.setCell ⟨P + 1 + 1, 0, none⟩ (.int .i64 qn)).setCell ⟨P + 1 + 1, 1, none⟩ (.int .i64 qd)).setCell ⟨P + 1 + 1 + 1, 0, none⟩ (.bool true)) := ((hB.setCell (p := ⟨P + 1 + 1, 0, none⟩) (by show _ ≤ P + 1 + 1; omega) _).setCell (p := ⟨P + 1 + 1, 1, none⟩) (by show _ ≤ P + 1 + 1; omega) _).setCell (p := ⟨P + 1 + 1 + 1, 0, none⟩) (by show _ ≤ P + 1 + 1 + 1; omega) _
      obtain ⟨W2, hW2⟩ : ∃ W2, W2 = (((W.setCell ⟨P + 1 + 1, 0, none⟩ (.int .i64 qn)).setCell ⟨P + 1 + 1, 1, none⟩ (.int .i64 qd)).setCell ⟨P + 1 + 1 + 1, 0, none⟩ (.bool true)) := ⟨_, rfl⟩
      rw [← hW2] at hK2 F2 B2 ⊢
      have a3 : IsR (W2.putObj D (.deferred none)) (P + 1 + 1) qn qd := (World.putObj_heap_other (by omega)).trans F2.a
      have f3 : Boxed (W2.putObj D (.deferred none)) (P + 1 + 1 + 1) 4 (.bool true) := (World.putObj_heap_other (by omega)).trans F2.f
      have e0 := a3.c0
      have e1 := a3.c1
      have e2 := f3.cell
      refine ⟨by simp, .inl ⟨_, _, rfl, run_takeDeferred hK2, ?_⟩⟩
      exact ⟨.tuple #[.agg #[.int .i64 qn, .int .i64 qd], .bool true], by simp [results, Try.results41, go_sem, e0, e1, e2], ret_near (by rw [(nr_yes HB.out).1, HNr.out]) (by rw [(nr_yes HB.out).2, HNr.out]) HB.out, B2.trans (belowK_b (w := w) (Nat.le_refl _) W2 D _ _ (by have := B2.size; omega) hK2 rfl rfl)⟩
    case stop =>
      rintro D c pre W hD _ ⟨⟨rfl, FX⟩, hB⟩ hK
      gi_wp2
      have a3 : IsR (W.putObj D (.deferred none)) (P + 1 + 1) (near p q most).1 (near p q most).2 := (World.putObj_heap_other (by omega)).trans FX.a
      have f3 : Boxed (W.putObj D (.deferred none)) (P + 1 + 1 + 1) 4 (.bool true) := (World.putObj_heap_other (by omega)).trans FX.f
      have e0 := a3.c0
      have e1 := a3.c1
      have e2 := f3.cell
      refine ⟨by simp, .inl ⟨_, _, rfl, run_takeDeferred hK, ?_⟩⟩
      exact ⟨.tuple #[.agg #[.int .i64 (near p q most).1, .int .i64 (near p q most).2], .bool true], by simp [results, Try.results41, go_sem, e0, e1, e2], ret_near (nr_yes HB.out).1 (nr_yes HB.out).2 HB.out, hB.trans (belowK_b (w := w) (Nat.le_refl _) W D _ _ (by have := hB.size; omega) hK rfl rfl)⟩
  · rw [Bool.not_eq_true] at hb
    have HB : Hid (nrB p q most = false) := hb
    clear hb
    by_cases hok : okB p q = true
    · have hm : most < 1 ∨ 1000000000 < most := by
        have h := HB.out
        unfold nrB at h
        rw [hok, Bool.true_and] at h
        have := of_decide_eq_false h
        omega
      by_cases g1 : most < 1
      · have g3 : decide (most < 1) = true := decide_eq_true g1
        clear hm
        go_enter Try.func41, Try.ntmps41
        go_wp2_with fail
        refine (right_any p q _).mono ?_
        rintro e W1 ⟨rfl, hb1⟩
        rw [hok]
        obtain ⟨FX1, B1⟩ := Fx_start p q most w W1 hb1
        have cm := FX1.m.cell
        have c2 := FX1.a.f0
        have c3 := FX1.a.f1
        have c4 := FX1.a.c0
        have c5 := FX1.a.c1
        have c6 := FX1.f.cell
        have c7 := FX1.f.frozen
        clear hb1
        go_wp2
        have F2 := FX1.told 0 0 false
        have e0 := F2.a.c0
        have e1 := F2.a.c1
        have e2 := F2.f.cell
        exact bodyPost_ret (v := .tuple #[.agg #[.int .i64 0, .int .i64 0], .bool false]) (by simp [results, Try.results41, go_sem, e0, e1, e2]) rfl ⟨ret_near (nr_no HB.out).1 (nr_no HB.out).2 HB.out, ((B1.setCell (p := ⟨w.heap.size + 1 + 1, 0, none⟩) (by show _ ≤ w.heap.size + 1 + 1; omega) _).setCell (p := ⟨w.heap.size + 1 + 1, 1, none⟩) (by show _ ≤ w.heap.size + 1 + 1; omega) _).setCell (p := ⟨w.heap.size + 1 + 1 + 1, 0, none⟩) (by show _ ≤ w.heap.size + 1 + 1 + 1; omega) _⟩
      · have g2 : 1000000000 < most := by omega
        have g3 : decide (most < 1) = false := decide_eq_false g1
        have g4 : decide (1000000000 < most) = true := decide_eq_true g2
        clear hm
        go_enter Try.func41, Try.ntmps41
        go_wp2_with fail
        refine (right_any p q _).mono ?_
        rintro e W1 ⟨rfl, hb1⟩
        rw [hok]
        obtain ⟨FX1, B1⟩ := Fx_start p q most w W1 hb1
        have cm := FX1.m.cell
        have c2 := FX1.a.f0
        have c3 := FX1.a.f1
        have c4 := FX1.a.c0
        have c5 := FX1.a.c1
        have c6 := FX1.f.cell
        have c7 := FX1.f.frozen
        clear hb1
        go_wp2
        have F2 := FX1.told 0 0 false
        have e0 := F2.a.c0
        have e1 := F2.a.c1
        have e2 := F2.f.cell
        exact bodyPost_ret (v := .tuple #[.agg #[.int .i64 0, .int .i64 0], .bool false]) (by simp [results, Try.results41, go_sem, e0, e1, e2]) rfl ⟨ret_near (nr_no HB.out).1 (nr_no HB.out).2 HB.out, ((B1.setCell (p := ⟨w.heap.size + 1 + 1, 0, none⟩) (by show _ ≤ w.heap.size + 1 + 1; omega) _).setCell (p := ⟨w.heap.size + 1 + 1, 1, none⟩) (by show _ ≤ w.heap.size + 1 + 1; omega) _).setCell (p := ⟨w.heap.size + 1 + 1 + 1, 0, none⟩) (by show _ ≤ w.heap.size + 1 + 1 + 1; omega) _⟩
    · rw [Bool.not_eq_true] at hok
      go_enter Try.func41, Try.ntmps41
      go_wp2_with fail
      refine (right_any p q _).mono ?_
      rintro e W1 ⟨rfl, hb1⟩
      rw [hok]
      obtain ⟨FX1, B1⟩ := Fx_start p q most w W1 hb1
      have cm := FX1.m.cell
      have c2 := FX1.a.f0
      have c3 := FX1.a.f1
      have c4 := FX1.a.c0
      have c5 := FX1.a.c1
      have c6 := FX1.f.cell
      have c7 := FX1.f.frozen
      clear hb1
      go_wp2
      have F2 := FX1.told 0 0 false
      have e0 := F2.a.c0
      have e1 := F2.a.c1
      have e2 := F2.f.cell
      exact bodyPost_ret (v := .tuple #[.agg #[.int .i64 0, .int .i64 0], .bool false]) (by simp [results, Try.results41, go_sem, e0, e1, e2]) rfl ⟨ret_near (nr_no HB.out).1 (nr_no HB.out).2 HB.out, ((B1.setCell (p := ⟨w.heap.size + 1 + 1, 0, none⟩) (by show _ ≤ w.heap.size + 1 + 1; omega) _).setCell (p := ⟨w.heap.size + 1 + 1, 1, none⟩) (by show _ ≤ w.heap.size + 1 + 1; omega) _).setCell (p := ⟨w.heap.size + 1 + 1 + 1, 0, none⟩) (by show _ ≤ w.heap.size + 1 + 1 + 1; omega) _⟩
end Go.Proofs.Ytllgbfoffebojaa
