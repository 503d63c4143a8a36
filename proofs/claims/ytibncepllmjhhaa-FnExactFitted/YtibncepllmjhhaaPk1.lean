/- Several texts of this proof laid one behind the other: each has its own heading below. -/
import Derived.Test.YtibncepllmjhhaaBudMath
import Derived.Test.YtibncepllmjhhaaBudW1
import Derived.Test.YtibncepllmjhhaaTimW3
import Derived.Maps.AppendAt
import Derived.Test.YtibncepllmjhhaaFitP4
import Derived.Deep.RegionHeld3
import Derived.Deep.CutRange

/- The walk of the model's sum over all of a cover. -/
namespace Go.Proofs.Ytibncepllmjhhaa
open Go.RowKit Go.Proofs.Ytibncepllmjhhaa.RM

theorem g_drew1 {w w' : World} {row : Option Nat} (h : w.grownBy w' row) : w.grownBy w'.drew row := g_drewN h 1
/-- two products and a sum, told -/
theorem kStep (K : Nat) (bd : Bool) (s a c b : Fr) (p q : Fr) (r : Fr × Bool) (hp : p = p1V a c) (hq : q = p1V p b) (hr : r = stpV (s, bd) a c b) :
    (∀ W : World, IsK W K bd → Calls Try.prog 43 #[.pointer (some ⟨K, 0, none⟩), .agg #[.int .i64 a.1, .int .i64 a.2], .agg #[.int .i64 c.1, .int .i64 c.2]] W fun e w' => e = .returned (.agg #[.int .i64 p.1, .int .i64 p.2]) ∧ IsK w' K (bd || !mulK a c) ∧ W.grownBy w' (some K)) ∧
    (∀ W : World, IsK W K (bd || !mulK a c) → Calls Try.prog 43 #[.pointer (some ⟨K, 0, none⟩), .agg #[.int .i64 p.1, .int .i64 p.2], .agg #[.int .i64 b.1, .int .i64 b.2]] W fun e w' => e = .returned (.agg #[.int .i64 q.1, .int .i64 q.2]) ∧ IsK w' K ((bd || !mulK a c) || !mulK p b) ∧ W.grownBy w' (some K)) ∧
    (∀ W : World, IsK W K ((bd || !mulK a c) || !mulK p b) → Calls Try.prog 42 #[.pointer (some ⟨K, 0, none⟩), .agg #[.int .i64 s.1, .int .i64 s.2], .agg #[.int .i64 q.1, .int .i64 q.2]] W fun e w' => e = .returned (.agg #[.int .i64 r.1.1, .int .i64 r.1.2]) ∧ IsK w' K r.2 ∧ W.grownBy w' (some K)) := by
  subst hp
  subst hq
  subst hr
  exact ⟨fun W hW => kMul K bd a.1 a.2 c.1 c.2 W hW, fun W hW => kMul K _ _ _ b.1 b.2 W hW, fun W hW => kAdd K _ s.1 s.2 _ _ W hW⟩

end Go.Proofs.Ytibncepllmjhhaa

/- The walk of the model's Variance. -/
namespace Go.Proofs.Ytibncepllmjhhaa
open Go.RowKit Go.Proofs.Ytibncepllmjhhaa.RM

/-- the variance of shares: does the model tell it, and what -/
def varS (ps : List Fr) (rows : List (List Fr)) : Fr × Bool := sumV ps rows ps false rows.length
def varO (ps : List Fr) (rows : List (List Fr)) : Bool := toldC ps rows && !(varS ps rows).2
def varA (ps : List Fr) (rows : List (List Fr)) : Fr := if varO ps rows = true then (varS ps rows).1 else (0, 0)
theorem varA_no {ps : List Fr} {rows : List (List Fr)} (h : varO ps rows = false) : varA ps rows = (0, 0) := by unfold varA; rw [h]; rfl
theorem varA_yes {ps : List Fr} {rows : List (List Fr)} (h : varO ps rows = true) : varA ps rows = (varS ps rows).1 := by unfold varA; rw [if_pos h]
theorem toldC_out {ps : List Fr} {rows : List (List Fr)} (h : toldC ps rows = true) : (1 ≤ rows.length ∧ rows.length ≤ 6) ∧ ps.length = rows.length ∧ allOk ps = true ∧ (∀ k, k < rows.length → (rw' rows k).length = rows.length ∧ allOk (rw' rows k) = true) ∧ symP rows := by
  unfold toldC at h
  rw [Bool.and_eq_true] at h
  obtain ⟨h1, h2, h3⟩ := covB_out h.1
  obtain ⟨h4, h5⟩ := allB_len (by omega) h.2
  exact ⟨h1, by omega, h5, h2, h3⟩
theorem ret_vb {a b a' b' : Int} {o o' : Bool} (h1 : a = a') (h2 : b = b') (h3 : o = o') : Ending.returned (.tuple #[.agg #[.int .i64 a, .int .i64 b], .bool o]) = .returned (.tuple #[.agg #[.int .i64 a', .int .i64 b'], .bool o']) := by rw [h1, h2, h3]

end Go.Proofs.Ytibncepllmjhhaa

/- The walk of the model's Alone. -/
namespace Go.Proofs.Ytibncepllmjhhaa
open Go.RowKit Go.Proofs.Ytibncepllmjhhaa.RM

theorem repB_succ (n : Nat) (x : Fr) : List.replicate (n + 1) x = List.replicate n x ++ [x] := by rw [List.replicate_succ']
theorem rowB_set {W : World} {base g L c : Nat} {ps : List Fr} (h : W.ownsRow base 33 2 (.slice (some ⟨g, 0, none⟩) L c) L (cellsR ps)) (hl : ps.length = L) (k : Nat) (hk : k < L) (x y : Int) :
    ((W.setCell ⟨g, k * 2, none⟩ (.int .i64 x)).setCell ⟨g, k * 2 + 1, none⟩ (.int .i64 y)).ownsRow base 33 2 (.slice (some ⟨g, 0, none⟩) L c) L (cellsR (ps.set k (x, y))) := by
  obtain ⟨p1, p2⟩ := h.stored (k * 2) (.int .i64 x)
  obtain ⟨p3, p4⟩ := p1.stored (k * 2 + 1) (.int .i64 y)
  rw [cellsR_set _ _ _ _ (by rw [hl]; exact hk)] at p3
  exact p3
theorem ownB_low {S : Nat} {W W' : World} {base e size n : Nat} {v : Value} {xs : List Value} (h : W.ownsRow base e size v n xs) (hu : ∀ b, v.ownBlock = some b → b < S) (hb : Below S W W') : W'.ownsRow base e size v n xs := by
  refine ⟨h.1, ?_⟩
  rcases h.2 with k | ⟨g, cap, cur, e1, e2, e3, r⟩
  · exact .inl k
  · subst e1
    exact .inr ⟨g, cap, cur, rfl, e2, (hb.block g (hu g rfl)).trans e3, r⟩
theorem TabB_low {S : Nat} {W W' : World} {base : Nat} {v : Value} {us : List Value} {rows : List (List Fr)} (h : Tab W base v us rows) (hu : Under S v us) (hb : Below S W W') : Tab W' base v us rows :=
  ⟨ownB_low h.outer hu.1 hb, h.len, fun i hi => ownB_low (h.inner i hi) (hu.2 i hi) hb, h.apart⟩

/-- a row of noughts but for one -/
def aloneR (vs : List Fr) (n i : Nat) : List Fr := (List.replicate n (0, 1)).set i (fr vs i)
def aloneT (vs : List Fr) (k : Nat) : List (List Fr) := (List.range k).map fun i => aloneR vs vs.length i
def aloneC (vs : List Fr) : Bool := decide (1 ≤ vs.length ∧ vs.length ≤ 6) && allB vs vs.length
def aloneA (vs : List Fr) : List (List Fr) := if aloneC vs = true then aloneT vs vs.length else []
theorem aloneR_len (vs : List Fr) (n i : Nat) : (aloneR vs n i).length = n := by simp [aloneR]
theorem aloneT_succ (vs : List Fr) (k : Nat) : aloneT vs (k + 1) = aloneT vs k ++ [aloneR vs vs.length k] := by simp [aloneT, List.range_succ]
theorem aloneA_no {vs : List Fr} (h : aloneC vs = false) : aloneA vs = [] := by unfold aloneA; rw [h]; rfl
theorem aloneA_yes {vs : List Fr} (h : aloneC vs = true) : aloneA vs = aloneT vs vs.length := by unfold aloneA; rw [if_pos h]

end Go.Proofs.Ytibncepllmjhhaa

/- The walks of the program's powers and of Fitted's function values; the rows of sums on their way. -/
namespace Go.Proofs.Ytibncepllmjhhaa
open Go.RowKit Go.Proofs.Ytibncepllmjhhaa.RM

theorem pwr_any (x1 x2 : Int) (w : World) :
    Calls Try.prog 71 #[.agg #[.int .i64 x1, .int .i64 x2]] w fun e w' => e = .returned (.func (.func 78) #[] #[.pointer (some ⟨w.heap.size + 1, 0, none⟩), .pointer (some ⟨w.heap.size, 0, none⟩)]) ∧ w' = (w.alloc (.cells #[.int .i64 x1, .int .i64 x2] 33)).alloc (.cells #[.int .i64 1, .int .i64 1] 33) := by
  go_enter Try.func71, Try.ntmps71
  go_wp2
  go_ret
  exact ⟨rfl, rfl⟩

theorem IsR.gk {W W' : World} {R K : Nat} {n d : Int} (h : IsR W R n d) (hg : W.grownBy W' (some K)) (hne : R ≠ K) : IsR W' R n d := IsR.grown h hg hne
theorem own_gne {K : Nat} {W W' : World} {base e size n : Nat} {v : Value} {xs : List Value} (h : W.ownsRow base e size v n xs) (hg : W.grownBy W' (some K)) (hne : v.ownBlock ≠ some K) : W'.ownsRow base e size v n xs := h.kept hg (.inr hne)

set_option maxRecDepth 100000 in
set_option maxHeartbeats 2000000 in
theorem nxt_any (P X : Nat) (p1 p2 x1 x2 : Int) (w : World) (hP : IsR w P p1 p2) (hX : IsR w X x1 x2) :
    Calls Try.prog 78 #[.pointer (some ⟨P, 0, none⟩), .pointer (some ⟨X, 0, none⟩)] w fun e w' => e = .returned (.agg #[.int .i64 p1, .int .i64 p2]) ∧ IsR w' P (mulP (p1, p2) (x1, x2)).1 (mulP (p1, p2) (x1, x2)).2 ∧ w.grownBy w' (some P) := by
  have HM := hidP (fun W => mulC p1 p2 x1 x2 W)
  obtain ⟨r, hr⟩ : ∃ r, r = mulP (p1, p2) (x1, x2) := ⟨_, rfl⟩
  obtain ⟨ro, hro⟩ : ∃ r, r = mulK (p1, p2) (x1, x2) := ⟨_, rfl⟩
  rw [← hr, ← hro] at HM
  rw [← hr]
  clear hr hro
  obtain ⟨r1, r2⟩ := r
  dsimp only at HM ⊢
  go_enter Try.func78, Try.ntmps78
  obtain ⟨Y, hY⟩ : ∃ Y, Y = w.alloc (.cells #[.int .i64 0, .int .i64 0] 33) := ⟨_, rfl⟩
  have hb0 : Below w.heap.size w Y := by rw [hY]; exact b0S _ _
  have hsY : Y.heap.size = w.heap.size + 1 := by rw [hY]; simp
  have R0 : IsR Y w.heap.size 0 0 := by rw [hY]; exact IsR.new _ _ _
  have P0 := hP.below hb0
  have X0 := hX.below hb0
  obtain ⟨Z, hZ⟩ : ∃ Z, Z = Y.alloc (.cells #[.int .i64 p1, .int .i64 p2] 33) := ⟨_, rfl⟩
  have hb1 : Below Y.heap.size Y Z := by rw [hZ]; exact b0S _ _
  have M1 : IsR Z (w.heap.size + 1) p1 p2 := by rw [hZ, ← hsY]; exact IsR.new _ _ _
  have P1 := P0.below hb1
  have X1 := X0.below hb1
  have R1 := R0.below hb1
  have B1 : Below w.heap.size w Z := hb0.trans (hb1.mono hb0.size)
  have a0 := P0.c0
  have a1 := P0.c1
  have a2 := P1.c0
  have a3 := P1.c1
  have a4 := X1.c0
  have a5 := X1.c1
  have hPl := hP.lt
  rw [hZ, hY] at a2 a3 a4 a5
  rw [hY] at a0 a1
  go_wp2_with fail
  rw [← hY, ← hZ]
  clear a0 a1 a2 a3 a4 a5
  refine (HM.out _).mono ?_
  rintro e w1 ⟨rfl, hb⟩
  replace P1 := P1.below hb
  replace M1 := M1.below hb
  replace R1 := R1.below hb
  replace B1 := B1.trans (hb.mono B1.size)
  clear hb P0 X0 R0 hb0 hb1 hY hZ X1
  have hPM : w.heap.size + 1 ≠ P := by omega
  have hPR : w.heap.size ≠ P := by omega
  have e0 := P1.f0
  have e1 := P1.f1
  have e2 := P1.c0
  have e3 := P1.c1
  have m0 := M1.c0
  have m1 := M1.c1
  have z0 := R1.c0
  have z1 := R1.c1
  have z2 := R1.f0
  have z3 := R1.f1
  go_wp2
  have P2 : IsR ((w1.setCell ⟨P, 0, none⟩ (.int .i64 r1)).setCell ⟨P, 1, none⟩ (.int .i64 r2)) P r1 r2 := (P1.set0 r1).set1 r2
  have R2 : IsR ((w1.setCell ⟨P, 0, none⟩ (.int .i64 r1)).setCell ⟨P, 1, none⟩ (.int .i64 r2)) w.heap.size 0 0 := (R1.other hPR 0 _).other hPR 1 _
  obtain ⟨V, hV⟩ : ∃ V, V = ((w1.setCell ⟨P, 0, none⟩ (.int .i64 r1)).setCell ⟨P, 1, none⟩ (.int .i64 r2)) := ⟨_, rfl⟩
  have G1 : w.grownBy V (some P) := by
    rw [hV]
    exact g_set (g_set (grown_new B1) (.inr rfl) 0 _) (.inr rfl) 1 _
  rw [← hV] at P2 R2 ⊢
  have R3 := (R2.set0 p1).set1 p2
  have v0 := R3.c0
  have v1 := R3.c1
  exact bodyPost_ret (v := .agg #[.int .i64 p1, .int .i64 p2]) (by simp [results, Try.results78, go_sem, v0, v1]) rfl ⟨rfl, (P2.other hPR.symm 0 _).other hPR.symm 1 _, g_set (g_set G1 (.inl (Nat.le_refl _)) 0 _) (.inl (Nat.le_refl _)) 1 _⟩

theorem oneT_any (x1 x2 y1 y2 : Int) (w : World) :
    Calls Try.prog 51 #[.agg #[.int .i64 x1, .int .i64 x2, .int .i64 y1, .int .i64 y2]] w fun e w' => e = .returned (.agg #[.int .i64 1, .int .i64 1]) ∧ Below w.heap.size w w' := by
  go_enter Try.func51, Try.ntmps51
  go_wp2
  exact bodyPost_ret (v := .agg #[.int .i64 1, .int .i64 1]) (by simp [results, Try.results51, go_sem]) rfl ⟨rfl, ((Below.refl _ _).alloc (Nat.le_refl _) _).alloc (by simp) _⟩
theorem sndT_any (x1 x2 y1 y2 : Int) (w : World) :
    Calls Try.prog 52 #[.agg #[.int .i64 x1, .int .i64 x2, .int .i64 y1, .int .i64 y2]] w fun e w' => e = .returned (.agg #[.int .i64 y1, .int .i64 y2]) ∧ Below w.heap.size w w' := by
  go_enter Try.func52, Try.ntmps52
  go_wp2
  exact bodyPost_ret (v := .agg #[.int .i64 y1, .int .i64 y2]) (by simp [results, Try.results52, go_sem]) rfl ⟨rfl, ((Below.refl _ _).alloc (Nat.le_refl _) _).alloc (by simp) _⟩

/-- a list told by its places -/
theorem fr_map (n : Nat) (h : Nat → Fr) (p : Nat) (hp : p < n) : fr ((List.range n).map h) p = h p := by unfold fr; simp [hp]
theorem map_set (n : Nat) (h h' : Nat → Fr) (p : Nat) (x : Fr) (hp : h' p = x) (ho : ∀ i, i < n → i ≠ p → h' i = h i) : ((List.range n).map h).set p x = (List.range n).map h' := by
  apply List.ext_getElem?
  intro i
  by_cases hi : i < n
  · by_cases e : p = i
    · subst e
      rw [List.getElem?_set_self (by simp; exact hi)]
      simp [hi, hp]
    · rw [List.getElem?_set_ne e]
      simp [hi, ho i hi (fun k => e k.symm)]
  · rw [List.getElem?_eq_none (by simp; omega), List.getElem?_eq_none (by simp; omega)]
/-- the sums, of which the first j are 0 -/
def iniS (n j : Nat) : List Fr := (List.range n).map fun i => if i < j then (0, 1) else (0, 0)
/-- the sums over k spots, the first p with one more -/
def mixS (f : Nat → Fr) (ss : List Sp) (n k p : Nat) : List Fr := (List.range n).map fun i => if i < p then spS f ss i (k + 1) else spS f ss i k
def smsK (f : Nat → Fr) (ss : List Sp) (n k : Nat) : List Fr := (List.range n).map fun i => spS f ss i k
theorem iniS_len (n j : Nat) : (iniS n j).length = n := by simp [iniS]
theorem mixS_len (f : Nat → Fr) (ss : List Sp) (n k p : Nat) : (mixS f ss n k p).length = n := by simp [mixS]
theorem iniS_zero (n : Nat) : iniS n 0 = List.replicate n (0, 0) := by
  unfold iniS
  apply List.ext_getElem?
  intro i
  by_cases h : i < n <;> simp [h]
theorem iniS_all (f : Nat → Fr) (ss : List Sp) (n : Nat) : iniS n n = smsK f ss n 0 := by
  unfold iniS smsK
  exact List.map_congr_left fun i hi => by rw [List.mem_range] at hi; rw [if_pos hi]; rfl
theorem iniS_set (n j : Nat) : (iniS n j).set j (0, 1) = iniS n (j + 1) := by
  unfold iniS
  refine map_set n _ _ j (0, 1) (by rw [if_pos (by omega)]) fun i _ hne => ?_
  by_cases e : i < j
  · rw [if_pos e, if_pos (by omega)]
  · rw [if_neg e, if_neg (by omega)]
theorem mixS_zero (f : Nat → Fr) (ss : List Sp) (n k : Nat) : mixS f ss n k 0 = smsK f ss n k := by
  unfold mixS smsK
  exact List.map_congr_left fun i _ => by rw [if_neg (by omega)]
theorem mixS_all (f : Nat → Fr) (ss : List Sp) (n k : Nat) : mixS f ss n k n = smsK f ss n (k + 1) := by
  unfold mixS smsK
  exact List.map_congr_left fun i hi => by rw [List.mem_range] at hi; rw [if_pos hi]
theorem mixS_at (f : Nat → Fr) (ss : List Sp) (n k p : Nat) (hp : p < n) : fr (mixS f ss n k p) p = spS f ss p k := by
  unfold mixS
  rw [fr_map _ _ _ hp, if_neg (Nat.lt_irrefl _)]
theorem mixS_set (f : Nat → Fr) (ss : List Sp) (n k p : Nat) : (mixS f ss n k p).set p (spS f ss p (k + 1)) = mixS f ss n k (p + 1) := by
  unfold mixS
  refine map_set n _ _ p _ (by rw [if_pos (by omega)]) fun i _ hne => ?_
  by_cases e : i < p
  · rw [if_pos e, if_pos (by omega)]
  · rw [if_neg e, if_neg (by omega)]
theorem smsK_all (f : Nat → Fr) (ss : List Sp) (n : Nat) : smsK f ss n ss.length = smsL f ss n := rfl
end Go.Proofs.Ytibncepllmjhhaa

/- The walk of the program's sums by power, with the function value of A. -/
namespace Go.Proofs.Ytibncepllmjhhaa
open Go.RowKit Go.Proofs.Ytibncepllmjhhaa.RM

set_option maxRecDepth 100000 in
set_option maxHeartbeats 16000000 in
theorem sumsA_any (f : Nat → Fr) (v : Value) (ss : List Sp) (n : Nat) (w : World) (h : RdS w v ss) (hn9 : n ≤ 900)
    (hf : ∀ k, k < ss.length → ∀ W : World, Below w.heap.size w W → Calls Try.prog 51 #[.agg #[.int .i64 (sp ss k).1.1, .int .i64 (sp ss k).1.2, .int .i64 (sp ss k).2.1, .int .i64 (sp ss k).2.2]] W fun e w' => e = .returned (.agg #[.int .i64 (f k).1, .int .i64 (f k).2]) ∧ Below W.heap.size W w') :
    Calls Try.prog 50 #[v, .int .i64 n, .func (.func 51) #[] #[]] w fun e w' => ∃ g, e = .returned (.slice (some ⟨g, 0, none⟩) n n) ∧ w'.ownsRow w.heap.size 33 2 (.slice (some ⟨g, 0, none⟩) n n) n (cellsR (smsL f ss n)) ∧ Below w.heap.size w w' := by
  obtain ⟨i0, hi, hz0, hz1, hz2⟩ := info_parts infoF
  obtain ⟨a, c, rfl, h2, h3, h4, h5⟩ := h
  have H5 : Hid (∀ j, j < ss.length → ∃ b off, a = some ⟨b, off, none⟩ ∧ w.cell? ⟨b, off + j * 4, none⟩ = some (.int .i64 (sp ss j).1.1) ∧ w.cell? ⟨b, off + j * 4 + 1, none⟩ = some (.int .i64 (sp ss j).1.2) ∧ w.cell? ⟨b, off + j * 4 + 2, none⟩ = some (.int .i64 (sp ss j).2.1) ∧ w.cell? ⟨b, off + j * 4 + 3, none⟩ = some (.int .i64 (sp ss j).2.2)) := h5
  have HF0 := hidP hf
  unfold maxLen at h2
  obtain ⟨L, hL⟩ : ∃ L, L = ss.length := ⟨_, rfl⟩
  have HEND : Hid (smsL f ss n = smsK f ss n L) := by show _ = _; rw [hL]; rfl
  rw [← hL] at h2 H5 HF0 ⊢
  clear h5 h3 h4 hL hf
  have HI0 : Hid (iniS n 0 = List.replicate n (0, 0)) := iniS_zero n
  have HIA : Hid (iniS n n = smsK f ss n 0) := iniS_all f ss n
  have HIS : Hid (∀ j, (iniS n j).set j (0, 1) = iniS n (j + 1)) := iniS_set n
  have HIL : Hid (∀ j, (iniS n j).length = n) := iniS_len n
  have HS0 : Hid (∀ i, spS f ss i 0 = (0, 1)) := fun i => rfl
  have HSS : Hid (∀ i k, spS f ss i (k + 1) = addP (spS f ss i k) (mulP (powP (sp ss k).1 i) (f k))) := fun i k => rfl
  have HXL : Hid (∀ k p, (mixS f ss n k p).length = n) := mixS_len f ss n
  have HX0 : Hid (∀ k, mixS f ss n k 0 = smsK f ss n k) := mixS_zero f ss n
  have HXA : Hid (∀ k, mixS f ss n k n = smsK f ss n (k + 1)) := mixS_all f ss n
  have HXT : Hid (∀ k p, p < n → fr (mixS f ss n k p) p = spS f ss p k) := mixS_at f ss n
  have HXS : Hid (∀ k p, (mixS f ss n k p).set p (spS f ss p (k + 1)) = mixS f ss n k (p + 1)) := mixS_set f ss n
  go_enter Try.func50, Try.ntmps50
  go_wp2_with (at_make; refine wpList_make_full _ rfl _ _ 36 rfl w.heap.size 33 i0 (.agg #[.int .i64 0, .int .i64 0]) 2 Try.underlying36 hi hz0 hz1 .i64 .i64 _ _ n rfl rfl rfl rfl (by rw [hz2]; omega) (by unfold maxLen; omega) (Nat.le_refl _) ?_; intro w1 hown hgrow)
  obtain ⟨G, hG⟩ : ∃ G, G = w.heap.size := ⟨_, rfl⟩
  have o0 : w1.ownsRow w.heap.size 33 2 (.slice (some ⟨G, 0, none⟩) n n) n (cellsR (iniS n 0)) := by
    rw [HI0.out, hG, ← madeF]; exact hown
  have hbg : Below w.heap.size w w1 := (Below.refl _ _).grown hgrow (Nat.le_refl _) (fun k e => by cases e)
  have hwG : w.heap.size ≤ G := by omega
  rw [← hG]
  clear hown hgrow hG
  go_loopw [20] (fun i wr => ∃ j : Nat, j ≤ n ∧ i = .int .i64 j ∧ Hid (wr.ownsRow w.heap.size 33 2 (.slice (some ⟨G, 0, none⟩) n n) n (cellsR (iniS n j))) ∧ Hid (Below w.heap.size w wr)) (fun i _ => n - (intOf i).toNat)
  case atStart => exact ⟨0, Nat.zero_le _, rfl, o0, hbg⟩
  case round =>
    clear o0 hbg
    obtain ⟨j, hj, rfl, hO, hB⟩ := hrel
    by_cases hlt : j < n
    · obtain ⟨c1, c2⟩ := own_R hO.out (HIL.out j) j hlt
      have f0 := hO.out.frozenAt (j * 2)
      have f1 := hO.out.frozenAt (j * 2 + 1)
      generalize ((iniS n j)[j]?.getD (0, 0)).1 = q1 at c1
      generalize ((iniS n j)[j]?.getD (0, 0)).2 = q2 at c2
      go_wp2
      go_roundw
      case rel =>
        refine ⟨j + 1, by omega, by go_num, ?_, (hB.out.setCell (p := ⟨G, j * 2, none⟩) hwG _).setCell (p := ⟨G, j * 2 + 1, none⟩) hwG _⟩
        show World.ownsRow _ _ _ _ _ _ _
        rw [← HIS.out]
        exact rowB_set hO.out (HIL.out j) j hlt 0 1
      case measure => simp [intOf]; omega
    · obtain rfl : j = n := by omega
      have o1 := hO.out
      rw [HIA.out] at o1
      have b1 := hB.out
      clear hO hB
      go_wp2
      go_loopw [30] (fun i wr => ∃ k : Nat, k ≤ L ∧ i = .int .i64 k ∧ Hid (wr.ownsRow w.heap.size 33 2 (.slice (some ⟨G, 0, none⟩) j j) j (cellsR (smsK f ss j k))) ∧ Hid (Below w.heap.size w wr)) (fun i _ => L - (intOf i).toNat)
      case atStart => exact ⟨0, Nat.zero_le _, rfl, o1, b1⟩
      case round =>
        clear o1 b1
        obtain ⟨k, hk, rfl, hO, hB⟩ := hrel
        by_cases hltk : k < L
        · obtain ⟨b, off, rfl, d1, d2, d3, d4⟩ := H5.out k hltk
          replace d1 := cell_keep hB.out d1
          replace d2 := cell_keep hB.out d2
          replace d3 := cell_keep hB.out d3
          replace d4 := cell_keep hB.out d4
          have HF := hidP (HF0.out k hltk)
          have HSK := hidP (fun i => HSS.out i k)
          obtain ⟨y, hy⟩ : ∃ z, z = f k := ⟨_, rfl⟩
          obtain ⟨t, ht⟩ : ∃ z, z = sp ss k := ⟨_, rfl⟩
          rw [← ht] at d1 d2 d3 d4 HF
          rw [← ht, ← hy] at HSK
          rw [← hy] at HF
          clear hy ht
          obtain ⟨⟨x1, x2⟩, z1, z2⟩ := t
          obtain ⟨y1, y2⟩ := y
          dsimp only at d1 d2 d3 d4 HF HSK
          have HPW := hidP (fun W => pwr_any x1 x2 W)
          go_upto_region 10 with fail
          obtain ⟨N, hN⟩ : ∃ N, N = wr.heap.size := ⟨_, rfl⟩
          obtain ⟨X, hX⟩ : ∃ X, X = wr.alloc (.cells #[.int .i64 x1, .int .i64 x2, .int .i64 z1, .int .i64 z2] 51) := ⟨_, rfl⟩
          have hbx : Below wr.heap.size wr X := by rw [hX]; exact b0S _ _
          have c1 : X.cell? ⟨N, 0, none⟩ = some (.int .i64 x1) := by rw [hX, hN]; simp [go_sem]
          have c2 : X.cell? ⟨N, 1, none⟩ = some (.int .i64 x2) := by rw [hX, hN]; simp [go_sem]
          have c3 : X.cell? ⟨N, 2, none⟩ = some (.int .i64 z1) := by rw [hX, hN]; simp [go_sem]
          have c4 : X.cell? ⟨N, 3, none⟩ = some (.int .i64 z2) := by rw [hX, hN]; simp [go_sem]
          replace hO := hidP (own_below hO.out hbx)
          replace hB := hidP (hB.out.trans (hbx.mono hB.out.size))
          rw [← hX, ← hN]
          clear hX hN hbx d1 d2 d3 d4
          go_cut [11, 12] from 31 to 65 (fun s11 s12 wx => ∃ Tb Pb Xb : Nat, s11 = .pointer (some ⟨Tb, 0, none⟩) ∧ s12 = .func (.func 78) #[] #[.pointer (some ⟨Pb, 0, none⟩), .pointer (some ⟨Xb, 0, none⟩)] ∧ Tb ≠ Pb ∧ Pb ≠ Xb ∧ G < Xb ∧ G < Pb ∧ G < Tb ∧ w.heap.size ≤ Pb ∧ w.heap.size ≤ Tb ∧ Hid (IsR wx Tb y1 y2) ∧ Hid (IsR wx Pb 1 1) ∧ Hid (IsR wx Xb x1 x2) ∧ Hid (wx.ownsRow w.heap.size 33 2 (.slice (some ⟨G, 0, none⟩) j j) j (cellsR (smsK f ss j k))) ∧ Hid (Below w.heap.size w wx))
          case first =>
            refine wp_region_noPanic ?_
            refine wp_region_held_drew (S := (fun w' => w'.cell? ⟨N, 0, none⟩ = some (.int .i64 x1) ∧ w'.cell? ⟨N, 1, none⟩ = some (.int .i64 x2) ∧ w'.cell? ⟨N, 2, none⟩ = some (.int .i64 z1) ∧ w'.cell? ⟨N, 3, none⟩ = some (.int .i64 z2))) (by kernel_rfl) ?_ (fun hHeld => ?_)
            · (try dsimp only)
              refine ⟨?_, ?_, ?_, ?_⟩ <;> (repeat (with_reducible (first | exact c1 | exact c2 | exact c3 | exact c4 | refine cell_dr ?_ | refine cell_stb ?_ ?_ | refine cell_al _ ?_ | (show _ ≠ _; omega))))
            have hbd := (Below.refl X.heap.size X).drew
            replace hO := hidP (own_below hO.out hbd)
            replace hB := hidP (hB.out.trans (hbd.mono hB.out.size))
            clear hbd
            replace c1 := cell_dr c1
            replace c2 := cell_dr c2
            replace c3 := cell_dr c3
            replace c4 := cell_dr c4
            obtain ⟨wd, hwd⟩ : ∃ u, u = X.drew := ⟨_, rfl⟩
            rw [← hwd] at hB hO c1 c2 c3 c4 hHeld ⊢
            have hwd' := hwd
            clear hwd
            clear hwd'
            refine wpAnyH_take (i := 0) (v := ?_) rfl (by kernel_rfl) (by kernel_rfl) (by kernel_rfl) (fun _ _ _ h => h) (Or.inl ⟨by kernel_rfl, ?_⟩) hHeld ?_
            rotate_left
            · intro wz hSw; (try dsimp only at hSw); go_simp; all_goals (try with_reducible rfl)
            (try simp only [List.getElem_toArray]); (try simp only [List.getElem_cons_succ]); (try simp only [List.getElem_cons_zero]); (try simp only [Act.put]); (try simp only [List.setIfInBounds_toArray]); (try simp only [List.set_cons_succ]); (try simp only [List.set_cons_zero])
            refine wpAnyH_take (i := 1) (v := ?_) rfl (by kernel_rfl) (by kernel_rfl) (by kernel_rfl) (fun _ _ _ h => h) (Or.inl ⟨by kernel_rfl, ?_⟩) hHeld ?_
            rotate_left
            · intro wz hSw; (try dsimp only at hSw); go_simp; all_goals (try with_reducible rfl)
            (try simp only [List.getElem_toArray]); (try simp only [List.getElem_cons_succ]); (try simp only [List.getElem_cons_zero]); (try simp only [Act.put]); (try simp only [List.setIfInBounds_toArray]); (try simp only [List.set_cons_succ]); (try simp only [List.set_cons_zero])
            refine wpAnyH_take (i := 3) (v := ?_) rfl (by kernel_rfl) (by kernel_rfl) (by kernel_rfl) (fun _ _ _ h => h) (Or.inl ⟨by kernel_rfl, ?_⟩) hHeld ?_
            rotate_left
            · intro wz hSw; (try dsimp only at hSw); go_simp; all_goals (try with_reducible rfl)
            (try simp only [List.getElem_toArray]); (try simp only [List.getElem_cons_succ]); (try simp only [List.getElem_cons_zero]); (try simp only [Act.put]); (try simp only [List.setIfInBounds_toArray]); (try simp only [List.set_cons_succ]); (try simp only [List.set_cons_zero])
            refine wpAnyH_take (i := 4) (v := ?_) rfl (by kernel_rfl) (by kernel_rfl) (by kernel_rfl) (fun _ _ _ h => h) (Or.inl ⟨by kernel_rfl, ?_⟩) hHeld ?_
            rotate_left
            · intro wz hSw; (try dsimp only at hSw); go_simp; all_goals (try with_reducible rfl)
            (try simp only [List.getElem_toArray]); (try simp only [List.getElem_cons_succ]); (try simp only [List.getElem_cons_zero]); (try simp only [Act.put]); (try simp only [List.setIfInBounds_toArray]); (try simp only [List.set_cons_succ]); (try simp only [List.set_cons_zero])
            refine wpAnyH_ready (rs := [2, 6]) (by kernel_rfl) (by simp) (AllReadyH.cons rfl (fun Kc hKc => ?_) (AllReadyH.cons rfl (fun Kc hKc => ?_) AllReadyH.nil))
            ·
              go_simp
              (go_at_call 51; refine (HF.out _ (hB.out)).mono ?_; rintro e u1 ⟨rfl, hb⟩)
              replace c1 := cell_keep hb c1
              replace c2 := cell_keep hb c2
              replace c3 := cell_keep hb c3
              replace c4 := cell_keep hb c4
              replace hO := hidP (own_below hO.out hb)
              replace hB := hidP (hB.out.trans (hb.mono hB.out.size))
              clear hb
              go_wp2_with fail
              refine hKc.out _ _ ?_ (fun hHeld => ?_)
              · (try dsimp only)
                refine ⟨?_, ?_, ?_, ?_⟩ <;> (repeat (with_reducible (first | exact c1 | exact c2 | exact c3 | exact c4 | refine cell_dr ?_ | refine cell_stb ?_ ?_ | refine cell_al _ ?_ | (show _ ≠ _; omega))))
              clear hKc Kc
              (try simp only [List.getElem_toArray]); (try simp only [List.getElem_cons_succ]); (try simp only [List.getElem_cons_zero]); (try simp only [Act.put]); (try simp only [List.setIfInBounds_toArray]); (try simp only [List.set_cons_succ]); (try simp only [List.set_cons_zero])
              refine wpAnyH_ready (rs := [5, 6]) (by kernel_rfl) (by simp) (AllReadyH.cons rfl (fun Kc hKc => ?_) (AllReadyH.cons rfl (fun Kc hKc => ?_) AllReadyH.nil))
              ·
                go_simp
                (go_at_call 71; refine (HPW.out _).mono ?_; rintro e u2 ⟨rfl, hu⟩)
                obtain ⟨Xb, hXb⟩ : ∃ A, A = u1.heap.size := ⟨_, rfl⟩
                obtain ⟨Pb, hPb⟩ : ∃ A, A = u1.heap.size + 1 := ⟨_, rfl⟩
                have hb : Below u1.heap.size u1 u2 := by rw [hu]; exact ((Below.refl _ _).alloc (Nat.le_refl _) _).alloc (by simp) _
                have hX : Hid (IsR u2 Xb x1 x2) := by show IsR _ _ _ _; rw [hu, hXb]; exact (IsR.new _ _ _).below (b0S _ _)
                have hP : Hid (IsR u2 Pb 1 1) := by
                  show IsR _ _ _ _
                  rw [hu, hPb]
                  have := IsR.new (u1.alloc (.cells #[.int .i64 x1, .int .i64 x2] 33)) 1 1
                  simpa using this
                have hGX : G < Xb := by have := (World.ownsRow.lt hO.out G rfl).2; omega
                have hPX : Xb < Pb := by omega
                have hwX : w.heap.size ≤ Xb := by have := hB.out.size; omega
                rw [← hPb, ← hXb]
                replace c1 := cell_keep hb c1
                replace c2 := cell_keep hb c2
                replace c3 := cell_keep hb c3
                replace c4 := cell_keep hb c4
                replace hO := hidP (own_below hO.out hb)
                replace hB := hidP (hB.out.trans (hb.mono hB.out.size))
                clear hb hu hXb hPb
                go_wp2_with fail
                refine hKc.out _ _ ?_ (fun hHeld => ?_)
                · (try dsimp only)
                  refine ⟨?_, ?_, ?_, ?_⟩ <;> (repeat (with_reducible (first | exact c1 | exact c2 | exact c3 | exact c4 | refine cell_dr ?_ | refine cell_stb ?_ ?_ | refine cell_al _ ?_ | (show _ ≠ _; omega))))
                clear hKc Kc
                (try simp only [List.getElem_toArray]); (try simp only [List.getElem_cons_succ]); (try simp only [List.getElem_cons_zero]); (try simp only [Act.put]); (try simp only [List.setIfInBounds_toArray]); (try simp only [List.set_cons_succ]); (try simp only [List.set_cons_zero])
                refine wpAnyH_ready (rs := [6]) (by kernel_rfl) (by simp) (AllReadyH.cons rfl (fun Kc hKc => ?_) AllReadyH.nil)
                go_simp
                obtain ⟨A, hA'⟩ : ∃ A, A = u2.heap.size := ⟨_, rfl⟩
                obtain ⟨u3, hu⟩ : ∃ u, u = u2.alloc (.cells #[.int .i64 0, .int .i64 0] 33) := ⟨_, rfl⟩
                have hb : Below u2.heap.size u2 u3 := by rw [hu]; exact b0S _ _
                have hA : Hid (IsR u3 A 0 0) := by show IsR _ _ _ _; rw [hu, hA']; exact IsR.new _ _ _
                have hAw : w.heap.size ≤ A := by rw [hA']; exact hB.out.size
                have hAG : G < A := by have := (World.ownsRow.lt hO.out G rfl).2; omega
                have hAhX := hX.out.lt
                rw [← hA'] at hAhX
                have hAhP := hP.out.lt
                rw [← hA'] at hAhP
                have hNA := World.block_lt_of_cell? u2 _ c1
                dsimp only at hNA
                rw [← hA'] at hNA
                rw [← hu, ← hA']
                replace c1 := cell_keep hb c1
                replace c2 := cell_keep hb c2
                replace c3 := cell_keep hb c3
                replace c4 := cell_keep hb c4
                replace hX := hidP (hX.out.below hb)
                replace hP := hidP (hP.out.below hb)
                replace hO := hidP (own_below hO.out hb)
                replace hB := hidP (hB.out.trans (hb.mono hB.out.size))
                clear hb hu hA'
                refine hKc.out _ _ ?_ (fun hHeld => ?_)
                · (try dsimp only)
                  refine ⟨?_, ?_, ?_, ?_⟩ <;> (repeat (with_reducible (first | exact c1 | exact c2 | exact c3 | exact c4 | refine cell_dr ?_ | refine cell_stb ?_ ?_ | refine cell_al _ ?_ | (show _ ≠ _; omega))))
                clear hKc Kc
                (try simp only [List.getElem_toArray]); (try simp only [List.getElem_cons_succ]); (try simp only [List.getElem_cons_zero]); (try simp only [Act.put]); (try simp only [List.setIfInBounds_toArray]); (try simp only [List.set_cons_succ]); (try simp only [List.set_cons_zero])
                have f0 := hA.out.f0
                have f1 := hA.out.f1
                have g0 := hA.out.c0
                have g1 := hA.out.c1
                refine wpAnyH_ready (rs := [7]) (by kernel_rfl) (by simp) (AllReadyH.cons rfl (fun Kc hKc => ?_) AllReadyH.nil)
                go_simp
                refine hKc.out _ _ ?_ (fun hHeld => ?_)
                · (try dsimp only)
                  refine ⟨?_, ?_, ?_, ?_⟩ <;> (repeat (with_reducible (first | exact c1 | exact c2 | exact c3 | exact c4 | refine cell_dr ?_ | refine cell_stb ?_ ?_ | refine cell_al _ ?_ | (show _ ≠ _; omega))))
                clear hKc Kc
                (try simp only [List.getElem_toArray]); (try simp only [List.getElem_cons_succ]); (try simp only [List.getElem_cons_zero]); (try simp only [Act.put]); (try simp only [List.setIfInBounds_toArray]); (try simp only [List.set_cons_succ]); (try simp only [List.set_cons_zero])
                refine wpAnyH_take (i := 8) (v := ?_) rfl (by kernel_rfl) (by kernel_rfl) (by kernel_rfl) (fun _ _ _ h => h) (Or.inl ⟨by kernel_rfl, ?_⟩) hHeld ?_
                rotate_left
                · intro wz hSw; (try dsimp only at hSw); go_simp; all_goals (try with_reducible rfl)
                (try simp only [List.getElem_toArray]); (try simp only [List.getElem_cons_succ]); (try simp only [List.getElem_cons_zero]); (try simp only [Act.put]); (try simp only [List.setIfInBounds_toArray]); (try simp only [List.set_cons_succ]); (try simp only [List.set_cons_zero])
                refine wpAnyH_done (by kernel_rfl) ?_ _
                refine NoPanic.normal ?_
                go_wp2_with fail
                go_meet
                case rel =>
                  refine ⟨A, Pb, Xb, rfl, rfl, by omega, by omega, by omega, by omega, by omega, by omega, hAw, (hA.out.set0 y1).set1 y2, (hP.out.other (by omega) 0 (.int .i64 y1)).other (by omega) 1 (.int .i64 y2), (hX.out.other (by omega) 0 (.int .i64 y1)).other (by omega) 1 (.int .i64 y2), own_st (own_st hO.out (S := A) (fun b e => by cases e; omega) 0 (.int .i64 y1)) (S := A) (fun b e => by cases e; omega) 1 (.int .i64 y2), (hB.out.setCell (p := ⟨A, 0, none⟩) hAw _).setCell (p := ⟨A, 1, none⟩) hAw _⟩
              ·
                go_simp
                obtain ⟨A, hA'⟩ : ∃ A, A = u1.heap.size := ⟨_, rfl⟩
                obtain ⟨u4, hu⟩ : ∃ u, u = u1.alloc (.cells #[.int .i64 0, .int .i64 0] 33) := ⟨_, rfl⟩
                have hb : Below u1.heap.size u1 u4 := by rw [hu]; exact b0S _ _
                have hA : Hid (IsR u4 A 0 0) := by show IsR _ _ _ _; rw [hu, hA']; exact IsR.new _ _ _
                have hAw : w.heap.size ≤ A := by rw [hA']; exact hB.out.size
                have hAG : G < A := by have := (World.ownsRow.lt hO.out G rfl).2; omega
                have hNA := World.block_lt_of_cell? u1 _ c1
                dsimp only at hNA
                rw [← hA'] at hNA
                rw [← hu, ← hA']
                replace c1 := cell_keep hb c1
                replace c2 := cell_keep hb c2
                replace c3 := cell_keep hb c3
                replace c4 := cell_keep hb c4
                replace hO := hidP (own_below hO.out hb)
                replace hB := hidP (hB.out.trans (hb.mono hB.out.size))
                clear hb hu hA'
                refine hKc.out _ _ ?_ (fun hHeld => ?_)
                · (try dsimp only)
                  refine ⟨?_, ?_, ?_, ?_⟩ <;> (repeat (with_reducible (first | exact c1 | exact c2 | exact c3 | exact c4 | refine cell_dr ?_ | refine cell_stb ?_ ?_ | refine cell_al _ ?_ | (show _ ≠ _; omega))))
                clear hKc Kc
                (try simp only [List.getElem_toArray]); (try simp only [List.getElem_cons_succ]); (try simp only [List.getElem_cons_zero]); (try simp only [Act.put]); (try simp only [List.setIfInBounds_toArray]); (try simp only [List.set_cons_succ]); (try simp only [List.set_cons_zero])
                refine wpAnyH_ready (rs := [5]) (by kernel_rfl) (by simp) (AllReadyH.cons rfl (fun Kc hKc => ?_) AllReadyH.nil)
                go_simp
                (go_at_call 71; refine (HPW.out _).mono ?_; rintro e u5 ⟨rfl, hu⟩)
                obtain ⟨Xb, hXb⟩ : ∃ A, A = u4.heap.size := ⟨_, rfl⟩
                obtain ⟨Pb, hPb⟩ : ∃ A, A = u4.heap.size + 1 := ⟨_, rfl⟩
                have hb : Below u4.heap.size u4 u5 := by rw [hu]; exact ((Below.refl _ _).alloc (Nat.le_refl _) _).alloc (by simp) _
                have hX : Hid (IsR u5 Xb x1 x2) := by show IsR _ _ _ _; rw [hu, hXb]; exact (IsR.new _ _ _).below (b0S _ _)
                have hP : Hid (IsR u5 Pb 1 1) := by
                  show IsR _ _ _ _
                  rw [hu, hPb]
                  have := IsR.new (u4.alloc (.cells #[.int .i64 x1, .int .i64 x2] 33)) 1 1
                  simpa using this
                have hGX : G < Xb := by have := (World.ownsRow.lt hO.out G rfl).2; omega
                have hPX : Xb < Pb := by omega
                have hwX : w.heap.size ≤ Xb := by have := hB.out.size; omega
                have hXhA := hA.out.lt
                rw [← hXb] at hXhA
                rw [← hPb, ← hXb]
                replace c1 := cell_keep hb c1
                replace c2 := cell_keep hb c2
                replace c3 := cell_keep hb c3
                replace c4 := cell_keep hb c4
                replace hA := hidP (hA.out.below hb)
                replace hO := hidP (own_below hO.out hb)
                replace hB := hidP (hB.out.trans (hb.mono hB.out.size))
                clear hb hu hXb hPb
                go_wp2_with fail
                refine hKc.out _ _ ?_ (fun hHeld => ?_)
                · (try dsimp only)
                  refine ⟨?_, ?_, ?_, ?_⟩ <;> (repeat (with_reducible (first | exact c1 | exact c2 | exact c3 | exact c4 | refine cell_dr ?_ | refine cell_stb ?_ ?_ | refine cell_al _ ?_ | (show _ ≠ _; omega))))
                clear hKc Kc
                (try simp only [List.getElem_toArray]); (try simp only [List.getElem_cons_succ]); (try simp only [List.getElem_cons_zero]); (try simp only [Act.put]); (try simp only [List.setIfInBounds_toArray]); (try simp only [List.set_cons_succ]); (try simp only [List.set_cons_zero])
                have f0 := hA.out.f0
                have f1 := hA.out.f1
                have g0 := hA.out.c0
                have g1 := hA.out.c1
                refine wpAnyH_ready (rs := [7]) (by kernel_rfl) (by simp) (AllReadyH.cons rfl (fun Kc hKc => ?_) AllReadyH.nil)
                go_simp
                refine hKc.out _ _ ?_ (fun hHeld => ?_)
                · (try dsimp only)
                  refine ⟨?_, ?_, ?_, ?_⟩ <;> (repeat (with_reducible (first | exact c1 | exact c2 | exact c3 | exact c4 | refine cell_dr ?_ | refine cell_stb ?_ ?_ | refine cell_al _ ?_ | (show _ ≠ _; omega))))
                clear hKc Kc
                (try simp only [List.getElem_toArray]); (try simp only [List.getElem_cons_succ]); (try simp only [List.getElem_cons_zero]); (try simp only [Act.put]); (try simp only [List.setIfInBounds_toArray]); (try simp only [List.set_cons_succ]); (try simp only [List.set_cons_zero])
                refine wpAnyH_take (i := 8) (v := ?_) rfl (by kernel_rfl) (by kernel_rfl) (by kernel_rfl) (fun _ _ _ h => h) (Or.inl ⟨by kernel_rfl, ?_⟩) hHeld ?_
                rotate_left
                · intro wz hSw; (try dsimp only at hSw); go_simp; all_goals (try with_reducible rfl)
                (try simp only [List.getElem_toArray]); (try simp only [List.getElem_cons_succ]); (try simp only [List.getElem_cons_zero]); (try simp only [Act.put]); (try simp only [List.setIfInBounds_toArray]); (try simp only [List.set_cons_succ]); (try simp only [List.set_cons_zero])
                refine wpAnyH_done (by kernel_rfl) ?_ _
                refine NoPanic.normal ?_
                go_wp2_with fail
                go_meet
                case rel =>
                  refine ⟨A, Pb, Xb, rfl, rfl, by omega, by omega, by omega, by omega, by omega, by omega, hAw, (hA.out.set0 y1).set1 y2, (hP.out.other (by omega) 0 (.int .i64 y1)).other (by omega) 1 (.int .i64 y2), (hX.out.other (by omega) 0 (.int .i64 y1)).other (by omega) 1 (.int .i64 y2), own_st (own_st hO.out (S := A) (fun b e => by cases e; omega) 0 (.int .i64 y1)) (S := A) (fun b e => by cases e; omega) 1 (.int .i64 y2), (hB.out.setCell (p := ⟨A, 0, none⟩) hAw _).setCell (p := ⟨A, 1, none⟩) hAw _⟩
            ·
              go_simp
              obtain ⟨A, hA'⟩ : ∃ A, A = wd.heap.size := ⟨_, rfl⟩
              obtain ⟨u6, hu⟩ : ∃ u, u = wd.alloc (.cells #[.int .i64 0, .int .i64 0] 33) := ⟨_, rfl⟩
              have hb : Below wd.heap.size wd u6 := by rw [hu]; exact b0S _ _
              have hA : Hid (IsR u6 A 0 0) := by show IsR _ _ _ _; rw [hu, hA']; exact IsR.new _ _ _
              have hAw : w.heap.size ≤ A := by rw [hA']; exact hB.out.size
              have hAG : G < A := by have := (World.ownsRow.lt hO.out G rfl).2; omega
              have hNA := World.block_lt_of_cell? wd _ c1
              dsimp only at hNA
              rw [← hA'] at hNA
              rw [← hu, ← hA']
              replace c1 := cell_keep hb c1
              replace c2 := cell_keep hb c2
              replace c3 := cell_keep hb c3
              replace c4 := cell_keep hb c4
              replace hO := hidP (own_below hO.out hb)
              replace hB := hidP (hB.out.trans (hb.mono hB.out.size))
              clear hb hu hA'
              refine hKc.out _ _ ?_ (fun hHeld => ?_)
              · (try dsimp only)
                refine ⟨?_, ?_, ?_, ?_⟩ <;> (repeat (with_reducible (first | exact c1 | exact c2 | exact c3 | exact c4 | refine cell_dr ?_ | refine cell_stb ?_ ?_ | refine cell_al _ ?_ | (show _ ≠ _; omega))))
              clear hKc Kc
              (try simp only [List.getElem_toArray]); (try simp only [List.getElem_cons_succ]); (try simp only [List.getElem_cons_zero]); (try simp only [Act.put]); (try simp only [List.setIfInBounds_toArray]); (try simp only [List.set_cons_succ]); (try simp only [List.set_cons_zero])
              refine wpAnyH_ready (rs := [2]) (by kernel_rfl) (by simp) (AllReadyH.cons rfl (fun Kc hKc => ?_) AllReadyH.nil)
              go_simp
              (go_at_call 51; refine (HF.out _ (hB.out)).mono ?_; rintro e u7 ⟨rfl, hb⟩)
              replace c1 := cell_keep hb c1
              replace c2 := cell_keep hb c2
              replace c3 := cell_keep hb c3
              replace c4 := cell_keep hb c4
              replace hA := hidP (hA.out.below hb)
              replace hO := hidP (own_below hO.out hb)
              replace hB := hidP (hB.out.trans (hb.mono hB.out.size))
              clear hb
              go_wp2_with fail
              refine hKc.out _ _ ?_ (fun hHeld => ?_)
              · (try dsimp only)
                refine ⟨?_, ?_, ?_, ?_⟩ <;> (repeat (with_reducible (first | exact c1 | exact c2 | exact c3 | exact c4 | refine cell_dr ?_ | refine cell_stb ?_ ?_ | refine cell_al _ ?_ | (show _ ≠ _; omega))))
              clear hKc Kc
              (try simp only [List.getElem_toArray]); (try simp only [List.getElem_cons_succ]); (try simp only [List.getElem_cons_zero]); (try simp only [Act.put]); (try simp only [List.setIfInBounds_toArray]); (try simp only [List.set_cons_succ]); (try simp only [List.set_cons_zero])
              refine wpAnyH_ready (rs := [5]) (by kernel_rfl) (by simp) (AllReadyH.cons rfl (fun Kc hKc => ?_) AllReadyH.nil)
              go_simp
              (go_at_call 71; refine (HPW.out _).mono ?_; rintro e u8 ⟨rfl, hu⟩)
              obtain ⟨Xb, hXb⟩ : ∃ A, A = u7.heap.size := ⟨_, rfl⟩
              obtain ⟨Pb, hPb⟩ : ∃ A, A = u7.heap.size + 1 := ⟨_, rfl⟩
              have hb : Below u7.heap.size u7 u8 := by rw [hu]; exact ((Below.refl _ _).alloc (Nat.le_refl _) _).alloc (by simp) _
              have hX : Hid (IsR u8 Xb x1 x2) := by show IsR _ _ _ _; rw [hu, hXb]; exact (IsR.new _ _ _).below (b0S _ _)
              have hP : Hid (IsR u8 Pb 1 1) := by
                show IsR _ _ _ _
                rw [hu, hPb]
                have := IsR.new (u7.alloc (.cells #[.int .i64 x1, .int .i64 x2] 33)) 1 1
                simpa using this
              have hGX : G < Xb := by have := (World.ownsRow.lt hO.out G rfl).2; omega
              have hPX : Xb < Pb := by omega
              have hwX : w.heap.size ≤ Xb := by have := hB.out.size; omega
              have hXhA := hA.out.lt
              rw [← hXb] at hXhA
              rw [← hPb, ← hXb]
              replace c1 := cell_keep hb c1
              replace c2 := cell_keep hb c2
              replace c3 := cell_keep hb c3
              replace c4 := cell_keep hb c4
              replace hA := hidP (hA.out.below hb)
              replace hO := hidP (own_below hO.out hb)
              replace hB := hidP (hB.out.trans (hb.mono hB.out.size))
              clear hb hu hXb hPb
              go_wp2_with fail
              refine hKc.out _ _ ?_ (fun hHeld => ?_)
              · (try dsimp only)
                refine ⟨?_, ?_, ?_, ?_⟩ <;> (repeat (with_reducible (first | exact c1 | exact c2 | exact c3 | exact c4 | refine cell_dr ?_ | refine cell_stb ?_ ?_ | refine cell_al _ ?_ | (show _ ≠ _; omega))))
              clear hKc Kc
              (try simp only [List.getElem_toArray]); (try simp only [List.getElem_cons_succ]); (try simp only [List.getElem_cons_zero]); (try simp only [Act.put]); (try simp only [List.setIfInBounds_toArray]); (try simp only [List.set_cons_succ]); (try simp only [List.set_cons_zero])
              have f0 := hA.out.f0
              have f1 := hA.out.f1
              have g0 := hA.out.c0
              have g1 := hA.out.c1
              refine wpAnyH_ready (rs := [7]) (by kernel_rfl) (by simp) (AllReadyH.cons rfl (fun Kc hKc => ?_) AllReadyH.nil)
              go_simp
              refine hKc.out _ _ ?_ (fun hHeld => ?_)
              · (try dsimp only)
                refine ⟨?_, ?_, ?_, ?_⟩ <;> (repeat (with_reducible (first | exact c1 | exact c2 | exact c3 | exact c4 | refine cell_dr ?_ | refine cell_stb ?_ ?_ | refine cell_al _ ?_ | (show _ ≠ _; omega))))
              clear hKc Kc
              (try simp only [List.getElem_toArray]); (try simp only [List.getElem_cons_succ]); (try simp only [List.getElem_cons_zero]); (try simp only [Act.put]); (try simp only [List.setIfInBounds_toArray]); (try simp only [List.set_cons_succ]); (try simp only [List.set_cons_zero])
              refine wpAnyH_take (i := 8) (v := ?_) rfl (by kernel_rfl) (by kernel_rfl) (by kernel_rfl) (fun _ _ _ h => h) (Or.inl ⟨by kernel_rfl, ?_⟩) hHeld ?_
              rotate_left
              · intro wz hSw; (try dsimp only at hSw); go_simp; all_goals (try with_reducible rfl)
              (try simp only [List.getElem_toArray]); (try simp only [List.getElem_cons_succ]); (try simp only [List.getElem_cons_zero]); (try simp only [Act.put]); (try simp only [List.setIfInBounds_toArray]); (try simp only [List.set_cons_succ]); (try simp only [List.set_cons_zero])
              refine wpAnyH_done (by kernel_rfl) ?_ _
              refine NoPanic.normal ?_
              go_wp2_with fail
              go_meet
              case rel =>
                refine ⟨A, Pb, Xb, rfl, rfl, by omega, by omega, by omega, by omega, by omega, by omega, hAw, (hA.out.set0 y1).set1 y2, (hP.out.other (by omega) 0 (.int .i64 y1)).other (by omega) 1 (.int .i64 y2), (hX.out.other (by omega) 0 (.int .i64 y1)).other (by omega) 1 (.int .i64 y2), own_st (own_st hO.out (S := A) (fun b e => by cases e; omega) 0 (.int .i64 y1)) (S := A) (fun b e => by cases e; omega) 1 (.int .i64 y2), (hB.out.setCell (p := ⟨A, 0, none⟩) hAw _).setCell (p := ⟨A, 1, none⟩) hAw _⟩
          case rest =>
            clear c1 c2 c3 c4 hO hB
            rename_i wc
            obtain ⟨Tb, Pb, Xb, rfl, rfl, hTP, hPX, hGX, hGP, hGT, hwP, hwT, hT, hP, hX, hO, hB⟩ := hcut
            have o2 := hO.out
            rw [← HX0.out k] at o2
            have p2 : IsR wc Pb (powP (x1, x2) 0).1 (powP (x1, x2) 0).2 := hP.out
            have t2 := hT.out
            have x2' := hX.out
            have b2 := hB.out
            clear hO hB hP hX hT
            go_wp2
            go_loopw [42] (fun i wr => ∃ p : Nat, p ≤ j ∧ i = .int .i64 p ∧ Hid (IsR wr Pb (powP (x1, x2) p).1 (powP (x1, x2) p).2) ∧ Hid (IsR wr Xb x1 x2) ∧ Hid (IsR wr Tb y1 y2) ∧ Hid (wr.ownsRow w.heap.size 33 2 (.slice (some ⟨G, 0, none⟩) j j) j (cellsR (mixS f ss j k p))) ∧ Hid (Below w.heap.size w wr)) (fun i _ => j - (intOf i).toNat)
            case atStart => exact ⟨0, Nat.zero_le _, rfl, p2, x2', t2, o2, b2⟩
            case round =>
              clear p2 x2' t2 o2 b2
              obtain ⟨p, hp, rfl, hP, hX, hT, hO, hB⟩ := hrel
              by_cases hltp : p < j
              · have c1 := hT.out.c0
                have c2 := hT.out.c1
                have HPS : Hid (powP (x1, x2) (p + 1) = mulP (powP (x1, x2) p) (x1, x2)) := rfl
                have HSP := hidP (HSK.out p)
                obtain ⟨q, hq⟩ : ∃ z, z = powP (x1, x2) p := ⟨_, rfl⟩
                rw [← hq] at hP HPS HSP
                clear hq
                obtain ⟨q1, q2⟩ := q
                dsimp only at hP
                have HN := hidP (fun W (k1 : IsR W Pb q1 q2) (k2 : IsR W Xb x1 x2) => nxt_any Pb Xb q1 q2 x1 x2 W k1 k2)
                obtain ⟨r, hr⟩ : ∃ z, z = mulP (q1, q2) (x1, x2) := ⟨_, rfl⟩
                rw [← hr] at HN HPS
                clear hr
                obtain ⟨r1, r2⟩ := r
                have HM := hidP (fun W => mulC q1 q2 y1 y2 W)
                obtain ⟨m, hm⟩ : ∃ z, z = mulP (q1, q2) (y1, y2) := ⟨_, rfl⟩
                obtain ⟨mo, hmo⟩ : ∃ z, z = mulK (q1, q2) (y1, y2) := ⟨_, rfl⟩
                rw [← hm, ← hmo] at HM
                rw [← hm] at HSP
                clear hm hmo
                obtain ⟨m1, m2⟩ := m
                have HXP := hidP (HXT.out k p hltp)
                obtain ⟨s, hs⟩ : ∃ z, z = spS f ss p k := ⟨_, rfl⟩
                rw [← hs] at HSP HXP
                clear hs
                obtain ⟨s1, s2⟩ := s
                have HA := hidP (fun W => addC s1 s2 m1 m2 W)
                obtain ⟨z, hz⟩ : ∃ z, z = addP (s1, s2) (m1, m2) := ⟨_, rfl⟩
                obtain ⟨zo, hzo⟩ : ∃ z, z = addK (s1, s2) (m1, m2) := ⟨_, rfl⟩
                rw [← hz, ← hzo] at HA
                rw [← hz] at HSP
                clear hz hzo
                obtain ⟨a1, a2⟩ := z
                dsimp only at HN HM HA
                go_upto_region 14 with fail
                go_cut [14, 15] from 43 to 64 (fun s14 s15 wx => ∃ M : Nat, s14 = .pointer (some ⟨M, 0, none⟩) ∧ s15 = .bool mo ∧ G < M ∧ Hid (IsR wx M m1 m2) ∧ Hid (IsR wx Pb r1 r2) ∧ Hid (IsR wx Xb x1 x2) ∧ Hid (IsR wx Tb y1 y2) ∧ Hid (wx.ownsRow w.heap.size 33 2 (.slice (some ⟨G, 0, none⟩) j j) j (cellsR (mixS f ss j k p))) ∧ Hid (Below w.heap.size w wx))
                case first =>
                  refine wp_region_noPanic ?_
                  refine wp_region_held_drew (S := (fun w' => w'.cell? ⟨Tb, 0, none⟩ = some (.int .i64 y1) ∧ w'.cell? ⟨Tb, 1, none⟩ = some (.int .i64 y2))) (by kernel_rfl) ?_ (fun hHeld => ?_)
                  · (try dsimp only)
                    refine ⟨?_, ?_⟩ <;> (repeat (with_reducible (first | exact c1 | exact c2 | refine cell_dr ?_ | refine cell_stb ?_ ?_ | refine cell_al _ ?_ | (show _ ≠ _; omega))))
                  have hbd := (Below.refl wr.heap.size wr).drew
                  replace hP := hidP (hP.out.below hbd)
                  replace hX := hidP (hX.out.below hbd)
                  replace hT := hidP (hT.out.below hbd)
                  replace hO := hidP (own_below hO.out hbd)
                  replace hB := hidP (hB.out.trans (hbd.mono hB.out.size))
                  clear hbd
                  replace c1 := cell_dr c1
                  replace c2 := cell_dr c2
                  obtain ⟨wd, hwd⟩ : ∃ u, u = wr.drew := ⟨_, rfl⟩
                  rw [← hwd] at hB hO hP hX hT c1 c2 hHeld ⊢
                  have hwd' := hwd
                  clear hwd
                  clear hwd'
                  refine wpAnyH_take (i := 0) (v := ?_) rfl (by kernel_rfl) (by kernel_rfl) (by kernel_rfl) (fun _ _ _ h => h) (Or.inl ⟨by kernel_rfl, ?_⟩) hHeld ?_
                  rotate_left
                  · intro wz hSw; (try dsimp only at hSw); go_simp; all_goals (try with_reducible rfl)
                  (try simp only [List.getElem_toArray]); (try simp only [List.getElem_cons_succ]); (try simp only [List.getElem_cons_zero]); (try simp only [Act.put]); (try simp only [List.setIfInBounds_toArray]); (try simp only [List.set_cons_succ]); (try simp only [List.set_cons_zero])
                  refine wpAnyH_take (i := 2) (v := ?_) rfl (by kernel_rfl) (by kernel_rfl) (by kernel_rfl) (fun _ _ _ h => h) (Or.inl ⟨by kernel_rfl, ?_⟩) hHeld ?_
                  rotate_left
                  · intro wz hSw; (try dsimp only at hSw); go_simp; all_goals (try with_reducible rfl)
                  (try simp only [List.getElem_toArray]); (try simp only [List.getElem_cons_succ]); (try simp only [List.getElem_cons_zero]); (try simp only [Act.put]); (try simp only [List.setIfInBounds_toArray]); (try simp only [List.set_cons_succ]); (try simp only [List.set_cons_zero])
                  refine wpAnyH_ready (rs := [1, 7]) (by kernel_rfl) (by simp) (AllReadyH.cons rfl (fun Kc hKc => ?_) (AllReadyH.cons rfl (fun Kc hKc => ?_) AllReadyH.nil))
                  ·
                    go_simp
                    (go_at_call 78; refine (HN.out _ hP.out hX.out).mono ?_; rintro e u9 ⟨rfl, hP', g2⟩)
                    replace c1 := cell_g g2 c1 hTP
                    replace c2 := cell_g g2 c2 hTP
                    replace hX := hidP (hX.out.gk g2 hPX.symm)
                    replace hT := hidP (hT.out.gk g2 hTP)
                    replace hO := hidP (own_gne hO.out g2 (by intro e; have e2 : G = Pb := Option.some.inj e; omega))
                    replace hB := hidP (hB.out.trans (below_grownK g2 hwP hB.out.size))
                    replace hP := hidP hP'
                    clear g2 hP'
                    go_wp2_with fail
                    refine hKc.out _ _ ?_ (fun hHeld => ?_)
                    · (try dsimp only)
                      refine ⟨?_, ?_⟩ <;> (repeat (with_reducible (first | exact c1 | exact c2 | refine cell_dr ?_ | refine cell_stb ?_ ?_ | refine cell_al _ ?_ | (show _ ≠ _; omega))))
                    clear hKc Kc
                    (try simp only [List.getElem_toArray]); (try simp only [List.getElem_cons_succ]); (try simp only [List.getElem_cons_zero]); (try simp only [Act.put]); (try simp only [List.setIfInBounds_toArray]); (try simp only [List.set_cons_succ]); (try simp only [List.set_cons_zero])
                    refine wpAnyH_ready (rs := [3, 7]) (by kernel_rfl) (by simp) (AllReadyH.cons rfl (fun Kc hKc => ?_) (AllReadyH.cons rfl (fun Kc hKc => ?_) AllReadyH.nil))
                    ·
                      go_simp
                      (go_at_call 38; refine (HM.out _).mono ?_; rintro e u10 ⟨rfl, hb⟩)
                      replace c1 := cell_keep hb c1
                      replace c2 := cell_keep hb c2
                      replace hP := hidP (hP.out.below hb)
                      replace hX := hidP (hX.out.below hb)
                      replace hT := hidP (hT.out.below hb)
                      replace hO := hidP (own_below hO.out hb)
                      replace hB := hidP (hB.out.trans (hb.mono hB.out.size))
                      clear hb
                      go_wp2_with fail
                      refine hKc.out _ _ ?_ (fun hHeld => ?_)
                      · (try dsimp only)
                        refine ⟨?_, ?_⟩ <;> (repeat (with_reducible (first | exact c1 | exact c2 | refine cell_dr ?_ | refine cell_stb ?_ ?_ | refine cell_al _ ?_ | (show _ ≠ _; omega))))
                      clear hKc Kc
                      (try simp only [List.getElem_toArray]); (try simp only [List.getElem_cons_succ]); (try simp only [List.getElem_cons_zero]); (try simp only [Act.put]); (try simp only [List.setIfInBounds_toArray]); (try simp only [List.set_cons_succ]); (try simp only [List.set_cons_zero])
                      refine wpAnyH_take (i := 4) (v := ?_) rfl (by kernel_rfl) (by kernel_rfl) (by kernel_rfl) (fun _ _ _ h => h) (Or.inl ⟨by kernel_rfl, ?_⟩) hHeld ?_
                      rotate_left
                      · intro wz hSw; (try dsimp only at hSw); go_simp; all_goals (try with_reducible rfl)
                      (try simp only [List.getElem_toArray]); (try simp only [List.getElem_cons_succ]); (try simp only [List.getElem_cons_zero]); (try simp only [Act.put]); (try simp only [List.setIfInBounds_toArray]); (try simp only [List.set_cons_succ]); (try simp only [List.set_cons_zero])
                      refine wpAnyH_take (i := 5) (v := ?_) rfl (by kernel_rfl) (by kernel_rfl) (by kernel_rfl) (fun _ _ _ h => h) (Or.inl ⟨by kernel_rfl, ?_⟩) hHeld ?_
                      rotate_left
                      · intro wz hSw; (try dsimp only at hSw); go_simp; all_goals (try with_reducible rfl)
                      (try simp only [List.getElem_toArray]); (try simp only [List.getElem_cons_succ]); (try simp only [List.getElem_cons_zero]); (try simp only [Act.put]); (try simp only [List.setIfInBounds_toArray]); (try simp only [List.set_cons_succ]); (try simp only [List.set_cons_zero])
                      refine wpAnyH_take (i := 6) (v := ?_) rfl (by kernel_rfl) (by kernel_rfl) (by kernel_rfl) (fun _ _ _ h => h) (Or.inl ⟨by kernel_rfl, ?_⟩) hHeld ?_
                      rotate_left
                      · intro wz hSw; (try dsimp only at hSw); go_simp; all_goals (try with_reducible rfl)
                      (try simp only [List.getElem_toArray]); (try simp only [List.getElem_cons_succ]); (try simp only [List.getElem_cons_zero]); (try simp only [Act.put]); (try simp only [List.setIfInBounds_toArray]); (try simp only [List.set_cons_succ]); (try simp only [List.set_cons_zero])
                      refine wpAnyH_ready (rs := [7]) (by kernel_rfl) (by simp) (AllReadyH.cons rfl (fun Kc hKc => ?_) AllReadyH.nil)
                      go_simp
                      obtain ⟨A, hA'⟩ : ∃ A, A = u10.heap.size := ⟨_, rfl⟩
                      obtain ⟨u11, hu⟩ : ∃ u, u = u10.alloc (.cells #[.int .i64 0, .int .i64 0] 33) := ⟨_, rfl⟩
                      have hb : Below u10.heap.size u10 u11 := by rw [hu]; exact b0S _ _
                      have hA : Hid (IsR u11 A 0 0) := by show IsR _ _ _ _; rw [hu, hA']; exact IsR.new _ _ _
                      have hAw : w.heap.size ≤ A := by rw [hA']; exact hB.out.size
                      have hAG : G < A := by have := (World.ownsRow.lt hO.out G rfl).2; omega
                      have hAhP := hP.out.lt
                      rw [← hA'] at hAhP
                      have hAhX := hX.out.lt
                      rw [← hA'] at hAhX
                      have hAhT := hT.out.lt
                      rw [← hA'] at hAhT
                      have hNA := World.block_lt_of_cell? u10 _ c1
                      dsimp only at hNA
                      rw [← hA'] at hNA
                      rw [← hu, ← hA']
                      replace c1 := cell_keep hb c1
                      replace c2 := cell_keep hb c2
                      replace hP := hidP (hP.out.below hb)
                      replace hX := hidP (hX.out.below hb)
                      replace hT := hidP (hT.out.below hb)
                      replace hO := hidP (own_below hO.out hb)
                      replace hB := hidP (hB.out.trans (hb.mono hB.out.size))
                      clear hb hu hA'
                      refine hKc.out _ _ ?_ (fun hHeld => ?_)
                      · (try dsimp only)
                        refine ⟨?_, ?_⟩ <;> (repeat (with_reducible (first | exact c1 | exact c2 | refine cell_dr ?_ | refine cell_stb ?_ ?_ | refine cell_al _ ?_ | (show _ ≠ _; omega))))
                      clear hKc Kc
                      (try simp only [List.getElem_toArray]); (try simp only [List.getElem_cons_succ]); (try simp only [List.getElem_cons_zero]); (try simp only [Act.put]); (try simp only [List.setIfInBounds_toArray]); (try simp only [List.set_cons_succ]); (try simp only [List.set_cons_zero])
                      have f0 := hA.out.f0
                      have f1 := hA.out.f1
                      have g0 := hA.out.c0
                      have g1 := hA.out.c1
                      refine wpAnyH_ready (rs := [8]) (by kernel_rfl) (by simp) (AllReadyH.cons rfl (fun Kc hKc => ?_) AllReadyH.nil)
                      go_simp
                      refine hKc.out _ _ ?_ (fun hHeld => ?_)
                      · (try dsimp only)
                        refine ⟨?_, ?_⟩ <;> (repeat (with_reducible (first | exact c1 | exact c2 | refine cell_dr ?_ | refine cell_stb ?_ ?_ | refine cell_al _ ?_ | (show _ ≠ _; omega))))
                      clear hKc Kc
                      (try simp only [List.getElem_toArray]); (try simp only [List.getElem_cons_succ]); (try simp only [List.getElem_cons_zero]); (try simp only [Act.put]); (try simp only [List.setIfInBounds_toArray]); (try simp only [List.set_cons_succ]); (try simp only [List.set_cons_zero])
                      refine wpAnyH_take (i := 9) (v := ?_) rfl (by kernel_rfl) (by kernel_rfl) (by kernel_rfl) (fun _ _ _ h => h) (Or.inl ⟨by kernel_rfl, ?_⟩) hHeld ?_
                      rotate_left
                      · intro wz hSw; (try dsimp only at hSw); go_simp; all_goals (try with_reducible rfl)
                      (try simp only [List.getElem_toArray]); (try simp only [List.getElem_cons_succ]); (try simp only [List.getElem_cons_zero]); (try simp only [Act.put]); (try simp only [List.setIfInBounds_toArray]); (try simp only [List.set_cons_succ]); (try simp only [List.set_cons_zero])
                      refine wpAnyH_done (by kernel_rfl) ?_ _
                      refine NoPanic.normal ?_
                      go_wp2_with fail
                      go_meet
                      case rel =>
                        refine ⟨A, rfl, rfl, by omega, (hA.out.set0 m1).set1 m2, (hP.out.other (by omega) 0 (.int .i64 m1)).other (by omega) 1 (.int .i64 m2), (hX.out.other (by omega) 0 (.int .i64 m1)).other (by omega) 1 (.int .i64 m2), (hT.out.other (by omega) 0 (.int .i64 m1)).other (by omega) 1 (.int .i64 m2), own_st (own_st hO.out (S := A) (fun b e => by cases e; omega) 0 (.int .i64 m1)) (S := A) (fun b e => by cases e; omega) 1 (.int .i64 m2), (hB.out.setCell (p := ⟨A, 0, none⟩) hAw _).setCell (p := ⟨A, 1, none⟩) hAw _⟩
                    ·
                      go_simp
                      obtain ⟨A, hA'⟩ : ∃ A, A = u9.heap.size := ⟨_, rfl⟩
                      obtain ⟨u12, hu⟩ : ∃ u, u = u9.alloc (.cells #[.int .i64 0, .int .i64 0] 33) := ⟨_, rfl⟩
                      have hb : Below u9.heap.size u9 u12 := by rw [hu]; exact b0S _ _
                      have hA : Hid (IsR u12 A 0 0) := by show IsR _ _ _ _; rw [hu, hA']; exact IsR.new _ _ _
                      have hAw : w.heap.size ≤ A := by rw [hA']; exact hB.out.size
                      have hAG : G < A := by have := (World.ownsRow.lt hO.out G rfl).2; omega
                      have hAhP := hP.out.lt
                      rw [← hA'] at hAhP
                      have hAhX := hX.out.lt
                      rw [← hA'] at hAhX
                      have hAhT := hT.out.lt
                      rw [← hA'] at hAhT
                      have hNA := World.block_lt_of_cell? u9 _ c1
                      dsimp only at hNA
                      rw [← hA'] at hNA
                      rw [← hu, ← hA']
                      replace c1 := cell_keep hb c1
                      replace c2 := cell_keep hb c2
                      replace hP := hidP (hP.out.below hb)
                      replace hX := hidP (hX.out.below hb)
                      replace hT := hidP (hT.out.below hb)
                      replace hO := hidP (own_below hO.out hb)
                      replace hB := hidP (hB.out.trans (hb.mono hB.out.size))
                      clear hb hu hA'
                      refine hKc.out _ _ ?_ (fun hHeld => ?_)
                      · (try dsimp only)
                        refine ⟨?_, ?_⟩ <;> (repeat (with_reducible (first | exact c1 | exact c2 | refine cell_dr ?_ | refine cell_stb ?_ ?_ | refine cell_al _ ?_ | (show _ ≠ _; omega))))
                      clear hKc Kc
                      (try simp only [List.getElem_toArray]); (try simp only [List.getElem_cons_succ]); (try simp only [List.getElem_cons_zero]); (try simp only [Act.put]); (try simp only [List.setIfInBounds_toArray]); (try simp only [List.set_cons_succ]); (try simp only [List.set_cons_zero])
                      refine wpAnyH_ready (rs := [3]) (by kernel_rfl) (by simp) (AllReadyH.cons rfl (fun Kc hKc => ?_) AllReadyH.nil)
                      go_simp
                      (go_at_call 38; refine (HM.out _).mono ?_; rintro e u13 ⟨rfl, hb⟩)
                      replace c1 := cell_keep hb c1
                      replace c2 := cell_keep hb c2
                      replace hP := hidP (hP.out.below hb)
                      replace hX := hidP (hX.out.below hb)
                      replace hT := hidP (hT.out.below hb)
                      replace hA := hidP (hA.out.below hb)
                      replace hO := hidP (own_below hO.out hb)
                      replace hB := hidP (hB.out.trans (hb.mono hB.out.size))
                      clear hb
                      go_wp2_with fail
                      refine hKc.out _ _ ?_ (fun hHeld => ?_)
                      · (try dsimp only)
                        refine ⟨?_, ?_⟩ <;> (repeat (with_reducible (first | exact c1 | exact c2 | refine cell_dr ?_ | refine cell_stb ?_ ?_ | refine cell_al _ ?_ | (show _ ≠ _; omega))))
                      clear hKc Kc
                      (try simp only [List.getElem_toArray]); (try simp only [List.getElem_cons_succ]); (try simp only [List.getElem_cons_zero]); (try simp only [Act.put]); (try simp only [List.setIfInBounds_toArray]); (try simp only [List.set_cons_succ]); (try simp only [List.set_cons_zero])
                      refine wpAnyH_take (i := 4) (v := ?_) rfl (by kernel_rfl) (by kernel_rfl) (by kernel_rfl) (fun _ _ _ h => h) (Or.inl ⟨by kernel_rfl, ?_⟩) hHeld ?_
                      rotate_left
                      · intro wz hSw; (try dsimp only at hSw); go_simp; all_goals (try with_reducible rfl)
                      (try simp only [List.getElem_toArray]); (try simp only [List.getElem_cons_succ]); (try simp only [List.getElem_cons_zero]); (try simp only [Act.put]); (try simp only [List.setIfInBounds_toArray]); (try simp only [List.set_cons_succ]); (try simp only [List.set_cons_zero])
                      refine wpAnyH_take (i := 5) (v := ?_) rfl (by kernel_rfl) (by kernel_rfl) (by kernel_rfl) (fun _ _ _ h => h) (Or.inl ⟨by kernel_rfl, ?_⟩) hHeld ?_
                      rotate_left
                      · intro wz hSw; (try dsimp only at hSw); go_simp; all_goals (try with_reducible rfl)
                      (try simp only [List.getElem_toArray]); (try simp only [List.getElem_cons_succ]); (try simp only [List.getElem_cons_zero]); (try simp only [Act.put]); (try simp only [List.setIfInBounds_toArray]); (try simp only [List.set_cons_succ]); (try simp only [List.set_cons_zero])
                      refine wpAnyH_take (i := 6) (v := ?_) rfl (by kernel_rfl) (by kernel_rfl) (by kernel_rfl) (fun _ _ _ h => h) (Or.inl ⟨by kernel_rfl, ?_⟩) hHeld ?_
                      rotate_left
                      · intro wz hSw; (try dsimp only at hSw); go_simp; all_goals (try with_reducible rfl)
                      (try simp only [List.getElem_toArray]); (try simp only [List.getElem_cons_succ]); (try simp only [List.getElem_cons_zero]); (try simp only [Act.put]); (try simp only [List.setIfInBounds_toArray]); (try simp only [List.set_cons_succ]); (try simp only [List.set_cons_zero])
                      have f0 := hA.out.f0
                      have f1 := hA.out.f1
                      have g0 := hA.out.c0
                      have g1 := hA.out.c1
                      refine wpAnyH_ready (rs := [8]) (by kernel_rfl) (by simp) (AllReadyH.cons rfl (fun Kc hKc => ?_) AllReadyH.nil)
                      go_simp
                      refine hKc.out _ _ ?_ (fun hHeld => ?_)
                      · (try dsimp only)
                        refine ⟨?_, ?_⟩ <;> (repeat (with_reducible (first | exact c1 | exact c2 | refine cell_dr ?_ | refine cell_stb ?_ ?_ | refine cell_al _ ?_ | (show _ ≠ _; omega))))
                      clear hKc Kc
                      (try simp only [List.getElem_toArray]); (try simp only [List.getElem_cons_succ]); (try simp only [List.getElem_cons_zero]); (try simp only [Act.put]); (try simp only [List.setIfInBounds_toArray]); (try simp only [List.set_cons_succ]); (try simp only [List.set_cons_zero])
                      refine wpAnyH_take (i := 9) (v := ?_) rfl (by kernel_rfl) (by kernel_rfl) (by kernel_rfl) (fun _ _ _ h => h) (Or.inl ⟨by kernel_rfl, ?_⟩) hHeld ?_
                      rotate_left
                      · intro wz hSw; (try dsimp only at hSw); go_simp; all_goals (try with_reducible rfl)
                      (try simp only [List.getElem_toArray]); (try simp only [List.getElem_cons_succ]); (try simp only [List.getElem_cons_zero]); (try simp only [Act.put]); (try simp only [List.setIfInBounds_toArray]); (try simp only [List.set_cons_succ]); (try simp only [List.set_cons_zero])
                      refine wpAnyH_done (by kernel_rfl) ?_ _
                      refine NoPanic.normal ?_
                      go_wp2_with fail
                      go_meet
                      case rel =>
                        refine ⟨A, rfl, rfl, by omega, (hA.out.set0 m1).set1 m2, (hP.out.other (by omega) 0 (.int .i64 m1)).other (by omega) 1 (.int .i64 m2), (hX.out.other (by omega) 0 (.int .i64 m1)).other (by omega) 1 (.int .i64 m2), (hT.out.other (by omega) 0 (.int .i64 m1)).other (by omega) 1 (.int .i64 m2), own_st (own_st hO.out (S := A) (fun b e => by cases e; omega) 0 (.int .i64 m1)) (S := A) (fun b e => by cases e; omega) 1 (.int .i64 m2), (hB.out.setCell (p := ⟨A, 0, none⟩) hAw _).setCell (p := ⟨A, 1, none⟩) hAw _⟩
                  ·
                    go_simp
                    obtain ⟨A, hA'⟩ : ∃ A, A = wd.heap.size := ⟨_, rfl⟩
                    obtain ⟨u14, hu⟩ : ∃ u, u = wd.alloc (.cells #[.int .i64 0, .int .i64 0] 33) := ⟨_, rfl⟩
                    have hb : Below wd.heap.size wd u14 := by rw [hu]; exact b0S _ _
                    have hA : Hid (IsR u14 A 0 0) := by show IsR _ _ _ _; rw [hu, hA']; exact IsR.new _ _ _
                    have hAw : w.heap.size ≤ A := by rw [hA']; exact hB.out.size
                    have hAG : G < A := by have := (World.ownsRow.lt hO.out G rfl).2; omega
                    have hAhP := hP.out.lt
                    rw [← hA'] at hAhP
                    have hAhX := hX.out.lt
                    rw [← hA'] at hAhX
                    have hAhT := hT.out.lt
                    rw [← hA'] at hAhT
                    have hNA := World.block_lt_of_cell? wd _ c1
                    dsimp only at hNA
                    rw [← hA'] at hNA
                    rw [← hu, ← hA']
                    replace c1 := cell_keep hb c1
                    replace c2 := cell_keep hb c2
                    replace hP := hidP (hP.out.below hb)
                    replace hX := hidP (hX.out.below hb)
                    replace hT := hidP (hT.out.below hb)
                    replace hO := hidP (own_below hO.out hb)
                    replace hB := hidP (hB.out.trans (hb.mono hB.out.size))
                    clear hb hu hA'
                    refine hKc.out _ _ ?_ (fun hHeld => ?_)
                    · (try dsimp only)
                      refine ⟨?_, ?_⟩ <;> (repeat (with_reducible (first | exact c1 | exact c2 | refine cell_dr ?_ | refine cell_stb ?_ ?_ | refine cell_al _ ?_ | (show _ ≠ _; omega))))
                    clear hKc Kc
                    (try simp only [List.getElem_toArray]); (try simp only [List.getElem_cons_succ]); (try simp only [List.getElem_cons_zero]); (try simp only [Act.put]); (try simp only [List.setIfInBounds_toArray]); (try simp only [List.set_cons_succ]); (try simp only [List.set_cons_zero])
                    refine wpAnyH_ready (rs := [1]) (by kernel_rfl) (by simp) (AllReadyH.cons rfl (fun Kc hKc => ?_) AllReadyH.nil)
                    go_simp
                    (go_at_call 78; refine (HN.out _ hP.out hX.out).mono ?_; rintro e u15 ⟨rfl, hP', g2⟩)
                    replace c1 := cell_g g2 c1 hTP
                    replace c2 := cell_g g2 c2 hTP
                    replace hX := hidP (hX.out.gk g2 hPX.symm)
                    replace hT := hidP (hT.out.gk g2 hTP)
                    replace hA := hidP (hA.out.gk g2 (by omega))
                    replace hO := hidP (own_gne hO.out g2 (by intro e; have e2 : G = Pb := Option.some.inj e; omega))
                    replace hB := hidP (hB.out.trans (below_grownK g2 hwP hB.out.size))
                    replace hP := hidP hP'
                    clear g2 hP'
                    go_wp2_with fail
                    refine hKc.out _ _ ?_ (fun hHeld => ?_)
                    · (try dsimp only)
                      refine ⟨?_, ?_⟩ <;> (repeat (with_reducible (first | exact c1 | exact c2 | refine cell_dr ?_ | refine cell_stb ?_ ?_ | refine cell_al _ ?_ | (show _ ≠ _; omega))))
                    clear hKc Kc
                    (try simp only [List.getElem_toArray]); (try simp only [List.getElem_cons_succ]); (try simp only [List.getElem_cons_zero]); (try simp only [Act.put]); (try simp only [List.setIfInBounds_toArray]); (try simp only [List.set_cons_succ]); (try simp only [List.set_cons_zero])
                    refine wpAnyH_ready (rs := [3]) (by kernel_rfl) (by simp) (AllReadyH.cons rfl (fun Kc hKc => ?_) AllReadyH.nil)
                    go_simp
                    (go_at_call 38; refine (HM.out _).mono ?_; rintro e u16 ⟨rfl, hb⟩)
                    replace c1 := cell_keep hb c1
                    replace c2 := cell_keep hb c2
                    replace hP := hidP (hP.out.below hb)
                    replace hX := hidP (hX.out.below hb)
                    replace hT := hidP (hT.out.below hb)
                    replace hA := hidP (hA.out.below hb)
                    replace hO := hidP (own_below hO.out hb)
                    replace hB := hidP (hB.out.trans (hb.mono hB.out.size))
                    clear hb
                    go_wp2_with fail
                    refine hKc.out _ _ ?_ (fun hHeld => ?_)
                    · (try dsimp only)
                      refine ⟨?_, ?_⟩ <;> (repeat (with_reducible (first | exact c1 | exact c2 | refine cell_dr ?_ | refine cell_stb ?_ ?_ | refine cell_al _ ?_ | (show _ ≠ _; omega))))
                    clear hKc Kc
                    (try simp only [List.getElem_toArray]); (try simp only [List.getElem_cons_succ]); (try simp only [List.getElem_cons_zero]); (try simp only [Act.put]); (try simp only [List.setIfInBounds_toArray]); (try simp only [List.set_cons_succ]); (try simp only [List.set_cons_zero])
                    refine wpAnyH_take (i := 4) (v := ?_) rfl (by kernel_rfl) (by kernel_rfl) (by kernel_rfl) (fun _ _ _ h => h) (Or.inl ⟨by kernel_rfl, ?_⟩) hHeld ?_
                    rotate_left
                    · intro wz hSw; (try dsimp only at hSw); go_simp; all_goals (try with_reducible rfl)
                    (try simp only [List.getElem_toArray]); (try simp only [List.getElem_cons_succ]); (try simp only [List.getElem_cons_zero]); (try simp only [Act.put]); (try simp only [List.setIfInBounds_toArray]); (try simp only [List.set_cons_succ]); (try simp only [List.set_cons_zero])
                    refine wpAnyH_take (i := 5) (v := ?_) rfl (by kernel_rfl) (by kernel_rfl) (by kernel_rfl) (fun _ _ _ h => h) (Or.inl ⟨by kernel_rfl, ?_⟩) hHeld ?_
                    rotate_left
                    · intro wz hSw; (try dsimp only at hSw); go_simp; all_goals (try with_reducible rfl)
                    (try simp only [List.getElem_toArray]); (try simp only [List.getElem_cons_succ]); (try simp only [List.getElem_cons_zero]); (try simp only [Act.put]); (try simp only [List.setIfInBounds_toArray]); (try simp only [List.set_cons_succ]); (try simp only [List.set_cons_zero])
                    refine wpAnyH_take (i := 6) (v := ?_) rfl (by kernel_rfl) (by kernel_rfl) (by kernel_rfl) (fun _ _ _ h => h) (Or.inl ⟨by kernel_rfl, ?_⟩) hHeld ?_
                    rotate_left
                    · intro wz hSw; (try dsimp only at hSw); go_simp; all_goals (try with_reducible rfl)
                    (try simp only [List.getElem_toArray]); (try simp only [List.getElem_cons_succ]); (try simp only [List.getElem_cons_zero]); (try simp only [Act.put]); (try simp only [List.setIfInBounds_toArray]); (try simp only [List.set_cons_succ]); (try simp only [List.set_cons_zero])
                    have f0 := hA.out.f0
                    have f1 := hA.out.f1
                    have g0 := hA.out.c0
                    have g1 := hA.out.c1
                    refine wpAnyH_ready (rs := [8]) (by kernel_rfl) (by simp) (AllReadyH.cons rfl (fun Kc hKc => ?_) AllReadyH.nil)
                    go_simp
                    refine hKc.out _ _ ?_ (fun hHeld => ?_)
                    · (try dsimp only)
                      refine ⟨?_, ?_⟩ <;> (repeat (with_reducible (first | exact c1 | exact c2 | refine cell_dr ?_ | refine cell_stb ?_ ?_ | refine cell_al _ ?_ | (show _ ≠ _; omega))))
                    clear hKc Kc
                    (try simp only [List.getElem_toArray]); (try simp only [List.getElem_cons_succ]); (try simp only [List.getElem_cons_zero]); (try simp only [Act.put]); (try simp only [List.setIfInBounds_toArray]); (try simp only [List.set_cons_succ]); (try simp only [List.set_cons_zero])
                    refine wpAnyH_take (i := 9) (v := ?_) rfl (by kernel_rfl) (by kernel_rfl) (by kernel_rfl) (fun _ _ _ h => h) (Or.inl ⟨by kernel_rfl, ?_⟩) hHeld ?_
                    rotate_left
                    · intro wz hSw; (try dsimp only at hSw); go_simp; all_goals (try with_reducible rfl)
                    (try simp only [List.getElem_toArray]); (try simp only [List.getElem_cons_succ]); (try simp only [List.getElem_cons_zero]); (try simp only [Act.put]); (try simp only [List.setIfInBounds_toArray]); (try simp only [List.set_cons_succ]); (try simp only [List.set_cons_zero])
                    refine wpAnyH_done (by kernel_rfl) ?_ _
                    refine NoPanic.normal ?_
                    go_wp2_with fail
                    go_meet
                    case rel =>
                      refine ⟨A, rfl, rfl, by omega, (hA.out.set0 m1).set1 m2, (hP.out.other (by omega) 0 (.int .i64 m1)).other (by omega) 1 (.int .i64 m2), (hX.out.other (by omega) 0 (.int .i64 m1)).other (by omega) 1 (.int .i64 m2), (hT.out.other (by omega) 0 (.int .i64 m1)).other (by omega) 1 (.int .i64 m2), own_st (own_st hO.out (S := A) (fun b e => by cases e; omega) 0 (.int .i64 m1)) (S := A) (fun b e => by cases e; omega) 1 (.int .i64 m2), (hB.out.setCell (p := ⟨A, 0, none⟩) hAw _).setCell (p := ⟨A, 1, none⟩) hAw _⟩
                case rest =>
                  clear c1 c2 hP hX hT hO hB HN HM
                  rename_i wc
                  obtain ⟨M, rfl, rfl, hGM, hM, hP, hX, hT, hO, hB⟩ := hcut
                  obtain ⟨c1, c2⟩ := own_R hO.out (HXL.out k p) p hltp
                  rw [show (mixS f ss j k p)[p]?.getD (0, 0) = (s1, s2) from HXP.out] at c1 c2
                  have c3 := hM.out.c0
                  have c4 := hM.out.c1
                  dsimp only at c1 c2
                  go_upto_region 15 with fail
                  replace c1 := cell_dr c1
                  replace c2 := cell_dr c2
                  refine wp_region_noPanic ?_
                  refine wp_region_held_drew (S := (fun w' => w'.cell? ⟨M, 0, none⟩ = some (.int .i64 m1) ∧ w'.cell? ⟨M, 1, none⟩ = some (.int .i64 m2))) (by kernel_rfl) ?_ (fun hHeld => ?_)
                  · (try dsimp only)
                    refine ⟨?_, ?_⟩ <;> (repeat (with_reducible (first | exact c3 | exact c4 | refine cell_dr ?_ | refine cell_stb ?_ ?_ | refine cell_al _ ?_ | (show _ ≠ _; omega))))
                  have hbd := (Below.refl wc.heap.size wc).drew
                  replace hP := hidP (hP.out.below hbd)
                  replace hX := hidP (hX.out.below hbd)
                  replace hT := hidP (hT.out.below hbd)
                  replace hO := hidP (own_below hO.out hbd)
                  replace hB := hidP (hB.out.trans (hbd.mono hB.out.size))
                  clear hbd
                  replace c3 := cell_dr c3
                  replace c4 := cell_dr c4
                  obtain ⟨wd, hwd⟩ : ∃ u, u = wc.drew := ⟨_, rfl⟩
                  rw [← hwd] at hB hO hP hX hT c3 c4 hHeld ⊢
                  have hwd' := hwd
                  clear hwd
                  rw [← hwd'] at c1 c2
                  clear hwd'
                  refine wpAnyH_take (i := 0) (v := ?_) rfl (by kernel_rfl) (by kernel_rfl) (by kernel_rfl) (fun _ _ _ h => h) (Or.inl ⟨by kernel_rfl, ?_⟩) hHeld ?_
                  rotate_left
                  · intro wz hSw; (try dsimp only at hSw); go_simp; all_goals (try with_reducible rfl)
                  (try simp only [List.getElem_toArray]); (try simp only [List.getElem_cons_succ]); (try simp only [List.getElem_cons_zero]); (try simp only [Act.put]); (try simp only [List.setIfInBounds_toArray]); (try simp only [List.set_cons_succ]); (try simp only [List.set_cons_zero])
                  refine wpAnyH_take (i := 1) (v := ?_) rfl (by kernel_rfl) (by kernel_rfl) (by kernel_rfl) (fun _ _ _ h => h) (Or.inl ⟨by kernel_rfl, ?_⟩) hHeld ?_
                  rotate_left
                  · intro wz hSw; (try dsimp only at hSw); go_simp; all_goals (try with_reducible rfl)
                  (try simp only [List.getElem_toArray]); (try simp only [List.getElem_cons_succ]); (try simp only [List.getElem_cons_zero]); (try simp only [Act.put]); (try simp only [List.setIfInBounds_toArray]); (try simp only [List.set_cons_succ]); (try simp only [List.set_cons_zero])
                  refine wpAnyH_take (i := 2) (v := ?_) rfl (by kernel_rfl) (by kernel_rfl) (by kernel_rfl) (fun _ _ _ h => h) (Or.inl ⟨by kernel_rfl, ?_⟩) hHeld ?_
                  rotate_left
                  · intro wz hSw; (try dsimp only at hSw); go_simp; all_goals (try with_reducible rfl)
                  (try simp only [List.getElem_toArray]); (try simp only [List.getElem_cons_succ]); (try simp only [List.getElem_cons_zero]); (try simp only [Act.put]); (try simp only [List.setIfInBounds_toArray]); (try simp only [List.set_cons_succ]); (try simp only [List.set_cons_zero])
                  refine wpAnyH_take (i := 3) (v := ?_) rfl (by kernel_rfl) (by kernel_rfl) (by kernel_rfl) (fun _ _ _ h => h) (Or.inl ⟨by kernel_rfl, ?_⟩) hHeld ?_
                  rotate_left
                  · intro wz hSw; (try dsimp only at hSw); go_simp; all_goals (try with_reducible rfl)
                  (try simp only [List.getElem_toArray]); (try simp only [List.getElem_cons_succ]); (try simp only [List.getElem_cons_zero]); (try simp only [Act.put]); (try simp only [List.setIfInBounds_toArray]); (try simp only [List.set_cons_succ]); (try simp only [List.set_cons_zero])
                  refine wpAnyH_take (i := 4) (v := ?_) rfl (by kernel_rfl) (by kernel_rfl) (by kernel_rfl) (fun _ _ _ h => h) (Or.inl ⟨by kernel_rfl, ?_⟩) hHeld ?_
                  rotate_left
                  · intro wz hSw; (try dsimp only at hSw); go_simp; all_goals (try with_reducible rfl)
                  (try simp only [List.getElem_toArray]); (try simp only [List.getElem_cons_succ]); (try simp only [List.getElem_cons_zero]); (try simp only [Act.put]); (try simp only [List.setIfInBounds_toArray]); (try simp only [List.set_cons_succ]); (try simp only [List.set_cons_zero])
                  refine wpAnyH_take (i := 6) (v := ?_) rfl (by kernel_rfl) (by kernel_rfl) (by kernel_rfl) (fun _ _ _ h => h) (Or.inl ⟨by kernel_rfl, ?_⟩) hHeld ?_
                  rotate_left
                  · intro wz hSw; (try dsimp only at hSw); go_simp; all_goals (try with_reducible rfl)
                  (try simp only [List.getElem_toArray]); (try simp only [List.getElem_cons_succ]); (try simp only [List.getElem_cons_zero]); (try simp only [Act.put]); (try simp only [List.setIfInBounds_toArray]); (try simp only [List.set_cons_succ]); (try simp only [List.set_cons_zero])
                  refine wpAnyH_ready (rs := [5]) (by kernel_rfl) (by simp) (AllReadyH.cons rfl (fun Kc hKc => ?_) AllReadyH.nil)
                  go_simp
                  refine hKc.out _ _ ?_ (fun hHeld => ?_)
                  · (try dsimp only)
                    refine ⟨?_, ?_⟩ <;> (repeat (with_reducible (first | exact c3 | exact c4 | refine cell_dr ?_ | refine cell_stb ?_ ?_ | refine cell_al _ ?_ | (show _ ≠ _; omega))))
                  clear hKc Kc
                  (try simp only [List.getElem_toArray]); (try simp only [List.getElem_cons_succ]); (try simp only [List.getElem_cons_zero]); (try simp only [Act.put]); (try simp only [List.setIfInBounds_toArray]); (try simp only [List.set_cons_succ]); (try simp only [List.set_cons_zero])
                  refine wpAnyH_ready (rs := [7]) (by kernel_rfl) (by simp) (AllReadyH.cons rfl (fun Kc hKc => ?_) AllReadyH.nil)
                  go_simp
                  (go_at_call 39; refine (HA.out _).mono ?_; rintro e u17 ⟨rfl, hb⟩)
                  replace c3 := cell_keep hb c3
                  replace c4 := cell_keep hb c4
                  replace hP := hidP (hP.out.below hb)
                  replace hX := hidP (hX.out.below hb)
                  replace hT := hidP (hT.out.below hb)
                  replace hO := hidP (own_below hO.out hb)
                  replace hB := hidP (hB.out.trans (hb.mono hB.out.size))
                  replace c1 := cell_keep hb c1
                  replace c2 := cell_keep hb c2
                  clear hb
                  go_wp2_with fail
                  refine hKc.out _ _ ?_ (fun hHeld => ?_)
                  · (try dsimp only)
                    refine ⟨?_, ?_⟩ <;> (repeat (with_reducible (first | exact c3 | exact c4 | refine cell_dr ?_ | refine cell_stb ?_ ?_ | refine cell_al _ ?_ | (show _ ≠ _; omega))))
                  clear hKc Kc
                  (try simp only [List.getElem_toArray]); (try simp only [List.getElem_cons_succ]); (try simp only [List.getElem_cons_zero]); (try simp only [Act.put]); (try simp only [List.setIfInBounds_toArray]); (try simp only [List.set_cons_succ]); (try simp only [List.set_cons_zero])
                  refine wpAnyH_take (i := 8) (v := ?_) rfl (by kernel_rfl) (by kernel_rfl) (by kernel_rfl) (fun _ _ _ h => h) (Or.inl ⟨by kernel_rfl, ?_⟩) hHeld ?_
                  rotate_left
                  · intro wz hSw; (try dsimp only at hSw); go_simp; all_goals (try with_reducible rfl)
                  (try simp only [List.getElem_toArray]); (try simp only [List.getElem_cons_succ]); (try simp only [List.getElem_cons_zero]); (try simp only [Act.put]); (try simp only [List.setIfInBounds_toArray]); (try simp only [List.set_cons_succ]); (try simp only [List.set_cons_zero])
                  refine wpAnyH_take (i := 9) (v := ?_) rfl (by kernel_rfl) (by kernel_rfl) (by kernel_rfl) (fun _ _ _ h => h) (Or.inl ⟨by kernel_rfl, ?_⟩) hHeld ?_
                  rotate_left
                  · intro wz hSw; (try dsimp only at hSw); go_simp; all_goals (try with_reducible rfl)
                  (try simp only [List.getElem_toArray]); (try simp only [List.getElem_cons_succ]); (try simp only [List.getElem_cons_zero]); (try simp only [Act.put]); (try simp only [List.setIfInBounds_toArray]); (try simp only [List.set_cons_succ]); (try simp only [List.set_cons_zero])
                  refine wpAnyH_take (i := 10) (v := ?_) rfl (by kernel_rfl) (by kernel_rfl) (by kernel_rfl) (fun _ _ _ h => h) (Or.inl ⟨by kernel_rfl, ?_⟩) hHeld ?_
                  rotate_left
                  · intro wz hSw; (try dsimp only at hSw); go_simp; all_goals (try with_reducible rfl)
                  (try simp only [List.getElem_toArray]); (try simp only [List.getElem_cons_succ]); (try simp only [List.getElem_cons_zero]); (try simp only [Act.put]); (try simp only [List.setIfInBounds_toArray]); (try simp only [List.set_cons_succ]); (try simp only [List.set_cons_zero])
                  refine wpAnyH_take (i := 11) (v := ?_) rfl (by kernel_rfl) (by kernel_rfl) (by kernel_rfl) (fun _ _ _ h => h) (Or.inl ⟨by kernel_rfl, ?_⟩) hHeld ?_
                  rotate_left
                  · intro wz hSw; (try dsimp only at hSw); go_simp; all_goals (try with_reducible rfl)
                  (try simp only [List.getElem_toArray]); (try simp only [List.getElem_cons_succ]); (try simp only [List.getElem_cons_zero]); (try simp only [Act.put]); (try simp only [List.setIfInBounds_toArray]); (try simp only [List.set_cons_succ]); (try simp only [List.set_cons_zero])
                  have f0 := hO.out.frozenAt (p * 2)
                  have f1 := hO.out.frozenAt (p * 2 + 1)
                  refine wpAnyH_ready (rs := [12]) (by kernel_rfl) (by simp) (AllReadyH.cons rfl (fun Kc hKc => ?_) AllReadyH.nil)
                  go_simp
                  refine hKc.out _ _ ?_ (fun hHeld => ?_)
                  · (try dsimp only)
                    refine ⟨?_, ?_⟩ <;> (repeat (with_reducible (first | exact c3 | exact c4 | refine cell_dr ?_ | refine cell_stb ?_ ?_ | refine cell_al _ ?_ | (show _ ≠ _; omega))))
                  clear hKc Kc
                  (try simp only [List.getElem_toArray]); (try simp only [List.getElem_cons_succ]); (try simp only [List.getElem_cons_zero]); (try simp only [Act.put]); (try simp only [List.setIfInBounds_toArray]); (try simp only [List.set_cons_succ]); (try simp only [List.set_cons_zero])
                  refine wpAnyH_done (by kernel_rfl) ?_ _
                  refine NoPanic.normal ?_
                  go_wp2
                  go_roundw
                  case rel =>
                    refine ⟨p + 1, by omega, by go_num, ?_, (hX.out.other (by omega) _ _).other (by omega) _ _, (hT.out.other (by omega) _ _).other (by omega) _ _, ?_, (hB.out.setCell (p := ⟨G, p * 2, none⟩) hwG _).setCell (p := ⟨G, p * 2 + 1, none⟩) hwG _⟩
                    · show IsR _ _ _ _
                      rw [HPS.out]
                      exact (hP.out.other (by omega) _ _).other (by omega) _ _
                    · show World.ownsRow _ _ _ _ _ _ _
                      rw [← HXS.out, HSP.out]
                      exact rowB_set hO.out (HXL.out k p) p hltp a1 a2
                  case measure => simp [intOf]; omega
              · obtain rfl : p = j := by omega
                have o3 := hO.out
                rw [HXA.out] at o3
                have b3 := hB.out
                clear hP hX hT hO hB
                go_wp2
                go_roundw
                case rel => exact ⟨k + 1, by omega, by go_num, o3, b3⟩
                case measure => simp [intOf]; omega
        · obtain rfl : k = L := by omega
          have o4 := hO.out
          rw [← HEND.out] at o4
          have b4 := hB.out
          clear hO hB
          go_wp2
          exact bodyPost_ret (results_tmp rfl _ _ _) rfl ⟨G, rfl, o4, b4⟩
end Go.Proofs.Ytibncepllmjhhaa

/- The walk of the program's sums by power, with the function value of B. -/
namespace Go.Proofs.Ytibncepllmjhhaa
open Go.RowKit Go.Proofs.Ytibncepllmjhhaa.RM

set_option maxRecDepth 100000 in
set_option maxHeartbeats 16000000 in
theorem sumsB_any (f : Nat → Fr) (v : Value) (ss : List Sp) (n : Nat) (w : World) (h : RdS w v ss) (hn9 : n ≤ 900)
    (hf : ∀ k, k < ss.length → ∀ W : World, Below w.heap.size w W → Calls Try.prog 52 #[.agg #[.int .i64 (sp ss k).1.1, .int .i64 (sp ss k).1.2, .int .i64 (sp ss k).2.1, .int .i64 (sp ss k).2.2]] W fun e w' => e = .returned (.agg #[.int .i64 (f k).1, .int .i64 (f k).2]) ∧ Below W.heap.size W w') :
    Calls Try.prog 50 #[v, .int .i64 n, .func (.func 52) #[] #[]] w fun e w' => ∃ g, e = .returned (.slice (some ⟨g, 0, none⟩) n n) ∧ w'.ownsRow w.heap.size 33 2 (.slice (some ⟨g, 0, none⟩) n n) n (cellsR (smsL f ss n)) ∧ Below w.heap.size w w' := by
  obtain ⟨i0, hi, hz0, hz1, hz2⟩ := info_parts infoF
  obtain ⟨a, c, rfl, h2, h3, h4, h5⟩ := h
  have H5 : Hid (∀ j, j < ss.length → ∃ b off, a = some ⟨b, off, none⟩ ∧ w.cell? ⟨b, off + j * 4, none⟩ = some (.int .i64 (sp ss j).1.1) ∧ w.cell? ⟨b, off + j * 4 + 1, none⟩ = some (.int .i64 (sp ss j).1.2) ∧ w.cell? ⟨b, off + j * 4 + 2, none⟩ = some (.int .i64 (sp ss j).2.1) ∧ w.cell? ⟨b, off + j * 4 + 3, none⟩ = some (.int .i64 (sp ss j).2.2)) := h5
  have HF0 := hidP hf
  unfold maxLen at h2
  obtain ⟨L, hL⟩ : ∃ L, L = ss.length := ⟨_, rfl⟩
  have HEND : Hid (smsL f ss n = smsK f ss n L) := by show _ = _; rw [hL]; rfl
  rw [← hL] at h2 H5 HF0 ⊢
  clear h5 h3 h4 hL hf
  have HI0 : Hid (iniS n 0 = List.replicate n (0, 0)) := iniS_zero n
  have HIA : Hid (iniS n n = smsK f ss n 0) := iniS_all f ss n
  have HIS : Hid (∀ j, (iniS n j).set j (0, 1) = iniS n (j + 1)) := iniS_set n
  have HIL : Hid (∀ j, (iniS n j).length = n) := iniS_len n
  have HS0 : Hid (∀ i, spS f ss i 0 = (0, 1)) := fun i => rfl
  have HSS : Hid (∀ i k, spS f ss i (k + 1) = addP (spS f ss i k) (mulP (powP (sp ss k).1 i) (f k))) := fun i k => rfl
  have HXL : Hid (∀ k p, (mixS f ss n k p).length = n) := mixS_len f ss n
  have HX0 : Hid (∀ k, mixS f ss n k 0 = smsK f ss n k) := mixS_zero f ss n
  have HXA : Hid (∀ k, mixS f ss n k n = smsK f ss n (k + 1)) := mixS_all f ss n
  have HXT : Hid (∀ k p, p < n → fr (mixS f ss n k p) p = spS f ss p k) := mixS_at f ss n
  have HXS : Hid (∀ k p, (mixS f ss n k p).set p (spS f ss p (k + 1)) = mixS f ss n k (p + 1)) := mixS_set f ss n
  go_enter Try.func50, Try.ntmps50
  go_wp2_with (at_make; refine wpList_make_full _ rfl _ _ 36 rfl w.heap.size 33 i0 (.agg #[.int .i64 0, .int .i64 0]) 2 Try.underlying36 hi hz0 hz1 .i64 .i64 _ _ n rfl rfl rfl rfl (by rw [hz2]; omega) (by unfold maxLen; omega) (Nat.le_refl _) ?_; intro w1 hown hgrow)
  obtain ⟨G, hG⟩ : ∃ G, G = w.heap.size := ⟨_, rfl⟩
  have o0 : w1.ownsRow w.heap.size 33 2 (.slice (some ⟨G, 0, none⟩) n n) n (cellsR (iniS n 0)) := by
    rw [HI0.out, hG, ← madeF]; exact hown
  have hbg : Below w.heap.size w w1 := (Below.refl _ _).grown hgrow (Nat.le_refl _) (fun k e => by cases e)
  have hwG : w.heap.size ≤ G := by omega
  rw [← hG]
  clear hown hgrow hG
  go_loopw [20] (fun i wr => ∃ j : Nat, j ≤ n ∧ i = .int .i64 j ∧ Hid (wr.ownsRow w.heap.size 33 2 (.slice (some ⟨G, 0, none⟩) n n) n (cellsR (iniS n j))) ∧ Hid (Below w.heap.size w wr)) (fun i _ => n - (intOf i).toNat)
  case atStart => exact ⟨0, Nat.zero_le _, rfl, o0, hbg⟩
  case round =>
    clear o0 hbg
    obtain ⟨j, hj, rfl, hO, hB⟩ := hrel
    by_cases hlt : j < n
    · obtain ⟨c1, c2⟩ := own_R hO.out (HIL.out j) j hlt
      have f0 := hO.out.frozenAt (j * 2)
      have f1 := hO.out.frozenAt (j * 2 + 1)
      generalize ((iniS n j)[j]?.getD (0, 0)).1 = q1 at c1
      generalize ((iniS n j)[j]?.getD (0, 0)).2 = q2 at c2
      go_wp2
      go_roundw
      case rel =>
        refine ⟨j + 1, by omega, by go_num, ?_, (hB.out.setCell (p := ⟨G, j * 2, none⟩) hwG _).setCell (p := ⟨G, j * 2 + 1, none⟩) hwG _⟩
        show World.ownsRow _ _ _ _ _ _ _
        rw [← HIS.out]
        exact rowB_set hO.out (HIL.out j) j hlt 0 1
      case measure => simp [intOf]; omega
    · obtain rfl : j = n := by omega
      have o1 := hO.out
      rw [HIA.out] at o1
      have b1 := hB.out
      clear hO hB
      go_wp2
      go_loopw [30] (fun i wr => ∃ k : Nat, k ≤ L ∧ i = .int .i64 k ∧ Hid (wr.ownsRow w.heap.size 33 2 (.slice (some ⟨G, 0, none⟩) j j) j (cellsR (smsK f ss j k))) ∧ Hid (Below w.heap.size w wr)) (fun i _ => L - (intOf i).toNat)
      case atStart => exact ⟨0, Nat.zero_le _, rfl, o1, b1⟩
      case round =>
        clear o1 b1
        obtain ⟨k, hk, rfl, hO, hB⟩ := hrel
        by_cases hltk : k < L
        · obtain ⟨b, off, rfl, d1, d2, d3, d4⟩ := H5.out k hltk
          replace d1 := cell_keep hB.out d1
          replace d2 := cell_keep hB.out d2
          replace d3 := cell_keep hB.out d3
          replace d4 := cell_keep hB.out d4
          have HF := hidP (HF0.out k hltk)
          have HSK := hidP (fun i => HSS.out i k)
          obtain ⟨y, hy⟩ : ∃ z, z = f k := ⟨_, rfl⟩
          obtain ⟨t, ht⟩ : ∃ z, z = sp ss k := ⟨_, rfl⟩
          rw [← ht] at d1 d2 d3 d4 HF
          rw [← ht, ← hy] at HSK
          rw [← hy] at HF
          clear hy ht
          obtain ⟨⟨x1, x2⟩, z1, z2⟩ := t
          obtain ⟨y1, y2⟩ := y
          dsimp only at d1 d2 d3 d4 HF HSK
          have HPW := hidP (fun W => pwr_any x1 x2 W)
          go_upto_region 10 with fail
          obtain ⟨N, hN⟩ : ∃ N, N = wr.heap.size := ⟨_, rfl⟩
          obtain ⟨X, hX⟩ : ∃ X, X = wr.alloc (.cells #[.int .i64 x1, .int .i64 x2, .int .i64 z1, .int .i64 z2] 51) := ⟨_, rfl⟩
          have hbx : Below wr.heap.size wr X := by rw [hX]; exact b0S _ _
          have c1 : X.cell? ⟨N, 0, none⟩ = some (.int .i64 x1) := by rw [hX, hN]; simp [go_sem]
          have c2 : X.cell? ⟨N, 1, none⟩ = some (.int .i64 x2) := by rw [hX, hN]; simp [go_sem]
          have c3 : X.cell? ⟨N, 2, none⟩ = some (.int .i64 z1) := by rw [hX, hN]; simp [go_sem]
          have c4 : X.cell? ⟨N, 3, none⟩ = some (.int .i64 z2) := by rw [hX, hN]; simp [go_sem]
          replace hO := hidP (own_below hO.out hbx)
          replace hB := hidP (hB.out.trans (hbx.mono hB.out.size))
          rw [← hX, ← hN]
          clear hX hN hbx d1 d2 d3 d4
          go_cut [11, 12] from 31 to 65 (fun s11 s12 wx => ∃ Tb Pb Xb : Nat, s11 = .pointer (some ⟨Tb, 0, none⟩) ∧ s12 = .func (.func 78) #[] #[.pointer (some ⟨Pb, 0, none⟩), .pointer (some ⟨Xb, 0, none⟩)] ∧ Tb ≠ Pb ∧ Pb ≠ Xb ∧ G < Xb ∧ G < Pb ∧ G < Tb ∧ w.heap.size ≤ Pb ∧ w.heap.size ≤ Tb ∧ Hid (IsR wx Tb y1 y2) ∧ Hid (IsR wx Pb 1 1) ∧ Hid (IsR wx Xb x1 x2) ∧ Hid (wx.ownsRow w.heap.size 33 2 (.slice (some ⟨G, 0, none⟩) j j) j (cellsR (smsK f ss j k))) ∧ Hid (Below w.heap.size w wx))
          case first =>
            refine wp_region_noPanic ?_
            refine wp_region_held_drew (S := (fun w' => w'.cell? ⟨N, 0, none⟩ = some (.int .i64 x1) ∧ w'.cell? ⟨N, 1, none⟩ = some (.int .i64 x2) ∧ w'.cell? ⟨N, 2, none⟩ = some (.int .i64 z1) ∧ w'.cell? ⟨N, 3, none⟩ = some (.int .i64 z2))) (by kernel_rfl) ?_ (fun hHeld => ?_)
            · (try dsimp only)
              refine ⟨?_, ?_, ?_, ?_⟩ <;> (repeat (with_reducible (first | exact c1 | exact c2 | exact c3 | exact c4 | refine cell_dr ?_ | refine cell_stb ?_ ?_ | refine cell_al _ ?_ | (show _ ≠ _; omega))))
            have hbd := (Below.refl X.heap.size X).drew
            replace hO := hidP (own_below hO.out hbd)
            replace hB := hidP (hB.out.trans (hbd.mono hB.out.size))
            clear hbd
            replace c1 := cell_dr c1
            replace c2 := cell_dr c2
            replace c3 := cell_dr c3
            replace c4 := cell_dr c4
            obtain ⟨wd, hwd⟩ : ∃ u, u = X.drew := ⟨_, rfl⟩
            rw [← hwd] at hB hO c1 c2 c3 c4 hHeld ⊢
            have hwd' := hwd
            clear hwd
            clear hwd'
            refine wpAnyH_take (i := 0) (v := ?_) rfl (by kernel_rfl) (by kernel_rfl) (by kernel_rfl) (fun _ _ _ h => h) (Or.inl ⟨by kernel_rfl, ?_⟩) hHeld ?_
            rotate_left
            · intro wz hSw; (try dsimp only at hSw); go_simp; all_goals (try with_reducible rfl)
            (try simp only [List.getElem_toArray]); (try simp only [List.getElem_cons_succ]); (try simp only [List.getElem_cons_zero]); (try simp only [Act.put]); (try simp only [List.setIfInBounds_toArray]); (try simp only [List.set_cons_succ]); (try simp only [List.set_cons_zero])
            refine wpAnyH_take (i := 1) (v := ?_) rfl (by kernel_rfl) (by kernel_rfl) (by kernel_rfl) (fun _ _ _ h => h) (Or.inl ⟨by kernel_rfl, ?_⟩) hHeld ?_
            rotate_left
            · intro wz hSw; (try dsimp only at hSw); go_simp; all_goals (try with_reducible rfl)
            (try simp only [List.getElem_toArray]); (try simp only [List.getElem_cons_succ]); (try simp only [List.getElem_cons_zero]); (try simp only [Act.put]); (try simp only [List.setIfInBounds_toArray]); (try simp only [List.set_cons_succ]); (try simp only [List.set_cons_zero])
            refine wpAnyH_take (i := 3) (v := ?_) rfl (by kernel_rfl) (by kernel_rfl) (by kernel_rfl) (fun _ _ _ h => h) (Or.inl ⟨by kernel_rfl, ?_⟩) hHeld ?_
            rotate_left
            · intro wz hSw; (try dsimp only at hSw); go_simp; all_goals (try with_reducible rfl)
            (try simp only [List.getElem_toArray]); (try simp only [List.getElem_cons_succ]); (try simp only [List.getElem_cons_zero]); (try simp only [Act.put]); (try simp only [List.setIfInBounds_toArray]); (try simp only [List.set_cons_succ]); (try simp only [List.set_cons_zero])
            refine wpAnyH_take (i := 4) (v := ?_) rfl (by kernel_rfl) (by kernel_rfl) (by kernel_rfl) (fun _ _ _ h => h) (Or.inl ⟨by kernel_rfl, ?_⟩) hHeld ?_
            rotate_left
            · intro wz hSw; (try dsimp only at hSw); go_simp; all_goals (try with_reducible rfl)
            (try simp only [List.getElem_toArray]); (try simp only [List.getElem_cons_succ]); (try simp only [List.getElem_cons_zero]); (try simp only [Act.put]); (try simp only [List.setIfInBounds_toArray]); (try simp only [List.set_cons_succ]); (try simp only [List.set_cons_zero])
            refine wpAnyH_ready (rs := [2, 6]) (by kernel_rfl) (by simp) (AllReadyH.cons rfl (fun Kc hKc => ?_) (AllReadyH.cons rfl (fun Kc hKc => ?_) AllReadyH.nil))
            ·
              go_simp
              (go_at_call 52; refine (HF.out _ (hB.out)).mono ?_; rintro e u1 ⟨rfl, hb⟩)
              replace c1 := cell_keep hb c1
              replace c2 := cell_keep hb c2
              replace c3 := cell_keep hb c3
              replace c4 := cell_keep hb c4
              replace hO := hidP (own_below hO.out hb)
              replace hB := hidP (hB.out.trans (hb.mono hB.out.size))
              clear hb
              go_wp2_with fail
              refine hKc.out _ _ ?_ (fun hHeld => ?_)
              · (try dsimp only)
                refine ⟨?_, ?_, ?_, ?_⟩ <;> (repeat (with_reducible (first | exact c1 | exact c2 | exact c3 | exact c4 | refine cell_dr ?_ | refine cell_stb ?_ ?_ | refine cell_al _ ?_ | (show _ ≠ _; omega))))
              clear hKc Kc
              (try simp only [List.getElem_toArray]); (try simp only [List.getElem_cons_succ]); (try simp only [List.getElem_cons_zero]); (try simp only [Act.put]); (try simp only [List.setIfInBounds_toArray]); (try simp only [List.set_cons_succ]); (try simp only [List.set_cons_zero])
              refine wpAnyH_ready (rs := [5, 6]) (by kernel_rfl) (by simp) (AllReadyH.cons rfl (fun Kc hKc => ?_) (AllReadyH.cons rfl (fun Kc hKc => ?_) AllReadyH.nil))
              ·
                go_simp
                (go_at_call 71; refine (HPW.out _).mono ?_; rintro e u2 ⟨rfl, hu⟩)
                obtain ⟨Xb, hXb⟩ : ∃ A, A = u1.heap.size := ⟨_, rfl⟩
                obtain ⟨Pb, hPb⟩ : ∃ A, A = u1.heap.size + 1 := ⟨_, rfl⟩
                have hb : Below u1.heap.size u1 u2 := by rw [hu]; exact ((Below.refl _ _).alloc (Nat.le_refl _) _).alloc (by simp) _
                have hX : Hid (IsR u2 Xb x1 x2) := by show IsR _ _ _ _; rw [hu, hXb]; exact (IsR.new _ _ _).below (b0S _ _)
                have hP : Hid (IsR u2 Pb 1 1) := by
                  show IsR _ _ _ _
                  rw [hu, hPb]
                  have := IsR.new (u1.alloc (.cells #[.int .i64 x1, .int .i64 x2] 33)) 1 1
                  simpa using this
                have hGX : G < Xb := by have := (World.ownsRow.lt hO.out G rfl).2; omega
                have hPX : Xb < Pb := by omega
                have hwX : w.heap.size ≤ Xb := by have := hB.out.size; omega
                rw [← hPb, ← hXb]
                replace c1 := cell_keep hb c1
                replace c2 := cell_keep hb c2
                replace c3 := cell_keep hb c3
                replace c4 := cell_keep hb c4
                replace hO := hidP (own_below hO.out hb)
                replace hB := hidP (hB.out.trans (hb.mono hB.out.size))
                clear hb hu hXb hPb
                go_wp2_with fail
                refine hKc.out _ _ ?_ (fun hHeld => ?_)
                · (try dsimp only)
                  refine ⟨?_, ?_, ?_, ?_⟩ <;> (repeat (with_reducible (first | exact c1 | exact c2 | exact c3 | exact c4 | refine cell_dr ?_ | refine cell_stb ?_ ?_ | refine cell_al _ ?_ | (show _ ≠ _; omega))))
                clear hKc Kc
                (try simp only [List.getElem_toArray]); (try simp only [List.getElem_cons_succ]); (try simp only [List.getElem_cons_zero]); (try simp only [Act.put]); (try simp only [List.setIfInBounds_toArray]); (try simp only [List.set_cons_succ]); (try simp only [List.set_cons_zero])
                refine wpAnyH_ready (rs := [6]) (by kernel_rfl) (by simp) (AllReadyH.cons rfl (fun Kc hKc => ?_) AllReadyH.nil)
                go_simp
                obtain ⟨A, hA'⟩ : ∃ A, A = u2.heap.size := ⟨_, rfl⟩
                obtain ⟨u3, hu⟩ : ∃ u, u = u2.alloc (.cells #[.int .i64 0, .int .i64 0] 33) := ⟨_, rfl⟩
                have hb : Below u2.heap.size u2 u3 := by rw [hu]; exact b0S _ _
                have hA : Hid (IsR u3 A 0 0) := by show IsR _ _ _ _; rw [hu, hA']; exact IsR.new _ _ _
                have hAw : w.heap.size ≤ A := by rw [hA']; exact hB.out.size
                have hAG : G < A := by have := (World.ownsRow.lt hO.out G rfl).2; omega
                have hAhX := hX.out.lt
                rw [← hA'] at hAhX
                have hAhP := hP.out.lt
                rw [← hA'] at hAhP
                have hNA := World.block_lt_of_cell? u2 _ c1
                dsimp only at hNA
                rw [← hA'] at hNA
                rw [← hu, ← hA']
                replace c1 := cell_keep hb c1
                replace c2 := cell_keep hb c2
                replace c3 := cell_keep hb c3
                replace c4 := cell_keep hb c4
                replace hX := hidP (hX.out.below hb)
                replace hP := hidP (hP.out.below hb)
                replace hO := hidP (own_below hO.out hb)
                replace hB := hidP (hB.out.trans (hb.mono hB.out.size))
                clear hb hu hA'
                refine hKc.out _ _ ?_ (fun hHeld => ?_)
                · (try dsimp only)
                  refine ⟨?_, ?_, ?_, ?_⟩ <;> (repeat (with_reducible (first | exact c1 | exact c2 | exact c3 | exact c4 | refine cell_dr ?_ | refine cell_stb ?_ ?_ | refine cell_al _ ?_ | (show _ ≠ _; omega))))
                clear hKc Kc
                (try simp only [List.getElem_toArray]); (try simp only [List.getElem_cons_succ]); (try simp only [List.getElem_cons_zero]); (try simp only [Act.put]); (try simp only [List.setIfInBounds_toArray]); (try simp only [List.set_cons_succ]); (try simp only [List.set_cons_zero])
                have f0 := hA.out.f0
                have f1 := hA.out.f1
                have g0 := hA.out.c0
                have g1 := hA.out.c1
                refine wpAnyH_ready (rs := [7]) (by kernel_rfl) (by simp) (AllReadyH.cons rfl (fun Kc hKc => ?_) AllReadyH.nil)
                go_simp
                refine hKc.out _ _ ?_ (fun hHeld => ?_)
                · (try dsimp only)
                  refine ⟨?_, ?_, ?_, ?_⟩ <;> (repeat (with_reducible (first | exact c1 | exact c2 | exact c3 | exact c4 | refine cell_dr ?_ | refine cell_stb ?_ ?_ | refine cell_al _ ?_ | (show _ ≠ _; omega))))
                clear hKc Kc
                (try simp only [List.getElem_toArray]); (try simp only [List.getElem_cons_succ]); (try simp only [List.getElem_cons_zero]); (try simp only [Act.put]); (try simp only [List.setIfInBounds_toArray]); (try simp only [List.set_cons_succ]); (try simp only [List.set_cons_zero])
                refine wpAnyH_take (i := 8) (v := ?_) rfl (by kernel_rfl) (by kernel_rfl) (by kernel_rfl) (fun _ _ _ h => h) (Or.inl ⟨by kernel_rfl, ?_⟩) hHeld ?_
                rotate_left
                · intro wz hSw; (try dsimp only at hSw); go_simp; all_goals (try with_reducible rfl)
                (try simp only [List.getElem_toArray]); (try simp only [List.getElem_cons_succ]); (try simp only [List.getElem_cons_zero]); (try simp only [Act.put]); (try simp only [List.setIfInBounds_toArray]); (try simp only [List.set_cons_succ]); (try simp only [List.set_cons_zero])
                refine wpAnyH_done (by kernel_rfl) ?_ _
                refine NoPanic.normal ?_
                go_wp2_with fail
                go_meet
                case rel =>
                  refine ⟨A, Pb, Xb, rfl, rfl, by omega, by omega, by omega, by omega, by omega, by omega, hAw, (hA.out.set0 y1).set1 y2, (hP.out.other (by omega) 0 (.int .i64 y1)).other (by omega) 1 (.int .i64 y2), (hX.out.other (by omega) 0 (.int .i64 y1)).other (by omega) 1 (.int .i64 y2), own_st (own_st hO.out (S := A) (fun b e => by cases e; omega) 0 (.int .i64 y1)) (S := A) (fun b e => by cases e; omega) 1 (.int .i64 y2), (hB.out.setCell (p := ⟨A, 0, none⟩) hAw _).setCell (p := ⟨A, 1, none⟩) hAw _⟩
              ·
                go_simp
                obtain ⟨A, hA'⟩ : ∃ A, A = u1.heap.size := ⟨_, rfl⟩
                obtain ⟨u4, hu⟩ : ∃ u, u = u1.alloc (.cells #[.int .i64 0, .int .i64 0] 33) := ⟨_, rfl⟩
                have hb : Below u1.heap.size u1 u4 := by rw [hu]; exact b0S _ _
                have hA : Hid (IsR u4 A 0 0) := by show IsR _ _ _ _; rw [hu, hA']; exact IsR.new _ _ _
                have hAw : w.heap.size ≤ A := by rw [hA']; exact hB.out.size
                have hAG : G < A := by have := (World.ownsRow.lt hO.out G rfl).2; omega
                have hNA := World.block_lt_of_cell? u1 _ c1
                dsimp only at hNA
                rw [← hA'] at hNA
                rw [← hu, ← hA']
                replace c1 := cell_keep hb c1
                replace c2 := cell_keep hb c2
                replace c3 := cell_keep hb c3
                replace c4 := cell_keep hb c4
                replace hO := hidP (own_below hO.out hb)
                replace hB := hidP (hB.out.trans (hb.mono hB.out.size))
                clear hb hu hA'
                refine hKc.out _ _ ?_ (fun hHeld => ?_)
                · (try dsimp only)
                  refine ⟨?_, ?_, ?_, ?_⟩ <;> (repeat (with_reducible (first | exact c1 | exact c2 | exact c3 | exact c4 | refine cell_dr ?_ | refine cell_stb ?_ ?_ | refine cell_al _ ?_ | (show _ ≠ _; omega))))
                clear hKc Kc
                (try simp only [List.getElem_toArray]); (try simp only [List.getElem_cons_succ]); (try simp only [List.getElem_cons_zero]); (try simp only [Act.put]); (try simp only [List.setIfInBounds_toArray]); (try simp only [List.set_cons_succ]); (try simp only [List.set_cons_zero])
                refine wpAnyH_ready (rs := [5]) (by kernel_rfl) (by simp) (AllReadyH.cons rfl (fun Kc hKc => ?_) AllReadyH.nil)
                go_simp
                (go_at_call 71; refine (HPW.out _).mono ?_; rintro e u5 ⟨rfl, hu⟩)
                obtain ⟨Xb, hXb⟩ : ∃ A, A = u4.heap.size := ⟨_, rfl⟩
                obtain ⟨Pb, hPb⟩ : ∃ A, A = u4.heap.size + 1 := ⟨_, rfl⟩
                have hb : Below u4.heap.size u4 u5 := by rw [hu]; exact ((Below.refl _ _).alloc (Nat.le_refl _) _).alloc (by simp) _
                have hX : Hid (IsR u5 Xb x1 x2) := by show IsR _ _ _ _; rw [hu, hXb]; exact (IsR.new _ _ _).below (b0S _ _)
                have hP : Hid (IsR u5 Pb 1 1) := by
                  show IsR _ _ _ _
                  rw [hu, hPb]
                  have := IsR.new (u4.alloc (.cells #[.int .i64 x1, .int .i64 x2] 33)) 1 1
                  simpa using this
                have hGX : G < Xb := by have := (World.ownsRow.lt hO.out G rfl).2; omega
                have hPX : Xb < Pb := by omega
                have hwX : w.heap.size ≤ Xb := by have := hB.out.size; omega
                have hXhA := hA.out.lt
                rw [← hXb] at hXhA
                rw [← hPb, ← hXb]
                replace c1 := cell_keep hb c1
                replace c2 := cell_keep hb c2
                replace c3 := cell_keep hb c3
                replace c4 := cell_keep hb c4
                replace hA := hidP (hA.out.below hb)
                replace hO := hidP (own_below hO.out hb)
                replace hB := hidP (hB.out.trans (hb.mono hB.out.size))
                clear hb hu hXb hPb
                go_wp2_with fail
                refine hKc.out _ _ ?_ (fun hHeld => ?_)
                · (try dsimp only)
                  refine ⟨?_, ?_, ?_, ?_⟩ <;> (repeat (with_reducible (first | exact c1 | exact c2 | exact c3 | exact c4 | refine cell_dr ?_ | refine cell_stb ?_ ?_ | refine cell_al _ ?_ | (show _ ≠ _; omega))))
                clear hKc Kc
                (try simp only [List.getElem_toArray]); (try simp only [List.getElem_cons_succ]); (try simp only [List.getElem_cons_zero]); (try simp only [Act.put]); (try simp only [List.setIfInBounds_toArray]); (try simp only [List.set_cons_succ]); (try simp only [List.set_cons_zero])
                have f0 := hA.out.f0
                have f1 := hA.out.f1
                have g0 := hA.out.c0
                have g1 := hA.out.c1
                refine wpAnyH_ready (rs := [7]) (by kernel_rfl) (by simp) (AllReadyH.cons rfl (fun Kc hKc => ?_) AllReadyH.nil)
                go_simp
                refine hKc.out _ _ ?_ (fun hHeld => ?_)
                · (try dsimp only)
                  refine ⟨?_, ?_, ?_, ?_⟩ <;> (repeat (with_reducible (first | exact c1 | exact c2 | exact c3 | exact c4 | refine cell_dr ?_ | refine cell_stb ?_ ?_ | refine cell_al _ ?_ | (show _ ≠ _; omega))))
                clear hKc Kc
                (try simp only [List.getElem_toArray]); (try simp only [List.getElem_cons_succ]); (try simp only [List.getElem_cons_zero]); (try simp only [Act.put]); (try simp only [List.setIfInBounds_toArray]); (try simp only [List.set_cons_succ]); (try simp only [List.set_cons_zero])
                refine wpAnyH_take (i := 8) (v := ?_) rfl (by kernel_rfl) (by kernel_rfl) (by kernel_rfl) (fun _ _ _ h => h) (Or.inl ⟨by kernel_rfl, ?_⟩) hHeld ?_
                rotate_left
                · intro wz hSw; (try dsimp only at hSw); go_simp; all_goals (try with_reducible rfl)
                (try simp only [List.getElem_toArray]); (try simp only [List.getElem_cons_succ]); (try simp only [List.getElem_cons_zero]); (try simp only [Act.put]); (try simp only [List.setIfInBounds_toArray]); (try simp only [List.set_cons_succ]); (try simp only [List.set_cons_zero])
                refine wpAnyH_done (by kernel_rfl) ?_ _
                refine NoPanic.normal ?_
                go_wp2_with fail
                go_meet
                case rel =>
                  refine ⟨A, Pb, Xb, rfl, rfl, by omega, by omega, by omega, by omega, by omega, by omega, hAw, (hA.out.set0 y1).set1 y2, (hP.out.other (by omega) 0 (.int .i64 y1)).other (by omega) 1 (.int .i64 y2), (hX.out.other (by omega) 0 (.int .i64 y1)).other (by omega) 1 (.int .i64 y2), own_st (own_st hO.out (S := A) (fun b e => by cases e; omega) 0 (.int .i64 y1)) (S := A) (fun b e => by cases e; omega) 1 (.int .i64 y2), (hB.out.setCell (p := ⟨A, 0, none⟩) hAw _).setCell (p := ⟨A, 1, none⟩) hAw _⟩
            ·
              go_simp
              obtain ⟨A, hA'⟩ : ∃ A, A = wd.heap.size := ⟨_, rfl⟩
              obtain ⟨u6, hu⟩ : ∃ u, u = wd.alloc (.cells #[.int .i64 0, .int .i64 0] 33) := ⟨_, rfl⟩
              have hb : Below wd.heap.size wd u6 := by rw [hu]; exact b0S _ _
              have hA : Hid (IsR u6 A 0 0) := by show IsR _ _ _ _; rw [hu, hA']; exact IsR.new _ _ _
              have hAw : w.heap.size ≤ A := by rw [hA']; exact hB.out.size
              have hAG : G < A := by have := (World.ownsRow.lt hO.out G rfl).2; omega
              have hNA := World.block_lt_of_cell? wd _ c1
              dsimp only at hNA
              rw [← hA'] at hNA
              rw [← hu, ← hA']
              replace c1 := cell_keep hb c1
              replace c2 := cell_keep hb c2
              replace c3 := cell_keep hb c3
              replace c4 := cell_keep hb c4
              replace hO := hidP (own_below hO.out hb)
              replace hB := hidP (hB.out.trans (hb.mono hB.out.size))
              clear hb hu hA'
              refine hKc.out _ _ ?_ (fun hHeld => ?_)
              · (try dsimp only)
                refine ⟨?_, ?_, ?_, ?_⟩ <;> (repeat (with_reducible (first | exact c1 | exact c2 | exact c3 | exact c4 | refine cell_dr ?_ | refine cell_stb ?_ ?_ | refine cell_al _ ?_ | (show _ ≠ _; omega))))
              clear hKc Kc
              (try simp only [List.getElem_toArray]); (try simp only [List.getElem_cons_succ]); (try simp only [List.getElem_cons_zero]); (try simp only [Act.put]); (try simp only [List.setIfInBounds_toArray]); (try simp only [List.set_cons_succ]); (try simp only [List.set_cons_zero])
              refine wpAnyH_ready (rs := [2]) (by kernel_rfl) (by simp) (AllReadyH.cons rfl (fun Kc hKc => ?_) AllReadyH.nil)
              go_simp
              (go_at_call 52; refine (HF.out _ (hB.out)).mono ?_; rintro e u7 ⟨rfl, hb⟩)
              replace c1 := cell_keep hb c1
              replace c2 := cell_keep hb c2
              replace c3 := cell_keep hb c3
              replace c4 := cell_keep hb c4
              replace hA := hidP (hA.out.below hb)
              replace hO := hidP (own_below hO.out hb)
              replace hB := hidP (hB.out.trans (hb.mono hB.out.size))
              clear hb
              go_wp2_with fail
              refine hKc.out _ _ ?_ (fun hHeld => ?_)
              · (try dsimp only)
                refine ⟨?_, ?_, ?_, ?_⟩ <;> (repeat (with_reducible (first | exact c1 | exact c2 | exact c3 | exact c4 | refine cell_dr ?_ | refine cell_stb ?_ ?_ | refine cell_al _ ?_ | (show _ ≠ _; omega))))
              clear hKc Kc
              (try simp only [List.getElem_toArray]); (try simp only [List.getElem_cons_succ]); (try simp only [List.getElem_cons_zero]); (try simp only [Act.put]); (try simp only [List.setIfInBounds_toArray]); (try simp only [List.set_cons_succ]); (try simp only [List.set_cons_zero])
              refine wpAnyH_ready (rs := [5]) (by kernel_rfl) (by simp) (AllReadyH.cons rfl (fun Kc hKc => ?_) AllReadyH.nil)
              go_simp
              (go_at_call 71; refine (HPW.out _).mono ?_; rintro e u8 ⟨rfl, hu⟩)
              obtain ⟨Xb, hXb⟩ : ∃ A, A = u7.heap.size := ⟨_, rfl⟩
              obtain ⟨Pb, hPb⟩ : ∃ A, A = u7.heap.size + 1 := ⟨_, rfl⟩
              have hb : Below u7.heap.size u7 u8 := by rw [hu]; exact ((Below.refl _ _).alloc (Nat.le_refl _) _).alloc (by simp) _
              have hX : Hid (IsR u8 Xb x1 x2) := by show IsR _ _ _ _; rw [hu, hXb]; exact (IsR.new _ _ _).below (b0S _ _)
              have hP : Hid (IsR u8 Pb 1 1) := by
                show IsR _ _ _ _
                rw [hu, hPb]
                have := IsR.new (u7.alloc (.cells #[.int .i64 x1, .int .i64 x2] 33)) 1 1
                simpa using this
              have hGX : G < Xb := by have := (World.ownsRow.lt hO.out G rfl).2; omega
              have hPX : Xb < Pb := by omega
              have hwX : w.heap.size ≤ Xb := by have := hB.out.size; omega
              have hXhA := hA.out.lt
              rw [← hXb] at hXhA
              rw [← hPb, ← hXb]
              replace c1 := cell_keep hb c1
              replace c2 := cell_keep hb c2
              replace c3 := cell_keep hb c3
              replace c4 := cell_keep hb c4
              replace hA := hidP (hA.out.below hb)
              replace hO := hidP (own_below hO.out hb)
              replace hB := hidP (hB.out.trans (hb.mono hB.out.size))
              clear hb hu hXb hPb
              go_wp2_with fail
              refine hKc.out _ _ ?_ (fun hHeld => ?_)
              · (try dsimp only)
                refine ⟨?_, ?_, ?_, ?_⟩ <;> (repeat (with_reducible (first | exact c1 | exact c2 | exact c3 | exact c4 | refine cell_dr ?_ | refine cell_stb ?_ ?_ | refine cell_al _ ?_ | (show _ ≠ _; omega))))
              clear hKc Kc
              (try simp only [List.getElem_toArray]); (try simp only [List.getElem_cons_succ]); (try simp only [List.getElem_cons_zero]); (try simp only [Act.put]); (try simp only [List.setIfInBounds_toArray]); (try simp only [List.set_cons_succ]); (try simp only [List.set_cons_zero])
              have f0 := hA.out.f0
              have f1 := hA.out.f1
              have g0 := hA.out.c0
              have g1 := hA.out.c1
              refine wpAnyH_ready (rs := [7]) (by kernel_rfl) (by simp) (AllReadyH.cons rfl (fun Kc hKc => ?_) AllReadyH.nil)
              go_simp
              refine hKc.out _ _ ?_ (fun hHeld => ?_)
              · (try dsimp only)
                refine ⟨?_, ?_, ?_, ?_⟩ <;> (repeat (with_reducible (first | exact c1 | exact c2 | exact c3 | exact c4 | refine cell_dr ?_ | refine cell_stb ?_ ?_ | refine cell_al _ ?_ | (show _ ≠ _; omega))))
              clear hKc Kc
              (try simp only [List.getElem_toArray]); (try simp only [List.getElem_cons_succ]); (try simp only [List.getElem_cons_zero]); (try simp only [Act.put]); (try simp only [List.setIfInBounds_toArray]); (try simp only [List.set_cons_succ]); (try simp only [List.set_cons_zero])
              refine wpAnyH_take (i := 8) (v := ?_) rfl (by kernel_rfl) (by kernel_rfl) (by kernel_rfl) (fun _ _ _ h => h) (Or.inl ⟨by kernel_rfl, ?_⟩) hHeld ?_
              rotate_left
              · intro wz hSw; (try dsimp only at hSw); go_simp; all_goals (try with_reducible rfl)
              (try simp only [List.getElem_toArray]); (try simp only [List.getElem_cons_succ]); (try simp only [List.getElem_cons_zero]); (try simp only [Act.put]); (try simp only [List.setIfInBounds_toArray]); (try simp only [List.set_cons_succ]); (try simp only [List.set_cons_zero])
              refine wpAnyH_done (by kernel_rfl) ?_ _
              refine NoPanic.normal ?_
              go_wp2_with fail
              go_meet
              case rel =>
                refine ⟨A, Pb, Xb, rfl, rfl, by omega, by omega, by omega, by omega, by omega, by omega, hAw, (hA.out.set0 y1).set1 y2, (hP.out.other (by omega) 0 (.int .i64 y1)).other (by omega) 1 (.int .i64 y2), (hX.out.other (by omega) 0 (.int .i64 y1)).other (by omega) 1 (.int .i64 y2), own_st (own_st hO.out (S := A) (fun b e => by cases e; omega) 0 (.int .i64 y1)) (S := A) (fun b e => by cases e; omega) 1 (.int .i64 y2), (hB.out.setCell (p := ⟨A, 0, none⟩) hAw _).setCell (p := ⟨A, 1, none⟩) hAw _⟩
          case rest =>
            clear c1 c2 c3 c4 hO hB
            rename_i wc
            obtain ⟨Tb, Pb, Xb, rfl, rfl, hTP, hPX, hGX, hGP, hGT, hwP, hwT, hT, hP, hX, hO, hB⟩ := hcut
            have o2 := hO.out
            rw [← HX0.out k] at o2
            have p2 : IsR wc Pb (powP (x1, x2) 0).1 (powP (x1, x2) 0).2 := hP.out
            have t2 := hT.out
            have x2' := hX.out
            have b2 := hB.out
            clear hO hB hP hX hT
            go_wp2
            go_loopw [42] (fun i wr => ∃ p : Nat, p ≤ j ∧ i = .int .i64 p ∧ Hid (IsR wr Pb (powP (x1, x2) p).1 (powP (x1, x2) p).2) ∧ Hid (IsR wr Xb x1 x2) ∧ Hid (IsR wr Tb y1 y2) ∧ Hid (wr.ownsRow w.heap.size 33 2 (.slice (some ⟨G, 0, none⟩) j j) j (cellsR (mixS f ss j k p))) ∧ Hid (Below w.heap.size w wr)) (fun i _ => j - (intOf i).toNat)
            case atStart => exact ⟨0, Nat.zero_le _, rfl, p2, x2', t2, o2, b2⟩
            case round =>
              clear p2 x2' t2 o2 b2
              obtain ⟨p, hp, rfl, hP, hX, hT, hO, hB⟩ := hrel
              by_cases hltp : p < j
              · have c1 := hT.out.c0
                have c2 := hT.out.c1
                have HPS : Hid (powP (x1, x2) (p + 1) = mulP (powP (x1, x2) p) (x1, x2)) := rfl
                have HSP := hidP (HSK.out p)
                obtain ⟨q, hq⟩ : ∃ z, z = powP (x1, x2) p := ⟨_, rfl⟩
                rw [← hq] at hP HPS HSP
                clear hq
                obtain ⟨q1, q2⟩ := q
                dsimp only at hP
                have HN := hidP (fun W (k1 : IsR W Pb q1 q2) (k2 : IsR W Xb x1 x2) => nxt_any Pb Xb q1 q2 x1 x2 W k1 k2)
                obtain ⟨r, hr⟩ : ∃ z, z = mulP (q1, q2) (x1, x2) := ⟨_, rfl⟩
                rw [← hr] at HN HPS
                clear hr
                obtain ⟨r1, r2⟩ := r
                have HM := hidP (fun W => mulC q1 q2 y1 y2 W)
                obtain ⟨m, hm⟩ : ∃ z, z = mulP (q1, q2) (y1, y2) := ⟨_, rfl⟩
                obtain ⟨mo, hmo⟩ : ∃ z, z = mulK (q1, q2) (y1, y2) := ⟨_, rfl⟩
                rw [← hm, ← hmo] at HM
                rw [← hm] at HSP
                clear hm hmo
                obtain ⟨m1, m2⟩ := m
                have HXP := hidP (HXT.out k p hltp)
                obtain ⟨s, hs⟩ : ∃ z, z = spS f ss p k := ⟨_, rfl⟩
                rw [← hs] at HSP HXP
                clear hs
                obtain ⟨s1, s2⟩ := s
                have HA := hidP (fun W => addC s1 s2 m1 m2 W)
                obtain ⟨z, hz⟩ : ∃ z, z = addP (s1, s2) (m1, m2) := ⟨_, rfl⟩
                obtain ⟨zo, hzo⟩ : ∃ z, z = addK (s1, s2) (m1, m2) := ⟨_, rfl⟩
                rw [← hz, ← hzo] at HA
                rw [← hz] at HSP
                clear hz hzo
                obtain ⟨a1, a2⟩ := z
                dsimp only at HN HM HA
                go_upto_region 14 with fail
                go_cut [14, 15] from 43 to 64 (fun s14 s15 wx => ∃ M : Nat, s14 = .pointer (some ⟨M, 0, none⟩) ∧ s15 = .bool mo ∧ G < M ∧ Hid (IsR wx M m1 m2) ∧ Hid (IsR wx Pb r1 r2) ∧ Hid (IsR wx Xb x1 x2) ∧ Hid (IsR wx Tb y1 y2) ∧ Hid (wx.ownsRow w.heap.size 33 2 (.slice (some ⟨G, 0, none⟩) j j) j (cellsR (mixS f ss j k p))) ∧ Hid (Below w.heap.size w wx))
                case first =>
                  refine wp_region_noPanic ?_
                  refine wp_region_held_drew (S := (fun w' => w'.cell? ⟨Tb, 0, none⟩ = some (.int .i64 y1) ∧ w'.cell? ⟨Tb, 1, none⟩ = some (.int .i64 y2))) (by kernel_rfl) ?_ (fun hHeld => ?_)
                  · (try dsimp only)
                    refine ⟨?_, ?_⟩ <;> (repeat (with_reducible (first | exact c1 | exact c2 | refine cell_dr ?_ | refine cell_stb ?_ ?_ | refine cell_al _ ?_ | (show _ ≠ _; omega))))
                  have hbd := (Below.refl wr.heap.size wr).drew
                  replace hP := hidP (hP.out.below hbd)
                  replace hX := hidP (hX.out.below hbd)
                  replace hT := hidP (hT.out.below hbd)
                  replace hO := hidP (own_below hO.out hbd)
                  replace hB := hidP (hB.out.trans (hbd.mono hB.out.size))
                  clear hbd
                  replace c1 := cell_dr c1
                  replace c2 := cell_dr c2
                  obtain ⟨wd, hwd⟩ : ∃ u, u = wr.drew := ⟨_, rfl⟩
                  rw [← hwd] at hB hO hP hX hT c1 c2 hHeld ⊢
                  have hwd' := hwd
                  clear hwd
                  clear hwd'
                  refine wpAnyH_take (i := 0) (v := ?_) rfl (by kernel_rfl) (by kernel_rfl) (by kernel_rfl) (fun _ _ _ h => h) (Or.inl ⟨by kernel_rfl, ?_⟩) hHeld ?_
                  rotate_left
                  · intro wz hSw; (try dsimp only at hSw); go_simp; all_goals (try with_reducible rfl)
                  (try simp only [List.getElem_toArray]); (try simp only [List.getElem_cons_succ]); (try simp only [List.getElem_cons_zero]); (try simp only [Act.put]); (try simp only [List.setIfInBounds_toArray]); (try simp only [List.set_cons_succ]); (try simp only [List.set_cons_zero])
                  refine wpAnyH_take (i := 2) (v := ?_) rfl (by kernel_rfl) (by kernel_rfl) (by kernel_rfl) (fun _ _ _ h => h) (Or.inl ⟨by kernel_rfl, ?_⟩) hHeld ?_
                  rotate_left
                  · intro wz hSw; (try dsimp only at hSw); go_simp; all_goals (try with_reducible rfl)
                  (try simp only [List.getElem_toArray]); (try simp only [List.getElem_cons_succ]); (try simp only [List.getElem_cons_zero]); (try simp only [Act.put]); (try simp only [List.setIfInBounds_toArray]); (try simp only [List.set_cons_succ]); (try simp only [List.set_cons_zero])
                  refine wpAnyH_ready (rs := [1, 7]) (by kernel_rfl) (by simp) (AllReadyH.cons rfl (fun Kc hKc => ?_) (AllReadyH.cons rfl (fun Kc hKc => ?_) AllReadyH.nil))
                  ·
                    go_simp
                    (go_at_call 78; refine (HN.out _ hP.out hX.out).mono ?_; rintro e u9 ⟨rfl, hP', g2⟩)
                    replace c1 := cell_g g2 c1 hTP
                    replace c2 := cell_g g2 c2 hTP
                    replace hX := hidP (hX.out.gk g2 hPX.symm)
                    replace hT := hidP (hT.out.gk g2 hTP)
                    replace hO := hidP (own_gne hO.out g2 (by intro e; have e2 : G = Pb := Option.some.inj e; omega))
                    replace hB := hidP (hB.out.trans (below_grownK g2 hwP hB.out.size))
                    replace hP := hidP hP'
                    clear g2 hP'
                    go_wp2_with fail
                    refine hKc.out _ _ ?_ (fun hHeld => ?_)
                    · (try dsimp only)
                      refine ⟨?_, ?_⟩ <;> (repeat (with_reducible (first | exact c1 | exact c2 | refine cell_dr ?_ | refine cell_stb ?_ ?_ | refine cell_al _ ?_ | (show _ ≠ _; omega))))
                    clear hKc Kc
                    (try simp only [List.getElem_toArray]); (try simp only [List.getElem_cons_succ]); (try simp only [List.getElem_cons_zero]); (try simp only [Act.put]); (try simp only [List.setIfInBounds_toArray]); (try simp only [List.set_cons_succ]); (try simp only [List.set_cons_zero])
                    refine wpAnyH_ready (rs := [3, 7]) (by kernel_rfl) (by simp) (AllReadyH.cons rfl (fun Kc hKc => ?_) (AllReadyH.cons rfl (fun Kc hKc => ?_) AllReadyH.nil))
                    ·
                      go_simp
                      (go_at_call 38; refine (HM.out _).mono ?_; rintro e u10 ⟨rfl, hb⟩)
                      replace c1 := cell_keep hb c1
                      replace c2 := cell_keep hb c2
                      replace hP := hidP (hP.out.below hb)
                      replace hX := hidP (hX.out.below hb)
                      replace hT := hidP (hT.out.below hb)
                      replace hO := hidP (own_below hO.out hb)
                      replace hB := hidP (hB.out.trans (hb.mono hB.out.size))
                      clear hb
                      go_wp2_with fail
                      refine hKc.out _ _ ?_ (fun hHeld => ?_)
                      · (try dsimp only)
                        refine ⟨?_, ?_⟩ <;> (repeat (with_reducible (first | exact c1 | exact c2 | refine cell_dr ?_ | refine cell_stb ?_ ?_ | refine cell_al _ ?_ | (show _ ≠ _; omega))))
                      clear hKc Kc
                      (try simp only [List.getElem_toArray]); (try simp only [List.getElem_cons_succ]); (try simp only [List.getElem_cons_zero]); (try simp only [Act.put]); (try simp only [List.setIfInBounds_toArray]); (try simp only [List.set_cons_succ]); (try simp only [List.set_cons_zero])
                      refine wpAnyH_take (i := 4) (v := ?_) rfl (by kernel_rfl) (by kernel_rfl) (by kernel_rfl) (fun _ _ _ h => h) (Or.inl ⟨by kernel_rfl, ?_⟩) hHeld ?_
                      rotate_left
                      · intro wz hSw; (try dsimp only at hSw); go_simp; all_goals (try with_reducible rfl)
                      (try simp only [List.getElem_toArray]); (try simp only [List.getElem_cons_succ]); (try simp only [List.getElem_cons_zero]); (try simp only [Act.put]); (try simp only [List.setIfInBounds_toArray]); (try simp only [List.set_cons_succ]); (try simp only [List.set_cons_zero])
                      refine wpAnyH_take (i := 5) (v := ?_) rfl (by kernel_rfl) (by kernel_rfl) (by kernel_rfl) (fun _ _ _ h => h) (Or.inl ⟨by kernel_rfl, ?_⟩) hHeld ?_
                      rotate_left
                      · intro wz hSw; (try dsimp only at hSw); go_simp; all_goals (try with_reducible rfl)
                      (try simp only [List.getElem_toArray]); (try simp only [List.getElem_cons_succ]); (try simp only [List.getElem_cons_zero]); (try simp only [Act.put]); (try simp only [List.setIfInBounds_toArray]); (try simp only [List.set_cons_succ]); (try simp only [List.set_cons_zero])
                      refine wpAnyH_take (i := 6) (v := ?_) rfl (by kernel_rfl) (by kernel_rfl) (by kernel_rfl) (fun _ _ _ h => h) (Or.inl ⟨by kernel_rfl, ?_⟩) hHeld ?_
                      rotate_left
                      · intro wz hSw; (try dsimp only at hSw); go_simp; all_goals (try with_reducible rfl)
                      (try simp only [List.getElem_toArray]); (try simp only [List.getElem_cons_succ]); (try simp only [List.getElem_cons_zero]); (try simp only [Act.put]); (try simp only [List.setIfInBounds_toArray]); (try simp only [List.set_cons_succ]); (try simp only [List.set_cons_zero])
                      refine wpAnyH_ready (rs := [7]) (by kernel_rfl) (by simp) (AllReadyH.cons rfl (fun Kc hKc => ?_) AllReadyH.nil)
                      go_simp
                      obtain ⟨A, hA'⟩ : ∃ A, A = u10.heap.size := ⟨_, rfl⟩
                      obtain ⟨u11, hu⟩ : ∃ u, u = u10.alloc (.cells #[.int .i64 0, .int .i64 0] 33) := ⟨_, rfl⟩
                      have hb : Below u10.heap.size u10 u11 := by rw [hu]; exact b0S _ _
                      have hA : Hid (IsR u11 A 0 0) := by show IsR _ _ _ _; rw [hu, hA']; exact IsR.new _ _ _
                      have hAw : w.heap.size ≤ A := by rw [hA']; exact hB.out.size
                      have hAG : G < A := by have := (World.ownsRow.lt hO.out G rfl).2; omega
                      have hAhP := hP.out.lt
                      rw [← hA'] at hAhP
                      have hAhX := hX.out.lt
                      rw [← hA'] at hAhX
                      have hAhT := hT.out.lt
                      rw [← hA'] at hAhT
                      have hNA := World.block_lt_of_cell? u10 _ c1
                      dsimp only at hNA
                      rw [← hA'] at hNA
                      rw [← hu, ← hA']
                      replace c1 := cell_keep hb c1
                      replace c2 := cell_keep hb c2
                      replace hP := hidP (hP.out.below hb)
                      replace hX := hidP (hX.out.below hb)
                      replace hT := hidP (hT.out.below hb)
                      replace hO := hidP (own_below hO.out hb)
                      replace hB := hidP (hB.out.trans (hb.mono hB.out.size))
                      clear hb hu hA'
                      refine hKc.out _ _ ?_ (fun hHeld => ?_)
                      · (try dsimp only)
                        refine ⟨?_, ?_⟩ <;> (repeat (with_reducible (first | exact c1 | exact c2 | refine cell_dr ?_ | refine cell_stb ?_ ?_ | refine cell_al _ ?_ | (show _ ≠ _; omega))))
                      clear hKc Kc
                      (try simp only [List.getElem_toArray]); (try simp only [List.getElem_cons_succ]); (try simp only [List.getElem_cons_zero]); (try simp only [Act.put]); (try simp only [List.setIfInBounds_toArray]); (try simp only [List.set_cons_succ]); (try simp only [List.set_cons_zero])
                      have f0 := hA.out.f0
                      have f1 := hA.out.f1
                      have g0 := hA.out.c0
                      have g1 := hA.out.c1
                      refine wpAnyH_ready (rs := [8]) (by kernel_rfl) (by simp) (AllReadyH.cons rfl (fun Kc hKc => ?_) AllReadyH.nil)
                      go_simp
                      refine hKc.out _ _ ?_ (fun hHeld => ?_)
                      · (try dsimp only)
                        refine ⟨?_, ?_⟩ <;> (repeat (with_reducible (first | exact c1 | exact c2 | refine cell_dr ?_ | refine cell_stb ?_ ?_ | refine cell_al _ ?_ | (show _ ≠ _; omega))))
                      clear hKc Kc
                      (try simp only [List.getElem_toArray]); (try simp only [List.getElem_cons_succ]); (try simp only [List.getElem_cons_zero]); (try simp only [Act.put]); (try simp only [List.setIfInBounds_toArray]); (try simp only [List.set_cons_succ]); (try simp only [List.set_cons_zero])
                      refine wpAnyH_take (i := 9) (v := ?_) rfl (by kernel_rfl) (by kernel_rfl) (by kernel_rfl) (fun _ _ _ h => h) (Or.inl ⟨by kernel_rfl, ?_⟩) hHeld ?_
                      rotate_left
                      · intro wz hSw; (try dsimp only at hSw); go_simp; all_goals (try with_reducible rfl)
                      (try simp only [List.getElem_toArray]); (try simp only [List.getElem_cons_succ]); (try simp only [List.getElem_cons_zero]); (try simp only [Act.put]); (try simp only [List.setIfInBounds_toArray]); (try simp only [List.set_cons_succ]); (try simp only [List.set_cons_zero])
                      refine wpAnyH_done (by kernel_rfl) ?_ _
                      refine NoPanic.normal ?_
                      go_wp2_with fail
                      go_meet
                      case rel =>
                        refine ⟨A, rfl, rfl, by omega, (hA.out.set0 m1).set1 m2, (hP.out.other (by omega) 0 (.int .i64 m1)).other (by omega) 1 (.int .i64 m2), (hX.out.other (by omega) 0 (.int .i64 m1)).other (by omega) 1 (.int .i64 m2), (hT.out.other (by omega) 0 (.int .i64 m1)).other (by omega) 1 (.int .i64 m2), own_st (own_st hO.out (S := A) (fun b e => by cases e; omega) 0 (.int .i64 m1)) (S := A) (fun b e => by cases e; omega) 1 (.int .i64 m2), (hB.out.setCell (p := ⟨A, 0, none⟩) hAw _).setCell (p := ⟨A, 1, none⟩) hAw _⟩
                    ·
                      go_simp
                      obtain ⟨A, hA'⟩ : ∃ A, A = u9.heap.size := ⟨_, rfl⟩
                      obtain ⟨u12, hu⟩ : ∃ u, u = u9.alloc (.cells #[.int .i64 0, .int .i64 0] 33) := ⟨_, rfl⟩
                      have hb : Below u9.heap.size u9 u12 := by rw [hu]; exact b0S _ _
                      have hA : Hid (IsR u12 A 0 0) := by show IsR _ _ _ _; rw [hu, hA']; exact IsR.new _ _ _
                      have hAw : w.heap.size ≤ A := by rw [hA']; exact hB.out.size
                      have hAG : G < A := by have := (World.ownsRow.lt hO.out G rfl).2; omega
                      have hAhP := hP.out.lt
                      rw [← hA'] at hAhP
                      have hAhX := hX.out.lt
                      rw [← hA'] at hAhX
                      have hAhT := hT.out.lt
                      rw [← hA'] at hAhT
                      have hNA := World.block_lt_of_cell? u9 _ c1
                      dsimp only at hNA
                      rw [← hA'] at hNA
                      rw [← hu, ← hA']
                      replace c1 := cell_keep hb c1
                      replace c2 := cell_keep hb c2
                      replace hP := hidP (hP.out.below hb)
                      replace hX := hidP (hX.out.below hb)
                      replace hT := hidP (hT.out.below hb)
                      replace hO := hidP (own_below hO.out hb)
                      replace hB := hidP (hB.out.trans (hb.mono hB.out.size))
                      clear hb hu hA'
                      refine hKc.out _ _ ?_ (fun hHeld => ?_)
                      · (try dsimp only)
                        refine ⟨?_, ?_⟩ <;> (repeat (with_reducible (first | exact c1 | exact c2 | refine cell_dr ?_ | refine cell_stb ?_ ?_ | refine cell_al _ ?_ | (show _ ≠ _; omega))))
                      clear hKc Kc
                      (try simp only [List.getElem_toArray]); (try simp only [List.getElem_cons_succ]); (try simp only [List.getElem_cons_zero]); (try simp only [Act.put]); (try simp only [List.setIfInBounds_toArray]); (try simp only [List.set_cons_succ]); (try simp only [List.set_cons_zero])
                      refine wpAnyH_ready (rs := [3]) (by kernel_rfl) (by simp) (AllReadyH.cons rfl (fun Kc hKc => ?_) AllReadyH.nil)
                      go_simp
                      (go_at_call 38; refine (HM.out _).mono ?_; rintro e u13 ⟨rfl, hb⟩)
                      replace c1 := cell_keep hb c1
                      replace c2 := cell_keep hb c2
                      replace hP := hidP (hP.out.below hb)
                      replace hX := hidP (hX.out.below hb)
                      replace hT := hidP (hT.out.below hb)
                      replace hA := hidP (hA.out.below hb)
                      replace hO := hidP (own_below hO.out hb)
                      replace hB := hidP (hB.out.trans (hb.mono hB.out.size))
                      clear hb
                      go_wp2_with fail
                      refine hKc.out _ _ ?_ (fun hHeld => ?_)
                      · (try dsimp only)
                        refine ⟨?_, ?_⟩ <;> (repeat (with_reducible (first | exact c1 | exact c2 | refine cell_dr ?_ | refine cell_stb ?_ ?_ | refine cell_al _ ?_ | (show _ ≠ _; omega))))
                      clear hKc Kc
                      (try simp only [List.getElem_toArray]); (try simp only [List.getElem_cons_succ]); (try simp only [List.getElem_cons_zero]); (try simp only [Act.put]); (try simp only [List.setIfInBounds_toArray]); (try simp only [List.set_cons_succ]); (try simp only [List.set_cons_zero])
                      refine wpAnyH_take (i := 4) (v := ?_) rfl (by kernel_rfl) (by kernel_rfl) (by kernel_rfl) (fun _ _ _ h => h) (Or.inl ⟨by kernel_rfl, ?_⟩) hHeld ?_
                      rotate_left
                      · intro wz hSw; (try dsimp only at hSw); go_simp; all_goals (try with_reducible rfl)
                      (try simp only [List.getElem_toArray]); (try simp only [List.getElem_cons_succ]); (try simp only [List.getElem_cons_zero]); (try simp only [Act.put]); (try simp only [List.setIfInBounds_toArray]); (try simp only [List.set_cons_succ]); (try simp only [List.set_cons_zero])
                      refine wpAnyH_take (i := 5) (v := ?_) rfl (by kernel_rfl) (by kernel_rfl) (by kernel_rfl) (fun _ _ _ h => h) (Or.inl ⟨by kernel_rfl, ?_⟩) hHeld ?_
                      rotate_left
                      · intro wz hSw; (try dsimp only at hSw); go_simp; all_goals (try with_reducible rfl)
                      (try simp only [List.getElem_toArray]); (try simp only [List.getElem_cons_succ]); (try simp only [List.getElem_cons_zero]); (try simp only [Act.put]); (try simp only [List.setIfInBounds_toArray]); (try simp only [List.set_cons_succ]); (try simp only [List.set_cons_zero])
                      refine wpAnyH_take (i := 6) (v := ?_) rfl (by kernel_rfl) (by kernel_rfl) (by kernel_rfl) (fun _ _ _ h => h) (Or.inl ⟨by kernel_rfl, ?_⟩) hHeld ?_
                      rotate_left
                      · intro wz hSw; (try dsimp only at hSw); go_simp; all_goals (try with_reducible rfl)
                      (try simp only [List.getElem_toArray]); (try simp only [List.getElem_cons_succ]); (try simp only [List.getElem_cons_zero]); (try simp only [Act.put]); (try simp only [List.setIfInBounds_toArray]); (try simp only [List.set_cons_succ]); (try simp only [List.set_cons_zero])
                      have f0 := hA.out.f0
                      have f1 := hA.out.f1
                      have g0 := hA.out.c0
                      have g1 := hA.out.c1
                      refine wpAnyH_ready (rs := [8]) (by kernel_rfl) (by simp) (AllReadyH.cons rfl (fun Kc hKc => ?_) AllReadyH.nil)
                      go_simp
                      refine hKc.out _ _ ?_ (fun hHeld => ?_)
                      · (try dsimp only)
                        refine ⟨?_, ?_⟩ <;> (repeat (with_reducible (first | exact c1 | exact c2 | refine cell_dr ?_ | refine cell_stb ?_ ?_ | refine cell_al _ ?_ | (show _ ≠ _; omega))))
                      clear hKc Kc
                      (try simp only [List.getElem_toArray]); (try simp only [List.getElem_cons_succ]); (try simp only [List.getElem_cons_zero]); (try simp only [Act.put]); (try simp only [List.setIfInBounds_toArray]); (try simp only [List.set_cons_succ]); (try simp only [List.set_cons_zero])
                      refine wpAnyH_take (i := 9) (v := ?_) rfl (by kernel_rfl) (by kernel_rfl) (by kernel_rfl) (fun _ _ _ h => h) (Or.inl ⟨by kernel_rfl, ?_⟩) hHeld ?_
                      rotate_left
                      · intro wz hSw; (try dsimp only at hSw); go_simp; all_goals (try with_reducible rfl)
                      (try simp only [List.getElem_toArray]); (try simp only [List.getElem_cons_succ]); (try simp only [List.getElem_cons_zero]); (try simp only [Act.put]); (try simp only [List.setIfInBounds_toArray]); (try simp only [List.set_cons_succ]); (try simp only [List.set_cons_zero])
                      refine wpAnyH_done (by kernel_rfl) ?_ _
                      refine NoPanic.normal ?_
                      go_wp2_with fail
                      go_meet
                      case rel =>
                        refine ⟨A, rfl, rfl, by omega, (hA.out.set0 m1).set1 m2, (hP.out.other (by omega) 0 (.int .i64 m1)).other (by omega) 1 (.int .i64 m2), (hX.out.other (by omega) 0 (.int .i64 m1)).other (by omega) 1 (.int .i64 m2), (hT.out.other (by omega) 0 (.int .i64 m1)).other (by omega) 1 (.int .i64 m2), own_st (own_st hO.out (S := A) (fun b e => by cases e; omega) 0 (.int .i64 m1)) (S := A) (fun b e => by cases e; omega) 1 (.int .i64 m2), (hB.out.setCell (p := ⟨A, 0, none⟩) hAw _).setCell (p := ⟨A, 1, none⟩) hAw _⟩
                  ·
                    go_simp
                    obtain ⟨A, hA'⟩ : ∃ A, A = wd.heap.size := ⟨_, rfl⟩
                    obtain ⟨u14, hu⟩ : ∃ u, u = wd.alloc (.cells #[.int .i64 0, .int .i64 0] 33) := ⟨_, rfl⟩
                    have hb : Below wd.heap.size wd u14 := by rw [hu]; exact b0S _ _
                    have hA : Hid (IsR u14 A 0 0) := by show IsR _ _ _ _; rw [hu, hA']; exact IsR.new _ _ _
                    have hAw : w.heap.size ≤ A := by rw [hA']; exact hB.out.size
                    have hAG : G < A := by have := (World.ownsRow.lt hO.out G rfl).2; omega
                    have hAhP := hP.out.lt
                    rw [← hA'] at hAhP
                    have hAhX := hX.out.lt
                    rw [← hA'] at hAhX
                    have hAhT := hT.out.lt
                    rw [← hA'] at hAhT
                    have hNA := World.block_lt_of_cell? wd _ c1
                    dsimp only at hNA
                    rw [← hA'] at hNA
                    rw [← hu, ← hA']
                    replace c1 := cell_keep hb c1
                    replace c2 := cell_keep hb c2
                    replace hP := hidP (hP.out.below hb)
                    replace hX := hidP (hX.out.below hb)
                    replace hT := hidP (hT.out.below hb)
                    replace hO := hidP (own_below hO.out hb)
                    replace hB := hidP (hB.out.trans (hb.mono hB.out.size))
                    clear hb hu hA'
                    refine hKc.out _ _ ?_ (fun hHeld => ?_)
                    · (try dsimp only)
                      refine ⟨?_, ?_⟩ <;> (repeat (with_reducible (first | exact c1 | exact c2 | refine cell_dr ?_ | refine cell_stb ?_ ?_ | refine cell_al _ ?_ | (show _ ≠ _; omega))))
                    clear hKc Kc
                    (try simp only [List.getElem_toArray]); (try simp only [List.getElem_cons_succ]); (try simp only [List.getElem_cons_zero]); (try simp only [Act.put]); (try simp only [List.setIfInBounds_toArray]); (try simp only [List.set_cons_succ]); (try simp only [List.set_cons_zero])
                    refine wpAnyH_ready (rs := [1]) (by kernel_rfl) (by simp) (AllReadyH.cons rfl (fun Kc hKc => ?_) AllReadyH.nil)
                    go_simp
                    (go_at_call 78; refine (HN.out _ hP.out hX.out).mono ?_; rintro e u15 ⟨rfl, hP', g2⟩)
                    replace c1 := cell_g g2 c1 hTP
                    replace c2 := cell_g g2 c2 hTP
                    replace hX := hidP (hX.out.gk g2 hPX.symm)
                    replace hT := hidP (hT.out.gk g2 hTP)
                    replace hA := hidP (hA.out.gk g2 (by omega))
                    replace hO := hidP (own_gne hO.out g2 (by intro e; have e2 : G = Pb := Option.some.inj e; omega))
                    replace hB := hidP (hB.out.trans (below_grownK g2 hwP hB.out.size))
                    replace hP := hidP hP'
                    clear g2 hP'
                    go_wp2_with fail
                    refine hKc.out _ _ ?_ (fun hHeld => ?_)
                    · (try dsimp only)
                      refine ⟨?_, ?_⟩ <;> (repeat (with_reducible (first | exact c1 | exact c2 | refine cell_dr ?_ | refine cell_stb ?_ ?_ | refine cell_al _ ?_ | (show _ ≠ _; omega))))
                    clear hKc Kc
                    (try simp only [List.getElem_toArray]); (try simp only [List.getElem_cons_succ]); (try simp only [List.getElem_cons_zero]); (try simp only [Act.put]); (try simp only [List.setIfInBounds_toArray]); (try simp only [List.set_cons_succ]); (try simp only [List.set_cons_zero])
                    refine wpAnyH_ready (rs := [3]) (by kernel_rfl) (by simp) (AllReadyH.cons rfl (fun Kc hKc => ?_) AllReadyH.nil)
                    go_simp
                    (go_at_call 38; refine (HM.out _).mono ?_; rintro e u16 ⟨rfl, hb⟩)
                    replace c1 := cell_keep hb c1
                    replace c2 := cell_keep hb c2
                    replace hP := hidP (hP.out.below hb)
                    replace hX := hidP (hX.out.below hb)
                    replace hT := hidP (hT.out.below hb)
                    replace hA := hidP (hA.out.below hb)
                    replace hO := hidP (own_below hO.out hb)
                    replace hB := hidP (hB.out.trans (hb.mono hB.out.size))
                    clear hb
                    go_wp2_with fail
                    refine hKc.out _ _ ?_ (fun hHeld => ?_)
                    · (try dsimp only)
                      refine ⟨?_, ?_⟩ <;> (repeat (with_reducible (first | exact c1 | exact c2 | refine cell_dr ?_ | refine cell_stb ?_ ?_ | refine cell_al _ ?_ | (show _ ≠ _; omega))))
                    clear hKc Kc
                    (try simp only [List.getElem_toArray]); (try simp only [List.getElem_cons_succ]); (try simp only [List.getElem_cons_zero]); (try simp only [Act.put]); (try simp only [List.setIfInBounds_toArray]); (try simp only [List.set_cons_succ]); (try simp only [List.set_cons_zero])
                    refine wpAnyH_take (i := 4) (v := ?_) rfl (by kernel_rfl) (by kernel_rfl) (by kernel_rfl) (fun _ _ _ h => h) (Or.inl ⟨by kernel_rfl, ?_⟩) hHeld ?_
                    rotate_left
                    · intro wz hSw; (try dsimp only at hSw); go_simp; all_goals (try with_reducible rfl)
                    (try simp only [List.getElem_toArray]); (try simp only [List.getElem_cons_succ]); (try simp only [List.getElem_cons_zero]); (try simp only [Act.put]); (try simp only [List.setIfInBounds_toArray]); (try simp only [List.set_cons_succ]); (try simp only [List.set_cons_zero])
                    refine wpAnyH_take (i := 5) (v := ?_) rfl (by kernel_rfl) (by kernel_rfl) (by kernel_rfl) (fun _ _ _ h => h) (Or.inl ⟨by kernel_rfl, ?_⟩) hHeld ?_
                    rotate_left
                    · intro wz hSw; (try dsimp only at hSw); go_simp; all_goals (try with_reducible rfl)
                    (try simp only [List.getElem_toArray]); (try simp only [List.getElem_cons_succ]); (try simp only [List.getElem_cons_zero]); (try simp only [Act.put]); (try simp only [List.setIfInBounds_toArray]); (try simp only [List.set_cons_succ]); (try simp only [List.set_cons_zero])
                    refine wpAnyH_take (i := 6) (v := ?_) rfl (by kernel_rfl) (by kernel_rfl) (by kernel_rfl) (fun _ _ _ h => h) (Or.inl ⟨by kernel_rfl, ?_⟩) hHeld ?_
                    rotate_left
                    · intro wz hSw; (try dsimp only at hSw); go_simp; all_goals (try with_reducible rfl)
                    (try simp only [List.getElem_toArray]); (try simp only [List.getElem_cons_succ]); (try simp only [List.getElem_cons_zero]); (try simp only [Act.put]); (try simp only [List.setIfInBounds_toArray]); (try simp only [List.set_cons_succ]); (try simp only [List.set_cons_zero])
                    have f0 := hA.out.f0
                    have f1 := hA.out.f1
                    have g0 := hA.out.c0
                    have g1 := hA.out.c1
                    refine wpAnyH_ready (rs := [8]) (by kernel_rfl) (by simp) (AllReadyH.cons rfl (fun Kc hKc => ?_) AllReadyH.nil)
                    go_simp
                    refine hKc.out _ _ ?_ (fun hHeld => ?_)
                    · (try dsimp only)
                      refine ⟨?_, ?_⟩ <;> (repeat (with_reducible (first | exact c1 | exact c2 | refine cell_dr ?_ | refine cell_stb ?_ ?_ | refine cell_al _ ?_ | (show _ ≠ _; omega))))
                    clear hKc Kc
                    (try simp only [List.getElem_toArray]); (try simp only [List.getElem_cons_succ]); (try simp only [List.getElem_cons_zero]); (try simp only [Act.put]); (try simp only [List.setIfInBounds_toArray]); (try simp only [List.set_cons_succ]); (try simp only [List.set_cons_zero])
                    refine wpAnyH_take (i := 9) (v := ?_) rfl (by kernel_rfl) (by kernel_rfl) (by kernel_rfl) (fun _ _ _ h => h) (Or.inl ⟨by kernel_rfl, ?_⟩) hHeld ?_
                    rotate_left
                    · intro wz hSw; (try dsimp only at hSw); go_simp; all_goals (try with_reducible rfl)
                    (try simp only [List.getElem_toArray]); (try simp only [List.getElem_cons_succ]); (try simp only [List.getElem_cons_zero]); (try simp only [Act.put]); (try simp only [List.setIfInBounds_toArray]); (try simp only [List.set_cons_succ]); (try simp only [List.set_cons_zero])
                    refine wpAnyH_done (by kernel_rfl) ?_ _
                    refine NoPanic.normal ?_
                    go_wp2_with fail
                    go_meet
                    case rel =>
                      refine ⟨A, rfl, rfl, by omega, (hA.out.set0 m1).set1 m2, (hP.out.other (by omega) 0 (.int .i64 m1)).other (by omega) 1 (.int .i64 m2), (hX.out.other (by omega) 0 (.int .i64 m1)).other (by omega) 1 (.int .i64 m2), (hT.out.other (by omega) 0 (.int .i64 m1)).other (by omega) 1 (.int .i64 m2), own_st (own_st hO.out (S := A) (fun b e => by cases e; omega) 0 (.int .i64 m1)) (S := A) (fun b e => by cases e; omega) 1 (.int .i64 m2), (hB.out.setCell (p := ⟨A, 0, none⟩) hAw _).setCell (p := ⟨A, 1, none⟩) hAw _⟩
                case rest =>
                  clear c1 c2 hP hX hT hO hB HN HM
                  rename_i wc
                  obtain ⟨M, rfl, rfl, hGM, hM, hP, hX, hT, hO, hB⟩ := hcut
                  obtain ⟨c1, c2⟩ := own_R hO.out (HXL.out k p) p hltp
                  rw [show (mixS f ss j k p)[p]?.getD (0, 0) = (s1, s2) from HXP.out] at c1 c2
                  have c3 := hM.out.c0
                  have c4 := hM.out.c1
                  dsimp only at c1 c2
                  go_upto_region 15 with fail
                  replace c1 := cell_dr c1
                  replace c2 := cell_dr c2
                  refine wp_region_noPanic ?_
                  refine wp_region_held_drew (S := (fun w' => w'.cell? ⟨M, 0, none⟩ = some (.int .i64 m1) ∧ w'.cell? ⟨M, 1, none⟩ = some (.int .i64 m2))) (by kernel_rfl) ?_ (fun hHeld => ?_)
                  · (try dsimp only)
                    refine ⟨?_, ?_⟩ <;> (repeat (with_reducible (first | exact c3 | exact c4 | refine cell_dr ?_ | refine cell_stb ?_ ?_ | refine cell_al _ ?_ | (show _ ≠ _; omega))))
                  have hbd := (Below.refl wc.heap.size wc).drew
                  replace hP := hidP (hP.out.below hbd)
                  replace hX := hidP (hX.out.below hbd)
                  replace hT := hidP (hT.out.below hbd)
                  replace hO := hidP (own_below hO.out hbd)
                  replace hB := hidP (hB.out.trans (hbd.mono hB.out.size))
                  clear hbd
                  replace c3 := cell_dr c3
                  replace c4 := cell_dr c4
                  obtain ⟨wd, hwd⟩ : ∃ u, u = wc.drew := ⟨_, rfl⟩
                  rw [← hwd] at hB hO hP hX hT c3 c4 hHeld ⊢
                  have hwd' := hwd
                  clear hwd
                  rw [← hwd'] at c1 c2
                  clear hwd'
                  refine wpAnyH_take (i := 0) (v := ?_) rfl (by kernel_rfl) (by kernel_rfl) (by kernel_rfl) (fun _ _ _ h => h) (Or.inl ⟨by kernel_rfl, ?_⟩) hHeld ?_
                  rotate_left
                  · intro wz hSw; (try dsimp only at hSw); go_simp; all_goals (try with_reducible rfl)
                  (try simp only [List.getElem_toArray]); (try simp only [List.getElem_cons_succ]); (try simp only [List.getElem_cons_zero]); (try simp only [Act.put]); (try simp only [List.setIfInBounds_toArray]); (try simp only [List.set_cons_succ]); (try simp only [List.set_cons_zero])
                  refine wpAnyH_take (i := 1) (v := ?_) rfl (by kernel_rfl) (by kernel_rfl) (by kernel_rfl) (fun _ _ _ h => h) (Or.inl ⟨by kernel_rfl, ?_⟩) hHeld ?_
                  rotate_left
                  · intro wz hSw; (try dsimp only at hSw); go_simp; all_goals (try with_reducible rfl)
                  (try simp only [List.getElem_toArray]); (try simp only [List.getElem_cons_succ]); (try simp only [List.getElem_cons_zero]); (try simp only [Act.put]); (try simp only [List.setIfInBounds_toArray]); (try simp only [List.set_cons_succ]); (try simp only [List.set_cons_zero])
                  refine wpAnyH_take (i := 2) (v := ?_) rfl (by kernel_rfl) (by kernel_rfl) (by kernel_rfl) (fun _ _ _ h => h) (Or.inl ⟨by kernel_rfl, ?_⟩) hHeld ?_
                  rotate_left
                  · intro wz hSw; (try dsimp only at hSw); go_simp; all_goals (try with_reducible rfl)
                  (try simp only [List.getElem_toArray]); (try simp only [List.getElem_cons_succ]); (try simp only [List.getElem_cons_zero]); (try simp only [Act.put]); (try simp only [List.setIfInBounds_toArray]); (try simp only [List.set_cons_succ]); (try simp only [List.set_cons_zero])
                  refine wpAnyH_take (i := 3) (v := ?_) rfl (by kernel_rfl) (by kernel_rfl) (by kernel_rfl) (fun _ _ _ h => h) (Or.inl ⟨by kernel_rfl, ?_⟩) hHeld ?_
                  rotate_left
                  · intro wz hSw; (try dsimp only at hSw); go_simp; all_goals (try with_reducible rfl)
                  (try simp only [List.getElem_toArray]); (try simp only [List.getElem_cons_succ]); (try simp only [List.getElem_cons_zero]); (try simp only [Act.put]); (try simp only [List.setIfInBounds_toArray]); (try simp only [List.set_cons_succ]); (try simp only [List.set_cons_zero])
                  refine wpAnyH_take (i := 4) (v := ?_) rfl (by kernel_rfl) (by kernel_rfl) (by kernel_rfl) (fun _ _ _ h => h) (Or.inl ⟨by kernel_rfl, ?_⟩) hHeld ?_
                  rotate_left
                  · intro wz hSw; (try dsimp only at hSw); go_simp; all_goals (try with_reducible rfl)
                  (try simp only [List.getElem_toArray]); (try simp only [List.getElem_cons_succ]); (try simp only [List.getElem_cons_zero]); (try simp only [Act.put]); (try simp only [List.setIfInBounds_toArray]); (try simp only [List.set_cons_succ]); (try simp only [List.set_cons_zero])
                  refine wpAnyH_take (i := 6) (v := ?_) rfl (by kernel_rfl) (by kernel_rfl) (by kernel_rfl) (fun _ _ _ h => h) (Or.inl ⟨by kernel_rfl, ?_⟩) hHeld ?_
                  rotate_left
                  · intro wz hSw; (try dsimp only at hSw); go_simp; all_goals (try with_reducible rfl)
                  (try simp only [List.getElem_toArray]); (try simp only [List.getElem_cons_succ]); (try simp only [List.getElem_cons_zero]); (try simp only [Act.put]); (try simp only [List.setIfInBounds_toArray]); (try simp only [List.set_cons_succ]); (try simp only [List.set_cons_zero])
                  refine wpAnyH_ready (rs := [5]) (by kernel_rfl) (by simp) (AllReadyH.cons rfl (fun Kc hKc => ?_) AllReadyH.nil)
                  go_simp
                  refine hKc.out _ _ ?_ (fun hHeld => ?_)
                  · (try dsimp only)
                    refine ⟨?_, ?_⟩ <;> (repeat (with_reducible (first | exact c3 | exact c4 | refine cell_dr ?_ | refine cell_stb ?_ ?_ | refine cell_al _ ?_ | (show _ ≠ _; omega))))
                  clear hKc Kc
                  (try simp only [List.getElem_toArray]); (try simp only [List.getElem_cons_succ]); (try simp only [List.getElem_cons_zero]); (try simp only [Act.put]); (try simp only [List.setIfInBounds_toArray]); (try simp only [List.set_cons_succ]); (try simp only [List.set_cons_zero])
                  refine wpAnyH_ready (rs := [7]) (by kernel_rfl) (by simp) (AllReadyH.cons rfl (fun Kc hKc => ?_) AllReadyH.nil)
                  go_simp
                  (go_at_call 39; refine (HA.out _).mono ?_; rintro e u17 ⟨rfl, hb⟩)
                  replace c3 := cell_keep hb c3
                  replace c4 := cell_keep hb c4
                  replace hP := hidP (hP.out.below hb)
                  replace hX := hidP (hX.out.below hb)
                  replace hT := hidP (hT.out.below hb)
                  replace hO := hidP (own_below hO.out hb)
                  replace hB := hidP (hB.out.trans (hb.mono hB.out.size))
                  replace c1 := cell_keep hb c1
                  replace c2 := cell_keep hb c2
                  clear hb
                  go_wp2_with fail
                  refine hKc.out _ _ ?_ (fun hHeld => ?_)
                  · (try dsimp only)
                    refine ⟨?_, ?_⟩ <;> (repeat (with_reducible (first | exact c3 | exact c4 | refine cell_dr ?_ | refine cell_stb ?_ ?_ | refine cell_al _ ?_ | (show _ ≠ _; omega))))
                  clear hKc Kc
                  (try simp only [List.getElem_toArray]); (try simp only [List.getElem_cons_succ]); (try simp only [List.getElem_cons_zero]); (try simp only [Act.put]); (try simp only [List.setIfInBounds_toArray]); (try simp only [List.set_cons_succ]); (try simp only [List.set_cons_zero])
                  refine wpAnyH_take (i := 8) (v := ?_) rfl (by kernel_rfl) (by kernel_rfl) (by kernel_rfl) (fun _ _ _ h => h) (Or.inl ⟨by kernel_rfl, ?_⟩) hHeld ?_
                  rotate_left
                  · intro wz hSw; (try dsimp only at hSw); go_simp; all_goals (try with_reducible rfl)
                  (try simp only [List.getElem_toArray]); (try simp only [List.getElem_cons_succ]); (try simp only [List.getElem_cons_zero]); (try simp only [Act.put]); (try simp only [List.setIfInBounds_toArray]); (try simp only [List.set_cons_succ]); (try simp only [List.set_cons_zero])
                  refine wpAnyH_take (i := 9) (v := ?_) rfl (by kernel_rfl) (by kernel_rfl) (by kernel_rfl) (fun _ _ _ h => h) (Or.inl ⟨by kernel_rfl, ?_⟩) hHeld ?_
                  rotate_left
                  · intro wz hSw; (try dsimp only at hSw); go_simp; all_goals (try with_reducible rfl)
                  (try simp only [List.getElem_toArray]); (try simp only [List.getElem_cons_succ]); (try simp only [List.getElem_cons_zero]); (try simp only [Act.put]); (try simp only [List.setIfInBounds_toArray]); (try simp only [List.set_cons_succ]); (try simp only [List.set_cons_zero])
                  refine wpAnyH_take (i := 10) (v := ?_) rfl (by kernel_rfl) (by kernel_rfl) (by kernel_rfl) (fun _ _ _ h => h) (Or.inl ⟨by kernel_rfl, ?_⟩) hHeld ?_
                  rotate_left
                  · intro wz hSw; (try dsimp only at hSw); go_simp; all_goals (try with_reducible rfl)
                  (try simp only [List.getElem_toArray]); (try simp only [List.getElem_cons_succ]); (try simp only [List.getElem_cons_zero]); (try simp only [Act.put]); (try simp only [List.setIfInBounds_toArray]); (try simp only [List.set_cons_succ]); (try simp only [List.set_cons_zero])
                  refine wpAnyH_take (i := 11) (v := ?_) rfl (by kernel_rfl) (by kernel_rfl) (by kernel_rfl) (fun _ _ _ h => h) (Or.inl ⟨by kernel_rfl, ?_⟩) hHeld ?_
                  rotate_left
                  · intro wz hSw; (try dsimp only at hSw); go_simp; all_goals (try with_reducible rfl)
                  (try simp only [List.getElem_toArray]); (try simp only [List.getElem_cons_succ]); (try simp only [List.getElem_cons_zero]); (try simp only [Act.put]); (try simp only [List.setIfInBounds_toArray]); (try simp only [List.set_cons_succ]); (try simp only [List.set_cons_zero])
                  have f0 := hO.out.frozenAt (p * 2)
                  have f1 := hO.out.frozenAt (p * 2 + 1)
                  refine wpAnyH_ready (rs := [12]) (by kernel_rfl) (by simp) (AllReadyH.cons rfl (fun Kc hKc => ?_) AllReadyH.nil)
                  go_simp
                  refine hKc.out _ _ ?_ (fun hHeld => ?_)
                  · (try dsimp only)
                    refine ⟨?_, ?_⟩ <;> (repeat (with_reducible (first | exact c3 | exact c4 | refine cell_dr ?_ | refine cell_stb ?_ ?_ | refine cell_al _ ?_ | (show _ ≠ _; omega))))
                  clear hKc Kc
                  (try simp only [List.getElem_toArray]); (try simp only [List.getElem_cons_succ]); (try simp only [List.getElem_cons_zero]); (try simp only [Act.put]); (try simp only [List.setIfInBounds_toArray]); (try simp only [List.set_cons_succ]); (try simp only [List.set_cons_zero])
                  refine wpAnyH_done (by kernel_rfl) ?_ _
                  refine NoPanic.normal ?_
                  go_wp2
                  go_roundw
                  case rel =>
                    refine ⟨p + 1, by omega, by go_num, ?_, (hX.out.other (by omega) _ _).other (by omega) _ _, (hT.out.other (by omega) _ _).other (by omega) _ _, ?_, (hB.out.setCell (p := ⟨G, p * 2, none⟩) hwG _).setCell (p := ⟨G, p * 2 + 1, none⟩) hwG _⟩
                    · show IsR _ _ _ _
                      rw [HPS.out]
                      exact (hP.out.other (by omega) _ _).other (by omega) _ _
                    · show World.ownsRow _ _ _ _ _ _ _
                      rw [← HXS.out, HSP.out]
                      exact rowB_set hO.out (HXL.out k p) p hltp a1 a2
                  case measure => simp [intOf]; omega
              · obtain rfl : p = j := by omega
                have o3 := hO.out
                rw [HXA.out] at o3
                have b3 := hB.out
                clear hP hX hT hO hB
                go_wp2
                go_roundw
                case rel => exact ⟨k + 1, by omega, by go_num, o3, b3⟩
                case measure => simp [intOf]; omega
        · obtain rfl : k = L := by omega
          have o4 := hO.out
          rw [← HEND.out] at o4
          have b4 := hB.out
          clear hO hB
          go_wp2
          exact bodyPost_ret (results_tmp rfl _ _ _) rfl ⟨G, rfl, o4, b4⟩
end Go.Proofs.Ytibncepllmjhhaa
