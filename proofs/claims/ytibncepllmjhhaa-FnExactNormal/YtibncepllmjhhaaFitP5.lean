/- The walks of the program's powers and of Fitted's function values; the rows of sums on their way. -/
import Derived.Test.YtibncepllmjhhaaFitP4
import Derived.Test.YtibncepllmjhhaaBudW4
namespace Go.Proofs.Ytibncepllmjhhaa
open Go.RowKit Go.Proofs.Ytibncepllmjhhaa.RM

theorem pwr_any (x1 x2 : Int) (w : World) :
    Calls Try.prog 71 #[.agg #[.int .i64 x1, .int .i64 x2]] w fun e w' => e = .returned (.func (.func 78) #[] #[.pointer (some ⟨w.heap.size + 1, 0, none⟩), .pointer (some ⟨w.heap.size, 0, none⟩)]) ∧ w' = (w.alloc (.cells #[.int .i64 x1, .int .i64 x2] 33)).alloc (.cells #[.int .i64 1, .int .i64 1] 33) := by
  go_enter Try.func71, Try.ntmps71
  go_wp2
  go_ret
  exact ⟨rfl, rfl⟩

theorem IsR.gk {W W' : World} {R K : Nat} {n d : Int} (h : IsR W R n d) (hg : W.grownBy W' (some K)) (hne : R ≠ K) : IsR W' R n d := IsR.grown h hg hne
theorem own_gne {K : Nat} {W W' : World} {base e size n : Nat} {v : Value} {xs : List Value} (h : W.ownsRow base e size v n xs) (hg : W.grownBy W' (some K)) (hne : v.ownBlock ≠ some K) : W'.ownsRow base e size v n xs := h.kept hg (.inr hne)

set_option maxRecDepth 100000 in
set_option maxHeartbeats 2000000 in
theorem nxt_any (P X : Nat) (p1 p2 x1 x2 : Int) (w : World) (hP : IsR w P p1 p2) (hX : IsR w X x1 x2) :
    Calls Try.prog 78 #[.pointer (some ⟨P, 0, none⟩), .pointer (some ⟨X, 0, none⟩)] w fun e w' => e = .returned (.agg #[.int .i64 p1, .int .i64 p2]) ∧ IsR w' P (mulP (p1, p2) (x1, x2)).1 (mulP (p1, p2) (x1, x2)).2 ∧ w.grownBy w' (some P) := by
  have HM := hidP (fun W => mulC p1 p2 x1 x2 W)
  obtain ⟨r, hr⟩ : ∃ r, r = mulP (p1, p2) (x1, x2) := ⟨_, rfl⟩
  obtain ⟨ro, hro⟩ : ∃ r, r = mulK (p1, p2) (x1, x2) := ⟨_, rfl⟩
  rw [← hr, ← hro] at HM
  rw [← hr]
  clear hr hro
  obtain ⟨r1, r2⟩ := r
  dsimp only at HM ⊢
  go_enter Try.func78, Try.ntmps78
  obtain ⟨Y, hY⟩ : ∃ Y, Y = w.alloc (.cells #[.int .i64 0, .int .i64 0] 33) := ⟨_, rfl⟩
  have hb0 : Below w.heap.size w Y := by rw [hY]; exact b0S _ _
  have hsY : Y.heap.size = w.heap.size + 1 := by rw [hY]; simp
  have R0 : IsR Y w.heap.size 0 0 := by rw [hY]; exact IsR.new _ _ _
  have P0 := hP.below hb0
  have X0 := hX.below hb0
  obtain ⟨Z, hZ⟩ : ∃ Z, Z = Y.alloc (.cells #[.int .i64 p1, .int .i64 p2] 33) := ⟨_, rfl⟩
  have hb1 : Below Y.heap.size Y Z := by rw [hZ]; exact b0S _ _
  have M1 : IsR Z (w.heap.size + 1) p1 p2 := by rw [hZ, ← hsY]; exact IsR.new _ _ _
  have P1 := P0.below hb1
  have X1 := X0.below hb1
  have R1 := R0.below hb1
  have B1 : Below w.heap.size w Z := hb0.trans (hb1.mono hb0.size)
  have a0 := P0.c0
  have a1 := P0.c1
  have a2 := P1.c0
  have a3 := P1.c1
  have a4 := X1.c0
  have a5 := X1.c1
  have hPl := hP.lt
  rw [hZ, hY] at a2 a3 a4 a5
  rw [hY] at a0 a1
  go_wp2_with fail
  rw [← hY, ← hZ]
  clear a0 a1 a2 a3 a4 a5
  refine (HM.out _).mono ?_
  rintro e w1 ⟨rfl, hb⟩
  replace P1 := P1.below hb
  replace M1 := M1.below hb
  replace R1 := R1.below hb
  replace B1 := B1.trans (hb.mono B1.size)
  clear hb P0 X0 R0 hb0 hb1 hY hZ X1
  have hPM : w.heap.size + 1 ≠ P := by omega
  have hPR : w.heap.size ≠ P := by omega
  have e0 := P1.f0
  have e1 := P1.f1
  have e2 := P1.c0
  have e3 := P1.c1
  have m0 := M1.c0
  have m1 := M1.c1
  have z0 := R1.c0
  have z1 := R1.c1
  have z2 := R1.f0
  have z3 := R1.f1
  go_wp2
  have P2 : IsR ((w1.setCell ⟨P, 0, none⟩ (.int .i64 r1)).setCell ⟨P, 1, none⟩ (.int .i64 r2)) P r1 r2 := (P1.set0 r1).set1 r2
  have R2 : IsR ((w1.setCell ⟨P, 0, none⟩ (.int .i64 r1)).setCell ⟨P, 1, none⟩ (.int .i64 r2)) w.heap.size 0 0 := (R1.other hPR 0 _).other hPR 1 _
  obtain ⟨V, hV⟩ : ∃ V, V = ((w1.setCell ⟨P, 0, none⟩ (.int .i64 r1)).setCell ⟨P, 1, none⟩ (.int .i64 r2)) := ⟨_, rfl⟩
  have G1 : w.grownBy V (some P) := by
    rw [hV]
    exact g_set (g_set (grown_new B1) (.inr rfl) 0 _) (.inr rfl) 1 _
  rw [← hV] at P2 R2 ⊢
  have R3 := (R2.set0 p1).set1 p2
  have v0 := R3.c0
  have v1 := R3.c1
  exact bodyPost_ret (v := .agg #[.int .i64 p1, .int .i64 p2]) (by simp [results, Try.results78, go_sem, v0, v1]) rfl ⟨rfl, (P2.other hPR.symm 0 _).other hPR.symm 1 _, g_set (g_set G1 (.inl (Nat.le_refl _)) 0 _) (.inl (Nat.le_refl _)) 1 _⟩

theorem oneT_any (x1 x2 y1 y2 : Int) (w : World) :
    Calls Try.prog 51 #[.agg #[.int .i64 x1, .int .i64 x2, .int .i64 y1, .int .i64 y2]] w fun e w' => e = .returned (.agg #[.int .i64 1, .int .i64 1]) ∧ Below w.heap.size w w' := by
  go_enter Try.func51, Try.ntmps51
  go_wp2
  exact bodyPost_ret (v := .agg #[.int .i64 1, .int .i64 1]) (by simp [results, Try.results51, go_sem]) rfl ⟨rfl, ((Below.refl _ _).alloc (Nat.le_refl _) _).alloc (by simp) _⟩
theorem sndT_any (x1 x2 y1 y2 : Int) (w : World) :
    Calls Try.prog 52 #[.agg #[.int .i64 x1, .int .i64 x2, .int .i64 y1, .int .i64 y2]] w fun e w' => e = .returned (.agg #[.int .i64 y1, .int .i64 y2]) ∧ Below w.heap.size w w' := by
  go_enter Try.func52, Try.ntmps52
  go_wp2
  exact bodyPost_ret (v := .agg #[.int .i64 y1, .int .i64 y2]) (by simp [results, Try.results52, go_sem]) rfl ⟨rfl, ((Below.refl _ _).alloc (Nat.le_refl _) _).alloc (by simp) _⟩

/-- a list told by its places -/
theorem fr_map (n : Nat) (h : Nat → Fr) (p : Nat) (hp : p < n) : fr ((List.range n).map h) p = h p := by unfold fr; simp [hp]
theorem map_set (n : Nat) (h h' : Nat → Fr) (p : Nat) (x : Fr) (hp : h' p = x) (ho : ∀ i, i < n → i ≠ p → h' i = h i) : ((List.range n).map h).set p x = (List.range n).map h' := by
  apply List.ext_getElem?
  intro i
  by_cases hi : i < n
  · by_cases e : p = i
    · subst e
      rw [List.getElem?_set_self (by simp; exact hi)]
      simp [hi, hp]
    · rw [List.getElem?_set_ne e]
      simp [hi, ho i hi (fun k => e k.symm)]
  · rw [List.getElem?_eq_none (by simp; omega), List.getElem?_eq_none (by simp; omega)]
/-- the sums, of which the first j are 0 -/
def iniS (n j : Nat) : List Fr := (List.range n).map fun i => if i < j then (0, 1) else (0, 0)
/-- the sums over k spots, the first p with one more -/
def mixS (f : Nat → Fr) (ss : List Sp) (n k p : Nat) : List Fr := (List.range n).map fun i => if i < p then spS f ss i (k + 1) else spS f ss i k
def smsK (f : Nat → Fr) (ss : List Sp) (n k : Nat) : List Fr := (List.range n).map fun i => spS f ss i k
theorem iniS_len (n j : Nat) : (iniS n j).length = n := by simp [iniS]
theorem mixS_len (f : Nat → Fr) (ss : List Sp) (n k p : Nat) : (mixS f ss n k p).length = n := by simp [mixS]
theorem iniS_zero (n : Nat) : iniS n 0 = List.replicate n (0, 0) := by
  unfold iniS
  apply List.ext_getElem?
  intro i
  by_cases h : i < n <;> simp [h]
theorem iniS_all (f : Nat → Fr) (ss : List Sp) (n : Nat) : iniS n n = smsK f ss n 0 := by
  unfold iniS smsK
  exact List.map_congr_left fun i hi => by rw [List.mem_range] at hi; rw [if_pos hi]; rfl
theorem iniS_set (n j : Nat) : (iniS n j).set j (0, 1) = iniS n (j + 1) := by
  unfold iniS
  refine map_set n _ _ j (0, 1) (by rw [if_pos (by omega)]) fun i _ hne => ?_
  by_cases e : i < j
  · rw [if_pos e, if_pos (by omega)]
  · rw [if_neg e, if_neg (by omega)]
theorem mixS_zero (f : Nat → Fr) (ss : List Sp) (n k : Nat) : mixS f ss n k 0 = smsK f ss n k := by
  unfold mixS smsK
  exact List.map_congr_left fun i _ => by rw [if_neg (by omega)]
theorem mixS_all (f : Nat → Fr) (ss : List Sp) (n k : Nat) : mixS f ss n k n = smsK f ss n (k + 1) := by
  unfold mixS smsK
  exact List.map_congr_left fun i hi => by rw [List.mem_range] at hi; rw [if_pos hi]
theorem mixS_at (f : Nat → Fr) (ss : List Sp) (n k p : Nat) (hp : p < n) : fr (mixS f ss n k p) p = spS f ss p k := by
  unfold mixS
  rw [fr_map _ _ _ hp, if_neg (Nat.lt_irrefl _)]
theorem mixS_set (f : Nat → Fr) (ss : List Sp) (n k p : Nat) : (mixS f ss n k p).set p (spS f ss p (k + 1)) = mixS f ss n k (p + 1) := by
  unfold mixS
  refine map_set n _ _ p _ (by rw [if_pos (by omega)]) fun i _ hne => ?_
  by_cases e : i < p
  · rw [if_pos e, if_pos (by omega)]
  · rw [if_neg e, if_neg (by omega)]
theorem smsK_all (f : Nat → Fr) (ss : List Sp) (n : Nat) : smsK f ss n ss.length = smsL f ss n := rfl
end Go.Proofs.Ytibncepllmjhhaa
