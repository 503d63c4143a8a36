/- Distances from the middle: the walks of the model's l11Far and Spread. -/
import Derived.Test.YthmdiljcceiedaaAgrW4
import Derived.Test.YthmdiljcceiedaaRngMath
import Derived.Deep.RegionHeld3
import Derived.Deep.DeepCutAuto
namespace Go.Proofs.Ythmdiljcceiedaa
open Go.RowKit Go.Proofs.Ythmdiljcceiedaa.RM

/-- at least 0 -/
def absF (p : Fr) : Fr := if p.1 < 0 then (-p.1, p.2) else p
theorem absF_neg {a b : Int} (h : a < 0) : absF (a, b) = (-a, b) := if_pos h
theorem absF_pos {a b : Int} (h : ¬ a < 0) : absF (a, b) = (a, b) := if_neg h
/-- the distances of the first k from m, and was one too great -/
def farV (ls : List Fr) (m : Fr) : Nat → List Fr × Bool
  | 0 => ([], false)
  | k + 1 => ((farV ls m k).1 ++ [absF (s1V (fr ls k) m)], (farV ls m k).2 || !subK (fr ls k) m)
theorem farV_len (ls : List Fr) (m : Fr) : ∀ k, (farV ls m k).1.length = k
  | 0 => rfl
  | k + 1 => by
    show ((farV ls m k).1 ++ [_]).length = _
    rw [List.length_append, farV_len ls m k]; rfl
def farO (ls : List Fr) : Bool := midO ls && !(farV ls (midA ls) ls.length).2
def farA (ls : List Fr) : List Fr := if midO ls = true then (farV ls (midA ls) ls.length).1 else []
def sprO (ls : List Fr) : Bool := farO ls && midO (farA ls)
def sprA (ls : List Fr) : Fr := if farO ls = true then midA (farA ls) else (0, 0)
theorem subP_no {s t : Fr} (h : subK s t = false) : subP s t = (0, 0) := by unfold subP; rw [(op_zero h).1, (op_zero h).2]
theorem subP_bd (s t : Fr) : -1000000000 ≤ (subP s t).1 ∧ (subP s t).1 ≤ 1000000000 := by
  cases h : subK s t
  · rw [subP_no h]; decide
  · have := op7 (p := s) (q := t) h
    have k := okB_out this.2.2.1
    exact ⟨k.2.2.1, k.2.2.2.1⟩
theorem s1V_bd (s t : Fr) : -1000000000 ≤ (s1V s t).1 ∧ (s1V s t).1 ≤ 1000000000 := by
  unfold s1V
  cases h : subK s t
  · exact ⟨by show (-1000000000 : Int) ≤ 0; decide, by show (0 : Int) ≤ _; decide⟩
  · rw [keepF_yes rfl]; exact subP_bd s t
theorem IsR.grownA {W W' : World} {R : Nat} {n d : Int} {row : Option Nat} (h : IsR W R n d) (hg : W.grownBy W' row) (hne : row ≠ some R) : IsR W' R n d := (hg.block R h.lt (fun e => hne e.symm)).trans h
theorem spr_ret {a : Fr} {b q : Bool} {x y : Int} (h : a = (x, y)) (hb : b = q) : Ending.returned (.tuple #[.agg #[.int .i64 x, .int .i64 y], .bool q]) = .returned (.tuple #[.agg #[.int .i64 a.1, .int .i64 a.2], .bool b]) := by rw [h, hb]
theorem litA (W : World) (base : Nat) (hb : base ≤ W.heap.size) : (W.alloc (.cells #[] 27)).ownsRow base 27 2 (.slice (some ⟨W.heap.size, 0, none⟩) 0 0) 0 (cellsR []) :=
  ⟨rfl, .inr ⟨W.heap.size, 0, #[], rfl, hb, World.alloc_heap_new W _, Nat.le_refl _, Nat.zero_le _, rfl, rfl⟩⟩
theorem sMinusA_any (n d : Int) (w : World) (h1 : -2000000000 ≤ n) (h2 : n ≤ 2000000000) :
    Calls Try.prog 57 #[.agg #[.int .i64 n, .int .i64 d]] w fun e w' => e = .returned (.agg #[.int .i64 (-n), .int .i64 d]) ∧ Below w.heap.size w w' := by
  go_enter Try.func57, Try.ntmps57
  go_wp2
  exact bodyPost_ret (v := .agg #[.int .i64 (-n), .int .i64 d]) (by simp [results, Try.results57, go_sem]) rfl ⟨rfl, ((Below.refl _ _).alloc (Nat.le_refl _) _).alloc (by simp) _⟩
theorem farStep (K : Nat) (bd : Bool) (x m r : Fr) (hr : r = s1V x m) : ∀ W : World, IsK W K bd → Calls Try.prog 56 #[.pointer (some ⟨K, 0, none⟩), .agg #[.int .i64 x.1, .int .i64 x.2], .agg #[.int .i64 m.1, .int .i64 m.2]] W fun e w' => e = .returned (.agg #[.int .i64 r.1, .int .i64 r.2]) ∧ IsK w' K (bd || !subK x m) ∧ W.grownBy w' (some K) := by
  subst hr
  exact fun W hW => kSub9 K bd x m W hW

set_option maxRecDepth 100000 in
set_option maxHeartbeats 8000000 in
theorem sFar_any (v : Value) (ls : List Fr) (w : World) (h : RdR w v ls) :
    Calls Try.prog 34 #[v] w fun e w' => ∃ u, e = .returned (.tuple #[u, .bool (farO ls)]) ∧ w'.ownsRow w.heap.size 27 2 u (farA ls).length (cellsR (farA ls)) ∧ Below w.heap.size w w' := by
  obtain ⟨i0, hi, hz0, hz1, hz2⟩ := info_parts infoF
  have HMI := hidP (fun W (hW : Below w.heap.size w W) => sMiddle_any v ls W (h.below hW))
  obtain ⟨a, c, rfl, h2, h3, h4, h5⟩ := h
  have H5 : Hid (∀ j, j < ls.length → ∃ b off, a = some ⟨b, off, none⟩ ∧ w.cell? ⟨b, off + j * 2, none⟩ = some (.int .i64 (fr ls j).1) ∧ w.cell? ⟨b, off + j * 2 + 1, none⟩ = some (.int .i64 (fr ls j).2)) := h5
  clear h5 h4 h3 h2
  obtain ⟨o, ho⟩ : ∃ o, o = midO ls := ⟨_, rfl⟩
  obtain ⟨m, hm⟩ : ∃ m, m = midA ls := ⟨_, rfl⟩
  have HO : Hid (farO ls = (o && !(farV ls m ls.length).2)) := by show _ = _; rw [ho, hm]; rfl
  have HA : Hid (farA ls = if o = true then (farV ls m ls.length).1 else []) := by show _ = _; rw [ho, hm]; rfl
  have HLN : Hid (o = true → 1 ≤ ls.length ∧ ls.length ≤ 12) := by
    intro h
    rw [ho] at h
    unfold midO midC at h
    rw [Bool.and_eq_true, Bool.and_eq_true, decide_eq_true_eq] at h
    exact h.1.1
  rw [← ho, ← hm] at HMI
  clear ho hm
  obtain ⟨F, hF⟩ : ∃ F, F = farV ls m := ⟨_, rfl⟩
  have HF0 : Hid (F 0 = ([], false)) := by show _ = _; rw [hF]; rfl
  have HFS : Hid (∀ k, F (k + 1) = ((F k).1 ++ [absF (s1V (fr ls k) m)], (F k).2 || !subK (fr ls k) m)) := by intro k; rw [hF]; rfl
  have HFL : Hid (∀ k, (F k).1.length = k) := by intro k; rw [hF]; exact farV_len ls m k
  rw [← hF] at HO HA
  clear hF
  obtain ⟨L, hL⟩ : ∃ L, L = ls.length := ⟨_, rfl⟩
  rw [← hL] at H5 HMI HO HA HLN
  rw [← hL]
  clear hL
  obtain ⟨m1, m2⟩ := m
  dsimp only at HMI
  have B1 := hidP (Below.refl w.heap.size w)
  go_enter Try.func34, Try.ntmps34
  go_wp2_with fail
  refine (HMI.out _ B1.out).mono ?_
  rintro e w1 ⟨rfl, hb⟩
  replace B1 := hidP (B1.out.trans hb)
  clear hb HMI
  cases o
  · have HO' : Hid (farO ls = false) := by show _ = _; rw [HO.out]; rfl
    have HA' : Hid (farA ls = []) := by show _ = _; rw [HA.out]; rfl
    have hsz := B1.out.size
    have hb := b0P w1 (.cells #[.int .i64 m1, .int .i64 m2] 27)
    go_wp2
    refine bodyPost_ret (v := .tuple #[.slice (some ⟨w1.heap.size + 1, 0, none⟩) 0 0, .bool false]) (by simp [results, Try.results34, go_sem]) rfl ⟨.slice (some ⟨w1.heap.size + 1, 0, none⟩) 0 0, ret_tb HO'.out.symm, ?_, (B1.out.trans (hb.mono hsz)).alloc (by simp; omega) _⟩
    rw [HA'.out]
    have := litA (w1.alloc (.cells #[.int .i64 m1, .int .i64 m2] 27)) w.heap.size (by simp; omega)
    simpa using this
  have HO' : Hid (farO ls = !(F L).2) := by show _ = _; rw [HO.out]; rfl
  have HA' : Hid (farA ls = (F L).1) := by show _ = _; rw [HA.out]; rfl
  have hL12 := HLN.out rfl
  clear HO HA HLN
  obtain ⟨M, hM⟩ : ∃ M, M = w1.heap.size := ⟨_, rfl⟩
  have hwM : w.heap.size ≤ M := by have := B1.out.size; omega
  obtain ⟨X, hX⟩ : ∃ X, X = w1.alloc (.cells #[.int .i64 m1, .int .i64 m2] 27) := ⟨_, rfl⟩
  have M0 : Hid (IsR X M m1 m2) := by show IsR _ _ _ _; rw [hX, hM]; exact IsR.new w1 _ _
  have hXs : X.heap.size = M + 1 := by rw [hX, hM]; simp
  replace B1 := hidP (B1.out.trans ((b0P w1 (.cells #[.int .i64 m1, .int .i64 m2] 27)).mono B1.out.size))
  rw [← hX] at B1
  obtain ⟨K, hK⟩ : ∃ K, K = X.heap.size := ⟨_, rfl⟩
  obtain ⟨Y, hY⟩ : ∃ Y, Y = X.alloc (.cells #[.bool false] 50) := ⟨_, rfl⟩
  have hb := b0P X (.cells #[.bool false] 50)
  have K0 : Hid (IsK Y K false) := by show IsK _ _ _; rw [hY, hK]; exact IsK.new X false
  have hYs : Y.heap.size = K + 1 := by rw [hY, hK]; simp
  replace M0 := hidP (M0.out.below hb)
  replace B1 := hidP (B1.out.trans (hb.mono B1.out.size))
  rw [← hY] at B1 M0
  clear hb
  obtain ⟨Z, hZ⟩ : ∃ Z, Z = Y.alloc (.cells #[] 27) := ⟨_, rfl⟩
  have hb := b0P Y (.cells #[] 27)
  have O0 : Hid (Z.ownsRow (K + 1) 27 2 (.slice (some ⟨K + 1, 0, none⟩) 0 0) 0 (cellsR [])) := by
    show World.ownsRow _ _ _ _ _ _ _
    rw [hZ, ← hYs]; exact litA Y _ (Nat.le_refl _)
  replace M0 := hidP (M0.out.below hb)
  replace K0 := hidP (K0.out.below hb)
  replace B1 := hidP (B1.out.trans (hb.mono B1.out.size))
  rw [← hZ] at B1 M0 K0
  have hMK : M ≠ K := by omega
  have hMltK : M < K := by omega
  have hwK : w.heap.size ≤ K := by omega
  clear hb
  have hK1 : M + 1 = K := by omega
  go_wp2
  simp only [← hM, ← hX, ← hY, ← hZ, hK1]
  clear hK1 hM hX hK hY hYs hZ hXs
  go_loopw [7, 8] (fun s i wr => ∃ (o : Value) (k : Nat), k ≤ L ∧ i = .int .i64 k ∧ o = s ∧ Hid (wr.ownsRow (K + 1) 27 2 o k (cellsR (F k).1)) ∧ Hid (IsK wr K (F k).2) ∧ Hid (IsR wr M m1 m2) ∧ Hid (Below w.heap.size w wr)) (fun _ i _ => L - (intOf i).toNat)
  case atStart => exact ⟨_, 0, Nat.zero_le _, rfl, rfl, by rw [HF0.out]; exact O0.out, by rw [HF0.out]; exact K0.out, M0.out, B1.out⟩
  case round =>
    clear O0 K0 M0 B1
    obtain ⟨o, k, hk, rfl, rfl, hO, kk, hS, hB⟩ := hrel
    by_cases hlt : k < L
    · obtain ⟨b, off, rfl, c1, c2⟩ := H5.out k hlt
      have l1 := World.block_lt_of_cell? w _ c1
      dsimp only at l1
      have hbK : b ≠ K := by omega
      replace c1 := cell_keep hB.out c1
      replace c2 := cell_keep hB.out c2
      obtain ⟨x, hx⟩ : ∃ x, x = fr ls k := ⟨_, rfl⟩
      rw [← hx] at c1 c2
      obtain ⟨r, hr⟩ : ∃ r, r = s1V x (m1, m2) := ⟨_, rfl⟩
      obtain ⟨f, hf⟩ : ∃ f, f = (F k).2 := ⟨_, rfl⟩
      rw [← hf] at kk
      have HSU := hidP (farStep K f x (m1, m2) r hr)
      obtain ⟨f', hf'⟩ : ∃ f', f' = (f || !subK x (m1, m2)) := ⟨_, rfl⟩
      rw [← hf'] at HSU
      have HN : Hid (F (k + 1) = ((F k).1 ++ [absF r], f')) := by show _ = _; rw [HFS.out k, ← hx, ← hr, ← hf, ← hf']
      have hbd := s1V_bd x (m1, m2)
      rw [← hr] at hbd
      have HLK := hidP (HFL.out k)
      obtain ⟨Q, hQ⟩ : ∃ Q, Q = (F k).1 := ⟨_, rfl⟩
      rw [← hQ] at hO HN HLK
      have HOS : Hid (∀ b', o.ownBlock = some b' → b' < wr.heap.size) := fun b' e => (World.ownsRow.lt hO.out b' e).2
      clear hx hr hf hf' hQ
      obtain ⟨x1, x2⟩ := x
      obtain ⟨r1, r2⟩ := r
      dsimp only at c1 c2 HSU hbd
      obtain ⟨bd1, bd2⟩ := hbd
      go_upto_region 9 with fail
      go_cut [9] from 27 to 42 (fun s9 wx => ∃ T : Nat, s9 = .pointer (some ⟨T, 0, none⟩) ∧ K < T ∧ M < T ∧ w.heap.size ≤ T ∧ Hid (∀ b', o.ownBlock = some b' → b' < T) ∧ Hid (IsR wx T r1 r2) ∧ Hid (IsK wx K f') ∧ Hid (IsR wx M m1 m2) ∧ Hid (wx.ownsRow (K + 1) 27 2 o k (cellsR Q)) ∧ Hid (Below w.heap.size w wx))
      case first =>
        have c3 := hS.out.c0
        have c4 := hS.out.c1
        refine wp_region_noPanic ?_
        refine wp_region_held_drew (S := (fun w' => w'.cell? ⟨b, off + k * 2, none⟩ = some (.int .i64 x1) ∧ w'.cell? ⟨b, off + k * 2 + 1, none⟩ = some (.int .i64 x2) ∧ w'.cell? ⟨M, 0, none⟩ = some (.int .i64 m1) ∧ w'.cell? ⟨M, 1, none⟩ = some (.int .i64 m2))) (by kernel_rfl) ?_ (fun hHeld => ?_)
        · (try dsimp only)
          refine ⟨?_, ?_, ?_, ?_⟩ <;> (repeat (with_reducible (first | exact c1 | exact c2 | exact c3 | exact c4 | refine cell_dr ?_ | refine cell_stb ?_ ?_ | refine cell_al _ ?_ | (show _ ≠ _; omega))))
        have hbd := (Below.refl wr.heap.size wr).drew
        replace hS := hidP (hS.out.below hbd)
        replace hO := hidP (own_below hO.out hbd)
        replace kk := hidP (kk.out.below hbd)
        replace hB := hidP (hB.out.trans (hbd.mono hB.out.size))
        clear hbd
        replace c1 := cell_dr c1
        replace c2 := cell_dr c2
        replace c3 := cell_dr c3
        replace c4 := cell_dr c4
        obtain ⟨wd, hwd⟩ : ∃ u, u = wr.drew := ⟨_, rfl⟩
        rw [← hwd] at hS hO kk hB c1 c2 c3 c4 hHeld ⊢
        clear hwd
        refine wpAnyH_take (i := 0) (v := ?_) rfl (by kernel_rfl) (by kernel_rfl) (by kernel_rfl) (fun _ _ _ h => h) (Or.inl ⟨by kernel_rfl, ?_⟩) hHeld ?_
        rotate_left
        · intro wz hSw; (try dsimp only at hSw); go_simp; all_goals (try with_reducible rfl)
        (try simp only [List.getElem_toArray]); (try simp only [List.getElem_cons_succ]); (try simp only [List.getElem_cons_zero]); (try simp only [Act.put]); (try simp only [List.setIfInBounds_toArray]); (try simp only [List.set_cons_succ]); (try simp only [List.set_cons_zero])
        refine wpAnyH_take (i := 1) (v := ?_) rfl (by kernel_rfl) (by kernel_rfl) (by kernel_rfl) (fun _ _ _ h => h) (Or.inl ⟨by kernel_rfl, ?_⟩) hHeld ?_
        rotate_left
        · intro wz hSw; (try dsimp only at hSw); go_simp; all_goals (try with_reducible rfl)
        (try simp only [List.getElem_toArray]); (try simp only [List.getElem_cons_succ]); (try simp only [List.getElem_cons_zero]); (try simp only [Act.put]); (try simp only [List.setIfInBounds_toArray]); (try simp only [List.set_cons_succ]); (try simp only [List.set_cons_zero])
        refine wpAnyH_take (i := 2) (v := ?_) rfl (by kernel_rfl) (by kernel_rfl) (by kernel_rfl) (fun _ _ _ h => h) (Or.inl ⟨by kernel_rfl, ?_⟩) hHeld ?_
        rotate_left
        · intro wz hSw; (try dsimp only at hSw); go_simp; all_goals (try with_reducible rfl)
        (try simp only [List.getElem_toArray]); (try simp only [List.getElem_cons_succ]); (try simp only [List.getElem_cons_zero]); (try simp only [Act.put]); (try simp only [List.setIfInBounds_toArray]); (try simp only [List.set_cons_succ]); (try simp only [List.set_cons_zero])
        refine wpAnyH_take (i := 3) (v := ?_) rfl (by kernel_rfl) (by kernel_rfl) (by kernel_rfl) (fun _ _ _ h => h) (Or.inl ⟨by kernel_rfl, ?_⟩) hHeld ?_
        rotate_left
        · intro wz hSw; (try dsimp only at hSw); go_simp; all_goals (try with_reducible rfl)
        (try simp only [List.getElem_toArray]); (try simp only [List.getElem_cons_succ]); (try simp only [List.getElem_cons_zero]); (try simp only [Act.put]); (try simp only [List.setIfInBounds_toArray]); (try simp only [List.set_cons_succ]); (try simp only [List.set_cons_zero])
        refine wpAnyH_take (i := 4) (v := ?_) rfl (by kernel_rfl) (by kernel_rfl) (by kernel_rfl) (fun _ _ _ h => h) (Or.inl ⟨by kernel_rfl, ?_⟩) hHeld ?_
        rotate_left
        · intro wz hSw; (try dsimp only at hSw); go_simp; all_goals (try with_reducible rfl)
        (try simp only [List.getElem_toArray]); (try simp only [List.getElem_cons_succ]); (try simp only [List.getElem_cons_zero]); (try simp only [Act.put]); (try simp only [List.setIfInBounds_toArray]); (try simp only [List.set_cons_succ]); (try simp only [List.set_cons_zero])
        refine wpAnyH_take (i := 5) (v := ?_) rfl (by kernel_rfl) (by kernel_rfl) (by kernel_rfl) (fun _ _ _ h => h) (Or.inl ⟨by kernel_rfl, ?_⟩) hHeld ?_
        rotate_left
        · intro wz hSw; (try dsimp only at hSw); go_simp; all_goals (try with_reducible rfl)
        (try simp only [List.getElem_toArray]); (try simp only [List.getElem_cons_succ]); (try simp only [List.getElem_cons_zero]); (try simp only [Act.put]); (try simp only [List.setIfInBounds_toArray]); (try simp only [List.set_cons_succ]); (try simp only [List.set_cons_zero])
        refine wpAnyH_ready (rs := [6, 7]) (by kernel_rfl) (by simp) (AllReadyH.cons rfl (fun Kc hKc => ?_) (AllReadyH.cons rfl (fun Kc hKc => ?_) AllReadyH.nil))
        ·
          go_simp
          (go_at_call 56; refine (HSU.out _ kk.out).mono ?_; rintro e u1 ⟨rfl, kk', g2⟩)
          have c1 := cell_g g2 c1 hbK
          have c2 := cell_g g2 c2 hbK
          have c3 := cell_g g2 c3 hMK
          have c4 := cell_g g2 c4 hMK
          have hS := hidP (IsR.grown (by exact hS.out) g2 hMK)
          have hO := hidP (own_g g2 hO.out (by omega))
          have hB := hidP (hB.out.trans (below_grownK g2 hwK hB.out.size))
          have kk := hidP kk'
          clear g2 kk'
          go_wp2_with fail
          refine hKc.out _ _ ?_ (fun hHeld => ?_)
          · (try dsimp only)
            refine ⟨?_, ?_, ?_, ?_⟩ <;> (repeat (with_reducible (first | exact c1 | exact c2 | exact c3 | exact c4 | refine cell_dr ?_ | refine cell_stb ?_ ?_ | refine cell_al _ ?_ | (show _ ≠ _; omega))))
          clear hKc Kc
          (try simp only [List.getElem_toArray]); (try simp only [List.getElem_cons_succ]); (try simp only [List.getElem_cons_zero]); (try simp only [Act.put]); (try simp only [List.setIfInBounds_toArray]); (try simp only [List.set_cons_succ]); (try simp only [List.set_cons_zero])
          refine wpAnyH_ready (rs := [7]) (by kernel_rfl) (by simp) (AllReadyH.cons rfl (fun Kc hKc => ?_) AllReadyH.nil)
          go_simp
          obtain ⟨A, hA'⟩ : ∃ A, A = u1.heap.size := ⟨_, rfl⟩
          obtain ⟨u2, hu⟩ : ∃ u, u = u1.alloc (.cells #[.int .i64 0, .int .i64 0] 27) := ⟨_, rfl⟩
          have hb : Below u1.heap.size u1 u2 := by rw [hu]; exact b0P _ _
          have hA : Hid (IsR u2 A 0 0) := by show IsR _ _ _ _; rw [hu, hA']; exact IsR.new _ _ _
          have hAw : w.heap.size ≤ A := by rw [hA']; exact hB.out.size
          have hAK : A ≠ K := by have := kk.out.lt; omega
          have hKltA : K < A := by have := kk.out.lt; omega
          have hAhS := hS.out.lt
          rw [← hA'] at hAhS
          have hAhO := World.ownsRow.lt hO.out
          rw [← hA'] at hAhO
          replace hAhO := hidP hAhO
          rw [← hu, ← hA']
          have hS := hidP (hS.out.below hb)
          have hO := hidP (own_below hO.out hb)
          have c1 := cell_keep hb c1
          have c2 := cell_keep hb c2
          have c3 := cell_keep hb c3
          have c4 := cell_keep hb c4
          have kk := hidP (kk.out.below hb)
          have hB := hidP (hB.out.trans (hb.mono hB.out.size))
          clear hb hu hA'
          refine hKc.out _ _ ?_ (fun hHeld => ?_)
          · (try dsimp only)
            refine ⟨?_, ?_, ?_, ?_⟩ <;> (repeat (with_reducible (first | exact c1 | exact c2 | exact c3 | exact c4 | refine cell_dr ?_ | refine cell_stb ?_ ?_ | refine cell_al _ ?_ | (show _ ≠ _; omega))))
          clear hKc Kc
          (try simp only [List.getElem_toArray]); (try simp only [List.getElem_cons_succ]); (try simp only [List.getElem_cons_zero]); (try simp only [Act.put]); (try simp only [List.setIfInBounds_toArray]); (try simp only [List.set_cons_succ]); (try simp only [List.set_cons_zero])
          have HOA : Hid (∀ b', o.ownBlock = some b' → b' < A) := fun b' e => (hAhO.out b' e).2
          have f0 := hA.out.f0
          have f1 := hA.out.f1
          have g0 := hA.out.c0
          have g1 := hA.out.c1
          refine wpAnyH_ready (rs := [8]) (by kernel_rfl) (by simp) (AllReadyH.cons rfl (fun Kc hKc => ?_) AllReadyH.nil)
          go_simp
          refine hKc.out _ _ ?_ (fun hHeld => ?_)
          · (try dsimp only)
            refine ⟨?_, ?_, ?_, ?_⟩ <;> (repeat (with_reducible (first | exact c1 | exact c2 | exact c3 | exact c4 | refine cell_dr ?_ | refine cell_stb ?_ ?_ | refine cell_al _ ?_ | (show _ ≠ _; omega))))
          clear hKc Kc
          (try simp only [List.getElem_toArray]); (try simp only [List.getElem_cons_succ]); (try simp only [List.getElem_cons_zero]); (try simp only [Act.put]); (try simp only [List.setIfInBounds_toArray]); (try simp only [List.set_cons_succ]); (try simp only [List.set_cons_zero])
          refine wpAnyH_done (by kernel_rfl) ?_ _
          refine NoPanic.normal ?_
          have hMA : M ≠ A := by omega
          go_wp2_with fail
          go_meet
          case rel => exact ⟨A, rfl, hKltA, by omega, hAw, HOA.out, (hA.out.set0 r1).set1 r2, (kk.out.other hAK.symm 0 (.int .i64 r1)).other hAK.symm 1 (.int .i64 r2), (hS.out.other hMA 0 (.int .i64 r1)).other hMA 1 (.int .i64 r2), own_st (own_st hO.out HOA.out 0 _) HOA.out 1 _, (hB.out.setCell (p := ⟨A, 0, none⟩) hAw _).setCell (p := ⟨A, 1, none⟩) hAw _⟩
        ·
          go_simp
          obtain ⟨A, hA'⟩ : ∃ A, A = wd.heap.size := ⟨_, rfl⟩
          obtain ⟨u3, hu⟩ : ∃ u, u = wd.alloc (.cells #[.int .i64 0, .int .i64 0] 27) := ⟨_, rfl⟩
          have hb : Below wd.heap.size wd u3 := by rw [hu]; exact b0P _ _
          have hA : Hid (IsR u3 A 0 0) := by show IsR _ _ _ _; rw [hu, hA']; exact IsR.new _ _ _
          have hAw : w.heap.size ≤ A := by rw [hA']; exact hB.out.size
          have hAK : A ≠ K := by have := kk.out.lt; omega
          have hKltA : K < A := by have := kk.out.lt; omega
          have hAhS := hS.out.lt
          rw [← hA'] at hAhS
          have hAhO := World.ownsRow.lt hO.out
          rw [← hA'] at hAhO
          replace hAhO := hidP hAhO
          rw [← hu, ← hA']
          have hS := hidP (hS.out.below hb)
          have hO := hidP (own_below hO.out hb)
          have c1 := cell_keep hb c1
          have c2 := cell_keep hb c2
          have c3 := cell_keep hb c3
          have c4 := cell_keep hb c4
          have kk := hidP (kk.out.below hb)
          have hB := hidP (hB.out.trans (hb.mono hB.out.size))
          clear hb hu hA'
          refine hKc.out _ _ ?_ (fun hHeld => ?_)
          · (try dsimp only)
            refine ⟨?_, ?_, ?_, ?_⟩ <;> (repeat (with_reducible (first | exact c1 | exact c2 | exact c3 | exact c4 | refine cell_dr ?_ | refine cell_stb ?_ ?_ | refine cell_al _ ?_ | (show _ ≠ _; omega))))
          clear hKc Kc
          (try simp only [List.getElem_toArray]); (try simp only [List.getElem_cons_succ]); (try simp only [List.getElem_cons_zero]); (try simp only [Act.put]); (try simp only [List.setIfInBounds_toArray]); (try simp only [List.set_cons_succ]); (try simp only [List.set_cons_zero])
          refine wpAnyH_ready (rs := [6]) (by kernel_rfl) (by simp) (AllReadyH.cons rfl (fun Kc hKc => ?_) AllReadyH.nil)
          go_simp
          (go_at_call 56; refine (HSU.out _ kk.out).mono ?_; rintro e u4 ⟨rfl, kk', g2⟩)
          have c1 := cell_g g2 c1 hbK
          have c2 := cell_g g2 c2 hbK
          have c3 := cell_g g2 c3 hMK
          have c4 := cell_g g2 c4 hMK
          have hS := hidP (IsR.grown (by exact hS.out) g2 hMK)
          have hA := hidP (IsR.grown (by exact hA.out) g2 hAK)
          have hO := hidP (own_g g2 hO.out (by omega))
          have hB := hidP (hB.out.trans (below_grownK g2 hwK hB.out.size))
          have kk := hidP kk'
          clear g2 kk'
          go_wp2_with fail
          refine hKc.out _ _ ?_ (fun hHeld => ?_)
          · (try dsimp only)
            refine ⟨?_, ?_, ?_, ?_⟩ <;> (repeat (with_reducible (first | exact c1 | exact c2 | exact c3 | exact c4 | refine cell_dr ?_ | refine cell_stb ?_ ?_ | refine cell_al _ ?_ | (show _ ≠ _; omega))))
          clear hKc Kc
          (try simp only [List.getElem_toArray]); (try simp only [List.getElem_cons_succ]); (try simp only [List.getElem_cons_zero]); (try simp only [Act.put]); (try simp only [List.setIfInBounds_toArray]); (try simp only [List.set_cons_succ]); (try simp only [List.set_cons_zero])
          have HOA : Hid (∀ b', o.ownBlock = some b' → b' < A) := fun b' e => (hAhO.out b' e).2
          have f0 := hA.out.f0
          have f1 := hA.out.f1
          have g0 := hA.out.c0
          have g1 := hA.out.c1
          refine wpAnyH_ready (rs := [8]) (by kernel_rfl) (by simp) (AllReadyH.cons rfl (fun Kc hKc => ?_) AllReadyH.nil)
          go_simp
          refine hKc.out _ _ ?_ (fun hHeld => ?_)
          · (try dsimp only)
            refine ⟨?_, ?_, ?_, ?_⟩ <;> (repeat (with_reducible (first | exact c1 | exact c2 | exact c3 | exact c4 | refine cell_dr ?_ | refine cell_stb ?_ ?_ | refine cell_al _ ?_ | (show _ ≠ _; omega))))
          clear hKc Kc
          (try simp only [List.getElem_toArray]); (try simp only [List.getElem_cons_succ]); (try simp only [List.getElem_cons_zero]); (try simp only [Act.put]); (try simp only [List.setIfInBounds_toArray]); (try simp only [List.set_cons_succ]); (try simp only [List.set_cons_zero])
          refine wpAnyH_done (by kernel_rfl) ?_ _
          refine NoPanic.normal ?_
          have hMA : M ≠ A := by omega
          go_wp2_with fail
          go_meet
          case rel => exact ⟨A, rfl, hKltA, by omega, hAw, HOA.out, (hA.out.set0 r1).set1 r2, (kk.out.other hAK.symm 0 (.int .i64 r1)).other hAK.symm 1 (.int .i64 r2), (hS.out.other hMA 0 (.int .i64 r1)).other hMA 1 (.int .i64 r2), own_st (own_st hO.out HOA.out 0 _) HOA.out 1 _, (hB.out.setCell (p := ⟨A, 0, none⟩) hAw _).setCell (p := ⟨A, 1, none⟩) hAw _⟩
      case rest =>
        clear c1 c2 hS kk hO hB HSU HOS
        rename_i wc
        obtain ⟨T, rfl, hKT, hMT, hwT, HOS, hT, kk, hS, hO, hB⟩ := hcut
        have hsz := hB.out.size
        have hKw : K + 1 ≤ wc.heap.size := kk.out.lt
        have hTl := hT.out.lt
        have hKT' : K ≠ T := by omega
        have hMT' : M ≠ T := by omega
        by_cases hneg : r1 < 0
        · have HAB : Hid (absF (r1, r2) = (-r1, r2)) := absF_neg hneg
          have HMN := hidP (fun W => sMinusA_any r1 r2 W (by omega) (by omega))
          have e0 := hT.out.c0
          have e1 := hT.out.c1
          go_wp2_with fail
          refine (HMN.out _).mono ?_
          rintro e w4 ⟨rfl, hb⟩
          replace hT := hidP (hT.out.below hb)
          replace kk := hidP (kk.out.below hb)
          replace hS := hidP (hS.out.below hb)
          replace hO := hidP (own_below hO.out hb)
          replace hB := hidP (hB.out.trans (hb.mono hsz))
          replace hKw : K + 1 ≤ w4.heap.size := kk.out.lt
          replace hsz := hB.out.size
          replace hTl := hT.out.lt
          clear hb e0 e1 HMN
          have f0 := hT.out.f0
          have f1 := hT.out.f1
          have g0 := hT.out.c0
          have g1 := hT.out.c1
          go_upto_region 12 with fail
          obtain ⟨wn, hwn⟩ : ∃ W, W = (w4.setCell ⟨T, 0, none⟩ (.int .i64 (-r1))).setCell ⟨T, 1, none⟩ (.int .i64 r2) := ⟨_, rfl⟩
          replace hT := hidP ((hT.out.set0 (-r1)).set1 r2)
          replace kk := hidP ((kk.out.other hKT' 0 (.int .i64 (-r1))).other hKT' 1 (.int .i64 r2))
          replace hS := hidP ((hS.out.other hMT' 0 (.int .i64 (-r1))).other hMT' 1 (.int .i64 r2))
          replace hO := hidP (own_st (own_st hO.out HOS.out 0 (.int .i64 (-r1))) HOS.out 1 (.int .i64 r2))
          replace hB := hidP ((hB.out.setCell (p := ⟨T, 0, none⟩) hwT (.int .i64 (-r1))).setCell (p := ⟨T, 1, none⟩) hwT (.int .i64 r2))
          rw [← hwn] at hT kk hS hO hB ⊢
          clear hwn f0 f1 g0 g1
          replace hKw : K + 1 ≤ wn.heap.size := kk.out.lt
          replace hsz := hB.out.size
          have e0 := hT.out.c0
          have e1 := hT.out.c1
          go_wp2_with (at_builtin; refine wpList_append_own _ rfl _ _ 24 rfl (K + 1) 27 i0 (.agg #[.int .i64 0, .int .i64 0]) 2 16 Try.underlying24 hi hz0 hz1 hz2 rfl (by decide) _ _ _ rfl (hO.out.alloc _) ⟨wn.heap.size, 0, none⟩ 1 1 [.int .i64 (-r1), .int .i64 r2] rfl rfl (cell_twoF _ _ _ _) (by intro u hu; simp at hu; rcases hu with rfl | rfl <;> rfl) (by unfold maxLen; omega) (by omega) (by simp; omega) ?_; intro v' w5 hown' hgrow _)
          go_roundw
          case rel =>
            have hb := b0P wn (.cells #[.int .i64 (-r1), .int .i64 r2] 27)
            have K5 := (kk.out.below hb).grownO hgrow (fun e => by have := (World.ownsRow.lt hO.out K e).1; omega)
            have S5 := (hS.out.below hb).grownA hgrow (fun e => by have := (World.ownsRow.lt hO.out M e).1; omega)
            refine ⟨v', k + 1, by omega, by go_num, rfl, ?_, ?_, S5, hB.out.trans ((below_appended hO.out hKw hgrow).mono (by omega))⟩
            · show World.ownsRow _ _ _ _ _ _ _
              rw [HN.out]
              show World.ownsRow _ _ _ _ _ _ (cellsR (Q ++ [absF (r1, r2)]))
              rw [cellsR_append, HAB.out]
              exact hown'
            · show IsK _ _ _
              rw [HN.out]
              exact K5
          case measure => simp [intOf]; omega
        · have HAB : Hid (absF (r1, r2) = (r1, r2)) := absF_pos hneg
          have e0 := hT.out.c0
          have e1 := hT.out.c1
          go_wp2_with (at_builtin; refine wpList_append_own _ rfl _ _ 24 rfl (K + 1) 27 i0 (.agg #[.int .i64 0, .int .i64 0]) 2 16 Try.underlying24 hi hz0 hz1 hz2 rfl (by decide) _ _ _ rfl (hO.out.alloc _) ⟨wc.heap.size, 0, none⟩ 1 1 [.int .i64 r1, .int .i64 r2] rfl rfl (cell_twoF _ _ _ _) (by intro u hu; simp at hu; rcases hu with rfl | rfl <;> rfl) (by unfold maxLen; omega) (by omega) (by simp; omega) ?_; intro v' w5 hown' hgrow _)
          go_roundw
          case rel =>
            have hb := b0P wc (.cells #[.int .i64 r1, .int .i64 r2] 27)
            have K5 := (kk.out.below hb).grownO hgrow (fun e => by have := (World.ownsRow.lt hO.out K e).1; omega)
            have S5 := (hS.out.below hb).grownA hgrow (fun e => by have := (World.ownsRow.lt hO.out M e).1; omega)
            refine ⟨v', k + 1, by omega, by go_num, rfl, ?_, ?_, S5, hB.out.trans ((below_appended hO.out hKw hgrow).mono (by omega))⟩
            · show World.ownsRow _ _ _ _ _ _ _
              rw [HN.out]
              show World.ownsRow _ _ _ _ _ _ (cellsR (Q ++ [absF (r1, r2)]))
              rw [cellsR_append, HAB.out]
              exact hown'
            · show IsK _ _ _
              rw [HN.out]
              exact K5
          case measure => simp [intOf]; omega
    · obtain rfl : k = L := by omega
      obtain ⟨f, hf⟩ : ∃ f, f = (F k).2 := ⟨_, rfl⟩
      rw [← hf] at kk HO'
      have hkc := kk.out.cell
      have hsz := hB.out.size
      clear hf
      have hOF := hO.out
      rw [← HA'.out] at hOF
      have hfl : (farA ls).length = k := by rw [HA'.out, HFL.out]
      have HRO := hidP hOF
      clear hOF
      cases f
      · go_wp2
        go_region
        all_goals go_wp2
        all_goals
         refine bodyPost_ret (v := .tuple #[o, .bool true]) (by simp [results, Try.results34, go_sem]) rfl ⟨o, ret_tb HO'.out.symm, ?_, by first | exact hB.out | exact hB.out.drew | exact below_drewN hB.out _⟩
         rw [hfl]
         exact own_le (by first | exact HRO.out | exact HRO.out.drew) (by omega)
      · go_wp2
        go_region
        all_goals go_wp2
        all_goals
         refine bodyPost_ret (v := .tuple #[o, .bool false]) (by simp [results, Try.results34, go_sem]) rfl ⟨o, ret_tb HO'.out.symm, ?_, by first | exact hB.out | exact hB.out.drew | exact below_drewN hB.out _⟩
         rw [hfl]
         exact own_le (by first | exact HRO.out | exact HRO.out.drew) (by omega)

set_option maxRecDepth 100000 in
set_option maxHeartbeats 2000000 in
theorem sSpread_any (v : Value) (ls : List Fr) (w : World) (h : RdR w v ls) :
    Calls Try.prog 11 #[v] w fun e w' => e = .returned (.tuple #[.agg #[.int .i64 (sprA ls).1, .int .i64 (sprA ls).2], .bool (sprO ls)]) ∧ Below w.heap.size w w' := by
  have HFA := hidP (fun W (hW : Below w.heap.size w W) => sFar_any v ls W (h.below hW))
  obtain ⟨a, c, rfl, _⟩ := h
  obtain ⟨Rb, hRb⟩ : ∃ R, R = w.heap.size := ⟨_, rfl⟩
  obtain ⟨X, hX⟩ : ∃ X, X = w.alloc (.cells #[.int .i64 0, .int .i64 0] 27) := ⟨_, rfl⟩
  have hZ : Hid (IsR X Rb 0 0) := by show IsR _ _ _ _; rw [hX, hRb]; exact IsR.new w 0 0
  have hB : Hid (Below w.heap.size w X) := by show Below _ _ _; rw [hX]; exact b0P _ _
  have hwR : w.heap.size ≤ Rb := by omega
  obtain ⟨o, ho⟩ : ∃ o, o = farO ls := ⟨_, rfl⟩
  have HSO : Hid (sprO ls = (o && midO (farA ls))) := by show _ = _; rw [ho]; rfl
  have HSA : Hid (sprA ls = if o = true then midA (farA ls) else (0, 0)) := by show _ = _; rw [ho]; rfl
  rw [← ho] at HFA
  clear ho
  go_enter Try.func11, Try.ntmps11
  go_wp2_with fail
  rw [← hX, ← hRb]
  clear hX hRb
  refine (HFA.out _ hB.out).mono ?_
  rintro e w1 ⟨u, rfl, hu, hb⟩
  have HU := hidP (RdR.own hu).1
  replace hZ := hidP (hZ.out.below hb)
  replace hB := hidP (hB.out.trans (hb.mono hB.out.size))
  clear hb HFA hu
  have z0 := hZ.out.c0
  have z1 := hZ.out.c1
  have z2 := hZ.out.f0
  have z3 := hZ.out.f1
  cases o
  · have H1 : Hid (sprO ls = false) := by show _ = _; rw [HSO.out]; rfl
    have H2 : Hid (sprA ls = (0, 0)) := by show _ = _; rw [HSA.out]; rfl
    go_wp2
    have y0 := ((hZ.out.set0 0).set1 0).c0
    have y1 := ((hZ.out.set0 0).set1 0).c1
    exact bodyPost_ret (v := .tuple #[.agg #[.int .i64 0, .int .i64 0], .bool false]) (by simp [results, Try.results11, go_sem, y0, y1]) rfl ⟨spr_ret H2.out H1.out, (hB.out.setCell (p := ⟨Rb, 0, none⟩) hwR _).setCell (p := ⟨Rb, 1, none⟩) hwR _⟩
  · have H1 : Hid (sprO ls = midO (farA ls)) := by show _ = _; rw [HSO.out]; rfl
    have H2 : Hid (sprA ls = midA (farA ls)) := by show _ = _; rw [HSA.out]; rfl
    have HM := hidP (sMiddle_any u (farA ls) w1 HU.out)
    rw [← H1.out, ← H2.out] at HM
    obtain ⟨q, hq⟩ : ∃ q, q = sprO ls := ⟨_, rfl⟩
    obtain ⟨d, hd⟩ : ∃ d, d = sprA ls := ⟨_, rfl⟩
    rw [← hq, ← hd] at HM
    have HQ := hidP hq.symm
    have HD := hidP hd.symm
    clear H1 H2 HSO HSA hq hd z0 z1 z2 z3
    obtain ⟨d1, d2⟩ := d
    dsimp only at HM
    obtain ⟨n, cc, rfl, _⟩ := HU.out
    clear HU
    go_wp2_with fail
    refine HM.out.mono ?_
    rintro e w2 ⟨rfl, hb⟩
    replace hZ := hidP (hZ.out.below hb)
    replace hB := hidP (hB.out.trans (hb.mono hB.out.size))
    clear hb HM
    have z0 := hZ.out.c0
    have z1 := hZ.out.c1
    have z2 := hZ.out.f0
    have z3 := hZ.out.f1
    go_wp2
    have y0 := ((hZ.out.set0 d1).set1 d2).c0
    have y1 := ((hZ.out.set0 d1).set1 d2).c1
    exact bodyPost_ret (v := .tuple #[.agg #[.int .i64 d1, .int .i64 d2], .bool q]) (by simp [results, Try.results11, go_sem, y0, y1]) rfl ⟨spr_ret HD.out HQ.out, (hB.out.setCell (p := ⟨Rb, 0, none⟩) hwR _).setCell (p := ⟨Rb, 1, none⟩) hwR _⟩
end Go.Proofs.Ythmdiljcceiedaa
