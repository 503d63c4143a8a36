/- What lies outside: the mathematics, and the walk of the model's Outside. -/
import Derived.Test.YthmdiljcceiedaaAgrW5
import Derived.Deep.RegionHeld3
import Derived.Maps.AppendAt
namespace Go.Proofs.Ythmdiljcceiedaa
open Go.RowKit Go.Proofs.Ythmdiljcceiedaa.RM

/-- the numbers of those of the first k that are farther than f -/
def outL (fs : List Fr) (f : Fr) : Nat → List Int
  | 0 => []
  | k + 1 => if lessB f.1 f.2 (fr fs k).1 (fr fs k).2 = true then outL fs f k ++ [(k : Int)] else outL fs f k
theorem outL_len (fs : List Fr) (f : Fr) : ∀ k, (outL fs f k).length ≤ k
  | 0 => Nat.le_refl _
  | k + 1 => by
    have := outL_len fs f k
    unfold outL
    split
    · simp; omega
    · omega
def outC (ls : List Fr) (t : Int) : Bool := sprO ls && (decide (0 ≤ t ∧ t ≤ 100) && mulK (t, 1) (sprA ls))
def outA (ls : List Fr) (t : Int) : List Int := if outC ls t = true then outL (farA ls) (mulP (t, 1) (sprA ls)) ls.length else []
theorem farA_len {ls : List Fr} (h : farO ls = true) : (farA ls).length = ls.length ∧ 1 ≤ ls.length ∧ ls.length ≤ 12 := by
  unfold farO at h
  rw [Bool.and_eq_true] at h
  have h1 := h.1
  unfold midO midC at h1
  rw [Bool.and_eq_true, Bool.and_eq_true, decide_eq_true_eq] at h1
  unfold farA
  rw [if_pos h.1, farV_len]
  exact ⟨rfl, h1.1.1⟩
theorem sprO_far {ls : List Fr} (h : sprO ls = true) : farO ls = true := by unfold sprO at h; rw [Bool.and_eq_true] at h; exact h.1
theorem sprA_no {ls : List Fr} (h : sprO ls = false) : sprA ls = (0, 0) := by
  unfold sprO at h
  unfold sprA
  cases h1 : farO ls
  · rfl
  · rw [h1] at h
    rw [if_pos rfl]
    exact midA_no h
theorem outA_small (ls : List Fr) (t : Int) : (outA ls t).length ≤ 1048576 := by
  unfold outA
  split
  · rename_i h
    have h1 : sprO ls = true := by unfold outC at h; rw [Bool.and_eq_true] at h; exact h.1
    have := farA_len (sprO_far h1)
    have := outL_len (farA ls) (mulP (t, 1) (sprA ls)) ls.length
    omega
  · simp
theorem inB_dec (t : Int) : inB t 0 100 = decide (0 ≤ t ∧ t ≤ 100) := by unfold inB; rw [Bool.eq_iff_iff]; try simp
theorem litZ (W : World) (base : Nat) (hb : base ≤ W.heap.size) : (W.alloc (.cells #[] 2)).ownsRow base 2 1 (.slice (some ⟨W.heap.size, 0, none⟩) 0 0) 0 (List.map (Value.int .i64) []) :=
  ⟨rfl, .inr ⟨W.heap.size, 0, #[], rfl, hb, World.alloc_heap_new W _, Nat.le_refl _, Nat.zero_le _, rfl, rfl⟩⟩
theorem cell_oneZ (w : World) (a : Value) (t : TypeId) : ∀ j u, [a][j]? = some u → (w.alloc (.cells #[a] t)).cell? ((⟨w.heap.size, 0, none⟩ : Addr).add j) = some u := by
  intro j u h
  match j, h with
  | 0, h => simp at h; subst h; simp [go_sem, Addr.add]
theorem RdR.at0 {W : World} {b n c : Nat} {ls : List Fr} (h : RdR W (.slice (some ⟨b, 0, none⟩) n c) ls) (k : Nat) (hk : k < ls.length) : W.cell? ⟨b, k * 2, none⟩ = some (.int .i64 (fr ls k).1) ∧ W.cell? ⟨b, k * 2 + 1, none⟩ = some (.int .i64 (fr ls k).2) := by
  obtain ⟨a, c', e, h1, h2, h3, h4⟩ := h
  injection e with e1 e2 e3
  subst e1
  obtain ⟨b', off, e, c1, c2⟩ := h4 k hk
  injection e with e
  injection e with e4 e5 e6
  rw [← e4, ← e5, Nat.zero_add] at c1 c2
  exact ⟨c1, c2⟩
theorem RdR.keep {W W' : World} {b n c : Nat} {ls : List Fr} {row : Option Nat} (h : RdR W (.slice (some ⟨b, 0, none⟩) n c) ls) (hb : b < W.heap.size) (hg : W.grownBy W' row) (hne : row ≠ some b) : RdR W' (.slice (some ⟨b, 0, none⟩) n c) ls := by
  obtain ⟨a, c', e, h1, h2, h3, h4⟩ := h
  injection e with e1 e2 e3
  subst e1
  refine ⟨some ⟨b, 0, none⟩, c', by rw [e2, e3], h1, h2, h3, fun j hj => ?_⟩
  obtain ⟨b', off, e, c1, c2⟩ := h4 j hj
  injection e with e
  injection e with e4 e5 e6
  subst e4
  have hk := hg.block b hb (fun e => hne e.symm)
  exact ⟨b, off, by rw [← e5], by rw [← c1]; simp [World.cell?, hk], by rw [← c2]; simp [World.cell?, hk]⟩
set_option maxRecDepth 100000 in
set_option maxHeartbeats 8000000 in
theorem sOutside_any (v : Value) (ls : List Fr) (t : Int) (w : World) (h : RdR w v ls) :
    Calls Try.prog 13 #[v, .int .i64 t] w fun e w' => ∃ u, e = .returned u ∧ w'.ownsRow w.heap.size 2 1 u (outA ls t).length (List.map (Value.int .i64) (outA ls t)) ∧ Below w.heap.size w w' := by
  obtain ⟨i0, hi, hz0, hz1, hz2⟩ := info_parts infoI
  have HSP := hidP (fun W (hW : Below w.heap.size w W) => sSpread_any v ls W (h.below hW))
  have HFA := hidP (fun W (hW : Below w.heap.size w W) => sFar_any v ls W (h.below hW))
  obtain ⟨a, c, rfl, _⟩ := h
  obtain ⟨s, hs⟩ : ∃ s, s = sprA ls := ⟨_, rfl⟩
  obtain ⟨q, hq⟩ : ∃ q, q = sprO ls := ⟨_, rfl⟩
  have HQ := hidP hq
  rw [← hs, ← hq] at HSP
  obtain ⟨f, hf⟩ : ∃ f, f = mulP (t, 1) s := ⟨_, rfl⟩
  obtain ⟨k1, hk1⟩ : ∃ f, f = mulK (t, 1) s := ⟨_, rfl⟩
  obtain ⟨k2, hk2⟩ : ∃ f, f = inB t 0 100 := ⟨_, rfl⟩
  have HC : Hid (outC ls t = (q && (k2 && k1))) := by show _ = _; rw [hq, hk2, hk1, hs, inB_dec]; rfl
  have HA : Hid (outA ls t = if outC ls t = true then outL (farA ls) f ls.length else []) := by show _ = _; rw [hf, hs]; rfl
  have HMU : Hid (∀ W, Calls Try.prog 36 #[.agg #[.int .i64 t, .int .i64 1], .agg #[.int .i64 s.1, .int .i64 s.2]] W fun e w' => e = .returned (.tuple #[.agg #[.int .i64 f.1, .int .i64 f.2], .bool k1]) ∧ Below W.heap.size W w') := by
    intro W; rw [hf, hk1]; exact sMul_any t 1 s.1 s.2 W
  have HIN : Hid (∀ W, Calls Try.prog 35 #[.int .i64 t, .int .i64 0, .int .i64 100] W fun e w' => e = .returned (.bool k2) ∧ w' = W) := by
    intro W; rw [hk2]; exact in_any t 0 100 W
  clear hs hq hf hk1 hk2
  obtain ⟨L, hL⟩ : ∃ L, L = ls.length := ⟨_, rfl⟩
  have HL := hidP hL
  rw [← hL] at HA HSP HFA ⊢
  clear hL
  obtain ⟨s1, s2⟩ := s
  obtain ⟨f1, f2⟩ := f
  dsimp only at HMU HSP
  obtain ⟨X, hX⟩ : ∃ X, X = w.alloc (.cells #[] 2) := ⟨_, rfl⟩
  obtain ⟨Gb, hGb⟩ : ∃ G, G = w.heap.size := ⟨_, rfl⟩
  have HO : Hid (X.ownsRow w.heap.size 2 1 (.slice (some ⟨Gb, 0, none⟩) 0 0) 0 (List.map (Value.int .i64) [])) := by show World.ownsRow _ _ _ _ _ _ _; rw [hX, hGb]; exact litZ w _ (Nat.le_refl _)
  have hB : Hid (Below w.heap.size w X) := by show Below _ _ _; rw [hX]; exact b0P _ _
  go_enter Try.func13, Try.ntmps13
  go_wp2_with fail
  rw [← hX, ← hGb]
  have hGX : Gb < X.heap.size := by rw [hX, hGb]; simp
  have hwG : w.heap.size ≤ Gb := by omega
  clear hX hGb
  refine (HSP.out _ hB.out).mono ?_
  rintro e w1 ⟨rfl, hb⟩
  replace HO := hidP (own_below HO.out hb)
  replace hB := hidP (hB.out.trans (hb.mono hB.out.size))
  have hGw := Nat.lt_of_lt_of_le hGX hb.size
  clear hb HSP hGX
  have hb := b0P w1 (.cells #[.int .i64 s1, .int .i64 s2] 27)
  cases q
  · have HA' : Hid (outA ls t = []) := by show _ = _; rw [HA.out, HC.out]; rfl
    go_wp2
    refine bodyPost_ret (v := .slice (some ⟨Gb, 0, none⟩) 0 0) (by simp [results, Try.results13, go_sem]) rfl ⟨_, rfl, ?_, hB.out.trans (hb.mono hB.out.size)⟩
    rw [HA'.out]
    exact own_below HO.out hb
  obtain ⟨T, hT⟩ : ∃ T, T = w1.heap.size := ⟨_, rfl⟩
  obtain ⟨Y, hY⟩ : ∃ Y, Y = w1.alloc (.cells #[.int .i64 s1, .int .i64 s2] 27) := ⟨_, rfl⟩
  have S0 : Hid (IsR Y T s1 s2) := by show IsR _ _ _ _; rw [hY, hT]; exact IsR.new w1 _ _
  rw [← hY] at hb
  replace HO := hidP (own_below HO.out hb)
  replace hB := hidP (hB.out.trans (hb.mono hB.out.size))
  clear hb
  go_wp2_with fail
  simp only [← hT, ← hY]
  clear hT hY
  refine (HIN.out _).mono ?_
  rintro e w2 ⟨rfl, hw2⟩
  obtain rfl := hw2.symm
  clear hw2 HIN
  cases k2
  · have HA' : Hid (outA ls t = []) := by show _ = _; rw [HA.out, HC.out]; rfl
    go_wp2
    refine bodyPost_ret (v := .slice (some ⟨Gb, 0, none⟩) 0 0) (by simp [results, Try.results13, go_sem]) rfl ⟨_, rfl, ?_, hB.out⟩
    rw [HA'.out]
    exact HO.out
  have hfar := farA_len (sprO_far HQ.out.symm)
  have HFL : Hid ((farA ls).length = L) := by show _ = _; rw [hfar.1, HL.out]
  obtain ⟨hf0, hf1, hf2⟩ := hfar
  rw [← HL.out] at hf1 hf2
  rw [HFL.out] at HFA
  obtain ⟨fs, hfs⟩ : ∃ fs, fs = farA ls := ⟨_, rfl⟩
  rw [← hfs] at HFA HFL HA
  clear hfs hf0
  go_wp2_with fail
  refine (HFA.out _ hB.out).mono ?_
  rintro e w3 ⟨u, rfl, hu, hb⟩
  have HU := hidP (RdR.own hu).1
  obtain ⟨ub, uc, hub⟩ := own_some hu (by omega)
  subst hub
  have hul := (hu.lt ub rfl).2
  have huG : Gb < ub := by have := (hu.lt ub rfl).1; have := HO.out.lt Gb rfl; omega
  replace HO := hidP (own_below HO.out hb)
  replace S0 := hidP (S0.out.below hb)
  replace hB := hidP (hB.out.trans (hb.mono hB.out.size))
  clear hb hu HFA
  have e0 := S0.out.c0
  have e1 := S0.out.c1
  go_wp2_with fail
  refine (HMU.out _).mono ?_
  rintro e w4 ⟨rfl, hb⟩
  replace HO := hidP (own_below HO.out hb)
  replace HU := hidP (HU.out.below hb)
  replace hB := hidP (hB.out.trans (hb.mono hB.out.size))
  replace hul := Nat.lt_of_lt_of_le hul hb.size
  clear hb e0 e1 S0 HMU
  obtain ⟨R, hR⟩ : ∃ T, T = w4.heap.size := ⟨_, rfl⟩
  obtain ⟨Z, hZ⟩ : ∃ Y, Y = w4.alloc (.cells #[.int .i64 f1, .int .i64 f2] 27) := ⟨_, rfl⟩
  have hb := b0P w4 (.cells #[.int .i64 f1, .int .i64 f2] 27)
  have R0 : Hid (IsR Z R f1 f2) := by show IsR _ _ _ _; rw [hZ, hR]; exact IsR.new w4 _ _
  rw [← hZ] at hb
  replace HO := hidP (own_below HO.out hb)
  replace HU := hidP (HU.out.below hb)
  replace hB := hidP (hB.out.trans (hb.mono hB.out.size))
  have hGR : Gb ≠ R := by omega
  replace hul := Nat.lt_of_lt_of_le hul hb.size
  have huG' : Gb ≠ ub := by omega
  clear hb
  cases k1
  · have HA' : Hid (outA ls t = []) := by show _ = _; rw [HA.out, HC.out]; rfl
    go_wp2
    simp only [← hR, ← hZ]
    clear hR hZ
    go_loopw [5, 12] (fun s i wr => s = .slice (some ⟨Gb, 0, none⟩) 0 0 ∧ i = .int .i64 0 ∧ Hid (wr = Z)) (fun _ _ _ => 0)
    case atStart => exact ⟨rfl, rfl, rfl⟩
    case round =>
      obtain ⟨rfl, rfl, hw⟩ := hrel
      obtain rfl := hw.out
      go_wp2
      refine bodyPost_ret (v := .slice (some ⟨Gb, 0, none⟩) 0 0) (by simp [results, Try.results13, go_sem]) rfl ⟨_, rfl, ?_, hB.out⟩
      rw [HA'.out]
      exact HO.out
  have HA' : Hid (outA ls t = outL fs (f1, f2) L) := by show _ = _; rw [HA.out, HC.out]; rfl
  obtain ⟨F, hF⟩ : ∃ F, F = outL fs (f1, f2) := ⟨_, rfl⟩
  have HF0 : Hid (F 0 = []) := by show _ = _; rw [hF]; rfl
  have HFS : Hid (∀ k, F (k + 1) = if lessB f1 f2 (fr fs k).1 (fr fs k).2 = true then F k ++ [(k : Int)] else F k) := by intro k; rw [hF]; rfl
  have HFN : Hid (∀ k, (F k).length ≤ k) := by intro k; rw [hF]; exact outL_len _ _ k
  rw [← hF] at HA'
  clear hF HA HC
  go_wp2
  simp only [← hR, ← hZ]
  clear hR hZ
  go_loopw [5, 12] (fun s i wr => ∃ (o : Value) (k : Nat), k ≤ L ∧ i = .int .i64 k ∧ o = s ∧ Hid (wr.ownsRow w.heap.size 2 1 o (F k).length (List.map (Value.int .i64) (F k))) ∧ Hid (IsR wr R f1 f2) ∧ Hid (RdR wr (.slice (some ⟨ub, 0, none⟩) L uc) fs) ∧ Hid (o.ownBlock ≠ some R ∧ o.ownBlock ≠ some ub ∧ ub < wr.heap.size) ∧ Hid (Below w.heap.size w wr)) (fun _ i _ => L - (intOf i).toNat)
  case atStart => exact ⟨_, 0, Nat.zero_le _, rfl, rfl, by rw [HF0.out]; exact HO.out, R0.out, HU.out, ⟨by show some Gb ≠ some R; simpa using hGR, by show some Gb ≠ some ub; simpa using huG', hul⟩, hB.out⟩
  case round =>
    clear HO R0 HU hB
    obtain ⟨o, k, hk, rfl, rfl, hO, hR, hU, hN, hB⟩ := hrel
    by_cases hlt : k < L
    · obtain ⟨c1, c2⟩ := hU.out.at0 k (by rw [HFL.out]; exact hlt)
      obtain ⟨x, hx⟩ : ∃ x, x = fr fs k := ⟨_, rfl⟩
      rw [← hx] at c1 c2
      have HS := hidP (HFS.out k)
      rw [← hx] at HS
      have HNK := hidP (HFN.out k)
      obtain ⟨Q, hQ⟩ : ∃ Q, Q = F k := ⟨_, rfl⟩
      rw [← hQ] at hO HS HNK
      clear hx hQ
      obtain ⟨x1, x2⟩ := x
      dsimp only at c1 c2
      have HLT := hidP (fun W => sLess_any f1 f2 x1 x2 W)
      obtain ⟨q, hq⟩ : ∃ q, q = lessB f1 f2 x1 x2 := ⟨_, rfl⟩
      rw [← hq] at HLT HS
      clear hq
      have c3 := hR.out.c0
      have c4 := hR.out.c1
      go_upto_region 10 with fail
      have hb := (Below.refl wr.heap.size wr).drew
      refine wp_region_noPanic ?_
      refine wp_region_held_drew (S := (fun w' => w'.cell? ⟨ub, k * 2, none⟩ = some (.int .i64 x1) ∧ w'.cell? ⟨ub, k * 2 + 1, none⟩ = some (.int .i64 x2) ∧ w'.cell? ⟨R, 0, none⟩ = some (.int .i64 f1) ∧ w'.cell? ⟨R, 1, none⟩ = some (.int .i64 f2))) (by kernel_rfl) ?_ (fun hHeld => ?_)
      · (try dsimp only)
        refine ⟨?_, ?_, ?_, ?_⟩ <;> (repeat (with_reducible (first | exact c1 | exact c2 | exact c3 | exact c4 | refine cell_dr ?_)))
      replace hO := hidP (own_below hO.out hb)
      replace hU := hidP (hU.out.below hb)
      replace hR := hidP (hR.out.below hb)
      replace hN := hidP (And.intro hN.out.1 (And.intro hN.out.2.1 (Nat.lt_of_lt_of_le hN.out.2.2 hb.size)))
      replace hB := hidP (hB.out.trans (hb.mono hB.out.size))
      replace c1 := cell_dr c1
      replace c2 := cell_dr c2
      replace c3 := cell_dr c3
      replace c4 := cell_dr c4
      clear hb
      obtain ⟨wd, hwd⟩ : ∃ u, u = wr.drew := ⟨_, rfl⟩
      rw [← hwd] at hO hU hR hN hB c1 c2 c3 c4 hHeld ⊢
      clear hwd
      refine wpAnyH_take (i := 0) (v := ?_) rfl (by kernel_rfl) (by kernel_rfl) (by kernel_rfl) (fun _ _ _ h => h) (Or.inl ⟨by kernel_rfl, ?_⟩) hHeld ?_
      rotate_left
      · intro wz hSw; (try dsimp only at hSw); go_simp; all_goals (try with_reducible rfl)
      (try simp only [List.getElem_toArray]); (try simp only [List.getElem_cons_succ]); (try simp only [List.getElem_cons_zero]); (try simp only [Act.put]); (try simp only [List.setIfInBounds_toArray]); (try simp only [List.set_cons_succ]); (try simp only [List.set_cons_zero])
      refine wpAnyH_take (i := 1) (v := ?_) rfl (by kernel_rfl) (by kernel_rfl) (by kernel_rfl) (fun _ _ _ h => h) (Or.inl ⟨by kernel_rfl, ?_⟩) hHeld ?_
      rotate_left
      · intro wz hSw; (try dsimp only at hSw); go_simp; all_goals (try with_reducible rfl)
      (try simp only [List.getElem_toArray]); (try simp only [List.getElem_cons_succ]); (try simp only [List.getElem_cons_zero]); (try simp only [Act.put]); (try simp only [List.setIfInBounds_toArray]); (try simp only [List.set_cons_succ]); (try simp only [List.set_cons_zero])
      refine wpAnyH_take (i := 2) (v := ?_) rfl (by kernel_rfl) (by kernel_rfl) (by kernel_rfl) (fun _ _ _ h => h) (Or.inl ⟨by kernel_rfl, ?_⟩) hHeld ?_
      rotate_left
      · intro wz hSw; (try dsimp only at hSw); go_simp; all_goals (try with_reducible rfl)
      (try simp only [List.getElem_toArray]); (try simp only [List.getElem_cons_succ]); (try simp only [List.getElem_cons_zero]); (try simp only [Act.put]); (try simp only [List.setIfInBounds_toArray]); (try simp only [List.set_cons_succ]); (try simp only [List.set_cons_zero])
      refine wpAnyH_take (i := 3) (v := ?_) rfl (by kernel_rfl) (by kernel_rfl) (by kernel_rfl) (fun _ _ _ h => h) (Or.inl ⟨by kernel_rfl, ?_⟩) hHeld ?_
      rotate_left
      · intro wz hSw; (try dsimp only at hSw); go_simp; all_goals (try with_reducible rfl)
      (try simp only [List.getElem_toArray]); (try simp only [List.getElem_cons_succ]); (try simp only [List.getElem_cons_zero]); (try simp only [Act.put]); (try simp only [List.setIfInBounds_toArray]); (try simp only [List.set_cons_succ]); (try simp only [List.set_cons_zero])
      refine wpAnyH_take (i := 4) (v := ?_) rfl (by kernel_rfl) (by kernel_rfl) (by kernel_rfl) (fun _ _ _ h => h) (Or.inl ⟨by kernel_rfl, ?_⟩) hHeld ?_
      rotate_left
      · intro wz hSw; (try dsimp only at hSw); go_simp; all_goals (try with_reducible rfl)
      (try simp only [List.getElem_toArray]); (try simp only [List.getElem_cons_succ]); (try simp only [List.getElem_cons_zero]); (try simp only [Act.put]); (try simp only [List.setIfInBounds_toArray]); (try simp only [List.set_cons_succ]); (try simp only [List.set_cons_zero])
      refine wpAnyH_ready (rs := [5]) (by kernel_rfl) (by simp) (AllReadyH.cons rfl (fun Kc hKc => ?_) AllReadyH.nil)
      go_simp
      (go_at_call 37; refine (HLT.out _).mono ?_; rintro e w5 ⟨rfl, hb⟩)
      replace hO := hidP (own_below hO.out hb)
      replace hU := hidP (hU.out.below hb)
      replace hR := hidP (hR.out.below hb)
      replace hN := hidP (And.intro hN.out.1 (And.intro hN.out.2.1 (Nat.lt_of_lt_of_le hN.out.2.2 hb.size)))
      replace hB := hidP (hB.out.trans (hb.mono hB.out.size))
      replace c1 := cell_keep hb c1
      replace c2 := cell_keep hb c2
      replace c3 := cell_keep hb c3
      replace c4 := cell_keep hb c4
      clear hb HLT
      go_wp2_with fail
      refine hKc.out _ _ ?_ (fun hHeld => ?_)
      · (try dsimp only)
        refine ⟨?_, ?_, ?_, ?_⟩ <;> (repeat (with_reducible (first | exact c1 | exact c2 | exact c3 | exact c4 | refine cell_dr ?_)))
      clear hKc Kc
      (try simp only [List.getElem_toArray]); (try simp only [List.getElem_cons_succ]); (try simp only [List.getElem_cons_zero]); (try simp only [Act.put]); (try simp only [List.setIfInBounds_toArray]); (try simp only [List.set_cons_succ]); (try simp only [List.set_cons_zero])
      refine wpAnyH_done (by kernel_rfl) ?_ _
      refine NoPanic.normal ?_
      clear c1 c2 c3 c4
      cases q
      · have HN : Hid (F (k + 1) = Q) := by show _ = _; rw [HS.out]; rfl
        go_wp2
        go_roundw
        case rel => exact ⟨o, k + 1, by omega, by go_num, rfl, by rw [HN.out]; exact hO.out, hR.out, hU.out, hN.out, hB.out⟩
        case measure => simp [intOf]; omega
      · have HN : Hid (F (k + 1) = Q ++ [(k : Int)]) := by show _ = _; rw [HS.out]; rfl
        have hqn := HNK.out
        have hsz := hB.out.size
        have hb := b0P w5 (.cells #[.int .i64 k] 2)
        go_wp2_with (at_builtin; refine wpList_append_own_at _ rfl _ _ 32 rfl w.heap.size 2 i0 (.int .i64 0) 1 8 Try.underlying32 hi hz0 hz1 hz2 rfl (by decide) _ _ _ rfl (own_below hO.out hb) ⟨w5.heap.size, 0, none⟩ 1 1 [.int .i64 k] rfl rfl (cell_oneZ _ _ _) (by intro u hu; simp at hu; subst hu; rfl) (by unfold maxLen; omega) (by omega) (by simp; omega) ?_; intro v' w6 hown' hgrow _ hloc)
        go_roundw
        case rel =>
          have hs6 := hb.size
          have hRl := (hR.out.below hb).lt
          have hul := Nat.lt_of_lt_of_le hN.out.2.2 hs6
          have hwx : (w5.alloc (.cells #[.int .i64 k] 2)).heap.size ≤ w6.heap.size := hgrow.size
          refine ⟨v', k + 1, by omega, by go_num, rfl, ?_, (hR.out.below hb).grownA hgrow hN.out.1, (hU.out.below hb).keep hul hgrow hN.out.2.1, ⟨?_, ?_, by omega⟩, (hB.out.trans (hb.mono hsz)).grown hgrow (by omega) (fun j e => ((own_below hO.out hb).lt j e).1)⟩
          · show World.ownsRow _ _ _ _ _ _ _
            rw [HN.out, List.length_append, List.map_append]
            exact hown'
          · rcases hloc with e | e
            · rw [e]; exact hN.out.1
            · rw [e]; intro e2; injection e2 with e2; omega
          · rcases hloc with e | e
            · rw [e]; exact hN.out.2.1
            · rw [e]; intro e2; injection e2 with e2; omega
        case measure => simp [intOf]; omega
    · obtain rfl : k = L := by omega
      go_wp2
      refine bodyPost_ret (v := o) (by simp [results, Try.results13, go_sem]) rfl ⟨o, rfl, ?_, hB.out⟩
      rw [HA'.out]
      exact hO.out
end Go.Proofs.Ythmdiljcceiedaa
