/- The walk of the model's Agreed. -/
import Derived.Test.YthfdpdnphnjebaaAgrW1
namespace Go.Proofs.Ythfdpdnphnjebaa
open Go.RowKit Go.Proofs.Ythfdpdnphnjebaa.RM

/-- is the k-th claim's low end better than what there is -/
def betB (ls : List Sp) (s : Int × Fr) (k : Nat) : Bool := decide (s.1 < depI ls (sp ls k).1) || (decide (depI ls (sp ls k).1 = s.1) && lessB (sp ls k).1.1 (sp ls k).1.2 s.2.1 s.2.2)
/-- the most, and where it is first, of the first k low ends -/
def bstV (ls : List Sp) : Nat → Int × Fr
  | 0 => (0, (0, 1))
  | k + 1 => if betB ls (bstV ls k) k = true then (depI ls (sp ls k).1, (sp ls k).1) else bstV ls k
/-- is the k-th claim's high end nearer -/
def neaB (ls : List Sp) (low : Fr) (s : Fr × Bool) (k : Nat) : Bool := hasB ls low k && (!s.2 || lessB (sp ls k).2.1 (sp ls k).2.2 s.1.1 s.1.2)
/-- the first high end of those of the first k that have it -/
def hghV (ls : List Sp) (low : Fr) : Nat → Fr × Bool
  | 0 => ((0, 1), false)
  | k + 1 => if neaB ls low (hghV ls low k) k = true then ((sp ls k).2, true) else hghV ls low k
def agrL (ls : List Sp) : Fr := (bstV ls ls.length).2
def agrH (ls : List Sp) : Fr := (hghV ls (agrL ls) ls.length).1
def agrR (ls : List Sp) : Sp := if clmB ls = true then (agrL ls, agrH ls) else ((0, 0), (0, 0))
def agrN (ls : List Sp) : Int := if clmB ls = true then (bstV ls ls.length).1 else -1
theorem ret_r11 {a b c d n a' b' c' d' n' : Int} (h1 : a = a') (h2 : b = b') (h3 : c = c') (h4 : d = d') (h5 : n = n') : Ending.returned (.tuple #[.agg #[.int .i64 a, .int .i64 b, .int .i64 c, .int .i64 d], .int .i64 n]) = .returned (.tuple #[.agg #[.int .i64 a', .int .i64 b', .int .i64 c', .int .i64 d'], .int .i64 n']) := by rw [h1, h2, h3, h4, h5]

set_option maxRecDepth 100000 in
set_option maxHeartbeats 8000000 in
theorem sAgreed_any (v : Value) (ls : List Sp) (w : World) (h : RdS w v ls) :
    Calls Try.prog 8 #[v] w fun e w' => e = .returned (.tuple #[.agg #[.int .i64 (agrR ls).1.1, .int .i64 (agrR ls).1.2, .int .i64 (agrR ls).2.1, .int .i64 (agrR ls).2.2], .int .i64 (agrN ls)]) ∧ Below w.heap.size w w' := by
  have HC := hidA (fun W (hW : Below w.heap.size w W) => sClm_any v ls W (h.below hW))
  have HDp := hidA (fun (x : Fr) W (hW : Below w.heap.size w W) (hl : ls.length ≤ 12) => sDep_any v ls x W (h.below hW) hl)
  obtain ⟨a, c, rfl, h2, h3, h4, h5⟩ := h
  have H5 : Hid (∀ j, j < ls.length → ∃ b off, a = some ⟨b, off, none⟩ ∧ w.cell? ⟨b, off + j * 4, none⟩ = some (.int .i64 (sp ls j).1.1) ∧ w.cell? ⟨b, off + j * 4 + 1, none⟩ = some (.int .i64 (sp ls j).1.2) ∧ w.cell? ⟨b, off + j * 4 + 2, none⟩ = some (.int .i64 (sp ls j).2.1) ∧ w.cell? ⟨b, off + j * 4 + 3, none⟩ = some (.int .i64 (sp ls j).2.2)) := h5
  obtain ⟨q, hq⟩ : ∃ q, q = clmB ls := ⟨_, rfl⟩
  have HQ := hidA hq
  have HR : Hid (agrR ls = if q = true then (agrL ls, agrH ls) else ((0, 0), (0, 0))) := by show _ = _; rw [hq]; rfl
  have HN : Hid (agrN ls = if q = true then (bstV ls ls.length).1 else -1) := by show _ = _; rw [hq]; rfl
  rw [← hq] at HC
  clear hq h5 h4 h3 h2
  obtain ⟨Rb, hRb⟩ : ∃ R, R = w.heap.size := ⟨_, rfl⟩
  obtain ⟨X, hX⟩ : ∃ X, X = w.alloc (.cells #[.int .i64 0, .int .i64 0, .int .i64 0, .int .i64 0] 29) := ⟨_, rfl⟩
  have R0 : Hid (IsB X Rb #[.int .i64 0, .int .i64 0, .int .i64 0, .int .i64 0] 29) := by show IsB _ _ _ _; rw [hX, hRb]; exact IsB.new w _ _
  have hB : Hid (Below w.heap.size w X) := by show Below _ _ _; rw [hX]; exact b0S _ _
  have hwR : w.heap.size ≤ Rb := by omega
  go_enter Try.func8, Try.ntmps8
  go_wp2_with fail
  rw [← hX, ← hRb]
  clear hX hRb
  refine (HC.out _ hB.out).mono ?_
  rintro e w1 ⟨rfl, hb⟩
  replace R0 := hidA (R0.out.below hb)
  replace hB := hidA (hB.out.trans (hb.mono hB.out.size))
  clear hb HC
  cases q
  · obtain ⟨r0, r1, r2, r3⟩ := R0.out.s4
    obtain ⟨s0, s1, s2, s3⟩ := R0.out.sf4
    have HRE : Hid (agrR ls = ((0, 0), (0, 0))) := by show _ = _; rw [HR.out]; rfl
    have HNE : Hid (agrN ls = -1) := by show _ = _; rw [HN.out]; rfl
    go_wp2
    have R2 := R0.out.sAll (.int .i64 0) (.int .i64 0) (.int .i64 0) (.int .i64 0)
    obtain ⟨y0, y1, y2, y3⟩ := R2.s4
    exact bodyPost_ret (v := .tuple #[.agg #[.int .i64 0, .int .i64 0, .int .i64 0, .int .i64 0], .int .i64 (-1)]) (by simp [results, Try.results8, go_sem, y0, y1, y2, y3]) rfl ⟨ret_r11 (by rw [HRE.out]) (by rw [HRE.out]) (by rw [HRE.out]) (by rw [HRE.out]) HNE.out.symm, below_sAll hB.out hwR _ _ _ _⟩
  have hl12 := (clmB_out HQ.out.symm).1.2
  have hl1 := (clmB_out HQ.out.symm).1.1
  have HDP := hidA (fun (x1 x2 : Int) W (hW : Below w.heap.size w W) => HDp.out (x1, x2) W hW hl12)
  dsimp only at HDP
  clear HDp HQ
  obtain ⟨F, hF⟩ : ∃ F, F = bstV ls := ⟨_, rfl⟩
  have HF0 : Hid (F 0 = (0, (0, 1))) := by show _ = _; rw [hF]; rfl
  have HFS : Hid (∀ k, F (k + 1) = if betB ls (F k) k = true then (depI ls (sp ls k).1, (sp ls k).1) else F k) := by intro k; rw [hF]; rfl
  have HFL : Hid (agrL ls = (F ls.length).2) := by show _ = _; rw [hF]; rfl
  have HHI : Hid (agrH ls = (hghV ls (F ls.length).2 ls.length).1) := by show _ = _; rw [hF]; rfl
  rw [← hF] at HN
  clear hF
  obtain ⟨L, hL⟩ : ∃ L, L = ls.length := ⟨_, rfl⟩
  have HL := hidA hL
  rw [← hL] at H5 HFL HHI HN HDP hl12 hl1 ⊢
  clear hL
  go_wp2_with fail
  refine (zero_any _).mono ?_
  rintro e w2 ⟨rfl, hb⟩
  have hb2 := b0S w2 (.cells #[.int .i64 0, .int .i64 1] 27)
  obtain ⟨Lb, hLb⟩ : ∃ Lb, Lb = w2.heap.size := ⟨_, rfl⟩
  obtain ⟨Y, hY⟩ : ∃ Y, Y = w2.alloc (.cells #[.int .i64 0, .int .i64 1] 27) := ⟨_, rfl⟩
  have L0 : Hid (IsR Y Lb (F 0).2.1 (F 0).2.2) := by show IsR _ _ _ _; rw [HF0.out, hY, hLb]; exact IsR.new _ _ _
  rw [← hY] at hb2
  replace R0 := hidA ((R0.out.below hb).below hb2)
  have hRL : Rb < Lb := by have := R0.out.lt; have h1 : Y.heap.size = w2.heap.size + 1 := by rw [hY]; simp
                           by_cases e : Rb = Lb
                           · exfalso
                             have h9 := L0.out
                             rw [HF0.out] at h9
                             have h8 := R0.out
                             rw [e] at h8
                             have := h8.symm.trans h9
                             simp at this
                           · omega
  replace hB := hidA ((hB.out.trans (hb.mono hB.out.size)).trans (hb2.mono (by have := hB.out.size; have := hb.size; omega)))
  have hwL : w.heap.size ≤ Lb := by omega
  clear hb hb2
  go_wp2
  rw [← hY, ← hLb]
  clear hY hLb
  go_loopw [4, 6] (fun s i wr => ∃ k : Nat, k ≤ L ∧ i = .int .i64 k ∧ s = .int .i64 (F k).1 ∧ Hid (Below w.heap.size w wr) ∧ Hid (IsB wr Rb #[.int .i64 0, .int .i64 0, .int .i64 0, .int .i64 0] 29) ∧ Hid (IsR wr Lb (F k).2.1 (F k).2.2)) (fun _ i _ => L - (intOf i).toNat)
  case atStart => exact ⟨0, Nat.zero_le _, rfl, by rw [HF0.out], hB.out, R0.out, L0.out⟩
  case round =>
    clear hB R0 L0
    obtain ⟨k, hk, rfl, rfl, hB, R0, L0⟩ := hrel
    by_cases hlt : k < L
    · obtain ⟨b, off, rfl, c1, c2, _, _⟩ := H5.out k hlt
      replace c1 := cell_keep hB.out c1
      replace c2 := cell_keep hB.out c2
      have HS := hidA (HFS.out k)
      obtain ⟨s, hs⟩ : ∃ z, z = F k := ⟨_, rfl⟩
      rw [← hs] at L0 HS ⊢
      clear hs
      obtain ⟨bst, lw1, lw2⟩ := s
      dsimp only at L0 ⊢
      obtain ⟨l, hl⟩ : ∃ l, l = (sp ls k).1 := ⟨_, rfl⟩
      rw [← hl] at c1 c2 HS
      have HBT : Hid (betB ls (bst, lw1, lw2) k = (decide (bst < depI ls l) || (decide (depI ls l = bst) && lessB l.1 l.2 lw1 lw2))) := by show _ = _; rw [hl]; rfl
      clear hl
      obtain ⟨l1, l2⟩ := l
      dsimp only at c1 c2 HBT
      have HD1 := hidA (fun W (hW : Below w.heap.size w W) => HDP.out l1 l2 W hW)
      obtain ⟨n, hn⟩ : ∃ n, n = depI ls (l1, l2) := ⟨_, rfl⟩
      rw [← hn] at HD1 HS HBT
      clear hn
      have HLS := hidA (fun W => sLess_any l1 l2 lw1 lw2 W)
      obtain ⟨q, hq⟩ : ∃ q, q = lessB l1 l2 lw1 lw2 := ⟨_, rfl⟩
      rw [← hq] at HLS HBT
      clear hq
      go_wp2_with fail
      refine (HD1.out _ hB.out).mono ?_
      rintro e w4 ⟨rfl, hb⟩
      replace R0 := hidA (R0.out.below hb)
      replace L0 := hidA (L0.out.below hb)
      replace c1 := cell_keep hb c1
      replace c2 := cell_keep hb c2
      replace hB := hidA (hB.out.trans (hb.mono hB.out.size))
      clear hb HD1
      have d0 := L0.out.c0
      have d1 := L0.out.c1
      by_cases h1 : bst < n
      · have hd : decide (bst < n) = true := decide_eq_true h1
        have HBB : Hid (betB ls (bst, lw1, lw2) k = true) := by show _ = _; rw [HBT.out, hd]; rfl
        go_upto_region 9 with fail
        refine wp_region_noPanic ?_
        refine wp_region_held_drew (S := (fun w' => w'.cell? ⟨b, off + k * 4, none⟩ = some (.int .i64 l1) ∧ w'.cell? ⟨b, off + k * 4 + 1, none⟩ = some (.int .i64 l2) ∧ w'.cell? ⟨Lb, 0, none⟩ = some (.int .i64 lw1) ∧ w'.cell? ⟨Lb, 1, none⟩ = some (.int .i64 lw2))) (by kernel_rfl) ?_ (fun hHeld => ?_)
        · (try dsimp only)
          refine ⟨?_, ?_, ?_, ?_⟩ <;> (repeat (with_reducible (first | exact c1 | exact c2 | exact d0 | exact d1 | refine cell_dr ?_)))
        have hbd := (Below.refl w4.heap.size w4).drew
        replace R0 := hidA (R0.out.below hbd)
        replace L0 := hidA (L0.out.below hbd)
        replace hB := hidA (hB.out.trans (hbd.mono hB.out.size))
        replace c1 := cell_dr c1
        replace c2 := cell_dr c2
        replace d0 := cell_dr d0
        replace d1 := cell_dr d1
        clear hbd
        obtain ⟨wd, hwd⟩ : ∃ u, u = w4.drew := ⟨_, rfl⟩
        rw [← hwd] at hB R0 L0 c1 c2 d0 d1 hHeld ⊢
        clear hwd
        refine wpAnyH_take (i := 0) (v := ?_) rfl (by kernel_rfl) (by kernel_rfl) (by kernel_rfl) (fun _ _ _ h => h) (Or.inl ⟨by kernel_rfl, ?_⟩) hHeld ?_
        rotate_left
        · intro wz hSw; (try dsimp only at hSw); go_simp; all_goals (try with_reducible rfl)
        (try simp only [List.getElem_toArray]); (try simp only [List.getElem_cons_succ]); (try simp only [List.getElem_cons_zero]); (try simp only [Act.put]); (try simp only [List.setIfInBounds_toArray]); (try simp only [List.set_cons_succ]); (try simp only [List.set_cons_zero])
        refine wpAnyH_take (i := 1) (v := ?_) rfl (by kernel_rfl) (by kernel_rfl) (by kernel_rfl) (fun _ _ _ h => h) (Or.inl ⟨by kernel_rfl, ?_⟩) hHeld ?_
        rotate_left
        · intro wz hSw; (try dsimp only at hSw); go_simp; all_goals (try with_reducible rfl)
        (try simp only [List.getElem_toArray]); (try simp only [List.getElem_cons_succ]); (try simp only [List.getElem_cons_zero]); (try simp only [Act.put]); (try simp only [List.setIfInBounds_toArray]); (try simp only [List.set_cons_succ]); (try simp only [List.set_cons_zero])
        refine wpAnyH_take (i := 2) (v := ?_) rfl (by kernel_rfl) (by kernel_rfl) (by kernel_rfl) (fun _ _ _ h => h) (Or.inl ⟨by kernel_rfl, ?_⟩) hHeld ?_
        rotate_left
        · intro wz hSw; (try dsimp only at hSw); go_simp; all_goals (try with_reducible rfl)
        (try simp only [List.getElem_toArray]); (try simp only [List.getElem_cons_succ]); (try simp only [List.getElem_cons_zero]); (try simp only [Act.put]); (try simp only [List.setIfInBounds_toArray]); (try simp only [List.set_cons_succ]); (try simp only [List.set_cons_zero])
        refine wpAnyH_take (i := 3) (v := ?_) rfl (by kernel_rfl) (by kernel_rfl) (by kernel_rfl) (fun _ _ _ h => h) (Or.inl ⟨by kernel_rfl, ?_⟩) hHeld ?_
        rotate_left
        · intro wz hSw; (try dsimp only at hSw); go_simp; all_goals (try with_reducible rfl)
        (try simp only [List.getElem_toArray]); (try simp only [List.getElem_cons_succ]); (try simp only [List.getElem_cons_zero]); (try simp only [Act.put]); (try simp only [List.setIfInBounds_toArray]); (try simp only [List.set_cons_succ]); (try simp only [List.set_cons_zero])
        refine wpAnyH_take (i := 4) (v := undef) rfl (by kernel_rfl) (by kernel_rfl) (by kernel_rfl) (fun _ _ _ h => h) (Or.inr ⟨by kernel_rfl, rfl⟩) hHeld ?_
        (try simp only [List.getElem_toArray]); (try simp only [List.getElem_cons_succ]); (try simp only [List.getElem_cons_zero]); (try simp only [Act.put]); (try simp only [List.setIfInBounds_toArray]); (try simp only [List.set_cons_succ]); (try simp only [List.set_cons_zero])
        refine wpAnyH_take (i := 5) (v := undef) rfl (by kernel_rfl) (by kernel_rfl) (by kernel_rfl) (fun _ _ _ h => h) (Or.inr ⟨by kernel_rfl, rfl⟩) hHeld ?_
        (try simp only [List.getElem_toArray]); (try simp only [List.getElem_cons_succ]); (try simp only [List.getElem_cons_zero]); (try simp only [Act.put]); (try simp only [List.setIfInBounds_toArray]); (try simp only [List.set_cons_succ]); (try simp only [List.set_cons_zero])
        refine wpAnyH_take (i := 6) (v := undef) rfl (by kernel_rfl) (by kernel_rfl) (by kernel_rfl) (fun _ _ _ h => h) (Or.inr ⟨by kernel_rfl, rfl⟩) hHeld ?_
        (try simp only [List.getElem_toArray]); (try simp only [List.getElem_cons_succ]); (try simp only [List.getElem_cons_zero]); (try simp only [Act.put]); (try simp only [List.setIfInBounds_toArray]); (try simp only [List.set_cons_succ]); (try simp only [List.set_cons_zero])
        refine wpAnyH_take (i := 7) (v := undef) rfl (by kernel_rfl) (by kernel_rfl) (by kernel_rfl) (fun _ _ _ h => h) (Or.inr ⟨by kernel_rfl, rfl⟩) hHeld ?_
        (try simp only [List.getElem_toArray]); (try simp only [List.getElem_cons_succ]); (try simp only [List.getElem_cons_zero]); (try simp only [Act.put]); (try simp only [List.setIfInBounds_toArray]); (try simp only [List.set_cons_succ]); (try simp only [List.set_cons_zero])
        refine wpAnyH_take (i := 8) (v := undef) rfl (by kernel_rfl) (by kernel_rfl) (by kernel_rfl) (fun _ _ _ h => h) (Or.inr ⟨by kernel_rfl, rfl⟩) hHeld ?_
        (try simp only [List.getElem_toArray]); (try simp only [List.getElem_cons_succ]); (try simp only [List.getElem_cons_zero]); (try simp only [Act.put]); (try simp only [List.setIfInBounds_toArray]); (try simp only [List.set_cons_succ]); (try simp only [List.set_cons_zero])
        refine wpAnyH_take (i := 9) (v := undef) rfl (by kernel_rfl) (by kernel_rfl) (by kernel_rfl) (fun _ _ _ h => h) (Or.inr ⟨by kernel_rfl, rfl⟩) hHeld ?_
        (try simp only [List.getElem_toArray]); (try simp only [List.getElem_cons_succ]); (try simp only [List.getElem_cons_zero]); (try simp only [Act.put]); (try simp only [List.setIfInBounds_toArray]); (try simp only [List.set_cons_succ]); (try simp only [List.set_cons_zero])
        refine wpAnyH_take (i := 10) (v := undef) rfl (by kernel_rfl) (by kernel_rfl) (by kernel_rfl) (fun _ _ _ h => h) (Or.inr ⟨by kernel_rfl, rfl⟩) hHeld ?_
        (try simp only [List.getElem_toArray]); (try simp only [List.getElem_cons_succ]); (try simp only [List.getElem_cons_zero]); (try simp only [Act.put]); (try simp only [List.setIfInBounds_toArray]); (try simp only [List.set_cons_succ]); (try simp only [List.set_cons_zero])
        refine wpAnyH_take (i := 11) (v := undef) rfl (by kernel_rfl) (by kernel_rfl) (by kernel_rfl) (fun _ _ _ h => h) (Or.inr ⟨by kernel_rfl, rfl⟩) hHeld ?_
        (try simp only [List.getElem_toArray]); (try simp only [List.getElem_cons_succ]); (try simp only [List.getElem_cons_zero]); (try simp only [Act.put]); (try simp only [List.setIfInBounds_toArray]); (try simp only [List.set_cons_succ]); (try simp only [List.set_cons_zero])
        refine wpAnyH_take (i := 12) (v := undef) rfl (by kernel_rfl) (by kernel_rfl) (by kernel_rfl) (fun _ _ _ h => h) (Or.inr ⟨by kernel_rfl, rfl⟩) hHeld ?_
        (try simp only [List.getElem_toArray]); (try simp only [List.getElem_cons_succ]); (try simp only [List.getElem_cons_zero]); (try simp only [Act.put]); (try simp only [List.setIfInBounds_toArray]); (try simp only [List.set_cons_succ]); (try simp only [List.set_cons_zero])
        refine wpAnyH_take (i := 13) (v := undef) rfl (by kernel_rfl) (by kernel_rfl) (by kernel_rfl) (fun _ _ _ h => h) (Or.inr ⟨by kernel_rfl, rfl⟩) hHeld ?_
        (try simp only [List.getElem_toArray]); (try simp only [List.getElem_cons_succ]); (try simp only [List.getElem_cons_zero]); (try simp only [Act.put]); (try simp only [List.setIfInBounds_toArray]); (try simp only [List.set_cons_succ]); (try simp only [List.set_cons_zero])
        refine wpAnyH_take (i := 14) (v := undef) rfl (by kernel_rfl) (by kernel_rfl) (by kernel_rfl) (fun _ _ _ h => h) (Or.inr ⟨by kernel_rfl, rfl⟩) hHeld ?_
        (try simp only [List.getElem_toArray]); (try simp only [List.getElem_cons_succ]); (try simp only [List.getElem_cons_zero]); (try simp only [Act.put]); (try simp only [List.setIfInBounds_toArray]); (try simp only [List.set_cons_succ]); (try simp only [List.set_cons_zero])
        refine wpAnyH_take (i := 15) (v := undef) rfl (by kernel_rfl) (by kernel_rfl) (by kernel_rfl) (fun _ _ _ h => h) (Or.inr ⟨by kernel_rfl, rfl⟩) hHeld ?_
        (try simp only [List.getElem_toArray]); (try simp only [List.getElem_cons_succ]); (try simp only [List.getElem_cons_zero]); (try simp only [Act.put]); (try simp only [List.setIfInBounds_toArray]); (try simp only [List.set_cons_succ]); (try simp only [List.set_cons_zero])
        refine wpAnyH_take (i := 16) (v := ?_) rfl (by kernel_rfl) (by kernel_rfl) (by kernel_rfl) (fun _ _ _ h => h) (Or.inl ⟨by kernel_rfl, ?_⟩) hHeld ?_
        rotate_left
        · intro wz hSw; (try dsimp only at hSw); go_simp; all_goals (try with_reducible rfl)
        (try simp only [List.getElem_toArray]); (try simp only [List.getElem_cons_succ]); (try simp only [List.getElem_cons_zero]); (try simp only [Act.put]); (try simp only [List.setIfInBounds_toArray]); (try simp only [List.set_cons_succ]); (try simp only [List.set_cons_zero])
        refine wpAnyH_done (by kernel_rfl) ?_ _
        refine NoPanic.normal ?_
        have HN1 : Hid (F (k + 1) = (n, (l1, l2))) := by show _ = _; rw [HS.out, HBB.out]; rfl
        have f0 := L0.out.f0
        have f1 := L0.out.f1
        have e0 := L0.out.c0
        have e1 := L0.out.c1
        go_wp2
        go_roundw
        case rel =>
          refine ⟨k + 1, by omega, by go_num, by rw [HN1.out], (hB.out.setCell (p := ⟨Lb, 0, none⟩) hwL _).setCell (p := ⟨Lb, 1, none⟩) hwL _, (R0.out.other (by omega) _ _).other (by omega) _ _, ?_⟩
          show IsR _ _ _ _
          rw [HN1.out]
          exact (L0.out.set0 _).set1 _
        case measure => simp [intOf]; omega
      · have hd : decide (bst < n) = false := decide_eq_false h1
        by_cases h2 : n = bst
        · subst h2
          have hd2 : (n == n) = true := by simp
          have hd3 : decide (n = n) = true := decide_eq_true rfl
          go_upto_region 9 with fail
          refine wp_region_noPanic ?_
          refine wp_region_held_drew (S := (fun w' => w'.cell? ⟨b, off + k * 4, none⟩ = some (.int .i64 l1) ∧ w'.cell? ⟨b, off + k * 4 + 1, none⟩ = some (.int .i64 l2) ∧ w'.cell? ⟨Lb, 0, none⟩ = some (.int .i64 lw1) ∧ w'.cell? ⟨Lb, 1, none⟩ = some (.int .i64 lw2))) (by kernel_rfl) ?_ (fun hHeld => ?_)
          · (try dsimp only)
            refine ⟨?_, ?_, ?_, ?_⟩ <;> (repeat (with_reducible (first | exact c1 | exact c2 | exact d0 | exact d1 | refine cell_dr ?_)))
          have hbd := (Below.refl w4.heap.size w4).drew
          replace R0 := hidA (R0.out.below hbd)
          replace L0 := hidA (L0.out.below hbd)
          replace hB := hidA (hB.out.trans (hbd.mono hB.out.size))
          replace c1 := cell_dr c1
          replace c2 := cell_dr c2
          replace d0 := cell_dr d0
          replace d1 := cell_dr d1
          clear hbd
          obtain ⟨wd, hwd⟩ : ∃ u, u = w4.drew := ⟨_, rfl⟩
          rw [← hwd] at hB R0 L0 c1 c2 d0 d1 hHeld ⊢
          clear hwd
          refine wpAnyH_take (i := 0) (v := ?_) rfl (by kernel_rfl) (by kernel_rfl) (by kernel_rfl) (fun _ _ _ h => h) (Or.inl ⟨by kernel_rfl, ?_⟩) hHeld ?_
          rotate_left
          · intro wz hSw; (try dsimp only at hSw); go_simp; all_goals (try with_reducible rfl)
          (try simp only [List.getElem_toArray]); (try simp only [List.getElem_cons_succ]); (try simp only [List.getElem_cons_zero]); (try simp only [Act.put]); (try simp only [List.setIfInBounds_toArray]); (try simp only [List.set_cons_succ]); (try simp only [List.set_cons_zero])
          refine wpAnyH_take (i := 1) (v := ?_) rfl (by kernel_rfl) (by kernel_rfl) (by kernel_rfl) (fun _ _ _ h => h) (Or.inl ⟨by kernel_rfl, ?_⟩) hHeld ?_
          rotate_left
          · intro wz hSw; (try dsimp only at hSw); go_simp; all_goals (try with_reducible rfl)
          (try simp only [List.getElem_toArray]); (try simp only [List.getElem_cons_succ]); (try simp only [List.getElem_cons_zero]); (try simp only [Act.put]); (try simp only [List.setIfInBounds_toArray]); (try simp only [List.set_cons_succ]); (try simp only [List.set_cons_zero])
          refine wpAnyH_take (i := 2) (v := ?_) rfl (by kernel_rfl) (by kernel_rfl) (by kernel_rfl) (fun _ _ _ h => h) (Or.inl ⟨by kernel_rfl, ?_⟩) hHeld ?_
          rotate_left
          · intro wz hSw; (try dsimp only at hSw); go_simp; all_goals (try with_reducible rfl)
          (try simp only [List.getElem_toArray]); (try simp only [List.getElem_cons_succ]); (try simp only [List.getElem_cons_zero]); (try simp only [Act.put]); (try simp only [List.setIfInBounds_toArray]); (try simp only [List.set_cons_succ]); (try simp only [List.set_cons_zero])
          refine wpAnyH_take (i := 3) (v := ?_) rfl (by kernel_rfl) (by kernel_rfl) (by kernel_rfl) (fun _ _ _ h => h) (Or.inl ⟨by kernel_rfl, ?_⟩) hHeld ?_
          rotate_left
          · intro wz hSw; (try dsimp only at hSw); go_simp; all_goals (try with_reducible rfl)
          (try simp only [List.getElem_toArray]); (try simp only [List.getElem_cons_succ]); (try simp only [List.getElem_cons_zero]); (try simp only [Act.put]); (try simp only [List.setIfInBounds_toArray]); (try simp only [List.set_cons_succ]); (try simp only [List.set_cons_zero])
          refine wpAnyH_take (i := 4) (v := ?_) rfl (by kernel_rfl) (by kernel_rfl) (by kernel_rfl) (fun _ _ _ h => h) (Or.inl ⟨by kernel_rfl, ?_⟩) hHeld ?_
          rotate_left
          · intro wz hSw; (try dsimp only at hSw); go_simp; all_goals (try with_reducible rfl)
          (try simp only [List.getElem_toArray]); (try simp only [List.getElem_cons_succ]); (try simp only [List.getElem_cons_zero]); (try simp only [Act.put]); (try simp only [List.setIfInBounds_toArray]); (try simp only [List.set_cons_succ]); (try simp only [List.set_cons_zero])
          refine wpAnyH_take (i := 5) (v := ?_) rfl (by kernel_rfl) (by kernel_rfl) (by kernel_rfl) (fun _ _ _ h => h) (Or.inl ⟨by kernel_rfl, ?_⟩) hHeld ?_
          rotate_left
          · intro wz hSw; (try dsimp only at hSw); go_simp; all_goals (try with_reducible rfl)
          (try simp only [List.getElem_toArray]); (try simp only [List.getElem_cons_succ]); (try simp only [List.getElem_cons_zero]); (try simp only [Act.put]); (try simp only [List.setIfInBounds_toArray]); (try simp only [List.set_cons_succ]); (try simp only [List.set_cons_zero])
          refine wpAnyH_take (i := 6) (v := ?_) rfl (by kernel_rfl) (by kernel_rfl) (by kernel_rfl) (fun _ _ _ h => h) (Or.inl ⟨by kernel_rfl, ?_⟩) hHeld ?_
          rotate_left
          · intro wz hSw; (try dsimp only at hSw); go_simp; all_goals (try with_reducible rfl)
          (try simp only [List.getElem_toArray]); (try simp only [List.getElem_cons_succ]); (try simp only [List.getElem_cons_zero]); (try simp only [Act.put]); (try simp only [List.setIfInBounds_toArray]); (try simp only [List.set_cons_succ]); (try simp only [List.set_cons_zero])
          refine wpAnyH_take (i := 7) (v := ?_) rfl (by kernel_rfl) (by kernel_rfl) (by kernel_rfl) (fun _ _ _ h => h) (Or.inl ⟨by kernel_rfl, ?_⟩) hHeld ?_
          rotate_left
          · intro wz hSw; (try dsimp only at hSw); go_simp; all_goals (try with_reducible rfl)
          (try simp only [List.getElem_toArray]); (try simp only [List.getElem_cons_succ]); (try simp only [List.getElem_cons_zero]); (try simp only [Act.put]); (try simp only [List.setIfInBounds_toArray]); (try simp only [List.set_cons_succ]); (try simp only [List.set_cons_zero])
          refine wpAnyH_take (i := 8) (v := ?_) rfl (by kernel_rfl) (by kernel_rfl) (by kernel_rfl) (fun _ _ _ h => h) (Or.inl ⟨by kernel_rfl, ?_⟩) hHeld ?_
          rotate_left
          · intro wz hSw; (try dsimp only at hSw); go_simp; all_goals (try with_reducible rfl)
          (try simp only [List.getElem_toArray]); (try simp only [List.getElem_cons_succ]); (try simp only [List.getElem_cons_zero]); (try simp only [Act.put]); (try simp only [List.setIfInBounds_toArray]); (try simp only [List.set_cons_succ]); (try simp only [List.set_cons_zero])
          refine wpAnyH_take (i := 9) (v := ?_) rfl (by kernel_rfl) (by kernel_rfl) (by kernel_rfl) (fun _ _ _ h => h) (Or.inl ⟨by kernel_rfl, ?_⟩) hHeld ?_
          rotate_left
          · intro wz hSw; (try dsimp only at hSw); go_simp; all_goals (try with_reducible rfl)
          (try simp only [List.getElem_toArray]); (try simp only [List.getElem_cons_succ]); (try simp only [List.getElem_cons_zero]); (try simp only [Act.put]); (try simp only [List.setIfInBounds_toArray]); (try simp only [List.set_cons_succ]); (try simp only [List.set_cons_zero])
          refine wpAnyH_take (i := 10) (v := ?_) rfl (by kernel_rfl) (by kernel_rfl) (by kernel_rfl) (fun _ _ _ h => h) (Or.inl ⟨by kernel_rfl, ?_⟩) hHeld ?_
          rotate_left
          · intro wz hSw; (try dsimp only at hSw); go_simp; all_goals (try with_reducible rfl)
          (try simp only [List.getElem_toArray]); (try simp only [List.getElem_cons_succ]); (try simp only [List.getElem_cons_zero]); (try simp only [Act.put]); (try simp only [List.setIfInBounds_toArray]); (try simp only [List.set_cons_succ]); (try simp only [List.set_cons_zero])
          refine wpAnyH_take (i := 11) (v := ?_) rfl (by kernel_rfl) (by kernel_rfl) (by kernel_rfl) (fun _ _ _ h => h) (Or.inl ⟨by kernel_rfl, ?_⟩) hHeld ?_
          rotate_left
          · intro wz hSw; (try dsimp only at hSw); go_simp; all_goals (try with_reducible rfl)
          (try simp only [List.getElem_toArray]); (try simp only [List.getElem_cons_succ]); (try simp only [List.getElem_cons_zero]); (try simp only [Act.put]); (try simp only [List.setIfInBounds_toArray]); (try simp only [List.set_cons_succ]); (try simp only [List.set_cons_zero])
          refine wpAnyH_take (i := 12) (v := ?_) rfl (by kernel_rfl) (by kernel_rfl) (by kernel_rfl) (fun _ _ _ h => h) (Or.inl ⟨by kernel_rfl, ?_⟩) hHeld ?_
          rotate_left
          · intro wz hSw; (try dsimp only at hSw); go_simp; all_goals (try with_reducible rfl)
          (try simp only [List.getElem_toArray]); (try simp only [List.getElem_cons_succ]); (try simp only [List.getElem_cons_zero]); (try simp only [Act.put]); (try simp only [List.setIfInBounds_toArray]); (try simp only [List.set_cons_succ]); (try simp only [List.set_cons_zero])
          refine wpAnyH_take (i := 13) (v := ?_) rfl (by kernel_rfl) (by kernel_rfl) (by kernel_rfl) (fun _ _ _ h => h) (Or.inl ⟨by kernel_rfl, ?_⟩) hHeld ?_
          rotate_left
          · intro wz hSw; (try dsimp only at hSw); go_simp; all_goals (try with_reducible rfl)
          (try simp only [List.getElem_toArray]); (try simp only [List.getElem_cons_succ]); (try simp only [List.getElem_cons_zero]); (try simp only [Act.put]); (try simp only [List.setIfInBounds_toArray]); (try simp only [List.set_cons_succ]); (try simp only [List.set_cons_zero])
          refine wpAnyH_ready (rs := [14]) (by kernel_rfl) (by simp) (AllReadyH.cons rfl (fun Kc hKc => ?_) AllReadyH.nil)
          go_simp
          (go_at_call 27; refine (HLS.out _).mono ?_; rintro e w5 ⟨rfl, hb⟩)
          have hbd : Below wd.heap.size wd w5 := hb
          replace R0 := hidA (R0.out.below hbd)
          replace L0 := hidA (L0.out.below hbd)
          replace hB := hidA (hB.out.trans (hbd.mono hB.out.size))
          replace c1 := cell_keep hbd c1
          replace c2 := cell_keep hbd c2
          replace d0 := cell_keep hbd d0
          replace d1 := cell_keep hbd d1
          clear hb hbd
          go_wp2_with fail
          refine hKc.out _ _ ?_ (fun hHeld => ?_)
          · (try dsimp only)
            refine ⟨?_, ?_, ?_, ?_⟩ <;> (repeat (with_reducible (first | exact c1 | exact c2 | exact d0 | exact d1 | refine cell_dr ?_)))
          clear hKc Kc
          (try simp only [List.getElem_toArray]); (try simp only [List.getElem_cons_succ]); (try simp only [List.getElem_cons_zero]); (try simp only [Act.put]); (try simp only [List.setIfInBounds_toArray]); (try simp only [List.set_cons_succ]); (try simp only [List.set_cons_zero])
          refine wpAnyH_take (i := 15) (v := ?_) rfl (by kernel_rfl) (by kernel_rfl) (by kernel_rfl) (fun _ _ _ h => h) (Or.inl ⟨by kernel_rfl, ?_⟩) hHeld ?_
          rotate_left
          · intro wz hSw; (try dsimp only at hSw); go_simp; all_goals (try with_reducible rfl)
          (try simp only [List.getElem_toArray]); (try simp only [List.getElem_cons_succ]); (try simp only [List.getElem_cons_zero]); (try simp only [Act.put]); (try simp only [List.setIfInBounds_toArray]); (try simp only [List.set_cons_succ]); (try simp only [List.set_cons_zero])
          refine wpAnyH_take (i := 16) (v := ?_) rfl (by kernel_rfl) (by kernel_rfl) (by kernel_rfl) (fun _ _ _ h => h) (Or.inl ⟨by kernel_rfl, ?_⟩) hHeld ?_
          rotate_left
          · intro wz hSw; (try dsimp only at hSw); go_simp; all_goals (try with_reducible rfl)
          (try simp only [List.getElem_toArray]); (try simp only [List.getElem_cons_succ]); (try simp only [List.getElem_cons_zero]); (try simp only [Act.put]); (try simp only [List.setIfInBounds_toArray]); (try simp only [List.set_cons_succ]); (try simp only [List.set_cons_zero])
          refine wpAnyH_done (by kernel_rfl) ?_ _
          refine NoPanic.normal ?_
          cases q
          · have HBB : Hid (betB ls (n, lw1, lw2) k = false) := by show _ = _; rw [HBT.out, hd, hd3]; rfl
            have HN1 : Hid (F (k + 1) = (n, (lw1, lw2))) := by show _ = _; rw [HS.out, HBB.out]; rfl
            go_wp2
            go_roundw
            case rel =>
              refine ⟨k + 1, by omega, by go_num, by rw [HN1.out], hB.out, R0.out, ?_⟩
              show IsR _ _ _ _
              rw [HN1.out]
              exact L0.out
            case measure => simp [intOf]; omega
          · have HBB : Hid (betB ls (n, lw1, lw2) k = true) := by show _ = _; rw [HBT.out, hd, hd3]; rfl
            have HN1 : Hid (F (k + 1) = (n, (l1, l2))) := by show _ = _; rw [HS.out, HBB.out]; rfl
            have f0 := L0.out.f0
            have f1 := L0.out.f1
            have e0 := L0.out.c0
            have e1 := L0.out.c1
            go_wp2
            go_roundw
            case rel =>
              refine ⟨k + 1, by omega, by go_num, by rw [HN1.out], (hB.out.setCell (p := ⟨Lb, 0, none⟩) hwL _).setCell (p := ⟨Lb, 1, none⟩) hwL _, (R0.out.other (by omega) _ _).other (by omega) _ _, ?_⟩
              show IsR _ _ _ _
              rw [HN1.out]
              exact (L0.out.set0 _).set1 _
            case measure => simp [intOf]; omega
        · have hd2 : (n == bst) = false := by simpa using h2
          have hd3 : decide (n = bst) = false := decide_eq_false h2
          have HBB : Hid (betB ls (bst, lw1, lw2) k = false) := by show _ = _; rw [HBT.out, hd, hd3]; rfl
          go_upto_region 9 with fail
          refine wp_region_noPanic ?_
          refine wp_region_held_drew (S := (fun w' => w'.cell? ⟨b, off + k * 4, none⟩ = some (.int .i64 l1) ∧ w'.cell? ⟨b, off + k * 4 + 1, none⟩ = some (.int .i64 l2) ∧ w'.cell? ⟨Lb, 0, none⟩ = some (.int .i64 lw1) ∧ w'.cell? ⟨Lb, 1, none⟩ = some (.int .i64 lw2))) (by kernel_rfl) ?_ (fun hHeld => ?_)
          · (try dsimp only)
            refine ⟨?_, ?_, ?_, ?_⟩ <;> (repeat (with_reducible (first | exact c1 | exact c2 | exact d0 | exact d1 | refine cell_dr ?_)))
          have hbd := (Below.refl w4.heap.size w4).drew
          replace R0 := hidA (R0.out.below hbd)
          replace L0 := hidA (L0.out.below hbd)
          replace hB := hidA (hB.out.trans (hbd.mono hB.out.size))
          replace c1 := cell_dr c1
          replace c2 := cell_dr c2
          replace d0 := cell_dr d0
          replace d1 := cell_dr d1
          clear hbd
          obtain ⟨wd, hwd⟩ : ∃ u, u = w4.drew := ⟨_, rfl⟩
          rw [← hwd] at hB R0 L0 c1 c2 d0 d1 hHeld ⊢
          clear hwd
          refine wpAnyH_take (i := 0) (v := ?_) rfl (by kernel_rfl) (by kernel_rfl) (by kernel_rfl) (fun _ _ _ h => h) (Or.inl ⟨by kernel_rfl, ?_⟩) hHeld ?_
          rotate_left
          · intro wz hSw; (try dsimp only at hSw); go_simp; all_goals (try with_reducible rfl)
          (try simp only [List.getElem_toArray]); (try simp only [List.getElem_cons_succ]); (try simp only [List.getElem_cons_zero]); (try simp only [Act.put]); (try simp only [List.setIfInBounds_toArray]); (try simp only [List.set_cons_succ]); (try simp only [List.set_cons_zero])
          refine wpAnyH_take (i := 1) (v := ?_) rfl (by kernel_rfl) (by kernel_rfl) (by kernel_rfl) (fun _ _ _ h => h) (Or.inl ⟨by kernel_rfl, ?_⟩) hHeld ?_
          rotate_left
          · intro wz hSw; (try dsimp only at hSw); go_simp; all_goals (try with_reducible rfl)
          (try simp only [List.getElem_toArray]); (try simp only [List.getElem_cons_succ]); (try simp only [List.getElem_cons_zero]); (try simp only [Act.put]); (try simp only [List.setIfInBounds_toArray]); (try simp only [List.set_cons_succ]); (try simp only [List.set_cons_zero])
          refine wpAnyH_take (i := 2) (v := ?_) rfl (by kernel_rfl) (by kernel_rfl) (by kernel_rfl) (fun _ _ _ h => h) (Or.inl ⟨by kernel_rfl, ?_⟩) hHeld ?_
          rotate_left
          · intro wz hSw; (try dsimp only at hSw); go_simp; all_goals (try with_reducible rfl)
          (try simp only [List.getElem_toArray]); (try simp only [List.getElem_cons_succ]); (try simp only [List.getElem_cons_zero]); (try simp only [Act.put]); (try simp only [List.setIfInBounds_toArray]); (try simp only [List.set_cons_succ]); (try simp only [List.set_cons_zero])
          refine wpAnyH_take (i := 3) (v := ?_) rfl (by kernel_rfl) (by kernel_rfl) (by kernel_rfl) (fun _ _ _ h => h) (Or.inl ⟨by kernel_rfl, ?_⟩) hHeld ?_
          rotate_left
          · intro wz hSw; (try dsimp only at hSw); go_simp; all_goals (try with_reducible rfl)
          (try simp only [List.getElem_toArray]); (try simp only [List.getElem_cons_succ]); (try simp only [List.getElem_cons_zero]); (try simp only [Act.put]); (try simp only [List.setIfInBounds_toArray]); (try simp only [List.set_cons_succ]); (try simp only [List.set_cons_zero])
          refine wpAnyH_take (i := 4) (v := ?_) rfl (by kernel_rfl) (by kernel_rfl) (by kernel_rfl) (fun _ _ _ h => h) (Or.inl ⟨by kernel_rfl, ?_⟩) hHeld ?_
          rotate_left
          · intro wz hSw; (try dsimp only at hSw); go_simp; all_goals (try with_reducible rfl)
          (try simp only [List.getElem_toArray]); (try simp only [List.getElem_cons_succ]); (try simp only [List.getElem_cons_zero]); (try simp only [Act.put]); (try simp only [List.setIfInBounds_toArray]); (try simp only [List.set_cons_succ]); (try simp only [List.set_cons_zero])
          refine wpAnyH_take (i := 5) (v := ?_) rfl (by kernel_rfl) (by kernel_rfl) (by kernel_rfl) (fun _ _ _ h => h) (Or.inl ⟨by kernel_rfl, ?_⟩) hHeld ?_
          rotate_left
          · intro wz hSw; (try dsimp only at hSw); go_simp; all_goals (try with_reducible rfl)
          (try simp only [List.getElem_toArray]); (try simp only [List.getElem_cons_succ]); (try simp only [List.getElem_cons_zero]); (try simp only [Act.put]); (try simp only [List.setIfInBounds_toArray]); (try simp only [List.set_cons_succ]); (try simp only [List.set_cons_zero])
          refine wpAnyH_take (i := 6) (v := ?_) rfl (by kernel_rfl) (by kernel_rfl) (by kernel_rfl) (fun _ _ _ h => h) (Or.inl ⟨by kernel_rfl, ?_⟩) hHeld ?_
          rotate_left
          · intro wz hSw; (try dsimp only at hSw); go_simp; all_goals (try with_reducible rfl)
          (try simp only [List.getElem_toArray]); (try simp only [List.getElem_cons_succ]); (try simp only [List.getElem_cons_zero]); (try simp only [Act.put]); (try simp only [List.setIfInBounds_toArray]); (try simp only [List.set_cons_succ]); (try simp only [List.set_cons_zero])
          refine wpAnyH_take (i := 7) (v := ?_) rfl (by kernel_rfl) (by kernel_rfl) (by kernel_rfl) (fun _ _ _ h => h) (Or.inl ⟨by kernel_rfl, ?_⟩) hHeld ?_
          rotate_left
          · intro wz hSw; (try dsimp only at hSw); go_simp; all_goals (try with_reducible rfl)
          (try simp only [List.getElem_toArray]); (try simp only [List.getElem_cons_succ]); (try simp only [List.getElem_cons_zero]); (try simp only [Act.put]); (try simp only [List.setIfInBounds_toArray]); (try simp only [List.set_cons_succ]); (try simp only [List.set_cons_zero])
          refine wpAnyH_take (i := 8) (v := undef) rfl (by kernel_rfl) (by kernel_rfl) (by kernel_rfl) (fun _ _ _ h => h) (Or.inr ⟨by kernel_rfl, rfl⟩) hHeld ?_
          (try simp only [List.getElem_toArray]); (try simp only [List.getElem_cons_succ]); (try simp only [List.getElem_cons_zero]); (try simp only [Act.put]); (try simp only [List.setIfInBounds_toArray]); (try simp only [List.set_cons_succ]); (try simp only [List.set_cons_zero])
          refine wpAnyH_take (i := 9) (v := undef) rfl (by kernel_rfl) (by kernel_rfl) (by kernel_rfl) (fun _ _ _ h => h) (Or.inr ⟨by kernel_rfl, rfl⟩) hHeld ?_
          (try simp only [List.getElem_toArray]); (try simp only [List.getElem_cons_succ]); (try simp only [List.getElem_cons_zero]); (try simp only [Act.put]); (try simp only [List.setIfInBounds_toArray]); (try simp only [List.set_cons_succ]); (try simp only [List.set_cons_zero])
          refine wpAnyH_take (i := 10) (v := undef) rfl (by kernel_rfl) (by kernel_rfl) (by kernel_rfl) (fun _ _ _ h => h) (Or.inr ⟨by kernel_rfl, rfl⟩) hHeld ?_
          (try simp only [List.getElem_toArray]); (try simp only [List.getElem_cons_succ]); (try simp only [List.getElem_cons_zero]); (try simp only [Act.put]); (try simp only [List.setIfInBounds_toArray]); (try simp only [List.set_cons_succ]); (try simp only [List.set_cons_zero])
          refine wpAnyH_take (i := 11) (v := undef) rfl (by kernel_rfl) (by kernel_rfl) (by kernel_rfl) (fun _ _ _ h => h) (Or.inr ⟨by kernel_rfl, rfl⟩) hHeld ?_
          (try simp only [List.getElem_toArray]); (try simp only [List.getElem_cons_succ]); (try simp only [List.getElem_cons_zero]); (try simp only [Act.put]); (try simp only [List.setIfInBounds_toArray]); (try simp only [List.set_cons_succ]); (try simp only [List.set_cons_zero])
          refine wpAnyH_take (i := 12) (v := undef) rfl (by kernel_rfl) (by kernel_rfl) (by kernel_rfl) (fun _ _ _ h => h) (Or.inr ⟨by kernel_rfl, rfl⟩) hHeld ?_
          (try simp only [List.getElem_toArray]); (try simp only [List.getElem_cons_succ]); (try simp only [List.getElem_cons_zero]); (try simp only [Act.put]); (try simp only [List.setIfInBounds_toArray]); (try simp only [List.set_cons_succ]); (try simp only [List.set_cons_zero])
          refine wpAnyH_take (i := 13) (v := undef) rfl (by kernel_rfl) (by kernel_rfl) (by kernel_rfl) (fun _ _ _ h => h) (Or.inr ⟨by kernel_rfl, rfl⟩) hHeld ?_
          (try simp only [List.getElem_toArray]); (try simp only [List.getElem_cons_succ]); (try simp only [List.getElem_cons_zero]); (try simp only [Act.put]); (try simp only [List.setIfInBounds_toArray]); (try simp only [List.set_cons_succ]); (try simp only [List.set_cons_zero])
          refine wpAnyH_take (i := 14) (v := undef) rfl (by kernel_rfl) (by kernel_rfl) (by kernel_rfl) (fun _ _ _ h => h) (Or.inr ⟨by kernel_rfl, rfl⟩) hHeld ?_
          (try simp only [List.getElem_toArray]); (try simp only [List.getElem_cons_succ]); (try simp only [List.getElem_cons_zero]); (try simp only [Act.put]); (try simp only [List.setIfInBounds_toArray]); (try simp only [List.set_cons_succ]); (try simp only [List.set_cons_zero])
          refine wpAnyH_take (i := 15) (v := ?_) rfl (by kernel_rfl) (by kernel_rfl) (by kernel_rfl) (fun _ _ _ h => h) (Or.inl ⟨by kernel_rfl, ?_⟩) hHeld ?_
          rotate_left
          · intro wz hSw; (try dsimp only at hSw); go_simp; all_goals (try with_reducible rfl)
          (try simp only [List.getElem_toArray]); (try simp only [List.getElem_cons_succ]); (try simp only [List.getElem_cons_zero]); (try simp only [Act.put]); (try simp only [List.setIfInBounds_toArray]); (try simp only [List.set_cons_succ]); (try simp only [List.set_cons_zero])
          refine wpAnyH_take (i := 16) (v := ?_) rfl (by kernel_rfl) (by kernel_rfl) (by kernel_rfl) (fun _ _ _ h => h) (Or.inl ⟨by kernel_rfl, ?_⟩) hHeld ?_
          rotate_left
          · intro wz hSw; (try dsimp only at hSw); go_simp; all_goals (try with_reducible rfl)
          (try simp only [List.getElem_toArray]); (try simp only [List.getElem_cons_succ]); (try simp only [List.getElem_cons_zero]); (try simp only [Act.put]); (try simp only [List.setIfInBounds_toArray]); (try simp only [List.set_cons_succ]); (try simp only [List.set_cons_zero])
          refine wpAnyH_done (by kernel_rfl) ?_ _
          refine NoPanic.normal ?_
          have HN1 : Hid (F (k + 1) = (bst, (lw1, lw2))) := by show _ = _; rw [HS.out, HBB.out]; rfl
          go_wp2
          go_roundw
          case rel =>
            refine ⟨k + 1, by omega, by go_num, by rw [HN1.out], hB.out, R0.out, ?_⟩
            show IsR _ _ _ _
            rw [HN1.out]
            exact L0.out
          case measure => simp [intOf]; omega
    · obtain rfl : k = L := by omega
      obtain ⟨s, hs⟩ : ∃ z, z = F k := ⟨_, rfl⟩
      rw [← hs] at L0 HFL HHI HN ⊢
      clear hs HF0 HFS HDP
      obtain ⟨bst, lw1, lw2⟩ := s
      dsimp only at L0 HFL HHI HN ⊢
      have HRE : Hid (agrR ls = ((lw1, lw2), agrH ls)) := by show _ = _; rw [HR.out, HFL.out]; rfl
      have HNE : Hid (agrN ls = bst) := by show _ = _; rw [HN.out]; rfl
      obtain ⟨H, hH⟩ : ∃ H, H = hghV ls (lw1, lw2) := ⟨_, rfl⟩
      have HH0 : Hid (H 0 = ((0, 1), false)) := by show _ = _; rw [hH]; rfl
      have HHS : Hid (∀ j, H (j + 1) = if neaB ls (lw1, lw2) (H j) j = true then ((sp ls j).2, true) else H j) := by intro j; rw [hH]; rfl
      rw [← hH] at HHI
      clear hH HR HN HFL
      go_wp2_with fail
      refine (zero_any _).mono ?_
      rintro e w6 ⟨rfl, hb⟩
      have hs6 := hb.size
      have hb2 := b0S w6 (.cells #[.int .i64 0, .int .i64 1] 27)
      obtain ⟨Hb, hHb⟩ : ∃ Hb, Hb = w6.heap.size := ⟨_, rfl⟩
      obtain ⟨Z, hZ⟩ : ∃ Z, Z = w6.alloc (.cells #[.int .i64 0, .int .i64 1] 27) := ⟨_, rfl⟩
      have G0 : Hid (IsR Z Hb (H 0).1.1 (H 0).1.2) := by show IsR _ _ _ _; rw [HH0.out, hZ, hHb]; exact IsR.new _ _ _
      have hLH : Lb < Hb := by have := L0.out.lt; omega
      rw [← hZ] at hb2
      replace R0 := hidA ((R0.out.below hb).below hb2)
      replace L0 := hidA ((L0.out.below hb).below hb2)
      replace hB := hidA ((hB.out.trans (hb.mono hB.out.size)).trans (hb2.mono (by have := hB.out.size; omega)))
      have hwH : w.heap.size ≤ Hb := by omega
      clear hb hb2 hs6
      go_wp2
      rw [← hZ, ← hHb]
      clear hZ hHb
      go_loopw [9, 10] (fun f i wr => ∃ j : Nat, j ≤ k ∧ i = .int .i64 j ∧ f = .bool (H j).2 ∧ Hid (Below w.heap.size w wr) ∧ Hid (IsB wr Rb #[.int .i64 0, .int .i64 0, .int .i64 0, .int .i64 0] 29) ∧ Hid (IsR wr Lb lw1 lw2) ∧ Hid (IsR wr Hb (H j).1.1 (H j).1.2)) (fun _ i _ => k - (intOf i).toNat)
      case atStart => exact ⟨0, Nat.zero_le _, rfl, by rw [HH0.out], hB.out, R0.out, L0.out, G0.out⟩
      case round =>
        clear hB R0 L0 G0
        obtain ⟨j, hj, rfl, rfl, hB, R0, L0, G0⟩ := hrel
        by_cases hltj : j < k
        · obtain ⟨b, off, rfl, c1, c2, c3, c4⟩ := H5.out j hltj
          replace c1 := cell_keep hB.out c1
          replace c2 := cell_keep hB.out c2
          replace c3 := cell_keep hB.out c3
          replace c4 := cell_keep hB.out c4
          have HS := hidA (HHS.out j)
          obtain ⟨s, hs⟩ : ∃ z, z = H j := ⟨_, rfl⟩
          rw [← hs] at G0 HS ⊢
          clear hs
          obtain ⟨⟨hg1, hg2⟩, fo⟩ := s
          dsimp only at G0 ⊢
          obtain ⟨l, hl⟩ : ∃ l, l = sp ls j := ⟨_, rfl⟩
          rw [← hl] at c1 c2 c3 c4 HS
          have HNB : Hid (neaB ls (lw1, lw2) ((hg1, hg2), fo) j = (within7 l.1 l.2 (lw1, lw2) && (!fo || lessB l.2.1 l.2.2 hg1 hg2))) := by show _ = _; rw [hl]; rfl
          clear hl
          obtain ⟨⟨l1, l2⟩, m1, m2⟩ := l
          dsimp only at c1 c2 c3 c4 HNB HS
          have HWI := hidA (fun W => sWithin_any l1 l2 m1 m2 lw1 lw2 W)
          obtain ⟨q, hq⟩ : ∃ q, q = within7 (l1, l2) (m1, m2) (lw1, lw2) := ⟨_, rfl⟩
          rw [← hq] at HWI HNB
          clear hq
          have HLS := hidA (fun W => sLess_any m1 m2 hg1 hg2 W)
          obtain ⟨q2, hq⟩ : ∃ q, q = lessB m1 m2 hg1 hg2 := ⟨_, rfl⟩
          rw [← hq] at HLS HNB
          clear hq
          have d0 := L0.out.c0
          have d1 := L0.out.c1
          have d2 := G0.out.c0
          have d3 := G0.out.c1
          go_upto_region 17 with fail
          refine wp_region_noPanic ?_
          refine wp_region_held_drew (S := (fun w' => w'.cell? ⟨b, off + j * 4, none⟩ = some (.int .i64 l1) ∧ w'.cell? ⟨b, off + j * 4 + 1, none⟩ = some (.int .i64 l2) ∧ w'.cell? ⟨b, off + j * 4 + 2, none⟩ = some (.int .i64 m1) ∧ w'.cell? ⟨b, off + j * 4 + 3, none⟩ = some (.int .i64 m2) ∧ w'.cell? ⟨Lb, 0, none⟩ = some (.int .i64 lw1) ∧ w'.cell? ⟨Lb, 1, none⟩ = some (.int .i64 lw2) ∧ w'.cell? ⟨Hb, 0, none⟩ = some (.int .i64 hg1) ∧ w'.cell? ⟨Hb, 1, none⟩ = some (.int .i64 hg2))) (by kernel_rfl) ?_ (fun hHeld => ?_)
          · (try dsimp only)
            refine ⟨?_, ?_, ?_, ?_, ?_, ?_, ?_, ?_⟩ <;> (repeat (with_reducible (first | exact c1 | exact c2 | exact c3 | exact c4 | exact d0 | exact d1 | exact d2 | exact d3 | refine cell_dr ?_)))
          have hbd := (Below.refl wr.heap.size wr).drew
          replace R0 := hidA (R0.out.below hbd)
          replace L0 := hidA (L0.out.below hbd)
          replace G0 := hidA (G0.out.below hbd)
          replace hB := hidA (hB.out.trans (hbd.mono hB.out.size))
          replace c1 := cell_dr c1
          replace c2 := cell_dr c2
          replace c3 := cell_dr c3
          replace c4 := cell_dr c4
          replace d0 := cell_dr d0
          replace d1 := cell_dr d1
          replace d2 := cell_dr d2
          replace d3 := cell_dr d3
          clear hbd
          obtain ⟨wd, hwd⟩ : ∃ u, u = wr.drew := ⟨_, rfl⟩
          rw [← hwd] at hB R0 L0 G0 c1 c2 c3 c4 d0 d1 d2 d3 hHeld ⊢
          clear hwd
          refine wpAnyH_take (i := 0) (v := ?_) rfl (by kernel_rfl) (by kernel_rfl) (by kernel_rfl) (fun _ _ _ h => h) (Or.inl ⟨by kernel_rfl, ?_⟩) hHeld ?_
          rotate_left
          · intro wz hSw; (try dsimp only at hSw); go_simp; all_goals (try with_reducible rfl)
          (try simp only [List.getElem_toArray]); (try simp only [List.getElem_cons_succ]); (try simp only [List.getElem_cons_zero]); (try simp only [Act.put]); (try simp only [List.setIfInBounds_toArray]); (try simp only [List.set_cons_succ]); (try simp only [List.set_cons_zero])
          refine wpAnyH_take (i := 1) (v := ?_) rfl (by kernel_rfl) (by kernel_rfl) (by kernel_rfl) (fun _ _ _ h => h) (Or.inl ⟨by kernel_rfl, ?_⟩) hHeld ?_
          rotate_left
          · intro wz hSw; (try dsimp only at hSw); go_simp; all_goals (try with_reducible rfl)
          (try simp only [List.getElem_toArray]); (try simp only [List.getElem_cons_succ]); (try simp only [List.getElem_cons_zero]); (try simp only [Act.put]); (try simp only [List.setIfInBounds_toArray]); (try simp only [List.set_cons_succ]); (try simp only [List.set_cons_zero])
          refine wpAnyH_take (i := 2) (v := ?_) rfl (by kernel_rfl) (by kernel_rfl) (by kernel_rfl) (fun _ _ _ h => h) (Or.inl ⟨by kernel_rfl, ?_⟩) hHeld ?_
          rotate_left
          · intro wz hSw; (try dsimp only at hSw); go_simp; all_goals (try with_reducible rfl)
          (try simp only [List.getElem_toArray]); (try simp only [List.getElem_cons_succ]); (try simp only [List.getElem_cons_zero]); (try simp only [Act.put]); (try simp only [List.setIfInBounds_toArray]); (try simp only [List.set_cons_succ]); (try simp only [List.set_cons_zero])
          refine wpAnyH_take (i := 3) (v := ?_) rfl (by kernel_rfl) (by kernel_rfl) (by kernel_rfl) (fun _ _ _ h => h) (Or.inl ⟨by kernel_rfl, ?_⟩) hHeld ?_
          rotate_left
          · intro wz hSw; (try dsimp only at hSw); go_simp; all_goals (try with_reducible rfl)
          (try simp only [List.getElem_toArray]); (try simp only [List.getElem_cons_succ]); (try simp only [List.getElem_cons_zero]); (try simp only [Act.put]); (try simp only [List.setIfInBounds_toArray]); (try simp only [List.set_cons_succ]); (try simp only [List.set_cons_zero])
          refine wpAnyH_take (i := 4) (v := ?_) rfl (by kernel_rfl) (by kernel_rfl) (by kernel_rfl) (fun _ _ _ h => h) (Or.inl ⟨by kernel_rfl, ?_⟩) hHeld ?_
          rotate_left
          · intro wz hSw; (try dsimp only at hSw); go_simp; all_goals (try with_reducible rfl)
          (try simp only [List.getElem_toArray]); (try simp only [List.getElem_cons_succ]); (try simp only [List.getElem_cons_zero]); (try simp only [Act.put]); (try simp only [List.setIfInBounds_toArray]); (try simp only [List.set_cons_succ]); (try simp only [List.set_cons_zero])
          refine wpAnyH_ready (rs := [5]) (by kernel_rfl) (by simp) (AllReadyH.cons rfl (fun Kc hKc => ?_) AllReadyH.nil)
          go_simp
          (go_at_call 28; refine (HWI.out _).mono ?_; rintro e w7 ⟨rfl, hb⟩)
          have hbd : Below wd.heap.size wd w7 := hb
          replace R0 := hidA (R0.out.below hbd)
          replace L0 := hidA (L0.out.below hbd)
          replace G0 := hidA (G0.out.below hbd)
          replace hB := hidA (hB.out.trans (hbd.mono hB.out.size))
          replace c1 := cell_keep hbd c1
          replace c2 := cell_keep hbd c2
          replace c3 := cell_keep hbd c3
          replace c4 := cell_keep hbd c4
          replace d0 := cell_keep hbd d0
          replace d1 := cell_keep hbd d1
          replace d2 := cell_keep hbd d2
          replace d3 := cell_keep hbd d3
          clear hb hbd
          go_wp2_with fail
          refine hKc.out _ _ ?_ (fun hHeld => ?_)
          · (try dsimp only)
            refine ⟨?_, ?_, ?_, ?_, ?_, ?_, ?_, ?_⟩ <;> (repeat (with_reducible (first | exact c1 | exact c2 | exact c3 | exact c4 | exact d0 | exact d1 | exact d2 | exact d3 | refine cell_dr ?_)))
          clear hKc Kc
          (try simp only [List.getElem_toArray]); (try simp only [List.getElem_cons_succ]); (try simp only [List.getElem_cons_zero]); (try simp only [Act.put]); (try simp only [List.setIfInBounds_toArray]); (try simp only [List.set_cons_succ]); (try simp only [List.set_cons_zero])
          refine wpAnyH_take (i := 6) (v := ?_) rfl (by kernel_rfl) (by kernel_rfl) (by kernel_rfl) (fun _ _ _ h => h) (Or.inl ⟨by kernel_rfl, ?_⟩) hHeld ?_
          rotate_left
          · intro wz hSw; (try dsimp only at hSw); go_simp; all_goals (try with_reducible rfl)
          (try simp only [List.getElem_toArray]); (try simp only [List.getElem_cons_succ]); (try simp only [List.getElem_cons_zero]); (try simp only [Act.put]); (try simp only [List.setIfInBounds_toArray]); (try simp only [List.set_cons_succ]); (try simp only [List.set_cons_zero])
          cases q
          · have HNE2 : Hid (neaB ls (lw1, lw2) ((hg1, hg2), fo) j = false) := by show _ = _; rw [HNB.out]; rfl
            refine wpAnyH_take (i := 7) (v := undef) rfl (by kernel_rfl) (by kernel_rfl) (by kernel_rfl) (fun _ _ _ h => h) (Or.inr ⟨by kernel_rfl, rfl⟩) hHeld ?_
            (try simp only [List.getElem_toArray]); (try simp only [List.getElem_cons_succ]); (try simp only [List.getElem_cons_zero]); (try simp only [Act.put]); (try simp only [List.setIfInBounds_toArray]); (try simp only [List.set_cons_succ]); (try simp only [List.set_cons_zero])
            refine wpAnyH_take (i := 8) (v := undef) rfl (by kernel_rfl) (by kernel_rfl) (by kernel_rfl) (fun _ _ _ h => h) (Or.inr ⟨by kernel_rfl, rfl⟩) hHeld ?_
            (try simp only [List.getElem_toArray]); (try simp only [List.getElem_cons_succ]); (try simp only [List.getElem_cons_zero]); (try simp only [Act.put]); (try simp only [List.setIfInBounds_toArray]); (try simp only [List.set_cons_succ]); (try simp only [List.set_cons_zero])
            refine wpAnyH_take (i := 9) (v := undef) rfl (by kernel_rfl) (by kernel_rfl) (by kernel_rfl) (fun _ _ _ h => h) (Or.inr ⟨by kernel_rfl, rfl⟩) hHeld ?_
            (try simp only [List.getElem_toArray]); (try simp only [List.getElem_cons_succ]); (try simp only [List.getElem_cons_zero]); (try simp only [Act.put]); (try simp only [List.setIfInBounds_toArray]); (try simp only [List.set_cons_succ]); (try simp only [List.set_cons_zero])
            refine wpAnyH_take (i := 10) (v := undef) rfl (by kernel_rfl) (by kernel_rfl) (by kernel_rfl) (fun _ _ _ h => h) (Or.inr ⟨by kernel_rfl, rfl⟩) hHeld ?_
            (try simp only [List.getElem_toArray]); (try simp only [List.getElem_cons_succ]); (try simp only [List.getElem_cons_zero]); (try simp only [Act.put]); (try simp only [List.setIfInBounds_toArray]); (try simp only [List.set_cons_succ]); (try simp only [List.set_cons_zero])
            refine wpAnyH_take (i := 11) (v := undef) rfl (by kernel_rfl) (by kernel_rfl) (by kernel_rfl) (fun _ _ _ h => h) (Or.inr ⟨by kernel_rfl, rfl⟩) hHeld ?_
            (try simp only [List.getElem_toArray]); (try simp only [List.getElem_cons_succ]); (try simp only [List.getElem_cons_zero]); (try simp only [Act.put]); (try simp only [List.setIfInBounds_toArray]); (try simp only [List.set_cons_succ]); (try simp only [List.set_cons_zero])
            refine wpAnyH_take (i := 12) (v := undef) rfl (by kernel_rfl) (by kernel_rfl) (by kernel_rfl) (fun _ _ _ h => h) (Or.inr ⟨by kernel_rfl, rfl⟩) hHeld ?_
            (try simp only [List.getElem_toArray]); (try simp only [List.getElem_cons_succ]); (try simp only [List.getElem_cons_zero]); (try simp only [Act.put]); (try simp only [List.setIfInBounds_toArray]); (try simp only [List.set_cons_succ]); (try simp only [List.set_cons_zero])
            refine wpAnyH_take (i := 13) (v := undef) rfl (by kernel_rfl) (by kernel_rfl) (by kernel_rfl) (fun _ _ _ h => h) (Or.inr ⟨by kernel_rfl, rfl⟩) hHeld ?_
            (try simp only [List.getElem_toArray]); (try simp only [List.getElem_cons_succ]); (try simp only [List.getElem_cons_zero]); (try simp only [Act.put]); (try simp only [List.setIfInBounds_toArray]); (try simp only [List.set_cons_succ]); (try simp only [List.set_cons_zero])
            refine wpAnyH_take (i := 14) (v := undef) rfl (by kernel_rfl) (by kernel_rfl) (by kernel_rfl) (fun _ _ _ h => h) (Or.inr ⟨by kernel_rfl, rfl⟩) hHeld ?_
            (try simp only [List.getElem_toArray]); (try simp only [List.getElem_cons_succ]); (try simp only [List.getElem_cons_zero]); (try simp only [Act.put]); (try simp only [List.setIfInBounds_toArray]); (try simp only [List.set_cons_succ]); (try simp only [List.set_cons_zero])
            refine wpAnyH_take (i := 15) (v := undef) rfl (by kernel_rfl) (by kernel_rfl) (by kernel_rfl) (fun _ _ _ h => h) (Or.inr ⟨by kernel_rfl, rfl⟩) hHeld ?_
            (try simp only [List.getElem_toArray]); (try simp only [List.getElem_cons_succ]); (try simp only [List.getElem_cons_zero]); (try simp only [Act.put]); (try simp only [List.setIfInBounds_toArray]); (try simp only [List.set_cons_succ]); (try simp only [List.set_cons_zero])
            refine wpAnyH_take (i := 16) (v := undef) rfl (by kernel_rfl) (by kernel_rfl) (by kernel_rfl) (fun _ _ _ h => h) (Or.inr ⟨by kernel_rfl, rfl⟩) hHeld ?_
            (try simp only [List.getElem_toArray]); (try simp only [List.getElem_cons_succ]); (try simp only [List.getElem_cons_zero]); (try simp only [Act.put]); (try simp only [List.setIfInBounds_toArray]); (try simp only [List.set_cons_succ]); (try simp only [List.set_cons_zero])
            refine wpAnyH_take (i := 17) (v := undef) rfl (by kernel_rfl) (by kernel_rfl) (by kernel_rfl) (fun _ _ _ h => h) (Or.inr ⟨by kernel_rfl, rfl⟩) hHeld ?_
            (try simp only [List.getElem_toArray]); (try simp only [List.getElem_cons_succ]); (try simp only [List.getElem_cons_zero]); (try simp only [Act.put]); (try simp only [List.setIfInBounds_toArray]); (try simp only [List.set_cons_succ]); (try simp only [List.set_cons_zero])
            refine wpAnyH_take (i := 18) (v := ?_) rfl (by kernel_rfl) (by kernel_rfl) (by kernel_rfl) (fun _ _ _ h => h) (Or.inl ⟨by kernel_rfl, ?_⟩) hHeld ?_
            rotate_left
            · intro wz hSw; (try dsimp only at hSw); go_simp; all_goals (try with_reducible rfl)
            (try simp only [List.getElem_toArray]); (try simp only [List.getElem_cons_succ]); (try simp only [List.getElem_cons_zero]); (try simp only [Act.put]); (try simp only [List.setIfInBounds_toArray]); (try simp only [List.set_cons_succ]); (try simp only [List.set_cons_zero])
            refine wpAnyH_done (by kernel_rfl) ?_ _
            refine NoPanic.normal ?_
            have HN1 : Hid (H (j + 1) = ((hg1, hg2), fo)) := by show _ = _; rw [HS.out, HNE2.out]; rfl
            go_wp2
            go_roundw
            case rel =>
              refine ⟨j + 1, by omega, by go_num, by rw [HN1.out], hB.out, R0.out, L0.out, ?_⟩
              show IsR _ _ _ _
              rw [HN1.out]
              exact G0.out
            case measure => simp [intOf]; omega
          cases fo
          · have HNE2 : Hid (neaB ls (lw1, lw2) ((hg1, hg2), false) j = true) := by show _ = _; rw [HNB.out]; rfl
            refine wpAnyH_take (i := 7) (v := ?_) rfl (by kernel_rfl) (by kernel_rfl) (by kernel_rfl) (fun _ _ _ h => h) (Or.inl ⟨by kernel_rfl, ?_⟩) hHeld ?_
            rotate_left
            · intro wz hSw; (try dsimp only at hSw); go_simp; all_goals (try with_reducible rfl)
            (try simp only [List.getElem_toArray]); (try simp only [List.getElem_cons_succ]); (try simp only [List.getElem_cons_zero]); (try simp only [Act.put]); (try simp only [List.setIfInBounds_toArray]); (try simp only [List.set_cons_succ]); (try simp only [List.set_cons_zero])
            refine wpAnyH_take (i := 8) (v := ?_) rfl (by kernel_rfl) (by kernel_rfl) (by kernel_rfl) (fun _ _ _ h => h) (Or.inl ⟨by kernel_rfl, ?_⟩) hHeld ?_
            rotate_left
            · intro wz hSw; (try dsimp only at hSw); go_simp; all_goals (try with_reducible rfl)
            (try simp only [List.getElem_toArray]); (try simp only [List.getElem_cons_succ]); (try simp only [List.getElem_cons_zero]); (try simp only [Act.put]); (try simp only [List.setIfInBounds_toArray]); (try simp only [List.set_cons_succ]); (try simp only [List.set_cons_zero])
            refine wpAnyH_take (i := 9) (v := ?_) rfl (by kernel_rfl) (by kernel_rfl) (by kernel_rfl) (fun _ _ _ h => h) (Or.inl ⟨by kernel_rfl, ?_⟩) hHeld ?_
            rotate_left
            · intro wz hSw; (try dsimp only at hSw); go_simp; all_goals (try with_reducible rfl)
            (try simp only [List.getElem_toArray]); (try simp only [List.getElem_cons_succ]); (try simp only [List.getElem_cons_zero]); (try simp only [Act.put]); (try simp only [List.setIfInBounds_toArray]); (try simp only [List.set_cons_succ]); (try simp only [List.set_cons_zero])
            refine wpAnyH_take (i := 10) (v := undef) rfl (by kernel_rfl) (by kernel_rfl) (by kernel_rfl) (fun _ _ _ h => h) (Or.inr ⟨by kernel_rfl, rfl⟩) hHeld ?_
            (try simp only [List.getElem_toArray]); (try simp only [List.getElem_cons_succ]); (try simp only [List.getElem_cons_zero]); (try simp only [Act.put]); (try simp only [List.setIfInBounds_toArray]); (try simp only [List.set_cons_succ]); (try simp only [List.set_cons_zero])
            refine wpAnyH_take (i := 11) (v := undef) rfl (by kernel_rfl) (by kernel_rfl) (by kernel_rfl) (fun _ _ _ h => h) (Or.inr ⟨by kernel_rfl, rfl⟩) hHeld ?_
            (try simp only [List.getElem_toArray]); (try simp only [List.getElem_cons_succ]); (try simp only [List.getElem_cons_zero]); (try simp only [Act.put]); (try simp only [List.setIfInBounds_toArray]); (try simp only [List.set_cons_succ]); (try simp only [List.set_cons_zero])
            refine wpAnyH_take (i := 12) (v := undef) rfl (by kernel_rfl) (by kernel_rfl) (by kernel_rfl) (fun _ _ _ h => h) (Or.inr ⟨by kernel_rfl, rfl⟩) hHeld ?_
            (try simp only [List.getElem_toArray]); (try simp only [List.getElem_cons_succ]); (try simp only [List.getElem_cons_zero]); (try simp only [Act.put]); (try simp only [List.setIfInBounds_toArray]); (try simp only [List.set_cons_succ]); (try simp only [List.set_cons_zero])
            refine wpAnyH_take (i := 13) (v := undef) rfl (by kernel_rfl) (by kernel_rfl) (by kernel_rfl) (fun _ _ _ h => h) (Or.inr ⟨by kernel_rfl, rfl⟩) hHeld ?_
            (try simp only [List.getElem_toArray]); (try simp only [List.getElem_cons_succ]); (try simp only [List.getElem_cons_zero]); (try simp only [Act.put]); (try simp only [List.setIfInBounds_toArray]); (try simp only [List.set_cons_succ]); (try simp only [List.set_cons_zero])
            refine wpAnyH_take (i := 14) (v := undef) rfl (by kernel_rfl) (by kernel_rfl) (by kernel_rfl) (fun _ _ _ h => h) (Or.inr ⟨by kernel_rfl, rfl⟩) hHeld ?_
            (try simp only [List.getElem_toArray]); (try simp only [List.getElem_cons_succ]); (try simp only [List.getElem_cons_zero]); (try simp only [Act.put]); (try simp only [List.setIfInBounds_toArray]); (try simp only [List.set_cons_succ]); (try simp only [List.set_cons_zero])
            refine wpAnyH_take (i := 15) (v := undef) rfl (by kernel_rfl) (by kernel_rfl) (by kernel_rfl) (fun _ _ _ h => h) (Or.inr ⟨by kernel_rfl, rfl⟩) hHeld ?_
            (try simp only [List.getElem_toArray]); (try simp only [List.getElem_cons_succ]); (try simp only [List.getElem_cons_zero]); (try simp only [Act.put]); (try simp only [List.setIfInBounds_toArray]); (try simp only [List.set_cons_succ]); (try simp only [List.set_cons_zero])
            refine wpAnyH_take (i := 16) (v := undef) rfl (by kernel_rfl) (by kernel_rfl) (by kernel_rfl) (fun _ _ _ h => h) (Or.inr ⟨by kernel_rfl, rfl⟩) hHeld ?_
            (try simp only [List.getElem_toArray]); (try simp only [List.getElem_cons_succ]); (try simp only [List.getElem_cons_zero]); (try simp only [Act.put]); (try simp only [List.setIfInBounds_toArray]); (try simp only [List.set_cons_succ]); (try simp only [List.set_cons_zero])
            refine wpAnyH_take (i := 17) (v := ?_) rfl (by kernel_rfl) (by kernel_rfl) (by kernel_rfl) (fun _ _ _ h => h) (Or.inl ⟨by kernel_rfl, ?_⟩) hHeld ?_
            rotate_left
            · intro wz hSw; (try dsimp only at hSw); go_simp; all_goals (try with_reducible rfl)
            (try simp only [List.getElem_toArray]); (try simp only [List.getElem_cons_succ]); (try simp only [List.getElem_cons_zero]); (try simp only [Act.put]); (try simp only [List.setIfInBounds_toArray]); (try simp only [List.set_cons_succ]); (try simp only [List.set_cons_zero])
            refine wpAnyH_take (i := 18) (v := ?_) rfl (by kernel_rfl) (by kernel_rfl) (by kernel_rfl) (fun _ _ _ h => h) (Or.inl ⟨by kernel_rfl, ?_⟩) hHeld ?_
            rotate_left
            · intro wz hSw; (try dsimp only at hSw); go_simp; all_goals (try with_reducible rfl)
            (try simp only [List.getElem_toArray]); (try simp only [List.getElem_cons_succ]); (try simp only [List.getElem_cons_zero]); (try simp only [Act.put]); (try simp only [List.setIfInBounds_toArray]); (try simp only [List.set_cons_succ]); (try simp only [List.set_cons_zero])
            refine wpAnyH_done (by kernel_rfl) ?_ _
            refine NoPanic.normal ?_
            have HN1 : Hid (H (j + 1) = ((m1, m2), true)) := by show _ = _; rw [HS.out, HNE2.out]; rfl
            have f0 := G0.out.f0
            have f1 := G0.out.f1
            have e0 := G0.out.c0
            have e1 := G0.out.c1
            go_wp2
            go_roundw
            case rel =>
              refine ⟨j + 1, by omega, by go_num, by rw [HN1.out], (hB.out.setCell (p := ⟨Hb, 0, none⟩) hwH _).setCell (p := ⟨Hb, 1, none⟩) hwH _, (R0.out.other (by omega) _ _).other (by omega) _ _, (L0.out.other (by omega) _ _).other (by omega) _ _, ?_⟩
              show IsR _ _ _ _
              rw [HN1.out]
              exact (G0.out.set0 _).set1 _
            case measure => simp [intOf]; omega
          refine wpAnyH_take (i := 7) (v := ?_) rfl (by kernel_rfl) (by kernel_rfl) (by kernel_rfl) (fun _ _ _ h => h) (Or.inl ⟨by kernel_rfl, ?_⟩) hHeld ?_
          rotate_left
          · intro wz hSw; (try dsimp only at hSw); go_simp; all_goals (try with_reducible rfl)
          (try simp only [List.getElem_toArray]); (try simp only [List.getElem_cons_succ]); (try simp only [List.getElem_cons_zero]); (try simp only [Act.put]); (try simp only [List.setIfInBounds_toArray]); (try simp only [List.set_cons_succ]); (try simp only [List.set_cons_zero])
          refine wpAnyH_take (i := 8) (v := ?_) rfl (by kernel_rfl) (by kernel_rfl) (by kernel_rfl) (fun _ _ _ h => h) (Or.inl ⟨by kernel_rfl, ?_⟩) hHeld ?_
          rotate_left
          · intro wz hSw; (try dsimp only at hSw); go_simp; all_goals (try with_reducible rfl)
          (try simp only [List.getElem_toArray]); (try simp only [List.getElem_cons_succ]); (try simp only [List.getElem_cons_zero]); (try simp only [Act.put]); (try simp only [List.setIfInBounds_toArray]); (try simp only [List.set_cons_succ]); (try simp only [List.set_cons_zero])
          refine wpAnyH_take (i := 9) (v := ?_) rfl (by kernel_rfl) (by kernel_rfl) (by kernel_rfl) (fun _ _ _ h => h) (Or.inl ⟨by kernel_rfl, ?_⟩) hHeld ?_
          rotate_left
          · intro wz hSw; (try dsimp only at hSw); go_simp; all_goals (try with_reducible rfl)
          (try simp only [List.getElem_toArray]); (try simp only [List.getElem_cons_succ]); (try simp only [List.getElem_cons_zero]); (try simp only [Act.put]); (try simp only [List.setIfInBounds_toArray]); (try simp only [List.set_cons_succ]); (try simp only [List.set_cons_zero])
          refine wpAnyH_take (i := 10) (v := ?_) rfl (by kernel_rfl) (by kernel_rfl) (by kernel_rfl) (fun _ _ _ h => h) (Or.inl ⟨by kernel_rfl, ?_⟩) hHeld ?_
          rotate_left
          · intro wz hSw; (try dsimp only at hSw); go_simp; all_goals (try with_reducible rfl)
          (try simp only [List.getElem_toArray]); (try simp only [List.getElem_cons_succ]); (try simp only [List.getElem_cons_zero]); (try simp only [Act.put]); (try simp only [List.setIfInBounds_toArray]); (try simp only [List.set_cons_succ]); (try simp only [List.set_cons_zero])
          refine wpAnyH_take (i := 11) (v := ?_) rfl (by kernel_rfl) (by kernel_rfl) (by kernel_rfl) (fun _ _ _ h => h) (Or.inl ⟨by kernel_rfl, ?_⟩) hHeld ?_
          rotate_left
          · intro wz hSw; (try dsimp only at hSw); go_simp; all_goals (try with_reducible rfl)
          (try simp only [List.getElem_toArray]); (try simp only [List.getElem_cons_succ]); (try simp only [List.getElem_cons_zero]); (try simp only [Act.put]); (try simp only [List.setIfInBounds_toArray]); (try simp only [List.set_cons_succ]); (try simp only [List.set_cons_zero])
          refine wpAnyH_take (i := 12) (v := ?_) rfl (by kernel_rfl) (by kernel_rfl) (by kernel_rfl) (fun _ _ _ h => h) (Or.inl ⟨by kernel_rfl, ?_⟩) hHeld ?_
          rotate_left
          · intro wz hSw; (try dsimp only at hSw); go_simp; all_goals (try with_reducible rfl)
          (try simp only [List.getElem_toArray]); (try simp only [List.getElem_cons_succ]); (try simp only [List.getElem_cons_zero]); (try simp only [Act.put]); (try simp only [List.setIfInBounds_toArray]); (try simp only [List.set_cons_succ]); (try simp only [List.set_cons_zero])
          refine wpAnyH_take (i := 13) (v := ?_) rfl (by kernel_rfl) (by kernel_rfl) (by kernel_rfl) (fun _ _ _ h => h) (Or.inl ⟨by kernel_rfl, ?_⟩) hHeld ?_
          rotate_left
          · intro wz hSw; (try dsimp only at hSw); go_simp; all_goals (try with_reducible rfl)
          (try simp only [List.getElem_toArray]); (try simp only [List.getElem_cons_succ]); (try simp only [List.getElem_cons_zero]); (try simp only [Act.put]); (try simp only [List.setIfInBounds_toArray]); (try simp only [List.set_cons_succ]); (try simp only [List.set_cons_zero])
          refine wpAnyH_take (i := 14) (v := ?_) rfl (by kernel_rfl) (by kernel_rfl) (by kernel_rfl) (fun _ _ _ h => h) (Or.inl ⟨by kernel_rfl, ?_⟩) hHeld ?_
          rotate_left
          · intro wz hSw; (try dsimp only at hSw); go_simp; all_goals (try with_reducible rfl)
          (try simp only [List.getElem_toArray]); (try simp only [List.getElem_cons_succ]); (try simp only [List.getElem_cons_zero]); (try simp only [Act.put]); (try simp only [List.setIfInBounds_toArray]); (try simp only [List.set_cons_succ]); (try simp only [List.set_cons_zero])
          refine wpAnyH_take (i := 15) (v := ?_) rfl (by kernel_rfl) (by kernel_rfl) (by kernel_rfl) (fun _ _ _ h => h) (Or.inl ⟨by kernel_rfl, ?_⟩) hHeld ?_
          rotate_left
          · intro wz hSw; (try dsimp only at hSw); go_simp; all_goals (try with_reducible rfl)
          (try simp only [List.getElem_toArray]); (try simp only [List.getElem_cons_succ]); (try simp only [List.getElem_cons_zero]); (try simp only [Act.put]); (try simp only [List.setIfInBounds_toArray]); (try simp only [List.set_cons_succ]); (try simp only [List.set_cons_zero])
          refine wpAnyH_ready (rs := [16]) (by kernel_rfl) (by simp) (AllReadyH.cons rfl (fun Kc hKc => ?_) AllReadyH.nil)
          go_simp
          (go_at_call 27; refine (HLS.out _).mono ?_; rintro e w8 ⟨rfl, hb⟩)
          have hbd : Below w7.heap.size w7 w8 := hb
          replace R0 := hidA (R0.out.below hbd)
          replace L0 := hidA (L0.out.below hbd)
          replace G0 := hidA (G0.out.below hbd)
          replace hB := hidA (hB.out.trans (hbd.mono hB.out.size))
          replace c1 := cell_keep hbd c1
          replace c2 := cell_keep hbd c2
          replace c3 := cell_keep hbd c3
          replace c4 := cell_keep hbd c4
          replace d0 := cell_keep hbd d0
          replace d1 := cell_keep hbd d1
          replace d2 := cell_keep hbd d2
          replace d3 := cell_keep hbd d3
          clear hb hbd
          go_wp2_with fail
          refine hKc.out _ _ ?_ (fun hHeld => ?_)
          · (try dsimp only)
            refine ⟨?_, ?_, ?_, ?_, ?_, ?_, ?_, ?_⟩ <;> (repeat (with_reducible (first | exact c1 | exact c2 | exact c3 | exact c4 | exact d0 | exact d1 | exact d2 | exact d3 | refine cell_dr ?_)))
          clear hKc Kc
          (try simp only [List.getElem_toArray]); (try simp only [List.getElem_cons_succ]); (try simp only [List.getElem_cons_zero]); (try simp only [Act.put]); (try simp only [List.setIfInBounds_toArray]); (try simp only [List.set_cons_succ]); (try simp only [List.set_cons_zero])
          refine wpAnyH_take (i := 17) (v := ?_) rfl (by kernel_rfl) (by kernel_rfl) (by kernel_rfl) (fun _ _ _ h => h) (Or.inl ⟨by kernel_rfl, ?_⟩) hHeld ?_
          rotate_left
          · intro wz hSw; (try dsimp only at hSw); go_simp; all_goals (try with_reducible rfl)
          (try simp only [List.getElem_toArray]); (try simp only [List.getElem_cons_succ]); (try simp only [List.getElem_cons_zero]); (try simp only [Act.put]); (try simp only [List.setIfInBounds_toArray]); (try simp only [List.set_cons_succ]); (try simp only [List.set_cons_zero])
          refine wpAnyH_take (i := 18) (v := ?_) rfl (by kernel_rfl) (by kernel_rfl) (by kernel_rfl) (fun _ _ _ h => h) (Or.inl ⟨by kernel_rfl, ?_⟩) hHeld ?_
          rotate_left
          · intro wz hSw; (try dsimp only at hSw); go_simp; all_goals (try with_reducible rfl)
          (try simp only [List.getElem_toArray]); (try simp only [List.getElem_cons_succ]); (try simp only [List.getElem_cons_zero]); (try simp only [Act.put]); (try simp only [List.setIfInBounds_toArray]); (try simp only [List.set_cons_succ]); (try simp only [List.set_cons_zero])
          refine wpAnyH_done (by kernel_rfl) ?_ _
          refine NoPanic.normal ?_
          cases q2
          · have HNE2 : Hid (neaB ls (lw1, lw2) ((hg1, hg2), true) j = false) := by show _ = _; rw [HNB.out]; rfl
            have HN1 : Hid (H (j + 1) = ((hg1, hg2), true)) := by show _ = _; rw [HS.out, HNE2.out]; rfl
            go_wp2
            go_roundw
            case rel =>
              refine ⟨j + 1, by omega, by go_num, by rw [HN1.out], hB.out, R0.out, L0.out, ?_⟩
              show IsR _ _ _ _
              rw [HN1.out]
              exact G0.out
            case measure => simp [intOf]; omega
          · have HNE2 : Hid (neaB ls (lw1, lw2) ((hg1, hg2), true) j = true) := by show _ = _; rw [HNB.out]; rfl
            have HN1 : Hid (H (j + 1) = ((m1, m2), true)) := by show _ = _; rw [HS.out, HNE2.out]; rfl
            have f0 := G0.out.f0
            have f1 := G0.out.f1
            have e0 := G0.out.c0
            have e1 := G0.out.c1
            go_wp2
            go_roundw
            case rel =>
              refine ⟨j + 1, by omega, by go_num, by rw [HN1.out], (hB.out.setCell (p := ⟨Hb, 0, none⟩) hwH _).setCell (p := ⟨Hb, 1, none⟩) hwH _, (R0.out.other (by omega) _ _).other (by omega) _ _, (L0.out.other (by omega) _ _).other (by omega) _ _, ?_⟩
              show IsR _ _ _ _
              rw [HN1.out]
              exact (G0.out.set0 _).set1 _
            case measure => simp [intOf]; omega
        · obtain rfl : j = k := by omega
          obtain ⟨s, hs⟩ : ∃ z, z = H j := ⟨_, rfl⟩
          rw [← hs] at G0 HHI ⊢
          clear hs
          obtain ⟨⟨hg1, hg2⟩, fo⟩ := s
          dsimp only at G0 HHI ⊢
          obtain ⟨r0, r1, r2, r3⟩ := R0.out.s4
          obtain ⟨s0, s1, s2, s3⟩ := R0.out.sf4
          have d0 := L0.out.c0
          have d1 := L0.out.c1
          have d2 := G0.out.c0
          have d3 := G0.out.c1
          have R2 := R0.out.sAll (.int .i64 lw1) (.int .i64 lw2) (.int .i64 hg1) (.int .i64 hg2)
          obtain ⟨y0, y1, y2, y3⟩ := R2.s4
          go_wp2
          exact bodyPost_ret (v := .tuple #[.agg #[.int .i64 lw1, .int .i64 lw2, .int .i64 hg1, .int .i64 hg2], .int .i64 bst]) (by simp [results, Try.results8, go_sem, y0, y1, y2, y3]) rfl ⟨ret_r11 (by rw [HRE.out]) (by rw [HRE.out]) (by rw [HRE.out, HHI.out]) (by rw [HRE.out, HHI.out]) HNE.out.symm, below_sAll hB.out hwR _ _ _ _⟩
end Go.Proofs.Ythfdpdnphnjebaa
