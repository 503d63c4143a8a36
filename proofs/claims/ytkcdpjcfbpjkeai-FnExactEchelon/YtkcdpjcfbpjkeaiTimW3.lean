/- The walk of the model's Times. -/
import Derived.Test.YtkcdpjcfbpjkeaiTimW2
namespace Go.Proofs.Ytkcdpjcfbpjkeai
open Go.RowKit Go.Proofs.Ytkcdpjcfbpjkeai.RM

theorem cell_g {K : Nat} {W W' : World} (hg : W.grownBy W' (some K)) {b o : Nat} {v : Value} (h : W.cell? ⟨b, o, none⟩ = some v) (hne : b ≠ K) : W'.cell? ⟨b, o, none⟩ = some v :=
  (g_cell hg o (World.block_lt_of_cell? W _ h) (by simpa using hne)).trans h
theorem own_g {K : Nat} {W W' : World} {base e size n : Nat} {v : Value} {xs : List Value} (hg : W.grownBy W' (some K)) (h : W.ownsRow base e size v n xs) (hb : K < base) : W'.ownsRow base e size v n xs :=
  h.kept hg (.inr fun e => by have := (h.lt K e).1; omega)
theorem Tab.g {K : Nat} {W W' : World} {base : Nat} {v : Value} {us : List Value} {rows : List (List Fr)} (h : Tab W base v us rows) (hg : W.grownBy W' (some K)) (hb : K < base) : Tab W' base v us rows :=
  h.kept hg (fun k e h2 => by cases e; have := (h.outer.lt K h2).1; omega) (fun i hi k e h2 => by cases e; have := ((h.inner i hi).lt K h2).1; omega)
/-- a store into a block beyond leaves it -/
theorem Tab.st {W : World} {base S : Nat} {v : Value} {us : List Value} {rows : List (List Fr)} (h : Tab W base v us rows) (hu : ∀ i, i < us.length → ∀ b, (vl us i).ownBlock = some b → b < S) (ho : ∀ b, v.ownBlock = some b → b < S) (o : Nat) (x : Value) : Tab (W.setCell ⟨S, o, none⟩ x) base v us rows :=
  h.kept (row := some S) (grown_set W S o x) (fun k e h2 => by cases e; have := ho S h2; omega) (fun i hi k e h2 => by cases e; have := hu i hi S h2; omega)
theorem own_st {W : World} {base e size n S : Nat} {v : Value} {xs : List Value} (h : W.ownsRow base e size v n xs) (ho : ∀ b, v.ownBlock = some b → b < S) (o : Nat) (x : Value) : (W.setCell ⟨S, o, none⟩ x).ownsRow base e size v n xs :=
  h.kept (row := some S) (grown_set W S o x) (.inr fun e => by have := ho S e; omega)
theorem vl_app (us : List Value) (x : Value) (i : Nat) (hi : i < us.length + 1) : vl (us ++ [x]) i = if i < us.length then vl us i else x := by
  unfold vl
  by_cases h : i < us.length
  · rw [if_pos h, List.getElem?_append_left h]
  · obtain rfl : i = us.length := by omega
    rw [if_neg h]; simp
theorem rw_app (rows : List (List Fr)) (x : List Fr) (i : Nat) (hi : i < rows.length + 1) : rw' (rows ++ [x]) i = if i < rows.length then rw' rows i else x := by
  unfold rw'
  by_cases h : i < rows.length
  · rw [if_pos h, List.getElem?_append_left h]
  · obtain rfl : i = rows.length := by omega
    rw [if_neg h]; simp
/-- a row that is apart is appended -/
theorem Tab.append {W w' : World} {base : Nat} {v v' : Value} {us : List Value} {rows : List (List Fr)} {u : Value} {ps : List Fr} {tmp : Obj} (h : Tab W base v us rows)
    (hu : W.ownsRow base 24 2 u ps.length (cellsR ps)) (ha : ∀ i, i < us.length → ∀ b, (vl us i).ownBlock = some b → u.ownBlock ≠ some b)
    (hown : w'.ownsRow base 63 1 v' (us.length + 1) (us ++ [u])) (hgrow : (W.alloc tmp).grownBy w' v.ownBlock) : Tab w' base v' (us ++ [u]) (rows ++ [ps]) := by
  have keep : ∀ {m : Nat} {x : Value} {xs : List Value}, W.ownsRow base 24 2 x m xs → w'.ownsRow base 24 2 x m xs := fun hx => own_oth (hx.alloc tmp) (h.outer.alloc tmp) (by decide) hgrow
  have hl := h.len
  refine ⟨by rw [List.length_append]; exact hown, by simp [hl], fun i hi => ?_, fun i j hi hj hne b hb => ?_⟩
  · rw [List.length_append, List.length_singleton] at hi
    rw [vl_app _ _ _ hi, rw_app _ _ _ (by omega)]
    by_cases e : i < us.length
    · rw [if_pos e, if_pos (by omega)]; exact keep (h.inner i e)
    · rw [if_neg e, if_neg (by omega)]; exact keep hu
  · rw [List.length_append, List.length_singleton] at hi hj
    rw [vl_app _ _ _ hi] at hb
    rw [vl_app _ _ _ hj]
    by_cases e : i < us.length
    · rw [if_pos e] at hb
      by_cases e2 : j < us.length
      · rw [if_pos e2]; exact h.apart i j e e2 hne b hb
      · rw [if_neg e2]; exact ha i e b hb
    · rw [if_neg e] at hb
      rw [if_pos (by omega)]
      intro h2
      exact ha j (by omega) b h2 hb
theorem IsK.grownO {W W' : World} {K : Nat} {b : Bool} {row : Option Nat} (h : IsK W K b) (hg : W.grownBy W' row) (hne : row ≠ some K) : IsK W' K b := (hg.block K h.lt (fun e => hne e.symm)).trans h
theorem cell_twoF (w : World) (a b : Value) (t : TypeId) : ∀ j u, [a, b][j]? = some u → (w.alloc (.cells #[a, b] t)).cell? ((⟨w.heap.size, 0, none⟩ : Addr).add j) = some u := by
  intro j u h
  match j, h with
  | 0, h => simp at h; subst h; simp [go_sem, Addr.add]
  | 1, h => simp at h; subst h; simp [go_sem, Addr.add]
  | (j + 2), h => simp at h
theorem kMul (K : Nat) (bd : Bool) (x1 x2 y1 y2 : Int) (w : World) (hK : IsK w K bd) :
    Calls Try.prog 50 #[.pointer (some ⟨K, 0, none⟩), .agg #[.int .i64 x1, .int .i64 x2], .agg #[.int .i64 y1, .int .i64 y2]] w fun e w' =>
      e = .returned (.agg #[.int .i64 (keepF (mulK (x1, x2) (y1, y2)) (mulP (x1, x2) (y1, y2))).1, .int .i64 (keepF (mulK (x1, x2) (y1, y2)) (mulP (x1, x2) (y1, y2))).2]) ∧ IsK w' K (bd || !mulK (x1, x2) (y1, y2)) ∧ w.grownBy w' (some K) := cMul_any K bd x1 x2 y1 y2 w hK
theorem kAdd (K : Nat) (bd : Bool) (x1 x2 y1 y2 : Int) (w : World) (hK : IsK w K bd) :
    Calls Try.prog 51 #[.pointer (some ⟨K, 0, none⟩), .agg #[.int .i64 x1, .int .i64 x2], .agg #[.int .i64 y1, .int .i64 y2]] w fun e w' =>
      e = .returned (.agg #[.int .i64 (keepF (addK (x1, x2) (y1, y2)) (addP (x1, x2) (y1, y2))).1, .int .i64 (keepF (addK (x1, x2) (y1, y2)) (addP (x1, x2) (y1, y2))).2]) ∧ IsK w' K (bd || !addK (x1, x2) (y1, y2)) ∧ w.grownBy w' (some K) := cAdd_any K bd x1 x2 y1 y2 w hK

set_option maxRecDepth 100000 in
set_option maxHeartbeats 4000000 in
theorem sTimes_any (va vb : Value) (a b : List (List Fr)) (w : World) (ha : RdT w va a) (hb : RdT w vb b) :
    Calls Try.prog 20 #[va, vb] w fun e w' => ∃ v us, e = .returned (.tuple #[v, .bool (timO a b)]) ∧ Tab w' w.heap.size v us (timA a b) ∧ Below w.heap.size w w' := by
  obtain ⟨i0, hi, hz0, hz1, hz2⟩ := info_parts infoF
  obtain ⟨t0, hti, htz0, htz1, htz2⟩ := info_parts infoT
  have HA : Hid (RdT w va a) := ha
  have HB : Hid (RdT w vb b) := hb
  obtain ⟨pa, ca, rfl, ha2, _, _, ha5⟩ := ha
  obtain ⟨pb, cb, rfl, hb2, _, _, hb5⟩ := hb
  have HA5 : Hid (∀ i, i < a.length → ∃ b off u, pa = some ⟨b, off, none⟩ ∧ w.cell? ⟨b, off + i, none⟩ = some u ∧ RdR w u (rw' a i)) := ha5
  have HB5 : Hid (∀ i, i < b.length → ∃ b' off u, pb = some ⟨b', off, none⟩ ∧ w.cell? ⟨b', off + i, none⟩ = some u ∧ RdR w u (rw' b i)) := hb5
  unfold maxLen at ha2 hb2
  obtain ⟨qa, hqa⟩ : ∃ q, q = tabB a 6 := ⟨_, rfl⟩
  obtain ⟨qb, hqb⟩ : ∃ q, q = tabB b 6 := ⟨_, rfl⟩
  have HQA : Hid (qa = tabB a 6) := hqa
  have HQB : Hid (qb = tabB b 6) := hqb
  have CA : Hid (∀ W : World, RdT W (.slice pa a.length ca) a → Calls Try.prog 16 #[.slice pa a.length ca] W fun e w' => e = .returned (.bool qa) ∧ Below W.heap.size W w') := by
    intro W hW; rw [hqa]; exact sTab_any _ a W hW
  have CB : Hid (∀ W : World, RdT W (.slice pb b.length cb) b → Calls Try.prog 16 #[.slice pb b.length cb] W fun e w' => e = .returned (.bool qb) ∧ Below W.heap.size W w') := by
    intro W hW; rw [hqb]; exact sTab_any _ b W hW
  clear ha5 hb5 hqa hqb
  cases qa
  · have HO : Hid (timO a b = false) := timO_no (by unfold timC; rw [← HQA.out]; rfl)
    go_enter Try.func20, Try.ntmps20
    go_wp2_with fail
    refine (CA.out _ HA.out).mono ?_
    rintro e w1 ⟨rfl, hb1⟩
    go_wp2
    have HAN : Hid (timA a b = []) := timA_no HO.out
    refine bodyPost_ret (v := .tuple #[.slice (some ⟨w1.heap.size, 0, none⟩) 0 0, .bool false]) (by simp [results, Try.results20, go_sem]) rfl ⟨.slice (some ⟨w1.heap.size, 0, none⟩) 0 0, [], ret_tb HO.out.symm, ?_, hb1.alloc hb1.size _⟩
    rw [HAN.out]
    exact Tab.lit hb1.size
  cases qb
  · have HO : Hid (timO a b = false) := timO_no (by unfold timC; rw [← HQB.out]; simp)
    go_enter Try.func20, Try.ntmps20
    go_wp2_with fail
    refine (CA.out _ HA.out).mono ?_
    rintro e w1 ⟨rfl, hb1⟩
    go_wp2_with fail
    refine (CB.out _ (HB.out.below hb1)).mono ?_
    rintro e w2 ⟨rfl, hb2'⟩
    have hbb := hb1.trans (hb2'.mono hb1.size)
    clear hb1 hb2'
    go_wp2
    have HAN : Hid (timA a b = []) := timA_no HO.out
    refine bodyPost_ret (v := .tuple #[.slice (some ⟨w2.heap.size, 0, none⟩) 0 0, .bool false]) (by simp [results, Try.results20, go_sem]) rfl ⟨.slice (some ⟨w2.heap.size, 0, none⟩) 0 0, [], ret_tb HO.out.symm, ?_, hbb.alloc hbb.size _⟩
    rw [HAN.out]
    exact Tab.lit hbb.size
  obtain ⟨⟨ta1, ta2, ta3, ta4⟩, tar⟩ := tabB_out HQA.out.symm
  obtain ⟨⟨tb1, tb2, tb3, tb4⟩, tbr⟩ := tabB_out HQB.out.symm
  obtain ⟨ba, offa, ua, rfl, ca0, ⟨pa0, ca0', rfl, ma2, ma3, ma4, _⟩⟩ := HA5.out 0 (by omega)
  rw [Nat.add_zero] at ca0
  obtain ⟨La, hLa⟩ : ∃ L, L = (rw' a 0).length := ⟨_, rfl⟩
  have HLA : Hid (La = (rw' a 0).length) := hLa
  rw [← hLa] at ca0 ta3 ta4
  have TAR : Hid (∀ k, k < a.length → (rw' a k).length = La) := fun k hk => by rw [(tar k hk).1, hLa]
  clear hLa ma2 ma3 ma4 tar
  by_cases hne : La = b.length
  case neg =>
    have HO : Hid (timO a b = false) := timO_no (by unfold timC; rw [decide_eq_false (by rw [← HLA.out]; exact hne)]; simp)
    have hne' : ¬ (La : Int) = b.length := by omega
    clear hne tbr
    go_enter Try.func20, Try.ntmps20
    go_wp2_with fail
    refine (CA.out _ HA.out).mono ?_
    rintro e w1 ⟨rfl, hb1⟩
    go_wp2_with fail
    refine (CB.out _ (HB.out.below hb1)).mono ?_
    rintro e w2 ⟨rfl, hb2'⟩
    have hbb := hb1.trans (hb2'.mono hb1.size)
    have hc0 := cell_keep hbb ca0
    clear hb1 hb2'
    go_wp2
    have HAN : Hid (timA a b = []) := timA_no HO.out
    refine bodyPost_ret (v := .tuple #[.slice (some ⟨w2.heap.size, 0, none⟩) 0 0, .bool false]) (by simp [results, Try.results20, go_sem]) rfl ⟨.slice (some ⟨w2.heap.size, 0, none⟩) 0 0, [], ret_tb HO.out.symm, ?_, hbb.alloc hbb.size _⟩
    rw [HAN.out]
    exact Tab.lit hbb.size
  have HC : Hid (timC a b = true) := by
    show _ = _
    unfold timC
    rw [← HQA.out, ← HQB.out, decide_eq_true (by rw [← HLA.out]; exact hne)]; rfl
  have hne' : (La : Int) = b.length := by omega
  obtain ⟨bb, offb, ub, rfl, cb0, ⟨pb0, cb0', rfl, mb2, mb3, mb4, _⟩⟩ := HB5.out 0 (by omega)
  rw [Nat.add_zero] at cb0
  obtain ⟨L, hL⟩ : ∃ L, L = (rw' b 0).length := ⟨_, rfl⟩
  have HL : Hid (L = (rw' b 0).length) := hL
  rw [← hL] at cb0 tb3 tb4
  have TBR : Hid (∀ k, k < b.length → (rw' b k).length = L) := fun k hk => by rw [(tbr k hk).1, hL]
  have hL6 : L ≤ 6 := by omega
  clear hL mb2 mb3 mb4 tbr tb4 ta4
  go_enter Try.func20, Try.ntmps20
  go_wp2_with fail
  refine (CA.out _ HA.out).mono ?_
  rintro e w1 ⟨rfl, hb1⟩
  go_wp2_with fail
  refine (CB.out _ (HB.out.below hb1)).mono ?_
  rintro e w2 ⟨rfl, hb2'⟩
  have hbb := hb1.trans (hb2'.mono hb1.size)
  have hc0 := cell_keep hbb ca0
  have hs2 := hbb.size
  clear hb1 hb2' CA CB
  obtain ⟨K, hK⟩ : ∃ K, K = w2.heap.size := ⟨_, rfl⟩
  have hwK : w.heap.size ≤ K := by omega
  go_wp2
  obtain ⟨X, hX⟩ : ∃ X, X = (w2.alloc (.cells #[.bool false] 69)).alloc (.cells #[] 63) := ⟨_, rfl⟩
  have k0 : IsK X K false := by rw [hX, hK]; exact (IsK.new w2 false).below ((Below.refl _ _).alloc (Nat.le_refl _) _)
  have o0 : Tab X (K + 1) (.slice (some ⟨K + 1, 0, none⟩) 0 0) [] (timT a b 0) := by
    have := Tab.lit (W := w2.alloc (.cells #[.bool false] 69)) (base := K + 1) (by rw [hK]; simp)
    rw [hX]; simpa [hK, timT] using this
  have B0 : Below w.heap.size w X := by rw [hX]; exact (hbb.alloc hs2 _).alloc (by simp; omega) _
  rw [← hX, ← hK]
  clear hX hK hs2 hbb hc0
  obtain ⟨nb, hnb⟩ : ∃ m, b.length = m + 1 := ⟨b.length - 1, by omega⟩
  have HNB : Hid (b.length = nb + 1) := hnb
  have HBR : Hid (∀ n, n < b.length → ∀ j, j < L → ∃ b2 off2 cn, w.cell? ⟨bb, offb + n, none⟩ = some (.slice (some ⟨b2, off2, none⟩) L cn) ∧ w.cell? ⟨b2, off2 + j * 2, none⟩ = some (.int .i64 (fr (rw' b n) j).1) ∧ w.cell? ⟨b2, off2 + j * 2 + 1, none⟩ = some (.int .i64 (fr (rw' b n) j).2)) := by
    intro n hn j hj
    obtain ⟨b', o', u, e, h, ⟨a2, c2, rfl, _, _, _, m5⟩⟩ := HB5.out n hn
    cases e
    obtain ⟨b2, off2, e2, q2, q3⟩ := m5 j (by rw [TBR.out n hn]; exact hj)
    subst e2
    exact ⟨b2, off2, c2, by rw [h, TBR.out n hn], q2, q3⟩
  have HE : Hid (∀ i j, timE a b i j = sdot (rw' a i) b j nb) := by intro i j; unfold timE; rw [hnb]; rfl
  have b0 : ∀ {u : World} (o : Obj), Below u.heap.size u (u.alloc o) := fun o => (Below.refl _ _).alloc (Nat.le_refl _) o
  clear hnb
  go_loopw [7, 8] (fun q i wr => ∃ (o : Value) (k : Nat) (us : List Value), k ≤ a.length ∧ i = .int .i64 k ∧ o = q ∧ us.length = k ∧ Hid (Tab wr (K + 1) o us (timT a b k)) ∧ Hid (IsK wr K (badT' a b k)) ∧ Hid (Below w.heap.size w wr)) (fun _ i _ => a.length - (intOf i).toNat)
  case atStart => exact ⟨_, 0, [], Nat.zero_le _, rfl, rfl, rfl, o0, k0, B0⟩
  case round =>
    clear o0 k0 B0
    obtain ⟨o, k, us, hk, rfl, rfl, hus, hT, hKf, hB⟩ := hrel
    have hsz := hB.out.size
    by_cases hlt : k < a.length
    · obtain ⟨ba', offa', ur, e, c1, ⟨pr, cr, rfl, mr2, _, _, hr5⟩⟩ := HA5.out k hlt
      cases e
      obtain ⟨br, offr, hpr, cx1, cx2⟩ := hr5 0 (by rw [TAR.out k hlt]; omega)
      subst hpr
      have HR5 : Hid (∀ n, n < (rw' a k).length → w.cell? ⟨br, offr + n * 2, none⟩ = some (.int .i64 (fr (rw' a k) n).1) ∧ w.cell? ⟨br, offr + n * 2 + 1, none⟩ = some (.int .i64 (fr (rw' a k) n).2)) := by
        intro n hn
        obtain ⟨b', o', e, h1, h2⟩ := hr5 n hn
        cases e
        exact ⟨h1, h2⟩
      obtain ⟨Kr, hKr⟩ : ∃ K, K = (rw' a k).length := ⟨_, rfl⟩
      have HKr : Hid (Kr = (rw' a k).length) := hKr
      rw [← hKr] at c1
      have hKb : Kr = b.length := by rw [hKr, TAR.out k hlt]; exact hne
      have C1 : Hid (w.cell? ⟨ba, offa + k, none⟩ = some (.slice (some ⟨br, offr, none⟩) Kr cr)) := c1
      clear hr5 hKr cx1 cx2 mr2 c1
      go_wp2
      obtain ⟨Sk, hSk⟩ : ∃ s, s = wr.heap.size := ⟨_, rfl⟩
      have hKS : K < Sk := by rw [hSk]; exact hKf.out.lt
      have HU : Hid (Under Sk o us) := by rw [hSk]; exact hT.out.under
      have r0 : (wr.alloc (.cells #[] 24)).ownsRow Sk 24 2 (.slice (some ⟨Sk, 0, none⟩) 0 0) 0 (cellsR (timRow a b k 0)) := by
        rw [hSk]; exact World.ownsRow_lit wr (base := wr.heap.size) (e := 24) (size := 2) #[] 0 (Nat.le_refl _) (Nat.zero_le _) rfl
      have T0 := hT.out.below (b0 (.cells #[] 24))
      have K0 : IsK (wr.alloc (.cells #[] 24)) K (badT' a b k || badR a b k 0) := by
        have := hKf.out.below (b0 (.cells #[] 24))
        simpa [badR] using this
      have B0 := hB.out.alloc hsz (.cells #[] 24)
      rw [← hSk]
      obtain ⟨X8, hX8⟩ : ∃ X, X = wr.alloc (.cells #[] 24) := ⟨_, rfl⟩
      rw [← hX8] at r0 T0 K0 B0 ⊢
      clear hX8 hSk hT hKf hB hsz
      go_loopw [9, 10] (fun q i wr => ∃ (r : Value) (j : Nat), j ≤ L ∧ i = .int .i64 j ∧ r = q ∧ Hid (wr.ownsRow Sk 24 2 r j (cellsR (timRow a b k j))) ∧ Hid (Tab wr (K + 1) o us (timT a b k)) ∧ Hid (IsK wr K (badT' a b k || badR a b k j)) ∧ Hid (Below w.heap.size w wr) ∧ Sk ≤ wr.heap.size) (fun _ i _ => L - (intOf i).toNat)
      case atStart => exact ⟨_, 0, Nat.zero_le _, rfl, rfl, r0, T0, K0, B0, Nat.le_of_lt (World.ownsRow.lt r0 Sk rfl).2⟩
      case round =>
        clear r0 T0 K0 B0
        obtain ⟨r, j, hj, rfl, rfl, hO, hT, hK, hB, hSkw⟩ := hrel
        have hsz := hB.out.size
        have c4 := cell_keep hB.out cb0
        by_cases hjl : j < L
        · have hka : k < a.length := hlt
          obtain ⟨b2, off2, cn, d0, d1, d2⟩ := HBR.out 0 (by omega) j hjl
          rw [Nat.add_zero] at d0
          have ecb : Value.slice (some ⟨b2, off2, none⟩) L cn = .slice pb0 L cb0' := by rw [cb0] at d0; injection d0 with d0; exact d0.symm
          obtain ⟨hx1, hx2⟩ := HR5.out 0 (by have := HKr.out; omega)
          rw [Nat.zero_mul, Nat.add_zero] at hx1 hx2
          have hla := World.block_lt_of_cell? w _ C1.out
          have hlr := World.block_lt_of_cell? w _ hx1
          have hlb := World.block_lt_of_cell? w _ d0
          have hl2 := World.block_lt_of_cell? w _ d1
          dsimp only at hla hlr hlb hl2
          have hlK := hK.out.lt
          have c1 := cell_keep hB.out C1.out
          have c2 := cell_keep hB.out hx1
          have c3 := cell_keep hB.out hx2
          replace c4 := cell_keep hB.out d0
          have c5 := cell_keep hB.out d1
          have c6 := cell_keep hB.out d2
          obtain ⟨s0, hs0⟩ : ∃ s, s = sdot (rw' a k) b j 0 := ⟨_, rfl⟩
          have HS0 : Hid (s0 = sdot (rw' a k) b j 0) := hs0
          rw [show sdot (rw' a k) b j 0 = (keepF (mulK (fr (rw' a k) 0) (fr (rw' b 0) j)) (mulP (fr (rw' a k) 0) (fr (rw' b 0) j)), !mulK (fr (rw' a k) 0) (fr (rw' b 0) j)) from rfl] at hs0
          obtain ⟨x, hx⟩ : ∃ x, x = fr (rw' a k) 0 := ⟨_, rfl⟩
          obtain ⟨y, hy⟩ : ∃ y, y = fr (rw' b 0) j := ⟨_, rfl⟩
          rw [← hx] at c2 c3 hs0
          rw [← hy] at c5 c6 hs0
          obtain ⟨x1, x2⟩ := x
          obtain ⟨y1, y2⟩ := y
          dsimp only at c2 c3 c5 c6
          obtain ⟨⟨p1, p2⟩, po⟩ := s0
          obtain ⟨bd, hbd⟩ : ∃ z, z = (badT' a b k || badR a b k j) := ⟨_, rfl⟩
          have HBD : Hid (bd = (badT' a b k || badR a b k j)) := hbd
          rw [← hbd] at hK
          have HM : Hid (∀ W : World, IsK W K bd → Calls Try.prog 50 #[.pointer (some ⟨K, 0, none⟩), .agg #[.int .i64 x1, .int .i64 x2], .agg #[.int .i64 y1, .int .i64 y2]] W fun e w' => e = .returned (.agg #[.int .i64 p1, .int .i64 p2]) ∧ IsK w' K (bd || po) ∧ W.grownBy w' (some K)) := by
            intro W hW
            have := kMul K bd x1 x2 y1 y2 W hW
            injection hs0 with e1 e2
            rw [← e1, ← e2] at this
            exact this
          have HUN : Hid (Under wr.heap.size o us) := hT.out.under
          have HON : Hid (∀ b', r.ownBlock = some b' → b' < wr.heap.size) := fun b' e => (World.ownsRow.lt hO.out b' e).2
          clear hx hy hs0 hbd hx1 hx2 d0 d1 d2
          cases ecb
          have hbp : 0 < b.length := by omega
          go_upto_region 12 with fail
          go_cut [11] from 63 to 91 (fun q wx => ∃ Sb, q = .pointer (some ⟨Sb, 0, none⟩) ∧ wr.heap.size ≤ Sb ∧ Hid (IsR wx Sb p1 p2) ∧ Hid (IsK wx K (bd || po)) ∧ Hid (Tab wx (K + 1) o us (timT a b k)) ∧ Hid (wx.ownsRow Sk 24 2 r j (cellsR (timRow a b k j))) ∧ Hid (Below w.heap.size w wx))
          case first =>
            replace hO := hO.out
            replace hT := hT.out
            replace hB := hB.out
            refine wp_region_noPanic ?_
            refine wp_region_held_drew (S := (fun w' => w'.cell? ⟨ba, offa + k, none⟩ = some (.slice (some ⟨br, offr, none⟩) Kr cr) ∧ w'.cell? ⟨br, offr, none⟩ = some (.int .i64 x1) ∧ w'.cell? ⟨br, offr + 1, none⟩ = some (.int .i64 x2) ∧ w'.cell? ⟨bb, offb, none⟩ = some (.slice (some ⟨b2, off2, none⟩) L cb0') ∧ w'.cell? ⟨b2, off2 + j * 2, none⟩ = some (.int .i64 y1) ∧ w'.cell? ⟨b2, off2 + j * 2 + 1, none⟩ = some (.int .i64 y2))) (by kernel_rfl) ?_ (fun hHeld => ?_)
            · (try dsimp only)
              refine ⟨?_, ?_, ?_, ?_, ?_, ?_⟩ <;> (repeat (with_reducible (first | exact c1 | exact c2 | exact c3 | exact c4 | exact c5 | exact c6 | refine cell_dr ?_ | refine cell_al _ ?_ | refine cell_stb ?_ ?_ | (show _ ≠ _; omega))))
            refine wpAnyH_take (i := 0) (v := ?_) rfl (by kernel_rfl) (by kernel_rfl) (by kernel_rfl) (fun _ _ _ h => h) (Or.inl ⟨by kernel_rfl, ?_⟩) hHeld ?_
            rotate_left
            · intro wz hSw; (try dsimp only at hSw); go_simp; all_goals (try with_reducible rfl)
            (try simp only [List.getElem_toArray]); (try simp only [List.getElem_cons_succ]); (try simp only [List.getElem_cons_zero]); (try simp only [Act.put]); (try simp only [List.setIfInBounds_toArray]); (try simp only [List.set_cons_succ]); (try simp only [List.set_cons_zero])
            refine wpAnyH_take (i := 1) (v := ?_) rfl (by kernel_rfl) (by kernel_rfl) (by kernel_rfl) (fun _ _ _ h => h) (Or.inl ⟨by kernel_rfl, ?_⟩) hHeld ?_
            rotate_left
            · intro wz hSw; (try dsimp only at hSw); go_simp; all_goals (try with_reducible rfl)
            (try simp only [List.getElem_toArray]); (try simp only [List.getElem_cons_succ]); (try simp only [List.getElem_cons_zero]); (try simp only [Act.put]); (try simp only [List.setIfInBounds_toArray]); (try simp only [List.set_cons_succ]); (try simp only [List.set_cons_zero])
            refine wpAnyH_take (i := 2) (v := ?_) rfl (by kernel_rfl) (by kernel_rfl) (by kernel_rfl) (fun _ _ _ h => h) (Or.inl ⟨by kernel_rfl, ?_⟩) hHeld ?_
            rotate_left
            · intro wz hSw; (try dsimp only at hSw); go_simp; all_goals (try with_reducible rfl)
            (try simp only [List.getElem_toArray]); (try simp only [List.getElem_cons_succ]); (try simp only [List.getElem_cons_zero]); (try simp only [Act.put]); (try simp only [List.setIfInBounds_toArray]); (try simp only [List.set_cons_succ]); (try simp only [List.set_cons_zero])
            refine wpAnyH_take (i := 3) (v := ?_) rfl (by kernel_rfl) (by kernel_rfl) (by kernel_rfl) (fun _ _ _ h => h) (Or.inl ⟨by kernel_rfl, ?_⟩) hHeld ?_
            rotate_left
            · intro wz hSw; (try dsimp only at hSw); go_simp; all_goals (try with_reducible rfl)
            (try simp only [List.getElem_toArray]); (try simp only [List.getElem_cons_succ]); (try simp only [List.getElem_cons_zero]); (try simp only [Act.put]); (try simp only [List.setIfInBounds_toArray]); (try simp only [List.set_cons_succ]); (try simp only [List.set_cons_zero])
            refine wpAnyH_take (i := 4) (v := ?_) rfl (by kernel_rfl) (by kernel_rfl) (by kernel_rfl) (fun _ _ _ h => h) (Or.inl ⟨by kernel_rfl, ?_⟩) hHeld ?_
            rotate_left
            · intro wz hSw; (try dsimp only at hSw); go_simp; all_goals (try with_reducible rfl)
            (try simp only [List.getElem_toArray]); (try simp only [List.getElem_cons_succ]); (try simp only [List.getElem_cons_zero]); (try simp only [Act.put]); (try simp only [List.setIfInBounds_toArray]); (try simp only [List.set_cons_succ]); (try simp only [List.set_cons_zero])
            refine wpAnyH_take (i := 5) (v := ?_) rfl (by kernel_rfl) (by kernel_rfl) (by kernel_rfl) (fun _ _ _ h => h) (Or.inl ⟨by kernel_rfl, ?_⟩) hHeld ?_
            rotate_left
            · intro wz hSw; (try dsimp only at hSw); go_simp; all_goals (try with_reducible rfl)
            (try simp only [List.getElem_toArray]); (try simp only [List.getElem_cons_succ]); (try simp only [List.getElem_cons_zero]); (try simp only [Act.put]); (try simp only [List.setIfInBounds_toArray]); (try simp only [List.set_cons_succ]); (try simp only [List.set_cons_zero])
            refine wpAnyH_take (i := 6) (v := ?_) rfl (by kernel_rfl) (by kernel_rfl) (by kernel_rfl) (fun _ _ _ h => h) (Or.inl ⟨by kernel_rfl, ?_⟩) hHeld ?_
            rotate_left
            · intro wz hSw; (try dsimp only at hSw); go_simp; all_goals (try with_reducible rfl)
            (try simp only [List.getElem_toArray]); (try simp only [List.getElem_cons_succ]); (try simp only [List.getElem_cons_zero]); (try simp only [Act.put]); (try simp only [List.setIfInBounds_toArray]); (try simp only [List.set_cons_succ]); (try simp only [List.set_cons_zero])
            refine wpAnyH_take (i := 7) (v := ?_) rfl (by kernel_rfl) (by kernel_rfl) (by kernel_rfl) (fun _ _ _ h => h) (Or.inl ⟨by kernel_rfl, ?_⟩) hHeld ?_
            rotate_left
            · intro wz hSw; (try dsimp only at hSw); go_simp; all_goals (try with_reducible rfl)
            (try simp only [List.getElem_toArray]); (try simp only [List.getElem_cons_succ]); (try simp only [List.getElem_cons_zero]); (try simp only [Act.put]); (try simp only [List.setIfInBounds_toArray]); (try simp only [List.set_cons_succ]); (try simp only [List.set_cons_zero])
            refine wpAnyH_take (i := 8) (v := ?_) rfl (by kernel_rfl) (by kernel_rfl) (by kernel_rfl) (fun _ _ _ h => h) (Or.inl ⟨by kernel_rfl, ?_⟩) hHeld ?_
            rotate_left
            · intro wz hSw; (try dsimp only at hSw); go_simp; all_goals (try with_reducible rfl)
            (try simp only [List.getElem_toArray]); (try simp only [List.getElem_cons_succ]); (try simp only [List.getElem_cons_zero]); (try simp only [Act.put]); (try simp only [List.setIfInBounds_toArray]); (try simp only [List.set_cons_succ]); (try simp only [List.set_cons_zero])
            refine wpAnyH_take (i := 9) (v := ?_) rfl (by kernel_rfl) (by kernel_rfl) (by kernel_rfl) (fun _ _ _ h => h) (Or.inl ⟨by kernel_rfl, ?_⟩) hHeld ?_
            rotate_left
            · intro wz hSw; (try dsimp only at hSw); go_simp; all_goals (try with_reducible rfl)
            (try simp only [List.getElem_toArray]); (try simp only [List.getElem_cons_succ]); (try simp only [List.getElem_cons_zero]); (try simp only [Act.put]); (try simp only [List.setIfInBounds_toArray]); (try simp only [List.set_cons_succ]); (try simp only [List.set_cons_zero])
            refine wpAnyH_take (i := 10) (v := ?_) rfl (by kernel_rfl) (by kernel_rfl) (by kernel_rfl) (fun _ _ _ h => h) (Or.inl ⟨by kernel_rfl, ?_⟩) hHeld ?_
            rotate_left
            · intro wz hSw; (try dsimp only at hSw); go_simp; all_goals (try with_reducible rfl)
            (try simp only [List.getElem_toArray]); (try simp only [List.getElem_cons_succ]); (try simp only [List.getElem_cons_zero]); (try simp only [Act.put]); (try simp only [List.setIfInBounds_toArray]); (try simp only [List.set_cons_succ]); (try simp only [List.set_cons_zero])
            refine wpAnyH_take (i := 11) (v := ?_) rfl (by kernel_rfl) (by kernel_rfl) (by kernel_rfl) (fun _ _ _ h => h) (Or.inl ⟨by kernel_rfl, ?_⟩) hHeld ?_
            rotate_left
            · intro wz hSw; (try dsimp only at hSw); go_simp; all_goals (try with_reducible rfl)
            (try simp only [List.getElem_toArray]); (try simp only [List.getElem_cons_succ]); (try simp only [List.getElem_cons_zero]); (try simp only [Act.put]); (try simp only [List.setIfInBounds_toArray]); (try simp only [List.set_cons_succ]); (try simp only [List.set_cons_zero])
            refine wpAnyH_take (i := 12) (v := ?_) rfl (by kernel_rfl) (by kernel_rfl) (by kernel_rfl) (fun _ _ _ h => h) (Or.inl ⟨by kernel_rfl, ?_⟩) hHeld ?_
            rotate_left
            · intro wz hSw; (try dsimp only at hSw); go_simp; all_goals (try with_reducible rfl)
            (try simp only [List.getElem_toArray]); (try simp only [List.getElem_cons_succ]); (try simp only [List.getElem_cons_zero]); (try simp only [Act.put]); (try simp only [List.setIfInBounds_toArray]); (try simp only [List.set_cons_succ]); (try simp only [List.set_cons_zero])
            refine wpAnyH_ready (rs := [13, 14]) (by kernel_rfl) (by simp) (AllReadyH.cons rfl (fun Kc hKc => ?_) (AllReadyH.cons rfl (fun Kc hKc => ?_) AllReadyH.nil))
            · go_simp
              (go_at_call 50; refine (HM.out _ (IsK.below (by exact hK.out) ((Below.refl _ _).drew))).mono ?_; rintro e w2 ⟨rfl, q2, g2⟩)
              have c1 := cell_g g2 c1 (by omega)
              have c2 := cell_g g2 c2 (by omega)
              have c3 := cell_g g2 c3 (by omega)
              have c4 := cell_g g2 c4 (by omega)
              have c5 := cell_g g2 c5 (by omega)
              have c6 := cell_g g2 c6 (by omega)
              have T2 := (Tab.below (by exact hT) ((Below.refl _ _).drew)).g g2 (by omega)
              have O2 := own_g g2 (own_below (by exact hO) ((Below.refl _ _).drew)) (by omega)
              have B2 : Below w.heap.size w w2 := (hB.drew).trans (below_grownK g2 (by omega) (by simpa using hB.size))
              have hs2 := g2.size
              clear g2
              go_wp2_with fail
              refine hKc.out _ _ ?_ (fun hHeld => ?_)
              · (try dsimp only)
                refine ⟨?_, ?_, ?_, ?_, ?_, ?_⟩ <;> (repeat (with_reducible (first | exact c1 | exact c2 | exact c3 | exact c4 | exact c5 | exact c6 | refine cell_dr ?_ | refine cell_al _ ?_ | refine cell_stb ?_ ?_ | (show _ ≠ _; omega))))
              clear hKc Kc
              (try simp only [List.getElem_toArray]); (try simp only [List.getElem_cons_succ]); (try simp only [List.getElem_cons_zero]); (try simp only [Act.put]); (try simp only [List.setIfInBounds_toArray]); (try simp only [List.set_cons_succ]); (try simp only [List.set_cons_zero])
              refine wpAnyH_ready (rs := [14]) (by kernel_rfl) (by simp) (AllReadyH.cons rfl (fun Kc hKc => ?_) AllReadyH.nil)
              go_simp
              refine hKc.out _ _ ?_ (fun hHeld => ?_)
              · (try dsimp only)
                refine ⟨?_, ?_, ?_, ?_, ?_, ?_⟩ <;> (repeat (with_reducible (first | exact c1 | exact c2 | exact c3 | exact c4 | exact c5 | exact c6 | refine cell_dr ?_ | refine cell_al _ ?_ | refine cell_stb ?_ ?_ | (show _ ≠ _; omega))))
              clear hKc Kc
              (try simp only [List.getElem_toArray]); (try simp only [List.getElem_cons_succ]); (try simp only [List.getElem_cons_zero]); (try simp only [Act.put]); (try simp only [List.setIfInBounds_toArray]); (try simp only [List.set_cons_succ]); (try simp only [List.set_cons_zero])
              refine wpAnyH_ready (rs := [15]) (by kernel_rfl) (by simp) (AllReadyH.cons rfl (fun Kc hKc => ?_) AllReadyH.nil)
              go_simp
              refine hKc.out _ _ ?_ (fun hHeld => ?_)
              · (try dsimp only)
                refine ⟨?_, ?_, ?_, ?_, ?_, ?_⟩ <;> (repeat (with_reducible (first | exact c1 | exact c2 | exact c3 | exact c4 | exact c5 | exact c6 | refine cell_dr ?_ | refine cell_al _ ?_ | refine cell_stb ?_ ?_ | (show _ ≠ _; omega))))
              clear hKc Kc
              (try simp only [List.getElem_toArray]); (try simp only [List.getElem_cons_succ]); (try simp only [List.getElem_cons_zero]); (try simp only [Act.put]); (try simp only [List.setIfInBounds_toArray]); (try simp only [List.set_cons_succ]); (try simp only [List.set_cons_zero])
              refine wpAnyH_done (by kernel_rfl) ?_ _
              refine NoPanic.normal ?_
              go_wp2
              go_meet
              case rel => exact ⟨w2.heap.size, rfl, by simpa using hs2, IsR.new w2 p1 p2, q2.below (b0 _), T2.below (b0 _), own_below O2 (b0 _), B2.alloc B2.size _⟩
            · go_simp
              refine hKc.out _ _ ?_ (fun hHeld => ?_)
              · (try dsimp only)
                refine ⟨?_, ?_, ?_, ?_, ?_, ?_⟩ <;> (repeat (with_reducible (first | exact c1 | exact c2 | exact c3 | exact c4 | exact c5 | exact c6 | refine cell_dr ?_ | refine cell_al _ ?_ | refine cell_stb ?_ ?_ | (show _ ≠ _; omega))))
              clear hKc Kc
              (try simp only [List.getElem_toArray]); (try simp only [List.getElem_cons_succ]); (try simp only [List.getElem_cons_zero]); (try simp only [Act.put]); (try simp only [List.setIfInBounds_toArray]); (try simp only [List.set_cons_succ]); (try simp only [List.set_cons_zero])
              refine wpAnyH_ready (rs := [13]) (by kernel_rfl) (by simp) (AllReadyH.cons rfl (fun Kc hKc => ?_) AllReadyH.nil)
              go_simp
              (go_at_call 50; refine (HM.out _ (IsK.below (IsK.below (by exact hK.out) ((Below.refl _ _).drew)) (b0 _))).mono ?_; rintro e w2 ⟨rfl, q2, g2⟩)
              have pP : IsR (wr.drew.alloc (.cells #[.int .i64 0, .int .i64 0] 24)) wr.heap.size 0 0 := by simpa using IsR.new wr.drew 0 0
              have pP := pP.grown g2 (by omega)
              have p0 := pP.c0
              have p1' := pP.c1
              have p2' := pP.f0
              have p3' := pP.f1
              have c1 := cell_g g2 (cell_al _ (cell_dr c1)) (by omega)
              have c2 := cell_g g2 (cell_al _ (cell_dr c2)) (by omega)
              have c3 := cell_g g2 (cell_al _ (cell_dr c3)) (by omega)
              have c4 := cell_g g2 (cell_al _ (cell_dr c4)) (by omega)
              have c5 := cell_g g2 (cell_al _ (cell_dr c5)) (by omega)
              have c6 := cell_g g2 (cell_al _ (cell_dr c6)) (by omega)
              have T2 := (Tab.below (Tab.below (by exact hT) ((Below.refl _ _).drew)) (b0 _)).g g2 (by omega)
              have O2 := own_g g2 (own_below (own_below (by exact hO) ((Below.refl _ _).drew)) (b0 _)) (by omega)
              have B2 : Below w.heap.size w w2 := ((hB.drew).alloc (by simpa using hB.size) _).trans (below_grownK g2 (by omega) (by have := hB.size; simp; omega))
              have hs2 := g2.size
              simp at hs2
              clear g2
              go_wp2_with fail
              refine hKc.out _ _ ?_ (fun hHeld => ?_)
              · (try dsimp only)
                refine ⟨?_, ?_, ?_, ?_, ?_, ?_⟩ <;> (repeat (with_reducible (first | exact c1 | exact c2 | exact c3 | exact c4 | exact c5 | exact c6 | refine cell_dr ?_ | refine cell_al _ ?_ | refine cell_stb ?_ ?_ | (show _ ≠ _; omega))))
              clear hKc Kc
              (try simp only [List.getElem_toArray]); (try simp only [List.getElem_cons_succ]); (try simp only [List.getElem_cons_zero]); (try simp only [Act.put]); (try simp only [List.setIfInBounds_toArray]); (try simp only [List.set_cons_succ]); (try simp only [List.set_cons_zero])
              refine wpAnyH_ready (rs := [15]) (by kernel_rfl) (by simp) (AllReadyH.cons rfl (fun Kc hKc => ?_) AllReadyH.nil)
              go_simp
              refine hKc.out _ _ ?_ (fun hHeld => ?_)
              · (try dsimp only)
                refine ⟨?_, ?_, ?_, ?_, ?_, ?_⟩ <;> (repeat (with_reducible (first | exact c1 | exact c2 | exact c3 | exact c4 | exact c5 | exact c6 | refine cell_dr ?_ | refine cell_al _ ?_ | refine cell_stb ?_ ?_ | (show _ ≠ _; omega))))
              clear hKc Kc
              (try simp only [List.getElem_toArray]); (try simp only [List.getElem_cons_succ]); (try simp only [List.getElem_cons_zero]); (try simp only [Act.put]); (try simp only [List.setIfInBounds_toArray]); (try simp only [List.set_cons_succ]); (try simp only [List.set_cons_zero])
              refine wpAnyH_done (by kernel_rfl) ?_ _
              refine NoPanic.normal ?_
              go_wp2
              go_meet
              case rel => exact ⟨wr.heap.size, rfl, Nat.le_refl _, (pP.set0 p1).set1 p2, (q2.other (by omega) 0 _).other (by omega) 1 _, (T2.st HUN.out.2 HUN.out.1 0 _).st HUN.out.2 HUN.out.1 1 _, own_st (own_st O2 HON.out 0 _) HON.out 1 _, (B2.setCell (p := ⟨wr.heap.size, 0, none⟩) hB.size _).setCell (p := ⟨wr.heap.size, 1, none⟩) hB.size _⟩
          case rest =>
            clear hO hT hK hB c1 c2 c3 c4 c5 c6 hsz HM hla hlr hlb hl2 hlK
            obtain ⟨Sb, rfl, hNS, hS, hK, hT, hO, hB⟩ := hcut
            have HUS : Hid (Under Sb o us) := HUN.out.le hNS
            have HOS : Hid (∀ b', r.ownBlock = some b' → b' < Sb) := fun b' e => Nat.lt_of_lt_of_le (HON.out b' e) hNS
            have hKSb : K < Sb := by omega
            have hSkSb : Sk ≤ Sb := by omega
            clear HUN HON hNS hbp
            have hS0 : IsR wc Sb (sdot (rw' a k) b j 0).1.1 (sdot (rw' a k) b j 0).1.2 := by rw [← HS0.out]; exact hS.out
            have hK0 : IsK wc K (bd || (sdot (rw' a k) b j 0).2) := by rw [← HS0.out]; exact hK.out
            go_wp2
            go_loopw [12] (fun i wr => ∃ n : Nat, n ≤ nb ∧ i = .int .i64 ((n : Int) + 1) ∧ Hid (IsR wr Sb (sdot (rw' a k) b j n).1.1 (sdot (rw' a k) b j n).1.2) ∧ Hid (IsK wr K (bd || (sdot (rw' a k) b j n).2)) ∧ Hid (Tab wr (K + 1) o us (timT a b k)) ∧ Hid (wr.ownsRow Sk 24 2 r j (cellsR (timRow a b k j))) ∧ Hid (Below w.heap.size w wr)) (fun i _ => (nb + 1) - (intOf i).toNat)
            case atStart => exact ⟨0, Nat.zero_le _, rfl, hS0, hK0, hT.out, hO.out, hB.out⟩
            case round =>
              clear hS hK hT hO hB hS0 hK0 HS0
              obtain ⟨n, hn, rfl, hS, hK, hT, hO, hB⟩ := hrel
              have hSbs := hS.out.lt
              by_cases hnn : n < nb
              · have hnb1 : n + 1 < b.length := by have := HNB.out; omega
                obtain ⟨b2, off2, cn, d0, d1, d2⟩ := HBR.out (n + 1) hnb1 j hjl
                obtain ⟨hx1, hx2⟩ := HR5.out (n + 1) (by have := HKr.out; omega)
                have c1 := cell_keep hB.out C1.out
                have c2 := cell_keep hB.out hx1
                have c3 := cell_keep hB.out hx2
                have c4 := cell_keep hB.out d0
                have c5 := cell_keep hB.out d1
                have c6 := cell_keep hB.out d2
                obtain ⟨q, hq⟩ : ∃ q, q = sdot (rw' a k) b j (n + 1) := ⟨_, rfl⟩
                have HQ : Hid (q = sdot (rw' a k) b j (n + 1)) := hq
                obtain ⟨x, hx⟩ : ∃ x, x = fr (rw' a k) (n + 1) := ⟨_, rfl⟩
                obtain ⟨y, hy⟩ : ∃ y, y = fr (rw' b (n + 1)) j := ⟨_, rfl⟩
                obtain ⟨s, hs⟩ : ∃ s, s = sdot (rw' a k) b j n := ⟨_, rfl⟩
                rw [show sdot (rw' a k) b j (n + 1) = (keepF (addK (sdot (rw' a k) b j n).1 (keepF (mulK (fr (rw' a k) (n + 1)) (fr (rw' b (n + 1)) j)) (mulP (fr (rw' a k) (n + 1)) (fr (rw' b (n + 1)) j)))) (addP (sdot (rw' a k) b j n).1 (keepF (mulK (fr (rw' a k) (n + 1)) (fr (rw' b (n + 1)) j)) (mulP (fr (rw' a k) (n + 1)) (fr (rw' b (n + 1)) j)))), (sdot (rw' a k) b j n).2 || !mulK (fr (rw' a k) (n + 1)) (fr (rw' b (n + 1)) j) || !addK (sdot (rw' a k) b j n).1 (keepF (mulK (fr (rw' a k) (n + 1)) (fr (rw' b (n + 1)) j)) (mulP (fr (rw' a k) (n + 1)) (fr (rw' b (n + 1)) j)))) from rfl, ← hx, ← hy, ← hs] at hq
                rw [← hx] at c2 c3
                rw [← hy] at c5 c6
                rw [← hs] at hS hK
                obtain ⟨x1, x2⟩ := x
                obtain ⟨y1, y2⟩ := y
                obtain ⟨⟨s1, s2⟩, so⟩ := s
                obtain ⟨mk, hmk⟩ : ∃ z, z = mulK (x1, x2) (y1, y2) := ⟨_, rfl⟩
                have HM0 : ∀ (W : World) (f : Bool), IsK W K f → _ := fun W f hW => kMul K f x1 x2 y1 y2 W hW
                obtain ⟨pp, hpp⟩ : ∃ z, z = keepF (mulK (x1, x2) (y1, y2)) (mulP (x1, x2) (y1, y2)) := ⟨_, rfl⟩
                rw [← hpp, ← hmk] at hq
                obtain ⟨p1, p2⟩ := pp
                obtain ⟨ak, hak⟩ : ∃ z, z = addK (s1, s2) (p1, p2) := ⟨_, rfl⟩
                obtain ⟨qq, hqq⟩ : ∃ z, z = keepF (addK (s1, s2) (p1, p2)) (addP (s1, s2) (p1, p2)) := ⟨_, rfl⟩
                dsimp only at hq
                rw [← hqq, ← hak] at hq
                obtain ⟨q1, q2⟩ := qq
                have HM : Hid (∀ W : World, IsK W K (bd || so) → Calls Try.prog 50 #[.pointer (some ⟨K, 0, none⟩), .agg #[.int .i64 x1, .int .i64 x2], .agg #[.int .i64 y1, .int .i64 y2]] W fun e w' => e = .returned (.agg #[.int .i64 p1, .int .i64 p2]) ∧ IsK w' K (bd || so || !mk) ∧ W.grownBy w' (some K)) := by
                  intro W hW
                  have := kMul K (bd || so) x1 x2 y1 y2 W hW
                  rw [← hpp, ← hmk] at this
                  exact this
                have HA : Hid (∀ W : World, IsK W K (bd || so || !mk) → Calls Try.prog 51 #[.pointer (some ⟨K, 0, none⟩), .agg #[.int .i64 s1, .int .i64 s2], .agg #[.int .i64 p1, .int .i64 p2]] W fun e w' => e = .returned (.agg #[.int .i64 q1, .int .i64 q2]) ∧ IsK w' K (bd || so || !mk || !ak) ∧ W.grownBy w' (some K)) := by
                  intro W hW
                  have := kAdd K (bd || so || !mk) s1 s2 p1 p2 W hW
                  rw [← hqq, ← hak] at this
                  exact this
                subst hq
                have hr0 := hS.out.c0
                have hr1 := hS.out.c1
                have hwK' : w.heap.size ≤ K := hwK
                have hSK : Sb ≠ K := by omega
                have hn0 : (0 : Int) ≤ (n : Int) + 1 := by omega
                have hla := World.block_lt_of_cell? w _ C1.out
                have hlr := World.block_lt_of_cell? w _ hx1
                have hlb := World.block_lt_of_cell? w _ d0
                have hl2 := World.block_lt_of_cell? w _ d1
                dsimp only at hla hlr hlb hl2
                dsimp only at c2 c3 c5 c6 hS hK
                clear hx hy hs hmk hpp hak hqq hx1 hx2 d0 d1 d2 HM0
                go_upto_region 16 with fail
                refine wp_region_noPanic ?_
                refine wp_region_held_drew (S := (fun w' => w'.cell? ⟨ba, offa + k, none⟩ = some (.slice (some ⟨br, offr, none⟩) Kr cr) ∧ w'.cell? ⟨br, offr + (n + 1) * 2, none⟩ = some (.int .i64 x1) ∧ w'.cell? ⟨br, offr + (n + 1) * 2 + 1, none⟩ = some (.int .i64 x2) ∧ w'.cell? ⟨bb, offb + (n + 1), none⟩ = some (.slice (some ⟨b2, off2, none⟩) L cn) ∧ w'.cell? ⟨b2, off2 + j * 2, none⟩ = some (.int .i64 y1) ∧ w'.cell? ⟨b2, off2 + j * 2 + 1, none⟩ = some (.int .i64 y2))) (by kernel_rfl) ?_ (fun hHeld => ?_)
                · (try dsimp only)
                  refine ⟨?_, ?_, ?_, ?_, ?_, ?_⟩ <;> (repeat (with_reducible (first | exact c1 | exact c2 | exact c3 | exact c4 | exact c5 | exact c6 | refine cell_dr ?_ | refine cell_al _ ?_ | refine cell_stb ?_ ?_ | (show _ ≠ _; omega))))
                refine wpAnyH_take (i := 0) (v := ?_) rfl (by kernel_rfl) (by kernel_rfl) (by kernel_rfl) (fun _ _ _ h => h) (Or.inl ⟨by kernel_rfl, ?_⟩) hHeld ?_
                rotate_left
                · intro wz hSw; (try dsimp only at hSw); go_simp; all_goals (try with_reducible rfl)
                (try simp only [List.getElem_toArray]); (try simp only [List.getElem_cons_succ]); (try simp only [List.getElem_cons_zero]); (try simp only [Act.put]); (try simp only [List.setIfInBounds_toArray]); (try simp only [List.set_cons_succ]); (try simp only [List.set_cons_zero])
                refine wpAnyH_take (i := 2) (v := ?_) rfl (by kernel_rfl) (by kernel_rfl) (by kernel_rfl) (fun _ _ _ h => h) (Or.inl ⟨by kernel_rfl, ?_⟩) hHeld ?_
                rotate_left
                · intro wz hSw; (try dsimp only at hSw); go_simp; all_goals (try with_reducible rfl)
                (try simp only [List.getElem_toArray]); (try simp only [List.getElem_cons_succ]); (try simp only [List.getElem_cons_zero]); (try simp only [Act.put]); (try simp only [List.setIfInBounds_toArray]); (try simp only [List.set_cons_succ]); (try simp only [List.set_cons_zero])
                refine wpAnyH_take (i := 3) (v := ?_) rfl (by kernel_rfl) (by kernel_rfl) (by kernel_rfl) (fun _ _ _ h => h) (Or.inl ⟨by kernel_rfl, ?_⟩) hHeld ?_
                rotate_left
                · intro wz hSw; (try dsimp only at hSw); go_simp; all_goals (try with_reducible rfl)
                (try simp only [List.getElem_toArray]); (try simp only [List.getElem_cons_succ]); (try simp only [List.getElem_cons_zero]); (try simp only [Act.put]); (try simp only [List.setIfInBounds_toArray]); (try simp only [List.set_cons_succ]); (try simp only [List.set_cons_zero])
                refine wpAnyH_take (i := 4) (v := ?_) rfl (by kernel_rfl) (by kernel_rfl) (by kernel_rfl) (fun _ _ _ h => h) (Or.inl ⟨by kernel_rfl, ?_⟩) hHeld ?_
                rotate_left
                · intro wz hSw; (try dsimp only at hSw); go_simp; all_goals (try with_reducible rfl)
                (try simp only [List.getElem_toArray]); (try simp only [List.getElem_cons_succ]); (try simp only [List.getElem_cons_zero]); (try simp only [Act.put]); (try simp only [List.setIfInBounds_toArray]); (try simp only [List.set_cons_succ]); (try simp only [List.set_cons_zero])
                refine wpAnyH_take (i := 5) (v := ?_) rfl (by kernel_rfl) (by kernel_rfl) (by kernel_rfl) (fun _ _ _ h => h) (Or.inl ⟨by kernel_rfl, ?_⟩) hHeld ?_
                rotate_left
                · intro wz hSw; (try dsimp only at hSw); go_simp; all_goals (try with_reducible rfl)
                (try simp only [List.getElem_toArray]); (try simp only [List.getElem_cons_succ]); (try simp only [List.getElem_cons_zero]); (try simp only [Act.put]); (try simp only [List.setIfInBounds_toArray]); (try simp only [List.set_cons_succ]); (try simp only [List.set_cons_zero])
                refine wpAnyH_take (i := 6) (v := ?_) rfl (by kernel_rfl) (by kernel_rfl) (by kernel_rfl) (fun _ _ _ h => h) (Or.inl ⟨by kernel_rfl, ?_⟩) hHeld ?_
                rotate_left
                · intro wz hSw; (try dsimp only at hSw); go_simp; all_goals (try with_reducible rfl)
                (try simp only [List.getElem_toArray]); (try simp only [List.getElem_cons_succ]); (try simp only [List.getElem_cons_zero]); (try simp only [Act.put]); (try simp only [List.setIfInBounds_toArray]); (try simp only [List.set_cons_succ]); (try simp only [List.set_cons_zero])
                refine wpAnyH_take (i := 7) (v := ?_) rfl (by kernel_rfl) (by kernel_rfl) (by kernel_rfl) (fun _ _ _ h => h) (Or.inl ⟨by kernel_rfl, ?_⟩) hHeld ?_
                rotate_left
                · intro wz hSw; (try dsimp only at hSw); go_simp; all_goals (try with_reducible rfl)
                (try simp only [List.getElem_toArray]); (try simp only [List.getElem_cons_succ]); (try simp only [List.getElem_cons_zero]); (try simp only [Act.put]); (try simp only [List.setIfInBounds_toArray]); (try simp only [List.set_cons_succ]); (try simp only [List.set_cons_zero])
                refine wpAnyH_take (i := 8) (v := ?_) rfl (by kernel_rfl) (by kernel_rfl) (by kernel_rfl) (fun _ _ _ h => h) (Or.inl ⟨by kernel_rfl, ?_⟩) hHeld ?_
                rotate_left
                · intro wz hSw; (try dsimp only at hSw); go_simp; all_goals (try with_reducible rfl)
                (try simp only [List.getElem_toArray]); (try simp only [List.getElem_cons_succ]); (try simp only [List.getElem_cons_zero]); (try simp only [Act.put]); (try simp only [List.setIfInBounds_toArray]); (try simp only [List.set_cons_succ]); (try simp only [List.set_cons_zero])
                refine wpAnyH_take (i := 9) (v := ?_) rfl (by kernel_rfl) (by kernel_rfl) (by kernel_rfl) (fun _ _ _ h => h) (Or.inl ⟨by kernel_rfl, ?_⟩) hHeld ?_
                rotate_left
                · intro wz hSw; (try dsimp only at hSw); go_simp; all_goals (try with_reducible rfl)
                (try simp only [List.getElem_toArray]); (try simp only [List.getElem_cons_succ]); (try simp only [List.getElem_cons_zero]); (try simp only [Act.put]); (try simp only [List.setIfInBounds_toArray]); (try simp only [List.set_cons_succ]); (try simp only [List.set_cons_zero])
                refine wpAnyH_take (i := 10) (v := ?_) rfl (by kernel_rfl) (by kernel_rfl) (by kernel_rfl) (fun _ _ _ h => h) (Or.inl ⟨by kernel_rfl, ?_⟩) hHeld ?_
                rotate_left
                · intro wz hSw; (try dsimp only at hSw); go_simp; all_goals (try with_reducible rfl)
                (try simp only [List.getElem_toArray]); (try simp only [List.getElem_cons_succ]); (try simp only [List.getElem_cons_zero]); (try simp only [Act.put]); (try simp only [List.setIfInBounds_toArray]); (try simp only [List.set_cons_succ]); (try simp only [List.set_cons_zero])
                refine wpAnyH_take (i := 11) (v := ?_) rfl (by kernel_rfl) (by kernel_rfl) (by kernel_rfl) (fun _ _ _ h => h) (Or.inl ⟨by kernel_rfl, ?_⟩) hHeld ?_
                rotate_left
                · intro wz hSw; (try dsimp only at hSw); go_simp; all_goals (try with_reducible rfl)
                (try simp only [List.getElem_toArray]); (try simp only [List.getElem_cons_succ]); (try simp only [List.getElem_cons_zero]); (try simp only [Act.put]); (try simp only [List.setIfInBounds_toArray]); (try simp only [List.set_cons_succ]); (try simp only [List.set_cons_zero])
                refine wpAnyH_take (i := 12) (v := ?_) rfl (by kernel_rfl) (by kernel_rfl) (by kernel_rfl) (fun _ _ _ h => h) (Or.inl ⟨by kernel_rfl, ?_⟩) hHeld ?_
                rotate_left
                · intro wz hSw; (try dsimp only at hSw); go_simp; all_goals (try with_reducible rfl)
                (try simp only [List.getElem_toArray]); (try simp only [List.getElem_cons_succ]); (try simp only [List.getElem_cons_zero]); (try simp only [Act.put]); (try simp only [List.setIfInBounds_toArray]); (try simp only [List.set_cons_succ]); (try simp only [List.set_cons_zero])
                refine wpAnyH_take (i := 13) (v := ?_) rfl (by kernel_rfl) (by kernel_rfl) (by kernel_rfl) (fun _ _ _ h => h) (Or.inl ⟨by kernel_rfl, ?_⟩) hHeld ?_
                rotate_left
                · intro wz hSw; (try dsimp only at hSw); go_simp; all_goals (try with_reducible rfl)
                (try simp only [List.getElem_toArray]); (try simp only [List.getElem_cons_succ]); (try simp only [List.getElem_cons_zero]); (try simp only [Act.put]); (try simp only [List.setIfInBounds_toArray]); (try simp only [List.set_cons_succ]); (try simp only [List.set_cons_zero])
                refine wpAnyH_take (i := 14) (v := ?_) rfl (by kernel_rfl) (by kernel_rfl) (by kernel_rfl) (fun _ _ _ h => h) (Or.inl ⟨by kernel_rfl, ?_⟩) hHeld ?_
                rotate_left
                · intro wz hSw; (try dsimp only at hSw); go_simp; all_goals (try with_reducible rfl)
                (try simp only [List.getElem_toArray]); (try simp only [List.getElem_cons_succ]); (try simp only [List.getElem_cons_zero]); (try simp only [Act.put]); (try simp only [List.setIfInBounds_toArray]); (try simp only [List.set_cons_succ]); (try simp only [List.set_cons_zero])
                refine wpAnyH_take (i := 15) (v := ?_) rfl (by kernel_rfl) (by kernel_rfl) (by kernel_rfl) (fun _ _ _ h => h) (Or.inl ⟨by kernel_rfl, ?_⟩) hHeld ?_
                rotate_left
                · intro wz hSw; (try dsimp only at hSw); go_simp; all_goals (try with_reducible rfl)
                (try simp only [List.getElem_toArray]); (try simp only [List.getElem_cons_succ]); (try simp only [List.getElem_cons_zero]); (try simp only [Act.put]); (try simp only [List.setIfInBounds_toArray]); (try simp only [List.set_cons_succ]); (try simp only [List.set_cons_zero])
                refine wpAnyH_take (i := 16) (v := ?_) rfl (by kernel_rfl) (by kernel_rfl) (by kernel_rfl) (fun _ _ _ h => h) (Or.inl ⟨by kernel_rfl, ?_⟩) hHeld ?_
                rotate_left
                · intro wz hSw; (try dsimp only at hSw); go_simp; all_goals (try with_reducible rfl)
                (try simp only [List.getElem_toArray]); (try simp only [List.getElem_cons_succ]); (try simp only [List.getElem_cons_zero]); (try simp only [Act.put]); (try simp only [List.setIfInBounds_toArray]); (try simp only [List.set_cons_succ]); (try simp only [List.set_cons_zero])
                refine wpAnyH_ready (rs := [1, 17]) (by kernel_rfl) (by simp) (AllReadyH.cons rfl (fun Kc hKc => ?_) (AllReadyH.cons rfl (fun Kc hKc => ?_) AllReadyH.nil))
                · go_simp
                  refine hKc.out _ _ ?_ (fun hHeld => ?_)
                  · (try dsimp only)
                    refine ⟨?_, ?_, ?_, ?_, ?_, ?_⟩ <;> (repeat (with_reducible (first | exact c1 | exact c2 | exact c3 | exact c4 | exact c5 | exact c6 | refine cell_dr ?_ | refine cell_al _ ?_ | refine cell_stb ?_ ?_ | (show _ ≠ _; omega))))
                  clear hKc Kc
                  (try simp only [List.getElem_toArray]); (try simp only [List.getElem_cons_succ]); (try simp only [List.getElem_cons_zero]); (try simp only [Act.put]); (try simp only [List.setIfInBounds_toArray]); (try simp only [List.set_cons_succ]); (try simp only [List.set_cons_zero])
                  refine wpAnyH_ready (rs := [17]) (by kernel_rfl) (by simp) (AllReadyH.cons rfl (fun Kc hKc => ?_) AllReadyH.nil)
                  go_simp
                  (go_at_call 50; refine (HM.out _ (IsK.below (by exact hK.out) ((Below.refl _ _).drew))).mono ?_; rintro e w2 ⟨rfl, k2, g2⟩)
                  have c1 := cell_g g2 c1 (by omega)
                  have c2 := cell_g g2 c2 (by omega)
                  have c3 := cell_g g2 c3 (by omega)
                  have c4 := cell_g g2 c4 (by omega)
                  have c5 := cell_g g2 c5 (by omega)
                  have c6 := cell_g g2 c6 (by omega)
                  have T2 := (Tab.below (by exact hT.out) ((Below.refl _ _).drew)).g g2 (by omega)
                  have O2 := own_g g2 (own_below (by exact hO.out) ((Below.refl _ _).drew)) hKS
                  have S2 : IsR w2 Sb s1 s2 := IsR.grown (by exact hS.out) g2 hSK
                  have B2 : Below w.heap.size w w2 := (hB.out.drew).trans (below_grownK g2 hwK' (by simpa using hB.out.size))
                  have e0 := S2.c0
                  have e1 := S2.c1
                  clear g2
                  go_wp2_with fail
                  refine hKc.out _ _ ?_ (fun hHeld => ?_)
                  · (try dsimp only)
                    refine ⟨?_, ?_, ?_, ?_, ?_, ?_⟩ <;> (repeat (with_reducible (first | exact c1 | exact c2 | exact c3 | exact c4 | exact c5 | exact c6 | refine cell_dr ?_ | refine cell_al _ ?_ | refine cell_stb ?_ ?_ | (show _ ≠ _; omega))))
                  clear hKc Kc
                  (try simp only [List.getElem_toArray]); (try simp only [List.getElem_cons_succ]); (try simp only [List.getElem_cons_zero]); (try simp only [Act.put]); (try simp only [List.setIfInBounds_toArray]); (try simp only [List.set_cons_succ]); (try simp only [List.set_cons_zero])
                  refine wpAnyH_ready (rs := [18]) (by kernel_rfl) (by simp) (AllReadyH.cons rfl (fun Kc hKc => ?_) AllReadyH.nil)
                  go_simp
                  (go_at_call 51; refine (HA.out _ (by exact k2)).mono ?_; rintro e w3 ⟨rfl, k3, g2⟩)
                  have c1 := cell_g g2 c1 (by omega)
                  have c2 := cell_g g2 c2 (by omega)
                  have c3 := cell_g g2 c3 (by omega)
                  have c4 := cell_g g2 c4 (by omega)
                  have c5 := cell_g g2 c5 (by omega)
                  have c6 := cell_g g2 c6 (by omega)
                  have T3 := T2.g g2 (by omega)
                  have O3 := own_g g2 O2 hKS
                  have S3 : IsR w3 Sb s1 s2 := IsR.grown S2 g2 hSK
                  have B3 : Below w.heap.size w w3 := B2.trans (below_grownK g2 hwK' B2.size)
                  have i0' := S3.c0
                  have i1' := S3.c1
                  have i2' := S3.f0
                  have i3' := S3.f1
                  clear g2
                  go_wp2_with fail
                  refine hKc.out _ _ ?_ (fun hHeld => ?_)
                  · (try dsimp only)
                    refine ⟨?_, ?_, ?_, ?_, ?_, ?_⟩ <;> (repeat (with_reducible (first | exact c1 | exact c2 | exact c3 | exact c4 | exact c5 | exact c6 | refine cell_dr ?_ | refine cell_al _ ?_ | refine cell_stb ?_ ?_ | (show _ ≠ _; omega))))
                  clear hKc Kc
                  (try simp only [List.getElem_toArray]); (try simp only [List.getElem_cons_succ]); (try simp only [List.getElem_cons_zero]); (try simp only [Act.put]); (try simp only [List.setIfInBounds_toArray]); (try simp only [List.set_cons_succ]); (try simp only [List.set_cons_zero])
                  refine wpAnyH_ready (rs := [19]) (by kernel_rfl) (by simp) (AllReadyH.cons rfl (fun Kc hKc => ?_) AllReadyH.nil)
                  go_simp
                  refine hKc.out _ _ ?_ (fun hHeld => ?_)
                  · (try dsimp only)
                    refine ⟨?_, ?_, ?_, ?_, ?_, ?_⟩ <;> (repeat (with_reducible (first | exact c1 | exact c2 | exact c3 | exact c4 | exact c5 | exact c6 | refine cell_dr ?_ | refine cell_al _ ?_ | refine cell_stb ?_ ?_ | (show _ ≠ _; omega))))
                  clear hKc Kc
                  (try simp only [List.getElem_toArray]); (try simp only [List.getElem_cons_succ]); (try simp only [List.getElem_cons_zero]); (try simp only [Act.put]); (try simp only [List.setIfInBounds_toArray]); (try simp only [List.set_cons_succ]); (try simp only [List.set_cons_zero])
                  refine wpAnyH_done (by kernel_rfl) ?_ _
                  refine NoPanic.normal ?_
                  go_wp2
                  go_roundw
                  case rel =>
                    refine ⟨n + 1, by omega, by go_num, ?_, ?_, (T3.st HUS.out.2 HUS.out.1 0 _).st HUS.out.2 HUS.out.1 1 _, own_st (own_st O3 HOS.out 0 _) HOS.out 1 _, (B3.setCell (p := ⟨Sb, 0, none⟩) (by show _ ≤ Sb; omega) _).setCell (p := ⟨Sb, 1, none⟩) (by show _ ≤ Sb; omega) _⟩
                    · show IsR _ _ _ _
                      rw [← HQ.out]
                      exact (S3.set0 _).set1 _
                    · show IsK _ _ _
                      rw [← HQ.out]
                      have := (k3.other hSK.symm 0 (.int .i64 q1)).other hSK.symm 1 (.int .i64 q2)
                      simpa [Bool.or_assoc] using this
                  case measure => simp [intOf]; omega
                · go_simp
                  (go_at_call 50; refine (HM.out _ (IsK.below (by exact hK.out) ((Below.refl _ _).drew))).mono ?_; rintro e w2 ⟨rfl, k2, g2⟩)
                  have c1 := cell_g g2 c1 (by omega)
                  have c2 := cell_g g2 c2 (by omega)
                  have c3 := cell_g g2 c3 (by omega)
                  have c4 := cell_g g2 c4 (by omega)
                  have c5 := cell_g g2 c5 (by omega)
                  have c6 := cell_g g2 c6 (by omega)
                  have T2 := (Tab.below (by exact hT.out) ((Below.refl _ _).drew)).g g2 (by omega)
                  have O2 := own_g g2 (own_below (by exact hO.out) ((Below.refl _ _).drew)) hKS
                  have S2 : IsR w2 Sb s1 s2 := IsR.grown (by exact hS.out) g2 hSK
                  have B2 : Below w.heap.size w w2 := (hB.out.drew).trans (below_grownK g2 hwK' (by simpa using hB.out.size))
                  have e0 := S2.c0
                  have e1 := S2.c1
                  clear g2
                  go_wp2_with fail
                  refine hKc.out _ _ ?_ (fun hHeld => ?_)
                  · (try dsimp only)
                    refine ⟨?_, ?_, ?_, ?_, ?_, ?_⟩ <;> (repeat (with_reducible (first | exact c1 | exact c2 | exact c3 | exact c4 | exact c5 | exact c6 | refine cell_dr ?_ | refine cell_al _ ?_ | refine cell_stb ?_ ?_ | (show _ ≠ _; omega))))
                  clear hKc Kc
                  (try simp only [List.getElem_toArray]); (try simp only [List.getElem_cons_succ]); (try simp only [List.getElem_cons_zero]); (try simp only [Act.put]); (try simp only [List.setIfInBounds_toArray]); (try simp only [List.set_cons_succ]); (try simp only [List.set_cons_zero])
                  refine wpAnyH_ready (rs := [1]) (by kernel_rfl) (by simp) (AllReadyH.cons rfl (fun Kc hKc => ?_) AllReadyH.nil)
                  go_simp
                  refine hKc.out _ _ ?_ (fun hHeld => ?_)
                  · (try dsimp only)
                    refine ⟨?_, ?_, ?_, ?_, ?_, ?_⟩ <;> (repeat (with_reducible (first | exact c1 | exact c2 | exact c3 | exact c4 | exact c5 | exact c6 | refine cell_dr ?_ | refine cell_al _ ?_ | refine cell_stb ?_ ?_ | (show _ ≠ _; omega))))
                  clear hKc Kc
                  (try simp only [List.getElem_toArray]); (try simp only [List.getElem_cons_succ]); (try simp only [List.getElem_cons_zero]); (try simp only [Act.put]); (try simp only [List.setIfInBounds_toArray]); (try simp only [List.set_cons_succ]); (try simp only [List.set_cons_zero])
                  refine wpAnyH_ready (rs := [18]) (by kernel_rfl) (by simp) (AllReadyH.cons rfl (fun Kc hKc => ?_) AllReadyH.nil)
                  go_simp
                  (go_at_call 51; refine (HA.out _ (by exact k2)).mono ?_; rintro e w3 ⟨rfl, k3, g2⟩)
                  have c1 := cell_g g2 c1 (by omega)
                  have c2 := cell_g g2 c2 (by omega)
                  have c3 := cell_g g2 c3 (by omega)
                  have c4 := cell_g g2 c4 (by omega)
                  have c5 := cell_g g2 c5 (by omega)
                  have c6 := cell_g g2 c6 (by omega)
                  have T3 := T2.g g2 (by omega)
                  have O3 := own_g g2 O2 hKS
                  have S3 : IsR w3 Sb s1 s2 := IsR.grown S2 g2 hSK
                  have B3 : Below w.heap.size w w3 := B2.trans (below_grownK g2 hwK' B2.size)
                  have i0' := S3.c0
                  have i1' := S3.c1
                  have i2' := S3.f0
                  have i3' := S3.f1
                  clear g2
                  go_wp2_with fail
                  refine hKc.out _ _ ?_ (fun hHeld => ?_)
                  · (try dsimp only)
                    refine ⟨?_, ?_, ?_, ?_, ?_, ?_⟩ <;> (repeat (with_reducible (first | exact c1 | exact c2 | exact c3 | exact c4 | exact c5 | exact c6 | refine cell_dr ?_ | refine cell_al _ ?_ | refine cell_stb ?_ ?_ | (show _ ≠ _; omega))))
                  clear hKc Kc
                  (try simp only [List.getElem_toArray]); (try simp only [List.getElem_cons_succ]); (try simp only [List.getElem_cons_zero]); (try simp only [Act.put]); (try simp only [List.setIfInBounds_toArray]); (try simp only [List.set_cons_succ]); (try simp only [List.set_cons_zero])
                  refine wpAnyH_ready (rs := [19]) (by kernel_rfl) (by simp) (AllReadyH.cons rfl (fun Kc hKc => ?_) AllReadyH.nil)
                  go_simp
                  refine hKc.out _ _ ?_ (fun hHeld => ?_)
                  · (try dsimp only)
                    refine ⟨?_, ?_, ?_, ?_, ?_, ?_⟩ <;> (repeat (with_reducible (first | exact c1 | exact c2 | exact c3 | exact c4 | exact c5 | exact c6 | refine cell_dr ?_ | refine cell_al _ ?_ | refine cell_stb ?_ ?_ | (show _ ≠ _; omega))))
                  clear hKc Kc
                  (try simp only [List.getElem_toArray]); (try simp only [List.getElem_cons_succ]); (try simp only [List.getElem_cons_zero]); (try simp only [Act.put]); (try simp only [List.setIfInBounds_toArray]); (try simp only [List.set_cons_succ]); (try simp only [List.set_cons_zero])
                  refine wpAnyH_done (by kernel_rfl) ?_ _
                  refine NoPanic.normal ?_
                  go_wp2
                  go_roundw
                  case rel =>
                    refine ⟨n + 1, by omega, by go_num, ?_, ?_, (T3.st HUS.out.2 HUS.out.1 0 _).st HUS.out.2 HUS.out.1 1 _, own_st (own_st O3 HOS.out 0 _) HOS.out 1 _, (B3.setCell (p := ⟨Sb, 0, none⟩) (by show _ ≤ Sb; omega) _).setCell (p := ⟨Sb, 1, none⟩) (by show _ ≤ Sb; omega) _⟩
                    · show IsR _ _ _ _
                      rw [← HQ.out]
                      exact (S3.set0 _).set1 _
                    · show IsK _ _ _
                      rw [← HQ.out]
                      have := (k3.other hSK.symm 0 (.int .i64 q1)).other hSK.symm 1 (.int .i64 q2)
                      simpa [Bool.or_assoc] using this
                  case measure => simp [intOf]; omega
              · obtain rfl : n = nb := by omega
                have hnl : ¬ ((n : Int) + 1 < b.length) := by have := HNB.out; omega
                obtain ⟨s, hs⟩ : ∃ s, s = sdot (rw' a k) b j n := ⟨_, rfl⟩
                have HSE : Hid (s = timE a b k j) := by show _ = _; rw [HE.out]; exact hs
                rw [← hs] at hS hK
                clear hs
                obtain ⟨⟨s1, s2⟩, so⟩ := s
                have hr0 := hS.out.c0
                have hr1 := hS.out.c1
                have hsz := hB.out.size
                have hSks : Sk ≤ wr.heap.size := by omega
                have hjm : j + 1 ≤ maxLen := by unfold maxLen; omega
                go_wp2_with (at_builtin; refine wpList_append_own _ rfl _ _ 63 rfl Sk 24 i0 (.agg #[.int .i64 0, .int .i64 0]) 2 16 Try.underlying63 hi hz0 hz1 hz2 rfl (by decide) _ _ _ rfl (hO.out.alloc _) ⟨wr.heap.size, 0, none⟩ 1 1 [.int .i64 s1, .int .i64 s2] rfl rfl (cell_twoF _ _ _ _) (by intro u hu; simp at hu; rcases hu with rfl | rfl <;> rfl) (by omega) (by omega) (by simp; omega) ?_; intro v' w5 hown' hgrow _)
                go_roundw
                case rel =>
                  have hbl : ∀ b', r.ownBlock = some b' → Sk ≤ b' := fun b' e => (World.ownsRow.lt hO.out b' e).1
                  have T5 := (hT.out.below (b0 (.cells #[.int .i64 s1, .int .i64 s2] 24))).kept hgrow (fun q e h2 => by have := hbl q e; have := HU.out.1 q h2; omega) (fun i hi q e h2 => by have := hbl q e; have := HU.out.2 i hi q h2; omega)
                  have K5 := (hK.out.below (b0 (.cells #[.int .i64 s1, .int .i64 s2] 24))).grownO hgrow (fun e => by have := hbl K e; omega)
                  refine ⟨v', j + 1, by omega, by go_num, rfl, ?_, T5, ?_, hB.out.trans ((below_appended hO.out hSks hgrow).mono (by omega)), by have := hgrow.size; simp at this; omega⟩
                  · show World.ownsRow _ _ _ _ _ _ _
                    rw [timRow_succ, cellsR_append, ← HSE.out]
                    exact hown'
                  · show IsK _ _ _
                    rw [badR_succ, ← HSE.out]
                    have := K5
                    rw [HBD.out] at this
                    simpa [Bool.or_assoc] using this
                case measure => simp [intOf]; omega
        · obtain rfl : j = L := by omega
          obtain ⟨pr', cr', rfl⟩ := own_shape hO.out
          have hjm : us.length + 1 ≤ maxLen := by unfold maxLen; omega
          have hKs1 : K + 1 ≤ wr.heap.size := hK.out.lt
          have hul := hus
          go_wp2_with (at_builtin; refine wpList_append_own _ rfl _ _ 35 rfl (K + 1) 63 t0 (.slice none 0 0) 1 24 Try.underlying35 hti htz0 htz1 htz2 rfl (by decide) _ _ _ rfl (hT.out.outer.alloc _) ⟨wr.heap.size, 0, none⟩ 1 1 [.slice pr' j cr'] rfl rfl (cell_one_new _ _ _) (by simp [Value.oneCell']) (by omega) (by omega) (by simp; omega) ?_; intro v' w5 hown' hgrow _)
          go_roundw
          case rel =>
            have hle : (timRow a b k j).length = j := timRow_len _ _ _ _
            have T5 := hT.out.append (ps := timRow a b k j) (u := .slice pr' j cr') (own_le (by rw [hle]; exact hO.out) (by omega)) (fun i hi b' e h2 => by
              have h1 := HU.out.2 i hi b' e
              have h3 := (World.ownsRow.lt hO.out b' h2).1
              omega) hown' hgrow
            have K5 := (hK.out.below (b0 (.cells #[.slice pr' j cr'] 63))).grownO hgrow (fun e => by have := (hT.out.outer.lt K e).1; omega)
            refine ⟨v', k + 1, us ++ [.slice pr' j cr'], by omega, by go_num, rfl, by simp [hus], ?_, ?_, hB.out.trans ((below_appended hT.out.outer hKs1 hgrow).mono (by omega))⟩
            · show Tab _ _ _ _ _
              rw [timT_succ, ← HL.out]
              exact T5
            · show IsK _ _ _
              rw [badT_succ, ← HL.out]
              exact K5
          case measure => simp [intOf]; omega
    · obtain rfl : k = a.length := by omega
      obtain ⟨f, hf⟩ : ∃ f, f = badT' a b a.length := ⟨_, rfl⟩
      have HF : Hid (f = badT' a b a.length) := hf
      rw [← hf] at hKf
      have hkc := hKf.out.cell
      clear hf
      cases f
      · have HO : Hid (timO a b = true) := by show _ = _; unfold timO; rw [HC.out, ← HF.out]; rfl
        have HAN : Hid (timA a b = timT a b a.length) := timA_yes HO.out
        go_wp2
        refine bodyPost_ret (v := .tuple #[o, .bool true]) (by simp [results, Try.results20, go_sem]) rfl ⟨o, us, ret_tb HO.out.symm, ?_, hB.out⟩
        rw [HAN.out]
        exact hT.out.le (by omega)
      · have HO : Hid (timO a b = false) := by show _ = _; unfold timO; rw [HC.out, ← HF.out]; rfl
        have HAN : Hid (timA a b = []) := timA_no HO.out
        go_wp2
        refine bodyPost_ret (v := .tuple #[.slice (some ⟨wr.heap.size, 0, none⟩) 0 0, .bool false]) (by simp [results, Try.results20, go_sem]) rfl ⟨.slice (some ⟨wr.heap.size, 0, none⟩) 0 0, [], ret_tb HO.out.symm, ?_, hB.out.alloc hsz _⟩
        rw [HAN.out]
        exact Tab.lit hsz
end Go.Proofs.Ytkcdpjcfbpjkeai
