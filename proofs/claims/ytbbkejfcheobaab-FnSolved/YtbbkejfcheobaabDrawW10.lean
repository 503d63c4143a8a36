/- A table of fractions that is drawn. -/
import Derived.Test.YtbbkejfcheobaabDrawW9
import Derived.Test.YtbbkejfcheobaabEchW3
namespace Go.Proofs.Ytbbkejfcheobaab
open Go.RowKit Go.Proofs.Ytbbkejfcheobaab.RM

/-- a row's cells as what is appended -/
theorem own_newsF {W : World} {base g n c : Nat} {ps : List Fr} (h : W.ownsRow base 25 2 (.slice (some ⟨g, 0, none⟩) n c) n (cellsR ps)) (hl : ps.length = n) : ∀ j u, (cellsR ps)[j]? = some u → W.cell? ((⟨g, 0, none⟩ : Addr).add j) = some u := by
  intro j u hu
  have hj : j < (cellsR ps).length := by
    apply Classical.byContradiction
    intro hn
    rw [List.getElem?_eq_none (by omega)] at hu
    cases hu
  rw [cellsR_len] at hj
  have := h.cellAt j (by omega)
  rw [hu] at this
  by_cases h0 : j = 0
  · subst h0; exact this
  · simpa [Addr.add, h0] using this
theorem cell_keep' {W W' : World} (hb : Below W.heap.size W W') {a : Addr} {v : Value} (h : W.cell? a = some v) : W'.cell? a = some v :=
  (hb.cell (p := a) (World.block_lt_of_cell? W _ h)).trans h
theorem cellTwo (w : World) (S : Nat) (a b : Value) (t : TypeId) (h : S = w.heap.size) : ∀ j u, [a, b][j]? = some u → (w.alloc (.cells #[a, b] t)).cell? ((⟨S, 0, none⟩ : Addr).add j) = some u := by
  subst h; exact cell_twoF w a b t
/-- the rows are that long -/
def AllL (T : List (List Fr)) (L : Nat) : Prop := ∀ x, x < T.length → (rw' T x).length = L

set_option maxRecDepth 100000 in
set_option maxHeartbeats 4000000 in
theorem dTab_any (cb rows cols : Nat) (a : Option Addr) (len cap : Nat) (zs : List Int) (w : World) (hc : Cur w cb a len cap zs) (hr1 : rows ≤ 100) (hc0 : 1 ≤ cols) (hc1 : cols ≤ 100) :
    Calls Try.prog 91 #[.pointer (some ⟨cb, 0, none⟩), .int .i64 rows, .int .i64 cols] w fun e w' => ∃ (v : Value) (us : List Value) (T : List (List Fr)), e = .returned v ∧ Tab w' w.heap.size v us T ∧ T.length = rows ∧ AllL T cols ∧ Cur w' cb a len cap zs ∧ Ex cb w w' := by
  obtain ⟨i0, hi, hz0, hz1, hz2⟩ := info_parts infoF
  obtain ⟨t0, hti, htz0, htz1, htz2⟩ := info_parts infoT
  have b0 : ∀ (u : World) (o : Obj), Below u.heap.size u (u.alloc o) := fun u o => (Below.refl _ _).alloc (Nat.le_refl _) o
  have hlt := hc.lt
  have HROW : Hid (∀ b off, a = some ⟨b, off, none⟩ → 0 < zs.length → b < w.heap.size) := hc.2.1.lt
  have HC : Hid (Cur w cb a len cap zs) := hc
  clear hc
  go_enter Try.func91, Try.ntmps91
  go_wp2
  have o0 : Tab (w.alloc (.cells #[] 44)) w.heap.size (.slice (some ⟨w.heap.size, 0, none⟩) 0 0) [] [] := Tab.lit (Nat.le_refl _)
  have C0 : Cur (w.alloc (.cells #[] 44)) cb a len cap zs := HC.out.below (b0 _ _)
  have E0 : Ex cb w (w.alloc (.cells #[] 44)) := (Ex.refl cb w).alloc _
  go_loopw [7, 1] (fun q0 i wr => ∃ (o : Value) (us : List Value) (T : List (List Fr)) (m : Nat), o = q0 ∧ i = .int .i64 m ∧ T.length + m = rows ∧ us.length = T.length ∧ Hid (AllL T cols) ∧ Hid (Tab wr w.heap.size o us T) ∧ Hid (Cur wr cb a len cap zs) ∧ Hid (Ex cb w wr)) (fun _ i _ => (intOf i).toNat)
  case atStart => exact ⟨_, [], [], rows, rfl, rfl, by simp, rfl, fun x hx => absurd hx (by simp), o0, C0, E0⟩
  case round =>
    clear o0 C0 E0 HC
    obtain ⟨o, us, T, m, rfl, rfl, hm0, hus, hAL, hT, HC, HE⟩ := hrel
    have hsz := HE.out.size
    by_cases hmz : 0 < m
    · have hmi : (0 : Int) < (m : Int) := by omega
      go_upto_region 6 with fail
      obtain ⟨Sk, hSk⟩ : ∃ g, g = wr.heap.size := ⟨_, rfl⟩
      obtain ⟨X, hX⟩ : ∃ X, X = wr.alloc (.cells #[] 25) := ⟨_, rfl⟩
      have o1 : X.ownsRow Sk 25 2 (.slice (some ⟨Sk, 0, none⟩) 0 0) 0 (cellsR []) := by rw [hX, hSk]; exact ⟨rfl, .inr ⟨wr.heap.size, 0, #[], rfl, Nat.le_refl _, World.alloc_heap_new wr _, Nat.le_refl _, Nat.zero_le _, rfl, rfl⟩⟩
      have C1 : Cur X cb a len cap zs := by rw [hX]; exact HC.out.below (b0 _ _)
      have E1 : Ex cb w X := by rw [hX]; exact HE.out.alloc _
      have T1 : Tab X w.heap.size o us T := by rw [hX]; exact hT.out.below (b0 _ _)
      have U1 : Hid (Under Sk o us) := by rw [hSk]; exact hT.out.under
      have hwS : w.heap.size ≤ Sk := by omega
      have hXS : Sk + 1 ≤ X.heap.size := by rw [hX, hSk]; simp
      rw [← hX, ← hSk]
      clear hX hSk hT HC HE hsz
      go_loopw [8, 9] (fun q0 i wr => ∃ (q : Value) (ps : List Fr) (k : Nat), q = q0 ∧ i = .int .i64 k ∧ k ≤ cols ∧ ps.length = k ∧ Hid (wr.ownsRow Sk 25 2 q k (cellsR ps)) ∧ Hid (Tab wr w.heap.size o us T) ∧ Hid (Cur wr cb a len cap zs) ∧ Hid (Ex cb w wr) ∧ Sk + 1 ≤ wr.heap.size) (fun _ i _ => cols - (intOf i).toNat)
      case atStart => exact ⟨_, [], 0, rfl, rfl, by omega, rfl, o1, T1, C1, E1, hXS⟩
      case round =>
        clear o1 C1 E1 T1 hXS
        obtain ⟨q, ps, k, rfl, rfl, hk, hpl, hO, hT, HC, HE, hXS⟩ := hrel
        by_cases hlt2 : k < cols
        · have hki : ((k : Nat) : Int) < (cols : Int) := by omega
          have hkm : k + 1 ≤ maxLen := by unfold maxLen; omega
          go_wp2_with fail
          refine (zero_any _).mono ?_
          rintro e w4 ⟨rfl, hb4⟩
          obtain ⟨Z, hZ⟩ : ∃ g, g = w4.heap.size := ⟨_, rfl⟩
          obtain ⟨Y, hY⟩ : ∃ X, X = w4.alloc (.cells #[.int .i64 0, .int .i64 1] 25) := ⟨_, rfl⟩
          have hbY : Below wr.heap.size wr Y := by rw [hY]; exact hb4.trans ((b0 _ _).mono hb4.size)
          have r0 : Y.cell? ⟨Z, 0, none⟩ = some (.int .i64 0) := by rw [hY, hZ]; simp [go_sem]
          have r1 : Y.cell? ⟨Z, 1, none⟩ = some (.int .i64 1) := by rw [hY, hZ]; simp [go_sem]
          have f0 : Y.frozen? ⟨Z, 0, none⟩ = false := by rw [hY, hZ]; simp [go_sem]
          have f1 : Y.frozen? ⟨Z, 1, none⟩ = false := by rw [hY, hZ]; simp [go_sem]
          have hZS : Sk < Z := by rw [hZ]; have := hb4.size; omega
          have hwZ : w.heap.size ≤ Z := by omega
          have O5 := hidW (own_below hO.out hbY)
          have T5 := hidW (hT.out.below hbY)
          have C5 := hidW (HC.out.below hbY)
          have E5 := hidW (HE.out.trans (Ex.of_below hbY))
          have hcZ : Z ≠ cb := by omega
          have HQ : Hid (∀ b, q.ownBlock = some b → b < Z) := fun b e => by have h1 := (World.ownsRow.lt hO.out b e).2; have := hb4.size; omega
          go_wp2_with fail
          try rw [← hY]
          try rw [← hZ]
          clear hY hZ hbY hb4 hO hT HC HE
          refine (once_any cb _ a len cap zs _ C5.out (by omega)).mono ?_
          rintro e w5 ⟨z, rfl, hC', hE⟩
          replace O5 := hidW (ownEx O5.out hE (by omega))
          replace T5 := hidW (T5.out.ex hE hlt)
          replace C5 : Hid (Cur w5 cb a len cap zs) := hC'
          replace E5 := hidW (E5.out.trans hE)
          replace f0 := hE.frozen r0 f0 hcZ
          replace f1 := hE.frozen r1 f1 hcZ
          replace r0 := hE.cell r0 hcZ
          replace r1 := hE.cell r1 hcZ
          have hs5 := E5.out.size
          have hz5 := lt_cell r0
          clear hC' hE
          have fin : ∀ (W : World) (x y : Int) (v' : Value) (w7 : World), W.ownsRow Sk 25 2 q k (cellsR ps) → Tab W w.heap.size o us T → Cur W cb a len cap zs → Ex cb w W → Sk + 1 ≤ W.heap.size → w7.ownsRow Sk 25 2 v' (k + 1) (cellsR ps ++ [.int .i64 x, .int .i64 y]) → (W.alloc (.cells #[.int .i64 x, .int .i64 y] 25)).grownBy w7 q.ownBlock →
              ∃ (q' : Value) (ps' : List Fr) (k' : Nat), q' = v' ∧ Value.int .i64 ((k : Int) + 1) = .int .i64 k' ∧ k' ≤ cols ∧ ps'.length = k' ∧ Hid (w7.ownsRow Sk 25 2 q' k' (cellsR ps')) ∧ Hid (Tab w7 w.heap.size o us T) ∧ Hid (Cur w7 cb a len cap zs) ∧ Hid (Ex cb w w7) ∧ Sk + 1 ≤ w7.heap.size := by
            intro W x y v' w7 h1 h2 h3 h4 h5 h6 h7
            have hbl : ∀ b', q.ownBlock = some b' → Sk ≤ b' := fun b' e => (World.ownsRow.lt h1 b' e).1
            have T7 := (h2.below (b0 W (.cells #[.int .i64 x, .int .i64 y] 25))).kept h7 (fun q e h2 => by have := hbl q e; have := U1.out.1 q h2; omega) (fun i hi q e h2 => by have := hbl q e; have := U1.out.2 i hi q h2; omega)
            refine ⟨v', ps ++ [(x, y)], k + 1, rfl, by go_num, by omega, by simp [hpl], ?_, T7, curRow h3 h1 (by omega) (fun b off e hz => by have := HROW.out b off e hz; omega) h7, exRow h4 h1 hwS h7, by have := h7.size; simp at this; omega⟩
            show World.ownsRow _ _ _ _ _ _ _
            rw [cellsR_snoc]
            exact h6
          have FIN := hidW fin
          clear fin
          cases z
          · go_wp2_with fail
            refine (from_any cb _ _ a len cap zs _ C5.out (by omega) (by omega) (by omega)).mono ?_
            rintro e w6 ⟨x, rfl, hx0, hx1, hC', hE⟩
            replace O5 := hidW (ownEx O5.out hE (by omega))
            replace T5 := hidW (T5.out.ex hE hlt)
            replace C5 : Hid (Cur w6 cb a len cap zs) := hC'
            replace E5 := hidW (E5.out.trans hE)
            replace f0 := hE.frozen r0 f0 hcZ
            replace f1 := hE.frozen r1 f1 hcZ
            replace r0 := hE.cell r0 hcZ
            replace r1 := hE.cell r1 hcZ
            clear hC' hE
            go_wp2_with fail
            refine (below_any cb _ a len cap zs _ C5.out (by omega)).mono ?_
            rintro e w7 ⟨y, rfl, hy0, hy1, hC', hE⟩
            replace O5 := hidW (ownEx O5.out hE (by omega))
            replace T5 := hidW (T5.out.ex hE hlt)
            replace C5 : Hid (Cur w7 cb a len cap zs) := hC'
            replace E5 := hidW (E5.out.trans hE)
            replace f0 := hE.frozen r0 f0 hcZ
            replace f1 := hE.frozen r1 f1 hcZ
            replace r0 := hE.cell r0 hcZ
            replace r1 := hE.cell r1 hcZ
            clear hC' hE hs5 hz5
            go_wp2_with fail
            refine (sRed_any _ _ _).mono ?_
            rintro e w8 ⟨rfl, hb8⟩
            obtain ⟨p, hp⟩ : ∃ p, p = redN x (1 + y) := ⟨_, rfl⟩
            obtain ⟨d, hd⟩ : ∃ p, p = redD x (1 + y) := ⟨_, rfl⟩
            rw [← hp, ← hd]
            clear hp hd hx0 hx1 hy0 hy1
            have hE8 : Ex cb w7 w8 := Ex.of_below hb8
            replace O5 := hidW (own_below O5.out hb8)
            replace T5 := hidW (T5.out.below hb8)
            replace C5 := hidW (C5.out.below hb8)
            replace E5 := hidW (E5.out.trans hE8)
            replace f0 := hE8.frozen r0 f0 hcZ
            replace f1 := hE8.frozen r1 f1 hcZ
            replace r0 := hE8.cell r0 hcZ
            replace r1 := hE8.cell r1 hcZ
            have hz8 := lt_cell r0
            have hws8 := E5.out.size
            clear hb8 hE8
            have UZ : Hid (Under Z o us) := U1.out.le (by omega)
            go_upto_region 12 with fail
            obtain ⟨W, hW⟩ : ∃ W, W = ((w8.setCell ⟨Z, 0, none⟩ (.int .i64 p)).setCell ⟨Z, 1, none⟩ (.int .i64 d)).alloc (.cells #[.int .i64 p, .int .i64 d] 25) := ⟨_, rfl⟩
            have O6 : Hid (W.ownsRow Sk 25 2 q k (cellsR ps)) := by show World.ownsRow _ _ _ _ _ _ _; rw [hW]; exact own_below (own_st (own_st O5.out HQ.out 0 (.int .i64 p)) HQ.out 1 (.int .i64 d)) (b0 _ _)
            have T6 : Hid (Tab W w.heap.size o us T) := by show Tab _ _ _ _ _; rw [hW]; exact ((T5.out.st UZ.out.2 UZ.out.1 0 (.int .i64 p)).st UZ.out.2 UZ.out.1 1 (.int .i64 d)).below (b0 _ _)
            have C6 : Hid (Cur W cb a len cap zs) := by show Cur _ _ _ _ _ _; rw [hW]; exact (curSet (o := 1) (u := .int .i64 d) (curSet (o := 0) (u := .int .i64 p) C5.out hcZ.symm (fun b' off e hz => by have := HROW.out b' off e hz; omega)) hcZ.symm (fun b' off e hz => by have := HROW.out b' off e hz; omega)).below (b0 _ _)
            have E6 : Hid (Ex cb w W) := by show Ex _ _ _; rw [hW]; exact (exSet (o := 1) (u := .int .i64 d) (exSet (o := 0) (u := .int .i64 p) E5.out hwZ) hwZ).alloc _
            have p0 : W.cell? ⟨Z, 0, none⟩ = some (.int .i64 p) := by rw [hW]; exact cell_al _ (new2 r0 r1).1
            have p1 : W.cell? ⟨Z, 1, none⟩ = some (.int .i64 d) := by rw [hW]; exact cell_al _ (new2 r0 r1).2
            have hS6 : Sk + 1 ≤ W.heap.size := by rw [hW]; simp; omega
            try rw [← hW]
            clear hW O5 T5 C5 E5 r0 r1 f0 f1 hz8 hws8
            go_wp2_with (at_builtin; refine wpList_append_own _ rfl _ _ 44 rfl Sk 25 i0 (.agg #[.int .i64 0, .int .i64 0]) 2 16 Try.underlying44 hi hz0 hz1 hz2 rfl (by decide) _ _ _ rfl (World.ownsRow.alloc O6.out _) ⟨W.heap.size, 0, none⟩ 1 1 [.int .i64 p, .int .i64 d] rfl rfl (cell_twoF _ _ _ _) (by intro u hu; simp at hu; rcases hu with rfl | rfl <;> rfl) (by omega) (by omega) (by simp; omega) ?_; intro v' w9 hown' hgrow _)
            go_roundw
            case rel => exact FIN.out _ p d _ _ O6.out T6.out C6.out E6.out hS6 hown' hgrow
            case measure => simp [intOf]; omega
          · have hXS5 : Sk + 1 ≤ w5.heap.size := by omega
            go_wp2_with (at_builtin; refine wpList_append_own _ rfl _ _ 44 rfl Sk 25 i0 (.agg #[.int .i64 0, .int .i64 0]) 2 16 Try.underlying44 hi hz0 hz1 hz2 rfl (by decide) _ _ _ rfl (World.ownsRow.alloc O5.out _) ⟨w5.heap.size, 0, none⟩ 1 1 [.int .i64 0, .int .i64 1] rfl rfl (cell_twoF _ _ _ _) (by intro u hu; simp at hu; rcases hu with rfl | rfl <;> rfl) (by omega) (by omega) (by simp; omega) ?_; intro v' w7 hown' hgrow _)
            go_roundw
            case rel => exact FIN.out _ 0 1 _ _ O5.out T5.out C5.out E5.out hXS5 hown' hgrow
            case measure => simp [intOf]; omega
        · obtain rfl : k = cols := by omega
          obtain ⟨pq, cq, rfl⟩ := own_shape hO.out
          have hsz := HE.out.size
          have hTl := hT.out.len
          have hjm : us.length + 1 ≤ maxLen := by unfold maxLen; omega
          go_wp2_with (at_builtin; refine wpList_append_own _ rfl _ _ 33 rfl w.heap.size 44 t0 (.slice none 0 0) 1 24 Try.underlying33 hti htz0 htz1 htz2 rfl (by decide) _ _ _ rfl (World.ownsRow.alloc hT.out.outer _) ⟨wr.heap.size, 0, none⟩ 1 1 [.slice pq k cq] rfl rfl (cell_one_new _ _ _) (by simp [Value.oneCell']) (by omega) (by omega) (by simp; omega) ?_; intro v' w5 hown' hgrow _)
          go_roundw
          case rel =>
            have T5 := hT.out.append (ps := ps) (u := .slice pq k cq) (own_le (by rw [hpl]; exact hO.out) hwS) (fun i hi b' e h2 => by
              have h1 := U1.out.2 i hi b' e
              have h3 := (World.ownsRow.lt hO.out b' h2).1
              omega) hown' hgrow
            refine ⟨v', us ++ [.slice pq k cq], T ++ [ps], m - 1, rfl, by go_num, by simp; omega, by simp; omega, ?_, hidW T5, curRow HC.out hT.out.outer hlt HROW.out hgrow, exRow HE.out hT.out.outer (Nat.le_refl _) hgrow⟩
            show AllL _ _
            intro x hx
            rw [List.length_append, List.length_singleton] at hx
            rw [rw_app _ _ _ hx]
            split
            · exact hAL.out x (by omega)
            · exact hpl
          case measure => simp [intOf]; omega
    · obtain rfl : m = 0 := by omega
      have HUS : Hid (us.length = T.length ∧ T.length = rows) := ⟨hus, by omega⟩
      obtain ⟨aq, cq, rfl⟩ := own_shape hT.out.outer
      clear hus hm0
      go_wp2_with fail
      refine (once_any cb _ a len cap zs _ HC.out (by omega)).mono ?_
      rintro e w4 ⟨z, rfl, hC', hE⟩
      replace HC : Hid (Cur w4 cb a len cap zs) := hC'
      replace hT := hidW (hT.out.ex hE hlt)
      replace HE := hidW (HE.out.trans hE)
      replace hsz := HE.out.size
      clear hC' hE
      cases z
      · go_wp2
        refine bodyPost_ret (results_tmp rfl _ _ _) rfl ⟨_, us, T, rfl, ?_, HUS.out.2, hAL.out, HC.out, HE.out⟩; exact hT.out
      · by_cases h1 : 1 < us.length
        · have h1T : 1 < T.length := by rw [← HUS.out.1]; exact h1
          have hi0 := hT.out.inner 0 (by omega)
          have hL0 := hAL.out 0 (by omega)
          rw [hL0] at hi0
          obtain ⟨g0, c0, e0⟩ := own_some hi0 (by omega)
          rw [e0] at hi0
          obtain ⟨G, cG, eG⟩ := own_some hT.out.outer (by omega)
          have hul1 : 0 < us.length := by omega
          obtain ⟨rfl, -, rfl⟩ := Value.slice.inj eG
          have k0 := hT.out.outer.cellAt 0 (by omega)
          rw [show us[0]? = some (vl us 0) by unfold vl; rw [List.getElem?_eq_getElem hul1]; rfl, e0] at k0
          have hGl := (hT.out.outer.lt G rfl)
          have hN0 := hidW (own_newsF hi0 hL0)
          have hLL := hidW (show (cellsR (rw' T 0)).length = cols * 2 by rw [cellsR_len, hL0])
          have hsz0 := HE.out.size
          have oY : Hid ((w4.alloc (.cells #[] 25)).ownsRow w4.heap.size 25 2 (.slice (some ⟨w4.heap.size, 0, none⟩) 0 0) 0 []) := ⟨rfl, .inr ⟨w4.heap.size, 0, #[], rfl, Nat.le_refl _, World.alloc_heap_new w4 _, Nat.le_refl _, Nat.zero_le _, rfl, rfl⟩⟩
          have NY : Hid (∀ j u, (cellsR (rw' T 0))[j]? = some u → (w4.alloc (.cells #[] 25)).cell? ((⟨g0, 0, none⟩ : Addr).add j) = some u) := fun j u hu => cell_keep' (b0 w4 _) (hN0.out j u hu)
          have TY := hidW (hT.out.below (b0 w4 (.cells #[] 25)))
          have CY := hidW (HC.out.below (b0 w4 (.cells #[] 25)))
          have EY := hidW (HE.out.alloc (.cells #[] 25))
          have USk := hidW hT.out.under
          have hcS : cb < w4.heap.size := by omega
          clear hT HC HE hN0
          go_wp2_with (at_builtin; refine wpList_append_own _ rfl _ _ 44 rfl w4.heap.size 25 i0 (.agg #[.int .i64 0, .int .i64 0]) 2 16 Try.underlying44 hi hz0 hz1 hz2 rfl (by decide) _ _ _ rfl oY.out ⟨g0, 0, none⟩ cols c0 (cellsR (rw' T 0)) rfl hLL.out NY.out (cellsR_one _) (by unfold maxLen; omega) (by omega) (by simp) ?_; intro v' w5 hown' hgrow _; have f5 := World.ownsRow.frozenAt (Tab.outer (TY.out.kept hgrow (fun q e h2 => by have h8 := USk.out.1 q h2; have h9 : w4.heap.size = q := Option.some.inj e; omega) (fun i hi q e h2 => by have h8 := USk.out.2 i hi q h2; have h9 : w4.heap.size = q := Option.some.inj e; omega))) 1; have g5 := World.ownsRow.cellAt (Tab.outer (TY.out.kept hgrow (fun q e h2 => by have h8 := USk.out.1 q h2; have h9 : w4.heap.size = q := Option.some.inj e; omega) (fun i hi q e h2 => by have h8 := USk.out.2 i hi q h2; have h9 : w4.heap.size = q := Option.some.inj e; omega))) 1 (by omega); rw [List.getElem?_eq_getElem h1] at g5; rw [Nat.zero_add] at hown'; obtain ⟨ax, cx, rfl⟩ := own_shape hown')
          have T5 := TY.out.kept hgrow (fun q e h2 => by have h8 := USk.out.1 q h2; have h9 : w4.heap.size = q := Option.some.inj e; omega) (fun i hi q e h2 => by have h8 := USk.out.2 i hi q h2; have h9 : w4.heap.size = q := Option.some.inj e; omega)
          have T6 := T5.put (k := 1) (u := .slice ax cols cx) (ps := rw' T 0) h1 (own_le (by rw [hL0]; exact hown') hsz0) (fun i hi _ b e h2 => by have h8 := USk.out.2 i hi b e; have h9 := (World.ownsRow.lt hown' b h2).1; omega)
          refine bodyPost_ret (results_tmp rfl _ _ _) rfl ⟨_, us.set 1 (.slice ax cols cx), T.set 1 (rw' T 0), rfl, ?_, by rw [List.length_set]; exact HUS.out.2, ?_, ?_, ?_⟩
          · exact T6
          · intro x hx
            rw [List.length_set] at hx
            rw [rw_set _ _ _ _ h1T]
            split
            · exact hL0
            · exact hAL.out x hx
          · have C5 : Cur w5 cb a len cap zs := cur_grown CY.out hgrow (fun e => by have h8 : w4.heap.size = cb := Option.some.inj e; omega) (fun b off e hz hb => by have h8 : w4.heap.size = b := Option.some.inj hb; have := HROW.out b off e hz; omega)
            exact curSet C5 (by omega) (fun b' off e hz => by have := HROW.out b' off e hz; omega)
          · have E5 : Ex cb w w5 := by
              have h1 := EY.out
              refine ⟨hgrow.os.trans h1.1, hgrow.tape.trans h1.2.1, hgrow.output.trans h1.2.2.1, Nat.le_trans h1.size hgrow.size, fun k hk hne => ?_⟩
              refine (hgrow.block k (Nat.lt_of_lt_of_le hk h1.size) (fun e => ?_)).trans (h1.2.2.2.2 k hk hne)
              have h9 : w4.heap.size = k := (Option.some.inj e).symm
              omega
            exact exSet E5 hGl.1
        · have h1i : ¬ ((1 : Int) < (us.length : Int)) := by omega
          go_wp2
          refine bodyPost_ret (results_tmp rfl _ _ _) rfl ⟨_, us, T, rfl, ?_, HUS.out.2, hAL.out, HC.out, HE.out⟩; exact hT.out
end Go.Proofs.Ytbbkejfcheobaab
