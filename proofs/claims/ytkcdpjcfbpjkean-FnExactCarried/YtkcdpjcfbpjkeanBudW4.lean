/- The walk of the model's Alone. -/
import Derived.Test.YtkcdpjcfbpjkeanBudW3
import Derived.Maps.AppendAt
namespace Go.Proofs.Ytkcdpjcfbpjkean
open Go.RowKit Go.Proofs.Ytkcdpjcfbpjkean.RM

theorem repB_succ (n : Nat) (x : Fr) : List.replicate (n + 1) x = List.replicate n x ++ [x] := by rw [List.replicate_succ']
theorem rowB_set {W : World} {base g L c : Nat} {ps : List Fr} (h : W.ownsRow base 32 2 (.slice (some ⟨g, 0, none⟩) L c) L (cellsR ps)) (hl : ps.length = L) (k : Nat) (hk : k < L) (x y : Int) :
    ((W.setCell ⟨g, k * 2, none⟩ (.int .i64 x)).setCell ⟨g, k * 2 + 1, none⟩ (.int .i64 y)).ownsRow base 32 2 (.slice (some ⟨g, 0, none⟩) L c) L (cellsR (ps.set k (x, y))) := by
  obtain ⟨p1, p2⟩ := h.stored (k * 2) (.int .i64 x)
  obtain ⟨p3, p4⟩ := p1.stored (k * 2 + 1) (.int .i64 y)
  rw [cellsR_set _ _ _ _ (by rw [hl]; exact hk)] at p3
  exact p3
theorem ownB_low {S : Nat} {W W' : World} {base e size n : Nat} {v : Value} {xs : List Value} (h : W.ownsRow base e size v n xs) (hu : ∀ b, v.ownBlock = some b → b < S) (hb : Below S W W') : W'.ownsRow base e size v n xs := by
  refine ⟨h.1, ?_⟩
  rcases h.2 with k | ⟨g, cap, cur, e1, e2, e3, r⟩
  · exact .inl k
  · subst e1
    exact .inr ⟨g, cap, cur, rfl, e2, (hb.block g (hu g rfl)).trans e3, r⟩
theorem TabB_low {S : Nat} {W W' : World} {base : Nat} {v : Value} {us : List Value} {rows : List (List Fr)} (h : Tab W base v us rows) (hu : Under S v us) (hb : Below S W W') : Tab W' base v us rows :=
  ⟨ownB_low h.outer hu.1 hb, h.len, fun i hi => ownB_low (h.inner i hi) (hu.2 i hi) hb, h.apart⟩

/-- a row of noughts but for one -/
def aloneR (vs : List Fr) (n i : Nat) : List Fr := (List.replicate n (0, 1)).set i (fr vs i)
def aloneT (vs : List Fr) (k : Nat) : List (List Fr) := (List.range k).map fun i => aloneR vs vs.length i
def aloneC (vs : List Fr) : Bool := decide (1 ≤ vs.length ∧ vs.length ≤ 6) && allB vs vs.length
def aloneA (vs : List Fr) : List (List Fr) := if aloneC vs = true then aloneT vs vs.length else []
theorem aloneR_len (vs : List Fr) (n i : Nat) : (aloneR vs n i).length = n := by simp [aloneR]
theorem aloneT_succ (vs : List Fr) (k : Nat) : aloneT vs (k + 1) = aloneT vs k ++ [aloneR vs vs.length k] := by simp [aloneT, List.range_succ]
theorem aloneA_no {vs : List Fr} (h : aloneC vs = false) : aloneA vs = [] := by unfold aloneA; rw [h]; rfl
theorem aloneA_yes {vs : List Fr} (h : aloneC vs = true) : aloneA vs = aloneT vs vs.length := by unfold aloneA; rw [if_pos h]

set_option maxRecDepth 100000 in
set_option maxHeartbeats 4000000 in
theorem sAlone_any (v : Value) (vs : List Fr) (w : World) (h : RdR w v vs) :
    Calls Try.prog 20 #[v] w fun e w' => ∃ vm us, e = .returned vm ∧ Tab w' w.heap.size vm us (aloneA vs) ∧ Below w.heap.size w w' := by
  obtain ⟨i0, hi, hz0, hz1, hz2⟩ := info_parts infoF
  obtain ⟨t0, hti, htz0, htz1, htz2⟩ := info_parts infoT
  have b0 : ∀ {u : World} (o : Obj), Below u.heap.size u (u.alloc o) := fun o => (Below.refl _ _).alloc (Nat.le_refl _) o
  have CA := hidW8 (fun W (hW : Below w.heap.size w W) => sAll_any v vs vs.length W (h.below hW))
  obtain ⟨q, hq⟩ : ∃ q, q = allB vs vs.length := ⟨_, rfl⟩
  rw [← hq] at CA
  have HQ := hidW8 hq
  obtain ⟨a, c, rfl, h2, _, _, h5⟩ := h
  have H5 : Hid (∀ i, i < vs.length → ∃ b off, a = some ⟨b, off, none⟩ ∧ w.cell? ⟨b, off + i * 2, none⟩ = some (.int .i64 (fr vs i).1) ∧ w.cell? ⟨b, off + i * 2 + 1, none⟩ = some (.int .i64 (fr vs i).2)) := h5
  unfold maxLen at h2
  have T0 : Tab (w.alloc (.cells #[] 35)) w.heap.size (.slice (some ⟨w.heap.size, 0, none⟩) 0 0) [] [] := Tab.lit (Nat.le_refl _)
  have HT0 := hidW8 T0
  obtain ⟨L, hL⟩ : ∃ L, L = vs.length := ⟨_, rfl⟩
  have HL := hidW8 hL
  rw [← hL] at h2 H5 CA ⊢
  clear h5 T0 hL hq
  by_cases n0 : L < 1
  · have HAN := hidW8 (aloneA_no (vs := vs) (by unfold aloneC; rw [decide_eq_false (by have := HL.out; omega)]; rfl))
    go_enter Try.func20, Try.ntmps20
    go_wp2
    go_ret
    refine ⟨_, rfl, ⟨[], ?_⟩, b0 _⟩
    rw [HAN.out]
    exact HT0.out
  by_cases n1 : 6 < L
  · have HAN := hidW8 (aloneA_no (vs := vs) (by unfold aloneC; rw [decide_eq_false (by have := HL.out; omega)]; rfl))
    go_enter Try.func20, Try.ntmps20
    go_wp2
    go_ret
    refine ⟨_, rfl, ⟨[], ?_⟩, b0 _⟩
    rw [HAN.out]
    exact HT0.out
  go_enter Try.func20, Try.ntmps20
  go_wp2_with fail
  refine (CA.out _ (b0 _)).mono ?_
  rintro e w1 ⟨rfl, hb⟩
  have T1 := HT0.out.below hb
  have B1 : Below w.heap.size w w1 := (b0 _).trans (hb.mono (by simp))
  clear hb CA HT0
  cases q
  · have HAN := hidW8 (aloneA_no (vs := vs) (by unfold aloneC; rw [← HQ.out]; simp))
    go_wp2
    go_ret
    refine ⟨_, [], rfl, ?_, B1⟩
    rw [HAN.out]
    exact T1
  have HAN := hidW8 (aloneA_yes (vs := vs) (by unfold aloneC; rw [← HQ.out, decide_eq_true (by have := HL.out; omega)]; rfl))
  go_wp2
  go_loopw [3, 5] (fun q i wr => ∃ (o : Value) (k : Nat) (us : List Value), k ≤ L ∧ i = .int .i64 k ∧ o = q ∧ us.length = k ∧ Hid (Tab wr w.heap.size o us (aloneT vs k)) ∧ Hid (Below w.heap.size w wr)) (fun _ i _ => L - (intOf i).toNat)
  case atStart => exact ⟨_, 0, [], Nat.zero_le _, rfl, rfl, rfl, T1, B1⟩
  case round =>
    clear T1 B1
    obtain ⟨o, k, us, hk, rfl, rfl, hus, hT, hB⟩ := hrel
    have hsz := hB.out.size
    by_cases hlt : k < L
    · have hdk : decide ((k : Int) < (L : Int)) = true := decide_eq_true (by omega)
      obtain ⟨ab, ao, rfl, q1, q2⟩ := H5.out k hlt
      have l1 := World.block_lt_of_cell? w _ q1
      dsimp only at l1
      obtain ⟨V, hVV⟩ : ∃ V, V = wr := ⟨_, rfl⟩
      subst hVV
      obtain ⟨Sk, hSk⟩ : ∃ g, g = V.heap.size := ⟨_, rfl⟩
      have hwSk : w.heap.size ≤ Sk := by omega
      have HU : Hid (Under Sk o us) := by show Under _ _ _; rw [hSk]; exact hT.out.under
      have r0 : (V.alloc (.cells #[] 32)).ownsRow Sk 32 2 (.slice (some ⟨Sk, 0, none⟩) 0 0) 0 (cellsR (List.replicate 0 (0, 1))) := by
        rw [hSk]; exact World.ownsRow_lit V (base := V.heap.size) (e := 32) (size := 2) #[] 0 (Nat.le_refl _) (Nat.zero_le _) rfl
      have B0 : Below Sk V (V.alloc (.cells #[] 32)) := by rw [hSk]; exact b0 _
      have hs0 : Sk ≤ (V.alloc (.cells #[] 32)).heap.size := by rw [hSk]; simp
      go_wp2
      rw [← hSk]
      clear hSk
      go_loopw [6, 7] (fun q i wz => ∃ (rv : Value) (m : Nat), m ≤ L ∧ i = .int .i64 m ∧ rv = q ∧ Hid (wz.ownsRow Sk 32 2 rv m (cellsR (List.replicate m (0, 1)))) ∧ Hid (Below Sk V wz) ∧ Sk ≤ wz.heap.size) (fun _ i _ => L - (intOf i).toNat)
      case atStart => exact ⟨_, 0, Nat.zero_le _, rfl, rfl, r0, B0, hs0⟩
      case round =>
        clear r0 B0 hs0
        obtain ⟨rv, m, hm, rfl, rfl, hO, hZ, hs0⟩ := hrel
        by_cases hml : m < L
        · obtain ⟨av, cv, rfl⟩ := own_shape hO.out
          go_wp2_with (first | (go_at_call 43; refine (zero_any _).mono ?_; rintro e w4 ⟨rfl, hb4⟩; have O4 := hidW8 (own_below hO.out hb4); have hs4 : Sk ≤ w4.heap.size := Nat.le_trans hs0 hb4.size) | (at_builtin; refine wpList_append_own _ rfl _ _ 35 rfl Sk 32 i0 (.agg #[.int .i64 0, .int .i64 0]) 2 16 Try.underlying35 hi hz0 hz1 hz2 rfl (by decide) _ _ _ rfl (own_below O4.out (b0 _)) ⟨w4.heap.size, 0, none⟩ 1 1 [.int .i64 0, .int .i64 1] rfl rfl (cell_twoF _ _ _ _) (by intro u hu; simp at hu; rcases hu with rfl | rfl <;> rfl) (by unfold maxLen; omega) (by omega) (by simp; omega) ?_; intro v' w5 hown' hgrow _))
          go_roundw
          case rel =>
            refine ⟨v', m + 1, by omega, by go_num, rfl, ?_, hZ.out.trans ((hb4.mono hs0).trans (below_appended O4.out hs4 hgrow)), by have := hgrow.size; simp at this; omega⟩
            show World.ownsRow _ _ _ _ _ _ _
            rw [repB_succ, cellsR_append]
            exact hown'
          case measure => simp [intOf]; omega
        · obtain rfl : m = L := by omega
          obtain ⟨gv, cv, rfl⟩ := own_some hO.out (by omega)
          have hgv : Sk ≤ gv := (hO.out.lt gv rfl).1
          have hgw : gv < wr.heap.size := (hO.out.lt gv rfl).2
          have hgab : ab ≠ gv := by omega
          have BW : Below w.heap.size w wr := hB.out.trans (hZ.out.mono hwSk)
          replace q1 := cell_keep BW q1
          replace q2 := cell_keep BW q2
          obtain ⟨x, hx⟩ : ∃ x, x = fr vs k := ⟨_, rfl⟩
          have HX := hidW8 hx
          rw [← hx] at q1 q2
          clear hx
          obtain ⟨x1, x2⟩ := x
          dsimp only at q1 q2
          obtain ⟨o1, o2⟩ := own_R hO.out (by simp) k hlt
          have z1 := hO.out.frozenAt (k * 2)
          have z2 := hO.out.frozenAt (k * 2 + 1)
          go_upto_region 14 with fail
          have s1 := rowB_set hO.out (by simp) k hlt x1 x2
          have B4 : Below Sk V ((wr.setCell ⟨gv, k * 2, none⟩ (.int .i64 x1)).setCell ⟨gv, k * 2 + 1, none⟩ (.int .i64 x2)) := (hZ.out.setCell (p := ⟨gv, k * 2, none⟩) hgv _).setCell (p := ⟨gv, k * 2 + 1, none⟩) hgv _
          obtain ⟨Y, hY⟩ : ∃ Y, Y = (wr.setCell ⟨gv, k * 2, none⟩ (.int .i64 x1)).setCell ⟨gv, k * 2 + 1, none⟩ (.int .i64 x2) := ⟨_, rfl⟩
          rw [← hY] at s1 B4 ⊢
          have hbs : (List.replicate m ((0, 1) : Fr)).set k (x1, x2) = aloneR vs vs.length k := by unfold aloneR; rw [← HX.out, ← HL.out]
          rw [hbs] at s1
          have HS1 := hidW8 s1
          have HB4 := hidW8 B4
          have TZ := TabB_low hT.out HU.out B4
          have hYs : w.heap.size ≤ Y.heap.size := Nat.le_trans hwSk (Nat.le_trans (Nat.le_of_lt (Nat.lt_of_le_of_lt hgv hgw)) (by rw [hY]; simp))
          obtain ⟨ao', co, rfl⟩ := own_shape TZ.outer
          have HTZ := hidW8 TZ
          have hou := hidW8 TZ.outer
          have hul : us.length ≤ 6 := by omega
          clear TZ s1 B4 hY hbs o1 o2 z1 z2 q1 q2 BW hO hZ hs0
          go_wp2_with (at_builtin; refine wpList_append_own _ rfl _ _ 25 rfl w.heap.size 35 t0 (.slice none 0 0) 1 24 Try.underlying25 hti htz0 htz1 htz2 rfl (by decide) _ _ _ rfl (hou.out.alloc _) ⟨Y.heap.size, 0, none⟩ 1 1 [.slice (some ⟨gv, 0, none⟩) m cv] rfl rfl (cell_one_new _ _ _) (by simp [Value.oneCell']) (by unfold maxLen; omega) (by omega) (by simp; omega) ?_; intro v' w5 hown' hgrow _)
          go_roundw
          case rel =>
            have hle : (aloneR vs vs.length k).length = m := by rw [aloneR_len]; exact HL.out.symm
            have T5 := HTZ.out.append (ps := aloneR vs vs.length k) (u := .slice (some ⟨gv, 0, none⟩) m cv) (own_le (by rw [hle]; exact HS1.out) hwSk) (fun i hi b' e h2 => by
              have h1 := HU.out.2 i hi b' e
              have h3 := (World.ownsRow.lt HS1.out b' h2).1
              omega) hown' hgrow
            refine ⟨v', k + 1, us ++ [.slice (some ⟨gv, 0, none⟩) m cv], by omega, by go_num, rfl, by simp [hus], ?_, (hB.out.trans (HB4.out.mono hwSk)).trans (below_appended hou.out hYs hgrow)⟩
            show Tab _ _ _ _ _
            rw [aloneT_succ]
            exact T5
          case measure => simp [intOf]; omega
    · obtain rfl : k = L := by omega
      go_wp2
      go_ret
      refine ⟨_, us, rfl, ?_, hB.out⟩
      rw [HAN.out, ← HL.out]
      exact hT.out
end Go.Proofs.Ytkcdpjcfbpjkean
