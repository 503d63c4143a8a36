/- Tables that are drawn, right or not; what is drawn for the law of Solved. -/
import Derived.Test.YtbbkejfcheobaabDrawW10
import Derived.Test.YtbbkejfcheobaabKerW1
import Derived.Deep.RegionWith
namespace Go.Proofs.Ytbbkejfcheobaab
open Go.RowKit Go.Proofs.Ytbbkejfcheobaab.RM

theorem rdt_of {W : World} {base : Nat} {v : Value} {xs : List Value} {T : List (List Fr)} (ho : W.ownsRow base 44 1 v xs.length xs) (hl : xs.length = T.length) (hr : ∀ i, i < xs.length → RdR W (vl xs i) (rw' T i)) : RdT W v T := by
  rcases ho.2 with ⟨e, h0⟩ | ⟨g, c, cur, e, _, _, h1, h2, _⟩
  · exact ⟨none, 0, by rw [e, ← hl, h0], by rw [← hl, h0]; exact Nat.zero_le _, by omega, Nat.zero_le _, fun j hj => by omega⟩
  · subst e
    refine ⟨_, c, by rw [hl], by omega, by omega, h2, fun i hi => ⟨g, 0, vl xs i, rfl, ?_, hr i (by omega)⟩⟩
    rw [Nat.zero_add, ho.cellAt i (by omega), List.getElem?_eq_getElem (by omega)]
    simp [vl, List.getElem?_eq_getElem (show i < xs.length by omega)]
theorem rdr_drop {W : World} {base g n c : Nat} {ps : List Fr} (h : W.ownsRow base 25 2 (.slice (some ⟨g, 0, none⟩) n c) n (cellsR ps)) (hl : ps.length = n) (h1 : 1 ≤ n) : RdR W (.slice (some ⟨g, 2, none⟩) (n - 1) (c - 1)) (ps.drop 1) := by
  have hc : n ≤ c ∧ c ≤ maxLen := by
    rcases h.2 with ⟨e, _⟩ | ⟨g', c', cur, e, _, _, h1, h2, _⟩
    · cases e
    · cases e; exact ⟨h1, h2⟩
  refine ⟨_, c - 1, by rw [List.length_drop, hl], by rw [List.length_drop]; omega, by rw [List.length_drop]; omega, by omega, fun j hj => ⟨g, 2, rfl, ?_⟩⟩
  rw [List.length_drop] at hj
  have := own_R h hl (j + 1) (by omega)
  have e1 : fr (ps.drop 1) j = fr ps (j + 1) := by unfold fr; rw [List.getElem?_drop, Nat.add_comm]
  rw [e1, show 2 + j * 2 = (j + 1) * 2 by omega]
  exact this
/-- a table that can be read wherever the cursor moves -/
def RdX (cb : Nat) (W : World) (v : Value) (T : List (List Fr)) : Prop := ∀ W', Ex cb W W' → RdT W' v T
theorem RdX.read {cb : Nat} {W : World} {v : Value} {T : List (List Fr)} (h : RdX cb W v T) : RdT W v T := h W (Ex.refl _ _)
theorem RdX.ex {cb : Nat} {W W1 : World} {v : Value} {T : List (List Fr)} (h : RdX cb W v T) (hx : Ex cb W W1) : RdX cb W1 v T := fun W' k => h W' (hx.trans k)
/-- the first row's slice is another one -/
theorem Tab.rdx_put {cb base g n c : Nat} {W : World} {us : List Value} {T : List (List Fr)} {sl : Value} {ps : List Fr} (h : Tab W base (.slice (some ⟨g, 0, none⟩) n c) us T) (hc : cb < base) (h0 : 0 < us.length)
    (hr : ∀ W', Ex cb (W.setCell ⟨g, 0, none⟩ sl) W' → RdR W' sl ps) : RdX cb (W.setCell ⟨g, 0, none⟩ sl) (.slice (some ⟨g, 0, none⟩) n c) (T.set 0 ps) := by
  intro W' hx
  have hn : us.length = n := by
    rcases h.outer.2 with ⟨e, _⟩ | ⟨g', c', cur, e, _⟩ <;> cases e; rfl
  subst hn
  obtain ⟨s1, s2⟩ := h.outer.stored 0 sl
  have s3 := ownEx s1 hx hc
  have s4 : W'.ownsRow base 44 1 (.slice (some ⟨g, 0, none⟩) us.length c) (us.set 0 sl).length (us.set 0 sl) := by rw [List.length_set]; exact s3
  refine rdt_of s4 (by rw [List.length_set, List.length_set]; exact h.len) (fun i hi => ?_)
  rw [List.length_set] at hi
  rw [vl_set _ _ _ _ h0, rw_set _ _ _ _ (by rw [← h.len]; exact h0)]
  by_cases e : 0 = i
  · rw [if_pos e, if_pos e]; exact hr W' hx
  · rw [if_neg e, if_neg e]; exact (RdR.own (ownEx (own_oth (h.inner i hi) h.outer (by decide) s2) hx hc)).1
/-- the first row's slice stands at the end once more -/
theorem Tab.rdx_app {cb base : Nat} {W w1 : World} {v v' u : Value} {us : List Value} {T : List (List Fr)} {o : Obj} (h : Tab W base v us T) (hc : cb < base) (h0 : 0 < us.length) (hu : vl us 0 = u)
    (hown : w1.ownsRow base 44 1 v' (us.length + 1) (us ++ [u])) (hgrow : (W.alloc o).grownBy w1 v.ownBlock) : RdX cb w1 v' (T ++ [rw' T 0]) := by
  intro W' hx
  have keep : ∀ {m : Nat} {x : Value} {xs : List Value}, W.ownsRow base 25 2 x m xs → W'.ownsRow base 25 2 x m xs := fun hx2 => ownEx (own_oth (hx2.alloc o) (h.outer.alloc o) (by decide) hgrow) hx hc
  have s4 : W'.ownsRow base 44 1 v' (us ++ [u]).length (us ++ [u]) := by rw [List.length_append]; exact ownEx hown hx hc
  refine rdt_of s4 (by simp [h.len]) (fun i hi => ?_)
  rw [List.length_append, List.length_singleton] at hi
  rw [vl_app _ _ _ hi, rw_app _ _ _ (by have := h.len; omega)]
  by_cases e : i < us.length
  · rw [if_pos e, if_pos (by have := h.len; omega)]; exact (RdR.own (keep (h.inner i e))).1
  · rw [if_neg e, if_neg (by have := h.len; omega), ← hu]; exact (RdR.own (keep (h.inner 0 h0))).1

set_option maxRecDepth 100000 in
set_option maxHeartbeats 4000000 in
theorem dTabAny_any (cb rows cols : Nat) (a : Option Addr) (len cap : Nat) (zs : List Int) (w : World) (hc : Cur w cb a len cap zs) (hr1 : rows ≤ 100) (hc0 : 1 ≤ cols) (hc1 : cols ≤ 100) :
    Calls Try.prog 61 #[.pointer (some ⟨cb, 0, none⟩), .int .i64 rows, .int .i64 cols] w fun e w' => ∃ (v : Value) (T : List (List Fr)), e = .returned v ∧ RdX cb w' v T ∧ T.length ≤ 200 ∧ Cur w' cb a len cap zs ∧ Ex cb w w' := by
  obtain ⟨i0, hi, hz0, hz1, hz2⟩ := info_parts infoF
  obtain ⟨t0, hti, htz0, htz1, htz2⟩ := info_parts infoT
  have b0 : ∀ (u : World) (o : Obj), Below u.heap.size u (u.alloc o) := fun u o => (Below.refl _ _).alloc (Nat.le_refl _) o
  have hlt := hc.lt
  have HROW : Hid (∀ b off, a = some ⟨b, off, none⟩ → 0 < zs.length → b < w.heap.size) := hc.2.1.lt
  have HC : Hid (Cur w cb a len cap zs) := hc
  clear hc
  go_enter Try.func61, Try.ntmps61
  go_wp2_with fail
  refine (dTab_any cb rows cols a len cap zs _ HC.out hr1 hc0 hc1).mono ?_
  rintro e w1 ⟨v, us, T, rfl, hT, hTl, hAL, hC', hE⟩
  have HT := hidW hT
  have HAL := hidW hAL
  replace HC := hidW hC'
  have HE := hidW hE
  have HUS : Hid (us.length = T.length ∧ T.length = rows) := ⟨hT.len, hTl⟩
  have hur : us.length ≤ 100 := by have := hT.len; omega
  obtain ⟨aq, cq, rfl⟩ := own_shape hT.outer
  have hsz := HE.out.size
  clear hT hAL hC' hE hTl
  go_wp2_with fail
  refine (once_any cb _ a len cap zs _ HC.out (by omega)).mono ?_
  rintro e w2 ⟨z, rfl, hC', hE⟩
  replace HC : Hid (Cur w2 cb a len cap zs) := hC'
  replace HT := hidW (HT.out.ex hE hlt)
  replace HE := hidW (HE.out.trans hE)
  replace hsz := HE.out.size
  clear hC' hE
  have keep : ∀ (W : World) (v : Value) (us : List Value) (T : List (List Fr)), Tab W w.heap.size v us T → RdX cb W v T := fun W v us T h W' hx => (h.ex hx hlt).read
  have KEEP := hidW keep
  clear keep
  cases z
  · go_wp2
    refine bodyPost_ret (results_tmp rfl _ _ _) rfl ⟨_, T, rfl, ?_, by have := HUS.out; omega, HC.out, HE.out⟩; exact KEEP.out _ _ _ _ HT.out
  · by_cases h1 : 0 < us.length
    · have h1T : 0 < T.length := by rw [← HUS.out.1]; exact h1
      have hi0 := HT.out.inner 0 (by omega)
      have hL0 := HAL.out 0 (by omega)
      rw [hL0] at hi0
      obtain ⟨g0, c0, e0⟩ := own_some hi0 (by omega)
      rw [e0] at hi0
      obtain ⟨G, cG, eG⟩ := own_some HT.out.outer (by omega)
      have hul1 : 0 < us.length := h1
      obtain ⟨rfl, -, rfl⟩ := Value.slice.inj eG
      have k0 := HT.out.outer.cellAt 0 (by omega)
      rw [show us[0]? = some (vl us 0) by unfold vl; rw [List.getElem?_eq_getElem hul1]; rfl, e0] at k0
      have hGl := (HT.out.outer.lt G rfl)
      have hgl := (World.ownsRow.lt hi0 g0 rfl)
      have HI := hidW hi0
      have HE0 := hidW e0
      have HL0 := hidW hL0
      have hci : (0 : Int) < (cols : Int) := by omega
      clear hi0 e0 hL0 eG
      go_wp2_with fail
      refine (below_any cb _ a len cap zs _ HC.out (by omega)).mono ?_
      rintro e w3 ⟨y, rfl, hy0, hy1, hC', hE⟩
      replace HC : Hid (Cur w3 cb a len cap zs) := hC'
      replace HT := hidW (HT.out.ex hE hlt)
      replace HI := hidW (ownEx HI.out hE hlt)
      replace HE := hidW (HE.out.trans hE)
      replace hsz := HE.out.size
      have hGc : G ≠ cb := by omega
      replace k0 := hE.cell k0 hGc
      have hGl3 : G < w3.heap.size := Nat.lt_of_lt_of_le hGl.2 hE.size
      have hgl3 : g0 < w3.heap.size := Nat.lt_of_lt_of_le hgl.2 hE.size
      clear hC' hE
      have kf0 := World.ownsRow.frozenAt HT.out.outer 0
      have hcc : cols ≤ c0 ∧ c0 ≤ maxLen := by
        rcases HI.out.2 with ⟨e, _⟩ | ⟨g', c', cur, e, _, _, h1, h2, _⟩
        · cases e
        · cases e; exact ⟨h1, h2⟩
      have LT : Hid (T.length ≤ 100) := by show _ ≤ _; have := HUS.out.1; omega
      obtain rfl | rfl | rfl : y = 0 ∨ y = 1 ∨ y = 2 := by omega
      · obtain ⟨q0, q1⟩ := own_R HI.out HL0.out 0 (by omega)
        have qf0 := World.ownsRow.frozenAt HI.out 0
        have qf1 := World.ownsRow.frozenAt HI.out 1
        simp only [Nat.zero_mul, Nat.zero_add] at q0 q1
        generalize ((rw' T 0)[0]?.getD (0, 0)).1 = y1 at q0
        generalize ((rw' T 0)[0]?.getD (0, 0)).2 = y2 at q1
        have hg0c : g0 ≠ cb := by omega
        have fin : ∀ (W : World) (p d : Int), Cur W cb a len cap zs → Ex cb w3 W → RdX cb ((W.setCell ⟨g0, 0, none⟩ (.int .i64 p)).setCell ⟨g0, 1, none⟩ (.int .i64 d)) (.slice (some ⟨G, 0, none⟩) us.length cq) (T.set 0 ((rw' T 0).set 0 (p, d))) ∧ Cur ((W.setCell ⟨g0, 0, none⟩ (.int .i64 p)).setCell ⟨g0, 1, none⟩ (.int .i64 d)) cb a len cap zs ∧ Ex cb w ((W.setCell ⟨g0, 0, none⟩ (.int .i64 p)).setCell ⟨g0, 1, none⟩ (.int .i64 d)) := by
          intro W p d hC hx
          obtain ⟨s1, s2⟩ := row_set (ownEx HI.out hx hlt) HL0.out 0 (by omega) p d
          simp only [Nat.zero_mul, Nat.zero_add] at s1 s2
          have T2 := (HT.out.ex hx hlt).turn (k := 0) (ps := (rw' T 0).set 0 (p, d)) hul1 (by rw [List.length_set, HL0.out, HE0.out]; exact s1) (by rw [HE0.out]; exact s2)
          refine ⟨KEEP.out _ _ _ _ T2, ?_, exSet (exSet (HE.out.trans hx) (by omega)) (by omega)⟩
          exact curSet (curSet hC (by omega) (fun b' off e hz => by have := HROW.out b' off e hz; omega)) (by omega) (fun b' off e hz => by have := HROW.out b' off e hz; omega)
        have FIN := hidW fin
        clear fin
        go_wp2
        go_region_with (go_at_call 46; refine (drawAny_any cb a len cap zs _ (by first | exact HC.out | exact HC.out.drewN 1)).mono ?_; rintro e w4 ⟨p, d, rfl, hC', hE⟩; have C4 := hidW hC'; have hE4 : Ex cb w3 w4 := Ex.trans (by first | exact Ex.refl _ _ | exact (Ex.refl _ _).drew) hE; have E4 := hidW hE4; have z0 := hE4.cell q0 hg0c; have z1 := hE4.cell q1 hg0c; have z2 := hE4.frozen q0 qf0 hg0c; have z3 := hE4.frozen q1 qf1 hg0c; have z4 := hE4.cell k0 hGc; clear hC' hE hE4)
        all_goals go_wp2
        all_goals
          obtain ⟨f1, f2, f3⟩ := FIN.out _ p d C4.out E4.out
          refine bodyPost_ret (results_tmp rfl _ _ _) rfl ⟨_, T.set 0 ((rw' T 0).set 0 (p, d)), rfl, ?_, by rw [List.length_set]; have := LT.out; omega, f2, f3⟩
          exact f1
      · have C5 : ∀ u, Cur (w3.setCell ⟨G, 0, none⟩ u) cb a len cap zs := fun u => curSet HC.out (by omega) (fun b' off e hz => by have := HROW.out b' off e hz; omega)
        have E5 : ∀ u, Ex cb w (w3.setCell ⟨G, 0, none⟩ u) := fun u => exSet HE.out hGl.1
        have HCE := hidW (And.intro C5 E5)
        clear C5 E5
        by_cases hc2 : c0 = 1
        · subst hc2
          obtain rfl : cols = 1 := by omega
          have R5 : RdX cb (w3.setCell ⟨G, 0, none⟩ (.slice (some ⟨g0, 0, none⟩) 0 0)) (.slice (some ⟨G, 0, none⟩) us.length cq) (T.set 0 []) := HT.out.rdx_put hlt hul1 (fun W' hx => by
            exact ⟨_, 0, rfl, Nat.zero_le _, Nat.zero_le _, Nat.zero_le _, fun j hj => absurd hj (by simp)⟩)
          have HR5 := hidW R5
          clear R5
          go_wp2
          refine bodyPost_ret (results_tmp rfl _ _ _) rfl ⟨_, T.set 0 [], rfl, ?_, by rw [List.length_set]; have := LT.out; omega, HCE.out.1 _, HCE.out.2 _⟩
          exact HR5.out
        · have hc3 : c0 - 1 ≠ 0 := by omega
          have R5 : RdX cb (w3.setCell ⟨G, 0, none⟩ (.slice (some ⟨g0, 2, none⟩) (cols - 1) (c0 - 1))) (.slice (some ⟨G, 0, none⟩) us.length cq) (T.set 0 ((rw' T 0).drop 1)) := HT.out.rdx_put hlt hul1 (fun W' hx => by
            have h8 := own_oth HI.out HT.out.outer (by decide) (HT.out.outer.stored 0 (.slice (some ⟨g0, 2, none⟩) (cols - 1) (c0 - 1))).2
            exact rdr_drop (ownEx h8 hx hlt) HL0.out hc0)
          have HR5 := hidW R5
          clear R5
          go_wp2
          refine bodyPost_ret (results_tmp rfl _ _ _) rfl ⟨_, T.set 0 ((rw' T 0).drop 1), rfl, ?_, by rw [List.length_set]; have := LT.out; omega, HCE.out.1 _, HCE.out.2 _⟩
          exact HR5.out
      · have hjm : us.length + 1 ≤ maxLen := by unfold maxLen; omega
        go_wp2_with (at_builtin; refine wpList_append_own _ rfl _ _ 33 rfl w.heap.size 44 t0 (.slice none 0 0) 1 24 Try.underlying33 hti htz0 htz1 htz2 rfl (by decide) _ _ _ rfl (World.ownsRow.alloc HT.out.outer _) ⟨w3.heap.size, 0, none⟩ 1 1 [.slice (some ⟨g0, 0, none⟩) cols c0] rfl rfl (cell_one_new _ _ _) (by simp [Value.oneCell']) (by omega) (by omega) (by simp; omega) ?_; intro v' w5 hown' hgrow _)
        refine bodyPost_ret (results_tmp rfl _ _ _) rfl ⟨_, T ++ [rw' T 0], rfl, ?_, by rw [List.length_append, List.length_singleton]; have := LT.out; omega, curRow HC.out HT.out.outer hlt HROW.out hgrow, exRow HE.out HT.out.outer (Nat.le_refl _) hgrow⟩
        exact HT.out.rdx_app hlt hul1 HE0.out hown' hgrow
    · have h1i : ¬ ((0 : Int) < (us.length : Int)) := by omega
      have hUs0 : Hid (T.length ≤ 200) := by show _ ≤ _; have := HUS.out; omega
      go_wp2
      refine bodyPost_ret (results_tmp rfl _ _ _) rfl ⟨_, T, rfl, ?_, hUs0.out, HC.out, HE.out⟩; exact KEEP.out _ _ _ _ HT.out
end Go.Proofs.Ytbbkejfcheobaab
