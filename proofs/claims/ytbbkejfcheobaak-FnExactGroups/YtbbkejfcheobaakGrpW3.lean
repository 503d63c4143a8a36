/- The walk of the program's Groups. -/
import Derived.Test.YtbbkejfcheobaakGrpW1
import Derived.Test.YtbbkejfcheobaakGrpW2
import Derived.Test.YtbbkejfcheobaakKerW2
namespace Go.Proofs.Ytbbkejfcheobaak
open Go.RowKit Go.Proofs.Ytbbkejfcheobaak.RM

theorem hidH {p : Prop} (h : p) : Hid p := h
theorem ri_app (rows : List (List Int)) (ps : List Int) (i : Nat) (h : i < rows.length + 1) : ri (rows ++ [ps]) i = if i < rows.length then ri rows i else ps := by
  unfold ri
  by_cases e : i < rows.length
  · rw [if_pos e, List.getElem?_append_left e]
  · rw [if_neg e, List.getElem?_append_right (by omega), show i - rows.length = 0 by omega]; rfl
theorem TabI.empty {W : World} {base : Nat} {v : Value} (h : W.ownsRow base 29 1 v 0 []) : TabI W base v [] [] :=
  ⟨h, rfl, fun _ hi => absurd hi (Nat.not_lt_zero _), fun _ _ hi => absurd hi (Nat.not_lt_zero _)⟩
theorem TabI.lit {W : World} {base : Nat} (hb : base ≤ W.heap.size) : TabI (W.alloc (.cells #[] 29)) base (.slice (some ⟨W.heap.size, 0, none⟩) 0 0) [] [] :=
  TabI.empty (World.ownsRow_lit W (base := base) (e := 29) (size := 1) #[] 0 hb (Nat.zero_le _) rfl)
/-- a row of its own is laid behind the table -/
theorem TabI.append {W w' : World} {base : Nat} {v v' : Value} {us : List Value} {rows : List (List Int)} {u : Value} {ps : List Int} {tmp : Obj} (h : TabI W base v us rows)
    (hu : W.ownsRow base 2 1 u ps.length (cI ps)) (ha : ∀ i, i < us.length → ∀ b, (vl us i).ownBlock = some b → u.ownBlock ≠ some b)
    (hown : w'.ownsRow base 29 1 v' (us.length + 1) (us ++ [u])) (hgrow : (W.alloc tmp).grownBy w' v.ownBlock) : TabI w' base v' (us ++ [u]) (rows ++ [ps]) := by
  have keep : ∀ {m : Nat} {x : Value} {xs : List Value}, W.ownsRow base 2 1 x m xs → w'.ownsRow base 2 1 x m xs := fun hx => own_oth (hx.alloc tmp) (h.outer.alloc tmp) (by decide) hgrow
  have hl := h.len
  refine ⟨by rw [List.length_append]; exact hown, by simp [hl], fun i hi => ?_, fun i j hi hj hne b hb => ?_⟩
  · rw [List.length_append, List.length_singleton] at hi
    rw [vl_app _ _ _ hi, ri_app _ _ _ (by omega)]
    by_cases e : i < us.length
    · rw [if_pos e, if_pos (by omega)]; exact keep (h.inner i e)
    · rw [if_neg e, if_neg (by omega)]; exact keep hu
  · rw [List.length_append, List.length_singleton] at hi hj
    rw [vl_app _ _ _ hi] at hb
    rw [vl_app _ _ _ hj]
    by_cases e : i < us.length
    · rw [if_pos e] at hb
      by_cases e2 : j < us.length
      · rw [if_pos e2]; exact h.apart i j e e2 hne b hb
      · rw [if_neg e2]; exact ha i e b hb
    · rw [if_neg e] at hb
      rw [if_pos (by omega)]
      intro h2
      exact ha j (by omega) b h2 hb
/-- a table of fractions stays where a table of numbers grows -/
theorem Tab.apartI {W W' : World} {B base n : Nat} {v o : Value} {us xs : List Value} {rows : List (List Fr)} {tmp : Obj} (h : Tab W B v us rows) (ho : W.ownsRow base 29 1 o n xs) (hg : (W.alloc tmp).grownBy W' o.ownBlock) : Tab W' B v us rows := by
  have h2 := h.below ((Below.refl _ _).alloc (Nat.le_refl _) tmp)
  have o2 := ho.alloc tmp
  exact h2.kept hg (fun k e1 e2 => own_unlike h2.outer o2 (by decide) e2 e1) (fun i hi k e1 e2 => own_unlike (h2.inner i hi) o2 (by decide) e2 e1)
theorem take_map (K : List (List Fr)) (k : Nat) (h : k < K.length) : (K.take (k + 1)).map lwF = (K.take k).map lwF ++ [lwF (rw' K k)] := by
  rw [List.take_succ_eq_append_getElem h, List.map_append]
  simp [rw', h]
/-- the rows of the kernel of a table of dimensions -/
theorem ker_small {L : List (List Int)} (hd : dimsB L = true) (h : echO (dimT L) = true) (i : Nat) (hi : i < (kerA (dimT L)).length) : Small (rw' (kerA (dimT L)) i) ∧ (rw' (kerA (dimT L)) i).length = L.length := by
  obtain ⟨hd1, hd2⟩ := dimsB_out hd
  obtain ⟨s1, s2⟩ := dimT_shape L
  have hL : (rw' (dimT L) 0).length = L.length := (s2 0 (by omega)).1
  have hint : ∀ i, i < (dimT L).length → ∀ j, j < (rw' (dimT L) 0).length → (fr (rw' (dimT L) i) j).2 = 1 ∧ ((fr (rw' (dimT L) i) j).1).natAbs ≤ 9 := by
    intro i hi j hj
    rw [s1] at hi
    rw [hL] at hj
    rw [(s2 i hi).2 j hj]
    have := (dim_at (hd2 j hj)).2 i hi
    refine ⟨rfl, ?_⟩
    show (fi (ri L j) i).natAbs ≤ 9
    unfold fi
    omega
  rw [kerA_yes h] at hi ⊢
  rw [List.length_map] at hi
  obtain ⟨hm1, hm2⟩ := freeC_mem.1 (List.getElem_mem hi)
  have e : rw' ((freeC (rw' (dimT L) 0).length (echC (dimT L))).map (kerRow (echR (dimT L)) (echC (dimT L)) (rw' (dimT L) 0).length)) i = kerRow (echR (dimT L)) (echC (dimT L)) (rw' (dimT L) 0).length (freeC (rw' (dimT L) 0).length (echC (dimT L)))[i] := by
    show (List.map _ _)[i]?.getD [] = _
    rw [List.getElem?_map, List.getElem?_eq_getElem hi]
    rfl
  rw [e]
  obtain ⟨col, hcol⟩ : ∃ c, c = (freeC (rw' (dimT L) 0).length (echC (dimT L)))[i] := ⟨_, rfl⟩
  rw [← hcol] at hm1 hm2 ⊢
  have hdv := ker_den h (by rw [s1]; omega) hint hm1 hm2
  have h' := h
  unfold echO at h'
  rw [Bool.and_eq_true] at h'
  have hB := (ech_keeps rfl h'.1 h'.2).2
  obtain ⟨k1, k2, k3⟩ := kerRow_at (R := echR (dimT L)) (ech_rises h'.2) hB.chs hm1 hm2
  have hlen := kerRow_len (echR (dimT L)) (echC (dimT L)) (rw' (dimT L) 0).length col
  have hok : ∀ k, k < (rw' (dimT L) 0).length → okF (fr (kerRow (echR (dimT L)) (echC (dimT L)) (rw' (dimT L) 0).length col) k) = true := by
    intro k hk
    by_cases e1 : k = col
    · rw [e1, k1]; decide
    · by_cases e2 : k ∈ echC (dimT L)
      · obtain ⟨x, hx, rfl⟩ := mem_nt e2
        rw [k2 x hx]
        have hb : okF (fr (rw' (echR (dimT L)) x) col) = true := hB.ok x (by have := hB.cl; omega) col hm1
        obtain ⟨q1, q2, q3, q4, q5⟩ := okB_out hb
        unfold mirF okF
        simp only
        have hw : wrap64 (-(fr (rw' (echR (dimT L)) x) col).1) = -(fr (rw' (echR (dimT L)) x) col).1 := by unfold wrap64; omega
        rw [hw]
        exact okB_mk ⟨q1, q2, by omega, by omega, by rw [gcdi_neg_l]; exact q5⟩
      · rw [k3 k hk e1 e2]; decide
  refine ⟨⟨fun k hk => ?_, fun k hk => ?_, ⟨col, by rw [hlen]; exact hm1, by rw [k1]; decide⟩, ?_⟩, by rw [hlen, hL]⟩
  · rw [hlen] at hk
    exact (okB_out (hok k hk)).1
  · rw [hlen] at hk
    exact ⟨(okB_out (hok k hk)).2.2.1, (okB_out (hok k hk)).2.2.2.1⟩
  · rw [hlen]
    exact hdv
def grO (L : List (List Int)) : Bool := dimsB L && echO (dimT L)
def grA (L : List (List Int)) : List (List Int) := if grO L then (kerA (dimT L)).map lwF else []
theorem grA_no {L : List (List Int)} (h : grO L = false) : grA L = [] := by simp [grA, h]
theorem grA_yes {L : List (List Int)} (h : grO L = true) : grA L = (kerA (dimT L)).map lwF := by simp [grA, h]

set_option maxRecDepth 100000 in
set_option maxHeartbeats 4000000 in
theorem iGroups_any (v : Value) (us : List Value) (L : List (List Int)) (base : Nat) (w : World) (h : TabI w base v us L) :
    Calls Try.prog 10 #[v] w fun e w' => ∃ u vs, e = .returned (.tuple #[u, .bool (grO L)]) ∧ TabI w' w.heap.size u vs (grA L) ∧ Below w.heap.size w w' := by
  have b0 : ∀ (u : World) (o : Obj), Below u.heap.size u (u.alloc o) := fun u o => (Below.refl _ _).alloc (Nat.le_refl _) o
  obtain ⟨i0, hi, hz0, hz1, hz2⟩ := info_parts infoU
  have HT := hidH h
  obtain ⟨q, hq⟩ : ∃ q, q = dimsB L := ⟨_, rfl⟩
  have HQ := hidH hq
  have HDo : Hid (∀ W : World, Below w.heap.size w W → Calls Try.prog 31 #[v] W fun e w' => e = .returned (.bool q) ∧ Below W.heap.size W w') := by
    intro W hW; rw [hq]; exact iDims_any v us L base W (HT.out.below hW)
  clear h hq
  cases q
  · have hno : grO L = false := by unfold grO; rw [← HQ.out]; rfl
    rw [grA_no hno, hno]
    clear hno
    go_enter Try.func10, Try.ntmps10
    go_wp2_with fail
    refine (HDo.out _ (Below.refl _ _)).mono ?_
    rintro e w1 ⟨rfl, hb⟩
    go_wp2
    go_ret2
    exact ⟨_, [], rfl, TabI.lit hb.size, hb.alloc hb.size _⟩
  · obtain ⟨hd1, hd2⟩ := dimsB_out HQ.out.symm
    have HDT : Hid (∀ W : World, Below w.heap.size w W → Calls Try.prog 33 #[v] W fun e w' => ∃ u vs, e = .returned u ∧ Tab w' W.heap.size u vs (dimT L) ∧ Below W.heap.size W w') := by
      intro W hW; exact iDimTab_any v us L base W (HT.out.below hW) hd1.2 (fun k hk => (dim_at (hd2 k hk)).1)
    obtain ⟨M, hM⟩ : ∃ M, M = dimT L := ⟨_, rfl⟩
    rw [← hM] at HDT
    have HM := hidH hM
    obtain ⟨p, hp⟩ : ∃ p, p = echO M := ⟨_, rfl⟩
    have HPq := hidH hp
    have hgr : grO L = p := by unfold grO; rw [← HQ.out, ← hM, ← hp]; rfl
    have HGR := hidH hgr
    clear hd1 hd2 hM hp hgr
    cases p
    · rw [grA_no HGR.out, HGR.out]
      go_enter Try.func10, Try.ntmps10
      go_wp2_with fail
      refine (HDo.out _ (Below.refl _ _)).mono ?_
      rintro e w1 ⟨rfl, hb⟩
      have HB := hidH hb
      clear hb HDo
      go_wp2_with fail
      refine (HDT.out _ HB.out).mono ?_
      rintro e w2 ⟨um, vs, rfl, tm, hb⟩
      have HTM := hidH (Tab.read tm)
      replace HB := hidH (HB.out.trans (hb.mono HB.out.size))
      clear tm hb HDT
      go_wp2_with fail
      refine (iEch_any um M _ HTM.out).mono ?_
      rintro e w3 ⟨vm, vc, vf, us3, rfl, t, c, f, hb⟩
      rw [← HPq.out]
      obtain ⟨am, cm, rfl⟩ := own_shape t.outer
      obtain ⟨ac, cc, rfl⟩ := own_shape c
      obtain ⟨af, cf, rfl⟩ := own_shape f
      replace HB := hidH (HB.out.trans (hb.mono HB.out.size))
      have hs := HB.out.size
      clear c f t hb
      go_wp2
      go_ret2
      have tl := TabI.lit (W := w3.alloc (.cells #[.slice am us3.length cm, .slice ac (echCh M).length cc, .slice af (echFe M).length cf] 51)) (base := w.heap.size) (HB.out.alloc hs (.cells #[.slice am us3.length cm, .slice ac (echCh M).length cc, .slice af (echFe M).length cf] 51)).size
      rw [show (w3.alloc (.cells #[.slice am us3.length cm, .slice ac (echCh M).length cc, .slice af (echFe M).length cf] 51)).heap.size = w3.heap.size + 1 by simp] at tl
      exact ⟨_, [], rfl, tl, (HB.out.alloc hs _).alloc (HB.out.alloc hs (.cells #[.slice am us3.length cm, .slice ac (echCh M).length cc, .slice af (echFe M).length cf] 51)).size _⟩
    · have hGA := grA_yes HGR.out
      rw [← HM.out] at hGA
      have hk : tabB M 6 = true ∧ echK M = true := by have := HPq.out.symm; unfold echO at this; rw [Bool.and_eq_true] at this; exact this
      obtain ⟨⟨t1, t2, t3, t4⟩, tr⟩ := tabB_out hk.1
      obtain ⟨d1, d2, d3, d4⟩ := ech_dims hk.1 hk.2
      obtain ⟨e1, e2, e3⟩ := echO_yes HPq.out.symm
      obtain ⟨K, hK⟩ : ∃ K, K = kerA M := ⟨_, rfl⟩
      have HSM : Hid (∀ i, i < K.length → Small (rw' K i) ∧ (rw' K i).length ≤ 1000) := by
        intro i hi
        have h1 : echO (dimT L) = true := by rw [← HM.out]; exact HPq.out.symm
        have h2 := ker_small HQ.out.symm h1 i (by rw [← HM.out, ← hK]; exact hi)
        rw [← HM.out, ← hK] at h2
        have h3 := (dimsB_out HQ.out.symm).1.2
        exact ⟨h2.1, by omega⟩
      have hKl : K.length ≤ 1048576 := by rw [hK]; exact (kerA_small M).1
      have HE2 : Hid (∀ (W : World) (vm vc vf : Value) (us : List Value) (b : Nat), Tab W b vm us (echA M) → W.ownsRow b 3 1 vc (echCh M).length (natV (echCh M)) → W.ownsRow b 3 1 vf (echFe M).length (natV (echFe M)) → Calls Try.prog 34 #[.agg #[vm, vc, vf]] W fun e w' => ∃ v us', e = .returned v ∧ Tab w' W.heap.size v us' K ∧ Below W.heap.size W w') := by
        intro W vm vc vf us b ht hc hf
        rw [e1] at ht
        rw [e2] at hc
        rw [e3] at hf
        rw [hK, kerA_yes HPq.out.symm]
        exact kernel_any vm vc vf us (echR M) (echC M) (rw' M 0).length b b b W ht hc hf t3 (by omega) (by omega) d2 (by omega) (by omega) d4
      have HGA : Hid (grA L = K.map lwF) := by show _ = _; rw [hGA, hK]
      rw [HGA.out, HGR.out]
      clear hk t1 t2 t3 t4 tr d1 d2 d3 d4 e1 e2 e3 hGA hK
      go_enter Try.func10, Try.ntmps10
      go_wp2_with fail
      refine (HDo.out _ (Below.refl _ _)).mono ?_
      rintro e w1 ⟨rfl, hb⟩
      have HB := hidH hb
      clear hb HDo
      go_wp2_with fail
      refine (HDT.out _ HB.out).mono ?_
      rintro e w2 ⟨um, vs, rfl, tm, hb⟩
      have HTM := hidH (Tab.read tm)
      replace HB := hidH (HB.out.trans (hb.mono HB.out.size))
      clear tm hb HDT
      go_wp2_with fail
      refine (iEch_any um M _ HTM.out).mono ?_
      rintro e w3 ⟨vm, vc, vf, us3, rfl, t, c, f, hb⟩
      rw [← HPq.out]
      obtain ⟨am, cm, rfl⟩ := own_shape t.outer
      obtain ⟨ac, cc, rfl⟩ := own_shape c
      obtain ⟨af, cf, rfl⟩ := own_shape f
      replace HB := hidH (HB.out.trans (hb.mono HB.out.size))
      have hs := HB.out.size
      have T := hidH t
      have CC := hidH c
      have FF := hidH f
      clear c f t hb HTM
      go_wp2_with fail
      have hbY : Below w3.heap.size w3 ((w3.alloc (.cells #[.slice am us3.length cm, .slice ac (echCh M).length cc, .slice af (echFe M).length cf] 51)).alloc (.cells #[] 29)) := ((Below.refl _ _).alloc (Nat.le_refl _) _).alloc (by simp) _
      refine (HE2.out _ _ _ _ us3 _ (T.out.below hbY) (own_below CC.out hbY) (own_below FF.out hbY)).mono ?_
      rintro e w4 ⟨vk, us4, rfl, tk, hb4⟩
      have o0 := TabI.lit (W := w3.alloc (.cells #[.slice am us3.length cm, .slice ac (echCh M).length cc, .slice af (echFe M).length cf] 51)) (base := w3.heap.size) (by simp)
      have O0 := hidH (o0.below hb4)
      have B4 := hidH (HB.out.trans ((hbY.trans (hb4.mono hbY.size)).mono hs))
      have hS3 : w.heap.size ≤ w3.heap.size := hs
      have hS4 : w3.heap.size ≤ w4.heap.size := (hbY.trans (hb4.mono hbY.size)).size
      obtain ⟨S, hS⟩ : ∃ S, S = w3.heap.size := ⟨_, rfl⟩
      have hz1' : (w3.alloc (.cells #[.slice am us3.length cm, .slice ac (echCh M).length cc, .slice af (echFe M).length cf] 51)).heap.size = w3.heap.size + 1 := by simp
      rw [hz1', ← hS] at O0
      rw [← hS] at hS3 hS4 ⊢
      have TK := hidH tk
      obtain ⟨B, hB5⟩ : ∃ B, B = ((w3.alloc (.cells #[.slice am us3.length cm, .slice ac (echCh M).length cc, .slice af (echFe M).length cf] 51)).alloc (.cells #[] 29)).heap.size := ⟨_, rfl⟩
      rw [← hB5] at TK
      have hku : us4.length = K.length := tk.len
      obtain ⟨ak, ck, rfl⟩ := own_shape tk.outer
      rw [hku] at TK ⊢
      clear hb4 tk o0 hbY hs hS hz1' hB5 T CC FF HE2 HB
      obtain ⟨kn, hkn⟩ : ∃ n, n = K.length := ⟨_, rfl⟩
      have HKN := hidH hkn
      rw [← hkn] at TK hku hKl ⊢
      have HKU := hidH hku
      clear hkn hku
      go_wp2
      go_loopw [6, 26] (fun g i wr => ∃ (o : Value) (k : Nat) (ws : List Value), o = g ∧ k ≤ kn ∧ i = .int .i64 k ∧ Hid (ws.length = k) ∧ Hid (TabI wr S o ws ((K.take k).map lwF)) ∧ Hid (Tab wr B (.slice ak kn ck) us4 K) ∧ Hid (Below w.heap.size w wr) ∧ Hid (S ≤ wr.heap.size)) (fun _ i _ => kn - (intOf i).toNat)
      case atStart => exact ⟨_, 0, [], rfl, Nat.zero_le _, rfl, rfl, O0.out, TK.out, B4.out, hS4⟩
      case round =>
        clear O0 TK B4 hS4
        obtain ⟨o, k, ws, rfl, hk, rfl, hws, hO, hT, hB, hS4⟩ := hrel
        have hsz := hB.out.size
        have hS5 := hS4.out
        by_cases hlt : k < kn
        · have hku := HKU.out
          obtain ⟨g, cg, eg⟩ := own_some hT.out.outer (by omega)
          injection eg with e1 e2 e3
          subst e1
          clear e2 e3
          have ho := hT.out.outer
          rw [hku] at ho
          have d1 := ho.cellAt k (by omega)
          rw [List.getElem?_eq_getElem (by omega), show us4[k] = vl us4 k by simp [vl, List.getElem?_eq_getElem (show k < us4.length by omega)]] at d1
          have hin := (RdR.own (hT.out.inner k (by omega))).1
          obtain ⟨y, hy⟩ : ∃ y, y = vl us4 k := ⟨_, rfl⟩
          rw [← hy] at d1 hin
          obtain ⟨sm1, sm2⟩ := HSM.out k (by have := HKN.out; omega)
          have HL := hidH (iLeast_any y (rw' K k) wr hin sm1 sm2)
          have hll : (lwF (rw' K k)).length = (rw' K k).length := by simp [lwF]
          obtain ⟨r, hr⟩ : ∃ r, r = lwF (rw' K k) := ⟨_, rfl⟩
          rw [← hr] at HL hll
          have HRR := hidH hr
          rw [← hll] at HL
          clear ho hin hy hr sm1 sm2 hll hku
          go_wp2_with fail
          refine HL.out.mono ?_
          rintro e w5 ⟨u, rfl, ou, hb5⟩
          have OU := hidH ou
          have O5 := hidH (hO.out.below hb5)
          have T5 := hidH (hT.out.below hb5)
          have B5 := hidH (hB.out.trans (hb5.mono hsz))
          have hs5 := hb5.size
          have hlt5 : ∀ i, i < ws.length → ∀ b, (vl ws i).ownBlock = some b → u.ownBlock ≠ some b := by
            intro i hi b h1 h2
            have h3 := hO.out.lt i hi b h1
            have h4 := (ou.lt b h2).1
            omega
          have HLT := hidH hlt5
          obtain ⟨ua, uc, rfl⟩ := own_shape ou
          clear ou hb5 hlt5 hO hT hB d1 HL
          have hjm : ws.length + 1 ≤ 1048577 := by have := hws.out; omega
          have hjm2 : ws.length + 1 ≤ maxLen := by unfold maxLen; omega
          obtain ⟨oa, oc, rfl⟩ := own_shape O5.out.outer
          go_wp2_with (at_builtin; refine wpList_append_own _ rfl _ _ 22 rfl S 29 i0 (.slice none 0 0) 1 24 Try.underlying22 hi hz0 hz1 hz2 rfl (by decide) _ _ _ rfl (O5.out.outer.alloc _) ⟨w5.heap.size, 0, none⟩ 1 1 [.slice ua r.length uc] rfl rfl (cell_one_new _ _ _) (by simp [Value.oneCell']) hjm2 (by omega) (by simp; omega) ?_; intro v' w6 hown' hgrow _; obtain ⟨va', vc', rfl⟩ := own_shape hown')
          go_roundw
          case rel =>
            have A5 := O5.out.append (ps := r) (u := .slice ua r.length uc) (own_le OU.out (by omega)) HLT.out hown' hgrow
            rw [HRR.out, ← take_map K k (by have := HKN.out; omega)] at A5
            have T6 := T5.out.apartI O5.out.outer hgrow
            have hbA := below_appended O5.out.outer (by omega) hgrow
            refine ⟨_, k + 1, ws ++ [_], rfl, by omega, by go_num, ?_, A5, T6, B5.out.trans (hbA.mono (by omega)), ?_⟩
            · show _ = _
              rw [List.length_append, hws.out]; rfl
            · show _ ≤ _
              have := hbA.size
              omega
          case measure => simp [intOf]; omega
        · obtain rfl : k = kn := by omega
          have hO' := hO.out
          rw [HKN.out, List.take_length] at hO'
          have HO := hidH hO'
          clear hO'
          go_wp2
          go_ret2
          exact ⟨_, ws, rfl, HO.out.le hS3, hB.out⟩
end Go.Proofs.Ytbbkejfcheobaak
