/- The walks of Convergents, the model's and the program's: both answer the fractions of the beginnings of the terms. -/
import Derived.Test.YtllgbfoffebojaaFromWS
import Derived.Test.YtllgbfoffebojaaFromWI
import Derived.Test.YtllgbfoffebojaaRowsR
namespace Go.Proofs.Ytllgbfoffebojaa
open Go.RowKit Go.Proofs.Ytllgbfoffebojaa.RM

theorem infoR : (Try.prog.info? 25).map (fun i => (i.zero, i.size, i.bytes)) = some (some (.agg #[.int .i64 0, .int .i64 0]), 2, 16) := by kernel_rfl
theorem cell_two (w : World) (a b : Value) (t : TypeId) : ∀ j u, [a, b][j]? = some u → (w.alloc (.cells #[a, b] t)).cell? ((⟨w.heap.size, 0, none⟩ : Addr).add j) = some u := by
  intro j u h
  match j, h with
  | 0, h => simp at h; subst h; simp [go_sem, Addr.add]
  | 1, h => simp at h; subst h; simp [go_sem, Addr.add]
  | (j + 2), h => simp at h
theorem cell_two' (w : World) (B : Nat) (a b : Value) (t : TypeId) (hB : B = w.heap.size) : ∀ j u, [a, b][j]? = some u → (w.alloc (.cells #[a, b] t)).cell? ((⟨B, 0, none⟩ : Addr).add j) = some u := by
  subst hB; exact cell_two w a b t
/-- a beginning of a row is a row -/
theorem own_begin {W : World} {base : Nat} {e g n c i : Nat} {zs : List Int} (h : W.ownsRow base e 1 (.slice (some ⟨g, 0, none⟩) n c) n (zs.map (Value.int .i64))) (hi : i ≤ n) :
    W.ownsRow base e 1 (.slice (some ⟨g, 0, none⟩) i c) i ((zs.take i).map (Value.int .i64)) := by
  have hl := h.1
  rcases h.2 with ⟨h', _⟩ | ⟨g', c', cur, h', hb, hg, h1, h2, h3, h4⟩
  · cases h'
  · cases h'
    refine ⟨by simp at hl ⊢; omega, .inr ⟨g, c, cur, rfl, hb, hg, by omega, h2, h3, ?_⟩⟩
    rw [List.map_take, ← h4, List.take_take]
    congr 1; omega
/-- a row stays where another one of another type grows -/
theorem own_other {W W' : World} {base base' e e' size size' n n' : Nat} {v v' : Value} {xs xs' : List Value} (h : W.ownsRow base e size v n xs) (h' : W.ownsRow base' e' size' v' n' xs') (hne : e ≠ e') (hg : W.grownBy W' v'.ownBlock) : W'.ownsRow base e size v n xs := by
  refine h.kept hg ?_
  rcases h.2 with ⟨rfl, _⟩ | ⟨g, cap, cur, rfl, _, hgb, _⟩
  · exact .inl rfl
  · refine .inr fun er => ?_
    rcases h'.2 with ⟨rfl, _⟩ | ⟨g', cap', cur', rfl, _, hgb', _⟩
    · simp [Value.ownBlock] at er
    · obtain rfl : g = g' := by simpa [Value.ownBlock] using er
      rw [hgb] at hgb'; injection hgb' with hc; injection hc with _ hc _
      exact hne hc
/-- the fraction of the first terms, up to number i -/
def conv (zs : List Int) (i : Nat) : Int × Int := ((fromT (zs.take (i + 1))).1, (fromT (zs.take (i + 1))).2.1)
def convs (zs : List Int) (k : Nat) : List (Int × Int) := (List.range k).map (conv zs)
theorem convs_succ (zs : List Int) (k : Nat) : convs zs (k + 1) = convs zs k ++ [conv zs k] := by simp [convs, List.range_succ]
theorem convs_len (zs : List Int) (k : Nat) : (convs zs k).length = k := by simp [convs]
def convP (zs : List Int) (n k : Nat) : List (Int × Int) := (List.range n).map (fun i => if i < k then conv zs i else (0, 0))
theorem convP_len (zs : List Int) (n k : Nat) : (convP zs n k).length = n := by simp [convP]
theorem convP_all (zs : List Int) (n : Nat) : convP zs n n = convs zs n := by
  apply List.ext_getElem
  · simp [convP, convs]
  · intro i h1 h2
    rw [convP_len] at h1
    simp [convP, convs, h1]
theorem convP_zero (zs : List Int) (n : Nat) : convP zs n 0 = List.replicate n (0, 0) := by
  apply List.ext_getElem
  · simp [convP]
  · intro i h1 h2
    simp [convP]
theorem convP_set (zs : List Int) (n k : Nat) : (convP zs n k).set k (conv zs k) = convP zs n (k + 1) := by
  apply List.ext_getElem
  · simp [convP]
  · intro i h1 h2
    simp only [convP, List.getElem_set, List.getElem_map, List.getElem_range]
    by_cases e : k = i
    · subst e
      rw [if_pos rfl, if_pos (by omega)]
    · rw [if_neg e]
      by_cases h3 : i < k
      · rw [if_pos h3, if_pos (by omega)]
      · rw [if_neg h3, if_neg (by omega)]
theorem cellsR_zeros (n : Nat) : cellsR (List.replicate n (0, 0)) = List.replicate (n * 2) (Value.int .i64 0) := by
  induction n with
  | zero => rfl
  | succ n ih => rw [List.replicate_succ, cellsR_cons, ih, show (n + 1) * 2 = n * 2 + 1 + 1 by omega, List.replicate_succ, List.replicate_succ]
theorem madeR (n : Nat) : (madeCells (Value.agg #[.int .i64 0, .int .i64 0]).cells (n * 2)).toList = cellsR (List.replicate n (0, 0)) := by
  rw [cellsR_zeros]
  apply List.ext_getElem?
  intro j
  by_cases hj : j < n * 2
  · simp [madeCells, hj, Value.cells]
    rcases Nat.mod_two_eq_zero_or_one j with e | e <;> rw [e] <;> rfl
  · simp [madeCells, hj]

set_option maxRecDepth 100000 in
set_option maxHeartbeats 2000000 in
theorem sConv_any (a b : Int) (w : World) :
    Calls Try.prog 39 #[.agg #[.int .i64 a, .int .i64 b]] w fun e w' => ∃ v, e = .returned v ∧ w'.ownsRow w.heap.size 25 2 v (termsL a b).length (cellsR (convs (termsL a b) (termsL a b).length)) ∧ Below w.heap.size w w' := by
  obtain ⟨i0, hi, hz0, hz1, hz2⟩ := info_parts infoR
  obtain ⟨zs, hzs⟩ : ∃ zs, zs = termsL a b := ⟨_, rfl⟩
  obtain ⟨n, hn⟩ : ∃ n, zs.length = n := ⟨_, rfl⟩
  have hn2 : n ≤ 1000000000 := by rw [← hn, hzs]; exact termsL_len a b
  have HT : Hid (∀ u : World, Calls Try.prog 37 #[.agg #[.int .i64 a, .int .i64 b]] u fun e w' => ∃ v, e = .returned v ∧ w'.ownsRow u.heap.size 2 1 v n (zs.map (Value.int .i64)) ∧ Below u.heap.size u w') := by
    intro u; have := sTerms_any a b u; rw [← hzs, hn] at this; exact this
  rw [← hzs, hn]
  have HN : Hid (zs.length = n) := hn
  clear hzs hn
  go_enter Try.func39, Try.ntmps39
  go_wp2_with fail
  refine (HT.out _).mono ?_
  rintro e w1 ⟨v, rfl, ov, hb⟩
  have B1 : Below w.heap.size w w1 := (((Below.refl _ _).alloc (Nat.le_refl _) _).alloc (by simp) _).trans (hb.mono (by simp <;> omega))
  have oo : w1.ownsRow w.heap.size 25 2 (.slice (some ⟨w.heap.size + 1, 0, none⟩) 0 0) 0 [] := by
    have := World.ownsRow_lit (w.alloc (.cells #[.int .i64 a, .int .i64 b] 25)) (base := w.heap.size) (e := 25) (size := 2) #[] 0 (by simp) (Nat.zero_le _) rfl
    exact own_below (by simpa using this) hb
  obtain ⟨bs, hbs⟩ : ∃ bs, bs = ((w.alloc (.cells #[.int .i64 a, .int .i64 b] 25)).alloc (.cells #[] 25)).heap.size := ⟨_, rfl⟩
  rw [← hbs] at ov
  clear hb hbs
  by_cases h0 : n = 0
  · subst h0
    obtain ⟨x, c, rfl⟩ := own_shape ov
    go_wp2
    go_loop [3, 5] (fun o i => o = .slice (some ⟨w.heap.size + 1, 0, none⟩) 0 0 ∧ i = .int .i64 1) (fun _ _ => 0)
    case atStart => exact ⟨rfl, rfl⟩
    case round =>
      obtain ⟨rfl, rfl⟩ := hrel
      go_wp2
      refine bodyPost_ret (results_tmp rfl _ _ _) rfl ⟨_, rfl, ?_, B1⟩
      exact oo
  · obtain ⟨g, c, rfl⟩ := own_some ov (by omega)
    have hcap : n ≤ c := by
      rcases ov.2 with ⟨h, _⟩ | ⟨g', c', cur, h, _, _, h3, _⟩
      · cases h
      · cases h; exact h3
    have OV : Hid (w1.ownsRow bs 2 1 (.slice (some ⟨g, 0, none⟩) n c) n (zs.map (Value.int .i64))) := ov
    clear ov
    go_wp2
    go_loopw [3, 5] (fun o i wr => ∃ k : Nat, k ≤ n ∧ i = .int .i64 ((k : Int) + 1) ∧ Hid (wr.ownsRow w.heap.size 25 2 o k (cellsR (convs zs k))) ∧ Hid (wr.ownsRow bs 2 1 (.slice (some ⟨g, 0, none⟩) n c) n (zs.map (Value.int .i64))) ∧ Hid (Below w.heap.size w wr)) (fun _ i _ => (n + 1) - (intOf i).toNat)
    case atStart => exact ⟨0, Nat.zero_le _, rfl, oo, OV.out, B1⟩
    case round =>
      clear oo OV B1
      obtain ⟨k, hk, rfl, hO, hV, hB⟩ := hrel
      have hkm : k + 1 ≤ maxLen := by unfold maxLen; omega
      have hsz := hB.out.size
      by_cases hlt : k < n
      · have hl1 : (zs.take (k + 1)).length = k + 1 := by rw [List.length_take, HN.out]; omega
        obtain ⟨q, hq⟩ : ∃ q, q = fromT (zs.take (k + 1)) := ⟨_, rfl⟩
        have HC : Hid (conv zs k = (q.1, q.2.1)) := by show _ = _; rw [hq]; rfl
        obtain ⟨qn, qd, qo⟩ := q
        have HF : Hid (∀ u : World, u.ownsRow bs 2 1 (.slice (some ⟨g, 0, none⟩) n c) n (zs.map (Value.int .i64)) → Calls Try.prog 35 #[.slice (some ⟨g, 0, none⟩) (k + 1) c] u fun e w' => e = .returned (.tuple #[.agg #[.int .i64 qn, .int .i64 qd], .bool qo]) ∧ Below u.heap.size u w') := by
          intro u hu; have := sFrom_any _ (zs.take (k + 1)) (k + 1) bs u hl1 (by omega) (own_begin hu (by omega)); rw [← hq] at this; exact this
        clear hq hl1
        go_wp2_with (first | (go_at_call 35; refine (HF.out _ hV.out).mono ?_; rintro e w2 ⟨rfl, hb2⟩; have hO2 := own_below hO.out hb2; have hV2 := own_below hV.out hb2; have hB2 := hB.out.trans (hb2.mono hsz); have hs2 := hB2.size) | (at_builtin; refine wpList_append_own _ rfl _ _ 43 rfl w.heap.size 25 i0 (.agg #[.int .i64 0, .int .i64 0]) 2 16 Try.underlying43 hi hz0 hz1 hz2 rfl (by decide) _ _ _ rfl ((hO2.alloc _).alloc _) ⟨w2.heap.size + 1, 0, none⟩ 1 1 [.int .i64 qn, .int .i64 qd] rfl rfl (cell_two' _ _ _ _ _ (by simp)) (by intro u hu; simp at hu; rcases hu with rfl | rfl <;> rfl) (by omega) (by omega) (by simp; omega) ?_; intro v' w3 hown' hgrow _))
        refine ⟨⟨k + 1, by omega, by go_num, ?_, own_other ((hV2.alloc _).alloc _) ((hO2.alloc _).alloc _) (by decide) hgrow, (hB2.alloc hs2 _).trans (below_appended (hO2.alloc _) (by simp; omega) hgrow)⟩, by simp [intOf]; omega⟩
        show World.ownsRow _ _ _ _ _ _ _
        rw [convs_succ, cellsR_append, HC.out]
        exact hown'
      · obtain rfl : k = n := by omega
        go_wp2
        refine bodyPost_ret (results_tmp rfl _ _ _) rfl ⟨_, rfl, ?_, hB.out⟩
        exact hO.out

set_option maxRecDepth 100000 in
set_option maxHeartbeats 2000000 in
theorem iConv_any (a b : Int) (w : World) :
    Calls Try.prog 34 #[.agg #[.int .i64 a, .int .i64 b]] w fun e w' => ∃ v, e = .returned v ∧ w'.ownsRow w.heap.size 25 2 v (termsL a b).length (cellsR (convs (termsL a b) (termsL a b).length)) ∧ Below w.heap.size w w' := by
  obtain ⟨i0, hi, hz0, hz1, hz2⟩ := info_parts infoR
  obtain ⟨zs, hzs⟩ : ∃ zs, zs = termsL a b := ⟨_, rfl⟩
  obtain ⟨n, hn⟩ : ∃ n, zs.length = n := ⟨_, rfl⟩
  have hn2 : n ≤ 1000000000 := by rw [← hn, hzs]; exact termsL_len a b
  have HT : Hid (∀ u : World, Calls Try.prog 31 #[.agg #[.int .i64 a, .int .i64 b]] u fun e w' => ∃ v, e = .returned v ∧ w'.ownsRow u.heap.size 2 1 v n (zs.map (Value.int .i64)) ∧ Below u.heap.size u w') := by
    intro u; have := iTerms_any a b u; rw [← hzs, hn] at this; exact this
  rw [← hzs, hn]
  have HN : Hid (zs.length = n) := hn
  clear hzs hn
  go_enter Try.func34, Try.ntmps34
  go_wp2_with fail
  refine (HT.out _).mono ?_
  rintro e w1 ⟨v, rfl, ov, hb⟩
  have B1 : Below w.heap.size w w1 := ((Below.refl _ _).alloc (Nat.le_refl _) _).trans (hb.mono (by simp))
  obtain ⟨bs, hbs⟩ : ∃ bs, bs = (w.alloc (.cells #[.int .i64 a, .int .i64 b] 25)).heap.size := ⟨_, rfl⟩
  rw [← hbs] at ov
  clear hb hbs
  have hs1 := B1.size
  have shape : ∃ p c, v = .slice p n c := own_shape ov
  have OV0 : Hid (w1.ownsRow bs 2 1 v n (zs.map (Value.int .i64))) := ov
  obtain ⟨p, c, rfl⟩ := shape
  clear ov
  go_wp2_with (at_make; refine wpList_make_full _ rfl _ _ 43 rfl w.heap.size 25 i0 (.agg #[.int .i64 0, .int .i64 0]) 2 Try.underlying43 hi hz0 hz1 .i64 .i64 _ _ n rfl rfl rfl rfl (by rw [hz2]; omega) (by unfold maxLen; omega) hs1 ?_; intro w2 hown hgrow)
  have oo : w2.ownsRow w.heap.size 25 2 (.slice (some ⟨w1.heap.size, 0, none⟩) n n) n (cellsR (convP zs n 0)) := by
    rw [convP_zero, ← madeR]; exact hown
  have B2 : Below w.heap.size w w2 := B1.grown hgrow hs1 (fun k e => by cases e)
  have OV : Hid (w2.ownsRow bs 2 1 (.slice p n c) n (zs.map (Value.int .i64))) := OV0.out.kept hgrow (by by_cases k : (Value.slice p n c).ownBlock = none; exact .inl k; exact .inr k)
  obtain ⟨G, hG⟩ : ∃ G, G = w1.heap.size := ⟨_, rfl⟩
  have hwG : w.heap.size ≤ G := by omega
  rw [← hG]
  rw [← hG] at oo
  clear hown hgrow hG OV0 B1 hs1
  by_cases h0 : n = 0
  · subst h0
    go_loop [13] (fun i => i = .int .i64 0) (fun _ => 0)
    case atStart => exact rfl
    case round =>
      subst hrel
      go_wp2
      refine bodyPost_ret (results_tmp rfl _ _ _) rfl ⟨_, rfl, ?_, B2⟩
      exact oo
  · obtain ⟨g, c', e⟩ := own_some OV.out (by omega)
    cases e
    have hcap : n ≤ c := by
      rcases OV.out.2 with ⟨h, _⟩ | ⟨g', c', cur, h, _, _, h3, _⟩
      · cases h
      · cases h; exact h3
    go_loopw [13] (fun i wr => ∃ k : Nat, k ≤ n ∧ i = .int .i64 k ∧ Hid (wr.ownsRow w.heap.size 25 2 (.slice (some ⟨G, 0, none⟩) n n) n (cellsR (convP zs n k))) ∧ Hid (wr.ownsRow bs 2 1 (.slice (some ⟨g, 0, none⟩) n c) n (zs.map (Value.int .i64))) ∧ Hid (Below w.heap.size w wr)) (fun i _ => n - (intOf i).toNat)
    case atStart => exact ⟨0, Nat.zero_le _, rfl, oo, OV.out, B2⟩
    case round =>
      clear oo OV B2
      obtain ⟨k, hk, rfl, hO, hV, hB⟩ := hrel
      have hsz := hB.out.size
      by_cases hlt : k < n
      · have hl1 : (zs.take (k + 1)).length = k + 1 := by rw [List.length_take, HN.out]; omega
        obtain ⟨q, hq⟩ : ∃ q, q = fromT (zs.take (k + 1)) := ⟨_, rfl⟩
        have HC : Hid (conv zs k = (q.1, q.2.1)) := by show _ = _; rw [hq]; rfl
        obtain ⟨qn, qd, qo⟩ := q
        have HF : Hid (∀ u : World, u.ownsRow bs 2 1 (.slice (some ⟨g, 0, none⟩) n c) n (zs.map (Value.int .i64)) → Calls Try.prog 33 #[.slice (some ⟨g, 0, none⟩) (k + 1) c] u fun e w' => e = .returned (.tuple #[.agg #[.int .i64 qn, .int .i64 qd], .bool qo]) ∧ Below u.heap.size u w') := by
          intro u hu; have := iFrom_any _ (zs.take (k + 1)) (k + 1) bs u hl1 (by omega) (own_begin hu (by omega)); rw [← hq] at this; exact this
        clear hq hl1
        go_wp2_with (go_at_call 33; refine (HF.out _ hV.out).mono ?_; rintro e w2 ⟨rfl, hb2⟩; have hO2 := own_below hO.out hb2; have hV2 := own_below hV.out hb2; have hB2 := hB.out.trans (hb2.mono hsz); have hs2 := hB2.size; obtain ⟨c1, c2⟩ := own_R hO2 (convP_len _ _ _) k hlt; have f1 := hO2.frozenAt (k * 2); have f2 := hO2.frozenAt (k * 2 + 1))
        obtain ⟨s1, s2⟩ := hO2.stored (k * 2) (.int .i64 qn)
        obtain ⟨s3, s4⟩ := s1.stored (k * 2 + 1) (.int .i64 qd)
        rw [cellsR_set _ _ _ _ (by rw [convP_len]; exact hlt), show ((qn, qd) : Int × Int) = conv zs k from HC.out.symm, convP_set] at s3
        exact ⟨⟨k + 1, by omega, by go_num, s3, own_other (own_other hV2 hO2 (by decide) s2) s1 (by decide) s4, (hB2.setCell (p := ⟨G, k * 2, none⟩) hwG _).setCell (p := ⟨G, k * 2 + 1, none⟩) hwG _⟩, by simp [intOf]; omega⟩
      · obtain rfl : k = n := by omega
        go_wp2
        refine bodyPost_ret (results_tmp rfl _ _ _) rfl ⟨_, rfl, ?_, hB.out⟩
        rw [← convP_all]
        exact hO.out
end Go.Proofs.Ytllgbfoffebojaa
