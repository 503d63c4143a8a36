/- A dimension, or what is none, is drawn. -/
import Derived.Test.YtbbkejfcheobaabDrawW2
import Derived.Test.YtbbkejfcheobaabDimW6
namespace Go.Proofs.Ytbbkejfcheobaab
open Go.RowKit Go.Proofs.Ytbbkejfcheobaab.RM

theorem hidI {p : Prop} (h : p) : Hid p := h
theorem ownExI {w w' : World} {cb base : Nat} {e : TypeId} {size : Nat} {v : Value} {n : Nat} {xs : List Value} (h : w.ownsRow base e size v n xs) (hx : Ex cb w w') (hc : cb < base) : w'.ownsRow base e size v n xs := by
  refine ⟨h.1, ?_⟩
  rcases h.2 with hn | ⟨g, c, cur, rfl, h1, h2, h3⟩
  · exact .inl hn
  · exact .inr ⟨g, c, cur, rfl, h1, (hx.2.2.2.2 g (Array.getElem?_eq_some_iff.1 h2).1 (by omega)).trans h2, h3⟩
theorem curGrownI {w w' : World} {cb : Nat} {a : Option Addr} {len cap : Nat} {zs : List Int} {row : Option Nat} (h : Cur w cb a len cap zs) (hg : w.grownBy w' row) (hne : row ≠ some cb) (hrow : ∀ b off, a = some ⟨b, off, none⟩ → 0 < zs.length → row ≠ some b) : Cur w' cb a len cap zs := by
  have hcl := h.lt
  have hx : ∀ b o v, w.cell? ⟨b, o, none⟩ = some v → row ≠ some b → w'.cell? ⟨b, o, none⟩ = some v := by
    intro b o v hv hb
    have hl : b < w.heap.size := World.block_lt_of_cell? w _ hv
    rw [World.cell?_of_block (w := w) (a := ⟨b, o, none⟩) (hg.block b hl (fun e => hb e.symm))]; exact hv
  have hf : ∀ b o, b < w.heap.size → row ≠ some b → w'.frozen? ⟨b, o, none⟩ = w.frozen? ⟨b, o, none⟩ := by
    intro b o hl hb
    exact World.frozen?_of_block (w := w) (a := ⟨b, o, none⟩) (hg.block b hl (fun e => hb e.symm))
  obtain ⟨⟨i, h', h1, h2, h3, h4, h5, h6, h7⟩, hr, hb⟩ := h
  refine ⟨⟨i, h', h1, h2, hx _ _ _ h3 hne, hx _ _ _ h4 hne, hx _ _ _ h5 hne, (hf _ _ hcl hne).trans h6, (hf _ _ hcl hne).trans h7⟩, ?_, hb⟩
  rcases hr with hr | ⟨b, off, ha, k1, k2, k3, k4, k5⟩
  · exact .inl hr
  · exact .inr ⟨b, off, ha, k1, k2, k3, fun i hi => hx _ _ _ (k4 i hi) (hrow b off ha (by omega)), k5⟩
theorem curRowI {w w1 : World} {cb base : Nat} {a : Option Addr} {len cap : Nat} {zs : List Int} {e : TypeId} {size : Nat} {v : Value} {n : Nat} {xs : List Value} {o : Obj} (h : Cur w cb a len cap zs) (hr : w.ownsRow base e size v n xs) (hc : cb < base) (ha : ∀ b off, a = some ⟨b, off, none⟩ → 0 < zs.length → b < base) (hg : (w.alloc o).grownBy w1 v.ownBlock) : Cur w1 cb a len cap zs := by
  refine curGrownI (h.below ((Below.refl _ _).alloc (Nat.le_refl _) o)) hg (fun e => ?_) (fun b off e1 e2 e => ?_)
  · have := (hr.lt cb e).1; omega
  · have := (hr.lt b e).1; have := ha b off e1 e2; omega
theorem exRowI {w0 w w1 : World} {cb base : Nat} {e : TypeId} {size : Nat} {v : Value} {n : Nat} {xs : List Value} {o : Obj} (h : Ex cb w0 w) (hr : w.ownsRow base e size v n xs) (hb : w0.heap.size ≤ base) (hg : (w.alloc o).grownBy w1 v.ownBlock) : Ex cb w0 w1 := by
  have h2 := h.alloc o
  refine ⟨hg.os.trans h2.1, hg.tape.trans h2.2.1, hg.output.trans h2.2.2.1, Nat.le_trans h2.size hg.size, fun k hk hne => ?_⟩
  rw [hg.block k (Nat.lt_of_lt_of_le hk h2.size) (fun e => by have := (hr.lt k e.symm).1; omega)]
  exact h2.2.2.2.2 k hk hne
theorem curSetI {w : World} {cb b o : Nat} {a : Option Addr} {len cap : Nat} {zs : List Int} {u : Value} (h : Cur w cb a len cap zs) (hc : cb ≠ b) (ha : ∀ b' off, a = some ⟨b', off, none⟩ → 0 < zs.length → b' ≠ b) : Cur (w.setCell ⟨b, o, none⟩ u) cb a len cap zs := by
  refine h.ex (x := b) (Ex.setCell (Ex.refl _ _) (.inl rfl) u) (fun e => hc e.symm) ha

/-- a drawn list: in memory of its own from B on, or not of five numbers -/
def DimAt (B : Nat) (w : World) (v : Value) (ys : List Int) : Prop := (∃ base, B ≤ base ∧ w.ownsRow base 2 1 v ys.length (ys.map (Value.int .i64))) ∨ (ys.length ≠ 5 ∧ ∃ a c, v = .slice a ys.length c)
theorem DimAt.to {B : Nat} {w : World} {v : Value} {ys : List Int} (h : DimAt B w v ys) : DimIn w v ys := by
  rcases h with ⟨base, _, h⟩ | h
  · exact .inl ⟨base, 2, h⟩
  · exact .inr h
theorem DimAt.ex {B cb : Nat} {w w' : World} {v : Value} {ys : List Int} (h : DimAt B w v ys) (hx : Ex cb w w') (hc : cb < B) : DimAt B w' v ys := by
  rcases h with ⟨base, hb, h⟩ | h
  · exact .inl ⟨base, hb, ownExI h hx (by omega)⟩
  · exact .inr h

set_option maxRecDepth 100000 in
set_option maxHeartbeats 2000000 in
theorem l4Draw_any (cb : Nat) (a : Option Addr) (len cap : Nat) (zs : List Int) (w : World) (hc : Cur w cb a len cap zs) :
    Calls Try.prog 100 #[.pointer (some ⟨cb, 0, none⟩)] w fun e w' => ∃ v ys, e = .returned v ∧ ys.length ≤ 5 ∧ DimAt w.heap.size w' v ys ∧ Cur w' cb a len cap zs ∧ Ex cb w w' := by
  obtain ⟨i0, hi, hz0, hz1, hz2⟩ := info_parts infoI
  have b0 : ∀ (u : World) (o : Obj), Below u.heap.size u (u.alloc o) := fun u o => (Below.refl _ _).alloc (Nat.le_refl _) o
  have hlt := hc.lt
  have HROW : Hid (∀ b off, a = some ⟨b, off, none⟩ → 0 < zs.length → b < w.heap.size) := fun b off e hz => hc.2.1.lt b off e hz
  have O0 := hidI (World.ownsRow_lit w (base := w.heap.size) (e := 2) (size := 1) #[] 0 (Nat.le_refl _) (Nat.zero_le _) rfl)
  have C0 := hidI (hc.below (b0 w (.cells #[] 2)))
  have E0 := hidI ((Ex.refl cb w).alloc (.cells #[] 2))
  clear hc
  go_enter Try.func100, Try.ntmps100
  go_wp2
  go_loopw [3, 4] (fun o i wr => ∃ (q : Value) (ys : List Int), q = o ∧ ys.length ≤ 5 ∧ i = .int .i64 ys.length ∧ Hid (wr.ownsRow w.heap.size 2 1 q ys.length (ys.map (Value.int .i64))) ∧ Hid (Cur wr cb a len cap zs) ∧ Hid (Ex cb w wr)) (fun _ i _ => 5 - (intOf i).toNat)
  case atStart => exact ⟨_, [], rfl, by simp, rfl, O0.out, C0.out, E0.out⟩
  case round =>
    clear O0 C0 E0
    obtain ⟨q, ys, rfl, hk, rfl, hO, HC, HE⟩ := hrel
    have hsz := HE.out.size
    by_cases hl : ys.length < 5
    · go_wp2_with fail
      refine (once_any cb _ a len cap zs _ HC.out (by omega)).mono ?_
      rintro e w1 ⟨z, rfl, hC', hE⟩
      replace hO := hidI (ownExI hO.out hE hlt)
      replace HE := hidI (HE.out.trans hE)
      replace HC := hidI hC'
      clear hC' hE
      have fin : ∀ (W : World) (x : Int) (v' : Value) (w5 : World), W.ownsRow w.heap.size 2 1 q ys.length (ys.map (Value.int .i64)) → Cur W cb a len cap zs → Ex cb w W → w5.ownsRow w.heap.size 2 1 v' (ys.length + 1) (ys.map (Value.int .i64) ++ [.int .i64 x]) → (W.alloc (.cells #[.int .i64 x] 2)).grownBy w5 q.ownBlock → ∃ (q' : Value) (ys' : List Int), q' = v' ∧ ys'.length ≤ 5 ∧ Value.int .i64 ((ys.length : Int) + 1) = .int .i64 ys'.length ∧ Hid (w5.ownsRow w.heap.size 2 1 q' ys'.length (ys'.map (Value.int .i64))) ∧ Hid (Cur w5 cb a len cap zs) ∧ Hid (Ex cb w w5) := by
        intro W x v' w5 h1 h2 h3 h4 h5
        refine ⟨v', ys ++ [x], rfl, by simp; omega, by simp, ?_, curRowI h2 h1 hlt HROW.out h5, exRowI h3 h1 (Nat.le_refl _) h5⟩
        show World.ownsRow _ _ _ _ _ _ _
        simpa using h4
      have FIN := hidI fin
      clear fin
      obtain ⟨ao, co, rfl⟩ := own_shape hO.out
      cases z
      · go_wp2_with (at_builtin; refine wpList_append_own _ rfl _ _ 57 rfl w.heap.size 2 i0 (.int .i64 0) 1 8 Try.underlying57 hi hz0 hz1 hz2 rfl (by decide) _ _ _ rfl (World.ownsRow.alloc hO.out _) ⟨w1.heap.size, 0, none⟩ 1 1 [.int .i64 0] rfl rfl (cell_one_new _ _ _) (by simp [Value.oneCell']) (by unfold maxLen; omega) (by omega) (by simp; have := HE.out.size; omega) ?_; intro v' w5 hown' hgrow _)
        go_roundw
        case rel => exact FIN.out w1 0 v' w5 hO.out HC.out HE.out hown' hgrow
        case measure => simp [intOf]; omega
      · go_wp2_with fail
        refine (from_any cb _ _ a len cap zs _ HC.out (by omega) (by omega) (by omega)).mono ?_
        rintro e w2 ⟨x, rfl, hx0, hx1, hC', hE⟩
        replace hO := hidI (ownExI hO.out hE hlt)
        replace HE := hidI (HE.out.trans hE)
        replace HC := hidI hC'
        clear hC' hE
        go_wp2_with (at_builtin; refine wpList_append_own _ rfl _ _ 57 rfl w.heap.size 2 i0 (.int .i64 0) 1 8 Try.underlying57 hi hz0 hz1 hz2 rfl (by decide) _ _ _ rfl (World.ownsRow.alloc hO.out _) ⟨w2.heap.size, 0, none⟩ 1 1 [.int .i64 x] rfl rfl (cell_one_new _ _ _) (by simp [Value.oneCell']) (by unfold maxLen; omega) (by omega) (by simp; have := HE.out.size; omega) ?_; intro v' w5 hown' hgrow _)
        go_roundw
        case rel => exact FIN.out w2 x v' w5 hO.out HC.out HE.out hown' hgrow
        case measure => simp [intOf]; omega
    · have h5 : ys.length = 5 := by omega
      rw [h5] at hO
      obtain ⟨g, c, rfl⟩ := own_some hO.out (by omega)
      have hgw := (hO.out.lt g rfl).1
      have HY := hidI h5
      clear h5
      have TAIL : ∀ (W : World) (ts : List Int), ts.length = 5 → W.ownsRow w.heap.size 2 1 (.slice (some ⟨g, 0, none⟩) 5 c) 5 (ts.map (Value.int .i64)) → DimAt w.heap.size W (.slice (some ⟨g, 0, none⟩) 5 c) ts ∧ DimAt w.heap.size W (.slice (some ⟨g, 1, none⟩) 4 (c - 1)) ts.tail := by
        intro W ts h1 h2
        refine ⟨.inl ⟨w.heap.size, Nat.le_refl _, by rw [h1]; exact h2⟩, .inr ⟨by rw [List.length_tail]; omega, _, c - 1, by rw [List.length_tail, h1]⟩⟩
      have HTAIL := hidI TAIL
      have hcap : 5 ≤ c := by
        rcases hO.out.2 with ⟨e, _⟩ | ⟨g', c', cur, e, _, _, h7, _⟩ <;> cases e
        exact h7
      clear TAIL
      go_wp2_with fail
      refine (once_any cb _ a len cap zs _ HC.out (by omega)).mono ?_
      rintro e w1 ⟨z, rfl, hC', hE⟩
      replace hO := hidI (ownExI hO.out hE hlt)
      replace HE := hidI (HE.out.trans hE)
      replace HC := hidI hC'
      clear hC' hE hsz
      cases z
      · go_wp2_with fail
        refine (once_any cb _ a len cap zs _ HC.out (by omega)).mono ?_
        rintro e w2 ⟨z, rfl, hC', hE⟩
        replace hO := hidI (ownExI hO.out hE hlt)
        replace HE := hidI (HE.out.trans hE)
        replace HC := hidI hC'
        clear hC' hE
        obtain ⟨d1, d2⟩ := HTAIL.out w2 ys HY.out hO.out
        have D1 := hidI d1
        have D2 := hidI d2
        clear d1 d2
        cases z
        · go_wp2
          go_ret
          exact ⟨_, ys, rfl, by have := HY.out; omega, D1.out, HC.out, HE.out⟩
        · go_wp2
          go_ret
          exact ⟨_, ys.tail, rfl, by rw [List.length_tail]; have := HY.out; omega, D2.out, HC.out, HE.out⟩
      · go_wp2_with fail
        refine (below_any cb _ a len cap zs _ HC.out (by omega)).mono ?_
        rintro e w2 ⟨x1, rfl, hx0, hx1, hC', hE⟩
        replace hO := hidI (ownExI hO.out hE hlt)
        replace HE := hidI (HE.out.trans hE)
        replace HC := hidI hC'
        clear hC' hE
        obtain ⟨j1, rfl⟩ : ∃ j : Nat, x1 = j := ⟨x1.toNat, by omega⟩
        go_wp2_with fail
        refine (below_any cb _ a len cap zs _ (HC.out.below (b0 _ _)) (by omega)).mono ?_
        rintro e w3 ⟨x2, rfl, hy0, hy1, hC', hE⟩
        have hlt2 := HC.out.lt
        obtain ⟨j2, rfl⟩ : ∃ j : Nat, x2 = j := ⟨x2.toNat, by omega⟩
        have hidx : ∃ v, w3.cell? ⟨w2.heap.size, j2, none⟩ = some (.int .i64 v) := by
          have o := World.ownsRow_lit w2 (base := w2.heap.size) (e := 2) (size := 1) #[.int .i64 9, .int .i64 (-9), .int .i64 10, .int .i64 (-10), .int .i64 4611686018427387904] 5 (Nat.le_refl _) (by decide) rfl
          have := own_int (zs := [9, -9, 10, -10, 4611686018427387904]) o rfl j2 (by omega)
          exact ⟨_, hE.cell this (by omega)⟩
        obtain ⟨v, hidx⟩ := hidx
        replace hO := hidI (ownExI (hO.out.alloc (.cells #[.int .i64 9, .int .i64 (-9), .int .i64 10, .int .i64 (-10), .int .i64 4611686018427387904] 2)) hE hlt)
        replace HE := hidI ((HE.out.alloc _).trans hE)
        replace HC := hidI hC'
        clear hC' hE
        have d1 := hO.out.cellAt j1 (by omega)
        rw [List.getElem?_eq_getElem (by rw [List.length_map, HY.out]; omega)] at d1
        have f1 := hO.out.frozenAt j1
        have O4 : Hid ((w3.setCell ⟨g, j1, none⟩ (.int .i64 v)).ownsRow w.heap.size 2 1 (.slice (some ⟨g, 0, none⟩) 5 c) 5 ((ys.set j1 v).map (Value.int .i64))) := by
          show World.ownsRow _ _ _ _ _ _ _
          rw [List.map_set]
          exact (hO.out.stored j1 (.int .i64 v)).1
        have C4 : Hid (Cur (w3.setCell ⟨g, j1, none⟩ (.int .i64 v)) cb a len cap zs) := curSetI HC.out (by omega) (fun b off e1 e2 => by have := HROW.out b off e1 e2; omega)
        have E4 : Hid (Ex cb w (w3.setCell ⟨g, j1, none⟩ (.int .i64 v))) := HE.out.setCell (.inr hgw) _
        have HYS : Hid ((ys.set j1 v).length = 5) := by show _ = _; rw [List.length_set]; exact HY.out
        clear hO HC HE
        go_wp2_with fail
        refine (once_any cb _ a len cap zs _ C4.out (by omega)).mono ?_
        rintro e w5 ⟨z, rfl, hC', hE⟩
        replace O4 := hidI (ownExI O4.out hE hlt)
        replace E4 := hidI (E4.out.trans hE)
        replace C4 := hidI hC'
        clear hC' hE d1 f1 hidx
        obtain ⟨d1, d2⟩ := HTAIL.out w5 _ HYS.out O4.out
        have D1 := hidI d1
        have D2 := hidI d2
        clear d1 d2
        cases z
        · go_wp2
          go_ret
          exact ⟨_, ys.set j1 v, rfl, by have := HYS.out; omega, D1.out, C4.out, E4.out⟩
        · go_wp2
          go_ret
          exact ⟨_, (ys.set j1 v).tail, rfl, by rw [List.length_tail]; have := HYS.out; omega, D2.out, C4.out, E4.out⟩
end Go.Proofs.Ytbbkejfcheobaab
