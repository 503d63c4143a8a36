/- Lists and tables of fractions that are drawn. -/
import Derived.Test.YthmdiljcceiedaaDrawW3
import Derived.Test.YthmdiljcceiedaaTimW3
namespace Go.Proofs.Ythmdiljcceiedaa
open Go.RowKit Go.Proofs.Ythmdiljcceiedaa.RM

theorem cellsR_snoc (ps : List Fr) (x y : Int) : cellsR (ps ++ [(x, y)]) = cellsR ps ++ [Value.int .i64 x, .int .i64 y] := by simp [cellsR]
theorem hidW {p : Prop} (h : p) : Hid p := h
theorem cur_grown {w w' : World} {cb : Nat} {a : Option Addr} {len cap : Nat} {zs : List Int} {row : Option Nat} (h : Cur w cb a len cap zs) (hg : w.grownBy w' row) (hne : row ≠ some cb) (hrow : ∀ b off, a = some ⟨b, off, none⟩ → 0 < zs.length → row ≠ some b) : Cur w' cb a len cap zs := by
  cases row with
  | none => exact h.below ⟨hg.os, hg.tape, hg.output, hg.size, fun k hk => hg.block k hk (by simp)⟩
  | some g => exact h.ex (x := g) ⟨hg.os, hg.tape, hg.output, hg.size, fun k hk hne => hg.block k hk (by simpa using hne)⟩ (by simpa using hne) (fun b off e hz hb => hrow b off e hz (by rw [hb]))
/-- a row that lies beyond the cursor stays where the cursor moves -/
theorem ownEx {w w' : World} {cb base : Nat} {e : TypeId} {size : Nat} {v : Value} {n : Nat} {xs : List Value} (h : w.ownsRow base e size v n xs) (hx : Ex cb w w') (hc : cb < base) : w'.ownsRow base e size v n xs := by
  refine h.kept (row := some cb) ⟨hx.1, hx.2.1, hx.2.2.1, hx.2.2.2.1, fun k hk hne => hx.2.2.2.2 k hk (by simpa using hne)⟩ (.inr fun e => ?_)
  have := (h.lt cb e).1
  omega
theorem Tab.ex {w w' : World} {cb base : Nat} {v : Value} {us : List Value} {rows : List (List Fr)} (h : Tab w base v us rows) (hx : Ex cb w w') (hc : cb < base) : Tab w' base v us rows :=
  ⟨ownEx h.outer hx hc, h.len, fun i hi => ownEx (h.inner i hi) hx hc, h.apart⟩
/-- the cursor stays where a row beyond it grows -/
theorem curRow {w w1 : World} {cb base : Nat} {a : Option Addr} {len cap : Nat} {zs : List Int} {e : TypeId} {size : Nat} {v : Value} {n : Nat} {xs : List Value} {o : Obj} (h : Cur w cb a len cap zs) (hr : w.ownsRow base e size v n xs) (hc : cb < base) (ha : ∀ b off, a = some ⟨b, off, none⟩ → 0 < zs.length → b < base) (hg : (w.alloc o).grownBy w1 v.ownBlock) : Cur w1 cb a len cap zs := by
  have h1 : Cur (w.alloc o) cb a len cap zs := h.below ((Below.refl _ _).alloc (Nat.le_refl _) _)
  refine cur_grown h1 hg (fun e => ?_) (fun b off e hz hb => ?_)
  · have := (hr.lt cb e).1; omega
  · have := (hr.lt b hb).1; have := ha b off e hz; omega
/-- all else stays where a row beyond it grows -/
theorem exRow {w0 w w1 : World} {cb base : Nat} {e : TypeId} {size : Nat} {v : Value} {n : Nat} {xs : List Value} {o : Obj} (h : Ex cb w0 w) (hr : w.ownsRow base e size v n xs) (hb : w0.heap.size ≤ base) (hg : (w.alloc o).grownBy w1 v.ownBlock) : Ex cb w0 w1 := by
  have h1 := h.alloc o
  refine ⟨hg.os.trans h1.1, hg.tape.trans h1.2.1, hg.output.trans h1.2.2.1, Nat.le_trans h1.size hg.size, fun k hk hne => ?_⟩
  refine (hg.block k (Nat.lt_of_lt_of_le hk h1.size) (fun e => ?_)).trans (h1.2.2.2.2 k hk hne)
  have := (hr.lt k e.symm).1
  omega
theorem exSet {w0 w : World} {cb b o : Nat} {u : Value} (h : Ex cb w0 w) (hb : w0.heap.size ≤ b) : Ex cb w0 (w.setCell ⟨b, o, none⟩ u) := h.setCell (.inr hb) u
theorem curSet {w : World} {cb b o : Nat} {a : Option Addr} {len cap : Nat} {zs : List Int} {u : Value} (h : Cur w cb a len cap zs) (hc : cb ≠ b) (ha : ∀ b' off, a = some ⟨b', off, none⟩ → 0 < zs.length → b' ≠ b) : Cur (w.setCell ⟨b, o, none⟩ u) cb a len cap zs :=
  h.ex (x := b) ((Ex.refl _ w).setCell (.inl rfl) _) (by omega) (fun b' off e hz hb => ha b' off e hz hb)

set_option maxRecDepth 100000 in
set_option maxHeartbeats 4000000 in
theorem dList_any (cb : Nat) (n : Int) (a : Option Addr) (len cap : Nat) (zs : List Int) (w : World) (hc : Cur w cb a len cap zs) (hn0 : 0 ≤ n) (hn1 : n ≤ 100) :
    Calls Try.prog 19 #[.pointer (some ⟨cb, 0, none⟩), .int .i64 n] w fun e w' => ∃ (v : Value) (ps : List Fr), e = .returned v ∧ w'.ownsRow w.heap.size 27 2 v ps.length (cellsR ps) ∧ ps.length ≤ 200 ∧ Cur w' cb a len cap zs ∧ Ex cb w w' := by
  obtain ⟨i0, hi, hz0, hz1, hz2⟩ := info_parts infoF
  have b0 : ∀ (u : World) (o : Obj), Below u.heap.size u (u.alloc o) := fun u o => (Below.refl _ _).alloc (Nat.le_refl _) o
  have hlt := hc.lt
  have HROW : Hid (∀ b off, a = some ⟨b, off, none⟩ → 0 < zs.length → b < w.heap.size) := hc.2.1.lt
  have HC : Hid (Cur w cb a len cap zs) := hc
  clear hc
  go_enter Try.func19, Try.ntmps19
  go_wp2
  have o0 : (w.alloc (.cells #[] 27)).ownsRow w.heap.size 27 2 (.slice (some ⟨w.heap.size, 0, none⟩) 0 0) ([] : List Fr).length (cellsR []) := ⟨rfl, .inr ⟨w.heap.size, 0, #[], rfl, Nat.le_refl _, World.alloc_heap_new w _, Nat.le_refl _, Nat.zero_le _, rfl, rfl⟩⟩
  have C0 : Cur (w.alloc (.cells #[] 27)) cb a len cap zs := HC.out.below (b0 _ _)
  have E0 : Ex cb w (w.alloc (.cells #[] 27)) := (Ex.refl cb w).alloc _
  go_loopw [5, 1] (fun o i wr => ∃ (ps : List Fr) (m : Int), i = .int .i64 m ∧ 0 ≤ m ∧ ps.length + m ≤ 100 ∧ Hid (wr.ownsRow w.heap.size 27 2 o ps.length (cellsR ps)) ∧ Hid (Cur wr cb a len cap zs) ∧ Hid (Ex cb w wr)) (fun _ i _ => (intOf i).toNat)
  case atStart => exact ⟨[], n, rfl, hn0, by simp; omega, o0, C0, E0⟩
  case round =>
    clear o0 C0 E0 HC hn0 hn1
    obtain ⟨ps, m, rfl, hm0, hm1, hO, HC, HE⟩ := hrel
    have hsz := HE.out.size
    by_cases hlt2 : 0 < m
    · have hkm : ps.length + 1 ≤ maxLen := by unfold maxLen; omega
      go_wp2_with fail
      refine (draw_any cb a len cap zs _ HC.out).mono ?_
      rintro e w4 ⟨x, y, rfl, q1, q2, q3, q4, q5, hC', hE⟩
      have hO2 := hidW (ownEx hO.out hE hlt)
      have hE2 := hidW (HE.out.trans hE)
      have hC2 := hidW hC'
      have hs2 := hE2.out.size
      clear q1 q2 q3 q4 q5 hC' hE
      go_wp2_with (at_builtin; refine wpList_append_own _ rfl _ _ 24 rfl w.heap.size 27 i0 (.agg #[.int .i64 0, .int .i64 0]) 2 16 Try.underlying24 hi hz0 hz1 hz2 rfl (by decide) _ _ _ rfl (World.ownsRow.alloc hO2.out _) ⟨w4.heap.size, 0, none⟩ 1 1 [.int .i64 x, .int .i64 y] rfl rfl (cell_twoF _ _ _ _) (by intro u hu; simp at hu; rcases hu with rfl | rfl <;> rfl) (by omega) (by omega) (by simp; omega) ?_; intro v' w5 hown' hgrow _)
      go_roundw
      case rel =>
        refine ⟨ps ++ [(x, y)], m - 1, by go_num, by omega, by simp; omega, ?_, curRow hC2.out hO2.out hlt HROW.out hgrow, exRow hE2.out hO2.out (Nat.le_refl _) hgrow⟩
        show World.ownsRow _ _ _ _ _ _ _
        rw [cellsR_snoc]
        simpa using hown'
      case measure => simp [intOf]; omega
    · have hp : ps.length ≤ 101 := by omega
      clear hm0 hm1
      go_wp2_with fail
      refine (once_any cb _ a len cap zs _ HC.out (by omega)).mono ?_
      rintro e w4 ⟨z, rfl, hC', hE⟩
      replace HC : Hid (Cur w4 cb a len cap zs) := hC'
      replace hO := hidW (ownEx hO.out hE hlt)
      replace HE := hidW (HE.out.trans hE)
      replace hsz := HE.out.size
      clear hC' hE
      have tail : ∀ (qs : List Fr) (v : Value) (W : World), qs.length ≤ 101 → W.ownsRow w.heap.size 27 2 v qs.length (cellsR qs) → Cur W cb a len cap zs → Ex cb w W → True := fun _ _ _ _ _ _ _ => trivial
      clear tail
      cases z
      · go_wp2_with fail
        refine (once_any cb _ a len cap zs _ HC.out (by omega)).mono ?_
        rintro e w6 ⟨z, rfl, hC', hE⟩
        replace HC : Hid (Cur w6 cb a len cap zs) := hC'
        replace hO := hidW (ownEx hO.out hE hlt)
        replace HE := hidW (HE.out.trans hE)
        replace hsz := HE.out.size
        clear hC' hE
        cases z
        · go_wp2
          refine bodyPost_ret (results_tmp rfl _ _ _) rfl ⟨_, ps, rfl, ?_, by omega, HC.out, HE.out⟩; exact hO.out
        · have hkm : ps.length + 1 ≤ maxLen := by unfold maxLen; omega
          go_wp2_with fail
          refine (draw_any cb a len cap zs _ HC.out).mono ?_
          rintro e w7 ⟨x, y, rfl, q1, q2, q3, q4, q5, hC', hE⟩
          have hO2 := hidW (ownEx hO.out hE hlt)
          have hE2 := hidW (HE.out.trans hE)
          have hC2 := hidW hC'
          have hs2 := hE2.out.size
          clear q1 q2 q3 q4 q5 hC' hE
          go_wp2_with (at_builtin; refine wpList_append_own _ rfl _ _ 24 rfl w.heap.size 27 i0 (.agg #[.int .i64 0, .int .i64 0]) 2 16 Try.underlying24 hi hz0 hz1 hz2 rfl (by decide) _ _ _ rfl (World.ownsRow.alloc hO2.out _) ⟨w7.heap.size, 0, none⟩ 1 1 [.int .i64 x, .int .i64 y] rfl rfl (cell_twoF _ _ _ _) (by intro u hu; simp at hu; rcases hu with rfl | rfl <;> rfl) (by omega) (by omega) (by simp; omega) ?_; intro v' w8 hown' hgrow _)
          refine bodyPost_ret (results_tmp rfl _ _ _) rfl ⟨_, ps ++ [(x, y)], rfl, ?_, by simp; omega, curRow hC2.out hO2.out hlt HROW.out hgrow, exRow hE2.out hO2.out (Nat.le_refl _) hgrow⟩
          rw [cellsR_snoc]
          simpa using hown'
      · by_cases hp0 : ps.length = 0
        · obtain rfl : ps = [] := List.eq_nil_of_length_eq_zero hp0
          have hO' := hO.out
          simp only [List.length_nil, cellsR_nil] at hO'
          replace hO := hidW hO'
          obtain ⟨a', c', rfl⟩ := own_shape hO'
          clear hO'
          clear hp0
          go_wp2_with fail
          refine (once_any cb _ a len cap zs _ HC.out (by omega)).mono ?_
          rintro e w6 ⟨z, rfl, hC', hE⟩
          replace HC : Hid (Cur w6 cb a len cap zs) := hC'
          replace hO := hidW (ownEx hO.out hE hlt)
          replace HE := hidW (HE.out.trans hE)
          replace hsz := HE.out.size
          clear hC' hE
          cases z
          · go_wp2
            refine bodyPost_ret (results_tmp rfl _ _ _) rfl ⟨_, [], rfl, ?_, by omega, HC.out, HE.out⟩; exact hO.out
          · have hkm : 0 + 1 ≤ maxLen := by unfold maxLen; omega
            go_wp2_with fail
            refine (draw_any cb a len cap zs _ HC.out).mono ?_
            rintro e w7 ⟨x, y, rfl, q1, q2, q3, q4, q5, hC', hE⟩
            have hO2 := hidW (ownEx hO.out hE hlt)
            have hE2 := hidW (HE.out.trans hE)
            have hC2 := hidW hC'
            have hs2 := hE2.out.size
            clear q1 q2 q3 q4 q5 hC' hE
            go_wp2_with (at_builtin; refine wpList_append_own _ rfl _ _ 24 rfl w.heap.size 27 i0 (.agg #[.int .i64 0, .int .i64 0]) 2 16 Try.underlying24 hi hz0 hz1 hz2 rfl (by decide) _ _ _ rfl (World.ownsRow.alloc hO2.out _) ⟨w7.heap.size, 0, none⟩ 1 1 [.int .i64 x, .int .i64 y] rfl rfl (cell_twoF _ _ _ _) (by intro u hu; simp at hu; rcases hu with rfl | rfl <;> rfl) (by omega) (by omega) (by simp; omega) ?_; intro v' w8 hown' hgrow _)
            refine bodyPost_ret (results_tmp rfl _ _ _) rfl ⟨_, [(x, y)], rfl, ?_, by simp, curRow hC2.out hO2.out hlt HROW.out hgrow, exRow hE2.out hO2.out (Nat.le_refl _) hgrow⟩
            simpa [cellsR] using hown'
        · obtain ⟨g, c, rfl⟩ := own_some hO.out (by omega)
          have hp0i : 0 < (ps.length : Int) := by omega
          go_wp2_with fail
          refine (drawAny_any cb a len cap zs _ HC.out).mono ?_
          rintro e w5 ⟨x, y, rfl, hC', hE⟩
          replace HC : Hid (Cur w5 cb a len cap zs) := hC'
          replace hO := hidW (ownEx hO.out hE hlt)
          replace HE := hidW (HE.out.trans hE)
          replace hsz := HE.out.size
          clear hC' hE
          have hg1 := (World.ownsRow.lt hO.out g rfl)
          obtain ⟨c0, c1⟩ := own_R hO.out rfl 0 (by omega)
          have f0 := World.ownsRow.frozenAt hO.out 0
          have f1 := World.ownsRow.frozenAt hO.out 1
          obtain ⟨s1, s2⟩ := World.ownsRow.stored hO.out 0 (.int .i64 x)
          obtain ⟨s3, s4⟩ := s1.stored 1 (.int .i64 y)
          have s5 := cellsR_set ps 0 x y (by omega)
          simp only [Nat.zero_mul, Nat.zero_add] at s5 c0 c1
          rw [s5] at s3
          have C5 := hidW (curSet (o := 1) (u := .int .i64 y) (curSet (o := 0) (u := .int .i64 x) HC.out (show cb ≠ g by omega) (fun b' off e hz => by have := HROW.out b' off e hz; omega)) (show cb ≠ g by omega) (fun b' off e hz => by have := HROW.out b' off e hz; omega))
          have E5 := hidW (exSet (o := 1) (u := .int .i64 y) (exSet (o := 0) (u := .int .i64 x) HE.out hg1.1) hg1.1)
          have S5 := hidW s3
          clear s1 s2 s3 s4 s5
          go_wp2_with fail
          refine (once_any cb _ a len cap zs _ C5.out (by omega)).mono ?_
          rintro e w6 ⟨z, rfl, hC', hE⟩
          have C6 : Hid (Cur w6 cb a len cap zs) := hC'
          have O6 := hidW (ownEx S5.out hE hlt)
          have E6 := hidW (E5.out.trans hE)
          have hsz6 := E6.out.size
          clear hC' hE
          have hln : (ps.set 0 (x, y)).length = ps.length := by simp
          cases z
          · go_wp2
            refine bodyPost_ret (results_tmp rfl _ _ _) rfl ⟨_, ps.set 0 (x, y), rfl, ?_, by omega, C6.out, E6.out⟩; rw [hln]; exact O6.out
          · have hkm : ps.length + 1 ≤ maxLen := by unfold maxLen; omega
            go_wp2_with fail
            refine (draw_any cb a len cap zs _ C6.out).mono ?_
            rintro e w7 ⟨x', y', rfl, q1, q2, q3, q4, q5, hC', hE⟩
            have hO2 := hidW (ownEx O6.out hE hlt)
            have hE2 := hidW (E6.out.trans hE)
            have hC2 := hidW hC'
            have hs2 := hE2.out.size
            clear q1 q2 q3 q4 q5 hC' hE
            go_wp2_with (at_builtin; refine wpList_append_own _ rfl _ _ 24 rfl w.heap.size 27 i0 (.agg #[.int .i64 0, .int .i64 0]) 2 16 Try.underlying24 hi hz0 hz1 hz2 rfl (by decide) _ _ _ rfl (World.ownsRow.alloc hO2.out _) ⟨w7.heap.size, 0, none⟩ 1 1 [.int .i64 x', .int .i64 y'] rfl rfl (cell_twoF _ _ _ _) (by intro u hu; simp at hu; rcases hu with rfl | rfl <;> rfl) (by omega) (by omega) (by simp; omega) ?_; intro v' w8 hown' hgrow _)
            refine bodyPost_ret (results_tmp rfl _ _ _) rfl ⟨_, ps.set 0 (x, y) ++ [(x', y')], rfl, ?_, by simp; omega, curRow hC2.out hO2.out hlt HROW.out hgrow, exRow hE2.out hO2.out (Nat.le_refl _) hgrow⟩
            rw [cellsR_snoc]
            simpa using hown'
end Go.Proofs.Ythmdiljcceiedaa
