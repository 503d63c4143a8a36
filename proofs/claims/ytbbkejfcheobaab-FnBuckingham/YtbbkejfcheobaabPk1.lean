/- Several texts of this proof laid one behind the other: each has its own heading below. -/
import Derived.Test.YtbbkejfcheobaabTabW0
import Derived.Test.YtbbkejfcheobaabDrawW3
import Derived.Test.YtbbkejfcheobaabTimW3
import Derived.Test.YtbbkejfcheobaabAlikeW
import Derived.Test.YtbbkejfcheobaabDrawI

/- An append to a row of the call's own, told where its answer lies: in the row's block, or in a new one. -/
namespace Go
open Go.RowKit
section
variable {P : Program} (w : World)
theorem append_where (base : Nat) (t ty e : TypeId) (i : TypeInfo) (z : Value) (size bytes : Nat) (ht : P.underlying t = some (.slice e)) (hi : P.info? e = some i) (hz : i.zero = some z)
    (hsize : i.size = size) (hby : i.bytes = bytes) (hsz : 0 < size)
    (v : Value) (n : Nat) (xs : List Value) (hown : w.ownsRow base e size v n xs)
    (a : Addr) (m c : Nat) (news : List Value) (hl : news.length = m * size) (hnews : ∀ j u, news[j]? = some u → w.cell? (a.add j) = some u) (h1 : ∀ u ∈ news, u.oneCell' = true)
    (h63 : n + m ≤ maxLen) (hbytes : (n + m) * bytes ≤ 140737488355328) {v' : Value} {w' : World} (hr : (Builtin.append_ #[t, t] ty #[v, .slice (some a) m c]).run P w = .ok v' w') :
    ∀ b, v'.ownBlock = some b → v.ownBlock = some b ∨ b = w.heap.size := by
  subst hsize
  subst hby
  have hsmall : n + m ≤ 9223372036854775807 := by simp only [maxLen] at h63; omega
  intro b hb
  rcases hown.2 with ⟨rfl, rfl⟩ | ⟨g, cap, cur, rfl, hbg, hg, hnc, hcm, hcs, htake⟩
  · have hx : xs = [] := List.eq_nil_of_length_eq_zero (by simpa using hown.1)
    subst hx
    by_cases hm : m = 0
    · subst hm
      have e0 : (Builtin.append_ #[t, t] ty #[.slice none 0 0, .slice (some a) 0 c]).run P w = .ok (.slice none 0 0) w := by
        simp [Builtin.append_, run_underlying ht, sizeOf, typeInfo, hi, Builtin.lenOf, Builtin.firstCells, loadCells, loadCellsFrom]
      rw [e0] at hr
      cases hr
      simp [Value.ownBlock] at hb
    · have h2 := run_append_nil (P := P) w t ty e i z ht hi hz a m c news hl hnews (by omega) (by omega) (by have hb := hbytes; simp only [Nat.zero_add] at hb; omega)
      rw [h2] at hr
      cases hr
      simp [Value.ownBlock] at hb
      exact .inr hb.symm
  · by_cases hroom : n + m ≤ cap
    · have hfit : n * i.size + news.length ≤ cur.size := by rw [hl, hcs, ← Nat.add_mul]; exact Nat.mul_le_mul_right _ hroom
      have h2 := run_append_room (P := P) w t ty e i ht hi g n cap cur hg a m c news hl hnews h1 hroom hfit
      rw [h2] at hr
      cases hr
      exact .inl hb
    · have holds : ∀ j u, xs[j]? = some u → w.cell? ((⟨g, 0, none⟩ : Addr).add j) = some u := hown.cells (g := g) rfl
      have h2 := run_append_grow (P := P) w t ty e i z ht hi hz ⟨g, 0, none⟩ n cap xs hown.1 holds a m c news hl hnews (by omega) (by omega) (growslice_fits (by omega) hbytes)
      rw [h2] at hr
      cases hr
      simp [Value.ownBlock] at hb
      exact .inr hb.symm
theorem wp_append_at {o : Oper} {a : Act} {K : Act → World → Prop} {Q : Exit → Act → World → Prop} (s x : Operand) (t : TypeId)
    (ho : o.op = .call { callee := .builtin .append, args := #[s, x], argTypes := #[t, t] })
    (base : Nat) (e : TypeId) (i : TypeInfo) (z : Value) (size bytes : Nat) (ht : P.underlying t = some (.slice e)) (hi : P.info? e = some i) (hz : i.zero = some z)
    (hsize : i.size = size) (hby : i.bytes = bytes) (hzs : z.cells.size = size) (hsz : 0 < size)
    (v : Value) (n : Nat) (xs : List Value) (hs : a.eval s = v) (hown : w.ownsRow base e size v n xs)
    (ad : Addr) (m c : Nat) (news : List Value) (hx : a.eval x = .slice (some ad) m c) (hl : news.length = m * size) (hnews : ∀ j u, news[j]? = some u → w.cell? (ad.add j) = some u) (h1 : ∀ u ∈ news, u.oneCell' = true)
    (h63 : n + m ≤ maxLen) (hbytes : (n + m) * bytes ≤ 140737488355328) (hbase : base ≤ w.heap.size)
    (h : ∀ v' w', w'.ownsRow base e size v' (n + m) (xs ++ news) → w.grownBy w' v.ownBlock → (∀ b, v'.ownBlock = some b → v.ownBlock = some b ∨ b = w.heap.size) → K (a.put o.dst v') w') : o.wp P a w K Q := by
  obtain ⟨v', w', hr, h2, h3, h4⟩ := run_append_own (P := P) w base t o.type e i z size bytes ht hi hz hsize hby hzs hsz v n xs hown ad m c news hl hnews h1 h63 hbytes hbase
  have h5 := append_where (P := P) w base t o.type e i z size bytes ht hi hz hsize hby hsz v n xs hown ad m c news hl hnews h1 h63 hbytes hr
  unfold Oper.wp execOp
  simp only [ho, resolve, invoke, builtin, Sem.run_bind, Sem.run_pure, Result.andThen_ok, List.map_toArray, List.map_cons, List.map_nil, hs, hx, hr]
  exact h v' w' h2 h3 h5
theorem wpList_append_at {ops : Array Oper} {rest : List Oper} {o : Oper} {a : Act} {Q : Exit → Act → World → Prop} (hgd : o.guard = none) (s x : Operand) (t : TypeId)
    (ho : o.op = .call { callee := .builtin .append, args := #[s, x], argTypes := #[t, t] })
    (base : Nat) (e : TypeId) (i : TypeInfo) (z : Value) (size bytes : Nat) (ht : P.underlying t = some (.slice e)) (hi : P.info? e = some i) (hz : i.zero = some z)
    (hsize : i.size = size) (hby : i.bytes = bytes) (hzs : z.cells.size = size) (hsz : 0 < size)
    (v : Value) (n : Nat) (xs : List Value) (hs : a.eval s = v) (hown : w.ownsRow base e size v n xs)
    (ad : Addr) (m c : Nat) (news : List Value) (hx : a.eval x = .slice (some ad) m c) (hl : news.length = m * size) (hnews : ∀ j u, news[j]? = some u → w.cell? (ad.add j) = some u) (h1 : ∀ u ∈ news, u.oneCell' = true)
    (h63 : n + m ≤ maxLen) (hbytes : (n + m) * bytes ≤ 140737488355328) (hbase : base ≤ w.heap.size)
    (h : ∀ v' w', w'.ownsRow base e size v' (n + m) (xs ++ news) → w.grownBy w' v.ownBlock → (∀ b, v'.ownBlock = some b → v.ownBlock = some b ∨ b = w.heap.size) → wpList P ops Q rest (a.put o.dst v') w') : wpList P ops Q (o :: rest) a w :=
  wpList_plain hgd fun _ hK => wp_append_at w s x t ho base e i z size bytes ht hi hz hsize hby hzs hsz v n xs hs hown ad m c news hx hl hnews h1 h63 hbytes hbase fun v' w' h2 h3 h4 => hK _ _ (h v' w' h2 h3 h4)
end
end Go
namespace Go.Proofs.Ytbbkejfcheobaab
open Go.RowKit Go.Proofs.Ytbbkejfcheobaab.RM
/-- a row of the table has grown and is laid back -/
theorem Tab.grow {W w5 : World} {base g n c k : Nat} {us : List Value} {rows : List (List Fr)} {u : Value} {ps : List Fr} (h : Tab W base (.slice (some ⟨g, 0, none⟩) n c) us rows) (hk : k < us.length)
    (hu : w5.ownsRow base 25 2 u ps.length (cellsR ps)) (hg : W.grownBy w5 (vl us k).ownBlock) (ha : ∀ b, u.ownBlock = some b → (vl us k).ownBlock = some b ∨ W.heap.size ≤ b) :
    Tab (w5.setCell ⟨g, k, none⟩ u) base (.slice (some ⟨g, 0, none⟩) n c) (us.set k u) (rows.set k ps) ∧ w5.ownsRow base 44 1 (.slice (some ⟨g, 0, none⟩) n c) us.length us := by
  have ho := own_oth h.outer (h.inner k hk) (by decide) hg
  have hin : ∀ i, i < us.length → i ≠ k → w5.ownsRow base 25 2 (vl us i) (rw' rows i).length (cellsR (rw' rows i)) := by
    intro i hi hne
    refine (h.inner i hi).kept hg ?_
    by_cases hn : (vl us i).ownBlock = none
    · exact .inl hn
    · obtain ⟨b, hb⟩ : ∃ b, (vl us i).ownBlock = some b := by
        cases hx : (vl us i).ownBlock with
        | none => exact absurd hx hn
        | some b => exact ⟨b, rfl⟩
      refine .inr ?_
      rw [hb]
      exact (h.apart i k hi hk hne b hb).symm
  refine ⟨?_, ho⟩
  have hn : us.length = n := by
    rcases h.outer.2 with ⟨e, _⟩ | ⟨g', c', cur, e, _⟩ <;> cases e; rfl
  subst hn
  obtain ⟨s1, s2⟩ := ho.stored k u
  have keep : ∀ {m : Nat} {x : Value} {xs : List Value}, w5.ownsRow base 25 2 x m xs → (w5.setCell ⟨g, k, none⟩ u).ownsRow base 25 2 x m xs := fun hx => own_oth hx ho (by decide) s2
  have hlen := h.len
  refine ⟨by rw [List.length_set]; exact s1, by rw [List.length_set, List.length_set]; exact h.len, fun i hi => ?_, fun i j hi hj hne b hb => ?_⟩
  · rw [List.length_set] at hi
    rw [vl_set _ _ _ _ hk, rw_set _ _ _ _ (by omega)]
    by_cases e : k = i
    · rw [if_pos e, if_pos e]; exact keep hu
    · rw [if_neg e, if_neg e]; exact keep (hin i hi (fun e2 => e e2.symm))
  · rw [List.length_set] at hi hj
    rw [vl_set _ _ _ _ hk] at hb ⊢
    have apart : ∀ i, i < us.length → i ≠ k → ∀ b, (vl us i).ownBlock = some b → u.ownBlock ≠ some b := by
      intro i hi hne b h1 h2
      rcases ha b h2 with h3 | h3
      · exact h.apart i k hi hk hne b h1 h3
      · have := ((h.inner i hi).lt b h1).2; omega
    by_cases e : k = i
    · subst e
      rw [if_pos rfl] at hb
      rw [if_neg hne]
      intro h2
      exact apart j hj (fun e => hne e.symm) b h2 hb
    · rw [if_neg e] at hb
      by_cases e2 : k = j
      · rw [if_pos e2]; exact apart i hi (fun h => e h.symm) b hb
      · rw [if_neg e2]; exact h.apart i j hi hj hne b hb
end Go.Proofs.Ytbbkejfcheobaab

/- Lists and tables of fractions that are drawn. -/
namespace Go.Proofs.Ytbbkejfcheobaab
open Go.RowKit Go.Proofs.Ytbbkejfcheobaab.RM

theorem cellsR_snoc (ps : List Fr) (x y : Int) : cellsR (ps ++ [(x, y)]) = cellsR ps ++ [Value.int .i64 x, .int .i64 y] := by simp [cellsR]
theorem hidW {p : Prop} (h : p) : Hid p := h
theorem cur_grown {w w' : World} {cb : Nat} {a : Option Addr} {len cap : Nat} {zs : List Int} {row : Option Nat} (h : Cur w cb a len cap zs) (hg : w.grownBy w' row) (hne : row ≠ some cb) (hrow : ∀ b off, a = some ⟨b, off, none⟩ → 0 < zs.length → row ≠ some b) : Cur w' cb a len cap zs := by
  cases row with
  | none => exact h.below ⟨hg.os, hg.tape, hg.output, hg.size, fun k hk => hg.block k hk (by simp)⟩
  | some g => exact h.ex (x := g) ⟨hg.os, hg.tape, hg.output, hg.size, fun k hk hne => hg.block k hk (by simpa using hne)⟩ (by simpa using hne) (fun b off e hz hb => hrow b off e hz (by rw [hb]))
/-- a row that lies beyond the cursor stays where the cursor moves -/
theorem ownEx {w w' : World} {cb base : Nat} {e : TypeId} {size : Nat} {v : Value} {n : Nat} {xs : List Value} (h : w.ownsRow base e size v n xs) (hx : Ex cb w w') (hc : cb < base) : w'.ownsRow base e size v n xs := by
  refine h.kept (row := some cb) ⟨hx.1, hx.2.1, hx.2.2.1, hx.2.2.2.1, fun k hk hne => hx.2.2.2.2 k hk (by simpa using hne)⟩ (.inr fun e => ?_)
  have := (h.lt cb e).1
  omega
theorem Tab.ex {w w' : World} {cb base : Nat} {v : Value} {us : List Value} {rows : List (List Fr)} (h : Tab w base v us rows) (hx : Ex cb w w') (hc : cb < base) : Tab w' base v us rows :=
  ⟨ownEx h.outer hx hc, h.len, fun i hi => ownEx (h.inner i hi) hx hc, h.apart⟩
/-- the cursor stays where a row beyond it grows -/
theorem curRow {w w1 : World} {cb base : Nat} {a : Option Addr} {len cap : Nat} {zs : List Int} {e : TypeId} {size : Nat} {v : Value} {n : Nat} {xs : List Value} {o : Obj} (h : Cur w cb a len cap zs) (hr : w.ownsRow base e size v n xs) (hc : cb < base) (ha : ∀ b off, a = some ⟨b, off, none⟩ → 0 < zs.length → b < base) (hg : (w.alloc o).grownBy w1 v.ownBlock) : Cur w1 cb a len cap zs := by
  have h1 : Cur (w.alloc o) cb a len cap zs := h.below ((Below.refl _ _).alloc (Nat.le_refl _) _)
  refine cur_grown h1 hg (fun e => ?_) (fun b off e hz hb => ?_)
  · have := (hr.lt cb e).1; omega
  · have := (hr.lt b hb).1; have := ha b off e hz; omega
/-- all else stays where a row beyond it grows -/
theorem exRow {w0 w w1 : World} {cb base : Nat} {e : TypeId} {size : Nat} {v : Value} {n : Nat} {xs : List Value} {o : Obj} (h : Ex cb w0 w) (hr : w.ownsRow base e size v n xs) (hb : w0.heap.size ≤ base) (hg : (w.alloc o).grownBy w1 v.ownBlock) : Ex cb w0 w1 := by
  have h1 := h.alloc o
  refine ⟨hg.os.trans h1.1, hg.tape.trans h1.2.1, hg.output.trans h1.2.2.1, Nat.le_trans h1.size hg.size, fun k hk hne => ?_⟩
  refine (hg.block k (Nat.lt_of_lt_of_le hk h1.size) (fun e => ?_)).trans (h1.2.2.2.2 k hk hne)
  have := (hr.lt k e.symm).1
  omega
theorem exSet {w0 w : World} {cb b o : Nat} {u : Value} (h : Ex cb w0 w) (hb : w0.heap.size ≤ b) : Ex cb w0 (w.setCell ⟨b, o, none⟩ u) := h.setCell (.inr hb) u
theorem curSet {w : World} {cb b o : Nat} {a : Option Addr} {len cap : Nat} {zs : List Int} {u : Value} (h : Cur w cb a len cap zs) (hc : cb ≠ b) (ha : ∀ b' off, a = some ⟨b', off, none⟩ → 0 < zs.length → b' ≠ b) : Cur (w.setCell ⟨b, o, none⟩ u) cb a len cap zs :=
  h.ex (x := b) ((Ex.refl _ w).setCell (.inl rfl) _) (by omega) (fun b' off e hz hb => ha b' off e hz hb)

set_option maxRecDepth 100000 in
set_option maxHeartbeats 4000000 in
theorem dList_any (cb : Nat) (n : Int) (a : Option Addr) (len cap : Nat) (zs : List Int) (w : World) (hc : Cur w cb a len cap zs) (hn0 : 0 ≤ n) (hn1 : n ≤ 100) :
    Calls Try.prog 73 #[.pointer (some ⟨cb, 0, none⟩), .int .i64 n] w fun e w' => ∃ (v : Value) (ps : List Fr), e = .returned v ∧ w'.ownsRow w.heap.size 25 2 v ps.length (cellsR ps) ∧ ps.length ≤ 200 ∧ Cur w' cb a len cap zs ∧ Ex cb w w' := by
  obtain ⟨i0, hi, hz0, hz1, hz2⟩ := info_parts infoF
  have b0 : ∀ (u : World) (o : Obj), Below u.heap.size u (u.alloc o) := fun u o => (Below.refl _ _).alloc (Nat.le_refl _) o
  have hlt := hc.lt
  have HROW : Hid (∀ b off, a = some ⟨b, off, none⟩ → 0 < zs.length → b < w.heap.size) := hc.2.1.lt
  have HC : Hid (Cur w cb a len cap zs) := hc
  clear hc
  go_enter Try.func73, Try.ntmps73
  go_wp2
  have o0 : (w.alloc (.cells #[] 25)).ownsRow w.heap.size 25 2 (.slice (some ⟨w.heap.size, 0, none⟩) 0 0) ([] : List Fr).length (cellsR []) := ⟨rfl, .inr ⟨w.heap.size, 0, #[], rfl, Nat.le_refl _, World.alloc_heap_new w _, Nat.le_refl _, Nat.zero_le _, rfl, rfl⟩⟩
  have C0 : Cur (w.alloc (.cells #[] 25)) cb a len cap zs := HC.out.below (b0 _ _)
  have E0 : Ex cb w (w.alloc (.cells #[] 25)) := (Ex.refl cb w).alloc _
  go_loopw [5, 1] (fun o i wr => ∃ (ps : List Fr) (m : Int), i = .int .i64 m ∧ 0 ≤ m ∧ ps.length + m ≤ 100 ∧ Hid (wr.ownsRow w.heap.size 25 2 o ps.length (cellsR ps)) ∧ Hid (Cur wr cb a len cap zs) ∧ Hid (Ex cb w wr)) (fun _ i _ => (intOf i).toNat)
  case atStart => exact ⟨[], n, rfl, hn0, by simp; omega, o0, C0, E0⟩
  case round =>
    clear o0 C0 E0 HC hn0 hn1
    obtain ⟨ps, m, rfl, hm0, hm1, hO, HC, HE⟩ := hrel
    have hsz := HE.out.size
    by_cases hlt2 : 0 < m
    · have hkm : ps.length + 1 ≤ maxLen := by unfold maxLen; omega
      go_wp2_with fail
      refine (draw_any cb a len cap zs _ HC.out).mono ?_
      rintro e w4 ⟨x, y, rfl, q1, q2, q3, q4, q5, hC', hE⟩
      have hO2 := hidW (ownEx hO.out hE hlt)
      have hE2 := hidW (HE.out.trans hE)
      have hC2 := hidW hC'
      have hs2 := hE2.out.size
      clear q1 q2 q3 q4 q5 hC' hE
      go_wp2_with (at_builtin; refine wpList_append_own _ rfl _ _ 44 rfl w.heap.size 25 i0 (.agg #[.int .i64 0, .int .i64 0]) 2 16 Try.underlying44 hi hz0 hz1 hz2 rfl (by decide) _ _ _ rfl (World.ownsRow.alloc hO2.out _) ⟨w4.heap.size, 0, none⟩ 1 1 [.int .i64 x, .int .i64 y] rfl rfl (cell_twoF _ _ _ _) (by intro u hu; simp at hu; rcases hu with rfl | rfl <;> rfl) (by omega) (by omega) (by simp; omega) ?_; intro v' w5 hown' hgrow _)
      go_roundw
      case rel =>
        refine ⟨ps ++ [(x, y)], m - 1, by go_num, by omega, by simp; omega, ?_, curRow hC2.out hO2.out hlt HROW.out hgrow, exRow hE2.out hO2.out (Nat.le_refl _) hgrow⟩
        show World.ownsRow _ _ _ _ _ _ _
        rw [cellsR_snoc]
        simpa using hown'
      case measure => simp [intOf]; omega
    · have hp : ps.length ≤ 101 := by omega
      clear hm0 hm1
      go_wp2_with fail
      refine (once_any cb _ a len cap zs _ HC.out (by omega)).mono ?_
      rintro e w4 ⟨z, rfl, hC', hE⟩
      replace HC : Hid (Cur w4 cb a len cap zs) := hC'
      replace hO := hidW (ownEx hO.out hE hlt)
      replace HE := hidW (HE.out.trans hE)
      replace hsz := HE.out.size
      clear hC' hE
      have tail : ∀ (qs : List Fr) (v : Value) (W : World), qs.length ≤ 101 → W.ownsRow w.heap.size 25 2 v qs.length (cellsR qs) → Cur W cb a len cap zs → Ex cb w W → True := fun _ _ _ _ _ _ _ => trivial
      clear tail
      cases z
      · go_wp2_with fail
        refine (once_any cb _ a len cap zs _ HC.out (by omega)).mono ?_
        rintro e w6 ⟨z, rfl, hC', hE⟩
        replace HC : Hid (Cur w6 cb a len cap zs) := hC'
        replace hO := hidW (ownEx hO.out hE hlt)
        replace HE := hidW (HE.out.trans hE)
        replace hsz := HE.out.size
        clear hC' hE
        cases z
        · go_wp2
          refine bodyPost_ret (results_tmp rfl _ _ _) rfl ⟨_, ps, rfl, ?_, by omega, HC.out, HE.out⟩; exact hO.out
        · have hkm : ps.length + 1 ≤ maxLen := by unfold maxLen; omega
          go_wp2_with fail
          refine (draw_any cb a len cap zs _ HC.out).mono ?_
          rintro e w7 ⟨x, y, rfl, q1, q2, q3, q4, q5, hC', hE⟩
          have hO2 := hidW (ownEx hO.out hE hlt)
          have hE2 := hidW (HE.out.trans hE)
          have hC2 := hidW hC'
          have hs2 := hE2.out.size
          clear q1 q2 q3 q4 q5 hC' hE
          go_wp2_with (at_builtin; refine wpList_append_own _ rfl _ _ 44 rfl w.heap.size 25 i0 (.agg #[.int .i64 0, .int .i64 0]) 2 16 Try.underlying44 hi hz0 hz1 hz2 rfl (by decide) _ _ _ rfl (World.ownsRow.alloc hO2.out _) ⟨w7.heap.size, 0, none⟩ 1 1 [.int .i64 x, .int .i64 y] rfl rfl (cell_twoF _ _ _ _) (by intro u hu; simp at hu; rcases hu with rfl | rfl <;> rfl) (by omega) (by omega) (by simp; omega) ?_; intro v' w8 hown' hgrow _)
          refine bodyPost_ret (results_tmp rfl _ _ _) rfl ⟨_, ps ++ [(x, y)], rfl, ?_, by simp; omega, curRow hC2.out hO2.out hlt HROW.out hgrow, exRow hE2.out hO2.out (Nat.le_refl _) hgrow⟩
          rw [cellsR_snoc]
          simpa using hown'
      · by_cases hp0 : ps.length = 0
        · obtain rfl : ps = [] := List.eq_nil_of_length_eq_zero hp0
          have hO' := hO.out
          simp only [List.length_nil, cellsR_nil] at hO'
          replace hO := hidW hO'
          obtain ⟨a', c', rfl⟩ := own_shape hO'
          clear hO'
          clear hp0
          go_wp2_with fail
          refine (once_any cb _ a len cap zs _ HC.out (by omega)).mono ?_
          rintro e w6 ⟨z, rfl, hC', hE⟩
          replace HC : Hid (Cur w6 cb a len cap zs) := hC'
          replace hO := hidW (ownEx hO.out hE hlt)
          replace HE := hidW (HE.out.trans hE)
          replace hsz := HE.out.size
          clear hC' hE
          cases z
          · go_wp2
            refine bodyPost_ret (results_tmp rfl _ _ _) rfl ⟨_, [], rfl, ?_, by omega, HC.out, HE.out⟩; exact hO.out
          · have hkm : 0 + 1 ≤ maxLen := by unfold maxLen; omega
            go_wp2_with fail
            refine (draw_any cb a len cap zs _ HC.out).mono ?_
            rintro e w7 ⟨x, y, rfl, q1, q2, q3, q4, q5, hC', hE⟩
            have hO2 := hidW (ownEx hO.out hE hlt)
            have hE2 := hidW (HE.out.trans hE)
            have hC2 := hidW hC'
            have hs2 := hE2.out.size
            clear q1 q2 q3 q4 q5 hC' hE
            go_wp2_with (at_builtin; refine wpList_append_own _ rfl _ _ 44 rfl w.heap.size 25 i0 (.agg #[.int .i64 0, .int .i64 0]) 2 16 Try.underlying44 hi hz0 hz1 hz2 rfl (by decide) _ _ _ rfl (World.ownsRow.alloc hO2.out _) ⟨w7.heap.size, 0, none⟩ 1 1 [.int .i64 x, .int .i64 y] rfl rfl (cell_twoF _ _ _ _) (by intro u hu; simp at hu; rcases hu with rfl | rfl <;> rfl) (by omega) (by omega) (by simp; omega) ?_; intro v' w8 hown' hgrow _)
            refine bodyPost_ret (results_tmp rfl _ _ _) rfl ⟨_, [(x, y)], rfl, ?_, by simp, curRow hC2.out hO2.out hlt HROW.out hgrow, exRow hE2.out hO2.out (Nat.le_refl _) hgrow⟩
            simpa [cellsR] using hown'
        · obtain ⟨g, c, rfl⟩ := own_some hO.out (by omega)
          have hp0i : 0 < (ps.length : Int) := by omega
          go_wp2_with fail
          refine (drawAny_any cb a len cap zs _ HC.out).mono ?_
          rintro e w5 ⟨x, y, rfl, hC', hE⟩
          replace HC : Hid (Cur w5 cb a len cap zs) := hC'
          replace hO := hidW (ownEx hO.out hE hlt)
          replace HE := hidW (HE.out.trans hE)
          replace hsz := HE.out.size
          clear hC' hE
          have hg1 := (World.ownsRow.lt hO.out g rfl)
          obtain ⟨c0, c1⟩ := own_R hO.out rfl 0 (by omega)
          have f0 := World.ownsRow.frozenAt hO.out 0
          have f1 := World.ownsRow.frozenAt hO.out 1
          obtain ⟨s1, s2⟩ := World.ownsRow.stored hO.out 0 (.int .i64 x)
          obtain ⟨s3, s4⟩ := s1.stored 1 (.int .i64 y)
          have s5 := cellsR_set ps 0 x y (by omega)
          simp only [Nat.zero_mul, Nat.zero_add] at s5 c0 c1
          rw [s5] at s3
          have C5 := hidW (curSet (o := 1) (u := .int .i64 y) (curSet (o := 0) (u := .int .i64 x) HC.out (show cb ≠ g by omega) (fun b' off e hz => by have := HROW.out b' off e hz; omega)) (show cb ≠ g by omega) (fun b' off e hz => by have := HROW.out b' off e hz; omega))
          have E5 := hidW (exSet (o := 1) (u := .int .i64 y) (exSet (o := 0) (u := .int .i64 x) HE.out hg1.1) hg1.1)
          have S5 := hidW s3
          clear s1 s2 s3 s4 s5
          go_wp2_with fail
          refine (once_any cb _ a len cap zs _ C5.out (by omega)).mono ?_
          rintro e w6 ⟨z, rfl, hC', hE⟩
          have C6 : Hid (Cur w6 cb a len cap zs) := hC'
          have O6 := hidW (ownEx S5.out hE hlt)
          have E6 := hidW (E5.out.trans hE)
          have hsz6 := E6.out.size
          clear hC' hE
          have hln : (ps.set 0 (x, y)).length = ps.length := by simp
          cases z
          · go_wp2
            refine bodyPost_ret (results_tmp rfl _ _ _) rfl ⟨_, ps.set 0 (x, y), rfl, ?_, by omega, C6.out, E6.out⟩; rw [hln]; exact O6.out
          · have hkm : ps.length + 1 ≤ maxLen := by unfold maxLen; omega
            go_wp2_with fail
            refine (draw_any cb a len cap zs _ C6.out).mono ?_
            rintro e w7 ⟨x', y', rfl, q1, q2, q3, q4, q5, hC', hE⟩
            have hO2 := hidW (ownEx O6.out hE hlt)
            have hE2 := hidW (E6.out.trans hE)
            have hC2 := hidW hC'
            have hs2 := hE2.out.size
            clear q1 q2 q3 q4 q5 hC' hE
            go_wp2_with (at_builtin; refine wpList_append_own _ rfl _ _ 44 rfl w.heap.size 25 i0 (.agg #[.int .i64 0, .int .i64 0]) 2 16 Try.underlying44 hi hz0 hz1 hz2 rfl (by decide) _ _ _ rfl (World.ownsRow.alloc hO2.out _) ⟨w7.heap.size, 0, none⟩ 1 1 [.int .i64 x', .int .i64 y'] rfl rfl (cell_twoF _ _ _ _) (by intro u hu; simp at hu; rcases hu with rfl | rfl <;> rfl) (by omega) (by omega) (by simp; omega) ?_; intro v' w8 hown' hgrow _)
            refine bodyPost_ret (results_tmp rfl _ _ _) rfl ⟨_, ps.set 0 (x, y) ++ [(x', y')], rfl, ?_, by simp; omega, curRow hC2.out hO2.out hlt HROW.out hgrow, exRow hE2.out hO2.out (Nat.le_refl _) hgrow⟩
            rw [cellsR_snoc]
            simpa using hown'
end Go.Proofs.Ytbbkejfcheobaab

/- The walk of the program's table of dimensions. -/
namespace Go.Proofs.Ytbbkejfcheobaab
open Go.RowKit Go.Proofs.Ytbbkejfcheobaab.RM

theorem hidG {p : Prop} (h : p) : Hid p := h
/-- row i of the table when k dimensions and j numbers of the next one are in -/
def dimR (L : List (List Int)) (k j i : Nat) : List Fr := (List.range (if i < j then k + 1 else k)).map fun c => (fi (ri L c) i, 1)
def dimK (L : List (List Int)) (k j : Nat) : List (List Fr) := (List.range 5).map (dimR L k j)
def dimT (L : List (List Int)) : List (List Fr) := dimK L L.length 0
theorem dimK_len (L : List (List Int)) (k j : Nat) : (dimK L k j).length = 5 := by simp [dimK]
theorem dimK_row (L : List (List Int)) (k j i : Nat) (h : i < 5) : rw' (dimK L k j) i = dimR L k j i := by simp [dimK, rw', h]
theorem dimK_zero (L : List (List Int)) : dimK L 0 0 = List.replicate 5 [] := by
  apply List.ext_getElem
  · simp [dimK]
  · intro i h1 h2
    have hi : i < 5 := by simpa [dimK] using h1
    rw [List.getElem_replicate]
    simp [dimK, dimR]
theorem dimK_next (L : List (List Int)) (k : Nat) : dimK L k 5 = dimK L (k + 1) 0 := by
  apply List.ext_getElem
  · simp [dimK]
  · intro i h1 h2
    have hi : i < 5 := by simpa [dimK] using h1
    simp [dimK, dimR, hi]
theorem dimR_more (L : List (List Int)) (k j : Nat) : dimR L k (j + 1) j = dimR L k j j ++ [(fi (ri L k) j, 1)] := by
  unfold dimR
  rw [if_pos (by omega), if_neg (Nat.lt_irrefl j), List.range_succ, List.map_append]
  rfl
theorem dimK_set (L : List (List Int)) (k j : Nat) (_hj : j < 5) : (dimK L k j).set j (dimR L k (j + 1) j) = dimK L k (j + 1) := by
  apply List.ext_getElem
  · simp [dimK]
  · intro i h1 h2
    simp only [dimK, List.getElem_set, List.getElem_map, List.getElem_range]
    by_cases e : j = i
    · subst e; rw [if_pos rfl]
    · rw [if_neg e]
      unfold dimR
      by_cases h3 : i < j
      · rw [if_pos h3, if_pos (by omega)]
      · rw [if_neg h3, if_neg (by omega)]
theorem dimR_len (L : List (List Int)) (k j : Nat) : (dimR L k j j).length = k := by simp [dimR]
theorem dimT_shape (L : List (List Int)) : (dimT L).length = 5 ∧ ∀ i, i < 5 → (rw' (dimT L) i).length = L.length ∧ ∀ j, j < L.length → fr (rw' (dimT L) i) j = (fi (ri L j) i, 1) := by
  refine ⟨dimK_len _ _ _, fun i hi => ?_⟩
  unfold dimT
  rw [dimK_row _ _ _ _ hi]
  refine ⟨by simp [dimR], fun j hj => by simp [dimR, fr, hj]⟩

set_option maxRecDepth 100000 in
set_option maxHeartbeats 2000000 in
theorem iDimTab_any (v : Value) (us : List Value) (L : List (List Int)) (w : World) (h : RdD w v us L) (hL : L.length ≤ 6) (h5 : ∀ k, k < L.length → (ri L k).length = 5) :
    Calls Try.prog 78 #[v] w fun e w' => ∃ u vs, e = .returned u ∧ Tab w' w.heap.size u vs (dimT L) ∧ Below w.heap.size w w' := by
  have b0 : ∀ (u : World) (o : Obj), Below u.heap.size u (u.alloc o) := fun u o => (Below.refl _ _).alloc (Nat.le_refl _) o
  obtain ⟨i0, hi, hz0, hz1, hz2⟩ := info_parts infoT
  obtain ⟨i1, ji, jz0, jz1, jz2⟩ := info_parts infoF
  obtain ⟨n, hn⟩ : ∃ n, n = L.length := ⟨_, rfl⟩
  have HIN : Hid (∀ k, k < n → ∃ g c, vl us k = .slice (some ⟨g, 0, none⟩) 5 c ∧ ∀ j, j < 5 → w.cell? ⟨g, j, none⟩ = some (.int .i64 (fi (ri L k) j))) := by
    intro k hk
    obtain ⟨base, et, hin⟩ := (h.inner k (by omega)).five (h5 k (by omega))
    rw [h5 k (by omega)] at hin
    obtain ⟨g, c, e⟩ := own_some hin (by omega)
    rw [e] at hin ⊢
    exact ⟨g, c, rfl, fun j hj => own_int hin (h5 k (by omega)) j hj⟩
  obtain ⟨a, c, rfl, hv⟩ := h.vals
  rw [← hn] at hv hL ⊢
  have H5 := hidG hv
  have HN := hidG hn
  clear h hv hn h5
  go_enter Try.func78, Try.ntmps78
  go_wp2_with (at_make; refine wpList_make_full _ rfl _ _ 33 rfl w.heap.size 44 i0 (.slice none 0 0) 1 Try.underlying33 hi hz0 hz1 .i64 .i64 _ _ 5 rfl rfl rfl rfl (by rw [hz2]; omega) (by unfold maxLen; omega) (Nat.le_refl _) ?_; intro w1 hown hgrow)
  have o0 : Tab w1 w.heap.size (.slice (some ⟨w.heap.size, 0, none⟩) 5 5) (List.replicate 5 (.slice none 0 0)) (dimK L 0 0) := by
    rw [dimK_zero]; refine Tab.made ?_; rw [← madeT]; exact hown
  have hB0 : Below w.heap.size w w1 := (Below.refl _ w).grown hgrow (Nat.le_refl _) (fun k e => by cases e)
  obtain ⟨G, hG⟩ : ∃ G, G = w.heap.size := ⟨_, rfl⟩
  have hwG : w.heap.size ≤ G := by omega
  rw [← hG]
  rw [← hG] at o0
  clear hown hgrow hG
  have O0 := hidG o0
  have B0 := hidG hB0
  clear o0 hB0
  go_loopw [11] (fun i wr => ∃ (k : Nat) (vs : List Value), k ≤ n ∧ i = .int .i64 k ∧ Hid (Tab wr G (.slice (some ⟨G, 0, none⟩) 5 5) vs (dimK L k 0)) ∧ Hid (Below w.heap.size w wr)) (fun i _ => n - (intOf i).toNat)
  case atStart => exact ⟨0, _, Nat.zero_le _, rfl, O0.out, B0.out⟩
  case round =>
    clear O0 B0
    obtain ⟨k, vs, hk, rfl, hT, hB⟩ := hrel
    by_cases hlt : k < n
    · obtain ⟨g, rfl, c1⟩ := H5.out k hlt
      obtain ⟨gd, cd, ed, hd⟩ := HIN.out k hlt
      rw [ed] at c1
      replace c1 := cell_keep hB.out c1
      have HD := hidG hd
      clear hd ed
      go_wp2
      go_loopw [17] (fun i wr => ∃ (j : Nat) (vs : List Value), j ≤ 5 ∧ i = .int .i64 j ∧ Hid (Tab wr G (.slice (some ⟨G, 0, none⟩) 5 5) vs (dimK L k j)) ∧ Hid (Below w.heap.size w wr)) (fun i _ => 5 - (intOf i).toNat)
      case atStart => exact ⟨0, vs, by omega, rfl, hT, hB⟩
      case round =>
        clear hT hB c1
        obtain ⟨j, vs, hj, rfl, hT, hB⟩ := hrel
        have hsz := hB.out.size
        by_cases hj5 : j < 5
        · have hvl : vs.length = 5 := by rw [hT.out.len, dimK_len]
          have d0 := cell_keep hB.out (HD.out j hj5)
          have ho := hT.out.outer
          rw [hvl] at ho
          have d1 := ho.cellAt j (by omega)
          rw [List.getElem?_eq_getElem (by omega), show vs[j] = vl vs j by simp [vl, List.getElem?_eq_getElem (show j < vs.length by omega)]] at d1
          have hin := hT.out.inner j (by omega)
          rw [dimK_row _ _ _ _ hj5, dimR_len] at hin
          have HI := hidG hin
          have hGw := (hT.out.outer.lt G rfl).2
          obtain ⟨y, hy⟩ : ∃ y, y = vl vs j := ⟨_, rfl⟩
          obtain ⟨p, hp⟩ : ∃ p, p = fi (ri L k) j := ⟨_, rfl⟩
          have HY := hidG hy
          have HPP := hidG hp
          rw [← hy] at d1 HI
          rw [← hp] at d0
          have f1 := ho.frozenAt j
          clear ho hin hy hp
          obtain ⟨ya, yc, rfl⟩ := own_shape HI.out
          have OUT5 : Hid (∀ w5 : World, (wr.alloc (.cells #[.int .i64 p, .int .i64 1] 25)).grownBy w5 (Value.slice ya k yc).ownBlock → w5.cell? ⟨G, j, none⟩ = some (.slice ya k yc) ∧ w5.frozen? ⟨G, j, none⟩ = false) := by
            intro w5 hg
            have o5 := own_oth (hT.out.outer.alloc (.cells #[.int .i64 p, .int .i64 1] 25)) (HI.out.alloc (.cells #[.int .i64 p, .int .i64 1] 25)) (by decide) hg
            rw [hvl] at o5
            have e1 := o5.cellAt j (by omega)
            rw [List.getElem?_eq_getElem (by omega), show vs[j] = vl vs j by simp [vl, List.getElem?_eq_getElem (show j < vs.length by omega)], ← HY.out] at e1
            exact ⟨e1, o5.frozenAt j⟩
          have hk6 : k + 1 ≤ maxLen := by unfold maxLen; omega
          go_wp2_with (at_builtin; refine wpList_append_at _ rfl _ _ 44 rfl G 25 i1 (.agg #[.int .i64 0, .int .i64 0]) 2 16 Try.underlying44 ji jz0 jz1 jz2 rfl (by decide) _ _ _ rfl (World.ownsRow.alloc HI.out _) ⟨wr.heap.size, 0, none⟩ 1 1 [.int .i64 p, .int .i64 1] rfl rfl (cell_twoF _ _ _ _) (by intro u hu; simp at hu; rcases hu with rfl | rfl <;> rfl) hk6 (by omega) (by simp; omega) ?_; intro v' w5 hown' hgrow hwhere; obtain ⟨e1, e2⟩ := OUT5.out w5 hgrow; obtain ⟨va', vc', rfl⟩ := own_shape hown')
          go_roundw
          case rel =>
            have T2 := hT.out.below (b0 wr (.cells #[.int .i64 p, .int .i64 1] 25))
            obtain ⟨T5, o5⟩ := T2.grow (k := j) (u := .slice va' (k + 1) vc') (ps := dimR L k (j + 1) j) (by omega) (by
              rw [dimR_more, ← HPP.out]
              have : cellsR (dimR L k j j ++ [(p, 1)]) = cellsR (dimR L k j j) ++ [.int .i64 p, .int .i64 1] := by simp [cellsR]
              rw [this, List.length_append, dimR_len]
              exact hown') (by rw [← HY.out]; exact hgrow) (fun b e => by
              rcases hwhere b e with h1 | h1
              · exact .inl (by rw [← HY.out]; exact h1)
              · exact .inr (by omega))
            rw [dimK_set L k j hj5] at T5
            have TT := hidG T5
            have BT : Hid (Below w.heap.size w (w5.setCell ⟨G, j, none⟩ (.slice va' (k + 1) vc'))) := by
              show Below _ _ _
              exact ((hB.out.trans ((b0 wr (.cells #[.int .i64 p, .int .i64 1] 25)).mono hsz)).grown hgrow (by simp; omega) (fun b e => by have := (HI.out.lt b e).1; omega)).setCell (p := ⟨G, j, none⟩) hwG _
            exact ⟨j + 1, _, by omega, by go_num, TT, BT⟩
          case measure => simp [intOf]; omega
        · obtain rfl : j = 5 := by omega
          rw [dimK_next] at hT
          go_wp2
          go_roundw
          case rel => exact ⟨k + 1, vs, by omega, by go_num, hT, hB⟩
          case measure => simp [intOf]; omega
    · obtain rfl : k = n := by omega
      go_wp2
      go_ret
      refine ⟨_, vs, rfl, ?_, hB.out⟩
      have := hT.out
      rw [HN.out] at this
      exact this.le hwG
end Go.Proofs.Ytbbkejfcheobaab

/- A list of dimensions is drawn. -/
namespace Go.Proofs.Ytbbkejfcheobaab
open Go.RowKit Go.Proofs.Ytbbkejfcheobaab.RM

theorem hidDL {p : Prop} (h : p) : Hid p := h
theorem ri_last (rows : List (List Int)) (ps : List Int) (i : Nat) (h : i < rows.length + 1) : ri (rows ++ [ps]) i = if i < rows.length then ri rows i else ps := by
  unfold ri
  by_cases e : i < rows.length
  · rw [if_pos e, List.getElem?_append_left e]
  · rw [if_neg e, List.getElem?_append_right (by omega), show i - rows.length = 0 by omega]; rfl
/-- a drawn list of dimensions -/
structure TabD (B : Nat) (W : World) (v : Value) (us : List Value) (rows : List (List Int)) : Prop where
  outer : W.ownsRow B 57 1 v us.length us
  len : us.length = rows.length
  inner : ∀ i, i < rows.length → DimAt B W (vl us i) (ri rows i)
theorem DimAt.le {B B' : Nat} {w : World} {v : Value} {ys : List Int} (h : DimAt B w v ys) (hb : B' ≤ B) : DimAt B' w v ys := by
  rcases h with ⟨base, h1, h⟩ | h
  · exact .inl ⟨base, by omega, h⟩
  · exact .inr h
theorem DimAt.below {B : Nat} {w w' : World} {v : Value} {ys : List Int} (h : DimAt B w v ys) (hb : Below w.heap.size w w') : DimAt B w' v ys := by
  rcases h with ⟨base, h1, h⟩ | h
  · exact .inl ⟨base, h1, own_below h hb⟩
  · exact .inr h
theorem TabD.below {B : Nat} {W W' : World} {v : Value} {us : List Value} {rows : List (List Int)} (h : TabD B W v us rows) (hb : Below W.heap.size W W') : TabD B W' v us rows :=
  ⟨own_below h.outer hb, h.len, fun i hi => (h.inner i hi).below hb⟩
theorem TabD.ex {B cb : Nat} {W W' : World} {v : Value} {us : List Value} {rows : List (List Int)} (h : TabD B W v us rows) (hx : Ex cb W W') (hc : cb < B) : TabD B W' v us rows :=
  ⟨ownExI h.outer hx hc, h.len, fun i hi => (h.inner i hi).ex hx hc⟩
theorem TabD.rd {B : Nat} {W : World} {v : Value} {us : List Value} {rows : List (List Int)} (h : TabD B W v us rows) : RdD W v us rows := by
  refine ⟨?_, fun i hi => (h.inner i hi).to⟩
  have ho := h.outer
  have hl := h.len
  rw [hl] at ho
  obtain ⟨a, c, rfl⟩ := own_shape ho
  refine ⟨a, c, rfl, fun i hi => ?_⟩
  obtain ⟨g, cc, e⟩ := own_some ho (by omega)
  cases e
  have d1 := ho.cellAt i (by omega)
  rw [List.getElem?_eq_getElem (by omega)] at d1
  exact ⟨g, rfl, by rw [d1]; simp [vl, List.getElem?_eq_getElem (show i < us.length by omega)]⟩
theorem TabD.append {W w' : World} {B : Nat} {v v' : Value} {us : List Value} {rows : List (List Int)} {u : Value} {ps : List Int} {tmp : Obj} (h : TabD B W v us rows)
    (hu : DimAt B W u ps) (hown : w'.ownsRow B 57 1 v' (us.length + 1) (us ++ [u])) (hgrow : (W.alloc tmp).grownBy w' v.ownBlock) : TabD B w' v' (us ++ [u]) (rows ++ [ps]) := by
  have keep : ∀ {x : Value} {xs : List Int}, DimAt B W x xs → DimAt B w' x xs := by
    intro x xs hx
    rcases hx with ⟨base, h1, hx⟩ | hx
    · exact .inl ⟨base, h1, own_oth (hx.alloc tmp) (h.outer.alloc tmp) (by decide) hgrow⟩
    · exact .inr hx
  have hl := h.len
  refine ⟨by rw [List.length_append]; exact hown, by simp [hl], fun i hi => ?_⟩
  rw [List.length_append, List.length_singleton] at hi
  rw [vl_app _ _ _ (by omega), ri_last _ _ _ hi]
  by_cases e : i < rows.length
  · rw [if_pos (by omega), if_pos e]; exact keep (h.inner i e)
  · rw [if_neg (by omega), if_neg e]; exact keep hu

set_option maxRecDepth 100000 in
set_option maxHeartbeats 2000000 in
theorem l4DrawList_any (cb : Nat) (a : Option Addr) (len cap : Nat) (zs : List Int) (w : World) (hc : Cur w cb a len cap zs) :
    Calls Try.prog 76 #[.pointer (some ⟨cb, 0, none⟩)] w fun e w' => ∃ v us rows, e = .returned v ∧ rows.length ≤ 6 ∧ TabD w.heap.size w' v us rows ∧ Cur w' cb a len cap zs ∧ Ex cb w w' := by
  obtain ⟨i0, hi, hz0, hz1, hz2⟩ := info_parts infoU
  have b0 : ∀ (u : World) (o : Obj), Below u.heap.size u (u.alloc o) := fun u o => (Below.refl _ _).alloc (Nat.le_refl _) o
  have hlt := hc.lt
  have HROW : Hid (∀ b off, a = some ⟨b, off, none⟩ → 0 < zs.length → b < w.heap.size) := fun b off e hz => hc.2.1.lt b off e hz
  have O0 : Hid (TabD w.heap.size (w.alloc (.cells #[] 57)) (.slice (some ⟨w.heap.size, 0, none⟩) 0 0) [] []) :=
    ⟨World.ownsRow_lit w (base := w.heap.size) (e := 57) (size := 1) #[] 0 (Nat.le_refl _) (Nat.zero_le _) rfl, rfl, fun _ hi => absurd hi (Nat.not_lt_zero _)⟩
  have C0 := hidDL (hc.below (b0 w (.cells #[] 57)))
  have E0 := hidDL ((Ex.refl cb w).alloc (.cells #[] 57))
  clear hc
  go_enter Try.func76, Try.ntmps76
  go_upto_region 2 with fail
  obtain ⟨X, hX⟩ : ∃ X, X = w.alloc (.cells #[] 57) := ⟨_, rfl⟩
  rw [← hX] at O0 C0 E0 ⊢
  clear hX
  go_wp2_with fail
  refine (below_any cb _ a len cap zs _ C0.out (by omega)).mono ?_
  rintro e w1 ⟨x, rfl, hx0, hx1, hC', hE⟩
  have O1 := hidDL (O0.out.ex hE hlt)
  have E1 := hidDL (E0.out.trans hE)
  have C1 := hidDL hC'
  clear hC' hE O0 E0 C0
  obtain ⟨n0, rfl⟩ : ∃ j : Nat, x = j := ⟨x.toNat, by omega⟩
  go_wp2
  go_loopw [3, 4] (fun o i wr => ∃ (q : Value) (us : List Value) (rows : List (List Int)) (m : Nat), q = o ∧ rows.length + m ≤ 6 ∧ i = .int .i64 m ∧ Hid (TabD w.heap.size wr q us rows) ∧ Hid (Cur wr cb a len cap zs) ∧ Hid (Ex cb w wr)) (fun _ i _ => (intOf i).toNat)
  case atStart => exact ⟨_, [], [], n0, rfl, by simp; omega, rfl, O1.out, C1.out, E1.out⟩
  case round =>
    clear O1 C1 E1
    obtain ⟨q, us, rows, m, rfl, hk, rfl, hO, HC, HE⟩ := hrel
    have hsz := HE.out.size
    by_cases hm : m = 0
    · subst hm
      go_wp2
      go_ret
      exact ⟨_, us, rows, rfl, by omega, hO.out, HC.out, HE.out⟩
    · obtain ⟨m', rfl⟩ : ∃ m', m = m' + 1 := ⟨m - 1, by omega⟩
      go_wp2_with fail
      refine (l4Draw_any cb a len cap zs _ HC.out).mono ?_
      rintro e w2 ⟨d, ys, rfl, hyl, hd, hC', hE⟩
      have D2 := hidDL hd
      have O2 := hidDL (hO.out.ex hE hlt)
      replace HE := hidDL (HE.out.trans hE)
      replace HC := hidDL hC'
      obtain ⟨S, hS⟩ : ∃ S, S = wr.heap.size := ⟨_, rfl⟩
      have OW := hidDL hO.out
      have EW := hidDL hE
      have HSR := hidDL hS
      rw [← hS] at D2 hsz
      have hEs := hE.size
      rw [← hS] at hEs
      have HSW : Hid (S ≤ w2.heap.size) := hEs
      clear hd hC' hE hO hS hEs
      -- what stands when the list is laid behind the others
      have fin : ∀ (W : World) (ts : List Int) (v' : Value) (w5 : World), TabD w.heap.size W q us rows → DimAt S W d ts → Cur W cb a len cap zs → Ex cb w W → w5.ownsRow w.heap.size 57 1 v' (us.length + 1) (us ++ [d]) → (W.alloc (.cells #[d] 57)).grownBy w5 q.ownBlock → ∃ (q' : Value) (us' : List Value) (rows' : List (List Int)) (m2 : Nat), q' = v' ∧ rows'.length + m2 ≤ 6 ∧ Value.int .i64 (m' : Int) = .int .i64 m2 ∧ Hid (TabD w.heap.size w5 q' us' rows') ∧ Hid (Cur w5 cb a len cap zs) ∧ Hid (Ex cb w w5) := by
        intro W ts v' w5 h1 h2 h3 h4 h5 h6
        exact ⟨v', us ++ [d], rows ++ [ts], m', rfl, by simp; omega, rfl, h1.append (h2.le hsz) h5 h6, curRowI h3 h1.outer hlt HROW.out h6, exRowI h4 h1.outer (Nat.le_refl _) h6⟩
      have FIN := hidDL fin
      clear fin
      have hul : us.length + 1 ≤ 7 := by have := O2.out.len; omega
      have hul2 : us.length + 1 ≤ maxLen := by unfold maxLen; omega
      obtain ⟨oa, oc, rfl⟩ := own_shape O2.out.outer
      by_cases h5 : ys.length = 5
      · have hown : ∃ base, S ≤ base ∧ w2.ownsRow base 2 1 d 5 (ys.map (Value.int .i64)) := by
          rcases D2.out with ⟨base, h1, h2⟩ | h2
          · exact ⟨base, h1, by rw [h5] at h2; exact h2⟩
          · exact absurd h5 h2.1
        obtain ⟨base, hbS, hR⟩ := hown
        obtain ⟨g, dc, rfl⟩ := own_some hR (by omega)
        have hgb := (hR.lt g rfl).1
        have HR := hidDL hR
        have HY := hidDL h5
        have hbc : cb < base := by omega
        clear hR D2 h5
        go_wp2_with fail
        refine (once_any cb _ a len cap zs _ HC.out (by omega)).mono ?_
        rintro e w3 ⟨z, rfl, hC', hE⟩
        have R3 := hidDL (ownExI HR.out hE hbc)
        have O3 := hidDL (O2.out.ex hE hlt)
        replace HE := hidDL (HE.out.trans hE)
        replace EW := hidDL (EW.out.trans hE)
        replace HC := hidDL hC'
        have hS3 : S ≤ w3.heap.size := by have := HSW.out; have := hE.size; omega
        clear hC' hE HR O2
        cases z
        · have D3 : Hid (DimAt S w3 (.slice (some ⟨g, 0, none⟩) 5 dc) ys) := .inl ⟨base, hbS, by rw [HY.out]; exact R3.out⟩
          go_wp2_with (at_builtin; refine wpList_append_own _ rfl _ _ 53 rfl w.heap.size 57 i0 (.slice none 0 0) 1 24 Try.underlying53 hi hz0 hz1 hz2 rfl (by decide) _ _ _ rfl (World.ownsRow.alloc O3.out.outer _) ⟨_, 0, none⟩ 1 1 [.slice (some ⟨g, 0, none⟩) 5 dc] rfl rfl (cell_one_new _ _ _) (by simp [Value.oneCell']) hul2 (by omega) (by simp; have := HE.out.size; omega) ?_; intro v' w5 hown' hgrow _)
          go_roundw
          case rel => exact FIN.out w3 ys v' w5 O3.out D3.out HC.out HE.out hown' hgrow
          case measure => simp [intOf]
        · have f3 := R3.out.frozenAt 3
          have f4 := R3.out.frozenAt 4
          have c3 := R3.out.cellAt 3 (by omega)
          have c4 := R3.out.cellAt 4 (by omega)
          rw [List.getElem?_eq_getElem (by rw [List.length_map, HY.out]; omega)] at c3 c4
          have hgS : S ≤ g := by omega
          have hgw : w.heap.size ≤ g := by omega
          have hcg : cb ≠ g := by omega
          have R4 : ((w3.setCell ⟨g, 3, none⟩ (.int .i64 0)).setCell ⟨g, 4, none⟩ (.int .i64 0)).ownsRow base 2 1 (.slice (some ⟨g, 0, none⟩) 5 dc) 5 ((((ys.set 3 0).set 4 0)).map (Value.int .i64)) := by
            rw [List.map_set, List.map_set]
            exact ((R3.out.stored 3 (.int .i64 0)).1.stored 4 (.int .i64 0)).1
          have D4 : Hid (DimAt S ((w3.setCell ⟨g, 3, none⟩ (.int .i64 0)).setCell ⟨g, 4, none⟩ (.int .i64 0)) (.slice (some ⟨g, 0, none⟩) 5 dc) ((ys.set 3 0).set 4 0)) := .inl ⟨base, hbS, by rw [List.length_set, List.length_set, HY.out]; exact R4⟩
          have E4 : Hid (Ex cb w ((w3.setCell ⟨g, 3, none⟩ (.int .i64 0)).setCell ⟨g, 4, none⟩ (.int .i64 0))) := (HE.out.setCell (.inr hgw) _).setCell (.inr hgw) _
          have hag : ∀ b' off, a = some ⟨b', off, none⟩ → 0 < zs.length → b' ≠ g := fun b' off e1 e2 e3 => by have := HROW.out b' off e1 e2; omega
          have C4 : Hid (Cur ((w3.setCell ⟨g, 3, none⟩ (.int .i64 0)).setCell ⟨g, 4, none⟩ (.int .i64 0)) cb a len cap zs) := curSetI (curSetI HC.out hcg hag) hcg hag
          have O4 : Hid (TabD w.heap.size ((w3.setCell ⟨g, 3, none⟩ (.int .i64 0)).setCell ⟨g, 4, none⟩ (.int .i64 0)) (.slice oa us.length oc) us rows) := OW.out.ex ((EW.out.setCell (.inr (by rw [← HSR.out]; exact hgS)) _).setCell (.inr (by rw [← HSR.out]; exact hgS)) _) hlt
          clear R4 OW EW
          go_upto_region 9 with fail
          generalize (w3.setCell ⟨g, 3, none⟩ (.int .i64 0)).setCell ⟨g, 4, none⟩ (.int .i64 0) = W at D4 E4 C4 O4 ⊢
          clear HE
          have HE := E4
          go_wp2_with (at_builtin; refine wpList_append_own _ rfl _ _ 53 rfl w.heap.size 57 i0 (.slice none 0 0) 1 24 Try.underlying53 hi hz0 hz1 hz2 rfl (by decide) _ _ _ rfl (World.ownsRow.alloc O4.out.outer _) ⟨_, 0, none⟩ 1 1 [.slice (some ⟨g, 0, none⟩) 5 dc] rfl rfl (cell_one_new _ _ _) (by simp [Value.oneCell']) hul2 (by omega) (by simp; have := HE.out.size; omega) ?_; intro v' w5 hown' hgrow _)
          go_roundw
          case rel => exact FIN.out W _ v' w5 O4.out D4.out C4.out E4.out hown' hgrow
          case measure => simp [intOf]
      · have D3 := D2
        have h5i : ((ys.length : Int) == 5) = false := by simp; omega
        obtain ⟨dv, dc, rfl⟩ := D2.out.to.shape
        go_wp2_with (at_builtin; refine wpList_append_own _ rfl _ _ 53 rfl w.heap.size 57 i0 (.slice none 0 0) 1 24 Try.underlying53 hi hz0 hz1 hz2 rfl (by decide) _ _ _ rfl (World.ownsRow.alloc O2.out.outer _) ⟨_, 0, none⟩ 1 1 [.slice dv ys.length dc] rfl rfl (cell_one_new _ _ _) (by simp [Value.oneCell']) hul2 (by omega) (by simp; have := HE.out.size; omega) ?_; intro v' w5 hown' hgrow _)
        go_roundw
        case rel => exact FIN.out w2 ys v' w5 O2.out D3.out HC.out HE.out hown' hgrow
        case measure => simp [intOf]
theorem TabD.le {B B' : Nat} {W : World} {v : Value} {us : List Value} {rows : List (List Int)} (h : TabD B W v us rows) (hb : B' ≤ B) : TabD B' W v us rows :=
  ⟨own_le h.outer hb, h.len, fun i hi => (h.inner i hi).le hb⟩

set_option maxRecDepth 100000 in
set_option maxHeartbeats 2000000 in
theorem dGroups_any (a : Option Addr) (len cap : Nat) (zs : List Int) (w : World) (hr : IsRow .u8 w a len cap zs) :
    Calls Try.prog 37 #[.slice a len cap] w fun e w' => ∃ v us rows, e = .returned v ∧ rows.length ≤ 6 ∧ TabD w.heap.size w' v us rows ∧ Below w.heap.size w w' := by
  have HR := hidDL hr
  clear hr
  go_enter Try.func37, Try.ntmps37
  go_wp2_with fail
  refine (new_any a len cap zs _ HR.out).mono ?_
  rintro e w1 ⟨rfl, hC1, hB1, hs1⟩
  obtain ⟨cb, hcb'⟩ : ∃ cb, cb = w.heap.size := ⟨_, rfl⟩
  have hcb : w.heap.size ≤ cb := by omega
  have hw1 : w.heap.size ≤ w1.heap.size := by omega
  rw [← hcb'] at hC1 ⊢
  have HC := hidDL hC1
  have HE := hidDL (Ex.of_below (cb := cb) hB1)
  clear hC1 hB1 hs1 hcb' HR
  go_wp2_with fail
  refine (l4DrawList_any cb a len cap zs _ HC.out).mono ?_
  rintro e w2 ⟨v, us, rows, rfl, hl, hT, hC, hE⟩
  have HT := hidDL (hT.le hw1)
  replace HE := hidDL (HE.out.trans hE)
  clear hT hC hE
  go_wp2
  go_ret
  exact ⟨_, us, rows, rfl, hl, HT.out, Ex.below (Below.refl _ _) HE.out hcb⟩

set_option maxRecDepth 100000 in
set_option maxHeartbeats 2000000 in
theorem dAlike_any (a : Option Addr) (len cap : Nat) (zs : List Int) (w : World) (hr : IsRow .u8 w a len cap zs) :
    Calls Try.prog 39 #[.slice a len cap] w fun e w' => ∃ (v : Value) (us : List Value) (rows : List (List Int)) (p : Value) (ps : List Int), e = .returned (.tuple #[v, p]) ∧ rows.length ≤ 6 ∧ TabD w.heap.size w' v us rows ∧ w'.ownsRow w.heap.size 2 1 p ps.length (ps.map (Value.int .i64)) ∧ Below w.heap.size w w' := by
  obtain ⟨i3, li, lz0, lz1, lz2⟩ := info_parts infoI
  have b0 : ∀ (u : World) (o : Obj), Below u.heap.size u (u.alloc o) := fun u o => (Below.refl _ _).alloc (Nat.le_refl _) o
  have HR := hidDL hr
  clear hr
  go_enter Try.func39, Try.ntmps39
  go_wp2_with fail
  refine (new_any a len cap zs _ HR.out).mono ?_
  rintro e w1 ⟨rfl, hC1, hB1, hs1⟩
  obtain ⟨cb, hcb'⟩ : ∃ cb, cb = w.heap.size := ⟨_, rfl⟩
  have hcb : w.heap.size ≤ cb := by omega
  have hc1 : cb < w1.heap.size := by omega
  have hw1 : w.heap.size ≤ w1.heap.size := by omega
  rw [← hcb'] at hC1 ⊢
  have HC := hidDL hC1
  have HE := hidDL (Ex.of_below (cb := cb) hB1)
  clear hC1 hB1 hs1 hcb' HR
  go_wp2_with fail
  refine (l4DrawList_any cb a len cap zs _ HC.out).mono ?_
  rintro e w2 ⟨v, us, rows, rfl, hl, hT, hC, hE⟩
  have HT := hidDL hT
  have hs2 : w1.heap.size ≤ w2.heap.size := hE.size
  replace HE := hidDL (HE.out.trans hE)
  replace HC := hidDL hC
  have hsh : ∃ oa oc, v = .slice oa rows.length oc := by
    have ho := hT.outer
    rw [hT.len] at ho
    exact own_shape ho
  obtain ⟨oa, oc, rfl⟩ := hsh
  obtain ⟨n, hn⟩ : ∃ n, n = rows.length := ⟨_, rfl⟩
  have HN := hidDL hn
  rw [← hn] at hl HT ⊢
  clear hT hC hE hn
  go_upto_region 4 with fail
  obtain ⟨S, hS⟩ : ∃ S, S = w2.heap.size := ⟨_, rfl⟩
  obtain ⟨X, hX⟩ : ∃ X, X = w2.alloc (.cells #[] 2) := ⟨_, rfl⟩
  have HROW : Hid (∀ b off, a = some ⟨b, off, none⟩ → 0 < zs.length → b < S) := by
    intro b off e hz; rw [hS]; exact HC.out.2.1.lt b off e hz
  have O0 : Hid (X.ownsRow S 2 1 (.slice (some ⟨S, 0, none⟩) 0 0) 0 (([] : List Int).map (Value.int .i64))) := by
    show World.ownsRow _ _ _ _ _ _ _
    rw [hX, hS]; exact World.ownsRow_lit w2 (base := w2.heap.size) (e := 2) (size := 1) #[] 0 (Nat.le_refl _) (Nat.zero_le _) rfl
  have C0 : Hid (Cur X cb a len cap zs) := by show Cur _ _ _ _ _ _; rw [hX]; exact HC.out.below (b0 _ _)
  have E0 : Hid (Ex cb w2 X) := by show Ex _ _ _; rw [hX]; exact (Ex.refl cb w2).alloc _
  have hSX : Hid (S ≤ X.heap.size) := by show _ ≤ _; rw [hX, hS]; simp
  have hcS : cb < S := by omega
  have hwS : w.heap.size ≤ S := by omega
  have HS2 : Hid (w2.heap.size ≤ S) := by show _ ≤ _; omega
  rw [← hX, ← hS]
  clear hX hS HC
  go_wp2
  go_loopw [6, 7] (fun o i wr => ∃ (q : Value) (ps : List Int), q = o ∧ ps.length ≤ n ∧ i = .int .i64 ps.length ∧ Hid (wr.ownsRow S 2 1 q ps.length (ps.map (Value.int .i64))) ∧ Hid (Cur wr cb a len cap zs) ∧ Hid (Ex cb w2 wr) ∧ Hid (S ≤ wr.heap.size)) (fun _ i _ => n - (intOf i).toNat)
  case atStart => exact ⟨_, [], rfl, by simp, rfl, O0.out, C0.out, E0.out, hSX.out⟩
  case round =>
    clear O0 C0 E0 hSX
    obtain ⟨q, ps, rfl, hk, rfl, hO, HC, HX, hsz⟩ := hrel
    by_cases hlt : ps.length < n
    · go_wp2_with fail
      refine (from_any cb _ _ a len cap zs _ HC.out (by omega) (by omega) (by omega)).mono ?_
      rintro e w3 ⟨x, rfl, hx0, hx1, hC', hE⟩
      replace hO := hidDL (ownExI hO.out hE hcS)
      replace HX := hidDL (HX.out.trans hE)
      replace HC := hidDL hC'
      have hs3 : S ≤ w3.heap.size := by have := hsz.out; have := hE.size; omega
      clear hC' hE hsz
      obtain ⟨qa, qc, rfl⟩ := own_shape hO.out
      have hpl2 : ps.length + 1 ≤ maxLen := by unfold maxLen; omega
      go_wp2_with (at_builtin; refine wpList_append_own _ rfl _ _ 57 rfl S 2 i3 (.int .i64 0) 1 8 Try.underlying57 li lz0 lz1 lz2 rfl (by decide) _ _ _ rfl (World.ownsRow.alloc hO.out _) ⟨_, 0, none⟩ 1 1 [.int .i64 x] rfl rfl (cell_one_new _ _ _) (by simp [Value.oneCell']) hpl2 (by omega) (by simp; omega) ?_; intro v' w5 hown' hgrow _)
      go_roundw
      case rel =>
        refine ⟨v', ps ++ [x], rfl, by simp; omega, by simp, ?_, curRowI HC.out hO.out hcS HROW.out hgrow, exRowI HX.out hO.out HS2.out hgrow, ?_⟩
        · show World.ownsRow _ _ _ _ _ _ _
          simpa using hown'
        · show _ ≤ _
          have := hgrow.size; simp at this; omega
      case measure => simp [intOf]; omega
    · have hpn : n = ps.length := by omega
      subst hpn
      go_wp2_with fail
      refine (once_any cb _ a len cap zs _ HC.out (by omega)).mono ?_
      rintro e w3 ⟨z, rfl, hC', hE⟩
      replace hO := hidDL (ownExI hO.out hE hcS)
      replace HX := hidDL (HX.out.trans hE)
      have hs3 : S ≤ w3.heap.size := by have := hsz.out; have := hE.size; omega
      clear hC' hE hsz HC
      obtain ⟨qa, qc, rfl⟩ := own_shape hO.out
      have hpl2 : ps.length + 1 ≤ maxLen := by unfold maxLen; omega
      cases z
      · go_wp2
        go_ret2
        refine ⟨_, us, rows, _, ps, rfl, by have := HN.out; omega, (HT.out.ex HX.out hc1).le hw1, own_le hO.out hwS, Ex.below (Below.refl _ _) (HE.out.trans HX.out) hcb⟩
      · go_wp2_with (at_builtin; refine wpList_append_own _ rfl _ _ 57 rfl S 2 i3 (.int .i64 0) 1 8 Try.underlying57 li lz0 lz1 lz2 rfl (by decide) _ _ _ rfl (World.ownsRow.alloc hO.out _) ⟨_, 0, none⟩ 1 1 [.int .i64 1] rfl rfl (cell_one_new _ _ _) (by simp [Value.oneCell']) hpl2 (by omega) (by simp; omega) ?_; intro v' w5 hown' hgrow _)
        go_ret2
        refine ⟨_, us, rows, _, ps ++ [1], rfl, by have := HN.out; omega, (HT.out.ex (exRowI HX.out hO.out HS2.out hgrow) hc1).le hw1, ?_, Ex.below (Below.refl _ _) (HE.out.trans (exRowI HX.out hO.out HS2.out hgrow)) hcb⟩
        have := own_le hown' hwS
        simpa using this
end Go.Proofs.Ytbbkejfcheobaab
