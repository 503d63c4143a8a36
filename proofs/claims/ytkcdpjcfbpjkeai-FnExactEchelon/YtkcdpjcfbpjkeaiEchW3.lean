/- The walk of the program's copiedRows. -/
import Derived.Test.YtkcdpjcfbpjkeaiCopyF
namespace Go.Proofs.Ytkcdpjcfbpjkeai
open Go.RowKit Go.Proofs.Ytkcdpjcfbpjkeai.RM

theorem sizeF : (Try.prog.info? 24).map (fun i => i.size) = some 2 := by kernel_rfl
/-- a row as a walk that copies wants it -/
theorem row_src {W : World} {v : Value} {ps : List Fr} {a : Option Addr} {n c : Nat} (h : RdR W v ps) (e : v = .slice a n c) (h1 : 1 ≤ ps.length) : n = ps.length ∧ ∃ b off, a = some ⟨b, off, none⟩ ∧ ∀ j u, (cellsR ps)[j]? = some u → W.cell? ((⟨b, off, none⟩ : Addr).add j) = some u := by
  obtain ⟨a', c', rfl, _, _, _, h5⟩ := h
  cases e
  refine ⟨rfl, ?_⟩
  obtain ⟨b, off, rfl, _, _⟩ := h5 0 (by omega)
  refine ⟨b, off, rfl, fun j u hj => ?_⟩
  have hl : j < ps.length * 2 := by
    have := (List.getElem?_eq_some_iff.1 hj).1
    rw [cellsR_len] at this
    exact this
  obtain ⟨b', off', e, k1, k2⟩ := h5 (j / 2) (by omega)
  cases e
  have hc := cellsR_at ps (j / 2) (by omega)
  have ea : (⟨b, off, none⟩ : Addr).add j = ⟨b, off + j, none⟩ := by by_cases i0 : j = 0 <;> simp [Addr.add, i0]
  rw [ea]
  rcases Nat.mod_two_eq_zero_or_one j with m | m
  · have ej : j / 2 * 2 = j := by omega
    rw [ej] at hc k1
    rw [hc.1] at hj
    injection hj with hj
    rw [k1, ← hj]; rfl
  · have ej : j / 2 * 2 + 1 = j := by omega
    rw [ej] at hc
    rw [Nat.add_assoc, ej] at k2
    rw [hc.2] at hj
    injection hj with hj
    rw [k2, ← hj]; rfl
theorem cellsR_one (ps : List Fr) : ∀ v ∈ cellsR ps, v.oneCell' = true := by
  intro v hv
  unfold cellsR at hv
  rw [List.mem_flatMap] at hv
  obtain ⟨p, _, hp⟩ := hv
  simp at hp
  rcases hp with rfl | rfl <;> rfl
/-- a row that was made, laid over whole -/
theorem row_laid {W : World} {base G L : Nat} {cur : Array Value} {ps : List Fr} (hb : base ≤ G) (hL : ps.length = L) (hm : L ≤ 1000) (hg : W.heap[G]? = some (.cells cur 24 (0, 0))) (hs : cur.size = L * 2) :
    (W.setRow G (cur.toList.take 0 ++ (cellsR ps ++ cur.toList.drop (0 + (cellsR ps).length))).toArray).ownsRow base 24 2 (.slice (some ⟨G, 0, none⟩) L L) L (cellsR ps) ∧
    W.grownBy (W.setRow G (cur.toList.take 0 ++ (cellsR ps ++ cur.toList.drop (0 + (cellsR ps).length))).toArray) (some G) := by
  have hd : cur.toList.drop (0 + (cellsR ps).length) = [] := by
    rw [cellsR_len, hL, Nat.zero_add, List.drop_eq_nil_iff]
    simp [hs]
  rw [hd, List.take_zero, List.nil_append, List.append_nil]
  refine ⟨⟨by rw [cellsR_len, hL], .inr ⟨G, L, (cellsR ps).toArray, rfl, hb, setRow_heap W G _ _ _ _ hg, Nat.le_refl _, by unfold maxLen; omega, by simp [cellsR_len, hL], ?_⟩⟩, ⟨rfl, rfl, rfl, by simp [World.setRow], fun k _ hk => setRow_other W G k _ (fun e => hk (by rw [e]))⟩⟩
  rw [List.toList_toArray, List.take_of_length_le (by rw [cellsR_len, hL]; exact Nat.le_refl _)]

set_option maxRecDepth 100000 in
set_option maxHeartbeats 2000000 in
theorem iCopied_any (v : Value) (rows : List (List Fr)) (w : World) (h : RdT w v rows) (hl : rows.length ≤ 1000) (hrl : ∀ i, i < rows.length → 1 ≤ (rw' rows i).length ∧ (rw' rows i).length ≤ 1000) :
    Calls Try.prog 77 #[v] w fun e w' => ∃ u us, e = .returned u ∧ Tab w' w.heap.size u us rows ∧ Below w.heap.size w w' := by
  obtain ⟨i0, hi, hz0, hz1, hz2⟩ := info_parts infoF
  obtain ⟨t0, hti, htz0, htz1, htz2⟩ := info_parts infoT
  obtain ⟨a, c, rfl, h2, h3, h4, h5⟩ := h
  have H5 : Hid (∀ i, i < rows.length → ∃ b off u, a = some ⟨b, off, none⟩ ∧ w.cell? ⟨b, off + i, none⟩ = some u ∧ RdR w u (rw' rows i)) := h5
  have HL : Hid (∀ i, i < rows.length → 1 ≤ (rw' rows i).length ∧ (rw' rows i).length ≤ 1000) := hrl
  clear h5 h2 h3 h4 hrl
  go_enter Try.func77, Try.ntmps77
  go_wp2_with (at_make; refine wpList_make_full _ rfl _ _ 35 rfl w.heap.size 63 t0 (.slice none 0 0) 1 Try.underlying35 hti htz0 htz1 .i64 .i64 _ _ rows.length rfl rfl rfl rfl (by rw [htz2]; omega) (by unfold maxLen; omega) (Nat.le_refl _) ?_; intro w1 hown hgrow)
  have o0 : Tab w1 w.heap.size (.slice (some ⟨w.heap.size, 0, none⟩) rows.length rows.length) (List.replicate rows.length (.slice none 0 0)) (cpyT rows 0) := by
    rw [cpyT_zero]; refine Tab.made ?_; rw [← madeT]; exact hown
  have hB0 : Below w.heap.size w w1 := (Below.refl _ w).grown hgrow (Nat.le_refl _) (fun k e => by cases e)
  obtain ⟨G, hG⟩ : ∃ G, G = w.heap.size := ⟨_, rfl⟩
  have hwG : w.heap.size ≤ G := by omega
  rw [← hG]
  rw [← hG] at o0
  clear hown hgrow hG
  go_loopw [11] (fun i wr => ∃ (k : Nat) (us : List Value), k ≤ rows.length ∧ i = .int .i64 k ∧ Hid (Tab wr G (.slice (some ⟨G, 0, none⟩) rows.length rows.length) us (cpyT rows k)) ∧ Hid (Below w.heap.size w wr)) (fun i _ => rows.length - (intOf i).toNat)
  case atStart => exact ⟨0, _, Nat.zero_le _, rfl, o0, hB0⟩
  case round =>
    clear o0 hB0
    obtain ⟨k, us, hk, rfl, hO, hB⟩ := hrel
    by_cases hlt : k < rows.length
    · obtain ⟨b, off, u, rfl, c1, hu⟩ := H5.out k hlt
      obtain ⟨ar, cr, rfl, m2, _, _, _⟩ := id hu
      unfold maxLen at m2
      obtain ⟨L, hL⟩ : ∃ L, L = (rw' rows k).length := ⟨_, rfl⟩
      have HLk : Hid (L = (rw' rows k).length) := hL
      obtain ⟨l1, l2⟩ := HL.out k hlt
      rw [← hL] at c1 m2 l1 l2
      have hs := World.block_lt_of_cell? w _ c1
      replace c1 := cell_keep hB.out c1
      have HU : Hid (RdR w (.slice ar (rw' rows k).length cr) (rw' rows k)) := hu
      rw [← hL] at HU
      have hsz := hB.out.size
      have hlu : us.length = rows.length := hO.out.len.trans (cpyT_len _ _)
      have hGs : G ≤ wr.heap.size := by have := (hO.out.outer.lt G rfl).2; omega
      clear hs hu hL
      go_upto_region 6 with (at_make; refine wpList_make_full _ rfl _ _ 63 rfl G 24 i0 (.agg #[.int .i64 0, .int .i64 0]) 2 Try.underlying63 hi hz0 hz1 .i64 .i64 _ _ L rfl rfl rfl rfl (by rw [hz2]; omega) (by unfold maxLen; omega) hGs ?_; intro w4 hown hgrow; have hbg : Below wr.heap.size wr w4 := (Below.refl _ _).grown hgrow (Nat.le_refl _) (fun k e => by cases e); have T4 := hO.out.below hbg; have ho := T4.outer; rw [hlu] at ho; have d1 := ho.cellAt k (by omega); have f1 := ho.frozenAt k; rw [List.getElem?_eq_getElem (by omega)] at d1)
      have ox : w4.ownsRow G 24 2 (.slice (some ⟨wr.heap.size, 0, none⟩) L L) (List.replicate L ((0, 0) : Fr)).length (cellsR (List.replicate L (0, 0))) := by
        rw [List.length_replicate, ← madeF]; exact hown
      have T5 := T4.put (k := k) (by omega) ox (fun i hi _ b' hb' hb2 => by
        have h1 := hO.out.lt i hi b' hb'
        simp [Value.ownBlock] at hb2
        omega)
      have B5 : Below w.heap.size w (w4.setCell ⟨G, k, none⟩ (.slice (some ⟨wr.heap.size, 0, none⟩) L L)) := (hB.out.trans (hbg.mono hsz)).setCell (p := ⟨G, k, none⟩) hwG _
      have hGlt : G < wr.heap.size := (hO.out.outer.lt G rfl).2
      obtain ⟨cur, hcur, hcs⟩ : ∃ cur, w4.heap[wr.heap.size]? = some (.cells cur 24 (0, 0)) ∧ cur.size = L * 2 := by
        rcases hown.2 with ⟨e, _⟩ | ⟨g', c', cur, e, _, h1, _, _, h2, _⟩
        · cases e
        · cases e; exact ⟨cur, h1, h2⟩
      have hg5 : (w4.setCell ⟨G, k, none⟩ (.slice (some ⟨wr.heap.size, 0, none⟩) L L)).heap[wr.heap.size]? = some (.cells cur 24 (0, 0)) := (Below.heap_setCell w4 ⟨G, k, none⟩ _ wr.heap.size (by show wr.heap.size ≠ G; omega)).trans hcur
      obtain ⟨en9, b2, off2, ear, hsrc⟩ := row_src (HU.out.below B5) rfl (by have := HLk.out; omega)
      subst ear
      clear en9
      have hcl : (cellsR (rw' rows k)).length = Nat.min L L * 2 := by rw [cellsR_len, ← HLk.out]; simp
      have HF : Hid (0 + (cellsR (rw' rows k)).length ≤ cur.size) := by show _ ≤ _; rw [hcl, hcs]; simp
      have HCS : Hid (cur.size = L * 2) := hcs
      have o5 := T5.outer
      rw [List.length_set, hlu] at o5
      have d5 := o5.cellAt k (by omega)
      rw [List.getElem?_set_self (by omega)] at d5
      clear o5
      have HT5 : Hid _ := T5
      have HB5 : Hid _ := B5
      have HG5 : Hid _ := hg5
      have HSRC : Hid _ := hsrc
      have HCL : Hid _ := hcl
      clear ho d1 f1 T4 hbg hown hgrow c1 ox hcur hcs T5 B5 hg5 hsrc hcl hO hB
      have hrun := run_copy_two (P := Try.prog) (w4.setCell ⟨G, k, none⟩ (.slice (some ⟨wr.heap.size, 0, none⟩) L L)) 63 63 3 24 wr.heap.size 0 L L ⟨b2, off2, none⟩ L cr cur 24 (cellsR (rw' rows k)) Try.underlying63 sizeF HG5.out HCL.out HSRC.out HF.out (cellsR_one _)
      rw [List.append_assoc] at hrun
      obtain ⟨X9, hX9⟩ : ∃ X, X = (w4.setCell ⟨G, k, none⟩ (.slice (some ⟨wr.heap.size, 0, none⟩) L L)).setRow wr.heap.size (cur.toList.take 0 ++ (cellsR (rw' rows k) ++ cur.toList.drop (0 + (cellsR (rw' rows k)).length))).toArray := ⟨_, rfl⟩
      have HX9 : Hid _ := hX9
      rw [← hX9] at hrun
      clear hX9
      go_wp2
      go_roundw
      case rel =>
        obtain ⟨p1, p2⟩ := row_laid (base := G) (ps := rw' rows k) (L := L) (by omega) HLk.out.symm l2 HG5.out HCS.out
        have hvk : vl (us.set k (.slice (some ⟨wr.heap.size, 0, none⟩) L L)) k = .slice (some ⟨wr.heap.size, 0, none⟩) L L := by rw [vl_set _ _ _ _ (by omega), if_pos rfl]
        have T7 := HT5.out.turn (k := k) (ps := rw' rows k) (by rw [List.length_set]; omega) (by rw [hvk, ← HLk.out]; exact p1) (by rw [hvk]; exact p2)
        rw [set_set', cpyT_set] at T7
        rw [← HX9.out] at T7
        exact ⟨k + 1, _, by omega, by go_num, T7, by rw [HX9.out]; exact below_setRow HB5.out (by omega) _⟩
      case measure => simp [intOf]; omega
    · obtain rfl : k = rows.length := by omega
      go_wp2
      refine bodyPost_ret (results_tmp rfl _ _ _) rfl ⟨_, us, rfl, ?_, hB.out⟩
      have := hO.out
      rw [cpyT_all] at this
      exact this.le hwG
end Go.Proofs.Ytkcdpjcfbpjkeai
