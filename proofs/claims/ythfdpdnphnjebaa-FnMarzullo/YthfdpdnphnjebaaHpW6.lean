/- The walks of the heap's own Pop, of the library's Push and Pop, and of least. -/
import Derived.Test.YthfdpdnphnjebaaHpW5
namespace Go.Proofs.Ythfdpdnphnjebaa
open Go.RowKit Go.Proofs.Ythfdpdnphnjebaa.RM

set_option maxRecDepth 100000 in
set_option maxHeartbeats 8000000 in
theorem popM_any (lo H g c n m : Nat) (es : List En) (w : World) (h : HpS w lo H g c n es) (hn : n ≤ 900) (hm : n = m + 1) :
    Calls Try.prog 71 #[.pointer (some ⟨H, 0, none⟩)] w fun e w' => e = .returned (.iface 50 (evE (Hp.at' dE es m))) ∧ HpS w' lo H g c m (es.take m) ∧ KpH H g w w' := by
  have HH := hidH h
  obtain ⟨a1, a2, a3⟩ := own_E h.2.1 h.2.2.1 m (by omega)
  have c0 := h.c0
  have hlt := h.lt
  have hcap : n ≤ c := by
    rcases h.2.1.2 with ⟨e, _⟩ | ⟨_, _, _, e, _, _, h5, _⟩
    · cases e
    · cases e; exact h5
  clear h
  obtain ⟨x, hx⟩ : ∃ x, x = er es m := ⟨_, rfl⟩
  have HX : Hid (Hp.at' dE es m = x) := hx.symm
  rw [← hx] at a1 a2 a3
  clear hx
  obtain ⟨⟨x1, x2⟩, x3⟩ := x
  dsimp only at a1 a2 a3
  have hw : (n : Int) - 1 = (m : Int) := by omega
  have hb := b0H w (.cells #[.int .i64 x1, .int .i64 x2, .bool x3] 50)
  obtain ⟨we, hwe⟩ : ∃ u, u = w.alloc (.cells #[.int .i64 x1, .int .i64 x2, .bool x3] 50) := ⟨_, rfl⟩
  obtain ⟨E, hE⟩ : ∃ u, u = w.heap.size := ⟨_, rfl⟩
  have IE : Hid (IsB we E #[.int .i64 x1, .int .i64 x2, .bool x3] 50) := by show IsB _ _ _ _; rw [hwe, hE]; exact IsB.new w _ _
  rw [← hwe] at hb
  have H2 := hidH (HH.out.below hb)
  have K2 := hidH (KpH.of_below (H := H) (g := g) hb)
  have hEH : E ≠ H := by omega
  have d0 := cell_keep hb c0
  have f0 := (HH.out.1.below hb).frozen 0
  go_enter Try.func71, Try.ntmps71
  go_upto_region 3 with fail
  rw [← hwe, ← hE]
  clear hwe hE hb c0 a1 a2 a3
  go_upto_region 4 with fail
  have I3 := hidH (IE.out.other hEH 0 (.slice (some ⟨g, 0, none⟩) m c))
  have q0 := I3.out.cell 0 rfl
  have q1 := I3.out.cell 1 rfl
  have q2 := I3.out.cell 2 rfl
  go_wp2
  refine bodyPost_ret (results_tmp rfl _ _ _) rfl ⟨?_, ⟨(H2.out.1.set 0 _), ?_, ?_, H2.out.2.2.2⟩, K2.out.next (KpH.set _ _)⟩
  · rw [HX.out]; rfl
  · exact own_stN (own_cutE H2.out.2.1 m (by omega)) (by simpa [Value.ownBlock] using H2.out.2.2.2) 0 _
  · rw [List.length_take, H2.out.2.2.1]; omega

set_option maxRecDepth 100000 in
set_option maxHeartbeats 4000000 in
theorem heapPush_any (lo H g c n : Nat) (es : List En) (x1 x2 : Int) (x3 : Bool) (w : World) (h : HpS w lo H g c n es) (hn : n ≤ 900) (hok : ∀ e ∈ es, okE e) (hx : okE ((x1, x2), x3)) (hh : Hp.Heap dE lsE es n) :
    Calls Try.prog 38 #[hpv H, .iface 50 (.agg #[.int .i64 x1, .int .i64 x2, .bool x3])] w fun e w' => e = .returned (.tuple #[]) ∧ ∃ g' c' es', HpS w' lo H g' c' (n + 1) es' ∧ es'.Perm (es ++ [((x1, x2), x3)]) ∧ Hp.Heap dE lsE es' (n + 1) ∧ KpH H g w w' ∧ (g' = g ∨ w.heap.size ≤ g') := by
  have HP := hidH (pushM_any lo H g c n es x1 x2 x3 w h hn)
  have HU : Hid (Hp.UpHp dE lsE (es ++ [((x1, x2), x3)]) (n + 1) n) := by
    show Hp.UpHp _ _ _ _ _
    have hl := h.2.2.1
    subst hl
    exact Hp.up_start hh
  have HO : Hid (∀ e ∈ es ++ [((x1, x2), x3)], okE e) := by
    intro e he
    rcases List.mem_append.1 he with he | he
    · exact hok e he
    · rw [List.mem_singleton] at he; rw [he]; exact hx
  have hm := mPush0 H w
  clear h hok hx hh
  go_enter Try.func38, Try.ntmps38
  go_wp2_with fail
  refine HP.out.mono ?_
  rintro e w1 ⟨rfl, g', c', h1, k1, k2⟩
  have H1 := hidH h1
  have K1 := hidH k1
  have c0 := h1.c0
  have hm1 := mLen c0
  have HL := hidH (fun (n : Nat) => iLenH_any (some ⟨g', 0, none⟩) n c' w1)
  have hw : ((n + 1 : Nat) : Int) - 1 = (n : Int) := by omega
  clear h1 k1 HP hm
  go_wp2_with fail
  refine (HL.out (n + 1)).mono ?_
  rintro e w2 ⟨rfl, hw2⟩
  obtain rfl := hw2.symm
  clear hw2 HL hm1 c0
  have HG := hidH (upH_any lo H g' c' (n + 1) n _ w1 H1.out HO.out (by omega) (by omega) HU.out)
  go_wp2_with fail
  refine HG.out.mono ?_
  rintro e w3 ⟨rfl, es', h3, p3, q3, k3⟩
  go_wp2
  go_end0
  exact ⟨rfl, g', c', es', h3, p3, q3, K1.out.trans k3 k2, k2⟩

theorem take_at {l : List En} {m k : Nat} (h : k < m) : Hp.at' dE (l.take m) k = Hp.at' dE l k := by
  unfold Hp.at'
  rw [List.getElem?_take_of_lt h]
theorem take_last {l : List En} {m : Nat} (h : l.length = m + 1) : l.take m ++ [Hp.at' dE l m] = l := by
  have e1 : l.take (m + 1) = l := by rw [← h, List.take_length]
  have e2 : l.take (m + 1) = l.take m ++ [Hp.at' dE l m] := by
    rw [List.take_add_one]
    simp [Hp.at', List.getElem?_eq_getElem (show m < l.length by omega)]
  rw [← e2, e1]
theorem HpS.st {W : World} {lo H g c n E : Nat} {es : List En} (h : HpS W lo H g c n es) (h1 : E ≠ H) (h2 : E ≠ g) (o : Nat) (x : Value) : HpS (W.setCell ⟨E, o, none⟩ x) lo H g c n es :=
  ⟨h.1.other (fun e => h1 e.symm) o x, own_stN h.2.1 (by simpa [Value.ownBlock] using fun e => h2 e.symm) o x, h.2.2⟩
theorem KpH.st {H g E : Nat} {w W : World} (h : KpH H g w W) (hE : w.heap.size ≤ E) (o : Nat) (x : Value) : KpH H g w (W.setCell ⟨E, o, none⟩ x) :=
  ⟨h.os, h.tape, h.output, Nat.le_trans h.size (by simp), fun k hk h1 h2 => (Below.heap_setCell W ⟨E, o, none⟩ x k (by show k ≠ E; omega)).trans (h.block k hk h1 h2)⟩
set_option maxRecDepth 100000 in
set_option maxHeartbeats 4000000 in
theorem heapPop_any (lo H g c n m : Nat) (es : List En) (w : World) (h : HpS w lo H g c n es) (hn : n ≤ 900) (hm : n = m + 1) (hok : ∀ e ∈ es, okE e) (hh : Hp.Heap dE lsE es n) :
    Calls Try.prog 39 #[hpv H] w fun e w' => e = .returned (.iface 50 (evE (Hp.at' dE es 0))) ∧ ∃ es', HpS w' lo H g c m es' ∧ (es' ++ [Hp.at' dE es 0]).Perm es ∧ Hp.Heap dE lsE es' m ∧ KpH H g w w' := by
  subst hm
  have HH := hidH h
  have HHP := hidH hh
  have HOK := hidH hok
  clear h hh hok
  have hw : ((m + 1 : Nat) : Int) - 1 = (m : Int) := by omega
  have HL := hidH (fun (n : Nat) => iLenH_any (some ⟨g, 0, none⟩) n c w)
  have c0 := HH.out.c0
  have hm1 := mLen c0
  have hm2 := mSwap c0
  have HS := hidH (HH.out.swap 0 m (by omega) (by omega))
  go_enter Try.func39, Try.ntmps39
  go_wp2_with fail
  refine (HL.out (m + 1)).mono ?_
  rintro e w2 ⟨rfl, hw2⟩
  obtain rfl := hw2.symm
  clear hw2 HL hm1
  go_wp2_with fail
  refine HS.out.mono ?_
  rintro e w1 ⟨rfl, h1, k1⟩
  have H1 := hidH h1
  have K1 := hidH k1
  have hl := HH.out.2.2.1
  have HPm := hidH (Hp.swp_perm dE (l := es) (i := 0) (j := m) (by omega) (by omega))
  have HOK1 : Hid (∀ e ∈ Hp.swp dE es 0 m, okE e) := fun e he => HOK.out e (HPm.out.mem_iff.1 he)
  have HDN : Hid (Hp.DnHp dE lsE (Hp.swp dE es 0 m) m 0) := Hp.dn_start (by omega) HHP.out
  have HLAST : Hid (Hp.at' dE (Hp.swp dE es 0 m) m = Hp.at' dE es 0) := by
    show _ = _
    rw [Hp.swp_at dE (by omega) (by omega) (by omega), if_pos rfl]
  have HDW := hidH (downH_any lo H g c (m + 1) m _ w1 H1.out HOK1.out (by omega) (by omega) HDN.out)
  clear h1 k1 HS c0 hm2 hl
  go_wp2_with fail
  refine HDW.out.mono ?_
  rintro e w3 ⟨⟨b, rfl⟩, es2, h2, p2, q2, k2⟩
  have H2 := hidH h2
  have P2 := hidH p2
  have Q2 := hidH q2
  have K2 := hidH k2
  have HV : Hid (Hp.at' dE es2 m = Hp.at' dE es 0) := by show _ = _; rw [P2.out.2 m (Nat.le_refl _), HLAST.out]
  have HPO := hidH (popM_any lo H g c (m + 1) m es2 w3 H2.out hn rfl)
  rw [HV.out] at HPO
  have hmp := mPop0 H w3
  clear h2 p2 q2 k2 HDW
  go_wp2_with fail
  refine HPO.out.mono ?_
  rintro e w4 ⟨rfl, h4, k4⟩
  go_wp2
  refine bodyPost_ret (results_tmp rfl _ _ _) rfl ⟨rfl, es2.take m, h4, ?_, ?_, (K1.out.next K2.out).next k4⟩
  · rw [← HV.out, take_last H2.out.2.2.1]
    exact P2.out.1.trans HPm.out
  · intro k k0 km
    rw [take_at km, take_at (by omega)]
    exact Q2.out k k0 km

set_option maxRecDepth 100000 in
set_option maxHeartbeats 4000000 in
theorem least_any (lo H g c n m : Nat) (es : List En) (w : World) (h : HpS w lo H g c n es) (hn : n ≤ 900) (hm : n = m + 1) (hok : ∀ e ∈ es, okE e) (hh : Hp.Heap dE lsE es n) :
    Calls Try.prog 22 #[.pointer (some ⟨H, 0, none⟩)] w fun e w' => e = .returned (evE (Hp.at' dE es 0)) ∧ ∃ es', HpS w' lo H g c m es' ∧ (es' ++ [Hp.at' dE es 0]).Perm es ∧ Hp.Heap dE lsE es' m ∧ KpH H g w w' := by
  have hb := b0H w (.cells #[.int .i64 0, .int .i64 0, .bool false] 50)
  obtain ⟨we, hwe⟩ : ∃ u, u = w.alloc (.cells #[.int .i64 0, .int .i64 0, .bool false] 50) := ⟨_, rfl⟩
  obtain ⟨E, hE⟩ : ∃ u, u = w.heap.size := ⟨_, rfl⟩
  have IE : Hid (IsB we E #[.int .i64 0, .int .i64 0, .bool false] 50) := by show IsB _ _ _ _; rw [hwe, hE]; exact IsB.new w _ _
  rw [← hwe] at hb
  have H1 := hidH (h.below hb)
  have K1 := hidH (KpH.of_below (H := H) (g := g) hb)
  have hlt := h.lt
  have hEH : E ≠ H := by omega
  have hEg : E ≠ g := by omega
  have HEW : Hid (w.heap.size ≤ E) := by show _ ≤ _; omega
  have HPO := hidH (heapPop_any lo H g c n m es we H1.out hn hm hok hh)
  clear h hh hok
  obtain ⟨x, hx⟩ : ∃ x, x = Hp.at' dE es 0 := ⟨_, rfl⟩
  rw [← hx] at HPO
  rw [← hx]
  clear hx
  obtain ⟨⟨x1, x2⟩, x3⟩ := x
  have hta := ta_any x1 x2 x3
  go_enter Try.func22, Try.ntmps22
  go_wp2_with fail
  rw [← hwe, ← hE]
  clear hwe hE hb
  refine HPO.out.mono ?_
  rintro e w2 ⟨rfl, es', h2, p2, q2, k2⟩
  have I2 := hidH (k2.isB IE.out hEH hEg)
  have H2 := hidH h2
  have K2 := hidH (K1.out.next k2)
  clear h2 k2 HPO IE
  obtain ⟨f0, f1, f2⟩ := And.intro (I2.out.frozen 0) (And.intro (I2.out.frozen 1) (I2.out.frozen 2))
  have q0 := I2.out.cell 0 rfl
  have q1 := I2.out.cell 1 rfl
  have q2' := I2.out.cell 2 rfl
  have I9 := ((I2.out.set 0 (.int .i64 x1)).set 1 (.int .i64 x2)).set 2 (.bool x3)
  have y0 := I9.cell 0 rfl
  have y1 := I9.cell 1 rfl
  have y2 := I9.cell 2 rfl
  have hEw : w.heap.size ≤ E := HEW.out
  go_wp2
  refine bodyPost_ret (v := evE ((x1, x2), x3)) (by simp [results, Try.results22, go_sem, y0, y1, y2]) rfl ⟨rfl, es', ((H2.out.st hEH hEg 0 _).st hEH hEg 1 _).st hEH hEg 2 _, p2, q2, ((K2.out.st hEw 0 _).st hEw 1 _).st hEw 2 _⟩
end Go.Proofs.Ythfdpdnphnjebaa
