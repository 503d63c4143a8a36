/- The walk of the program's FromTerms: its tests, the library's iterator from the end on, and the way back. -/
import Derived.Test.YtllgbfoffebojaaRatioW5
import Derived.Test.YtllgbfoffebojaaCalcW
import Derived.Test.YtllgbfoffebojaaRowsW
namespace Go.Proofs.Ytllgbfoffebojaa
open Go.RowKit Go.Shelf Go.Proofs.Ytllgbfoffebojaa.RM
attribute [local go_sem] Oper.semAt_some

/-- may FromTerms take this list at all? -/
def tOk (l : List Int) : Bool := decide (1 ≤ l.length ∧ l.length ≤ 60 ∧ behindB l = true)
theorem tOk_no {l : List Int} {k : Nat} (hk : k + 1 < l.length) (h : l[k + 1]?.getD 0 < 1) : tOk l = false := by
  refine decide_eq_false fun ⟨_, _, hb⟩ => ?_
  have := of_decide_eq_true hb (l[k + 1]?.getD 0) (by
    rw [List.mem_iff_getElem?]
    exact ⟨k, by rw [List.getElem?_drop, Nat.add_comm, List.getElem?_eq_getElem hk]; rfl⟩)
  omega
theorem tOk_yes {l : List Int} (h1 : 1 ≤ l.length) (h2 : l.length ≤ 60) (h : ∀ k, k + 1 < l.length → 1 ≤ l[k + 1]?.getD 0) : tOk l = true := by
  refine decide_eq_true ⟨h1, h2, decide_eq_true fun t ht => ?_⟩
  obtain ⟨j, hj⟩ := List.mem_iff_getElem?.mp ht
  rw [List.getElem?_drop] at hj
  obtain ⟨hk, e⟩ := List.getElem?_eq_some_iff.mp hj
  have := h j (by omega)
  rw [Nat.add_comm, hj] at this
  exact this

set_option maxRecDepth 100000 in
set_option maxHeartbeats 1000000 in
theorem termsOk_any (v : Value) (zs : List Int) (n base : Nat) (w : World) (hn : zs.length = n) (hn2 : n ≤ 1000000000) (hr : w.ownsRow base 2 1 v n (zs.map (Value.int .i64))) :
    Calls Try.prog 63 #[v] w fun e w' => e = .returned (.bool (tOk zs)) ∧ w' = w := by
  by_cases h0 : n < 1
  · obtain ⟨a, c, rfl⟩ := own_shape hr
    have hz : tOk zs = false := decide_eq_false (by omega)
    rw [hz]
    clear hr hn hz
    obtain rfl : n = 0 := by omega
    go_enter Try.func63, Try.ntmps63
    go_wp2
    go_ret
    exact ⟨rfl, rfl⟩
  by_cases h1 : 60 < n
  · obtain ⟨a, c, rfl⟩ := own_shape hr
    have hz : tOk zs = false := decide_eq_false (by omega)
    have ht : ((n : Int) == 0) = false := by simp; omega
    rw [hz]
    clear hr hn hz
    go_enter Try.func63, Try.ntmps63
    go_wp2
    go_ret
    exact ⟨rfl, rfl⟩
  have hcap : ∃ g c, v = .slice (some ⟨g, 0, none⟩) n c ∧ n ≤ c ∧ c ≤ maxLen := by
    rcases hr.2 with ⟨_, h⟩ | ⟨g, c, cur, rfl, _, _, h1, h2, _⟩
    · omega
    · exact ⟨g, c, rfl, h1, h2⟩
  obtain ⟨g, c, rfl, hc1, hc2⟩ := hcap
  unfold maxLen at hc2
  have HC : Hid (∀ j, j < n → w.cell? ⟨g, j, none⟩ = some (.int .i64 (zs[j]?.getD 0))) := fun j hj => own_int hr hn j hj
  have HN : Hid (zs.length = n) := hn
  have ht : ((n : Int) == 0) = false := by simp; omega
  clear hr hn
  have h60 : ¬ 60 < (n : Int) := by omega
  by_cases hc : c = 1
  · subst hc
    obtain rfl : n = 1 := by omega
    have hz : tOk zs = true := tOk_yes (by rw [HN.out]; exact Nat.le_refl _) (by rw [HN.out]; decide) (fun k hk => by rw [HN.out] at hk; omega)
    rw [hz]
    clear HN hz
    go_enter Try.func63, Try.ntmps63
    go_wp2
    go_loop [16] (fun i => i = .int .i64 0) (fun _ => 0)
    case atStart => exact rfl
    case round =>
      subst hrel
      go_wp2
      go_ret
      exact ⟨rfl, rfl⟩
  have hn1 : ((n - 1 : Nat) : Int) = (n : Int) - 1 := by omega
  go_enter Try.func63, Try.ntmps63
  go_wp2
  go_loop [16] (fun i => ∃ k : Nat, k + 1 ≤ n ∧ i = .int .i64 k ∧ Hid (∀ j, j < k → 1 ≤ zs[j + 1]?.getD 0)) (fun i => n - (intOf i).toNat)
  case atStart => exact ⟨0, by omega, rfl, fun j hj => absurd hj (Nat.not_lt_zero _)⟩
  case round =>
    obtain ⟨k, hk, rfl, HB⟩ := hrel
    by_cases hlt : k + 1 < n
    · have c1 := HC.out (k + 1) hlt
      obtain ⟨x, hx⟩ : ∃ x, x = zs[k + 1]?.getD 0 := ⟨_, rfl⟩
      rw [← hx, Nat.add_comm] at c1
      have hki : (k : Int) < (n : Int) - 1 := by omega
      by_cases hx1 : x < 1
      · have hz : Hid (tOk zs = false) := tOk_no (k := k) (by rw [HN.out]; exact hlt) (by rw [← hx]; exact hx1)
        clear hx HB
        go_wp2
        go_ret
        exact ⟨by rw [hz.out]; rfl, rfl⟩
      · have HB' : Hid (∀ j, j < k + 1 → 1 ≤ zs[j + 1]?.getD 0) := by
          intro j hj
          by_cases e : j = k
          · subst e; rw [← hx]; omega
          · exact HB.out j (by omega)
        clear hx HB
        go_wp2
        go_round
        case rel => exact ⟨k + 1, by omega, by go_num, HB'⟩
        case measure => simp [intOf]; omega
    · have hki : ¬ (k : Int) < (n : Int) - 1 := by omega
      have hz : Hid (tOk zs = true) := tOk_yes (by rw [HN.out]; omega) (by rw [HN.out]; omega) (fun j hj => HB.out j (by rw [HN.out] at hj; omega))
      clear HB
      go_wp2
      go_ret
      exact ⟨by rw [hz.out]; rfl, rfl⟩

/-- blocks p and q lie as they lay -/
def Kp2 (p q : Nat) (W W' : World) : Prop := W'.heap[p]? = W.heap[p]? ∧ W'.heap[q]? = W.heap[q]?
theorem Kp2.refl (p q : Nat) (W : World) : Kp2 p q W W := ⟨rfl, rfl⟩
theorem Kp2.trans {p q : Nat} {X Y Z : World} (h : Kp2 p q X Y) (k : Kp2 p q Y Z) : Kp2 p q X Z := ⟨k.1.trans h.1, k.2.trans h.2⟩
theorem Kp2.below {p q : Nat} {W W' : World} (h : Below W.heap.size W W') (hp : p < W.heap.size) (hq : q < W.heap.size) : Kp2 p q W W' := ⟨h.block p hp, h.block q hq⟩
/-- what has come when j rounds from the end on are over -/
def fromEnd (zs : List Int) (m j : Nat) : List (Int × Int) := (List.range j).map (fun (i : Nat) => ((m : Int) - 1 - (i : Int), zs[m - 1 - i]?.getD 0))
theorem fromEnd_succ (zs : List Int) (m j : Nat) : fromEnd zs m (j + 1) = fromEnd zs m j ++ [((m : Int) - 1 - j, zs[m - 1 - j]?.getD 0)] := by simp [fromEnd, List.range_succ]
theorem fromEnd_len (zs : List Int) (m j : Nat) : (fromEnd zs m j).length = j := by simp [fromEnd]
theorem fromEnd_all (zs : List Int) (m : Nat) (h : zs.length = m + 1) : ((fromEnd zs m m).map Prod.snd).reverse ++ [zs[m]?.getD 0] = zs := by
  apply List.ext_getElem?
  intro i
  by_cases h1 : i < m
  · rw [List.getElem?_append_left (by simp [fromEnd]; exact h1), List.getElem?_reverse (by simp [fromEnd]; exact h1)]
    simp only [fromEnd, List.map_map, List.length_map, List.length_range, List.getElem?_map]
    rw [List.getElem?_range (by omega), show m - 1 - i = m - 1 - i from rfl]
    simp only [Option.map_some, Function.comp]
    rw [show m - 1 - (m - 1 - i) = i by omega, List.getElem?_eq_getElem (by omega : i < zs.length)]
    rfl
  · rw [List.getElem?_append_right (by simp [fromEnd]; omega)]
    by_cases h2 : i = m
    · subst h2
      simp [fromEnd, h]
    · rw [List.getElem?_eq_none (by simp [fromEnd]; omega), List.getElem?_eq_none (by omega)]

set_option maxRecDepth 100000 in
set_option maxHeartbeats 2000000 in
/-- the library's iterator from the end on -/
theorem back1_in (n l Bs g m cap : Nat) (zs : List Int) (hn : 1 ≤ n) (hm : m ≤ 1000000000) (J Jx : List (Int × Int) → World → Prop)
    (hY : ∀ pre x W1, J pre W1 → pre.length < m → YieldAt Fence.wide (n - 1) Try.prog l #[.int .i64 x.1, .int .i64 x.2] W1 fun e W' =>
      (e = .returned (.bool true) ∧ J (pre ++ [x]) W' ∧ Kp2 Bs g W1 W') ∨ (e = .returned (.bool false) ∧ Jx (pre ++ [x]) W'))
    (W : World) (hBs : W.cell? ⟨Bs, 0, none⟩ = some (.slice (some ⟨g, 0, none⟩) m cap)) (hc : ∀ j, j < m → W.cell? ⟨g, j, none⟩ = some (.int .i64 (zs[j]?.getD 0))) (h0 : J [] W) :
    CallsIn Fence.wide n Try.prog 76 #[.func (.yield l) #[] #[], .pointer (some ⟨Bs, 0, none⟩)] W fun e W' => (∃ v, e = .returned v) ∧
      ((∃ ys, ys = fromEnd zs m m ∧ J ys W') ∨ (∃ pre, True ∧ Jx pre W')) := by
  have HC : Hid (∀ j, j < m → W.cell? ⟨g, j, none⟩ = some (.int .i64 (zs[j]?.getD 0))) := hc
  have HS : Hid (W.cell? ⟨Bs, 0, none⟩ = some (.slice (some ⟨g, 0, none⟩) m cap)) := hBs
  clear hc
  refine callsIn_of_wp Try.func76 rfl trivial ?_ rfl
  simp only [Try.ntmps76, List.size_toArray, List.length_cons, List.length_nil, Nat.reduceAdd, Nat.reduceSub, Array.replicate_succ, Array.replicate_zero, List.push_toArray, List.append_toArray, List.nil_append, List.cons_append]
  gi_wp2
  clear hBs
  gi_loopw [3] (fun i wr => ∃ (j : Nat) (i0 : Int), j ≤ m ∧ i0 = (m : Int) - 1 - j ∧ i = .int .i64 i0 ∧ Hid (J (fromEnd zs m j) wr) ∧ Hid (Kp2 Bs g W wr)) (fun i _ => (intOf i + 1).toNat)
  case atStart => exact ⟨0, (m : Int) - 1, Nat.zero_le _, by omega, rfl, h0, Kp2.refl _ _ _⟩
  case round =>
    clear h0
    obtain ⟨j, i0, hj, hi0, rfl, hJ, hK⟩ := hrel
    have hs : wr.cell? ⟨Bs, 0, none⟩ = some (.slice (some ⟨g, 0, none⟩) m cap) := (World.cell?_of_block (w := W) (a := ⟨Bs, 0, none⟩) hK.out.1).trans HS.out
    by_cases hlt : j < m
    · obtain ⟨i, rfl⟩ : ∃ i : Nat, i0 = i := ⟨i0.toNat, by omega⟩
      have hi : i < m := by omega
      have ei : m - 1 - j = i := by omega
      have hx : wr.cell? ⟨g, i, none⟩ = some (.int .i64 (zs[i]?.getD 0)) := (World.cell?_of_block (w := W) (a := ⟨g, i, none⟩) hK.out.2).trans (HC.out i hi)
      obtain ⟨fn, tmps, assign, body, hy, hR⟩ := hY _ ((i : Int), zs[i]?.getD 0) wr hJ.out (by rw [fromEnd_len]; exact hlt)
      dsimp only at hy
      obtain ⟨x, hxx⟩ : ∃ x, x = zs[i]?.getD 0 := ⟨_, rfl⟩
      have HX : Hid (x = zs[i]?.getD 0) := hxx
      rw [← hxx] at hx hy hR
      have HI : Hid ((i : Int) = (m : Int) - 1 - j) := hi0
      have HE : Hid (m - 1 - j = i) := ei
      clear hxx hi0 ei
      gi_wp2
      refine hR.mono ?_
      rintro e W3 (⟨rfl, hJ3, hk3⟩ | ⟨rfl, hJx3⟩)
      · clear hy hR hx hs
        gi_wp2
        go_roundw
        case rel => exact ⟨j + 1, (i : Int) - 1, by omega, by have := HI.out; omega, rfl, by rw [fromEnd_succ, ← HI.out, HE.out, ← HX.out]; exact hJ3, hK.out.trans hk3⟩
        case measure => simp [intOf] <;> omega
      · gi_wp2
        refine bodyPost_ret (results_none rfl _ _ _) rfl ?_
        exact ⟨⟨_, rfl⟩, .inr ⟨_, trivial, hJx3⟩⟩
    · obtain rfl : j = m := by omega
      obtain rfl : i0 = -1 := by omega
      gi_wp2
      go_end0
      exact ⟨⟨_, rfl⟩, .inl ⟨_, rfl, hJ.out⟩⟩

theorem back_in (n : Nat) (a : Option Addr) (len cap : Nat) (w : World) :
    CallsIn Fence.wide n Try.prog 64 #[.slice a len cap] w fun e w' => e = .returned (.func (.func 76) #[] #[.pointer (some ⟨w.heap.size, 0, none⟩)]) ∧ w' = w.alloc (.cells #[.slice a len cap] 39) := by
  refine callsIn_of_wp Try.func64 rfl trivial ?_ rfl
  simp only [Try.ntmps64, List.size_toArray, List.length_cons, List.length_nil, Nat.reduceAdd, Nat.reduceSub, Array.replicate_succ, Array.replicate_zero, List.push_toArray, List.append_toArray, List.nil_append, List.cons_append]
  gi_wp2
  go_ret
  exact ⟨rfl, rfl⟩
theorem back_seq (n Bs g m cap : Nat) (zs : List Int) (hn : 1 ≤ n) (hm : m ≤ 1000000000) (w : World) (hBs : w.cell? ⟨Bs, 0, none⟩ = some (.slice (some ⟨g, 0, none⟩) m cap)) (hg : g < w.heap.size) (hc : ∀ j, j < m → w.cell? ⟨g, j, none⟩ = some (.int .i64 (zs[j]?.getD 0))) :
    SeqStopsK Fence.wide n Try.prog 76 #[.pointer (some ⟨Bs, 0, none⟩)] (fun x : Int × Int => #[Value.int .i64 x.1, .int .i64 x.2]) (Kp2 Bs g) (fun ys => ys = fromEnd zs m m) (fun _ => True) m w :=
  fun l J Jx W hW _ _ hY h0 => back1_in n l Bs g m cap zs hn hm J Jx hY W ((hW.cell (p := ⟨Bs, 0, none⟩) (World.block_lt_of_cell? w _ hBs)).trans hBs) (fun j hj => (hW.cell (p := ⟨g, j, none⟩) hg).trans (hc j hj)) h0

set_option maxRecDepth 100000 in
set_option maxHeartbeats 1000000 in
theorem behind_any (a d t : Int) (w : World) :
    Calls Try.prog 65 #[.agg #[.int .i64 a, .int .i64 d], .int .i64 t] w fun e w' => e = .returned (.tuple #[.agg #[.int .i64 (addN t (divN a d) (divD a d)), .int .i64 (addD t (divN a d) (divD a d))], .bool (addO t (divN a d) (divD a d))]) ∧ Below w.heap.size w w' := by
  obtain ⟨pn, hpn⟩ : ∃ z, z = divN a d := ⟨_, rfl⟩
  obtain ⟨pd, hpd⟩ : ∃ z, z = divD a d := ⟨_, rfl⟩
  obtain ⟨po, hpo⟩ : ∃ z, z = divO a d := ⟨_, rfl⟩
  have HD : Hid (∀ u : World, Calls Try.prog 12 #[.agg #[.int .i64 1, .int .i64 1], .agg #[.int .i64 a, .int .i64 d]] u fun e u' => e = .returned (.tuple #[.agg #[.int .i64 pn, .int .i64 pd], .bool po]) ∧ Below u.heap.size u u') := by
    intro u; rw [hpn, hpd, hpo]; exact iDiv_any 1 1 a d u
  rw [← hpn, ← hpd]
  obtain ⟨sn, hsn⟩ : ∃ z, z = addN t pn pd := ⟨_, rfl⟩
  obtain ⟨sd, hsd⟩ : ∃ z, z = addD t pn pd := ⟨_, rfl⟩
  obtain ⟨so, hso⟩ : ∃ z, z = addO t pn pd := ⟨_, rfl⟩
  have HA : Hid (∀ u : World, Calls Try.prog 9 #[.agg #[.int .i64 t, .int .i64 1], .agg #[.int .i64 pn, .int .i64 pd]] u fun e u' => e = .returned (.tuple #[.agg #[.int .i64 sn, .int .i64 sd], .bool so]) ∧ Below u.heap.size u u') := by
    intro u; rw [hsn, hsd, hso]; exact iAdd_any t 1 pn pd u
  rw [← hsn, ← hsd, ← hso]
  clear hpn hpd hpo hsn hsd hso
  go_enter Try.func65, Try.ntmps65
  go_wp2_with fail
  refine (HD.out _).mono ?_
  rintro e w1 ⟨rfl, hb⟩
  have B1 : Below w.heap.size w w1 := (((Below.refl _ _).alloc (Nat.le_refl _) _).alloc (by simp) _).trans (hb.mono (by simp <;> omega))
  have a1 : IsR w1 (w.heap.size + 1) 0 0 := by
    have := (IsR.new (w.alloc (.cells #[.int .i64 a, .int .i64 d] 25)) 0 0).below hb
    simpa using this
  have hlt := a1.lt
  clear hb
  go_wp2_with fail
  refine (HA.out _).mono ?_
  rintro e w2 ⟨rfl, hb⟩
  have B2 : Below w.heap.size w w2 := (B1.alloc B1.size _).trans (hb.mono (by have := B1.size; simp <;> omega))
  have a2 : IsR w2 (w.heap.size + 1) 0 0 := (a1.below ((Below.refl _ _).alloc (Nat.le_refl _) _)).below hb
  have d0 := a2.c0
  have d1 := a2.c1
  have e0 := a2.f0
  have e1 := a2.f1
  clear hb
  go_wp2
  exact bodyPost_ret (v := .tuple #[.agg #[.int .i64 sn, .int .i64 sd], .bool so]) (by simp [results, Try.results65, go_sem, d0, d1]) rfl ⟨rfl, (B2.setCell (p := ⟨w.heap.size + 1, 0, none⟩) (by simp) _).setCell (p := ⟨w.heap.size + 1, 1, none⟩) (by simp) _⟩

theorem Kp2.set {p q b o : Nat} {W : World} {v : Value} (hp : b ≠ p) (hq : b ≠ q) : Kp2 p q W (W.setCell ⟨b, o, none⟩ v) := ⟨Below.heap_setCell W ⟨b, o, none⟩ v p hp.symm, Below.heap_setCell W ⟨b, o, none⟩ v q hq.symm⟩
theorem boxed_other {W : World} {B b : Nat} {t : TypeId} {v : Value} (h : Boxed W B t v) (hne : B ≠ b) (o : Nat) (u : Value) : Boxed (W.setCell ⟨b, o, none⟩ u) B t v := (Below.heap_setCell W ⟨b, o, none⟩ u B hne).trans h
theorem own_isR {X Y : World} {row : Option Nat} {R : Nat} {n d : Int} (h : IsR X R n d) (hg : X.grownBy Y row) (hr : ∀ r, row = some r → ∃ o : Obj, X.heap[r]? = some o ∧ o.isCells = false) : IsR Y R n d :=
  (hg.block R h.lt (fun e => by obtain ⟨o, ho, hc⟩ := hr _ e.symm; rw [show X.heap[R]? = _ from h] at ho; cases ho; cases hc)).trans h
theorem fromT_tOk {l : List Int} : fromT l = if tOk l = true then ftL l else (0, 0, false) := by
  unfold fromT tOk
  by_cases h : 1 ≤ l.length ∧ l.length ≤ 60 ∧ behindB l = true
  · rw [if_pos h, if_pos (decide_eq_true h)]
  · rw [if_neg h, if_neg (by simpa using h)]
theorem ret3' {a b : Int} {c : Bool} {r : Int × Int × Bool} (h : r = (a, b, c)) : Ending.returned (.tuple #[.agg #[.int .i64 a, .int .i64 b], .bool c]) = .returned (.tuple #[.agg #[.int .i64 r.1, .int .i64 r.2.1], .bool r.2.2]) := by rw [h]

set_option maxRecDepth 100000 in
set_option maxHeartbeats 2000000 in
theorem iFrom_any (v : Value) (zs : List Int) (n base : Nat) (w : World) (hn : zs.length = n) (hn2 : n ≤ 1000000000) (hr : w.ownsRow base 2 1 v n (zs.map (Value.int .i64))) :
    Calls Try.prog 33 #[v] w fun e w' => e = .returned (.tuple #[.agg #[.int .i64 (fromT zs).1, .int .i64 (fromT zs).2.1], .bool (fromT zs).2.2]) ∧ Below w.heap.size w w' := by
  have HR : Hid (w.ownsRow base 2 1 v n (zs.map (Value.int .i64))) := hr
  have HN : Hid (zs.length = n) := hn
  refine (callsIn_wide (n := 5)).1 ?_
  by_cases hok : tOk zs = true
  · obtain ⟨h1, h2, _⟩ := of_decide_eq_true hok
    have HF : Hid (fromT zs = ftL zs) := by show _ = _; rw [fromT_tOk, if_pos hok]
    rw [HF.out]
    obtain ⟨m, rfl⟩ : ∃ m, n = m + 1 := ⟨n - 1, by omega⟩
    obtain ⟨g, c, rfl⟩ := own_some hr (by omega)
    have hg : g < w.heap.size := (hr.lt g rfl).2
    have HC : Hid (∀ j, j < m + 1 → w.cell? ⟨g, j, none⟩ = some (.int .i64 (zs[j]?.getD 0))) := fun j hj => own_int hr hn j hj
    have hcap : m + 1 ≤ c := by
      rcases hr.2 with ⟨h, _⟩ | ⟨g', c', cur, h, _, _, h3, _⟩
      · cases h
      · cases h; exact h3
    have hm60 : m < 60 := by omega
    clear hr hn hn2 h1 h2
    refine callsIn_of_wp_marks Try.func33 rfl trivial ?_ rfl
    simp only [Try.ntmps33, List.size_toArray, List.length_cons, List.length_nil, Nat.reduceAdd, Nat.reduceSub, Array.replicate_succ, Array.replicate_zero, List.push_toArray, List.append_toArray, List.nil_append, List.cons_append]
    have hc1 := HC.out m (by omega)
    obtain ⟨x, hx⟩ : ∃ x, x = zs[m]?.getD 0 := ⟨_, rfl⟩
    rw [← hx] at hc1
    have HX : Hid (x = zs[m]?.getD 0) := hx
    clear hx
    gi_wp2_with (first | (refine ⟨trivial, ?_⟩; gi_at_call 63; refine (callsIn_wide.2 (termsOk_any _ zs (m + 1) base _ HN.out (by omega) (own_below HR.out ((Below.refl _ _).alloc (Nat.le_refl _) _)))).mono ?_; rintro e w' ⟨rfl, rfl⟩; rw [hok]) | (refine ⟨trivial, ?_⟩; gi_at_call 14; refine (callsIn_wide.2 (iRed_any x 1 _)).mono ?_; rintro e w1 ⟨rfl, hb1⟩) | (refine ⟨trivial, ?_⟩; gi_at_call 64; refine (back_in _ _ _ _ _).mono ?_; rintro e w' ⟨rfl, rfl⟩))
    obtain ⟨A, hA⟩ : ∃ A, A = w.heap.size := ⟨_, rfl⟩
    obtain ⟨R, hR⟩ : ∃ R, R = w1.heap.size := ⟨_, rfl⟩
    obtain ⟨rn, hrn⟩ : ∃ z, z = redN x 1 := ⟨_, rfl⟩
    obtain ⟨rd, hrd⟩ : ∃ z, z = redD x 1 := ⟨_, rfl⟩
    obtain ⟨ro, hro⟩ : ∃ z, z = redOk x 1 := ⟨_, rfl⟩
    have hs1 := hb1.size
    have a1 : IsR w1 A 0 0 := by rw [hA]; exact (IsR.new w 0 0).below hb1
    have B1 : Below w.heap.size w w1 := ((Below.refl _ _).alloc (Nat.le_refl _) _).trans (hb1.mono (by simp))
    have hAR : A < R := by rw [hR]; exact a1.lt
    have hwA : w.heap.size ≤ A := by omega
    rw [← hrn, ← hrd, ← hro, ← hA, ← hR]
    obtain ⟨Wl, hWl⟩ : ∃ Wl, Wl = ((w1.alloc (.cells #[.int .i64 rn, .int .i64 rd] 25)).alloc (.cells #[.bool ro] 4)).alloc (.cells #[.slice (some ⟨g, 0, none⟩) m c] 39) := ⟨_, rfl⟩
    have b0 : ∀ {W : World} (o : Obj), Below W.heap.size W (W.alloc o) := fun o => (Below.refl _ _).alloc (Nat.le_refl _) o
    have r0 : IsR Wl R rn rd := by rw [hWl, hR]; exact (((IsR.new w1 rn rd).below (b0 _))).below (b0 _)
    have f0 : Boxed Wl (R + 1) 4 (.bool ro) := by
      have := (Boxed.new (w1.alloc (.cells #[.int .i64 rn, .int .i64 rd] 25)) 4 (.bool ro)).alloc (.cells #[.slice (some ⟨g, 0, none⟩) m c] 39)
      rw [hWl, hR]; simpa using this
    have s0 : Boxed Wl (R + 1 + 1) 39 (.slice (some ⟨g, 0, none⟩) m c) := by
      have := Boxed.new ((w1.alloc (.cells #[.int .i64 rn, .int .i64 rd] 25)).alloc (.cells #[.bool ro] 4)) 39 (.slice (some ⟨g, 0, none⟩) m c)
      rw [hWl, hR]; simpa using this
    have a0 : IsR Wl A 0 0 := by rw [hWl]; exact ((a1.below (b0 _)).below (b0 _)).below (b0 _)
    have B0 : Below w.heap.size w Wl := by
      rw [hWl]; exact ((B1.alloc B1.size _).alloc (by have := B1.size; simp; omega) _).alloc (by have := B1.size; simp; omega) _
    have hgl : g < Wl.heap.size := Nat.lt_of_lt_of_le hg B0.size
    have hsl : Wl.heap.size = R + 1 + 1 + 1 := by rw [hWl, hR]; simp
    have c0 : ∀ j, j < m → Wl.cell? ⟨g, j, none⟩ = some (.int .i64 (zs[j]?.getD 0)) := fun j hj => (B0.cell (p := ⟨g, j, none⟩) hg).trans (HC.out j (by omega))
    have HI : Hid (ftL ([x] : List Int) = (rn, rd, ro)) := by show _ = _; rw [hrn, hrd, hro]; rfl
    have i0 : (IsR Wl R (ftL ((([] : List (Int × Int)).map Prod.snd).reverse ++ [x])).1 (ftL ((([] : List (Int × Int)).map Prod.snd).reverse ++ [x])).2.1 ∧ Boxed Wl (R + 1) 4 (.bool (ftL ((([] : List (Int × Int)).map Prod.snd).reverse ++ [x])).2.2) ∧ IsR Wl A 0 0) ∧ Below w.heap.size w Wl ∧ Wl.heap.size ≤ Wl.heap.size := by
      have e : ((([] : List (Int × Int)).map Prod.snd).reverse ++ [x]) = [x] := rfl
      rw [e, HI.out]
      exact ⟨⟨r0, f0, a0⟩, B0, Nat.le_refl _⟩
    have hRg : g ≠ R := by omega
    have hRg1 : g ≠ R + 1 := by omega
    rw [← hWl]
    clear hWl HI r0 f0 a0 a1 hrn hrd hro hR hA hb1 hs1 hc1 B1
    refine wpIn_rangeFunc_ownG rfl (by omega) (gf := 76) (lb := #[.pointer (some ⟨R + 1 + 1, 0, none⟩)]) rfl trivial (enters_of Try.func76 (by kernel_rfl) rfl)
      (back_seq 4 (R + 1 + 1) g m c zs (by omega) (by omega) Wl s0.cell hgl c0) (fun h k => h.trans k)
      (fun W l o o' hl h _ _ => ⟨World.putObj_heap_other (by omega), World.putObj_heap_other (by omega)⟩) (Below.refl _ _) (fun _ => rfl)
      (fun pre W => (IsR W R (ftL ((pre.map Prod.snd).reverse ++ [x])).1 (ftL ((pre.map Prod.snd).reverse ++ [x])).2.1 ∧ Boxed W (R + 1) 4 (.bool (ftL ((pre.map Prod.snd).reverse ++ [x])).2.2) ∧ IsR W A 0 0) ∧ Below w.heap.size w W ∧ Wl.heap.size ≤ W.heap.size)
      (fun _ _ _ => False)
      (OwnFrom.and (Own.from (fun s X Y row hs hgr hrow => ⟨own_isR hs.1 hgr hrow, hs.2.1.kept hgr (fun e => by obtain ⟨o, ho, hc⟩ := hrow _ e.symm; rw [show X.heap[R + 1]? = _ from hs.2.1] at ho; cases ho; cases hc), own_isR hs.2.2 hgr hrow⟩) _) (OwnFrom.and (ownFrom_below (Nat.le_refl _) (by omega)) (fun _ _ _ _ hs hgr _ => Nat.le_trans hs hgr.size)))
      (fun _ _ _ _ _ hs _ _ => hs)
      i0
      (fun y => { tmps := #[.slice (some ⟨g, 0, none⟩) (m + 1) c, undef, .pointer (some ⟨A, 0, none⟩), .bool false, .int .i64 m, .pointer (some ⟨R, 0, none⟩), .pointer (some ⟨R + 1, 0, none⟩), undef, .int .i64 y.2, .slice (some ⟨g, 0, none⟩) (m + 1) c, .bool true, .bool false, undef, .slice (some ⟨g, 0, none⟩) (m + 1) c, .int .i64 (m + 1), .int .i64 m, .tuple #[.agg #[.int .i64 rn, .int .i64 rd], .bool ro], .slice (some ⟨g, 0, none⟩) (m + 1) c, .int .i64 m, .pointer (some ⟨g, m, none⟩), .int .i64 x, .tuple #[.agg #[.int .i64 rn, .int .i64 rd], .bool ro], .agg #[.int .i64 rn, .int .i64 rd], .bool ro, .slice (some ⟨g, 0, none⟩) (m + 1) c, .int .i64 m, .slice (some ⟨g, 0, none⟩) m c, .func (.func 76) #[] #[.pointer (some ⟨R + 1 + 1, 0, none⟩)], .int .i64 y.1, .int .i64 y.2, undef, undef, undef, undef, undef, undef, undef, undef], defers := [] }) ?assign ?body ?done ?stop
    case assign =>
      intro l y W K hK
      gi_wp2
      exact hK
    case body =>
      rintro l pre y W ⟨⟨hr, hf, ha⟩, hB, hsz⟩ hlt
      have e : ftL (((pre ++ [y]).map Prod.snd).reverse ++ [x]) = bk y.2 (ftL ((pre.map Prod.snd).reverse ++ [x])) := by
        rw [List.map_append, List.reverse_append]
        exact ftL_cons _ _ (by simp)
      have E : Hid _ := e
      clear e i0
      generalize ftL ((pre.map Prod.snd).reverse ++ [x]) = q at *
      obtain ⟨qn, qd, qo⟩ := q
      have q0 := hr.c0
      have q1 := hr.c1
      have hRl := hr.lt
      have hFl := hf.lt
      gi_wp2_with (refine ⟨trivial, ?_⟩; gi_at_call 65; refine (CallsIn.inRound l (callsIn_wide.2 (behind_any qn qd y.2 _))).mono ?_; rintro e w2 ⟨rfl, hb2⟩; have r2 := hr.below hb2; have f2 : Boxed w2 (R + 1) 4 (.bool qo) := (hb2.block (R + 1) hFl).trans hf; have a2 := ha.below hb2; have q0' := r2.c0; have q1' := r2.c1; have q2' := r2.f0; have q3' := r2.f1; have q4' := f2.cell; have q5' := f2.frozen)
      refine ⟨((((KeepsOthers.of_grownBy (grown_of_below hb2) (fun j o e _ => by cases e)).trans (KeepsOthers.setCell _ _ _)).trans (KeepsOthers.setCell _ _ _)).trans (KeepsOthers.setCell _ _ _)).from _,
        (((Kp2.below hb2 (by omega) (by have := hB.size; omega)).trans (Kp2.set (by omega) hRg.symm)).trans (Kp2.set (by omega) hRg.symm)).trans (Kp2.set (by omega) hRg1.symm), ⟨?_, ?_, ?_⟩, ?_, ?_⟩
      · show IsR _ _ _ _
        rw [E.out]
        exact ((r2.set0 _).set1 _).other (by omega) 0 _
      · show Boxed _ _ _ _
        rw [E.out]
        exact (boxed_other (boxed_other f2 (by omega) 0 _) (by omega) 1 _).set _
      · exact ((a2.other (by omega) 0 _).other (by omega) 1 _).other (by omega) 0 _
      · exact (((hB.trans (hb2.mono hB.size)).setCell (p := ⟨R, 0, none⟩) (by show _ ≤ R; omega) _).setCell (p := ⟨R, 1, none⟩) (by show _ ≤ R; omega) _).setCell (p := ⟨R + 1, 0, none⟩) (by show _ ≤ R + 1; omega) _
      · have := hb2.size
        simp; omega
    case done =>
      rintro D ys W hD rfl ⟨⟨hr, hf, ha⟩, hB, hsz⟩ hK
      rw [HX.out, fromEnd_all zs m HN.out] at hr hf
      clear i0
      obtain ⟨q, hq⟩ : ∃ q, q = ftL zs := ⟨_, rfl⟩
      rw [← hq] at hr hf
      obtain ⟨qn, qd, qo⟩ := q
      have HQ : Hid (ftL zs = (qn, qd, qo)) := hq.symm
      clear hq
      have q0 := hr.c0
      have q1 := hr.c1
      have q2 := hf.cell
      have q3 := ha.f0
      have q4 := ha.f1
      have q5 := ha.c0
      have q6 := ha.c1
      gi_wp2
      have hmix : Try.prog.follows Departure.mixedOrders = true := by kernel_rfl
      have hlate : Try.prog.follows Departure.lateStores = true := by kernel_rfl
      gi_region_o
      all_goals gi_wp2
      have hK2 : (((W.setCell ⟨A, 0, none⟩ (.int .i64 qn)).setCell ⟨A, 1, none⟩ (.int .i64 qd)).drew).heap[D]? = some (.deferred (some [])) := ((KeepsOthers.setCell W ⟨A, 0, none⟩ (.int .i64 qn)).trans (KeepsOthers.setCell _ ⟨A, 1, none⟩ (.int .i64 qd))).same D _ hK rfl
      have a2 : IsR (((W.setCell ⟨A, 0, none⟩ (.int .i64 qn)).setCell ⟨A, 1, none⟩ (.int .i64 qd)).drew) A qn qd := (ha.set0 qn).set1 qd
      have B2 : Below w.heap.size w (((W.setCell ⟨A, 0, none⟩ (.int .i64 qn)).setCell ⟨A, 1, none⟩ (.int .i64 qd)).drew) := ((hB.setCell (p := ⟨A, 0, none⟩) hwA _).setCell (p := ⟨A, 1, none⟩) hwA _).drew
      obtain ⟨W2, hW2⟩ : ∃ W2, W2 = (((W.setCell ⟨A, 0, none⟩ (.int .i64 qn)).setCell ⟨A, 1, none⟩ (.int .i64 qd)).drew) := ⟨_, rfl⟩
      rw [← hW2] at hK2 a2 B2 ⊢
      have a3 : IsR (W2.putObj D (.deferred none)) A qn qd := (World.putObj_heap_other (by omega)).trans a2
      have e0 := a3.c0
      have e1 := a3.c1
      refine ⟨by simp, .inl ⟨_, _, rfl, run_takeDeferred hK2, ?_⟩⟩
      exact ⟨.tuple #[.agg #[.int .i64 qn, .int .i64 qd], .bool qo], by simp [results, Try.results33, go_sem, e0, e1], ret3' HQ.out, B2.trans (belowK_b (w := w) (Nat.le_refl _) W2 D _ _ (by have := B0.size; omega) hK2 rfl rfl)⟩
    case stop =>
      rintro D c pre W _ _ h _
      exact h.elim
  · rw [Bool.not_eq_true] at hok
    have HF : Hid (fromT zs = (0, 0, false)) := by show _ = _; rw [fromT_tOk, if_neg (by simp [hok])]
    obtain ⟨a, c, rfl⟩ := own_shape hr
    clear hr hn
    refine callsIn_of_wp Try.func33 rfl trivial ?_ rfl
    simp only [Try.ntmps33, List.size_toArray, List.length_cons, List.length_nil, Nat.reduceAdd, Nat.reduceSub, Array.replicate_succ, Array.replicate_zero, List.push_toArray, List.append_toArray, List.nil_append, List.cons_append]
    gi_wp2_with (refine ⟨trivial, ?_⟩; gi_at_call 63; refine (callsIn_wide.2 (termsOk_any _ zs n base _ HN.out hn2 (own_below HR.out ((Below.refl _ _).alloc (Nat.le_refl _) _)))).mono ?_; rintro e w' ⟨rfl, rfl⟩; rw [hok])
    exact bodyPost_ret (v := .tuple #[.agg #[.int .i64 0, .int .i64 0], .bool false]) (by simp [results, Try.results33, go_sem]) rfl ⟨ret3' HF.out, (Below.refl _ _).alloc (Nat.le_refl _) _⟩
end Go.Proofs.Ytllgbfoffebojaa
