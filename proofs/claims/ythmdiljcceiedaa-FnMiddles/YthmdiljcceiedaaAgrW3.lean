/- The walk of the model's l11Sorted. -/
import Derived.Test.YthmdiljcceiedaaCutR
import Derived.Test.YthmdiljcceiedaaRatioW5
import Derived.Deep.RegionHeld3
import Derived.Deep.DeepCutAuto
namespace Go.Proofs.Ythmdiljcceiedaa
open Go.RowKit Go.Proofs.Ythmdiljcceiedaa.RM

/-- put in ahead of the first one that it is less than -/
def insR : List Fr → Fr → List Fr
  | [], x => [x]
  | q :: r, x => if lessB x.1 x.2 q.1 q.2 = true then x :: q :: r else q :: insR r x
/-- the first k in their order -/
def srtR (ls : List Fr) : Nat → List Fr
  | 0 => []
  | k + 1 => insR (srtR ls k) (fr ls k)
theorem insR_len (x : Fr) : ∀ l : List Fr, (insR l x).length = l.length + 1
  | [] => rfl
  | q :: r => by
    unfold insR
    split
    · rfl
    · rw [List.length_cons, insR_len x r, List.length_cons]
theorem srtR_len (ls : List Fr) : ∀ k, (srtR ls k).length = k
  | 0 => rfl
  | k + 1 => by show (insR (srtR ls k) _).length = _; rw [insR_len, srtR_len ls k]
theorem insR_at : ∀ {l : List Fr} {x : Fr} {k : Nat}, k ≤ l.length → (∀ j, j < k → lessB x.1 x.2 (fr l j).1 (fr l j).2 = false) → (k < l.length → lessB x.1 x.2 (fr l k).1 (fr l k).2 = true) → insR l x = l.take k ++ ([x] ++ l.drop k)
  | [], x, k, hk, _, _ => by
    obtain rfl : k = 0 := by simpa using hk
    rfl
  | q :: r, x, 0, _, _, h => by
    have h0 : lessB x.1 x.2 q.1 q.2 = true := h (by simp)
    show (if lessB x.1 x.2 q.1 q.2 = true then x :: q :: r else q :: insR r x) = _
    rw [if_pos h0]; rfl
  | q :: r, x, k + 1, hk, hl, h => by
    have h0 : lessB x.1 x.2 q.1 q.2 = false := hl 0 (by omega)
    show (if lessB x.1 x.2 q.1 q.2 = true then x :: q :: r else q :: insR r x) = _
    rw [if_neg (by rw [h0]; decide), insR_at (l := r) (k := k) (by simpa using hk) (fun j hj => hl (j + 1) (by omega)) (fun hh => h (by simp; exact hh))]
    rfl
theorem hidS {p : Prop} (h : p) : Hid p := h
theorem bS (u : World) (o : Obj) : Below u.heap.size u (u.alloc o) := (Below.refl _ _).alloc (Nat.le_refl _) o
theorem own_noneR (W : World) (base : Nat) (h : base ≤ W.heap.size) : (W.alloc (.cells #[] 27)).ownsRow base 27 2 (.slice (some ⟨W.heap.size, 0, none⟩) 0 0) 0 [] := ⟨rfl, .inr ⟨W.heap.size, 0, #[], rfl, h, World.alloc_heap_new W _, Nat.le_refl _, Nat.zero_le _, rfl, rfl⟩⟩
theorem cell_twoS (w : World) (a b : Value) (t : TypeId) : ∀ j u, [a, b][j]? = some u → (w.alloc (.cells #[a, b] t)).cell? ((⟨w.heap.size, 0, none⟩ : Addr).add j) = some u := by
  intro j u h
  match j, h with
  | 0, h => simp at h; subst h; simp [go_sem, Addr.add]
  | 1, h => simp at h; subst h; simp [go_sem, Addr.add]

set_option maxRecDepth 100000 in
set_option maxHeartbeats 16000000 in
theorem sSorted_any (v : Value) (ls : List Fr) (w : World) (h : RdR w v ls) (hl12 : ls.length ≤ 900) :
    Calls Try.prog 31 #[v] w fun e w' => ∃ u, e = .returned u ∧ w'.ownsRow w.heap.size 27 2 u ls.length (cellsR (srtR ls ls.length)) ∧ Below w.heap.size w w' := by
  obtain ⟨i0, hi, hz0, hz1, hz2⟩ := info_parts infoF
  obtain ⟨a, c0, rfl, h2, h3, h4, h5⟩ := h
  have H5 : Hid (∀ j, j < ls.length → ∃ b off, a = some ⟨b, off, none⟩ ∧ w.cell? ⟨b, off + j * 2, none⟩ = some (.int .i64 (fr ls j).1) ∧ w.cell? ⟨b, off + j * 2 + 1, none⟩ = some (.int .i64 (fr ls j).2)) := h5
  obtain ⟨S, hS⟩ : ∃ S, S = srtR ls := ⟨_, rfl⟩
  have HSS : Hid (∀ k, S (k + 1) = insR (S k) (fr ls k)) := by intro k; rw [hS]; rfl
  have HS0 : Hid (S 0 = []) := by show _ = _; rw [hS]; rfl
  have HSL : Hid (∀ k, (S k).length = k) := by intro k; rw [hS]; exact srtR_len ls k
  obtain ⟨L, hL⟩ : ∃ L, L = ls.length := ⟨_, rfl⟩
  have HL := hidS hL
  rw [← hS, ← hL]
  rw [← hL] at H5 hl12
  clear h5 h4 h3 h2 hL hS
  have o0 := own_noneR w w.heap.size (Nat.le_refl _)
  have hO : Hid ((w.alloc (.cells #[] 27)).ownsRow w.heap.size 27 2 (.slice (some ⟨w.heap.size, 0, none⟩) 0 0) 0 (cellsR (S 0))) := by show World.ownsRow _ _ _ _ _ _ _; rw [HS0.out]; exact o0
  have hB := hidS (bS w (.cells #[] 27))
  clear o0
  go_enter Try.func31, Try.ntmps31
  go_wp2
  go_loopw [3, 4] (fun o i wr => ∃ n : Nat, n ≤ L ∧ i = .int .i64 n ∧ (∃ g c, o = .slice (some ⟨g, 0, none⟩) n c ∧ Hid (wr.ownsRow w.heap.size 27 2 (.slice (some ⟨g, 0, none⟩) n c) n (cellsR (S n)))) ∧ Hid (Below w.heap.size w wr)) (fun _ i _ => L - (intOf i).toNat)
  case atStart => exact ⟨0, Nat.zero_le _, rfl, ⟨_, _, rfl, hO.out⟩, hB.out⟩
  case round =>
    clear hO hB
    obtain ⟨n, hn, rfl, ⟨g, c, rfl, hO⟩, hB⟩ := hrel
    by_cases hlt : n < L
    · obtain ⟨b, off, rfl, A1, A2⟩ := H5.out n hlt
      have hbw : b < w.heap.size := World.block_lt_of_cell? w _ A1
      have HA1 := hidS A1
      have HA2 := hidS A2
      clear A1 A2
      have HRK := hidS (HSS.out n)
      have HLN := hidS (HSL.out n)
      have HLN1 := hidS (HSL.out (n + 1))
      obtain ⟨x, hx⟩ : ∃ x, x = fr ls n := ⟨_, rfl⟩
      rw [← hx] at HA1 HA2 HRK
      clear hx
      obtain ⟨x1, x2⟩ := x
      dsimp only at HA1 HA2
      obtain ⟨l, hl⟩ : ∃ l, l = S n := ⟨_, rfl⟩
      rw [← hl] at hO HRK HLN
      clear hl
      have hgw := (hO.out.lt g rfl).1
      have hnn : n ≤ c ∧ c ≤ maxLen := by
        obtain ⟨g', c', e, _, _, k1, k2⟩ := own_formQ hO.out (by intro e; cases e)
        cases e
        exact ⟨k1, k2⟩
      have hmx := hnn.2
      unfold maxLen at hmx
      go_wp2
      go_loopw [5] (fun i wr => ∃ t : Nat, t ≤ n ∧ i = .int .i64 t ∧ Hid (wr.ownsRow w.heap.size 27 2 (.slice (some ⟨g, 0, none⟩) n c) n (cellsR l)) ∧ Hid (Below w.heap.size w wr) ∧ Hid (∀ j, j < t → lessB x1 x2 (fr l j).1 (fr l j).2 = false)) (fun i _ => n - (intOf i).toNat)
      case atStart => exact ⟨0, Nat.zero_le _, rfl, hO.out, hB.out, fun j hj => absurd hj (Nat.not_lt_zero _)⟩
      case round =>
        clear hO hB
        obtain ⟨t, ht, rfl, hO, hB, hlow⟩ := hrel
        have c1 := cell_keep hB.out HA1.out
        have c2 := cell_keep hB.out HA2.out
        by_cases htl : t < n
        · obtain ⟨e1, e2⟩ := own_R hO.out HLN.out t htl
          obtain ⟨y, hy⟩ : ∃ y, y = fr l t := ⟨_, rfl⟩
          have HY := hidS hy
          rw [show l[t]?.getD (0, 0) = y from hy.symm] at e1 e2
          clear hy
          obtain ⟨y1, y2⟩ := y
          dsimp only at e1 e2
          have HLS := hidS (fun W => sLess_any x1 x2 y1 y2 W)
          obtain ⟨q, hq⟩ : ∃ q, q = lessB x1 x2 y1 y2 := ⟨_, rfl⟩
          have HQ : Hid (lessB x1 x2 (fr l t).1 (fr l t).2 = q) := by show _ = _; rw [← HY.out, hq]
          rw [← hq] at HLS
          clear hq
          have hd : decide ((t : Int) < (n : Int)) = true := decide_eq_true (by omega)
          go_upto_region 6 with fail
          refine wp_region_noPanic ?_
          refine wp_region_held_drew (S := (fun w' => w'.cell? ⟨b, off + n * 2, none⟩ = some (.int .i64 x1) ∧ w'.cell? ⟨b, off + n * 2 + 1, none⟩ = some (.int .i64 x2) ∧ w'.cell? ⟨g, t * 2, none⟩ = some (.int .i64 y1) ∧ w'.cell? ⟨g, t * 2 + 1, none⟩ = some (.int .i64 y2))) (by kernel_rfl) ?_ (fun hHeld => ?_)
          · (try dsimp only)
            refine ⟨?_, ?_, ?_, ?_⟩ <;> (repeat (with_reducible (first | exact c1 | exact c2 | exact e1 | exact e2 | refine cell_dr ?_)))
          have hbd := (Below.refl wr.heap.size wr).drew
          replace hO := hidS (own_below hO.out hbd)
          replace hB := hidS (hB.out.trans (hbd.mono hB.out.size))
          replace c1 := cell_dr c1
          replace c2 := cell_dr c2
          replace e1 := cell_dr e1
          replace e2 := cell_dr e2
          clear hbd
          obtain ⟨wd, hwd⟩ : ∃ u, u = wr.drew := ⟨_, rfl⟩
          rw [← hwd] at hO hB c1 c2 e1 e2 hHeld ⊢
          clear hwd
          refine wpAnyH_take (i := 0) (v := ?_) rfl (by kernel_rfl) (by kernel_rfl) (by kernel_rfl) (fun _ _ _ h => h) (Or.inl ⟨by kernel_rfl, ?_⟩) hHeld ?_
          rotate_left
          · intro wz hSw; (try dsimp only at hSw); go_simp; all_goals (try with_reducible rfl)
          (try simp only [List.getElem_toArray]); (try simp only [List.getElem_cons_succ]); (try simp only [List.getElem_cons_zero]); (try simp only [Act.put]); (try simp only [List.setIfInBounds_toArray]); (try simp only [List.set_cons_succ]); (try simp only [List.set_cons_zero])
          refine wpAnyH_take (i := 1) (v := ?_) rfl (by kernel_rfl) (by kernel_rfl) (by kernel_rfl) (fun _ _ _ h => h) (Or.inl ⟨by kernel_rfl, ?_⟩) hHeld ?_
          rotate_left
          · intro wz hSw; (try dsimp only at hSw); go_simp; all_goals (try with_reducible rfl)
          (try simp only [List.getElem_toArray]); (try simp only [List.getElem_cons_succ]); (try simp only [List.getElem_cons_zero]); (try simp only [Act.put]); (try simp only [List.setIfInBounds_toArray]); (try simp only [List.set_cons_succ]); (try simp only [List.set_cons_zero])
          refine wpAnyH_take (i := 2) (v := ?_) rfl (by kernel_rfl) (by kernel_rfl) (by kernel_rfl) (fun _ _ _ h => h) (Or.inl ⟨by kernel_rfl, ?_⟩) hHeld ?_
          rotate_left
          · intro wz hSw; (try dsimp only at hSw); go_simp; all_goals (try with_reducible rfl)
          (try simp only [List.getElem_toArray]); (try simp only [List.getElem_cons_succ]); (try simp only [List.getElem_cons_zero]); (try simp only [Act.put]); (try simp only [List.setIfInBounds_toArray]); (try simp only [List.set_cons_succ]); (try simp only [List.set_cons_zero])
          refine wpAnyH_take (i := 3) (v := ?_) rfl (by kernel_rfl) (by kernel_rfl) (by kernel_rfl) (fun _ _ _ h => h) (Or.inl ⟨by kernel_rfl, ?_⟩) hHeld ?_
          rotate_left
          · intro wz hSw; (try dsimp only at hSw); go_simp; all_goals (try with_reducible rfl)
          (try simp only [List.getElem_toArray]); (try simp only [List.getElem_cons_succ]); (try simp only [List.getElem_cons_zero]); (try simp only [Act.put]); (try simp only [List.setIfInBounds_toArray]); (try simp only [List.set_cons_succ]); (try simp only [List.set_cons_zero])
          refine wpAnyH_take (i := 4) (v := ?_) rfl (by kernel_rfl) (by kernel_rfl) (by kernel_rfl) (fun _ _ _ h => h) (Or.inl ⟨by kernel_rfl, ?_⟩) hHeld ?_
          rotate_left
          · intro wz hSw; (try dsimp only at hSw); go_simp; all_goals (try with_reducible rfl)
          (try simp only [List.getElem_toArray]); (try simp only [List.getElem_cons_succ]); (try simp only [List.getElem_cons_zero]); (try simp only [Act.put]); (try simp only [List.setIfInBounds_toArray]); (try simp only [List.set_cons_succ]); (try simp only [List.set_cons_zero])
          refine wpAnyH_take (i := 5) (v := ?_) rfl (by kernel_rfl) (by kernel_rfl) (by kernel_rfl) (fun _ _ _ h => h) (Or.inl ⟨by kernel_rfl, ?_⟩) hHeld ?_
          rotate_left
          · intro wz hSw; (try dsimp only at hSw); go_simp; all_goals (try with_reducible rfl)
          (try simp only [List.getElem_toArray]); (try simp only [List.getElem_cons_succ]); (try simp only [List.getElem_cons_zero]); (try simp only [Act.put]); (try simp only [List.setIfInBounds_toArray]); (try simp only [List.set_cons_succ]); (try simp only [List.set_cons_zero])
          refine wpAnyH_take (i := 6) (v := ?_) rfl (by kernel_rfl) (by kernel_rfl) (by kernel_rfl) (fun _ _ _ h => h) (Or.inl ⟨by kernel_rfl, ?_⟩) hHeld ?_
          rotate_left
          · intro wz hSw; (try dsimp only at hSw); go_simp; all_goals (try with_reducible rfl)
          (try simp only [List.getElem_toArray]); (try simp only [List.getElem_cons_succ]); (try simp only [List.getElem_cons_zero]); (try simp only [Act.put]); (try simp only [List.setIfInBounds_toArray]); (try simp only [List.set_cons_succ]); (try simp only [List.set_cons_zero])
          refine wpAnyH_take (i := 7) (v := ?_) rfl (by kernel_rfl) (by kernel_rfl) (by kernel_rfl) (fun _ _ _ h => h) (Or.inl ⟨by kernel_rfl, ?_⟩) hHeld ?_
          rotate_left
          · intro wz hSw; (try dsimp only at hSw); go_simp; all_goals (try with_reducible rfl)
          (try simp only [List.getElem_toArray]); (try simp only [List.getElem_cons_succ]); (try simp only [List.getElem_cons_zero]); (try simp only [Act.put]); (try simp only [List.setIfInBounds_toArray]); (try simp only [List.set_cons_succ]); (try simp only [List.set_cons_zero])
          refine wpAnyH_take (i := 8) (v := ?_) rfl (by kernel_rfl) (by kernel_rfl) (by kernel_rfl) (fun _ _ _ h => h) (Or.inl ⟨by kernel_rfl, ?_⟩) hHeld ?_
          rotate_left
          · intro wz hSw; (try dsimp only at hSw); go_simp; all_goals (try with_reducible rfl)
          (try simp only [List.getElem_toArray]); (try simp only [List.getElem_cons_succ]); (try simp only [List.getElem_cons_zero]); (try simp only [Act.put]); (try simp only [List.setIfInBounds_toArray]); (try simp only [List.set_cons_succ]); (try simp only [List.set_cons_zero])
          refine wpAnyH_take (i := 9) (v := ?_) rfl (by kernel_rfl) (by kernel_rfl) (by kernel_rfl) (fun _ _ _ h => h) (Or.inl ⟨by kernel_rfl, ?_⟩) hHeld ?_
          rotate_left
          · intro wz hSw; (try dsimp only at hSw); go_simp; all_goals (try with_reducible rfl)
          (try simp only [List.getElem_toArray]); (try simp only [List.getElem_cons_succ]); (try simp only [List.getElem_cons_zero]); (try simp only [Act.put]); (try simp only [List.setIfInBounds_toArray]); (try simp only [List.set_cons_succ]); (try simp only [List.set_cons_zero])
          refine wpAnyH_take (i := 10) (v := ?_) rfl (by kernel_rfl) (by kernel_rfl) (by kernel_rfl) (fun _ _ _ h => h) (Or.inl ⟨by kernel_rfl, ?_⟩) hHeld ?_
          rotate_left
          · intro wz hSw; (try dsimp only at hSw); go_simp; all_goals (try with_reducible rfl)
          (try simp only [List.getElem_toArray]); (try simp only [List.getElem_cons_succ]); (try simp only [List.getElem_cons_zero]); (try simp only [Act.put]); (try simp only [List.setIfInBounds_toArray]); (try simp only [List.set_cons_succ]); (try simp only [List.set_cons_zero])
          refine wpAnyH_take (i := 11) (v := ?_) rfl (by kernel_rfl) (by kernel_rfl) (by kernel_rfl) (fun _ _ _ h => h) (Or.inl ⟨by kernel_rfl, ?_⟩) hHeld ?_
          rotate_left
          · intro wz hSw; (try dsimp only at hSw); go_simp; all_goals (try with_reducible rfl)
          (try simp only [List.getElem_toArray]); (try simp only [List.getElem_cons_succ]); (try simp only [List.getElem_cons_zero]); (try simp only [Act.put]); (try simp only [List.setIfInBounds_toArray]); (try simp only [List.set_cons_succ]); (try simp only [List.set_cons_zero])
          refine wpAnyH_take (i := 12) (v := ?_) rfl (by kernel_rfl) (by kernel_rfl) (by kernel_rfl) (fun _ _ _ h => h) (Or.inl ⟨by kernel_rfl, ?_⟩) hHeld ?_
          rotate_left
          · intro wz hSw; (try dsimp only at hSw); go_simp; all_goals (try with_reducible rfl)
          (try simp only [List.getElem_toArray]); (try simp only [List.getElem_cons_succ]); (try simp only [List.getElem_cons_zero]); (try simp only [Act.put]); (try simp only [List.setIfInBounds_toArray]); (try simp only [List.set_cons_succ]); (try simp only [List.set_cons_zero])
          refine wpAnyH_ready (rs := [13]) (by kernel_rfl) (by simp) (AllReadyH.cons rfl (fun Kc hKc => ?_) AllReadyH.nil)
          go_simp
          (go_at_call 37; refine (HLS.out _).mono ?_; rintro e wz ⟨rfl, hb⟩)
          replace hO := hidS (own_below hO.out hb)
          replace hB := hidS (hB.out.trans (hb.mono hB.out.size))
          replace c1 := cell_keep hb c1
          replace c2 := cell_keep hb c2
          replace e1 := cell_keep hb e1
          replace e2 := cell_keep hb e2
          clear hb
          go_wp2_with fail
          refine hKc.out _ _ ?_ (fun hHeld => ?_)
          · (try dsimp only)
            refine ⟨?_, ?_, ?_, ?_⟩ <;> (repeat (with_reducible (first | exact c1 | exact c2 | exact e1 | exact e2 | refine cell_dr ?_)))
          clear hKc Kc
          (try simp only [List.getElem_toArray]); (try simp only [List.getElem_cons_succ]); (try simp only [List.getElem_cons_zero]); (try simp only [Act.put]); (try simp only [List.setIfInBounds_toArray]); (try simp only [List.set_cons_succ]); (try simp only [List.set_cons_zero])
          refine wpAnyH_take (i := 14) (v := ?_) rfl (by kernel_rfl) (by kernel_rfl) (by kernel_rfl) (fun _ _ _ h => h) (Or.inl ⟨by kernel_rfl, ?_⟩) hHeld ?_
          rotate_left
          · intro wz hSw; (try dsimp only at hSw); go_simp; all_goals (try with_reducible rfl)
          (try simp only [List.getElem_toArray]); (try simp only [List.getElem_cons_succ]); (try simp only [List.getElem_cons_zero]); (try simp only [Act.put]); (try simp only [List.setIfInBounds_toArray]); (try simp only [List.set_cons_succ]); (try simp only [List.set_cons_zero])
          refine wpAnyH_take (i := 15) (v := ?_) rfl (by kernel_rfl) (by kernel_rfl) (by kernel_rfl) (fun _ _ _ h => h) (Or.inl ⟨by kernel_rfl, ?_⟩) hHeld ?_
          rotate_left
          · intro wz hSw; (try dsimp only at hSw); go_simp; all_goals (try with_reducible rfl)
          (try simp only [List.getElem_toArray]); (try simp only [List.getElem_cons_succ]); (try simp only [List.getElem_cons_zero]); (try simp only [Act.put]); (try simp only [List.setIfInBounds_toArray]); (try simp only [List.set_cons_succ]); (try simp only [List.set_cons_zero])
          refine wpAnyH_done (by kernel_rfl) ?_ _
          refine NoPanic.normal ?_
          cases q
          · clear e1 e2 c1 c2
            go_wp2
            go_roundw
            case rel =>
              refine ⟨t + 1, by omega, by go_num, hO.out, hB.out, fun j hj => ?_⟩
              by_cases e : j = t
              · subst e; exact HQ.out
              · exact hlow.out j (by omega)
            case measure => simp [intOf]; omega
          · have HPOS : Hid (t < n → lessB x1 x2 (fr l t).1 (fr l t).2 = true) := fun _ => HQ.out
            clear e1 e2
            have htc : t ≤ c := by have := hnn.1; omega
            have hINS : Hid (S (n + 1) = l.take t ++ ([(x1, x2)] ++ l.drop t)) := by show _ = _; rw [HRK.out]; exact insR_at (by rw [HLN.out]; exact ht) hlow.out (fun h => HPOS.out (by rw [HLN.out] at h; exact h))
            have hgz2 : g < wz.heap.size := (hO.out.lt g rfl).2
            have hsz := hB.out.size
            have hW1 := bS wz (.cells #[] 27)
            have E0 : (wz.alloc (.cells #[] 27)).ownsRow w.heap.size 27 2 (.slice (some ⟨wz.heap.size, 0, none⟩) 0 0) 0 [] := own_noneR wz _ hsz
            have O1 := hidS (own_below hO.out hW1)
            have B1 := hidS (hB.out.trans (hW1.mono hsz))
            have T1 := hidS (own_tailQ O1.out t)
            have hlen1 : (cellsR (l.drop t)).length = (n - t) * 2 := by rw [cellsR_len, List.length_drop, HLN.out]
            have htnI : (t : Int) ≤ (n : Int) := by omega
            go_wp2_with (at_builtin; refine wpList_append_own_at _ rfl _ _ 24 rfl w.heap.size 27 i0 (.agg #[.int .i64 0, .int .i64 0]) 2 16 Try.underlying24 hi hz0 hz1 hz2 rfl (by decide) _ 0 [] rfl E0 ⟨g, t * 2, none⟩ (n - t) (c - t) (cellsR (l.drop t)) (by first | rfl | (simp [Act.eval]; done) | (simp [Act.eval]; omega)) hlen1 T1.out (cellsR_oneQ _) (by unfold maxLen; omega) (by omega) B1.out.size ?_; intro vr w2 hownr hgrr hnilr hlocr)
            rw [Nat.zero_add, List.nil_append] at hownr
            obtain ⟨gr, cr, rfl, hgr1, hgr2, -, -⟩ := own_formQ hownr (by intro e; exact absurd (hnilr.1 e).1 (by intro e2; cases e2))
            have hgr3 : wz.heap.size ≤ gr := by
              rcases hlocr with e | e
              · have e' : some gr = some wz.heap.size := e
                injection e' with e'; omega
              · have e' : some gr = some (wz.alloc (.cells #[] 27)).heap.size := e
                injection e' with e'
                have := hW1.size
                omega
            have R2 := hidS hownr
            have O2 := hidS (O1.out.kept hgrr (.inr (by show some g ≠ some wz.heap.size; simp; omega)))
            have B2 := hidS (B1.out.grown hgrr B1.out.size (fun j e => by cases e; exact hsz))
            clear hownr hgrr hnilr hlocr O1 B1 T1 E0 hW1 hO hB
            replace c1 := cell_keep B2.out HA1.out
            replace c2 := cell_keep B2.out HA2.out
            go_upto_region 9 with fail
            refine wp_region_noPanic ?_
            refine wp_region_held_drew (S := (fun w' => w'.cell? ⟨b, off + n * 2, none⟩ = some (.int .i64 x1) ∧ w'.cell? ⟨b, off + n * 2 + 1, none⟩ = some (.int .i64 x2))) (by kernel_rfl) ?_ (fun hHeld => ?_)
            · (try dsimp only)
              refine ⟨?_, ?_⟩ <;> (repeat (with_reducible (first | exact c1 | exact c2 | refine cell_dr ?_)))
            have hb : Below w2.heap.size w2 w2.drew := (Below.refl _ _).drew
            replace R2 := hidS (own_below R2.out hb)
            replace O2 := hidS (own_below O2.out hb)
            replace B2 := hidS (B2.out.trans (hb.mono B2.out.size))
            replace c1 := cell_dr c1
            replace c2 := cell_dr c2
            clear hb
            obtain ⟨wd2, hwd2⟩ : ∃ u, u = w2.drew := ⟨_, rfl⟩
            rw [← hwd2] at R2 O2 B2 c1 c2 hHeld ⊢
            clear hwd2
            refine wpAnyH_take (i := 0) (v := ?_) rfl (by kernel_rfl) (by kernel_rfl) (by kernel_rfl) (fun _ _ _ h => h) (Or.inl ⟨by kernel_rfl, ?_⟩) hHeld ?_
            rotate_left
            · intro wz hSw; (try dsimp only at hSw); go_simp; all_goals (try with_reducible rfl)
            (try simp only [List.getElem_toArray]); (try simp only [List.getElem_cons_succ]); (try simp only [List.getElem_cons_zero]); (try simp only [Act.put]); (try simp only [List.setIfInBounds_toArray]); (try simp only [List.set_cons_succ]); (try simp only [List.set_cons_zero])
            refine wpAnyH_take (i := 1) (v := ?_) rfl (by kernel_rfl) (by kernel_rfl) (by kernel_rfl) (fun _ _ _ h => h) (Or.inl ⟨by kernel_rfl, ?_⟩) hHeld ?_
            rotate_left
            · intro wz hSw; (try dsimp only at hSw); go_simp; all_goals (try with_reducible rfl)
            (try simp only [List.getElem_toArray]); (try simp only [List.getElem_cons_succ]); (try simp only [List.getElem_cons_zero]); (try simp only [Act.put]); (try simp only [List.setIfInBounds_toArray]); (try simp only [List.set_cons_succ]); (try simp only [List.set_cons_zero])
            refine wpAnyH_take (i := 2) (v := ?_) rfl (by kernel_rfl) (by kernel_rfl) (by kernel_rfl) (fun _ _ _ h => h) (Or.inl ⟨by kernel_rfl, ?_⟩) hHeld ?_
            rotate_left
            · intro wz hSw; (try dsimp only at hSw); go_simp; all_goals (try with_reducible rfl)
            (try simp only [List.getElem_toArray]); (try simp only [List.getElem_cons_succ]); (try simp only [List.getElem_cons_zero]); (try simp only [Act.put]); (try simp only [List.setIfInBounds_toArray]); (try simp only [List.set_cons_succ]); (try simp only [List.set_cons_zero])
            refine wpAnyH_take (i := 3) (v := ?_) rfl (by kernel_rfl) (by kernel_rfl) (by kernel_rfl) (fun _ _ _ h => h) (Or.inl ⟨by kernel_rfl, ?_⟩) hHeld ?_
            rotate_left
            · intro wz hSw; (try dsimp only at hSw); go_simp; all_goals (try with_reducible rfl)
            (try simp only [List.getElem_toArray]); (try simp only [List.getElem_cons_succ]); (try simp only [List.getElem_cons_zero]); (try simp only [Act.put]); (try simp only [List.setIfInBounds_toArray]); (try simp only [List.set_cons_succ]); (try simp only [List.set_cons_zero])
            refine wpAnyH_take (i := 4) (v := ?_) rfl (by kernel_rfl) (by kernel_rfl) (by kernel_rfl) (fun _ _ _ h => h) (Or.inl ⟨by kernel_rfl, ?_⟩) hHeld ?_
            rotate_left
            · intro wz hSw; (try dsimp only at hSw); go_simp; all_goals (try with_reducible rfl)
            (try simp only [List.getElem_toArray]); (try simp only [List.getElem_cons_succ]); (try simp only [List.getElem_cons_zero]); (try simp only [Act.put]); (try simp only [List.setIfInBounds_toArray]); (try simp only [List.set_cons_succ]); (try simp only [List.set_cons_zero])
            refine wpAnyH_take (i := 5) (v := ?_) rfl (by kernel_rfl) (by kernel_rfl) (by kernel_rfl) (fun _ _ _ h => h) (Or.inl ⟨by kernel_rfl, ?_⟩) hHeld ?_
            rotate_left
            · intro wz hSw; (try dsimp only at hSw); go_simp; all_goals (try with_reducible rfl)
            (try simp only [List.getElem_toArray]); (try simp only [List.getElem_cons_succ]); (try simp only [List.getElem_cons_zero]); (try simp only [Act.put]); (try simp only [List.setIfInBounds_toArray]); (try simp only [List.set_cons_succ]); (try simp only [List.set_cons_zero])
            refine wpAnyH_take (i := 6) (v := ?_) rfl (by kernel_rfl) (by kernel_rfl) (by kernel_rfl) (fun _ _ _ h => h) (Or.inl ⟨by kernel_rfl, ?_⟩) hHeld ?_
            rotate_left
            · intro wz hSw; (try dsimp only at hSw); go_simp; all_goals (try with_reducible rfl)
            (try simp only [List.getElem_toArray]); (try simp only [List.getElem_cons_succ]); (try simp only [List.getElem_cons_zero]); (try simp only [Act.put]); (try simp only [List.setIfInBounds_toArray]); (try simp only [List.set_cons_succ]); (try simp only [List.set_cons_zero])
            refine wpAnyH_take (i := 9) (v := ?_) rfl (by kernel_rfl) (by kernel_rfl) (by kernel_rfl) (fun _ _ _ h => h) (Or.inl ⟨by kernel_rfl, ?_⟩) hHeld ?_
            rotate_left
            · intro wz hSw; (try dsimp only at hSw); go_simp; all_goals (try with_reducible rfl)
            (try simp only [List.getElem_toArray]); (try simp only [List.getElem_cons_succ]); (try simp only [List.getElem_cons_zero]); (try simp only [Act.put]); (try simp only [List.setIfInBounds_toArray]); (try simp only [List.set_cons_succ]); (try simp only [List.set_cons_zero])
            refine wpAnyH_ready (rs := [7]) (by kernel_rfl) (by simp) (AllReadyH.cons rfl (fun Kc hKc => ?_) AllReadyH.nil)
            go_simp
            have hW1 := bS wd2 (.cells #[.int .i64 x1, .int .i64 x2] 27)
            have R3 := hidS (own_below R2.out hW1)
            have O3 := hidS (own_below O2.out hW1)
            have B3 := hidS (B2.out.trans (hW1.mono B2.out.size))
            replace c1 := cell_keep hW1 c1
            replace c2 := cell_keep hW1 c2
            clear hW1 R2 O2 B2
            refine hKc.out _ _ ?_ (fun hHeld => ?_)
            · (try dsimp only)
              refine ⟨?_, ?_⟩ <;> (repeat (with_reducible (first | exact c1 | exact c2 | refine cell_dr ?_)))
            clear hKc Kc
            (try simp only [List.getElem_toArray]); (try simp only [List.getElem_cons_succ]); (try simp only [List.getElem_cons_zero]); (try simp only [Act.put]); (try simp only [List.setIfInBounds_toArray]); (try simp only [List.set_cons_succ]); (try simp only [List.set_cons_zero])
            have C3 := hidS (cell_twoS wd2 (.int .i64 x1) (.int .i64 x2) 27)
            have hg3 : g < wd2.heap.size + 1 := by have := (O3.out.lt g rfl).2; simpa using this
            refine wpAnyH_ready (rs := [8]) (by kernel_rfl) (by simp) (AllReadyH.cons rfl (fun Kc hKc => ?_) AllReadyH.nil)
            refine step_app_rt rfl (.tmp 39) (.tmp 44) 24 rfl w.heap.size 27 i0 (.agg #[.int .i64 0, .int .i64 0]) 2 16 Try.underlying24 hi hz0 hz1 hz2 rfl (by decide) (.slice (some ⟨g, 0, none⟩) t c) t (cellsR (l.take t)) (by simp [Act.eval]) (own_cutQ O3.out t ht) ⟨wd2.heap.size, 0, none⟩ 1 1 [.int .i64 x1, .int .i64 x2] (by simp [Act.eval]) rfl C3.out (by intro u hu; simp at hu; rcases hu with rfl | rfl <;> rfl) (by unfold maxLen; omega) (by omega) B3.out.size ?_
            intro v5 w5 hown5 hg5 hloc5
            have R5 := hidS (R3.out.kept hg5 (.inr (by show some gr ≠ some g; simp; omega)))
            have B5 := hidS (B3.out.grown hg5 B3.out.size (fun j e => by cases e; exact hgw))
            have O5 := hidS hown5
            have hl6 : ∀ j, v5.ownBlock = some j → w.heap.size ≤ j := fun j e => (hown5.lt j e).1
            replace c1 := cell_keep B5.out HA1.out
            replace c2 := cell_keep B5.out HA2.out
            clear hown5 hg5 hloc5 R3 O3 B3 C3
            refine hKc.out _ _ ?_ (fun hHeld => ?_)
            · (try dsimp only)
              refine ⟨?_, ?_⟩ <;> (repeat (with_reducible (first | exact c1 | exact c2 | refine cell_dr ?_)))
            clear hKc Kc
            (try simp only [List.getElem_toArray]); (try simp only [List.getElem_cons_succ]); (try simp only [List.getElem_cons_zero]); (try simp only [Act.put]); (try simp only [List.setIfInBounds_toArray]); (try simp only [List.set_cons_succ]); (try simp only [List.set_cons_zero])
            refine wpAnyH_ready (rs := [10]) (by kernel_rfl) (by simp) (AllReadyH.cons rfl (fun Kc hKc => ?_) AllReadyH.nil)
            refine step_app_rt rfl (.tmp 45) (.tmp 46) 24 rfl w.heap.size 27 i0 (.agg #[.int .i64 0, .int .i64 0]) 2 16 Try.underlying24 hi hz0 hz1 hz2 rfl (by decide) v5 (t + 1) _ (by simp [Act.eval]) O5.out ⟨gr, 0, none⟩ (n - t) cr (cellsR (l.drop t)) (by first | (simp [Act.eval]; done) | (simp [Act.eval]; omega)) hlen1 (R5.out.cells rfl) (cellsR_oneQ _) (by unfold maxLen; omega) (by omega) B5.out.size ?_
            intro v7 w7 hown7 hg7 hloc7
            have B7 := hidS (B5.out.grown hg7 B5.out.size hl6)
            have hsum : t + 1 + (n - t) = n + 1 := by omega
            rw [hsum] at hown7
            obtain ⟨g7, c7, rfl⟩ := own_some hown7 (by omega)
            have O7 : Hid (w7.ownsRow w.heap.size 27 2 (.slice (some ⟨g7, 0, none⟩) (n + 1) c7) (n + 1) (cellsR (S (n + 1)))) := by
              show World.ownsRow _ _ _ _ _ _ _
              rw [hINS.out, cellsR_append, cellsR_append, ← List.append_assoc]
              exact hown7
            replace c1 := cell_keep B7.out HA1.out
            replace c2 := cell_keep B7.out HA2.out
            clear hown7 hg7 hloc7 hsum
            refine hKc.out _ _ ?_ (fun hHeld => ?_)
            · (try dsimp only)
              refine ⟨?_, ?_⟩ <;> (repeat (with_reducible (first | exact c1 | exact c2 | refine cell_dr ?_)))
            clear hKc Kc
            (try simp only [List.getElem_toArray]); (try simp only [List.getElem_cons_succ]); (try simp only [List.getElem_cons_zero]); (try simp only [Act.put]); (try simp only [List.setIfInBounds_toArray]); (try simp only [List.set_cons_succ]); (try simp only [List.set_cons_zero])
            refine wpAnyH_take (i := 11) (v := ?_) rfl (by kernel_rfl) (by kernel_rfl) (by kernel_rfl) (fun _ _ _ h => h) (Or.inl ⟨by kernel_rfl, ?_⟩) hHeld ?_
            rotate_left
            · intro wz hSw; (try dsimp only at hSw); go_simp; all_goals (try with_reducible rfl)
            (try simp only [List.getElem_toArray]); (try simp only [List.getElem_cons_succ]); (try simp only [List.getElem_cons_zero]); (try simp only [Act.put]); (try simp only [List.setIfInBounds_toArray]); (try simp only [List.set_cons_succ]); (try simp only [List.set_cons_zero])
            refine wpAnyH_done (by kernel_rfl) ?_ _
            refine NoPanic.normal ?_
            clear hHeld
            go_wp2
            go_roundw
            case rel => exact ⟨n + 1, by omega, by go_num, ⟨g7, c7, rfl, O7.out⟩, B7.out⟩
            case measure => simp [intOf]; omega
        · obtain rfl : t = n := by omega
          have hd : decide ((t : Int) < (t : Int)) = false := decide_eq_false (by omega)
          have HPOS : Hid (t < t → lessB x1 x2 (fr l t).1 (fr l t).2 = true) := fun h => absurd h (Nat.lt_irrefl _)
          go_upto_region 6 with fail
          refine wp_region_noPanic ?_
          refine wp_region_held_drew (S := (fun w' => w'.cell? ⟨b, off + t * 2, none⟩ = some (.int .i64 x1) ∧ w'.cell? ⟨b, off + t * 2 + 1, none⟩ = some (.int .i64 x2))) (by kernel_rfl) ?_ (fun hHeld => ?_)
          · (try dsimp only)
            refine ⟨?_, ?_⟩ <;> (repeat (with_reducible (first | exact c1 | exact c2 | refine cell_dr ?_)))
          have hbd := (Below.refl wr.heap.size wr).drew
          replace hO := hidS (own_below hO.out hbd)
          replace hB := hidS (hB.out.trans (hbd.mono hB.out.size))
          replace c1 := cell_dr c1
          replace c2 := cell_dr c2
          clear hbd
          obtain ⟨wd, hwd⟩ : ∃ u, u = wr.drew := ⟨_, rfl⟩
          rw [← hwd] at hO hB c1 c2 hHeld ⊢
          clear hwd
          refine wpAnyH_take (i := 0) (v := ?_) rfl (by kernel_rfl) (by kernel_rfl) (by kernel_rfl) (fun _ _ _ h => h) (Or.inl ⟨by kernel_rfl, ?_⟩) hHeld ?_
          rotate_left
          · intro wz hSw; (try dsimp only at hSw); go_simp; all_goals (try with_reducible rfl)
          (try simp only [List.getElem_toArray]); (try simp only [List.getElem_cons_succ]); (try simp only [List.getElem_cons_zero]); (try simp only [Act.put]); (try simp only [List.setIfInBounds_toArray]); (try simp only [List.set_cons_succ]); (try simp only [List.set_cons_zero])
          refine wpAnyH_take (i := 1) (v := ?_) rfl (by kernel_rfl) (by kernel_rfl) (by kernel_rfl) (fun _ _ _ h => h) (Or.inl ⟨by kernel_rfl, ?_⟩) hHeld ?_
          rotate_left
          · intro wz hSw; (try dsimp only at hSw); go_simp; all_goals (try with_reducible rfl)
          (try simp only [List.getElem_toArray]); (try simp only [List.getElem_cons_succ]); (try simp only [List.getElem_cons_zero]); (try simp only [Act.put]); (try simp only [List.setIfInBounds_toArray]); (try simp only [List.set_cons_succ]); (try simp only [List.set_cons_zero])
          refine wpAnyH_take (i := 2) (v := ?_) rfl (by kernel_rfl) (by kernel_rfl) (by kernel_rfl) (fun _ _ _ h => h) (Or.inl ⟨by kernel_rfl, ?_⟩) hHeld ?_
          rotate_left
          · intro wz hSw; (try dsimp only at hSw); go_simp; all_goals (try with_reducible rfl)
          (try simp only [List.getElem_toArray]); (try simp only [List.getElem_cons_succ]); (try simp only [List.getElem_cons_zero]); (try simp only [Act.put]); (try simp only [List.setIfInBounds_toArray]); (try simp only [List.set_cons_succ]); (try simp only [List.set_cons_zero])
          refine wpAnyH_take (i := 3) (v := ?_) rfl (by kernel_rfl) (by kernel_rfl) (by kernel_rfl) (fun _ _ _ h => h) (Or.inl ⟨by kernel_rfl, ?_⟩) hHeld ?_
          rotate_left
          · intro wz hSw; (try dsimp only at hSw); go_simp; all_goals (try with_reducible rfl)
          (try simp only [List.getElem_toArray]); (try simp only [List.getElem_cons_succ]); (try simp only [List.getElem_cons_zero]); (try simp only [Act.put]); (try simp only [List.setIfInBounds_toArray]); (try simp only [List.set_cons_succ]); (try simp only [List.set_cons_zero])
          refine wpAnyH_take (i := 4) (v := ?_) rfl (by kernel_rfl) (by kernel_rfl) (by kernel_rfl) (fun _ _ _ h => h) (Or.inl ⟨by kernel_rfl, ?_⟩) hHeld ?_
          rotate_left
          · intro wz hSw; (try dsimp only at hSw); go_simp; all_goals (try with_reducible rfl)
          (try simp only [List.getElem_toArray]); (try simp only [List.getElem_cons_succ]); (try simp only [List.getElem_cons_zero]); (try simp only [Act.put]); (try simp only [List.setIfInBounds_toArray]); (try simp only [List.set_cons_succ]); (try simp only [List.set_cons_zero])
          refine wpAnyH_take (i := 5) (v := undef) rfl (by kernel_rfl) (by kernel_rfl) (by kernel_rfl) (fun _ _ _ h => h) (Or.inr ⟨by kernel_rfl, rfl⟩) hHeld ?_
          (try simp only [List.getElem_toArray]); (try simp only [List.getElem_cons_succ]); (try simp only [List.getElem_cons_zero]); (try simp only [Act.put]); (try simp only [List.setIfInBounds_toArray]); (try simp only [List.set_cons_succ]); (try simp only [List.set_cons_zero])
          refine wpAnyH_take (i := 6) (v := undef) rfl (by kernel_rfl) (by kernel_rfl) (by kernel_rfl) (fun _ _ _ h => h) (Or.inr ⟨by kernel_rfl, rfl⟩) hHeld ?_
          (try simp only [List.getElem_toArray]); (try simp only [List.getElem_cons_succ]); (try simp only [List.getElem_cons_zero]); (try simp only [Act.put]); (try simp only [List.setIfInBounds_toArray]); (try simp only [List.set_cons_succ]); (try simp only [List.set_cons_zero])
          refine wpAnyH_take (i := 7) (v := undef) rfl (by kernel_rfl) (by kernel_rfl) (by kernel_rfl) (fun _ _ _ h => h) (Or.inr ⟨by kernel_rfl, rfl⟩) hHeld ?_
          (try simp only [List.getElem_toArray]); (try simp only [List.getElem_cons_succ]); (try simp only [List.getElem_cons_zero]); (try simp only [Act.put]); (try simp only [List.setIfInBounds_toArray]); (try simp only [List.set_cons_succ]); (try simp only [List.set_cons_zero])
          refine wpAnyH_take (i := 8) (v := undef) rfl (by kernel_rfl) (by kernel_rfl) (by kernel_rfl) (fun _ _ _ h => h) (Or.inr ⟨by kernel_rfl, rfl⟩) hHeld ?_
          (try simp only [List.getElem_toArray]); (try simp only [List.getElem_cons_succ]); (try simp only [List.getElem_cons_zero]); (try simp only [Act.put]); (try simp only [List.setIfInBounds_toArray]); (try simp only [List.set_cons_succ]); (try simp only [List.set_cons_zero])
          refine wpAnyH_take (i := 9) (v := undef) rfl (by kernel_rfl) (by kernel_rfl) (by kernel_rfl) (fun _ _ _ h => h) (Or.inr ⟨by kernel_rfl, rfl⟩) hHeld ?_
          (try simp only [List.getElem_toArray]); (try simp only [List.getElem_cons_succ]); (try simp only [List.getElem_cons_zero]); (try simp only [Act.put]); (try simp only [List.setIfInBounds_toArray]); (try simp only [List.set_cons_succ]); (try simp only [List.set_cons_zero])
          refine wpAnyH_take (i := 10) (v := undef) rfl (by kernel_rfl) (by kernel_rfl) (by kernel_rfl) (fun _ _ _ h => h) (Or.inr ⟨by kernel_rfl, rfl⟩) hHeld ?_
          (try simp only [List.getElem_toArray]); (try simp only [List.getElem_cons_succ]); (try simp only [List.getElem_cons_zero]); (try simp only [Act.put]); (try simp only [List.setIfInBounds_toArray]); (try simp only [List.set_cons_succ]); (try simp only [List.set_cons_zero])
          refine wpAnyH_take (i := 11) (v := undef) rfl (by kernel_rfl) (by kernel_rfl) (by kernel_rfl) (fun _ _ _ h => h) (Or.inr ⟨by kernel_rfl, rfl⟩) hHeld ?_
          (try simp only [List.getElem_toArray]); (try simp only [List.getElem_cons_succ]); (try simp only [List.getElem_cons_zero]); (try simp only [Act.put]); (try simp only [List.setIfInBounds_toArray]); (try simp only [List.set_cons_succ]); (try simp only [List.set_cons_zero])
          refine wpAnyH_take (i := 12) (v := undef) rfl (by kernel_rfl) (by kernel_rfl) (by kernel_rfl) (fun _ _ _ h => h) (Or.inr ⟨by kernel_rfl, rfl⟩) hHeld ?_
          (try simp only [List.getElem_toArray]); (try simp only [List.getElem_cons_succ]); (try simp only [List.getElem_cons_zero]); (try simp only [Act.put]); (try simp only [List.setIfInBounds_toArray]); (try simp only [List.set_cons_succ]); (try simp only [List.set_cons_zero])
          refine wpAnyH_take (i := 13) (v := undef) rfl (by kernel_rfl) (by kernel_rfl) (by kernel_rfl) (fun _ _ _ h => h) (Or.inr ⟨by kernel_rfl, rfl⟩) hHeld ?_
          (try simp only [List.getElem_toArray]); (try simp only [List.getElem_cons_succ]); (try simp only [List.getElem_cons_zero]); (try simp only [Act.put]); (try simp only [List.setIfInBounds_toArray]); (try simp only [List.set_cons_succ]); (try simp only [List.set_cons_zero])
          refine wpAnyH_take (i := 14) (v := undef) rfl (by kernel_rfl) (by kernel_rfl) (by kernel_rfl) (fun _ _ _ h => h) (Or.inr ⟨by kernel_rfl, rfl⟩) hHeld ?_
          (try simp only [List.getElem_toArray]); (try simp only [List.getElem_cons_succ]); (try simp only [List.getElem_cons_zero]); (try simp only [Act.put]); (try simp only [List.setIfInBounds_toArray]); (try simp only [List.set_cons_succ]); (try simp only [List.set_cons_zero])
          refine wpAnyH_take (i := 15) (v := ?_) rfl (by kernel_rfl) (by kernel_rfl) (by kernel_rfl) (fun _ _ _ h => h) (Or.inl ⟨by kernel_rfl, ?_⟩) hHeld ?_
          rotate_left
          · intro wz hSw; (try dsimp only at hSw); go_simp; all_goals (try with_reducible rfl)
          (try simp only [List.getElem_toArray]); (try simp only [List.getElem_cons_succ]); (try simp only [List.getElem_cons_zero]); (try simp only [Act.put]); (try simp only [List.setIfInBounds_toArray]); (try simp only [List.set_cons_succ]); (try simp only [List.set_cons_zero])
          refine wpAnyH_done (by kernel_rfl) ?_ _
          refine NoPanic.normal ?_
          obtain ⟨wz, hwz⟩ : ∃ u, u = wd := ⟨_, rfl⟩
          rw [← hwz] at hO hB c1 c2 ⊢
          clear hwz hHeld
          by_cases hct : c = t
          · have hct2 := hct.symm
            clear hct
            subst hct2
            have htc : t ≤ t := Nat.le_refl _
            have hINS : Hid (S (t + 1) = l.take t ++ ([(x1, x2)] ++ l.drop t)) := by show _ = _; rw [HRK.out]; exact insR_at (by rw [HLN.out]; exact ht) hlow.out (fun h => HPOS.out (by rw [HLN.out] at h; exact h))
            have hgz2 : g < wz.heap.size := (hO.out.lt g rfl).2
            have hsz := hB.out.size
            have hW1 := bS wz (.cells #[] 27)
            have E0 : (wz.alloc (.cells #[] 27)).ownsRow w.heap.size 27 2 (.slice (some ⟨wz.heap.size, 0, none⟩) 0 0) 0 [] := own_noneR wz _ hsz
            have O1 := hidS (own_below hO.out hW1)
            have B1 := hidS (hB.out.trans (hW1.mono hsz))
            have T1 : Hid (∀ j u, (cellsR (l.drop t))[j]? = some u → (wz.alloc (.cells #[] 27)).cell? ((⟨g, 0, none⟩ : Addr).add j) = some u) := by
              intro j u hu
              rw [List.drop_eq_nil_of_le (by rw [HLN.out]; exact Nat.le_refl _)] at hu
              simp [cellsR] at hu
            have hlen1 : (cellsR (l.drop t)).length = (t - t) * 2 := by rw [cellsR_len, List.length_drop, HLN.out]
            have htnI : (t : Int) ≤ (t : Int) := by omega
            go_wp2_with (at_builtin; refine wpList_append_own_at _ rfl _ _ 24 rfl w.heap.size 27 i0 (.agg #[.int .i64 0, .int .i64 0]) 2 16 Try.underlying24 hi hz0 hz1 hz2 rfl (by decide) _ 0 [] rfl E0 ⟨g, 0, none⟩ (t - t) (t - t) (cellsR (l.drop t)) (by first | rfl | (simp [Act.eval]; done) | (simp [Act.eval]; omega)) hlen1 T1.out (cellsR_oneQ _) (by unfold maxLen; omega) (by omega) B1.out.size ?_; intro vr w2 hownr hgrr hnilr hlocr)
            rw [Nat.zero_add, List.nil_append] at hownr
            obtain ⟨gr, cr, rfl, hgr1, hgr2, -, -⟩ := own_formQ hownr (by intro e; exact absurd (hnilr.1 e).1 (by intro e2; cases e2))
            have hgr3 : wz.heap.size ≤ gr := by
              rcases hlocr with e | e
              · have e' : some gr = some wz.heap.size := e
                injection e' with e'; omega
              · have e' : some gr = some (wz.alloc (.cells #[] 27)).heap.size := e
                injection e' with e'
                have := hW1.size
                omega
            have R2 := hidS hownr
            have O2 := hidS (O1.out.kept hgrr (.inr (by show some g ≠ some wz.heap.size; simp; omega)))
            have B2 := hidS (B1.out.grown hgrr B1.out.size (fun j e => by cases e; exact hsz))
            clear hownr hgrr hnilr hlocr O1 B1 T1 E0 hW1 hO hB
            replace c1 := cell_keep B2.out HA1.out
            replace c2 := cell_keep B2.out HA2.out
            go_upto_region 9 with fail
            refine wp_region_noPanic ?_
            refine wp_region_held_drew (S := (fun w' => w'.cell? ⟨b, off + t * 2, none⟩ = some (.int .i64 x1) ∧ w'.cell? ⟨b, off + t * 2 + 1, none⟩ = some (.int .i64 x2))) (by kernel_rfl) ?_ (fun hHeld => ?_)
            · (try dsimp only)
              refine ⟨?_, ?_⟩ <;> (repeat (with_reducible (first | exact c1 | exact c2 | refine cell_dr ?_)))
            have hb : Below w2.heap.size w2 w2.drew := (Below.refl _ _).drew
            replace R2 := hidS (own_below R2.out hb)
            replace O2 := hidS (own_below O2.out hb)
            replace B2 := hidS (B2.out.trans (hb.mono B2.out.size))
            replace c1 := cell_dr c1
            replace c2 := cell_dr c2
            clear hb
            obtain ⟨wd2, hwd2⟩ : ∃ u, u = w2.drew := ⟨_, rfl⟩
            rw [← hwd2] at R2 O2 B2 c1 c2 hHeld ⊢
            clear hwd2
            refine wpAnyH_take (i := 0) (v := ?_) rfl (by kernel_rfl) (by kernel_rfl) (by kernel_rfl) (fun _ _ _ h => h) (Or.inl ⟨by kernel_rfl, ?_⟩) hHeld ?_
            rotate_left
            · intro wz hSw; (try dsimp only at hSw); go_simp; all_goals (try with_reducible rfl)
            (try simp only [List.getElem_toArray]); (try simp only [List.getElem_cons_succ]); (try simp only [List.getElem_cons_zero]); (try simp only [Act.put]); (try simp only [List.setIfInBounds_toArray]); (try simp only [List.set_cons_succ]); (try simp only [List.set_cons_zero])
            refine wpAnyH_take (i := 1) (v := ?_) rfl (by kernel_rfl) (by kernel_rfl) (by kernel_rfl) (fun _ _ _ h => h) (Or.inl ⟨by kernel_rfl, ?_⟩) hHeld ?_
            rotate_left
            · intro wz hSw; (try dsimp only at hSw); go_simp; all_goals (try with_reducible rfl)
            (try simp only [List.getElem_toArray]); (try simp only [List.getElem_cons_succ]); (try simp only [List.getElem_cons_zero]); (try simp only [Act.put]); (try simp only [List.setIfInBounds_toArray]); (try simp only [List.set_cons_succ]); (try simp only [List.set_cons_zero])
            refine wpAnyH_take (i := 2) (v := ?_) rfl (by kernel_rfl) (by kernel_rfl) (by kernel_rfl) (fun _ _ _ h => h) (Or.inl ⟨by kernel_rfl, ?_⟩) hHeld ?_
            rotate_left
            · intro wz hSw; (try dsimp only at hSw); go_simp; all_goals (try with_reducible rfl)
            (try simp only [List.getElem_toArray]); (try simp only [List.getElem_cons_succ]); (try simp only [List.getElem_cons_zero]); (try simp only [Act.put]); (try simp only [List.setIfInBounds_toArray]); (try simp only [List.set_cons_succ]); (try simp only [List.set_cons_zero])
            refine wpAnyH_take (i := 3) (v := ?_) rfl (by kernel_rfl) (by kernel_rfl) (by kernel_rfl) (fun _ _ _ h => h) (Or.inl ⟨by kernel_rfl, ?_⟩) hHeld ?_
            rotate_left
            · intro wz hSw; (try dsimp only at hSw); go_simp; all_goals (try with_reducible rfl)
            (try simp only [List.getElem_toArray]); (try simp only [List.getElem_cons_succ]); (try simp only [List.getElem_cons_zero]); (try simp only [Act.put]); (try simp only [List.setIfInBounds_toArray]); (try simp only [List.set_cons_succ]); (try simp only [List.set_cons_zero])
            refine wpAnyH_take (i := 4) (v := ?_) rfl (by kernel_rfl) (by kernel_rfl) (by kernel_rfl) (fun _ _ _ h => h) (Or.inl ⟨by kernel_rfl, ?_⟩) hHeld ?_
            rotate_left
            · intro wz hSw; (try dsimp only at hSw); go_simp; all_goals (try with_reducible rfl)
            (try simp only [List.getElem_toArray]); (try simp only [List.getElem_cons_succ]); (try simp only [List.getElem_cons_zero]); (try simp only [Act.put]); (try simp only [List.setIfInBounds_toArray]); (try simp only [List.set_cons_succ]); (try simp only [List.set_cons_zero])
            refine wpAnyH_take (i := 5) (v := ?_) rfl (by kernel_rfl) (by kernel_rfl) (by kernel_rfl) (fun _ _ _ h => h) (Or.inl ⟨by kernel_rfl, ?_⟩) hHeld ?_
            rotate_left
            · intro wz hSw; (try dsimp only at hSw); go_simp; all_goals (try with_reducible rfl)
            (try simp only [List.getElem_toArray]); (try simp only [List.getElem_cons_succ]); (try simp only [List.getElem_cons_zero]); (try simp only [Act.put]); (try simp only [List.setIfInBounds_toArray]); (try simp only [List.set_cons_succ]); (try simp only [List.set_cons_zero])
            refine wpAnyH_take (i := 6) (v := ?_) rfl (by kernel_rfl) (by kernel_rfl) (by kernel_rfl) (fun _ _ _ h => h) (Or.inl ⟨by kernel_rfl, ?_⟩) hHeld ?_
            rotate_left
            · intro wz hSw; (try dsimp only at hSw); go_simp; all_goals (try with_reducible rfl)
            (try simp only [List.getElem_toArray]); (try simp only [List.getElem_cons_succ]); (try simp only [List.getElem_cons_zero]); (try simp only [Act.put]); (try simp only [List.setIfInBounds_toArray]); (try simp only [List.set_cons_succ]); (try simp only [List.set_cons_zero])
            refine wpAnyH_take (i := 9) (v := ?_) rfl (by kernel_rfl) (by kernel_rfl) (by kernel_rfl) (fun _ _ _ h => h) (Or.inl ⟨by kernel_rfl, ?_⟩) hHeld ?_
            rotate_left
            · intro wz hSw; (try dsimp only at hSw); go_simp; all_goals (try with_reducible rfl)
            (try simp only [List.getElem_toArray]); (try simp only [List.getElem_cons_succ]); (try simp only [List.getElem_cons_zero]); (try simp only [Act.put]); (try simp only [List.setIfInBounds_toArray]); (try simp only [List.set_cons_succ]); (try simp only [List.set_cons_zero])
            refine wpAnyH_ready (rs := [7]) (by kernel_rfl) (by simp) (AllReadyH.cons rfl (fun Kc hKc => ?_) AllReadyH.nil)
            go_simp
            have hW1 := bS wd2 (.cells #[.int .i64 x1, .int .i64 x2] 27)
            have R3 := hidS (own_below R2.out hW1)
            have O3 := hidS (own_below O2.out hW1)
            have B3 := hidS (B2.out.trans (hW1.mono B2.out.size))
            replace c1 := cell_keep hW1 c1
            replace c2 := cell_keep hW1 c2
            clear hW1 R2 O2 B2
            refine hKc.out _ _ ?_ (fun hHeld => ?_)
            · (try dsimp only)
              refine ⟨?_, ?_⟩ <;> (repeat (with_reducible (first | exact c1 | exact c2 | refine cell_dr ?_)))
            clear hKc Kc
            (try simp only [List.getElem_toArray]); (try simp only [List.getElem_cons_succ]); (try simp only [List.getElem_cons_zero]); (try simp only [Act.put]); (try simp only [List.setIfInBounds_toArray]); (try simp only [List.set_cons_succ]); (try simp only [List.set_cons_zero])
            have C3 := hidS (cell_twoS wd2 (.int .i64 x1) (.int .i64 x2) 27)
            have hg3 : g < wd2.heap.size + 1 := by have := (O3.out.lt g rfl).2; simpa using this
            refine wpAnyH_ready (rs := [8]) (by kernel_rfl) (by simp) (AllReadyH.cons rfl (fun Kc hKc => ?_) AllReadyH.nil)
            refine step_app_rt rfl (.tmp 39) (.tmp 44) 24 rfl w.heap.size 27 i0 (.agg #[.int .i64 0, .int .i64 0]) 2 16 Try.underlying24 hi hz0 hz1 hz2 rfl (by decide) (.slice (some ⟨g, 0, none⟩) t t) t (cellsR (l.take t)) (by simp [Act.eval]) (own_cutQ O3.out t ht) ⟨wd2.heap.size, 0, none⟩ 1 1 [.int .i64 x1, .int .i64 x2] (by simp [Act.eval]) rfl C3.out (by intro u hu; simp at hu; rcases hu with rfl | rfl <;> rfl) (by unfold maxLen; omega) (by omega) B3.out.size ?_
            intro v5 w5 hown5 hg5 hloc5
            have R5 := hidS (R3.out.kept hg5 (.inr (by show some gr ≠ some g; simp; omega)))
            have B5 := hidS (B3.out.grown hg5 B3.out.size (fun j e => by cases e; exact hgw))
            have O5 := hidS hown5
            have hl6 : ∀ j, v5.ownBlock = some j → w.heap.size ≤ j := fun j e => (hown5.lt j e).1
            replace c1 := cell_keep B5.out HA1.out
            replace c2 := cell_keep B5.out HA2.out
            clear hown5 hg5 hloc5 R3 O3 B3 C3
            refine hKc.out _ _ ?_ (fun hHeld => ?_)
            · (try dsimp only)
              refine ⟨?_, ?_⟩ <;> (repeat (with_reducible (first | exact c1 | exact c2 | refine cell_dr ?_)))
            clear hKc Kc
            (try simp only [List.getElem_toArray]); (try simp only [List.getElem_cons_succ]); (try simp only [List.getElem_cons_zero]); (try simp only [Act.put]); (try simp only [List.setIfInBounds_toArray]); (try simp only [List.set_cons_succ]); (try simp only [List.set_cons_zero])
            refine wpAnyH_ready (rs := [10]) (by kernel_rfl) (by simp) (AllReadyH.cons rfl (fun Kc hKc => ?_) AllReadyH.nil)
            refine step_app_rt rfl (.tmp 45) (.tmp 46) 24 rfl w.heap.size 27 i0 (.agg #[.int .i64 0, .int .i64 0]) 2 16 Try.underlying24 hi hz0 hz1 hz2 rfl (by decide) v5 (t + 1) _ (by simp [Act.eval]) O5.out ⟨gr, 0, none⟩ (t - t) cr (cellsR (l.drop t)) (by first | (simp [Act.eval]; done) | (simp [Act.eval]; omega)) hlen1 (R5.out.cells rfl) (cellsR_oneQ _) (by unfold maxLen; omega) (by omega) B5.out.size ?_
            intro v7 w7 hown7 hg7 hloc7
            have B7 := hidS (B5.out.grown hg7 B5.out.size hl6)
            have hsum : t + 1 + (t - t) = t + 1 := by omega
            rw [hsum] at hown7
            obtain ⟨g7, c7, rfl⟩ := own_some hown7 (by omega)
            have O7 : Hid (w7.ownsRow w.heap.size 27 2 (.slice (some ⟨g7, 0, none⟩) (t + 1) c7) (t + 1) (cellsR (S (t + 1)))) := by
              show World.ownsRow _ _ _ _ _ _ _
              rw [hINS.out, cellsR_append, cellsR_append, ← List.append_assoc]
              exact hown7
            replace c1 := cell_keep B7.out HA1.out
            replace c2 := cell_keep B7.out HA2.out
            clear hown7 hg7 hloc7 hsum
            refine hKc.out _ _ ?_ (fun hHeld => ?_)
            · (try dsimp only)
              refine ⟨?_, ?_⟩ <;> (repeat (with_reducible (first | exact c1 | exact c2 | refine cell_dr ?_)))
            clear hKc Kc
            (try simp only [List.getElem_toArray]); (try simp only [List.getElem_cons_succ]); (try simp only [List.getElem_cons_zero]); (try simp only [Act.put]); (try simp only [List.setIfInBounds_toArray]); (try simp only [List.set_cons_succ]); (try simp only [List.set_cons_zero])
            refine wpAnyH_take (i := 11) (v := ?_) rfl (by kernel_rfl) (by kernel_rfl) (by kernel_rfl) (fun _ _ _ h => h) (Or.inl ⟨by kernel_rfl, ?_⟩) hHeld ?_
            rotate_left
            · intro wz hSw; (try dsimp only at hSw); go_simp; all_goals (try with_reducible rfl)
            (try simp only [List.getElem_toArray]); (try simp only [List.getElem_cons_succ]); (try simp only [List.getElem_cons_zero]); (try simp only [Act.put]); (try simp only [List.setIfInBounds_toArray]); (try simp only [List.set_cons_succ]); (try simp only [List.set_cons_zero])
            refine wpAnyH_done (by kernel_rfl) ?_ _
            refine NoPanic.normal ?_
            clear hHeld
            go_wp2
            go_roundw
            case rel => exact ⟨t + 1, by omega, by go_num, ⟨g7, c7, rfl, O7.out⟩, B7.out⟩
            case measure => simp [intOf]; omega
          · have HZ2 := trivial
            have htc : t ≤ c := by have := hnn.1; omega
            have hINS : Hid (S (t + 1) = l.take t ++ ([(x1, x2)] ++ l.drop t)) := by show _ = _; rw [HRK.out]; exact insR_at (by rw [HLN.out]; exact ht) hlow.out (fun h => HPOS.out (by rw [HLN.out] at h; exact h))
            have hgz2 : g < wz.heap.size := (hO.out.lt g rfl).2
            have hsz := hB.out.size
            have hW1 := bS wz (.cells #[] 27)
            have E0 : (wz.alloc (.cells #[] 27)).ownsRow w.heap.size 27 2 (.slice (some ⟨wz.heap.size, 0, none⟩) 0 0) 0 [] := own_noneR wz _ hsz
            have O1 := hidS (own_below hO.out hW1)
            have B1 := hidS (hB.out.trans (hW1.mono hsz))
            have T1 := hidS (own_tailQ O1.out t)
            have hlen1 : (cellsR (l.drop t)).length = (t - t) * 2 := by rw [cellsR_len, List.length_drop, HLN.out]
            have htnI : (t : Int) ≤ (t : Int) := by omega
            go_wp2_with (at_builtin; refine wpList_append_own_at _ rfl _ _ 24 rfl w.heap.size 27 i0 (.agg #[.int .i64 0, .int .i64 0]) 2 16 Try.underlying24 hi hz0 hz1 hz2 rfl (by decide) _ 0 [] rfl E0 ⟨g, t * 2, none⟩ (t - t) (c - t) (cellsR (l.drop t)) (by first | rfl | (simp [Act.eval]; done) | (simp [Act.eval]; omega)) hlen1 T1.out (cellsR_oneQ _) (by unfold maxLen; omega) (by omega) B1.out.size ?_; intro vr w2 hownr hgrr hnilr hlocr)
            rw [Nat.zero_add, List.nil_append] at hownr
            obtain ⟨gr, cr, rfl, hgr1, hgr2, -, -⟩ := own_formQ hownr (by intro e; exact absurd (hnilr.1 e).1 (by intro e2; cases e2))
            have hgr3 : wz.heap.size ≤ gr := by
              rcases hlocr with e | e
              · have e' : some gr = some wz.heap.size := e
                injection e' with e'; omega
              · have e' : some gr = some (wz.alloc (.cells #[] 27)).heap.size := e
                injection e' with e'
                have := hW1.size
                omega
            have R2 := hidS hownr
            have O2 := hidS (O1.out.kept hgrr (.inr (by show some g ≠ some wz.heap.size; simp; omega)))
            have B2 := hidS (B1.out.grown hgrr B1.out.size (fun j e => by cases e; exact hsz))
            clear hownr hgrr hnilr hlocr O1 B1 T1 E0 hW1 hO hB
            replace c1 := cell_keep B2.out HA1.out
            replace c2 := cell_keep B2.out HA2.out
            go_upto_region 9 with fail
            refine wp_region_noPanic ?_
            refine wp_region_held_drew (S := (fun w' => w'.cell? ⟨b, off + t * 2, none⟩ = some (.int .i64 x1) ∧ w'.cell? ⟨b, off + t * 2 + 1, none⟩ = some (.int .i64 x2))) (by kernel_rfl) ?_ (fun hHeld => ?_)
            · (try dsimp only)
              refine ⟨?_, ?_⟩ <;> (repeat (with_reducible (first | exact c1 | exact c2 | refine cell_dr ?_)))
            have hb : Below w2.heap.size w2 w2.drew := (Below.refl _ _).drew
            replace R2 := hidS (own_below R2.out hb)
            replace O2 := hidS (own_below O2.out hb)
            replace B2 := hidS (B2.out.trans (hb.mono B2.out.size))
            replace c1 := cell_dr c1
            replace c2 := cell_dr c2
            clear hb
            obtain ⟨wd2, hwd2⟩ : ∃ u, u = w2.drew := ⟨_, rfl⟩
            rw [← hwd2] at R2 O2 B2 c1 c2 hHeld ⊢
            clear hwd2
            refine wpAnyH_take (i := 0) (v := ?_) rfl (by kernel_rfl) (by kernel_rfl) (by kernel_rfl) (fun _ _ _ h => h) (Or.inl ⟨by kernel_rfl, ?_⟩) hHeld ?_
            rotate_left
            · intro wz hSw; (try dsimp only at hSw); go_simp; all_goals (try with_reducible rfl)
            (try simp only [List.getElem_toArray]); (try simp only [List.getElem_cons_succ]); (try simp only [List.getElem_cons_zero]); (try simp only [Act.put]); (try simp only [List.setIfInBounds_toArray]); (try simp only [List.set_cons_succ]); (try simp only [List.set_cons_zero])
            refine wpAnyH_take (i := 1) (v := ?_) rfl (by kernel_rfl) (by kernel_rfl) (by kernel_rfl) (fun _ _ _ h => h) (Or.inl ⟨by kernel_rfl, ?_⟩) hHeld ?_
            rotate_left
            · intro wz hSw; (try dsimp only at hSw); go_simp; all_goals (try with_reducible rfl)
            (try simp only [List.getElem_toArray]); (try simp only [List.getElem_cons_succ]); (try simp only [List.getElem_cons_zero]); (try simp only [Act.put]); (try simp only [List.setIfInBounds_toArray]); (try simp only [List.set_cons_succ]); (try simp only [List.set_cons_zero])
            refine wpAnyH_take (i := 2) (v := ?_) rfl (by kernel_rfl) (by kernel_rfl) (by kernel_rfl) (fun _ _ _ h => h) (Or.inl ⟨by kernel_rfl, ?_⟩) hHeld ?_
            rotate_left
            · intro wz hSw; (try dsimp only at hSw); go_simp; all_goals (try with_reducible rfl)
            (try simp only [List.getElem_toArray]); (try simp only [List.getElem_cons_succ]); (try simp only [List.getElem_cons_zero]); (try simp only [Act.put]); (try simp only [List.setIfInBounds_toArray]); (try simp only [List.set_cons_succ]); (try simp only [List.set_cons_zero])
            refine wpAnyH_take (i := 3) (v := ?_) rfl (by kernel_rfl) (by kernel_rfl) (by kernel_rfl) (fun _ _ _ h => h) (Or.inl ⟨by kernel_rfl, ?_⟩) hHeld ?_
            rotate_left
            · intro wz hSw; (try dsimp only at hSw); go_simp; all_goals (try with_reducible rfl)
            (try simp only [List.getElem_toArray]); (try simp only [List.getElem_cons_succ]); (try simp only [List.getElem_cons_zero]); (try simp only [Act.put]); (try simp only [List.setIfInBounds_toArray]); (try simp only [List.set_cons_succ]); (try simp only [List.set_cons_zero])
            refine wpAnyH_take (i := 4) (v := ?_) rfl (by kernel_rfl) (by kernel_rfl) (by kernel_rfl) (fun _ _ _ h => h) (Or.inl ⟨by kernel_rfl, ?_⟩) hHeld ?_
            rotate_left
            · intro wz hSw; (try dsimp only at hSw); go_simp; all_goals (try with_reducible rfl)
            (try simp only [List.getElem_toArray]); (try simp only [List.getElem_cons_succ]); (try simp only [List.getElem_cons_zero]); (try simp only [Act.put]); (try simp only [List.setIfInBounds_toArray]); (try simp only [List.set_cons_succ]); (try simp only [List.set_cons_zero])
            refine wpAnyH_take (i := 5) (v := ?_) rfl (by kernel_rfl) (by kernel_rfl) (by kernel_rfl) (fun _ _ _ h => h) (Or.inl ⟨by kernel_rfl, ?_⟩) hHeld ?_
            rotate_left
            · intro wz hSw; (try dsimp only at hSw); go_simp; all_goals (try with_reducible rfl)
            (try simp only [List.getElem_toArray]); (try simp only [List.getElem_cons_succ]); (try simp only [List.getElem_cons_zero]); (try simp only [Act.put]); (try simp only [List.setIfInBounds_toArray]); (try simp only [List.set_cons_succ]); (try simp only [List.set_cons_zero])
            refine wpAnyH_take (i := 6) (v := ?_) rfl (by kernel_rfl) (by kernel_rfl) (by kernel_rfl) (fun _ _ _ h => h) (Or.inl ⟨by kernel_rfl, ?_⟩) hHeld ?_
            rotate_left
            · intro wz hSw; (try dsimp only at hSw); go_simp; all_goals (try with_reducible rfl)
            (try simp only [List.getElem_toArray]); (try simp only [List.getElem_cons_succ]); (try simp only [List.getElem_cons_zero]); (try simp only [Act.put]); (try simp only [List.setIfInBounds_toArray]); (try simp only [List.set_cons_succ]); (try simp only [List.set_cons_zero])
            refine wpAnyH_take (i := 9) (v := ?_) rfl (by kernel_rfl) (by kernel_rfl) (by kernel_rfl) (fun _ _ _ h => h) (Or.inl ⟨by kernel_rfl, ?_⟩) hHeld ?_
            rotate_left
            · intro wz hSw; (try dsimp only at hSw); go_simp; all_goals (try with_reducible rfl)
            (try simp only [List.getElem_toArray]); (try simp only [List.getElem_cons_succ]); (try simp only [List.getElem_cons_zero]); (try simp only [Act.put]); (try simp only [List.setIfInBounds_toArray]); (try simp only [List.set_cons_succ]); (try simp only [List.set_cons_zero])
            refine wpAnyH_ready (rs := [7]) (by kernel_rfl) (by simp) (AllReadyH.cons rfl (fun Kc hKc => ?_) AllReadyH.nil)
            go_simp
            have hW1 := bS wd2 (.cells #[.int .i64 x1, .int .i64 x2] 27)
            have R3 := hidS (own_below R2.out hW1)
            have O3 := hidS (own_below O2.out hW1)
            have B3 := hidS (B2.out.trans (hW1.mono B2.out.size))
            replace c1 := cell_keep hW1 c1
            replace c2 := cell_keep hW1 c2
            clear hW1 R2 O2 B2
            refine hKc.out _ _ ?_ (fun hHeld => ?_)
            · (try dsimp only)
              refine ⟨?_, ?_⟩ <;> (repeat (with_reducible (first | exact c1 | exact c2 | refine cell_dr ?_)))
            clear hKc Kc
            (try simp only [List.getElem_toArray]); (try simp only [List.getElem_cons_succ]); (try simp only [List.getElem_cons_zero]); (try simp only [Act.put]); (try simp only [List.setIfInBounds_toArray]); (try simp only [List.set_cons_succ]); (try simp only [List.set_cons_zero])
            have C3 := hidS (cell_twoS wd2 (.int .i64 x1) (.int .i64 x2) 27)
            have hg3 : g < wd2.heap.size + 1 := by have := (O3.out.lt g rfl).2; simpa using this
            refine wpAnyH_ready (rs := [8]) (by kernel_rfl) (by simp) (AllReadyH.cons rfl (fun Kc hKc => ?_) AllReadyH.nil)
            refine step_app_rt rfl (.tmp 39) (.tmp 44) 24 rfl w.heap.size 27 i0 (.agg #[.int .i64 0, .int .i64 0]) 2 16 Try.underlying24 hi hz0 hz1 hz2 rfl (by decide) (.slice (some ⟨g, 0, none⟩) t c) t (cellsR (l.take t)) (by simp [Act.eval]) (own_cutQ O3.out t ht) ⟨wd2.heap.size, 0, none⟩ 1 1 [.int .i64 x1, .int .i64 x2] (by simp [Act.eval]) rfl C3.out (by intro u hu; simp at hu; rcases hu with rfl | rfl <;> rfl) (by unfold maxLen; omega) (by omega) B3.out.size ?_
            intro v5 w5 hown5 hg5 hloc5
            have R5 := hidS (R3.out.kept hg5 (.inr (by show some gr ≠ some g; simp; omega)))
            have B5 := hidS (B3.out.grown hg5 B3.out.size (fun j e => by cases e; exact hgw))
            have O5 := hidS hown5
            have hl6 : ∀ j, v5.ownBlock = some j → w.heap.size ≤ j := fun j e => (hown5.lt j e).1
            replace c1 := cell_keep B5.out HA1.out
            replace c2 := cell_keep B5.out HA2.out
            clear hown5 hg5 hloc5 R3 O3 B3 C3
            refine hKc.out _ _ ?_ (fun hHeld => ?_)
            · (try dsimp only)
              refine ⟨?_, ?_⟩ <;> (repeat (with_reducible (first | exact c1 | exact c2 | refine cell_dr ?_)))
            clear hKc Kc
            (try simp only [List.getElem_toArray]); (try simp only [List.getElem_cons_succ]); (try simp only [List.getElem_cons_zero]); (try simp only [Act.put]); (try simp only [List.setIfInBounds_toArray]); (try simp only [List.set_cons_succ]); (try simp only [List.set_cons_zero])
            refine wpAnyH_ready (rs := [10]) (by kernel_rfl) (by simp) (AllReadyH.cons rfl (fun Kc hKc => ?_) AllReadyH.nil)
            refine step_app_rt rfl (.tmp 45) (.tmp 46) 24 rfl w.heap.size 27 i0 (.agg #[.int .i64 0, .int .i64 0]) 2 16 Try.underlying24 hi hz0 hz1 hz2 rfl (by decide) v5 (t + 1) _ (by simp [Act.eval]) O5.out ⟨gr, 0, none⟩ (t - t) cr (cellsR (l.drop t)) (by first | (simp [Act.eval]; done) | (simp [Act.eval]; omega)) hlen1 (R5.out.cells rfl) (cellsR_oneQ _) (by unfold maxLen; omega) (by omega) B5.out.size ?_
            intro v7 w7 hown7 hg7 hloc7
            have B7 := hidS (B5.out.grown hg7 B5.out.size hl6)
            have hsum : t + 1 + (t - t) = t + 1 := by omega
            rw [hsum] at hown7
            obtain ⟨g7, c7, rfl⟩ := own_some hown7 (by omega)
            have O7 : Hid (w7.ownsRow w.heap.size 27 2 (.slice (some ⟨g7, 0, none⟩) (t + 1) c7) (t + 1) (cellsR (S (t + 1)))) := by
              show World.ownsRow _ _ _ _ _ _ _
              rw [hINS.out, cellsR_append, cellsR_append, ← List.append_assoc]
              exact hown7
            replace c1 := cell_keep B7.out HA1.out
            replace c2 := cell_keep B7.out HA2.out
            clear hown7 hg7 hloc7 hsum
            refine hKc.out _ _ ?_ (fun hHeld => ?_)
            · (try dsimp only)
              refine ⟨?_, ?_⟩ <;> (repeat (with_reducible (first | exact c1 | exact c2 | refine cell_dr ?_)))
            clear hKc Kc
            (try simp only [List.getElem_toArray]); (try simp only [List.getElem_cons_succ]); (try simp only [List.getElem_cons_zero]); (try simp only [Act.put]); (try simp only [List.setIfInBounds_toArray]); (try simp only [List.set_cons_succ]); (try simp only [List.set_cons_zero])
            refine wpAnyH_take (i := 11) (v := ?_) rfl (by kernel_rfl) (by kernel_rfl) (by kernel_rfl) (fun _ _ _ h => h) (Or.inl ⟨by kernel_rfl, ?_⟩) hHeld ?_
            rotate_left
            · intro wz hSw; (try dsimp only at hSw); go_simp; all_goals (try with_reducible rfl)
            (try simp only [List.getElem_toArray]); (try simp only [List.getElem_cons_succ]); (try simp only [List.getElem_cons_zero]); (try simp only [Act.put]); (try simp only [List.setIfInBounds_toArray]); (try simp only [List.set_cons_succ]); (try simp only [List.set_cons_zero])
            refine wpAnyH_done (by kernel_rfl) ?_ _
            refine NoPanic.normal ?_
            clear hHeld
            go_wp2
            go_roundw
            case rel => exact ⟨t + 1, by omega, by go_num, ⟨g7, c7, rfl, O7.out⟩, B7.out⟩
            case measure => simp [intOf]; omega
    · obtain rfl : n = L := by omega
      go_wp2
      refine bodyPost_ret (results_tmp rfl _ _ _) rfl ⟨_, rfl, ?_, hB.out⟩
      exact hO.out
end Go.Proofs.Ythmdiljcceiedaa
