/- A heap of ends in memory: what its methods are, what stays; the walk of going up. -/
import Derived.Test.YthfdpdnphnjebaaHpW2
namespace Go.Proofs.Ythfdpdnphnjebaa
open Go.RowKit Go.Proofs.Ythfdpdnphnjebaa.RM

abbrev dE : En := ((0, 0), false)
def okE (e : En) : Prop := ok7 e.1 = true
theorem lsE_no {a b : En} (ha : okE a) (hb : okE b) : lsE a b = false ↔ v7 b.1 < v7 a.1 ∨ (v7 a.1 = v7 b.1 ∧ (a.2 = true ∨ b.2 = false)) := by
  unfold lsE
  by_cases e : a.1 = b.1
  · rw [if_pos e, e]
    have h0 : ¬ v7 b.1 < v7 b.1 := Rat.lt_irrefl
    cases a.2 <;> cases b.2 <;> simp [h0]
  · rw [if_neg e, le7_no ha hb]
    have hne : v7 a.1 ≠ v7 b.1 := fun h => e (v7_inj ha hb h)
    constructor
    · intro h
      exact Or.inl (Rat.not_le.1 fun k => hne (Rat.le_antisymm k h))
    · rintro (h | h)
      · exact Rat.le_of_lt h
      · exact absurd h.1 hne
theorem lsE_yes {a b : En} (ha : okE a) (hb : okE b) : lsE a b = true ↔ v7 a.1 < v7 b.1 ∨ (v7 a.1 = v7 b.1 ∧ a.2 = false ∧ b.2 = true) := by
  have := lsE_no ha hb
  rw [← Bool.not_eq_false, this]
  constructor
  · intro h
    by_cases k : v7 a.1 < v7 b.1
    · exact Or.inl k
    · have k2 : v7 a.1 = v7 b.1 := Rat.le_antisymm (Rat.not_lt.1 fun q => h (Or.inl q)) (Rat.not_lt.1 k)
      refine Or.inr ⟨k2, ?_, ?_⟩
      · cases h2 : a.2
        · rfl
        · exact absurd (Or.inr ⟨k2, Or.inl h2⟩) h
      · cases h2 : b.2
        · exact absurd (Or.inr ⟨k2, Or.inr h2⟩) h
        · rfl
  · rintro (h | ⟨h1, h2, h3⟩) (k | ⟨k1, k2⟩)
    · exact Rat.not_lt.2 (Rat.le_of_lt h) k
    · rw [k1] at h; exact Rat.lt_irrefl h
    · rw [h1] at k; exact Rat.lt_irrefl k
    · rcases k2 with k2 | k2
      · rw [h2] at k2; cases k2
      · rw [h3] at k2; cases k2
theorem ordE : Hp.Ord lsE okE where
  tr a b c ha hb hc h1 h2 := by
    rw [lsE_no hb ha] at h1
    rw [lsE_no hc hb] at h2
    rw [lsE_no hc ha]
    rcases h1 with h1 | ⟨h1, k1⟩ <;> rcases h2 with h2 | ⟨h2, k2⟩
    · exact Or.inl (Rat.not_le.1 fun h => Rat.not_le.2 h2 (Rat.le_trans h (Rat.le_of_lt h1)))
    · exact Or.inl (by rw [h2]; exact h1)
    · exact Or.inl (by rw [← h1]; exact h2)
    · refine Or.inr ⟨h2.trans h1, ?_⟩
      rcases k2 with k2 | k2
      · exact Or.inl k2
      · rcases k1 with k1 | k1
        · rw [k2] at k1; cases k1
        · exact Or.inr k1
  asym a b ha hb h := by
    rw [lsE_yes ha hb] at h
    rw [lsE_no hb ha]
    rcases h with h | ⟨h1, h2, h3⟩
    · exact Or.inl h
    · exact Or.inr ⟨h1.symm, Or.inl h3⟩
theorem er_at (es : List En) (i : Nat) : er es i = Hp.at' dE es i := rfl

/-- what a heap's method changes: the box at H and the row at g, and new blocks -/
structure KpH (H g : Nat) (w w' : World) : Prop where
  os : w'.os = w.os
  tape : w'.tape = w.tape
  output : w'.output = w.output
  size : w.heap.size ≤ w'.heap.size
  block : ∀ k, k < w.heap.size → k ≠ H → k ≠ g → w'.heap[k]? = w.heap[k]?
theorem KpH.refl (H g : Nat) (w : World) : KpH H g w w := ⟨rfl, rfl, rfl, Nat.le_refl _, fun _ _ _ _ => rfl⟩
theorem KpH.trans {H g g' : Nat} {a b c : World} (h : KpH H g a b) (k : KpH H g' b c) (hg : g' = g ∨ a.heap.size ≤ g') : KpH H g a c :=
  ⟨k.os.trans h.os, k.tape.trans h.tape, k.output.trans h.output, Nat.le_trans h.size k.size, fun i hi h1 h2 => (k.block i (Nat.lt_of_lt_of_le hi h.size) h1 (by rcases hg with e | e <;> omega)).trans (h.block i hi h1 h2)⟩
theorem KpH.next {H g : Nat} {a b c : World} (h : KpH H g a b) (k : KpH H g b c) : KpH H g a c := h.trans k (.inl rfl)
theorem KpH.of_below {H g : Nat} {w w' : World} (h : Below w.heap.size w w') : KpH H g w w' := ⟨h.os, h.tape, h.output, h.size, fun k hk _ _ => h.block k hk⟩
theorem KpH.of_row {H g : Nat} {w w' : World} (h : w.grownBy w' (some g)) : KpH H g w w' := ⟨h.os, h.tape, h.output, h.size, fun k hk _ hg => h.block k hk (by simpa using hg)⟩
theorem KpH.set {H g o : Nat} (w : World) (v : Value) : KpH H g w (w.setCell ⟨H, o, none⟩ v) :=
  ⟨rfl, rfl, rfl, by simp, fun k _ h1 _ => Below.heap_setCell w ⟨H, o, none⟩ v k (by show k ≠ H; exact h1)⟩
theorem KpH.below {H g B : Nat} {w w' : World} (h : KpH H g w w') (h1 : B ≤ H) (h2 : B ≤ g) (hs : B ≤ w.heap.size) : Below B w w' :=
  ⟨h.os, h.tape, h.output, h.size, fun k hk => h.block k (Nat.lt_of_lt_of_le hk hs) (by omega) (by omega)⟩
theorem KpH.isB {H g B : Nat} {w w' : World} {vs : Array Value} {t : TypeId} (h : KpH H g w w') (hb : IsB w B vs t) (h1 : B ≠ H) (h2 : B ≠ g) : IsB w' B vs t := (h.block B hb.lt h1 h2).trans hb
/-- the box at H holds the slice of the row at g, which holds these ends -/
def HpS (W : World) (lo H g c n : Nat) (es : List En) : Prop :=
  IsB W H #[.slice (some ⟨g, 0, none⟩) n c] 47 ∧ W.ownsRow lo 50 3 (.slice (some ⟨g, 0, none⟩) n c) n (cellsE es) ∧ es.length = n ∧ g ≠ H
theorem HpS.below {W W' : World} {lo H g c n : Nat} {es : List En} (h : HpS W lo H g c n es) (hb : Below W.heap.size W W') : HpS W' lo H g c n es :=
  ⟨h.1.below hb, own_below h.2.1 hb, h.2.2⟩
theorem HpS.row {W W' : World} {lo H g c n : Nat} {es es' : List En} (h : HpS W lo H g c n es) (ho : W'.ownsRow lo 50 3 (.slice (some ⟨g, 0, none⟩) n c) n (cellsE es')) (hl : es'.length = n) (hg : W.grownBy W' (some g)) : HpS W' lo H g c n es' :=
  ⟨(hg.block H h.1.lt (by simpa using fun e => h.2.2.2 e.symm)).trans h.1, ho, hl, h.2.2.2⟩
theorem HpS.c0 {W : World} {lo H g c n : Nat} {es : List En} (h : HpS W lo H g c n es) : W.cell? ⟨H, 0, none⟩ = some (.slice (some ⟨g, 0, none⟩) n c) := h.1.cell 0 rfl
theorem HpS.lt {W : World} {lo H g c n : Nat} {es : List En} (h : HpS W lo H g c n es) : H < W.heap.size ∧ lo ≤ g ∧ g < W.heap.size := ⟨h.1.lt, (h.2.1.lt g rfl).1, (h.2.1.lt g rfl).2⟩
abbrev hpv (H : Nat) : Value := .iface 64 (.pointer (some ⟨H, 0, none⟩))

set_option maxRecDepth 100000 in
theorem mLess0 (H : Nat) (w : World) : (method 198 64 (.pointer (some ⟨H, 0, none⟩)) "Less").run Try.prog w = ((do pure (69, ← loadVar 47 ⟨H, 0, none⟩)) : Sem (FuncId × Value)).run Try.prog w := by kernel_rfl
theorem mSwap0 (H : Nat) (w : World) : (method 198 64 (.pointer (some ⟨H, 0, none⟩)) "Swap").run Try.prog w = ((do pure (70, ← loadVar 47 ⟨H, 0, none⟩)) : Sem (FuncId × Value)).run Try.prog w := by kernel_rfl
theorem mLen0 (H : Nat) (w : World) : (method 198 64 (.pointer (some ⟨H, 0, none⟩)) "Len").run Try.prog w = ((do pure (68, ← loadVar 47 ⟨H, 0, none⟩)) : Sem (FuncId × Value)).run Try.prog w := by kernel_rfl
theorem mPush0 (H : Nat) (w : World) : (method 198 64 (.pointer (some ⟨H, 0, none⟩)) "Push").run Try.prog w = .ok (72, .pointer (some ⟨H, 0, none⟩)) w := by kernel_rfl
theorem mPop0 (H : Nat) (w : World) : (method 198 64 (.pointer (some ⟨H, 0, none⟩)) "Pop").run Try.prog w = .ok (71, .pointer (some ⟨H, 0, none⟩)) w := by kernel_rfl
theorem ldH (H : Nat) (w : World) (v : Value) (c0 : w.cell? ⟨H, 0, none⟩ = some v) : (loadVar 47 ⟨H, 0, none⟩).run Try.prog w = .ok v w := by
  simp [loadVar, c0, go_sem]
theorem mLess {H : Nat} {w : World} {v : Value} (c0 : w.cell? ⟨H, 0, none⟩ = some v) : (method 198 64 (.pointer (some ⟨H, 0, none⟩)) "Less").run Try.prog w = .ok (69, v) w := by
  rw [mLess0]; simp [ldH H w v c0]
theorem mSwap {H : Nat} {w : World} {v : Value} (c0 : w.cell? ⟨H, 0, none⟩ = some v) : (method 198 64 (.pointer (some ⟨H, 0, none⟩)) "Swap").run Try.prog w = .ok (70, v) w := by
  rw [mSwap0]; simp [ldH H w v c0]
theorem mLen {H : Nat} {w : World} {v : Value} (c0 : w.cell? ⟨H, 0, none⟩ = some v) : (method 198 64 (.pointer (some ⟨H, 0, none⟩)) "Len").run Try.prog w = .ok (68, v) w := by
  rw [mLen0]; simp [ldH H w v c0]
/-- what the heap's own order and exchange do, told of the box -/
theorem HpS.less {W : World} {lo H g c n : Nat} {es : List En} (h : HpS W lo H g c n es) (i k : Nat) (hi : i < n) (hk : k < n) : Calls Try.prog 69 #[.slice (some ⟨g, 0, none⟩) n c, .int .i64 i, .int .i64 k] W fun e w' => e = .returned (.bool (lsE (Hp.at' dE es i) (Hp.at' dE es k))) ∧ Below W.heap.size W w' :=
  iLessH_any lo g c n i k es W h.2.1 h.2.2.1 hi hk
theorem HpS.swap {W : World} {lo H g c n : Nat} {es : List En} (h : HpS W lo H g c n es) (i k : Nat) (hi : i < n) (hk : k < n) : Calls Try.prog 70 #[.slice (some ⟨g, 0, none⟩) n c, .int .i64 i, .int .i64 k] W fun e w' => e = .returned (.tuple #[]) ∧ HpS w' lo H g c n (Hp.swp dE es i k) ∧ KpH H g W w' := by
  have hl := h.2.2.1
  subst hl
  refine (iSwapH_any lo g c i k es W h.2.1 hi hk).mono ?_
  rintro e w' ⟨rfl, h1, h2⟩
  exact ⟨rfl, h.row h1 (by rw [Hp.swp_len]) h2, KpH.of_row h2⟩

set_option maxRecDepth 100000 in
set_option maxHeartbeats 4000000 in
theorem upH_any (lo H g c n j : Nat) (es : List En) (w : World) (h : HpS w lo H g c n es) (hok : ∀ e ∈ es, okE e) (hn : n ≤ 1000) (hj : j < n) (hu : Hp.UpHp dE lsE es n j) :
    Calls Try.prog 49 #[hpv H, .int .i64 j] w fun e w' => e = .returned (.tuple #[]) ∧ ∃ es', HpS w' lo H g c n es' ∧ es'.Perm es ∧ Hp.Heap dE lsE es' n ∧ KpH H g w w' := by
  go_enter Try.func49, Try.ntmps49
  go_wp2_with fail
  have HP := hidH (List.Perm.refl es)
  replace h := hidH h
  replace hu := hidH hu
  replace hok := hidH hok
  have hB := hidH (KpH.refl H g w)
  go_loopw [1] (fun i wr => ∃ (k : Nat) (es' : List En), k < n ∧ i = .int .i64 k ∧ Hid (HpS wr lo H g c n es') ∧ Hid (es'.Perm es) ∧ Hid (Hp.UpHp dE lsE es' n k) ∧ Hid (KpH H g w wr)) (fun i _ => (intOf i).toNat)
  case atStart => exact ⟨j, es, hj, rfl, h, HP, hu, hB⟩
  case round =>
    clear h hu hB HP hj
    obtain ⟨k, el, hk, rfl, h, HP, hu, hB⟩ := hrel
    by_cases k0 : k = 0
    · subst k0
      go_wp2
      go_end0
      exact ⟨rfl, el, h.out, HP.out, Hp.up_done hu.out (Or.inl rfl), hB.out⟩
    obtain ⟨i, hi⟩ : ∃ i, i = (k - 1) / 2 := ⟨_, rfl⟩
    have HI := hidH hi
    have hw2 : ((k : Int) - 1) / 2 = (i : Int) := by omega
    have hik : i < k := by omega
    clear hi
    have c0 := h.out.c0
    have hm := mLess c0
    have HL := hidH (h.out.less k i hk (by omega))
    obtain ⟨q, hq⟩ : ∃ q, q = lsE (Hp.at' dE el k) (Hp.at' dE el i) := ⟨_, rfl⟩
    rw [← hq] at HL
    have HQ := hidH hq
    clear hq
    go_wp2_with fail
    refine HL.out.mono ?_
    rintro e w1 ⟨rfl, hb⟩
    replace h := hidH (h.out.below hb)
    replace hB := hidH (hB.out.next (KpH.of_below hb))
    clear hb c0 hm HL
    have hPi := hidH (Hp.mem_at (d := dE) (fun x hx => hok.out x (HP.out.mem_iff.1 hx)) (k := i) (by rw [h.out.2.2.1]; omega))
    cases q
    · go_wp2
      go_end0
      exact ⟨rfl, el, h.out, HP.out, Hp.up_done hu.out (Or.inr (by rw [← HI.out]; exact HQ.out.symm)), hB.out⟩
    · have c0 := h.out.c0
      have hm := mSwap c0
      have HS := hidH (h.out.swap i k (by omega) hk)
      go_wp2_with fail
      refine HS.out.mono ?_
      rintro e w2 ⟨rfl, h2, hk2⟩
      have H2 := hidH h2
      have HK := hidH hk2
      clear h2 hk2 hm c0 HS
      go_wp2
      go_roundw
      case rel =>
        have hl := h.out.2.2.1
        refine ⟨i, Hp.swp dE el i k, by omega, by first | rfl | go_num, H2.out, (Hp.swp_perm dE (by omega) (by omega)).trans HP.out, ?_, hB.out.next HK.out⟩
        have := Hp.up_step ordE (n := n) (by omega) (fun x hx => hok.out x (HP.out.mem_iff.1 hx)) hu.out (by omega) hk (by rw [← HI.out]; exact HQ.out.symm)
        show Hp.UpHp _ _ _ _ _
        rw [HI.out]; exact this
      case measure => simp [intOf]; omega
end Go.Proofs.Ythfdpdnphnjebaa
