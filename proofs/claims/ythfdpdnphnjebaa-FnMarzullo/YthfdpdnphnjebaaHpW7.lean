/- The walk of the program's endsOf. -/
import Derived.Test.YthfdpdnphnjebaaHpW6
import Derived.Test.YthfdpdnphnjebaaRgW0
namespace Go.Proofs.Ythfdpdnphnjebaa
open Go.RowKit Go.Proofs.Ythfdpdnphnjebaa.RM

/-- the ends of the first k claims -/
def endsL (ls : List Sp) : Nat → List En
  | 0 => []
  | k + 1 => (endsL ls k ++ [((sp ls k).1, false)]) ++ [((sp ls k).2, true)]
theorem endsL_len (ls : List Sp) : ∀ k, (endsL ls k).length = 2 * k
  | 0 => rfl
  | k + 1 => by show ((endsL ls k ++ [_]) ++ [_]).length = _; rw [List.length_append, List.length_append, endsL_len ls k]; simp; omega
theorem endsL_ok {ls : List Sp} (h : clmP ls) : ∀ k, k ≤ ls.length → ∀ e ∈ endsL ls k, okE e
  | 0, _ => fun e he => by cases he
  | k + 1, hk => by
    intro e he
    have q := rng7_out (h.2 k (by omega))
    rcases List.mem_append.1 he with he | he
    · rcases List.mem_append.1 he with he | he
      · exact endsL_ok h k (by omega) e he
      · rw [List.mem_singleton] at he; rw [he]; exact q.1
    · rw [List.mem_singleton] at he; rw [he]; exact q.2.1
theorem litE (W : World) (base : Nat) (hb : base ≤ W.heap.size) : (W.alloc (.cells #[] 50)).ownsRow base 50 3 (.slice (some ⟨W.heap.size, 0, none⟩) 0 0) 0 (cellsE []) :=
  ⟨rfl, .inr ⟨W.heap.size, 0, #[], rfl, hb, World.alloc_heap_new W _, Nat.le_refl _, Nat.zero_le _, rfl, rfl⟩⟩

set_option maxRecDepth 100000 in
set_option maxHeartbeats 8000000 in
theorem iEnds_any (v : Value) (ls : List Sp) (w : World) (h : RdS w v ls) (hc : clmP ls) :
    Calls Try.prog 21 #[v] w fun e w' => ∃ g c es, e = .returned (.slice (some ⟨g, 0, none⟩) (2 * ls.length) c) ∧ w'.ownsRow w.heap.size 50 3 (.slice (some ⟨g, 0, none⟩) (2 * ls.length) c) (2 * ls.length) (cellsE es) ∧ es.Perm (endsL ls ls.length) ∧ Hp.Heap dE lsE es (2 * ls.length) ∧ Below w.heap.size w w' := by
  obtain ⟨a, c, rfl, h2, h3, h4, h5⟩ := h
  have H5 : Hid (∀ j, j < ls.length → ∃ b off, a = some ⟨b, off, none⟩ ∧ w.cell? ⟨b, off + j * 4, none⟩ = some (.int .i64 (sp ls j).1.1) ∧ w.cell? ⟨b, off + j * 4 + 1, none⟩ = some (.int .i64 (sp ls j).1.2) ∧ w.cell? ⟨b, off + j * 4 + 2, none⟩ = some (.int .i64 (sp ls j).2.1) ∧ w.cell? ⟨b, off + j * 4 + 3, none⟩ = some (.int .i64 (sp ls j).2.2)) := h5
  clear h5 h4 h3 h2
  have hL12 := hc.1
  have HR : Hid (∀ k, k < ls.length → okE ((sp ls k).1, false) ∧ okE ((sp ls k).2, true)) := fun k hk => by
    have := rng7_out (hc.2 k hk); exact ⟨this.1, this.2.1⟩
  obtain ⟨F, hF⟩ : ∃ F, F = endsL ls := ⟨_, rfl⟩
  have HF0 : Hid (F 0 = []) := by show _ = _; rw [hF]; rfl
  have HFS : Hid (∀ k, F (k + 1) = (F k ++ [((sp ls k).1, false)]) ++ [((sp ls k).2, true)]) := by intro k; rw [hF]; rfl
  have HFO : Hid (∀ k, k ≤ ls.length → ∀ e ∈ F k, okE e) := by intro k hk; rw [hF]; exact endsL_ok hc k hk
  have HFE : Hid (endsL ls ls.length = F ls.length) := by show _ = _; rw [hF]
  clear hF hc
  obtain ⟨L, hL⟩ : ∃ L, L = ls.length := ⟨_, rfl⟩
  rw [← hL] at H5 hL12 HR HFO HFE
  rw [← hL]
  clear hL
  obtain ⟨l1, l2⟩ := hL12
  obtain ⟨G, hG⟩ : ∃ G, G = w.heap.size := ⟨_, rfl⟩
  obtain ⟨X, hX⟩ : ∃ X, X = w.alloc (.cells #[] 50) := ⟨_, rfl⟩
  obtain ⟨H, hH⟩ : ∃ H, H = X.heap.size := ⟨_, rfl⟩
  obtain ⟨Y, hY⟩ : ∃ Y, Y = X.alloc (.cells #[.slice (some ⟨G, 0, none⟩) 0 0] 47) := ⟨_, rfl⟩
  have hb1 := b0H w (.cells #[] 50)
  have hb2 := b0H X (.cells #[.slice (some ⟨G, 0, none⟩) 0 0] 47)
  have hXs : X.heap.size = G + 1 := by rw [hX, hG]; simp
  have O1 : X.ownsRow w.heap.size 50 3 (.slice (some ⟨G, 0, none⟩) 0 0) 0 (cellsE []) := by rw [hX, hG]; exact litE w _ (Nat.le_refl _)
  have I1 : IsB Y H #[.slice (some ⟨G, 0, none⟩) 0 0] 47 := by rw [hY, hH]; exact IsB.new X _ _
  rw [← hX] at hb1
  rw [← hY] at hb2
  have hGH : G ≠ H := by omega
  have H0 : Hid (HpS Y w.heap.size H G 0 (2 * 0) []) := ⟨I1, own_below O1 hb2, rfl, hGH⟩
  have hwH : w.heap.size ≤ H := by omega
  have B0 : Hid (Below w.heap.size w Y) := hb1.trans (hb2.mono hb1.size)
  have hH1 : G + 1 = H := by omega
  go_enter Try.func21, Try.ntmps21
  go_upto_region 2 with fail
  simp only [← hG, ← hX, ← hY, hH1]
  clear hG hX hH hY hb1 hb2 hXs O1 I1 hGH hH1
  go_wp2
  go_loopw [9] (fun i wr => ∃ (k g c : Nat) (es : List En), k ≤ L ∧ i = .int .i64 k ∧ Hid (HpS wr w.heap.size H g c (2 * k) es) ∧ Hid (es.Perm (F k)) ∧ Hid (Hp.Heap dE lsE es (2 * k)) ∧ Hid (Below w.heap.size w wr)) (fun i _ => L - (intOf i).toNat)
  case atStart => exact ⟨0, G, 0, [], Nat.zero_le _, rfl, H0, by rw [HF0.out]; exact List.Perm.refl _, Hp.heap_nil, B0⟩
  case round =>
    clear H0 B0
    obtain ⟨k, g, gc, es, hk, rfl, hS, hP, hHp, hB⟩ := hrel
    by_cases hlt : k < L
    · obtain ⟨b, off, rfl, c1, c2, c3, c4⟩ := H5.out k hlt
      replace c1 := cell_keep hB.out c1
      replace c2 := cell_keep hB.out c2
      replace c3 := cell_keep hB.out c3
      replace c4 := cell_keep hB.out c4
      obtain ⟨p, hp⟩ : ∃ p, p = sp ls k := ⟨_, rfl⟩
      have HN := hidH (HFS.out k)
      have HRK := hidH (HR.out k hlt)
      rw [← hp] at c1 c2 c3 c4 HN HRK
      clear hp
      have HOK : Hid (∀ e ∈ es, okE e) := fun e he => HFO.out k (by omega) e (hP.out.mem_iff.1 he)
      obtain ⟨⟨x1, x2⟩, y1, y2⟩ := p
      dsimp only at c1 c2 c3 c4
      go_upto_region 5 with fail
      obtain ⟨N, hN⟩ : ∃ N, N = wr.heap.size := ⟨_, rfl⟩
      obtain ⟨X, hX⟩ : ∃ X, X = wr.alloc (.cells #[.int .i64 x1, .int .i64 x2, .int .i64 y1, .int .i64 y2] 29) := ⟨_, rfl⟩
      have hb := b0H wr (.cells #[.int .i64 x1, .int .i64 x2, .int .i64 y1, .int .i64 y2] 29)
      have IN : Hid (IsB X N #[.int .i64 x1, .int .i64 x2, .int .i64 y1, .int .i64 y2] 29) := by show IsB _ _ _ _; rw [hX, hN]; exact IsB.new wr _ _
      rw [← hX] at hb
      have hlt' := hS.out.lt
      have hNH : N ≠ H := by omega
      have hNg : N ≠ g := by omega
      replace hS := hidH (hS.out.below hb)
      replace hB := hidH (hB.out.trans (hb.mono hB.out.size))
      rw [← hX, ← hN]
      clear hX hN hb c1 c2 c3 c4 hlt'
      have c1 := IN.out.cell 0 rfl
      have c2 := IN.out.cell 1 rfl
      have HP1 := hidH (heapPush_any w.heap.size H g gc (2 * k) es x1 x2 false X hS.out (by omega) HOK.out HRK.out.1 hHp.out)
      go_wp2_with fail
      refine HP1.out.mono ?_
      rintro e w1 ⟨rfl, g1, gc1, es1, h1, p1, q1, k1, m1⟩
      have hXN := IN.out.lt
      have hlt' := hS.out.lt
      have hlow := hS.out.2.1.lt g rfl
      replace IN := hidH (k1.isB IN.out hNH hNg)
      have S1 := hidH h1
      have Q1 := hidH q1
      have P1 := hidH (p1.trans (hP.out.append_right _))
      have HOK1 : Hid (∀ e ∈ es1, okE e) := by
        intro e he
        rcases List.mem_append.1 (p1.mem_iff.1 he) with he | he
        · exact HOK.out e he
        · rw [List.mem_singleton] at he; rw [he]; exact HRK.out.1
      replace hB := hidH (hB.out.trans (k1.below hwH hlow.1 hB.out.size))
      clear h1 q1 p1 k1 m1 HP1 c1 c2 hS hXN hlt' hlow HOK hHp hP
      have c3 := IN.out.cell 2 rfl
      have c4 := IN.out.cell 3 rfl
      have HP2 := hidH (heapPush_any w.heap.size H g1 gc1 (2 * k + 1) es1 y1 y2 true w1 S1.out (by omega) HOK1.out HRK.out.2 Q1.out)
      go_wp2_with fail
      refine HP2.out.mono ?_
      rintro e w2 ⟨rfl, g2, gc2, es2, h1, p1, q1, k1, m1⟩
      have hlow := S1.out.2.1.lt g1 rfl
      have S2 := hidH h1
      have Q2 := hidH q1
      have P2 := hidH (p1.trans (P1.out.append_right _))
      replace hB := hidH (hB.out.trans (k1.below hwH hlow.1 hB.out.size))
      clear h1 q1 p1 k1 m1 HP2 c3 c4 S1 hlow HOK1 Q1 P1
      go_wp2
      go_roundw
      case rel => exact ⟨k + 1, g2, gc2, es2, by omega, by go_num, S2.out, by rw [HN.out]; exact P2.out, Q2.out, hB.out⟩
      case measure => simp [intOf]; omega
    · obtain rfl : k = L := by omega
      have c0 := hS.out.c0
      go_wp2
      refine bodyPost_ret (results_tmp rfl _ _ _) rfl ⟨g, gc, es, rfl, hS.out.2.1, ?_, hHp.out, hB.out⟩
      rw [HFE.out]
      exact hP.out
end Go.Proofs.Ythfdpdnphnjebaa
