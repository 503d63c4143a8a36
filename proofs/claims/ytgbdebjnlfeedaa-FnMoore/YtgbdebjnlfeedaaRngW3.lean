/- The walk of the program's ends: the least range with all fractions of a list. -/
import Derived.Test.YtgbdebjnlfeedaaRngW1
import Derived.Deep.DeepCutAuto
import Derived.Deep.RegionHeld3
import Derived.BigRegion
import Derived.IntWalk
namespace Go.Proofs.Ytgbdebjnlfeedaa
open Go.RowKit Go.Proofs.Ytgbdebjnlfeedaa.RM

def nth7 (ps : List P7) (j : Nat) : P7 := ps[j]?.getD (0, 0)
/-- a row of fractions that can be read -/
def RdP (W : World) (b off : Nat) (ps : List P7) : Prop := ∀ j, j < ps.length → W.cell? ⟨b, off + j * 2, none⟩ = some (.int .i64 (nth7 ps j).1) ∧ W.cell? ⟨b, off + j * 2 + 1, none⟩ = some (.int .i64 (nth7 ps j).2)
theorem drop7 {ps : List P7} {k : Nat} (h : k < ps.length) : ps.drop k = nth7 ps k :: ps.drop (k + 1) := by
  rw [List.drop_eq_getElem_cons h]; unfold nth7; rw [List.getElem?_eq_getElem h]; rfl
theorem IsB.setLo {W : World} {B : Nat} {a0 a1 a2 a3 : Value} {t : TypeId} (h : IsB W B #[a0, a1, a2, a3] t) (b0 b1 : Value) : IsB ((W.setCell ⟨B, 0, none⟩ b0).setCell ⟨B, 1, none⟩ b1) B #[b0, b1, a2, a3] t := (h.set 0 b0).set 1 b1
theorem IsB.setHi {W : World} {B : Nat} {a0 a1 a2 a3 : Value} {t : TypeId} (h : IsB W B #[a0, a1, a2, a3] t) (b0 b1 : Value) : IsB ((W.setCell ⟨B, 2, none⟩ b0).setCell ⟨B, 3, none⟩ b1) B #[a0, a1, b0, b1] t := (h.set 2 b0).set 3 b1

theorem ends7_step {lo hi v : P7} {vs : List P7} {r : A7} (h : ends7 lo hi (v :: vs) = r) (hv : okB v.1 v.2 = true) : ends7 (lst7 lo v) (mst7 hi v) vs = r := by
  unfold ends7 at h; rwa [if_pos (show ok7 v = true from hv)] at h
theorem ends7_stop {lo hi v : P7} {vs : List P7} {r : A7} (h : ends7 lo hi (v :: vs) = r) (hv : okB v.1 v.2 = false) : no7 = r := by
  unfold ends7 at h
  rw [if_neg (by unfold ok7; rw [hv]; exact Bool.false_ne_true)] at h
  exact h
theorem lst7_yes {a b c d : Int} (h : lessB c d a b = true) : lst7 (a, b) (c, d) = (c, d) := if_pos h
theorem lst7_no {a b c d : Int} (h : lessB c d a b = false) : lst7 (a, b) (c, d) = (a, b) := if_neg (by show ¬ lessB c d a b = true; rw [h]; exact Bool.false_ne_true)
theorem mst7_yes {a b c d : Int} (h : lessB a b c d = true) : mst7 (a, b) (c, d) = (c, d) := if_pos h
theorem mst7_no {a b c d : Int} (h : lessB a b c d = false) : mst7 (a, b) (c, d) = (a, b) := if_neg (by show ¬ lessB a b c d = true; rw [h]; exact Bool.false_ne_true)

set_option maxRecDepth 100000 in
set_option maxHeartbeats 4000000 in
theorem ends_any (b off n c : Nat) (ps : List P7) (w : World) (hn : ps.length = n) (h0 : 0 < n) (hm : n ≤ 1000) (h : RdP w b off ps) :
    Calls Try.prog 24 #[.slice (some ⟨b, off, none⟩) n c] w fun e w' => e = .returned (.tuple #[.agg #[.int .i64 (ends7 (nth7 ps 0) (nth7 ps 0) ps).1.1, .int .i64 (ends7 (nth7 ps 0) (nth7 ps 0) ps).1.2, .int .i64 (ends7 (nth7 ps 0) (nth7 ps 0) ps).2.1.1, .int .i64 (ends7 (nth7 ps 0) (nth7 ps 0) ps).2.1.2], .bool (ends7 (nth7 ps 0) (nth7 ps 0) ps).2.2]) ∧ Below w.heap.size w w' := by
  have H := hidU h
  have HN := hidU hn
  obtain ⟨c0, c1⟩ := h 0 (by omega)
  rw [Nat.zero_mul, Nat.add_zero] at c0 c1
  obtain ⟨p, hp⟩ : ∃ p, p = nth7 ps 0 := ⟨_, rfl⟩
  rw [← hp] at c0 c1 ⊢
  obtain ⟨r, hr⟩ : ∃ r, r = ends7 p p ps := ⟨_, rfl⟩
  have HR : Hid (ends7 p p ps = r) := hr.symm
  rw [← hr]
  obtain ⟨x, y⟩ := p
  simp only at c0 c1
  clear h hn hp hr
  go_enter Try.func24, Try.ntmps24
  go_upto_region 1 with fail
  obtain ⟨W0, hW⟩ : ∃ Y, Y = w.alloc (.cells #[.int .i64 0, .int .i64 0, .int .i64 0, .int .i64 0] 27) := ⟨_, rfl⟩
  obtain ⟨R, hR⟩ : ∃ R, R = w.heap.size := ⟨_, rfl⟩
  have KR : Hid (IsB W0 R #[.int .i64 0, .int .i64 0, .int .i64 0, .int .i64 0] 27) := by show IsB _ _ _ _; rw [hW, hR]; exact IsB.new w _ _
  have hb : Below w.heap.size w W0 := by rw [hW]; exact b0_any _ _
  have HB := hidU hb
  have l0 := World.block_lt_of_cell? w _ c0
  replace c0 := (hb.cell (p := ⟨b, off, none⟩) l0).trans c0
  replace c1 := (hb.cell (p := ⟨b, off + 1, none⟩) l0).trans c1
  have HRw : Hid (w.heap.size ≤ R) := by show _ ≤ _; omega
  rw [← hW, ← hR]
  have hlb : b < W0.heap.size := lt_cell c0
  clear hW hR hb l0
  go_region
  obtain ⟨W1, hW⟩ : ∃ Y, Y = (W0.alloc (.cells #[.int .i64 x, .int .i64 y, .int .i64 x, .int .i64 y] 27)).drew := ⟨_, rfl⟩
  obtain ⟨A, hA⟩ : ∃ A, A = W0.heap.size := ⟨_, rfl⟩
  have KA : Hid (IsB W1 A #[.int .i64 x, .int .i64 y, .int .i64 x, .int .i64 y] 27) := by show IsB _ _ _ _; rw [hW, hA]; exact (IsB.new W0 _ _).drew
  have hb : Below W0.heap.size W0 W1 := by rw [hW]; exact (b0_any _ _).drew
  have HAR : Hid (R ≠ A) := by show _ ≠ _; have := KR.out.lt; rw [hA]; omega
  have HAw : Hid (w.heap.size ≤ A) := by show _ ≤ _; rw [hA]; exact HB.out.size
  replace KR := hidU (KR.out.below hb)
  replace HB := hidU (HB.out.trans (hb.mono HB.out.size))
  rw [← hW, ← hA]
  clear hW hA hb c0 c1 hlb
  have HT := hidU (fun u v W => right_any u v W)
  have HL := hidU (fun a b c d W => iLess_any a b c d W)
  go_wp2
  go_loopw [16] (fun i wr => ∃ k : Nat, k ≤ n ∧ i = .int .i64 k ∧ ∃ l1 l2 h1 h2 : Int, Hid (ends7 (l1, l2) (h1, h2) (ps.drop k) = r) ∧ Hid (IsB wr A #[.int .i64 l1, .int .i64 l2, .int .i64 h1, .int .i64 h2] 27) ∧ Hid (IsB wr R #[.int .i64 0, .int .i64 0, .int .i64 0, .int .i64 0] 27) ∧ Hid (Below w.heap.size w wr)) (fun i _ => n - (intOf i).toNat)
  case atStart => exact ⟨0, Nat.zero_le _, rfl, x, y, x, y, HR.out, KA.out, KR.out, HB.out⟩
  case round =>
    clear KA KR HB HR
    obtain ⟨k, hk, rfl, l1, l2, h1, h2, HR, KA, KR, HB⟩ := hrel
    by_cases hlt : k < n
    · obtain ⟨c0, c1⟩ := H.out k (by rw [HN.out]; exact hlt)
      have hs := World.block_lt_of_cell? w _ c0
      replace c0 := (HB.out.cell (p := ⟨b, off + k * 2, none⟩) hs).trans c0
      replace c1 := (HB.out.cell (p := ⟨b, off + k * 2 + 1, none⟩) hs).trans c1
      have HD := hidU (drop7 (ps := ps) (k := k) (by rw [HN.out]; exact hlt))
      obtain ⟨p, hp⟩ : ∃ p, p = nth7 ps k := ⟨_, rfl⟩
      rw [← hp] at c0 c1 HD
      obtain ⟨u, v⟩ := p
      simp only at c0 c1
      have HTu := hidU (fun W => HT.out u v W)
      have HL1 := hidU (fun W => HL.out u v l1 l2 W)
      have HL2 := hidU (fun W => HL.out h1 h2 u v W)
      obtain ⟨ok, hok⟩ : ∃ z, z = okB u v := ⟨_, rfl⟩
      obtain ⟨q1, hq1⟩ : ∃ z, z = lessB u v l1 l2 := ⟨_, rfl⟩
      obtain ⟨q2, hq2⟩ : ∃ z, z = lessB h1 h2 u v := ⟨_, rfl⟩
      rw [← hok] at HTu
      rw [← hq1] at HL1
      rw [← hq2] at HL2
      have HOK := hidU hok
      have HQ1 := hidU hq1
      have HQ2 := hidU hq2
      clear hp hs hok hq1 hq2
      go_wp2_with fail
      refine (HTu.out _).mono ?_
      rintro e w1 ⟨rfl, hb⟩
      obtain ⟨V, hV⟩ : ∃ V, V = wr.heap.size := ⟨_, rfl⟩
      have KV : Hid (IsB w1 V #[.int .i64 u, .int .i64 v] 25) := by show IsB _ _ _ _; rw [hV]; exact (IsB.new wr _ _).below hb
      have HAV : Hid (V ≠ A ∧ V ≠ R) := by show _ ∧ _; have := KA.out.lt; have := KR.out.lt; rw [hV]; omega
      replace KA := hidU ((KA.out.below (b0_any _ _)).below hb)
      replace KR := hidU ((KR.out.below (b0_any _ _)).below hb)
      replace HB := hidU ((HB.out.alloc HB.out.size _).trans (hb.mono (by have := HB.out.size; simp <;> omega)))
      rw [← hV]
      clear hV hb c0 c1
      obtain ⟨v0, v1⟩ := KV.out.c2
      cases ok
      · obtain ⟨z0, z1, z2, z3⟩ := KR.out.c4
        obtain ⟨f0, f1, f2, f3⟩ := KR.out.f4
        go_wp2
        have hrr := HR.out
        rw [HD.out] at hrr
        obtain rfl := ends7_stop hrr HOK.out.symm
        obtain ⟨g0, g1, g2, g3⟩ := (KR.out.set4 (.int .i64 0) (.int .i64 0) (.int .i64 0) (.int .i64 0)).c4
        exact bodyPost_ret (v := .tuple #[.agg #[.int .i64 0, .int .i64 0, .int .i64 0, .int .i64 0], .bool false]) (by simp [results, Try.results24, go_sem, g0, g1, g2, g3]) rfl ⟨rfl, below_set4 HB.out HRw.out _ _ _ _⟩
      have hrr := HR.out
      rw [HD.out] at hrr
      have HR2 := hidU (ends7_step hrr HOK.out.symm)
      clear hrr HR HD
      obtain ⟨a0, a1, a2, a3⟩ := KA.out.c4
      go_wp2_with fail
      refine (HL1.out _).mono ?_
      rintro e w2 ⟨rfl, hb⟩
      replace KA := hidU (KA.out.below hb)
      replace KR := hidU (KR.out.below hb)
      replace KV := hidU (KV.out.below hb)
      replace HB := hidU (HB.out.trans (hb.mono HB.out.size))
      clear hb a0 a1 a2 a3 v0 v1
      obtain ⟨a0, a1, a2, a3⟩ := KA.out.c4
      obtain ⟨v0, v1⟩ := KV.out.c2
      obtain ⟨f0, f1, f2, f3⟩ := KA.out.f4
      cases q1
      · clear a0 a1 a2 a3 f0 f1 f2 f3 v0 v1
        obtain ⟨a0, a1, a2, a3⟩ := KA.out.c4
        obtain ⟨v0, v1⟩ := KV.out.c2
        go_wp2_with fail
        refine (HL2.out _).mono ?_
        rintro e w3 ⟨rfl, hb⟩
        replace KA := hidU (KA.out.below hb)
        replace KR := hidU (KR.out.below hb)
        replace KV := hidU (KV.out.below hb)
        replace HB := hidU (HB.out.trans (hb.mono HB.out.size))
        clear hb
        obtain ⟨a0, a1, a2, a3⟩ := KA.out.c4
        obtain ⟨v0, v1⟩ := KV.out.c2
        obtain ⟨f0, f1, f2, f3⟩ := KA.out.f4
        cases q2
        · go_wp2
          go_roundw
          case rel =>
            refine ⟨k + 1, by omega, by go_num, l1, l2, h1, h2, ?_, KA.out, KR.out, HB.out⟩
            have h3 := HR2.out
            rw [lst7_no HQ1.out.symm, mst7_no HQ2.out.symm] at h3
            exact h3
          case measure => simp [intOf]; omega
        · go_wp2
          go_roundw
          case rel =>
            refine ⟨k + 1, by omega, by go_num, l1, l2, u, v, ?_, KA.out.setHi (.int .i64 u) (.int .i64 v), (KR.out.other HAR.out 2 _).other HAR.out 3 _, (HB.out.setCell (p := ⟨A, 2, none⟩) HAw.out _).setCell (p := ⟨A, 3, none⟩) HAw.out _⟩
            have h3 := HR2.out
            rw [lst7_no HQ1.out.symm, mst7_yes HQ2.out.symm] at h3
            exact h3
          case measure => simp [intOf]; omega
      · go_upto_region 9 with fail
        replace KA := hidU (KA.out.setLo (.int .i64 u) (.int .i64 v))
        replace KR := hidU ((KR.out.other HAR.out 0 (.int .i64 u)).other HAR.out 1 (.int .i64 v))
        replace KV := hidU ((KV.out.other HAV.out.1 0 (.int .i64 u)).other HAV.out.1 1 (.int .i64 v))
        replace HB := hidU ((HB.out.setCell (p := ⟨A, 0, none⟩) HAw.out (.int .i64 u)).setCell (p := ⟨A, 1, none⟩) HAw.out (.int .i64 v))
        obtain ⟨w4, hw4⟩ : ∃ Y, Y = (w2.setCell ⟨A, 0, none⟩ (.int .i64 u)).setCell ⟨A, 1, none⟩ (.int .i64 v) := ⟨_, rfl⟩
        rw [← hw4] at KA KR KV HB ⊢
        clear a0 a1 a2 a3 f0 f1 f2 f3 v0 v1 hw4
        obtain ⟨a0, a1, a2, a3⟩ := KA.out.c4
        obtain ⟨v0, v1⟩ := KV.out.c2
        go_wp2_with fail
        refine (HL2.out _).mono ?_
        rintro e w3 ⟨rfl, hb⟩
        replace KA := hidU (KA.out.below hb)
        replace KR := hidU (KR.out.below hb)
        replace KV := hidU (KV.out.below hb)
        replace HB := hidU (HB.out.trans (hb.mono HB.out.size))
        clear hb
        obtain ⟨a0, a1, a2, a3⟩ := KA.out.c4
        obtain ⟨v0, v1⟩ := KV.out.c2
        obtain ⟨f0, f1, f2, f3⟩ := KA.out.f4
        cases q2
        · go_wp2
          go_roundw
          case rel =>
            refine ⟨k + 1, by omega, by go_num, u, v, h1, h2, ?_, KA.out, KR.out, HB.out⟩
            have h3 := HR2.out
            rw [lst7_yes HQ1.out.symm, mst7_no HQ2.out.symm] at h3
            exact h3
          case measure => simp [intOf]; omega
        · go_wp2
          go_roundw
          case rel =>
            refine ⟨k + 1, by omega, by go_num, u, v, u, v, ?_, KA.out.setHi (.int .i64 u) (.int .i64 v), (KR.out.other HAR.out 2 _).other HAR.out 3 _, (HB.out.setCell (p := ⟨A, 2, none⟩) HAw.out _).setCell (p := ⟨A, 3, none⟩) HAw.out _⟩
            have h3 := HR2.out
            rw [lst7_yes HQ1.out.symm, mst7_yes HQ2.out.symm] at h3
            exact h3
          case measure => simp [intOf]; omega
    · have HK := hidU (show k = n by omega)
      have hrr := HR.out
      rw [HK.out, List.drop_eq_nil_of_le (by rw [HN.out]; exact Nat.le_refl _)] at hrr
      obtain rfl : ((l1, l2), (h1, h2), true) = r := hrr
      obtain ⟨a0, a1, a2, a3⟩ := KA.out.c4
      obtain ⟨z0, z1, z2, z3⟩ := KR.out.c4
      obtain ⟨f0, f1, f2, f3⟩ := KR.out.f4
      go_wp2
      obtain ⟨g0, g1, g2, g3⟩ := (KR.out.set4 (.int .i64 l1) (.int .i64 l2) (.int .i64 h1) (.int .i64 h2)).c4
      exact bodyPost_ret (v := .tuple #[.agg #[.int .i64 l1, .int .i64 l2, .int .i64 h1, .int .i64 h2], .bool true]) (by simp [results, Try.results24, go_sem, g0, g1, g2, g3]) rfl ⟨rfl, below_set4 HB.out HRw.out _ _ _ _⟩
end Go.Proofs.Ytgbdebjnlfeedaa
