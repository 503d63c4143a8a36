/- The walks of the program's steps on rows: one divided, so many times one taken from another. -/
import Derived.Test.YtkcdpjcfbpjkeaiEchMath
import Derived.Test.YtkcdpjcfbpjkeaiTimW1
namespace Go.Proofs.Ytkcdpjcfbpjkeai
open Go.RowKit Go.Proofs.Ytkcdpjcfbpjkeai.RM

theorem divC (x1 x2 y1 y2 : Int) (w : World) :
    Calls Try.prog 88 #[.agg #[.int .i64 x1, .int .i64 x2], .agg #[.int .i64 y1, .int .i64 y2]] w fun e w' => e = .returned (.tuple #[.agg #[.int .i64 (divP (x1, x2) (y1, y2)).1, .int .i64 (divP (x1, x2) (y1, y2)).2], .bool (divK (x1, x2) (y1, y2))]) ∧ Below w.heap.size w w' := iDiv_any x1 x2 y1 y2 w
theorem subC (x1 x2 y1 y2 : Int) (w : World) :
    Calls Try.prog 89 #[.agg #[.int .i64 x1, .int .i64 x2], .agg #[.int .i64 y1, .int .i64 y2]] w fun e w' => e = .returned (.tuple #[.agg #[.int .i64 (subP (x1, x2) (y1, y2)).1, .int .i64 (subP (x1, x2) (y1, y2)).2], .bool (subK (x1, x2) (y1, y2))]) ∧ Below w.heap.size w w' := iSub_any x1 x2 y1 y2 w

/-- the first k elements by one function, the others as they were -/
def parF (f : Nat → Fr) (row : List Fr) (k : Nat) : List Fr := (List.range row.length).map fun i => if i < k then f i else fr row i
theorem parF_len (f : Nat → Fr) (row : List Fr) (k : Nat) : (parF f row k).length = row.length := by simp [parF]
theorem parF_zero (f : Nat → Fr) (row : List Fr) : parF f row 0 = row := by
  apply List.ext_getElem
  · rw [parF_len]
  · intro i h1 h2
    simp [parF, fr, h2]
theorem parF_set (f : Nat → Fr) (row : List Fr) (k : Nat) : (parF f row k).set k (f k) = parF f row (k + 1) := by
  apply List.ext_getElem
  · simp [parF]
  · intro i h1 h2
    simp only [parF, List.getElem_set, List.getElem_map, List.getElem_range]
    by_cases e : k = i
    · subst e
      rw [if_pos rfl, if_pos (by omega)]
    · rw [if_neg e]
      by_cases h3 : i < k
      · rw [if_pos h3, if_pos (by omega)]
      · rw [if_neg h3, if_neg (by omega)]
theorem parF_at (f : Nat → Fr) (row : List Fr) (k : Nat) (h : k < row.length) : (parF f row k)[k]?.getD (0, 0) = fr row k := by simp [parF, h]
theorem parF_div (row : List Fr) (g : Fr) : parF (fun i => divP (fr row i) g) row row.length = divR row g := by
  apply List.ext_getElem
  · simp [parF, divR]
  · intro i h1 h2
    rw [parF_len] at h1
    simp [parF, divR, fr, h1]
theorem parF_take (row : List Fr) (t : Fr) (what : List Fr) : parF (fun i => takeE (fr row i) t (fr what i)) row row.length = takeR row t what := by
  apply List.ext_getElem
  · simp [parF, takeR]
  · intro i h1 h2
    rw [parF_len] at h1
    simp [parF, takeR, h1]
theorem divB_no {row : List Fr} {g : Fr} {k : Nat} (hk : k < row.length) (h : divK (fr row k) g = false) : divB row g = false := all_no _ (0, 0) hk h
theorem divB_yes {row : List Fr} {g : Fr} (h : ∀ k, k < row.length → divK (fr row k) g = true) : divB row g = true := all_yes _ (0, 0) h
theorem takeB_no {row : List Fr} {t : Fr} {what : List Fr} {k : Nat} (hk : k < row.length) (h : takeK (fr row k) t (fr what k) = false) : takeB row t what = false := by
  rw [← Bool.not_eq_true]
  intro ha
  unfold takeB at ha
  rw [List.all_eq_true] at ha
  have := ha k (by simpa using hk)
  rw [h] at this
  exact absurd this (by simp)
theorem takeB_yes {row : List Fr} {t : Fr} {what : List Fr} (h : ∀ k, k < row.length → takeK (fr row k) t (fr what k) = true) : takeB row t what = true := by
  unfold takeB
  rw [List.all_eq_true]
  intro k hk
  exact h k (by simpa using hk)

set_option maxRecDepth 100000 in
set_option maxHeartbeats 2000000 in
theorem divRow_any (v : Value) (row : List Fr) (f1 f2 : Int) (base : Nat) (w : World) (hn2 : row.length ≤ 1000) (h : w.ownsRow base 24 2 v row.length (cellsR row)) :
    Calls Try.prog 86 #[v, .agg #[.int .i64 f1, .int .i64 f2]] w fun e w' => e = .returned (.bool (divB row (f1, f2))) ∧ (divB row (f1, f2) = true → w'.ownsRow base 24 2 v row.length (cellsR (divR row (f1, f2)))) ∧ w.grownBy w' v.ownBlock := by
  have b0 : ∀ {u : World} (o : Obj), Below u.heap.size u (u.alloc o) := fun o => (Below.refl _ _).alloc (Nat.le_refl _) o
  obtain ⟨n, hn⟩ : ∃ n, row.length = n := ⟨_, rfl⟩
  rw [hn] at h hn2 ⊢
  by_cases h0 : n = 0
  · subst h0
    obtain rfl : row = [] := List.eq_nil_of_length_eq_zero hn
    obtain ⟨a, c, rfl⟩ := own_shape h
    have H1 : Hid (w.ownsRow base 24 2 (.slice a 0 c) 0 []) := h
    clear h hn
    go_enter Try.func86, Try.ntmps86
    go_wp2
    go_loop [11] (fun i => i = .int .i64 0) (fun _ => 0)
    case atStart => exact rfl
    case round =>
      subst hrel
      go_wp2
      go_ret
      exact ⟨rfl, fun _ => own_below H1.out (b0 _), grown_new (b0 _)⟩
  · obtain ⟨g, c, rfl⟩ := own_some h (by omega)
    have hg : g < w.heap.size := (World.ownsRow.lt h g rfl).2
    have HN : Hid (row.length = n) := hn
    have H1 : Hid (w.ownsRow base 24 2 (.slice (some ⟨g, 0, none⟩) n c) n (cellsR row)) := h
    clear h hn h0
    go_enter Try.func86, Try.ntmps86
    go_wp2
    obtain ⟨F, hF⟩ : ∃ F, F = w.heap.size := ⟨_, rfl⟩
    obtain ⟨X, hX⟩ : ∃ X, X = w.alloc (.cells #[.int .i64 f1, .int .i64 f2] 24) := ⟨_, rfl⟩
    have rF : IsR X F f1 f2 := by rw [hX, hF]; exact IsR.new w f1 f2
    have o0 : X.ownsRow base 24 2 (.slice (some ⟨g, 0, none⟩) n c) n (cellsR (parF (fun i => divP (fr row i) (f1, f2)) row 0)) := by
      rw [parF_zero, hX]; exact own_below H1.out (b0 _)
    have g0 : w.grownBy X (some g) := by rw [hX]; exact grown_new (b0 _)
    have hFg : F ≠ g := by omega
    rw [← hX, ← hF]
    clear hX hF H1
    go_loopw [11] (fun i wr => ∃ k : Nat, k ≤ n ∧ i = .int .i64 k ∧ Hid (IsR wr F f1 f2) ∧ Hid (wr.ownsRow base 24 2 (.slice (some ⟨g, 0, none⟩) n c) n (cellsR (parF (fun i => divP (fr row i) (f1, f2)) row k))) ∧ Hid (w.grownBy wr (some g)) ∧ Hid (∀ i, i < k → divK (fr row i) (f1, f2) = true)) (fun i _ => n - (intOf i).toNat)
    case atStart => exact ⟨0, Nat.zero_le _, rfl, rF, o0, g0, fun i hi => absurd hi (Nat.not_lt_zero _)⟩
    case round =>
      clear rF o0 g0
      obtain ⟨k, hk, rfl, rF, hO, hG, HP⟩ := hrel
      by_cases hlt : k < n
      · obtain ⟨c1, c2⟩ := own_R hO.out (by rw [parF_len]; exact HN.out) k hlt
        rw [parF_at _ _ _ (by rw [HN.out]; exact hlt)] at c1 c2
        obtain ⟨x, hx⟩ : ∃ x, x = fr row k := ⟨_, rfl⟩
        have HX : Hid (x = fr row k) := hx
        rw [← hx] at c1 c2
        obtain ⟨x1, x2⟩ := x
        obtain ⟨q, hq⟩ : ∃ q, q = divP (x1, x2) (f1, f2) := ⟨_, rfl⟩
        obtain ⟨qo, hqo⟩ : ∃ q, q = divK (x1, x2) (f1, f2) := ⟨_, rfl⟩
        have HD : Hid (∀ u : World, Calls Try.prog 88 #[.agg #[.int .i64 x1, .int .i64 x2], .agg #[.int .i64 f1, .int .i64 f2]] u fun e w' => e = .returned (.tuple #[.agg #[.int .i64 q.1, .int .i64 q.2], .bool qo]) ∧ Below u.heap.size u w') := by
          intro u; rw [hq, hqo]; exact divC x1 x2 f1 f2 u
        have HQ : Hid (q = divP (x1, x2) (f1, f2)) := hq
        have HQO : Hid (qo = divK (x1, x2) (f1, f2)) := hqo
        obtain ⟨q1, q2⟩ := q
        dsimp only at c1 c2 HD
        have hgl : g < wr.heap.size := (World.ownsRow.lt hO.out g rfl).2
        have hFl := rF.out.lt
        have rFx := rF.out.below (b0 (.cells #[.int .i64 x1, .int .i64 x2] 24))
        have rF0 := rFx.c0
        have rF1 := rFx.c1
        clear hx hq hqo rFx
        go_wp2_with fail
        refine (HD.out _).mono ?_
        rintro e w2 ⟨rfl, hb⟩
        have hbx : Below wr.heap.size wr (w2.alloc (.cells #[.int .i64 q1, .int .i64 q2] 24)) := ((b0 _).trans (hb.mono (by simp))).alloc (by have := hb.size; simp at this; omega) _
        have hO2 := own_below hO.out hbx
        have rF2 := rF.out.below hbx
        have hG2 := g_below hG.out hbx
        obtain ⟨d1, d2⟩ := own_R hO2 (by rw [parF_len]; exact HN.out) k hlt
        have e1 := hO2.frozenAt (k * 2)
        have e2 := hO2.frozenAt (k * 2 + 1)
        generalize ((parF (fun i => divP (fr row i) (f1, f2)) row k)[k]?.getD (0, 0)).1 = y1 at d1
        generalize ((parF (fun i => divP (fr row i) (f1, f2)) row k)[k]?.getD (0, 0)).2 = y2 at d2
        clear hb hbx rF0 rF1
        cases qo
        · have HB : Hid (divB row (f1, f2) = false) := divB_no (by rw [HN.out]; exact hlt) (by rw [← HX.out]; exact HQO.out.symm)
          go_wp2
          go_ret
          exact ⟨ret_b HB.out.symm, fun h => by rw [HB.out] at h; exact absurd h (by simp), hG2⟩
        · go_wp2
          go_roundw
          case rel =>
            obtain ⟨s1, s2⟩ := hO2.stored (k * 2) (.int .i64 q1)
            obtain ⟨s3, s4⟩ := s1.stored (k * 2 + 1) (.int .i64 q2)
            rw [cellsR_set _ _ _ _ (by rw [parF_len, HN.out]; exact hlt), show ((q1, q2) : Fr) = divP (fr row k) (f1, f2) by rw [← HX.out]; exact HQ.out, parF_set (fun i => divP (fr row i) (f1, f2))] at s3
            refine ⟨k + 1, by omega, by go_num, (rF2.other hFg (k * 2) (.int .i64 q1)).other hFg (k * 2 + 1) (.int .i64 q2), s3, (hG2.trans s2).trans s4, fun i hi => ?_⟩
            by_cases e : i = k
            · subst e; rw [← HX.out]; exact HQO.out.symm
            · exact HP.out i (by omega)
          case measure => simp [intOf]; omega
      · obtain rfl : k = n := by omega
        have HB : Hid (divB row (f1, f2) = true) := divB_yes (fun i hi => HP.out i (by rw [← HN.out]; exact hi))
        go_wp2
        go_ret
        refine ⟨ret_b HB.out.symm, fun _ => ?_, hG.out⟩
        have := hO.out
        rw [← HN.out, parF_div, HN.out] at this
        exact this
end Go.Proofs.Ytkcdpjcfbpjkeai
