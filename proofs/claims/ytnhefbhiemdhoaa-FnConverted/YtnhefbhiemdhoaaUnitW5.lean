/- What is shown of a word; Word and Both, the program's. -/
import Derived.Test.YtnhefbhiemdhoaaUnitW4
import Derived.Test.YtnhefbhiemdhoaaRowsW
import Derived.BigRegion
namespace Go.Proofs.Ytnhefbhiemdhoaa
open Go.RowKit Go.MapKept Go.Proofs.Ytnhefbhiemdhoaa.RM

set_option maxRecDepth 100000 in
set_option maxHeartbeats 1000000 in
theorem shown_no (u : UV) (w : World) :
    Calls Try.prog 27 #[uVal u, .bool false] w fun e w' => ∃ g, e = .returned (.tuple #[.agg #[.int .i64 0, .int .i64 0], .slice (some ⟨g, 0, none⟩) 0 0, .bool false]) ∧ w.heap.size ≤ g ∧ IsB w' g #[] 2 ∧ Below w.heap.size w w' := by
  have b0 : ∀ (u : World) (o : Obj), Below u.heap.size u (u.alloc o) := fun u o => (Below.refl _ _).alloc (Nat.le_refl _) o
  obtain ⟨n, d, x0, x1, x2, x3, x4⟩ := u
  simp only [uVal]
  go_enter Try.func27, Try.ntmps27
  go_wp2
  refine bodyPost_ret (v := .tuple #[.agg #[.int .i64 0, .int .i64 0], .slice (some ⟨w.heap.size + 1 + 1, 0, none⟩) 0 0, .bool false]) (by simp [results, Try.results27, go_sem]) rfl ⟨_, rfl, by omega, ?_, ((b0 _ _).alloc (by simp) _).alloc (by simp; omega) _⟩
  have := IsB.new ((w.alloc (.cells #[.int .i64 n, .int .i64 d, .int .i64 x0, .int .i64 x1, .int .i64 x2, .int .i64 x3, .int .i64 x4] 47)).alloc (.cells #[.int .i64 0, .int .i64 0] 25)) #[] 2
  simpa using this
set_option maxRecDepth 100000 in
set_option maxHeartbeats 1000000 in
theorem shown_yes (u : UV) (w : World) :
    Calls Try.prog 27 #[uVal u, .bool true] w fun e w' => ∃ g, e = .returned (.tuple #[.agg #[.int .i64 u.n, .int .i64 u.d], .slice (some ⟨g, 2, none⟩) 5 5, .bool true]) ∧ w.heap.size ≤ g ∧ IsB w' g #[.int .i64 u.n, .int .i64 u.d, .int .i64 u.x0, .int .i64 u.x1, .int .i64 u.x2, .int .i64 u.x3, .int .i64 u.x4] 47 ∧ Below w.heap.size w w' := by
  have b0 : ∀ (u : World) (o : Obj), Below u.heap.size u (u.alloc o) := fun u o => (Below.refl _ _).alloc (Nat.le_refl _) o
  obtain ⟨n, d, x0, x1, x2, x3, x4⟩ := u
  simp only [uVal]
  go_enter Try.func27, Try.ntmps27
  go_upto_region 3 with fail
  go_region
  go_wp2
  exact bodyPost_ret (v := .tuple #[.agg #[.int .i64 n, .int .i64 d], .slice (some ⟨w.heap.size, 2, none⟩) 5 5, .bool true]) (by simp [results, Try.results27, go_sem]) rfl ⟨_, rfl, Nat.le_refl _, ((IsB.new w _ _).below (b0 _ _)).drew, ((b0 _ _).alloc (by simp) _).drew⟩

/-- a row of numbers in memory of its own, wherever in its block -/
def RowU (W : World) (base : Nat) (v : Value) (xs : List Int) : Prop :=
  ∃ g off vs t, v = .slice (some ⟨g, off, none⟩) xs.length xs.length ∧ base ≤ g ∧ IsB W g vs t ∧ off + xs.length = vs.size ∧ ∀ j, j < xs.length → vs[off + j]? = some (.int .i64 (xs[j]?.getD 0))
theorem RowU.below {W W' : World} {base : Nat} {v : Value} {xs : List Int} (h : RowU W base v xs) (hb : Below W.heap.size W W') : RowU W' base v xs := by
  obtain ⟨g, off, vs, t, h1, h2, h3, h4⟩ := h
  exact ⟨g, off, vs, t, h1, h2, h3.below hb, h4⟩
theorem RowU.mono {W : World} {base base' : Nat} {v : Value} {xs : List Int} (h : RowU W base v xs) (hb : base' ≤ base) : RowU W base' v xs := by
  obtain ⟨g, off, vs, t, h1, h2, h3⟩ := h
  exact ⟨g, off, vs, t, h1, Nat.le_trans hb h2, h3⟩
theorem RowU.other {W : World} {base Z : Nat} {v : Value} {xs : List Int} (h : RowU W base v xs) (hZ : Z < base) (o : Nat) (x : Value) : RowU (W.setCell ⟨Z, o, none⟩ x) base v xs := by
  obtain ⟨g, off, vs, t, h1, h2, h3, h4⟩ := h
  exact ⟨g, off, vs, t, h1, h2, h3.other (by omega) o x, h4⟩
theorem RowU.five {W : World} {base g : Nat} {u : UV} (hg : base ≤ g) (h : IsB W g #[.int .i64 u.n, .int .i64 u.d, .int .i64 u.x0, .int .i64 u.x1, .int .i64 u.x2, .int .i64 u.x3, .int .i64 u.x4] 47) : RowU W base (.slice (some ⟨g, 2, none⟩) 5 5) u.dims :=
  ⟨g, 2, _, _, rfl, hg, h, rfl, fun j hj => by
    match j, hj with
    | 0, _ => rfl
    | 1, _ => rfl
    | 2, _ => rfl
    | 3, _ => rfl
    | 4, _ => rfl⟩
theorem RowU.empty {W : World} {base g : Nat} {t : TypeId} (hg : base ≤ g) (h : IsB W g #[] t) : RowU W base (.slice (some ⟨g, 0, none⟩) 0 0) [] :=
  ⟨g, 0, _, _, rfl, hg, h, rfl, fun j hj => absurd hj (by simp)⟩

theorem shown_any (p : UV × Bool) (w : World) :
    Calls Try.prog 27 #[uVal p.1, .bool p.2] w fun e w' => ∃ v, e = .returned (.tuple #[.agg #[.int .i64 (told p).1, .int .i64 (told p).2.1], v, .bool (told p).2.2.2]) ∧ RowU w' w.heap.size v (told p).2.2.1 ∧ Below w.heap.size w w' := by
  obtain ⟨u, b⟩ := p
  cases b with
  | false =>
    refine (shown_no u w).mono ?_
    rintro e w' ⟨g, rfl, h1, h2, h3⟩
    exact ⟨_, rfl, .empty h1 h2, h3⟩
  | true =>
    refine (shown_yes u w).mono ?_
    rintro e w' ⟨g, rfl, h1, h2, h3⟩
    exact ⟨_, rfl, .five h1 h2, h3⟩

set_option maxRecDepth 100000 in
set_option maxHeartbeats 1000000 in
theorem iWord_any (s : ByteArray) (w : World) (hs : s.size ≤ 1048576) :
    Calls Try.prog 8 #[.string s] w fun e w' => ∃ v, e = .returned (.tuple #[.agg #[.int .i64 (wordS s.data.toList).1, .int .i64 (wordS s.data.toList).2.1], v, .bool (wordS s.data.toList).2.2.2]) ∧ RowU w' w.heap.size v (wordS s.data.toList).2.2.1 ∧ Below w.heap.size w w' := by
  have b0 : ∀ (u : World) (o : Obj), Below u.heap.size u (u.alloc o) := fun u o => (Below.refl _ _).alloc (Nat.le_refl _) o
  obtain ⟨p, hp⟩ : ∃ p, p = wordI s.data.toList := ⟨_, rfl⟩
  obtain ⟨q, hq⟩ : ∃ q, q = told p := ⟨_, rfl⟩
  have HW : Hid (∀ W B, IsM W B uEnts 15 → Calls Try.prog 29 #[.map (some B), .string s] W fun e w' => e = .returned (.tuple #[uVal p.1, .bool p.2]) ∧ Below W.heap.size W w') := fun W B h => by rw [hp]; exact word_any s B W hs h
  have HS : Hid (∀ W, Calls Try.prog 27 #[uVal p.1, .bool p.2] W fun e w' => ∃ v, e = .returned (.tuple #[.agg #[.int .i64 q.1, .int .i64 q.2.1], v, .bool q.2.2.2]) ∧ RowU w' W.heap.size v q.2.2.1 ∧ Below W.heap.size W w') := fun W => by rw [hq]; exact shown_any p W
  rw [show wordS s.data.toList = q by rw [hq, hp]; rfl]
  clear hq hp
  obtain ⟨n, d, xs, o⟩ := q
  obtain ⟨u, b⟩ := p
  obtain ⟨V, hV⟩ : ∃ V, V = uVal u := ⟨_, rfl⟩
  simp only [← hV] at HW HS ⊢
  clear hV
  go_enter Try.func8, Try.ntmps8
  go_wp2_with fail
  refine (units_any _).mono ?_
  rintro e w1 ⟨B, rfl, hB0, hM, hb⟩
  have hZ : IsB w1 w.heap.size #[.int .i64 0, .int .i64 0] 25 := (IsB.new w _ _).below hb
  have hBw : Below w.heap.size w w1 := (b0 _ _).trans (hb.mono (by simp))
  obtain ⟨Z, hZe⟩ : ∃ Z, Z = w.heap.size := ⟨_, rfl⟩
  have hZw : Hid (w.heap.size ≤ Z) := Nat.le_of_eq hZe.symm
  rw [← hZe] at hZ ⊢
  clear hb hB0 hZe
  go_wp2_with fail
  refine (HW.out _ _ hM).mono ?_
  rintro e w2 ⟨rfl, hb⟩
  replace hZ := hZ.below hb
  replace hBw := hBw.trans (hb.mono hBw.size)
  clear hM hb
  go_wp2_with fail
  refine (HS.out _).mono ?_
  rintro e w3 ⟨v, rfl, hv, hb⟩
  have hvZ := ((hv.other (show Z < w2.heap.size from hZ.lt) 0 (.int .i64 n)).other (show Z < w2.heap.size from hZ.lt) 1 (.int .i64 d)).mono hBw.size
  replace hZ := hZ.below hb
  replace hBw := hBw.trans (hb.mono hBw.size)
  have HV := hidU hvZ
  have HB := hidU ((hBw.setCell (p := ⟨Z, 0, none⟩) hZw.out (.int .i64 n)).setCell (p := ⟨Z, 1, none⟩) hZw.out (.int .i64 d))
  have z0 := hZ.cell 0 rfl
  have z1 := hZ.cell 1 rfl
  have f0 := hZ.frozen 0
  have f1 := hZ.frozen 1
  obtain ⟨e0, e1⟩ := new2 (n := .int .i64 n) (d := .int .i64 d) z0 z1
  clear hv hvZ hZ hBw hb
  go_wp2
  exact bodyPost_ret (v := .tuple #[.agg #[.int .i64 n, .int .i64 d], v, .bool o]) (by simp [results, Try.results8, go_sem, e0, e1]) rfl ⟨_, rfl, HV.out, HB.out⟩

set_option maxRecDepth 100000 in
set_option maxHeartbeats 1000000 in
theorem iBoth_any (s : ByteArray) (w : World) (hs : s.size ≤ 1048576) :
    Calls Try.prog 12 #[.string s] w fun e w' => e = .returned (.bool ((uFind s.data.toList).isSome && (preI s.data.toList).2)) ∧ Below w.heap.size w w' := by
  have b0 : ∀ (u : World) (o : Obj), Below u.heap.size u (u.alloc o) := fun u o => (Below.refl _ _).alloc (Nat.le_refl _) o
  obtain ⟨o, ho⟩ : ∃ o, o = uFind s.data.toList := ⟨_, rfl⟩
  obtain ⟨p, hp⟩ : ∃ p, p = preI s.data.toList := ⟨_, rfl⟩
  have HP : Hid (∀ W B, IsM W B uEnts 15 → Calls Try.prog 38 #[.map (some B), .string s] W fun e w' => e = .returned (.tuple #[uVal p.1, .bool p.2]) ∧ Below W.heap.size W w') := fun W B h => by rw [hp]; exact pre_any s B W hs h
  have HL : Hid (∀ W B, IsM W B uEnts 15 → (Instr.lookup 54 (.map (some B)) (.string s) true).run Try.prog W = .ok (.tuple #[uVal (o.getD .zero), .bool o.isSome]) W) := fun W B h => by rw [ho]; exact look_any s B W h
  rw [← ho, ← hp]
  clear ho hp
  obtain ⟨⟨m, c, y0, y1, y2, y3, y4⟩, b⟩ := p
  obtain ⟨u, hu⟩ : ∃ u, u = o.getD .zero := ⟨_, rfl⟩
  rw [← hu] at HL
  obtain ⟨k, hk⟩ : ∃ k, k = o.isSome := ⟨_, rfl⟩
  rw [← hk] at HL ⊢
  clear hu hk
  obtain ⟨n, d, x0, x1, x2, x3, x4⟩ := u
  simp only [uVal] at HP HL ⊢
  go_enter Try.func12, Try.ntmps12
  go_wp2_with fail
  refine (units_any _).mono ?_
  rintro e w1 ⟨B, rfl, hB0, hM, hb⟩
  clear hB0
  go_wp2_with (first | (refine wpList_look _ rfl _ _ _ _ rfl _ _ _ rfl rfl (HL.out _ _ hM) ?_))
  refine (HP.out _ _ (hM.below (b0 _ _))).mono ?_
  rintro e w2 ⟨rfl, hb2⟩
  have HB := hidU (hb.trans (((b0 w1 _).trans (hb2.mono (by simp))).mono hb.size))
  clear hb hb2 hM HL HP
  cases k
  · go_wp2
    go_ret
    exact ⟨rfl, HB.out.alloc HB.out.size _⟩
  · go_wp2
    go_ret
    exact ⟨rfl, HB.out.alloc HB.out.size _⟩
end Go.Proofs.Ytnhefbhiemdhoaa
