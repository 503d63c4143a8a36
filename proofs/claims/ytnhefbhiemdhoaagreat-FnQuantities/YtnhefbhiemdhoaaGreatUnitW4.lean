/- The program's words and what is shown of them. -/
import Derived.Test.YtnhefbhiemdhoaaGreatUnitW3
import Derived.Test.YtnhefbhiemdhoaaGreatUnitB
namespace Go.Proofs.YtnhefbhiemdhoaaGreat
open Go.RowKit Go.MapKept Go.Proofs.YtnhefbhiemdhoaaGreat.RM

set_option maxRecDepth 100000 in
set_option maxHeartbeats 1000000 in
theorem word_any (s : ByteArray) (B : Nat) (w : World) (hs : s.size ≤ 1048576) (hM : IsM w B uEnts 15) :
    Calls Tryz.prog 82 #[.map (some B), .string s] w fun e w' => e = .returned (.tuple #[uVal (wordI s.data.toList).1, .bool (wordI s.data.toList).2]) ∧ Below w.heap.size w w' := by
  have b0 : ∀ (u : World) (o : Obj), Below u.heap.size u (u.alloc o) := fun u o => (Below.refl _ _).alloc (Nat.le_refl _) o
  cases hu : uFind s.data.toList with
  | some u =>
    rw [show wordI s.data.toList = (u, true) by simp [wordI, hu]]
    have L := fun W => @look_some s u B W hu
    clear hu
    obtain ⟨n, d, x0, x1, x2, x3, x4⟩ := u
    simp only at L
    go_enter Tryz.func82, Tryz.ntmps82
    go_wp2_with (first | (refine wpList_look _ rfl _ _ _ _ rfl _ _ _ rfl rfl (L _ (hM.below (b0 _ _))) ?_))
    exact bodyPost_ret (v := .tuple #[.agg #[.int .i64 n, .int .i64 d, .int .i64 x0, .int .i64 x1, .int .i64 x2, .int .i64 x3, .int .i64 x4], .bool true]) (by simp [results, Tryz.results82, go_sem]) rfl ⟨rfl, (b0 _ _).alloc (by simp) _⟩
  | none =>
    rw [show wordI s.data.toList = preI s.data.toList by simp [wordI, hu]]
    have L := fun W => @look_none s B W hu
    have HC : Hid (∀ W, IsM W B uEnts 15 → Calls Tryz.prog 98 #[.map (some B), .string s] W fun e w' => e = .returned (.tuple #[uVal (preI s.data.toList).1, .bool (preI s.data.toList).2]) ∧ Below W.heap.size W w') := fun W h => pre_any s B W hs h
    obtain ⟨p, hp⟩ : ∃ p, p = preI s.data.toList := ⟨_, rfl⟩
    rw [← hp] at HC ⊢
    clear hp hu
    obtain ⟨⟨n, d, x0, x1, x2, x3, x4⟩, o⟩ := p
    simp only [uVal] at HC ⊢
    go_enter Tryz.func82, Tryz.ntmps82
    go_wp2_with (first | (refine wpList_look _ rfl _ _ _ _ rfl _ _ _ rfl rfl (L _ (hM.below (b0 _ _))) ?_))
    refine (HC.out _ ((hM.below (b0 _ _)).below (b0 _ _))).mono ?_
    rintro e w1 ⟨rfl, hb⟩
    have hZ0 : IsB (w.alloc (.cells #[.int .i64 0, .int .i64 0, .int .i64 0, .int .i64 0, .int .i64 0, .int .i64 0, .int .i64 0] 55)) w.heap.size #[.int .i64 0, .int .i64 0, .int .i64 0, .int .i64 0, .int .i64 0, .int .i64 0, .int .i64 0] 55 := IsB.new _ _ _
    have hZ := (hZ0.below (b0 _ _)).below hb
    obtain ⟨Z, hZe⟩ : ∃ Z, Z = w.heap.size := ⟨_, rfl⟩
    have hB1 : Below w.heap.size w w1 := ((b0 w _).alloc (by simp) _).trans (hb.mono (by simp; omega))
    rw [← hZe] at hZ ⊢
    have hZw : Hid (w.heap.size ≤ Z) := (Nat.le_of_eq hZe.symm)
    clear hZ0 hb hZe hM
    have HZ4 : IsB (((((((w1.setCell ⟨Z, 0, none⟩ (.int .i64 n)).setCell ⟨Z, 1, none⟩ (.int .i64 d)).setCell ⟨Z, 2, none⟩ (.int .i64 x0)).setCell ⟨Z, 3, none⟩ (.int .i64 x1)).setCell ⟨Z, 4, none⟩ (.int .i64 x2)).setCell ⟨Z, 5, none⟩ (.int .i64 x3)).setCell ⟨Z, 6, none⟩ (.int .i64 x4)) Z #[.int .i64 n, .int .i64 d, .int .i64 x0, .int .i64 x1, .int .i64 x2, .int .i64 x3, .int .i64 x4] 55 := (((((((hZ.set 0 (.int .i64 n)).set 1 (.int .i64 d)).set 2 (.int .i64 x0)).set 3 (.int .i64 x1)).set 4 (.int .i64 x2)).set 5 (.int .i64 x3)).set 6 (.int .i64 x4))
    have HB4 : Below w.heap.size w (((((((w1.setCell ⟨Z, 0, none⟩ (.int .i64 n)).setCell ⟨Z, 1, none⟩ (.int .i64 d)).setCell ⟨Z, 2, none⟩ (.int .i64 x0)).setCell ⟨Z, 3, none⟩ (.int .i64 x1)).setCell ⟨Z, 4, none⟩ (.int .i64 x2)).setCell ⟨Z, 5, none⟩ (.int .i64 x3)).setCell ⟨Z, 6, none⟩ (.int .i64 x4)) := (((((((hB1.setCell hZw.out _).setCell hZw.out _).setCell hZw.out _).setCell hZw.out _).setCell hZw.out _).setCell hZw.out _).setCell hZw.out _)
    have HZ5 := hidU HZ4
    have HB5 := hidU HB4
    clear HB4 HZ4
    have z0 := hZ.cell 0 rfl
    have g0 := hZ.frozen 0
    have z1 := hZ.cell 1 rfl
    have g1 := hZ.frozen 1
    have z2 := hZ.cell 2 rfl
    have g2 := hZ.frozen 2
    have z3 := hZ.cell 3 rfl
    have g3 := hZ.frozen 3
    have z4 := hZ.cell 4 rfl
    have g4 := hZ.frozen 4
    have z5 := hZ.cell 5 rfl
    have g5 := hZ.frozen 5
    have z6 := hZ.cell 6 rfl
    have g6 := hZ.frozen 6
    clear hZ hB1
    go_wp2
    have q0 := HZ5.out.cell 0 rfl
    have q1 := HZ5.out.cell 1 rfl
    have q2 := HZ5.out.cell 2 rfl
    have q3 := HZ5.out.cell 3 rfl
    have q4 := HZ5.out.cell 4 rfl
    have q5 := HZ5.out.cell 5 rfl
    have q6 := HZ5.out.cell 6 rfl
    exact bodyPost_ret (v := .tuple #[.agg #[.int .i64 n, .int .i64 d, .int .i64 x0, .int .i64 x1, .int .i64 x2, .int .i64 x3, .int .i64 x4], .bool o]) (by simp [results, Tryz.results82, go_sem, q0, q1, q2, q3, q4, q5, q6]) rfl ⟨rfl, HB5.out⟩
end Go.Proofs.YtnhefbhiemdhoaaGreat
