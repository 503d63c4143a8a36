/- A prefix and a unit: the way on which there is one. -/
import Derived.Test.YtnhefbhiemdhoaaGreatUnitW2
import Derived.Test.YtnhefbhiemdhoaaGreatRatioW5
import Derived.Test.YtnhefbhiemdhoaaGreatUnitB
import Derived.Outline
import Derived.Deep.DeepCutAuto
import Derived.Deep.RegionWith
import Derived.Deep.RegionHeld3
import Derived.BigRegion
namespace Go.Proofs.YtnhefbhiemdhoaaGreat
open Go.RowKit Go.MapKept Go.Proofs.YtnhefbhiemdhoaaGreat.RM

theorem tail_b (s : ByteArray) (b : UInt8) (r : List UInt8) (h : s.data.toList = b :: r) : (s.extract 1 s.size).data.toList = r := by
  rw [ByteArray.data_extract, Array.toList_extract, List.extract_eq_take_drop, h]
  have : s.size = s.data.toList.length := rfl
  rw [this, h]
  simp

theorem look_some {s : ByteArray} {u : UV} {B : Nat} {w : World} (hu : uFind s.data.toList = some u) (h : IsM w B uEnts 15) :
    (Instr.lookup 86 (.map (some B)) (.string s) true).run Tryz.prog w = .ok (.tuple #[.agg #[.int .i64 u.n, .int .i64 u.d, .int .i64 u.x0, .int .i64 u.x1, .int .i64 u.x2, .int .i64 u.x3, .int .i64 u.x4], .bool true]) w := by
  rw [look_any s B w h, hu]; rfl
theorem look_none {s : ByteArray} {B : Nat} {w : World} (hu : uFind s.data.toList = none) (h : IsM w B uEnts 15) :
    (Instr.lookup 86 (.map (some B)) (.string s) true).run Tryz.prog w = .ok (.tuple #[.agg #[.int .i64 0, .int .i64 0, .int .i64 0, .int .i64 0, .int .i64 0, .int .i64 0, .int .i64 0], .bool false]) w := by
  rw [look_any s B w h, hu]; rfl

set_option maxRecDepth 100000 in
set_option maxHeartbeats 1000000 in
theorem pre_yes (s : ByteArray) (B : Nat) (w : World) (hs : s.size ≤ 1048576) (hM : IsM w B uEnts 15) (b : UInt8) (r : List UInt8) (u : UV) (hl : s.data.toList = b :: r) (hu : uFind r = some u) (hb : ¬ (r = [109, 105, 110] ∨ r = [104] ∨ r = [67])) :
    Calls Tryz.prog 98 #[.map (some B), .string s] w fun e w' => e = .returned (.tuple #[uVal (preI (b :: r)).1, .bool (preI (b :: r)).2]) ∧ Below w.heap.size w w' := by
  have b0 : ∀ (u : World) (o : Obj), Below u.heap.size u (u.alloc o) := fun u o => (Below.refl _ _).alloc (Nat.le_refl _) o
  have he : s.toList.isEmpty = false := by rw [ByteArray.toList_eq]; show s.data.toList.isEmpty = false; rw [hl]; rfl
  have hz : 1 ≤ s.size := by
    have : s.size = s.data.toList.length := rfl
    rw [this, hl]; simp
  have hz1 : (1 : Int) ≤ s.size := by omega
  have hr := tail_b s b r hl
  have hr2 : (s.extract 1 s.size).toList = r := by rw [ByteArray.toList_eq]; exact hr
  have L := fun W => @look_some (s.extract 1 s.size) u B W (by rw [hr]; exact hu)
  have n1 : ((s.extract 1 s.size).toList == [109, 105, 110]) = false := by rw [hr2]; exact beq_eq_false_iff_ne.2 fun h => hb (.inl h)
  have n2 : ((s.extract 1 s.size).toList == [104]) = false := by rw [hr2]; exact beq_eq_false_iff_ne.2 fun h => hb (.inr (.inl h))
  have n3 : ((s.extract 1 s.size).toList == [67]) = false := by rw [hr2]; exact beq_eq_false_iff_ne.2 fun h => hb (.inr (.inr h))
  obtain ⟨m1, m2, mo, hm⟩ : ∃ m1 m2 mo, (m1, m2, mo) = mulQ (pfx b) (u.n, u.d) := ⟨_, _, _, rfl⟩
  have hbb : s[0]'(by omega) = b := by
    have h0 : s.data.toList[0]? = some b := by rw [hl]; rfl
    have := (Array.getElem?_toList (xs := s.data) (i := 0)).symm.trans h0
    rw [Array.getElem?_eq_getElem (by exact hz)] at this
    exact Option.some.inj this
  have hs0 : ¬ s = ByteArray.empty := by intro e; subst e; simp at hz
  have HP : Hid (∀ W, Calls Tryz.prog 105 #[.int .u8 (b.toNat : Int)] W fun e w' => e = .returned (.agg #[.int .i64 (pfx b).1, .int .i64 (pfx b).2]) ∧ Below W.heap.size W w') := fun W => pfx_any b W
  have HQ : Hid (∀ W, Calls Tryz.prog 34 #[.agg #[.int .i64 (pfx b).1, .int .i64 (pfx b).2], .agg #[.int .i64 u.n, .int .i64 u.d]] W fun e w' => e = .returned (.tuple #[.agg #[.int .i64 m1, .int .i64 m2], .bool mo]) ∧ Below W.heap.size W w') := by
    intro W
    have := iMul_any (pfx b).1 (pfx b).2 u.n u.d W
    have e := hm
    unfold mulQ at e
    injection e with e1 e
    injection e with e2 e3
    rw [← e1, ← e2, ← e3] at this
    exact this
  rw [show preI (b :: r) = ({ u with n := m1, d := m2 }, mo) by simp [preI, hu, hb, ← hm]]
  obtain ⟨p1, hp1⟩ : ∃ p, p = (pfx b).1 := ⟨_, rfl⟩
  obtain ⟨p2, hp2⟩ : ∃ p, p = (pfx b).2 := ⟨_, rfl⟩
  rw [← hp1, ← hp2] at HP HQ
  clear hr2 hr hb hu hl hm hp1 hp2
  obtain ⟨n, d, x0, x1, x2, x3, x4⟩ := u
  simp only at L HQ
  show Calls _ _ _ _ fun e w' => e = .returned (.tuple #[.agg #[.int .i64 m1, .int .i64 m2, .int .i64 x0, .int .i64 x1, .int .i64 x2, .int .i64 x3, .int .i64 x4], .bool mo]) ∧ _
  go_enter Tryz.func98, Tryz.ntmps98
  go_upto_region 7 with (first | (refine wpList_look _ rfl _ _ _ _ rfl _ _ _ rfl rfl (L _ (hM.below (b0 _ _))) ?_) | go_in)
  --R7
  obtain ⟨X, hX⟩ : ∃ X, X = (w.alloc (Obj.cells #[Value.int IntKind.i64 0, Value.int IntKind.i64 0, Value.int IntKind.i64 0, Value.int IntKind.i64 0, Value.int IntKind.i64 0, Value.int IntKind.i64 0, Value.int IntKind.i64 0] 55)).alloc (Obj.cells #[Value.int IntKind.i64 n, Value.int IntKind.i64 d, Value.int IntKind.i64 x0, Value.int IntKind.i64 x1, Value.int IntKind.i64 x2, Value.int IntKind.i64 x3, Value.int IntKind.i64 x4] 55) := ⟨_, rfl⟩
  rw [← hX]
  obtain ⟨T, hT⟩ : ∃ T, T = w.heap.size + 1 := ⟨_, rfl⟩
  rw [← hT]
  obtain ⟨Z, hZ⟩ : ∃ Z, Z = w.heap.size := ⟨_, rfl⟩
  rw [← hZ]
  have hTB : IsB X T #[.int .i64 n, .int .i64 d, .int .i64 x0, .int .i64 x1, .int .i64 x2, .int .i64 x3, .int .i64 x4] 55 := by rw [hX, hT]; have := IsB.new (w.alloc (Obj.cells #[Value.int IntKind.i64 0, Value.int IntKind.i64 0, Value.int IntKind.i64 0, Value.int IntKind.i64 0, Value.int IntKind.i64 0, Value.int IntKind.i64 0, Value.int IntKind.i64 0] 55)) #[.int .i64 n, .int .i64 d, .int .i64 x0, .int .i64 x1, .int .i64 x2, .int .i64 x3, .int .i64 x4] 55; simpa using this
  have hZB : IsB X Z #[.int .i64 0, .int .i64 0, .int .i64 0, .int .i64 0, .int .i64 0, .int .i64 0, .int .i64 0] 55 := by rw [hX, hZ]; exact (IsB.new w _ _).below (b0 _ _)
  have hBw : Below w.heap.size w X := by rw [hX]; exact (b0 _ _).alloc (by simp) _
  have hne : Z ≠ T := by omega
  have hZw : Hid (w.heap.size ≤ Z) := by show _ ≤ _; omega
  have hTw : Hid (w.heap.size ≤ T) := by show _ ≤ _; omega
  clear hX hT hZ hM L
  have HTB := hidU hTB
  have HZB := hidU hZB
  have HBw := hidU hBw
  clear hTB hZB hBw
  have k0 := HTB.out.cell 0 rfl
  have k1 := HTB.out.cell 1 rfl
  refine wp_region_noPanic ?_
  refine wp_region_held_drew (S := fun _ => True) (by kernel_rfl) trivial (fun hHeld => ?_)
  refine wpAnyH_take (i := 0) (v := ?_) rfl (by kernel_rfl) (by kernel_rfl) (by kernel_rfl) (fun _ _ _ h => h) (Or.inl ⟨by kernel_rfl, ?_⟩) hHeld ?_
  rotate_left
  · intro wz hSw; (try dsimp only at hSw); go_simp; all_goals (try with_reducible rfl)
  (try simp only [List.getElem_toArray]); (try simp only [List.getElem_cons_succ]); (try simp only [List.getElem_cons_zero]); (try simp only [Act.put]); (try simp only [List.setIfInBounds_toArray]); (try simp only [List.set_cons_succ]); (try simp only [List.set_cons_zero])
  refine wpAnyH_take (i := 1) (v := (.int .u8 (b.toNat : Int))) rfl (by kernel_rfl) (by kernel_rfl) (by kernel_rfl) (fun _ _ _ h => h) (Or.inl ⟨by kernel_rfl, ?_⟩) hHeld ?_
  · intro wz hSw; (try dsimp only at hSw); go_simp; all_goals (try with_reducible rfl)
  (try simp only [List.getElem_toArray]); (try simp only [List.getElem_cons_succ]); (try simp only [List.getElem_cons_zero]); (try simp only [Act.put]); (try simp only [List.setIfInBounds_toArray]); (try simp only [List.set_cons_succ]); (try simp only [List.set_cons_zero])
  refine wpAnyH_take (i := 3) (v := ?_) rfl (by kernel_rfl) (by kernel_rfl) (by kernel_rfl) (fun _ _ _ h => h) (Or.inl ⟨by kernel_rfl, ?_⟩) hHeld ?_
  rotate_left
  · intro wz hSw; (try dsimp only at hSw); go_simp; all_goals (try with_reducible rfl)
  (try simp only [List.getElem_toArray]); (try simp only [List.getElem_cons_succ]); (try simp only [List.getElem_cons_zero]); (try simp only [Act.put]); (try simp only [List.setIfInBounds_toArray]); (try simp only [List.set_cons_succ]); (try simp only [List.set_cons_zero])
  refine wpAnyH_ready (rs := [2, 4]) (by kernel_rfl) (by simp) (AllReadyH.cons rfl (fun Kc hKc => ?_) (AllReadyH.cons rfl (fun Kc hKc => ?_) AllReadyH.nil))
  · go_simp
    (go_at_call 105; refine (HP.out _).mono ?_)
    rintro e w2 ⟨rfl, hb2⟩
    have hb3 : Below X.heap.size X w2 := ((Below.refl _ _).drew).trans (hb2.mono (by simp))
    replace HTB := hidU (HTB.out.below hb3)
    replace HZB := hidU (HZB.out.below hb3)
    replace HBw := hidU (HBw.out.trans (hb3.mono HBw.out.size))
    clear hb2 hb3 k0 k1
    have k0 := HTB.out.cell 0 rfl
    have k1 := HTB.out.cell 1 rfl
    go_wp2_with fail
    refine hKc.out _ _ trivial (fun hHeld => ?_)
    clear hKc Kc
    (try simp only [List.getElem_toArray]); (try simp only [List.getElem_cons_succ]); (try simp only [List.getElem_cons_zero]); (try simp only [Act.put]); (try simp only [List.setIfInBounds_toArray]); (try simp only [List.set_cons_succ]); (try simp only [List.set_cons_zero])
    refine wpAnyH_ready (rs := [4]) (by kernel_rfl) (by simp) (AllReadyH.cons rfl (fun Kc hKc => ?_) AllReadyH.nil)
    go_simp
    refine hKc.out _ _ trivial (fun hHeld => ?_)
    clear hKc Kc
    (try simp only [List.getElem_toArray]); (try simp only [List.getElem_cons_succ]); (try simp only [List.getElem_cons_zero]); (try simp only [Act.put]); (try simp only [List.setIfInBounds_toArray]); (try simp only [List.set_cons_succ]); (try simp only [List.set_cons_zero])
    refine wpAnyH_ready (rs := [5]) (by kernel_rfl) (by simp) (AllReadyH.cons rfl (fun Kc hKc => ?_) AllReadyH.nil)
    go_simp
    (go_at_call 34; refine (HQ.out _).mono ?_)
    rintro e w3 ⟨rfl, hb3⟩
    replace HTB := hidU (HTB.out.below hb3)
    replace HZB := hidU (HZB.out.below hb3)
    replace HBw := hidU (HBw.out.trans (hb3.mono HBw.out.size))
    clear hb3 k0 k1
    have k0 := HTB.out.cell 0 rfl
    have k1 := HTB.out.cell 1 rfl
    have f0 := HTB.out.frozen 0
    have f1 := HTB.out.frozen 1
    go_wp2_with fail
    refine hKc.out _ _ trivial (fun hHeld => ?_)
    clear hKc Kc
    (try simp only [List.getElem_toArray]); (try simp only [List.getElem_cons_succ]); (try simp only [List.getElem_cons_zero]); (try simp only [Act.put]); (try simp only [List.setIfInBounds_toArray]); (try simp only [List.set_cons_succ]); (try simp only [List.set_cons_zero])
    refine wpAnyH_take (i := 6) (v := ?_) rfl (by kernel_rfl) (by kernel_rfl) (by kernel_rfl) (fun _ _ _ h => h) (Or.inl ⟨by kernel_rfl, ?_⟩) hHeld ?_
    rotate_left
    · intro wz hSw; (try dsimp only at hSw); go_simp; all_goals (try with_reducible rfl)
    (try simp only [List.getElem_toArray]); (try simp only [List.getElem_cons_succ]); (try simp only [List.getElem_cons_zero]); (try simp only [Act.put]); (try simp only [List.setIfInBounds_toArray]); (try simp only [List.set_cons_succ]); (try simp only [List.set_cons_zero])
    refine wpAnyH_take (i := 7) (v := ?_) rfl (by kernel_rfl) (by kernel_rfl) (by kernel_rfl) (fun _ _ _ h => h) (Or.inl ⟨by kernel_rfl, ?_⟩) hHeld ?_
    rotate_left
    · intro wz hSw; (try dsimp only at hSw); go_simp; all_goals (try with_reducible rfl)
    (try simp only [List.getElem_toArray]); (try simp only [List.getElem_cons_succ]); (try simp only [List.getElem_cons_zero]); (try simp only [Act.put]); (try simp only [List.setIfInBounds_toArray]); (try simp only [List.set_cons_succ]); (try simp only [List.set_cons_zero])
    refine wpAnyH_take (i := 8) (v := ?_) rfl (by kernel_rfl) (by kernel_rfl) (by kernel_rfl) (fun _ _ _ h => h) (Or.inl ⟨by kernel_rfl, ?_⟩) hHeld ?_
    rotate_left
    · intro wz hSw; (try dsimp only at hSw); go_simp; all_goals (try with_reducible rfl)
    (try simp only [List.getElem_toArray]); (try simp only [List.getElem_cons_succ]); (try simp only [List.getElem_cons_zero]); (try simp only [Act.put]); (try simp only [List.setIfInBounds_toArray]); (try simp only [List.set_cons_succ]); (try simp only [List.set_cons_zero])
    refine wpAnyH_take (i := 9) (v := ?_) rfl (by kernel_rfl) (by kernel_rfl) (by kernel_rfl) (fun _ _ _ h => h) (Or.inl ⟨by kernel_rfl, ?_⟩) hHeld ?_
    rotate_left
    · intro wz hSw; (try dsimp only at hSw); go_simp; all_goals (try with_reducible rfl)
    (try simp only [List.getElem_toArray]); (try simp only [List.getElem_cons_succ]); (try simp only [List.getElem_cons_zero]); (try simp only [Act.put]); (try simp only [List.setIfInBounds_toArray]); (try simp only [List.set_cons_succ]); (try simp only [List.set_cons_zero])
    refine wpAnyH_ready (rs := [10]) (by kernel_rfl) (by simp) (AllReadyH.cons rfl (fun Kc hKc => ?_) AllReadyH.nil)
    go_simp
    refine hKc.out _ _ trivial (fun hHeld => ?_)
    clear hKc Kc
    (try simp only [List.getElem_toArray]); (try simp only [List.getElem_cons_succ]); (try simp only [List.getElem_cons_zero]); (try simp only [Act.put]); (try simp only [List.setIfInBounds_toArray]); (try simp only [List.set_cons_succ]); (try simp only [List.set_cons_zero])
    refine wpAnyH_take (i := 11) (v := ?_) rfl (by kernel_rfl) (by kernel_rfl) (by kernel_rfl) (fun _ _ _ h => h) (Or.inl ⟨by kernel_rfl, ?_⟩) hHeld ?_
    rotate_left
    · intro wz hSw; (try dsimp only at hSw); go_simp; all_goals (try with_reducible rfl)
    (try simp only [List.getElem_toArray]); (try simp only [List.getElem_cons_succ]); (try simp only [List.getElem_cons_zero]); (try simp only [Act.put]); (try simp only [List.setIfInBounds_toArray]); (try simp only [List.set_cons_succ]); (try simp only [List.set_cons_zero])
    refine wpAnyH_done (by kernel_rfl) ?_ _
    refine NoPanic.normal ?_
    have HT3 : IsB ((w3.setCell ⟨T, 0, none⟩ (.int .i64 m1)).setCell ⟨T, 1, none⟩ (.int .i64 m2)) T #[.int .i64 m1, .int .i64 m2, .int .i64 x0, .int .i64 x1, .int .i64 x2, .int .i64 x3, .int .i64 x4] 55 := (HTB.out.set 0 (.int .i64 m1)).set 1 (.int .i64 m2)
    have HZ3 : IsB ((w3.setCell ⟨T, 0, none⟩ (.int .i64 m1)).setCell ⟨T, 1, none⟩ (.int .i64 m2)) Z #[.int .i64 0, .int .i64 0, .int .i64 0, .int .i64 0, .int .i64 0, .int .i64 0, .int .i64 0] 55 := (HZB.out.other hne 0 _).other hne 1 _
    have HB3 : Below w.heap.size w ((w3.setCell ⟨T, 0, none⟩ (.int .i64 m1)).setCell ⟨T, 1, none⟩ (.int .i64 m2)) := (HBw.out.setCell hTw.out _).setCell hTw.out _
    obtain ⟨Y, hY⟩ : ∃ Y, Y = (w3.setCell ⟨T, 0, none⟩ (.int .i64 m1)).setCell ⟨T, 1, none⟩ (.int .i64 m2) := ⟨_, rfl⟩
    rw [← hY] at HT3 HZ3 HB3 ⊢
    clear hY k0 k1 f0 f1 HTB HZB HBw
    have HZ4 : IsB (((((((Y.setCell ⟨Z, 0, none⟩ (.int .i64 m1)).setCell ⟨Z, 1, none⟩ (.int .i64 m2)).setCell ⟨Z, 2, none⟩ (.int .i64 x0)).setCell ⟨Z, 3, none⟩ (.int .i64 x1)).setCell ⟨Z, 4, none⟩ (.int .i64 x2)).setCell ⟨Z, 5, none⟩ (.int .i64 x3)).setCell ⟨Z, 6, none⟩ (.int .i64 x4)) Z #[.int .i64 m1, .int .i64 m2, .int .i64 x0, .int .i64 x1, .int .i64 x2, .int .i64 x3, .int .i64 x4] 55 := ((((((HZ3.set 0 (.int .i64 m1)).set 1 (.int .i64 m2)).set 2 (.int .i64 x0)).set 3 (.int .i64 x1)).set 4 (.int .i64 x2)).set 5 (.int .i64 x3)).set 6 (.int .i64 x4)
    have HB4 : Below w.heap.size w (((((((Y.setCell ⟨Z, 0, none⟩ (.int .i64 m1)).setCell ⟨Z, 1, none⟩ (.int .i64 m2)).setCell ⟨Z, 2, none⟩ (.int .i64 x0)).setCell ⟨Z, 3, none⟩ (.int .i64 x1)).setCell ⟨Z, 4, none⟩ (.int .i64 x2)).setCell ⟨Z, 5, none⟩ (.int .i64 x3)).setCell ⟨Z, 6, none⟩ (.int .i64 x4)) := ((((((HB3.setCell hZw.out _).setCell hZw.out _).setCell hZw.out _).setCell hZw.out _).setCell hZw.out _).setCell hZw.out _).setCell hZw.out _
    have HZ5 := hidU HZ4
    have HB5 := hidU HB4
    clear HB4 HB3 HZ4
    have t0 := HT3.cell 0 rfl
    have z0 := HZ3.cell 0 rfl
    have g0 := HZ3.frozen 0
    have t1 := HT3.cell 1 rfl
    have z1 := HZ3.cell 1 rfl
    have g1 := HZ3.frozen 1
    have t2 := HT3.cell 2 rfl
    have z2 := HZ3.cell 2 rfl
    have g2 := HZ3.frozen 2
    have t3 := HT3.cell 3 rfl
    have z3 := HZ3.cell 3 rfl
    have g3 := HZ3.frozen 3
    have t4 := HT3.cell 4 rfl
    have z4 := HZ3.cell 4 rfl
    have g4 := HZ3.frozen 4
    have t5 := HT3.cell 5 rfl
    have z5 := HZ3.cell 5 rfl
    have g5 := HZ3.frozen 5
    have t6 := HT3.cell 6 rfl
    have z6 := HZ3.cell 6 rfl
    have g6 := HZ3.frozen 6
    clear HT3 HZ3
    go_wp2
    have q0 := HZ5.out.cell 0 rfl
    have q1 := HZ5.out.cell 1 rfl
    have q2 := HZ5.out.cell 2 rfl
    have q3 := HZ5.out.cell 3 rfl
    have q4 := HZ5.out.cell 4 rfl
    have q5 := HZ5.out.cell 5 rfl
    have q6 := HZ5.out.cell 6 rfl
    exact bodyPost_ret (v := .tuple #[.agg #[.int .i64 m1, .int .i64 m2, .int .i64 x0, .int .i64 x1, .int .i64 x2, .int .i64 x3, .int .i64 x4], .bool mo]) (by simp [results, Tryz.results98, go_sem, q0, q1, q2, q3, q4, q5, q6]) rfl ⟨rfl, HB5.out⟩
  · go_simp
    refine hKc.out _ _ trivial (fun hHeld => ?_)
    clear hKc Kc
    (try simp only [List.getElem_toArray]); (try simp only [List.getElem_cons_succ]); (try simp only [List.getElem_cons_zero]); (try simp only [Act.put]); (try simp only [List.setIfInBounds_toArray]); (try simp only [List.set_cons_succ]); (try simp only [List.set_cons_zero])
    refine wpAnyH_ready (rs := [2]) (by kernel_rfl) (by simp) (AllReadyH.cons rfl (fun Kc hKc => ?_) AllReadyH.nil)
    go_simp
    (go_at_call 105; refine (HP.out _).mono ?_)
    rintro e w2 ⟨rfl, hb2⟩
    have hb3 : Below X.heap.size X w2 := ((Below.refl _ _).drew).trans (hb2.mono (by simp))
    replace HTB := hidU (HTB.out.below hb3)
    replace HZB := hidU (HZB.out.below hb3)
    replace HBw := hidU (HBw.out.trans (hb3.mono HBw.out.size))
    clear hb2 hb3 k0 k1
    have k0 := HTB.out.cell 0 rfl
    have k1 := HTB.out.cell 1 rfl
    go_wp2_with fail
    refine hKc.out _ _ trivial (fun hHeld => ?_)
    clear hKc Kc
    (try simp only [List.getElem_toArray]); (try simp only [List.getElem_cons_succ]); (try simp only [List.getElem_cons_zero]); (try simp only [Act.put]); (try simp only [List.setIfInBounds_toArray]); (try simp only [List.set_cons_succ]); (try simp only [List.set_cons_zero])
    refine wpAnyH_ready (rs := [5]) (by kernel_rfl) (by simp) (AllReadyH.cons rfl (fun Kc hKc => ?_) AllReadyH.nil)
    go_simp
    (go_at_call 34; refine (HQ.out _).mono ?_)
    rintro e w3 ⟨rfl, hb3⟩
    replace HTB := hidU (HTB.out.below hb3)
    replace HZB := hidU (HZB.out.below hb3)
    replace HBw := hidU (HBw.out.trans (hb3.mono HBw.out.size))
    clear hb3 k0 k1
    have k0 := HTB.out.cell 0 rfl
    have k1 := HTB.out.cell 1 rfl
    have f0 := HTB.out.frozen 0
    have f1 := HTB.out.frozen 1
    go_wp2_with fail
    refine hKc.out _ _ trivial (fun hHeld => ?_)
    clear hKc Kc
    (try simp only [List.getElem_toArray]); (try simp only [List.getElem_cons_succ]); (try simp only [List.getElem_cons_zero]); (try simp only [Act.put]); (try simp only [List.setIfInBounds_toArray]); (try simp only [List.set_cons_succ]); (try simp only [List.set_cons_zero])
    refine wpAnyH_take (i := 6) (v := ?_) rfl (by kernel_rfl) (by kernel_rfl) (by kernel_rfl) (fun _ _ _ h => h) (Or.inl ⟨by kernel_rfl, ?_⟩) hHeld ?_
    rotate_left
    · intro wz hSw; (try dsimp only at hSw); go_simp; all_goals (try with_reducible rfl)
    (try simp only [List.getElem_toArray]); (try simp only [List.getElem_cons_succ]); (try simp only [List.getElem_cons_zero]); (try simp only [Act.put]); (try simp only [List.setIfInBounds_toArray]); (try simp only [List.set_cons_succ]); (try simp only [List.set_cons_zero])
    refine wpAnyH_take (i := 7) (v := ?_) rfl (by kernel_rfl) (by kernel_rfl) (by kernel_rfl) (fun _ _ _ h => h) (Or.inl ⟨by kernel_rfl, ?_⟩) hHeld ?_
    rotate_left
    · intro wz hSw; (try dsimp only at hSw); go_simp; all_goals (try with_reducible rfl)
    (try simp only [List.getElem_toArray]); (try simp only [List.getElem_cons_succ]); (try simp only [List.getElem_cons_zero]); (try simp only [Act.put]); (try simp only [List.setIfInBounds_toArray]); (try simp only [List.set_cons_succ]); (try simp only [List.set_cons_zero])
    refine wpAnyH_take (i := 8) (v := ?_) rfl (by kernel_rfl) (by kernel_rfl) (by kernel_rfl) (fun _ _ _ h => h) (Or.inl ⟨by kernel_rfl, ?_⟩) hHeld ?_
    rotate_left
    · intro wz hSw; (try dsimp only at hSw); go_simp; all_goals (try with_reducible rfl)
    (try simp only [List.getElem_toArray]); (try simp only [List.getElem_cons_succ]); (try simp only [List.getElem_cons_zero]); (try simp only [Act.put]); (try simp only [List.setIfInBounds_toArray]); (try simp only [List.set_cons_succ]); (try simp only [List.set_cons_zero])
    refine wpAnyH_take (i := 9) (v := ?_) rfl (by kernel_rfl) (by kernel_rfl) (by kernel_rfl) (fun _ _ _ h => h) (Or.inl ⟨by kernel_rfl, ?_⟩) hHeld ?_
    rotate_left
    · intro wz hSw; (try dsimp only at hSw); go_simp; all_goals (try with_reducible rfl)
    (try simp only [List.getElem_toArray]); (try simp only [List.getElem_cons_succ]); (try simp only [List.getElem_cons_zero]); (try simp only [Act.put]); (try simp only [List.setIfInBounds_toArray]); (try simp only [List.set_cons_succ]); (try simp only [List.set_cons_zero])
    refine wpAnyH_ready (rs := [10]) (by kernel_rfl) (by simp) (AllReadyH.cons rfl (fun Kc hKc => ?_) AllReadyH.nil)
    go_simp
    refine hKc.out _ _ trivial (fun hHeld => ?_)
    clear hKc Kc
    (try simp only [List.getElem_toArray]); (try simp only [List.getElem_cons_succ]); (try simp only [List.getElem_cons_zero]); (try simp only [Act.put]); (try simp only [List.setIfInBounds_toArray]); (try simp only [List.set_cons_succ]); (try simp only [List.set_cons_zero])
    refine wpAnyH_take (i := 11) (v := ?_) rfl (by kernel_rfl) (by kernel_rfl) (by kernel_rfl) (fun _ _ _ h => h) (Or.inl ⟨by kernel_rfl, ?_⟩) hHeld ?_
    rotate_left
    · intro wz hSw; (try dsimp only at hSw); go_simp; all_goals (try with_reducible rfl)
    (try simp only [List.getElem_toArray]); (try simp only [List.getElem_cons_succ]); (try simp only [List.getElem_cons_zero]); (try simp only [Act.put]); (try simp only [List.setIfInBounds_toArray]); (try simp only [List.set_cons_succ]); (try simp only [List.set_cons_zero])
    refine wpAnyH_done (by kernel_rfl) ?_ _
    refine NoPanic.normal ?_
    have HT3 : IsB ((w3.setCell ⟨T, 0, none⟩ (.int .i64 m1)).setCell ⟨T, 1, none⟩ (.int .i64 m2)) T #[.int .i64 m1, .int .i64 m2, .int .i64 x0, .int .i64 x1, .int .i64 x2, .int .i64 x3, .int .i64 x4] 55 := (HTB.out.set 0 (.int .i64 m1)).set 1 (.int .i64 m2)
    have HZ3 : IsB ((w3.setCell ⟨T, 0, none⟩ (.int .i64 m1)).setCell ⟨T, 1, none⟩ (.int .i64 m2)) Z #[.int .i64 0, .int .i64 0, .int .i64 0, .int .i64 0, .int .i64 0, .int .i64 0, .int .i64 0] 55 := (HZB.out.other hne 0 _).other hne 1 _
    have HB3 : Below w.heap.size w ((w3.setCell ⟨T, 0, none⟩ (.int .i64 m1)).setCell ⟨T, 1, none⟩ (.int .i64 m2)) := (HBw.out.setCell hTw.out _).setCell hTw.out _
    obtain ⟨Y, hY⟩ : ∃ Y, Y = (w3.setCell ⟨T, 0, none⟩ (.int .i64 m1)).setCell ⟨T, 1, none⟩ (.int .i64 m2) := ⟨_, rfl⟩
    rw [← hY] at HT3 HZ3 HB3 ⊢
    clear hY k0 k1 f0 f1 HTB HZB HBw
    have HZ4 : IsB (((((((Y.setCell ⟨Z, 0, none⟩ (.int .i64 m1)).setCell ⟨Z, 1, none⟩ (.int .i64 m2)).setCell ⟨Z, 2, none⟩ (.int .i64 x0)).setCell ⟨Z, 3, none⟩ (.int .i64 x1)).setCell ⟨Z, 4, none⟩ (.int .i64 x2)).setCell ⟨Z, 5, none⟩ (.int .i64 x3)).setCell ⟨Z, 6, none⟩ (.int .i64 x4)) Z #[.int .i64 m1, .int .i64 m2, .int .i64 x0, .int .i64 x1, .int .i64 x2, .int .i64 x3, .int .i64 x4] 55 := ((((((HZ3.set 0 (.int .i64 m1)).set 1 (.int .i64 m2)).set 2 (.int .i64 x0)).set 3 (.int .i64 x1)).set 4 (.int .i64 x2)).set 5 (.int .i64 x3)).set 6 (.int .i64 x4)
    have HB4 : Below w.heap.size w (((((((Y.setCell ⟨Z, 0, none⟩ (.int .i64 m1)).setCell ⟨Z, 1, none⟩ (.int .i64 m2)).setCell ⟨Z, 2, none⟩ (.int .i64 x0)).setCell ⟨Z, 3, none⟩ (.int .i64 x1)).setCell ⟨Z, 4, none⟩ (.int .i64 x2)).setCell ⟨Z, 5, none⟩ (.int .i64 x3)).setCell ⟨Z, 6, none⟩ (.int .i64 x4)) := ((((((HB3.setCell hZw.out _).setCell hZw.out _).setCell hZw.out _).setCell hZw.out _).setCell hZw.out _).setCell hZw.out _).setCell hZw.out _
    have HZ5 := hidU HZ4
    have HB5 := hidU HB4
    clear HB4 HB3 HZ4
    have t0 := HT3.cell 0 rfl
    have z0 := HZ3.cell 0 rfl
    have g0 := HZ3.frozen 0
    have t1 := HT3.cell 1 rfl
    have z1 := HZ3.cell 1 rfl
    have g1 := HZ3.frozen 1
    have t2 := HT3.cell 2 rfl
    have z2 := HZ3.cell 2 rfl
    have g2 := HZ3.frozen 2
    have t3 := HT3.cell 3 rfl
    have z3 := HZ3.cell 3 rfl
    have g3 := HZ3.frozen 3
    have t4 := HT3.cell 4 rfl
    have z4 := HZ3.cell 4 rfl
    have g4 := HZ3.frozen 4
    have t5 := HT3.cell 5 rfl
    have z5 := HZ3.cell 5 rfl
    have g5 := HZ3.frozen 5
    have t6 := HT3.cell 6 rfl
    have z6 := HZ3.cell 6 rfl
    have g6 := HZ3.frozen 6
    clear HT3 HZ3
    go_wp2
    have q0 := HZ5.out.cell 0 rfl
    have q1 := HZ5.out.cell 1 rfl
    have q2 := HZ5.out.cell 2 rfl
    have q3 := HZ5.out.cell 3 rfl
    have q4 := HZ5.out.cell 4 rfl
    have q5 := HZ5.out.cell 5 rfl
    have q6 := HZ5.out.cell 6 rfl
    exact bodyPost_ret (v := .tuple #[.agg #[.int .i64 m1, .int .i64 m2, .int .i64 x0, .int .i64 x1, .int .i64 x2, .int .i64 x3, .int .i64 x4], .bool mo]) (by simp [results, Tryz.results98, go_sem, q0, q1, q2, q3, q4, q5, q6]) rfl ⟨rfl, HB5.out⟩
end Go.Proofs.YtnhefbhiemdhoaaGreat
