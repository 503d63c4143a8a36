/- The model's words, whole: Word and Both, the model's. -/
import Derived.Test.YtpgidpiaodgndakUnitW8
namespace Go.Proofs.Ytpgidpiaodgndak
open Go.RowKit Go.Proofs.Ytpgidpiaodgndak.RM

set_option maxRecDepth 100000 in
set_option maxHeartbeats 1000000 in
theorem sPre_def (s : ByteArray) (w : World) (b c : UInt8) (r : List UInt8) (hl : s.data.toList = b :: c :: r) (h : barS (b :: c :: r) = false) (hb : ¬ (b = 107 ∨ b = 99 ∨ b = 109 ∨ b = 117 ∨ b = 77)) :
    Calls Try.prog 48 #[.string s] w fun e w' => ∃ v, e = .returned (.tuple #[.agg #[.int .i64 (preS (b :: c :: r)).1, .int .i64 (preS (b :: c :: r)).2.1], v, .bool (preS (b :: c :: r)).2.2.2]) ∧ w'.ownsRow w.heap.size 2 1 v (preS (b :: c :: r)).2.2.1.length ((preS (b :: c :: r)).2.2.1.map (Value.int .i64)) ∧ Below w.heap.size w w' := by
  have b0 : ∀ (u : World) (o : Obj), Below u.heap.size u (u.alloc o) := fun u o => (Below.refl _ _).alloc (Nat.le_refl _) o
  have hz : s.size = s.data.toList.length := rfl
  have hz2 : 2 ≤ s.size := by rw [hz, hl]; simp
  have h3 : ¬ (s.size : Int) < 2 := by omega
  have h4 : (1 : Int) ≤ s.size := by omega
  have hs0 : ¬ s = ByteArray.empty := by intro e; subst e; simp at hz2
  have hbb : ∀ q : 0 < s.size, s[0]'q = b := fun q => byte0 hl q
  have hr : (s.extract 1 s.size).data.toList = c :: r := tail_s s b (c :: r) hl
  have hr2 : (s.extract 1 s.size).toList = c :: r := by rw [ByteArray.toList_eq]; exact hr
  have hno : preS (b :: c :: r) = (0, 0, [], false) := by
    rw [preS_go h, pfx_zero (fun e => hb (by simp [e])) (fun e => hb (by simp [e])) (fun e => hb (by simp [e])) (fun e => hb (by simp [e])) (fun e => hb (by simp [e]))]
    simp [mulQ_zero]
  rw [hno]
  clear hno
  unfold barS at h
  simp only [Bool.or_eq_false_iff] at h
  obtain ⟨⟨n1, n2⟩, n3⟩ := h
  rw [← hr2] at n1 n2 n3
  have HU : Hid (∀ W : World, Calls Try.prog 47 #[.string (s.extract 1 s.size)] W fun e w' => ∃ v, e = .returned (.tuple #[.agg #[.int .i64 (unitS (c :: r)).1, .int .i64 (unitS (c :: r)).2.1], v, .bool (unitS (c :: r)).2.2.2]) ∧ w'.ownsRow W.heap.size 2 1 v (unitS (c :: r)).2.2.1.length ((unitS (c :: r)).2.2.1.map (Value.int .i64)) ∧ Below W.heap.size W w') := fun W => by
    have := sUnit_any (s.extract 1 s.size) W
    rw [hr] at this
    exact this
  obtain ⟨R, hR⟩ : ∃ R, R = unitS (c :: r) := ⟨_, rfl⟩
  rw [← hR] at HU
  clear hR hr hr2 hl hz hz2
  obtain ⟨n, d, xs, o⟩ := R
  simp only at HU ⊢
  have q1 : ¬ (b.toNat : Int) = 107 := fun e => hb (.inl (UInt8.toNat.inj (by simp; omega)))
  have q2 : ¬ (b.toNat : Int) = 99 := fun e => hb (.inr (.inl (UInt8.toNat.inj (by simp; omega))))
  have q3 : ¬ (b.toNat : Int) = 109 := fun e => hb (.inr (.inr (.inl (UInt8.toNat.inj (by simp; omega)))))
  have q4 : ¬ (b.toNat : Int) = 117 := fun e => hb (.inr (.inr (.inr (.inl (UInt8.toNat.inj (by simp; omega))))))
  have q5 : ¬ (b.toNat : Int) = 77 := fun e => hb (.inr (.inr (.inr (.inr (UInt8.toNat.inj (by simp; omega))))))
  have t1 : ((b.toNat : Int) == 107) = false := beq_eq_false_iff_ne.2 q1
  have t2 : ((b.toNat : Int) == 99) = false := beq_eq_false_iff_ne.2 q2
  have t3 : ((b.toNat : Int) == 109) = false := beq_eq_false_iff_ne.2 q3
  have t4 : ((b.toNat : Int) == 117) = false := beq_eq_false_iff_ne.2 q4
  have t5 : ((b.toNat : Int) == 77) = false := beq_eq_false_iff_ne.2 q5
  clear q1 q2 q3 q4 q5 hb
  go_enter Try.func48, Try.ntmps48
  go_upto_region 3 with go_in
  go_wp2_with fail
  refine (HU.out _).mono ?_
  rintro e w1 ⟨v, rfl, hv, hb⟩
  have hZ : IsB w1 w.heap.size #[.int .i64 0, .int .i64 0] 36 := (IsB.new w _ _).below hb
  have hBw : Below w.heap.size w w1 := (b0 _ _).trans (hb.mono (by simp))
  have hv2 := hidU (own_weak (base' := w.heap.size) hv (by simp))
  obtain ⟨Z, hZe⟩ : ∃ Z, Z = w.heap.size := ⟨_, rfl⟩
  have HZw : Hid (w.heap.size ≤ Z) := Nat.le_of_eq hZe.symm
  rw [← hZe] at hZ ⊢
  have HZ := hidU hZ
  have HBw := hidU hBw
  have z0 := hZ.cell (v := .int .i64 0) 0 rfl
  have z1 := hZ.cell (v := .int .i64 0) 1 rfl
  have f0 := hZ.frozen 0
  have f1 := hZ.frozen 1
  have HV := hidU (show w1.ownsRow (Z + 1) 2 1 v xs.length (xs.map (Value.int .i64)) by rw [hZe]; exact own_weak (base' := w.heap.size + 1) hv (by simp))
  clear hv hb hZe hZ hBw hv2
  have y0 := fun o1 o2 o3 => cell_al o3 (cell_al o2 (cell_al o1 z0))
  have y1 := fun o1 o2 o3 => cell_al o3 (cell_al o2 (cell_al o1 z1))
  have k0 := fun o1 o2 o3 => frozen_al o3 (cell_al o2 (cell_al o1 z0)) (frozen_al o2 (cell_al o1 z0) (frozen_al o1 z0 f0))
  have k1 := fun o1 o2 o3 => frozen_al o3 (cell_al o2 (cell_al o1 z1)) (frozen_al o2 (cell_al o1 z1) (frozen_al o1 z1 f1))
  clear z0 z1 f0 f1
  go_wp2
  obtain ⟨e0, e1, hO, hF⟩ := none_end (X := ((w1.alloc (.cells #[.int .i64 n, .int .i64 d] 36)).alloc (.cells #[.int .i64 0, .int .i64 0] 36)).alloc (.cells #[] 2)) (g := w1.heap.size + 1 + 1) (w0 := w) (((HZ.out.below (b0 _ _)).below (b0 _ _)).below (b0 _ _)) (by have := IsB.new ((w1.alloc (.cells #[.int .i64 n, .int .i64 d] 36)).alloc (.cells #[.int .i64 0, .int .i64 0] 36)) #[] 2; simpa using this) (by have := HZ.out.lt; omega) (by have := HBw.out.size; omega) (((HBw.out.alloc HBw.out.size _).alloc (by have := HBw.out.size; simp; omega) _).alloc (by have := HBw.out.size; simp; omega) _) HZw.out
  exact bodyPost_ret (v := .tuple #[.agg #[.int .i64 0, .int .i64 0], .slice (some ⟨w1.heap.size + 1 + 1, 0, none⟩) 0 0, .bool false]) (by simp [results, Try.results48, go_sem, e0, e1]) rfl ⟨_, rfl, hO, hF⟩

theorem sPre_any (s : ByteArray) (w : World) :
    Calls Try.prog 48 #[.string s] w fun e w' => ∃ v, e = .returned (.tuple #[.agg #[.int .i64 (preS s.data.toList).1, .int .i64 (preS s.data.toList).2.1], v, .bool (preS s.data.toList).2.2.2]) ∧ w'.ownsRow w.heap.size 2 1 v (preS s.data.toList).2.2.1.length ((preS s.data.toList).2.2.1.map (Value.int .i64)) ∧ Below w.heap.size w w' := by
  cases hb : barS s.data.toList with
  | true =>
    rw [preS_bar hb]
    exact sPre_bar s w hb
  | false =>
    obtain ⟨b, c, r, hl⟩ : ∃ b c r, s.data.toList = b :: c :: r := by
      match hs : s.data.toList with
      | [] => rw [hs] at hb; cases hb
      | [_] => rw [hs] at hb; cases hb
      | b :: c :: r => exact ⟨b, c, r, rfl⟩
    rw [hl] at hb
    have key : ∀ (Q : Prop), (Q ∨ ¬ Q) := fun Q => Classical.em Q
    rcases key (b = 107 ∨ b = 99 ∨ b = 109 ∨ b = 117 ∨ b = 77) with h | h
    · rw [hl]; exact sPre_go s w b c r hl hb h
    · rw [hl]; exact sPre_def s w b c r hl hb h

set_option maxRecDepth 100000 in
set_option maxHeartbeats 1000000 in
theorem sBoth_any (s : ByteArray) (w : World) :
    Calls Try.prog 30 #[.string s] w fun e w' => e = .returned (.bool ((unitS s.data.toList).2.2.2 && (preS s.data.toList).2.2.2)) ∧ Below w.heap.size w w' := by
  have b0 : ∀ (u : World) (o : Obj), Below u.heap.size u (u.alloc o) := fun u o => (Below.refl _ _).alloc (Nat.le_refl _) o
  have HU : Hid (∀ W, _) := fun W => sUnit_any s W
  have HP : Hid (∀ W, _) := fun W => sPre_any s W
  obtain ⟨⟨n, d, xs, o⟩, hu⟩ : ∃ u, u = unitS s.data.toList := ⟨_, rfl⟩
  obtain ⟨⟨n2, d2, xs2, o2⟩, hp⟩ : ∃ u, u = preS s.data.toList := ⟨_, rfl⟩
  rw [← hu] at HU ⊢
  rw [← hp] at HP ⊢
  clear hu hp
  simp only at HU HP ⊢
  go_enter Try.func30, Try.ntmps30
  go_wp2_with fail
  refine (HU.out _).mono ?_
  rintro e w1 ⟨v, rfl, hv, hb⟩
  clear hv
  go_wp2_with fail
  refine (HP.out _).mono ?_
  rintro e w2 ⟨v2, rfl, hv, hb2⟩
  clear hv
  have HB := hidU (hb.trans (((b0 w1 _).trans (hb2.mono (by simp))).mono hb.size))
  clear hb hb2 HU HP
  cases o
  · go_wp2
    go_ret
    exact ⟨rfl, HB.out.alloc HB.out.size _⟩
  · go_wp2
    go_ret
    exact ⟨rfl, HB.out.alloc HB.out.size _⟩

set_option maxRecDepth 100000 in
set_option maxHeartbeats 1000000 in
theorem sWord_any (s : ByteArray) (w : World) :
    Calls Try.prog 22 #[.string s] w fun e w' => ∃ v, e = .returned (.tuple #[.agg #[.int .i64 (wordS s.data.toList).1, .int .i64 (wordS s.data.toList).2.1], v, .bool (wordS s.data.toList).2.2.2]) ∧ w'.ownsRow w.heap.size 2 1 v (wordS s.data.toList).2.2.1.length ((wordS s.data.toList).2.2.1.map (Value.int .i64)) ∧ Below w.heap.size w w' := by
  have b0 : ∀ (u : World) (o : Obj), Below u.heap.size u (u.alloc o) := fun u o => (Below.refl _ _).alloc (Nat.le_refl _) o
  have HU := hidU (fun W => sUnit_any s W)
  have HP := hidU (fun W => sPre_any s W)
  have HW : Hid (wordS s.data.toList = if (unitS s.data.toList).2.2.2 = true then unitS s.data.toList else preS s.data.toList) := by
    show _ = _
    cases hf : uFind s.data.toList with
    | none => rw [wordS_pre hf]; simp [unitS, hf]
    | some u => rw [wordS_unit hf]; simp [unitS, hf]
  obtain ⟨⟨n, d, xs, o⟩, hu⟩ : ∃ u, u = unitS s.data.toList := ⟨_, rfl⟩
  obtain ⟨⟨n2, d2, xs2, o2⟩, hp⟩ : ∃ u, u = preS s.data.toList := ⟨_, rfl⟩
  obtain ⟨R, hR⟩ : ∃ u, u = wordS s.data.toList := ⟨_, rfl⟩
  rw [← hR] at HW ⊢
  rw [← hu] at HU HW
  rw [← hp] at HP HW
  clear hu hp hR
  simp only at HU HP HW ⊢
  go_enter Try.func22, Try.ntmps22
  go_wp2_with fail
  refine (HU.out _).mono ?_
  rintro e w1 ⟨v, rfl, hv, hb⟩
  have hZ : IsB w1 w.heap.size #[.int .i64 0, .int .i64 0] 36 := (IsB.new w _ _).below hb
  have hBw : Below w.heap.size w w1 := (b0 _ _).trans (hb.mono (by simp))
  obtain ⟨Z, hZe⟩ : ∃ Z, Z = w.heap.size := ⟨_, rfl⟩
  have HZw : Hid (w.heap.size ≤ Z) := Nat.le_of_eq hZe.symm
  have HV := hidU (show w1.ownsRow (Z + 1) 2 1 v xs.length (xs.map (Value.int .i64)) by rw [hZe]; exact own_weak (base' := w.heap.size + 1) hv (by simp))
  rw [← hZe] at hZ ⊢
  have HZ := hidU hZ
  have HB := hidU hBw
  clear hv hb hZe hZ hBw HU
  cases o with
  | true =>
    obtain rfl : R = (n, d, xs, true) := HW.out
    have z0 := HZ.out.cell (v := .int .i64 0) 0 rfl
    have z1 := HZ.out.cell (v := .int .i64 0) 1 rfl
    have y0 := fun o1 => cell_al o1 z0
    have y1 := fun o1 => cell_al o1 z1
    have k0 := fun o1 => frozen_al o1 z0 (HZ.out.frozen 0)
    have k1 := fun o1 => frozen_al o1 z1 (HZ.out.frozen 1)
    clear z0 z1
    go_wp2
    obtain ⟨e0, e1⟩ := new2 (n := .int .i64 n) (d := .int .i64 d) (y0 (.cells #[.int .i64 n, .int .i64 d] 36)) (y1 (.cells #[.int .i64 n, .int .i64 d] 36))
    exact bodyPost_ret (v := .tuple #[.agg #[.int .i64 n, .int .i64 d], v, .bool true]) (by simp [results, Try.results22, go_sem, e0, e1]) rfl ⟨_, rfl, own_weak (own_setZ (own_setZ (own_below HV.out (b0 _ _)) (Nat.lt_succ_self _) 0 _) (Nat.lt_succ_self _) 1 _) (Nat.le_succ_of_le HZw.out), ((HB.out.alloc HB.out.size _).setCell (p := ⟨Z, 0, none⟩) HZw.out _).setCell (p := ⟨Z, 1, none⟩) HZw.out _⟩
  | false =>
    obtain rfl : R = (n2, d2, xs2, o2) := HW.out
    go_wp2_with fail
    refine (HP.out _).mono ?_
    rintro e w2 ⟨v2, rfl, hv, hb⟩
    have hb2 : Below w1.heap.size w1 w2 := (b0 _ _).trans (hb.mono (by simp))
    have hZ2 := HZ.out.below hb2
    have hB2 := HB.out.trans (hb2.mono HB.out.size)
    have hv2 := hidU (show w2.ownsRow (Z + 1) 2 1 v2 xs2.length (xs2.map (Value.int .i64)) from own_weak hv (by have := HZ.out.lt; simp; omega))
    clear HZ HB HV hb hb2 hv HP
    have z0 := hZ2.cell (v := .int .i64 0) 0 rfl
    have z1 := hZ2.cell (v := .int .i64 0) 1 rfl
    have f0 := hZ2.frozen 0
    have f1 := hZ2.frozen 1
    have HB := hidU hB2
    clear hZ2 hB2
    go_wp2
    obtain ⟨e0, e1⟩ := new2 (n := .int .i64 n2) (d := .int .i64 d2) z0 z1
    exact bodyPost_ret (v := .tuple #[.agg #[.int .i64 n2, .int .i64 d2], v2, .bool o2]) (by simp [results, Try.results22, go_sem, e0, e1]) rfl ⟨_, rfl, own_weak (own_setZ (own_setZ hv2.out (Nat.lt_succ_self _) 0 _) (Nat.lt_succ_self _) 1 _) (Nat.le_succ_of_le HZw.out), (HB.out.setCell (p := ⟨Z, 0, none⟩) HZw.out _).setCell (p := ⟨Z, 1, none⟩) HZw.out _⟩
end Go.Proofs.Ytpgidpiaodgndak
