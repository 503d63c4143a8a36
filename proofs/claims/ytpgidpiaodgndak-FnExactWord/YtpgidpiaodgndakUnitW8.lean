/- The model's words: a prefix and a unit; Word and Both, the model's. -/
import Derived.Test.YtpgidpiaodgndakUnitW7
import Derived.Test.YtpgidpiaodgndakCalcW
import Derived.Outline
import Derived.Deep.DeepCutAuto
namespace Go.Proofs.Ytpgidpiaodgndak
open Go.RowKit Go.Proofs.Ytpgidpiaodgndak.RM

theorem preS_go {b c : UInt8} {r : List UInt8} (h : barS (b :: c :: r) = false) :
    preS (b :: c :: r) = if ((unitS (c :: r)).2.2.2 && (mulQ (pfx b) ((unitS (c :: r)).1, (unitS (c :: r)).2.1)).2.2) = true then ((mulQ (pfx b) ((unitS (c :: r)).1, (unitS (c :: r)).2.1)).1, (mulQ (pfx b) ((unitS (c :: r)).1, (unitS (c :: r)).2.1)).2.1, (unitS (c :: r)).2.2.1, true) else (0, 0, [], false) := by
  have h2 : ¬ (c :: r = [109, 105, 110] ∨ c :: r = [104] ∨ c :: r = [67]) := by
    unfold barS at h
    simp only [Bool.or_eq_false_iff, beq_eq_false_iff_ne] at h
    rintro (e | e | e)
    · exact h.1.1 e
    · exact h.1.2 e
    · exact h.2 e
  cases hu : uFind (c :: r) with
  | none =>
    have e : preI (b :: c :: r) = (.zero, false) := by simp only [preI, hu]
    unfold preS
    rw [e]
    simp [unitS, hu, told]
  | some u =>
    have e : preI (b :: c :: r) = ({ u with n := (mulQ (pfx b) (u.n, u.d)).1, d := (mulQ (pfx b) (u.n, u.d)).2.1 }, (mulQ (pfx b) (u.n, u.d)).2.2) := by simp only [preI, hu, if_neg h2]
    unfold preS
    rw [e]
    simp [unitS, hu, told, UV.dims]

theorem own_weak {w : World} {base base' : Nat} {e : TypeId} {size : Nat} {v : Value} {n : Nat} {xs : List Value} (h : w.ownsRow base e size v n xs) (hb : base' ≤ base) : w.ownsRow base' e size v n xs := by
  obtain ⟨h1, h2⟩ := h
  refine ⟨h1, ?_⟩
  rcases h2 with h2 | ⟨g, cap, cur, e1, e2, e3⟩
  · exact .inl h2
  · exact .inr ⟨g, cap, cur, e1, Nat.le_trans hb e2, e3⟩
theorem own_setZ {W : World} {base Z : Nat} {e : TypeId} {size : Nat} {v : Value} {n : Nat} {xs : List Value} (h : W.ownsRow base e size v n xs) (hZ : Z < base) (o : Nat) (x : Value) : (W.setCell ⟨Z, o, none⟩ x).ownsRow base e size v n xs := by
  refine h.kept (g_set (g_refl W (some Z)) (.inr rfl) o x) (.inr fun e' => ?_)
  have := (h.lt Z e').1
  omega
theorem frozen_al {w : World} {a : Addr} {v : Value} (o : Obj) (h : w.cell? a = some v) (hf : w.frozen? a = false) : (w.alloc o).frozen? a = false :=
  frozen_later ((Below.refl _ _).alloc (Nat.le_refl _) o) h hf
theorem none_end {n Z g : Nat} {w0 X : World} (hZ : IsB X Z #[.int .i64 0, .int .i64 0] 36) (hE : IsB X g #[] 2) (hne : g ≠ Z) (hg : n ≤ g) (hB : Below n w0 X) (hn : n ≤ Z) :
    ((X.setCell ⟨Z, 0, none⟩ (.int .i64 0)).setCell ⟨Z, 1, none⟩ (.int .i64 0)).cell? ⟨Z, 0, none⟩ = some (.int .i64 0) ∧
    ((X.setCell ⟨Z, 0, none⟩ (.int .i64 0)).setCell ⟨Z, 1, none⟩ (.int .i64 0)).cell? ⟨Z, 1, none⟩ = some (.int .i64 0) ∧
    ((X.setCell ⟨Z, 0, none⟩ (.int .i64 0)).setCell ⟨Z, 1, none⟩ (.int .i64 0)).ownsRow n 2 1 (.slice (some ⟨g, 0, none⟩) 0 0) 0 [] ∧
    Below n w0 ((X.setCell ⟨Z, 0, none⟩ (.int .i64 0)).setCell ⟨Z, 1, none⟩ (.int .i64 0)) := by
  obtain ⟨e0, e1⟩ := new2 (n := .int .i64 0) (d := .int .i64 0) (hZ.cell 0 rfl) (hZ.cell 1 rfl)
  refine ⟨e0, e1, ⟨rfl, .inr ⟨g, 0, #[], rfl, hg, (hE.other hne 0 _).other hne 1 _, Nat.le_refl _, Nat.zero_le _, rfl, rfl⟩⟩, ?_⟩
  exact (hB.setCell (p := ⟨Z, 0, none⟩) hn _).setCell (p := ⟨Z, 1, none⟩) hn _

set_option maxRecDepth 100000 in
set_option maxHeartbeats 2000000 in
theorem sPre_go (s : ByteArray) (w : World) (b c : UInt8) (r : List UInt8) (hl : s.data.toList = b :: c :: r) (h : barS (b :: c :: r) = false) (hb : b = 107 ∨ b = 99 ∨ b = 109 ∨ b = 117 ∨ b = 77) :
    Calls Try.prog 48 #[.string s] w fun e w' => ∃ v, e = .returned (.tuple #[.agg #[.int .i64 (preS (b :: c :: r)).1, .int .i64 (preS (b :: c :: r)).2.1], v, .bool (preS (b :: c :: r)).2.2.2]) ∧ w'.ownsRow w.heap.size 2 1 v (preS (b :: c :: r)).2.2.1.length ((preS (b :: c :: r)).2.2.1.map (Value.int .i64)) ∧ Below w.heap.size w w' := by
  have b0 : ∀ (u : World) (o : Obj), Below u.heap.size u (u.alloc o) := fun u o => (Below.refl _ _).alloc (Nat.le_refl _) o
  have hz : s.size = s.data.toList.length := rfl
  have hz2 : 2 ≤ s.size := by rw [hz, hl]; simp
  have h3 : ¬ (s.size : Int) < 2 := by omega
  have h4 : (1 : Int) ≤ s.size := by omega
  have hs0 : ¬ s = ByteArray.empty := by intro e; subst e; simp at hz2
  have hbb : ∀ q : 0 < s.size, s[0]'q = b := fun q => byte0 hl q
  have hr : (s.extract 1 s.size).data.toList = c :: r := tail_s s b (c :: r) hl
  have hr2 : (s.extract 1 s.size).toList = c :: r := by rw [ByteArray.toList_eq]; exact hr
  rw [preS_go h]
  unfold barS at h
  simp only [Bool.or_eq_false_iff] at h
  obtain ⟨⟨n1, n2⟩, n3⟩ := h
  rw [← hr2] at n1 n2 n3
  have HU : Hid (∀ W : World, Calls Try.prog 47 #[.string (s.extract 1 s.size)] W fun e w' => ∃ v, e = .returned (.tuple #[.agg #[.int .i64 (unitS (c :: r)).1, .int .i64 (unitS (c :: r)).2.1], v, .bool (unitS (c :: r)).2.2.2]) ∧ w'.ownsRow W.heap.size 2 1 v (unitS (c :: r)).2.2.1.length ((unitS (c :: r)).2.2.1.map (Value.int .i64)) ∧ Below W.heap.size W w') := fun W => by
    have := sUnit_any (s.extract 1 s.size) W
    rw [hr] at this
    exact this
  obtain ⟨R, hR⟩ : ∃ R, R = unitS (c :: r) := ⟨_, rfl⟩
  rw [← hR] at HU ⊢
  clear hR hr hr2 hl hz hz2
  obtain ⟨n, d, xs, o⟩ := R
  simp only at HU ⊢
  have HM : Hid (∀ W : World, Calls Try.prog 85 #[.agg #[.int .i64 (pfx b).1, .int .i64 (pfx b).2], .agg #[.int .i64 n, .int .i64 d]] W fun e w' => e = .returned (.tuple #[.agg #[.int .i64 (mulQ (pfx b) (n, d)).1, .int .i64 (mulQ (pfx b) (n, d)).2.1], .bool (mulQ (pfx b) (n, d)).2.2]) ∧ Below W.heap.size W w') := fun W => sMul_any _ _ _ _ W
  obtain ⟨M, hM⟩ : ∃ M, M = mulQ (pfx b) (n, d) := ⟨_, rfl⟩
  rw [← hM] at HM ⊢
  clear hM
  obtain ⟨m1, m2, mo⟩ := M
  simp only at HM ⊢
  obtain ⟨p1, p2, hp⟩ : ∃ p1 p2, (p1, p2) = pfx b := ⟨_, _, rfl⟩
  rw [← hp] at HM
  simp only at HM
  rcases hb with rfl | rfl | rfl | rfl | rfl
  · obtain ⟨rfl, rfl⟩ := Prod.mk.inj hp
    clear hp
    go_enter Try.func48, Try.ntmps48
    go_upto_region 3 with go_in
    go_wp2_with fail
    refine (HU.out _).mono ?_
    rintro e w1 ⟨v, rfl, hv, hb⟩
    have hZ : IsB w1 w.heap.size #[.int .i64 0, .int .i64 0] 36 := (IsB.new w _ _).below hb
    have hBw : Below w.heap.size w w1 := (b0 _ _).trans (hb.mono (by simp))
    have hv2 := hidU (own_weak (base' := w.heap.size) hv (by simp))
    obtain ⟨Z, hZe⟩ : ∃ Z, Z = w.heap.size := ⟨_, rfl⟩
    have HZw : Hid (w.heap.size ≤ Z) := Nat.le_of_eq hZe.symm
    rw [← hZe] at hZ ⊢
    have HZ := hidU hZ
    have HBw := hidU hBw
    have z0 := hZ.cell (v := .int .i64 0) 0 rfl
    have z1 := hZ.cell (v := .int .i64 0) 1 rfl
    have f0 := hZ.frozen 0
    have f1 := hZ.frozen 1
    have HV := hidU (show w1.ownsRow (Z + 1) 2 1 v xs.length (xs.map (Value.int .i64)) by rw [hZe]; exact own_weak (base' := w.heap.size + 1) hv (by simp))
    clear hv hb hZe hZ hBw hv2
    cases o with
    | false =>
      have y0 := fun o1 o2 o3 => cell_al o3 (cell_al o2 (cell_al o1 z0))
      have y1 := fun o1 o2 o3 => cell_al o3 (cell_al o2 (cell_al o1 z1))
      have k0 := fun o1 o2 o3 => frozen_al o3 (cell_al o2 (cell_al o1 z0)) (frozen_al o2 (cell_al o1 z0) (frozen_al o1 z0 f0))
      have k1 := fun o1 o2 o3 => frozen_al o3 (cell_al o2 (cell_al o1 z1)) (frozen_al o2 (cell_al o1 z1) (frozen_al o1 z1 f1))
      clear z0 z1 f0 f1
      go_wp2
      obtain ⟨e0, e1, hO, hF⟩ := none_end (X := ((w1.alloc (.cells #[.int .i64 n, .int .i64 d] 36)).alloc (.cells #[.int .i64 1000, .int .i64 1] 36)).alloc (.cells #[] 2)) (g := w1.heap.size + 1 + 1) (w0 := w) (((HZ.out.below (b0 _ _)).below (b0 _ _)).below (b0 _ _)) (by have := IsB.new ((w1.alloc (.cells #[.int .i64 n, .int .i64 d] 36)).alloc (.cells #[.int .i64 1000, .int .i64 1] 36)) #[] 2; simpa using this) (by have := HZ.out.lt; omega) (by have := HBw.out.size; omega) (((HBw.out.alloc HBw.out.size _).alloc (by have := HBw.out.size; simp; omega) _).alloc (by have := HBw.out.size; simp; omega) _) HZw.out
      exact bodyPost_ret (v := .tuple #[.agg #[.int .i64 0, .int .i64 0], .slice (some ⟨w1.heap.size + 1 + 1, 0, none⟩) 0 0, .bool false]) (by simp [results, Try.results48, go_sem, e0, e1]) rfl ⟨_, rfl, hO, hF⟩
    | true =>
      go_wp2_with fail
      refine (HM.out _).mono ?_
      rintro e w2 ⟨rfl, hb⟩
      have hb2 : Below w1.heap.size w1 w2 := ((b0 _ _).alloc (by simp) _).trans (hb.mono (by simp; omega))
      have hZ2 := HZ.out.below hb2
      have hV2 := own_below HV.out hb2
      have hB2 := HBw.out.trans (hb2.mono HBw.out.size)
      skip
      clear z0 z1 f0 f1 hb hb2 HV HZ HBw HU HM
      have z0 := hZ2.cell (v := .int .i64 0) 0 rfl
      have z1 := hZ2.cell (v := .int .i64 0) 1 rfl
      have f0 := hZ2.frozen 0
      have f1 := hZ2.frozen 1
      have HZ := hidU hZ2
      have HB := hidU hB2
      have HV := hidU hV2
      clear hZ2 hB2 hV2
      cases mo with
      | false =>
        have y0 := fun o1 o2 => cell_al o2 (cell_al o1 z0)
        have y1 := fun o1 o2 => cell_al o2 (cell_al o1 z1)
        have k0 := fun o1 o2 => frozen_al o2 (cell_al o1 z0) (frozen_al o1 z0 f0)
        have k1 := fun o1 o2 => frozen_al o2 (cell_al o1 z1) (frozen_al o1 z1 f1)
        clear z0 z1 f0 f1
        go_wp2
        obtain ⟨e0, e1, hO, hF⟩ := none_end (X := (w2.alloc (.cells #[.int .i64 m1, .int .i64 m2] 36)).alloc (.cells #[] 2)) (g := w2.heap.size + 1) (w0 := w) ((HZ.out.below (b0 _ _)).below (b0 _ _)) (by have := IsB.new (w2.alloc (.cells #[.int .i64 m1, .int .i64 m2] 36)) #[] 2; simpa using this) (by have := HZ.out.lt; omega) (by have := HB.out.size; omega) ((HB.out.alloc HB.out.size _).alloc (by have := HB.out.size; simp; omega) _) HZw.out
        exact bodyPost_ret (v := .tuple #[.agg #[.int .i64 0, .int .i64 0], .slice (some ⟨w2.heap.size + 1, 0, none⟩) 0 0, .bool false]) (by simp [results, Try.results48, go_sem, e0, e1]) rfl ⟨_, rfl, hO, hF⟩
      | true =>
        have y0 := fun o1 => cell_al o1 z0
        have y1 := fun o1 => cell_al o1 z1
        have k0 := fun o1 => frozen_al o1 z0 f0
        have k1 := fun o1 => frozen_al o1 z1 f1
        clear z0 z1 f0 f1
        go_wp2
        obtain ⟨e0, e1⟩ := new2 (n := .int .i64 m1) (d := .int .i64 m2) (y0 (.cells #[.int .i64 m1, .int .i64 m2] 36)) (y1 (.cells #[.int .i64 m1, .int .i64 m2] 36))
        exact bodyPost_ret (v := .tuple #[.agg #[.int .i64 m1, .int .i64 m2], v, .bool true]) (by simp [results, Try.results48, go_sem, e0, e1]) rfl ⟨_, rfl, own_weak (own_setZ (own_setZ (own_below HV.out (b0 _ _)) (Nat.lt_succ_self _) 0 _) (Nat.lt_succ_self _) 1 _) (Nat.le_succ_of_le HZw.out), ((HB.out.alloc HB.out.size _).setCell (p := ⟨Z, 0, none⟩) HZw.out _).setCell (p := ⟨Z, 1, none⟩) HZw.out _⟩
  · obtain ⟨rfl, rfl⟩ := Prod.mk.inj hp
    clear hp
    go_enter Try.func48, Try.ntmps48
    go_upto_region 3 with go_in
    go_wp2_with fail
    refine (HU.out _).mono ?_
    rintro e w1 ⟨v, rfl, hv, hb⟩
    have hZ : IsB w1 w.heap.size #[.int .i64 0, .int .i64 0] 36 := (IsB.new w _ _).below hb
    have hBw : Below w.heap.size w w1 := (b0 _ _).trans (hb.mono (by simp))
    have hv2 := hidU (own_weak (base' := w.heap.size) hv (by simp))
    obtain ⟨Z, hZe⟩ : ∃ Z, Z = w.heap.size := ⟨_, rfl⟩
    have HZw : Hid (w.heap.size ≤ Z) := Nat.le_of_eq hZe.symm
    rw [← hZe] at hZ ⊢
    have HZ := hidU hZ
    have HBw := hidU hBw
    have z0 := hZ.cell (v := .int .i64 0) 0 rfl
    have z1 := hZ.cell (v := .int .i64 0) 1 rfl
    have f0 := hZ.frozen 0
    have f1 := hZ.frozen 1
    have HV := hidU (show w1.ownsRow (Z + 1) 2 1 v xs.length (xs.map (Value.int .i64)) by rw [hZe]; exact own_weak (base' := w.heap.size + 1) hv (by simp))
    clear hv hb hZe hZ hBw hv2
    cases o with
    | false =>
      have y0 := fun o1 o2 o3 => cell_al o3 (cell_al o2 (cell_al o1 z0))
      have y1 := fun o1 o2 o3 => cell_al o3 (cell_al o2 (cell_al o1 z1))
      have k0 := fun o1 o2 o3 => frozen_al o3 (cell_al o2 (cell_al o1 z0)) (frozen_al o2 (cell_al o1 z0) (frozen_al o1 z0 f0))
      have k1 := fun o1 o2 o3 => frozen_al o3 (cell_al o2 (cell_al o1 z1)) (frozen_al o2 (cell_al o1 z1) (frozen_al o1 z1 f1))
      clear z0 z1 f0 f1
      go_wp2
      obtain ⟨e0, e1, hO, hF⟩ := none_end (X := ((w1.alloc (.cells #[.int .i64 n, .int .i64 d] 36)).alloc (.cells #[.int .i64 1, .int .i64 100] 36)).alloc (.cells #[] 2)) (g := w1.heap.size + 1 + 1) (w0 := w) (((HZ.out.below (b0 _ _)).below (b0 _ _)).below (b0 _ _)) (by have := IsB.new ((w1.alloc (.cells #[.int .i64 n, .int .i64 d] 36)).alloc (.cells #[.int .i64 1, .int .i64 100] 36)) #[] 2; simpa using this) (by have := HZ.out.lt; omega) (by have := HBw.out.size; omega) (((HBw.out.alloc HBw.out.size _).alloc (by have := HBw.out.size; simp; omega) _).alloc (by have := HBw.out.size; simp; omega) _) HZw.out
      exact bodyPost_ret (v := .tuple #[.agg #[.int .i64 0, .int .i64 0], .slice (some ⟨w1.heap.size + 1 + 1, 0, none⟩) 0 0, .bool false]) (by simp [results, Try.results48, go_sem, e0, e1]) rfl ⟨_, rfl, hO, hF⟩
    | true =>
      go_wp2_with fail
      refine (HM.out _).mono ?_
      rintro e w2 ⟨rfl, hb⟩
      have hb2 : Below w1.heap.size w1 w2 := ((b0 _ _).alloc (by simp) _).trans (hb.mono (by simp; omega))
      have hZ2 := HZ.out.below hb2
      have hV2 := own_below HV.out hb2
      have hB2 := HBw.out.trans (hb2.mono HBw.out.size)
      skip
      clear z0 z1 f0 f1 hb hb2 HV HZ HBw HU HM
      have z0 := hZ2.cell (v := .int .i64 0) 0 rfl
      have z1 := hZ2.cell (v := .int .i64 0) 1 rfl
      have f0 := hZ2.frozen 0
      have f1 := hZ2.frozen 1
      have HZ := hidU hZ2
      have HB := hidU hB2
      have HV := hidU hV2
      clear hZ2 hB2 hV2
      cases mo with
      | false =>
        have y0 := fun o1 o2 => cell_al o2 (cell_al o1 z0)
        have y1 := fun o1 o2 => cell_al o2 (cell_al o1 z1)
        have k0 := fun o1 o2 => frozen_al o2 (cell_al o1 z0) (frozen_al o1 z0 f0)
        have k1 := fun o1 o2 => frozen_al o2 (cell_al o1 z1) (frozen_al o1 z1 f1)
        clear z0 z1 f0 f1
        go_wp2
        obtain ⟨e0, e1, hO, hF⟩ := none_end (X := (w2.alloc (.cells #[.int .i64 m1, .int .i64 m2] 36)).alloc (.cells #[] 2)) (g := w2.heap.size + 1) (w0 := w) ((HZ.out.below (b0 _ _)).below (b0 _ _)) (by have := IsB.new (w2.alloc (.cells #[.int .i64 m1, .int .i64 m2] 36)) #[] 2; simpa using this) (by have := HZ.out.lt; omega) (by have := HB.out.size; omega) ((HB.out.alloc HB.out.size _).alloc (by have := HB.out.size; simp; omega) _) HZw.out
        exact bodyPost_ret (v := .tuple #[.agg #[.int .i64 0, .int .i64 0], .slice (some ⟨w2.heap.size + 1, 0, none⟩) 0 0, .bool false]) (by simp [results, Try.results48, go_sem, e0, e1]) rfl ⟨_, rfl, hO, hF⟩
      | true =>
        have y0 := fun o1 => cell_al o1 z0
        have y1 := fun o1 => cell_al o1 z1
        have k0 := fun o1 => frozen_al o1 z0 f0
        have k1 := fun o1 => frozen_al o1 z1 f1
        clear z0 z1 f0 f1
        go_wp2
        obtain ⟨e0, e1⟩ := new2 (n := .int .i64 m1) (d := .int .i64 m2) (y0 (.cells #[.int .i64 m1, .int .i64 m2] 36)) (y1 (.cells #[.int .i64 m1, .int .i64 m2] 36))
        exact bodyPost_ret (v := .tuple #[.agg #[.int .i64 m1, .int .i64 m2], v, .bool true]) (by simp [results, Try.results48, go_sem, e0, e1]) rfl ⟨_, rfl, own_weak (own_setZ (own_setZ (own_below HV.out (b0 _ _)) (Nat.lt_succ_self _) 0 _) (Nat.lt_succ_self _) 1 _) (Nat.le_succ_of_le HZw.out), ((HB.out.alloc HB.out.size _).setCell (p := ⟨Z, 0, none⟩) HZw.out _).setCell (p := ⟨Z, 1, none⟩) HZw.out _⟩
  · obtain ⟨rfl, rfl⟩ := Prod.mk.inj hp
    clear hp
    go_enter Try.func48, Try.ntmps48
    go_upto_region 3 with go_in
    go_wp2_with fail
    refine (HU.out _).mono ?_
    rintro e w1 ⟨v, rfl, hv, hb⟩
    have hZ : IsB w1 w.heap.size #[.int .i64 0, .int .i64 0] 36 := (IsB.new w _ _).below hb
    have hBw : Below w.heap.size w w1 := (b0 _ _).trans (hb.mono (by simp))
    have hv2 := hidU (own_weak (base' := w.heap.size) hv (by simp))
    obtain ⟨Z, hZe⟩ : ∃ Z, Z = w.heap.size := ⟨_, rfl⟩
    have HZw : Hid (w.heap.size ≤ Z) := Nat.le_of_eq hZe.symm
    rw [← hZe] at hZ ⊢
    have HZ := hidU hZ
    have HBw := hidU hBw
    have z0 := hZ.cell (v := .int .i64 0) 0 rfl
    have z1 := hZ.cell (v := .int .i64 0) 1 rfl
    have f0 := hZ.frozen 0
    have f1 := hZ.frozen 1
    have HV := hidU (show w1.ownsRow (Z + 1) 2 1 v xs.length (xs.map (Value.int .i64)) by rw [hZe]; exact own_weak (base' := w.heap.size + 1) hv (by simp))
    clear hv hb hZe hZ hBw hv2
    cases o with
    | false =>
      have y0 := fun o1 o2 o3 => cell_al o3 (cell_al o2 (cell_al o1 z0))
      have y1 := fun o1 o2 o3 => cell_al o3 (cell_al o2 (cell_al o1 z1))
      have k0 := fun o1 o2 o3 => frozen_al o3 (cell_al o2 (cell_al o1 z0)) (frozen_al o2 (cell_al o1 z0) (frozen_al o1 z0 f0))
      have k1 := fun o1 o2 o3 => frozen_al o3 (cell_al o2 (cell_al o1 z1)) (frozen_al o2 (cell_al o1 z1) (frozen_al o1 z1 f1))
      clear z0 z1 f0 f1
      go_wp2
      obtain ⟨e0, e1, hO, hF⟩ := none_end (X := ((w1.alloc (.cells #[.int .i64 n, .int .i64 d] 36)).alloc (.cells #[.int .i64 1, .int .i64 1000] 36)).alloc (.cells #[] 2)) (g := w1.heap.size + 1 + 1) (w0 := w) (((HZ.out.below (b0 _ _)).below (b0 _ _)).below (b0 _ _)) (by have := IsB.new ((w1.alloc (.cells #[.int .i64 n, .int .i64 d] 36)).alloc (.cells #[.int .i64 1, .int .i64 1000] 36)) #[] 2; simpa using this) (by have := HZ.out.lt; omega) (by have := HBw.out.size; omega) (((HBw.out.alloc HBw.out.size _).alloc (by have := HBw.out.size; simp; omega) _).alloc (by have := HBw.out.size; simp; omega) _) HZw.out
      exact bodyPost_ret (v := .tuple #[.agg #[.int .i64 0, .int .i64 0], .slice (some ⟨w1.heap.size + 1 + 1, 0, none⟩) 0 0, .bool false]) (by simp [results, Try.results48, go_sem, e0, e1]) rfl ⟨_, rfl, hO, hF⟩
    | true =>
      go_wp2_with fail
      refine (HM.out _).mono ?_
      rintro e w2 ⟨rfl, hb⟩
      have hb2 : Below w1.heap.size w1 w2 := ((b0 _ _).alloc (by simp) _).trans (hb.mono (by simp; omega))
      have hZ2 := HZ.out.below hb2
      have hV2 := own_below HV.out hb2
      have hB2 := HBw.out.trans (hb2.mono HBw.out.size)
      skip
      clear z0 z1 f0 f1 hb hb2 HV HZ HBw HU HM
      have z0 := hZ2.cell (v := .int .i64 0) 0 rfl
      have z1 := hZ2.cell (v := .int .i64 0) 1 rfl
      have f0 := hZ2.frozen 0
      have f1 := hZ2.frozen 1
      have HZ := hidU hZ2
      have HB := hidU hB2
      have HV := hidU hV2
      clear hZ2 hB2 hV2
      cases mo with
      | false =>
        have y0 := fun o1 o2 => cell_al o2 (cell_al o1 z0)
        have y1 := fun o1 o2 => cell_al o2 (cell_al o1 z1)
        have k0 := fun o1 o2 => frozen_al o2 (cell_al o1 z0) (frozen_al o1 z0 f0)
        have k1 := fun o1 o2 => frozen_al o2 (cell_al o1 z1) (frozen_al o1 z1 f1)
        clear z0 z1 f0 f1
        go_wp2
        obtain ⟨e0, e1, hO, hF⟩ := none_end (X := (w2.alloc (.cells #[.int .i64 m1, .int .i64 m2] 36)).alloc (.cells #[] 2)) (g := w2.heap.size + 1) (w0 := w) ((HZ.out.below (b0 _ _)).below (b0 _ _)) (by have := IsB.new (w2.alloc (.cells #[.int .i64 m1, .int .i64 m2] 36)) #[] 2; simpa using this) (by have := HZ.out.lt; omega) (by have := HB.out.size; omega) ((HB.out.alloc HB.out.size _).alloc (by have := HB.out.size; simp; omega) _) HZw.out
        exact bodyPost_ret (v := .tuple #[.agg #[.int .i64 0, .int .i64 0], .slice (some ⟨w2.heap.size + 1, 0, none⟩) 0 0, .bool false]) (by simp [results, Try.results48, go_sem, e0, e1]) rfl ⟨_, rfl, hO, hF⟩
      | true =>
        have y0 := fun o1 => cell_al o1 z0
        have y1 := fun o1 => cell_al o1 z1
        have k0 := fun o1 => frozen_al o1 z0 f0
        have k1 := fun o1 => frozen_al o1 z1 f1
        clear z0 z1 f0 f1
        go_wp2
        obtain ⟨e0, e1⟩ := new2 (n := .int .i64 m1) (d := .int .i64 m2) (y0 (.cells #[.int .i64 m1, .int .i64 m2] 36)) (y1 (.cells #[.int .i64 m1, .int .i64 m2] 36))
        exact bodyPost_ret (v := .tuple #[.agg #[.int .i64 m1, .int .i64 m2], v, .bool true]) (by simp [results, Try.results48, go_sem, e0, e1]) rfl ⟨_, rfl, own_weak (own_setZ (own_setZ (own_below HV.out (b0 _ _)) (Nat.lt_succ_self _) 0 _) (Nat.lt_succ_self _) 1 _) (Nat.le_succ_of_le HZw.out), ((HB.out.alloc HB.out.size _).setCell (p := ⟨Z, 0, none⟩) HZw.out _).setCell (p := ⟨Z, 1, none⟩) HZw.out _⟩
  · obtain ⟨rfl, rfl⟩ := Prod.mk.inj hp
    clear hp
    go_enter Try.func48, Try.ntmps48
    go_upto_region 3 with go_in
    go_wp2_with fail
    refine (HU.out _).mono ?_
    rintro e w1 ⟨v, rfl, hv, hb⟩
    have hZ : IsB w1 w.heap.size #[.int .i64 0, .int .i64 0] 36 := (IsB.new w _ _).below hb
    have hBw : Below w.heap.size w w1 := (b0 _ _).trans (hb.mono (by simp))
    have hv2 := hidU (own_weak (base' := w.heap.size) hv (by simp))
    obtain ⟨Z, hZe⟩ : ∃ Z, Z = w.heap.size := ⟨_, rfl⟩
    have HZw : Hid (w.heap.size ≤ Z) := Nat.le_of_eq hZe.symm
    rw [← hZe] at hZ ⊢
    have HZ := hidU hZ
    have HBw := hidU hBw
    have z0 := hZ.cell (v := .int .i64 0) 0 rfl
    have z1 := hZ.cell (v := .int .i64 0) 1 rfl
    have f0 := hZ.frozen 0
    have f1 := hZ.frozen 1
    have HV := hidU (show w1.ownsRow (Z + 1) 2 1 v xs.length (xs.map (Value.int .i64)) by rw [hZe]; exact own_weak (base' := w.heap.size + 1) hv (by simp))
    clear hv hb hZe hZ hBw hv2
    cases o with
    | false =>
      have y0 := fun o1 o2 o3 => cell_al o3 (cell_al o2 (cell_al o1 z0))
      have y1 := fun o1 o2 o3 => cell_al o3 (cell_al o2 (cell_al o1 z1))
      have k0 := fun o1 o2 o3 => frozen_al o3 (cell_al o2 (cell_al o1 z0)) (frozen_al o2 (cell_al o1 z0) (frozen_al o1 z0 f0))
      have k1 := fun o1 o2 o3 => frozen_al o3 (cell_al o2 (cell_al o1 z1)) (frozen_al o2 (cell_al o1 z1) (frozen_al o1 z1 f1))
      clear z0 z1 f0 f1
      go_wp2
      obtain ⟨e0, e1, hO, hF⟩ := none_end (X := ((w1.alloc (.cells #[.int .i64 n, .int .i64 d] 36)).alloc (.cells #[.int .i64 1, .int .i64 1000000] 36)).alloc (.cells #[] 2)) (g := w1.heap.size + 1 + 1) (w0 := w) (((HZ.out.below (b0 _ _)).below (b0 _ _)).below (b0 _ _)) (by have := IsB.new ((w1.alloc (.cells #[.int .i64 n, .int .i64 d] 36)).alloc (.cells #[.int .i64 1, .int .i64 1000000] 36)) #[] 2; simpa using this) (by have := HZ.out.lt; omega) (by have := HBw.out.size; omega) (((HBw.out.alloc HBw.out.size _).alloc (by have := HBw.out.size; simp; omega) _).alloc (by have := HBw.out.size; simp; omega) _) HZw.out
      exact bodyPost_ret (v := .tuple #[.agg #[.int .i64 0, .int .i64 0], .slice (some ⟨w1.heap.size + 1 + 1, 0, none⟩) 0 0, .bool false]) (by simp [results, Try.results48, go_sem, e0, e1]) rfl ⟨_, rfl, hO, hF⟩
    | true =>
      go_wp2_with fail
      refine (HM.out _).mono ?_
      rintro e w2 ⟨rfl, hb⟩
      have hb2 : Below w1.heap.size w1 w2 := ((b0 _ _).alloc (by simp) _).trans (hb.mono (by simp; omega))
      have hZ2 := HZ.out.below hb2
      have hV2 := own_below HV.out hb2
      have hB2 := HBw.out.trans (hb2.mono HBw.out.size)
      skip
      clear z0 z1 f0 f1 hb hb2 HV HZ HBw HU HM
      have z0 := hZ2.cell (v := .int .i64 0) 0 rfl
      have z1 := hZ2.cell (v := .int .i64 0) 1 rfl
      have f0 := hZ2.frozen 0
      have f1 := hZ2.frozen 1
      have HZ := hidU hZ2
      have HB := hidU hB2
      have HV := hidU hV2
      clear hZ2 hB2 hV2
      cases mo with
      | false =>
        have y0 := fun o1 o2 => cell_al o2 (cell_al o1 z0)
        have y1 := fun o1 o2 => cell_al o2 (cell_al o1 z1)
        have k0 := fun o1 o2 => frozen_al o2 (cell_al o1 z0) (frozen_al o1 z0 f0)
        have k1 := fun o1 o2 => frozen_al o2 (cell_al o1 z1) (frozen_al o1 z1 f1)
        clear z0 z1 f0 f1
        go_wp2
        obtain ⟨e0, e1, hO, hF⟩ := none_end (X := (w2.alloc (.cells #[.int .i64 m1, .int .i64 m2] 36)).alloc (.cells #[] 2)) (g := w2.heap.size + 1) (w0 := w) ((HZ.out.below (b0 _ _)).below (b0 _ _)) (by have := IsB.new (w2.alloc (.cells #[.int .i64 m1, .int .i64 m2] 36)) #[] 2; simpa using this) (by have := HZ.out.lt; omega) (by have := HB.out.size; omega) ((HB.out.alloc HB.out.size _).alloc (by have := HB.out.size; simp; omega) _) HZw.out
        exact bodyPost_ret (v := .tuple #[.agg #[.int .i64 0, .int .i64 0], .slice (some ⟨w2.heap.size + 1, 0, none⟩) 0 0, .bool false]) (by simp [results, Try.results48, go_sem, e0, e1]) rfl ⟨_, rfl, hO, hF⟩
      | true =>
        have y0 := fun o1 => cell_al o1 z0
        have y1 := fun o1 => cell_al o1 z1
        have k0 := fun o1 => frozen_al o1 z0 f0
        have k1 := fun o1 => frozen_al o1 z1 f1
        clear z0 z1 f0 f1
        go_wp2
        obtain ⟨e0, e1⟩ := new2 (n := .int .i64 m1) (d := .int .i64 m2) (y0 (.cells #[.int .i64 m1, .int .i64 m2] 36)) (y1 (.cells #[.int .i64 m1, .int .i64 m2] 36))
        exact bodyPost_ret (v := .tuple #[.agg #[.int .i64 m1, .int .i64 m2], v, .bool true]) (by simp [results, Try.results48, go_sem, e0, e1]) rfl ⟨_, rfl, own_weak (own_setZ (own_setZ (own_below HV.out (b0 _ _)) (Nat.lt_succ_self _) 0 _) (Nat.lt_succ_self _) 1 _) (Nat.le_succ_of_le HZw.out), ((HB.out.alloc HB.out.size _).setCell (p := ⟨Z, 0, none⟩) HZw.out _).setCell (p := ⟨Z, 1, none⟩) HZw.out _⟩
  · obtain ⟨rfl, rfl⟩ := Prod.mk.inj hp
    clear hp
    go_enter Try.func48, Try.ntmps48
    go_upto_region 3 with go_in
    go_wp2_with fail
    refine (HU.out _).mono ?_
    rintro e w1 ⟨v, rfl, hv, hb⟩
    have hZ : IsB w1 w.heap.size #[.int .i64 0, .int .i64 0] 36 := (IsB.new w _ _).below hb
    have hBw : Below w.heap.size w w1 := (b0 _ _).trans (hb.mono (by simp))
    have hv2 := hidU (own_weak (base' := w.heap.size) hv (by simp))
    obtain ⟨Z, hZe⟩ : ∃ Z, Z = w.heap.size := ⟨_, rfl⟩
    have HZw : Hid (w.heap.size ≤ Z) := Nat.le_of_eq hZe.symm
    rw [← hZe] at hZ ⊢
    have HZ := hidU hZ
    have HBw := hidU hBw
    have z0 := hZ.cell (v := .int .i64 0) 0 rfl
    have z1 := hZ.cell (v := .int .i64 0) 1 rfl
    have f0 := hZ.frozen 0
    have f1 := hZ.frozen 1
    have HV := hidU (show w1.ownsRow (Z + 1) 2 1 v xs.length (xs.map (Value.int .i64)) by rw [hZe]; exact own_weak (base' := w.heap.size + 1) hv (by simp))
    clear hv hb hZe hZ hBw hv2
    cases o with
    | false =>
      have y0 := fun o1 o2 o3 => cell_al o3 (cell_al o2 (cell_al o1 z0))
      have y1 := fun o1 o2 o3 => cell_al o3 (cell_al o2 (cell_al o1 z1))
      have k0 := fun o1 o2 o3 => frozen_al o3 (cell_al o2 (cell_al o1 z0)) (frozen_al o2 (cell_al o1 z0) (frozen_al o1 z0 f0))
      have k1 := fun o1 o2 o3 => frozen_al o3 (cell_al o2 (cell_al o1 z1)) (frozen_al o2 (cell_al o1 z1) (frozen_al o1 z1 f1))
      clear z0 z1 f0 f1
      go_wp2
      obtain ⟨e0, e1, hO, hF⟩ := none_end (X := ((w1.alloc (.cells #[.int .i64 n, .int .i64 d] 36)).alloc (.cells #[.int .i64 1000000, .int .i64 1] 36)).alloc (.cells #[] 2)) (g := w1.heap.size + 1 + 1) (w0 := w) (((HZ.out.below (b0 _ _)).below (b0 _ _)).below (b0 _ _)) (by have := IsB.new ((w1.alloc (.cells #[.int .i64 n, .int .i64 d] 36)).alloc (.cells #[.int .i64 1000000, .int .i64 1] 36)) #[] 2; simpa using this) (by have := HZ.out.lt; omega) (by have := HBw.out.size; omega) (((HBw.out.alloc HBw.out.size _).alloc (by have := HBw.out.size; simp; omega) _).alloc (by have := HBw.out.size; simp; omega) _) HZw.out
      exact bodyPost_ret (v := .tuple #[.agg #[.int .i64 0, .int .i64 0], .slice (some ⟨w1.heap.size + 1 + 1, 0, none⟩) 0 0, .bool false]) (by simp [results, Try.results48, go_sem, e0, e1]) rfl ⟨_, rfl, hO, hF⟩
    | true =>
      go_wp2_with fail
      refine (HM.out _).mono ?_
      rintro e w2 ⟨rfl, hb⟩
      have hb2 : Below w1.heap.size w1 w2 := ((b0 _ _).alloc (by simp) _).trans (hb.mono (by simp; omega))
      have hZ2 := HZ.out.below hb2
      have hV2 := own_below HV.out hb2
      have hB2 := HBw.out.trans (hb2.mono HBw.out.size)
      skip
      clear z0 z1 f0 f1 hb hb2 HV HZ HBw HU HM
      have z0 := hZ2.cell (v := .int .i64 0) 0 rfl
      have z1 := hZ2.cell (v := .int .i64 0) 1 rfl
      have f0 := hZ2.frozen 0
      have f1 := hZ2.frozen 1
      have HZ := hidU hZ2
      have HB := hidU hB2
      have HV := hidU hV2
      clear hZ2 hB2 hV2
      cases mo with
      | false =>
        have y0 := fun o1 o2 => cell_al o2 (cell_al o1 z0)
        have y1 := fun o1 o2 => cell_al o2 (cell_al o1 z1)
        have k0 := fun o1 o2 => frozen_al o2 (cell_al o1 z0) (frozen_al o1 z0 f0)
        have k1 := fun o1 o2 => frozen_al o2 (cell_al o1 z1) (frozen_al o1 z1 f1)
        clear z0 z1 f0 f1
        go_wp2
        obtain ⟨e0, e1, hO, hF⟩ := none_end (X := (w2.alloc (.cells #[.int .i64 m1, .int .i64 m2] 36)).alloc (.cells #[] 2)) (g := w2.heap.size + 1) (w0 := w) ((HZ.out.below (b0 _ _)).below (b0 _ _)) (by have := IsB.new (w2.alloc (.cells #[.int .i64 m1, .int .i64 m2] 36)) #[] 2; simpa using this) (by have := HZ.out.lt; omega) (by have := HB.out.size; omega) ((HB.out.alloc HB.out.size _).alloc (by have := HB.out.size; simp; omega) _) HZw.out
        exact bodyPost_ret (v := .tuple #[.agg #[.int .i64 0, .int .i64 0], .slice (some ⟨w2.heap.size + 1, 0, none⟩) 0 0, .bool false]) (by simp [results, Try.results48, go_sem, e0, e1]) rfl ⟨_, rfl, hO, hF⟩
      | true =>
        have y0 := fun o1 => cell_al o1 z0
        have y1 := fun o1 => cell_al o1 z1
        have k0 := fun o1 => frozen_al o1 z0 f0
        have k1 := fun o1 => frozen_al o1 z1 f1
        clear z0 z1 f0 f1
        go_wp2
        obtain ⟨e0, e1⟩ := new2 (n := .int .i64 m1) (d := .int .i64 m2) (y0 (.cells #[.int .i64 m1, .int .i64 m2] 36)) (y1 (.cells #[.int .i64 m1, .int .i64 m2] 36))
        exact bodyPost_ret (v := .tuple #[.agg #[.int .i64 m1, .int .i64 m2], v, .bool true]) (by simp [results, Try.results48, go_sem, e0, e1]) rfl ⟨_, rfl, own_weak (own_setZ (own_setZ (own_below HV.out (b0 _ _)) (Nat.lt_succ_self _) 0 _) (Nat.lt_succ_self _) 1 _) (Nat.le_succ_of_le HZw.out), ((HB.out.alloc HB.out.size _).setCell (p := ⟨Z, 0, none⟩) HZw.out _).setCell (p := ⟨Z, 1, none⟩) HZw.out _⟩
end Go.Proofs.Ytpgidpiaodgndak
