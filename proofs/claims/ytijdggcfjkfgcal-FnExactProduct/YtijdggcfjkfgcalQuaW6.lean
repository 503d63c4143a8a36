/- The laws' helpers over quantities: copied, measured, held against each other, marked. -/
import Derived.Test.YtijdggcfjkfgcalQuaW5
import Derived.Test.YtijdggcfjkfgcalArgW
namespace Go.Proofs.Ytijdggcfjkfgcal
open Go.RowKit Go.Proofs.Ytijdggcfjkfgcal.RM

theorem IsB.kp {W W' : World} {B lo hi : Nat} {vs : Array Value} {t : TypeId} (h : IsB W B vs t) (hk : Kp lo hi W W') (hr : B < lo ∨ hi ≤ B) : IsB W' B vs t := (hk.block B h.lt hr).trans h
theorem own_other {W : World} {base n b : Nat} {e : TypeId} {v : Value} {xs : List Value} (h : W.ownsRow base e 1 v n xs) (hb : b < base) (o : Nat) (x : Value) : (W.setCell ⟨b, o, none⟩ x).ownsRow base e 1 v n xs :=
  h.kept (row := some b) ⟨rfl, rfl, rfl, by simp, fun j _ hj => Below.heap_setCell W ⟨b, o, none⟩ x j (fun e => hj (by rw [e]))⟩ (.inr fun e' => by have := (h.lt b e').1; omega)

set_option maxRecDepth 100000 in
set_option maxHeartbeats 1000000 in
theorem toQ_any (n d : Int) (a : Option Addr) (len cap : Nat) (zs : List Int) (w : World) (hr : IsRow .i64 w a len cap zs) (hl : len ≤ 1048576) :
    Calls Try.prog 16 #[.agg #[.int .i64 n, .int .i64 d, .slice a len cap]] w fun e w' => ∃ v, e = .returned (.agg #[.int .i64 n, .int .i64 d, v]) ∧ w'.ownsRow w.heap.size 2 1 v len ((zs.take len).map (Value.int .i64)) ∧ Below w.heap.size w w' := by
  have b0 : ∀ (u : World) (o : Obj), Below u.heap.size u (u.alloc o) := fun u o => (Below.refl _ _).alloc (Nat.le_refl _) o
  have HI := hidU (fun W (hW : Below w.heap.size w W) => toI_any a len cap zs W (hr.below hW) hl)
  obtain ⟨us, hus⟩ : ∃ us, us = (zs.take len).map (Value.int .i64) := ⟨_, rfl⟩
  rw [← hus] at HI ⊢
  clear hus hr
  go_enter Try.func16, Try.ntmps16
  go_wp2_with fail
  refine (to_any _ _ _).mono ?_
  rintro e w1 ⟨rfl, hb⟩
  obtain ⟨A, hA⟩ : ∃ A, A = w.heap.size := ⟨_, rfl⟩
  have hAw : Hid (w.heap.size ≤ A) := Nat.le_of_eq hA.symm
  have k1 : IsB w1 A #[.int .i64 n, .int .i64 d, .slice a len cap] 30 := by rw [hA]; exact (((IsB.new w _ _).below (b0 _ _)).below (b0 _ _)).below hb
  have k2 : IsB w1 (A + 1) #[.int .i64 0, .int .i64 0, .slice none 0 0] 35 := by rw [hA]; exact ((IsB.new2c w _ _ _).below (b0 _ _)).below hb
  have k3 : IsB w1 (A + 1 + 1) #[.int .i64 0, .int .i64 0, .slice none 0 0] 35 := by rw [hA]; exact (IsB.new3c w _ _ _ _).below hb
  have hB1 : Below w.heap.size w w1 := (((b0 _ _).alloc (by simp) _).alloc (by simp; omega) _).trans (hb.mono (by simp; omega))
  rw [← hA]
  clear hb hA
  obtain ⟨Z, hZ⟩ : ∃ Z, Z = A + 1 + 1 := ⟨_, rfl⟩
  obtain ⟨D, hD⟩ : ∃ D, D = A + 1 := ⟨_, rfl⟩
  rw [← hD] at k2 k3 hZ ⊢
  rw [← hZ] at k3 ⊢
  have hZw : Hid (w.heap.size ≤ Z) := by have := hAw.out; show _ ≤ _; omega
  have hDw : Hid (w.heap.size ≤ D) := by have := hAw.out; show _ ≤ _; omega
  have hAZ : A ≠ Z := by omega
  have hDZ : D ≠ Z := by omega
  clear hZ hD
  have j3 : IsB ((w1.setCell ⟨Z, 0, none⟩ (.int .i64 n)).setCell ⟨Z, 1, none⟩ (.int .i64 d)) Z #[.int .i64 n, .int .i64 d, .slice none 0 0] 35 := (k3.set 0 (.int .i64 n)).set 1 (.int .i64 d)
  have j1 : IsB ((w1.setCell ⟨Z, 0, none⟩ (.int .i64 n)).setCell ⟨Z, 1, none⟩ (.int .i64 d)) A #[.int .i64 n, .int .i64 d, .slice a len cap] 30 := (k1.other hAZ 0 (.int .i64 n)).other hAZ 1 (.int .i64 d)
  have j2 : IsB ((w1.setCell ⟨Z, 0, none⟩ (.int .i64 n)).setCell ⟨Z, 1, none⟩ (.int .i64 d)) D #[.int .i64 0, .int .i64 0, .slice none 0 0] 35 := (k2.other hDZ 0 (.int .i64 n)).other hDZ 1 (.int .i64 d)
  have HB := hidU ((hB1.setCell (p := ⟨Z, 0, none⟩) hZw.out (.int .i64 n)).setCell (p := ⟨Z, 1, none⟩) hZw.out (.int .i64 d))
  have J3 := hidU j3
  have J1 := hidU j1
  have J2 := hidU j2
  obtain ⟨z0, z1, z2⟩ := k3.c3
  obtain ⟨f0, f1, f2⟩ := k3.f3
  obtain ⟨x0, x1, x2⟩ := k1.c3
  clear k1 k2 k3 j1 j2 j3 hB1
  go_upto_region 3 with fail
  obtain ⟨X, hX⟩ : ∃ X, X = (w1.setCell ⟨Z, 0, none⟩ (.int .i64 n)).setCell ⟨Z, 1, none⟩ (.int .i64 d) := ⟨_, rfl⟩
  rw [← hX] at J1 J2 J3 HB ⊢
  clear hX x0 x1 x2 z0 z1 z2 f0 f1 f2
  obtain ⟨x0, x1, x2⟩ := J1.out.c3
  go_wp2_with fail
  refine (HI.out _ HB.out).mono ?_
  rintro e w2 ⟨v, rfl, ov, hb⟩
  obtain ⟨av, cv, rfl⟩ := own_shape ov
  have hZX := J3.out.lt
  have k3 := J3.out.below hb
  have k2 := J2.out.below hb
  have hXB := HB.out.size
  have HBB := hidU (HB.out.trans (hb.mono hXB))
  have HOV := hidU (own_le (own_other (own_other (own_other (own_other ov hZX 2 (.slice av len cv)) (J2.out.lt) 0 (.int .i64 n)) (J2.out.lt) 1 (.int .i64 d)) (J2.out.lt) 2 (.slice av len cv)) hXB)
  have KZ := hidU (k3.set 2 (.slice av len cv))
  have KD := hidU (((k2.other hDZ 2 (.slice av len cv)).set3 (.int .i64 n) (.int .i64 d) (.slice av len cv)))
  obtain ⟨z0, z1, z2⟩ := k3.c3
  obtain ⟨f0, f1, f2⟩ := k3.f3
  obtain ⟨y0, y1, y2⟩ := k2.c3
  obtain ⟨g0, g1, g2⟩ := k2.f3
  clear x0 x1 x2 hb J1 J2 J3 HB k2 k3 ov hZX hXB
  go_wp2
  obtain ⟨q0, q1, q2⟩ := KD.out.c3
  exact bodyPost_ret (v := .agg #[.int .i64 n, .int .i64 d, .slice av len cv]) (by simp [results, Try.results16, go_sem, q0, q1, q2]) rfl ⟨_, rfl, HOV.out, below_set3 (HBB.out.setCell (p := ⟨Z, 2, none⟩) hZw.out _) hDw.out _ _ _⟩

set_option maxRecDepth 100000 in
set_option maxHeartbeats 1000000 in
theorem eqQ_any (n d : Int) (v u : Value) (zs : List Int) (l1 h1 l2 h2 : Nat) (w : World) (hn : zs.length ≤ 1000000000) (H1 : RowM w l1 h1 v zs) (H2 : RowM w l2 h2 u zs) :
    Calls Try.prog 18 #[.agg #[.int .i64 n, .int .i64 d, v], .agg #[.int .i64 n, .int .i64 d, u]] w fun e w' => e = .returned (.bool true) ∧ Below w.heap.size w w' := by
  have b0 : ∀ (u : World) (o : Obj), Below u.heap.size u (u.alloc o) := fun u o => (Below.refl _ _).alloc (Nat.le_refl _) o
  have HE := hidU (fun W (hW : Below w.heap.size w W) => eqM_any v u zs zs.length l1 h1 l2 h2 W rfl hn (H1.below hW) (H2.below hW))
  obtain ⟨a, c, rfl⟩ := H1.shape
  obtain ⟨a', c', rfl⟩ := H2.shape
  obtain ⟨k, hk⟩ : ∃ k, k = zs.length := ⟨_, rfl⟩
  rw [← hk] at HE ⊢
  clear H1 H2 hk hn
  go_enter Try.func18, Try.ntmps18
  go_wp2_with fail
  refine (eq_same _ _ _).mono ?_
  rintro e w1 ⟨rfl, hb⟩
  have k1 : IsB w1 w.heap.size #[.int .i64 n, .int .i64 d, .slice a k c] 35 := ((IsB.new w _ _).below (b0 _ _)).below hb
  have k2 : IsB w1 (w.heap.size + 1) #[.int .i64 n, .int .i64 d, .slice a' k c'] 35 := (IsB.new2c w _ _ _).below hb
  have HB := hidU (((b0 _ _).alloc (by simp) _).trans (hb.mono (by simp; omega)) : Below w.heap.size w w1)
  obtain ⟨x0, x1, x2⟩ := k1.c3
  obtain ⟨y0, y1, y2⟩ := k2.c3
  clear hb k1 k2
  go_wp2_with fail
  refine (HE.out _ HB.out).mono ?_
  rintro e w2 ⟨rfl, m, hw⟩
  have HB2 := hidU (show Below w.heap.size w w2 by rw [hw]; exact below_drewN HB.out m)
  clear hw x0 x1 x2 y0 y1 y2
  go_wp2
  go_ret
  exact ⟨rfl, HB2.out⟩

set_option maxRecDepth 100000 in
set_option maxHeartbeats 1000000 in
theorem markQ_any (n d : Int) (v : Value) (zs : List Int) (m lo hi : Nat) (k0 : Int) (w : World) (hn : zs.length = m) (hn2 : m ≤ 1000000000) (hk0 : 0 ≤ k0) (hk1 : k0 ≤ 1000000000000000) (H : RowM w lo hi v zs) :
    Calls Try.prog 22 #[.agg #[.int .i64 n, .int .i64 d, v], .int .i64 k0] w fun e w' => e = .returned (.int .i64 (k0 + m)) ∧ RowM w' lo hi v (mrk k0 zs m) ∧ Kp lo hi w w' := by
  have b0 : ∀ (u : World) (o : Obj), Below u.heap.size u (u.alloc o) := fun u o => (Below.refl _ _).alloc (Nat.le_refl _) o
  have HE := hidU (fun W (hW : Below w.heap.size w W) => markM_any v zs m lo hi k0 W hn hn2 hk0 hk1 (H.below hW))
  obtain ⟨a, c, rfl⟩ := H.shape
  rw [hn] at HE ⊢
  clear H hn
  go_enter Try.func22, Try.ntmps22
  go_wp2_with fail
  refine (HE.out _ (b0 _ _)).mono ?_
  rintro e w1 ⟨rfl, hr, hk⟩
  have HR := hidU hr
  have HK := hidU ((Kp.of_below (lo := lo) (hi := hi) (b0 w (.cells #[.int .i64 n, .int .i64 d, .slice a m c] 35))).trans hk)
  clear hr hk
  go_wp2
  go_ret
  exact ⟨rfl, HR.out, HK.out⟩

set_option maxRecDepth 100000 in
set_option maxHeartbeats 1000000 in
theorem heldQ_any (n d : Int) (v : Value) (zs : List Int) (m lo hi : Nat) (k0 : Int) (w : World) (hn : zs.length = m) (hn2 : m ≤ 1000000000) (hk0 : 0 ≤ k0) (hk1 : k0 ≤ 1000000000000000) (H : RowM w lo hi v (mrk k0 zs m)) :
    Calls Try.prog 23 #[.agg #[.int .i64 n, .int .i64 d, v], .int .i64 k0] w fun e w' => e = .returned (.int .i64 (k0 + m)) ∧ Below w.heap.size w w' := by
  have b0 : ∀ (u : World) (o : Obj), Below u.heap.size u (u.alloc o) := fun u o => (Below.refl _ _).alloc (Nat.le_refl _) o
  have HE := hidU (fun W (hW : Below w.heap.size w W) => heldM_any v zs m lo hi k0 W hn hn2 hk0 hk1 (H.below hW))
  obtain ⟨a, c, rfl⟩ := H.shape
  have hml : (mrk k0 zs m).length = m := by rw [mrk_len _ _ _ (by omega)]; exact hn
  rw [hml] at HE ⊢
  clear H hn hml
  go_enter Try.func23, Try.ntmps23
  go_wp2_with fail
  refine (HE.out _ (b0 _ _)).mono ?_
  rintro e w1 ⟨rfl, mm, hw⟩
  have HB2 := hidU (show Below w.heap.size w w1 by rw [hw]; exact below_drewN (b0 _ _) mm)
  clear hw
  go_wp2
  go_ret
  exact ⟨rfl, HB2.out⟩

theorem szJ_any (a : Option Addr) (len cap : Nat) (left : Int) (w : World) (h0 : 0 ≤ left) (h1 : left ≤ 1048576) (hc : (len : Int) ≤ 9223372036854775807) :
    Calls Try.prog 33 #[.slice a len cap, .int .i64 left] w fun e w' => e = .returned (.int .i64 (if left < len then -1 else left - len)) ∧ w' = w := by
  by_cases h : left < len
  · rw [if_pos h]
    go_enter Try.func33, Try.ntmps33
    go_wp2
    go_ret
    exact ⟨rfl, rfl⟩
  · rw [if_neg h]
    go_enter Try.func33, Try.ntmps33
    go_wp2
    go_ret
    exact ⟨rfl, rfl⟩
theorem row_len {a : Option Addr} {len cap : Nat} {zs : List Int} {w : World} (h : IsRow .i64 w a len cap zs) : (len : Int) ≤ 9223372036854775807 := by
  rcases h with ⟨rfl, _, _⟩ | ⟨b, off, _, h1, h2, _⟩
  · omega
  · unfold maxLen at h2; omega
theorem row_take {a : Option Addr} {len cap : Nat} {zs : List Int} {w : World} (h : IsRow .i64 w a len cap zs) : (zs.take len).length = len := by
  rcases h with ⟨rfl, _, _⟩ | ⟨b, off, _, h1, _, h3, _⟩
  · simp
  · rw [List.length_take]; omega

set_option maxRecDepth 100000 in
set_option maxHeartbeats 1000000 in
theorem szQ_any (n d : Int) (a : Option Addr) (len cap : Nat) (left : Int) (w : World) (h0 : 0 ≤ left) (h1 : left ≤ 1048576) (hc : (len : Int) ≤ 9223372036854775807) :
    Calls Try.prog 14 #[.agg #[.int .i64 n, .int .i64 d, .slice a len cap], .int .i64 left] w fun e w' => e = .returned (.int .i64 (if left < len then -1 else left - len)) ∧ Below w.heap.size w w' := by
  have b0 : ∀ (u : World) (o : Obj), Below u.heap.size u (u.alloc o) := fun u o => (Below.refl _ _).alloc (Nat.le_refl _) o
  have HE := hidU (fun W => szJ_any a len cap left W h0 h1 hc)
  by_cases h : left < len
  · rw [if_pos h] at HE ⊢
    go_enter Try.func14, Try.ntmps14
    go_wp2_with fail
    refine (HE.out _).mono ?_
    rintro e w1 ⟨rfl, hw⟩
    obtain rfl := hw.symm
    go_wp2
    go_ret
    exact ⟨rfl, b0 _ _⟩
  · rw [if_neg h] at HE ⊢
    obtain ⟨r, hr⟩ : ∃ r, r = left - (len : Int) := ⟨_, rfl⟩
    have hr0 : 0 ≤ r := by omega
    have hr1 : r ≤ 1048576 := by omega
    rw [← hr] at HE ⊢
    clear hr h
    go_enter Try.func14, Try.ntmps14
    go_wp2_with fail
    refine (HE.out _).mono ?_
    rintro e w1 ⟨rfl, hw⟩
    obtain rfl := hw.symm
    go_wp2
    go_ret
    exact ⟨rfl, b0 _ _⟩
end Go.Proofs.Ytijdggcfjkfgcal
