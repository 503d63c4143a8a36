/- What is drawn for the laws of spreads. -/
import Derived.Test.YtaaefebjjjfgbaaDrawP
import Derived.Test.YtaaefebjjjfgbaaDrawW8
namespace Go.Proofs.Ytaaefebjjjfgbaa
open Go.RowKit Go.Proofs.Ytaaefebjjjfgbaa.RM

theorem ownExNe {w w' : World} {cb base : Nat} {e : TypeId} {size : Nat} {v : Value} {n : Nat} {xs : List Value} (h : w.ownsRow base e size v n xs) (hx : Ex cb w w') (hne : ∀ b, v.ownBlock = some b → b ≠ cb) : w'.ownsRow base e size v n xs :=
  h.kept (row := some cb) ⟨hx.1, hx.2.1, hx.2.2.1, hx.2.2.2.1, fun k hk hk2 => hx.2.2.2.2 k hk (by simpa using hk2)⟩ (.inr fun e => hne cb e rfl)

set_option maxRecDepth 100000 in
set_option maxHeartbeats 4000000 in
theorem dInside_any (a : Option Addr) (len cap : Nat) (zs : List Int) (w : World) (hr : IsRow .u8 w a len cap zs) :
    Calls Try.prog 5 #[.slice a len cap] w fun e w' => ∃ (v : Value) (ps : List Fr) (lo hi : Int), e = .returned (.tuple #[v, .int .i64 lo, .int .i64 hi]) ∧ RdR w' v ps ∧ ps.length ≤ 50 ∧ -9 ≤ lo ∧ lo ≤ 12 ∧ -10 ≤ hi ∧ hi ≤ 21 ∧ Below w.heap.size w w' := by
  have HR : Hid (IsRow .u8 w a len cap zs) := hr
  clear hr
  go_enter Try.func5, Try.ntmps5
  go_wp2_with fail
  refine (new_any a len cap zs _ HR.out).mono ?_
  rintro e w1 ⟨rfl, hC1, B1, hs1⟩
  obtain ⟨cb, hcb⟩ : ∃ b, b = w.heap.size := ⟨_, rfl⟩
  rw [← hcb] at hC1
  have HC : Hid (Cur w1 cb a len cap zs) := hC1
  have HB := hidW B1
  have hcw : w.heap.size ≤ cb := by omega
  rw [← hcb]
  clear hC1 HR B1 hcb
  go_wp2_with fail
  refine (dPtsAny_any cb a len cap zs _ HC.out).mono ?_
  rintro e w2 ⟨v, ps, rfl, hO, hl, hC', hE⟩
  have hlt := HC.out.lt
  have HO := hidW hO
  replace HC := hidW hC'
  replace HB := hidW (Ex.below HB.out hE hcw)
  clear hO hC' hE
  go_wp2_with fail
  refine (from_any cb (-9) 12 a len cap zs _ HC.out (by omega) (by omega) (by omega)).mono ?_
  rintro e w3 ⟨x, rfl, x0, x1, hC', hE⟩
  replace HO := hidW (ownEx HO.out hE hlt)
  replace HC := hidW hC'
  replace HB := hidW (Ex.below HB.out hE hcw)
  clear hC' hE
  go_wp2_with fail
  refine (from_any cb (-1) 9 a len cap zs _ HC.out (by omega) (by omega) (by omega)).mono ?_
  rintro e w4 ⟨y, rfl, y0, y1, hC', hE⟩
  have HRD := hidW (RdR.ownQ (ownEx HO.out hE hlt)).1
  replace HB := hidW (Ex.below HB.out hE hcw)
  clear hC' hE HO
  go_wp2
  exact bodyPost_ret (v := .tuple #[v, .int .i64 x, .int .i64 (x + y)]) (by simp [results, Try.results5, go_sem]) rfl ⟨v, ps, x, x + y, rfl, HRD.out, hl, x0, x1, by omega, by omega, HB.out⟩

set_option maxRecDepth 100000 in
set_option maxHeartbeats 4000000 in
theorem dCover_any (a : Option Addr) (len cap : Nat) (zs : List Int) (w : World) (hr : IsRow .u8 w a len cap zs) :
    Calls Try.prog 7 #[.slice a len cap] w fun e w' => ∃ (v : Value) (ps : List Fr) (p q : Int), e = .returned (.tuple #[v, .agg #[.int .i64 p, .int .i64 q]]) ∧ RdR w' v ps ∧ ps.length ≤ 50 ∧ Below w.heap.size w w' := by
  have BB : Below w.heap.size w (w.alloc (.cells #[.int .i64 0, .int .i64 0] 29)) := (Below.refl _ _).alloc (Nat.le_refl _) _
  have HR := hidW (hr.below BB)
  have ZR := hidW (IsR.new w 0 0)
  obtain ⟨X, hX⟩ : ∃ X, X = w.alloc (.cells #[.int .i64 0, .int .i64 0] 29) := ⟨_, rfl⟩
  obtain ⟨Rb, hRb⟩ : ∃ R, R = w.heap.size := ⟨_, rfl⟩
  rw [← hX] at BB HR ZR
  rw [← hRb] at ZR
  have HB := hidW BB
  have hwR : w.heap.size ≤ Rb := by omega
  clear hr BB
  go_enter Try.func7, Try.ntmps7
  go_wp2_with fail
  rw [← hX, ← hRb]
  clear hX hRb
  refine (new_any a len cap zs _ HR.out).mono ?_
  rintro e w1 ⟨rfl, hC1, B1, hs1⟩
  have hRX := ZR.out.lt
  replace ZR := hidW (ZR.out.below B1)
  have hXw := HB.out.size
  replace HB := hidW (HB.out.trans (B1.mono hXw))
  obtain ⟨cb, hcb⟩ : ∃ b, b = X.heap.size := ⟨_, rfl⟩
  rw [← hcb] at hC1
  have HC : Hid (Cur w1 cb a len cap zs) := hC1
  have hcw : w.heap.size ≤ cb := by omega
  have hRc : Rb < cb := by omega
  rw [← hcb]
  clear hC1 HR B1 hcb hRX hXw
  go_wp2_with fail
  refine (dPtsAny_any cb a len cap zs _ HC.out).mono ?_
  rintro e w2 ⟨v, ps, rfl, hO, hl, hC', hE⟩
  have hlt := HC.out.lt
  have HO := hidW hO
  replace HC := hidW hC'
  replace HB := hidW (Ex.below HB.out hE hcw)
  replace ZR := hidW (isR_ex ZR.out hE (by omega))
  clear hO hC' hE
  go_wp2_with fail
  refine (below_any cb _ a len cap zs _ HC.out (by omega)).mono ?_
  rintro e w3 ⟨x, rfl, x0, x1, hC', hE⟩
  replace HO := hidW (ownEx HO.out hE hlt)
  replace HC := hidW hC'
  replace HB := hidW (Ex.below HB.out hE hcw)
  replace ZR := hidW (isR_ex ZR.out hE (by omega))
  clear hC' hE
  go_wp2_with fail
  refine (sRed_any x 11 _).mono ?_
  rintro e w4 ⟨rfl, hb⟩
  replace HO := hidW (own_below HO.out hb)
  replace HC := hidW (HC.out.below hb)
  replace ZR := hidW (ZR.out.below hb)
  replace HB := hidW (HB.out.trans (hb.mono HB.out.size))
  clear hb
  obtain ⟨p, hp⟩ : ∃ p, p = redN x 11 := ⟨_, rfl⟩
  obtain ⟨q, hq⟩ : ∃ p, p = redD x 11 := ⟨_, rfl⟩
  rw [← hp, ← hq]
  clear hp hq
  have hb : Below w4.heap.size w4 (w4.alloc (.cells #[.int .i64 p, .int .i64 q] 29)) := (Below.refl _ _).alloc (Nat.le_refl _) _
  go_upto_region 4 with fail
  obtain ⟨Y, hY⟩ : ∃ Y, Y = w4.alloc (.cells #[.int .i64 p, .int .i64 q] 29) := ⟨_, rfl⟩
  obtain ⟨Q, hQ⟩ : ∃ R, R = w4.heap.size := ⟨_, rfl⟩
  have ZQ := hidW (IsR.new w4 p q)
  rw [← hY] at hb ZQ
  rw [← hQ] at ZQ
  rw [← hY, ← hQ]
  have HU : Hid (∀ b, v.ownBlock = some b → b < Q) := fun b h => by have := (HO.out.lt b h).2; omega
  have hQw : w.heap.size ≤ Q := by have := HB.out.size; omega
  have hQc : cb < Q := by have := HC.out.lt; omega
  replace HO := hidW (own_below HO.out hb)
  replace HC := hidW (HC.out.below hb)
  replace ZR := hidW (ZR.out.below hb)
  replace HB := hidW (HB.out.trans (hb.mono HB.out.size))
  clear hb hY hQ
  go_wp2_with fail
  refine (once_any cb _ a len cap zs _ HC.out (by omega)).mono ?_
  rintro e w5 ⟨z, rfl, hC', hE⟩
  replace HO := hidW (ownEx HO.out hE hlt)
  replace HC := hidW hC'
  replace HB := hidW (Ex.below HB.out hE hcw)
  replace ZR := hidW (isR_ex ZR.out hE (by omega))
  replace ZQ := hidW (isR_ex ZQ.out hE (by omega))
  clear hC' hE
  cases z
  · have hx : Ex Rb w5 ((w5.drew.setCell ⟨Rb, 0, none⟩ (.int .i64 p)).setCell ⟨Rb, 1, none⟩ (.int .i64 q)) := (((Ex.refl Rb w5).drew).setCell (.inl rfl) _).setCell (.inl rfl) _
    have HRD := hidW (RdR.ownQ (ownEx HO.out hx (by omega))).1
    have z0 := ZR.out.c0
    have z1 := ZR.out.c1
    have z2 := ZR.out.f0
    have z3 := ZR.out.f1
    have q0 := ZQ.out.c0
    have q1 := ZQ.out.c1
    have hne : Rb ≠ Q := by omega
    clear hx
    go_wp2_with fail
    go_region
    all_goals go_wp2
    all_goals exact bodyPost_ret (v := .tuple #[v, .agg #[.int .i64 p, .int .i64 q]]) (by simp [results, Try.results7, go_sem, z0, z1]) rfl ⟨v, ps, p, q, rfl, HRD.out, hl, (HB.out.drew.setCell (p := ⟨Rb, 0, none⟩) hwR _).setCell (p := ⟨Rb, 1, none⟩) hwR _⟩
  · go_wp2_with fail
    refine (drawAny_any cb a len cap zs _ HC.out).mono ?_
    rintro e w6 ⟨p', q', rfl, hC', hE⟩
    replace HO := hidW (ownEx HO.out hE hlt)
    replace HC := hidW hC'
    replace HB := hidW (Ex.below HB.out hE hcw)
    replace ZR := hidW (isR_ex ZR.out hE (by omega))
    replace ZQ := hidW (isR_ex ZQ.out hE (by omega))
    clear hC' hE
    have q0 := ZQ.out.c0
    have q1 := ZQ.out.c1
    have q2 := ZQ.out.f0
    have q3 := ZQ.out.f1
    go_upto_region 6 with fail
    have hx : Ex Q w6 ((w6.setCell ⟨Q, 0, none⟩ (.int .i64 p')).setCell ⟨Q, 1, none⟩ (.int .i64 q')) := ((Ex.refl Q w6).setCell (.inl rfl) _).setCell (.inl rfl) _
    replace HO := hidW (ownExNe HO.out hx (fun b e => by have := HU.out b e; omega))
    replace ZR := hidW (isR_ex ZR.out hx (by omega))
    replace HB := hidW (Ex.below HB.out hx hQw)
    replace ZQ := hidW ((ZQ.out.set0 p').set1 q')
    obtain ⟨w7, hw7⟩ : ∃ u, u = (w6.setCell ⟨Q, 0, none⟩ (.int .i64 p')).setCell ⟨Q, 1, none⟩ (.int .i64 q') := ⟨_, rfl⟩
    rw [← hw7] at HO ZR HB ZQ ⊢
    clear hx hw7 q0 q1 q2 q3 HC
    have hx : Ex Rb w7 ((w7.drew.setCell ⟨Rb, 0, none⟩ (.int .i64 p')).setCell ⟨Rb, 1, none⟩ (.int .i64 q')) := (((Ex.refl Rb w7).drew).setCell (.inl rfl) _).setCell (.inl rfl) _
    have HRD := hidW (RdR.ownQ (ownEx HO.out hx (by omega))).1
    have z0 := ZR.out.c0
    have z1 := ZR.out.c1
    have z2 := ZR.out.f0
    have z3 := ZR.out.f1
    have q0 := ZQ.out.c0
    have q1 := ZQ.out.c1
    have hne : Rb ≠ Q := by omega
    clear hx
    go_wp2_with fail
    go_region
    all_goals go_wp2
    all_goals exact bodyPost_ret (v := .tuple #[v, .agg #[.int .i64 p', .int .i64 q']]) (by simp [results, Try.results7, go_sem, z0, z1]) rfl ⟨v, ps, p', q', rfl, HRD.out, hl, (HB.out.drew.setCell (p := ⟨Rb, 0, none⟩) hwR _).setCell (p := ⟨Rb, 1, none⟩) hwR _⟩
end Go.Proofs.Ytaaefebjjjfgbaa
