/- The walks of the program's Miss: a spot's distance from the curve, its square, the sum over the spots. -/
import Derived.Test.YtibncepllmjhhaaFitP3
import Derived.Test.YtibncepllmjhhaaSpW0
import Derived.Test.YtibncepllmjhhaaEchW1
import Derived.Test.YtibncepllmjhhaaFitW5
namespace Go.Proofs.Ytibncepllmjhhaa
open Go.RowKit Go.Proofs.Ytibncepllmjhhaa.RM

theorem ret_ag10 {a b a' b' : Int} (h1 : a = a') (h2 : b = b') : Ending.returned (.agg #[.int .i64 a, .int .i64 b]) = .returned (.agg #[.int .i64 a', .int .i64 b']) := by rw [h1, h2]

set_option maxRecDepth 100000 in
set_option maxHeartbeats 2000000 in
theorem above_any (v : Value) (cs : List Fr) (t : Sp) (w : World) (h : RdR w v cs) :
    Calls Try.prog 45 #[.agg #[.int .i64 t.1.1, .int .i64 t.1.2, .int .i64 t.2.1, .int .i64 t.2.2], v] w fun e w' => e = .returned (.agg #[.int .i64 (abv cs t).1, .int .i64 (abv cs t).2]) ∧ Below w.heap.size w w' := by
  have HC := hidP (fun W (hW : Below w.heap.size w W) => iCurveAt_any v cs t.1 W (h.below hW))
  obtain ⟨pr, c, rfl, _⟩ := h
  obtain ⟨a, ha⟩ : ∃ a, a = crvA cs t.1 := ⟨_, rfl⟩
  obtain ⟨ao, hao⟩ : ∃ a, a = crvO cs t.1 := ⟨_, rfl⟩
  have HS := hidP (fun W => subC t.2.1 t.2.2 a.1 a.2 W)
  have HV : Hid (abv cs t = subP (t.2.1, t.2.2) (a.1, a.2)) := by show _ = _; rw [ha]; rfl
  rw [← ha, ← hao] at HC
  obtain ⟨r, hr⟩ : ∃ r, r = subP (t.2.1, t.2.2) (a.1, a.2) := ⟨_, rfl⟩
  obtain ⟨ro, hro⟩ : ∃ r, r = subK (t.2.1, t.2.2) (a.1, a.2) := ⟨_, rfl⟩
  rw [← hr] at HV HS
  rw [← hro] at HS
  clear ha hao hr hro
  obtain ⟨⟨x1, x2⟩, y1, y2⟩ := t
  obtain ⟨a1, a2⟩ := a
  obtain ⟨r1, r2⟩ := r
  dsimp only at HC HS ⊢
  rw [HV.out]
  go_enter Try.func45, Try.ntmps45
  obtain ⟨X, hX⟩ : ∃ X, X = (w.alloc (.cells #[.int .i64 x1, .int .i64 x2, .int .i64 y1, .int .i64 y2] 51)).alloc (.cells #[.int .i64 0, .int .i64 0] 33) := ⟨_, rfl⟩
  have B0 : Below w.heap.size w X := by rw [hX]; exact ((Below.refl _ _).alloc (Nat.le_refl _) _).alloc (by simp) _
  have S0 : IsB X w.heap.size #[.int .i64 x1, .int .i64 x2, .int .i64 y1, .int .i64 y2] 51 := by
    rw [hX]; exact (IsB.new w _ _).below (b0S _ _)
  have R0 : IsR X (w.heap.size + 1) 0 0 := by
    rw [hX]
    have := IsR.new (w.alloc (.cells #[.int .i64 x1, .int .i64 x2, .int .i64 y1, .int .i64 y2] 51)) 0 0
    simpa using this
  go_wp2_with fail
  rw [← hX]
  refine (HC.out _ B0).mono ?_
  rintro e w1 ⟨rfl, hb⟩
  replace S0 := S0.below hb
  replace R0 := R0.below hb
  replace B0 := B0.trans (hb.mono B0.size)
  clear hb hX
  have hb' := b0S w1 (.cells #[.int .i64 a1, .int .i64 a2] 33)
  have S1 := (S0.below hb').s4
  obtain ⟨-, -, s2, s3⟩ := S1
  replace R0 := R0.below hb'
  replace B0 := B0.trans (hb'.mono B0.size)
  clear hb' S0
  go_wp2_with fail
  refine (HS.out _).mono ?_
  rintro e w2 ⟨rfl, hb⟩
  replace R0 := R0.below hb
  replace B0 := B0.trans (hb.mono B0.size)
  clear hb s2 s3
  have hb' := b0S w2 (.cells #[.int .i64 r1, .int .i64 r2] 33)
  replace R0 := R0.below hb'
  replace B0 := B0.trans (hb'.mono B0.size)
  have z0 := R0.c0
  have z1 := R0.c1
  have z2 := R0.f0
  have z3 := R0.f1
  clear hb'
  go_wp2
  exact bodyPost_ret (v := .agg #[.int .i64 r1, .int .i64 r2]) (by simp [results, Try.results45, go_sem, z0, z1]) rfl ⟨rfl, (B0.setCell (p := ⟨w.heap.size + 1, 0, none⟩) (by simp) _).setCell (p := ⟨w.heap.size + 1, 1, none⟩) (by simp) _⟩

set_option maxRecDepth 100000 in
set_option maxHeartbeats 2000000 in
theorem misF_any (B : Nat) (v : Value) (cs : List Fr) (t : Sp) (w : World) (h1 : w.cell? ⟨B, 0, none⟩ = some v) (h : RdR w v cs) :
    Calls Try.prog 44 #[.agg #[.int .i64 t.1.1, .int .i64 t.1.2, .int .i64 t.2.1, .int .i64 t.2.2], .pointer (some ⟨B, 0, none⟩)] w fun e w' => e = .returned (.agg #[.int .i64 (mulP (abv cs t) (abv cs t)).1, .int .i64 (mulP (abv cs t) (abv cs t)).2]) ∧ Below w.heap.size w w' := by
  have HC := hidP (fun W (hW : Below w.heap.size w W) => above_any v cs t W (h.below hW))
  obtain ⟨pr, c, rfl, _⟩ := h
  obtain ⟨a, ha⟩ : ∃ a, a = abv cs t := ⟨_, rfl⟩
  rw [← ha] at HC ⊢
  clear ha
  have HS := hidP (fun W => mulC a.1 a.2 a.1 a.2 W)
  obtain ⟨r, hr⟩ : ∃ r, r = mulP (a.1, a.2) (a.1, a.2) := ⟨_, rfl⟩
  obtain ⟨ro, hro⟩ : ∃ r, r = mulK (a.1, a.2) (a.1, a.2) := ⟨_, rfl⟩
  have HV : Hid (mulP a a = r) := by show _ = _; rw [hr]
  rw [← hr, ← hro] at HS
  rw [HV.out]
  clear hr hro HV
  obtain ⟨r1, r2⟩ := r
  obtain ⟨⟨x1, x2⟩, y1, y2⟩ := t
  obtain ⟨a1, a2⟩ := a
  dsimp only at HC ⊢
  dsimp only at HS
  go_enter Try.func44, Try.ntmps44
  obtain ⟨X, hX⟩ : ∃ X, X = (w.alloc (.cells #[.int .i64 x1, .int .i64 x2, .int .i64 y1, .int .i64 y2] 51)).alloc (.cells #[.int .i64 0, .int .i64 0] 33) := ⟨_, rfl⟩
  have B0 : Below w.heap.size w X := by rw [hX]; exact ((Below.refl _ _).alloc (Nat.le_refl _) _).alloc (by simp) _
  have S0 : IsB X w.heap.size #[.int .i64 x1, .int .i64 x2, .int .i64 y1, .int .i64 y2] 51 := by
    rw [hX]; exact (IsB.new w _ _).below (b0S _ _)
  have R0 : IsR X (w.heap.size + 1) 0 0 := by
    rw [hX]
    have := IsR.new (w.alloc (.cells #[.int .i64 x1, .int .i64 x2, .int .i64 y1, .int .i64 y2] 51)) 0 0
    simpa using this
  have c1 := cell_keep B0 h1
  obtain ⟨s0, s1, s2, s3⟩ := S0.s4
  rw [hX] at s0 s1 s2 s3 c1
  go_wp2_with fail
  rw [← hX]
  refine (HC.out _ B0).mono ?_
  rintro e w1 ⟨rfl, hb⟩
  replace R0 := R0.below hb
  replace B0 := B0.trans (hb.mono B0.size)
  clear hb hX s0 s1 s2 s3 c1 h1 S0 HC
  have hb' := b0S w1 (.cells #[.int .i64 a1, .int .i64 a2] 33)
  replace R0 := R0.below hb'
  replace B0 := B0.trans (hb'.mono B0.size)
  clear hb'
  go_wp2_with fail
  refine (HS.out _).mono ?_
  rintro e w2 ⟨rfl, hb⟩
  replace R0 := R0.below hb
  replace B0 := B0.trans (hb.mono B0.size)
  clear hb
  have hb' := b0S w2 (.cells #[.int .i64 r1, .int .i64 r2] 33)
  replace R0 := R0.below hb'
  replace B0 := B0.trans (hb'.mono B0.size)
  clear hb'
  have z0 := R0.c0
  have z1 := R0.c1
  have z2 := R0.f0
  have z3 := R0.f1
  go_wp2
  exact bodyPost_ret (v := .agg #[.int .i64 r1, .int .i64 r2]) (by simp [results, Try.results44, go_sem, z0, z1]) rfl ⟨rfl, (B0.setCell (p := ⟨w.heap.size + 1, 0, none⟩) (by simp) _).setCell (p := ⟨w.heap.size + 1, 1, none⟩) (by simp) _⟩

set_option maxRecDepth 100000 in
set_option maxHeartbeats 2000000 in
theorem norF_any (B : Nat) (v : Value) (cs : List Fr) (t : Sp) (w : World) (h1 : w.cell? ⟨B, 0, none⟩ = some v) (h : RdR w v cs) :
    Calls Try.prog 54 #[.agg #[.int .i64 t.1.1, .int .i64 t.1.2, .int .i64 t.2.1, .int .i64 t.2.2], .pointer (some ⟨B, 0, none⟩)] w fun e w' => e = .returned (.agg #[.int .i64 (abv cs t).1, .int .i64 (abv cs t).2]) ∧ Below w.heap.size w w' := by
  have HC := hidP (fun W (hW : Below w.heap.size w W) => above_any v cs t W (h.below hW))
  obtain ⟨pr, c, rfl, _⟩ := h
  obtain ⟨a, ha⟩ : ∃ a, a = abv cs t := ⟨_, rfl⟩
  rw [← ha] at HC ⊢
  clear ha
  obtain ⟨⟨x1, x2⟩, y1, y2⟩ := t
  obtain ⟨a1, a2⟩ := a
  dsimp only at HC ⊢
  go_enter Try.func54, Try.ntmps54
  obtain ⟨X, hX⟩ : ∃ X, X = (w.alloc (.cells #[.int .i64 x1, .int .i64 x2, .int .i64 y1, .int .i64 y2] 51)).alloc (.cells #[.int .i64 0, .int .i64 0] 33) := ⟨_, rfl⟩
  have B0 : Below w.heap.size w X := by rw [hX]; exact ((Below.refl _ _).alloc (Nat.le_refl _) _).alloc (by simp) _
  have S0 : IsB X w.heap.size #[.int .i64 x1, .int .i64 x2, .int .i64 y1, .int .i64 y2] 51 := by
    rw [hX]; exact (IsB.new w _ _).below (b0S _ _)
  have R0 : IsR X (w.heap.size + 1) 0 0 := by
    rw [hX]
    have := IsR.new (w.alloc (.cells #[.int .i64 x1, .int .i64 x2, .int .i64 y1, .int .i64 y2] 51)) 0 0
    simpa using this
  have c1 := cell_keep B0 h1
  obtain ⟨s0, s1, s2, s3⟩ := S0.s4
  rw [hX] at s0 s1 s2 s3 c1
  go_wp2_with fail
  rw [← hX]
  refine (HC.out _ B0).mono ?_
  rintro e w1 ⟨rfl, hb⟩
  replace R0 := R0.below hb
  replace B0 := B0.trans (hb.mono B0.size)
  clear hb hX s0 s1 s2 s3 c1 h1 S0 HC
  have z0 := R0.c0
  have z1 := R0.c1
  have z2 := R0.f0
  have z3 := R0.f1
  go_wp2
  exact bodyPost_ret (v := .agg #[.int .i64 a1, .int .i64 a2]) (by simp [results, Try.results54, go_sem, z0, z1]) rfl ⟨rfl, (B0.setCell (p := ⟨w.heap.size + 1, 0, none⟩) (by simp) _).setCell (p := ⟨w.heap.size + 1, 1, none⟩) (by simp) _⟩

theorem hidW10 {p : Prop} (h : p) : Hid p := h
set_option maxRecDepth 100000 in
set_option maxHeartbeats 4000000 in
theorem totS_any (f : Nat → Fr) (ss : List Sp) (g off n c : Nat) (p1 : Value) (w : World) (hn : n ≤ 36)
    (hE : ∀ k, k < n → w.cell? ⟨g, off + k * 4, none⟩ = some (.int .i64 (sp ss k).1.1) ∧ w.cell? ⟨g, off + k * 4 + 1, none⟩ = some (.int .i64 (sp ss k).1.2) ∧ w.cell? ⟨g, off + k * 4 + 2, none⟩ = some (.int .i64 (sp ss k).2.1) ∧ w.cell? ⟨g, off + k * 4 + 3, none⟩ = some (.int .i64 (sp ss k).2.2))
    (hf : ∀ k, k < n → ∀ W : World, Below w.heap.size w W → Calls Try.prog 44 #[.agg #[.int .i64 (sp ss k).1.1, .int .i64 (sp ss k).1.2, .int .i64 (sp ss k).2.1, .int .i64 (sp ss k).2.2], p1] W fun e w' => e = .returned (.agg #[.int .i64 (f k).1, .int .i64 (f k).2]) ∧ Below W.heap.size W w') :
    Calls Try.prog 46 #[.agg #[.slice (some ⟨g, off, none⟩) n c, .func (.func 44) #[] #[p1]]] w fun e w' =>
      e = .returned (.tuple #[.agg #[.int .i64 (pfold f n).1.1, .int .i64 (pfold f n).1.2], .bool (pfold f n).2]) ∧ Below w.heap.size w w' := by
  have b0 : ∀ {u : World} (o : Obj), Below u.heap.size u (u.alloc o) := fun o => (Below.refl _ _).alloc (Nat.le_refl _) o
  have HF := hidW10 hf
  have HE := hidW10 hE
  obtain ⟨G, hG⟩ : ∃ G, G = pfold f := ⟨_, rfl⟩
  have HG0 : Hid (G 0 = ((0, 1), true)) := by show _ = _; rw [hG]; rfl
  have HGS : Hid (∀ k, G (k + 1) = (addP (G k).1 (f k), addK (G k).1 (f k))) := by intro k; rw [hG]; rfl
  rw [← hG]
  clear hf hE hG
  go_enter Try.func46, Try.ntmps46
  go_wp2
  obtain ⟨Xb, hXb⟩ : ∃ N, N = w.heap.size := ⟨_, rfl⟩
  obtain ⟨Rb, hRb⟩ : ∃ N, N = w.heap.size + 1 := ⟨_, rfl⟩
  obtain ⟨Sb, hSb⟩ : ∃ N, N = w.heap.size + 2 := ⟨_, rfl⟩
  obtain ⟨X, hX⟩ : ∃ X, X = ((w.alloc (.cells #[.slice (some ⟨g, off, none⟩) n c, .func (.func 44) #[] #[p1]] 72)).alloc (.cells #[.int .i64 0, .int .i64 0] 33)).alloc (.cells #[.int .i64 0, .int .i64 1] 33) := ⟨_, rfl⟩
  have Z0 : IsR X Rb 0 0 := by
    rw [hX, hRb]
    have := (IsR.new (w.alloc (.cells #[.slice (some ⟨g, off, none⟩) n c, .func (.func 44) #[] #[p1]] 72)) 0 0).below (b0 (.cells #[.int .i64 0, .int .i64 1] 33))
    simpa using this
  have S0 : IsR X Sb (G 0).1.1 (G 0).1.2 := by
    rw [hX, hSb, HG0.out]
    have := IsR.new ((w.alloc (.cells #[.slice (some ⟨g, off, none⟩) n c, .func (.func 44) #[] #[p1]] 72)).alloc (.cells #[.int .i64 0, .int .i64 0] 33)) 0 1
    simpa using this
  have B0 : Below w.heap.size w X := by rw [hX]; exact (((Below.refl _ _).alloc (Nat.le_refl _) _).alloc (by simp) _).alloc (by simp; omega) _
  have X0 : X.cell? ⟨Xb, 0, none⟩ = some (.slice (some ⟨g, off, none⟩) n c) := by rw [hX, hXb]; simp [go_sem]
  have X1 : X.cell? ⟨Xb, 1, none⟩ = some (.func (.func 44) #[] #[p1]) := by rw [hX, hXb]; simp [go_sem]
  have hwS : w.heap.size ≤ Sb := by omega
  have hwR : w.heap.size ≤ Rb := by omega
  have hXS : Xb < Sb := by omega
  have hXR : Xb ≠ Rb := by omega
  have hRS : Rb < Sb := by omega
  rw [← hX, ← hXb, show Xb + 1 = Rb by omega, show Rb + 1 = Sb by omega]
  clear hX hXb hRb hSb
  go_loopw [5, 12] (fun q i wr => ∃ k : Nat, k ≤ n ∧ i = .int .i64 k ∧ q = .bool (G k).2 ∧ Hid (IsR wr Sb (G k).1.1 (G k).1.2) ∧ Hid (IsR wr Rb 0 0) ∧ Hid (Below w.heap.size w wr) ∧ Hid (wr.cell? ⟨Xb, 0, none⟩ = some (.slice (some ⟨g, off, none⟩) n c) ∧ wr.cell? ⟨Xb, 1, none⟩ = some (.func (.func 44) #[] #[p1]))) (fun _ i _ => n - (intOf i).toNat)
  case atStart => exact ⟨0, Nat.zero_le _, rfl, by rw [HG0.out], S0, Z0, B0, X0, X1⟩
  case round =>
    clear S0 Z0 B0 X0 X1
    obtain ⟨k, hk, rfl, rfl, hS, hZ, hB, hX⟩ := hrel
    by_cases hlt : k < n
    · obtain ⟨c1, c2⟩ := hX.out
      obtain ⟨d1, d2, d3, d4⟩ := HE.out k hlt
      replace d1 := cell_keep hB.out d1
      replace d2 := cell_keep hB.out d2
      replace d3 := cell_keep hB.out d3
      replace d4 := cell_keep hB.out d4
      obtain ⟨s, hs⟩ : ∃ z, z = G k := ⟨_, rfl⟩
      obtain ⟨r, hr⟩ : ∃ z, z = G (k + 1) := ⟨_, rfl⟩
      have HQ : Hid (G (k + 1) = r) := hr.symm
      obtain ⟨y, hy⟩ : ∃ z, z = f k := ⟨_, rfl⟩
      have HC := hidW10 (HF.out k hlt)
      rw [HGS.out k, ← hs, ← hy] at hr
      rw [← hs] at hS
      rw [← hy] at HC
      obtain ⟨pt, hpt⟩ : ∃ z, z = sp ss k := ⟨_, rfl⟩
      rw [← hpt] at d1 d2 d3 d4 HC
      clear hpt
      obtain ⟨⟨t1, t2⟩, t3, t4⟩ := pt
      dsimp only at d1 d2 d3 d4 HC
      obtain ⟨⟨s1, s2⟩, so⟩ := s
      obtain ⟨y1, y2⟩ := y
      have HA : Hid (∀ W : World, Calls Try.prog 39 #[.agg #[.int .i64 s1, .int .i64 s2], .agg #[.int .i64 y1, .int .i64 y2]] W fun e w' => e = .returned (.tuple #[.agg #[.int .i64 r.1.1, .int .i64 r.1.2], .bool r.2]) ∧ Below W.heap.size W w') := by
        intro W; rw [hr]; exact addC s1 s2 y1 y2 W
      clear hs hr hy
      obtain ⟨⟨r1, r2⟩, ro⟩ := r
      have S0 : IsR wr Sb s1 s2 := hS.out
      have Z0 : IsR wr Rb 0 0 := hZ.out
      have B0 : Below w.heap.size w wr := hB.out
      have hsz := B0.size
      have hlS := S0.lt
      clear hX hS hZ hB
      go_upto_region 5 with fail
      obtain ⟨N, hN⟩ : ∃ N, N = wr.heap.size := ⟨_, rfl⟩
      obtain ⟨X, hX⟩ : ∃ X, X = wr.alloc (.cells #[.int .i64 t1, .int .i64 t2, .int .i64 t3, .int .i64 t4] 51) := ⟨_, rfl⟩
      have hbx : Below wr.heap.size wr X := by rw [hX]; exact b0 _
      have c3 : X.cell? ⟨N, 0, none⟩ = some (.int .i64 t1) := by rw [hX, hN]; simp [go_sem]
      have c4 : X.cell? ⟨N, 1, none⟩ = some (.int .i64 t2) := by rw [hX, hN]; simp [go_sem]
      have c5 : X.cell? ⟨N, 2, none⟩ = some (.int .i64 t3) := by rw [hX, hN]; simp [go_sem]
      have c6 : X.cell? ⟨N, 3, none⟩ = some (.int .i64 t4) := by rw [hX, hN]; simp [go_sem]
      replace c1 := cell_keep hbx c1
      replace c2 := cell_keep hbx c2
      replace S0 := S0.below hbx
      replace Z0 := Z0.below hbx
      replace B0 := B0.trans (hbx.mono hsz)
      have hNS : N ≠ Sb := by omega
      rw [← hX, ← hN]
      clear hX hN hbx d1 d2 d3 d4
      refine wp_region_noPanic ?_
      refine wp_region_held_drew (S := (fun w' => w'.cell? ⟨Xb, 0, none⟩ = some (.slice (some ⟨g, off, none⟩) n c) ∧ w'.cell? ⟨Xb, 1, none⟩ = some (.func (.func 44) #[] #[p1]) ∧ w'.cell? ⟨N, 0, none⟩ = some (.int .i64 t1) ∧ w'.cell? ⟨N, 1, none⟩ = some (.int .i64 t2) ∧ w'.cell? ⟨N, 2, none⟩ = some (.int .i64 t3) ∧ w'.cell? ⟨N, 3, none⟩ = some (.int .i64 t4))) (by kernel_rfl) ?_ (fun hHeld => ?_)
      · (try dsimp only)
        refine ⟨?_, ?_, ?_, ?_, ?_, ?_⟩ <;> (repeat (with_reducible (first | exact c1 | exact c2 | exact c3 | exact c4 | exact c5 | exact c6 | refine cell_dr ?_ | refine cell_stb ?_ ?_ | (show _ ≠ _; omega))))
      refine wpAnyH_take (i := 1) (v := ?_) rfl (by kernel_rfl) (by kernel_rfl) (by kernel_rfl) (fun _ _ _ h => h) (Or.inl ⟨by kernel_rfl, ?_⟩) hHeld ?_
      rotate_left
      · intro wz hSw; (try dsimp only at hSw); go_simp; all_goals (try with_reducible rfl)
      (try simp only [List.getElem_toArray]); (try simp only [List.getElem_cons_succ]); (try simp only [List.getElem_cons_zero]); (try simp only [Act.put]); (try simp only [List.setIfInBounds_toArray]); (try simp only [List.set_cons_succ]); (try simp only [List.set_cons_zero])
      refine wpAnyH_take (i := 2) (v := ?_) rfl (by kernel_rfl) (by kernel_rfl) (by kernel_rfl) (fun _ _ _ h => h) (Or.inl ⟨by kernel_rfl, ?_⟩) hHeld ?_
      rotate_left
      · intro wz hSw; (try dsimp only at hSw); go_simp; all_goals (try with_reducible rfl)
      (try simp only [List.getElem_toArray]); (try simp only [List.getElem_cons_succ]); (try simp only [List.getElem_cons_zero]); (try simp only [Act.put]); (try simp only [List.setIfInBounds_toArray]); (try simp only [List.set_cons_succ]); (try simp only [List.set_cons_zero])
      refine wpAnyH_take (i := 3) (v := ?_) rfl (by kernel_rfl) (by kernel_rfl) (by kernel_rfl) (fun _ _ _ h => h) (Or.inl ⟨by kernel_rfl, ?_⟩) hHeld ?_
      rotate_left
      · intro wz hSw; (try dsimp only at hSw); go_simp; all_goals (try with_reducible rfl)
      (try simp only [List.getElem_toArray]); (try simp only [List.getElem_cons_succ]); (try simp only [List.getElem_cons_zero]); (try simp only [Act.put]); (try simp only [List.setIfInBounds_toArray]); (try simp only [List.set_cons_succ]); (try simp only [List.set_cons_zero])
      have s0 := S0.c0
      have s1' := S0.c1
      refine wpAnyH_ready (rs := [0, 4]) (by kernel_rfl) (by simp) (AllReadyH.cons rfl (fun Kc hKc => ?_) (AllReadyH.cons rfl (fun Kc hKc => ?_) AllReadyH.nil))
      · go_simp
        refine hKc.out _ _ ?_ (fun hHeld => ?_)
        · (try dsimp only)
          refine ⟨?_, ?_, ?_, ?_, ?_, ?_⟩ <;> (repeat (with_reducible (first | exact c1 | exact c2 | exact c3 | exact c4 | exact c5 | exact c6 | refine cell_dr ?_ | refine cell_stb ?_ ?_ | (show _ ≠ _; omega))))
        clear hKc Kc
        (try simp only [List.getElem_toArray]); (try simp only [List.getElem_cons_succ]); (try simp only [List.getElem_cons_zero]); (try simp only [Act.put]); (try simp only [List.setIfInBounds_toArray]); (try simp only [List.set_cons_succ]); (try simp only [List.set_cons_zero])
        refine wpAnyH_ready (rs := [4]) (by kernel_rfl) (by simp) (AllReadyH.cons rfl (fun Kc hKc => ?_) AllReadyH.nil)
        go_simp
        (go_at_call 44; refine (HC.out _ (B0.trans (((Below.refl _ _).drew).mono B0.size))).mono ?_; rintro e w2 ⟨rfl, hb2⟩)
        have hbd : Below X.heap.size X w2 := ((Below.refl _ _).drew).trans (hb2.mono (by simp))
        have c1 := cell_keep hbd c1
        have c2 := cell_keep hbd c2
        have c3 := cell_keep hbd c3
        have c4 := cell_keep hbd c4
        have c5 := cell_keep hbd c5
        have c6 := cell_keep hbd c6
        have S2 := S0.below hbd
        have Z2 := Z0.below hbd
        have B2 := B0.trans (hbd.mono B0.size)
        have s0 := S2.c0
        have s1' := S2.c1
        clear hb2 hbd
        go_wp2_with fail
        refine hKc.out _ _ ?_ (fun hHeld => ?_)
        · (try dsimp only)
          refine ⟨?_, ?_, ?_, ?_, ?_, ?_⟩ <;> (repeat (with_reducible (first | exact c1 | exact c2 | exact c3 | exact c4 | exact c5 | exact c6 | refine cell_dr ?_ | refine cell_stb ?_ ?_ | (show _ ≠ _; omega))))
        clear hKc Kc
        (try simp only [List.getElem_toArray]); (try simp only [List.getElem_cons_succ]); (try simp only [List.getElem_cons_zero]); (try simp only [Act.put]); (try simp only [List.setIfInBounds_toArray]); (try simp only [List.set_cons_succ]); (try simp only [List.set_cons_zero])
        refine wpAnyH_ready (rs := [5]) (by kernel_rfl) (by simp) (AllReadyH.cons rfl (fun Kc hKc => ?_) AllReadyH.nil)
        go_simp
        (go_at_call 39; refine (HA.out _).mono ?_; rintro e w3 ⟨rfl, hb3⟩)
        have c1 := cell_keep hb3 c1
        have c2 := cell_keep hb3 c2
        have c3 := cell_keep hb3 c3
        have c4 := cell_keep hb3 c4
        have c5 := cell_keep hb3 c5
        have c6 := cell_keep hb3 c6
        have S3 := S2.below hb3
        have Z3 := Z2.below hb3
        have B3 := B2.trans (hb3.mono B2.size)
        have s0 := S3.c0
        have s1' := S3.c1
        have s2' := S3.f0
        have s3' := S3.f1
        clear hb3
        go_wp2_with fail
        refine hKc.out _ _ ?_ (fun hHeld => ?_)
        · (try dsimp only)
          refine ⟨?_, ?_, ?_, ?_, ?_, ?_⟩ <;> (repeat (with_reducible (first | exact c1 | exact c2 | exact c3 | exact c4 | exact c5 | exact c6 | refine cell_dr ?_ | refine cell_stb ?_ ?_ | (show _ ≠ _; omega))))
        clear hKc Kc
        (try simp only [List.getElem_toArray]); (try simp only [List.getElem_cons_succ]); (try simp only [List.getElem_cons_zero]); (try simp only [Act.put]); (try simp only [List.setIfInBounds_toArray]); (try simp only [List.set_cons_succ]); (try simp only [List.set_cons_zero])
        refine wpAnyH_take (i := 6) (v := ?_) rfl (by kernel_rfl) (by kernel_rfl) (by kernel_rfl) (fun _ _ _ h => h) (Or.inl ⟨by kernel_rfl, ?_⟩) hHeld ?_
        rotate_left
        · intro wz hSw; (try dsimp only at hSw); go_simp; all_goals (try with_reducible rfl)
        (try simp only [List.getElem_toArray]); (try simp only [List.getElem_cons_succ]); (try simp only [List.getElem_cons_zero]); (try simp only [Act.put]); (try simp only [List.setIfInBounds_toArray]); (try simp only [List.set_cons_succ]); (try simp only [List.set_cons_zero])
        refine wpAnyH_take (i := 7) (v := ?_) rfl (by kernel_rfl) (by kernel_rfl) (by kernel_rfl) (fun _ _ _ h => h) (Or.inl ⟨by kernel_rfl, ?_⟩) hHeld ?_
        rotate_left
        · intro wz hSw; (try dsimp only at hSw); go_simp; all_goals (try with_reducible rfl)
        (try simp only [List.getElem_toArray]); (try simp only [List.getElem_cons_succ]); (try simp only [List.getElem_cons_zero]); (try simp only [Act.put]); (try simp only [List.setIfInBounds_toArray]); (try simp only [List.set_cons_succ]); (try simp only [List.set_cons_zero])
        refine wpAnyH_take (i := 8) (v := ?_) rfl (by kernel_rfl) (by kernel_rfl) (by kernel_rfl) (fun _ _ _ h => h) (Or.inl ⟨by kernel_rfl, ?_⟩) hHeld ?_
        rotate_left
        · intro wz hSw; (try dsimp only at hSw); go_simp; all_goals (try with_reducible rfl)
        (try simp only [List.getElem_toArray]); (try simp only [List.getElem_cons_succ]); (try simp only [List.getElem_cons_zero]); (try simp only [Act.put]); (try simp only [List.setIfInBounds_toArray]); (try simp only [List.set_cons_succ]); (try simp only [List.set_cons_zero])
        refine wpAnyH_ready (rs := [9]) (by kernel_rfl) (by simp) (AllReadyH.cons rfl (fun Kc hKc => ?_) AllReadyH.nil)
        go_simp
        refine hKc.out _ _ ?_ (fun hHeld => ?_)
        · (try dsimp only)
          refine ⟨?_, ?_, ?_, ?_, ?_, ?_⟩ <;> (repeat (with_reducible (first | exact c1 | exact c2 | exact c3 | exact c4 | exact c5 | exact c6 | refine cell_dr ?_ | refine cell_stb ?_ ?_ | (show _ ≠ _; omega))))
        clear hKc Kc
        (try simp only [List.getElem_toArray]); (try simp only [List.getElem_cons_succ]); (try simp only [List.getElem_cons_zero]); (try simp only [Act.put]); (try simp only [List.setIfInBounds_toArray]); (try simp only [List.set_cons_succ]); (try simp only [List.set_cons_zero])
        refine wpAnyH_take (i := 10) (v := ?_) rfl (by kernel_rfl) (by kernel_rfl) (by kernel_rfl) (fun _ _ _ h => h) (Or.inl ⟨by kernel_rfl, ?_⟩) hHeld ?_
        rotate_left
        · intro wz hSw; (try dsimp only at hSw); go_simp; all_goals (try with_reducible rfl)
        (try simp only [List.getElem_toArray]); (try simp only [List.getElem_cons_succ]); (try simp only [List.getElem_cons_zero]); (try simp only [Act.put]); (try simp only [List.setIfInBounds_toArray]); (try simp only [List.set_cons_succ]); (try simp only [List.set_cons_zero])
        refine wpAnyH_done (by kernel_rfl) ?_ _
        refine NoPanic.normal ?_
        go_wp2
        go_roundw
        case rel =>
          refine ⟨k + 1, by omega, by go_num, by rw [HQ.out], ?_, (Z3.other (by omega) 0 _).other (by omega) 1 _, (B3.setCell (p := ⟨Sb, 0, none⟩) hwS _).setCell (p := ⟨Sb, 1, none⟩) hwS _, ?_⟩
          · show IsR _ _ _ _
            rw [HQ.out]
            exact (S3.set0 _).set1 _
          · refine ⟨?_, ?_⟩ <;> (repeat (with_reducible (first | exact c1 | exact c2 | refine cell_stb ?_ ?_ | (show _ ≠ _; omega))))
        case measure => simp [intOf]; omega
      · go_simp
        (go_at_call 44; refine (HC.out _ (B0.trans (((Below.refl _ _).drew).mono B0.size))).mono ?_; rintro e w2 ⟨rfl, hb2⟩)
        have hbd : Below X.heap.size X w2 := ((Below.refl _ _).drew).trans (hb2.mono (by simp))
        have c1 := cell_keep hbd c1
        have c2 := cell_keep hbd c2
        have c3 := cell_keep hbd c3
        have c4 := cell_keep hbd c4
        have c5 := cell_keep hbd c5
        have c6 := cell_keep hbd c6
        have S2 := S0.below hbd
        have Z2 := Z0.below hbd
        have B2 := B0.trans (hbd.mono B0.size)
        have s0 := S2.c0
        have s1' := S2.c1
        clear hb2 hbd
        go_wp2_with fail
        refine hKc.out _ _ ?_ (fun hHeld => ?_)
        · (try dsimp only)
          refine ⟨?_, ?_, ?_, ?_, ?_, ?_⟩ <;> (repeat (with_reducible (first | exact c1 | exact c2 | exact c3 | exact c4 | exact c5 | exact c6 | refine cell_dr ?_ | refine cell_stb ?_ ?_ | (show _ ≠ _; omega))))
        clear hKc Kc
        (try simp only [List.getElem_toArray]); (try simp only [List.getElem_cons_succ]); (try simp only [List.getElem_cons_zero]); (try simp only [Act.put]); (try simp only [List.setIfInBounds_toArray]); (try simp only [List.set_cons_succ]); (try simp only [List.set_cons_zero])
        refine wpAnyH_ready (rs := [0]) (by kernel_rfl) (by simp) (AllReadyH.cons rfl (fun Kc hKc => ?_) AllReadyH.nil)
        go_simp
        refine hKc.out _ _ ?_ (fun hHeld => ?_)
        · (try dsimp only)
          refine ⟨?_, ?_, ?_, ?_, ?_, ?_⟩ <;> (repeat (with_reducible (first | exact c1 | exact c2 | exact c3 | exact c4 | exact c5 | exact c6 | refine cell_dr ?_ | refine cell_stb ?_ ?_ | (show _ ≠ _; omega))))
        clear hKc Kc
        (try simp only [List.getElem_toArray]); (try simp only [List.getElem_cons_succ]); (try simp only [List.getElem_cons_zero]); (try simp only [Act.put]); (try simp only [List.setIfInBounds_toArray]); (try simp only [List.set_cons_succ]); (try simp only [List.set_cons_zero])
        refine wpAnyH_ready (rs := [5]) (by kernel_rfl) (by simp) (AllReadyH.cons rfl (fun Kc hKc => ?_) AllReadyH.nil)
        go_simp
        (go_at_call 39; refine (HA.out _).mono ?_; rintro e w3 ⟨rfl, hb3⟩)
        have c1 := cell_keep hb3 c1
        have c2 := cell_keep hb3 c2
        have c3 := cell_keep hb3 c3
        have c4 := cell_keep hb3 c4
        have c5 := cell_keep hb3 c5
        have c6 := cell_keep hb3 c6
        have S3 := S2.below hb3
        have Z3 := Z2.below hb3
        have B3 := B2.trans (hb3.mono B2.size)
        have s0 := S3.c0
        have s1' := S3.c1
        have s2' := S3.f0
        have s3' := S3.f1
        clear hb3
        go_wp2_with fail
        refine hKc.out _ _ ?_ (fun hHeld => ?_)
        · (try dsimp only)
          refine ⟨?_, ?_, ?_, ?_, ?_, ?_⟩ <;> (repeat (with_reducible (first | exact c1 | exact c2 | exact c3 | exact c4 | exact c5 | exact c6 | refine cell_dr ?_ | refine cell_stb ?_ ?_ | (show _ ≠ _; omega))))
        clear hKc Kc
        (try simp only [List.getElem_toArray]); (try simp only [List.getElem_cons_succ]); (try simp only [List.getElem_cons_zero]); (try simp only [Act.put]); (try simp only [List.setIfInBounds_toArray]); (try simp only [List.set_cons_succ]); (try simp only [List.set_cons_zero])
        refine wpAnyH_take (i := 6) (v := ?_) rfl (by kernel_rfl) (by kernel_rfl) (by kernel_rfl) (fun _ _ _ h => h) (Or.inl ⟨by kernel_rfl, ?_⟩) hHeld ?_
        rotate_left
        · intro wz hSw; (try dsimp only at hSw); go_simp; all_goals (try with_reducible rfl)
        (try simp only [List.getElem_toArray]); (try simp only [List.getElem_cons_succ]); (try simp only [List.getElem_cons_zero]); (try simp only [Act.put]); (try simp only [List.setIfInBounds_toArray]); (try simp only [List.set_cons_succ]); (try simp only [List.set_cons_zero])
        refine wpAnyH_take (i := 7) (v := ?_) rfl (by kernel_rfl) (by kernel_rfl) (by kernel_rfl) (fun _ _ _ h => h) (Or.inl ⟨by kernel_rfl, ?_⟩) hHeld ?_
        rotate_left
        · intro wz hSw; (try dsimp only at hSw); go_simp; all_goals (try with_reducible rfl)
        (try simp only [List.getElem_toArray]); (try simp only [List.getElem_cons_succ]); (try simp only [List.getElem_cons_zero]); (try simp only [Act.put]); (try simp only [List.setIfInBounds_toArray]); (try simp only [List.set_cons_succ]); (try simp only [List.set_cons_zero])
        refine wpAnyH_take (i := 8) (v := ?_) rfl (by kernel_rfl) (by kernel_rfl) (by kernel_rfl) (fun _ _ _ h => h) (Or.inl ⟨by kernel_rfl, ?_⟩) hHeld ?_
        rotate_left
        · intro wz hSw; (try dsimp only at hSw); go_simp; all_goals (try with_reducible rfl)
        (try simp only [List.getElem_toArray]); (try simp only [List.getElem_cons_succ]); (try simp only [List.getElem_cons_zero]); (try simp only [Act.put]); (try simp only [List.setIfInBounds_toArray]); (try simp only [List.set_cons_succ]); (try simp only [List.set_cons_zero])
        refine wpAnyH_ready (rs := [9]) (by kernel_rfl) (by simp) (AllReadyH.cons rfl (fun Kc hKc => ?_) AllReadyH.nil)
        go_simp
        refine hKc.out _ _ ?_ (fun hHeld => ?_)
        · (try dsimp only)
          refine ⟨?_, ?_, ?_, ?_, ?_, ?_⟩ <;> (repeat (with_reducible (first | exact c1 | exact c2 | exact c3 | exact c4 | exact c5 | exact c6 | refine cell_dr ?_ | refine cell_stb ?_ ?_ | (show _ ≠ _; omega))))
        clear hKc Kc
        (try simp only [List.getElem_toArray]); (try simp only [List.getElem_cons_succ]); (try simp only [List.getElem_cons_zero]); (try simp only [Act.put]); (try simp only [List.setIfInBounds_toArray]); (try simp only [List.set_cons_succ]); (try simp only [List.set_cons_zero])
        refine wpAnyH_take (i := 10) (v := ?_) rfl (by kernel_rfl) (by kernel_rfl) (by kernel_rfl) (fun _ _ _ h => h) (Or.inl ⟨by kernel_rfl, ?_⟩) hHeld ?_
        rotate_left
        · intro wz hSw; (try dsimp only at hSw); go_simp; all_goals (try with_reducible rfl)
        (try simp only [List.getElem_toArray]); (try simp only [List.getElem_cons_succ]); (try simp only [List.getElem_cons_zero]); (try simp only [Act.put]); (try simp only [List.setIfInBounds_toArray]); (try simp only [List.set_cons_succ]); (try simp only [List.set_cons_zero])
        refine wpAnyH_done (by kernel_rfl) ?_ _
        refine NoPanic.normal ?_
        go_wp2
        go_roundw
        case rel =>
          refine ⟨k + 1, by omega, by go_num, by rw [HQ.out], ?_, (Z3.other (by omega) 0 _).other (by omega) 1 _, (B3.setCell (p := ⟨Sb, 0, none⟩) hwS _).setCell (p := ⟨Sb, 1, none⟩) hwS _, ?_⟩
          · show IsR _ _ _ _
            rw [HQ.out]
            exact (S3.set0 _).set1 _
          · refine ⟨?_, ?_⟩ <;> (repeat (with_reducible (first | exact c1 | exact c2 | refine cell_stb ?_ ?_ | (show _ ≠ _; omega))))
        case measure => simp [intOf]; omega
    · obtain rfl : k = n := by omega
      have B1 : Below w.heap.size w wr := hB.out
      have s0 := hS.out.c0
      have s1' := hS.out.c1
      have z0 := hZ.out.c0
      have z1 := hZ.out.c1
      have z2 := hZ.out.f0
      have z3 := hZ.out.f1
      clear hS hZ hB hX
      obtain ⟨⟨⟨s1, s2⟩, so⟩, hs⟩ : ∃ z, z = G k := ⟨_, rfl⟩
      rw [← hs] at s0 s1' ⊢
      have HSS := hidW10 hs
      clear hs
      go_wp2
      exact bodyPost_ret (v := .tuple #[.agg #[.int .i64 s1, .int .i64 s2], .bool so]) (by simp [results, Try.results46, go_sem, z0, z1]) rfl ⟨by rw [← HSS.out], (B1.setCell (p := ⟨Rb, 0, none⟩) hwR _).setCell (p := ⟨Rb, 1, none⟩) hwR _⟩

theorem mis_ret {cs : List Fr} {ss : List Sp} (h : misO cs ss = false) : Ending.returned (.tuple #[.agg #[.int .i64 0, .int .i64 0], .bool false]) = .returned (.tuple #[.agg #[.int .i64 (misA cs ss).1, .int .i64 (misA cs ss).2], .bool (misO cs ss)]) := by rw [misA_no h, h]
set_option maxRecDepth 100000 in
set_option maxHeartbeats 2000000 in
theorem iMiss_any (v z : Value) (cs : List Fr) (ss : List Sp) (w : World) (h : RdR w v cs) (h' : RdS w z ss) :
    Calls Try.prog 21 #[v, z] w fun e w' => e = .returned (.tuple #[.agg #[.int .i64 (misA cs ss).1, .int .i64 (misA cs ss).2], .bool (misO cs ss)]) ∧ Below w.heap.size w w' := by
  have HC := hidP (fun W (hW : Below w.heap.size w W) => iCrv_any v cs W (h.below hW))
  have HO := hidP (fun W (hW : Below w.heap.size w W) => iSpo_any z ss W (h'.below hW))
  have HR := hidP h
  have HS := hidP h'
  obtain ⟨pv, cv, rfl, _⟩ := h
  obtain ⟨pz, cz, rfl, _⟩ := h'
  have b0 : ∀ {u : World} (o : Obj), Below u.heap.size u (u.alloc o) := fun o => (Below.refl _ _).alloc (Nat.le_refl _) o
  obtain ⟨q, hq⟩ : ∃ q, q = crvB cs := ⟨_, rfl⟩
  obtain ⟨o, ho⟩ : ∃ q, q = sptB ss := ⟨_, rfl⟩
  have HQ := hidP (And.intro hq ho)
  rw [← hq] at HC
  rw [← ho] at HO
  clear hq ho
  go_enter Try.func21, Try.ntmps21
  obtain ⟨X, hX⟩ : ∃ X, X = (w.alloc (.cells #[.slice pv cs.length cv] 36)).alloc (.cells #[.int .i64 0, .int .i64 0] 33) := ⟨_, rfl⟩
  have B0 : Below w.heap.size w X := by rw [hX]; exact ((Below.refl _ _).alloc (Nat.le_refl _) _).alloc (by simp) _
  have C0 : X.cell? ⟨w.heap.size, 0, none⟩ = some (.slice pv cs.length cv) := by rw [hX]; simp [go_sem]
  have R0 : IsR X (w.heap.size + 1) 0 0 := by
    rw [hX]
    have := IsR.new (w.alloc (.cells #[.slice pv cs.length cv] 36)) 0 0
    simpa using this
  go_wp2_with fail
  rw [← hX]
  refine (HC.out _ B0).mono ?_
  rintro e w1 ⟨rfl, hb⟩
  replace R0 := R0.below hb
  replace C0 := cell_keep hb C0
  replace B0 := B0.trans (hb.mono B0.size)
  clear hb hX HC
  cases q
  · have HN := hidP (mis_ret (cs := cs) (ss := ss) (by unfold misO; rw [← HQ.out.1]; rfl))
    have z0 := R0.c0
    have z1 := R0.c1
    have z2 := R0.f0
    have z3 := R0.f1
    go_wp2
    exact bodyPost_ret (v := .tuple #[.agg #[.int .i64 0, .int .i64 0], .bool false]) (by simp [results, Try.results21, go_sem, z0, z1]) rfl ⟨HN.out, (B0.setCell (p := ⟨w.heap.size + 1, 0, none⟩) (by simp) _).setCell (p := ⟨w.heap.size + 1, 1, none⟩) (by simp) _⟩
  go_wp2_with fail
  refine (HO.out _ B0).mono ?_
  rintro e w2 ⟨rfl, hb⟩
  replace R0 := R0.below hb
  replace C0 := cell_keep hb C0
  replace B0 := B0.trans (hb.mono B0.size)
  clear hb HO
  cases o
  · have HN := hidP (mis_ret (cs := cs) (ss := ss) (by unfold misO; rw [← HQ.out.2]; simp))
    have z0 := R0.c0
    have z1 := R0.c1
    have z2 := R0.f0
    have z3 := R0.f1
    go_wp2
    exact bodyPost_ret (v := .tuple #[.agg #[.int .i64 0, .int .i64 0], .bool false]) (by simp [results, Try.results21, go_sem, z0, z1]) rfl ⟨HN.out, (B0.setCell (p := ⟨w.heap.size + 1, 0, none⟩) (by simp) _).setCell (p := ⟨w.heap.size + 1, 1, none⟩) (by simp) _⟩
  have HN := hidP (mis_all (cs := cs) (ss := ss) HQ.out.1.symm HQ.out.2.symm)
  have hl := (sptB_out HQ.out.2.symm).1
  have HT : Hid (Calls Try.prog 46 #[.agg #[.slice pz ss.length cz, .func (.func 44) #[] #[.pointer (some ⟨w.heap.size, 0, none⟩)]]] w2 fun e w' =>
      e = .returned (.tuple #[.agg #[.int .i64 (misA cs ss).1, .int .i64 (misA cs ss).2], .bool (misO cs ss)]) ∧ Below w2.heap.size w2 w') := by
    obtain ⟨a, c, e, k2, k3, k4, k5⟩ := HS.out.below B0
    injection e with e1 e2 e3
    subst e1
    obtain ⟨g, off, rfl, m1, -⟩ := k5 0 (by omega)
    have ht := totS_any (sqF cs ss) ss g off ss.length cz (.pointer (some ⟨w.heap.size, 0, none⟩)) w2 (by omega) (fun k hk => by
      obtain ⟨b, o, e, h1, h2, h3, h4⟩ := k5 k hk
      cases e
      exact ⟨h1, h2, h3, h4⟩) (fun k hk W hW => misF_any w.heap.size (.slice pv cs.length cv) cs (sp ss k) W (cell_keep hW C0) (HR.out.below (B0.trans (hW.mono B0.size))))
    rw [HN.out] at ht
    exact ht
  obtain ⟨ma, hma⟩ : ∃ m, m = misA cs ss := ⟨_, rfl⟩
  obtain ⟨mo, hmo⟩ : ∃ m, m = misO cs ss := ⟨_, rfl⟩
  have HE : Hid (Ending.returned (.tuple #[.agg #[.int .i64 ma.1, .int .i64 ma.2], .bool mo]) = .returned (.tuple #[.agg #[.int .i64 (misA cs ss).1, .int .i64 (misA cs ss).2], .bool (misO cs ss)])) := by show _ = _; rw [hma, hmo]
  rw [← hma, ← hmo] at HT
  clear hma hmo HN hl HS HR HQ
  obtain ⟨m1, m2⟩ := ma
  dsimp only at HT HE
  go_wp2_with fail
  refine HT.out.mono ?_
  rintro e w3 ⟨rfl, hb⟩
  replace R0 := R0.below hb
  replace B0 := B0.trans (hb.mono B0.size)
  clear hb C0
  have z0 := R0.c0
  have z1 := R0.c1
  have z2 := R0.f0
  have z3 := R0.f1
  go_wp2
  exact bodyPost_ret (v := .tuple #[.agg #[.int .i64 m1, .int .i64 m2], .bool mo]) (by simp [results, Try.results21, go_sem, z0, z1]) rfl ⟨HE.out, (B0.setCell (p := ⟨w.heap.size + 1, 0, none⟩) (by simp) _).setCell (p := ⟨w.heap.size + 1, 1, none⟩) (by simp) _⟩
end Go.Proofs.Ytibncepllmjhhaa
