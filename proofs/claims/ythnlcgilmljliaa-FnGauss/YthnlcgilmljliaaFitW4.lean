/- The walk of the model's CurveAt. -/
import Derived.Test.YthnlcgilmljliaaFitW3
namespace Go.Proofs.Ythnlcgilmljliaa
open Go.RowKit Go.Proofs.Ythnlcgilmljliaa.RM

def crvO (cs : List Fr) (x : Fr) : Bool := crvB cs && (okB x.1 x.2 && !(atV cs x false).2)
def crvA (cs : List Fr) (x : Fr) : Fr := if crvO cs x = true then (atV cs x false).1 else (0, 0)
theorem crvA_no {cs : List Fr} {x : Fr} (h : crvO cs x = false) : crvA cs x = (0, 0) := by unfold crvA; rw [h]; rfl
theorem crvA_yes {cs : List Fr} {x : Fr} (h : crvO cs x = true) : crvA cs x = (atV cs x false).1 := by unfold crvA; rw [if_pos h]
theorem ret_fb10 {a b a' b' : Int} {o o' : Bool} (h1 : a = a') (h2 : b = b') (h3 : o = o') : Ending.returned (.tuple #[.agg #[.int .i64 a, .int .i64 b], .bool o]) = .returned (.tuple #[.agg #[.int .i64 a', .int .i64 b'], .bool o']) := by rw [h1, h2, h3]

set_option maxRecDepth 100000 in
set_option maxHeartbeats 4000000 in
theorem sCurveAt_any (v : Value) (cs : List Fr) (x : Fr) (w : World) (h : RdR w v cs) :
    Calls Try.prog 18 #[v, .agg #[.int .i64 x.1, .int .i64 x.2]] w fun e w' => e = .returned (.tuple #[.agg #[.int .i64 (crvA cs x).1, .int .i64 (crvA cs x).2], .bool (crvO cs x)]) ∧ Below w.heap.size w w' := by
  have HC := hidP (fun W (hW : Below w.heap.size w W) => sCrv_any v cs W (h.below hW))
  have HO := hidP (fun W => sOk_any x.1 x.2 W)
  have H := hidP h
  obtain ⟨q, hq⟩ : ∃ q, q = crvB cs := ⟨_, rfl⟩
  rw [← hq] at HC
  have HQ := hidP hq
  obtain ⟨o, ho⟩ : ∃ q, q = okB x.1 x.2 := ⟨_, rfl⟩
  rw [← ho] at HO
  have HOQ := hidP ho
  clear hq ho
  obtain ⟨pa, na, ca, rfl⟩ : ∃ a n c, v = .slice a n c := by obtain ⟨a, c, rfl, _⟩ := h; exact ⟨a, _, c, rfl⟩
  clear h
  obtain ⟨z, hz⟩ : ∃ z, z = atV cs x false := ⟨_, rfl⟩
  have HZ := hidP hz
  have HL : Hid (crvB cs = true → ∀ (K : Nat) (W : World), Below w.heap.size w W → w.heap.size ≤ K → IsK W K false → Calls Try.prog 52 #[.pointer (some ⟨K, 0, none⟩), .slice pa na ca, .agg #[.int .i64 x.1, .int .i64 x.2]] W fun e w' => e = .returned (.agg #[.int .i64 z.1.1, .int .i64 z.1.2]) ∧ IsK w' K z.2 ∧ W.grownBy w' (some K)) := by
    intro hc K W hW hK hk
    obtain ⟨⟨h1, h2⟩, _⟩ := crvB_out hc
    rw [hz]
    exact sAt_any K false _ cs x w W H.out h1 h2 hW hK hk
  clear hz
  have HX : Hid (crvO cs x = (q && (o && !z.2))) := by show _ = _; unfold crvO; rw [HQ.out, HOQ.out, HZ.out]
  obtain ⟨x1, x2⟩ := x
  dsimp only at HO HL
  obtain ⟨Rb, hRb⟩ : ∃ R, R = w.heap.size + 1 := ⟨_, rfl⟩
  obtain ⟨Xb, hXb⟩ : ∃ R, R = w.heap.size := ⟨_, rfl⟩
  have hRw : w.heap.size ≤ Rb := by omega
  have hXR : Xb ≠ Rb := by omega
  go_enter Try.func18, Try.ntmps18
  go_upto_region 1 with fail
  obtain ⟨u, hu⟩ : ∃ u, u = (w.alloc (.cells #[.int .i64 x1, .int .i64 x2] 33)).alloc (.cells #[.int .i64 0, .int .i64 0] 33) := ⟨_, rfl⟩
  have X0 : Hid (IsR u Xb x1 x2) := by show IsR _ _ _ _; rw [hu, hXb]; exact (IsR.new w x1 x2).below ((Below.refl _ _).alloc (Nat.le_refl _) _)
  have Z0 : Hid (IsR u Rb 0 0) := by show IsR _ _ _ _; rw [hu, hRb]; have := IsR.new (w.alloc (.cells #[.int .i64 x1, .int .i64 x2] 33)) 0 0; simpa using this
  have B0 : Hid (Below w.heap.size w u) := by show Below _ _ _; rw [hu]; exact ((Below.refl _ _).alloc (Nat.le_refl _) _).alloc (by simp) _
  rw [← hu, ← hRb, ← hXb]
  clear hu hXb hRb
  cases q
  · have HF : Hid (crvO cs (x1, x2) = false) := by show _ = _; rw [HX.out]; rfl
    go_wp2_with fail
    refine (HC.out _ B0.out).mono ?_
    rintro e w1 ⟨rfl, hb⟩
    replace Z0 := hidP (Z0.out.below hb)
    replace B0 := hidP (B0.out.trans (hb.mono B0.out.size))
    clear hb
    have z0 := Z0.out.c0
    have z1 := Z0.out.c1
    have z2 := Z0.out.f0
    have z3 := Z0.out.f1
    go_wp2
    exact bodyPost_ret (v := .tuple #[.agg #[.int .i64 0, .int .i64 0], .bool false]) (by simp [results, Try.results18, go_sem, z0, z1]) rfl ⟨ret_fb10 (by rw [crvA_no HF.out]) (by rw [crvA_no HF.out]) HF.out.symm, (B0.out.setCell (p := ⟨Rb, 0, none⟩) hRw _).setCell (p := ⟨Rb, 1, none⟩) hRw _⟩
  go_wp2_with fail
  refine (HC.out _ B0.out).mono ?_
  rintro e w1 ⟨rfl, hb⟩
  replace Z0 := hidP (Z0.out.below hb)
  replace X0 := hidP (X0.out.below hb)
  replace B0 := hidP (B0.out.trans (hb.mono B0.out.size))
  clear hb
  have d0 := X0.out.c0
  have d1 := X0.out.c1
  cases o
  · have HF : Hid (crvO cs (x1, x2) = false) := by show _ = _; rw [HX.out]; rfl
    go_wp2_with fail
    refine (HO.out _).mono ?_
    rintro e w2 ⟨rfl, hb⟩
    replace Z0 := hidP (Z0.out.below hb)
    replace B0 := hidP (B0.out.trans (hb.mono B0.out.size))
    clear hb d0 d1
    have z0 := Z0.out.c0
    have z1 := Z0.out.c1
    have z2 := Z0.out.f0
    have z3 := Z0.out.f1
    go_wp2
    exact bodyPost_ret (v := .tuple #[.agg #[.int .i64 0, .int .i64 0], .bool false]) (by simp [results, Try.results18, go_sem, z0, z1]) rfl ⟨ret_fb10 (by rw [crvA_no HF.out]) (by rw [crvA_no HF.out]) HF.out.symm, (B0.out.setCell (p := ⟨Rb, 0, none⟩) hRw _).setCell (p := ⟨Rb, 1, none⟩) hRw _⟩
  replace HL := hidP (HL.out HQ.out.symm)
  go_wp2_with fail
  refine (HO.out _).mono ?_
  rintro e w2 ⟨rfl, hb⟩
  replace Z0 := hidP (Z0.out.below hb)
  replace X0 := hidP (X0.out.below hb)
  replace B0 := hidP (B0.out.trans (hb.mono B0.out.size))
  clear hb d0 d1
  go_upto_region 4 with fail
  obtain ⟨K, hK⟩ : ∃ K, K = w2.heap.size := ⟨_, rfl⟩
  obtain ⟨Y, hY⟩ : ∃ Y, Y = w2.alloc (.cells #[.bool false] 71) := ⟨_, rfl⟩
  have K0 : Hid (IsK Y K false) := by show IsK _ _ _; rw [hY, hK]; exact IsK.new w2 false
  have hRK : Rb ≠ K := by have := Z0.out.lt; omega
  have hwK : w.heap.size ≤ K := by have := B0.out.size; omega
  replace Z0 := hidP (Z0.out.below (b0P w2 (.cells #[.bool false] 71)))
  replace X0 := hidP (X0.out.below (b0P w2 (.cells #[.bool false] 71)))
  replace B0 := hidP (B0.out.alloc B0.out.size (.cells #[.bool false] 71))
  rw [← hY] at Z0 X0 B0
  rw [← hY, ← hK]
  clear hY hK
  have d0 := X0.out.c0
  have d1 := X0.out.c1
  go_wp2_with fail
  refine (HL.out K _ B0.out hwK K0.out).mono ?_
  rintro e w3 ⟨rfl, hk, hg⟩
  replace Z0 := hidP (Z0.out.grown hg hRK)
  replace B0 := hidP (B0.out.trans (below_grownK hg hwK B0.out.size))
  clear hg K0 d0 d1 X0
  obtain ⟨⟨s1, s2⟩, bd⟩ := z
  dsimp only at hk HX
  dsimp only
  have hkl := hk.lt
  replace Z0 := hidP (Z0.out.below (b0P w3 (.cells #[.int .i64 s1, .int .i64 s2] 33)))
  replace B0 := hidP (B0.out.alloc B0.out.size (.cells #[.int .i64 s1, .int .i64 s2] 33))
  have hk2 := hk.below (b0P w3 (.cells #[.int .i64 s1, .int .i64 s2] 33))
  have kc := hk2.cell
  have z0 := Z0.out.c0
  have z1 := Z0.out.c1
  have z2 := Z0.out.f0
  have z3 := Z0.out.f1
  clear hk hk2
  cases bd
  · have HF : Hid (crvO cs (x1, x2) = true) := by show _ = _; rw [HX.out]; rfl
    go_wp2
    exact bodyPost_ret (v := .tuple #[.agg #[.int .i64 s1, .int .i64 s2], .bool true]) (by simp [results, Try.results18, go_sem, z0, z1]) rfl ⟨ret_fb10 (by rw [crvA_yes HF.out, ← HZ.out]) (by rw [crvA_yes HF.out, ← HZ.out]) HF.out.symm, (B0.out.setCell (p := ⟨Rb, 0, none⟩) hRw _).setCell (p := ⟨Rb, 1, none⟩) hRw _⟩
  · have HF : Hid (crvO cs (x1, x2) = false) := by show _ = _; rw [HX.out]; rfl
    go_wp2
    exact bodyPost_ret (v := .tuple #[.agg #[.int .i64 0, .int .i64 0], .bool false]) (by simp [results, Try.results18, go_sem, z0, z1]) rfl ⟨ret_fb10 (by rw [crvA_no HF.out]) (by rw [crvA_no HF.out]) HF.out.symm, (B0.out.setCell (p := ⟨Rb, 0, none⟩) hRw _).setCell (p := ⟨Rb, 1, none⟩) hRw _⟩
end Go.Proofs.Ythnlcgilmljliaa
