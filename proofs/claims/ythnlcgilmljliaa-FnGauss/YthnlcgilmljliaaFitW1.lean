/- The walks of the model's power. -/
import Derived.Test.YthnlcgilmljliaaFitMath
import Derived.Test.YthnlcgilmljliaaPtW4
import Derived.Test.YthnlcgilmljliaaTimW3
namespace Go.Proofs.Ythnlcgilmljliaa
open Go.RowKit Go.Proofs.Ythnlcgilmljliaa.RM

theorem IsR.gkF {W W' : World} {R K : Nat} {n d : Int} (h : IsR W R n d) (hg : W.grownBy W' (some K)) (hne : R ≠ K) : IsR W' R n d := h.grown hg hne

set_option maxRecDepth 100000 in
set_option maxHeartbeats 4000000 in
theorem sPow_any (K : Nat) (bd : Bool) (x : Fr) (n : Nat) (w : World) (hn : n ≤ 1000) (hK : IsK w K bd) :
    Calls Try.prog 46 #[.pointer (some ⟨K, 0, none⟩), .agg #[.int .i64 x.1, .int .i64 x.2], .int .i64 n] w fun e w' => e = .returned (.agg #[.int .i64 (powV x bd n).1.1, .int .i64 (powV x bd n).1.2]) ∧ IsK w' K (powV x bd n).2 ∧ w.grownBy w' (some K) := by
  obtain ⟨F, hF⟩ : ∃ F, F = powV x bd := ⟨_, rfl⟩
  have HF0 : Hid (F 0 = ((1, 1), bd)) := by show _ = _; rw [hF]; rfl
  have HFS : Hid (∀ k, F (k + 1) = (p1V (F k).1 x, (F k).2 || !mulK (F k).1 x)) := by intro k; rw [hF]; rfl
  rw [← hF]
  have hlK := hK.lt
  obtain ⟨x1, x2⟩ := x
  clear hF
  dsimp only
  obtain ⟨Xb, hXb⟩ : ∃ R, R = w.heap.size := ⟨_, rfl⟩
  obtain ⟨Rb, hRb⟩ : ∃ R, R = w.heap.size + 1 := ⟨_, rfl⟩
  go_enter Try.func46, Try.ntmps46
  go_wp2_with fail
  refine (one_any _).mono ?_
  rintro e w1 ⟨rfl, hb⟩
  obtain ⟨u, hu⟩ : ∃ u, u = (w.alloc (.cells #[.int .i64 x1, .int .i64 x2] 33)).alloc (.cells #[.int .i64 0, .int .i64 0] 33) := ⟨_, rfl⟩
  have X0 : IsR u Xb x1 x2 := by rw [hu, hXb]; exact (IsR.new w x1 x2).below ((Below.refl _ _).alloc (Nat.le_refl _) _)
  have Z0 : IsR u Rb 0 0 := by rw [hu, hRb]; have := IsR.new (w.alloc (.cells #[.int .i64 x1, .int .i64 x2] 33)) 0 0; simpa using this
  have K0 : IsK u K bd := by rw [hu]; exact (IsK.below hK ((Below.refl _ _).alloc (Nat.le_refl _) _)).below ((Below.refl _ _).alloc (Nat.le_refl _) _)
  have G0 : w.grownBy u (some K) := by rw [hu]; exact g_alloc (g_alloc (g_refl w (some K)) _) _
  have hus : w.heap.size + 2 ≤ u.heap.size := by rw [hu]; simp
  rw [← hu] at hb
  rw [← hRb, ← hXb]
  replace X0 := X0.below hb
  replace Z0 := Z0.below hb
  replace K0 := K0.below hb
  replace G0 := g_below G0 hb
  have hs1 := hb.size
  clear hu hb hK
  obtain ⟨Sb, hSb⟩ : ∃ S, S = w1.heap.size := ⟨_, rfl⟩
  have hSK : Sb ≠ K := by omega
  have hXK : Xb ≠ K := by omega
  have hRK : Rb ≠ K := by omega
  have hXS : Xb ≠ Sb := by omega
  have hRS : Rb ≠ Sb := by omega
  have h0S : w.heap.size ≤ Sb := by omega
  have h0R : w.heap.size ≤ Rb := by omega
  clear hXb hRb hus hs1
  go_wp2
  obtain ⟨X, hX⟩ : ∃ X, X = w1.alloc (.cells #[.int .i64 1, .int .i64 1] 33) := ⟨_, rfl⟩
  have S1 : IsR X Sb (F 0).1.1 (F 0).1.2 := by rw [HF0.out, hX, hSb]; exact IsR.new w1 1 1
  have X1 : IsR X Xb x1 x2 := by rw [hX]; exact X0.below ((Below.refl _ _).alloc (Nat.le_refl _) _)
  have Z1 : IsR X Rb 0 0 := by rw [hX]; exact Z0.below ((Below.refl _ _).alloc (Nat.le_refl _) _)
  have K1 : IsK X K (F 0).2 := by rw [HF0.out, hX]; exact K0.below ((Below.refl _ _).alloc (Nat.le_refl _) _)
  have G1 : w.grownBy X (some K) := by rw [hX]; exact g_alloc G0 _
  rw [← hX, ← hSb]
  clear hX hSb X0 Z0 K0 G0
  go_loopw [2] (fun i wr => ∃ k : Nat, k ≤ n ∧ i = .int .i64 ((n : Int) - (k : Int)) ∧ Hid (IsR wr Sb (F k).1.1 (F k).1.2) ∧ Hid (IsK wr K (F k).2) ∧ Hid (IsR wr Xb x1 x2) ∧ Hid (IsR wr Rb 0 0) ∧ Hid (w.grownBy wr (some K))) (fun i _ => (intOf i).toNat)
  case atStart => exact ⟨0, Nat.zero_le _, by simp, S1, K1, X1, Z1, G1⟩
  case round =>
    clear S1 K1 X1 Z1 G1
    obtain ⟨k, hk, rfl, hS, hK, hX, hZ, hG⟩ := hrel
    by_cases hlt : k < n
    · obtain ⟨s, hs⟩ : ∃ z, z = F k := ⟨_, rfl⟩
      obtain ⟨r, hr⟩ : ∃ z, z = F (k + 1) := ⟨_, rfl⟩
      have HQ : Hid (F (k + 1) = r) := hr.symm
      rw [HFS.out k, ← hs] at hr
      rw [← hs] at hS hK
      obtain ⟨⟨s1, s2⟩, so⟩ := s
      obtain ⟨⟨r1, r2⟩, ro⟩ := r
      have e1 : r1 = (p1V (s1, s2) (x1, x2)).1 := congrArg (fun z : Fr × Bool => z.1.1) hr
      have e2 : r2 = (p1V (s1, s2) (x1, x2)).2 := congrArg (fun z : Fr × Bool => z.1.2) hr
      have e3 : ro = (so || !mulK (s1, s2) (x1, x2)) := congrArg (fun z : Fr × Bool => z.2) hr
      have HM := hidP (fun W (hW : IsK W K so) => kMul9 K so (s1, s2) (x1, x2) W hW)
      rw [← e3] at HM
      have HM2 : Hid (∀ W, IsK W K so → Calls Try.prog 47 #[.pointer (some ⟨K, 0, none⟩), .agg #[.int .i64 s1, .int .i64 s2], .agg #[.int .i64 x1, .int .i64 x2]] W fun e w' => e = .returned (.agg #[.int .i64 r1, .int .i64 r2]) ∧ IsK w' K ro ∧ W.grownBy w' (some K)) := by
        rw [e1, e2]; exact HM
      clear hs hr e1 e2 e3 HM
      dsimp only at hS hK
      have c0 := hS.out.c0
      have c1 := hS.out.c1
      have d0 := hX.out.c0
      have d1 := hX.out.c1
      go_wp2_with fail
      refine (HM2.out _ hK.out).mono ?_
      rintro e w2 ⟨rfl, k2, g2⟩
      replace hS := hidP (hS.out.grown g2 hSK)
      replace hX := hidP (hX.out.grown g2 hXK)
      replace hZ := hidP (hZ.out.grown g2 hRK)
      replace hG := hidP (hG.out.trans g2)
      clear c0 c1 d0 d1 g2 hK
      have c0 := hS.out.c0
      have c1 := hS.out.c1
      have f0 := hS.out.f0
      have f1 := hS.out.f1
      go_wp2
      go_roundw
      case rel =>
        refine ⟨k + 1, by omega, by go_num, ?_, ?_, (hX.out.other hXS 0 _).other hXS 1 _, (hZ.out.other hRS 0 _).other hRS 1 _, g_set (g_set hG.out (.inl h0S) 0 _) (.inl h0S) 1 _⟩
        · show IsR _ _ _ _
          rw [HQ.out]
          exact (hS.out.set0 _).set1 _
        · show IsK _ _ _
          rw [HQ.out]
          exact (k2.other hSK.symm 0 (.int .i64 r1)).other hSK.symm 1 (.int .i64 r2)
      case measure => simp [intOf]; omega
    · obtain rfl : k = n := by omega
      have c0 := hS.out.c0
      have c1 := hS.out.c1
      have z0 := hZ.out.c0
      have z1 := hZ.out.c1
      have f0 := hZ.out.f0
      have f1 := hZ.out.f1
      go_wp2
      have q0 := ((hZ.out.set0 (F k).1.1).set1 (F k).1.2).c0
      have q1 := ((hZ.out.set0 (F k).1.1).set1 (F k).1.2).c1
      exact bodyPost_ret (v := .agg #[.int .i64 (F k).1.1, .int .i64 (F k).1.2]) (by simp [results, Try.results46, go_sem, q0, q1]) rfl ⟨rfl, (hK.out.other hRK.symm 0 _).other hRK.symm 1 _, g_set (g_set hG.out (.inl h0R) 0 _) (.inl h0R) 1 _⟩
end Go.Proofs.Ythnlcgilmljliaa
