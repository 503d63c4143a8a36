/- The walk of the model's l1Bend: a text, bent at most twice, is some text of at most two signs more. -/
import Derived.Test.YtbbkejfcheobaaaDoorBendW0
import Derived.Deep.RegionWith
import Derived.Deep.RegionLaw
import Derived.Deep.RegionHeld3
import Derived.IntWalk
namespace Go.Proofs.YtbbkejfcheobaaaDoor
open Go.RowKit Go.Proofs.YtbbkejfcheobaaaDoor.RM

theorem vB_one (bs : List UInt8) : ∀ u ∈ vB bs, u.oneCell' = true := by
  intro u hu
  unfold vB at hu
  rw [List.mem_map] at hu
  obtain ⟨b, _, rfl⟩ := hu
  rfl
theorem vB_app (a b : List UInt8) : vB (a ++ b) = vB a ++ vB b := by simp [vB]
/-- what is cut of the bytes, as an append reads it -/
theorem RdB.news {W : World} {B n c : Nat} {g : Nat} {bs : List UInt8} (h : RdB W B (.slice (some ⟨g, 0, none⟩) n c) bs) (k m : Nat) (off : Nat) (hoff : off = k ∨ bs.drop k = []) (ps : List UInt8) (hps : ps = (bs.drop k).take m) : ∀ j u, (vB ps)[j]? = some u → W.cell? ((⟨g, off, none⟩ : Addr).add j) = some u := by
  intro j u hu
  obtain ⟨a, c', h1, h2, h3, h4⟩ := h
  injection h1 with e1 e2 e3
  subst e1
  have hj : j < ps.length := by
    have := (List.getElem?_eq_some_iff.1 hu).1
    rwa [vB_len] at this
  rw [vB_at ps j hj] at hu
  rw [hps, List.length_take, List.length_drop] at hj
  obtain ⟨g', k1, k2, k3⟩ := h4 (by intro e; rw [e] at hj; simp at hj)
  cases k1
  have hoff' : off = k := by
    rcases hoff with h | h
    · exact h
    · have : (bs.drop k).length = 0 := by rw [h]; rfl
      rw [List.length_drop] at this
      omega
  subst hoff'
  have e : (⟨g, off, none⟩ : Addr).add j = ⟨g, off + j, none⟩ := by by_cases i0 : j = 0 <;> simp [Addr.add, i0]
  rw [e, (k3 (off + j) (by omega)).1, ← hu, hps, List.getElem?_take, if_pos (by omega), List.getElem?_drop]

theorem RdB.at_ {W : World} {B n c k : Nat} {g : Nat} {bs : List UInt8} (h : RdB W B (.slice (some ⟨g, 0, none⟩) n c) bs) (hk : k < bs.length) : W.cell? ⟨g, k, none⟩ = some (.int .u8 ((bs[k]?.getD 0).toNat : Int)) ∧ W.frozen? ⟨g, k, none⟩ = false := by
  obtain ⟨a, c', h1, h2, h3, h4⟩ := h
  injection h1 with e1 e2 e3
  subst e1
  obtain ⟨g', k1, k2, k3⟩ := h4 (by intro e; rw [e] at hk; exact absurd hk (Nat.not_lt_zero _))
  cases k1
  exact k3 k hk

set_option maxRecDepth 100000 in
set_option maxHeartbeats 4000000 in
theorem bend_any (cb : Nat) (a : Option Addr) (len cap : Nat) (zs : List Int) (s sg : ByteArray) (w : World) (hc : Cur w cb a len cap zs) (hs : s.size ≤ 100000) (hsg0 : 0 < sg.size) (hsg1 : sg.size ≤ 200) :
    Calls Tryd.prog 18 #[.pointer (some ⟨cb, 0, none⟩), .string s, .string sg] w fun e w' => ∃ t : List UInt8, e = .returned (.string ⟨t.toArray⟩) ∧ t.length ≤ s.size + 2 ∧ Cur w' cb a len cap zs ∧ Ex cb w w' := by
  obtain ⟨i0, hi, hz0, hz1, hz2⟩ := info_parts infoU8
  have b0 : ∀ (u : World) (o : Obj), Below u.heap.size u (u.alloc o) := fun u o => (Below.refl _ _).alloc (Nat.le_refl _) o
  have hlt := hc.lt
  have HROW : Hid (∀ b off, a = some ⟨b, off, none⟩ → 0 < zs.length → b < w.heap.size) := fun b off e hz => hc.2.1.lt b off e hz
  have hcv := run_bytes_of_string (P := Tryd.prog) w 9 22 5 s Tryd.underlying9 Tryd.underlying22 Tryd.underlying5
  obtain ⟨c0, hc0⟩ : ∃ c, c = grownCap w s.size 0 5 := ⟨_, rfl⟩
  have hge : s.size ≤ c0 := by rw [hc0]; exact grownCap_ge _ _ _ _
  have hle : c0 ≤ maxLen := by rw [hc0]; exact grownCap_le_maxLen _ _ _ _ (by unfold maxLen; omega)
  rw [← hc0] at hcv
  obtain ⟨X, hX⟩ : ∃ X, X = w.drew.alloc (.cells (bytesRow s c0) 5 ((bytesRow s c0).size, (bytesRow s c0).size + 1)) := ⟨_, rfl⟩
  have R0 : Hid (RdB X w.heap.size (.slice (some ⟨w.heap.size, 0, none⟩) s.data.toList.length c0) s.data.toList) := by
    have hl : s.data.toList.length = s.size := by rw [Array.length_toList]; rfl
    show RdB _ _ _ _
    rw [hX, hl]
    exact RdB.of w s c0 hge hle
  have hsl : s.data.toList.length = s.size := by rw [Array.length_toList]; rfl
  have C0 : Hid (Cur X cb a len cap zs) := by show Cur _ _ _ _ _ _; rw [hX]; exact hc.below (((Below.refl _ _).drew).alloc (Nat.le_refl _) _)
  have E0 : Hid (Ex cb w X) := by show Ex _ _ _; rw [hX]; exact (Ex.refl cb w).drew.alloc _
  rw [← hX] at hcv
  obtain ⟨bs0, hbs0⟩ : ∃ l, l = s.data.toList := ⟨_, rfl⟩
  rw [← hbs0] at R0 hsl
  rw [← hsl] at hcv
  obtain ⟨G, hG⟩ : ∃ G, G = w.heap.size := ⟨_, rfl⟩
  rw [← hG] at hcv
  have HSL := hidB hsl
  have hsl2 : bs0.length ≤ 100000 := by omega
  have R0' : Hid (RdB X w.heap.size (.slice (some ⟨G, 0, none⟩) bs0.length c0) bs0) := by show RdB _ _ _ _; rw [hG]; exact R0.out
  clear hc hX hc0 hbs0 hge hle hG R0 hsl
  go_enter Tryd.func18, Tryd.ntmps18
  go_wp2_with fail
  refine (below_any cb _ a len cap zs _ C0.out (by omega)).mono ?_
  rintro e w1 ⟨m0, rfl, hm0, hm1, hC', hE⟩
  have R1 := hidB (R0'.out.ex hE hlt)
  have C1 := hidB hC'
  have E1 := hidB (E0.out.trans hE)
  clear hC' hE R0' C0 E0 hcv
  go_wp2
  go_loopw [7, 8] (fun b n wr => ∃ (bs : List UInt8) (m : Int), n = .int .i64 m ∧ m ≤ 2 ∧ 0 ≤ m ∧ (bs.length : Int) + m ≤ bs0.length + 2 ∧ Hid (RdB wr w.heap.size b bs) ∧ Hid (Cur wr cb a len cap zs) ∧ Hid (Ex cb w wr)) (fun _ n _ => (intOf n).toNat)
  case atStart => exact ⟨bs0, m0, rfl, by omega, by omega, by omega, R1.out, C1.out, E1.out⟩
  case round =>
    clear R1 C1 E1 hm0 hm1
    obtain ⟨bs, m, rfl, hm2, hm0, hbl, hR, hC, hE⟩ := hrel
    have done : ∀ v, RdB wr w.heap.size v bs → ∃ a c, v = .slice a bs.length c ∧ (convert 22 9 (.slice a bs.length c)).run Tryd.prog wr = .ok (.string ⟨bs.toArray⟩) wr := by
      intro v hv
      obtain ⟨a', c', h1, -⟩ := id hv
      subst h1
      exact ⟨a', c', rfl, hv.back⟩
    obtain ⟨ba, c, rfl, hback⟩ := done _ hR.out
    clear done
    by_cases hmp : 0 < m
    · by_cases hne : bs = []
      · subst hne
        have hn0 : (([] : List UInt8).length : Int) = 0 := rfl
        simp only [List.length_nil] at hback hbl ⊢
        go_wp2
        go_ret
        exact ⟨[], rfl, Nat.zero_le _, hC.out, hE.out⟩
      · have hn : 0 < bs.length := List.length_pos_iff.2 hne
        have hni : (0 : Int) < (bs.length : Int) := by omega
        obtain ⟨ba', c', e1, hcap, hcm, hfacts⟩ := id hR.out
        injection e1 with e1 e2 e3
        subst e1 e3
        obtain ⟨g, rfl, hgw, hcell⟩ := hfacts hne
        have HCELL := hidB hcell
        clear hback hcell hfacts e2
        unfold maxLen at hcm
        go_wp2_with fail
        refine (below_any cb _ a len cap zs _ hC.out (by omega)).mono ?_
        rintro e w1 ⟨x1, rfl, hk0, hk1, hC', hE'⟩
        obtain ⟨k, rfl⟩ : ∃ j : Nat, x1 = j := ⟨x1.toNat, by omega⟩
        have hk : k < bs.length := by omega
        replace hR := hidB (hR.out.ex hE' hlt)
        replace hC := hidB hC'
        replace hE := hidB (hE.out.trans hE')
        clear hC' hE'
        go_wp2_with fail
        refine (below_any cb _ a len cap zs _ hC.out (by omega)).mono ?_
        rintro e w2 ⟨x2, rfl, hx0, hx1, hC', hE'⟩
        replace hR := hidB (hR.out.ex hE' hlt)
        replace hC := hidB hC'
        replace hE := hidB (hE.out.trans hE')
        have hSw := hE.out.size
        clear hC' hE'
        have hx : x2 = 0 ∨ x2 = 1 ∨ x2 = 2 ∨ x2 = 3 := by omega
        clear hx0 hx1 HCELL
        rcases hx with rfl | rfl | rfl | rfl
        · go_wp2_with fail
          refine (below_any cb _ a len cap zs _ hC.out (by omega)).mono ?_
          rintro e w3 ⟨x3, rfl, hy0, hy1, hC', hE'⟩
          obtain ⟨j2, rfl⟩ : ∃ j : Nat, x3 = j := ⟨x3.toNat, by omega⟩
          have hj2 : j2 < sg.size := by omega
          replace hR := hidB (hR.out.ex hE' hlt)
          replace hC := hidB hC'
          replace hE := hidB (hE.out.trans hE')
          clear hC' hE'
          obtain ⟨d1, d2⟩ := hR.out.at_ hk
          have RP := hidB (hR.out.put hk sg[j2])
          have CP := hidB (curSetI (u := .int .u8 (sg[j2].toNat : Int)) (o := k) hC.out (show cb ≠ g by omega) (fun b off e1 e2 => by have := HROW.out b off e1 e2; omega))
          have EP := hidB (hE.out.setCell (b := g) (o := k) (.inr hgw) (.int .u8 (sg[j2].toNat : Int)))
          go_wp2
          go_roundw
          case rel => exact ⟨bs.set k sg[j2], m - 1, by go_num, by omega, by omega, by rw [List.length_set]; omega, RP.out, CP.out, EP.out⟩
          case measure => simp [intOf]; omega
        · have RC := hidB (hR.out.cut (k := k) (by omega))
          go_wp2
          go_roundw
          case rel => exact ⟨bs.take k, m - 1, by go_num, by omega, by omega, by rw [List.length_take]; omega, RC.out, hC.out, hE.out⟩
          case measure => simp [intOf]; omega
        · obtain ⟨Sz, hSz⟩ : ∃ S, S = w2.heap.size := ⟨_, rfl⟩
          have hcS : cb < Sz := by omega
          have HROWS : Hid (∀ b off, a = some ⟨b, off, none⟩ → 0 < zs.length → b < Sz) := fun b off e1 e2 => by have := HROW.out b off e1 e2; omega
          have HS2 : Hid (w2.heap.size ≤ Sz) := by show _ ≤ _; omega
          have L0 : Hid ((w2.drew.alloc (.cells #[] 5)).ownsRow Sz 5 1 (.slice (some ⟨w2.heap.size, 0, none⟩) 0 0) 0 []) := by
            show World.ownsRow _ _ _ _ _ _ _
            have := World.ownsRow_lit w2.drew (base := Sz) (e := 5) (size := 1) #[] 0 (by simp; omega) (Nat.zero_le _) rfl
            simpa using this
          have E1 := hidB ((Ex.refl cb w2).drew.alloc (.cells #[] 5))
          have C1 := hidB (hC.out.below (((Below.refl _ _).drew).alloc (Nat.le_refl _) (.cells #[] 5)))
          have N1 : Hid (∀ j u, (vB (bs.take k))[j]? = some u → (w2.drew.alloc (.cells #[] 5)).cell? ((⟨g, 0, none⟩ : Addr).add j) = some u) := (hR.out.ex E1.out hlt).news 0 k 0 (.inl rfl) _ (by simp)
          have HZ : Hid (Sz ≤ (w2.drew.alloc (.cells #[] 5)).heap.size) := by show _ ≤ _; simp; omega
          have HSZ := hidB hSz
          clear hSz
          have hwk : IntKind.i64.wrap ((k : Int) + 1) = ((k + 1 : Nat) : Int) := by rw [IntWalk.i64_in _ ⟨by omega, by omega⟩]; rfl
          by_cases hck : c ≤ k + 1
          · have hd : bs.drop (k + 1) = [] := by apply List.drop_of_length_le; omega
            have N2 : Hid (∀ W, Ex cb w2 W → ∀ j u, (vB (bs.drop (k + 1)))[j]? = some u → W.cell? ((⟨g, 0, none⟩ : Addr).add j) = some u) := fun W hW => (hR.out.ex hW hlt).news (k + 1) bs.length 0 (.inr hd) _ (by rw [List.take_of_length_le (by rw [List.length_drop]; omega)])
            clear hd
            go_upto_region 12 with fail
            refine wp_region_noPanic ?_
            refine wp_region_held_drew (S := fun _ => True) (by kernel_rfl) trivial (fun hHeld => ?_)
            refine wpAnyH_take (i := 1) (v := ?_) rfl (by kernel_rfl) (by kernel_rfl) (by kernel_rfl) (fun _ _ _ h => h) (Or.inl ⟨by kernel_rfl, ?_⟩) hHeld ?_
            rotate_left
            · intro wz hSw; (try dsimp only at hSw); go_simp; all_goals (try with_reducible rfl)
            (try simp only [List.getElem_toArray]); (try simp only [List.getElem_cons_succ]); (try simp only [List.getElem_cons_zero]); (try simp only [Act.put]); (try simp only [List.setIfInBounds_toArray]); (try simp only [List.set_cons_succ]); (try simp only [List.set_cons_zero])
            refine wpAnyH_take (i := 2) (v := ?_) rfl (by kernel_rfl) (by kernel_rfl) (by kernel_rfl) (fun _ _ _ h => h) (Or.inl ⟨by kernel_rfl, ?_⟩) hHeld ?_
            rotate_left
            · intro wz hSw; (try dsimp only at hSw); go_simp; all_goals (try with_reducible rfl)
            (try simp only [List.getElem_toArray]); (try simp only [List.getElem_cons_succ]); (try simp only [List.getElem_cons_zero]); (try simp only [Act.put]); (try simp only [List.setIfInBounds_toArray]); (try simp only [List.set_cons_succ]); (try simp only [List.set_cons_zero])
            refine wpAnyH_take (i := 3) (v := (.slice (some ⟨g, 0, none⟩) k c)) rfl (by kernel_rfl) (by kernel_rfl) (by kernel_rfl) (fun _ _ _ h => h) (Or.inl ⟨by kernel_rfl, ?_⟩) hHeld ?_
            skip
            · intro wz hSw; (try dsimp only at hSw); go_simp; all_goals (try with_reducible rfl); all_goals (first | (intro hh; omega) | (repeat (first | rw [if_pos (by omega)] | rw [if_neg (by omega)])))
            (try simp only [List.getElem_toArray]); (try simp only [List.getElem_cons_succ]); (try simp only [List.getElem_cons_zero]); (try simp only [Act.put]); (try simp only [List.setIfInBounds_toArray]); (try simp only [List.set_cons_succ]); (try simp only [List.set_cons_zero])
            refine wpAnyH_take (i := 5) (v := ?_) rfl (by kernel_rfl) (by kernel_rfl) (by kernel_rfl) (fun _ _ _ h => h) (Or.inl ⟨by kernel_rfl, ?_⟩) hHeld ?_
            rotate_left
            · intro wz hSw; (try dsimp only at hSw); go_simp; all_goals (try with_reducible rfl)
            (try simp only [List.getElem_toArray]); (try simp only [List.getElem_cons_succ]); (try simp only [List.getElem_cons_zero]); (try simp only [Act.put]); (try simp only [List.setIfInBounds_toArray]); (try simp only [List.set_cons_succ]); (try simp only [List.set_cons_zero])
            refine wpAnyH_take (i := 6) (v := ?_) rfl (by kernel_rfl) (by kernel_rfl) (by kernel_rfl) (fun _ _ _ h => h) (Or.inl ⟨by kernel_rfl, ?_⟩) hHeld ?_
            rotate_left
            · intro wz hSw; (try dsimp only at hSw); go_simp; all_goals (try with_reducible rfl)
            (try simp only [List.getElem_toArray]); (try simp only [List.getElem_cons_succ]); (try simp only [List.getElem_cons_zero]); (try simp only [Act.put]); (try simp only [List.setIfInBounds_toArray]); (try simp only [List.set_cons_succ]); (try simp only [List.set_cons_zero])
            refine wpAnyH_take (i := 7) (v := (.int .i64 ((k + 1 : Nat) : Int))) rfl (by kernel_rfl) (by kernel_rfl) (by kernel_rfl) (fun _ _ _ h => h) (Or.inl ⟨by kernel_rfl, ?_⟩) hHeld ?_
            skip
            · intro wz hSw; (try dsimp only at hSw); go_simp; all_goals (try with_reducible rfl); all_goals (first | rw [hwk] | rfl)
            (try simp only [List.getElem_toArray]); (try simp only [List.getElem_cons_succ]); (try simp only [List.getElem_cons_zero]); (try simp only [Act.put]); (try simp only [List.setIfInBounds_toArray]); (try simp only [List.set_cons_succ]); (try simp only [List.set_cons_zero])
            refine wpAnyH_take (i := 8) (v := (.slice (some ⟨g, 0, none⟩) (bs.length - (k + 1)) (c - (k + 1)))) rfl (by kernel_rfl) (by kernel_rfl) (by kernel_rfl) (fun _ _ _ h => h) (Or.inl ⟨by kernel_rfl, ?_⟩) hHeld ?_
            skip
            · intro wz hSw; (try dsimp only at hSw); go_simp; all_goals (try with_reducible rfl); all_goals (first | (intro hh; omega) | (repeat (first | rw [if_pos (by omega)] | rw [if_neg (by omega)])))
            (try simp only [List.getElem_toArray]); (try simp only [List.getElem_cons_succ]); (try simp only [List.getElem_cons_zero]); (try simp only [Act.put]); (try simp only [List.setIfInBounds_toArray]); (try simp only [List.set_cons_succ]); (try simp only [List.set_cons_zero])
            refine wpAnyH_ready (rs := [0]) (by kernel_rfl) (by simp) (AllReadyH.cons rfl (fun Kc hKc => ?_) AllReadyH.nil)
            go_simp
            refine hKc.out _ _ trivial (fun hHeld => ?_)
            clear hKc Kc
            (try simp only [List.getElem_toArray]); (try simp only [List.getElem_cons_succ]); (try simp only [List.getElem_cons_zero]); (try simp only [Act.put]); (try simp only [List.setIfInBounds_toArray]); (try simp only [List.set_cons_succ]); (try simp only [List.set_cons_zero])
            refine wpAnyH_ready (rs := [4]) (by kernel_rfl) (by simp) (AllReadyH.cons rfl (fun Kc hKc => ?_) AllReadyH.nil)
            refine step_append_own rfl (.tmp 47) (.tmp 50) 22 rfl Sz 5 i0 (.int .u8 0) 1 1 Tryd.underlying22 hi hz0 hz1 hz2 rfl (by decide) (.slice (some ⟨w2.heap.size, 0, none⟩) 0 0) 0 [] (by simp [Act.eval]) L0.out ⟨g, 0, none⟩ k c (vB (bs.take k)) (by simp [Act.eval]) (by rw [vB_len, List.length_take]; omega) N1.out (vB_one _) (by unfold maxLen; omega) (by omega) HZ.out ?_
            intro v3 w3 hown3 hg3
            have O3 := hidB hown3
            have E3 := hidB (exGrowI E1.out L0.out HS2.out hg3)
            have C3 := hidB (curOwnI C1.out L0.out hcS HROWS.out hg3)
            clear hown3 hg3
            refine hKc.out _ _ trivial (fun hHeld => ?_)
            clear hKc Kc
            (try simp only [List.getElem_toArray]); (try simp only [List.getElem_cons_succ]); (try simp only [List.getElem_cons_zero]); (try simp only [Act.put]); (try simp only [List.setIfInBounds_toArray]); (try simp only [List.set_cons_succ]); (try simp only [List.set_cons_zero])
            have N3 := hidB (N2.out w3 E3.out)
            have HZ3 : Hid (Sz ≤ w3.heap.size) := by show _ ≤ _; have := E3.out.size; have := HSZ.out; omega
            refine wpAnyH_ready (rs := [9]) (by kernel_rfl) (by simp) (AllReadyH.cons rfl (fun Kc hKc => ?_) AllReadyH.nil)
            refine step_append_own rfl (.tmp 51) (.tmp 55) 22 rfl Sz 5 i0 (.int .u8 0) 1 1 Tryd.underlying22 hi hz0 hz1 hz2 rfl (by decide) v3 (0 + k) _ (by simp [Act.eval]) O3.out ⟨g, 0, none⟩ (bs.length - (k + 1)) (c - (k + 1)) (vB (bs.drop (k + 1))) (by first | (simp [Act.eval]; done) | (simp [Act.eval]; omega)) (by rw [vB_len, List.length_drop]; omega) N3.out (vB_one _) (by unfold maxLen; omega) (by omega) HZ3.out ?_
            intro v4 w4 hown4 hg4
            have O4 := hidB hown4
            have E4 := hidB (exGrowI E3.out O3.out HS2.out hg4)
            have C4 := hidB (curOwnI C3.out O3.out hcS HROWS.out hg4)
            clear hown4 hg4
            refine hKc.out _ _ trivial (fun hHeld => ?_)
            clear hKc Kc
            (try simp only [List.getElem_toArray]); (try simp only [List.getElem_cons_succ]); (try simp only [List.getElem_cons_zero]); (try simp only [Act.put]); (try simp only [List.setIfInBounds_toArray]); (try simp only [List.set_cons_succ]); (try simp only [List.set_cons_zero])
            refine wpAnyH_take (i := 10) (v := ?_) rfl (by kernel_rfl) (by kernel_rfl) (by kernel_rfl) (fun _ _ _ h => h) (Or.inl ⟨by kernel_rfl, ?_⟩) hHeld ?_
            rotate_left
            · intro wz hSw; (try dsimp only at hSw); go_simp; all_goals (try with_reducible rfl)
            (try simp only [List.getElem_toArray]); (try simp only [List.getElem_cons_succ]); (try simp only [List.getElem_cons_zero]); (try simp only [Act.put]); (try simp only [List.setIfInBounds_toArray]); (try simp only [List.set_cons_succ]); (try simp only [List.set_cons_zero])
            refine wpAnyH_done (by kernel_rfl) ?_ _
            refine NoPanic.normal ?_
            go_wp2
            go_roundw
            case rel => exact ⟨bs.take k ++ bs.drop (k + 1), m - 1, by go_num, by omega, by omega, by rw [List.length_append, List.length_take, List.length_drop]; omega, RdB.own (n := 0 + k + (bs.length - (k + 1))) (by rw [vB_app]; exact O4.out) (by have := HSZ.out; omega), C4.out, hE.out.trans E4.out⟩
            case measure => simp [intOf]; omega
          · have N2 : Hid (∀ W, Ex cb w2 W → ∀ j u, (vB (bs.drop (k + 1)))[j]? = some u → W.cell? ((⟨g, k + 1, none⟩ : Addr).add j) = some u) := fun W hW => (hR.out.ex hW hlt).news (k + 1) bs.length (k + 1) (.inl rfl) _ (by rw [List.take_of_length_le (by rw [List.length_drop]; omega)])
            go_upto_region 12 with fail
            refine wp_region_noPanic ?_
            refine wp_region_held_drew (S := fun _ => True) (by kernel_rfl) trivial (fun hHeld => ?_)
            refine wpAnyH_take (i := 1) (v := ?_) rfl (by kernel_rfl) (by kernel_rfl) (by kernel_rfl) (fun _ _ _ h => h) (Or.inl ⟨by kernel_rfl, ?_⟩) hHeld ?_
            rotate_left
            · intro wz hSw; (try dsimp only at hSw); go_simp; all_goals (try with_reducible rfl)
            (try simp only [List.getElem_toArray]); (try simp only [List.getElem_cons_succ]); (try simp only [List.getElem_cons_zero]); (try simp only [Act.put]); (try simp only [List.setIfInBounds_toArray]); (try simp only [List.set_cons_succ]); (try simp only [List.set_cons_zero])
            refine wpAnyH_take (i := 2) (v := ?_) rfl (by kernel_rfl) (by kernel_rfl) (by kernel_rfl) (fun _ _ _ h => h) (Or.inl ⟨by kernel_rfl, ?_⟩) hHeld ?_
            rotate_left
            · intro wz hSw; (try dsimp only at hSw); go_simp; all_goals (try with_reducible rfl)
            (try simp only [List.getElem_toArray]); (try simp only [List.getElem_cons_succ]); (try simp only [List.getElem_cons_zero]); (try simp only [Act.put]); (try simp only [List.setIfInBounds_toArray]); (try simp only [List.set_cons_succ]); (try simp only [List.set_cons_zero])
            refine wpAnyH_take (i := 3) (v := (.slice (some ⟨g, 0, none⟩) k c)) rfl (by kernel_rfl) (by kernel_rfl) (by kernel_rfl) (fun _ _ _ h => h) (Or.inl ⟨by kernel_rfl, ?_⟩) hHeld ?_
            skip
            · intro wz hSw; (try dsimp only at hSw); go_simp; all_goals (try with_reducible rfl); all_goals (first | (intro hh; omega) | (repeat (first | rw [if_pos (by omega)] | rw [if_neg (by omega)])))
            (try simp only [List.getElem_toArray]); (try simp only [List.getElem_cons_succ]); (try simp only [List.getElem_cons_zero]); (try simp only [Act.put]); (try simp only [List.setIfInBounds_toArray]); (try simp only [List.set_cons_succ]); (try simp only [List.set_cons_zero])
            refine wpAnyH_take (i := 5) (v := ?_) rfl (by kernel_rfl) (by kernel_rfl) (by kernel_rfl) (fun _ _ _ h => h) (Or.inl ⟨by kernel_rfl, ?_⟩) hHeld ?_
            rotate_left
            · intro wz hSw; (try dsimp only at hSw); go_simp; all_goals (try with_reducible rfl)
            (try simp only [List.getElem_toArray]); (try simp only [List.getElem_cons_succ]); (try simp only [List.getElem_cons_zero]); (try simp only [Act.put]); (try simp only [List.setIfInBounds_toArray]); (try simp only [List.set_cons_succ]); (try simp only [List.set_cons_zero])
            refine wpAnyH_take (i := 6) (v := ?_) rfl (by kernel_rfl) (by kernel_rfl) (by kernel_rfl) (fun _ _ _ h => h) (Or.inl ⟨by kernel_rfl, ?_⟩) hHeld ?_
            rotate_left
            · intro wz hSw; (try dsimp only at hSw); go_simp; all_goals (try with_reducible rfl)
            (try simp only [List.getElem_toArray]); (try simp only [List.getElem_cons_succ]); (try simp only [List.getElem_cons_zero]); (try simp only [Act.put]); (try simp only [List.setIfInBounds_toArray]); (try simp only [List.set_cons_succ]); (try simp only [List.set_cons_zero])
            refine wpAnyH_take (i := 7) (v := (.int .i64 ((k + 1 : Nat) : Int))) rfl (by kernel_rfl) (by kernel_rfl) (by kernel_rfl) (fun _ _ _ h => h) (Or.inl ⟨by kernel_rfl, ?_⟩) hHeld ?_
            skip
            · intro wz hSw; (try dsimp only at hSw); go_simp; all_goals (try with_reducible rfl); all_goals (first | rw [hwk] | rfl)
            (try simp only [List.getElem_toArray]); (try simp only [List.getElem_cons_succ]); (try simp only [List.getElem_cons_zero]); (try simp only [Act.put]); (try simp only [List.setIfInBounds_toArray]); (try simp only [List.set_cons_succ]); (try simp only [List.set_cons_zero])
            refine wpAnyH_take (i := 8) (v := (.slice (some ⟨g, k + 1, none⟩) (bs.length - (k + 1)) (c - (k + 1)))) rfl (by kernel_rfl) (by kernel_rfl) (by kernel_rfl) (fun _ _ _ h => h) (Or.inl ⟨by kernel_rfl, ?_⟩) hHeld ?_
            skip
            · intro wz hSw; (try dsimp only at hSw); go_simp; all_goals (try with_reducible rfl); all_goals (first | (intro hh; omega) | (repeat (first | rw [if_pos (by omega)] | rw [if_neg (by omega)])))
            (try simp only [List.getElem_toArray]); (try simp only [List.getElem_cons_succ]); (try simp only [List.getElem_cons_zero]); (try simp only [Act.put]); (try simp only [List.setIfInBounds_toArray]); (try simp only [List.set_cons_succ]); (try simp only [List.set_cons_zero])
            refine wpAnyH_ready (rs := [0]) (by kernel_rfl) (by simp) (AllReadyH.cons rfl (fun Kc hKc => ?_) AllReadyH.nil)
            go_simp
            refine hKc.out _ _ trivial (fun hHeld => ?_)
            clear hKc Kc
            (try simp only [List.getElem_toArray]); (try simp only [List.getElem_cons_succ]); (try simp only [List.getElem_cons_zero]); (try simp only [Act.put]); (try simp only [List.setIfInBounds_toArray]); (try simp only [List.set_cons_succ]); (try simp only [List.set_cons_zero])
            refine wpAnyH_ready (rs := [4]) (by kernel_rfl) (by simp) (AllReadyH.cons rfl (fun Kc hKc => ?_) AllReadyH.nil)
            refine step_append_own rfl (.tmp 47) (.tmp 50) 22 rfl Sz 5 i0 (.int .u8 0) 1 1 Tryd.underlying22 hi hz0 hz1 hz2 rfl (by decide) (.slice (some ⟨w2.heap.size, 0, none⟩) 0 0) 0 [] (by simp [Act.eval]) L0.out ⟨g, 0, none⟩ k c (vB (bs.take k)) (by simp [Act.eval]) (by rw [vB_len, List.length_take]; omega) N1.out (vB_one _) (by unfold maxLen; omega) (by omega) HZ.out ?_
            intro v3 w3 hown3 hg3
            have O3 := hidB hown3
            have E3 := hidB (exGrowI E1.out L0.out HS2.out hg3)
            have C3 := hidB (curOwnI C1.out L0.out hcS HROWS.out hg3)
            clear hown3 hg3
            refine hKc.out _ _ trivial (fun hHeld => ?_)
            clear hKc Kc
            (try simp only [List.getElem_toArray]); (try simp only [List.getElem_cons_succ]); (try simp only [List.getElem_cons_zero]); (try simp only [Act.put]); (try simp only [List.setIfInBounds_toArray]); (try simp only [List.set_cons_succ]); (try simp only [List.set_cons_zero])
            have N3 := hidB (N2.out w3 E3.out)
            have HZ3 : Hid (Sz ≤ w3.heap.size) := by show _ ≤ _; have := E3.out.size; have := HSZ.out; omega
            refine wpAnyH_ready (rs := [9]) (by kernel_rfl) (by simp) (AllReadyH.cons rfl (fun Kc hKc => ?_) AllReadyH.nil)
            refine step_append_own rfl (.tmp 51) (.tmp 55) 22 rfl Sz 5 i0 (.int .u8 0) 1 1 Tryd.underlying22 hi hz0 hz1 hz2 rfl (by decide) v3 (0 + k) _ (by simp [Act.eval]) O3.out ⟨g, k + 1, none⟩ (bs.length - (k + 1)) (c - (k + 1)) (vB (bs.drop (k + 1))) (by first | (simp [Act.eval]; done) | (simp [Act.eval]; omega)) (by rw [vB_len, List.length_drop]; omega) N3.out (vB_one _) (by unfold maxLen; omega) (by omega) HZ3.out ?_
            intro v4 w4 hown4 hg4
            have O4 := hidB hown4
            have E4 := hidB (exGrowI E3.out O3.out HS2.out hg4)
            have C4 := hidB (curOwnI C3.out O3.out hcS HROWS.out hg4)
            clear hown4 hg4
            refine hKc.out _ _ trivial (fun hHeld => ?_)
            clear hKc Kc
            (try simp only [List.getElem_toArray]); (try simp only [List.getElem_cons_succ]); (try simp only [List.getElem_cons_zero]); (try simp only [Act.put]); (try simp only [List.setIfInBounds_toArray]); (try simp only [List.set_cons_succ]); (try simp only [List.set_cons_zero])
            refine wpAnyH_take (i := 10) (v := ?_) rfl (by kernel_rfl) (by kernel_rfl) (by kernel_rfl) (fun _ _ _ h => h) (Or.inl ⟨by kernel_rfl, ?_⟩) hHeld ?_
            rotate_left
            · intro wz hSw; (try dsimp only at hSw); go_simp; all_goals (try with_reducible rfl)
            (try simp only [List.getElem_toArray]); (try simp only [List.getElem_cons_succ]); (try simp only [List.getElem_cons_zero]); (try simp only [Act.put]); (try simp only [List.setIfInBounds_toArray]); (try simp only [List.set_cons_succ]); (try simp only [List.set_cons_zero])
            refine wpAnyH_done (by kernel_rfl) ?_ _
            refine NoPanic.normal ?_
            go_wp2
            go_roundw
            case rel => exact ⟨bs.take k ++ bs.drop (k + 1), m - 1, by go_num, by omega, by omega, by rw [List.length_append, List.length_take, List.length_drop]; omega, RdB.own (n := 0 + k + (bs.length - (k + 1))) (by rw [vB_app]; exact O4.out) (by have := HSZ.out; omega), C4.out, hE.out.trans E4.out⟩
            case measure => simp [intOf]; omega
        · obtain ⟨Sz, hSz⟩ : ∃ S, S = w2.heap.size := ⟨_, rfl⟩
          have hcS : cb < Sz := by omega
          have HROWS : Hid (∀ b off, a = some ⟨b, off, none⟩ → 0 < zs.length → b < Sz) := fun b off e1 e2 => by have := HROW.out b off e1 e2; omega
          have HS2 : Hid (w2.heap.size ≤ Sz) := by show _ ≤ _; omega
          have L0 : Hid ((w2.drew.alloc (.cells #[] 5)).ownsRow Sz 5 1 (.slice (some ⟨w2.heap.size, 0, none⟩) 0 0) 0 []) := by
            show World.ownsRow _ _ _ _ _ _ _
            have := World.ownsRow_lit w2.drew (base := Sz) (e := 5) (size := 1) #[] 0 (by simp; omega) (Nat.zero_le _) rfl
            simpa using this
          have E1 := hidB ((Ex.refl cb w2).drew.alloc (.cells #[] 5))
          have C1 := hidB (hC.out.below (((Below.refl _ _).drew).alloc (Nat.le_refl _) (.cells #[] 5)))
          have N1 : Hid (∀ j u, (vB (bs.take k))[j]? = some u → (w2.drew.alloc (.cells #[] 5)).cell? ((⟨g, 0, none⟩ : Addr).add j) = some u) := (hR.out.ex E1.out hlt).news 0 k 0 (.inl rfl) _ (by simp)
          have HZ : Hid (Sz ≤ (w2.drew.alloc (.cells #[] 5)).heap.size) := by show _ ≤ _; simp; omega
          have HSZ := hidB hSz
          clear hSz
          have hwk : IntKind.i64.wrap ((k : Int) + 1) = ((k + 1 : Nat) : Int) := by rw [IntWalk.i64_in _ ⟨by omega, by omega⟩]; rfl
          have N2 : Hid (∀ W, Ex cb w2 W → ∀ j u, (vB (bs.drop k))[j]? = some u → W.cell? ((⟨g, k, none⟩ : Addr).add j) = some u) := fun W hW => (hR.out.ex hW hlt).news k bs.length k (.inl rfl) _ (by rw [List.take_of_length_le (by rw [List.length_drop]; omega)])
          go_upto_region 14 with fail
          refine wp_region_noPanic ?_
          refine wp_region_held_drew (S := fun _ => True) (by kernel_rfl) trivial (fun hHeld => ?_)
          refine wpAnyH_take (i := 1) (v := ?_) rfl (by kernel_rfl) (by kernel_rfl) (by kernel_rfl) (fun _ _ _ h => h) (Or.inl ⟨by kernel_rfl, ?_⟩) hHeld ?_
          rotate_left
          · intro wz hSw; (try dsimp only at hSw); go_simp; all_goals (try with_reducible rfl)
          (try simp only [List.getElem_toArray]); (try simp only [List.getElem_cons_succ]); (try simp only [List.getElem_cons_zero]); (try simp only [Act.put]); (try simp only [List.setIfInBounds_toArray]); (try simp only [List.set_cons_succ]); (try simp only [List.set_cons_zero])
          refine wpAnyH_take (i := 2) (v := ?_) rfl (by kernel_rfl) (by kernel_rfl) (by kernel_rfl) (fun _ _ _ h => h) (Or.inl ⟨by kernel_rfl, ?_⟩) hHeld ?_
          rotate_left
          · intro wz hSw; (try dsimp only at hSw); go_simp; all_goals (try with_reducible rfl)
          (try simp only [List.getElem_toArray]); (try simp only [List.getElem_cons_succ]); (try simp only [List.getElem_cons_zero]); (try simp only [Act.put]); (try simp only [List.setIfInBounds_toArray]); (try simp only [List.set_cons_succ]); (try simp only [List.set_cons_zero])
          refine wpAnyH_take (i := 3) (v := (.slice (some ⟨g, 0, none⟩) k c)) rfl (by kernel_rfl) (by kernel_rfl) (by kernel_rfl) (fun _ _ _ h => h) (Or.inl ⟨by kernel_rfl, ?_⟩) hHeld ?_
          skip
          · intro wz hSw; (try dsimp only at hSw); go_simp; all_goals (try with_reducible rfl); all_goals (first | (intro hh; omega) | (repeat (first | rw [if_pos (by omega)] | rw [if_neg (by omega)])))
          (try simp only [List.getElem_toArray]); (try simp only [List.getElem_cons_succ]); (try simp only [List.getElem_cons_zero]); (try simp only [Act.put]); (try simp only [List.setIfInBounds_toArray]); (try simp only [List.set_cons_succ]); (try simp only [List.set_cons_zero])
          refine wpAnyH_take (i := 5) (v := ?_) rfl (by kernel_rfl) (by kernel_rfl) (by kernel_rfl) (fun _ _ _ h => h) (Or.inl ⟨by kernel_rfl, ?_⟩) hHeld ?_
          rotate_left
          · intro wz hSw; (try dsimp only at hSw); go_simp; all_goals (try with_reducible rfl)
          (try simp only [List.getElem_toArray]); (try simp only [List.getElem_cons_succ]); (try simp only [List.getElem_cons_zero]); (try simp only [Act.put]); (try simp only [List.setIfInBounds_toArray]); (try simp only [List.set_cons_succ]); (try simp only [List.set_cons_zero])
          refine wpAnyH_take (i := 6) (v := ?_) rfl (by kernel_rfl) (by kernel_rfl) (by kernel_rfl) (fun _ _ _ h => h) (Or.inl ⟨by kernel_rfl, ?_⟩) hHeld ?_
          rotate_left
          · intro wz hSw; (try dsimp only at hSw); go_simp; all_goals (try with_reducible rfl)
          (try simp only [List.getElem_toArray]); (try simp only [List.getElem_cons_succ]); (try simp only [List.getElem_cons_zero]); (try simp only [Act.put]); (try simp only [List.setIfInBounds_toArray]); (try simp only [List.set_cons_succ]); (try simp only [List.set_cons_zero])
          refine wpAnyH_take (i := 7) (v := ?_) rfl (by kernel_rfl) (by kernel_rfl) (by kernel_rfl) (fun _ _ _ h => h) (Or.inl ⟨by kernel_rfl, ?_⟩) hHeld ?_
          rotate_left
          · intro wz hSw; (try dsimp only at hSw); go_simp; all_goals (try with_reducible rfl)
          (try simp only [List.getElem_toArray]); (try simp only [List.getElem_cons_succ]); (try simp only [List.getElem_cons_zero]); (try simp only [Act.put]); (try simp only [List.setIfInBounds_toArray]); (try simp only [List.set_cons_succ]); (try simp only [List.set_cons_zero])
          refine wpAnyH_take (i := 8) (v := ?_) rfl (by kernel_rfl) (by kernel_rfl) (by kernel_rfl) (fun _ _ _ h => h) (Or.inl ⟨by kernel_rfl, ?_⟩) hHeld ?_
          rotate_left
          · intro wz hSw; (try dsimp only at hSw); go_simp; all_goals (try with_reducible rfl)
          (try simp only [List.getElem_toArray]); (try simp only [List.getElem_cons_succ]); (try simp only [List.getElem_cons_zero]); (try simp only [Act.put]); (try simp only [List.setIfInBounds_toArray]); (try simp only [List.set_cons_succ]); (try simp only [List.set_cons_zero])
          refine wpAnyH_take (i := 13) (v := ?_) rfl (by kernel_rfl) (by kernel_rfl) (by kernel_rfl) (fun _ _ _ h => h) (Or.inl ⟨by kernel_rfl, ?_⟩) hHeld ?_
          rotate_left
          · intro wz hSw; (try dsimp only at hSw); go_simp; all_goals (try with_reducible rfl)
          (try simp only [List.getElem_toArray]); (try simp only [List.getElem_cons_succ]); (try simp only [List.getElem_cons_zero]); (try simp only [Act.put]); (try simp only [List.setIfInBounds_toArray]); (try simp only [List.set_cons_succ]); (try simp only [List.set_cons_zero])
          refine wpAnyH_take (i := 14) (v := ?_) rfl (by kernel_rfl) (by kernel_rfl) (by kernel_rfl) (fun _ _ _ h => h) (Or.inl ⟨by kernel_rfl, ?_⟩) hHeld ?_
          rotate_left
          · intro wz hSw; (try dsimp only at hSw); go_simp; all_goals (try with_reducible rfl)
          (try simp only [List.getElem_toArray]); (try simp only [List.getElem_cons_succ]); (try simp only [List.getElem_cons_zero]); (try simp only [Act.put]); (try simp only [List.setIfInBounds_toArray]); (try simp only [List.set_cons_succ]); (try simp only [List.set_cons_zero])
          refine wpAnyH_take (i := 15) (v := (.slice (some ⟨g, k, none⟩) (bs.length - k) (c - k))) rfl (by kernel_rfl) (by kernel_rfl) (by kernel_rfl) (fun _ _ _ h => h) (Or.inl ⟨by kernel_rfl, ?_⟩) hHeld ?_
          skip
          · intro wz hSw; (try dsimp only at hSw); go_simp; all_goals (try with_reducible rfl); all_goals (first | (intro hh; omega) | (repeat (first | rw [if_pos (by omega)] | rw [if_neg (by omega)])))
          (try simp only [List.getElem_toArray]); (try simp only [List.getElem_cons_succ]); (try simp only [List.getElem_cons_zero]); (try simp only [Act.put]); (try simp only [List.setIfInBounds_toArray]); (try simp only [List.set_cons_succ]); (try simp only [List.set_cons_zero])
          refine wpAnyH_ready (rs := [0]) (by kernel_rfl) (by simp) (AllReadyH.cons rfl (fun Kc hKc => ?_) AllReadyH.nil)
          go_simp
          refine hKc.out _ _ trivial (fun hHeld => ?_)
          clear hKc Kc
          (try simp only [List.getElem_toArray]); (try simp only [List.getElem_cons_succ]); (try simp only [List.getElem_cons_zero]); (try simp only [Act.put]); (try simp only [List.setIfInBounds_toArray]); (try simp only [List.set_cons_succ]); (try simp only [List.set_cons_zero])
          refine wpAnyH_ready (rs := [4]) (by kernel_rfl) (by simp) (AllReadyH.cons rfl (fun Kc hKc => ?_) AllReadyH.nil)
          refine step_append_own rfl (.tmp 59) (.tmp 62) 22 rfl Sz 5 i0 (.int .u8 0) 1 1 Tryd.underlying22 hi hz0 hz1 hz2 rfl (by decide) (.slice (some ⟨w2.heap.size, 0, none⟩) 0 0) 0 [] (by simp [Act.eval]) L0.out ⟨g, 0, none⟩ k c (vB (bs.take k)) (by simp [Act.eval]) (by rw [vB_len, List.length_take]; omega) N1.out (vB_one _) (by unfold maxLen; omega) (by omega) HZ.out ?_
          intro v3 w3 hown3 hg3
          have O3 := hidB hown3
          have E3 := hidB (exGrowI E1.out L0.out HS2.out hg3)
          have C3 := hidB (curOwnI C1.out L0.out hcS HROWS.out hg3)
          clear hown3 hg3
          refine hKc.out _ _ trivial (fun hHeld => ?_)
          clear hKc Kc
          (try simp only [List.getElem_toArray]); (try simp only [List.getElem_cons_succ]); (try simp only [List.getElem_cons_zero]); (try simp only [Act.put]); (try simp only [List.setIfInBounds_toArray]); (try simp only [List.set_cons_succ]); (try simp only [List.set_cons_zero])
          refine wpAnyH_ready (rs := [9]) (by kernel_rfl) (by simp) (AllReadyH.cons rfl (fun Kc hKc => ?_) AllReadyH.nil)
          go_simp
          (go_at_call 30; refine (below_any cb _ a len cap zs _ C3.out (by omega)).mono ?_)
          rintro e w4 ⟨x3, rfl, hz0', hz1', hC', hE⟩
          obtain ⟨j2, rfl⟩ : ∃ j : Nat, x3 = j := ⟨x3.toNat, by omega⟩
          have hj2 : j2 < sg.size := by omega
          have O4 := hidB (ownExI O3.out hE hcS)
          have C4 := hidB hC'
          have E4 := hidB (E3.out.trans hE)
          clear hC' hE O3 C3 E3
          go_wp2_with fail
          refine hKc.out _ _ trivial (fun hHeld => ?_)
          clear hKc Kc
          (try simp only [List.getElem_toArray]); (try simp only [List.getElem_cons_succ]); (try simp only [List.getElem_cons_zero]); (try simp only [Act.put]); (try simp only [List.setIfInBounds_toArray]); (try simp only [List.set_cons_succ]); (try simp only [List.set_cons_zero])
          refine wpAnyH_take (i := 10) (v := ?_) rfl (by kernel_rfl) (by kernel_rfl) (by kernel_rfl) (fun _ _ _ h => h) (Or.inl ⟨by kernel_rfl, ?_⟩) hHeld ?_
          rotate_left
          · intro wz hSw; (try dsimp only at hSw); go_simp; all_goals (try with_reducible rfl)
          (try simp only [List.getElem_toArray]); (try simp only [List.getElem_cons_succ]); (try simp only [List.getElem_cons_zero]); (try simp only [Act.put]); (try simp only [List.setIfInBounds_toArray]); (try simp only [List.set_cons_succ]); (try simp only [List.set_cons_zero])
          refine wpAnyH_ready (rs := [11]) (by kernel_rfl) (by simp) (AllReadyH.cons rfl (fun Kc hKc => ?_) AllReadyH.nil)
          go_simp
          refine hKc.out _ _ trivial (fun hHeld => ?_)
          clear hKc Kc
          (try simp only [List.getElem_toArray]); (try simp only [List.getElem_cons_succ]); (try simp only [List.getElem_cons_zero]); (try simp only [Act.put]); (try simp only [List.setIfInBounds_toArray]); (try simp only [List.set_cons_succ]); (try simp only [List.set_cons_zero])
          have O5 := hidB (own_below O4.out (b0 w4 (.cells #[.int .u8 (sg[j2].toNat : Int)] 5)))
          have E5 := hidB (E4.out.alloc (.cells #[.int .u8 (sg[j2].toNat : Int)] 5))
          have C5 := hidB (C4.out.below (b0 w4 (.cells #[.int .u8 (sg[j2].toNat : Int)] 5)))
          have HZ5 : Hid (Sz ≤ (w4.alloc (.cells #[.int .u8 (sg[j2].toNat : Int)] 5)).heap.size) := by show _ ≤ _; have := E5.out.size; have := HSZ.out; omega
          refine wpAnyH_ready (rs := [12]) (by kernel_rfl) (by simp) (AllReadyH.cons rfl (fun Kc hKc => ?_) AllReadyH.nil)
          refine step_append_own rfl (.tmp 63) (.tmp 70) 22 rfl Sz 5 i0 (.int .u8 0) 1 1 Tryd.underlying22 hi hz0 hz1 hz2 rfl (by decide) v3 (0 + k) _ (by simp [Act.eval]) O5.out ⟨w4.heap.size, 0, none⟩ 1 1 (vB [sg[j2]]) (by simp [Act.eval]) rfl (fun j u h => cell_one_new w4 _ _ j u h) (vB_one _) (by unfold maxLen; omega) (by omega) HZ5.out ?_
          intro v6 w6 hown6 hg6
          have O6 := hidB hown6
          have E6 := hidB (exGrowI E5.out O5.out HS2.out hg6)
          have C6 := hidB (curOwnI C5.out O5.out hcS HROWS.out hg6)
          clear hown6 hg6 O4 C4 E4 O5 C5
          refine hKc.out _ _ trivial (fun hHeld => ?_)
          clear hKc Kc
          (try simp only [List.getElem_toArray]); (try simp only [List.getElem_cons_succ]); (try simp only [List.getElem_cons_zero]); (try simp only [Act.put]); (try simp only [List.setIfInBounds_toArray]); (try simp only [List.set_cons_succ]); (try simp only [List.set_cons_zero])
          have N3 := hidB (N2.out w6 E6.out)
          have HZ6 : Hid (Sz ≤ w6.heap.size) := by show _ ≤ _; have := E6.out.size; have := HSZ.out; omega
          refine wpAnyH_ready (rs := [16]) (by kernel_rfl) (by simp) (AllReadyH.cons rfl (fun Kc hKc => ?_) AllReadyH.nil)
          refine step_append_own rfl (.tmp 71) (.tmp 74) 22 rfl Sz 5 i0 (.int .u8 0) 1 1 Tryd.underlying22 hi hz0 hz1 hz2 rfl (by decide) v6 (0 + k + 1) _ (by simp [Act.eval]) O6.out ⟨g, k, none⟩ (bs.length - k) (c - k) (vB (bs.drop k)) (by simp [Act.eval]) (by rw [vB_len, List.length_drop]; omega) N3.out (vB_one _) (by unfold maxLen; omega) (by omega) HZ6.out ?_
          intro v7 w7 hown7 hg7
          have O7 := hidB hown7
          have E7 := hidB (exGrowI E6.out O6.out HS2.out hg7)
          have C7 := hidB (curOwnI C6.out O6.out hcS HROWS.out hg7)
          clear hown7 hg7
          refine hKc.out _ _ trivial (fun hHeld => ?_)
          clear hKc Kc
          (try simp only [List.getElem_toArray]); (try simp only [List.getElem_cons_succ]); (try simp only [List.getElem_cons_zero]); (try simp only [Act.put]); (try simp only [List.setIfInBounds_toArray]); (try simp only [List.set_cons_succ]); (try simp only [List.set_cons_zero])
          refine wpAnyH_take (i := 17) (v := ?_) rfl (by kernel_rfl) (by kernel_rfl) (by kernel_rfl) (fun _ _ _ h => h) (Or.inl ⟨by kernel_rfl, ?_⟩) hHeld ?_
          rotate_left
          · intro wz hSw; (try dsimp only at hSw); go_simp; all_goals (try with_reducible rfl)
          (try simp only [List.getElem_toArray]); (try simp only [List.getElem_cons_succ]); (try simp only [List.getElem_cons_zero]); (try simp only [Act.put]); (try simp only [List.setIfInBounds_toArray]); (try simp only [List.set_cons_succ]); (try simp only [List.set_cons_zero])
          refine wpAnyH_done (by kernel_rfl) ?_ _
          refine NoPanic.normal ?_
          go_wp2
          go_roundw
          case rel => exact ⟨bs.take k ++ [sg[j2]] ++ bs.drop k, m - 1, by go_num, by omega, by omega, by rw [List.length_append, List.length_append, List.length_take, List.length_drop, List.length_singleton]; omega, RdB.own (n := 0 + k + 1 + (bs.length - k)) (by rw [vB_app, vB_app]; exact O7.out) (by have := HSZ.out; omega), C7.out, hE.out.trans E7.out⟩
          case measure => simp [intOf]; omega
    · obtain rfl : m = 0 := by omega
      go_wp2
      go_ret
      exact ⟨bs, rfl, by have := HSL.out; omega, hC.out, hE.out⟩
end Go.Proofs.YtbbkejfcheobaaaDoor
