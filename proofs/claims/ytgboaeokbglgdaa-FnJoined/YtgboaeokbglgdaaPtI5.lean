/- The walk of the program's sums of points: found in a map, put in a list, sorted. -/
import Derived.Test.YtgboaeokbglgdaaSortP
import Derived.Maps.OwnSet
import Derived.Maps.OwnOps
import Derived.WalkKit
import Derived.Carry
namespace Go.Proofs.Ytgboaeokbglgdaa
open Go.RowKit Go.Maps Go.Proofs.Ytgboaeokbglgdaa.RM

theorem lawI : Keyed Try.prog 2 := int_keyed Try.underlying2
theorem zeroI (w : World) : (zeroValue 3).run Try.prog w = .ok (.int .i64 0) w := by kernel_rfl
/-- the map tells where each place stands in the list -/
def MR (D : DataW Unit) (ks : List Int) : Prop :=
  IsMap D ∧ (∀ t : Int, Maps.has D (.int .i64 t) = decide (t ∈ ks)) ∧ ∀ (j : Nat) (t : Int), ks[j]? = some t → D.atKey (.int .i64 t) (.lit (.int .i64 0)) = .lit (.int .i64 j)
theorem MR.nil : MR (.map []) [] := ⟨isMap_empty, fun t => by simp [has_eq], fun j t h => by simp at h⟩
theorem MR.put {D : DataW Unit} {ks : List Int} (h : MR D ks) {T : Int} (hT : ¬ T ∈ ks) : MR (D.put (.int .i64 T) (.lit (.int .i64 ks.length))) (ks ++ [T]) := by
  obtain ⟨h1, h2, h3⟩ := h
  refine ⟨h1.put _ _, fun t => ?_, fun j t hj => ?_⟩
  · by_cases e : t = T
    · subst e
      rw [has_put_same h1 (show WideAt.IsKeyLit (Lit.int .i64 t) by simp [WideAt.IsKeyLit])]
      simp
    · have hne : (Lit.int .i64 t) ≠ (Lit.int .i64 T) := fun h => e (by injection h)
      rw [has_put_other hne, h2]
      simp [e]
  · by_cases e : t = T
    · subst e
      rw [atKey_put_same h1 (show WideAt.IsKeyLit (Lit.int .i64 t) by simp [WideAt.IsKeyLit])]
      have hj2 : j = ks.length := by
        rcases Nat.lt_or_ge j ks.length with c | c
        · rw [List.getElem?_append_left c] at hj
          exact absurd (List.mem_of_getElem? hj) hT
        · rw [List.getElem?_append_right c] at hj
          rcases Nat.lt_or_ge 0 (j - ks.length) with c2 | c2
          · rw [List.getElem?_eq_none (by simp; omega)] at hj; cases hj
          · omega
      rw [hj2]
    · have hne : (Lit.int .i64 t) ≠ (Lit.int .i64 T) := fun h => e (by injection h)
      rw [atKey_put_other hne]
      refine h3 j t ?_
      rcases Nat.lt_or_ge j ks.length with c | c
      · rwa [List.getElem?_append_left c] at hj
      · rw [List.getElem?_append_right c] at hj
        have := List.mem_of_getElem? hj
        simp at this
        exact absurd this e
theorem keys_set {l : List Fr} {j : Nat} {V : Int} (hj : j < l.length) : (l.set j ((fr l j).1, V)).map (·.1) = l.map (·.1) := by
  apply List.ext_getElem?
  intro i
  rw [List.map_set, List.getElem?_set]
  by_cases e : j = i
  · subst e
    rw [if_pos rfl, if_pos (by simpa using hj)]
    unfold fr
    rw [List.getElem?_map, List.getElem?_eq_getElem hj]
    rfl
  · rw [if_neg e]
theorem mem_key {l : List Fr} {T : Int} (h : T ∈ l.map (·.1)) : ∃ j, j < l.length ∧ (fr l j).1 = T := by
  rw [List.mem_map] at h
  obtain ⟨p, hp, e⟩ := h
  obtain ⟨j, hj, e2⟩ := List.mem_iff_getElem.1 hp
  refine ⟨j, hj, ?_⟩
  unfold fr
  rw [List.getElem?_eq_getElem hj, e2]
  exact e
theorem key_at {l : List Fr} {T : Int} {j : Nat} (h : j < l.length) (e : (fr l j).1 = T) : (l.map (·.1))[j]? = some T := by
  rw [List.getElem?_map, List.getElem?_eq_getElem h]
  unfold fr at e
  rw [List.getElem?_eq_getElem h] at e
  exact congrArg some e
theorem fr_last (l : List Fr) (p : Fr) : fr (l ++ [p]) l.length = p := by
  unfold fr
  rw [List.getElem?_append_right (Nat.le_refl _), Nat.sub_self]
  rfl
theorem set_last (l : List Fr) (p q : Fr) : (l ++ [p]).set l.length q = l ++ [q] := by
  rw [List.set_append_right _ _ (Nat.le_refl _), Nat.sub_self]
  rfl
theorem cell_twoI (w : World) (a b : Value) (t : TypeId) : ∀ j u, [a, b][j]? = some u → (w.alloc (.cells #[a, b] t)).cell? ((⟨w.heap.size, 0, none⟩ : Addr).add j) = some u := by
  intro j u h
  match j, h with
  | 0, h => simp at h; subst h; simp [go_sem, Addr.add]
  | 1, h => simp at h; subst h; simp [go_sem, Addr.add]
theorem bI (u : World) (o : Obj) : Below u.heap.size u (u.alloc o) := (Below.refl _ _).alloc (Nat.le_refl _) o
theorem own_lit (W : World) (base : Nat) (h : base ≤ W.heap.size) : (W.alloc (.cells #[] 44)).ownsRow base 44 2 (.slice (some ⟨W.heap.size, 0, none⟩) 0 0) ([] : List Fr).length (cellsR []) := ⟨rfl, .inr ⟨W.heap.size, 0, #[], rfl, h, World.alloc_heap_new W _, Nat.le_refl _, Nat.zero_le _, rfl, rfl⟩⟩
theorem mul_inI {y1 y2 : Int} (a0 : 1 ≤ y1) (a1 : y1 ≤ 1000000) (b0 : 1 ≤ y2) (b1 : y2 ≤ 1000000) : 1 ≤ y1 * y2 ∧ y1 * y2 ≤ 1000000000000 := by
  have h1 := Int.mul_le_mul a0 b0 (by omega) (by omega)
  have h2 := Int.mul_le_mul a1 b1 (by omega) (by omega)
  omega

set_option maxRecDepth 100000 in
set_option maxHeartbeats 16000000 in
theorem iSums_any (va vb : Value) (us vs : List Fr) (w : World) (ha : RdR w va us) (hb : RdR w vb vs) (hsa : sprP us) (hsb : sprP vs) :
    Calls Try.prog 20 #[va, vb] w fun e w' => ∃ g c, e = .returned (.slice (some ⟨g, 0, none⟩) (jnO us vs us.length).length c) ∧ w'.ownsRow w.heap.size 44 2 (.slice (some ⟨g, 0, none⟩) (jnO us vs us.length).length c) (jnO us vs us.length).length (cellsR (jnO us vs us.length)) ∧ Below w.heap.size w w' := by
  obtain ⟨i0, hi, hz0, hz1, hz2⟩ := info_parts infoQ
  obtain ⟨pa, ca, rfl, ha2, -, -, ha5⟩ := ha
  obtain ⟨pb, cb, rfl, hb2, -, -, hb5⟩ := hb
  have HA5 : Hid (∀ j, j < us.length → ∃ b off, pa = some ⟨b, off, none⟩ ∧ w.cell? ⟨b, off + j * 2, none⟩ = some (.int .i64 (fr us j).1) ∧ w.cell? ⟨b, off + j * 2 + 1, none⟩ = some (.int .i64 (fr us j).2)) := ha5
  have HB5 : Hid (∀ j, j < vs.length → ∃ b off, pb = some ⟨b, off, none⟩ ∧ w.cell? ⟨b, off + j * 2, none⟩ = some (.int .i64 (fr vs j).1) ∧ w.cell? ⟨b, off + j * 2 + 1, none⟩ = some (.int .i64 (fr vs j).2)) := hb5
  obtain ⟨⟨la1, la2⟩, hPa, -⟩ := hsa
  obtain ⟨⟨lb1, lb2⟩, hPb, -⟩ := hsb
  have HPA := hidP hPa
  have HPB := hidP hPb
  obtain ⟨La, hLa⟩ : ∃ L, L = us.length := ⟨_, rfl⟩
  obtain ⟨Lb, hLb⟩ : ∃ L, L = vs.length := ⟨_, rfl⟩
  have HLA := hidP hLa
  have HLB := hidP hLb
  rw [← hLa] at ha2 HA5 la1 la2 HPA ⊢
  rw [← hLb] at hb2 HB5 lb1 lb2 HPB ⊢
  have HRI : Hid (∀ i k, i < La → k ≤ Lb → bndP 2000000000000000 (acI us vs i (acO us vs i) k) ∧ (acI us vs i (acO us vs i) k).length ≤ 1700) := by
    intro i k hi hk
    have h0 := jnO_in (us := us) (bs := vs) (i := i) (fun j hj => hPb j hj) (fun j hj => HPA.out j (by omega))
    rw [← HLB.out] at h0
    obtain ⟨h1, h2⟩ := jnI_in (us := us) (bs := vs) (i := i) (n := i * Lb) (HPA.out i hi) h0 (k := k) (fun j hj => HPB.out j (by omega))
    have h3 : i * Lb ≤ 40 * 40 := Nat.mul_le_mul (by omega) lb2
    have hp := (jn_both (us := us) (bs := vs) (i := i) (jnO_both us vs i).1 (jnO_both us vs i).2 k).2
    refine ⟨bnd_perm (fun p hp => ?_) hp, by rw [← hp.length_eq]; omega⟩
    have := h1 p hp
    omega
  have HRR : Hid (∀ i k, unlike (acI us vs i (acO us vs i) k)) := fun i k => acI_unlike k
  have HFIN : Hid (∀ qs : List Fr, qs.Perm (acO us vs La) → rising qs → qs = jnO us vs La) := by
    intro qs h1 h2
    have hb := jnO_both us vs La
    exact rising_eq h2 hb.1 (h1.trans hb.2.symm)
  have HFU : Hid (unlike (acO us vs La)) := by
    have hb := jnO_both us vs La
    exact (hb.2.pairwise_iff (fun h => fun e => h e.symm)).1 hb.1.unlike
  have HFL : Hid ((acO us vs La).length ≤ 1700) := by
    have h0 := (jnO_in (us := us) (bs := vs) (i := La) (fun j hj => hPb j hj) (fun j hj => HPA.out j hj)).2
    rw [← HLB.out] at h0
    have h3 : La * Lb ≤ 40 * 40 := Nat.mul_le_mul la2 lb2
    have := (jnO_both us vs La).2.length_eq
    show _ ≤ _
    omega
  have h1 := bI w (.cells #[] 44)
  have o1 := own_lit w w.heap.size (Nat.le_refl _)
  have h2 := bI (w.alloc (.cells #[] 44)) (.map #[] 0)
  have m1 := World.ownsMap_made (w.alloc (.cells #[] 44)) Try.prog 2 (plainElem (H := Unit) Try.prog 3)
  obtain ⟨X, hX⟩ : ∃ X, X = (w.alloc (.cells #[] 44)).alloc (.map #[] 0) := ⟨_, rfl⟩
  obtain ⟨Mb, hMb⟩ : ∃ M, M = (w.alloc (.cells #[] 44)).heap.size := ⟨_, rfl⟩
  obtain ⟨g0, hg0⟩ : ∃ g, g = w.heap.size := ⟨_, rfl⟩
  have hMg : Mb = g0 + 1 := by rw [hMb, hg0]; simp
  have hwg : w.heap.size ≤ g0 := by omega
  have O0 : Hid (X.ownsRow w.heap.size 44 2 (.slice (some ⟨g0, 0, none⟩) (acO us vs 0).length 0) (acO us vs 0).length (cellsR (acO us vs 0))) := by rw [hX, hg0]; exact own_below o1 h2
  have M0 : Hid (∃ D, X.ownsMap Try.prog 2 (plainElem Try.prog 3) Mb (acO us vs 0).length D ∧ MR D ((acO us vs 0).map (·.1))) := ⟨_, by rw [hX, hMb]; exact m1, MR.nil⟩
  have B0 : Hid (Below w.heap.size w X) := by rw [hX]; exact h1.trans (h2.mono h1.size)
  have hwM : w.heap.size ≤ Mb := by omega
  have hmm := @run_makeMap Try.prog
  clear ha5 hb5 hPa hPb hLa hLb h1 o1 h2 m1
  go_enter Try.func20, Try.ntmps20
  go_wp2_with fail
  rw [← hX, ← hg0, ← hMg]
  have hg0M : g0 ≠ Mb := by omega
  clear hX hMb hg0 hmm hMg
  obtain ⟨S, hS⟩ : ∃ S, S = acO us vs := ⟨_, rfl⟩
  have HS := hidP hS
  rw [← hS] at O0 M0 HFIN HFU HFL
  have HS0 : Hid (S 0 = []) := by show _ = _; rw [hS]; rfl
  have HSS : Hid (∀ i, S (i + 1) = acI us vs i (S i) Lb) := by intro i; rw [hS, HLB.out]; rfl
  rw [← hS] at HRI HRR
  clear hS
  go_loopw [5, 18] (fun t i wr => ∃ (g c k : Nat), k ≤ La ∧ i = .int .i64 k ∧ t = .slice (some ⟨g, 0, none⟩) (S k).length c ∧ g ≠ Mb ∧ Hid (wr.ownsRow w.heap.size 44 2 (.slice (some ⟨g, 0, none⟩) (S k).length c) (S k).length (cellsR (S k))) ∧ Hid (∃ D, wr.ownsMap Try.prog 2 (plainElem Try.prog 3) Mb (S k).length D ∧ MR D ((S k).map (·.1))) ∧ Hid (Below w.heap.size w wr)) (fun _ i _ => La - (intOf i).toNat)
  case atStart => exact ⟨g0, 0, 0, Nat.zero_le _, rfl, by rw [HS0.out]; rfl, hg0M, O0.out, M0.out, B0.out⟩
  case round =>
    clear O0 M0 B0
    obtain ⟨g, c, i, hi', rfl, rfl, hgM, hO, hM, hB⟩ := hrel
    by_cases hlt : i < La
    · obtain ⟨Rr, hR⟩ : ∃ R, R = acI us vs i (S i) := ⟨_, rfl⟩
      have HR0 : Hid (Rr 0 = S i) := by show _ = _; rw [hR]; rfl
      have HRS : Hid (∀ k, Rr (k + 1) = accP (Rr k) (sumP us vs i k)) := by intro k; rw [hR]; rfl
      have HRE : Hid (S (i + 1) = Rr Lb) := by show _ = _; rw [HSS.out, hR]
      have HRB : Hid (∀ k, k ≤ Lb → bndP 2000000000000000 (Rr k) ∧ (Rr k).length ≤ 1700) := by intro k hk; rw [hR]; exact HRI.out i k hlt hk
      have HRU : Hid (∀ k, unlike (Rr k)) := by intro k; rw [hR]; exact HRR.out i k
      obtain ⟨ba, oa, rfl, a1, a2⟩ := HA5.out i hlt
      have HAX := HPA.out i hlt
      obtain ⟨p, hp⟩ : ∃ p, p = fr us i := ⟨_, rfl⟩
      have HQP := hidP hp
      rw [← hp] at a1 a2
      obtain ⟨x1, y1⟩ := p
      dsimp only at a1 a2
      replace a1 := cell_keep hB.out a1
      replace a2 := cell_keep hB.out a2
      have HAP := hidP HAX
      go_upto_region 6 with fail
      have hb := bI wr (.cells #[.int .i64 x1, .int .i64 y1] 44)
      obtain ⟨P1, hP1⟩ : ∃ P, P = wr.heap.size := ⟨_, rfl⟩
      obtain ⟨X1, hX1⟩ : ∃ X, X = wr.alloc (.cells #[.int .i64 x1, .int .i64 y1] 44) := ⟨_, rfl⟩
      have KA : Hid (IsB X1 P1 #[.int .i64 x1, .int .i64 y1] 44) := by show IsB _ _ _ _; rw [hX1, hP1]; exact IsB.new _ _ _
      have hgP : g < P1 := by rw [hP1]; exact (hO.out.lt g rfl).2
      have hMP : Mb < P1 := by rw [hP1]; obtain ⟨D, h, _⟩ := hM.out; exact h.lt
      rw [← hX1] at hb
      rw [← hX1, ← hP1]
      have O1 := own_below hO.out hb
      have M1 : ∃ D, X1.ownsMap Try.prog 2 (plainElem Try.prog 3) Mb (S i).length D ∧ MR D ((S i).map (·.1)) := by
        obtain ⟨D, h, hr⟩ := hM.out
        exact ⟨D, by rw [hX1]; exact h.alloc _, hr⟩
      have B1 := hidP (hB.out.trans (hb.mono hB.out.size))
      rw [← HR0.out] at O1 M1 ⊢
      have OK := hidP O1
      have MK := hidP M1
      clear hp hR a1 a2 HAX hO hB hM O1 M1 hX1 hP1 hb
      go_wp2
      go_loopw [5, 24] (fun t i wr => ∃ (g c k : Nat), k ≤ Lb ∧ i = .int .i64 k ∧ t = .slice (some ⟨g, 0, none⟩) (Rr k).length c ∧ g ≠ Mb ∧ g ≠ P1 ∧ Hid (wr.ownsRow w.heap.size 44 2 (.slice (some ⟨g, 0, none⟩) (Rr k).length c) (Rr k).length (cellsR (Rr k))) ∧ Hid (∃ D, wr.ownsMap Try.prog 2 (plainElem Try.prog 3) Mb (Rr k).length D ∧ MR D ((Rr k).map (·.1))) ∧ Hid (IsB wr P1 #[.int .i64 x1, .int .i64 y1] 44) ∧ Hid (Below w.heap.size w wr)) (fun _ i _ => Lb - (intOf i).toNat)
      case atStart => exact ⟨g, c, 0, Nat.zero_le _, rfl, rfl, hgM, by omega, OK.out, MK.out, KA.out, B1.out⟩
      case round =>
        clear OK MK KA B1 hgM hgP
        obtain ⟨g, c, k, hk, rfl, rfl, hgM, hgP, hO, hM, hK, hB⟩ := hrel
        by_cases hlk : k < Lb
        · obtain ⟨bb, ob, rfl, d1, d2⟩ := HB5.out k hlk
          replace d1 := cell_keep hB.out d1
          replace d2 := cell_keep hB.out d2
          obtain ⟨ax1, ⟨ay0, ay1⟩, -⟩ := HAP.out
          obtain ⟨bx1, ⟨by0, by1⟩, -⟩ := HPB.out k hlk
          rw [← HQP.out] at ax1 ay0 ay1
          obtain ⟨p, hp⟩ : ∃ p, p = fr vs k := ⟨_, rfl⟩
          have HQV := hidP hp
          rw [← hp] at d1 d2 bx1 by0 by1
          obtain ⟨x2, y2⟩ := p
          dsimp only at ax1 ay0 ay1 d1 d2 bx1 by0 by1
          obtain ⟨T, hT⟩ : ∃ z, z = x1 + x2 := ⟨_, rfl⟩
          have hT' : x1 + x2 = T := hT.symm
          have hT0 : -2000 ≤ T ∧ T ≤ 2000 := by omega
          have hy := mul_inI ay0 ay1 by0 by1
          obtain ⟨P, hP⟩ : ∃ z, z = y1 * y2 := ⟨_, rfl⟩
          have hP' : y1 * y2 = P := hP.symm
          rw [hP'] at hy
          have HX : Hid (sumP us vs i k = (T, P)) := by show ((fr us i).1 + (fr vs k).1, (fr us i).2 * (fr vs k).2) = _; rw [← HQP.out, ← HQV.out, ← hT', ← hP']
          have HRK := hidP (HRS.out k)
          rw [HX.out] at HRK
          have hn := (HRB.out k hk).2
          have hbd := hidP (HRB.out k hk).1
          have hun := hidP (HRU.out k)
          obtain ⟨l, hl⟩ : ∃ l, l = Rr k := ⟨_, rfl⟩
          rw [← hl] at hO hM hn hbd hun HRK ⊢
          obtain ⟨n, hnn⟩ : ∃ n, n = l.length := ⟨_, rfl⟩
          have HN := hidP hnn.symm
          rw [← hnn] at hO hM hn ⊢
          clear hp hT hP hl hnn
          go_upto_region 9 with fail
          have hb := bI wr (.cells #[.int .i64 x2, .int .i64 y2] 44)
          obtain ⟨P2, hP2⟩ : ∃ P, P = wr.heap.size := ⟨_, rfl⟩
          obtain ⟨X2, hX2⟩ : ∃ X, X = wr.alloc (.cells #[.int .i64 x2, .int .i64 y2] 44) := ⟨_, rfl⟩
          have K2 : Hid (IsB X2 P2 #[.int .i64 x2, .int .i64 y2] 44) := by show IsB _ _ _ _; rw [hX2, hP2]; exact IsB.new _ _ _
          have hgP2 : g < P2 := by rw [hP2]; exact (hO.out.lt g rfl).2
          have hP12 : P1 < P2 := by rw [hP2]; exact hK.out.lt
          have hMP2 : Mb < P2 := by omega
          have hwP2 : w.heap.size ≤ P2 := by rw [hP2]; exact hB.out.size
          rw [← hX2] at hb
          rw [← hX2, ← hP2]
          replace hO := hidP (own_below hO.out hb)
          replace hK := hidP (hK.out.below hb)
          obtain ⟨D, hm0, hmr⟩ := hM.out
          have hm1 : X2.ownsMap Try.prog 2 (plainElem Try.prog 3) Mb n D := by rw [hX2]; exact hm0.alloc _
          have HM := hidP hm1
          have HMR := hidP hmr
          replace hB := hidP (hB.out.trans (hb.mono hB.out.size))
          clear hX2 hP2 hb d1 d2 hM hm0 hm1 hmr
          obtain ⟨k10, k11⟩ := hK.out.cc
          obtain ⟨k20, k21⟩ := K2.out.cc
          have hwf : (Lit.int .i64 T).wf = true := WalkArith.wf_i64 (by omega)
          have hkey : keyOf Try.prog 2 (.int .i64 T) = some (.int .i64 T) := keyOf_int_mk Try.underlying2 hwf
          have HKEY := hidP hkey
          clear hkey hwf
          by_cases hin : T ∈ l.map (·.1)
          · obtain ⟨j, hj, hjT⟩ := mem_key hin
            have HJT := hidP hjT
            have hhas : Maps.has D (.int .i64 T) = true := by rw [HMR.out.2.1]; exact decide_eq_true hin
            have HAT := hidP (HMR.out.2.2 j T (key_at hj hjT))
            rw [HN.out] at hj
            clear hjT hin
            go_upto_region 11 with (at_lookup; refine wpList_lookup_own_ok_int _ rfl _ _ 59 rfl 2 3 .i64 lawI Try.underlying59 Try.underlying3 (zeroI _) Mb n D rfl HM.out _ _ rfl HKEY.out ?_; intro cc hat hwc; obtain rfl : cc = (j : Int) := (by have := HAT.out.symm.trans hat; injection this with h1; injection h1 with _ h2; exact h2.symm); rw [hhas]; clear hat hwc)
            go_upto_region 15 with fail
            have hb : Below X2.heap.size X2 X2.drew := (Below.refl _ _).drew
            replace hO := hidP (own_below hO.out hb)
            replace hB := hidP (hB.out.trans (hb.mono hB.out.size))
            have K1d := hidP (hK.out.below hb)
            have HMd := hidP HM.out.drew
            clear hb
            obtain ⟨e1, e2⟩ := own_Q hO.out HN.out j hj
            obtain ⟨u, hu⟩ : ∃ u, u = fr l j := ⟨_, rfl⟩
            have HU := hidP hu
            have hbt := hbd.out (fr l j) (fr_mem (by rw [HN.out]; exact hj))
            rw [show l[j]?.getD (0, 0) = u from hu.symm] at e1 e2
            rw [← hu] at hbt
            obtain ⟨ux, uw⟩ := u
            dsimp only at e1 e2 hbt
            have f0 := hO.out.frozenAt (j * 2 + 1)
            obtain ⟨V, hV⟩ : ∃ z, z = uw + P := ⟨_, rfl⟩
            have hV' : uw + P = V := hV.symm
            have hV1 : 0 ≤ V ∧ V ≤ 3000000000000000 := by omega
            have O9 := own_putB hO.out HN.out j hj V
            have hgx := (hO.out.stored (j * 2 + 1) (.int .i64 V)).2
            have hgw := (hO.out.lt g rfl).1
            have hHIT : Hid (Rr (k + 1) = l.set j ((fr l j).1, V)) := by
              show _ = _
              rw [HRK.out, accP_on (k := j) hun.out (by rw [HN.out]; exact hj) HJT.out, ← HU.out]
              show l.set j (ux, uw + P) = _
              rw [hV']
            have HL9 : Hid ((Rr (k + 1)).length = n) := by show _ = _; rw [hHIT.out, List.length_set, HN.out]
            have HK9 : Hid ((Rr (k + 1)).map (·.1) = l.map (·.1)) := by show _ = _; rw [hHIT.out]; exact keys_set (by rw [HN.out]; exact hj)
            have B9 := hidP (hB.out.grown hgx hB.out.size (fun j e => by cases e; exact hgw))
            have K9 := hidP (K1d.out.grownJ hgx (by show some g ≠ some P1; simp; omega))
            have M9 := hidP (HMd.out.kept hgx (by show some Mb ≠ some g; simp; omega))
            have OH2 : Hid ((X2.drew.setCell ⟨g, j * 2 + 1, none⟩ (.int .i64 V)).ownsRow w.heap.size 44 2 (.slice (some ⟨g, 0, none⟩) (Rr (k + 1)).length c) (Rr (k + 1)).length (cellsR (Rr (k + 1)))) := by
              show World.ownsRow _ _ _ _ _ _ _
              rw [HL9.out, hHIT.out]; exact O9
            have MH2 : Hid (∃ D, (X2.drew.setCell ⟨g, j * 2 + 1, none⟩ (.int .i64 V)).ownsMap Try.prog 2 (plainElem Try.prog 3) Mb (Rr (k + 1)).length D ∧ MR D ((Rr (k + 1)).map (·.1))) := ⟨D, by rw [HL9.out]; exact M9.out, by rw [HK9.out]; exact HMR.out⟩
            clear O9 hgx hV hu hhas HAT M9 HMd K1d
            go_region
            all_goals go_wp2
            all_goals go_roundw
            all_goals first | exact ⟨g, c, k + 1, by omega, by go_num, by rw [HL9.out], hgM, hgP, OH2.out, MH2.out, K9.out, B9.out⟩ | (simp [intOf]; omega)
          · have hhas : Maps.has D (.int .i64 T) = false := by rw [HMR.out.2.1]; exact decide_eq_false hin
            go_upto_region 11 with (at_lookup; refine wpList_lookup_own_ok_int _ rfl _ _ 59 rfl 2 3 .i64 lawI Try.underlying59 Try.underlying3 (zeroI _) Mb n D rfl HM.out _ _ rfl HKEY.out ?_; intro cc hat hwc; rw [hhas]; clear hat hwc)
            go_upto_region 13 with fail
            have hkl : (l.map (·.1)).length = n := by rw [List.length_map]; exact HN.out
            have hmr2 := HMR.out.put hin
            rw [hkl] at hmr2
            have HMR2 := hidP hmr2
            clear hkl hmr2
            go_upto_region 14 with (at_mapUpdate; refine wpList_mapUpdate_own _ rfl _ _ _ 59 rfl 2 3 lawI Try.underlying59 _ Mb n D rfl HM.out (by unfold maxLen; omega) _ _ _ rfl rfl HKEY.out (.lit (.int .i64 n)) [] (plainElem_int Try.underlying3 (WalkArith.wf_i64 (by omega))) ?_; intro w3 hown3 hg3)
            have M3 := hidP hown3
            have O3 := hidP (hO.out.kept hg3 (.inr (by show some g ≠ some Mb; simp; omega)))
            have K13 := hidP (hK.out.grownJ hg3 (by show some Mb ≠ some P1; simp; omega))
            have K23 := hidP (K2.out.grownJ hg3 (by show some Mb ≠ some P2; simp; omega))
            have B3 := hidP (hB.out.grown hg3 hB.out.size (fun j e => by cases e; exact hwM))
            have hsz3 := hg3.size
            have hP2z : P2 < X2.heap.size := K2.out.lt
            clear hown3 hg3 hO hK K2 hB HM k10 k11 k20 k21
            have hW4 := bI w3 (.cells #[.int .i64 T, .int .i64 0] 44)
            have O4 := hidP (own_below O3.out hW4)
            have C4 := hidP (cell_twoI w3 (.int .i64 T) (.int .i64 0) 44)
            have B4 := hidP (B3.out.trans (hW4.mono B3.out.size))
            have M4 := hidP (M3.out.alloc (.cells #[.int .i64 T, .int .i64 0] 44))
            have K14 := hidP (K13.out.below hW4)
            have K24 := hidP (K23.out.below hW4)
            have hsz4 := hW4.size
            clear O3 B3 M3 K13 K23 hW4
            go_upto_region 15 with (at_builtin; refine wpList_append_own_at _ rfl _ _ 24 rfl w.heap.size 44 i0 (.agg #[.int .i64 0, .int .i64 0]) 2 16 Try.underlying24 hi hz0 hz1 hz2 rfl (by decide) _ n _ rfl O4.out ⟨w3.heap.size, 0, none⟩ 1 1 [.int .i64 T, .int .i64 0] rfl rfl C4.out (by intro u hu; simp at hu; rcases hu with rfl | rfl <;> rfl) (by unfold maxLen; omega) (by omega) B4.out.size ?_; intro v5 w5 hown5 hg5 hnil5 hloc5)
            obtain ⟨g5, c5, rfl⟩ := own_some hown5 (by omega)
            have hO5 : w5.ownsRow w.heap.size 44 2 (.slice (some ⟨g5, 0, none⟩) (n + 1) c5) (n + 1) (cellsR (l ++ [(T, 0)])) := by rw [cellsR_append]; exact hown5
            have hgw := (O4.out.lt g rfl).1
            have K15 := hidP (K14.out.grownJ hg5 (by show some g ≠ some P1; simp; omega))
            have K25 := hidP (K24.out.grownJ hg5 (by show some g ≠ some P2; simp; omega))
            have M5 := hidP (M4.out.kept hg5 (by show some Mb ≠ some g; simp; omega))
            have B5 := hidP (B4.out.grown hg5 B4.out.size (fun j e => by cases e; exact hgw))
            have hg5x : g5 = g ∨ X2.heap.size ≤ g5 := by
              rcases hloc5 with e | e
              · have e' : some g5 = some g := e
                injection e' with e'; exact .inl e'
              · have e' : some g5 = some (w3.alloc (.cells #[.int .i64 T, .int .i64 0] 44)).heap.size := e
                injection e' with e'; exact .inr (by omega)
            clear hown5 hg5 hnil5 hloc5 O4 C4 B4 M4 K14 K24
            have hb : Below w5.heap.size w5 w5.drew := (Below.refl _ _).drew
            have O6 := hidP (own_below hO5 hb)
            have HL5 : Hid ((l ++ [(T, (0 : Int))]).length = n + 1) := by show _ = _; rw [List.length_append, HN.out]; rfl
            have B6 := hidP (B5.out.trans (hb.mono B5.out.size))
            have K1d := hidP (K15.out.below hb)
            have K2d := hidP (K25.out.below hb)
            have M6 := hidP M5.out.drew
            obtain ⟨k10, k11⟩ := K1d.out.cc
            obtain ⟨k20, k21⟩ := K2d.out.cc
            obtain ⟨e1, e2⟩ := own_Q O6.out HL5.out n (by omega)
            have hfl : fr (l ++ [(T, (0 : Int))]) n = (T, 0) := by rw [← HN.out]; exact fr_last l _
            rw [show (l ++ [(T, (0 : Int))])[n]?.getD (0, 0) = (T, 0) from hfl] at e1 e2
            dsimp only at e1 e2
            have f0 := O6.out.frozenAt (n * 2 + 1)
            have O9 := own_putB O6.out HL5.out n (by omega) P
            rw [hfl] at O9
            have hgx := (O6.out.stored (n * 2 + 1) (.int .i64 P)).2
            have hgw5 := (O6.out.lt g5 rfl).1
            have hHIT : Hid (Rr (k + 1) = l ++ [(T, P)]) := by
              show _ = _
              rw [HRK.out]
              exact accP_new fun p hp e => hin (by have e' : p.1 = T := e; rw [← e']; exact List.mem_map_of_mem hp)
            have hset : (l ++ [(T, (0 : Int))]).set n ((T, (0 : Int)).1, P) = l ++ [(T, P)] := by rw [← HN.out]; exact set_last l _ _
            rw [hset] at O9
            have HL9 : Hid ((Rr (k + 1)).length = n + 1) := by show _ = _; rw [hHIT.out, List.length_append, HN.out]; rfl
            have HK9 : Hid ((Rr (k + 1)).map (·.1) = l.map (·.1) ++ [T]) := by show _ = _; rw [hHIT.out, List.map_append]; rfl
            have B9 := hidP (B6.out.grown hgx B6.out.size (fun j e => by cases e; exact hgw5))
            have K9 := hidP (K1d.out.grownJ hgx (by show some g5 ≠ some P1; simp; omega))
            have M9 := hidP (M6.out.kept hgx (by show some Mb ≠ some g5; simp; omega))
            have OH2 : Hid ((w5.drew.setCell ⟨g5, n * 2 + 1, none⟩ (.int .i64 P)).ownsRow w.heap.size 44 2 (.slice (some ⟨g5, 0, none⟩) (Rr (k + 1)).length c5) (Rr (k + 1)).length (cellsR (Rr (k + 1)))) := by
              show World.ownsRow _ _ _ _ _ _ _
              rw [HL9.out, hHIT.out]; exact O9
            have MH2 : Hid (∃ D, (w5.drew.setCell ⟨g5, n * 2 + 1, none⟩ (.int .i64 P)).ownsMap Try.prog 2 (plainElem Try.prog 3) Mb (Rr (k + 1)).length D ∧ MR D ((Rr (k + 1)).map (·.1))) := ⟨_, by rw [HL9.out]; exact M9.out, by rw [HK9.out]; exact HMR2.out⟩
            have hgM5 : g5 ≠ Mb := by omega
            have hgP5 : g5 ≠ P1 := by omega
            clear O9 hgx hhas M9 M6 hO5 hset hfl hb hg5x
            go_region
            all_goals go_wp2
            all_goals go_roundw
            all_goals first | exact ⟨g5, c5, k + 1, by omega, by go_num, by rw [HL9.out], hgM5, hgP5, OH2.out, MH2.out, K9.out, B9.out⟩ | (simp [intOf]; omega)
        · obtain rfl : k = Lb := by omega
          have hO1 := hO.out
          have hM1 := hM.out
          rw [← HRE.out] at hO1 hM1 ⊢
          have hO2 := hidP hO1
          have hM2 := hidP hM1
          clear hO hO1 hM hM1
          go_wp2
          go_roundw
          case rel => exact ⟨g, c, i + 1, by omega, by go_num, rfl, hgM, hO2.out, hM2.out, hB.out⟩
          case measure => simp [intOf]; omega
    · obtain rfl : i = La := by omega
      have hfu := HFU.out
      have hfl := HFL.out
      have HSORT := hidP (sortP_any hO.out hfu (by omega))
      have hgw := (hO.out.lt g rfl).1
      go_wp2_with fail
      refine HSORT.out.mono ?_
      rintro e w9 ⟨rfl, qs, q1, q2, q3, q4⟩
      have HQ := hidP (HFIN.out qs q1 q2)
      have HLE := hidP q1.length_eq
      have O9 := hidP q3
      have B9 := hidP (hB.out.grown q4 hB.out.size (fun j e => by cases e; exact hgw))
      clear q1 q2 q3 q4 HSORT hfu
      go_wp2
      refine bodyPost_ret (v := .slice (some ⟨g, 0, none⟩) (S i).length c) (by simp [results, Try.results20, go_sem]) rfl ⟨g, c, ?_, ?_, B9.out⟩
      · rw [← HQ.out, HLE.out]
      · rw [← HQ.out, HLE.out]; exact O9.out
end Go.Proofs.Ytgboaeokbglgdaa
