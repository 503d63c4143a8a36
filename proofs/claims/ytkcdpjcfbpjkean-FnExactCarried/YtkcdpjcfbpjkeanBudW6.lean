/- The walk of the model's Carried. -/
import Derived.Test.YtkcdpjcfbpjkeanBudW5
import Derived.Deep.RegionLaw
namespace Go
open Go.RowKit
/-- append to a row of the call's own, as one step of a region that draws -/
theorem step_app_bud {P : Program} {ops : Array Oper} {o : Oper} {a : Act} {w : World} {K : Act → World → Prop} {Q : Exit → Act → World → Prop} {E : Prop}
    (hg : o.guard = none) (s x : Operand) (t : TypeId) (hop : o.op = Op.call { callee := Callee.builtin Builtin.append, args := #[s, x], argTypes := #[t, t] })
    (base : Nat) (e : TypeId) (i : TypeInfo) (z : Value) (size bytes : Nat) (ht : P.underlying t = some (.slice e)) (hi : P.info? e = some i) (hz : i.zero = some z)
    (hsize : i.size = size) (hby : i.bytes = bytes) (hzs : z.cells.size = size) (hsz : 0 < size)
    (v : Value) (n : Nat) (xs : List Value) (hs : a.eval s = v) (hown : w.ownsRow base e size v n xs)
    (ad : Addr) (m c : Nat) (news : List Value) (hx : a.eval x = .slice (some ad) m c) (hl : news.length = m * size) (hnews : ∀ j u, news[j]? = some u → w.cell? (ad.add j) = some u) (h1 : ∀ u ∈ news, u.oneCell' = true)
    (h63 : n + m ≤ maxLen) (hbytes : (n + m) * bytes ≤ 140737488355328) (hbase : base ≤ w.heap.size)
    (hK : ∀ v' w', w'.ownsRow base e size v' (n + m) (xs ++ news) → w.grownBy w' v.ownBlock → K (a.put o.dst v') w') :
    if Region.wanted o (yielded ops a.tmps) = true then Oper.wp P o a w K Q else E := by
  have hw : Region.wanted o (yielded ops a.tmps) = true := by simp [Region.wanted, hg]
  rw [if_pos hw]
  obtain ⟨v', w', hrun, h2, h3, _⟩ := run_append_own (P := P) (w := w) base t o.type e i z size bytes ht hi hz hsize hby hzs hsz v n xs hown ad m c news hl hnews h1 h63 hbytes hbase
  unfold Oper.wp
  simp [execOp, hop, resolve, invoke, builtin, hs, hx, hrun, Result.andThen]
  exact hK _ _ h2 h3
end Go
namespace Go.Proofs.Ytkcdpjcfbpjkean
open Go.RowKit Go.Proofs.Ytkcdpjcfbpjkean.RM

def carC (S rows : List (List Fr)) : Bool := tabB S 6 && covB rows && decide ((rw' S 0).length = rows.length)
def carO (S rows : List (List Fr)) : Bool := carC S rows && !(carV S rows S.length).2
def carA (S rows : List (List Fr)) : List (List Fr) := if carO S rows = true then (carV S rows S.length).1 else []
theorem carO_no {S rows : List (List Fr)} (h : carC S rows = false) : carO S rows = false := by unfold carO; rw [h]; rfl
theorem carA_no {S rows : List (List Fr)} (h : carO S rows = false) : carA S rows = [] := by unfold carA; rw [h]; rfl
theorem carA_yes {S rows : List (List Fr)} (h : carO S rows = true) : carA S rows = (carV S rows S.length).1 := by unfold carA; rw [if_pos h]

set_option maxRecDepth 100000 in
set_option maxHeartbeats 4000000 in
theorem sCarried_any (va vb : Value) (a b : List (List Fr)) (w : World) (ha : RdT w va a) (hb : RdT w vb b) :
    Calls Try.prog 28 #[va, vb] w fun e w' => ∃ v us, e = .returned (.tuple #[v, .bool (carO a b)]) ∧ Tab w' w.heap.size v us (carA a b) ∧ Below w.heap.size w w' := by
  obtain ⟨i0, hi, hz0, hz1, hz2⟩ := info_parts infoF
  obtain ⟨t0, hti, htz0, htz1, htz2⟩ := info_parts infoT
  have HA : Hid (RdT w va a) := ha
  have HB : Hid (RdT w vb b) := hb
  obtain ⟨qa, hqa⟩ : ∃ q, q = tabB a 6 := ⟨_, rfl⟩
  obtain ⟨qb, hqb⟩ : ∃ q, q = covB b := ⟨_, rfl⟩
  have HQA := hidW8 hqa
  have HQB := hidW8 hqb
  have CA : Hid (∀ W : World, Below w.heap.size w W → Calls Try.prog 51 #[va] W fun e w' => e = .returned (.bool qa) ∧ Below W.heap.size W w') := by
    intro W hW; rw [hqa]; exact sTab_any _ a W (ha.below hW)
  have CB : Hid (∀ W : World, Below w.heap.size w W → Calls Try.prog 10 #[vb] W fun e w' => e = .returned (.bool qb) ∧ Below W.heap.size W w') := by
    intro W hW; rw [hqb]; exact sCov_any _ b W (hb.below hW)
  obtain ⟨pa, ca, rfl, ha2, _, _, ha5⟩ := ha
  obtain ⟨pb, cb, rfl, hb2, _, _, hb5⟩ := hb
  have HA5 : Hid (∀ i, i < a.length → ∃ b off u, pa = some ⟨b, off, none⟩ ∧ w.cell? ⟨b, off + i, none⟩ = some u ∧ RdR w u (rw' a i)) := ha5
  unfold maxLen at ha2 hb2
  clear ha5 hb5 hqa hqb
  cases qa
  · have HO : Hid (carO a b = false) := carO_no (by unfold carC; rw [← HQA.out]; rfl)
    have HAN : Hid (carA a b = []) := carA_no HO.out
    go_enter Try.func28, Try.ntmps28
    go_wp2_with fail
    refine (CA.out _ (Below.refl _ _)).mono ?_
    rintro e w1 ⟨rfl, hb1⟩
    go_wp2
    refine bodyPost_ret (v := .tuple #[.slice (some ⟨w1.heap.size, 0, none⟩) 0 0, .bool false]) (by simp [results, Try.results28, go_sem]) rfl ⟨.slice (some ⟨w1.heap.size, 0, none⟩) 0 0, [], ret_tb HO.out.symm, ?_, hb1.alloc hb1.size _⟩
    rw [HAN.out]
    exact Tab.lit hb1.size
  cases qb
  · have HO : Hid (carO a b = false) := carO_no (by unfold carC; rw [← HQB.out]; simp)
    have HAN : Hid (carA a b = []) := carA_no HO.out
    go_enter Try.func28, Try.ntmps28
    go_wp2_with fail
    refine (CA.out _ (Below.refl _ _)).mono ?_
    rintro e w1 ⟨rfl, hb1⟩
    go_wp2_with fail
    refine (CB.out _ hb1).mono ?_
    rintro e w2 ⟨rfl, hb2'⟩
    have hbb := hb1.trans (hb2'.mono hb1.size)
    clear hb1 hb2'
    go_wp2
    refine bodyPost_ret (v := .tuple #[.slice (some ⟨w2.heap.size, 0, none⟩) 0 0, .bool false]) (by simp [results, Try.results28, go_sem]) rfl ⟨.slice (some ⟨w2.heap.size, 0, none⟩) 0 0, [], ret_tb HO.out.symm, ?_, hbb.alloc hbb.size _⟩
    rw [HAN.out]
    exact Tab.lit hbb.size
  obtain ⟨⟨ta1, ta2, ta3, ta4⟩, tar⟩ := tabB_out HQA.out.symm
  obtain ⟨tb1, tb2, -⟩ := covB_out HQB.out.symm
  obtain ⟨sb, so, ua, rfl, ca0, ⟨pa0, ca0', rfl, _, _, _, _⟩⟩ := HA5.out 0 (by omega)
  rw [Nat.add_zero] at ca0
  obtain ⟨L, hL⟩ : ∃ L, L = (rw' a 0).length := ⟨_, rfl⟩
  have HLA := hidW8 hL
  rw [← hL] at ca0 ta3 ta4
  have TAR : Hid (∀ k, k < a.length → (rw' a k).length = L) := fun k hk => by rw [(tar k hk).1, hL]
  have TBR : Hid (∀ k, k < b.length → (rw' b k).length = b.length) := fun k hk => (tb2 k hk).1
  have hlsb := World.block_lt_of_cell? w _ ca0
  dsimp only at hlsb
  clear hL tar tb2
  by_cases hne : L = b.length
  case neg =>
    have HO : Hid (carO a b = false) := carO_no (by unfold carC; rw [decide_eq_false (by rw [← HLA.out]; exact hne)]; simp)
    have HAN : Hid (carA a b = []) := carA_no HO.out
    have hne' : ¬ (L : Int) = b.length := by omega
    clear hne
    go_enter Try.func28, Try.ntmps28
    go_wp2_with fail
    refine (CA.out _ (Below.refl _ _)).mono ?_
    rintro e w1 ⟨rfl, hb1⟩
    go_wp2_with fail
    refine (CB.out _ hb1).mono ?_
    rintro e w2 ⟨rfl, hb2'⟩
    have hbb := hb1.trans (hb2'.mono hb1.size)
    have hc0 := cell_keep hbb ca0
    clear hb1 hb2'
    go_wp2
    refine bodyPost_ret (v := .tuple #[.slice (some ⟨w2.heap.size, 0, none⟩) 0 0, .bool false]) (by simp [results, Try.results28, go_sem]) rfl ⟨.slice (some ⟨w2.heap.size, 0, none⟩) 0 0, [], ret_tb HO.out.symm, ?_, hbb.alloc hbb.size _⟩
    rw [HAN.out]
    exact Tab.lit hbb.size
  have HC : Hid (carC a b = true) := by
    show _ = _
    unfold carC
    rw [← HQA.out, ← HQB.out, decide_eq_true (by rw [← HLA.out]; exact hne)]; rfl
  have hne' : (L : Int) = b.length := by omega
  have HNE := hidW8 hne
  obtain ⟨P, hP⟩ : ∃ P, P = carV a b := ⟨_, rfl⟩
  have HP := hidW8 hP
  have HPS : Hid (∀ k, P (k + 1) = ((P k).1 ++ [(crsV a b k (P k).2 a.length).1], (crsV a b k (P k).2 a.length).2)) := by intro k; rw [hP]; rfl
  have HP0 : Hid (P 0 = ([], false)) := by show _ = _; rw [hP]; rfl
  have HPL : Hid (∀ k, (P k).1.length = k) := by intro k; rw [hP]; exact carV_len _ _ _
  obtain ⟨N, hN⟩ : ∃ N, N = a.length := ⟨_, rfl⟩
  have HN := hidW8 hN
  rw [← hN] at ta1 ta2 ha2 HA5 TAR HPS CA ⊢
  clear hP hN
  go_enter Try.func28, Try.ntmps28
  go_wp2_with fail
  refine (CA.out _ (Below.refl _ _)).mono ?_
  rintro e w1 ⟨rfl, hb1⟩
  go_wp2_with fail
  refine (CB.out _ hb1).mono ?_
  rintro e w2 ⟨rfl, hb2'⟩
  have hbb := hb1.trans (hb2'.mono hb1.size)
  have hc0 := cell_keep hbb ca0
  have hs2 := hbb.size
  clear hb1 hb2' CA CB
  obtain ⟨K, hK⟩ : ∃ K, K = w2.heap.size := ⟨_, rfl⟩
  have hwK : w.heap.size ≤ K := by omega
  have b0 : ∀ {u : World} (o : Obj), Below u.heap.size u (u.alloc o) := fun o => (Below.refl _ _).alloc (Nat.le_refl _) o
  go_wp2
  obtain ⟨X, hX⟩ : ∃ X, X = (w2.alloc (.cells #[.bool false] 60)).alloc (.cells #[] 35) := ⟨_, rfl⟩
  have k0 : IsK X K (P 0).2 := by rw [HP0.out, hX, hK]; exact (IsK.new w2 false).below (b0 _)
  have o0 : Tab X (K + 1) (.slice (some ⟨K + 1, 0, none⟩) 0 0) [] (P 0).1 := by
    have := Tab.lit (W := w2.alloc (.cells #[.bool false] 60)) (base := K + 1) (by rw [hK]; simp)
    rw [HP0.out, hX]; simpa [hK] using this
  have B0 : Below w.heap.size w X := by rw [hX]; exact (hbb.alloc hs2 _).alloc (by simp; omega) _
  rw [← hX, ← hK]
  clear hX hK hs2 hbb hc0 hne ta3 ta4
  go_loopw [7, 8] (fun q i wr => ∃ (o : Value) (k : Nat) (us : List Value), k ≤ N ∧ i = .int .i64 k ∧ o = q ∧ us.length = k ∧ Hid (Tab wr (K + 1) o us (P k).1) ∧ Hid (IsK wr K (P k).2) ∧ Hid (Below w.heap.size w wr)) (fun _ i _ => N - (intOf i).toNat)
  case atStart => exact ⟨_, 0, [], Nat.zero_le _, rfl, rfl, rfl, o0, k0, B0⟩
  case round =>
    clear o0 k0 B0
    obtain ⟨o, k, us, hk, rfl, rfl, hus, hT, hKf, hB⟩ := hrel
    have hsz := hB.out.size
    by_cases hlt : k < N
    · have hdk : decide ((k : Int) < (N : Int)) = true := decide_eq_true (by omega)
      obtain ⟨sb', so', uk, e, C1, RK⟩ := HA5.out k hlt
      cases e
      have HRK := hidW8 RK
      obtain ⟨pk, ck, rfl, _, _, _, _⟩ := RK
      rw [TAR.out k hlt] at C1 HRK
      have HC1 := hidW8 C1
      obtain ⟨C, hC⟩ : ∃ C, C = crsV a b k (P k).2 := ⟨_, rfl⟩
      have HCS : Hid (∀ j, C (j + 1) = ((C j).1 ++ [(sumV (rw' a k) b (rw' a j) (C j).2 b.length).1], (sumV (rw' a k) b (rw' a j) (C j).2 b.length).2)) := by intro j; rw [hC]; rfl
      have HC0 : Hid (C 0 = ([], (P k).2)) := by show _ = _; rw [hC]; rfl
      have HCL : Hid (∀ j, (C j).1.length = j) := by intro j; rw [hC]; exact crsV_len _ _ _ _ _
      have HCE : Hid (crsV a b k (P k).2 N = C N) := by show _ = _; rw [hC]
      clear hC C1
      go_wp2
      obtain ⟨Sk, hSk⟩ : ∃ s, s = wr.heap.size := ⟨_, rfl⟩
      have hKS : K < Sk := by rw [hSk]; exact hKf.out.lt
      have HU : Hid (Under Sk o us) := by show Under _ _ _; rw [hSk]; exact hT.out.under
      have r0 : (wr.alloc (.cells #[] 32)).ownsRow Sk 32 2 (.slice (some ⟨Sk, 0, none⟩) 0 0) 0 (cellsR (C 0).1) := by
        rw [hSk, HC0.out]; exact litB wr _ (Nat.le_refl _)
      have T0 := hT.out.below (b0 (.cells #[] 32))
      have K0 : IsK (wr.alloc (.cells #[] 32)) K (C 0).2 := by rw [HC0.out]; exact hKf.out.below (b0 _)
      have B0 := hB.out.alloc hsz (.cells #[] 32)
      rw [← hSk]
      obtain ⟨X8, hX8⟩ : ∃ X, X = wr.alloc (.cells #[] 32) := ⟨_, rfl⟩
      rw [← hX8] at r0 T0 K0 B0 ⊢
      clear hX8 hSk hT hKf hB hsz
      go_loopw [9, 10] (fun q i wr => ∃ (r : Value) (j : Nat), j ≤ N ∧ i = .int .i64 j ∧ r = q ∧ Hid (wr.ownsRow Sk 32 2 r j (cellsR (C j).1)) ∧ Hid (Tab wr (K + 1) o us (P k).1) ∧ Hid (IsK wr K (C j).2) ∧ Hid (Below w.heap.size w wr) ∧ Sk ≤ wr.heap.size) (fun _ i _ => N - (intOf i).toNat)
      case atStart => exact ⟨_, 0, Nat.zero_le _, rfl, rfl, r0, T0, K0, B0, Nat.le_of_lt (World.ownsRow.lt r0 Sk rfl).2⟩
      case round =>
        clear r0 T0 K0 B0
        obtain ⟨o2, j, hj, rfl, rfl, hO, hT, hK, hB, hSkw⟩ := hrel
        by_cases hjl : j < N
        · have hdj : decide ((j : Int) < (N : Int)) = true := decide_eq_true (by omega)
          obtain ⟨sb', so', uj, e, C2, RJ⟩ := HA5.out j hjl
          cases e
          have HRJ := hidW8 RJ
          obtain ⟨pj, cj, rfl, _, _, _, _⟩ := RJ
          rw [TAR.out j hjl] at C2 HRJ
          have c1 := cell_keep hB.out HC1.out
          have c2 := cell_keep hB.out C2
          obtain ⟨⟨⟨s1, s2⟩, sbd⟩, hs⟩ : ∃ s, s = sumV (rw' a k) b (rw' a j) (C j).2 b.length := ⟨_, rfl⟩
          have HSE := hidW8 hs
          have HM : Hid (∀ W : World, Below w.heap.size w W → IsK W K (C j).2 → Calls Try.prog 38 #[.pointer (some ⟨K, 0, none⟩), .slice pk L ck, .slice pb b.length cb, .slice pj L cj] W fun e w' =>
              e = .returned (.agg #[.int .i64 s1, .int .i64 s2]) ∧ IsK w' K sbd ∧ W.grownBy w' (some K)) := by
            intro W hW hk
            have := sSum_any K (C j).2 _ _ _ (rw' a k) (rw' a j) b w W HRK.out HB.out HRJ.out (by rw [TAR.out k hlt]; exact HNE.out) (by rw [TAR.out j hjl]; exact HNE.out) TBR.out hW hwK hk
            rw [← hs] at this
            exact this
          clear hs C2
          go_upto_region 12 with fail
          refine wp_region_noPanic ?_
          refine wp_region_held_drew (S := (fun w' => w'.cell? ⟨sb, so + k, none⟩ = some (.slice pk L ck) ∧ w'.cell? ⟨sb, so + j, none⟩ = some (.slice pj L cj))) (by kernel_rfl) ?_ (fun hHeld => ?_)
          · (try dsimp only)
            refine ⟨?_, ?_⟩ <;> (repeat (with_reducible (first | exact c1 | exact c2 | refine cell_dr ?_ | refine cell_al _ ?_)))
          refine wpAnyH_take (i := 0) (v := ?_) rfl (by kernel_rfl) (by kernel_rfl) (by kernel_rfl) (fun _ _ _ h => h) (Or.inl ⟨by kernel_rfl, ?_⟩) hHeld ?_
          rotate_left
          · intro wz hSw; (try dsimp only at hSw); go_simp; all_goals (try with_reducible rfl)
          (try simp only [List.getElem_toArray]); (try simp only [List.getElem_cons_succ]); (try simp only [List.getElem_cons_zero]); (try simp only [Act.put]); (try simp only [List.setIfInBounds_toArray]); (try simp only [List.set_cons_succ]); (try simp only [List.set_cons_zero])
          refine wpAnyH_take (i := 1) (v := ?_) rfl (by kernel_rfl) (by kernel_rfl) (by kernel_rfl) (fun _ _ _ h => h) (Or.inl ⟨by kernel_rfl, ?_⟩) hHeld ?_
          rotate_left
          · intro wz hSw; (try dsimp only at hSw); go_simp; all_goals (try with_reducible rfl)
          (try simp only [List.getElem_toArray]); (try simp only [List.getElem_cons_succ]); (try simp only [List.getElem_cons_zero]); (try simp only [Act.put]); (try simp only [List.setIfInBounds_toArray]); (try simp only [List.set_cons_succ]); (try simp only [List.set_cons_zero])
          refine wpAnyH_take (i := 2) (v := ?_) rfl (by kernel_rfl) (by kernel_rfl) (by kernel_rfl) (fun _ _ _ h => h) (Or.inl ⟨by kernel_rfl, ?_⟩) hHeld ?_
          rotate_left
          · intro wz hSw; (try dsimp only at hSw); go_simp; all_goals (try with_reducible rfl)
          (try simp only [List.getElem_toArray]); (try simp only [List.getElem_cons_succ]); (try simp only [List.getElem_cons_zero]); (try simp only [Act.put]); (try simp only [List.setIfInBounds_toArray]); (try simp only [List.set_cons_succ]); (try simp only [List.set_cons_zero])
          refine wpAnyH_take (i := 3) (v := ?_) rfl (by kernel_rfl) (by kernel_rfl) (by kernel_rfl) (fun _ _ _ h => h) (Or.inl ⟨by kernel_rfl, ?_⟩) hHeld ?_
          rotate_left
          · intro wz hSw; (try dsimp only at hSw); go_simp; all_goals (try with_reducible rfl)
          (try simp only [List.getElem_toArray]); (try simp only [List.getElem_cons_succ]); (try simp only [List.getElem_cons_zero]); (try simp only [Act.put]); (try simp only [List.setIfInBounds_toArray]); (try simp only [List.set_cons_succ]); (try simp only [List.set_cons_zero])
          refine wpAnyH_take (i := 4) (v := ?_) rfl (by kernel_rfl) (by kernel_rfl) (by kernel_rfl) (fun _ _ _ h => h) (Or.inl ⟨by kernel_rfl, ?_⟩) hHeld ?_
          rotate_left
          · intro wz hSw; (try dsimp only at hSw); go_simp; all_goals (try with_reducible rfl)
          (try simp only [List.getElem_toArray]); (try simp only [List.getElem_cons_succ]); (try simp only [List.getElem_cons_zero]); (try simp only [Act.put]); (try simp only [List.setIfInBounds_toArray]); (try simp only [List.set_cons_succ]); (try simp only [List.set_cons_zero])
          refine wpAnyH_take (i := 5) (v := ?_) rfl (by kernel_rfl) (by kernel_rfl) (by kernel_rfl) (fun _ _ _ h => h) (Or.inl ⟨by kernel_rfl, ?_⟩) hHeld ?_
          rotate_left
          · intro wz hSw; (try dsimp only at hSw); go_simp; all_goals (try with_reducible rfl)
          (try simp only [List.getElem_toArray]); (try simp only [List.getElem_cons_succ]); (try simp only [List.getElem_cons_zero]); (try simp only [Act.put]); (try simp only [List.setIfInBounds_toArray]); (try simp only [List.set_cons_succ]); (try simp only [List.set_cons_zero])
          refine wpAnyH_take (i := 6) (v := ?_) rfl (by kernel_rfl) (by kernel_rfl) (by kernel_rfl) (fun _ _ _ h => h) (Or.inl ⟨by kernel_rfl, ?_⟩) hHeld ?_
          rotate_left
          · intro wz hSw; (try dsimp only at hSw); go_simp; all_goals (try with_reducible rfl)
          (try simp only [List.getElem_toArray]); (try simp only [List.getElem_cons_succ]); (try simp only [List.getElem_cons_zero]); (try simp only [Act.put]); (try simp only [List.setIfInBounds_toArray]); (try simp only [List.set_cons_succ]); (try simp only [List.set_cons_zero])
          refine wpAnyH_take (i := 7) (v := ?_) rfl (by kernel_rfl) (by kernel_rfl) (by kernel_rfl) (fun _ _ _ h => h) (Or.inl ⟨by kernel_rfl, ?_⟩) hHeld ?_
          rotate_left
          · intro wz hSw; (try dsimp only at hSw); go_simp; all_goals (try with_reducible rfl)
          (try simp only [List.getElem_toArray]); (try simp only [List.getElem_cons_succ]); (try simp only [List.getElem_cons_zero]); (try simp only [Act.put]); (try simp only [List.setIfInBounds_toArray]); (try simp only [List.set_cons_succ]); (try simp only [List.set_cons_zero])
          refine wpAnyH_take (i := 8) (v := ?_) rfl (by kernel_rfl) (by kernel_rfl) (by kernel_rfl) (fun _ _ _ h => h) (Or.inl ⟨by kernel_rfl, ?_⟩) hHeld ?_
          rotate_left
          · intro wz hSw; (try dsimp only at hSw); go_simp; all_goals (try with_reducible rfl)
          (try simp only [List.getElem_toArray]); (try simp only [List.getElem_cons_succ]); (try simp only [List.getElem_cons_zero]); (try simp only [Act.put]); (try simp only [List.setIfInBounds_toArray]); (try simp only [List.set_cons_succ]); (try simp only [List.set_cons_zero])
          refine wpAnyH_take (i := 9) (v := ?_) rfl (by kernel_rfl) (by kernel_rfl) (by kernel_rfl) (fun _ _ _ h => h) (Or.inl ⟨by kernel_rfl, ?_⟩) hHeld ?_
          rotate_left
          · intro wz hSw; (try dsimp only at hSw); go_simp; all_goals (try with_reducible rfl)
          (try simp only [List.getElem_toArray]); (try simp only [List.getElem_cons_succ]); (try simp only [List.getElem_cons_zero]); (try simp only [Act.put]); (try simp only [List.setIfInBounds_toArray]); (try simp only [List.set_cons_succ]); (try simp only [List.set_cons_zero])
          refine wpAnyH_take (i := 10) (v := ?_) rfl (by kernel_rfl) (by kernel_rfl) (by kernel_rfl) (fun _ _ _ h => h) (Or.inl ⟨by kernel_rfl, ?_⟩) hHeld ?_
          rotate_left
          · intro wz hSw; (try dsimp only at hSw); go_simp; all_goals (try with_reducible rfl)
          (try simp only [List.getElem_toArray]); (try simp only [List.getElem_cons_succ]); (try simp only [List.getElem_cons_zero]); (try simp only [Act.put]); (try simp only [List.setIfInBounds_toArray]); (try simp only [List.set_cons_succ]); (try simp only [List.set_cons_zero])
          refine wpAnyH_ready (rs := [11]) (by kernel_rfl) (by simp) (AllReadyH.cons rfl (fun Kc hKc => ?_) AllReadyH.nil)
          go_simp
          (go_at_call 38; refine (HM.out _ hB.out.drew (IsK.below (by exact hK.out) ((Below.refl _ _).drew))).mono ?_; rintro e w2 ⟨rfl, k2, g2⟩)
          have c1 := cell_g g2 c1 (by omega)
          have c2 := cell_g g2 c2 (by omega)
          have T2 := (Tab.below (by exact hT.out) ((Below.refl _ _).drew)).g g2 (by omega)
          have O2 := own_g g2 (own_below (by exact hO.out) ((Below.refl _ _).drew)) (by omega)
          have B2 : Below w.heap.size w w2 := (hB.out.drew).trans (below_grownK g2 hwK (by have := hB.out.size; first | (simp; omega) | omega))
          have hs2 := g2.size
          simp at hs2
          clear g2
          go_wp2_with fail
          refine hKc.out _ _ ?_ (fun hHeld => ?_)
          · (try dsimp only)
            refine ⟨?_, ?_⟩ <;> (repeat (with_reducible (first | exact c1 | exact c2 | refine cell_dr ?_ | refine cell_al _ ?_)))
          clear hKc Kc
          (try simp only [List.getElem_toArray]); (try simp only [List.getElem_cons_succ]); (try simp only [List.getElem_cons_zero]); (try simp only [Act.put]); (try simp only [List.setIfInBounds_toArray]); (try simp only [List.set_cons_succ]); (try simp only [List.set_cons_zero])
          refine wpAnyH_ready (rs := [12]) (by kernel_rfl) (by simp) (AllReadyH.cons rfl (fun Kc hKc => ?_) AllReadyH.nil)
          go_simp
          refine hKc.out _ _ ?_ (fun hHeld => ?_)
          · (try dsimp only)
            refine ⟨?_, ?_⟩ <;> (repeat (with_reducible (first | exact c1 | exact c2 | refine cell_dr ?_ | refine cell_al _ ?_)))
          clear hKc Kc
          (try simp only [List.getElem_toArray]); (try simp only [List.getElem_cons_succ]); (try simp only [List.getElem_cons_zero]); (try simp only [Act.put]); (try simp only [List.setIfInBounds_toArray]); (try simp only [List.set_cons_succ]); (try simp only [List.set_cons_zero])
          refine wpAnyH_ready (rs := [13]) (by kernel_rfl) (by simp) (AllReadyH.cons rfl (fun Kc hKc => ?_) AllReadyH.nil)
          have hjm : j + 1 ≤ maxLen := by unfold maxLen; omega
          refine step_app_bud rfl (.tmp 45) (.tmp 57) 35 rfl Sk 32 i0 (.agg #[.int .i64 0, .int .i64 0]) 2 16 Try.underlying35 hi hz0 hz1 hz2 rfl (by decide) o2 j _ (by simp [Act.eval]) (O2.alloc (.cells #[.int .i64 s1, .int .i64 s2] 32)) ⟨w2.heap.size, 0, none⟩ 1 1 [.int .i64 s1, .int .i64 s2] (by simp [Act.eval]) rfl (cell_twoF _ _ _ _) (by intro u hu; simp at hu; rcases hu with rfl | rfl <;> rfl) hjm (by omega) (by simp; omega) ?_
          intro v' w5 hown' hgrow
          have hbl : ∀ b', o2.ownBlock = some b' → Sk ≤ b' := fun b' e => (World.ownsRow.lt O2 b' e).1
          have c1 := (g_cell hgrow (b := sb) (so + k) (by simp; omega) (fun e => by have := hbl sb e.symm; omega)).trans (cell_al _ c1)
          have c2 := (g_cell hgrow (b := sb) (so + j) (by simp; omega) (fun e => by have := hbl sb e.symm; omega)).trans (cell_al _ c2)
          refine hKc.out _ _ ?_ (fun hHeld => ?_)
          · (try dsimp only)
            refine ⟨?_, ?_⟩ <;> (repeat (with_reducible (first | exact c1 | exact c2 | refine cell_dr ?_ | refine cell_al _ ?_)))
          clear hKc Kc
          (try simp only [List.getElem_toArray]); (try simp only [List.getElem_cons_succ]); (try simp only [List.getElem_cons_zero]); (try simp only [Act.put]); (try simp only [List.setIfInBounds_toArray]); (try simp only [List.set_cons_succ]); (try simp only [List.set_cons_zero])
          refine wpAnyH_take (i := 14) (v := ?_) rfl (by kernel_rfl) (by kernel_rfl) (by kernel_rfl) (fun _ _ _ h => h) (Or.inl ⟨by kernel_rfl, ?_⟩) hHeld ?_
          rotate_left
          · intro wz hSw; (try dsimp only at hSw); go_simp; all_goals (try with_reducible rfl)
          (try simp only [List.getElem_toArray]); (try simp only [List.getElem_cons_succ]); (try simp only [List.getElem_cons_zero]); (try simp only [Act.put]); (try simp only [List.setIfInBounds_toArray]); (try simp only [List.set_cons_succ]); (try simp only [List.set_cons_zero])
          refine wpAnyH_done (by kernel_rfl) ?_ _
          refine NoPanic.normal ?_
          go_wp2
          go_roundw
          case rel =>
            have T5 := (T2.below (b0 (.cells #[.int .i64 s1, .int .i64 s2] 32))).kept hgrow (fun q e h2 => by have := hbl q e; have := HU.out.1 q h2; omega) (fun i hi q e h2 => by have := hbl q e; have := HU.out.2 i hi q h2; omega)
            have K5 := (k2.below (b0 (.cells #[.int .i64 s1, .int .i64 s2] 32))).grownO hgrow (fun e => by have := hbl K e; omega)
            refine ⟨v', j + 1, by omega, by go_num, rfl, ?_, T5, ?_, B2.trans ((below_appended O2 (by omega) hgrow).mono (by omega)), by have := hgrow.size; simp at this; omega⟩
            · show World.ownsRow _ _ _ _ _ _ _
              rw [HCS.out, cellsR_append, ← HSE.out]
              exact hown'
            · show IsK _ _ _
              rw [HCS.out, ← HSE.out]
              exact K5
          case measure => simp [intOf]; omega
        · have e : j = N := by omega
          subst e
          obtain ⟨pr', cr', rfl⟩ := own_shape hO.out
          have hjm : us.length + 1 ≤ maxLen := by unfold maxLen; omega
          have hKs1 : K + 1 ≤ wr.heap.size := hK.out.lt
          go_wp2_with (at_builtin; refine wpList_append_own _ rfl _ _ 25 rfl (K + 1) 35 t0 (.slice none 0 0) 1 24 Try.underlying25 hti htz0 htz1 htz2 rfl (by decide) _ _ _ rfl (hT.out.outer.alloc _) ⟨wr.heap.size, 0, none⟩ 1 1 [.slice pr' j cr'] rfl rfl (cell_one_new _ _ _) (by simp [Value.oneCell']) (by omega) (by omega) (by simp; omega) ?_; intro v' w5 hown' hgrow _)
          go_roundw
          case rel =>
            have hle : (C j).1.length = j := HCL.out j
            have T5 := hT.out.append (ps := (C j).1) (u := .slice pr' j cr') (own_le (by rw [hle]; exact hO.out) (by omega)) (fun i hi b' e h2 => by
              have h1 := HU.out.2 i hi b' e
              have h3 := (World.ownsRow.lt hO.out b' h2).1
              omega) hown' hgrow
            have K5 := (hK.out.below (b0 (.cells #[.slice pr' j cr'] 35))).grownO hgrow (fun e => by have := (hT.out.outer.lt K e).1; omega)
            refine ⟨v', k + 1, us ++ [.slice pr' j cr'], by omega, by go_num, rfl, by simp [hus], ?_, ?_, hB.out.trans ((below_appended hT.out.outer hKs1 hgrow).mono (by omega))⟩
            · show Tab _ _ _ _ _
              rw [HPS.out, HCE.out]
              exact T5
            · show IsK _ _ _
              rw [HPS.out, HCE.out]
              exact K5
          case measure => simp [intOf]; omega
    · have e : k = N := by omega
      subst e
      obtain ⟨f, hf⟩ : ∃ f, f = (P k).2 := ⟨_, rfl⟩
      have HF := hidW8 hf
      rw [← hf] at hKf
      have hkc := hKf.out.cell
      clear hf
      cases f
      · have HO : Hid (carO a b = true) := by show _ = _; unfold carO; rw [HC.out, ← HP.out, ← HN.out, ← HF.out]; rfl
        have HAN : Hid (carA a b = (P k).1) := by show _ = _; rw [carA_yes HO.out, ← HP.out, ← HN.out]
        go_wp2
        refine bodyPost_ret (v := .tuple #[o, .bool true]) (by simp [results, Try.results28, go_sem]) rfl ⟨o, us, ret_tb HO.out.symm, ?_, hB.out⟩
        rw [HAN.out]
        exact hT.out.le (by omega)
      · have HO : Hid (carO a b = false) := by show _ = _; unfold carO; rw [HC.out, ← HP.out, ← HN.out, ← HF.out]; rfl
        have HAN : Hid (carA a b = []) := carA_no HO.out
        go_wp2
        refine bodyPost_ret (v := .tuple #[.slice (some ⟨wr.heap.size, 0, none⟩) 0 0, .bool false]) (by simp [results, Try.results28, go_sem]) rfl ⟨.slice (some ⟨wr.heap.size, 0, none⟩) 0 0, [], ret_tb HO.out.symm, ?_, hB.out.alloc hsz _⟩
        rw [HAN.out]
        exact Tab.lit hsz
end Go.Proofs.Ytkcdpjcfbpjkean
