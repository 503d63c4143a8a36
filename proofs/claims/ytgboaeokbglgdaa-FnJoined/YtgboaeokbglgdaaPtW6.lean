/- The walk of the model's Joined. -/
import Derived.Test.YtgboaeokbglgdaaJoinW0
import Derived.Deep.RegionHeld3
import Derived.BigQuiet
import Derived.Maps.AppendAt
import Derived.OwnWalk
namespace Go.Proofs.Ytgboaeokbglgdaa
open Go.RowKit Go.Proofs.Ytgboaeokbglgdaa.RM

theorem ret_qb {v : Value} {o o' : Bool} (h : o = o') : Ending.returned (.tuple #[v, .bool o]) = .returned (.tuple #[v, .bool o']) := by rw [h]
theorem own_none (W : World) (base : Nat) (h : base ≤ W.heap.size) : (W.alloc (.cells #[] 44)).ownsRow base 44 2 (.slice (some ⟨W.heap.size, 0, none⟩) 0 0) ([] : List Fr).length (cellsR []) := ⟨rfl, .inr ⟨W.heap.size, 0, #[], rfl, h, World.alloc_heap_new W _, Nat.le_refl _, Nat.zero_le _, rfl, rfl⟩⟩
theorem bJ (u : World) (o : Obj) : Below u.heap.size u (u.alloc o) := (Below.refl _ _).alloc (Nat.le_refl _) o

theorem mul_inJ {y1 y2 : Int} (a0 : 1 ≤ y1) (a1 : y1 ≤ 1000000) (b0 : 1 ≤ y2) (b1 : y2 ≤ 1000000) : 1 ≤ y1 * y2 ∧ y1 * y2 ≤ 1000000000000 := by
  have h1 := Int.mul_le_mul a0 b0 (by omega) (by omega)
  have h2 := Int.mul_le_mul a1 b1 (by omega) (by omega)
  omega
theorem cell_twoJ (w : World) (a b : Value) (t : TypeId) : ∀ j u, [a, b][j]? = some u → (w.alloc (.cells #[a, b] t)).cell? ((⟨w.heap.size, 0, none⟩ : Addr).add j) = some u := by
  intro j u h
  match j, h with
  | 0, h => simp at h; subst h; simp [go_sem, Addr.add]
  | 1, h => simp at h; subst h; simp [go_sem, Addr.add]
theorem setsG (W : World) (A : Nat) (u v : Value) : W.grownBy ((W.setCell ⟨A, 0, none⟩ u).setCell ⟨A, 1, none⟩ v) (some A) := by
  refine ⟨rfl, rfl, rfl, by simp, fun k hk hne => ?_⟩
  have hne' : k ≠ A := fun e => hne (by rw [e])
  exact (Below.heap_setCell _ ⟨A, 1, none⟩ v k hne').trans (Below.heap_setCell W ⟨A, 0, none⟩ u k hne')

set_option maxRecDepth 100000 in
set_option maxHeartbeats 16000000 in
theorem sJoined_any (va vb : Value) (us vs : List Fr) (w : World) (ha : RdR w va us) (hb : RdR w vb vs) :
    Calls Try.prog 9 #[va, vb] w fun e w' => ∃ v, e = .returned (.tuple #[v, .bool (joiO us vs)]) ∧ w'.ownsRow w.heap.size 44 2 v (joiA us vs).length (cellsR (joiA us vs)) ∧ Below w.heap.size w w' := by
  obtain ⟨i0, hi, hz0, hz1, hz2⟩ := info_parts infoQ
  have CSP := hidP (fun (v : Value) (ps : List Fr) (W : World) (h : RdR W v ps) => sSpr_any v ps W h)
  have RA := hidP ha
  have RB := hidP hb
  obtain ⟨pa, ca, rfl, ha2, ha3, ha4, ha5⟩ := ha
  obtain ⟨pb, cb, rfl, hb2, hb3, hb4, hb5⟩ := hb
  have HA5 : Hid (∀ j, j < us.length → ∃ b off, pa = some ⟨b, off, none⟩ ∧ w.cell? ⟨b, off + j * 2, none⟩ = some (.int .i64 (fr us j).1) ∧ w.cell? ⟨b, off + j * 2 + 1, none⟩ = some (.int .i64 (fr us j).2)) := ha5
  have HB5 : Hid (∀ j, j < vs.length → ∃ b off, pb = some ⟨b, off, none⟩ ∧ w.cell? ⟨b, off + j * 2, none⟩ = some (.int .i64 (fr vs j).1) ∧ w.cell? ⟨b, off + j * 2 + 1, none⟩ = some (.int .i64 (fr vs j).2)) := hb5
  obtain ⟨qa, hqa⟩ : ∃ q, q = sprB us := ⟨_, rfl⟩
  obtain ⟨qb, hqb⟩ : ∃ q, q = sprB vs := ⟨_, rfl⟩
  obtain ⟨qj, hqj⟩ : ∃ q, q = sprB (jnO us vs us.length) := ⟨_, rfl⟩
  have HQA := hidP hqa
  have HQB := hidP hqb
  have HQJ := hidP hqj
  have HJO : Hid (joiO us vs = (qa && (qb && qj))) := by show _ = _; rw [hqa, hqb, hqj]; rfl
  have CA := hidP (fun (W : World) (h : Below w.heap.size w W) => CSP.out _ us W (RA.out.below h))
  have CB := hidP (fun (W : World) (h : Below w.heap.size w W) => CSP.out _ vs W (RB.out.below h))
  rw [← hqa] at CA
  rw [← hqb] at CB
  obtain ⟨La, hLa⟩ : ∃ L, L = us.length := ⟨_, rfl⟩
  obtain ⟨Lb, hLb⟩ : ∃ L, L = vs.length := ⟨_, rfl⟩
  have HLA := hidP hLa
  have HLB := hidP hLb
  rw [← hLa] at ha2 HA5 CA ⊢
  rw [← hLb] at hb2 HB5 CB ⊢
  clear ha3 ha4 ha5 hb3 hb4 hb5 hqa hqb hqj hLa hLb RA RB
  go_enter Try.func9, Try.ntmps9
  go_wp2_with fail
  refine (CA.out _ (Below.refl _ _)).mono ?_
  rintro e w1 ⟨rfl, h1⟩
  have B1 := hidP h1
  clear h1 CA
  cases qa
  · have HZ : True := trivial
    have HF : Hid (joiO us vs = false) := by show _ = _; rw [HJO.out]; simp
    have HN := hidP (joiA_no HF.out)
    go_wp2
    refine bodyPost_ret (v := .tuple #[.slice (some ⟨w1.heap.size, 0, none⟩) 0 0, .bool false]) (by simp [results, Try.results9, go_sem]) rfl ⟨.slice (some ⟨w1.heap.size, 0, none⟩) 0 0, ret_qb HF.out.symm, ?_, B1.out.alloc B1.out.size _⟩
    rw [HN.out]
    exact own_none _ _ B1.out.size
  go_wp2_with fail
  refine (CB.out _ B1.out).mono ?_
  rintro e w2 ⟨rfl, h2⟩
  replace B1 := hidP (B1.out.trans (h2.mono B1.out.size))
  clear h2 CB
  cases qb
  · have HZ : True := trivial
    have HF : Hid (joiO us vs = false) := by show _ = _; rw [HJO.out]; simp
    have HN := hidP (joiA_no HF.out)
    go_wp2
    refine bodyPost_ret (v := .tuple #[.slice (some ⟨w2.heap.size, 0, none⟩) 0 0, .bool false]) (by simp [results, Try.results9, go_sem]) rfl ⟨.slice (some ⟨w2.heap.size, 0, none⟩) 0 0, ret_qb HF.out.symm, ?_, B1.out.alloc B1.out.size _⟩
    rw [HN.out]
    exact own_none _ _ B1.out.size
  obtain ⟨⟨la1, la2⟩, hPa, -⟩ := sprB_out HQA.out.symm
  obtain ⟨⟨lb1, lb2⟩, hPb, -⟩ := sprB_out HQB.out.symm
  have HPA := hidP hPa
  have HPB := hidP hPb
  rw [← HLA.out] at la1 la2 HPA
  rw [← HLB.out] at lb1 lb2 HPB
  have HSI : Hid (∀ i, i ≤ La → bndP (((i * Lb : Nat) : Int) * 1000000000000) (jnO us vs i) ∧ (jnO us vs i).length ≤ i * Lb) := by
    intro i hi; have := jnO_in (us := us) (bs := vs) (i := i) (fun j hj => hPb j hj) (fun j hj => HPA.out j (by omega)); rw [← HLB.out] at this; exact this
  have HRI : Hid (∀ i k, i < La → k ≤ Lb → bndP 2000000000000000 (jnI us vs i (jnO us vs i) k) ∧ (jnI us vs i (jnO us vs i) k).length ≤ 1700) := by
    intro i k hi hk
    obtain ⟨h1, h2⟩ := jnI_in (us := us) (bs := vs) (i := i) (n := i * Lb) (HPA.out i hi) (HSI.out i (by omega)) (k := k) (fun j hj => HPB.out j (by omega))
    have h3 : i * Lb ≤ 40 * 40 := Nat.mul_le_mul (by omega) lb2
    refine ⟨fun p hp => ?_, by omega⟩
    have := h1 p hp
    omega
  have HQJ2 : Hid (qj = sprB (jnO us vs La)) := by show _ = _; rw [HLA.out]; exact HQJ.out
  have HRR : Hid (∀ i k, rising (jnI us vs i (jnO us vs i) k)) := fun i k => (jn_both (jnO_both us vs i).1 (jnO_both us vs i).2 k).1
  have HJL : Hid (qj = true → (jnO us vs La).length ≤ 40) := by intro h; rw [HLA.out]; exact (sprB_out (by rw [← HQJ.out]; exact h)).1.2
  have hB3 := bJ w2 (.cells #[] 44)
  have O3 := own_none w2 w.heap.size B1.out.size
  obtain ⟨g0, hg0⟩ : ∃ g, g = w2.heap.size := ⟨_, rfl⟩
  obtain ⟨X, hX⟩ : ∃ X, X = w2.alloc (.cells #[] 44) := ⟨_, rfl⟩
  have OH : Hid (X.ownsRow w.heap.size 44 2 (.slice (some ⟨g0, 0, none⟩) (jnO us vs 0).length 0) (jnO us vs 0).length (cellsR (jnO us vs 0))) := by rw [hX, hg0]; exact O3
  rw [← hX] at hB3
  have BH := hidP (B1.out.trans (hB3.mono B1.out.size))
  clear hPa hPb O3 hB3 B1
  go_wp2_with fail
  rw [← hX, ← hg0]
  clear hX hg0
  obtain ⟨S, hS⟩ : ∃ S, S = jnO us vs := ⟨_, rfl⟩
  have HS := hidP hS
  rw [← hS] at OH HSI HRI HRR HJL HQJ2
  have HS0 : Hid (S 0 = []) := by show _ = _; rw [hS]; rfl
  have HSS : Hid (∀ i, S (i + 1) = jnI us vs i (S i) Lb) := by intro i; rw [hS, HLB.out]; rfl
  clear hS
  go_loopw [6, 7] (fun t i wr => ∃ (g c k : Nat), k ≤ La ∧ i = .int .i64 k ∧ t = .slice (some ⟨g, 0, none⟩) (S k).length c ∧ Hid (wr.ownsRow w.heap.size 44 2 (.slice (some ⟨g, 0, none⟩) (S k).length c) (S k).length (cellsR (S k))) ∧ Hid (Below w.heap.size w wr)) (fun _ i _ => La - (intOf i).toNat)
  case atStart => exact ⟨g0, 0, 0, Nat.zero_le _, rfl, by rw [HS0.out]; rfl, OH.out, BH.out⟩
  case round =>
    clear OH BH
    obtain ⟨g, c, i, hi', rfl, rfl, hO, hB⟩ := hrel
    by_cases hlt : i < La
    · obtain ⟨Rr, hR⟩ : ∃ R, R = jnI us vs i (S i) := ⟨_, rfl⟩
      have HR0 : Hid (Rr 0 = S i) := by show _ = _; rw [hR]; rfl
      have HRS : Hid (∀ k, Rr (k + 1) = insP (Rr k) (sumP us vs i k)) := by intro k; rw [hR]; rfl
      have HRE : Hid (S (i + 1) = Rr Lb) := by show _ = _; rw [HSS.out, hR]
      have HRB : Hid (∀ k, k ≤ Lb → bndP 2000000000000000 (Rr k) ∧ (Rr k).length ≤ 1700) := by intro k hk; rw [hR]; exact HRI.out i k hlt hk
      have HRU : Hid (∀ k, rising (Rr k)) := by intro k; rw [hR]; exact HRR.out i k
      obtain ⟨ba, oa, rfl, a1, a2⟩ := HA5.out i hlt
      have HAX := HPA.out i hlt
      obtain ⟨p, hp⟩ : ∃ p, p = fr us i := ⟨_, rfl⟩
      have HQP := hidP hp
      rw [← hp] at a1 a2
      obtain ⟨x1, y1⟩ := p
      dsimp only at a1 a2
      have A1 := hidP a1
      have A2 := hidP a2
      have HAP := hidP HAX
      have O0 := hO.out
      rw [← HR0.out] at O0 ⊢
      have OK := hidP O0
      have BK := hB
      clear hp hR a1 a2 HAX hO hB O0
      go_wp2
      go_loopw [6, 8] (fun t i wr => ∃ (g c k : Nat), k ≤ Lb ∧ i = .int .i64 k ∧ t = .slice (some ⟨g, 0, none⟩) (Rr k).length c ∧ Hid (wr.ownsRow w.heap.size 44 2 (.slice (some ⟨g, 0, none⟩) (Rr k).length c) (Rr k).length (cellsR (Rr k))) ∧ Hid (Below w.heap.size w wr)) (fun _ i _ => Lb - (intOf i).toNat)
      case atStart => exact ⟨g, c, 0, Nat.zero_le _, rfl, rfl, OK.out, BK.out⟩
      case round =>
        clear OK BK
        obtain ⟨g, c, k, hk, rfl, rfl, hO, hB⟩ := hrel
        by_cases hlk : k < Lb
        · have HZ : True := trivial
          clear HZ
          obtain ⟨bb, ob, rfl, d1, d2⟩ := HB5.out k hlk
          have a1 := cell_keep hB.out A1.out
          have a2 := cell_keep hB.out A2.out
          replace d1 := cell_keep hB.out d1
          replace d2 := cell_keep hB.out d2
          obtain ⟨ax1, ⟨ay0, ay1⟩, -⟩ := HAP.out
          obtain ⟨bx1, ⟨by0, by1⟩, -⟩ := HPB.out k hlk
          rw [← HQP.out] at ax1 ay0 ay1
          obtain ⟨p, hp⟩ : ∃ p, p = fr vs k := ⟨_, rfl⟩
          have HQV := hidP hp
          rw [← hp] at d1 d2 bx1 by0 by1
          obtain ⟨x2, y2⟩ := p
          dsimp only at ax1 ay0 ay1 d1 d2 bx1 by0 by1
          obtain ⟨T, hT⟩ : ∃ z, z = x1 + x2 := ⟨_, rfl⟩
          have hT' : x1 + x2 = T := hT.symm
          have hT0 : -2000 ≤ T ∧ T ≤ 2000 := by omega
          have hy := mul_inJ ay0 ay1 by0 by1
          obtain ⟨P, hP⟩ : ∃ z, z = y1 * y2 := ⟨_, rfl⟩
          have hP' : y1 * y2 = P := hP.symm
          rw [hP'] at hy
          have HX : Hid (sumP us vs i k = (T, P)) := by show ((fr us i).1 + (fr vs k).1, (fr us i).2 * (fr vs k).2) = _; rw [← HQP.out, ← HQV.out, ← hT', ← hP']
          have HRK := hidP (HRS.out k)
          rw [HX.out] at HRK
          have hn := (HRB.out k hk).2
          have hbd := hidP (HRB.out k hk).1
          have hrs := hidP (HRU.out k)
          obtain ⟨l, hl⟩ : ∃ l, l = Rr k := ⟨_, rfl⟩
          rw [← hl] at hO hn hbd hrs HRK ⊢
          obtain ⟨n, hnn⟩ : ∃ n, n = l.length := ⟨_, rfl⟩
          have HN := hidP hnn.symm
          rw [← hnn] at hO hn ⊢
          have hwT : IntKind.i64.wrap T = T := by rw [IntKind.wrap_i64]; omega
          have hwP : IntKind.i64.wrap P = P := by rw [IntKind.wrap_i64]; omega
          clear hp hT hP hl hnn
          go_upto_region 10 with fail
          have hb : Below wr.heap.size wr wr.drew := (Below.refl _ _).drew
          have hs0 : wr.drew.cell? ⟨ba, oa + i * 2, none⟩ = some (.int .i64 x1) ∧ wr.drew.cell? ⟨ba, oa + i * 2 + 1, none⟩ = some (.int .i64 y1) ∧ wr.drew.cell? ⟨bb, ob + k * 2, none⟩ = some (.int .i64 x2) ∧ wr.drew.cell? ⟨bb, ob + k * 2 + 1, none⟩ = some (.int .i64 y2) := ⟨cell_keep hb a1, cell_keep hb a2, cell_keep hb d1, cell_keep hb d2⟩
          replace hO := hidP (own_below hO.out hb)
          replace hB := hidP (hB.out.trans (hb.mono hB.out.size))
          clear hb
          refine wp_region_noPanic ?_
          refine wp_region_held_drew (S := fun W => W.cell? ⟨ba, oa + i * 2, none⟩ = some (.int .i64 x1) ∧ W.cell? ⟨ba, oa + i * 2 + 1, none⟩ = some (.int .i64 y1) ∧ W.cell? ⟨bb, ob + k * 2, none⟩ = some (.int .i64 x2) ∧ W.cell? ⟨bb, ob + k * 2 + 1, none⟩ = some (.int .i64 y2)) (by kernel_rfl) hs0 (fun hHeld => ?_)
          obtain ⟨wd, hwd⟩ : ∃ u, u = wr.drew := ⟨_, rfl⟩
          rw [← hwd] at hs0 hO hB hHeld ⊢
          clear hwd a1 a2 d1 d2
          refine wpAnyH_take (i := 0) (v := ?_) rfl (by kernel_rfl) (by kernel_rfl) (by kernel_rfl) (fun _ _ _ h => h) (Or.inl ⟨by kernel_rfl, ?_⟩) hHeld ?_
          rotate_left
          · intro wz hSw; obtain ⟨s0, s1, s2, s3⟩ := hSw; go_simp; all_goals (try with_reducible rfl)
          (try simp only [List.getElem_toArray]); (try simp only [List.getElem_cons_succ]); (try simp only [List.getElem_cons_zero]); (try simp only [Act.put]); (try simp only [List.setIfInBounds_toArray]); (try simp only [List.set_cons_succ]); (try simp only [List.set_cons_zero])
          refine wpAnyH_take (i := 1) (v := ?_) rfl (by kernel_rfl) (by kernel_rfl) (by kernel_rfl) (fun _ _ _ h => h) (Or.inl ⟨by kernel_rfl, ?_⟩) hHeld ?_
          rotate_left
          · intro wz hSw; obtain ⟨s0, s1, s2, s3⟩ := hSw; go_simp; all_goals (try with_reducible rfl)
          (try simp only [List.getElem_toArray]); (try simp only [List.getElem_cons_succ]); (try simp only [List.getElem_cons_zero]); (try simp only [Act.put]); (try simp only [List.setIfInBounds_toArray]); (try simp only [List.set_cons_succ]); (try simp only [List.set_cons_zero])
          refine wpAnyH_take (i := 2) (v := ?_) rfl (by kernel_rfl) (by kernel_rfl) (by kernel_rfl) (fun _ _ _ h => h) (Or.inl ⟨by kernel_rfl, ?_⟩) hHeld ?_
          rotate_left
          · intro wz hSw; obtain ⟨s0, s1, s2, s3⟩ := hSw; go_simp; all_goals (try with_reducible rfl)
          (try simp only [List.getElem_toArray]); (try simp only [List.getElem_cons_succ]); (try simp only [List.getElem_cons_zero]); (try simp only [Act.put]); (try simp only [List.setIfInBounds_toArray]); (try simp only [List.set_cons_succ]); (try simp only [List.set_cons_zero])
          refine wpAnyH_take (i := 3) (v := ?_) rfl (by kernel_rfl) (by kernel_rfl) (by kernel_rfl) (fun _ _ _ h => h) (Or.inl ⟨by kernel_rfl, ?_⟩) hHeld ?_
          rotate_left
          · intro wz hSw; obtain ⟨s0, s1, s2, s3⟩ := hSw; go_simp; all_goals (try with_reducible rfl)
          (try simp only [List.getElem_toArray]); (try simp only [List.getElem_cons_succ]); (try simp only [List.getElem_cons_zero]); (try simp only [Act.put]); (try simp only [List.setIfInBounds_toArray]); (try simp only [List.set_cons_succ]); (try simp only [List.set_cons_zero])
          refine wpAnyH_take (i := 4) (v := ?_) rfl (by kernel_rfl) (by kernel_rfl) (by kernel_rfl) (fun _ _ _ h => h) (Or.inl ⟨by kernel_rfl, ?_⟩) hHeld ?_
          rotate_left
          · intro wz hSw; obtain ⟨s0, s1, s2, s3⟩ := hSw; go_simp; all_goals (try with_reducible rfl)
          (try simp only [List.getElem_toArray]); (try simp only [List.getElem_cons_succ]); (try simp only [List.getElem_cons_zero]); (try simp only [Act.put]); (try simp only [List.setIfInBounds_toArray]); (try simp only [List.set_cons_succ]); (try simp only [List.set_cons_zero])
          refine wpAnyH_take (i := 5) (v := ?_) rfl (by kernel_rfl) (by kernel_rfl) (by kernel_rfl) (fun _ _ _ h => h) (Or.inl ⟨by kernel_rfl, ?_⟩) hHeld ?_
          rotate_left
          · intro wz hSw; obtain ⟨s0, s1, s2, s3⟩ := hSw; go_simp; all_goals (try with_reducible rfl)
          (try simp only [List.getElem_toArray]); (try simp only [List.getElem_cons_succ]); (try simp only [List.getElem_cons_zero]); (try simp only [Act.put]); (try simp only [List.setIfInBounds_toArray]); (try simp only [List.set_cons_succ]); (try simp only [List.set_cons_zero])
          refine wpAnyH_take (i := 6) (v := ?_) rfl (by kernel_rfl) (by kernel_rfl) (by kernel_rfl) (fun _ _ _ h => h) (Or.inl ⟨by kernel_rfl, ?_⟩) hHeld ?_
          rotate_left
          · intro wz hSw; obtain ⟨s0, s1, s2, s3⟩ := hSw; go_simp; all_goals (try with_reducible rfl)
          (try simp only [List.getElem_toArray]); (try simp only [List.getElem_cons_succ]); (try simp only [List.getElem_cons_zero]); (try simp only [Act.put]); (try simp only [List.setIfInBounds_toArray]); (try simp only [List.set_cons_succ]); (try simp only [List.set_cons_zero])
          refine wpAnyH_take (i := 7) (v := ?_) rfl (by kernel_rfl) (by kernel_rfl) (by kernel_rfl) (fun _ _ _ h => h) (Or.inl ⟨by kernel_rfl, ?_⟩) hHeld ?_
          rotate_left
          · intro wz hSw; obtain ⟨s0, s1, s2, s3⟩ := hSw; go_simp; all_goals (try with_reducible rfl)
          (try simp only [List.getElem_toArray]); (try simp only [List.getElem_cons_succ]); (try simp only [List.getElem_cons_zero]); (try simp only [Act.put]); (try simp only [List.setIfInBounds_toArray]); (try simp only [List.set_cons_succ]); (try simp only [List.set_cons_zero])
          refine wpAnyH_take (i := 8) (v := ?_) rfl (by kernel_rfl) (by kernel_rfl) (by kernel_rfl) (fun _ _ _ h => h) (Or.inl ⟨by kernel_rfl, ?_⟩) hHeld ?_
          rotate_left
          · intro wz hSw; obtain ⟨s0, s1, s2, s3⟩ := hSw; go_simp; all_goals (try with_reducible rfl)
          (try simp only [List.getElem_toArray]); (try simp only [List.getElem_cons_succ]); (try simp only [List.getElem_cons_zero]); (try simp only [Act.put]); (try simp only [List.setIfInBounds_toArray]); (try simp only [List.set_cons_succ]); (try simp only [List.set_cons_zero])
          refine wpAnyH_take (i := 9) (v := ?_) rfl (by kernel_rfl) (by kernel_rfl) (by kernel_rfl) (fun _ _ _ h => h) (Or.inl ⟨by kernel_rfl, ?_⟩) hHeld ?_
          rotate_left
          · intro wz hSw; obtain ⟨s0, s1, s2, s3⟩ := hSw; go_simp; all_goals (try with_reducible rfl)
          (try simp only [List.getElem_toArray]); (try simp only [List.getElem_cons_succ]); (try simp only [List.getElem_cons_zero]); (try simp only [Act.put]); (try simp only [List.setIfInBounds_toArray]); (try simp only [List.set_cons_succ]); (try simp only [List.set_cons_zero])
          refine wpAnyH_take (i := 10) (v := ?_) rfl (by kernel_rfl) (by kernel_rfl) (by kernel_rfl) (fun _ _ _ h => h) (Or.inl ⟨by kernel_rfl, ?_⟩) hHeld ?_
          rotate_left
          · intro wz hSw; obtain ⟨s0, s1, s2, s3⟩ := hSw; go_simp; all_goals (try with_reducible rfl)
          (try simp only [List.getElem_toArray]); (try simp only [List.getElem_cons_succ]); (try simp only [List.getElem_cons_zero]); (try simp only [Act.put]); (try simp only [List.setIfInBounds_toArray]); (try simp only [List.set_cons_succ]); (try simp only [List.set_cons_zero])
          refine wpAnyH_take (i := 11) (v := ?_) rfl (by kernel_rfl) (by kernel_rfl) (by kernel_rfl) (fun _ _ _ h => h) (Or.inl ⟨by kernel_rfl, ?_⟩) hHeld ?_
          rotate_left
          · intro wz hSw; obtain ⟨s0, s1, s2, s3⟩ := hSw; go_simp; all_goals (try with_reducible rfl)
          (try simp only [List.getElem_toArray]); (try simp only [List.getElem_cons_succ]); (try simp only [List.getElem_cons_zero]); (try simp only [Act.put]); (try simp only [List.setIfInBounds_toArray]); (try simp only [List.set_cons_succ]); (try simp only [List.set_cons_zero])
          refine wpAnyH_take (i := 12) (v := ?_) rfl (by kernel_rfl) (by kernel_rfl) (by kernel_rfl) (fun _ _ _ h => h) (Or.inl ⟨by kernel_rfl, ?_⟩) hHeld ?_
          rotate_left
          · intro wz hSw; obtain ⟨s0, s1, s2, s3⟩ := hSw; go_simp; all_goals (try with_reducible rfl)
          (try simp only [List.getElem_toArray]); (try simp only [List.getElem_cons_succ]); (try simp only [List.getElem_cons_zero]); (try simp only [Act.put]); (try simp only [List.setIfInBounds_toArray]); (try simp only [List.set_cons_succ]); (try simp only [List.set_cons_zero])
          refine wpAnyH_take (i := 13) (v := ?_) rfl (by kernel_rfl) (by kernel_rfl) (by kernel_rfl) (fun _ _ _ h => h) (Or.inl ⟨by kernel_rfl, ?_⟩) hHeld ?_
          rotate_left
          · intro wz hSw; obtain ⟨s0, s1, s2, s3⟩ := hSw; go_simp; all_goals (try with_reducible rfl)
          (try simp only [List.getElem_toArray]); (try simp only [List.getElem_cons_succ]); (try simp only [List.getElem_cons_zero]); (try simp only [Act.put]); (try simp only [List.setIfInBounds_toArray]); (try simp only [List.set_cons_succ]); (try simp only [List.set_cons_zero])
          refine wpAnyH_take (i := 14) (v := ?_) rfl (by kernel_rfl) (by kernel_rfl) (by kernel_rfl) (fun _ _ _ h => h) (Or.inl ⟨by kernel_rfl, ?_⟩) hHeld ?_
          rotate_left
          · intro wz hSw; obtain ⟨s0, s1, s2, s3⟩ := hSw; go_simp; all_goals (try with_reducible rfl)
          (try simp only [List.getElem_toArray]); (try simp only [List.getElem_cons_succ]); (try simp only [List.getElem_cons_zero]); (try simp only [Act.put]); (try simp only [List.setIfInBounds_toArray]); (try simp only [List.set_cons_succ]); (try simp only [List.set_cons_zero])
          refine wpAnyH_take (i := 15) (v := ?_) rfl (by kernel_rfl) (by kernel_rfl) (by kernel_rfl) (fun _ _ _ h => h) (Or.inl ⟨by kernel_rfl, ?_⟩) hHeld ?_
          rotate_left
          · intro wz hSw; obtain ⟨s0, s1, s2, s3⟩ := hSw; go_simp; all_goals (try with_reducible rfl)
          (try simp only [List.getElem_toArray]); (try simp only [List.getElem_cons_succ]); (try simp only [List.getElem_cons_zero]); (try simp only [Act.put]); (try simp only [List.setIfInBounds_toArray]); (try simp only [List.set_cons_succ]); (try simp only [List.set_cons_zero])
          refine wpAnyH_take (i := 16) (v := ?_) rfl (by kernel_rfl) (by kernel_rfl) (by kernel_rfl) (fun _ _ _ h => h) (Or.inl ⟨by kernel_rfl, ?_⟩) hHeld ?_
          rotate_left
          · intro wz hSw; obtain ⟨s0, s1, s2, s3⟩ := hSw; go_simp; all_goals (try with_reducible rfl)
          (try simp only [List.getElem_toArray]); (try simp only [List.getElem_cons_succ]); (try simp only [List.getElem_cons_zero]); (try simp only [Act.put]); (try simp only [List.setIfInBounds_toArray]); (try simp only [List.set_cons_succ]); (try simp only [List.set_cons_zero])
          refine wpAnyH_take (i := 17) (v := ?_) rfl (by kernel_rfl) (by kernel_rfl) (by kernel_rfl) (fun _ _ _ h => h) (Or.inl ⟨by kernel_rfl, ?_⟩) hHeld ?_
          rotate_left
          · intro wz hSw; obtain ⟨s0, s1, s2, s3⟩ := hSw; go_simp; all_goals (try with_reducible rfl)
          (try simp only [List.getElem_toArray]); (try simp only [List.getElem_cons_succ]); (try simp only [List.getElem_cons_zero]); (try simp only [Act.put]); (try simp only [List.setIfInBounds_toArray]); (try simp only [List.set_cons_succ]); (try simp only [List.set_cons_zero])
          refine wpAnyH_take (i := 18) (v := ?_) rfl (by kernel_rfl) (by kernel_rfl) (by kernel_rfl) (fun _ _ _ h => h) (Or.inl ⟨by kernel_rfl, ?_⟩) hHeld ?_
          rotate_left
          · intro wz hSw; obtain ⟨s0, s1, s2, s3⟩ := hSw; go_simp; all_goals (try with_reducible rfl)
          (try simp only [List.getElem_toArray]); (try simp only [List.getElem_cons_succ]); (try simp only [List.getElem_cons_zero]); (try simp only [Act.put]); (try simp only [List.setIfInBounds_toArray]); (try simp only [List.set_cons_succ]); (try simp only [List.set_cons_zero])
          refine wpAnyH_take (i := 19) (v := ?_) rfl (by kernel_rfl) (by kernel_rfl) (by kernel_rfl) (fun _ _ _ h => h) (Or.inl ⟨by kernel_rfl, ?_⟩) hHeld ?_
          rotate_left
          · intro wz hSw; obtain ⟨s0, s1, s2, s3⟩ := hSw; go_simp; all_goals (try with_reducible rfl)
          (try simp only [List.getElem_toArray]); (try simp only [List.getElem_cons_succ]); (try simp only [List.getElem_cons_zero]); (try simp only [Act.put]); (try simp only [List.setIfInBounds_toArray]); (try simp only [List.set_cons_succ]); (try simp only [List.set_cons_zero])
          refine wpAnyH_take (i := 20) (v := ?_) rfl (by kernel_rfl) (by kernel_rfl) (by kernel_rfl) (fun _ _ _ h => h) (Or.inl ⟨by kernel_rfl, ?_⟩) hHeld ?_
          rotate_left
          · intro wz hSw; obtain ⟨s0, s1, s2, s3⟩ := hSw; go_simp; all_goals (try with_reducible rfl)
          (try simp only [List.getElem_toArray]); (try simp only [List.getElem_cons_succ]); (try simp only [List.getElem_cons_zero]); (try simp only [Act.put]); (try simp only [List.setIfInBounds_toArray]); (try simp only [List.set_cons_succ]); (try simp only [List.set_cons_zero])
          refine wpAnyH_take (i := 21) (v := ?_) rfl (by kernel_rfl) (by kernel_rfl) (by kernel_rfl) (fun _ _ _ h => h) (Or.inl ⟨by kernel_rfl, ?_⟩) hHeld ?_
          rotate_left
          · intro wz hSw; obtain ⟨s0, s1, s2, s3⟩ := hSw; go_simp; all_goals (try with_reducible rfl)
          (try simp only [List.getElem_toArray]); (try simp only [List.getElem_cons_succ]); (try simp only [List.getElem_cons_zero]); (try simp only [Act.put]); (try simp only [List.setIfInBounds_toArray]); (try simp only [List.set_cons_succ]); (try simp only [List.set_cons_zero])
          refine wpAnyH_take (i := 22) (v := ?_) rfl (by kernel_rfl) (by kernel_rfl) (by kernel_rfl) (fun _ _ _ h => h) (Or.inl ⟨by kernel_rfl, ?_⟩) hHeld ?_
          rotate_left
          · intro wz hSw; obtain ⟨s0, s1, s2, s3⟩ := hSw; go_simp; all_goals (try with_reducible rfl)
          (try simp only [List.getElem_toArray]); (try simp only [List.getElem_cons_succ]); (try simp only [List.getElem_cons_zero]); (try simp only [Act.put]); (try simp only [List.setIfInBounds_toArray]); (try simp only [List.set_cons_succ]); (try simp only [List.set_cons_zero])
          refine wpAnyH_ready (rs := [23]) (by kernel_rfl) (by simp) (AllReadyH.cons rfl (fun Kc hKc => ?_) AllReadyH.nil)
          go_simp
          have hb := bJ wd (.cells #[.int .i64 0, .int .i64 0] 44)
          obtain ⟨A, hA⟩ : ∃ A, A = wd.heap.size := ⟨_, rfl⟩
          obtain ⟨Y, hY⟩ : ∃ Y, Y = wd.alloc (.cells #[.int .i64 0, .int .i64 0] 44) := ⟨_, rfl⟩
          have KA : IsB Y A #[.int .i64 0, .int .i64 0] 44 := by rw [hY, hA]; exact IsB.new _ _ _
          rw [← hY] at hb
          rw [← hY, ← hA]
          have hgA : g < A := by rw [hA]; exact (hO.out.lt g rfl).2
          have hAw : w.heap.size ≤ A := by rw [hA]; exact hB.out.size
          have hs1 : Y.cell? ⟨ba, oa + i * 2, none⟩ = some (.int .i64 x1) ∧ Y.cell? ⟨ba, oa + i * 2 + 1, none⟩ = some (.int .i64 y1) ∧ Y.cell? ⟨bb, ob + k * 2, none⟩ = some (.int .i64 x2) ∧ Y.cell? ⟨bb, ob + k * 2 + 1, none⟩ = some (.int .i64 y2) := ⟨cell_keep hb hs0.1, cell_keep hb hs0.2.1, cell_keep hb hs0.2.2.1, cell_keep hb hs0.2.2.2⟩
          replace hO := hidP (own_below hO.out hb)
          replace hB := hidP (hB.out.trans (hb.mono hB.out.size))
          have hbA := World.block_lt_of_cell? wd _ hs0.1
          have hbB := World.block_lt_of_cell? wd _ hs0.2.2.1
          dsimp only at hbA hbB
          rw [← hA] at hbA hbB
          clear hY hA hb
          refine hKc.out _ _ hs1 (fun hHeld => ?_)
          clear hKc Kc
          (try simp only [List.getElem_toArray]); (try simp only [List.getElem_cons_succ]); (try simp only [List.getElem_cons_zero]); (try simp only [Act.put]); (try simp only [List.setIfInBounds_toArray]); (try simp only [List.set_cons_succ]); (try simp only [List.set_cons_zero])
          obtain ⟨z0, z1⟩ := KA.cc
          have z2 := KA.frozen 0
          have z3 := KA.frozen 1
          have KB : IsB ((Y.setCell ⟨A, 0, none⟩ (.int .i64 T)).setCell ⟨A, 1, none⟩ (.int .i64 P)) A #[.int .i64 T, .int .i64 P] 44 := (KA.set 0 _).set 1 _
          have hx : Y.grownBy ((Y.setCell ⟨A, 0, none⟩ (.int .i64 T)).setCell ⟨A, 1, none⟩ (.int .i64 P)) (some A) := setsG Y A _ _
          have hs2 := (⟨hx.cell hs1.1 (by simp; omega), hx.cell hs1.2.1 (by simp; omega), hx.cell hs1.2.2.1 (by simp; omega), hx.cell hs1.2.2.2 (by simp; omega)⟩ : _ ∧ _ ∧ _ ∧ _)
          replace hO := hidP (hO.out.kept hx (.inr (by show some g ≠ some A; simp; omega)))
          replace hB := hidP (hB.out.grown hx hB.out.size (fun j e => by cases e; exact hAw))
          clear hx
          refine wpAnyH_ready (rs := [24]) (by kernel_rfl) (by simp) (AllReadyH.cons rfl (fun Kc hKc => ?_) AllReadyH.nil)
          go_simp
          refine hKc.out _ _ hs2 (fun hHeld => ?_)
          clear hKc Kc
          (try simp only [List.getElem_toArray]); (try simp only [List.getElem_cons_succ]); (try simp only [List.getElem_cons_zero]); (try simp only [Act.put]); (try simp only [List.setIfInBounds_toArray]); (try simp only [List.set_cons_succ]); (try simp only [List.set_cons_zero])
          refine wpAnyH_done (by kernel_rfl) ?_ _
          refine NoPanic.normal ?_
          clear z0 z1 z2 z3 hs0 hs1 hs2 KA
          obtain ⟨Z, hZ⟩ : ∃ Z, Z = (Y.setCell ⟨A, 0, none⟩ (.int .i64 T)).setCell ⟨A, 1, none⟩ (.int .i64 P) := ⟨_, rfl⟩
          rw [← hZ] at KB hO hB ⊢
          have KH := hidP KB
          have hfo := own_formP hO.out (by intro e; cases e)
          obtain ⟨g', c', e', hgw, hgz, hnc, hcm⟩ := hfo
          cases e'
          clear hZ KB hHeld
          go_wp2
          go_loopw [10] (fun q wr => ∃ at_ : Nat, at_ ≤ n ∧ q = .int .i64 at_ ∧ Hid (∀ j, j < at_ → (fr l j).1 < T) ∧ Hid (wr.ownsRow w.heap.size 44 2 (.slice (some ⟨g, 0, none⟩) n c) n (cellsR l)) ∧ Hid (IsB wr A #[.int .i64 T, .int .i64 P] 44) ∧ Hid (Below w.heap.size w wr)) (fun q _ => n + 1 - (intOf q).toNat)
          case atStart => exact ⟨0, Nat.zero_le _, rfl, fun j hj => absurd hj (Nat.not_lt_zero _), hO.out, KH.out, hB.out⟩
          case round =>
            clear hO KH hB
            obtain ⟨t, htn, rfl, hlow, hO, hK, hB⟩ := hrel
            obtain ⟨kb0, kb1⟩ := hK.out.cc
            by_cases htl : t < n
            · obtain ⟨e1, e2⟩ := own_Q hO.out HN.out t htl
              have hbt := hbd.out (fr l t) (fr_mem (by rw [HN.out]; exact htl))
              obtain ⟨u, hu⟩ : ∃ u, u = fr l t := ⟨_, rfl⟩
              have HU := hidP hu
              rw [show l[t]?.getD (0, 0) = u from hu.symm] at e1 e2
              rw [← hu] at hbt
              obtain ⟨ux, uw⟩ := u
              dsimp only at e1 e2 hbt
              clear hu
              by_cases hlo : ux < T
              · have d1 : decide (ux < T) = true := decide_eq_true hlo
                go_upto_region 12 with fail
                go_quiet (fail)
                go_wp2
                go_roundw
                case rel => exact ⟨t + 1, by omega, by go_num, fun j hj => (by
                  by_cases ej : j = t
                  · subst ej; rw [← HU.out]; exact hlo
                  · exact hlow.out j (by omega)), own_below hO.out (below_drewN (Below.refl _ _) _), hK.out.below (below_drewN (Below.refl _ _) _), below_drewN hB.out _⟩
                case measure => simp [intOf]; omega
              have d1 : decide (ux < T) = false := decide_eq_false hlo
              by_cases heq : ux = T
              · have HTR := trivial
                subst heq
                clear HTR
                have d2 : (ux == ux) = true := by simp
                go_upto_region 12 with fail
                go_quiet (fail)
                obtain ⟨wy, hwy⟩ : ∃ u, u = wr.drewN nq := ⟨_, rfl⟩
                have hb : Below wr.heap.size wr wy := by rw [hwy]; exact below_drewN (Below.refl _ _) _
                rw [← hwy]
                replace hO := hidP (own_below hO.out hb)
                replace hK := hidP (hK.out.below hb)
                replace hB := hidP (hB.out.trans (hb.mono hB.out.size))
                clear hb hwy e1 e2 kb0 kb1
                obtain ⟨e1, e2⟩ := own_Q hO.out HN.out t htl
                rw [show l[t]?.getD (0, 0) = (ux, uw) from HU.out.symm] at e1 e2
                obtain ⟨kb0, kb1⟩ := hK.out.cc
                go_upto_region 14 with fail
                go_quiet (fail)
                obtain ⟨wz, hwz⟩ : ∃ u, u = wy.drewN nq := ⟨_, rfl⟩
                have hb : Below wy.heap.size wy wz := by rw [hwz]; exact below_drewN (Below.refl _ _) _
                rw [← hwz]
                replace hO := hidP (own_below hO.out hb)
                replace hK := hidP (hK.out.below hb)
                replace hB := hidP (hB.out.trans (hb.mono hB.out.size))
                clear hb hwz e1 e2 kb0 kb1
                go_upto_region 15 with fail
                have hb : Below wz.heap.size wz wz.drew := (Below.refl _ _).drew
                replace hO := hidP (own_below hO.out hb)
                replace hB := hidP (hB.out.trans (hb.mono hB.out.size))
                clear hb
                obtain ⟨e1, e2⟩ := own_Q hO.out HN.out t htl
                rw [show l[t]?.getD (0, 0) = (ux, uw) from HU.out.symm] at e1 e2
                obtain ⟨kb0, kb1⟩ := hK.out.cc
                have f0 := hO.out.frozenAt (t * 2 + 1)
                obtain ⟨V, hV⟩ : ∃ z, z = uw + P := ⟨_, rfl⟩
                have hV' : uw + P = V := hV.symm
                have hV1 : 0 ≤ V ∧ V ≤ 3000000000000000 := by omega
                have O9 := own_putB hO.out HN.out t htl V
                have hgx := (hO.out.stored (t * 2 + 1) (.int .i64 V)).2
                have hHIT : Hid (Rr (k + 1) = l.set t (ux, V)) := by
                  show _ = _
                  rw [HRK.out, insP_on (k := t) (by rw [HN.out]; exact htl) (fun j hj => hlow.out j hj) (by rw [← HU.out]), ← HU.out]
                  show l.set t (ux, uw + P) = _
                  rw [hV']
                rw [show (fr l t).1 = ux from by rw [← HU.out]] at O9
                have HL9 : Hid ((Rr (k + 1)).length = n) := by show _ = _; rw [hHIT.out, List.length_set, HN.out]
                have OH := hidP O9
                have B9 := hidP (hB.out.grown hgx hB.out.size (fun j e => by cases e; exact hgw))
                have OH2 : Hid ((wz.drew.setCell ⟨g, t * 2 + 1, none⟩ (.int .i64 V)).ownsRow w.heap.size 44 2 (.slice (some ⟨g, 0, none⟩) (Rr (k + 1)).length c) (Rr (k + 1)).length (cellsR (Rr (k + 1)))) := by
                  show World.ownsRow _ _ _ _ _ _ _
                  rw [HL9.out, hHIT.out]; exact OH.out
                clear O9 hgx OH hV
                go_region
                all_goals go_wp2
                all_goals go_roundw
                all_goals first | exact ⟨g, c, k + 1, by omega, by go_num, by rw [HL9.out], OH2.out, B9.out⟩ | (simp [intOf]; omega)
              · have HPOS : Hid (t < n → T < (fr l t).1) := fun _ => by rw [← HU.out]; dsimp only; omega
                have d2 : (ux == T) = false := by simp [heq]
                have d3 : (T == ux) = false := by simp; omega
                go_upto_region 12 with fail
                go_quiet (fail)
                obtain ⟨wy, hwy⟩ : ∃ u, u = wr.drewN nq := ⟨_, rfl⟩
                have hb : Below wr.heap.size wr wy := by rw [hwy]; exact below_drewN (Below.refl _ _) _
                rw [← hwy]
                replace hO := hidP (own_below hO.out hb)
                replace hK := hidP (hK.out.below hb)
                replace hB := hidP (hB.out.trans (hb.mono hB.out.size))
                clear hb hwy kb0 kb1
                obtain ⟨kb0, kb1⟩ := hK.out.cc
                clear e1 e2
                obtain ⟨e1, e2⟩ := own_Q hO.out HN.out t htl
                rw [show l[t]?.getD (0, 0) = (ux, uw) from HU.out.symm] at e1 e2
                go_upto_region 14 with fail
                go_quiet (fail)
                obtain ⟨wz, hwz⟩ : ∃ u, u = wy.drewN nq := ⟨_, rfl⟩
                have hb : Below wy.heap.size wy wz := by rw [hwz]; exact below_drewN (Below.refl _ _) _
                rw [← hwz]
                replace hO := hidP (own_below hO.out hb)
                replace hK := hidP (hK.out.below hb)
                replace hB := hidP (hB.out.trans (hb.mono hB.out.size))
                clear hb hwz kb0 kb1 e1 e2
                have hINS : Hid (Rr (k + 1) = l.take t ++ ([(T, P)] ++ l.drop t)) := by show _ = _; rw [HRK.out]; exact insP_at (by rw [HN.out]; exact htn) hlow.out (fun h => HPOS.out (by rw [← HN.out]; exact h))
                have HL9 : Hid ((Rr (k + 1)).length = t + 1 + (n - t)) := by show _ = _; rw [hINS.out, List.length_append, List.length_append, List.length_take, List.length_drop, HN.out, List.length_singleton]; omega
                have hgz2 : g < wz.heap.size := (hO.out.lt g rfl).2
                have hAz : A < wz.heap.size := hK.out.lt
                have hsz := hB.out.size
                have htnI : (t : Int) ≤ (n : Int) := by omega
                have hct : ¬ c = t := by omega
                have htc : t ≤ c := by omega
                have hW1 := bJ wz (.cells #[] 44)
                have E0 : (wz.alloc (.cells #[] 44)).ownsRow w.heap.size 44 2 (.slice (some ⟨wz.heap.size, 0, none⟩) 0 0) 0 [] := own_none wz _ hsz
                have O1 := hidP (own_below hO.out hW1)
                have K1 := hidP (hK.out.below hW1)
                have B1 := hidP (hB.out.trans (hW1.mono hsz))
                have T1 := hidP (own_tailP O1.out t)
                have hlen1 : (cellsR (l.drop t)).length = (n - t) * 2 := by rw [cellsR_len, List.length_drop, HN.out]
                go_wp2_with (at_builtin; refine wpList_append_own_at _ rfl _ _ 24 rfl w.heap.size 44 i0 (.agg #[.int .i64 0, .int .i64 0]) 2 16 Try.underlying24 hi hz0 hz1 hz2 rfl (by decide) _ 0 [] rfl E0 ⟨g, t * 2, none⟩ (n - t) (c - t) (cellsR (l.drop t)) (by first | rfl | (simp [Act.eval]; done) | (simp [Act.eval]; omega)) hlen1 T1.out (cellsR_oneP _) (by unfold maxLen; omega) (by omega) B1.out.size ?_; intro vr w2 hownr hgrr hnilr hlocr)
                rw [Nat.zero_add, List.nil_append] at hownr
                obtain ⟨gr, cr, rfl, hgr1, hgr2, -, -⟩ := own_formP hownr (by intro e; exact absurd (hnilr.1 e).1 (by intro e2; cases e2))
                have hgr3 : wz.heap.size ≤ gr := by
                  rcases hlocr with e | e
                  · have e' : some gr = some wz.heap.size := e
                    injection e' with e'; omega
                  · have e' : some gr = some (wz.alloc (.cells #[] 44)).heap.size := e
                    injection e' with e'
                    have := hW1.size
                    omega
                have R2 := hidP hownr
                have O2 := hidP (O1.out.kept hgrr (.inr (by show some g ≠ some wz.heap.size; simp; omega)))
                have K2 := hidP (K1.out.grownJ hgrr (by show some wz.heap.size ≠ some A; simp; omega))
                have B2 := hidP (B1.out.grown hgrr B1.out.size (fun j e => by cases e; exact hsz))
                clear hownr hgrr hnilr hlocr O1 K1 B1 T1 E0 hW1 hO hK hB
                go_upto_region 17 with fail
                have hb : Below w2.heap.size w2 w2.drew := (Below.refl _ _).drew
                replace R2 := hidP (own_below R2.out hb)
                replace O2 := hidP (own_below O2.out hb)
                replace K2 := hidP (K2.out.below hb)
                replace B2 := hidP (B2.out.trans (hb.mono B2.out.size))
                clear hb
                refine wp_region_noPanic ?_
                refine wp_region_held_drew (S := fun W => W.cell? ⟨A, 0, none⟩ = some (.int .i64 T) ∧ W.cell? ⟨A, 1, none⟩ = some (.int .i64 P)) (by kernel_rfl) K2.out.cc (fun hHeld => ?_)
                obtain ⟨wd2, hwd2⟩ : ∃ u, u = w2.drew := ⟨_, rfl⟩
                rw [← hwd2] at R2 O2 K2 B2 hHeld ⊢
                clear hwd2
                refine wpAnyH_take (i := 0) (v := ?_) rfl (by kernel_rfl) (by kernel_rfl) (by kernel_rfl) (fun _ _ _ h => h) (Or.inl ⟨by kernel_rfl, ?_⟩) hHeld ?_
                rotate_left
                · intro wz hSw; obtain ⟨s0, s1⟩ := hSw; go_simp; all_goals (try with_reducible rfl)
                (try simp only [List.getElem_toArray]); (try simp only [List.getElem_cons_succ]); (try simp only [List.getElem_cons_zero]); (try simp only [Act.put]); (try simp only [List.setIfInBounds_toArray]); (try simp only [List.set_cons_succ]); (try simp only [List.set_cons_zero])
                refine wpAnyH_take (i := 1) (v := ?_) rfl (by kernel_rfl) (by kernel_rfl) (by kernel_rfl) (fun _ _ _ h => h) (Or.inl ⟨by kernel_rfl, ?_⟩) hHeld ?_
                rotate_left
                · intro wz hSw; obtain ⟨s0, s1⟩ := hSw; go_simp; all_goals (try with_reducible rfl)
                (try simp only [List.getElem_toArray]); (try simp only [List.getElem_cons_succ]); (try simp only [List.getElem_cons_zero]); (try simp only [Act.put]); (try simp only [List.setIfInBounds_toArray]); (try simp only [List.set_cons_succ]); (try simp only [List.set_cons_zero])
                refine wpAnyH_take (i := 2) (v := ?_) rfl (by kernel_rfl) (by kernel_rfl) (by kernel_rfl) (fun _ _ _ h => h) (Or.inl ⟨by kernel_rfl, ?_⟩) hHeld ?_
                rotate_left
                · intro wz hSw; obtain ⟨s0, s1⟩ := hSw; go_simp; all_goals (try with_reducible rfl)
                (try simp only [List.getElem_toArray]); (try simp only [List.getElem_cons_succ]); (try simp only [List.getElem_cons_zero]); (try simp only [Act.put]); (try simp only [List.setIfInBounds_toArray]); (try simp only [List.set_cons_succ]); (try simp only [List.set_cons_zero])
                refine wpAnyH_take (i := 3) (v := ?_) rfl (by kernel_rfl) (by kernel_rfl) (by kernel_rfl) (fun _ _ _ h => h) (Or.inl ⟨by kernel_rfl, ?_⟩) hHeld ?_
                rotate_left
                · intro wz hSw; obtain ⟨s0, s1⟩ := hSw; go_simp; all_goals (try with_reducible rfl)
                (try simp only [List.getElem_toArray]); (try simp only [List.getElem_cons_succ]); (try simp only [List.getElem_cons_zero]); (try simp only [Act.put]); (try simp only [List.setIfInBounds_toArray]); (try simp only [List.set_cons_succ]); (try simp only [List.set_cons_zero])
                refine wpAnyH_take (i := 6) (v := ?_) rfl (by kernel_rfl) (by kernel_rfl) (by kernel_rfl) (fun _ _ _ h => h) (Or.inl ⟨by kernel_rfl, ?_⟩) hHeld ?_
                rotate_left
                · intro wz hSw; obtain ⟨s0, s1⟩ := hSw; go_simp; all_goals (try with_reducible rfl)
                (try simp only [List.getElem_toArray]); (try simp only [List.getElem_cons_succ]); (try simp only [List.getElem_cons_zero]); (try simp only [Act.put]); (try simp only [List.setIfInBounds_toArray]); (try simp only [List.set_cons_succ]); (try simp only [List.set_cons_zero])
                refine wpAnyH_ready (rs := [4]) (by kernel_rfl) (by simp) (AllReadyH.cons rfl (fun Kc hKc => ?_) AllReadyH.nil)
                go_simp
                have hW1 := bJ wd2 (.cells #[.int .i64 T, .int .i64 P] 44)
                have R3 := hidP (own_below R2.out hW1)
                have O3 := hidP (own_below O2.out hW1)
                have K3 := hidP (K2.out.below hW1)
                have B3 := hidP (B2.out.trans (hW1.mono B2.out.size))
                clear hW1 R2 O2 K2 B2
                refine hKc.out _ _ K3.out.cc (fun hHeld => ?_)
                clear hKc Kc
                (try simp only [List.getElem_toArray]); (try simp only [List.getElem_cons_succ]); (try simp only [List.getElem_cons_zero]); (try simp only [Act.put]); (try simp only [List.setIfInBounds_toArray]); (try simp only [List.set_cons_succ]); (try simp only [List.set_cons_zero])
                have C3 := hidP (cell_twoJ wd2 (.int .i64 T) (.int .i64 P) 44)
                have hg3 : g < wd2.heap.size + 1 := by have := (O3.out.lt g rfl).2; simpa using this
                have hA3 : A < wd2.heap.size + 1 := by have := K3.out.lt; simpa using this
                refine wpAnyH_ready (rs := [5]) (by kernel_rfl) (by simp) (AllReadyH.cons rfl (fun Kc hKc => ?_) AllReadyH.nil)
                refine step_app_pt rfl (.tmp 106) (.tmp 108) 24 rfl w.heap.size 44 i0 (.agg #[.int .i64 0, .int .i64 0]) 2 16 Try.underlying24 hi hz0 hz1 hz2 rfl (by decide) (.slice (some ⟨g, 0, none⟩) t c) t (cellsR (l.take t)) (by simp [Act.eval]) (own_cutP O3.out t htn) ⟨wd2.heap.size, 0, none⟩ 1 1 [.int .i64 T, .int .i64 P] (by simp [Act.eval]) rfl C3.out (by intro u hu; simp at hu; rcases hu with rfl | rfl <;> rfl) (by unfold maxLen; omega) (by omega) B3.out.size ?_
                intro v5 w5 hown5 hg5 hloc5
                have R5 := hidP (R3.out.kept hg5 (.inr (by show some gr ≠ some g; simp; omega)))
                have K5 := hidP (K3.out.grownJ hg5 (by show some g ≠ some A; simp; omega))
                have B5 := hidP (B3.out.grown hg5 B3.out.size (fun j e => by cases e; exact hgw))
                have O5 := hidP hown5
                have hl5 : v5.ownBlock ≠ some A := by
                  intro e
                  rw [e] at hloc5
                  simp [Value.ownBlock] at hloc5
                  omega
                have hl6 : ∀ j, v5.ownBlock = some j → w.heap.size ≤ j := fun j e => (hown5.lt j e).1
                clear hown5 hg5 hloc5 R3 O3 K3 B3 C3
                refine hKc.out _ _ K5.out.cc (fun hHeld => ?_)
                clear hKc Kc
                (try simp only [List.getElem_toArray]); (try simp only [List.getElem_cons_succ]); (try simp only [List.getElem_cons_zero]); (try simp only [Act.put]); (try simp only [List.setIfInBounds_toArray]); (try simp only [List.set_cons_succ]); (try simp only [List.set_cons_zero])
                refine wpAnyH_ready (rs := [7]) (by kernel_rfl) (by simp) (AllReadyH.cons rfl (fun Kc hKc => ?_) AllReadyH.nil)
                refine step_app_pt rfl (.tmp 109) (.tmp 110) 24 rfl w.heap.size 44 i0 (.agg #[.int .i64 0, .int .i64 0]) 2 16 Try.underlying24 hi hz0 hz1 hz2 rfl (by decide) v5 (t + 1) _ (by simp [Act.eval]) O5.out ⟨gr, 0, none⟩ (n - t) cr (cellsR (l.drop t)) (by first | (simp [Act.eval]; done) | (simp [Act.eval]; omega)) hlen1 (R5.out.cells rfl) (cellsR_oneP _) (by unfold maxLen; omega) (by omega) B5.out.size ?_
                intro v7 w7 hown7 hg7 hloc7
                have K7 := hidP (K5.out.grownJ hg7 hl5)
                have B7 := hidP (B5.out.grown hg7 B5.out.size hl6)
                obtain ⟨g7, c7, rfl⟩ := own_some hown7 (by omega)
                have O7 : Hid (w7.ownsRow w.heap.size 44 2 (.slice (some ⟨g7, 0, none⟩) (Rr (k + 1)).length c7) (Rr (k + 1)).length (cellsR (Rr (k + 1)))) := by
                  show World.ownsRow _ _ _ _ _ _ _
                  rw [HL9.out, hINS.out, cellsR_append, cellsR_append, ← List.append_assoc]
                  exact hown7
                clear hown7 hg7 hloc7
                refine hKc.out _ _ K7.out.cc (fun hHeld => ?_)
                clear hKc Kc
                (try simp only [List.getElem_toArray]); (try simp only [List.getElem_cons_succ]); (try simp only [List.getElem_cons_zero]); (try simp only [Act.put]); (try simp only [List.setIfInBounds_toArray]); (try simp only [List.set_cons_succ]); (try simp only [List.set_cons_zero])
                refine wpAnyH_take (i := 8) (v := ?_) rfl (by kernel_rfl) (by kernel_rfl) (by kernel_rfl) (fun _ _ _ h => h) (Or.inl ⟨by kernel_rfl, ?_⟩) hHeld ?_
                rotate_left
                · intro wz hSw; obtain ⟨s0, s1⟩ := hSw; go_simp; all_goals (try with_reducible rfl)
                (try simp only [List.getElem_toArray]); (try simp only [List.getElem_cons_succ]); (try simp only [List.getElem_cons_zero]); (try simp only [Act.put]); (try simp only [List.setIfInBounds_toArray]); (try simp only [List.set_cons_succ]); (try simp only [List.set_cons_zero])
                refine wpAnyH_done (by kernel_rfl) ?_ _
                refine NoPanic.normal ?_
                clear hHeld
                go_wp2
                go_roundw
                case rel => exact ⟨g7, c7, k + 1, by omega, by go_num, by first | (rw [HL9.out]; done) | (rw [HL9.out, show t + 1 + (n - t) = t + 1 by omega]), O7.out, B7.out⟩
                case measure => simp [intOf]; omega
            · have hte : t = n := by omega
              have d0 : decide ((t : Int) < (n : Int)) = false := decide_eq_false (by omega)
              have HPOS : Hid (t < n → T < (fr l t).1) := fun h => absurd h (by omega)
              have HTE := hidP hte
              have d0n : decide (t < n) = false := decide_eq_false htl
              clear hte
              go_upto_region 12 with fail
              go_quiet (fail)
              obtain ⟨wy, hwy⟩ : ∃ u, u = wr.drewN nq := ⟨_, rfl⟩
              have hb : Below wr.heap.size wr wy := by rw [hwy]; exact below_drewN (Below.refl _ _) _
              rw [← hwy]
              replace hO := hidP (own_below hO.out hb)
              replace hK := hidP (hK.out.below hb)
              replace hB := hidP (hB.out.trans (hb.mono hB.out.size))
              clear hb hwy kb0 kb1
              obtain ⟨kb0, kb1⟩ := hK.out.cc
              go_upto_region 14 with fail
              go_quiet (fail)
              obtain ⟨wz, hwz⟩ : ∃ u, u = wy.drewN nq := ⟨_, rfl⟩
              have hb : Below wy.heap.size wy wz := by rw [hwz]; exact below_drewN (Below.refl _ _) _
              rw [← hwz]
              replace hO := hidP (own_below hO.out hb)
              replace hK := hidP (hK.out.below hb)
              replace hB := hidP (hB.out.trans (hb.mono hB.out.size))
              clear hb hwz kb0 kb1
              have hINS : Hid (Rr (k + 1) = l.take t ++ ([(T, P)] ++ l.drop t)) := by show _ = _; rw [HRK.out]; exact insP_at (by rw [HN.out]; exact htn) hlow.out (fun h => HPOS.out (by rw [← HN.out]; exact h))
              have HL9 : Hid ((Rr (k + 1)).length = t + 1 + (n - t)) := by show _ = _; rw [hINS.out, List.length_append, List.length_append, List.length_take, List.length_drop, HN.out, List.length_singleton]; omega
              have hgz2 : g < wz.heap.size := (hO.out.lt g rfl).2
              have hAz : A < wz.heap.size := hK.out.lt
              have hsz := hB.out.size
              have htnI : (t : Int) ≤ (n : Int) := by omega
              by_cases hct : c = t
              · have hct2 := hct.symm
                clear hct
                subst hct2
                have htc : t ≤ t := Nat.le_refl _
                have hW1 := bJ wz (.cells #[] 44)
                have E0 : (wz.alloc (.cells #[] 44)).ownsRow w.heap.size 44 2 (.slice (some ⟨wz.heap.size, 0, none⟩) 0 0) 0 [] := own_none wz _ hsz
                have O1 := hidP (own_below hO.out hW1)
                have K1 := hidP (hK.out.below hW1)
                have B1 := hidP (hB.out.trans (hW1.mono hsz))
                have T1 : Hid (∀ j u, (cellsR (l.drop t))[j]? = some u → (wz.alloc (.cells #[] 44)).cell? ((⟨g, 0, none⟩ : Addr).add j) = some u) := by
                  intro j u hu
                  rw [List.drop_eq_nil_of_le (by rw [HN.out, HTE.out]; exact Nat.le_refl _)] at hu
                  simp [cellsR] at hu
                have hlen1 : (cellsR (l.drop t)).length = (n - t) * 2 := by rw [cellsR_len, List.length_drop, HN.out]
                go_wp2_with (at_builtin; refine wpList_append_own_at _ rfl _ _ 24 rfl w.heap.size 44 i0 (.agg #[.int .i64 0, .int .i64 0]) 2 16 Try.underlying24 hi hz0 hz1 hz2 rfl (by decide) _ 0 [] rfl E0 ⟨g, 0, none⟩ (n - t) (t - t) (cellsR (l.drop t)) (by first | rfl | (simp [Act.eval]; done) | (simp [Act.eval]; omega)) hlen1 T1.out (cellsR_oneP _) (by unfold maxLen; omega) (by omega) B1.out.size ?_; intro vr w2 hownr hgrr hnilr hlocr)
                rw [Nat.zero_add, List.nil_append] at hownr
                obtain ⟨gr, cr, rfl, hgr1, hgr2, -, -⟩ := own_formP hownr (by intro e; exact absurd (hnilr.1 e).1 (by intro e2; cases e2))
                have hgr3 : wz.heap.size ≤ gr := by
                  rcases hlocr with e | e
                  · have e' : some gr = some wz.heap.size := e
                    injection e' with e'; omega
                  · have e' : some gr = some (wz.alloc (.cells #[] 44)).heap.size := e
                    injection e' with e'
                    have := hW1.size
                    omega
                have R2 := hidP hownr
                have O2 := hidP (O1.out.kept hgrr (.inr (by show some g ≠ some wz.heap.size; simp; omega)))
                have K2 := hidP (K1.out.grownJ hgrr (by show some wz.heap.size ≠ some A; simp; omega))
                have B2 := hidP (B1.out.grown hgrr B1.out.size (fun j e => by cases e; exact hsz))
                clear hownr hgrr hnilr hlocr O1 K1 B1 T1 E0 hW1 hO hK hB
                go_upto_region 17 with fail
                have hb : Below w2.heap.size w2 w2.drew := (Below.refl _ _).drew
                replace R2 := hidP (own_below R2.out hb)
                replace O2 := hidP (own_below O2.out hb)
                replace K2 := hidP (K2.out.below hb)
                replace B2 := hidP (B2.out.trans (hb.mono B2.out.size))
                clear hb
                refine wp_region_noPanic ?_
                refine wp_region_held_drew (S := fun W => W.cell? ⟨A, 0, none⟩ = some (.int .i64 T) ∧ W.cell? ⟨A, 1, none⟩ = some (.int .i64 P)) (by kernel_rfl) K2.out.cc (fun hHeld => ?_)
                obtain ⟨wd2, hwd2⟩ : ∃ u, u = w2.drew := ⟨_, rfl⟩
                rw [← hwd2] at R2 O2 K2 B2 hHeld ⊢
                clear hwd2
                refine wpAnyH_take (i := 0) (v := ?_) rfl (by kernel_rfl) (by kernel_rfl) (by kernel_rfl) (fun _ _ _ h => h) (Or.inl ⟨by kernel_rfl, ?_⟩) hHeld ?_
                rotate_left
                · intro wz hSw; obtain ⟨s0, s1⟩ := hSw; go_simp; all_goals (try with_reducible rfl)
                (try simp only [List.getElem_toArray]); (try simp only [List.getElem_cons_succ]); (try simp only [List.getElem_cons_zero]); (try simp only [Act.put]); (try simp only [List.setIfInBounds_toArray]); (try simp only [List.set_cons_succ]); (try simp only [List.set_cons_zero])
                refine wpAnyH_take (i := 1) (v := ?_) rfl (by kernel_rfl) (by kernel_rfl) (by kernel_rfl) (fun _ _ _ h => h) (Or.inl ⟨by kernel_rfl, ?_⟩) hHeld ?_
                rotate_left
                · intro wz hSw; obtain ⟨s0, s1⟩ := hSw; go_simp; all_goals (try with_reducible rfl)
                (try simp only [List.getElem_toArray]); (try simp only [List.getElem_cons_succ]); (try simp only [List.getElem_cons_zero]); (try simp only [Act.put]); (try simp only [List.setIfInBounds_toArray]); (try simp only [List.set_cons_succ]); (try simp only [List.set_cons_zero])
                refine wpAnyH_take (i := 2) (v := ?_) rfl (by kernel_rfl) (by kernel_rfl) (by kernel_rfl) (fun _ _ _ h => h) (Or.inl ⟨by kernel_rfl, ?_⟩) hHeld ?_
                rotate_left
                · intro wz hSw; obtain ⟨s0, s1⟩ := hSw; go_simp; all_goals (try with_reducible rfl)
                (try simp only [List.getElem_toArray]); (try simp only [List.getElem_cons_succ]); (try simp only [List.getElem_cons_zero]); (try simp only [Act.put]); (try simp only [List.setIfInBounds_toArray]); (try simp only [List.set_cons_succ]); (try simp only [List.set_cons_zero])
                refine wpAnyH_take (i := 3) (v := ?_) rfl (by kernel_rfl) (by kernel_rfl) (by kernel_rfl) (fun _ _ _ h => h) (Or.inl ⟨by kernel_rfl, ?_⟩) hHeld ?_
                rotate_left
                · intro wz hSw; obtain ⟨s0, s1⟩ := hSw; go_simp; all_goals (try with_reducible rfl)
                (try simp only [List.getElem_toArray]); (try simp only [List.getElem_cons_succ]); (try simp only [List.getElem_cons_zero]); (try simp only [Act.put]); (try simp only [List.setIfInBounds_toArray]); (try simp only [List.set_cons_succ]); (try simp only [List.set_cons_zero])
                refine wpAnyH_take (i := 6) (v := ?_) rfl (by kernel_rfl) (by kernel_rfl) (by kernel_rfl) (fun _ _ _ h => h) (Or.inl ⟨by kernel_rfl, ?_⟩) hHeld ?_
                rotate_left
                · intro wz hSw; obtain ⟨s0, s1⟩ := hSw; go_simp; all_goals (try with_reducible rfl)
                (try simp only [List.getElem_toArray]); (try simp only [List.getElem_cons_succ]); (try simp only [List.getElem_cons_zero]); (try simp only [Act.put]); (try simp only [List.setIfInBounds_toArray]); (try simp only [List.set_cons_succ]); (try simp only [List.set_cons_zero])
                refine wpAnyH_ready (rs := [4]) (by kernel_rfl) (by simp) (AllReadyH.cons rfl (fun Kc hKc => ?_) AllReadyH.nil)
                go_simp
                have hW1 := bJ wd2 (.cells #[.int .i64 T, .int .i64 P] 44)
                have R3 := hidP (own_below R2.out hW1)
                have O3 := hidP (own_below O2.out hW1)
                have K3 := hidP (K2.out.below hW1)
                have B3 := hidP (B2.out.trans (hW1.mono B2.out.size))
                clear hW1 R2 O2 K2 B2
                refine hKc.out _ _ K3.out.cc (fun hHeld => ?_)
                clear hKc Kc
                (try simp only [List.getElem_toArray]); (try simp only [List.getElem_cons_succ]); (try simp only [List.getElem_cons_zero]); (try simp only [Act.put]); (try simp only [List.setIfInBounds_toArray]); (try simp only [List.set_cons_succ]); (try simp only [List.set_cons_zero])
                have C3 := hidP (cell_twoJ wd2 (.int .i64 T) (.int .i64 P) 44)
                have hg3 : g < wd2.heap.size + 1 := by have := (O3.out.lt g rfl).2; simpa using this
                have hA3 : A < wd2.heap.size + 1 := by have := K3.out.lt; simpa using this
                refine wpAnyH_ready (rs := [5]) (by kernel_rfl) (by simp) (AllReadyH.cons rfl (fun Kc hKc => ?_) AllReadyH.nil)
                refine step_app_pt rfl (.tmp 106) (.tmp 108) 24 rfl w.heap.size 44 i0 (.agg #[.int .i64 0, .int .i64 0]) 2 16 Try.underlying24 hi hz0 hz1 hz2 rfl (by decide) (.slice (some ⟨g, 0, none⟩) t t) t (cellsR (l.take t)) (by simp [Act.eval]) (own_cutP O3.out t htn) ⟨wd2.heap.size, 0, none⟩ 1 1 [.int .i64 T, .int .i64 P] (by simp [Act.eval]) rfl C3.out (by intro u hu; simp at hu; rcases hu with rfl | rfl <;> rfl) (by unfold maxLen; omega) (by omega) B3.out.size ?_
                intro v5 w5 hown5 hg5 hloc5
                have R5 := hidP (R3.out.kept hg5 (.inr (by show some gr ≠ some g; simp; omega)))
                have K5 := hidP (K3.out.grownJ hg5 (by show some g ≠ some A; simp; omega))
                have B5 := hidP (B3.out.grown hg5 B3.out.size (fun j e => by cases e; exact hgw))
                have O5 := hidP hown5
                have hl5 : v5.ownBlock ≠ some A := by
                  intro e
                  rw [e] at hloc5
                  simp [Value.ownBlock] at hloc5
                  omega
                have hl6 : ∀ j, v5.ownBlock = some j → w.heap.size ≤ j := fun j e => (hown5.lt j e).1
                clear hown5 hg5 hloc5 R3 O3 K3 B3 C3
                refine hKc.out _ _ K5.out.cc (fun hHeld => ?_)
                clear hKc Kc
                (try simp only [List.getElem_toArray]); (try simp only [List.getElem_cons_succ]); (try simp only [List.getElem_cons_zero]); (try simp only [Act.put]); (try simp only [List.setIfInBounds_toArray]); (try simp only [List.set_cons_succ]); (try simp only [List.set_cons_zero])
                refine wpAnyH_ready (rs := [7]) (by kernel_rfl) (by simp) (AllReadyH.cons rfl (fun Kc hKc => ?_) AllReadyH.nil)
                refine step_app_pt rfl (.tmp 109) (.tmp 110) 24 rfl w.heap.size 44 i0 (.agg #[.int .i64 0, .int .i64 0]) 2 16 Try.underlying24 hi hz0 hz1 hz2 rfl (by decide) v5 (t + 1) _ (by simp [Act.eval]) O5.out ⟨gr, 0, none⟩ (n - t) cr (cellsR (l.drop t)) (by first | (simp [Act.eval]; done) | (simp [Act.eval]; omega)) hlen1 (R5.out.cells rfl) (cellsR_oneP _) (by unfold maxLen; omega) (by omega) B5.out.size ?_
                intro v7 w7 hown7 hg7 hloc7
                have K7 := hidP (K5.out.grownJ hg7 hl5)
                have B7 := hidP (B5.out.grown hg7 B5.out.size hl6)
                obtain ⟨g7, c7, rfl⟩ := own_some hown7 (by omega)
                have O7 : Hid (w7.ownsRow w.heap.size 44 2 (.slice (some ⟨g7, 0, none⟩) (Rr (k + 1)).length c7) (Rr (k + 1)).length (cellsR (Rr (k + 1)))) := by
                  show World.ownsRow _ _ _ _ _ _ _
                  rw [HL9.out, hINS.out, cellsR_append, cellsR_append, ← List.append_assoc]
                  exact hown7
                clear hown7 hg7 hloc7
                refine hKc.out _ _ K7.out.cc (fun hHeld => ?_)
                clear hKc Kc
                (try simp only [List.getElem_toArray]); (try simp only [List.getElem_cons_succ]); (try simp only [List.getElem_cons_zero]); (try simp only [Act.put]); (try simp only [List.setIfInBounds_toArray]); (try simp only [List.set_cons_succ]); (try simp only [List.set_cons_zero])
                refine wpAnyH_take (i := 8) (v := ?_) rfl (by kernel_rfl) (by kernel_rfl) (by kernel_rfl) (fun _ _ _ h => h) (Or.inl ⟨by kernel_rfl, ?_⟩) hHeld ?_
                rotate_left
                · intro wz hSw; obtain ⟨s0, s1⟩ := hSw; go_simp; all_goals (try with_reducible rfl)
                (try simp only [List.getElem_toArray]); (try simp only [List.getElem_cons_succ]); (try simp only [List.getElem_cons_zero]); (try simp only [Act.put]); (try simp only [List.setIfInBounds_toArray]); (try simp only [List.set_cons_succ]); (try simp only [List.set_cons_zero])
                refine wpAnyH_done (by kernel_rfl) ?_ _
                refine NoPanic.normal ?_
                clear hHeld
                go_wp2
                go_roundw
                case rel => exact ⟨g7, c7, k + 1, by omega, by go_num, by first | (rw [HL9.out]; done) | (rw [HL9.out, show t + 1 + (n - t) = t + 1 by omega]), O7.out, B7.out⟩
                case measure => simp [intOf]; omega
              · have HZ2 := trivial
                have htc : t ≤ c := by omega
                have hW1 := bJ wz (.cells #[] 44)
                have E0 : (wz.alloc (.cells #[] 44)).ownsRow w.heap.size 44 2 (.slice (some ⟨wz.heap.size, 0, none⟩) 0 0) 0 [] := own_none wz _ hsz
                have O1 := hidP (own_below hO.out hW1)
                have K1 := hidP (hK.out.below hW1)
                have B1 := hidP (hB.out.trans (hW1.mono hsz))
                have T1 := hidP (own_tailP O1.out t)
                have hlen1 : (cellsR (l.drop t)).length = (n - t) * 2 := by rw [cellsR_len, List.length_drop, HN.out]
                go_wp2_with (at_builtin; refine wpList_append_own_at _ rfl _ _ 24 rfl w.heap.size 44 i0 (.agg #[.int .i64 0, .int .i64 0]) 2 16 Try.underlying24 hi hz0 hz1 hz2 rfl (by decide) _ 0 [] rfl E0 ⟨g, t * 2, none⟩ (n - t) (c - t) (cellsR (l.drop t)) (by first | rfl | (simp [Act.eval]; done) | (simp [Act.eval]; omega)) hlen1 T1.out (cellsR_oneP _) (by unfold maxLen; omega) (by omega) B1.out.size ?_; intro vr w2 hownr hgrr hnilr hlocr)
                rw [Nat.zero_add, List.nil_append] at hownr
                obtain ⟨gr, cr, rfl, hgr1, hgr2, -, -⟩ := own_formP hownr (by intro e; exact absurd (hnilr.1 e).1 (by intro e2; cases e2))
                have hgr3 : wz.heap.size ≤ gr := by
                  rcases hlocr with e | e
                  · have e' : some gr = some wz.heap.size := e
                    injection e' with e'; omega
                  · have e' : some gr = some (wz.alloc (.cells #[] 44)).heap.size := e
                    injection e' with e'
                    have := hW1.size
                    omega
                have R2 := hidP hownr
                have O2 := hidP (O1.out.kept hgrr (.inr (by show some g ≠ some wz.heap.size; simp; omega)))
                have K2 := hidP (K1.out.grownJ hgrr (by show some wz.heap.size ≠ some A; simp; omega))
                have B2 := hidP (B1.out.grown hgrr B1.out.size (fun j e => by cases e; exact hsz))
                clear hownr hgrr hnilr hlocr O1 K1 B1 T1 E0 hW1 hO hK hB
                go_upto_region 17 with fail
                have hb : Below w2.heap.size w2 w2.drew := (Below.refl _ _).drew
                replace R2 := hidP (own_below R2.out hb)
                replace O2 := hidP (own_below O2.out hb)
                replace K2 := hidP (K2.out.below hb)
                replace B2 := hidP (B2.out.trans (hb.mono B2.out.size))
                clear hb
                refine wp_region_noPanic ?_
                refine wp_region_held_drew (S := fun W => W.cell? ⟨A, 0, none⟩ = some (.int .i64 T) ∧ W.cell? ⟨A, 1, none⟩ = some (.int .i64 P)) (by kernel_rfl) K2.out.cc (fun hHeld => ?_)
                obtain ⟨wd2, hwd2⟩ : ∃ u, u = w2.drew := ⟨_, rfl⟩
                rw [← hwd2] at R2 O2 K2 B2 hHeld ⊢
                clear hwd2
                refine wpAnyH_take (i := 0) (v := ?_) rfl (by kernel_rfl) (by kernel_rfl) (by kernel_rfl) (fun _ _ _ h => h) (Or.inl ⟨by kernel_rfl, ?_⟩) hHeld ?_
                rotate_left
                · intro wz hSw; obtain ⟨s0, s1⟩ := hSw; go_simp; all_goals (try with_reducible rfl)
                (try simp only [List.getElem_toArray]); (try simp only [List.getElem_cons_succ]); (try simp only [List.getElem_cons_zero]); (try simp only [Act.put]); (try simp only [List.setIfInBounds_toArray]); (try simp only [List.set_cons_succ]); (try simp only [List.set_cons_zero])
                refine wpAnyH_take (i := 1) (v := ?_) rfl (by kernel_rfl) (by kernel_rfl) (by kernel_rfl) (fun _ _ _ h => h) (Or.inl ⟨by kernel_rfl, ?_⟩) hHeld ?_
                rotate_left
                · intro wz hSw; obtain ⟨s0, s1⟩ := hSw; go_simp; all_goals (try with_reducible rfl)
                (try simp only [List.getElem_toArray]); (try simp only [List.getElem_cons_succ]); (try simp only [List.getElem_cons_zero]); (try simp only [Act.put]); (try simp only [List.setIfInBounds_toArray]); (try simp only [List.set_cons_succ]); (try simp only [List.set_cons_zero])
                refine wpAnyH_take (i := 2) (v := ?_) rfl (by kernel_rfl) (by kernel_rfl) (by kernel_rfl) (fun _ _ _ h => h) (Or.inl ⟨by kernel_rfl, ?_⟩) hHeld ?_
                rotate_left
                · intro wz hSw; obtain ⟨s0, s1⟩ := hSw; go_simp; all_goals (try with_reducible rfl)
                (try simp only [List.getElem_toArray]); (try simp only [List.getElem_cons_succ]); (try simp only [List.getElem_cons_zero]); (try simp only [Act.put]); (try simp only [List.setIfInBounds_toArray]); (try simp only [List.set_cons_succ]); (try simp only [List.set_cons_zero])
                refine wpAnyH_take (i := 3) (v := ?_) rfl (by kernel_rfl) (by kernel_rfl) (by kernel_rfl) (fun _ _ _ h => h) (Or.inl ⟨by kernel_rfl, ?_⟩) hHeld ?_
                rotate_left
                · intro wz hSw; obtain ⟨s0, s1⟩ := hSw; go_simp; all_goals (try with_reducible rfl)
                (try simp only [List.getElem_toArray]); (try simp only [List.getElem_cons_succ]); (try simp only [List.getElem_cons_zero]); (try simp only [Act.put]); (try simp only [List.setIfInBounds_toArray]); (try simp only [List.set_cons_succ]); (try simp only [List.set_cons_zero])
                refine wpAnyH_take (i := 6) (v := ?_) rfl (by kernel_rfl) (by kernel_rfl) (by kernel_rfl) (fun _ _ _ h => h) (Or.inl ⟨by kernel_rfl, ?_⟩) hHeld ?_
                rotate_left
                · intro wz hSw; obtain ⟨s0, s1⟩ := hSw; go_simp; all_goals (try with_reducible rfl)
                (try simp only [List.getElem_toArray]); (try simp only [List.getElem_cons_succ]); (try simp only [List.getElem_cons_zero]); (try simp only [Act.put]); (try simp only [List.setIfInBounds_toArray]); (try simp only [List.set_cons_succ]); (try simp only [List.set_cons_zero])
                refine wpAnyH_ready (rs := [4]) (by kernel_rfl) (by simp) (AllReadyH.cons rfl (fun Kc hKc => ?_) AllReadyH.nil)
                go_simp
                have hW1 := bJ wd2 (.cells #[.int .i64 T, .int .i64 P] 44)
                have R3 := hidP (own_below R2.out hW1)
                have O3 := hidP (own_below O2.out hW1)
                have K3 := hidP (K2.out.below hW1)
                have B3 := hidP (B2.out.trans (hW1.mono B2.out.size))
                clear hW1 R2 O2 K2 B2
                refine hKc.out _ _ K3.out.cc (fun hHeld => ?_)
                clear hKc Kc
                (try simp only [List.getElem_toArray]); (try simp only [List.getElem_cons_succ]); (try simp only [List.getElem_cons_zero]); (try simp only [Act.put]); (try simp only [List.setIfInBounds_toArray]); (try simp only [List.set_cons_succ]); (try simp only [List.set_cons_zero])
                have C3 := hidP (cell_twoJ wd2 (.int .i64 T) (.int .i64 P) 44)
                have hg3 : g < wd2.heap.size + 1 := by have := (O3.out.lt g rfl).2; simpa using this
                have hA3 : A < wd2.heap.size + 1 := by have := K3.out.lt; simpa using this
                refine wpAnyH_ready (rs := [5]) (by kernel_rfl) (by simp) (AllReadyH.cons rfl (fun Kc hKc => ?_) AllReadyH.nil)
                refine step_app_pt rfl (.tmp 106) (.tmp 108) 24 rfl w.heap.size 44 i0 (.agg #[.int .i64 0, .int .i64 0]) 2 16 Try.underlying24 hi hz0 hz1 hz2 rfl (by decide) (.slice (some ⟨g, 0, none⟩) t c) t (cellsR (l.take t)) (by simp [Act.eval]) (own_cutP O3.out t htn) ⟨wd2.heap.size, 0, none⟩ 1 1 [.int .i64 T, .int .i64 P] (by simp [Act.eval]) rfl C3.out (by intro u hu; simp at hu; rcases hu with rfl | rfl <;> rfl) (by unfold maxLen; omega) (by omega) B3.out.size ?_
                intro v5 w5 hown5 hg5 hloc5
                have R5 := hidP (R3.out.kept hg5 (.inr (by show some gr ≠ some g; simp; omega)))
                have K5 := hidP (K3.out.grownJ hg5 (by show some g ≠ some A; simp; omega))
                have B5 := hidP (B3.out.grown hg5 B3.out.size (fun j e => by cases e; exact hgw))
                have O5 := hidP hown5
                have hl5 : v5.ownBlock ≠ some A := by
                  intro e
                  rw [e] at hloc5
                  simp [Value.ownBlock] at hloc5
                  omega
                have hl6 : ∀ j, v5.ownBlock = some j → w.heap.size ≤ j := fun j e => (hown5.lt j e).1
                clear hown5 hg5 hloc5 R3 O3 K3 B3 C3
                refine hKc.out _ _ K5.out.cc (fun hHeld => ?_)
                clear hKc Kc
                (try simp only [List.getElem_toArray]); (try simp only [List.getElem_cons_succ]); (try simp only [List.getElem_cons_zero]); (try simp only [Act.put]); (try simp only [List.setIfInBounds_toArray]); (try simp only [List.set_cons_succ]); (try simp only [List.set_cons_zero])
                refine wpAnyH_ready (rs := [7]) (by kernel_rfl) (by simp) (AllReadyH.cons rfl (fun Kc hKc => ?_) AllReadyH.nil)
                refine step_app_pt rfl (.tmp 109) (.tmp 110) 24 rfl w.heap.size 44 i0 (.agg #[.int .i64 0, .int .i64 0]) 2 16 Try.underlying24 hi hz0 hz1 hz2 rfl (by decide) v5 (t + 1) _ (by simp [Act.eval]) O5.out ⟨gr, 0, none⟩ (n - t) cr (cellsR (l.drop t)) (by first | (simp [Act.eval]; done) | (simp [Act.eval]; omega)) hlen1 (R5.out.cells rfl) (cellsR_oneP _) (by unfold maxLen; omega) (by omega) B5.out.size ?_
                intro v7 w7 hown7 hg7 hloc7
                have K7 := hidP (K5.out.grownJ hg7 hl5)
                have B7 := hidP (B5.out.grown hg7 B5.out.size hl6)
                obtain ⟨g7, c7, rfl⟩ := own_some hown7 (by omega)
                have O7 : Hid (w7.ownsRow w.heap.size 44 2 (.slice (some ⟨g7, 0, none⟩) (Rr (k + 1)).length c7) (Rr (k + 1)).length (cellsR (Rr (k + 1)))) := by
                  show World.ownsRow _ _ _ _ _ _ _
                  rw [HL9.out, hINS.out, cellsR_append, cellsR_append, ← List.append_assoc]
                  exact hown7
                clear hown7 hg7 hloc7
                refine hKc.out _ _ K7.out.cc (fun hHeld => ?_)
                clear hKc Kc
                (try simp only [List.getElem_toArray]); (try simp only [List.getElem_cons_succ]); (try simp only [List.getElem_cons_zero]); (try simp only [Act.put]); (try simp only [List.setIfInBounds_toArray]); (try simp only [List.set_cons_succ]); (try simp only [List.set_cons_zero])
                refine wpAnyH_take (i := 8) (v := ?_) rfl (by kernel_rfl) (by kernel_rfl) (by kernel_rfl) (fun _ _ _ h => h) (Or.inl ⟨by kernel_rfl, ?_⟩) hHeld ?_
                rotate_left
                · intro wz hSw; obtain ⟨s0, s1⟩ := hSw; go_simp; all_goals (try with_reducible rfl)
                (try simp only [List.getElem_toArray]); (try simp only [List.getElem_cons_succ]); (try simp only [List.getElem_cons_zero]); (try simp only [Act.put]); (try simp only [List.setIfInBounds_toArray]); (try simp only [List.set_cons_succ]); (try simp only [List.set_cons_zero])
                refine wpAnyH_done (by kernel_rfl) ?_ _
                refine NoPanic.normal ?_
                clear hHeld
                go_wp2
                go_roundw
                case rel => exact ⟨g7, c7, k + 1, by omega, by go_num, by first | (rw [HL9.out]; done) | (rw [HL9.out, show t + 1 + (n - t) = t + 1 by omega]), O7.out, B7.out⟩
                case measure => simp [intOf]; omega
        · obtain rfl : k = Lb := by omega
          have hO1 := hO.out
          rw [← HRE.out] at hO1 ⊢
          have hO2 := hidP hO1
          clear hO hO1
          go_wp2
          go_roundw
          case rel => exact ⟨g, c, i + 1, by omega, by go_num, rfl, hO2.out, hB.out⟩
          case measure => simp [intOf]; omega
    · obtain rfl : i = La := by omega
      have hc : (S i).length ≤ c ∧ c ≤ maxLen := by
        obtain ⟨g', c', e, -, -, h1, h2⟩ := own_formP hO.out (by intro e; cases e)
        cases e; exact ⟨h1, h2⟩
      have hrd := hidP (RdR.ownQ hO.out).1
      have HC := hidP (CSP.out _ (S i) wr hrd.out)
      rw [← HQJ2.out] at HC
      go_wp2_with fail
      refine HC.out.mono ?_
      rintro e w9 ⟨rfl, h9⟩
      replace hO := hidP (own_below hO.out h9)
      have B1 := hidP (hB.out.trans (h9.mono hB.out.size))
      clear h9 hrd HC hB
      cases qj
      · have HF : Hid (joiO us vs = false) := by show _ = _; rw [HJO.out]; rfl
        have HN := hidP (joiA_no HF.out)
        go_wp2
        refine bodyPost_ret (v := .tuple #[.slice (some ⟨w9.heap.size, 0, none⟩) 0 0, .bool false]) (by simp [results, Try.results9, go_sem]) rfl ⟨.slice (some ⟨w9.heap.size, 0, none⟩) 0 0, ret_qb HF.out.symm, ?_, B1.out.alloc B1.out.size _⟩
        rw [HN.out]
        exact own_none _ _ B1.out.size
      · have HF : Hid (joiO us vs = true) := by show _ = _; rw [HJO.out]; rfl
        have HN : Hid (joiA us vs = S i) := by show _ = _; rw [joiA_yes HF.out, HS.out, ← HLA.out]
        go_wp2
        refine bodyPost_ret (v := .tuple #[.slice (some ⟨g, 0, none⟩) (S i).length c, .bool true]) (by simp [results, Try.results9, go_sem]) rfl ⟨.slice (some ⟨g, 0, none⟩) (S i).length c, ret_qb HF.out.symm, ?_, B1.out⟩
        rw [HN.out]
        exact hO.out
  end Go.Proofs.Ytgboaeokbglgdaa
