/- The walks of the program's weighted means and of its Mean. -/
import Derived.Test.YtgboaeokbglgdaaPtI1
import Derived.Test.YtgboaeokbglgdaaPtW3
namespace Go.Proofs.Ytgboaeokbglgdaa
open Go.RowKit Go.Proofs.Ytgboaeokbglgdaa.RM

def wmO (ps : List Fr) (p : Nat) : Bool := sprB ps && (momA ps p).2
def wmA (ps : List Fr) (p : Nat) : Fr := if sprB ps = true then (momA ps p).1 else (0, 0)
/-- a place, or its square -/
def plP (x : Int) : Nat → Int
  | 0 => 1
  | 1 => x
  | _ => x * x
theorem pwS_at {y x : Int} {n : Nat} (h : n ≤ 2) (h1 : 1 ≤ n) : pwS y x n = y * plP x n := by
  match n, h with
  | 1, _ => rfl
  | 2, _ => show y * x * x = y * (x * x); rw [Int.mul_assoc]
theorem plP_in {x : Int} {n : Nat} (h : n ≤ 2) (h1 : 1 ≤ n) (hx : -1000 ≤ x ∧ x ≤ 1000) : -1000000 ≤ plP x n ∧ plP x n ≤ 1000000 := by
  match n, h with
  | 1, _ => show _ ≤ x ∧ x ≤ _; omega
  | 2, _ => have := mul_in (a := x) (b := x) (A := 1000) (B := 1000) (by omega) (by omega) (by omega) (by omega); show _ ≤ x * x ∧ x * x ≤ _; omega

theorem iAt1_any (x : Int) (w : World) (hx : -1000 ≤ x ∧ x ≤ 1000) :
    Calls Try.prog 22 #[.int .i64 x] w fun e w' => e = .returned (.int .i64 (plP x 1)) ∧ w' = w := by
  obtain ⟨h1, h2⟩ := hx
  go_enter Try.func22, Try.ntmps22
  go_wp2
  go_ret
  exact ⟨rfl, rfl⟩

set_option maxRecDepth 100000 in
set_option maxHeartbeats 4000000 in
theorem iWm1_any (v : Value) (ps : List Fr) (w : World) (h : RdR w v ps) :
    Calls Try.prog 21 #[v, .func (.func 22) #[] #[]] w fun e w' => e = .returned (.tuple #[.agg #[.int .i64 (wmA ps 1).1, .int .i64 (wmA ps 1).2], .bool (wmO ps 1)]) ∧ Below w.heap.size w w' := by
  have HS := hidP (fun W (hW : Below w.heap.size w W) => iSpr_any v ps W (h.below hW))
  have HW := hidP (fun W (hW : Below w.heap.size w W) => iWeight_any v ps W (h.below hW))
  obtain ⟨a, c, rfl, h2, h3, h4, h5⟩ := h
  have H5 : Hid (∀ j, j < ps.length → ∃ b off, a = some ⟨b, off, none⟩ ∧ w.cell? ⟨b, off + j * 2, none⟩ = some (.int .i64 (fr ps j).1) ∧ w.cell? ⟨b, off + j * 2 + 1, none⟩ = some (.int .i64 (fr ps j).2)) := h5
  unfold maxLen at h2
  obtain ⟨q, hq⟩ : ∃ q, q = sprB ps := ⟨_, rfl⟩
  rw [← hq] at HS
  have HQ := hidP hq
  have hwg : Hid (q = true → wgtA ps = wtS ps ps.length) := fun e => by unfold wgtA; rw [← hq, e]; rfl
  have hPP : Hid (q = true → ps.length ≤ 40 ∧ ∀ k, k < ps.length → ptP ps k) := fun e => by have := sprB_out (ps := ps) (by rw [← hq]; exact e); exact ⟨this.1.2, this.2.1⟩
  obtain ⟨L, hL⟩ : ∃ L, L = ps.length := ⟨_, rfl⟩
  have HL := hidP hL
  rw [← hL] at h2 H5 HS HW hPP ⊢
  clear h5 h3 h4 hL hq
  have BB : Below w.heap.size w (w.alloc (.cells #[.int .i64 0, .int .i64 0] 30)) := (Below.refl _ _).alloc (Nat.le_refl _) _
  have ZR := IsR.new w 0 0
  go_enter Try.func21, Try.ntmps21
  go_wp2_with fail
  refine (HS.out _ BB).mono ?_
  rintro e w1 ⟨rfl, hb⟩
  replace ZR := ZR.below hb
  replace BB := BB.trans (hb.mono BB.size)
  clear hb HS
  cases q
  · have HA : Hid (wmA ps 1 = (0, 0)) := by show _ = _; unfold wmA; rw [← HQ.out]; rfl
    have HO : Hid (wmO ps 1 = false) := by show _ = _; unfold wmO; rw [← HQ.out]; rfl
    have z0 := ZR.c0
    have z1 := ZR.c1
    have z2 := ZR.f0
    have z3 := ZR.f1
    go_wp2
    exact bodyPost_ret (v := .tuple #[.agg #[.int .i64 0, .int .i64 0], .bool false]) (by simp [results, Try.results21, go_sem, z0, z1]) rfl ⟨ret_fb9 (by rw [HA.out]) (by rw [HA.out]) HO.out.symm, (BB.setCell (p := ⟨w.heap.size, 0, none⟩) (Nat.le_refl _) _).setCell (p := ⟨w.heap.size, 1, none⟩) (Nat.le_refl _) _⟩
  have HP : Hid (L ≤ 40 ∧ ∀ k, k < L → ptP ps k) := hPP.out rfl
  have HA : Hid (wmA ps 1 = (momA ps 1).1) := by show _ = _; unfold wmA; rw [← HQ.out]; rfl
  have HO : Hid (wmO ps 1 = (momA ps 1).2) := by show _ = _; unfold wmO; rw [← HQ.out]; rfl
  have hL40 := HP.out.1
  rw [hwg.out rfl] at HW
  have HRD := hidP (fun W => iRed_any (momS ps 1 ps.length) (wtS ps ps.length) W)
  obtain ⟨⟨⟨m1, m2⟩, mo⟩, hm⟩ : ∃ z, z = momA ps 1 := ⟨_, rfl⟩
  have e1 : redN (momS ps 1 ps.length) (wtS ps ps.length) = m1 := congrArg (fun z : Fr × Bool => z.1.1) hm.symm
  have e2 : redD (momS ps 1 ps.length) (wtS ps ps.length) = m2 := congrArg (fun z : Fr × Bool => z.1.2) hm.symm
  have e3 : redOk (momS ps 1 ps.length) (wtS ps ps.length) = mo := congrArg (fun z : Fr × Bool => z.2) hm.symm
  rw [e1, e2, e3] at HRD
  rw [← hm] at HA HO
  obtain ⟨M, hM⟩ : ∃ M, M = momS ps 1 := ⟨_, rfl⟩
  have HM0 : Hid (M 0 = 0) := by show _ = _; rw [hM]; rfl
  have HMS : Hid (∀ k, M (k + 1) = M k + (fr ps k).2 * plP (fr ps k).1 1) := by intro k; rw [← pwS_at (by decide) (by decide), hM]; rfl
  have HMI : Hid (∀ k, k ≤ L → -40000000000000 ≤ M k ∧ M k ≤ 40000000000000) := by
    intro k hk
    have := momS_in (ps := ps) (p := 1) (by decide) (k := k) (fun j hj => HP.out.2 j (by omega))
    rw [← hM] at this
    omega
  obtain ⟨T, hT⟩ : ∃ T, T = wtS ps ps.length := ⟨_, rfl⟩
  rw [← hT] at HW HRD
  rw [← hM, ← HL.out] at HRD
  clear e1 e2 e3 hm hM hT hwg hPP
  obtain ⟨Rb, hRb⟩ : ∃ R, R = w.heap.size := ⟨_, rfl⟩
  have hwR : w.heap.size ≤ Rb := by omega
  rw [← hRb] at ZR ⊢
  clear hRb
  have ZH := hidP ZR
  have BH := hidP BB
  clear ZR BB
  go_wp2
  go_loopw [6, 15] (fun s i wr => ∃ k : Nat, k ≤ L ∧ i = .int .i64 k ∧ s = .int .i64 (M k) ∧ Hid (IsR wr Rb 0 0) ∧ Hid (Below w.heap.size w wr)) (fun _ i _ => L - (intOf i).toNat)
  case atStart => exact ⟨0, Nat.zero_le _, rfl, by rw [HM0.out], ZH.out, BH.out⟩
  case round =>
    clear ZH BH
    obtain ⟨k, hk, rfl, rfl, hZ, hB⟩ := hrel
    by_cases hlt : k < L
    · obtain ⟨b, off, rfl, c1, c2⟩ := H5.out k hlt
      have hp1 := (HP.out.2 k hlt).1
      have hp2 := (HP.out.2 k hlt).2.1
      replace c1 := cell_keep hB.out c1
      replace c2 := cell_keep hB.out c2
      have hq := HMS.out k
      have hmi := HMI.out k (by omega)
      have hmj := HMI.out (k + 1) (by omega)
      rw [hq] at hmj
      obtain ⟨q, hqq⟩ : ∃ q, q = fr ps k := ⟨_, rfl⟩
      rw [← hqq] at c1 c2 hp1 hp2 hq hmj
      obtain ⟨x, y⟩ := q
      dsimp only at c1 c2 hp1 hp2 hq hmj
      have HN := hidP hq
      obtain ⟨s, hs⟩ : ∃ s, s = M k := ⟨_, rfl⟩
      rw [← hs] at hmi hmj HN ⊢
      have HF := hidP (fun W => iAt1_any x W hp1)
      have hf := plP_in (x := x) (n := 1) (by decide) (by decide) hp1
      obtain ⟨f, hff⟩ : ∃ f, f = plP x 1 := ⟨_, rfl⟩
      rw [← hff] at hmj HN HF hf
      have hyf := mul_in (a := y) (b := f) (A := 1000000) (B := 1000000) (by omega) (by omega) (by omega) (by omega)
      obtain ⟨yf, hyy⟩ : ∃ z, z = y * f := ⟨_, rfl⟩
      have hyy' : y * f = yf := hyy.symm
      rw [hyy'] at hmj hyf HN
      clear hqq hq hs hff hp1 hp2 hf hyy
      go_upto_region 7 with fail
      have hb : Below wr.heap.size wr (wr.alloc (.cells #[.int .i64 x, .int .i64 y] 44)) := (Below.refl _ _).alloc (Nat.le_refl _) _
      obtain ⟨X, hX⟩ : ∃ X, X = wr.alloc (.cells #[.int .i64 x, .int .i64 y] 44) := ⟨_, rfl⟩
      obtain ⟨Pb, hPb⟩ : ∃ P, P = wr.heap.size := ⟨_, rfl⟩
      have p1 : X.cell? ⟨Pb, 0, none⟩ = some (.int .i64 x) := by rw [hX, hPb]; simp [go_sem]
      have p2 : X.cell? ⟨Pb, 1, none⟩ = some (.int .i64 y) := by rw [hX, hPb]; simp [go_sem]
      rw [← hX] at hb
      rw [← hX, ← hPb]
      replace hZ := hidP (hZ.out.below hb)
      replace hB := hidP (hB.out.trans (hb.mono hB.out.size))
      clear hX hPb hb c1 c2
      go_quiet (with_reducible exact Calls.quiet_of_same (HF.out _))
      go_wp2
      go_roundw
      case rel => exact ⟨k + 1, by omega, by go_num, by rw [HN.out], by first | exact hZ.out | exact hZ.out.below (below_drewN (Below.refl _ _) _), by first | exact hB.out | exact below_drewN hB.out _⟩
      case measure => simp [intOf]; omega
    · obtain rfl : k = L := by omega
      have BK : Below w.heap.size w wr := hB.out
      have ZK : IsR wr Rb 0 0 := hZ.out
      clear hB hZ
      go_wp2_with fail
      refine (HW.out _ BK).mono ?_
      rintro e w2 ⟨rfl, hb⟩
      replace ZK := ZK.below hb
      replace BK := BK.trans (hb.mono BK.size)
      clear hb
      go_wp2_with fail
      refine (HRD.out _).mono ?_
      rintro e w3 ⟨rfl, hb⟩
      replace ZK := ZK.below hb
      replace BK := BK.trans (hb.mono BK.size)
      have z0 := ZK.c0
      have z1 := ZK.c1
      have z2 := ZK.f0
      have z3 := ZK.f1
      clear hb
      go_wp2
      exact bodyPost_ret (v := .tuple #[.agg #[.int .i64 m1, .int .i64 m2], .bool mo]) (by simp [results, Try.results21, go_sem, z0, z1]) rfl ⟨ret_fb9 (by rw [HA.out]) (by rw [HA.out]) HO.out.symm, (BK.setCell (p := ⟨Rb, 0, none⟩) hwR _).setCell (p := ⟨Rb, 1, none⟩) hwR _⟩

theorem iAt2_any (x : Int) (w : World) (hx : -1000 ≤ x ∧ x ≤ 1000) :
    Calls Try.prog 23 #[.int .i64 x] w fun e w' => e = .returned (.int .i64 (plP x 2)) ∧ w' = w := by
  have hq := mul_in (a := x) (b := x) (A := 1000) (B := 1000) (by omega) (by omega) (by omega) (by omega)
  obtain ⟨h1, h2⟩ := hq
  go_enter Try.func23, Try.ntmps23
  go_wp2
  go_ret
  exact ⟨rfl, rfl⟩

set_option maxRecDepth 100000 in
set_option maxHeartbeats 4000000 in
theorem iWm2_any (v : Value) (ps : List Fr) (w : World) (h : RdR w v ps) :
    Calls Try.prog 21 #[v, .func (.func 23) #[] #[]] w fun e w' => e = .returned (.tuple #[.agg #[.int .i64 (wmA ps 2).1, .int .i64 (wmA ps 2).2], .bool (wmO ps 2)]) ∧ Below w.heap.size w w' := by
  have HS := hidP (fun W (hW : Below w.heap.size w W) => iSpr_any v ps W (h.below hW))
  have HW := hidP (fun W (hW : Below w.heap.size w W) => iWeight_any v ps W (h.below hW))
  obtain ⟨a, c, rfl, h2, h3, h4, h5⟩ := h
  have H5 : Hid (∀ j, j < ps.length → ∃ b off, a = some ⟨b, off, none⟩ ∧ w.cell? ⟨b, off + j * 2, none⟩ = some (.int .i64 (fr ps j).1) ∧ w.cell? ⟨b, off + j * 2 + 1, none⟩ = some (.int .i64 (fr ps j).2)) := h5
  unfold maxLen at h2
  obtain ⟨q, hq⟩ : ∃ q, q = sprB ps := ⟨_, rfl⟩
  rw [← hq] at HS
  have HQ := hidP hq
  have hwg : Hid (q = true → wgtA ps = wtS ps ps.length) := fun e => by unfold wgtA; rw [← hq, e]; rfl
  have hPP : Hid (q = true → ps.length ≤ 40 ∧ ∀ k, k < ps.length → ptP ps k) := fun e => by have := sprB_out (ps := ps) (by rw [← hq]; exact e); exact ⟨this.1.2, this.2.1⟩
  obtain ⟨L, hL⟩ : ∃ L, L = ps.length := ⟨_, rfl⟩
  have HL := hidP hL
  rw [← hL] at h2 H5 HS HW hPP ⊢
  clear h5 h3 h4 hL hq
  have BB : Below w.heap.size w (w.alloc (.cells #[.int .i64 0, .int .i64 0] 30)) := (Below.refl _ _).alloc (Nat.le_refl _) _
  have ZR := IsR.new w 0 0
  go_enter Try.func21, Try.ntmps21
  go_wp2_with fail
  refine (HS.out _ BB).mono ?_
  rintro e w1 ⟨rfl, hb⟩
  replace ZR := ZR.below hb
  replace BB := BB.trans (hb.mono BB.size)
  clear hb HS
  cases q
  · have HA : Hid (wmA ps 2 = (0, 0)) := by show _ = _; unfold wmA; rw [← HQ.out]; rfl
    have HO : Hid (wmO ps 2 = false) := by show _ = _; unfold wmO; rw [← HQ.out]; rfl
    have z0 := ZR.c0
    have z1 := ZR.c1
    have z2 := ZR.f0
    have z3 := ZR.f1
    go_wp2
    exact bodyPost_ret (v := .tuple #[.agg #[.int .i64 0, .int .i64 0], .bool false]) (by simp [results, Try.results21, go_sem, z0, z1]) rfl ⟨ret_fb9 (by rw [HA.out]) (by rw [HA.out]) HO.out.symm, (BB.setCell (p := ⟨w.heap.size, 0, none⟩) (Nat.le_refl _) _).setCell (p := ⟨w.heap.size, 1, none⟩) (Nat.le_refl _) _⟩
  have HP : Hid (L ≤ 40 ∧ ∀ k, k < L → ptP ps k) := hPP.out rfl
  have HA : Hid (wmA ps 2 = (momA ps 2).1) := by show _ = _; unfold wmA; rw [← HQ.out]; rfl
  have HO : Hid (wmO ps 2 = (momA ps 2).2) := by show _ = _; unfold wmO; rw [← HQ.out]; rfl
  have hL40 := HP.out.1
  rw [hwg.out rfl] at HW
  have HRD := hidP (fun W => iRed_any (momS ps 2 ps.length) (wtS ps ps.length) W)
  obtain ⟨⟨⟨m1, m2⟩, mo⟩, hm⟩ : ∃ z, z = momA ps 2 := ⟨_, rfl⟩
  have e1 : redN (momS ps 2 ps.length) (wtS ps ps.length) = m1 := congrArg (fun z : Fr × Bool => z.1.1) hm.symm
  have e2 : redD (momS ps 2 ps.length) (wtS ps ps.length) = m2 := congrArg (fun z : Fr × Bool => z.1.2) hm.symm
  have e3 : redOk (momS ps 2 ps.length) (wtS ps ps.length) = mo := congrArg (fun z : Fr × Bool => z.2) hm.symm
  rw [e1, e2, e3] at HRD
  rw [← hm] at HA HO
  obtain ⟨M, hM⟩ : ∃ M, M = momS ps 2 := ⟨_, rfl⟩
  have HM0 : Hid (M 0 = 0) := by show _ = _; rw [hM]; rfl
  have HMS : Hid (∀ k, M (k + 1) = M k + (fr ps k).2 * plP (fr ps k).1 2) := by intro k; rw [← pwS_at (by decide) (by decide), hM]; rfl
  have HMI : Hid (∀ k, k ≤ L → -40000000000000 ≤ M k ∧ M k ≤ 40000000000000) := by
    intro k hk
    have := momS_in (ps := ps) (p := 2) (by decide) (k := k) (fun j hj => HP.out.2 j (by omega))
    rw [← hM] at this
    omega
  obtain ⟨T, hT⟩ : ∃ T, T = wtS ps ps.length := ⟨_, rfl⟩
  rw [← hT] at HW HRD
  rw [← hM, ← HL.out] at HRD
  clear e1 e2 e3 hm hM hT hwg hPP
  obtain ⟨Rb, hRb⟩ : ∃ R, R = w.heap.size := ⟨_, rfl⟩
  have hwR : w.heap.size ≤ Rb := by omega
  rw [← hRb] at ZR ⊢
  clear hRb
  have ZH := hidP ZR
  have BH := hidP BB
  clear ZR BB
  go_wp2
  go_loopw [6, 15] (fun s i wr => ∃ k : Nat, k ≤ L ∧ i = .int .i64 k ∧ s = .int .i64 (M k) ∧ Hid (IsR wr Rb 0 0) ∧ Hid (Below w.heap.size w wr)) (fun _ i _ => L - (intOf i).toNat)
  case atStart => exact ⟨0, Nat.zero_le _, rfl, by rw [HM0.out], ZH.out, BH.out⟩
  case round =>
    clear ZH BH
    obtain ⟨k, hk, rfl, rfl, hZ, hB⟩ := hrel
    by_cases hlt : k < L
    · obtain ⟨b, off, rfl, c1, c2⟩ := H5.out k hlt
      have hp1 := (HP.out.2 k hlt).1
      have hp2 := (HP.out.2 k hlt).2.1
      replace c1 := cell_keep hB.out c1
      replace c2 := cell_keep hB.out c2
      have hq := HMS.out k
      have hmi := HMI.out k (by omega)
      have hmj := HMI.out (k + 1) (by omega)
      rw [hq] at hmj
      obtain ⟨q, hqq⟩ : ∃ q, q = fr ps k := ⟨_, rfl⟩
      rw [← hqq] at c1 c2 hp1 hp2 hq hmj
      obtain ⟨x, y⟩ := q
      dsimp only at c1 c2 hp1 hp2 hq hmj
      have HN := hidP hq
      obtain ⟨s, hs⟩ : ∃ s, s = M k := ⟨_, rfl⟩
      rw [← hs] at hmi hmj HN ⊢
      have HF := hidP (fun W => iAt2_any x W hp1)
      have hf := plP_in (x := x) (n := 2) (by decide) (by decide) hp1
      obtain ⟨f, hff⟩ : ∃ f, f = plP x 2 := ⟨_, rfl⟩
      rw [← hff] at hmj HN HF hf
      have hyf := mul_in (a := y) (b := f) (A := 1000000) (B := 1000000) (by omega) (by omega) (by omega) (by omega)
      obtain ⟨yf, hyy⟩ : ∃ z, z = y * f := ⟨_, rfl⟩
      have hyy' : y * f = yf := hyy.symm
      rw [hyy'] at hmj hyf HN
      clear hqq hq hs hff hp1 hp2 hf hyy
      go_upto_region 7 with fail
      have hb : Below wr.heap.size wr (wr.alloc (.cells #[.int .i64 x, .int .i64 y] 44)) := (Below.refl _ _).alloc (Nat.le_refl _) _
      obtain ⟨X, hX⟩ : ∃ X, X = wr.alloc (.cells #[.int .i64 x, .int .i64 y] 44) := ⟨_, rfl⟩
      obtain ⟨Pb, hPb⟩ : ∃ P, P = wr.heap.size := ⟨_, rfl⟩
      have p1 : X.cell? ⟨Pb, 0, none⟩ = some (.int .i64 x) := by rw [hX, hPb]; simp [go_sem]
      have p2 : X.cell? ⟨Pb, 1, none⟩ = some (.int .i64 y) := by rw [hX, hPb]; simp [go_sem]
      rw [← hX] at hb
      rw [← hX, ← hPb]
      replace hZ := hidP (hZ.out.below hb)
      replace hB := hidP (hB.out.trans (hb.mono hB.out.size))
      clear hX hPb hb c1 c2
      go_quiet (with_reducible exact Calls.quiet_of_same (HF.out _))
      go_wp2
      go_roundw
      case rel => exact ⟨k + 1, by omega, by go_num, by rw [HN.out], by first | exact hZ.out | exact hZ.out.below (below_drewN (Below.refl _ _) _), by first | exact hB.out | exact below_drewN hB.out _⟩
      case measure => simp [intOf]; omega
    · obtain rfl : k = L := by omega
      have BK : Below w.heap.size w wr := hB.out
      have ZK : IsR wr Rb 0 0 := hZ.out
      clear hB hZ
      go_wp2_with fail
      refine (HW.out _ BK).mono ?_
      rintro e w2 ⟨rfl, hb⟩
      replace ZK := ZK.below hb
      replace BK := BK.trans (hb.mono BK.size)
      clear hb
      go_wp2_with fail
      refine (HRD.out _).mono ?_
      rintro e w3 ⟨rfl, hb⟩
      replace ZK := ZK.below hb
      replace BK := BK.trans (hb.mono BK.size)
      have z0 := ZK.c0
      have z1 := ZK.c1
      have z2 := ZK.f0
      have z3 := ZK.f1
      clear hb
      go_wp2
      exact bodyPost_ret (v := .tuple #[.agg #[.int .i64 m1, .int .i64 m2], .bool mo]) (by simp [results, Try.results21, go_sem, z0, z1]) rfl ⟨ret_fb9 (by rw [HA.out]) (by rw [HA.out]) HO.out.symm, (BK.setCell (p := ⟨Rb, 0, none⟩) hwR _).setCell (p := ⟨Rb, 1, none⟩) hwR _⟩

theorem men_wm (ps : List Fr) : menA ps = wmA ps 1 ∧ menO ps = wmO ps 1 := ⟨rfl, rfl⟩

set_option maxHeartbeats 1000000 in
theorem iMean_any (v : Value) (ps : List Fr) (w : World) (h : RdR w v ps) :
    Calls Try.prog 7 #[v] w fun e w' => e = .returned (.tuple #[.agg #[.int .i64 (menA ps).1, .int .i64 (menA ps).2], .bool (menO ps)]) ∧ Below w.heap.size w w' := by
  have HI := hidP (fun W (hW : Below w.heap.size w W) => iWm1_any v ps W (h.below hW))
  rw [← (men_wm ps).1, ← (men_wm ps).2] at HI
  obtain ⟨⟨m1, m2⟩, hm⟩ : ∃ z, z = menA ps := ⟨_, rfl⟩
  obtain ⟨mo, hmo⟩ : ∃ z, z = menO ps := ⟨_, rfl⟩
  rw [← hm, ← hmo] at HI ⊢
  dsimp only at HI ⊢
  clear hm hmo
  obtain ⟨a, c, rfl, _⟩ := h
  have BB : Below w.heap.size w (w.alloc (.cells #[.int .i64 0, .int .i64 0] 30)) := (Below.refl _ _).alloc (Nat.le_refl _) _
  have ZR := IsR.new w 0 0
  go_enter Try.func7, Try.ntmps7
  go_wp2_with fail
  refine (HI.out _ BB).mono ?_
  rintro e w1 ⟨rfl, hb⟩
  replace ZR := ZR.below hb
  replace BB := BB.trans (hb.mono BB.size)
  have z0 := ZR.c0
  have z1 := ZR.c1
  have z2 := ZR.f0
  have z3 := ZR.f1
  clear hb
  go_wp2
  exact bodyPost_ret (v := .tuple #[.agg #[.int .i64 m1, .int .i64 m2], .bool mo]) (by simp [results, Try.results7, go_sem, z0, z1]) rfl ⟨rfl, (BB.setCell (p := ⟨w.heap.size, 0, none⟩) (Nat.le_refl _) _).setCell (p := ⟨w.heap.size, 1, none⟩) (Nat.le_refl _) _⟩
end Go.Proofs.Ytgboaeokbglgdaa
