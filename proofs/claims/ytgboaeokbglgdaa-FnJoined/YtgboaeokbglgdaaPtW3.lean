/- The walks of the model's moments and of its Mean. -/
import Derived.Test.YtgboaeokbglgdaaPtW2
import Derived.Test.YtgboaeokbglgdaaRatioW5
namespace Go.Proofs.Ytgboaeokbglgdaa
open Go.RowKit Go.Proofs.Ytgboaeokbglgdaa.RM

/-- y times the n-th power of x -/
def pwS (y x : Int) : Nat → Int
  | 0 => y
  | n + 1 => pwS y x n * x
/-- the sum of the first k weights times a power of their places -/
def momS (ps : List Fr) (p : Nat) : Nat → Int
  | 0 => 0
  | k + 1 => momS ps p k + pwS (fr ps k).2 (fr ps k).1 p
theorem mul_in {a b A B : Int} (h1 : -A ≤ a) (h2 : a ≤ A) (h3 : -B ≤ b) (h4 : b ≤ B) : -(A * B) ≤ a * b ∧ a * b ≤ A * B := by
  have e1 := Int.mul_nonneg (show 0 ≤ A - a by omega) (show 0 ≤ B + b by omega)
  have e2 := Int.mul_nonneg (show 0 ≤ A + a by omega) (show 0 ≤ B - b by omega)
  have e3 := Int.mul_nonneg (show 0 ≤ A - a by omega) (show 0 ≤ B - b by omega)
  have e4 := Int.mul_nonneg (show 0 ≤ A + a by omega) (show 0 ≤ B + b by omega)
  have d1 : (A - a) * (B + b) = A * B + A * b - a * B - a * b := by rw [Int.sub_mul, Int.mul_add, Int.mul_add]; omega
  have d2 : (A + a) * (B - b) = A * B - A * b + a * B - a * b := by rw [Int.add_mul, Int.mul_sub, Int.mul_sub]; omega
  have d3 : (A - a) * (B - b) = A * B - A * b - a * B + a * b := by rw [Int.sub_mul, Int.mul_sub, Int.mul_sub]; omega
  have d4 : (A + a) * (B + b) = A * B + A * b + a * B + a * b := by rw [Int.add_mul, Int.mul_add, Int.mul_add]; omega
  constructor <;> omega
theorem pwS_in {y x : Int} (hy : 1 ≤ y ∧ y ≤ 1000000) (hx : -1000 ≤ x ∧ x ≤ 1000) : ∀ {n : Nat}, n ≤ 2 → -1000000000000 ≤ pwS y x n ∧ pwS y x n ≤ 1000000000000
  | 0, _ => by show _ ≤ y ∧ y ≤ _; omega
  | 1, _ => by
    have := mul_in (a := y) (b := x) (A := 1000000) (B := 1000) (by omega) (by omega) (by omega) (by omega)
    show _ ≤ y * x ∧ y * x ≤ _; omega
  | 2, _ => by
    have h1 := mul_in (a := y) (b := x) (A := 1000000) (B := 1000) (by omega) (by omega) (by omega) (by omega)
    have := mul_in (a := y * x) (b := x) (A := 1000000000) (B := 1000) (by omega) (by omega) (by omega) (by omega)
    show _ ≤ y * x * x ∧ y * x * x ≤ _; omega
theorem momS_in {ps : List Fr} {p : Nat} (hp : p ≤ 2) : ∀ {k : Nat}, (∀ j, j < k → ptP ps j) → -((k : Int) * 1000000000000) ≤ momS ps p k ∧ momS ps p k ≤ (k : Int) * 1000000000000
  | 0, _ => by show _ ≤ (0 : Int) ∧ (0 : Int) ≤ _; omega
  | k + 1, h => by
    have h1 := momS_in (ps := ps) hp (k := k) (fun j hj => h j (by omega))
    have h2 := pwS_in (h k (by omega)).2.1 (h k (by omega)).1 hp
    show _ ≤ momS ps p k + pwS (fr ps k).2 (fr ps k).1 p ∧ momS ps p k + pwS (fr ps k).2 (fr ps k).1 p ≤ _
    omega
/-- a moment as the model tells it -/
def momA (ps : List Fr) (p : Nat) : Fr × Bool := ((redN (momS ps p ps.length) (wtS ps ps.length), redD (momS ps p ps.length) (wtS ps ps.length)), redOk (momS ps p ps.length) (wtS ps ps.length))
def menO (ps : List Fr) : Bool := sprB ps && (momA ps 1).2
def menA (ps : List Fr) : Fr := if sprB ps = true then (momA ps 1).1 else (0, 0)
theorem ret_fb9 {a b a' b' : Int} {o o' : Bool} (h1 : a = a') (h2 : b = b') (h3 : o = o') : Ending.returned (.tuple #[.agg #[.int .i64 a, .int .i64 b], .bool o]) = .returned (.tuple #[.agg #[.int .i64 a', .int .i64 b'], .bool o']) := by rw [h1, h2, h3]

set_option maxRecDepth 100000 in
set_option maxHeartbeats 4000000 in
theorem sMom_any (v : Value) (ps : List Fr) (p : Nat) (w : World) (h : RdR w v ps) (hn : ps.length ≤ 40) (hP : ∀ k, k < ps.length → ptP ps k) (hp : p ≤ 2) :
    Calls Try.prog 29 #[v, .int .i64 p] w fun e w' => e = .returned (.tuple #[.agg #[.int .i64 (momA ps p).1.1, .int .i64 (momA ps p).1.2], .bool (momA ps p).2]) ∧ Below w.heap.size w w' := by
  have HW := hidP (fun W (hW : Below w.heap.size w W) => sWt_any v ps W (h.below hW) hn hP)
  have HRD := hidP (fun W => sRed_any (momS ps p ps.length) (wtS ps ps.length) W)
  obtain ⟨⟨⟨m1, m2⟩, mo⟩, hm⟩ : ∃ z, z = momA ps p := ⟨_, rfl⟩
  have e1 : redN (momS ps p ps.length) (wtS ps ps.length) = m1 := congrArg (fun z : Fr × Bool => z.1.1) hm.symm
  have e2 : redD (momS ps p ps.length) (wtS ps ps.length) = m2 := congrArg (fun z : Fr × Bool => z.1.2) hm.symm
  have e3 : redOk (momS ps p ps.length) (wtS ps ps.length) = mo := congrArg (fun z : Fr × Bool => z.2) hm.symm
  rw [e1, e2, e3] at HRD
  rw [← hm]
  clear e1 e2 e3 hm
  obtain ⟨a, c, rfl, h2, h3, h4, h5⟩ := h
  have H5 : Hid (∀ j, j < ps.length → ∃ b off, a = some ⟨b, off, none⟩ ∧ w.cell? ⟨b, off + j * 2, none⟩ = some (.int .i64 (fr ps j).1) ∧ w.cell? ⟨b, off + j * 2 + 1, none⟩ = some (.int .i64 (fr ps j).2)) := h5
  have HP := hidP hP
  obtain ⟨L, hL⟩ : ∃ L, L = ps.length := ⟨_, rfl⟩
  obtain ⟨M, hM⟩ : ∃ M, M = momS ps p := ⟨_, rfl⟩
  have HM0 : Hid (M 0 = 0) := by show _ = _; rw [hM]; rfl
  have HMS : Hid (∀ k, M (k + 1) = M k + pwS (fr ps k).2 (fr ps k).1 p) := by intro k; rw [hM]; rfl
  have HMI : Hid (∀ k, k ≤ ps.length → -40000000000000 ≤ M k ∧ M k ≤ 40000000000000) := by
    intro k hk
    have := momS_in (ps := ps) hp (k := k) (fun j hj => hP j (by omega))
    rw [← hM] at this
    omega
  obtain ⟨T, hT⟩ : ∃ T, T = wtS ps ps.length := ⟨_, rfl⟩
  rw [← hT] at HW HRD
  rw [← hM] at HRD
  rw [← hL] at hn H5 HP HW HRD HMI ⊢
  clear h5 h2 h3 h4 hL hP hM hT
  go_enter Try.func29, Try.ntmps29
  go_wp2
  obtain ⟨Rb, hRb⟩ : ∃ R, R = w.heap.size := ⟨_, rfl⟩
  obtain ⟨X, hX⟩ : ∃ X, X = w.alloc (.cells #[.int .i64 0, .int .i64 0] 30) := ⟨_, rfl⟩
  have Z0 : IsR X Rb 0 0 := by rw [hX, hRb]; exact IsR.new w 0 0
  have B0 : Below w.heap.size w X := by rw [hX]; exact (Below.refl _ _).alloc (Nat.le_refl _) _
  have hwR : w.heap.size ≤ Rb := by omega
  rw [← hX, ← hRb]
  clear hX hRb
  go_loopw [6, 7] (fun s i wr => ∃ k : Nat, k ≤ L ∧ i = .int .i64 k ∧ s = .int .i64 (M k) ∧ Hid (IsR wr Rb 0 0) ∧ Hid (Below w.heap.size w wr)) (fun _ i _ => L - (intOf i).toNat)
  case atStart => exact ⟨0, Nat.zero_le _, rfl, by rw [HM0.out], Z0, B0⟩
  case round =>
    clear Z0 B0
    obtain ⟨k, hk, rfl, rfl, hZ, hB⟩ := hrel
    by_cases hlt : k < L
    · obtain ⟨b, off, rfl, c1, c2⟩ := H5.out k hlt
      have hp1 := (HP.out k hlt).1
      have hp2 := (HP.out k hlt).2.1
      replace c1 := cell_keep hB.out c1
      replace c2 := cell_keep hB.out c2
      have hq := HMS.out k
      have hmi := HMI.out k (by omega)
      have hmj := HMI.out (k + 1) (by omega)
      rw [hq] at hmj
      obtain ⟨q, hqq⟩ : ∃ q, q = fr ps k := ⟨_, rfl⟩
      rw [← hqq] at c1 c2 hp1 hp2 hq hmj
      obtain ⟨x, y⟩ := q
      dsimp only at c1 c2 hp1 hp2 hq hmj
      have HN := hidP hq
      obtain ⟨s, hs⟩ : ∃ s, s = M k := ⟨_, rfl⟩
      rw [← hs] at hmi hmj HN ⊢
      obtain ⟨F, hF⟩ : ∃ F, F = pwS y x := ⟨_, rfl⟩
      have HF0 : Hid (F 0 = y) := by show _ = _; rw [hF]; rfl
      have HFS : Hid (∀ n, F (n + 1) = F n * x) := by intro n; rw [hF]; rfl
      have HFI : Hid (∀ n, n ≤ 2 → -1000000000000 ≤ F n ∧ F n ≤ 1000000000000) := by intro n hn; rw [hF]; exact pwS_in hp2 hp1 hn
      rw [← hF] at hmj HN
      have BK : Below w.heap.size w wr := hB.out
      have ZK : IsR wr Rb 0 0 := hZ.out
      clear hqq hq hs hF hp1 hp2 hB hZ
      go_wp2
      go_loopw [8, 9] (fun z i wz => ∃ n : Nat, n ≤ p ∧ i = .int .i64 n ∧ z = .int .i64 (F n) ∧ Hid (wz = wr)) (fun _ i _ => p - (intOf i).toNat)
      case atStart => exact ⟨0, Nat.zero_le _, rfl, by rw [HF0.out], rfl⟩
      case round =>
        obtain ⟨n, hnp, rfl, rfl, hww⟩ := hrel
        have hwe := hww.out
        subst hwe
        clear hww
        by_cases hln : n < p
        · have hf := HFS.out n
          have hi := HFI.out (n + 1) (by omega)
          rw [hf] at hi
          obtain ⟨f, hff⟩ : ∃ f, f = F n := ⟨_, rfl⟩
          rw [← hff] at hi hf ⊢
          have HFF := hidP hf
          clear hff hf
          obtain ⟨i1, i2⟩ := hi
          go_wp2
          go_roundw
          case rel => exact ⟨n + 1, by omega, by go_num, by rw [HFF.out], trivial⟩
          case measure => simp [intOf]; omega
        · obtain rfl : n = p := by omega
          obtain ⟨f, hff⟩ : ∃ f, f = F n := ⟨_, rfl⟩
          have hi := HFI.out n hp
          rw [← hff] at hi hmj HN ⊢
          clear hff
          go_wp2
          go_roundw
          case rel => exact ⟨k + 1, by omega, by go_num, by rw [HN.out], ZK, BK⟩
          case measure => simp [intOf]; omega
    · obtain rfl : k = L := by omega
      have BK : Below w.heap.size w wr := hB.out
      have ZK : IsR wr Rb 0 0 := hZ.out
      clear hB hZ
      go_wp2_with fail
      refine (HW.out _ BK).mono ?_
      rintro e w1 ⟨rfl, hb⟩
      replace ZK := ZK.below hb
      replace BK := BK.trans (hb.mono BK.size)
      clear hb
      go_wp2_with fail
      refine (HRD.out _).mono ?_
      rintro e w2 ⟨rfl, hb⟩
      replace ZK := ZK.below hb
      replace BK := BK.trans (hb.mono BK.size)
      have z0 := ZK.c0
      have z1 := ZK.c1
      have z2 := ZK.f0
      have z3 := ZK.f1
      clear hb
      go_wp2
      exact bodyPost_ret (v := .tuple #[.agg #[.int .i64 m1, .int .i64 m2], .bool mo]) (by simp [results, Try.results29, go_sem, z0, z1]) rfl ⟨rfl, (BK.setCell (p := ⟨Rb, 0, none⟩) hwR _).setCell (p := ⟨Rb, 1, none⟩) hwR _⟩

set_option maxRecDepth 100000 in
set_option maxHeartbeats 2000000 in
theorem sMean_any (v : Value) (ps : List Fr) (w : World) (h : RdR w v ps) :
    Calls Try.prog 15 #[v] w fun e w' => e = .returned (.tuple #[.agg #[.int .i64 (menA ps).1, .int .i64 (menA ps).2], .bool (menO ps)]) ∧ Below w.heap.size w w' := by
  have HS := hidP (fun W (hW : Below w.heap.size w W) => sSpr_any v ps W (h.below hW))
  have H := hidP h
  obtain ⟨pa, na, ca, rfl⟩ : ∃ a n c, v = .slice a n c := by obtain ⟨a, c, rfl, _⟩ := h; exact ⟨a, _, c, rfl⟩
  obtain ⟨q, hq⟩ : ∃ q, q = sprB ps := ⟨_, rfl⟩
  rw [← hq] at HS
  have HQ := hidP hq
  have B0 : Below w.heap.size w (w.alloc (.cells #[.int .i64 0, .int .i64 0] 30)) := (Below.refl _ _).alloc (Nat.le_refl _) _
  have Z0 := IsR.new w 0 0
  clear h hq
  go_enter Try.func15, Try.ntmps15
  go_wp2_with fail
  refine (HS.out _ B0).mono ?_
  rintro e w1 ⟨rfl, hb⟩
  replace Z0 := Z0.below hb
  replace B0 := B0.trans (hb.mono B0.size)
  clear hb
  cases q
  · have HA : Hid (menA ps = (0, 0)) := by show _ = _; unfold menA; rw [← HQ.out]; rfl
    have HO : Hid (menO ps = false) := by show _ = _; unfold menO; rw [← HQ.out]; rfl
    have z0 := Z0.c0
    have z1 := Z0.c1
    have z2 := Z0.f0
    have z3 := Z0.f1
    go_wp2
    exact bodyPost_ret (v := .tuple #[.agg #[.int .i64 0, .int .i64 0], .bool false]) (by simp [results, Try.results15, go_sem, z0, z1]) rfl ⟨ret_fb9 (by rw [HA.out]) (by rw [HA.out]) HO.out.symm, (B0.setCell (p := ⟨w.heap.size, 0, none⟩) (Nat.le_refl _) _).setCell (p := ⟨w.heap.size, 1, none⟩) (Nat.le_refl _) _⟩
  · obtain ⟨p1, p2, p3⟩ := sprB_out HQ.out.symm
    have HA : Hid (menA ps = (momA ps 1).1) := by show _ = _; unfold menA; rw [← HQ.out]; rfl
    have HO : Hid (menO ps = (momA ps 1).2) := by show _ = _; unfold menO; rw [← HQ.out]; rfl
    have HW := sMom_any _ ps 1 w1 (H.out.below B0) p1.2 p2 (by decide)
    obtain ⟨⟨⟨m1, m2⟩, mo⟩, hm⟩ : ∃ z, z = momA ps 1 := ⟨_, rfl⟩
    rw [← hm] at HW HA HO
    have HW := hidP HW
    clear p1 p2 p3 hm
    go_wp2_with fail
    refine HW.out.mono ?_
    rintro e w2 ⟨rfl, hb⟩
    replace Z0 := Z0.below hb
    replace B0 := B0.trans (hb.mono B0.size)
    have z0 := Z0.c0
    have z1 := Z0.c1
    have z2 := Z0.f0
    have z3 := Z0.f1
    clear hb
    go_wp2
    exact bodyPost_ret (v := .tuple #[.agg #[.int .i64 m1, .int .i64 m2], .bool mo]) (by simp [results, Try.results15, go_sem, z0, z1]) rfl ⟨ret_fb9 (by rw [HA.out]) (by rw [HA.out]) HO.out.symm, (B0.setCell (p := ⟨w.heap.size, 0, none⟩) (Nat.le_refl _) _).setCell (p := ⟨w.heap.size, 1, none⟩) (Nat.le_refl _) _⟩
end Go.Proofs.Ytgboaeokbglgdaa
