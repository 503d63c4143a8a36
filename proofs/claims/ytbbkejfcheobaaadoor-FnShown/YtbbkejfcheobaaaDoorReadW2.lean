/- impl.ReadRatio's walk. -/
import Derived.Test.YtbbkejfcheobaaaDoorReadW1
import Derived.Lib.AtoiErrMem
import Derived.WalkSmall
namespace Go.Proofs.YtbbkejfcheobaaaDoor
open Go.RowKit Go.Proofs.YtbbkejfcheobaaaDoor.RM

/-- the two errors of the library's reading of numbers hold a value wherever the call has come -/
def Errs (B : Nat) (w : World) : Prop := ∀ w', Below B w w' → (∃ t p, w'.var? Tryd.prog "strconv.ErrSyntax" = some #[.iface t p]) ∧ (∃ t p, w'.var? Tryd.prog "strconv.ErrRange" = some #[.iface t p])
theorem Errs.below {w w' : World} {B : Nat} (h : Errs B w) (hb : Below B w w') : Errs B w' := fun w2 h2 => h w2 (hb.trans h2)
/-- what is read of it, and whether that was a number -/
def prsI (l : List UInt8) : Int × Bool := numE (Lib.parseIntB 64 l) l
theorem prs_any (l : List UInt8) (B : Nat) (w : World) (hE : Errs B w) (hs : l.length ≤ 1048576) :
    Calls Tryd.prog 20 #[.string ⟨l.toArray⟩, .int .i64 10, .int .i64 64] w fun e w' => ∃ q, e = .returned (.tuple #[.int .i64 (prsI l).1, q]) ∧ ((prsI l).2 = true → q = .nilIface) ∧ ((prsI l).2 = false → ∃ t p, q = .iface t (.pointer (some p))) ∧ Below w.heap.size w w' := by
  obtain ⟨⟨t1, p1, v1⟩, ⟨t2, p2, v2⟩⟩ := hE w (Below.refl _ _)
  have hl : (ByteArray.mk l.toArray).size ≤ 1048576 := by simpa [ByteArray.size] using hs
  have he : (ByteArray.mk l.toArray).data.toList = l := by simp
  unfold prsI
  cases h : Lib.parseIntB 64 l with
  | ok v =>
    refine (Tryd.strconv_ParseInt_10_at64_ok ⟨l.toArray⟩ (by omega) v (by rw [he]; exact h) w).mono ?_
    rintro e w' ⟨rfl, hw⟩
    refine ⟨_, rfl, fun _ => rfl, fun h => by simp [numE] at h, ?_⟩
    rcases hw with rfl | ⟨t, rfl⟩
    · exact Below.refl _ _
    · exact Lib.bytesWorld_below _ _ _
  | «syntax» =>
    refine (Tryd.strconv_ParseInt_10_at64_syntax_var ⟨l.toArray⟩ (by omega) (by rw [he]; exact h) t1 p1 w v1).mono ?_
    rintro e w' ⟨N, rfl, -, -, hb⟩
    exact ⟨_, rfl, fun h => by simp [numE] at h, fun _ => ⟨_, _, rfl⟩, hb⟩
  | range =>
    refine (Tryd.strconv_ParseInt_10_at64_range_var ⟨l.toArray⟩ (by omega) (by rw [he]; exact h) t2 p2 w v2).mono ?_
    rintro e w' ⟨N, rfl, -, -, hb⟩
    exact ⟨_, by rw [he]; rfl, fun h => by simp [numE] at h, fun _ => ⟨_, _, rfl⟩, hb⟩
/-- what the program answers of the two parts -/
def rdX (s a b : List UInt8) : Int × Int × Bool := if (prsI a).2 = true ∧ (prsI b).2 = true ∧ shw (prsI a).1 (prsI b).1 = s then ((prsI a).1, (prsI b).1, true) else (0, 0, false)
theorem rdI_X (s : List UInt8) : rdI s = rdX s (Lib.cut s [47]).1 (if (Lib.cut s [47]).2.2 then (Lib.cut s [47]).2.1 else [49]) := rfl
theorem cut_len (l : List UInt8) : (Lib.cut l [47]).1.length ≤ l.length ∧ (Lib.cut l [47]).2.1.length ≤ l.length := by
  unfold Lib.cut
  split
  · simp
    omega
  · simp

set_option maxRecDepth 100000 in
set_option maxHeartbeats 1000000 in
theorem iRead_any (l : List UInt8) (B : Nat) (w : World) (hP : Pow B w) (hE : Errs B w) (hBw : B ≤ w.heap.size) (hs : l.length ≤ 1048576) :
    Calls Tryd.prog 8 #[.string ⟨l.toArray⟩] w fun e w' => e = .returned (.tuple #[.agg #[.int .i64 (rdI l).1, .int .i64 (rdI l).2.1], .bool (rdI l).2.2]) ∧ Below w.heap.size w w' := by
  have b0 : ∀ (u : World) (o : Obj), Below u.heap.size u (u.alloc o) := fun u o => (Below.refl _ _).alloc (Nat.le_refl _) o
  have hc := cut_len l
  have HC : Hid (∀ W : World, Calls Tryd.prog 19 #[.string ⟨l.toArray⟩, .string ⟨#[47]⟩] W fun e w' => e = .returned (.tuple #[.string ⟨(Lib.cut l [47]).1.toArray⟩, .string ⟨(Lib.cut l [47]).2.1.toArray⟩, .bool (Lib.cut l [47]).2.2]) ∧ Below W.heap.size W w') := by
    intro W
    have := cut_any ⟨l.toArray⟩ W (by simpa [ByteArray.size] using hs)
    simpa using this
  have HR : Hid (rdI l = _) := rdI_X l
  have HPr : Hid (∀ (a : List UInt8) (W : World), Below w.heap.size w W → a.length ≤ 1048576 → Calls Tryd.prog 20 #[.string ⟨a.toArray⟩, .int .i64 10, .int .i64 64] W fun e w' => ∃ q, e = .returned (.tuple #[.int .i64 (prsI a).1, q]) ∧ ((prsI a).2 = true → q = .nilIface) ∧ ((prsI a).2 = false → ∃ t p, q = .iface t (.pointer (some p))) ∧ Below W.heap.size W w') := fun a W hW ha => prs_any a B W (hE.below (hW.mono hBw)) ha
  have HS : Hid (∀ (n d : Int) (W : World), Below w.heap.size w W → Calls Tryd.prog 6 #[.agg #[.int .i64 n, .int .i64 d]] W fun e w' => e = .returned (.string ⟨(shw n d).toArray⟩) ∧ Below W.heap.size W w') := fun n d W hW => iShow_any n d B W (hP.below (hW.mono hBw)) (Nat.le_trans hBw hW.size)
  generalize Lib.cut l [47] = cc at hc HC HR
  obtain ⟨a, b, f⟩ := cc
  obtain ⟨R, hRe⟩ : ∃ R, R = rdI l := ⟨_, rfl⟩
  rw [← hRe] at HR ⊢
  clear hRe hP hE
  simp only at hc HC HR
  obtain ⟨ha, hb0⟩ := hc
  go_enter Tryd.func8, Tryd.ntmps8
  go_upto_region 1 with fail
  obtain ⟨X, hX⟩ : ∃ X, X = w.alloc (.cells #[.int .i64 0, .int .i64 0] 25) := ⟨_, rfl⟩
  obtain ⟨Z, hZ⟩ : ∃ Z, Z = w.heap.size := ⟨_, rfl⟩
  have c0 : X.cell? ⟨Z, 0, none⟩ = some (.int .i64 0) := by rw [hX, hZ]; simp [go_sem]
  have c1 : X.cell? ⟨Z, 1, none⟩ = some (.int .i64 0) := by rw [hX, hZ]; simp [go_sem]
  have f0 : X.frozen? ⟨Z, 0, none⟩ = false := by rw [hX, hZ]; simp [go_sem]
  have f1 : X.frozen? ⟨Z, 1, none⟩ = false := by rw [hX, hZ]; simp [go_sem]
  have HB : Hid (Below w.heap.size w X) := by show Below _ _ _; rw [hX]; exact b0 _ _
  rw [← hX, ← hZ]
  have HZ : Hid (w.heap.size ≤ Z) := by show _ ≤ _; omega
  clear hX hZ
  go_wp2_with fail
  refine (HC.out _).mono ?_
  rintro e w1 ⟨rfl, hb⟩
  replace f0 := frozen_later hb c0 f0
  replace f1 := frozen_later hb c1 f1
  replace c0 := cell_later hb c0
  replace c1 := cell_later hb c1
  replace HB := hidS (HB.out.trans (hb.mono HB.out.size))
  clear hb HC
  obtain ⟨b2, hb2⟩ : ∃ b2, b2 = (if f = true then b else [49]) := ⟨_, rfl⟩
  have HL : b2.length ≤ 1048576 := by
    rw [hb2]
    split
    · omega
    · simp
  have HR2 : Hid (R = rdX l a b2) := by show _ = _; rw [HR.out, hb2]
  have key : ∀ (k : Act → World → Prop) (u : Act) (W : World), k u W → k u W := fun _ _ _ h => h
  clear key HR
  have S1 : Hid (b2 = if f = true then b else [49]) := hb2
  clear hb2
  cases f
  all_goals
    have hb2 := S1.out
    try rw [if_pos rfl] at hb2
    try rw [if_neg (by decide)] at hb2
    try (have h3 : b2 = b := hb2; subst h3)
    clear S1
    go_wp2_with fail
    try rw [show (ByteArray.mk #[49]) = ByteArray.mk b2.toArray from by rw [hb2]]
    try clear hb2
    refine (HPr.out a _ HB.out (by omega)).mono ?_
    rintro e w2 ⟨q1, rfl, hq1, hq2, hb⟩
    replace f0 := frozen_later hb c0 f0
    replace f1 := frozen_later hb c1 f1
    replace c0 := cell_later hb c0
    replace c1 := cell_later hb c1
    replace HB := hidS (HB.out.trans (hb.mono HB.out.size))
    clear hb
    go_wp2_with fail
    refine (HPr.out b2 _ HB.out HL).mono ?_
    rintro e w3 ⟨q2, rfl, hq3, hq4, hb⟩
    replace f0 := frozen_later hb c0 f0
    replace f1 := frozen_later hb c1 f1
    replace c0 := cell_later hb c0
    replace c1 := cell_later hb c1
    replace HB := hidS (HB.out.trans (hb.mono HB.out.size))
    clear hb HPr
    obtain ⟨pa, hpa⟩ : ∃ p, p = prsI a := ⟨_, rfl⟩
    obtain ⟨pb, hpb⟩ : ∃ p, p = prsI b2 := ⟨_, rfl⟩
    have HR3 : Hid (R = if pa.2 = true ∧ pb.2 = true ∧ shw pa.1 pb.1 = l then (pa.1, pb.1, true) else (0, 0, false)) := by show _ = _; rw [HR2.out, hpa, hpb]; rfl
    rw [← hpa] at hq1 hq2 ⊢
    rw [← hpb] at hq3 hq4 ⊢
    clear hpa hpb HR2
    obtain ⟨n, t1⟩ := pa
    obtain ⟨d, t2⟩ := pb
    simp only at hq1 hq2 hq3 hq4 HR3 ⊢
    go_upto_region 7 with fail
    obtain ⟨X3, hX⟩ : ∃ X, X = w3.alloc (.cells #[.int .i64 n, .int .i64 d] 25) := ⟨_, rfl⟩
    obtain ⟨Z3, hZ⟩ : ∃ Z, Z = w3.heap.size := ⟨_, rfl⟩
    have d0 : X3.cell? ⟨Z3, 0, none⟩ = some (.int .i64 n) := by rw [hX, hZ]; simp [go_sem]
    have d1 : X3.cell? ⟨Z3, 1, none⟩ = some (.int .i64 d) := by rw [hX, hZ]; simp [go_sem]
    have hb : Below w3.heap.size w3 X3 := by rw [hX]; exact b0 _ _
    replace f0 := frozen_later hb c0 f0
    replace f1 := frozen_later hb c1 f1
    replace c0 := cell_later hb c0
    replace c1 := cell_later hb c1
    replace HB := hidS (HB.out.trans (hb.mono HB.out.size))
    rw [← hX, ← hZ]
    clear hb hX hZ
    cases t1 with
    | false =>
      obtain ⟨t, p, rfl⟩ := hq2 rfl
      obtain rfl : R = (0, 0, false) := by rw [HR3.out]; simp
      have HN := new2 (n := .int .i64 0) (d := .int .i64 0) c0 c1
      obtain ⟨z0, z1⟩ := HN
      go_wp2
      exact bodyPost_ret (v := .tuple #[.agg #[.int .i64 0, .int .i64 0], .bool false]) (by simp [results, Tryd.results8, go_sem, z0, z1]) rfl ⟨rfl, (HB.out.setCell HZ.out _).setCell HZ.out _⟩
    | true =>
      obtain rfl := hq1 rfl
      cases t2 with
      | false =>
        obtain ⟨t, p, rfl⟩ := hq4 rfl
        obtain rfl : R = (0, 0, false) := by rw [HR3.out]; simp
        have HN := new2 (n := .int .i64 0) (d := .int .i64 0) c0 c1
        obtain ⟨z0, z1⟩ := HN
        go_wp2
        exact bodyPost_ret (v := .tuple #[.agg #[.int .i64 0, .int .i64 0], .bool false]) (by simp [results, Tryd.results8, go_sem, z0, z1]) rfl ⟨rfl, (HB.out.setCell HZ.out _).setCell HZ.out _⟩
      | true =>
        obtain rfl := hq3 rfl
        go_wp2_with fail
        refine (HS.out n d _ HB.out).mono ?_
        rintro e w4 ⟨rfl, hb⟩
        replace f0 := frozen_later hb c0 f0
        replace f1 := frozen_later hb c1 f1
        replace c0 := cell_later hb c0
        replace c1 := cell_later hb c1
        replace d0 := cell_later hb d0
        replace d1 := cell_later hb d1
        replace HB := hidS (HB.out.trans (hb.mono HB.out.size))
        clear hb
        obtain ⟨S, hS⟩ : ∃ S, S = shw n d := ⟨_, rfl⟩
        rw [← hS]
        rw [← hS] at HR3
        clear hS
        by_cases hq : S = l
        · subst hq
          obtain rfl : R = (n, d, true) := by rw [HR3.out]; simp
          obtain ⟨z0, z1⟩ := new2 (n := .int .i64 n) (d := .int .i64 d) c0 c1
          go_wp2
          exact bodyPost_ret (v := .tuple #[.agg #[.int .i64 n, .int .i64 d], .bool true]) (by simp [results, Tryd.results8, go_sem, z0, z1]) rfl ⟨rfl, (HB.out.setCell HZ.out _).setCell HZ.out _⟩
        · obtain rfl : R = (0, 0, false) := by rw [HR3.out]; simp [hq]
          obtain ⟨z0, z1⟩ := new2 (n := .int .i64 0) (d := .int .i64 0) c0 c1
          go_wp2
          · exact bodyPost_ret (v := .tuple #[.agg #[.int .i64 0, .int .i64 0], .bool false]) (by simp [results, Tryd.results8, go_sem, z0, z1]) rfl ⟨rfl, (HB.out.setCell HZ.out _).setCell HZ.out _⟩
          · rename_i h
            exact absurd (by simpa using h) hq
end Go.Proofs.YtbbkejfcheobaaaDoor
