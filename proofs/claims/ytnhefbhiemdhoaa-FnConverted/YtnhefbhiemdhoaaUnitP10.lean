/- Converted, the program's. -/
import Derived.Test.YtnhefbhiemdhoaaUnitP9
namespace Go.Proofs.Ytnhefbhiemdhoaa
open Go.RowKit Go.MapKept Go.Proofs.Ytnhefbhiemdhoaa.RM

/-- sums, differences and quotients, as the functions tell them -/
def addQ (p q : Int × Int) : Int × Int × Bool := (opN (two p.1 p.2 q.1 q.2) (p.1 * q.2 + q.1 * p.2) (p.2 * q.2), opD (two p.1 p.2 q.1 q.2) (p.1 * q.2 + q.1 * p.2) (p.2 * q.2), opOk (two p.1 p.2 q.1 q.2) (p.1 * q.2 + q.1 * p.2) (p.2 * q.2))
def subQ (p q : Int × Int) : Int × Int × Bool := (opN (two p.1 p.2 q.1 q.2) (p.1 * q.2 - q.1 * p.2) (p.2 * q.2), opD (two p.1 p.2 q.1 q.2) (p.1 * q.2 - q.1 * p.2) (p.2 * q.2), opOk (two p.1 p.2 q.1 q.2) (p.1 * q.2 - q.1 * p.2) (p.2 * q.2))
def divQ (p q : Int × Int) : Int × Int × Bool := (opN (two p.1 p.2 q.1 q.2) (p.1 * q.2) (p.2 * q.1), opD (two p.1 p.2 q.1 q.2) (p.1 * q.2) (p.2 * q.1), opOk (two p.1 p.2 q.1 q.2) (p.1 * q.2) (p.2 * q.1))
def zer (l : List UInt8) : Int × Int := if l = [67] then (5463, 20) else (0, 1)
/-- a fraction alone -/
def fr (p : Int × Int × Bool) : Int × Int := (p.1, p.2.1)
/-- what is converted -/
def convQ (v : Int × Int) (z : Int × Int) (f g : UV) (y : Int × Int) : Int × Int × Bool := subQ (fr (divQ (fr (mulQ (fr (addQ v z)) (f.n, f.d))) (g.n, g.d))) y
def convI (v : Int × Int) (s t : List UInt8) : Int × Int × Bool :=
  match unitI s, unitI t with
  | some f, some g => if f.dims = g.dims then convQ v (zer s) f g (zer t) else (0, 0, false)
  | _, _ => (0, 0, false)
theorem zer_any (s : ByteArray) (w : World) :
    Calls Try.prog 56 #[.string s] w fun e w' => e = .returned (.agg #[.int .i64 (zer s.data.toList).1, .int .i64 (zer s.data.toList).2]) ∧ Below w.heap.size w w' := by
  have := zeroOf_any s w
  unfold zer
  by_cases h : s.data.toList = [67]
  · rw [if_pos h, if_pos h] at this
    rw [if_pos h]
    exact this
  · rw [if_neg h, if_neg h] at this
    rw [if_neg h]
    exact this

set_option maxRecDepth 100000 in
set_option maxHeartbeats 1000000 in
theorem iConv_no (vn vd : Int) (s t : ByteArray) (w : World) (u v : UV) (ao bo : Bool)
    (HF : Hid (∀ W, Calls Try.prog 23 #[.string s] W fun e w' => e = .returned (.tuple #[uVal u, .bool ao]) ∧ Below W.heap.size W w'))
    (HT : Hid (∀ W, Calls Try.prog 23 #[.string t] W fun e w' => e = .returned (.tuple #[uVal v, .bool bo]) ∧ Below W.heap.size W w'))
    (hno : ao = false ∨ bo = false ∨ u.dims ≠ v.dims) :
    Calls Try.prog 6 #[.agg #[.int .i64 vn, .int .i64 vd], .string s, .string t] w fun e w' => e = .returned (.tuple #[.agg #[.int .i64 0, .int .i64 0], .bool false]) ∧ Below w.heap.size w w' := by
  have b0 : ∀ (u : World) (o : Obj), Below u.heap.size u (u.alloc o) := fun u o => (Below.refl _ _).alloc (Nat.le_refl _) o
  obtain ⟨an, ad, ax0, ax1, ax2, ax3, ax4⟩ := u
  obtain ⟨bn, bd, bx0, bx1, bx2, bx3, bx4⟩ := v
  have E5 := fun W => eq5 ax0 ax1 ax2 ax3 ax4 bx0 bx1 bx2 bx3 bx4 W
  obtain ⟨q, hq⟩ : ∃ q : Bool, q = (ax0 == bx0 && (ax1 == bx1 && (ax2 == bx2 && (ax3 == bx3 && ax4 == bx4)))) := ⟨_, rfl⟩
  have hno2 : ao = false ∨ bo = false ∨ q = false := by
    rcases hno with h | h | h
    · exact .inl h
    · exact .inr (.inl h)
    · refine .inr (.inr ?_)
      cases hqq : q with
      | false => rfl
      | true =>
        rw [hqq] at hq
        have h9 := hq.symm
        simp only [Bool.and_eq_true, beq_iff_eq] at h9
        exact absurd (by simp only [UV.dims]; rw [h9.1, h9.2.1, h9.2.2.1, h9.2.2.2.1, h9.2.2.2.2]) h
  rw [← hq] at E5
  clear hq hno
  simp only [uVal] at HF HT
  go_enter Try.func6, Try.ntmps6
  go_wp2_with fail
  refine (HF.out _).mono ?_
  rintro e w1 ⟨rfl, hb⟩
  obtain ⟨Z, hZe⟩ : ∃ Z, Z = w.heap.size + 1 := ⟨_, rfl⟩
  have hZw : Hid (w.heap.size ≤ Z) := by show _ ≤ _; omega
  have hZ1 : IsB w1 Z #[.int .i64 0, .int .i64 0] 25 := by
    rw [hZe]
    have := IsB.new (w.alloc (.cells #[.int .i64 vn, .int .i64 vd] 25)) #[.int .i64 0, .int .i64 0] 25
    exact (show IsB _ (w.heap.size + 1) _ _ by simpa using this).below hb
  have hB1 : Below w.heap.size w w1 := ((b0 _ _).alloc (by simp) _).trans (hb.mono (by simp; omega))
  rw [← hZe]
  have HZ := hidU hZ1
  have HB := hidU hB1
  clear hb hZe hZ1 hB1
  go_upto_region 2 with fail
  obtain ⟨X, hX⟩ : ∃ X, X = w1.alloc (.cells #[.int .i64 an, .int .i64 ad, .int .i64 ax0, .int .i64 ax1, .int .i64 ax2, .int .i64 ax3, .int .i64 ax4] 47) := ⟨_, rfl⟩
  obtain ⟨G, hG⟩ : ∃ G, G = w1.heap.size := ⟨_, rfl⟩
  have hb : Below w1.heap.size w1 X := by rw [hX]; exact b0 _ _
  have hGX : IsB X G #[.int .i64 an, .int .i64 ad, .int .i64 ax0, .int .i64 ax1, .int .i64 ax2, .int .i64 ax3, .int .i64 ax4] 47 := by rw [hX, hG]; exact IsB.new _ _ _
  replace HZ := hidU (HZ.out.below hb)
  replace HB := hidU (HB.out.trans (hb.mono HB.out.size))
  have HG := hidU hGX
  rw [← hX, ← hG]
  clear hb hX hG hGX
  go_wp2_with fail
  refine (HT.out _).mono ?_
  rintro e w2 ⟨rfl, hb⟩
  replace HZ := hidU (HZ.out.below hb)
  replace HG := hidU (HG.out.below hb)
  replace HB := hidU (HB.out.trans (hb.mono HB.out.size))
  clear hb
  go_upto_region 3 with fail
  obtain ⟨Y, hY⟩ : ∃ X, X = w2.alloc (.cells #[.int .i64 bn, .int .i64 bd, .int .i64 bx0, .int .i64 bx1, .int .i64 bx2, .int .i64 bx3, .int .i64 bx4] 47) := ⟨_, rfl⟩
  obtain ⟨K, hK⟩ : ∃ G, G = w2.heap.size := ⟨_, rfl⟩
  have hb : Below w2.heap.size w2 Y := by rw [hY]; exact b0 _ _
  have hKY : IsB Y K #[.int .i64 bn, .int .i64 bd, .int .i64 bx0, .int .i64 bx1, .int .i64 bx2, .int .i64 bx3, .int .i64 bx4] 47 := by rw [hY, hK]; exact IsB.new _ _ _
  replace HZ := hidU (HZ.out.below hb)
  replace HG := hidU (HG.out.below hb)
  replace HB := hidU (HB.out.trans (hb.mono HB.out.size))
  rw [← hY, ← hK]
  clear hb hY hK
  have z0 := HZ.out.cell (v := .int .i64 0) 0 rfl
  have z1 := HZ.out.cell (v := .int .i64 0) 1 rfl
  have f0 := HZ.out.frozen 0
  have f1 := HZ.out.frozen 1
  have a0 := HG.out.cell (v := .int .i64 an) 0 rfl
  have a1 := HG.out.cell (v := .int .i64 ad) 1 rfl
  have a2 := HG.out.cell (v := .int .i64 ax0) 2 rfl
  have a3 := HG.out.cell (v := .int .i64 ax1) 3 rfl
  have a4 := HG.out.cell (v := .int .i64 ax2) 4 rfl
  have a5 := HG.out.cell (v := .int .i64 ax3) 5 rfl
  have a6 := HG.out.cell (v := .int .i64 ax4) 6 rfl
  have c0 := hKY.cell (v := .int .i64 bn) 0 rfl
  have c1 := hKY.cell (v := .int .i64 bd) 1 rfl
  have c2 := hKY.cell (v := .int .i64 bx0) 2 rfl
  have c3 := hKY.cell (v := .int .i64 bx1) 3 rfl
  have c4 := hKY.cell (v := .int .i64 bx2) 4 rfl
  have c5 := hKY.cell (v := .int .i64 bx3) 5 rfl
  have c6 := hKY.cell (v := .int .i64 bx4) 6 rfl
  have E := E5 Y
  clear E5 hKY
  obtain ⟨e0, e1⟩ := new2 (n := .int .i64 0) (d := .int .i64 0) z0 z1
  have HF2 := hidU ((HB.out.setCell (p := ⟨Z, 0, none⟩) hZw.out (.int .i64 0)).setCell (p := ⟨Z, 1, none⟩) hZw.out (.int .i64 0))
  cases ao with
  | false =>
    go_wp2
    exact bodyPost_ret (v := .tuple #[.agg #[.int .i64 0, .int .i64 0], .bool false]) (by simp [results, Try.results6, go_sem, e0, e1]) rfl ⟨rfl, HF2.out⟩
  | true =>
    cases bo with
    | false =>
      go_wp2
      exact bodyPost_ret (v := .tuple #[.agg #[.int .i64 0, .int .i64 0], .bool false]) (by simp [results, Try.results6, go_sem, e0, e1]) rfl ⟨rfl, HF2.out⟩
    | true =>
      obtain rfl : q = false := by simpa using hno2
      go_wp2
      exact bodyPost_ret (v := .tuple #[.agg #[.int .i64 0, .int .i64 0], .bool false]) (by simp [results, Try.results6, go_sem, e0, e1]) rfl ⟨rfl, HF2.out⟩
end Go.Proofs.Ytnhefbhiemdhoaa
