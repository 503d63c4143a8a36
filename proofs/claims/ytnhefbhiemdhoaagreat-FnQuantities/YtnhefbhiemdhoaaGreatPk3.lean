/- Several texts of this proof laid one behind the other: each has its own heading below. -/
import Derived.Test.YtnhefbhiemdhoaaGreatPk2
import Derived.IntWalk
import Derived.Test.YtnhefbhiemdhoaaGreatPk1
import Derived.Deep.RegionWith
import Derived.Deep.RegionLaw
import Derived.Deep.RegionHeld3
import Derived.Deep.DeepCutAuto
import Derived.Test.YtnhefbhiemdhoaaGreatRowsW
import Derived.Test.YtnhefbhiemdhoaaGreatRatioW4
import Derived.Test.YtnhefbhiemdhoaaGreatRowsI
import Derived.Test.YtnhefbhiemdhoaaGreatUnitR
import Derived.Test.YtnhefbhiemdhoaaGreatUnitW5
import Derived.Deep.Cut

/- The model's QuantityOk; are two dimensions the same. -/
namespace Go.Proofs.YtnhefbhiemdhoaaGreat
open Go.RowKit Go.Proofs.YtnhefbhiemdhoaaGreat.RM

set_option maxRecDepth 100000 in
set_option maxHeartbeats 1000000 in
theorem sQuaOk_any (n d : Int) (v : Value) (ys : List Int) (w : World) (h : DimIn w v ys) :
    Calls Tryz.prog 15 #[.agg #[.int .i64 n, .int .i64 d, v]] w fun e w' => e = .returned (.bool (quaB n d ys)) ∧ Below w.heap.size w w' := by
  have b0 : ∀ (u : World) (o : Obj), Below u.heap.size u (u.alloc o) := fun u o => (Below.refl _ _).alloc (Nat.le_refl _) o
  have HD := hidU (fun W (hW : Below w.heap.size w W) => sDimOk_in v ys W (h.below hW))
  have HR := hidU (fun W => sOk_any n d W)
  unfold quaB
  obtain ⟨p, hp⟩ : ∃ q, q = okB n d := ⟨_, rfl⟩
  obtain ⟨q, hq⟩ : ∃ q, q = dimB ys := ⟨_, rfl⟩
  rw [← hp, ← hq]
  rw [← hp] at HR
  rw [← hq] at HD
  obtain ⟨a, c, rfl⟩ := h.shape
  obtain ⟨k, hk⟩ : ∃ k, k = ys.length := ⟨_, rfl⟩
  rw [← hk] at HD ⊢
  clear hp hq h hk
  go_enter Tryz.func15, Tryz.ntmps15
  go_wp2_with fail
  refine (HR.out _).mono ?_
  rintro e w1 ⟨rfl, hb⟩
  have k1 : IsB w1 w.heap.size #[.int .i64 n, .int .i64 d, .slice a k c] 30 := (IsB.new w _ _).below hb
  have HB := hidU ((b0 w _).trans (hb.mono (by simp)))
  obtain ⟨a0, a1, a2⟩ := k1.c3
  clear k1 hb
  cases p
  · go_wp2
    go_ret
    exact ⟨rfl, HB.out⟩
  · go_wp2_with fail
    refine (HD.out _ HB.out).mono ?_
    rintro e w2 ⟨rfl, m, hw⟩
    have hb2 : Below w.heap.size w w2 := by rw [hw]; exact below_drewN HB.out m
    have HB2 := hidU hb2
    clear hb2 hw a0 a1 a2
    go_wp2
    go_ret
    exact ⟨rfl, HB2.out⟩

set_option maxRecDepth 100000 in
set_option maxHeartbeats 1000000 in
theorem sSame_any (v u : Value) (xs ys : List Int) (n l1 h1 l2 h2 : Nat) (w : World) (hx : xs.length = n) (hy : ys.length = n) (hn2 : n ≤ 1000000000) (H1 : RowM w l1 h1 v xs) (H2 : RowM w l2 h2 u ys) :
    Calls Tryz.prog 42 #[v, u] w fun x w' => x = .returned (.bool (decide (xs = ys))) ∧ ∃ m, w' = w.drewN m := by
  obtain ⟨a, c, rfl, hv⟩ := H1
  obtain ⟨a', c', rfl, hu⟩ := H2
  rw [hx] at hv ⊢
  rw [hy] at hu ⊢
  by_cases h0 : n = 0
  · subst h0
    have e1 : xs = [] := List.eq_nil_of_length_eq_zero hx
    have e2 : ys = [] := List.eq_nil_of_length_eq_zero hy
    have HE : Hid (decide (xs = ys) = true) := by show _ = _; rw [e1, e2]; rfl
    clear hv hu hx hy e1 e2
    go_enter Tryz.func42, Tryz.ntmps42
    go_wp2
    go_loop [5] (fun i => i = .int .i64 0) (fun _ => 0)
    case atStart => exact rfl
    case round =>
      subst hrel
      go_wp2
      go_ret
      exact ⟨ret_bool HE.out.symm, 0, rfl⟩
  · obtain ⟨g, off, rfl, -, -, hc⟩ := hv (by omega)
    obtain ⟨g', off', rfl, -, -, hc'⟩ := hu (by omega)
    have H1 : Hid (∀ j, j < n → w.cell? ⟨g, off + j, none⟩ = some (.int .i64 (xs[j]?.getD 0))) := fun j hj => (hc j hj).1
    have H2 : Hid (∀ j, j < n → w.cell? ⟨g', off' + j, none⟩ = some (.int .i64 (ys[j]?.getD 0))) := fun j hj => (hc' j hj).1
    have HX := hidU hx
    have HY := hidU hy
    obtain ⟨q, hq⟩ : ∃ q, q = decide (xs = ys) := ⟨_, rfl⟩
    have HQ := hidU hq
    rw [← hq]
    clear hx hy h0 hc hc' hv hu hq
    go_enter Tryz.func42, Tryz.ntmps42
    go_wp2
    go_loopw [5] (fun i wr => ∃ k : Nat, k ≤ n ∧ i = .int .i64 k ∧ Hid (∀ j, j < k → xs[j]?.getD 0 = ys[j]?.getD 0) ∧ Hid (∃ m, wr = w.drewN m)) (fun i _ => n - (intOf i).toNat)
    case atStart => exact ⟨0, Nat.zero_le _, rfl, fun j hj => absurd hj (Nat.not_lt_zero _), 0, rfl⟩
    case round =>
      obtain ⟨k, hk, rfl, hP, hw⟩ := hrel
      obtain ⟨m, rfl⟩ := hw.out
      clear hw
      by_cases hlt : k < n
      · have c1 := H1.out k hlt
        have c2 := H2.out k hlt
        obtain ⟨x, hx⟩ : ∃ x, x = xs[k]?.getD 0 := ⟨_, rfl⟩
        obtain ⟨y, hy⟩ : ∃ y, y = ys[k]?.getD 0 := ⟨_, rfl⟩
        rw [← hx] at c1
        rw [← hy] at c2
        have HX1 := hidU hx
        have HY1 := hidU hy
        clear hx hy
        by_cases he : x = y
        · subst he
          have ht : (x != x) = false := by simp
          go_wp2
          go_quiet (fail)
          go_wp2
          go_roundw
          case rel =>
            refine ⟨k + 1, by omega, by go_num, fun j hj => ?_, m + nq, rfl⟩
            by_cases e : j = k
            · subst e; rw [← HX1.out, ← HY1.out]
            · exact hP.out j (by omega)
          case measure => simp [intOf]; omega
        · have ht : (x != y) = true := by simp [he]
          have hq2 : Hid (q = false) := by
            show _ = _
            rw [HQ.out, decide_eq_false_iff_not]
            intro e
            exact he (by rw [HX1.out, HY1.out, e])
          clear he
          go_wp2
          go_quiet (fail)
          go_wp2
          go_ret
          exact ⟨ret_bool hq2.out.symm, m + nq, by rw [World.drewN_drewN]⟩
      · have hq2 : Hid (q = true) := by
          show _ = _
          rw [HQ.out, decide_eq_true_eq]
          apply List.ext_getElem?
          intro j
          by_cases hj : j < n
          · have h3 := hP.out j (by omega)
            rw [List.getElem?_eq_getElem (by rw [HX.out]; exact hj), List.getElem?_eq_getElem (by rw [HY.out]; exact hj)] at h3 ⊢
            exact congrArg some h3
          · rw [List.getElem?_eq_none (by rw [HX.out]; omega), List.getElem?_eq_none (by rw [HY.out]; omega)]
        go_wp2
        go_ret
        exact ⟨ret_bool hq2.out.symm, m, rfl⟩
end Go.Proofs.YtnhefbhiemdhoaaGreat

/- The model's Converted and Dims. -/
namespace Go.Proofs.YtnhefbhiemdhoaaGreat
open Go.RowKit Go.Proofs.YtnhefbhiemdhoaaGreat.RM

def addC (f : Ca) (u : Int × Int) : Ca :=
  ((kN (opOk (two f.1.1 f.1.2 u.1 u.2) (f.1.1 * u.2 + u.1 * f.1.2) (f.1.2 * u.2)) (opN (two f.1.1 f.1.2 u.1 u.2) (f.1.1 * u.2 + u.1 * f.1.2) (f.1.2 * u.2)), kD (opOk (two f.1.1 f.1.2 u.1 u.2) (f.1.1 * u.2 + u.1 * f.1.2) (f.1.2 * u.2)) (opD (two f.1.1 f.1.2 u.1 u.2) (f.1.1 * u.2 + u.1 * f.1.2) (f.1.2 * u.2))), f.2 || !opOk (two f.1.1 f.1.2 u.1 u.2) (f.1.1 * u.2 + u.1 * f.1.2) (f.1.2 * u.2))
def subC (f : Ca) (u : Int × Int) : Ca :=
  ((kN (opOk (two f.1.1 f.1.2 u.1 u.2) (f.1.1 * u.2 - u.1 * f.1.2) (f.1.2 * u.2)) (opN (two f.1.1 f.1.2 u.1 u.2) (f.1.1 * u.2 - u.1 * f.1.2) (f.1.2 * u.2)), kD (opOk (two f.1.1 f.1.2 u.1 u.2) (f.1.1 * u.2 - u.1 * f.1.2) (f.1.2 * u.2)) (opD (two f.1.1 f.1.2 u.1 u.2) (f.1.1 * u.2 - u.1 * f.1.2) (f.1.2 * u.2))), f.2 || !opOk (two f.1.1 f.1.2 u.1 u.2) (f.1.1 * u.2 - u.1 * f.1.2) (f.1.2 * u.2))
/-- what has been reckoned, as it is told -/
def ansC (c : Ca) : Int × Int × Bool := if c.2 = true then (0, 0, false) else (c.1.1, c.1.2, true)
/-- what the model converts -/
def convM (v : Int × Int) (qs qt : Int × Int × List Int × Bool) (cs ct : Bool) : Int × Int × Bool :=
  if qs.2.2.2 = true ∧ qt.2.2.2 = true ∧ okB v.1 v.2 = true ∧ qs.2.2.1 = qt.2.2.1 then
    ansC (if ct then subC (divC (mulC (if cs then addC (v, false) (5463, 20) else (v, false)) (qs.1, qs.2.1)) (qt.1, qt.2.1)) (5463, 20) else divC (mulC (if cs then addC (v, false) (5463, 20) else (v, false)) (qs.1, qs.2.1)) (qt.1, qt.2.1))
  else (0, 0, false)
theorem IsB.gr {W W' : World} {B K : Nat} {vs : Array Value} {t : TypeId} (h : IsB W B vs t) (hg : W.grownBy W' (some K)) (hne : B ≠ K) : IsB W' B vs t := (hg.block B h.lt (by simpa using hne)).trans h

theorem l5Zero_any (w : World) :
    Calls Tryz.prog 39 #[] w fun e w' => e = .returned (.agg #[.int .i64 5463, .int .i64 20]) ∧ Below w.heap.size w w' := by
  go_enter Tryz.func39, Tryz.ntmps39
  go_wp2
  exact bodyPost_ret (v := .agg #[.int .i64 5463, .int .i64 20]) (by simp [results, Tryz.results39, go_sem]) rfl ⟨rfl, (Below.refl _ _).alloc (Nat.le_refl _) _⟩

set_option maxRecDepth 100000 in
set_option maxHeartbeats 1000000 in
theorem sDims_any (s : ByteArray) (w : World) (hs : s.size ≤ 1048576) :
    Calls Tryz.prog 20 #[.string s] w fun e w' => ∃ v et, e = .returned v ∧ w'.ownsRow w.heap.size et 1 v (ansU (unitM s.data.toList)).2.2.1.length ((ansU (unitM s.data.toList)).2.2.1.map (Value.int .i64)) ∧ Below w.heap.size w w' := by
  have b0 : ∀ (u : World) (o : Obj), Below u.heap.size u (u.alloc o) := fun u o => (Below.refl _ _).alloc (Nat.le_refl _) o
  have HU := hidU (fun W => sUnitOf_any s W hs)
  unfold UofP at HU
  obtain ⟨⟨n, d, xs, b⟩, hq⟩ : ∃ q, q = ansU (unitM s.data.toList) := ⟨_, rfl⟩
  rw [← hq] at HU ⊢
  clear hq
  simp only at HU ⊢
  go_enter Tryz.func20, Tryz.ntmps20
  go_wp2_with fail
  refine (HU.out _).mono ?_
  rintro e w1 ⟨v, et, rfl, o, hb⟩
  have HO := hidU (own_below o (b0 w1 (.cells #[.int .i64 n, .int .i64 d] 25)))
  have HB := hidU (hb.trans ((b0 w1 (.cells #[.int .i64 n, .int .i64 d] 25)).mono hb.size))
  clear o hb
  go_wp2
  go_ret
  exact ⟨v, et, rfl, HO.out, HB.out⟩

end Go.Proofs.YtnhefbhiemdhoaaGreat

/- Converted, the program's. -/
namespace Go.Proofs.YtnhefbhiemdhoaaGreat
open Go.RowKit Go.MapKept Go.Proofs.YtnhefbhiemdhoaaGreat.RM

end Go.Proofs.YtnhefbhiemdhoaaGreat

/- The model converts as the program does. -/
namespace Go.Proofs.YtnhefbhiemdhoaaGreat
open Go.Proofs.YtnhefbhiemdhoaaGreat.RM

theorem op_no' {t : Bool} {x y : Int} (h : opOk t x y = false) : opN t x y = 0 ∧ opD t x y = 0 := by
  unfold opOk at h
  unfold opN opD
  cases t
  · simp
  · simp only [Bool.true_and] at h
    unfold redN redD
    simp [h]
theorem op_ok {t : Bool} {x y : Int} (h : opOk t x y = true) : okB (opN t x y) (opD t x y) = true := by
  unfold opOk at h
  rw [Bool.and_eq_true] at h
  unfold opN opD
  rw [h.1, if_pos rfl, if_pos rfl]
  exact okB_redN h.2
theorem two_zero (a b : Int) : two 0 0 a b = false := two_no1 (by decide)
/-- what the model has reckoned fits what the program has -/
def Cor (c : Ca) (p : Int × Int × Bool) : Prop := (p.2.2 = true ∧ c = (fr p, false)) ∨ (p.2.2 = false ∧ fr p = (0, 0) ∧ c.2 = true)
theorem Cor.ans {c : Ca} {p : Int × Int × Bool} (h : Cor c p) : ansC c = p := by
  obtain ⟨n, d, b⟩ := p
  rcases h with ⟨h1, h2⟩ | ⟨h1, h2, h3⟩
  · simp only at h1; subst h1; rw [h2]; rfl
  · simp only at h1; subst h1
    unfold fr at h2
    injection h2 with h4 h5
    simp only at h4 h5
    subst h4 h5
    unfold ansC; rw [h3]; rfl
theorem Cor.mul {c : Ca} {p : Int × Int × Bool} (h : Cor c p) (u : Int × Int) : Cor (mulC c u) (mulQ (fr p) u) := by
  rcases h with ⟨h1, rfl⟩ | ⟨h1, h2, h3⟩
  · by_cases ho : (mulQ (fr p) u).2.2 = true
    · exact .inl ⟨ho, mulC_yes ho⟩
    · rw [Bool.not_eq_true] at ho
      exact .inr ⟨ho, Prod.ext (op_no' ho).1 (op_no' ho).2, mulC_no ho⟩
  · rw [h2, mulQ_zero]
    exact .inr ⟨rfl, rfl, mulC_bad c u h3⟩
theorem Cor.div {c : Ca} {p : Int × Int × Bool} (h : Cor c p) (u : Int × Int) : Cor (divC c u) (divQ (fr p) u) := by
  rcases h with ⟨h1, rfl⟩ | ⟨h1, h2, h3⟩
  · by_cases ho : (divQ (fr p) u).2.2 = true
    · refine .inl ⟨ho, ?_⟩
      unfold divC divQ at *
      simp only at ho ⊢
      rw [ho]
      rfl
    · rw [Bool.not_eq_true] at ho
      refine .inr ⟨ho, Prod.ext (op_no' ho).1 (op_no' ho).2, ?_⟩
      unfold divC divQ at *
      simp only at ho ⊢
      rw [ho]
      rfl
  · rw [h2]
    refine .inr ⟨?_, ?_, divC_bad c u h3⟩
    · unfold divQ; simp only [two_zero]; rfl
    · unfold divQ fr; simp only [two_zero]; rfl
theorem addC_bad (f : Ca) (u : Int × Int) (h : f.2 = true) : (addC f u).2 = true := by unfold addC; simp [h]
theorem subC_bad (f : Ca) (u : Int × Int) (h : f.2 = true) : (subC f u).2 = true := by unfold subC; simp [h]
theorem Cor.add {c : Ca} {p : Int × Int × Bool} (h : Cor c p) (u : Int × Int) : Cor (addC c u) (addQ (fr p) u) := by
  rcases h with ⟨h1, rfl⟩ | ⟨h1, h2, h3⟩
  · by_cases ho : (addQ (fr p) u).2.2 = true
    · refine .inl ⟨ho, ?_⟩
      unfold addC addQ at *
      simp only at ho ⊢
      rw [ho]
      rfl
    · rw [Bool.not_eq_true] at ho
      refine .inr ⟨ho, Prod.ext (op_no' ho).1 (op_no' ho).2, ?_⟩
      unfold addC addQ at *
      simp only at ho ⊢
      rw [ho]
      rfl
  · rw [h2]
    refine .inr ⟨?_, ?_, addC_bad c u h3⟩
    · unfold addQ; simp only [two_zero]; rfl
    · unfold addQ fr; simp only [two_zero]; rfl
theorem Cor.sub {c : Ca} {p : Int × Int × Bool} (h : Cor c p) (u : Int × Int) : Cor (subC c u) (subQ (fr p) u) := by
  rcases h with ⟨h1, rfl⟩ | ⟨h1, h2, h3⟩
  · by_cases ho : (subQ (fr p) u).2.2 = true
    · refine .inl ⟨ho, ?_⟩
      unfold subC subQ at *
      simp only at ho ⊢
      rw [ho]
      rfl
    · rw [Bool.not_eq_true] at ho
      refine .inr ⟨ho, Prod.ext (op_no' ho).1 (op_no' ho).2, ?_⟩
      unfold subC subQ at *
      simp only at ho ⊢
      rw [ho]
      rfl
  · rw [h2]
    refine .inr ⟨?_, ?_, subC_bad c u h3⟩
    · unfold subQ; simp only [two_zero]; rfl
    · unfold subQ fr; simp only [two_zero]; rfl
theorem red_same {n d : Int} (h : okB n d = true) : redOk n d = true ∧ redN n d = n ∧ redD n d = d := by
  obtain ⟨h1, h2, h3, h4, h5⟩ := okB_out h
  have hs : sg n d = 1 := by rw [sg_pos (by omega), h5]
  have hi : redIn n d = true := redIn_mk ⟨by omega, by omega, by omega, by omega, by omega⟩
  have hb : bdB (n.tdiv (sg n d)) (d.tdiv (sg n d)) = true := by
    rw [hs]
    simp only [Int.tdiv_one]
    exact bdB_mk ⟨h1, h2, h3, h4⟩
  obtain ⟨r1, r2, r3⟩ := red_yes hi hb
  refine ⟨r1, ?_, ?_⟩
  · rw [r2, hs, Int.tdiv_one]
  · rw [r3, hs, Int.tdiv_one]
theorem two_nought {n d : Int} (h : okB n d = true) : two n d 0 1 = true := two_yes h (by decide +kernel)
theorem add_nought {v : Int × Int} (h : okB v.1 v.2 = true) : addQ v (0, 1) = (v.1, v.2, true) := by
  obtain ⟨h1, h2, h3⟩ := red_same h
  unfold addQ opN opD opOk
  simp only [two_nought h, Int.mul_one, Int.zero_mul, Int.add_zero, if_true, Bool.true_and, h1, h2, h3]
theorem sub_nought {v : Int × Int} (h : okB v.1 v.2 = true) : subQ v (0, 1) = (v.1, v.2, true) := by
  obtain ⟨h1, h2, h3⟩ := red_same h
  unfold subQ opN opD opOk
  simp only [two_nought h, Int.mul_one, Int.zero_mul, Int.sub_zero, if_true, Bool.true_and, h1, h2, h3]
theorem Cor.sub0 {c : Ca} {p : Int × Int × Bool} (h : Cor c p) (hk : p.2.2 = true → okB p.1 p.2.1 = true) : Cor c (subQ (fr p) (0, 1)) := by
  rcases h with ⟨h1, h2⟩ | ⟨h1, h2, h3⟩
  · rw [sub_nought (v := fr p) (hk h1)]
    exact .inl ⟨rfl, h2⟩
  · rw [h2]
    refine .inr ⟨?_, ?_, h3⟩
    · unfold subQ; simp only [two_zero]; rfl
    · unfold subQ fr; simp only [two_zero]; rfl
theorem conv_bad {v : Int × Int} (h : okB v.1 v.2 = false) (z y : Int × Int) (f g : UV) : convQ v z f g y = (0, 0, false) := by
  have h1 : addQ v z = (0, 0, false) := by unfold addQ; rw [two_no1 h]; rfl
  have h2 : ∀ u, divQ (0, 0) u = (0, 0, false) := fun u => by unfold divQ; simp only [two_zero]; rfl
  have h3 : ∀ u, subQ (0, 0) u = (0, 0, false) := fun u => by unfold subQ; simp only [two_zero]; rfl
  unfold convQ
  rw [h1]
  show subQ (fr (divQ (fr (mulQ (0, 0) _)) _)) _ = _
  rw [mulQ_zero]
  show subQ (fr (divQ (0, 0) _)) _ = _
  rw [h2]
  exact h3 _
theorem unitT_some {l : List UInt8} {f : UV} (h : unitI l = some f) : unitT l = (f.n, f.d, f.dims, true) := by unfold unitT; rw [h]; rfl
theorem unitT_none {l : List UInt8} (h : unitI l = none) : unitT l = (0, 0, [], false) := by unfold unitT; rw [h]; rfl
theorem unitT_len {l : List UInt8} (h : (unitT l).2.2.2 = true) : (unitT l).2.2.1.length = 5 := by
  cases hu : unitI l with
  | none => rw [unitT_none hu] at h; cases h
  | some f => rw [unitT_some hu]; rfl
/-- both convert alike -/
theorem conv_same (v : Int × Int) (s t : List UInt8) : convM v (unitT s) (unitT t) (s == [67]) (t == [67]) = convI v s t := by
  unfold convI
  cases h1 : unitI s with
  | none =>
    rw [unitT_none h1]
    unfold convM
    rw [if_neg (fun h => by have := h.1; cases this)]
  | some f =>
    cases h2 : unitI t with
    | none =>
      rw [unitT_none h2]
      unfold convM
      rw [if_neg (fun h => by have := h.2.1; cases this)]
    | some g =>
      rw [unitT_some h1, unitT_some h2]
      simp only
      by_cases hd : f.dims = g.dims
      · rw [if_pos hd]
        by_cases hv : okB v.1 v.2 = true
        · unfold convM
          rw [if_pos ⟨rfl, rfl, hv, hd⟩]
          have c1 : Cor (if (s == [67]) = true then addC (v, false) (5463, 20) else (v, false)) (addQ v (zer s)) := by
            unfold zer
            by_cases hs : s = [67]
            · rw [if_pos (by rw [hs]; rfl), if_pos hs]
              exact Cor.add (c := (v, false)) (p := (v.1, v.2, true)) (.inl ⟨rfl, rfl⟩) (5463, 20)
            · rw [if_neg (by simpa using hs), if_neg hs, add_nought hv]
              exact .inl ⟨rfl, rfl⟩
          have c3 := (c1.mul (f.n, f.d)).div (g.n, g.d)
          have hk : (divQ (fr (mulQ (fr (addQ v (zer s))) (f.n, f.d))) (g.n, g.d)).2.2 = true → okB (divQ (fr (mulQ (fr (addQ v (zer s))) (f.n, f.d))) (g.n, g.d)).1 (divQ (fr (mulQ (fr (addQ v (zer s))) (f.n, f.d))) (g.n, g.d)).2.1 = true := fun h => op_ok h
          unfold convQ
          by_cases ht : t = [67]
          · rw [if_pos (by rw [ht]; rfl), show zer t = (5463, 20) from if_pos ht]
            exact (c3.sub (5463, 20)).ans
          · rw [if_neg (by simpa using ht), show zer t = (0, 1) from if_neg ht]
            exact (c3.sub0 hk).ans
        · rw [Bool.not_eq_true] at hv
          rw [conv_bad hv]
          unfold convM
          rw [if_neg (fun h => by have := h.2.2.1; rw [hv] at this; cases this)]
      · rw [if_neg hd]
        unfold convM
        rw [if_neg (fun h => hd h.2.2.2)]
end Go.Proofs.YtnhefbhiemdhoaaGreat

/- The model's Measured and In. -/
namespace Go.Proofs.YtnhefbhiemdhoaaGreat
open Go.RowKit Go.Proofs.YtnhefbhiemdhoaaGreat.RM

/-- what the model has reckoned of a factor -/
def facM (v : Int × Int) (f : Int × Int) (c : Bool) : Ca := mulC (if c then addC (v, false) (5463, 20) else (v, false)) f
def measM (v : Int × Int) (q : Int × Int × List Int × Bool) (c : Bool) : Int × Int × List Int × Bool :=
  if q.2.2.2 = true ∧ okB v.1 v.2 = true then (if (facM v (q.1, q.2.1) c).2 = true then (0, 0, [], false) else ((facM v (q.1, q.2.1) c).1.1, (facM v (q.1, q.2.1) c).1.2, q.2.2.1, true)) else (0, 0, [], false)
def aheM (v : Int × Int) (f : Int × Int) (c : Bool) : Ca := if c then subC (divC (v, false) f) (5463, 20) else divC (v, false) f
def inM (v : Int × Int) (ys : List Int) (q : Int × Int × List Int × Bool) (c : Bool) : Int × Int × Bool :=
  if q.2.2.2 = true ∧ quaB v.1 v.2 ys = true ∧ q.2.2.1 = ys then ansC (aheM v (q.1, q.2.1) c) else (0, 0, false)
def MeasP (w : World) (q : Int × Int × List Int × Bool) (e : Ending) (w' : World) : Prop :=
  ∃ v et, e = .returned (.tuple #[.agg #[.int .i64 q.1, .int .i64 q.2.1, v], .bool q.2.2.2]) ∧ w'.ownsRow w.heap.size et 1 v q.2.2.1.length (q.2.2.1.map (Value.int .i64)) ∧ Below w.heap.size w w'
theorem own_none (w : World) (b : Nat) (e : TypeId) : w.ownsRow b e 1 (.slice none 0 0) ([] : List Int).length (([] : List Int).map (Value.int .i64)) := ⟨rfl, .inl ⟨rfl, rfl⟩⟩

theorem ownSet {W : World} {base B : Nat} {e : TypeId} {v : Value} {n : Nat} {xs : List Value} (h : W.ownsRow base e 1 v n xs) (hne : v.ownBlock = none ∨ v.ownBlock ≠ some B) (k : Nat) (x : Value) : (W.setCell ⟨B, k, none⟩ x).ownsRow base e 1 v n xs :=
  h.kept (row := some B) (g_set (g_refl W (some B)) (.inr rfl) k x) hne
theorem ownApart {W : World} {base : Nat} {e : TypeId} {v : Value} {n : Nat} {xs : List Value} (h : W.ownsRow base e 1 v n xs) : v.ownBlock = none ∨ v.ownBlock ≠ some W.heap.size := by
  rcases h.2 with ⟨rfl, _⟩ | ⟨g, c, cur, rfl, _, hg, _⟩
  · exact .inl rfl
  · refine .inr fun e => ?_
    have e2 : g = W.heap.size := by simpa [Value.ownBlock] using e
    have := (Array.getElem?_eq_some_iff.1 hg).1
    omega

set_option maxRecDepth 100000 in
set_option maxHeartbeats 8000000 in
theorem sMeas_raw (n d : Int) (s : ByteArray) (w : World) (hs : s.size ≤ 1048576) (cs : Bool) (hcs : (s.toList == [67]) = cs) :
    Calls Tryz.prog 12 #[.agg #[.int .i64 n, .int .i64 d], .string s] w fun e w' => MeasP w (measM (n, d) (ansU (unitM s.data.toList)) cs) e w' := by
  have HUS := hidU (fun W => sUnitOf_any s W hs)
  unfold UofP at HUS
  obtain ⟨⟨fn, fd, xs, sb⟩, hqs⟩ : ∃ q, q = ansU (unitM s.data.toList) := ⟨_, rfl⟩
  rw [← hqs] at HUS ⊢
  clear hqs
  simp only at HUS
  have HOK := hidU (fun W => sOk_any n d W)
  obtain ⟨RR, hRR⟩ : ∃ r, r = measM (n, d) (fn, fd, xs, sb) cs := ⟨_, rfl⟩
  have HRR := hidU hRR
  rw [← hRR]
  unfold measM at HRR
  simp only at HRR
  obtain ⟨ok, hok⟩ : ∃ b, b = okB n d := ⟨_, rfl⟩
  rw [← hok] at HOK HRR
  clear hRR hok hs
  go_enter Tryz.func12, Tryz.ntmps12
  go_wp2_with fail
  refine (HUS.out _).mono ?_
  rintro e w1 ⟨lv, et, rfl, ol, hb⟩
  obtain ⟨V, hV⟩ : ∃ Z, Z = w.heap.size := ⟨_, rfl⟩
  have KV : Hid (IsB w1 V #[.int .i64 n, .int .i64 d] 25) := by show IsB _ _ _ _; rw [hV]; exact ((IsB.new w _ _).below (n0_any _ _)).below hb
  have KR : Hid (IsB w1 (V + 1) #[.int .i64 0, .int .i64 0, .slice none 0 0] 30) := by show IsB _ _ _ _; rw [hV]; exact (IsB.new2c w _ _ _).below hb
  have HB : Hid (Below w.heap.size w w1) := ((n0_any _ _).alloc (by simp) _).trans (hb.mono (by simp <;> omega))
  have HO := hidU (own_le ol (show w.heap.size ≤ _ by simp <;> omega))
  have HNVw : Hid (w.heap.size ≤ V) := by show _ ≤ _; omega
  have HOV : Hid (lv.ownBlock = none ∨ (lv.ownBlock ≠ some V ∧ lv.ownBlock ≠ some (V + 1))) := by
    rcases ol.2 with ⟨rfl, _⟩ | ⟨g, c, cur, rfl, hg0, _⟩
    · exact .inl rfl
    · refine .inr ⟨fun e => ?_, fun e => ?_⟩
      · have e2 : g = V := by simpa [Value.ownBlock] using e
        simp at hg0
        omega
      · have e2 : g = V + 1 := by simpa [Value.ownBlock] using e
        simp at hg0
        omega
  rw [← hV]
  clear hb hV ol
  obtain ⟨R, hR⟩ : ∃ R, R = V + 1 := ⟨_, rfl⟩
  have HNVKR : Hid (R ≠ V) := by show _ ≠ _; omega
  have HRw : Hid (w.heap.size ≤ R) := by show _ ≤ _; have := HNVw.out; omega
  rw [← hR] at KR HOV ⊢
  have HNVHO : Hid (lv.ownBlock = none ∨ lv.ownBlock ≠ some V) := HOV.out.imp id And.left
  have HNRHO : Hid (lv.ownBlock = none ∨ lv.ownBlock ≠ some R) := HOV.out.imp id And.right
  clear hR HOV
  go_upto_region 2 with fail
  obtain ⟨X, hX⟩ : ∃ Y, Y = w1.alloc (.cells #[.int .i64 fn, .int .i64 fd] 25) := ⟨_, rfl⟩
  obtain ⟨F, hF⟩ : ∃ G, G = w1.heap.size := ⟨_, rfl⟩
  have hb : Below w1.heap.size w1 X := by rw [hX]; exact n0_any _ _
  have KF : Hid (IsB X F #[.int .i64 fn, .int .i64 fd] 25) := by show IsB _ _ _ _; rw [hX, hF]; exact IsB.new _ _ _
  have HNVKF : Hid (F ≠ V) := by show _ ≠ _; have := KV.out.lt; rw [hF]; omega
  replace KV := hidU (KV.out.below hb)
  replace KR := hidU (KR.out.below hb)
  replace HO := hidU (own_below HO.out hb)
  replace HB := hidU (HB.out.trans (hb.mono HB.out.size))
  rw [← hX, ← hF]
  clear hX hb hF
  cases sb
  · obtain rfl : RR = (0, 0, [], false) := HRR.out.trans (if_neg (fun h => by cases h.1))
    obtain ⟨z0, z1, z2⟩ := KR.out.c3
    obtain ⟨f0, f1, f2⟩ := KR.out.f3
    go_wp2
    obtain ⟨y0, y1, y2⟩ := (KR.out.set3 (.int .i64 0) (.int .i64 0) (.slice none 0 0)).c3
    exact bodyPost_ret (v := .tuple #[.agg #[.int .i64 0, .int .i64 0, .slice none 0 0], .bool false]) (by simp [results, Tryz.results12, go_sem, y0, y1, y2]) rfl ⟨_, 2, rfl, own_none _ _ _, below_set3 HB.out HRw.out _ _ _⟩
  obtain ⟨v0, v1⟩ := KV.out.c2
  go_wp2_with fail
  refine (HOK.out _).mono ?_
  rintro e w3 ⟨rfl, hb⟩
  replace KV := hidU (KV.out.below hb)
  replace KR := hidU (KR.out.below hb)
  replace KF := hidU (KF.out.below hb)
  replace HO := hidU (own_below HO.out hb)
  replace HB := hidU (HB.out.trans (hb.mono HB.out.size))
  clear hb v0 v1 HOK
  cases ok
  · obtain rfl : RR = (0, 0, [], false) := HRR.out.trans (if_neg (fun h => by cases h.2))
    obtain ⟨z0, z1, z2⟩ := KR.out.c3
    obtain ⟨f0, f1, f2⟩ := KR.out.f3
    go_wp2
    obtain ⟨y0, y1, y2⟩ := (KR.out.set3 (.int .i64 0) (.int .i64 0) (.slice none 0 0)).c3
    exact bodyPost_ret (v := .tuple #[.agg #[.int .i64 0, .int .i64 0, .slice none 0 0], .bool false]) (by simp [results, Tryz.results12, go_sem, y0, y1, y2]) rfl ⟨_, 2, rfl, own_none _ _ _, below_set3 HB.out HRw.out _ _ _⟩
  replace HRR := hidU (HRR.out.trans (if_pos (by simp)))
  go_upto_region 5 with fail
  obtain ⟨T0, hT⟩ : ∃ X, X = w3.alloc (.cells #[.bool false] 73) := ⟨_, rfl⟩
  obtain ⟨K, hK⟩ : ∃ G, G = w3.heap.size := ⟨_, rfl⟩
  have hb : Below w3.heap.size w3 T0 := by rw [hT]; exact n0_any _ _
  have HKK : Hid (IsK T0 K false) := by show IsK _ _ _; rw [hT, hK]; exact IsK.new _ _
  have HNKw : Hid (w.heap.size ≤ K) := by show _ ≤ _; rw [hK]; exact HB.out.size
  have HNKKV : Hid (V ≠ K) := by show _ ≠ _; have := KV.out.lt; rw [hK]; omega
  have HNKKR : Hid (R ≠ K) := by show _ ≠ _; have := KR.out.lt; rw [hK]; omega
  have HNKKF : Hid (F ≠ K) := by show _ ≠ _; have := KF.out.lt; rw [hK]; omega
  have HNKHO : Hid (lv.ownBlock = none ∨ lv.ownBlock ≠ some K) := by show _ ∨ _; rw [hK]; exact ownApart HO.out
  replace KV := hidU (KV.out.below hb)
  replace KR := hidU (KR.out.below hb)
  replace KF := hidU (KF.out.below hb)
  replace HO := hidU (own_below HO.out hb)
  replace HB := hidU (HB.out.trans (hb.mono HB.out.size))
  rw [← hT, ← hK]
  clear hb hT hK
  have HADD : Hid (∀ (W : World) (f : Ca) (u : Int × Int), IsK W K f.2 → Calls Tryz.prog 38 #[.pointer (some ⟨K, 0, none⟩), .agg #[.int .i64 f.1.1, .int .i64 f.1.2], .agg #[.int .i64 u.1, .int .i64 u.2]] W fun e w' => e = .returned (.agg #[.int .i64 (addC f u).1.1, .int .i64 (addC f u).1.2]) ∧ IsK w' K (addC f u).2 ∧ W.grownBy w' (some K)) := fun W f u h => cAdd_any K f.2 f.1.1 f.1.2 u.1 u.2 W h
  have HMUL : Hid (∀ (W : World) (f : Ca) (u : Int × Int), IsK W K f.2 → Calls Tryz.prog 40 #[.pointer (some ⟨K, 0, none⟩), .agg #[.int .i64 f.1.1, .int .i64 f.1.2], .agg #[.int .i64 u.1, .int .i64 u.2]] W fun e w' => e = .returned (.agg #[.int .i64 (mulC f u).1.1, .int .i64 (mulC f u).1.2]) ∧ IsK w' K (mulC f u).2 ∧ W.grownBy w' (some K)) := fun W f u h => cMul_any K f.2 f.1.1 f.1.2 u.1 u.2 W h
  cases cs
  · skip
    obtain ⟨v0, v1⟩ := KV.out.c2
    obtain ⟨q0, q1⟩ := KF.out.c2
    go_wp2_with fail
    refine (HMUL.out _ (((n, d), false)) (fn, fd) HKK.out).mono ?_
    rintro e t1 ⟨rfl, hkk, hg⟩
    clear v0 v1 q0 q1
    replace KV := hidU (KV.out.gr hg HNKKV.out)
    replace KR := hidU (KR.out.gr hg HNKKR.out)
    replace KF := hidU (KF.out.gr hg HNKKF.out)
    replace HO := hidU (HO.out.kept hg (HNKHO.out))
    replace HKK := hidU hkk
    replace HB := hidU (HB.out.trans (below_grownK hg HNKw.out HB.out.size))
    clear hkk hg
    obtain ⟨v0, v1⟩ := KV.out.c2
    obtain ⟨f0, f1⟩ := KV.out.f2
    go_upto_region 8 with fail
    clear v0 v1 f0 f1
    replace KR := hidU (KR.out.other2 HNVKR.out (.int .i64 (mulC (((n, d), false)) (fn, fd)).1.1) (.int .i64 (mulC (((n, d), false)) (fn, fd)).1.2))
    replace KF := hidU (KF.out.other2 HNVKF.out (.int .i64 (mulC (((n, d), false)) (fn, fd)).1.1) (.int .i64 (mulC (((n, d), false)) (fn, fd)).1.2))
    replace HO := hidU (ownSet (ownSet HO.out HNVHO.out 0 (.int .i64 (mulC (((n, d), false)) (fn, fd)).1.1)) HNVHO.out 1 (.int .i64 (mulC (((n, d), false)) (fn, fd)).1.2))
    replace HKK := hidU ((HKK.out.other (Ne.symm HNKKV.out) 0 (.int .i64 (mulC (((n, d), false)) (fn, fd)).1.1)).other (Ne.symm HNKKV.out) 1 (.int .i64 (mulC (((n, d), false)) (fn, fd)).1.2))
    have K1b := hidU (KV.out.set2 (.int .i64 (mulC (((n, d), false)) (fn, fd)).1.1) (.int .i64 (mulC (((n, d), false)) (fn, fd)).1.2))
    replace HB := hidU (below_set2 HB.out HNVw.out (.int .i64 (mulC (((n, d), false)) (fn, fd)).1.1) (.int .i64 (mulC (((n, d), false)) (fn, fd)).1.2))
    clear KV
    have KV := K1b
    clear K1b
    obtain ⟨t2, hwd⟩ : ∃ u, u = (t1.setCell ⟨V, 0, none⟩ (.int .i64 (mulC (((n, d), false)) (fn, fd)).1.1)).setCell ⟨V, 1, none⟩ (.int .i64 (mulC (((n, d), false)) (fn, fd)).1.2) := ⟨_, rfl⟩
    rw [← hwd] at KV KR KF HO HKK HB ⊢
    clear hwd
    obtain ⟨⟨⟨cn, cd⟩, cb⟩, hC⟩ : ∃ c, c = mulC (((n, d), false)) (fn, fd) := ⟨_, rfl⟩
    unfold facM at HRR
    simp only [Bool.false_eq_true, if_false] at HRR
    rw [← hC] at HKK HRR KV
    clear hC
    have kc := HKK.out.cell
    obtain ⟨z0, z1, z2⟩ := KR.out.c3
    obtain ⟨f0, f1, f2⟩ := KR.out.f3
    obtain ⟨v0, v1⟩ := KV.out.c2
    cases cb
    · obtain rfl : RR = (cn, cd, xs, true) := HRR.out
      obtain ⟨la, lc, hls⟩ := own_shape HO.out
      obtain ⟨ln, hln⟩ : ∃ k, k = xs.length := ⟨_, rfl⟩
      have HO2 := hidU (ownSet (ownSet (ownSet HO.out HNRHO.out 0 (.int .i64 cn)) HNRHO.out 1 (.int .i64 cd)) HNRHO.out 2 lv)
      rw [← hln] at hls
      subst hls
      clear hln
      go_wp2
      obtain ⟨y0, y1, y2⟩ := (KR.out.set3 (.int .i64 cn) (.int .i64 cd) (.slice la ln lc)).c3
      exact bodyPost_ret (v := .tuple #[.agg #[.int .i64 cn, .int .i64 cd, .slice la ln lc], .bool true]) (by simp [results, Tryz.results12, go_sem, y0, y1, y2]) rfl ⟨_, et, rfl, HO2.out, below_set3 HB.out HRw.out _ _ _⟩
    · obtain rfl : RR = (0, 0, [], false) := HRR.out
      go_wp2
      obtain ⟨y0, y1, y2⟩ := (KR.out.set3 (.int .i64 0) (.int .i64 0) (.slice none 0 0)).c3
      exact bodyPost_ret (v := .tuple #[.agg #[.int .i64 0, .int .i64 0, .slice none 0 0], .bool false]) (by simp [results, Tryz.results12, go_sem, y0, y1, y2]) rfl ⟨_, 2, rfl, own_none _ _ _, below_set3 HB.out HRw.out _ _ _⟩
  · go_upto_region 6 with fail
    refine wp_region_noPanic ?_
    have hb := (Below.refl T0.heap.size T0).drew
    replace KV := hidU (KV.out.below hb)
    replace KR := hidU (KR.out.below hb)
    replace KF := hidU (KF.out.below hb)
    replace HKK := hidU (HKK.out.below hb)
    replace HO := hidU (own_below HO.out hb)
    replace HB := hidU (HB.out.trans (hb.mono HB.out.size))
    clear hb
    refine wp_region_held_drew (S := fun _ => True) (by kernel_rfl) trivial (fun hHeld => ?_)
    obtain ⟨t3, hwd⟩ : ∃ u, u = T0.drew := ⟨_, rfl⟩
    rw [← hwd] at KV KR KF HO HKK HB ⊢
    clear hwd
    refine wpAnyH_take (i := 0) (v := ?_) rfl (by kernel_rfl) (by kernel_rfl) (by kernel_rfl) (fun _ _ _ h => h) (Or.inl ⟨by kernel_rfl, ?_⟩) hHeld ?_
    rotate_left
    · intro wz hSw; (try dsimp only at hSw); go_simp; all_goals (try with_reducible rfl)
    (try simp only [List.getElem_toArray]); (try simp only [List.getElem_cons_succ]); (try simp only [List.getElem_cons_zero]); (try simp only [Act.put]); (try simp only [List.setIfInBounds_toArray]); (try simp only [List.set_cons_succ]); (try simp only [List.set_cons_zero])
    refine wpAnyH_ready (rs := [1, 2]) (by kernel_rfl) (by simp) (AllReadyH.cons rfl (fun Kc hKc => ?_) (AllReadyH.cons rfl (fun Kc hKc => ?_) AllReadyH.nil))
    · obtain ⟨v0, v1⟩ := KV.out.c2
      go_simp
      refine hKc.out _ _ trivial (fun hHeld => ?_)
      clear hKc Kc v0 v1
      (try simp only [List.getElem_toArray]); (try simp only [List.getElem_cons_succ]); (try simp only [List.getElem_cons_zero]); (try simp only [Act.put]); (try simp only [List.setIfInBounds_toArray]); (try simp only [List.set_cons_succ]); (try simp only [List.set_cons_zero])
      refine wpAnyH_ready (rs := [2]) (by kernel_rfl) (by simp) (AllReadyH.cons rfl (fun Kc hKc => ?_) AllReadyH.nil)
      go_simp
      refine (l5Zero_any _).mono ?_
      rintro e t4 ⟨rfl, hb⟩
      replace KV := hidU (KV.out.below hb)
      replace KR := hidU (KR.out.below hb)
      replace KF := hidU (KF.out.below hb)
      replace HKK := hidU (HKK.out.below hb)
      replace HO := hidU (own_below HO.out hb)
      replace HB := hidU (HB.out.trans (hb.mono HB.out.size))
      clear hb
      go_wp2_with fail
      refine hKc.out _ _ trivial (fun hHeld => ?_)
      clear hKc Kc
      (try simp only [List.getElem_toArray]); (try simp only [List.getElem_cons_succ]); (try simp only [List.getElem_cons_zero]); (try simp only [Act.put]); (try simp only [List.setIfInBounds_toArray]); (try simp only [List.set_cons_succ]); (try simp only [List.set_cons_zero])
      refine wpAnyH_ready (rs := [3]) (by kernel_rfl) (by simp) (AllReadyH.cons rfl (fun Kc hKc => ?_) AllReadyH.nil)
      go_simp
      refine (HADD.out _ (((n, d), false)) (5463, 20) HKK.out).mono ?_
      rintro e t5 ⟨rfl, hkk, hg⟩
      replace KV := hidU (KV.out.gr hg HNKKV.out)
      replace KR := hidU (KR.out.gr hg HNKKR.out)
      replace KF := hidU (KF.out.gr hg HNKKF.out)
      replace HO := hidU (HO.out.kept hg (HNKHO.out))
      replace HKK := hidU hkk
      replace HB := hidU (HB.out.trans (below_grownK hg HNKw.out HB.out.size))
      clear hkk hg
      go_wp2_with fail
      refine hKc.out _ _ trivial (fun hHeld => ?_)
      clear hKc Kc
      (try simp only [List.getElem_toArray]); (try simp only [List.getElem_cons_succ]); (try simp only [List.getElem_cons_zero]); (try simp only [Act.put]); (try simp only [List.setIfInBounds_toArray]); (try simp only [List.set_cons_succ]); (try simp only [List.set_cons_zero])
      obtain ⟨v0, v1⟩ := KV.out.c2
      obtain ⟨f0, f1⟩ := KV.out.f2
      replace KR := hidU (KR.out.other2 HNVKR.out (.int .i64 (addC ((n, d), false) (5463, 20)).1.1) (.int .i64 (addC ((n, d), false) (5463, 20)).1.2))
      replace KF := hidU (KF.out.other2 HNVKF.out (.int .i64 (addC ((n, d), false) (5463, 20)).1.1) (.int .i64 (addC ((n, d), false) (5463, 20)).1.2))
      replace HO := hidU (ownSet (ownSet HO.out HNVHO.out 0 (.int .i64 (addC ((n, d), false) (5463, 20)).1.1)) HNVHO.out 1 (.int .i64 (addC ((n, d), false) (5463, 20)).1.2))
      replace HKK := hidU ((HKK.out.other (Ne.symm HNKKV.out) 0 (.int .i64 (addC ((n, d), false) (5463, 20)).1.1)).other (Ne.symm HNKKV.out) 1 (.int .i64 (addC ((n, d), false) (5463, 20)).1.2))
      have K1b := hidU (KV.out.set2 (.int .i64 (addC ((n, d), false) (5463, 20)).1.1) (.int .i64 (addC ((n, d), false) (5463, 20)).1.2))
      replace HB := hidU (below_set2 HB.out HNVw.out (.int .i64 (addC ((n, d), false) (5463, 20)).1.1) (.int .i64 (addC ((n, d), false) (5463, 20)).1.2))
      refine wpAnyH_ready (rs := [4]) (by kernel_rfl) (by simp) (AllReadyH.cons rfl (fun Kc hKc => ?_) AllReadyH.nil)
      go_simp
      refine hKc.out _ _ trivial (fun hHeld => ?_)
      clear hKc Kc v0 v1 f0 f1 KV
      (try simp only [List.getElem_toArray]); (try simp only [List.getElem_cons_succ]); (try simp only [List.getElem_cons_zero]); (try simp only [Act.put]); (try simp only [List.setIfInBounds_toArray]); (try simp only [List.set_cons_succ]); (try simp only [List.set_cons_zero])
      refine wpAnyH_done (by kernel_rfl) ?_ _
      refine NoPanic.normal ?_
      have KV := K1b
      clear K1b
      obtain ⟨t6, hwd⟩ : ∃ u, u = (t5.setCell ⟨V, 0, none⟩ (.int .i64 (addC ((n, d), false) (5463, 20)).1.1)).setCell ⟨V, 1, none⟩ (.int .i64 (addC ((n, d), false) (5463, 20)).1.2) := ⟨_, rfl⟩
      rw [← hwd] at KV KR KF HO HKK HB ⊢
      clear hwd
      obtain ⟨v0, v1⟩ := KV.out.c2
      obtain ⟨q0, q1⟩ := KF.out.c2
      go_wp2_with fail
      refine (HMUL.out _ (addC ((n, d), false) (5463, 20)) (fn, fd) HKK.out).mono ?_
      rintro e t7 ⟨rfl, hkk, hg⟩
      clear v0 v1 q0 q1
      replace KV := hidU (KV.out.gr hg HNKKV.out)
      replace KR := hidU (KR.out.gr hg HNKKR.out)
      replace KF := hidU (KF.out.gr hg HNKKF.out)
      replace HO := hidU (HO.out.kept hg (HNKHO.out))
      replace HKK := hidU hkk
      replace HB := hidU (HB.out.trans (below_grownK hg HNKw.out HB.out.size))
      clear hkk hg
      obtain ⟨v0, v1⟩ := KV.out.c2
      obtain ⟨f0, f1⟩ := KV.out.f2
      go_upto_region 8 with fail
      clear v0 v1 f0 f1
      replace KR := hidU (KR.out.other2 HNVKR.out (.int .i64 (mulC (addC ((n, d), false) (5463, 20)) (fn, fd)).1.1) (.int .i64 (mulC (addC ((n, d), false) (5463, 20)) (fn, fd)).1.2))
      replace KF := hidU (KF.out.other2 HNVKF.out (.int .i64 (mulC (addC ((n, d), false) (5463, 20)) (fn, fd)).1.1) (.int .i64 (mulC (addC ((n, d), false) (5463, 20)) (fn, fd)).1.2))
      replace HO := hidU (ownSet (ownSet HO.out HNVHO.out 0 (.int .i64 (mulC (addC ((n, d), false) (5463, 20)) (fn, fd)).1.1)) HNVHO.out 1 (.int .i64 (mulC (addC ((n, d), false) (5463, 20)) (fn, fd)).1.2))
      replace HKK := hidU ((HKK.out.other (Ne.symm HNKKV.out) 0 (.int .i64 (mulC (addC ((n, d), false) (5463, 20)) (fn, fd)).1.1)).other (Ne.symm HNKKV.out) 1 (.int .i64 (mulC (addC ((n, d), false) (5463, 20)) (fn, fd)).1.2))
      have K1b := hidU (KV.out.set2 (.int .i64 (mulC (addC ((n, d), false) (5463, 20)) (fn, fd)).1.1) (.int .i64 (mulC (addC ((n, d), false) (5463, 20)) (fn, fd)).1.2))
      replace HB := hidU (below_set2 HB.out HNVw.out (.int .i64 (mulC (addC ((n, d), false) (5463, 20)) (fn, fd)).1.1) (.int .i64 (mulC (addC ((n, d), false) (5463, 20)) (fn, fd)).1.2))
      clear KV
      have KV := K1b
      clear K1b
      obtain ⟨t8, hwd⟩ : ∃ u, u = (t7.setCell ⟨V, 0, none⟩ (.int .i64 (mulC (addC ((n, d), false) (5463, 20)) (fn, fd)).1.1)).setCell ⟨V, 1, none⟩ (.int .i64 (mulC (addC ((n, d), false) (5463, 20)) (fn, fd)).1.2) := ⟨_, rfl⟩
      rw [← hwd] at KV KR KF HO HKK HB ⊢
      clear hwd
      obtain ⟨⟨⟨cn, cd⟩, cb⟩, hC⟩ : ∃ c, c = mulC (addC ((n, d), false) (5463, 20)) (fn, fd) := ⟨_, rfl⟩
      unfold facM at HRR
      simp only [if_true] at HRR
      rw [← hC] at HKK HRR KV
      clear hC
      have kc := HKK.out.cell
      obtain ⟨z0, z1, z2⟩ := KR.out.c3
      obtain ⟨f0, f1, f2⟩ := KR.out.f3
      obtain ⟨v0, v1⟩ := KV.out.c2
      cases cb
      · obtain rfl : RR = (cn, cd, xs, true) := HRR.out
        obtain ⟨la, lc, hls⟩ := own_shape HO.out
        obtain ⟨ln, hln⟩ : ∃ k, k = xs.length := ⟨_, rfl⟩
        have HO2 := hidU (ownSet (ownSet (ownSet HO.out HNRHO.out 0 (.int .i64 cn)) HNRHO.out 1 (.int .i64 cd)) HNRHO.out 2 lv)
        rw [← hln] at hls
        subst hls
        clear hln
        go_wp2
        obtain ⟨y0, y1, y2⟩ := (KR.out.set3 (.int .i64 cn) (.int .i64 cd) (.slice la ln lc)).c3
        exact bodyPost_ret (v := .tuple #[.agg #[.int .i64 cn, .int .i64 cd, .slice la ln lc], .bool true]) (by simp [results, Tryz.results12, go_sem, y0, y1, y2]) rfl ⟨_, et, rfl, HO2.out, below_set3 HB.out HRw.out _ _ _⟩
      · obtain rfl : RR = (0, 0, [], false) := HRR.out
        go_wp2
        obtain ⟨y0, y1, y2⟩ := (KR.out.set3 (.int .i64 0) (.int .i64 0) (.slice none 0 0)).c3
        exact bodyPost_ret (v := .tuple #[.agg #[.int .i64 0, .int .i64 0, .slice none 0 0], .bool false]) (by simp [results, Tryz.results12, go_sem, y0, y1, y2]) rfl ⟨_, 2, rfl, own_none _ _ _, below_set3 HB.out HRw.out _ _ _⟩
    · go_simp
      refine (l5Zero_any _).mono ?_
      rintro e t9 ⟨rfl, hb⟩
      replace KV := hidU (KV.out.below hb)
      replace KR := hidU (KR.out.below hb)
      replace KF := hidU (KF.out.below hb)
      replace HKK := hidU (HKK.out.below hb)
      replace HO := hidU (own_below HO.out hb)
      replace HB := hidU (HB.out.trans (hb.mono HB.out.size))
      clear hb
      go_wp2_with fail
      refine hKc.out _ _ trivial (fun hHeld => ?_)
      clear hKc Kc
      (try simp only [List.getElem_toArray]); (try simp only [List.getElem_cons_succ]); (try simp only [List.getElem_cons_zero]); (try simp only [Act.put]); (try simp only [List.setIfInBounds_toArray]); (try simp only [List.set_cons_succ]); (try simp only [List.set_cons_zero])
      refine wpAnyH_ready (rs := [1]) (by kernel_rfl) (by simp) (AllReadyH.cons rfl (fun Kc hKc => ?_) AllReadyH.nil)
      obtain ⟨v0, v1⟩ := KV.out.c2
      go_simp
      refine hKc.out _ _ trivial (fun hHeld => ?_)
      clear hKc Kc v0 v1
      (try simp only [List.getElem_toArray]); (try simp only [List.getElem_cons_succ]); (try simp only [List.getElem_cons_zero]); (try simp only [Act.put]); (try simp only [List.setIfInBounds_toArray]); (try simp only [List.set_cons_succ]); (try simp only [List.set_cons_zero])
      refine wpAnyH_ready (rs := [3]) (by kernel_rfl) (by simp) (AllReadyH.cons rfl (fun Kc hKc => ?_) AllReadyH.nil)
      go_simp
      refine (HADD.out _ (((n, d), false)) (5463, 20) HKK.out).mono ?_
      rintro e t10 ⟨rfl, hkk, hg⟩
      replace KV := hidU (KV.out.gr hg HNKKV.out)
      replace KR := hidU (KR.out.gr hg HNKKR.out)
      replace KF := hidU (KF.out.gr hg HNKKF.out)
      replace HO := hidU (HO.out.kept hg (HNKHO.out))
      replace HKK := hidU hkk
      replace HB := hidU (HB.out.trans (below_grownK hg HNKw.out HB.out.size))
      clear hkk hg
      go_wp2_with fail
      refine hKc.out _ _ trivial (fun hHeld => ?_)
      clear hKc Kc
      (try simp only [List.getElem_toArray]); (try simp only [List.getElem_cons_succ]); (try simp only [List.getElem_cons_zero]); (try simp only [Act.put]); (try simp only [List.setIfInBounds_toArray]); (try simp only [List.set_cons_succ]); (try simp only [List.set_cons_zero])
      obtain ⟨v0, v1⟩ := KV.out.c2
      obtain ⟨f0, f1⟩ := KV.out.f2
      replace KR := hidU (KR.out.other2 HNVKR.out (.int .i64 (addC ((n, d), false) (5463, 20)).1.1) (.int .i64 (addC ((n, d), false) (5463, 20)).1.2))
      replace KF := hidU (KF.out.other2 HNVKF.out (.int .i64 (addC ((n, d), false) (5463, 20)).1.1) (.int .i64 (addC ((n, d), false) (5463, 20)).1.2))
      replace HO := hidU (ownSet (ownSet HO.out HNVHO.out 0 (.int .i64 (addC ((n, d), false) (5463, 20)).1.1)) HNVHO.out 1 (.int .i64 (addC ((n, d), false) (5463, 20)).1.2))
      replace HKK := hidU ((HKK.out.other (Ne.symm HNKKV.out) 0 (.int .i64 (addC ((n, d), false) (5463, 20)).1.1)).other (Ne.symm HNKKV.out) 1 (.int .i64 (addC ((n, d), false) (5463, 20)).1.2))
      have K1b := hidU (KV.out.set2 (.int .i64 (addC ((n, d), false) (5463, 20)).1.1) (.int .i64 (addC ((n, d), false) (5463, 20)).1.2))
      replace HB := hidU (below_set2 HB.out HNVw.out (.int .i64 (addC ((n, d), false) (5463, 20)).1.1) (.int .i64 (addC ((n, d), false) (5463, 20)).1.2))
      refine wpAnyH_ready (rs := [4]) (by kernel_rfl) (by simp) (AllReadyH.cons rfl (fun Kc hKc => ?_) AllReadyH.nil)
      go_simp
      refine hKc.out _ _ trivial (fun hHeld => ?_)
      clear hKc Kc v0 v1 f0 f1 KV
      (try simp only [List.getElem_toArray]); (try simp only [List.getElem_cons_succ]); (try simp only [List.getElem_cons_zero]); (try simp only [Act.put]); (try simp only [List.setIfInBounds_toArray]); (try simp only [List.set_cons_succ]); (try simp only [List.set_cons_zero])
      refine wpAnyH_done (by kernel_rfl) ?_ _
      refine NoPanic.normal ?_
      have KV := K1b
      clear K1b
      obtain ⟨t11, hwd⟩ : ∃ u, u = (t10.setCell ⟨V, 0, none⟩ (.int .i64 (addC ((n, d), false) (5463, 20)).1.1)).setCell ⟨V, 1, none⟩ (.int .i64 (addC ((n, d), false) (5463, 20)).1.2) := ⟨_, rfl⟩
      rw [← hwd] at KV KR KF HO HKK HB ⊢
      clear hwd
      obtain ⟨v0, v1⟩ := KV.out.c2
      obtain ⟨q0, q1⟩ := KF.out.c2
      go_wp2_with fail
      refine (HMUL.out _ (addC ((n, d), false) (5463, 20)) (fn, fd) HKK.out).mono ?_
      rintro e t12 ⟨rfl, hkk, hg⟩
      clear v0 v1 q0 q1
      replace KV := hidU (KV.out.gr hg HNKKV.out)
      replace KR := hidU (KR.out.gr hg HNKKR.out)
      replace KF := hidU (KF.out.gr hg HNKKF.out)
      replace HO := hidU (HO.out.kept hg (HNKHO.out))
      replace HKK := hidU hkk
      replace HB := hidU (HB.out.trans (below_grownK hg HNKw.out HB.out.size))
      clear hkk hg
      obtain ⟨v0, v1⟩ := KV.out.c2
      obtain ⟨f0, f1⟩ := KV.out.f2
      go_upto_region 8 with fail
      clear v0 v1 f0 f1
      replace KR := hidU (KR.out.other2 HNVKR.out (.int .i64 (mulC (addC ((n, d), false) (5463, 20)) (fn, fd)).1.1) (.int .i64 (mulC (addC ((n, d), false) (5463, 20)) (fn, fd)).1.2))
      replace KF := hidU (KF.out.other2 HNVKF.out (.int .i64 (mulC (addC ((n, d), false) (5463, 20)) (fn, fd)).1.1) (.int .i64 (mulC (addC ((n, d), false) (5463, 20)) (fn, fd)).1.2))
      replace HO := hidU (ownSet (ownSet HO.out HNVHO.out 0 (.int .i64 (mulC (addC ((n, d), false) (5463, 20)) (fn, fd)).1.1)) HNVHO.out 1 (.int .i64 (mulC (addC ((n, d), false) (5463, 20)) (fn, fd)).1.2))
      replace HKK := hidU ((HKK.out.other (Ne.symm HNKKV.out) 0 (.int .i64 (mulC (addC ((n, d), false) (5463, 20)) (fn, fd)).1.1)).other (Ne.symm HNKKV.out) 1 (.int .i64 (mulC (addC ((n, d), false) (5463, 20)) (fn, fd)).1.2))
      have K1b := hidU (KV.out.set2 (.int .i64 (mulC (addC ((n, d), false) (5463, 20)) (fn, fd)).1.1) (.int .i64 (mulC (addC ((n, d), false) (5463, 20)) (fn, fd)).1.2))
      replace HB := hidU (below_set2 HB.out HNVw.out (.int .i64 (mulC (addC ((n, d), false) (5463, 20)) (fn, fd)).1.1) (.int .i64 (mulC (addC ((n, d), false) (5463, 20)) (fn, fd)).1.2))
      clear KV
      have KV := K1b
      clear K1b
      obtain ⟨t13, hwd⟩ : ∃ u, u = (t12.setCell ⟨V, 0, none⟩ (.int .i64 (mulC (addC ((n, d), false) (5463, 20)) (fn, fd)).1.1)).setCell ⟨V, 1, none⟩ (.int .i64 (mulC (addC ((n, d), false) (5463, 20)) (fn, fd)).1.2) := ⟨_, rfl⟩
      rw [← hwd] at KV KR KF HO HKK HB ⊢
      clear hwd
      obtain ⟨⟨⟨cn, cd⟩, cb⟩, hC⟩ : ∃ c, c = mulC (addC ((n, d), false) (5463, 20)) (fn, fd) := ⟨_, rfl⟩
      unfold facM at HRR
      simp only [if_true] at HRR
      rw [← hC] at HKK HRR KV
      clear hC
      have kc := HKK.out.cell
      obtain ⟨z0, z1, z2⟩ := KR.out.c3
      obtain ⟨f0, f1, f2⟩ := KR.out.f3
      obtain ⟨v0, v1⟩ := KV.out.c2
      cases cb
      · obtain rfl : RR = (cn, cd, xs, true) := HRR.out
        obtain ⟨la, lc, hls⟩ := own_shape HO.out
        obtain ⟨ln, hln⟩ : ∃ k, k = xs.length := ⟨_, rfl⟩
        have HO2 := hidU (ownSet (ownSet (ownSet HO.out HNRHO.out 0 (.int .i64 cn)) HNRHO.out 1 (.int .i64 cd)) HNRHO.out 2 lv)
        rw [← hln] at hls
        subst hls
        clear hln
        go_wp2
        obtain ⟨y0, y1, y2⟩ := (KR.out.set3 (.int .i64 cn) (.int .i64 cd) (.slice la ln lc)).c3
        exact bodyPost_ret (v := .tuple #[.agg #[.int .i64 cn, .int .i64 cd, .slice la ln lc], .bool true]) (by simp [results, Tryz.results12, go_sem, y0, y1, y2]) rfl ⟨_, et, rfl, HO2.out, below_set3 HB.out HRw.out _ _ _⟩
      · obtain rfl : RR = (0, 0, [], false) := HRR.out
        go_wp2
        obtain ⟨y0, y1, y2⟩ := (KR.out.set3 (.int .i64 0) (.int .i64 0) (.slice none 0 0)).c3
        exact bodyPost_ret (v := .tuple #[.agg #[.int .i64 0, .int .i64 0, .slice none 0 0], .bool false]) (by simp [results, Tryz.results12, go_sem, y0, y1, y2]) rfl ⟨_, 2, rfl, own_none _ _ _, below_set3 HB.out HRw.out _ _ _⟩

set_option maxRecDepth 100000 in
set_option maxHeartbeats 8000000 in
theorem sIn_raw (n d : Int) (v : Value) (ys : List Int) (s : ByteArray)  (w : World) (h : DimIn w v ys) (hs : s.size ≤ 1048576) (hls : ∀ q, q = ansU (unitM s.data.toList) → q.2.2.2 = true → q.2.2.1.length = 5) (cs : Bool) (hcs : (s.toList == [67]) = cs) :
    Calls Tryz.prog 18 #[.agg #[.int .i64 n, .int .i64 d, v], .string s] w fun e w' => e = .returned (.tuple #[.agg #[.int .i64 (inM (n, d) ys (ansU (unitM s.data.toList)) cs).1, .int .i64 (inM (n, d) ys (ansU (unitM s.data.toList)) cs).2.1], .bool (inM (n, d) ys (ansU (unitM s.data.toList)) cs).2.2]) ∧ Below w.heap.size w w' := by
  have HUS := hidU (fun W => sUnitOf_any s W hs)
  unfold UofP at HUS
  obtain ⟨⟨fn, fd, xs, sb⟩, hqs⟩ : ∃ q, q = ansU (unitM s.data.toList) := ⟨_, rfl⟩
  have HLS := hidU (hls _ hqs)
  rw [← hqs] at HUS ⊢
  clear hqs hls
  simp only at HUS HLS
  have HOK := hidU (fun W (hW : Below w.heap.size w W) => sQuaOk_any n d v ys W (h.below hW))
  have HD := hidU (fun W (hW : Below w.heap.size w W) => h.below hW)
  obtain ⟨RR, hRR⟩ : ∃ r, r = inM (n, d) ys (fn, fd, xs, sb) cs := ⟨_, rfl⟩
  have HRR := hidU hRR
  rw [← hRR]
  unfold inM at HRR
  simp only at HRR
  obtain ⟨ok, hok⟩ : ∃ b, b = quaB n d ys := ⟨_, rfl⟩
  have HY5 : Hid (ok = true → ys.length = 5) := by
    intro h2
    rw [hok] at h2
    unfold quaB at h2
    rw [Bool.and_eq_true] at h2
    exact dimB_len h2.2
  rw [← hok] at HOK HRR
  obtain ⟨av, cv, rfl⟩ := h.shape
  obtain ⟨kv, hkv⟩ : ∃ k, k = ys.length := ⟨_, rfl⟩
  rw [← hkv] at HOK HD ⊢
  obtain ⟨g, hg⟩ : ∃ b, b = decide (xs = ys) := ⟨_, rfl⟩
  have HG := hidU hg
  clear hRR hok hs h hkv hg
  go_enter Tryz.func18, Tryz.ntmps18
  go_wp2_with fail
  refine (HUS.out _).mono ?_
  rintro e w1 ⟨lv, et, rfl, ol, hb⟩
  obtain ⟨P, hP⟩ : ∃ Z, Z = w.heap.size := ⟨_, rfl⟩
  have KQ : Hid (IsB w1 P #[.int .i64 n, .int .i64 d, .slice av kv cv] 30) := by show IsB _ _ _ _; rw [hP]; exact ((IsB.new w _ _).below (n0_any _ _)).below hb
  have KR : Hid (IsB w1 (P + 1) #[.int .i64 0, .int .i64 0] 25) := by show IsB _ _ _ _; rw [hP]; exact (IsB.new2c w _ _ _).below hb
  have HB : Hid (Below w.heap.size w w1) := ((n0_any _ _).alloc (by simp) _).trans (hb.mono (by simp <;> omega))
  have HOL := hidU ol
  have HRw : Hid (w.heap.size ≤ P + 1) := by show _ ≤ _; omega
  rw [← hP]
  clear hb hP ol
  obtain ⟨R, hR⟩ : ∃ R, R = P + 1 := ⟨_, rfl⟩
  rw [← hR] at KR HRw ⊢
  clear hR
  go_upto_region 2 with fail
  obtain ⟨X, hX⟩ : ∃ Y, Y = w1.alloc (.cells #[.int .i64 fn, .int .i64 fd] 25) := ⟨_, rfl⟩
  obtain ⟨F, hF⟩ : ∃ G, G = w1.heap.size := ⟨_, rfl⟩
  have hb : Below w1.heap.size w1 X := by rw [hX]; exact n0_any _ _
  have KF : Hid (IsB X F #[.int .i64 fn, .int .i64 fd] 25) := by show IsB _ _ _ _; rw [hX, hF]; exact IsB.new _ _ _
  replace KQ := hidU (KQ.out.below hb)
  replace KR := hidU (KR.out.below hb)
  replace HOL := hidU (own_below HOL.out hb)
  replace HB := hidU (HB.out.trans (hb.mono HB.out.size))
  rw [← hX, ← hF]
  clear hX hb hF
  cases sb
  · obtain rfl : RR = (0, 0, false) := HRR.out.trans (if_neg (fun h => by cases h.1))
    obtain ⟨z0, z1⟩ := KR.out.c2
    obtain ⟨f0, f1⟩ := KR.out.f2
    go_wp2
    obtain ⟨y0, y1⟩ := (KR.out.set2 (.int .i64 0) (.int .i64 0)).c2
    exact bodyPost_ret (v := .tuple #[.agg #[.int .i64 0, .int .i64 0], .bool false]) (by simp [results, Tryz.results18, go_sem, y0, y1]) rfl ⟨rfl, below_set2 HB.out HRw.out _ _⟩
  obtain ⟨q0, q1, q2⟩ := KQ.out.c3
  go_wp2_with fail
  refine (HOK.out _ HB.out).mono ?_
  rintro e w3 ⟨rfl, hb⟩
  replace KQ := hidU (KQ.out.below hb)
  replace KR := hidU (KR.out.below hb)
  replace KF := hidU (KF.out.below hb)
  replace HOL := hidU (own_below HOL.out hb)
  replace HB := hidU (HB.out.trans (hb.mono HB.out.size))
  clear hb q0 q1 q2 HOK
  cases ok
  · obtain rfl : RR = (0, 0, false) := HRR.out.trans (if_neg (fun h => by cases h.2.1))
    obtain ⟨z0, z1⟩ := KR.out.c2
    obtain ⟨f0, f1⟩ := KR.out.f2
    go_wp2
    obtain ⟨y0, y1⟩ := (KR.out.set2 (.int .i64 0) (.int .i64 0)).c2
    exact bodyPost_ret (v := .tuple #[.agg #[.int .i64 0, .int .i64 0], .bool false]) (by simp [results, Tryz.results18, go_sem, y0, y1]) rfl ⟨rfl, below_set2 HB.out HRw.out _ _⟩
  have HSM : Hid (∀ W : World, Below w3.heap.size w3 W → Calls Tryz.prog 42 #[lv, .slice av kv cv] W fun e w' => e = .returned (.bool g) ∧ Below W.heap.size W w') := by
    intro W hW
    have hd := HD.out W (HB.out.trans (hW.mono HB.out.size))
    obtain ⟨base, et2, hd2⟩ := hd.five (HY5.out (by simp))
    refine (sSame_any lv (.slice av kv cv) xs ys 5 _ _ _ _ W (HLS.out (by simp)) (HY5.out (by simp)) (by omega) ((RowM.own HOL.out).below hW) (RowM.own hd2)).mono ?_
    rintro e w' ⟨rfl, m, rfl⟩
    exact ⟨by rw [HG.out], below_drewN (Below.refl _ _) _⟩
  obtain ⟨q0, q1, q2⟩ := KQ.out.c3
  go_wp2_with fail
  refine (HSM.out _ (Below.refl _ _)).mono ?_
  rintro e w4 ⟨rfl, hb⟩
  replace KQ := hidU (KQ.out.below hb)
  replace KR := hidU (KR.out.below hb)
  replace KF := hidU (KF.out.below hb)
  replace HOL := hidU (own_below HOL.out hb)
  replace HB := hidU (HB.out.trans (hb.mono HB.out.size))
  clear hb HSM q0 q1 q2 HOL
  cases g
  · obtain rfl : RR = (0, 0, false) := HRR.out.trans (if_neg (fun h => by have h2 := HG.out; rw [decide_eq_true h.2.2] at h2; cases h2))
    obtain ⟨z0, z1⟩ := KR.out.c2
    obtain ⟨f0, f1⟩ := KR.out.f2
    go_wp2
    obtain ⟨y0, y1⟩ := (KR.out.set2 (.int .i64 0) (.int .i64 0)).c2
    exact bodyPost_ret (v := .tuple #[.agg #[.int .i64 0, .int .i64 0], .bool false]) (by simp [results, Tryz.results18, go_sem, y0, y1]) rfl ⟨rfl, below_set2 HB.out HRw.out _ _⟩
  replace HRR := hidU (HRR.out.trans (if_pos (by have h2 := of_decide_eq_true HG.out.symm; simp [h2])))
  clear HG HD HLS HY5
  go_upto_region 5 with fail
  obtain ⟨T0, hT⟩ : ∃ X, X = w4.alloc (.cells #[.bool false] 73) := ⟨_, rfl⟩
  obtain ⟨K, hK⟩ : ∃ G, G = w4.heap.size := ⟨_, rfl⟩
  have hb : Below w4.heap.size w4 T0 := by rw [hT]; exact n0_any _ _
  have HKK : Hid (IsK T0 K false) := by show IsK _ _ _; rw [hT, hK]; exact IsK.new _ _
  have HNKw : Hid (w.heap.size ≤ K) := by show _ ≤ _; rw [hK]; exact HB.out.size
  have HNKKQ : Hid (P ≠ K) := by show _ ≠ _; have := KQ.out.lt; rw [hK]; omega
  have HNKKR : Hid (R ≠ K) := by show _ ≠ _; have := KR.out.lt; rw [hK]; omega
  have HNKKF : Hid (F ≠ K) := by show _ ≠ _; have := KF.out.lt; rw [hK]; omega
  replace KQ := hidU (KQ.out.below hb)
  replace KR := hidU (KR.out.below hb)
  replace KF := hidU (KF.out.below hb)
  replace HB := hidU (HB.out.trans (hb.mono HB.out.size))
  rw [← hT, ← hK]
  clear hb hT hK
  have HDIV : Hid (∀ (W : World) (f : Ca) (u : Int × Int), IsK W K f.2 → Calls Tryz.prog 45 #[.pointer (some ⟨K, 0, none⟩), .agg #[.int .i64 f.1.1, .int .i64 f.1.2], .agg #[.int .i64 u.1, .int .i64 u.2]] W fun e w' => e = .returned (.agg #[.int .i64 (divC f u).1.1, .int .i64 (divC f u).1.2]) ∧ IsK w' K (divC f u).2 ∧ W.grownBy w' (some K)) := fun W f u h => cDiv_any K f.2 f.1.1 f.1.2 u.1 u.2 W h
  have HSUB : Hid (∀ (W : World) (f : Ca) (u : Int × Int), IsK W K f.2 → Calls Tryz.prog 46 #[.pointer (some ⟨K, 0, none⟩), .agg #[.int .i64 f.1.1, .int .i64 f.1.2], .agg #[.int .i64 u.1, .int .i64 u.2]] W fun e w' => e = .returned (.agg #[.int .i64 (subC f u).1.1, .int .i64 (subC f u).1.2]) ∧ IsK w' K (subC f u).2 ∧ W.grownBy w' (some K)) := fun W f u h => cSub_any K f.2 f.1.1 f.1.2 u.1 u.2 W h
  obtain ⟨q0, q1, q2⟩ := KQ.out.c3
  obtain ⟨g0, g1⟩ := KF.out.c2
  go_wp2_with fail
  refine (HDIV.out _ ((n, d), false) (fn, fd) HKK.out).mono ?_
  rintro e w5 ⟨rfl, hkk, hg⟩
  clear q0 q1 q2 g0 g1
  replace KQ := hidU (KQ.out.gr hg HNKKQ.out)
  replace KR := hidU (KR.out.gr hg HNKKR.out)
  replace KF := hidU (KF.out.gr hg HNKKF.out)
  replace HKK := hidU hkk
  replace HB := hidU (HB.out.trans (below_grownK hg HNKw.out HB.out.size))
  clear hkk hg
  go_upto_region 6 with fail
  obtain ⟨Y, hX⟩ : ∃ Y, Y = w5.alloc (.cells #[.int .i64 (divC ((n, d), false) (fn, fd)).1.1, .int .i64 (divC ((n, d), false) (fn, fd)).1.2] 25) := ⟨_, rfl⟩
  obtain ⟨V, hV⟩ : ∃ G, G = w5.heap.size := ⟨_, rfl⟩
  have hb : Below w5.heap.size w5 Y := by rw [hX]; exact n0_any _ _
  have KV : Hid (IsB Y V #[.int .i64 (divC ((n, d), false) (fn, fd)).1.1, .int .i64 (divC ((n, d), false) (fn, fd)).1.2] 25) := by show IsB _ _ _ _; rw [hX, hV]; exact IsB.new _ _ _
  have HNVKQ : Hid (P ≠ V) := by show _ ≠ _; have := KQ.out.lt; rw [hV]; omega
  have HNVKR : Hid (R ≠ V) := by show _ ≠ _; have := KR.out.lt; rw [hV]; omega
  have HNVKF : Hid (F ≠ V) := by show _ ≠ _; have := KF.out.lt; rw [hV]; omega
  have HNKKV : Hid (V ≠ K) := by show _ ≠ _; have := HKK.out.lt; rw [hV]; omega
  have HNVw : Hid (w.heap.size ≤ V) := by show _ ≤ _; rw [hV]; exact HB.out.size
  replace KQ := hidU (KQ.out.below hb)
  replace KR := hidU (KR.out.below hb)
  replace KF := hidU (KF.out.below hb)
  replace HKK := hidU (HKK.out.below hb)
  replace HB := hidU (HB.out.trans (hb.mono HB.out.size))
  rw [← hX, ← hV]
  clear hX hb hV
  cases cs
  · skip
    obtain ⟨⟨⟨cn, cd⟩, cb⟩, hC⟩ : ∃ c, c = divC ((n, d), false) (fn, fd) := ⟨_, rfl⟩
    unfold aheM at HRR
    simp only [Bool.false_eq_true, if_false] at HRR
    rw [← hC] at HKK HRR KV
    clear hC
    have kc := HKK.out.cell
    obtain ⟨z0, z1⟩ := KR.out.c2
    obtain ⟨f0, f1⟩ := KR.out.f2
    obtain ⟨v0, v1⟩ := KV.out.c2
    cases cb
    · obtain rfl : RR = (cn, cd, true) := HRR.out
      go_wp2
      obtain ⟨y0, y1⟩ := (KR.out.set2 (.int .i64 cn) (.int .i64 cd)).c2
      exact bodyPost_ret (v := .tuple #[.agg #[.int .i64 cn, .int .i64 cd], .bool true]) (by simp [results, Tryz.results18, go_sem, y0, y1]) rfl ⟨rfl, below_set2 HB.out HRw.out _ _⟩
    · obtain rfl : RR = (0, 0, false) := HRR.out
      go_wp2
      obtain ⟨y0, y1⟩ := (KR.out.set2 (.int .i64 0) (.int .i64 0)).c2
      exact bodyPost_ret (v := .tuple #[.agg #[.int .i64 0, .int .i64 0], .bool false]) (by simp [results, Tryz.results18, go_sem, y0, y1]) rfl ⟨rfl, below_set2 HB.out HRw.out _ _⟩
  · go_upto_region 7 with fail
    refine wp_region_noPanic ?_
    have hb := (Below.refl Y.heap.size Y).drew
    replace KV := hidU (KV.out.below hb)
    replace KQ := hidU (KQ.out.below hb)
    replace KR := hidU (KR.out.below hb)
    replace KF := hidU (KF.out.below hb)
    replace HKK := hidU (HKK.out.below hb)
    replace HB := hidU (HB.out.trans (hb.mono HB.out.size))
    clear hb
    refine wp_region_held_drew (S := fun _ => True) (by kernel_rfl) trivial (fun hHeld => ?_)
    obtain ⟨t101, hwd⟩ : ∃ u, u = Y.drew := ⟨_, rfl⟩
    rw [← hwd] at KV KQ KR KF HKK HB ⊢
    clear hwd
    refine wpAnyH_take (i := 0) (v := ?_) rfl (by kernel_rfl) (by kernel_rfl) (by kernel_rfl) (fun _ _ _ h => h) (Or.inl ⟨by kernel_rfl, ?_⟩) hHeld ?_
    rotate_left
    · intro wz hSw; (try dsimp only at hSw); go_simp; all_goals (try with_reducible rfl)
    (try simp only [List.getElem_toArray]); (try simp only [List.getElem_cons_succ]); (try simp only [List.getElem_cons_zero]); (try simp only [Act.put]); (try simp only [List.setIfInBounds_toArray]); (try simp only [List.set_cons_succ]); (try simp only [List.set_cons_zero])
    refine wpAnyH_ready (rs := [1, 2]) (by kernel_rfl) (by simp) (AllReadyH.cons rfl (fun Kc hKc => ?_) (AllReadyH.cons rfl (fun Kc hKc => ?_) AllReadyH.nil))
    · obtain ⟨v0, v1⟩ := KV.out.c2
      go_simp
      refine hKc.out _ _ trivial (fun hHeld => ?_)
      clear hKc Kc v0 v1
      (try simp only [List.getElem_toArray]); (try simp only [List.getElem_cons_succ]); (try simp only [List.getElem_cons_zero]); (try simp only [Act.put]); (try simp only [List.setIfInBounds_toArray]); (try simp only [List.set_cons_succ]); (try simp only [List.set_cons_zero])
      refine wpAnyH_ready (rs := [2]) (by kernel_rfl) (by simp) (AllReadyH.cons rfl (fun Kc hKc => ?_) AllReadyH.nil)
      go_simp
      refine (l5Zero_any _).mono ?_
      rintro e t102 ⟨rfl, hb⟩
      replace KV := hidU (KV.out.below hb)
      replace KQ := hidU (KQ.out.below hb)
      replace KR := hidU (KR.out.below hb)
      replace KF := hidU (KF.out.below hb)
      replace HKK := hidU (HKK.out.below hb)
      replace HB := hidU (HB.out.trans (hb.mono HB.out.size))
      clear hb
      go_wp2_with fail
      refine hKc.out _ _ trivial (fun hHeld => ?_)
      clear hKc Kc
      (try simp only [List.getElem_toArray]); (try simp only [List.getElem_cons_succ]); (try simp only [List.getElem_cons_zero]); (try simp only [Act.put]); (try simp only [List.setIfInBounds_toArray]); (try simp only [List.set_cons_succ]); (try simp only [List.set_cons_zero])
      refine wpAnyH_ready (rs := [3]) (by kernel_rfl) (by simp) (AllReadyH.cons rfl (fun Kc hKc => ?_) AllReadyH.nil)
      go_simp
      refine (HSUB.out _ (divC ((n, d), false) (fn, fd)) (5463, 20) HKK.out).mono ?_
      rintro e t103 ⟨rfl, hkk, hg⟩
      replace KV := hidU (KV.out.gr hg HNKKV.out)
      replace KQ := hidU (KQ.out.gr hg HNKKQ.out)
      replace KR := hidU (KR.out.gr hg HNKKR.out)
      replace KF := hidU (KF.out.gr hg HNKKF.out)
      replace HKK := hidU hkk
      replace HB := hidU (HB.out.trans (below_grownK hg HNKw.out HB.out.size))
      clear hkk hg
      go_wp2_with fail
      refine hKc.out _ _ trivial (fun hHeld => ?_)
      clear hKc Kc
      (try simp only [List.getElem_toArray]); (try simp only [List.getElem_cons_succ]); (try simp only [List.getElem_cons_zero]); (try simp only [Act.put]); (try simp only [List.setIfInBounds_toArray]); (try simp only [List.set_cons_succ]); (try simp only [List.set_cons_zero])
      obtain ⟨v0, v1⟩ := KV.out.c2
      obtain ⟨f0, f1⟩ := KV.out.f2
      replace KQ := hidU (KQ.out.other2 HNVKQ.out (.int .i64 (subC (divC ((n, d), false) (fn, fd)) (5463, 20)).1.1) (.int .i64 (subC (divC ((n, d), false) (fn, fd)) (5463, 20)).1.2))
      replace KR := hidU (KR.out.other2 HNVKR.out (.int .i64 (subC (divC ((n, d), false) (fn, fd)) (5463, 20)).1.1) (.int .i64 (subC (divC ((n, d), false) (fn, fd)) (5463, 20)).1.2))
      replace KF := hidU (KF.out.other2 HNVKF.out (.int .i64 (subC (divC ((n, d), false) (fn, fd)) (5463, 20)).1.1) (.int .i64 (subC (divC ((n, d), false) (fn, fd)) (5463, 20)).1.2))
      replace HKK := hidU ((HKK.out.other (Ne.symm HNKKV.out) 0 (.int .i64 (subC (divC ((n, d), false) (fn, fd)) (5463, 20)).1.1)).other (Ne.symm HNKKV.out) 1 (.int .i64 (subC (divC ((n, d), false) (fn, fd)) (5463, 20)).1.2))
      have K1b := hidU (KV.out.set2 (.int .i64 (subC (divC ((n, d), false) (fn, fd)) (5463, 20)).1.1) (.int .i64 (subC (divC ((n, d), false) (fn, fd)) (5463, 20)).1.2))
      replace HB := hidU (below_set2 HB.out HNVw.out (.int .i64 (subC (divC ((n, d), false) (fn, fd)) (5463, 20)).1.1) (.int .i64 (subC (divC ((n, d), false) (fn, fd)) (5463, 20)).1.2))
      refine wpAnyH_ready (rs := [4]) (by kernel_rfl) (by simp) (AllReadyH.cons rfl (fun Kc hKc => ?_) AllReadyH.nil)
      go_simp
      refine hKc.out _ _ trivial (fun hHeld => ?_)
      clear hKc Kc v0 v1 f0 f1 KV
      (try simp only [List.getElem_toArray]); (try simp only [List.getElem_cons_succ]); (try simp only [List.getElem_cons_zero]); (try simp only [Act.put]); (try simp only [List.setIfInBounds_toArray]); (try simp only [List.set_cons_succ]); (try simp only [List.set_cons_zero])
      refine wpAnyH_done (by kernel_rfl) ?_ _
      refine NoPanic.normal ?_
      have KV := K1b
      clear K1b
      obtain ⟨t104, hwd⟩ : ∃ u, u = (t103.setCell ⟨V, 0, none⟩ (.int .i64 (subC (divC ((n, d), false) (fn, fd)) (5463, 20)).1.1)).setCell ⟨V, 1, none⟩ (.int .i64 (subC (divC ((n, d), false) (fn, fd)) (5463, 20)).1.2) := ⟨_, rfl⟩
      rw [← hwd] at KV KQ KR KF HKK HB ⊢
      clear hwd
      obtain ⟨⟨⟨cn, cd⟩, cb⟩, hC⟩ : ∃ c, c = subC (divC ((n, d), false) (fn, fd)) (5463, 20) := ⟨_, rfl⟩
      unfold aheM at HRR
      simp only [if_true] at HRR
      rw [← hC] at HKK HRR KV
      clear hC
      have kc := HKK.out.cell
      obtain ⟨z0, z1⟩ := KR.out.c2
      obtain ⟨f0, f1⟩ := KR.out.f2
      obtain ⟨v0, v1⟩ := KV.out.c2
      cases cb
      · obtain rfl : RR = (cn, cd, true) := HRR.out
        go_wp2
        obtain ⟨y0, y1⟩ := (KR.out.set2 (.int .i64 cn) (.int .i64 cd)).c2
        exact bodyPost_ret (v := .tuple #[.agg #[.int .i64 cn, .int .i64 cd], .bool true]) (by simp [results, Tryz.results18, go_sem, y0, y1]) rfl ⟨rfl, below_set2 HB.out HRw.out _ _⟩
      · obtain rfl : RR = (0, 0, false) := HRR.out
        go_wp2
        obtain ⟨y0, y1⟩ := (KR.out.set2 (.int .i64 0) (.int .i64 0)).c2
        exact bodyPost_ret (v := .tuple #[.agg #[.int .i64 0, .int .i64 0], .bool false]) (by simp [results, Tryz.results18, go_sem, y0, y1]) rfl ⟨rfl, below_set2 HB.out HRw.out _ _⟩
    · go_simp
      refine (l5Zero_any _).mono ?_
      rintro e t105 ⟨rfl, hb⟩
      replace KV := hidU (KV.out.below hb)
      replace KQ := hidU (KQ.out.below hb)
      replace KR := hidU (KR.out.below hb)
      replace KF := hidU (KF.out.below hb)
      replace HKK := hidU (HKK.out.below hb)
      replace HB := hidU (HB.out.trans (hb.mono HB.out.size))
      clear hb
      go_wp2_with fail
      refine hKc.out _ _ trivial (fun hHeld => ?_)
      clear hKc Kc
      (try simp only [List.getElem_toArray]); (try simp only [List.getElem_cons_succ]); (try simp only [List.getElem_cons_zero]); (try simp only [Act.put]); (try simp only [List.setIfInBounds_toArray]); (try simp only [List.set_cons_succ]); (try simp only [List.set_cons_zero])
      refine wpAnyH_ready (rs := [1]) (by kernel_rfl) (by simp) (AllReadyH.cons rfl (fun Kc hKc => ?_) AllReadyH.nil)
      obtain ⟨v0, v1⟩ := KV.out.c2
      go_simp
      refine hKc.out _ _ trivial (fun hHeld => ?_)
      clear hKc Kc v0 v1
      (try simp only [List.getElem_toArray]); (try simp only [List.getElem_cons_succ]); (try simp only [List.getElem_cons_zero]); (try simp only [Act.put]); (try simp only [List.setIfInBounds_toArray]); (try simp only [List.set_cons_succ]); (try simp only [List.set_cons_zero])
      refine wpAnyH_ready (rs := [3]) (by kernel_rfl) (by simp) (AllReadyH.cons rfl (fun Kc hKc => ?_) AllReadyH.nil)
      go_simp
      refine (HSUB.out _ (divC ((n, d), false) (fn, fd)) (5463, 20) HKK.out).mono ?_
      rintro e t106 ⟨rfl, hkk, hg⟩
      replace KV := hidU (KV.out.gr hg HNKKV.out)
      replace KQ := hidU (KQ.out.gr hg HNKKQ.out)
      replace KR := hidU (KR.out.gr hg HNKKR.out)
      replace KF := hidU (KF.out.gr hg HNKKF.out)
      replace HKK := hidU hkk
      replace HB := hidU (HB.out.trans (below_grownK hg HNKw.out HB.out.size))
      clear hkk hg
      go_wp2_with fail
      refine hKc.out _ _ trivial (fun hHeld => ?_)
      clear hKc Kc
      (try simp only [List.getElem_toArray]); (try simp only [List.getElem_cons_succ]); (try simp only [List.getElem_cons_zero]); (try simp only [Act.put]); (try simp only [List.setIfInBounds_toArray]); (try simp only [List.set_cons_succ]); (try simp only [List.set_cons_zero])
      obtain ⟨v0, v1⟩ := KV.out.c2
      obtain ⟨f0, f1⟩ := KV.out.f2
      replace KQ := hidU (KQ.out.other2 HNVKQ.out (.int .i64 (subC (divC ((n, d), false) (fn, fd)) (5463, 20)).1.1) (.int .i64 (subC (divC ((n, d), false) (fn, fd)) (5463, 20)).1.2))
      replace KR := hidU (KR.out.other2 HNVKR.out (.int .i64 (subC (divC ((n, d), false) (fn, fd)) (5463, 20)).1.1) (.int .i64 (subC (divC ((n, d), false) (fn, fd)) (5463, 20)).1.2))
      replace KF := hidU (KF.out.other2 HNVKF.out (.int .i64 (subC (divC ((n, d), false) (fn, fd)) (5463, 20)).1.1) (.int .i64 (subC (divC ((n, d), false) (fn, fd)) (5463, 20)).1.2))
      replace HKK := hidU ((HKK.out.other (Ne.symm HNKKV.out) 0 (.int .i64 (subC (divC ((n, d), false) (fn, fd)) (5463, 20)).1.1)).other (Ne.symm HNKKV.out) 1 (.int .i64 (subC (divC ((n, d), false) (fn, fd)) (5463, 20)).1.2))
      have K1b := hidU (KV.out.set2 (.int .i64 (subC (divC ((n, d), false) (fn, fd)) (5463, 20)).1.1) (.int .i64 (subC (divC ((n, d), false) (fn, fd)) (5463, 20)).1.2))
      replace HB := hidU (below_set2 HB.out HNVw.out (.int .i64 (subC (divC ((n, d), false) (fn, fd)) (5463, 20)).1.1) (.int .i64 (subC (divC ((n, d), false) (fn, fd)) (5463, 20)).1.2))
      refine wpAnyH_ready (rs := [4]) (by kernel_rfl) (by simp) (AllReadyH.cons rfl (fun Kc hKc => ?_) AllReadyH.nil)
      go_simp
      refine hKc.out _ _ trivial (fun hHeld => ?_)
      clear hKc Kc v0 v1 f0 f1 KV
      (try simp only [List.getElem_toArray]); (try simp only [List.getElem_cons_succ]); (try simp only [List.getElem_cons_zero]); (try simp only [Act.put]); (try simp only [List.setIfInBounds_toArray]); (try simp only [List.set_cons_succ]); (try simp only [List.set_cons_zero])
      refine wpAnyH_done (by kernel_rfl) ?_ _
      refine NoPanic.normal ?_
      have KV := K1b
      clear K1b
      obtain ⟨t107, hwd⟩ : ∃ u, u = (t106.setCell ⟨V, 0, none⟩ (.int .i64 (subC (divC ((n, d), false) (fn, fd)) (5463, 20)).1.1)).setCell ⟨V, 1, none⟩ (.int .i64 (subC (divC ((n, d), false) (fn, fd)) (5463, 20)).1.2) := ⟨_, rfl⟩
      rw [← hwd] at KV KQ KR KF HKK HB ⊢
      clear hwd
      obtain ⟨⟨⟨cn, cd⟩, cb⟩, hC⟩ : ∃ c, c = subC (divC ((n, d), false) (fn, fd)) (5463, 20) := ⟨_, rfl⟩
      unfold aheM at HRR
      simp only [if_true] at HRR
      rw [← hC] at HKK HRR KV
      clear hC
      have kc := HKK.out.cell
      obtain ⟨z0, z1⟩ := KR.out.c2
      obtain ⟨f0, f1⟩ := KR.out.f2
      obtain ⟨v0, v1⟩ := KV.out.c2
      cases cb
      · obtain rfl : RR = (cn, cd, true) := HRR.out
        go_wp2
        obtain ⟨y0, y1⟩ := (KR.out.set2 (.int .i64 cn) (.int .i64 cd)).c2
        exact bodyPost_ret (v := .tuple #[.agg #[.int .i64 cn, .int .i64 cd], .bool true]) (by simp [results, Tryz.results18, go_sem, y0, y1]) rfl ⟨rfl, below_set2 HB.out HRw.out _ _⟩
      · obtain rfl : RR = (0, 0, false) := HRR.out
        go_wp2
        obtain ⟨y0, y1⟩ := (KR.out.set2 (.int .i64 0) (.int .i64 0)).c2
        exact bodyPost_ret (v := .tuple #[.agg #[.int .i64 0, .int .i64 0], .bool false]) (by simp [results, Tryz.results18, go_sem, y0, y1]) rfl ⟨rfl, below_set2 HB.out HRw.out _ _⟩
end Go.Proofs.YtnhefbhiemdhoaaGreat

/- A unit's text is drawn. -/
namespace Go.Proofs.YtnhefbhiemdhoaaGreat
open Go.RowKit Go.Proofs.YtnhefbhiemdhoaaGreat.RM

theorem DT.bend {k : Nat} {s sg : ByteArray} {t : List UInt8} (h : DT k s) (hsg : ∀ b ∈ sg.data.toList, okY b) (hl : t.length ≤ s.size + 2) (ht : ∀ b ∈ t, b ∈ s.data.toList ∨ b ∈ sg.data.toList) : DT (k + 2) ⟨t.toArray⟩ := by
  refine ⟨?_, fun b hb => ?_⟩
  · show t.toArray.size ≤ _
    rw [List.size_toArray]
    have := h.1
    omega
  · have hb' : b ∈ t := by simpa using hb
    exact (ht b hb').elim (h.2 b) (hsg b)
set_option maxRecDepth 100000 in
set_option maxHeartbeats 4000000 in
theorem draw5_any (cb : Nat) (a : Option Addr) (len cap : Nat) (zs : List Int) (w : World) (hc : Cur w cb a len cap zs) :
    Calls Tryz.prog 26 #[.pointer (some ⟨cb, 0, none⟩)] w fun e w' => ∃ s, e = .returned (.string s) ∧ DT 26 s ∧ Cur w' cb a len cap zs ∧ Ex cb w w' := by
  have b0 : ∀ (u : World) (o : Obj), Below u.heap.size u (u.alloc o) := fun u o => (Below.refl _ _).alloc (Nat.le_refl _) o
  have hlt := hc.lt
  have E0 := hidD1 (Ex.refl cb w)
  have C0 := hidD1 hc
  clear hc
  go_enter Tryz.func26, Tryz.ntmps26
  go_wp2_with fail
  refine (below_any cb _ a len cap zs _ C0.out (by omega)).mono ?_
  rintro e w1 ⟨x, rfl, hx0, hx1, hC', hE⟩
  have C1 := hidD1 hC'
  have E1 := hidD1 (E0.out.trans hE)
  clear hC' hE C0 E0
  go_wp2
  go_loopw [3, 4] (fun s n wr => ∃ (sb : ByteArray) (m : Int), s = .string sb ∧ n = .int .i64 m ∧ m ≤ 2 ∧ -1 ≤ m ∧ Hid (DT (8 * (2 - m)).toNat sb) ∧ Hid (Cur wr cb a len cap zs) ∧ Hid (Ex cb w wr)) (fun _ n _ => (intOf n + 1).toNat)
  case atStart => exact ⟨⟨#[]⟩, x, rfl, rfl, by omega, by omega, ⟨Nat.zero_le _, fun b hb => by cases hb⟩, C1.out, E1.out⟩
  case round =>
    clear C1 E1
    obtain ⟨sb, m, rfl, rfl, hm2, hm0, hS, HC, HE⟩ := hrel
    by_cases h : 0 ≤ m
    · go_wp2_with fail
      refine (drawWord5_any cb a len cap zs _ HC.out).mono ?_
      rintro e w2 ⟨t, rfl, hT, hC', hE⟩
      have z1 : sb.size + t.size < 9223372036854775808 := by have := hS.out.1; have := hT.1; omega
      have S2 := hidD1 (hS.out.app hT)
      have E2 := hidD1 (HE.out.trans hE)
      have C2 := hidD1 hC'
      have hlt2 := C2.out.lt
      clear hC' hE hT hS HC HE
      go_wp2_with fail
      refine (below_any cb _ a len cap zs _ (C2.out.below (b0 _ _)) (by omega)).mono ?_
      rintro e w3 ⟨y, rfl, hy0, hy1, hC', hE⟩
      obtain ⟨j, rfl⟩ : ∃ j : Nat, y = j := ⟨y.toNat, by omega⟩
      obtain ⟨p, hcell, hp⟩ := lit_txt _ [⟨#[]⟩, ⟨#[94, 50]⟩, ⟨#[94, 45, 49]⟩, ⟨#[94, 51]⟩, ⟨#[]⟩, ⟨#[]⟩] 3 rfl (by decide) hE hlt2 j (by simp; omega)
      have z2 : (sb ++ t).size + p.size < 9223372036854775808 := by have := S2.out.1; have := hp.1; omega
      have z2' : sb.size + t.size + p.size < 9223372036854775808 := by rw [ByteArray.size_append] at z2; exact z2
      have S3 := hidD1 (S2.out.app hp)
      have E3 := hidD1 ((E2.out.alloc _).trans hE)
      have C3 := hidD1 hC'
      have hlt3 := C3.out.lt
      clear hC' hE hp S2 E2 C2 hlt2
      by_cases hm : 0 < m
      · go_wp2_with fail
        clear hcell
        refine (below_any cb _ a len cap zs _ (C3.out.below (b0 _ _)) (by omega)).mono ?_
        rintro e w4 ⟨z, rfl, hz0, hz1, hC', hE⟩
        obtain ⟨i, rfl⟩ : ∃ i : Nat, z = i := ⟨z.toNat, by omega⟩
        obtain ⟨q, hcell, hq⟩ := lit_txt _ [⟨#[46]⟩, ⟨#[46]⟩, ⟨#[47]⟩] 1 rfl (by decide) hE hlt3 i (by simp; omega)
        have z3 : (sb ++ t ++ p).size + q.size < 9223372036854775808 := by have := S3.out.1; have := hq.1; omega
        have z3' : sb.size + t.size + p.size + q.size < 9223372036854775808 := by rw [ByteArray.size_append, ByteArray.size_append] at z3; exact z3
        have S4 := hidD1 (S3.out.app hq)
        have E4 := hidD1 ((E3.out.alloc _).trans hE)
        have C4 := hidD1 hC'
        clear hC' hE hq S3 E3 C3 hlt3
        go_wp2
        go_roundw
        case rel => exact ⟨_, m - 1, rfl, by go_num, by omega, by omega, S4.out.mono (by omega), C4.out, E4.out⟩
        case measure => simp [intOf]; omega
      · obtain rfl : m = 0 := by omega
        go_wp2
        go_roundw
        case rel => exact ⟨_, -1, rfl, by go_num, by omega, by omega, S3.out.mono (by omega), C3.out, E3.out⟩
        case measure => simp [intOf]
    · obtain rfl : m = -1 := by omega
      have fin : ∀ (W : World) (s : ByteArray), DT 26 s → Cur W cb a len cap zs → Ex cb w W → True := fun _ _ _ _ _ => trivial
      clear fin
      go_wp2_with fail
      refine (once_any cb _ a len cap zs _ HC.out (by omega)).mono ?_
      rintro e w2 ⟨z, rfl, hC', hE⟩
      have S2 := hidD1 hS.out
      have E2 := hidD1 (HE.out.trans hE)
      have C2 := hidD1 hC'
      clear hC' hE hS HC HE
      cases z
      · go_wp2_with fail
        refine (once_any cb _ a len cap zs _ C2.out (by omega)).mono ?_
        rintro e w3 ⟨z, rfl, hC', hE⟩
        have E3 := hidD1 (E2.out.trans hE)
        have C3 := hidD1 hC'
        clear hC' hE E2 C2
        cases z
        · go_wp2
          go_ret
          exact ⟨_, rfl, S2.out.mono (by decide), C3.out, E3.out⟩
        · go_wp2
          go_ret
          exact ⟨_, rfl, by decide, C3.out, E3.out⟩
      · go_wp2_with fail
        refine (bendX_any cb a len cap zs sb ⟨#[109, 46, 47, 94, 49, 45, 107]⟩ _ C2.out (by have := S2.out.1; omega) (by decide) (by decide)).mono ?_
        rintro e w3 ⟨t, rfl, ht1, ht2, hC', hE⟩
        have S3 := hidD1 (S2.out.bend (by decide) ht1 ht2)
        have E3 := hidD1 (E2.out.trans hE)
        have C3 := hidD1 hC'
        clear hC' hE E2 C2 S2 ht1 ht2
        go_wp2_with fail
        refine (once_any cb _ a len cap zs _ C3.out (by omega)).mono ?_
        rintro e w4 ⟨z, rfl, hC', hE⟩
        have E4 := hidD1 (E3.out.trans hE)
        have C4 := hidD1 hC'
        clear hC' hE E3 C3
        cases z
        · go_wp2
          go_ret
          exact ⟨_, rfl, S3.out.mono (by decide), C4.out, E4.out⟩
        · go_wp2
          go_ret
          exact ⟨_, rfl, by decide, C4.out, E4.out⟩
end Go.Proofs.YtnhefbhiemdhoaaGreat

/- A pair of units' texts is drawn. -/
namespace Go.Proofs.YtnhefbhiemdhoaaGreat
open Go.RowKit Go.Proofs.YtnhefbhiemdhoaaGreat.RM

def pairsT : List (ByteArray × ByteArray) := [(⟨#[109]⟩, ⟨#[107, 109]⟩), (⟨#[107, 109, 47, 104]⟩, ⟨#[109, 47, 115]⟩), (⟨#[67]⟩, ⟨#[75]⟩), (⟨#[75]⟩, ⟨#[67]⟩), (⟨#[67]⟩, ⟨#[109, 75]⟩), (⟨#[74]⟩, ⟨#[78, 46, 109]⟩), (⟨#[87, 46, 104]⟩, ⟨#[107, 74]⟩), (⟨#[103, 47, 99, 109, 94, 51]⟩, ⟨#[107, 103, 47, 109, 94, 51]⟩), (⟨#[109, 105, 110]⟩, ⟨#[109, 115]⟩), (⟨#[86, 46, 65]⟩, ⟨#[87]⟩), (⟨#[67]⟩, ⟨#[67]⟩), (⟨#[80, 97, 46, 109, 94, 50]⟩, ⟨#[78]⟩), (⟨#[67, 46, 109]⟩, ⟨#[75, 46, 109]⟩)]
theorem pairsT_ok : ∀ p ∈ pairsT, DT 26 p.1 ∧ DT 26 p.2 := by decide
def pObj (p : ByteArray × ByteArray) : Obj := .cells #[.string p.1, .string p.2] 9
def pOut (w : World) : Array Value := #[.slice (some ⟨w.heap.size, 0, none⟩) 2 2, .slice (some ⟨w.heap.size + 1, 0, none⟩) 2 2, .slice (some ⟨w.heap.size + 1 + 1, 0, none⟩) 2 2, .slice (some ⟨w.heap.size + 1 + 1 + 1, 0, none⟩) 2 2, .slice (some ⟨w.heap.size + 1 + 1 + 1 + 1, 0, none⟩) 2 2, .slice (some ⟨w.heap.size + 1 + 1 + 1 + 1 + 1, 0, none⟩) 2 2, .slice (some ⟨w.heap.size + 1 + 1 + 1 + 1 + 1 + 1, 0, none⟩) 2 2, .slice (some ⟨w.heap.size + 1 + 1 + 1 + 1 + 1 + 1 + 1, 0, none⟩) 2 2, .slice (some ⟨w.heap.size + 1 + 1 + 1 + 1 + 1 + 1 + 1 + 1, 0, none⟩) 2 2, .slice (some ⟨w.heap.size + 1 + 1 + 1 + 1 + 1 + 1 + 1 + 1 + 1, 0, none⟩) 2 2, .slice (some ⟨w.heap.size + 1 + 1 + 1 + 1 + 1 + 1 + 1 + 1 + 1 + 1, 0, none⟩) 2 2, .slice (some ⟨w.heap.size + 1 + 1 + 1 + 1 + 1 + 1 + 1 + 1 + 1 + 1 + 1, 0, none⟩) 2 2, .slice (some ⟨w.heap.size + 1 + 1 + 1 + 1 + 1 + 1 + 1 + 1 + 1 + 1 + 1 + 1, 0, none⟩) 2 2]
theorem heap_fold (os : List Obj) : ∀ w : World, (os.foldl World.alloc w).heap = w.heap ++ os.toArray := by
  induction os with
  | nil => intro w; simp
  | cons o os ih =>
    intro w
    rw [List.foldl_cons, ih]
    show w.heap.push o ++ os.toArray = _
    simp
theorem below_fold {n : Nat} {w : World} (os : List Obj) : ∀ W, Below n w W → n ≤ W.heap.size → Below n w (os.foldl World.alloc W) ∧ n ≤ (os.foldl World.alloc W).heap.size := by
  induction os with
  | nil => intro W h1 h2; exact ⟨h1, h2⟩
  | cons o os ih =>
    intro W h1 h2
    exact ih _ (h1.alloc h2 o) (by show n ≤ (W.heap.push o).size; simp; omega)
theorem pOut_at (w : World) : ∀ j, j < 13 → (pOut w)[j]? = some (.slice (some ⟨w.heap.size + j, 0, none⟩) 2 2)
  | 0, _ => rfl
  | 1, _ => rfl
  | 2, _ => rfl
  | 3, _ => rfl
  | 4, _ => rfl
  | 5, _ => rfl
  | 6, _ => rfl
  | 7, _ => rfl
  | 8, _ => rfl
  | 9, _ => rfl
  | 10, _ => rfl
  | 11, _ => rfl
  | 12, _ => rfl
  | j + 13, h => absurd h (by omega)
/-- the literal of the pairs, as one reads it in a later world -/
theorem pairs_at {w w3 : World} {cb : Nat} (hcb : cb < w.heap.size) (hE : Ex cb (((pairsT.map pObj).foldl World.alloc w).alloc (.cells (pOut w) 82)) w3) (j : Nat) (hj : j < 13) :
    ∃ g s t, cb < g ∧ w3.cell? ⟨w.heap.size + 1 + 1 + 1 + 1 + 1 + 1 + 1 + 1 + 1 + 1 + 1 + 1 + 1, j, none⟩ = some (.slice (some ⟨g, 0, none⟩) 2 2) ∧ w3.cell? ⟨g, 0, none⟩ = some (.string s) ∧ w3.cell? ⟨g, 1, none⟩ = some (.string t) ∧ DT 26 s ∧ DT 26 t := by
  have hl : pairsT.length = 13 := rfl
  have hok := pairsT_ok _ (List.getElem_mem (by omega : j < pairsT.length))
  have hh : (((pairsT.map pObj).foldl World.alloc w).alloc (.cells (pOut w) 82)).heap = (w.heap ++ (pairsT.map pObj).toArray).push (.cells (pOut w) 82) := by
    show (World.heap _).push _ = _
    rw [heap_fold]
  have ho : (((pairsT.map pObj).foldl World.alloc w).alloc (.cells (pOut w) 82)).heap[w.heap.size + 13]? = some (.cells (pOut w) 82) := by
    rw [hh, Array.getElem?_push, if_pos (by simp [hl])]
  have hp : (((pairsT.map pObj).foldl World.alloc w).alloc (.cells (pOut w) 82)).heap[w.heap.size + j]? = some (pObj (pairsT[j]'(by omega))) := by
    rw [hh, Array.getElem?_push, if_neg (by simp [hl]; omega), Array.getElem?_append_right (by omega), show w.heap.size + j - w.heap.size = j by omega]
    simp [List.getElem?_eq_getElem (by omega : j < pairsT.length)]
  refine ⟨w.heap.size + j, (pairsT[j]'(by omega)).1, (pairsT[j]'(by omega)).2, by omega, hE.cell ?_ (by omega), hE.cell ?_ (by omega), hE.cell ?_ (by omega), hok.1, hok.2⟩
  · show World.cell? _ (⟨w.heap.size + 13, j, none⟩ : Addr) = _
    unfold World.cell?
    rw [ho]
    exact pOut_at w j hj
  · unfold World.cell?
    rw [hp]
    rfl
  · unfold World.cell?
    rw [hp]
    rfl
set_option maxRecDepth 100000 in
set_option maxHeartbeats 4000000 in
theorem drawPair_any (cb : Nat) (a : Option Addr) (len cap : Nat) (zs : List Int) (w : World) (hc : Cur w cb a len cap zs) :
    Calls Tryz.prog 24 #[.pointer (some ⟨cb, 0, none⟩)] w fun e w' => ∃ s t, e = .returned (.tuple #[.string s, .string t]) ∧ DT 26 s ∧ DT 26 t ∧ Cur w' cb a len cap zs ∧ Ex cb w w' := by
  have b0 : ∀ (u : World) (o : Obj), Below u.heap.size u (u.alloc o) := fun u o => (Below.refl _ _).alloc (Nat.le_refl _) o
  have hlt := hc.lt
  obtain ⟨X, hX⟩ : ∃ X, X = ((pairsT.map pObj).foldl World.alloc w).alloc (.cells (pOut w) 82) := ⟨_, rfl⟩
  have E0 : Hid (Ex cb w X) := by
    show Ex _ _ _
    rw [hX]
    exact (((((((((((((((Ex.refl cb w).alloc _).alloc _).alloc _).alloc _).alloc _).alloc _).alloc _).alloc _).alloc _).alloc _).alloc _).alloc _).alloc _).alloc _)
  have C0 : Hid (Cur X cb a len cap zs) := by
    show Cur _ _ _ _ _ _
    rw [hX]
    exact hc.below ((below_fold _ w (Below.refl _ _) (Nat.le_refl _)).1.alloc (below_fold _ w (Below.refl _ _) (Nat.le_refl _)).2 _)
  have HP : Hid (∀ w3, Ex cb X w3 → ∀ j, j < 13 → ∃ g s t, cb < g ∧ w3.cell? ⟨w.heap.size + 1 + 1 + 1 + 1 + 1 + 1 + 1 + 1 + 1 + 1 + 1 + 1 + 1, j, none⟩ = some (.slice (some ⟨g, 0, none⟩) 2 2) ∧ w3.cell? ⟨g, 0, none⟩ = some (.string s) ∧ w3.cell? ⟨g, 1, none⟩ = some (.string t) ∧ DT 26 s ∧ DT 26 t) := fun w3 h j hj => pairs_at hlt (by rw [← hX]; exact h) j hj
  clear hc
  go_enter Tryz.func24, Tryz.ntmps24
  go_wp2_with fail
  have h3 := below_any cb 13 a len cap zs _ C0.out (by omega)
  rw [hX] at h3
  refine h3.mono ?_
  clear h3
  rintro e w1 ⟨x, rfl, hx0, hx1, hC', hE⟩
  rw [← hX] at hE
  clear hX
  obtain ⟨j, rfl⟩ : ∃ j : Nat, x = j := ⟨x.toNat, by omega⟩
  obtain ⟨g, s, t, hg, hc, hc0, hc1, hs, ht⟩ := HP.out w1 hE j (by omega)
  have S1 := hidD1 hs
  have T1 := hidD1 ht
  have C1 := hidD1 hC'
  have E1 := hidD1 (E0.out.trans hE)
  have K0 := hidD1 hc0
  have K1 := hidD1 hc1
  clear hC' hE hs ht hc0 hc1 C0 E0 HP
  go_wp2_with fail
  clear hc
  refine (once_any cb _ a len cap zs _ C1.out (by omega)).mono ?_
  rintro e w3 ⟨z, rfl, hC', hE⟩
  have c0 := hE.cell K0.out (by omega)
  have c1 := hE.cell K1.out (by omega)
  have C3 := hidD1 hC'
  have E3 := hidD1 (E1.out.trans hE)
  clear hC' hE C1 E1 K0 K1
  cases z
  · have H0 := hidD1 c0
    have H1 := hidD1 c1
    clear c0 c1
    go_wp2_with fail
    refine (once_any cb _ a len cap zs _ C3.out (by omega)).mono ?_
    rintro e w4 ⟨z, rfl, hC', hE⟩
    have c0 := hE.cell H0.out (by omega)
    have c1 := hE.cell H1.out (by omega)
    have C4 := hidD1 hC'
    have E4 := hidD1 (E3.out.trans hE)
    clear hC' hE C3 E3 H0 H1
    cases z
    · go_wp2
      go_region
      all_goals go_wp2
      all_goals go_ret2
      all_goals exact ⟨_, _, rfl, S1.out, T1.out, C4.out.below ((Below.refl _ _).drew), E4.out.drew⟩
    · clear c1
      have H0 := hidD1 c0
      go_wp2
      refine wp_region_noPanic ?_
      refine wp_region_held_drew (S := fun W => W.cell? ⟨g, 0, none⟩ = some (.string s)) (by kernel_rfl) c0 (fun hHeld => ?_)
      clear c0
      refine wpAnyH_take (i := 0) (v := ?_) rfl (by kernel_rfl) (by kernel_rfl) (by kernel_rfl) (fun _ _ _ h => h) (Or.inl ⟨by kernel_rfl, ?_⟩) hHeld ?_
      rotate_left
      · intro wz hSw; (try dsimp only at hSw); go_simp; all_goals (try with_reducible rfl)
      (try simp only [List.getElem_toArray]); (try simp only [List.getElem_cons_succ]); (try simp only [List.getElem_cons_zero]); (try simp only [Act.put]); (try simp only [List.setIfInBounds_toArray]); (try simp only [List.set_cons_succ]); (try simp only [List.set_cons_zero])
      refine wpAnyH_take (i := 1) (v := ?_) rfl (by kernel_rfl) (by kernel_rfl) (by kernel_rfl) (fun _ _ _ h => h) (Or.inl ⟨by kernel_rfl, ?_⟩) hHeld ?_
      rotate_left
      · intro wz hSw; (try dsimp only at hSw); go_simp; all_goals (try with_reducible rfl)
      (try simp only [List.getElem_toArray]); (try simp only [List.getElem_cons_succ]); (try simp only [List.getElem_cons_zero]); (try simp only [Act.put]); (try simp only [List.setIfInBounds_toArray]); (try simp only [List.set_cons_succ]); (try simp only [List.set_cons_zero])
      refine wpAnyH_take (i := 2) (v := ?_) rfl (by kernel_rfl) (by kernel_rfl) (by kernel_rfl) (fun _ _ _ h => h) (Or.inl ⟨by kernel_rfl, ?_⟩) hHeld ?_
      rotate_left
      · intro wz hSw; (try dsimp only at hSw); go_simp; all_goals (try with_reducible rfl)
      (try simp only [List.getElem_toArray]); (try simp only [List.getElem_cons_succ]); (try simp only [List.getElem_cons_zero]); (try simp only [Act.put]); (try simp only [List.setIfInBounds_toArray]); (try simp only [List.set_cons_succ]); (try simp only [List.set_cons_zero])
      refine wpAnyH_take (i := 3) (v := ?_) rfl (by kernel_rfl) (by kernel_rfl) (by kernel_rfl) (fun _ _ _ h => h) (Or.inl ⟨by kernel_rfl, ?_⟩) hHeld ?_
      rotate_left
      · intro wz hSw; (try dsimp only at hSw); go_simp; all_goals (try with_reducible rfl)
      (try simp only [List.getElem_toArray]); (try simp only [List.getElem_cons_succ]); (try simp only [List.getElem_cons_zero]); (try simp only [Act.put]); (try simp only [List.setIfInBounds_toArray]); (try simp only [List.set_cons_succ]); (try simp only [List.set_cons_zero])
      refine wpAnyH_ready (rs := [4]) (by kernel_rfl) (by simp) (AllReadyH.cons rfl (fun Kc hKc => ?_) AllReadyH.nil)
      go_simp
      refine (draw5_any cb a len cap zs _ (C4.out.below ((Below.refl _ _).drew))).mono ?_
      rintro e w5 ⟨t, rfl, hT2, hC', hE⟩
      have E5 := hidD1 (E4.out.trans ((Ex.refl cb _).drew.trans hE))
      have C5 := hidD1 hC'
      have T2 := hidD1 hT2
      have c0 := hE.cell (v := .string s) H0.out (by omega)
      clear hC' hE hT2 E4 C4
      go_wp2_with fail
      refine hKc.out _ _ c0 (fun hHeld => ?_)
      clear hKc Kc
      (try simp only [List.getElem_toArray]); (try simp only [List.getElem_cons_succ]); (try simp only [List.getElem_cons_zero]); (try simp only [Act.put]); (try simp only [List.setIfInBounds_toArray]); (try simp only [List.set_cons_succ]); (try simp only [List.set_cons_zero])
      refine wpAnyH_take (i := 5) (v := ?_) rfl (by kernel_rfl) (by kernel_rfl) (by kernel_rfl) (fun _ _ _ h => h) (Or.inl ⟨by kernel_rfl, ?_⟩) hHeld ?_
      rotate_left
      · intro wz hSw; (try dsimp only at hSw); go_simp; all_goals (try with_reducible rfl)
      (try simp only [List.getElem_toArray]); (try simp only [List.getElem_cons_succ]); (try simp only [List.getElem_cons_zero]); (try simp only [Act.put]); (try simp only [List.setIfInBounds_toArray]); (try simp only [List.set_cons_succ]); (try simp only [List.set_cons_zero])
      refine wpAnyH_take (i := 6) (v := ?_) rfl (by kernel_rfl) (by kernel_rfl) (by kernel_rfl) (fun _ _ _ h => h) (Or.inl ⟨by kernel_rfl, ?_⟩) hHeld ?_
      rotate_left
      · intro wz hSw; (try dsimp only at hSw); go_simp; all_goals (try with_reducible rfl)
      (try simp only [List.getElem_toArray]); (try simp only [List.getElem_cons_succ]); (try simp only [List.getElem_cons_zero]); (try simp only [Act.put]); (try simp only [List.setIfInBounds_toArray]); (try simp only [List.set_cons_succ]); (try simp only [List.set_cons_zero])
      refine wpAnyH_done (by kernel_rfl) ?_ _
      refine NoPanic.normal ?_
      go_wp2
      go_ret2
      exact ⟨_, _, rfl, S1.out, T2.out, C5.out, E5.out⟩
  · go_wp2
    go_region
    all_goals go_wp2
    all_goals go_ret2
    all_goals exact ⟨_, _, rfl, T1.out, S1.out, C3.out.below ((Below.refl _ _).drew), E3.out.drew⟩
end Go.Proofs.YtnhefbhiemdhoaaGreat

/- Fractions that are drawn, right or not. -/
namespace Go.Proofs.YtnhefbhiemdhoaaGreat
open Go.RowKit Go.Proofs.YtnhefbhiemdhoaaGreat.RM
theorem frz_st {w : World} {a p : Addr} {u : Value} (h : w.frozen? a = false) : (w.setCell p u).frozen? a = false := by simp [h]
theorem set00 {w : World} {B : Nat} {x n : Value} (h : w.cell? ⟨B, 0, none⟩ = some x) : (w.setCell ⟨B, 0, none⟩ n).cell? ⟨B, 0, none⟩ = some n := by simp [go_sem, h]
theorem set01 {w : World} {B : Nat} {y n : Value} (h : w.cell? ⟨B, 1, none⟩ = some y) : (w.setCell ⟨B, 0, none⟩ n).cell? ⟨B, 1, none⟩ = some y := by simp [go_sem, h]

set_option maxHeartbeats 1600000 in
theorem drawAny_any (cb : Nat) (a : Option Addr) (len cap : Nat) (zs : List Int) (w : World) (hc : Cur w cb a len cap zs) :
    Calls Tryz.prog 23 #[.pointer (some ⟨cb, 0, none⟩)] w fun e w' => ∃ n d : Int, e = .returned (.agg #[.int .i64 n, .int .i64 d]) ∧ Cur w' cb a len cap zs ∧ Ex cb w w' := by
  have HC : Hid (Cur (w.alloc (.cells #[.int .i64 0, .int .i64 0] 25)) cb a len cap zs) := hc.below ((Below.refl _ _).alloc (Nat.le_refl _) _)
  have hlt := hc.lt
  have HROW : Hid (∀ b off, a = some ⟨b, off, none⟩ → 0 < zs.length → b < w.heap.size) := hc.2.1.lt
  clear hc
  go_enter Tryz.func23, Tryz.ntmps23
  go_wp2_with fail
  refine (draw_any cb a len cap zs _ HC.out).mono ?_
  rintro e w1 ⟨n, d, rfl, _, _, _, _, _, hC1, hE1⟩
  have rc0 : w1.cell? ⟨w.heap.size, 0, none⟩ = some (.int .i64 0) := by refine hE1.cell ?_ (by omega); simp [go_sem]
  have rc1 : w1.cell? ⟨w.heap.size, 1, none⟩ = some (.int .i64 0) := by refine hE1.cell ?_ (by omega); simp [go_sem]
  have rf0 : w1.frozen? ⟨w.heap.size, 0, none⟩ = false := by refine hE1.frozen (v := .int .i64 0) ?_ ?_ (by omega) <;> simp [go_sem]
  have rf1 : w1.frozen? ⟨w.heap.size, 1, none⟩ = false := by refine hE1.frozen (v := .int .i64 0) ?_ ?_ (by omega) <;> simp [go_sem]
  have hz1 : w.heap.size < w1.heap.size := lt_cell rc0
  replace HC : Hid (Cur w1 cb a len cap zs) := hC1
  have HE : Hid (Ex cb w w1) := (Ex.alloc (Ex.refl cb w) _).trans hE1
  clear hC1 hE1
  go_wp2_with fail
  refine (once_any cb _ a len cap zs _ ?_ (by omega)).mono ?_
  · exact HC.out.below ((Below.refl _ _).alloc (Nat.le_refl _) _)
  rintro e w2 ⟨x, rfl, hC2, hE2⟩
  replace HC : Hid (Cur w2 cb a len cap zs) := hC2
  replace HE : Hid (Ex cb w w2) := (HE.out.alloc _).trans hE2
  replace rf0 := hE2.frozen (cell_al _ rc0) (frozen_later ((Below.refl _ _).alloc (Nat.le_refl _) _) rc0 rf0) (by omega)
  replace rf1 := hE2.frozen (cell_al _ rc1) (frozen_later ((Below.refl _ _).alloc (Nat.le_refl _) _) rc1 rf1) (by omega)
  replace rc0 := hE2.cell (cell_al _ rc0) (by omega)
  replace rc1 := hE2.cell (cell_al _ rc1) (by omega)
  have vc0 : w2.cell? ⟨w1.heap.size, 0, none⟩ = some (.int .i64 n) := by refine hE2.cell ?_ (by omega); simp [go_sem]
  have vc1 : w2.cell? ⟨w1.heap.size, 1, none⟩ = some (.int .i64 d) := by refine hE2.cell ?_ (by omega); simp [go_sem]
  have vf0 : w2.frozen? ⟨w1.heap.size, 0, none⟩ = false := by refine hE2.frozen (v := .int .i64 n) ?_ ?_ (by omega) <;> simp [go_sem]
  have vf1 : w2.frozen? ⟨w1.heap.size, 1, none⟩ = false := by refine hE2.frozen (v := .int .i64 d) ?_ ?_ (by omega) <;> simp [go_sem]
  clear hC2 hE2
  cases x
  · go_wp2_with fail
    refine (once_any cb _ a len cap zs _ HC.out (by omega)).mono ?_
    rintro e Y ⟨y, rfl, hCY, hEY⟩
    replace HC : Hid (Cur Y cb a len cap zs) := hCY
    replace HE : Hid (Ex cb w Y) := HE.out.trans hEY
    replace rf0 := hEY.frozen rc0 rf0 (by omega)
    replace rf1 := hEY.frozen rc1 rf1 (by omega)
    replace rc0 := hEY.cell rc0 (by omega)
    replace rc1 := hEY.cell rc1 (by omega)
    replace vf0 := hEY.frozen vc0 vf0 (by omega)
    replace vf1 := hEY.frozen vc1 vf1 (by omega)
    replace vc0 := hEY.cell vc0 (by omega)
    replace vc1 := hEY.cell vc1 (by omega)
    clear hCY hEY
    have hsz : w1.heap.size < Y.heap.size := lt_cell vc0
    cases y
    · have r0 : ((Y.setCell ⟨w.heap.size, 0, none⟩ (.int .i64 n)).setCell ⟨w.heap.size, 1, none⟩ (.int .i64 d)).cell? ⟨w.heap.size, 0, none⟩ = some (.int .i64 n) := (new2 rc0 rc1).1
      have r1 : ((Y.setCell ⟨w.heap.size, 0, none⟩ (.int .i64 n)).setCell ⟨w.heap.size, 1, none⟩ (.int .i64 d)).cell? ⟨w.heap.size, 1, none⟩ = some (.int .i64 d) := (new2 rc0 rc1).2
      go_wp2
      refine bodyPost_ret (v := .agg #[.int .i64 n, .int .i64 d]) (by simp [results, Tryz.results23, go_sem, r0, r1]) rfl ⟨_, _, rfl, ?_, ?_⟩
      · exact HC.out.ex (x := w.heap.size) (((Ex.refl _ Y).setCell (.inl rfl) _).setCell (.inl rfl) _) (by omega) (fun b off e hz => by have := HROW.out b off e hz; omega)
      · exact (HE.out.setCell (.inr (Nat.le_refl _)) _).setCell (.inr (Nat.le_refl _)) _
    · go_wp2_with fail
      refine (below_any cb _ a len cap zs _ ?_ (by omega)).mono ?_
      · exact HC.out.below ((Below.refl _ _).alloc (Nat.le_refl _) _)
      rintro e Z ⟨i, rfl, hi0, hi1, hCZ, hEZ⟩
      replace HC : Hid (Cur Z cb a len cap zs) := hCZ
      replace HE : Hid (Ex cb w Z) := (HE.out.alloc _).trans hEZ
      have hidx : ∃ v, Z.cell? ⟨Y.heap.size, i.toNat, none⟩ = some (.int .i64 v) := by
        have hi : i = 0 ∨ i = 1 ∨ i = 2 ∨ i = 3 ∨ i = 4 ∨ i = 5 := by omega
        have hne : Y.heap.size ≠ cb := by omega
        rcases hi with rfl | rfl | rfl | rfl | rfl | rfl
        · exact ⟨0, hEZ.cell (by simp [go_sem]) hne⟩
        · exact ⟨1000000000, hEZ.cell (by simp [go_sem]) hne⟩
        · exact ⟨-1000000000, hEZ.cell (by simp [go_sem]) hne⟩
        · exact ⟨1000000001, hEZ.cell (by simp [go_sem]) hne⟩
        · exact ⟨4611686018427387904, hEZ.cell (by simp [go_sem]) hne⟩
        · exact ⟨-9223372036854775808, hEZ.cell (by simp [go_sem]) hne⟩
      obtain ⟨v, hidx⟩ := hidx
      replace rf0 := hEZ.frozen (cell_al _ rc0) (frozen_later ((Below.refl _ _).alloc (Nat.le_refl _) _) rc0 rf0) (by omega)
      replace rf1 := hEZ.frozen (cell_al _ rc1) (frozen_later ((Below.refl _ _).alloc (Nat.le_refl _) _) rc1 rf1) (by omega)
      replace vf0 := hEZ.frozen (cell_al _ vc0) (frozen_later ((Below.refl _ _).alloc (Nat.le_refl _) _) vc0 vf0) (by omega)
      replace vf1 := hEZ.frozen (cell_al _ vc1) (frozen_later ((Below.refl _ _).alloc (Nat.le_refl _) _) vc1 vf1) (by omega)
      replace rc0 := hEZ.cell (cell_al _ rc0) (by omega)
      replace rc1 := hEZ.cell (cell_al _ rc1) (by omega)
      replace vc0 := hEZ.cell (cell_al _ vc0) (by omega)
      replace vc1 := hEZ.cell (cell_al _ vc1) (by omega)
      clear hCZ hEZ
      go_wp2_with fail
      refine (below_any cb _ a len cap zs _ ?_ (by omega)).mono ?_
      · exact (HC.out.ex (x := w1.heap.size) ((Ex.refl _ Z).setCell (.inl rfl) _) (by omega) (fun b off e hz => by have := HROW.out b off e hz; omega)).below ((Below.refl _ _).alloc (Nat.le_refl _) _)
      rintro e U ⟨j, rfl, hj0, hj1, hCU, hEU⟩
      have hsz2 : w1.heap.size < Z.heap.size := lt_cell vc0
      replace HC : Hid (Cur U cb a len cap zs) := hCU
      replace HE : Hid (Ex cb w U) := ((HE.out.setCell (.inr (by omega)) _).alloc _).trans hEU
      have hjdx : ∃ v, U.cell? ⟨Z.heap.size, j.toNat, none⟩ = some (.int .i64 v) := by
        have hj : j = 0 ∨ j = 1 ∨ j = 2 ∨ j = 3 ∨ j = 4 ∨ j = 5 := by omega
        have hne : Z.heap.size ≠ cb := by omega
        rcases hj with rfl | rfl | rfl | rfl | rfl | rfl
        · exact ⟨0, hEU.cell (by simp [go_sem]) hne⟩
        · exact ⟨1, hEU.cell (by simp [go_sem]) hne⟩
        · exact ⟨2, hEU.cell (by simp [go_sem]) hne⟩
        · exact ⟨1000000000, hEU.cell (by simp [go_sem]) hne⟩
        · exact ⟨-1, hEU.cell (by simp [go_sem]) hne⟩
        · exact ⟨1000000001, hEU.cell (by simp [go_sem]) hne⟩
      obtain ⟨u, hjdx⟩ := hjdx
      replace rf0 := hEU.frozen (cell_al _ (cell_stb rc0 (by omega))) (frozen_later ((Below.refl _ _).alloc (Nat.le_refl _) _) (cell_stb rc0 (by omega)) (frz_st rf0)) (by omega)
      replace rf1 := hEU.frozen (cell_al _ (cell_stb rc1 (by omega))) (frozen_later ((Below.refl _ _).alloc (Nat.le_refl _) _) (cell_stb rc1 (by omega)) (frz_st rf1)) (by omega)
      replace vf1 := hEU.frozen (cell_al _ (set01 vc1)) (frozen_later ((Below.refl _ _).alloc (Nat.le_refl _) _) (set01 vc1) (frz_st vf1)) (by omega)
      replace rc0 := hEU.cell (cell_al _ (cell_stb rc0 (by omega))) (by omega)
      replace rc1 := hEU.cell (cell_al _ (cell_stb rc1 (by omega))) (by omega)
      replace vc0 := hEU.cell (cell_al _ (set00 vc0)) (by omega)
      replace vc1 := hEU.cell (cell_al _ (set01 vc1)) (by omega)
      clear hCU hEU hidx vf0
      have r0 : (((U.setCell ⟨w1.heap.size, 1, none⟩ (.int .i64 u)).setCell ⟨w.heap.size, 0, none⟩ (.int .i64 v)).setCell ⟨w.heap.size, 1, none⟩ (.int .i64 u)).cell? ⟨w.heap.size, 0, none⟩ = some (.int .i64 v) := (new2 (cell_stb rc0 (by omega)) (cell_stb rc1 (by omega))).1
      have r1 : (((U.setCell ⟨w1.heap.size, 1, none⟩ (.int .i64 u)).setCell ⟨w.heap.size, 0, none⟩ (.int .i64 v)).setCell ⟨w.heap.size, 1, none⟩ (.int .i64 u)).cell? ⟨w.heap.size, 1, none⟩ = some (.int .i64 u) := (new2 (cell_stb rc0 (by omega)) (cell_stb rc1 (by omega))).2
      have hne1 : w1.heap.size ≠ w.heap.size := by omega
      go_wp2
      refine bodyPost_ret (v := .agg #[.int .i64 v, .int .i64 u]) (by simp [results, Tryz.results23, go_sem, r0, r1]) rfl ⟨_, _, rfl, ?_, ?_⟩
      · exact (HC.out.ex (x := w1.heap.size) ((Ex.refl _ U).setCell (.inl rfl) _) (by omega) (fun b off e hz => by have := HROW.out b off e hz; omega)).ex (x := w.heap.size) (((Ex.refl _ _).setCell (.inl rfl) _).setCell (.inl rfl) _) (by omega) (fun b off e hz => by have := HROW.out b off e hz; omega)
      · exact ((HE.out.setCell (.inr (by omega)) _).setCell (.inr (Nat.le_refl _)) _).setCell (.inr (Nat.le_refl _)) _
  · go_wp2_with fail
    refine (below_any cb _ a len cap zs _ HC.out (by omega)).mono ?_
    rintro e w3 ⟨p, rfl, hp0, hp1, hC3, hE3⟩
    replace HC : Hid (Cur w3 cb a len cap zs) := hC3
    replace HE : Hid (Ex cb w w3) := HE.out.trans hE3
    replace rf0 := hE3.frozen rc0 rf0 (by omega)
    replace rf1 := hE3.frozen rc1 rf1 (by omega)
    replace rc0 := hE3.cell rc0 (by omega)
    replace rc1 := hE3.cell rc1 (by omega)
    replace vf0 := hE3.frozen vc0 vf0 (by omega)
    replace vf1 := hE3.frozen vc1 vf1 (by omega)
    replace vc0 := hE3.cell vc0 (by omega)
    replace vc1 := hE3.cell vc1 (by omega)
    clear hC3 hE3
    go_wp2_with fail
    refine (below_any cb _ a len cap zs _ HC.out (by omega)).mono ?_
    rintro e w4 ⟨q, rfl, hq0, hq1, hC4, hE4⟩
    replace HC : Hid (Cur w4 cb a len cap zs) := hC4
    replace HE : Hid (Ex cb w w4) := HE.out.trans hE4
    replace rf0 := hE4.frozen rc0 rf0 (by omega)
    replace rf1 := hE4.frozen rc1 rf1 (by omega)
    replace rc0 := hE4.cell rc0 (by omega)
    replace rc1 := hE4.cell rc1 (by omega)
    replace vf0 := hE4.frozen vc0 vf0 (by omega)
    replace vf1 := hE4.frozen vc1 vf1 (by omega)
    replace vc0 := hE4.cell vc0 (by omega)
    replace vc1 := hE4.cell vc1 (by omega)
    clear hC4 hE4
    go_wp2_with fail
    refine (sRed_any _ _ _).mono ?_
    rintro e w5 ⟨rfl, hb5⟩
    have hE5 : Ex cb w4 w5 := Ex.of_below hb5
    replace HC : Hid (Cur w5 cb a len cap zs) := HC.out.below hb5
    replace HE : Hid (Ex cb w w5) := HE.out.trans hE5
    replace rf0 := hE5.frozen rc0 rf0 (by omega)
    replace rf1 := hE5.frozen rc1 rf1 (by omega)
    replace rc0 := hE5.cell rc0 (by omega)
    replace rc1 := hE5.cell rc1 (by omega)
    replace vf0 := hE5.frozen vc0 vf0 (by omega)
    replace vf1 := hE5.frozen vc1 vf1 (by omega)
    replace vc0 := hE5.cell vc0 (by omega)
    replace vc1 := hE5.cell vc1 (by omega)
    clear hb5 hE5
    go_wp2_with fail
    refine (once_any cb _ a len cap zs _ ?_ (by omega)).mono ?_
    · exact HC.out.ex (x := w1.heap.size) (((Ex.refl _ w5).setCell (.inl rfl) _).setCell (.inl rfl) _) (by omega) (fun b off e hz => by have := HROW.out b off e hz; omega)
    rintro e Y ⟨y, rfl, hCY, hEY⟩
    replace HC : Hid (Cur Y cb a len cap zs) := hCY
    replace HE : Hid (Ex cb w Y) := ((HE.out.setCell (.inr (by omega)) _).setCell (.inr (by omega)) _).trans hEY
    replace rf0 := hEY.frozen (cell_stb (cell_stb rc0 (by omega)) (by omega)) (frz_st (frz_st rf0)) (by omega)
    replace rf1 := hEY.frozen (cell_stb (cell_stb rc1 (by omega)) (by omega)) (frz_st (frz_st rf1)) (by omega)
    replace rc0 := hEY.cell (cell_stb (cell_stb rc0 (by omega)) (by omega)) (by omega)
    replace rc1 := hEY.cell (cell_stb (cell_stb rc1 (by omega)) (by omega)) (by omega)
    replace vf0 := hEY.frozen (new2 vc0 vc1).1 (frz_st (frz_st vf0)) (by omega)
    replace vf1 := hEY.frozen (new2 vc0 vc1).2 (frz_st (frz_st vf1)) (by omega)
    have vx : ∃ g k : Int, Y.cell? ⟨w1.heap.size, 0, none⟩ = some (.int .i64 g) ∧ Y.cell? ⟨w1.heap.size, 1, none⟩ = some (.int .i64 k) := ⟨_, _, hEY.cell (new2 vc0 vc1).1 (by omega), hEY.cell (new2 vc0 vc1).2 (by omega)⟩
    clear vc0 vc1 hCY hEY
    obtain ⟨g, k, vc0, vc1⟩ := vx
    have hsz : w1.heap.size < Y.heap.size := lt_cell vc0
    cases y
    · have r0 : ((Y.setCell ⟨w.heap.size, 0, none⟩ (.int .i64 g)).setCell ⟨w.heap.size, 1, none⟩ (.int .i64 k)).cell? ⟨w.heap.size, 0, none⟩ = some (.int .i64 g) := (new2 rc0 rc1).1
      have r1 : ((Y.setCell ⟨w.heap.size, 0, none⟩ (.int .i64 g)).setCell ⟨w.heap.size, 1, none⟩ (.int .i64 k)).cell? ⟨w.heap.size, 1, none⟩ = some (.int .i64 k) := (new2 rc0 rc1).2
      go_wp2
      refine bodyPost_ret (v := .agg #[.int .i64 g, .int .i64 k]) (by simp [results, Tryz.results23, go_sem, r0, r1]) rfl ⟨_, _, rfl, ?_, ?_⟩
      · exact HC.out.ex (x := w.heap.size) (((Ex.refl _ Y).setCell (.inl rfl) _).setCell (.inl rfl) _) (by omega) (fun b off e hz => by have := HROW.out b off e hz; omega)
      · exact (HE.out.setCell (.inr (Nat.le_refl _)) _).setCell (.inr (Nat.le_refl _)) _
    · go_wp2_with fail
      refine (below_any cb _ a len cap zs _ ?_ (by omega)).mono ?_
      · exact HC.out.below ((Below.refl _ _).alloc (Nat.le_refl _) _)
      rintro e Z ⟨i, rfl, hi0, hi1, hCZ, hEZ⟩
      replace HC : Hid (Cur Z cb a len cap zs) := hCZ
      replace HE : Hid (Ex cb w Z) := (HE.out.alloc _).trans hEZ
      have hidx : ∃ v, Z.cell? ⟨Y.heap.size, i.toNat, none⟩ = some (.int .i64 v) := by
        have hi : i = 0 ∨ i = 1 ∨ i = 2 ∨ i = 3 ∨ i = 4 ∨ i = 5 := by omega
        have hne : Y.heap.size ≠ cb := by omega
        rcases hi with rfl | rfl | rfl | rfl | rfl | rfl
        · exact ⟨0, hEZ.cell (by simp [go_sem]) hne⟩
        · exact ⟨1000000000, hEZ.cell (by simp [go_sem]) hne⟩
        · exact ⟨-1000000000, hEZ.cell (by simp [go_sem]) hne⟩
        · exact ⟨1000000001, hEZ.cell (by simp [go_sem]) hne⟩
        · exact ⟨4611686018427387904, hEZ.cell (by simp [go_sem]) hne⟩
        · exact ⟨-9223372036854775808, hEZ.cell (by simp [go_sem]) hne⟩
      obtain ⟨v, hidx⟩ := hidx
      replace rf0 := hEZ.frozen (cell_al _ rc0) (frozen_later ((Below.refl _ _).alloc (Nat.le_refl _) _) rc0 rf0) (by omega)
      replace rf1 := hEZ.frozen (cell_al _ rc1) (frozen_later ((Below.refl _ _).alloc (Nat.le_refl _) _) rc1 rf1) (by omega)
      replace vf0 := hEZ.frozen (cell_al _ vc0) (frozen_later ((Below.refl _ _).alloc (Nat.le_refl _) _) vc0 vf0) (by omega)
      replace vf1 := hEZ.frozen (cell_al _ vc1) (frozen_later ((Below.refl _ _).alloc (Nat.le_refl _) _) vc1 vf1) (by omega)
      replace rc0 := hEZ.cell (cell_al _ rc0) (by omega)
      replace rc1 := hEZ.cell (cell_al _ rc1) (by omega)
      replace vc0 := hEZ.cell (cell_al _ vc0) (by omega)
      replace vc1 := hEZ.cell (cell_al _ vc1) (by omega)
      clear hCZ hEZ
      go_wp2_with fail
      refine (below_any cb _ a len cap zs _ ?_ (by omega)).mono ?_
      · exact (HC.out.ex (x := w1.heap.size) ((Ex.refl _ Z).setCell (.inl rfl) _) (by omega) (fun b off e hz => by have := HROW.out b off e hz; omega)).below ((Below.refl _ _).alloc (Nat.le_refl _) _)
      rintro e U ⟨j, rfl, hj0, hj1, hCU, hEU⟩
      have hsz2 : w1.heap.size < Z.heap.size := lt_cell vc0
      replace HC : Hid (Cur U cb a len cap zs) := hCU
      replace HE : Hid (Ex cb w U) := ((HE.out.setCell (.inr (by omega)) _).alloc _).trans hEU
      have hjdx : ∃ v, U.cell? ⟨Z.heap.size, j.toNat, none⟩ = some (.int .i64 v) := by
        have hj : j = 0 ∨ j = 1 ∨ j = 2 ∨ j = 3 ∨ j = 4 ∨ j = 5 := by omega
        have hne : Z.heap.size ≠ cb := by omega
        rcases hj with rfl | rfl | rfl | rfl | rfl | rfl
        · exact ⟨0, hEU.cell (by simp [go_sem]) hne⟩
        · exact ⟨1, hEU.cell (by simp [go_sem]) hne⟩
        · exact ⟨2, hEU.cell (by simp [go_sem]) hne⟩
        · exact ⟨1000000000, hEU.cell (by simp [go_sem]) hne⟩
        · exact ⟨-1, hEU.cell (by simp [go_sem]) hne⟩
        · exact ⟨1000000001, hEU.cell (by simp [go_sem]) hne⟩
      obtain ⟨u, hjdx⟩ := hjdx
      replace rf0 := hEU.frozen (cell_al _ (cell_stb rc0 (by omega))) (frozen_later ((Below.refl _ _).alloc (Nat.le_refl _) _) (cell_stb rc0 (by omega)) (frz_st rf0)) (by omega)
      replace rf1 := hEU.frozen (cell_al _ (cell_stb rc1 (by omega))) (frozen_later ((Below.refl _ _).alloc (Nat.le_refl _) _) (cell_stb rc1 (by omega)) (frz_st rf1)) (by omega)
      replace vf1 := hEU.frozen (cell_al _ (set01 vc1)) (frozen_later ((Below.refl _ _).alloc (Nat.le_refl _) _) (set01 vc1) (frz_st vf1)) (by omega)
      replace rc0 := hEU.cell (cell_al _ (cell_stb rc0 (by omega))) (by omega)
      replace rc1 := hEU.cell (cell_al _ (cell_stb rc1 (by omega))) (by omega)
      replace vc0 := hEU.cell (cell_al _ (set00 vc0)) (by omega)
      replace vc1 := hEU.cell (cell_al _ (set01 vc1)) (by omega)
      clear hCU hEU hidx vf0
      have r0 : (((U.setCell ⟨w1.heap.size, 1, none⟩ (.int .i64 u)).setCell ⟨w.heap.size, 0, none⟩ (.int .i64 v)).setCell ⟨w.heap.size, 1, none⟩ (.int .i64 u)).cell? ⟨w.heap.size, 0, none⟩ = some (.int .i64 v) := (new2 (cell_stb rc0 (by omega)) (cell_stb rc1 (by omega))).1
      have r1 : (((U.setCell ⟨w1.heap.size, 1, none⟩ (.int .i64 u)).setCell ⟨w.heap.size, 0, none⟩ (.int .i64 v)).setCell ⟨w.heap.size, 1, none⟩ (.int .i64 u)).cell? ⟨w.heap.size, 1, none⟩ = some (.int .i64 u) := (new2 (cell_stb rc0 (by omega)) (cell_stb rc1 (by omega))).2
      have hne1 : w1.heap.size ≠ w.heap.size := by omega
      go_wp2
      refine bodyPost_ret (v := .agg #[.int .i64 v, .int .i64 u]) (by simp [results, Tryz.results23, go_sem, r0, r1]) rfl ⟨_, _, rfl, ?_, ?_⟩
      · exact (HC.out.ex (x := w1.heap.size) ((Ex.refl _ U).setCell (.inl rfl) _) (by omega) (fun b off e hz => by have := HROW.out b off e hz; omega)).ex (x := w.heap.size) (((Ex.refl _ _).setCell (.inl rfl) _).setCell (.inl rfl) _) (by omega) (fun b off e hz => by have := HROW.out b off e hz; omega)
      · exact ((HE.out.setCell (.inr (by omega)) _).setCell (.inr (Nat.le_refl _)) _).setCell (.inr (Nat.le_refl _)) _
end Go.Proofs.YtnhefbhiemdhoaaGreat

/- What is drawn from the bytes: one fraction, two of them, small right ones. -/
namespace Go.Proofs.YtnhefbhiemdhoaaGreat
open Go.RowKit Go.Proofs.YtnhefbhiemdhoaaGreat.RM

theorem big_any (a : Option Addr) (len cap : Nat) (w : World) :
    Calls Tryz.prog 4 #[.slice a len cap] w fun e w' => e = .returned (.bool (decide (4096 < (len : Int)))) ∧ w' = w := by
  by_cases h : 4096 < (len : Int)
  · rw [decide_eq_true h]
    go_enter Tryz.func4, Tryz.ntmps4
    go_wp2
    go_ret
    exact ⟨rfl, rfl⟩
  · rw [decide_eq_false h]
    go_enter Tryz.func4, Tryz.ntmps4
    go_wp2
    go_ret
    exact ⟨rfl, rfl⟩

end Go.Proofs.YtnhefbhiemdhoaaGreat

/- What is drawn for the law of terms: a fraction, and a list of numbers. -/
namespace Go.Proofs.YtnhefbhiemdhoaaGreat
open Go.RowKit Go.Proofs.YtnhefbhiemdhoaaGreat.RM

def slLen : Value → Nat
  | .slice _ n _ => n
  | _ => 0
theorem Cur.grown {w w' : World} {cb : Nat} {a : Option Addr} {len cap : Nat} {zs : List Int} {row : Option Nat} (h : Cur w cb a len cap zs) (hg : w.grownBy w' row) (hne : row ≠ some cb) (hrow : ∀ b off, a = some ⟨b, off, none⟩ → 0 < zs.length → row ≠ some b) : Cur w' cb a len cap zs := by
  cases row with
  | none => exact h.below ⟨hg.os, hg.tape, hg.output, hg.size, fun k hk => hg.block k hk (by simp)⟩
  | some g => exact h.ex (x := g) ⟨hg.os, hg.tape, hg.output, hg.size, fun k hk hne => hg.block k hk (by simpa using hne)⟩ (by simpa using hne) (fun b off e hz hb => hrow b off e hz (by rw [hb]))
/-- a row that lies beyond the cursor stays where the cursor moves -/
theorem own_ex {w w' : World} {cb base : Nat} {e : TypeId} {size : Nat} {v : Value} {n : Nat} {xs : List Value} (h : w.ownsRow base e size v n xs) (hx : Ex cb w w') (hc : cb < base) : w'.ownsRow base e size v n xs := by
  refine h.kept (row := some cb) ⟨hx.1, hx.2.1, hx.2.2.1, hx.2.2.2.1, fun k hk hne => hx.2.2.2.2 k hk (by simpa using hne)⟩ (.inr fun e => ?_)
  have := (h.lt cb e).1
  omega
/-- the cursor stays where a row beyond it grows -/
theorem Cur.row {w w1 : World} {cb base : Nat} {a : Option Addr} {len cap : Nat} {zs : List Int} {e : TypeId} {size : Nat} {v : Value} {n : Nat} {xs : List Value} {o : Obj} (h : Cur w cb a len cap zs) (hr : w.ownsRow base e size v n xs) (hc : cb < base) (ha : ∀ b off, a = some ⟨b, off, none⟩ → 0 < zs.length → b < base) (hg : (w.alloc o).grownBy w1 v.ownBlock) : Cur w1 cb a len cap zs := by
  have h1 : Cur (w.alloc o) cb a len cap zs := h.below ((Below.refl _ _).alloc (Nat.le_refl _) _)
  refine h1.grown hg (fun e => ?_) (fun b off e hz hb => ?_)
  · have := (hr.lt cb e).1; omega
  · have := (hr.lt b hb).1; have := ha b off e hz; omega

end Go.Proofs.YtnhefbhiemdhoaaGreat

/- A fraction and a bound that are drawn for Nearest. -/
namespace Go.Proofs.YtnhefbhiemdhoaaGreat
open Go.RowKit Go.Proofs.YtnhefbhiemdhoaaGreat.RM

theorem isR_ex {w w' : World} {cb R : Nat} {n d : Int} (h : IsR w R n d) (hx : Ex cb w w') (hne : R ≠ cb) : IsR w' R n d := (hx.2.2.2.2 R h.lt hne).trans h
theorem isR_st {W : World} {R b : Nat} {n d : Int} (h : IsR W R n d) (hne : R ≠ b) (o : Nat) (v : Value) : IsR (W.setCell ⟨b, o, none⟩ v) R n d := (Below.heap_setCell W ⟨b, o, none⟩ v R hne).trans h

end Go.Proofs.YtnhefbhiemdhoaaGreat

/- A fraction and a pair of units' texts are drawn; a word; a unit's text. -/
namespace Go.Proofs.YtnhefbhiemdhoaaGreat
open Go.RowKit Go.Proofs.YtnhefbhiemdhoaaGreat.RM

end Go.Proofs.YtnhefbhiemdhoaaGreat

/- A word and a unit's text are drawn from bytes. -/
namespace Go.Proofs.YtnhefbhiemdhoaaGreat
open Go.RowKit Go.Proofs.YtnhefbhiemdhoaaGreat.RM

end Go.Proofs.YtnhefbhiemdhoaaGreat

/- The walks of the laws' helpers over rows of fractions: held against each other, marked, held to be marked. -/
namespace Go.Proofs.YtnhefbhiemdhoaaGreat
open Go.RowKit Go.Proofs.YtnhefbhiemdhoaaGreat.RM

/-- the cells of a row of fractions -/
def cellsR (ps : List (Int × Int)) : List Value := ps.flatMap fun p => [Value.int .i64 p.1, .int .i64 p.2]
theorem cellsR_nil : cellsR [] = [] := rfl
theorem cellsR_cons (p : Int × Int) (ps : List (Int × Int)) : cellsR (p :: ps) = Value.int .i64 p.1 :: .int .i64 p.2 :: cellsR ps := rfl
theorem cellsR_append (ps qs : List (Int × Int)) : cellsR (ps ++ qs) = cellsR ps ++ cellsR qs := by simp [cellsR]
theorem cellsR_len (ps : List (Int × Int)) : (cellsR ps).length = ps.length * 2 := by
  induction ps with
  | nil => rfl
  | cons p ps ih => rw [cellsR_cons]; simp [ih]; omega
theorem cellsR_at : ∀ (ps : List (Int × Int)) (j : Nat), j < ps.length → (cellsR ps)[j * 2]? = some (.int .i64 (ps[j]?.getD (0, 0)).1) ∧ (cellsR ps)[j * 2 + 1]? = some (.int .i64 (ps[j]?.getD (0, 0)).2)
  | [], j, h => by simp at h
  | p :: ps, 0, _ => ⟨rfl, rfl⟩
  | p :: ps, j + 1, h => by
    have ih := cellsR_at ps j (by simpa using h)
    rw [cellsR_cons, show (j + 1) * 2 = j * 2 + 1 + 1 by omega]
    simpa using ih
theorem cellsR_set : ∀ (ps : List (Int × Int)) (j : Nat) (x y : Int), j < ps.length → ((cellsR ps).set (j * 2) (.int .i64 x)).set (j * 2 + 1) (.int .i64 y) = cellsR (ps.set j (x, y))
  | [], j, _, _, h => by simp at h
  | p :: ps, 0, _, _, _ => rfl
  | p :: ps, j + 1, x, y, h => by
    have ih := cellsR_set ps j x y (by simpa using h)
    rw [cellsR_cons, show (j + 1) * 2 = j * 2 + 1 + 1 by omega]
    simp only [List.set_cons_succ]
    rw [ih]; rfl
/-- what a row of fractions tells of its cells -/
theorem own_R {W : World} {base g n c : Nat} {ps : List (Int × Int)} (h : W.ownsRow base 25 2 (.slice (some ⟨g, 0, none⟩) n c) n (cellsR ps)) (hl : ps.length = n) (j : Nat) (hj : j < n) :
    W.cell? ⟨g, j * 2, none⟩ = some (.int .i64 (ps[j]?.getD (0, 0)).1) ∧ W.cell? ⟨g, j * 2 + 1, none⟩ = some (.int .i64 (ps[j]?.getD (0, 0)).2) := by
  have h1 := h.cellAt (j * 2) (by omega)
  have h2 := h.cellAt (j * 2 + 1) (by omega)
  have h3 := cellsR_at ps j (by omega)
  exact ⟨h1.trans h3.1, h2.trans h3.2⟩

/-- what is marked when j of them have been -/
def mrkR (ps : List (Int × Int)) (j : Nat) : List (Int × Int) := (List.range ps.length).map (fun i => if i < j then (1 + 2 * (i : Int), 2 + 2 * (i : Int)) else ps[i]?.getD (0, 0))
theorem mrkR_len (ps : List (Int × Int)) (j : Nat) : (mrkR ps j).length = ps.length := by simp [mrkR]
theorem mrkR_zero (ps : List (Int × Int)) : mrkR ps 0 = ps := by
  apply List.ext_getElem
  · rw [mrkR_len]
  · intro i h1 h2
    simp [mrkR, List.getElem?_eq_getElem h2]
theorem mrkR_set (ps : List (Int × Int)) (j : Nat) : (mrkR ps j).set j (1 + 2 * (j : Int), 2 + 2 * (j : Int)) = mrkR ps (j + 1) := by
  apply List.ext_getElem
  · simp [mrkR]
  · intro i h1 h2
    simp only [mrkR, List.getElem_set, List.getElem_map, List.getElem_range]
    by_cases e : j = i
    · subst e
      rw [if_pos rfl, if_pos (by omega)]
    · rw [if_neg e]
      by_cases h3 : i < j
      · rw [if_pos h3, if_pos (by omega)]
      · rw [if_neg h3, if_neg (by omega)]
theorem mrkR_at (ps : List (Int × Int)) (j : Nat) (h : j < ps.length) : (mrkR ps ps.length)[j]?.getD (0, 0) = (1 + 2 * (j : Int), 2 + 2 * (j : Int)) := by
  simp [mrkR, h]

end Go.Proofs.YtnhefbhiemdhoaaGreat

/- The walks of the laws' helpers that hold two lists against each other. -/
namespace Go.Proofs.YtnhefbhiemdhoaaGreat
open Go.RowKit Go.Proofs.YtnhefbhiemdhoaaGreat.RM

set_option maxRecDepth 100000 in
set_option maxHeartbeats 1000000 in
theorem likeI_same (v u : Value) (zs : List Int) (n b1 b2 : Nat) (w : World) (hn : zs.length = n) (hn2 : n ≤ 1000000000) (h1 : w.ownsRow b1 2 1 v n (zs.map (Value.int .i64))) (h2 : w.ownsRow b2 2 1 u n (zs.map (Value.int .i64))) :
    Calls Tryz.prog 19 #[v, u] w fun e w' => e = .returned (.bool true) ∧ ∃ m, w' = w.drewN m := by
  by_cases h0 : n = 0
  · obtain ⟨a, c, rfl⟩ := own_shape h1
    obtain ⟨a', c', rfl⟩ := own_shape h2
    subst h0
    clear h1 h2 hn
    go_enter Tryz.func19, Tryz.ntmps19
    go_wp2
    go_loop [5] (fun i => i = .int .i64 0) (fun _ => 0)
    case atStart => exact rfl
    case round =>
      subst hrel
      go_wp2
      go_ret
      exact ⟨rfl, 0, rfl⟩
  · obtain ⟨g, c, rfl⟩ := own_some h1 (by omega)
    obtain ⟨g', c', rfl⟩ := own_some h2 (by omega)
    have H1 : Hid (∀ j, j < n → w.cell? ⟨g, j, none⟩ = some (.int .i64 (zs[j]?.getD 0))) := fun j hj => own_int h1 hn j hj
    have H2 : Hid (∀ j, j < n → w.cell? ⟨g', j, none⟩ = some (.int .i64 (zs[j]?.getD 0))) := fun j hj => own_int h2 hn j hj
    clear h1 h2 hn h0
    go_enter Tryz.func19, Tryz.ntmps19
    go_wp2
    go_loopw [5] (fun i wr => ∃ k : Nat, k ≤ n ∧ i = .int .i64 k ∧ Hid (∃ m, wr = w.drewN m)) (fun i _ => n - (intOf i).toNat)
    case atStart => exact ⟨0, Nat.zero_le _, rfl, 0, rfl⟩
    case round =>
      obtain ⟨k, hk, rfl, hw⟩ := hrel
      obtain ⟨m, rfl⟩ := hw.out
      clear hw
      by_cases hlt : k < n
      · have c1 := H1.out k hlt
        have c2 := H2.out k hlt
        obtain ⟨x, hx⟩ : ∃ x, x = zs[k]?.getD 0 := ⟨_, rfl⟩
        rw [← hx] at c1 c2
        clear hx
        have ht : (x != x) = false := by simp
        go_wp2
        go_quiet (fail)
        go_wp2
        go_roundw
        case rel => exact ⟨k + 1, by omega, by go_num, m + nq, rfl⟩
        case measure => simp [intOf]; omega
      · go_wp2
        go_ret
        exact ⟨rfl, m, rfl⟩

end Go.Proofs.YtnhefbhiemdhoaaGreat

/- The law's comparison of two lists of numbers, alike or not; what powers of dimensions are. -/
namespace Go.Proofs.YtnhefbhiemdhoaaGreat
open Go.RowKit Go.Proofs.YtnhefbhiemdhoaaGreat.RM

theorem hidJ {p : Prop} (h : p) : Hid p := h
set_option maxRecDepth 100000 in
set_option maxHeartbeats 1000000 in
theorem likeI_any (v u : Value) (zs ys : List Int) (b1 b2 : Nat) (e1 e2 : TypeId) (w : World) (hz : zs.length ≤ 1000000000) (hy : ys.length ≤ 1000000000) (h1 : w.ownsRow b1 e1 1 v zs.length (zs.map (Value.int .i64))) (h2 : w.ownsRow b2 e2 1 u ys.length (ys.map (Value.int .i64))) :
    Calls Tryz.prog 19 #[v, u] w fun e w' => e = .returned (.bool (decide (zs = ys))) ∧ Below w.heap.size w w' := by
  obtain ⟨n, hn⟩ : ∃ n, n = zs.length := ⟨_, rfl⟩
  obtain ⟨m, hm⟩ : ∃ m, m = ys.length := ⟨_, rfl⟩
  rw [← hn] at h1 hz
  rw [← hm] at h2 hy
  obtain ⟨a, c, rfl⟩ := own_shape h1
  obtain ⟨a', c', rfl⟩ := own_shape h2
  have H1 : Hid (∀ j, j < n → ∃ g, a = some ⟨g, 0, none⟩ ∧ w.cell? ⟨g, j, none⟩ = some (.int .i64 (zs[j]?.getD 0))) := by
    intro j hj
    obtain ⟨g, cc, e⟩ := own_some h1 (by omega)
    cases e
    exact ⟨g, rfl, own_int h1 hn.symm j hj⟩
  have H2 : Hid (∀ j, j < m → ∃ g, a' = some ⟨g, 0, none⟩ ∧ w.cell? ⟨g, j, none⟩ = some (.int .i64 (ys[j]?.getD 0))) := by
    intro j hj
    obtain ⟨g, cc, e⟩ := own_some h2 (by omega)
    cases e
    exact ⟨g, rfl, own_int h2 hm.symm j hj⟩
  have HN := hidJ hn
  have HM := hidJ hm
  clear h1 h2 hn hm
  by_cases hnm : n = m
  · subst hnm
    have hne : ((n : Int) != (n : Int)) = false := by simp
    go_enter Tryz.func19, Tryz.ntmps19
    go_wp2
    go_loopw [5] (fun i wr => ∃ k : Nat, k ≤ n ∧ i = .int .i64 k ∧ Hid (∃ m, wr = w.drewN m) ∧ Hid (∀ j, j < k → zs[j]?.getD 0 = ys[j]?.getD 0)) (fun i _ => n - (intOf i).toNat)
    case atStart => exact ⟨0, Nat.zero_le _, rfl, ⟨0, rfl⟩, fun j hj => absurd hj (Nat.not_lt_zero _)⟩
    case round =>
      obtain ⟨k, hk, rfl, hw, HE⟩ := hrel
      obtain ⟨m, rfl⟩ := hw.out
      clear hw
      by_cases hlt : k < n
      · obtain ⟨g, rfl, c1⟩ := H1.out k hlt
        obtain ⟨g', rfl, c2⟩ := H2.out k hlt
        obtain ⟨x, hx⟩ : ∃ x, x = zs[k]?.getD 0 := ⟨_, rfl⟩
        obtain ⟨y, hy'⟩ : ∃ x, x = ys[k]?.getD 0 := ⟨_, rfl⟩
        have HX : Hid (x = zs[k]?.getD 0 ∧ y = ys[k]?.getD 0) := ⟨hx, hy'⟩
        rw [← hx] at c1
        rw [← hy'] at c2
        clear hx hy'
        by_cases hxy : x = y
        · subst hxy
          have ht : (x != x) = false := by simp
          go_wp2
          go_quiet (fail)
          go_wp2
          go_roundw
          case rel =>
            refine ⟨k + 1, by omega, by go_num, ⟨m + nq, rfl⟩, fun j hj => ?_⟩
            by_cases e : j = k
            · subst e; rw [← HX.out.1]; exact HX.out.2
            · exact HE.out j (by omega)
          case measure => simp [intOf]; omega
        · have ht : (x != y) = true := by simpa using hxy
          have HF : Hid (decide (zs = ys) = false) := by
            refine decide_eq_false fun e => hxy ?_
            rw [HX.out.1, HX.out.2, e]
          go_wp2
          go_quiet (fail)
          go_wp2
          go_ret
          exact ⟨ret_bool HF.out.symm, by first | exact below_drewN (below_drewN (Below.refl _ _) _) _ | exact below_drewN (Below.refl _ _) _⟩
      · obtain rfl : k = n := by omega
        have HT : Hid (decide (zs = ys) = true) := by
          refine decide_eq_true (List.ext_getElem (by rw [← HN.out, ← HM.out]) fun j h1 h2 => ?_)
          have := HE.out j (by have := HN.out; omega)
          rw [List.getElem?_eq_getElem h1, List.getElem?_eq_getElem h2] at this
          exact this
        go_wp2
        go_ret
        exact ⟨ret_bool HT.out.symm, below_drewN (Below.refl _ _) _⟩
  · have hne : ((n : Int) != (m : Int)) = true := by simp; omega
    have HF : Hid (decide (zs = ys) = false) := decide_eq_false fun e => hnm (by rw [HN.out, HM.out, e])
    go_enter Tryz.func19, Tryz.ntmps19
    go_wp2
    go_ret
    exact ⟨ret_bool HF.out.symm, Below.refl _ _⟩
end Go.Proofs.YtnhefbhiemdhoaaGreat

/- The law's comparison of two lists of numbers that lie anywhere. -/
namespace Go.Proofs.YtnhefbhiemdhoaaGreat
open Go.RowKit Go.Proofs.YtnhefbhiemdhoaaGreat.RM

/-- a list of numbers that can be read, anywhere -/
def RdU (w : World) (v : Value) (xs : List Int) : Prop := ∃ a c, v = .slice a xs.length c ∧ ∀ j, j < xs.length → ∃ g off, a = some ⟨g, off, none⟩ ∧ w.cell? ⟨g, off + j, none⟩ = some (.int .i64 (xs[j]?.getD 0))
theorem RowU.rdU {W : World} {base : Nat} {v : Value} {xs : List Int} (h : RowU W base v xs) : RdU W v xs := by
  obtain ⟨g, off, e, -, -, hj⟩ := h.cells
  exact ⟨_, _, e, fun j h => ⟨g, off, rfl, (hj j h).1⟩⟩
theorem rdU_own {W : World} {b : Nat} {e : TypeId} {v : Value} {xs : List Int} (h : W.ownsRow b e 1 v xs.length (xs.map (Value.int .i64))) : RdU W v xs := by
  obtain ⟨a, c, rfl⟩ := own_shape h
  refine ⟨a, c, rfl, fun j hj => ?_⟩
  obtain ⟨g, cc, e⟩ := own_some h (by omega)
  cases e
  exact ⟨g, 0, rfl, by rw [Nat.zero_add]; exact own_int h rfl j hj⟩
set_option maxRecDepth 100000 in
set_option maxHeartbeats 1000000 in
theorem likeU_any (v u : Value) (zs ys : List Int) (w : World) (hz : zs.length ≤ 1000000000) (hy : ys.length ≤ 1000000000) (h1 : RdU w v zs) (h2 : RdU w u ys) :
    Calls Tryz.prog 19 #[v, u] w fun e w' => e = .returned (.bool (decide (zs = ys))) ∧ Below w.heap.size w w' := by
  obtain ⟨n, hn⟩ : ∃ n, n = zs.length := ⟨_, rfl⟩
  obtain ⟨m, hm⟩ : ∃ m, m = ys.length := ⟨_, rfl⟩
  obtain ⟨a, c, rfl, h1⟩ := h1
  obtain ⟨a', c', rfl, h2⟩ := h2
  rw [← hn] at h1 hz ⊢
  rw [← hm] at h2 hy ⊢
  have H1 : Hid (∀ j, j < n → ∃ g off, a = some ⟨g, off, none⟩ ∧ w.cell? ⟨g, off + j, none⟩ = some (.int .i64 (zs[j]?.getD 0))) := h1
  have H2 : Hid (∀ j, j < m → ∃ g off, a' = some ⟨g, off, none⟩ ∧ w.cell? ⟨g, off + j, none⟩ = some (.int .i64 (ys[j]?.getD 0))) := h2
  have HN := hidJ hn
  have HM := hidJ hm
  clear h1 h2 hn hm
  by_cases hnm : n = m
  · subst hnm
    have hne : ((n : Int) != (n : Int)) = false := by simp
    go_enter Tryz.func19, Tryz.ntmps19
    go_wp2
    go_loopw [5] (fun i wr => ∃ k : Nat, k ≤ n ∧ i = .int .i64 k ∧ Hid (∃ m, wr = w.drewN m) ∧ Hid (∀ j, j < k → zs[j]?.getD 0 = ys[j]?.getD 0)) (fun i _ => n - (intOf i).toNat)
    case atStart => exact ⟨0, Nat.zero_le _, rfl, ⟨0, rfl⟩, fun j hj => absurd hj (Nat.not_lt_zero _)⟩
    case round =>
      obtain ⟨k, hk, rfl, hw, HE⟩ := hrel
      obtain ⟨m, rfl⟩ := hw.out
      clear hw
      by_cases hlt : k < n
      · obtain ⟨g, off, rfl, c1⟩ := H1.out k hlt
        obtain ⟨g', off', rfl, c2⟩ := H2.out k hlt
        obtain ⟨x, hx⟩ : ∃ x, x = zs[k]?.getD 0 := ⟨_, rfl⟩
        obtain ⟨y, hy'⟩ : ∃ x, x = ys[k]?.getD 0 := ⟨_, rfl⟩
        have HX : Hid (x = zs[k]?.getD 0 ∧ y = ys[k]?.getD 0) := ⟨hx, hy'⟩
        rw [← hx] at c1
        rw [← hy'] at c2
        clear hx hy'
        by_cases hxy : x = y
        · subst hxy
          have ht : (x != x) = false := by simp
          go_wp2
          go_quiet (fail)
          go_wp2
          go_roundw
          case rel =>
            refine ⟨k + 1, by omega, by go_num, ⟨m + nq, rfl⟩, fun j hj => ?_⟩
            by_cases e : j = k
            · subst e; rw [← HX.out.1]; exact HX.out.2
            · exact HE.out j (by omega)
          case measure => simp [intOf]; omega
        · have ht : (x != y) = true := by simpa using hxy
          have HF : Hid (decide (zs = ys) = false) := by
            refine decide_eq_false fun e => hxy ?_
            rw [HX.out.1, HX.out.2, e]
          go_wp2
          go_quiet (fail)
          go_wp2
          go_ret
          exact ⟨ret_bool HF.out.symm, by first | exact below_drewN (below_drewN (Below.refl _ _) _) _ | exact below_drewN (Below.refl _ _) _⟩
      · obtain rfl : k = n := by omega
        have HT : Hid (decide (zs = ys) = true) := by
          refine decide_eq_true (List.ext_getElem (by rw [← HN.out, ← HM.out]) fun j h1 h2 => ?_)
          have := HE.out j (by have := HN.out; omega)
          rw [List.getElem?_eq_getElem h1, List.getElem?_eq_getElem h2] at this
          exact this
        go_wp2
        go_ret
        exact ⟨ret_bool HT.out.symm, below_drewN (Below.refl _ _) _⟩
  · have hne : ((n : Int) != (m : Int)) = true := by simp; omega
    have HF : Hid (decide (zs = ys) = false) := decide_eq_false fun e => hnm (by rw [HN.out, HM.out, e])
    go_enter Tryz.func19, Tryz.ntmps19
    go_wp2
    go_ret
    exact ⟨ret_bool HF.out.symm, Below.refl _ _⟩
end Go.Proofs.YtnhefbhiemdhoaaGreat

/- The walk of the law of Both. -/
namespace Go.Proofs.YtnhefbhiemdhoaaGreat
open Go.RowKit Go.Proofs.YtnhefbhiemdhoaaGreat.RM

theorem both_same (l : List UInt8) : ((unitS l).2.2.2 && (preS l).2.2.2) = ((uFind l).isSome && (preI l).2) := by
  have h1 : (unitS l).2.2.2 = (uFind l).isSome := by
    unfold unitS
    cases uFind l <;> rfl
  have h2 : (preS l).2.2.2 = (preI l).2 := by
    unfold preS told
    cases (preI l).2 <;> rfl
  rw [h1, h2]

end Go.Proofs.YtnhefbhiemdhoaaGreat

/- What the law of conversion calls, each told in one way: lists that can be read, texts that were drawn. -/
namespace Go.Proofs.YtnhefbhiemdhoaaGreat
open Go.RowKit Go.Proofs.YtnhefbhiemdhoaaGreat.RM

theorem b0_any (u : World) (x : Obj) : Below u.heap.size u (u.alloc x) := (Below.refl _ _).alloc (Nat.le_refl _) x
theorem RdU.below {W W' : World} {v : Value} {xs : List Int} (h : RdU W v xs) (hb : Below W.heap.size W W') : RdU W' v xs := by
  obtain ⟨a, c, e, h⟩ := h
  refine ⟨a, c, e, fun j hj => ?_⟩
  obtain ⟨g, off, e2, hc⟩ := h j hj
  exact ⟨g, off, e2, (hb.cell (p := ⟨g, off + j, none⟩) (World.block_lt_of_cell? W _ hc)).trans hc⟩
theorem likeSame (v u : Value) (xs : List Int) (w : World) (hl : xs.length ≤ 5) (h1 : RdU w v xs) (h2 : RdU w u xs) :
    Calls Tryz.prog 19 #[v, u] w fun e w' => e = .returned (.bool true) ∧ Below w.heap.size w w' := by
  have h := likeU_any v u xs xs w (by omega) (by omega) h1 h2
  rw [decide_eq_true rfl] at h
  exact h
theorem wordS_len (l : List UInt8) : (wordS l).2.2.1.length ≤ 5 := told_len _
theorem unitT_len5 (l : List UInt8) : (unitT l).2.2.1.length ≤ 5 := told_len _
theorem sWordL (s : ByteArray) (w : World) :
    Calls Tryz.prog 73 #[.string s] w fun e w' => ∃ v, e = .returned (.tuple #[.agg #[.int .i64 (wordS s.data.toList).1, .int .i64 (wordS s.data.toList).2.1], v, .bool (wordS s.data.toList).2.2.2]) ∧ RdU w' v (wordS s.data.toList).2.2.1 ∧ Below w.heap.size w w' := by
  refine (sWord_any s w).mono ?_
  rintro e w' ⟨v, rfl, hr, hb⟩
  exact ⟨v, rfl, rdU_own hr, hb⟩
theorem sUnitL {k : Nat} (s : ByteArray) (w : World) (h : DT k s) (hk : k ≤ 1048576) :
    Calls Tryz.prog 36 #[.string s] w fun e w' => ∃ v, e = .returned (.tuple #[.agg #[.int .i64 (unitT s.data.toList).1, .int .i64 (unitT s.data.toList).2.1], v, .bool (unitT s.data.toList).2.2.2]) ∧ RdU w' v (unitT s.data.toList).2.2.1 ∧ Below w.heap.size w w' := by
  have hu := sUnitOf_any s w (h.small hk)
  rw [unit_same h.okT] at hu
  refine hu.mono ?_
  rintro e w' ⟨v, et, rfl, hr, hb⟩
  exact ⟨v, rfl, rdU_own hr, hb⟩
theorem sDimsL {k : Nat} (s : ByteArray) (w : World) (h : DT k s) (hk : k ≤ 1048576) :
    Calls Tryz.prog 20 #[.string s] w fun e w' => ∃ v, e = .returned v ∧ RdU w' v (unitT s.data.toList).2.2.1 ∧ Below w.heap.size w w' := by
  have hu := sDims_any s w (h.small hk)
  rw [unit_same h.okT] at hu
  refine hu.mono ?_
  rintro e w' ⟨v, et, rfl, hr, hb⟩
  exact ⟨v, rfl, rdU_own hr, hb⟩
/-- is it a unit and a word with a prefix, too -/
def bothL (l : List UInt8) : Bool := (uFind l).isSome && (preI l).2
theorem DT_min : DT 3 ⟨#[109, 105, 110]⟩ := by decide
theorem wordS_min : wordS [109, 105, 110] = (60, 1, [0, 0, 1, 0, 0], true) := by unfold wordS; rw [word_min]; rfl
theorem bothL_min : bothL [109, 105, 110] = true := by decide +kernel
theorem conv_dims {v : Int × Int} {s t : List UInt8} (h : (convI v s t).2.2 = true) : (unitT t).2.2.1 = (unitT s).2.2.1 := by
  obtain ⟨f, g, e1, e2, e3, -⟩ := convI_yes h
  unfold unitT
  rw [e1, e2]
  exact e3.symm
theorem fiveC7 {W : World} {G : Nat} {t : TypeId} (h : IsB W G #[.int .i64 0, .int .i64 0, .int .i64 1, .int .i64 0, .int .i64 0] t) : ∀ j, j < ([0, 0, 1, 0, 0] : List Int).length → ∃ g off, (some ⟨G, 0, none⟩ : Option Addr) = some ⟨g, off, none⟩ ∧ W.cell? ⟨g, off + j, none⟩ = some (.int .i64 (([0, 0, 1, 0, 0] : List Int)[j]?.getD 0)) := by
  intro j hj
  refine ⟨G, 0, rfl, ?_⟩
  match j, hj with
  | 0, _ => exact h.cell 0 rfl
  | 1, _ => exact h.cell 1 rfl
  | 2, _ => exact h.cell 2 rfl
  | 3, _ => exact h.cell 3 rfl
  | 4, _ => exact h.cell 4 rfl
def thT (k : Nat) : ByteArray := ([⟨#[75]⟩, ⟨#[109, 47, 115]⟩, ⟨#[74]⟩, ⟨#[107, 103, 47, 109, 94, 51]⟩, ⟨#[115]⟩, ⟨#[87]⟩, ⟨#[78]⟩] : List ByteArray)[k]?.getD ⟨#[]⟩
theorem getD_mem {α : Type} (l : List α) (k : Nat) (d : α) (h : k < l.length) : l[k]?.getD d ∈ l := by
  rw [List.getElem?_eq_getElem h]
  exact List.getElem_mem h
theorem thT_ok {k : Nat} (h : k < 7) : DT 6 (thT k) := thirds_ok _ (getD_mem _ k _ h)
theorem thT_cell {W : World} {B : Nat} {t : TypeId} (h : IsB W B #[.string ⟨#[75]⟩, .string ⟨#[109, 47, 115]⟩, .string ⟨#[74]⟩, .string ⟨#[107, 103, 47, 109, 94, 51]⟩, .string ⟨#[115]⟩, .string ⟨#[87]⟩, .string ⟨#[78]⟩] t) {k : Nat} (hk : k < 7) : W.cell? ⟨B, k, none⟩ = some (.string (thT k)) := by
  match k, hk with
  | 0, _ => exact h.cell 0 rfl
  | 1, _ => exact h.cell 1 rfl
  | 2, _ => exact h.cell 2 rfl
  | 3, _ => exact h.cell 3 rfl
  | 4, _ => exact h.cell 4 rfl
  | 5, _ => exact h.cell 5 rfl
  | 6, _ => exact h.cell 6 rfl
end Go.Proofs.YtnhefbhiemdhoaaGreat

/- The program's In over a list that lies anywhere; what both sides measure is one. -/
namespace Go.Proofs.YtnhefbhiemdhoaaGreat
open Go.RowKit Go.Proofs.YtnhefbhiemdhoaaGreat.RM

theorem RdU.shape {W : World} {v : Value} {xs : List Int} (h : RdU W v xs) : ∃ a c, v = .slice a xs.length c := by
  obtain ⟨a, c, e, _⟩ := h
  exact ⟨a, c, e⟩
theorem RowM.rdU {W : World} {lo hi : Nat} {v : Value} {xs : List Int} (h : RowM W lo hi v xs) : RdU W v xs := by
  obtain ⟨a, c, e, h⟩ := h
  refine ⟨a, c, e, fun j hj => ?_⟩
  obtain ⟨g, off, e2, -, -, h2⟩ := h (by omega)
  exact ⟨g, off, e2, (h2 j hj).1⟩
theorem fiveRd {W : World} {g off : Nat} {a b c' d e : Int} (h : ∀ j, j < [a, b, c', d, e].length → ∃ g' off', (some ⟨g, off, none⟩ : Option Addr) = some ⟨g', off', none⟩ ∧ W.cell? ⟨g', off' + j, none⟩ = some (.int .i64 ([a, b, c', d, e][j]?.getD 0))) : ∀ j v, (arr a b c' d e).toList[j]? = some v → W.cell? ((⟨g, off, none⟩ : Addr).add j) = some v := by
  intro j v hj
  have hl : j < 5 := by
    have := (List.getElem?_eq_some_iff.1 hj).1
    simpa [arr] using this
  obtain ⟨g', off', e1, h1⟩ := h j hl
  cases e1
  have e : (⟨g, off, none⟩ : Addr).add j = ⟨g, off + j, none⟩ := by by_cases i0 : j = 0 <;> simp [Addr.add, i0]
  rw [e, h1, ← hj]
  match j, hl with
  | 0, _ => rfl
  | 1, _ => rfl
  | 2, _ => rfl
  | 3, _ => rfl
  | 4, _ => rfl

set_option maxRecDepth 100000 in
set_option maxHeartbeats 2000000 in
theorem dimOf_rd (v : Value) (ys : List Int) (w : World) (h : RdU w v ys) :
    Calls Tryz.prog 61 #[v] w fun x w' => ∃ s0 s1 s2 s3 s4, x = .returned (.tuple #[.agg (arr s0 s1 s2 s3 s4), .bool (dimB ys)]) ∧ (dimB ys = true → ys = [s0, s1, s2, s3, s4]) ∧ Below w.heap.size w w' := by
  have Q1 := IsD.new w 0 0 0 0 0
  have B1 : Below w.heap.size w (w.alloc (.cells (arr 0 0 0 0 0) 53)) := (Below.refl _ _).alloc (Nat.le_refl _) _
  by_cases h5 : ys.length = 5
  · obtain ⟨a, b, c, d, e, rfl⟩ := dim_out h5
    obtain ⟨ao, cg, rfl, hc⟩ := h
    obtain ⟨g, off, rfl, c0⟩ := hc 0 (by simp)
    have hg : g < w.heap.size := World.block_lt_of_cell? w _ c0
    have HS := hidD (fiveRd hc)
    clear hc c0 h5
    go_enter Tryz.func61, Tryz.ntmps61
    have hB2 : Below w.heap.size w ((w.alloc (.cells (arr 0 0 0 0 0) 53)).alloc (.cells (arr 0 0 0 0 0) 53)) := B1.alloc B1.size _
    have hsz : (w.alloc (.cells (arr 0 0 0 0 0) 53)).heap.size = w.heap.size + 1 := by simp
    have hnew := World.alloc_heap_new (w.alloc (.cells (arr 0 0 0 0 0) 53)) (.cells (arr 0 0 0 0 0) 53)
    rw [hsz] at hnew
    have Q2 := Q1.below ((Below.refl _ _).alloc (Nat.le_refl _) (.cells (arr 0 0 0 0 0) 53))
    have hsrc : ∀ j v, (arr a b c d e).toList[j]? = some v → ((w.alloc (.cells (arr 0 0 0 0 0) 53)).alloc (.cells (arr 0 0 0 0 0) 53)).cell? ((⟨g, off, none⟩ : Addr).add j) = some v := by
      intro j v hj
      have h1 := HS.out j v hj
      have e : (⟨g, off, none⟩ : Addr).add j = ⟨g, off + j, none⟩ := by by_cases i0 : j = 0 <;> simp [Addr.add, i0]
      rw [e] at h1 ⊢
      exact (hB2.cell (p := ⟨g, off + j, none⟩) hg).trans h1
    have HSRC := hidD hsrc
    have HNEW := hidD hnew
    have HQ2 := hidD Q2
    have HB2 := hidD hB2
    clear hsrc hnew Q2 hB2 hsz Q1 B1
    have hrun := run_copy_row (P := Tryz.prog) ((w.alloc (.cells (arr 0 0 0 0 0) 53)).alloc (.cells (arr 0 0 0 0 0) 53)) 28 28 3 2 (w.heap.size + 1) 0 5 5 ⟨g, off, none⟩ 5 cg (arr 0 0 0 0 0) 53 (arr a b c d e).toList Tryz.underlying28 sizeI1 HNEW.out rfl HSRC.out (by simp [arr]) (by intro v hv; simp [arr] at hv; rcases hv with rfl | rfl | rfl | rfl | rfl <;> rfl)
    obtain ⟨X, hX⟩ : ∃ X, X = ((w.alloc (.cells (arr 0 0 0 0 0) 53)).alloc (.cells (arr 0 0 0 0 0) 53)).setRow (w.heap.size + 1) ((arr 0 0 0 0 0).toList.take 0 ++ (arr a b c d e).toList ++ (arr 0 0 0 0 0).toList.drop (0 + (arr a b c d e).toList.length)).toArray := ⟨_, rfl⟩
    have DX : IsD X (w.heap.size + 1) a b c d e := by rw [hX]; exact setRow_heap _ _ _ _ _ _ HNEW.out
    have QX : IsD X w.heap.size 0 0 0 0 0 := by rw [hX]; exact (setRow_other _ _ _ _ (by omega)).trans HQ2.out
    have BX : Below w.heap.size w X := by rw [hX]; exact below_setRow HB2.out (by omega) _
    rw [← hX] at hrun
    clear hX
    unfold arr at hrun
    have HX := hidD (And.intro DX QX)
    obtain ⟨d0, d1, d2, d3, d4⟩ := DX.c
    obtain ⟨k0, k1, k2, k3, k4⟩ := QX.c
    have l0 := QX.f 0
    have l1 := QX.f 1
    have l2 := QX.f 2
    have l3 := QX.f 3
    have l4 := QX.f 4
    have HL : Hid (∀ u : World, Calls Tryz.prog 65 #[.agg #[.int .i64 a, .int .i64 b, .int .i64 c, .int .i64 d, .int .i64 e]] u fun x w' => x = .returned (.agg #[.int .i64 (cl a), .int .i64 (cl b), .int .i64 (cl c), .int .i64 (cl d), .int .i64 (cl e)]) ∧ Below u.heap.size u w') := fun u => lim_any a b c d e u
    obtain ⟨q, hq⟩ : ∃ q, q = (a == cl a && (b == cl b && (c == cl c && (d == cl d && e == cl e)))) := ⟨_, rfl⟩
    have hE := fun u : World => eq5 a b c d e (cl a) (cl b) (cl c) (cl d) (cl e) u
    rw [← hq] at hE
    have HQ : Hid (q = dimB [a, b, c, d, e]) := by show _ = _; rw [dimB_five]; exact hq
    clear DX QX hq HNEW HSRC HQ2 HB2
    go_upto_region 5 with fail
    clear hrun
    go_region_with (go_at_call 65; refine (HL.out _).mono ?_; rintro x w1 ⟨rfl, hb⟩; have D1 : IsD w1 (w.heap.size + 1) a b c d e := IsD.below (by first | exact HX.out.1 | exact HX.out.1.below ((Below.refl _ _).drew)) hb; have D2 : IsD w1 w.heap.size 0 0 0 0 0 := IsD.below (by first | exact HX.out.2 | exact HX.out.2.below ((Below.refl _ _).drew)) hb; obtain ⟨d0, d1, d2, d3, d4⟩ := D1.c; obtain ⟨k0, k1, k2, k3, k4⟩ := D2.c; have l0 := D2.f 0; have l1 := D2.f 1; have l2 := D2.f 2; have l3 := D2.f 3; have l4 := D2.f 4; have B1 : Below w.heap.size w w1 := Below.trans (by first | exact BX | exact BX.drew) (hb.mono (by simpa using BX.size)))
    all_goals
      go_wp2
      exact bodyPost_ret (v := .tuple #[.agg #[.int .i64 a, .int .i64 b, .int .i64 c, .int .i64 d, .int .i64 e], .bool q]) (by simp [results, Tryz.results61, go_sem, k0, k1, k2, k3, k4]) rfl ⟨a, b, c, d, e, by rw [HQ.out]; rfl, fun _ => rfl, ((((B1.setCell (p := ⟨w.heap.size, 0, none⟩) (Nat.le_refl _) _).setCell (p := ⟨w.heap.size, 1, none⟩) (Nat.le_refl _) _).setCell (p := ⟨w.heap.size, 2, none⟩) (Nat.le_refl _) _).setCell (p := ⟨w.heap.size, 3, none⟩) (Nat.le_refl _) _).setCell (p := ⟨w.heap.size, 4, none⟩) (Nat.le_refl _) _⟩
  · have hq : dimB ys = false := by unfold dimB; rw [decide_eq_false h5]; rfl
    have HQ := hidD hq
    obtain ⟨ao, co, rfl⟩ := h.shape
    have h5' : ¬ ((ys.length : Int) = 5) := by omega
    clear h h5 hq
    go_enter Tryz.func61, Tryz.ntmps61
    go_wp2
    exact bodyPost_ret (v := .tuple #[.agg #[.int .i64 0, .int .i64 0, .int .i64 0, .int .i64 0, .int .i64 0], .bool false]) (by simp [results, Tryz.results61, go_sem]) rfl ⟨0, 0, 0, 0, 0, by rw [HQ.out]; rfl, fun h => by rw [HQ.out] at h; exact absurd h (by simp), B1⟩

set_option maxRecDepth 100000 in
set_option maxHeartbeats 1000000 in
theorem measOf_rd (n d : Int) (v : Value) (ys : List Int) (w : World) (h : RdU w v ys) :
    Calls Tryz.prog 31 #[.agg #[.int .i64 n, .int .i64 d, v]] w fun e w' => ∃ s0 s1 s2 s3 s4, e = .returned (.tuple #[.agg #[.int .i64 s0, .int .i64 s1, .int .i64 s2, .int .i64 s3, .int .i64 s4, .int .i64 n, .int .i64 d], .bool (dimB ys && okB n d)]) ∧ (dimB ys = true → ys = [s0, s1, s2, s3, s4]) ∧ Below w.heap.size w w' := by
  have b0 : ∀ (u : World) (o : Obj), Below u.heap.size u (u.alloc o) := fun u o => (Below.refl _ _).alloc (Nat.le_refl _) o
  have HD := hidU (fun W (hW : Below w.heap.size w W) => dimOf_rd _ ys W (h.below hW))
  obtain ⟨a, c, rfl⟩ := h.shape
  obtain ⟨k, hk⟩ : ∃ k, k = ys.length := ⟨_, rfl⟩
  rw [← hk] at HD ⊢
  obtain ⟨q, hq⟩ : ∃ q, q = dimB ys := ⟨_, rfl⟩
  rw [← hq] at HD ⊢
  have HR := hidU (fun W => right_any n d W)
  obtain ⟨o, ho⟩ : ∃ o, o = okB n d := ⟨_, rfl⟩
  rw [← ho] at HR ⊢
  clear ho hq h hk
  go_enter Tryz.func31, Tryz.ntmps31
  go_wp2_with fail
  refine (HD.out _ ((b0 _ _).alloc (by simp) _)).mono ?_
  rintro e w1 ⟨s0, s1, s2, s3, s4, rfl, hs, hb⟩
  have HS := hidU hs
  obtain ⟨A, hA⟩ : ∃ A, A = w.heap.size := ⟨_, rfl⟩
  have hAw : Hid (w.heap.size ≤ A) := Nat.le_of_eq hA.symm
  have k1 : IsB w1 A #[.int .i64 n, .int .i64 d, .slice a k c] 30 := by rw [hA]; exact ((IsB.new w _ _).below (b0 _ _)).below hb
  have k2 : IsB w1 (A + 1) #[.int .i64 0, .int .i64 0, .int .i64 0, .int .i64 0, .int .i64 0, .int .i64 0, .int .i64 0] 60 := by rw [hA]; exact (IsB.new2c w _ _ _).below hb
  have hB1 : Below w.heap.size w w1 := ((b0 _ _).alloc (by simp) _).trans (hb.mono (by simp; omega))
  rw [← hA]
  clear hb hA hs
  unfold arr
  go_upto_region 2 with fail
  obtain ⟨Y, hY⟩ : ∃ Y, Y = w1.alloc (.cells #[.int .i64 s0, .int .i64 s1, .int .i64 s2, .int .i64 s3, .int .i64 s4] 53) := ⟨_, rfl⟩
  obtain ⟨F, hF⟩ : ∃ F, F = w1.heap.size := ⟨_, rfl⟩
  have hb : Below w1.heap.size w1 Y := by rw [hY]; exact b0 _ _
  have hF0 : A + 1 < F := by rw [hF]; exact k2.lt
  replace k1 := k1.below hb
  replace k2 := k2.below hb
  have k3 : IsB Y F #[.int .i64 s0, .int .i64 s1, .int .i64 s2, .int .i64 s3, .int .i64 s4] 53 := by rw [hY, hF]; exact IsB.new _ _ _
  have HB := hidU (hB1.trans (hb.mono hB1.size))
  have hFz : A + 1 < F := hF0
  rw [← hY, ← hF]
  clear hY hF hb hB1 hF0
  obtain ⟨Z, hZ⟩ : ∃ Z, Z = A + 1 := ⟨_, rfl⟩
  rw [← hZ] at k2 hFz ⊢
  have hZw : Hid (w.heap.size ≤ Z) := by have := hAw.out; show _ ≤ _; omega
  have hAZ : Hid (A < Z) := by show _ < _; omega
  have hFw : Hid (Z < F) := hFz
  clear hZ hFz
  obtain ⟨a0, a1, -⟩ := k1.c3
  obtain ⟨p0, p1, p2, p3, p4⟩ := k3.c5
  have K2 := hidU k2
  cases q
  · obtain ⟨z0, z1, z2, z3, z4, z5, z6⟩ := k2.c7
    obtain ⟨f0, f1, f2, f3, f4, f5, f6⟩ := k2.f7
    clear k1 k2 k3
    go_region
    go_wp2
    have HZ := K2.out.set7 (.int .i64 s0) (.int .i64 s1) (.int .i64 s2) (.int .i64 s3) (.int .i64 s4) (.int .i64 n) (.int .i64 d)
    obtain ⟨y0, y1, y2, y3, y4, y5, y6⟩ := HZ.drew.c7
    exact bodyPost_ret (v := .tuple #[.agg #[.int .i64 s0, .int .i64 s1, .int .i64 s2, .int .i64 s3, .int .i64 s4, .int .i64 n, .int .i64 d], .bool false]) (by simp [results, Tryz.results31, go_sem, y0, y1, y2, y3, y4, y5, y6]) rfl ⟨_, _, _, _, _, rfl, HS.out, (below_set7 HB.out hZw.out _ _ _ _ _ _ _).drew⟩
  · have K1 := hidU k1
    have K3 := hidU k3
    have HFZ : Hid (F ≠ Z) := by have := k2.lt; show _ ≠ _; have := hFw.out; omega
    have HAZ : Hid (A ≠ Z) := by show _ ≠ _; have := hAZ.out; omega
    clear k1 k2 k3 a0 a1 p0 p1 p2 p3 p4
    refine wp_region_noPanic ?_
    refine wp_region_held_drew (S := fun W => IsB W F #[.int .i64 s0, .int .i64 s1, .int .i64 s2, .int .i64 s3, .int .i64 s4] 53 ∧ IsB W A #[.int .i64 n, .int .i64 d, .slice a k c] 30) (by kernel_rfl) ⟨K3.out.drew, K1.out.drew⟩ (fun hHeld => ?_)
    refine wpAnyH_take (i := 0) (v := ?_) rfl (by kernel_rfl) (by kernel_rfl) (by kernel_rfl) (fun _ _ _ h => h) (Or.inl ⟨by kernel_rfl, ?_⟩) hHeld ?_
    rotate_left
    · intro wz hSw; obtain ⟨hS1, hS2⟩ := hSw; obtain ⟨p0, p1, p2, p3, p4⟩ := hS1.c5; obtain ⟨a0, a1, a2⟩ := hS2.c3; clear hS1 hS2; go_simp; all_goals (try with_reducible rfl)
    (try simp only [List.getElem_toArray]); (try simp only [List.getElem_cons_succ]); (try simp only [List.getElem_cons_zero]); (try simp only [Act.put]); (try simp only [List.setIfInBounds_toArray]); (try simp only [List.set_cons_succ]); (try simp only [List.set_cons_zero])
    refine wpAnyH_take (i := 1) (v := ?_) rfl (by kernel_rfl) (by kernel_rfl) (by kernel_rfl) (fun _ _ _ h => h) (Or.inl ⟨by kernel_rfl, ?_⟩) hHeld ?_
    rotate_left
    · intro wz hSw; obtain ⟨hS1, hS2⟩ := hSw; obtain ⟨p0, p1, p2, p3, p4⟩ := hS1.c5; obtain ⟨a0, a1, a2⟩ := hS2.c3; clear hS1 hS2; go_simp; all_goals (try with_reducible rfl)
    (try simp only [List.getElem_toArray]); (try simp only [List.getElem_cons_succ]); (try simp only [List.getElem_cons_zero]); (try simp only [Act.put]); (try simp only [List.setIfInBounds_toArray]); (try simp only [List.set_cons_succ]); (try simp only [List.set_cons_zero])
    refine wpAnyH_take (i := 2) (v := ?_) rfl (by kernel_rfl) (by kernel_rfl) (by kernel_rfl) (fun _ _ _ h => h) (Or.inl ⟨by kernel_rfl, ?_⟩) hHeld ?_
    rotate_left
    · intro wz hSw; obtain ⟨hS1, hS2⟩ := hSw; obtain ⟨p0, p1, p2, p3, p4⟩ := hS1.c5; obtain ⟨a0, a1, a2⟩ := hS2.c3; clear hS1 hS2; go_simp; all_goals (try with_reducible rfl)
    (try simp only [List.getElem_toArray]); (try simp only [List.getElem_cons_succ]); (try simp only [List.getElem_cons_zero]); (try simp only [Act.put]); (try simp only [List.setIfInBounds_toArray]); (try simp only [List.set_cons_succ]); (try simp only [List.set_cons_zero])
    refine wpAnyH_take (i := 3) (v := ?_) rfl (by kernel_rfl) (by kernel_rfl) (by kernel_rfl) (fun _ _ _ h => h) (Or.inl ⟨by kernel_rfl, ?_⟩) hHeld ?_
    rotate_left
    · intro wz hSw; obtain ⟨hS1, hS2⟩ := hSw; obtain ⟨p0, p1, p2, p3, p4⟩ := hS1.c5; obtain ⟨a0, a1, a2⟩ := hS2.c3; clear hS1 hS2; go_simp; all_goals (try with_reducible rfl)
    (try simp only [List.getElem_toArray]); (try simp only [List.getElem_cons_succ]); (try simp only [List.getElem_cons_zero]); (try simp only [Act.put]); (try simp only [List.setIfInBounds_toArray]); (try simp only [List.set_cons_succ]); (try simp only [List.set_cons_zero])
    refine wpAnyH_take (i := 4) (v := ?_) rfl (by kernel_rfl) (by kernel_rfl) (by kernel_rfl) (fun _ _ _ h => h) (Or.inl ⟨by kernel_rfl, ?_⟩) hHeld ?_
    rotate_left
    · intro wz hSw; obtain ⟨hS1, hS2⟩ := hSw; obtain ⟨p0, p1, p2, p3, p4⟩ := hS1.c5; obtain ⟨a0, a1, a2⟩ := hS2.c3; clear hS1 hS2; go_simp; all_goals (try with_reducible rfl)
    (try simp only [List.getElem_toArray]); (try simp only [List.getElem_cons_succ]); (try simp only [List.getElem_cons_zero]); (try simp only [Act.put]); (try simp only [List.setIfInBounds_toArray]); (try simp only [List.set_cons_succ]); (try simp only [List.set_cons_zero])
    refine wpAnyH_take (i := 5) (v := ?_) rfl (by kernel_rfl) (by kernel_rfl) (by kernel_rfl) (fun _ _ _ h => h) (Or.inl ⟨by kernel_rfl, ?_⟩) hHeld ?_
    rotate_left
    · intro wz hSw; obtain ⟨hS1, hS2⟩ := hSw; obtain ⟨p0, p1, p2, p3, p4⟩ := hS1.c5; obtain ⟨a0, a1, a2⟩ := hS2.c3; clear hS1 hS2; go_simp; all_goals (try with_reducible rfl)
    (try simp only [List.getElem_toArray]); (try simp only [List.getElem_cons_succ]); (try simp only [List.getElem_cons_zero]); (try simp only [Act.put]); (try simp only [List.setIfInBounds_toArray]); (try simp only [List.set_cons_succ]); (try simp only [List.set_cons_zero])
    refine wpAnyH_take (i := 6) (v := ?_) rfl (by kernel_rfl) (by kernel_rfl) (by kernel_rfl) (fun _ _ _ h => h) (Or.inl ⟨by kernel_rfl, ?_⟩) hHeld ?_
    rotate_left
    · intro wz hSw; obtain ⟨hS1, hS2⟩ := hSw; obtain ⟨p0, p1, p2, p3, p4⟩ := hS1.c5; obtain ⟨a0, a1, a2⟩ := hS2.c3; clear hS1 hS2; go_simp; all_goals (try with_reducible rfl)
    (try simp only [List.getElem_toArray]); (try simp only [List.getElem_cons_succ]); (try simp only [List.getElem_cons_zero]); (try simp only [Act.put]); (try simp only [List.setIfInBounds_toArray]); (try simp only [List.set_cons_succ]); (try simp only [List.set_cons_zero])
    refine wpAnyH_take (i := 7) (v := ?_) rfl (by kernel_rfl) (by kernel_rfl) (by kernel_rfl) (fun _ _ _ h => h) (Or.inl ⟨by kernel_rfl, ?_⟩) hHeld ?_
    rotate_left
    · intro wz hSw; obtain ⟨hS1, hS2⟩ := hSw; obtain ⟨p0, p1, p2, p3, p4⟩ := hS1.c5; obtain ⟨a0, a1, a2⟩ := hS2.c3; clear hS1 hS2; go_simp; all_goals (try with_reducible rfl)
    (try simp only [List.getElem_toArray]); (try simp only [List.getElem_cons_succ]); (try simp only [List.getElem_cons_zero]); (try simp only [Act.put]); (try simp only [List.setIfInBounds_toArray]); (try simp only [List.set_cons_succ]); (try simp only [List.set_cons_zero])
    refine wpAnyH_ready (rs := [8]) (by kernel_rfl) (by simp) (AllReadyH.cons rfl (fun Kc hKc => ?_) AllReadyH.nil)
    go_simp
    refine (HR.out _).mono ?_
    rintro x w2 ⟨rfl, hb⟩
    go_wp2_with fail
    have k1 := K1.out.drew.below hb
    have k2 := K2.out.drew.below hb
    have k3 := K3.out.drew.below hb
    replace HB := hidU (HB.out.drew.trans (hb.mono HB.out.drew.size))
    refine hKc.out _ _ ⟨k3, k1⟩ (fun hHeld => ?_)
    clear hKc Kc hb K1 K2 K3
    (try simp only [List.getElem_toArray]); (try simp only [List.getElem_cons_succ]); (try simp only [List.getElem_cons_zero]); (try simp only [Act.put]); (try simp only [List.setIfInBounds_toArray]); (try simp only [List.set_cons_succ]); (try simp only [List.set_cons_zero])
    refine wpAnyH_take (i := 9) (v := ?_) rfl (by kernel_rfl) (by kernel_rfl) (by kernel_rfl) (fun _ _ _ h => h) (Or.inl ⟨by kernel_rfl, ?_⟩) hHeld ?_
    rotate_left
    · intro wz hSw; obtain ⟨hS1, hS2⟩ := hSw; obtain ⟨p0, p1, p2, p3, p4⟩ := hS1.c5; obtain ⟨a0, a1, a2⟩ := hS2.c3; clear hS1 hS2; go_simp; all_goals (try with_reducible rfl)
    (try simp only [List.getElem_toArray]); (try simp only [List.getElem_cons_succ]); (try simp only [List.getElem_cons_zero]); (try simp only [Act.put]); (try simp only [List.setIfInBounds_toArray]); (try simp only [List.set_cons_succ]); (try simp only [List.set_cons_zero])
    have hFZ := HFZ.out
    have hAZ := HAZ.out
    have K3 := hidU (k3.other7 hFZ (.int .i64 s0) (.int .i64 s1) (.int .i64 s2) (.int .i64 s3) (.int .i64 s4) (.int .i64 n) (.int .i64 d))
    have K1 := hidU (k1.other7 hAZ (.int .i64 s0) (.int .i64 s1) (.int .i64 s2) (.int .i64 s3) (.int .i64 s4) (.int .i64 n) (.int .i64 d))
    have KZ := hidU (k2.set7 (.int .i64 s0) (.int .i64 s1) (.int .i64 s2) (.int .i64 s3) (.int .i64 s4) (.int .i64 n) (.int .i64 d))
    obtain ⟨z0, z1, z2, z3, z4, z5, z6⟩ := k2.c7
    obtain ⟨f0, f1, f2, f3, f4, f5, f6⟩ := k2.f7
    clear k1 k2 k3 hFZ hAZ
    refine wpAnyH_ready (rs := [10]) (by kernel_rfl) (by simp) (AllReadyH.cons rfl (fun Kc hKc => ?_) AllReadyH.nil)
    go_simp
    refine hKc.out _ _ ⟨K3.out, K1.out⟩ (fun hHeld => ?_)
    clear hKc Kc z0 z1 z2 z3 z4 z5 z6 f0 f1 f2 f3 f4 f5 f6
    (try simp only [List.getElem_toArray]); (try simp only [List.getElem_cons_succ]); (try simp only [List.getElem_cons_zero]); (try simp only [Act.put]); (try simp only [List.setIfInBounds_toArray]); (try simp only [List.set_cons_succ]); (try simp only [List.set_cons_zero])
    refine wpAnyH_take (i := 11) (v := ?_) rfl (by kernel_rfl) (by kernel_rfl) (by kernel_rfl) (fun _ _ _ h => h) (Or.inl ⟨by kernel_rfl, ?_⟩) hHeld ?_
    rotate_left
    · intro wz hSw; obtain ⟨hS1, hS2⟩ := hSw; obtain ⟨p0, p1, p2, p3, p4⟩ := hS1.c5; obtain ⟨a0, a1, a2⟩ := hS2.c3; clear hS1 hS2; go_simp; all_goals (try with_reducible rfl)
    (try simp only [List.getElem_toArray]); (try simp only [List.getElem_cons_succ]); (try simp only [List.getElem_cons_zero]); (try simp only [Act.put]); (try simp only [List.setIfInBounds_toArray]); (try simp only [List.set_cons_succ]); (try simp only [List.set_cons_zero])
    refine wpAnyH_done (by kernel_rfl) ?_ _
    refine NoPanic.normal ?_
    go_wp2
    obtain ⟨y0, y1, y2, y3, y4, y5, y6⟩ := KZ.out.c7
    exact bodyPost_ret (v := .tuple #[.agg #[.int .i64 s0, .int .i64 s1, .int .i64 s2, .int .i64 s3, .int .i64 s4, .int .i64 n, .int .i64 d], .bool o]) (by simp [results, Tryz.results31, go_sem, y0, y1, y2, y3, y4, y5, y6]) rfl ⟨_, _, _, _, _, rfl, by have := HS.out; simpa using this, below_set7 HB.out hZw.out _ _ _ _ _ _ _⟩

set_option maxRecDepth 100000 in
set_option maxHeartbeats 2000000 in
theorem iIn_rd (n d : Int) (v : Value) (ys : List Int) (s : ByteArray) (w : World) (h : RdU w v ys) (hs : s.size ≤ 1048576) (ha : ∀ b ∈ s.data.toList, b.toNat < 128) :
    Calls Tryz.prog 11 #[.agg #[.int .i64 n, .int .i64 d, v], .string s] w fun e w' => e = .returned (.tuple #[.agg #[.int .i64 (inI (n, d) ys s.data.toList).1, .int .i64 (inI (n, d) ys s.data.toList).2.1], .bool (inI (n, d) ys s.data.toList).2.2]) ∧ Below w.heap.size w w' := by
  have HM := hidU (fun W (hW : Below w.heap.size w W) => measOf_rd n d v ys W (h.below hW))
  have HU := hidU (fun W => unitOf_any s W hs ha)
  obtain ⟨⟨r1, r2, r3⟩, hRQ⟩ : ∃ r, r = inI (n, d) ys s.data.toList := ⟨_, rfl⟩
  have HRQ := hidU hRQ
  rw [← hRQ]
  clear hRQ
  simp only
  unfold inI at HRQ
  obtain ⟨is, his⟩ : ∃ b, b = (dimB ys && okB n d) := ⟨_, rfl⟩
  have HIS : Hid (is = true → dimB ys = true) := by
    intro h2
    rw [his, Bool.and_eq_true] at h2
    exact h2.1
  rw [← his] at HM HRQ
  clear his
  obtain ⟨u, hu⟩ : ∃ u, u = (unitI s.data.toList).getD .zero := ⟨_, rfl⟩
  obtain ⟨uo, huo⟩ : ∃ u, u = (unitI s.data.toList).isSome := ⟨_, rfl⟩
  rw [← hu, ← huo] at HU
  have HAH := hidU (fun W => ahead_any u n d s W)
  obtain ⟨⟨q1, q2, q3⟩, hq⟩ : ∃ q, q = aheadQ (n, d) (zer s.data.toList) u := ⟨_, rfl⟩
  rw [← hq] at HAH
  simp only at HAH
  have HNO : Hid (is = false ∨ uo = false ∨ ys ≠ u.dims → r1 = 0 ∧ r2 = 0 ∧ r3 = false) := by
    intro h2
    have h3 := HRQ.out
    cases hf : unitI s.data.toList with
    | none => rw [hf] at h3; injection h3 with e1 e2; injection e2 with e2 e3; exact ⟨e1, e2, e3⟩
    | some f =>
      rw [hf] at h3 hu huo
      simp only [Option.getD, Option.isSome] at h3 hu huo
      subst hu
      rw [if_neg (by
        rintro ⟨k1, k2⟩
        rcases h2 with h2 | h2 | h2
        · rw [k1] at h2; cases h2
        · rw [huo] at h2; cases h2
        · exact h2 k2)] at h3
      injection h3 with e1 e2; injection e2 with e2 e3; exact ⟨e1, e2, e3⟩
  have HYES : Hid (is = true → uo = true → ys = u.dims → r1 = q1 ∧ r2 = q2 ∧ r3 = q3) := by
    intro h1 h2 h4
    have h3 := HRQ.out
    cases hf : unitI s.data.toList with
    | none => rw [huo, hf] at h2; cases h2
    | some f =>
      rw [hf] at h3 hu
      simp only [Option.getD] at h3 hu
      subst hu
      rw [if_pos ⟨h1, h4⟩, ← hq] at h3
      injection h3 with e1 e2; injection e2 with e2 e3; exact ⟨e1, e2, e3⟩
  clear hq HRQ hu huo hs ha
  obtain ⟨av, cv, rfl⟩ := h.shape
  obtain ⟨lv, hlv⟩ : ∃ k, k = ys.length := ⟨_, rfl⟩
  rw [← hlv] at HM ⊢
  clear hlv h
  obtain ⟨un, ud, x0, x1, x2, x3, x4⟩ := u
  unfold uVal at HU HAH
  simp only [UV.dims] at HU HAH HNO HYES
  go_enter Tryz.func11, Tryz.ntmps11
  go_wp2_with fail
  refine (HM.out _ (((n0_any _ _).alloc (by simp) _))).mono ?_
  rintro e w1 ⟨s0, s1, s2, s3, s4, rfl, hd, hb⟩
  have HD := hidU hd
  obtain ⟨V, hV⟩ : ∃ Z, Z = w.heap.size := ⟨_, rfl⟩
  have KR : Hid (IsB w1 (V + 1) #[.int .i64 0, .int .i64 0] 25) := by show IsB _ _ _ _; rw [hV]; exact (IsB.new2c w _ _ _).below hb
  have HB : Hid (Below w.heap.size w w1) := ((n0_any _ _).alloc (by simp) _).trans (hb.mono (by simp <;> omega))
  have HRw : Hid (w.heap.size ≤ V + 1) := by show _ ≤ _; omega
  rw [← hV]
  clear hb hV hd
  obtain ⟨R, hR⟩ : ∃ R, R = V + 1 := ⟨_, rfl⟩
  rw [← hR] at KR HRw ⊢
  clear hR
  go_upto_region 2 with fail
  obtain ⟨X, hX⟩ : ∃ Y, Y = w1.alloc (.cells #[.int .i64 s0, .int .i64 s1, .int .i64 s2, .int .i64 s3, .int .i64 s4, .int .i64 n, .int .i64 d] 60) := ⟨_, rfl⟩
  obtain ⟨M, hM⟩ : ∃ G, G = w1.heap.size := ⟨_, rfl⟩
  have hb : Below w1.heap.size w1 X := by rw [hX]; exact n0_any _ _
  have KM : Hid (IsB X M #[.int .i64 s0, .int .i64 s1, .int .i64 s2, .int .i64 s3, .int .i64 s4, .int .i64 n, .int .i64 d] 60) := by show IsB _ _ _ _; rw [hX, hM]; exact IsB.new _ _ _
  replace KR := hidU (KR.out.below hb)
  replace HB := hidU (HB.out.trans (hb.mono HB.out.size))
  rw [← hX, ← hM]
  clear hX hb hM
  go_wp2_with fail
  refine (HU.out _).mono ?_
  rintro e w2 ⟨rfl, hb⟩
  replace KR := hidU (KR.out.below hb)
  replace KM := hidU (KM.out.below hb)
  replace HB := hidU (HB.out.trans (hb.mono HB.out.size))
  clear hb
  go_upto_region 3 with fail
  obtain ⟨Y, hY⟩ : ∃ Y, Y = w2.alloc (.cells #[.int .i64 un, .int .i64 ud, .int .i64 x0, .int .i64 x1, .int .i64 x2, .int .i64 x3, .int .i64 x4] 55) := ⟨_, rfl⟩
  obtain ⟨G, hG⟩ : ∃ G, G = w2.heap.size := ⟨_, rfl⟩
  have hb : Below w2.heap.size w2 Y := by rw [hY]; exact n0_any _ _
  have KG : Hid (IsB Y G #[.int .i64 un, .int .i64 ud, .int .i64 x0, .int .i64 x1, .int .i64 x2, .int .i64 x3, .int .i64 x4] 55) := by show IsB _ _ _ _; rw [hY, hG]; exact IsB.new _ _ _
  replace KR := hidU (KR.out.below hb)
  replace KM := hidU (KM.out.below hb)
  replace HB := hidU (HB.out.trans (hb.mono HB.out.size))
  rw [← hY, ← hG]
  clear hY hb hG
  obtain ⟨z0, z1⟩ := KR.out.c2
  obtain ⟨f0, f1⟩ := KR.out.f2
  cases is
  · obtain ⟨rfl, rfl, rfl⟩ := HNO.out (.inl rfl)
    go_wp2
    obtain ⟨y0, y1⟩ := (KR.out.set2 (.int .i64 0) (.int .i64 0)).c2
    exact bodyPost_ret (v := .tuple #[.agg #[.int .i64 0, .int .i64 0], .bool false]) (by simp [results, Tryz.results11, go_sem, y0, y1]) rfl ⟨rfl, below_set2 HB.out HRw.out _ _⟩
  cases uo
  · obtain ⟨rfl, rfl, rfl⟩ := HNO.out (.inr (.inl rfl))
    go_wp2
    obtain ⟨y0, y1⟩ := (KR.out.set2 (.int .i64 0) (.int .i64 0)).c2
    exact bodyPost_ret (v := .tuple #[.agg #[.int .i64 0, .int .i64 0], .bool false]) (by simp [results, Tryz.results11, go_sem, y0, y1]) rfl ⟨rfl, below_set2 HB.out HRw.out _ _⟩
  have HY : Hid (ys = [s0, s1, s2, s3, s4]) := HD.out (HIS.out rfl)
  have E := eq5 s0 s1 s2 s3 s4 x0 x1 x2 x3 x4 Y
  obtain ⟨eb, heb⟩ : ∃ b, b = (s0 == x0 && (s1 == x1 && (s2 == x2 && (s3 == x3 && s4 == x4)))) := ⟨_, rfl⟩
  rw [← heb] at E
  have HE : Hid (eb = true ↔ ys = [x0, x1, x2, x3, x4]) := by
    show _ ↔ _
    rw [heb, HY.out]
    simp
  obtain ⟨a0, a1, a2, a3, a4, a5, a6⟩ := KG.out.c7
  obtain ⟨m0, m1, m2, m3, m4, m5, m6⟩ := KM.out.c7
  clear heb
  cases eb
  · obtain ⟨rfl, rfl, rfl⟩ := HNO.out (.inr (.inr (fun h => by have := HE.out.2 h; cases this)))
    go_wp2
    obtain ⟨y0, y1⟩ := (KR.out.set2 (.int .i64 0) (.int .i64 0)).c2
    exact bodyPost_ret (v := .tuple #[.agg #[.int .i64 0, .int .i64 0], .bool false]) (by simp [results, Tryz.results11, go_sem, y0, y1]) rfl ⟨rfl, below_set2 HB.out HRw.out _ _⟩
  obtain ⟨rfl, rfl, rfl⟩ := HYES.out rfl rfl (HE.out.1 rfl)
  clear z0 z1 f0 f1
  go_wp2_with fail
  refine (HAH.out _).mono ?_
  rintro e w3 ⟨rfl, hb⟩
  replace KR := hidU (KR.out.below hb)
  replace HB := hidU (HB.out.trans (hb.mono HB.out.size))
  clear hb a0 a1 a2 a3 a4 a5 a6 m0 m1 m2 m3 m4 m5 m6 E KG KM
  obtain ⟨z0, z1⟩ := KR.out.c2
  obtain ⟨f0, f1⟩ := KR.out.f2
  go_wp2
  obtain ⟨y0, y1⟩ := (KR.out.set2 (.int .i64 r1) (.int .i64 r2)).c2
  exact bodyPost_ret (v := .tuple #[.agg #[.int .i64 r1, .int .i64 r2], .bool r3]) (by simp [results, Tryz.results11, go_sem, y0, y1]) rfl ⟨rfl, below_set2 HB.out HRw.out _ _⟩

theorem plain_bad {v : Int × Int} (h : okB v.1 v.2 = false) (z : Int × Int) (f : UV) : (plainQ v z f).2.2 = false := by
  have h1 : addQ v z = (0, 0, false) := by unfold addQ; rw [two_no1 h]; rfl
  unfold plainQ
  rw [h1]
  show (mulQ (0, 0) (f.n, f.d)).2.2 = false
  unfold mulQ
  simp only [two_zero]
  rfl
/-- what the model has reckoned of a factor fits what the program has -/
theorem fac_cor {v : Int × Int} (h : okB v.1 v.2 = true) (l : List UInt8) (f : UV) : Cor (facM v (f.n, f.d) (l == [67])) (plainQ v (zer l) f) := by
  have h0 : Cor (v, false) (v.1, v.2, true) := .inl ⟨rfl, rfl⟩
  unfold facM plainQ
  by_cases hl : l = [67]
  · have e : (l == [67]) = true := by simp [hl]
    rw [e, if_pos rfl, show zer l = (5463, 20) by unfold zer; rw [if_pos hl]]
    exact (h0.add (5463, 20)).mul (f.n, f.d)
  · have e : (l == [67]) = false := by simp [hl]
    rw [e, show zer l = (0, 1) by unfold zer; rw [if_neg hl], add_nought h]
    exact h0.mul (f.n, f.d)
theorem meas_same (v : Int × Int) (l : List UInt8) : measM v (unitT l) (l == [67]) = measI v l := by
  unfold measM measI
  cases hu : unitI l with
  | none => rw [unitT_none hu]; rfl
  | some f =>
    rw [unitT_some hu]
    simp only
    cases hv : okB v.1 v.2
    · rw [if_neg (fun h => by cases h.2), plain_bad hv]; rfl
    · rw [if_pos (by simp)]
      rcases fac_cor hv l f with ⟨h1, h2⟩ | ⟨h1, h2, h3⟩
      · rw [h2, h1]; rfl
      · rw [h3, h1]; rfl
theorem ahe_cor {v : Int × Int} (l : List UInt8) (f : UV) : Cor (aheM v (f.n, f.d) (l == [67])) (aheadQ v (zer l) f) := by
  have h0 : Cor (v, false) (v.1, v.2, true) := .inl ⟨rfl, rfl⟩
  have h1 : Cor (divC (v, false) (f.n, f.d)) (divQ v (f.n, f.d)) := h0.div (f.n, f.d)
  unfold aheM aheadQ
  by_cases hl : l = [67]
  · have e : (l == [67]) = true := by simp [hl]
    rw [e, if_pos rfl, show zer l = (5463, 20) by unfold zer; rw [if_pos hl]]
    exact h1.sub (5463, 20)
  · have e : (l == [67]) = false := by simp [hl]
    rw [e, show zer l = (0, 1) by unfold zer; rw [if_neg hl]]
    exact h1.sub0 (fun hk => op_ok (t := two v.1 v.2 f.n f.d) hk)
theorem in_same (v : Int × Int) (ys : List Int) (l : List UInt8) : inM v ys (unitT l) (l == [67]) = inI v ys l := by
  unfold inM inI
  cases hu : unitI l with
  | none => rw [unitT_none hu]; rfl
  | some f =>
    rw [unitT_some hu]
    simp only
    by_cases hc : (dimB ys && okB v.1 v.2) = true ∧ ys = f.dims
    · have hk := hc.1
      rw [Bool.and_eq_true] at hk
      rw [if_pos hc, if_pos ⟨trivial, by unfold quaB; rw [hk.1, hk.2]; rfl, hc.2.symm⟩]
      exact (ahe_cor l f).ans
    · rw [if_neg hc, if_neg]
      rintro ⟨-, h2, h3⟩
      refine hc ⟨?_, h3.symm⟩
      unfold quaB at h2
      rw [Bool.and_comm]
      exact h2
theorem sMeasL {k : Nat} (n d : Int) (s : ByteArray) (w : World) (h : DT k s) (hk : k ≤ 1048576) :
    Calls Tryz.prog 12 #[.agg #[.int .i64 n, .int .i64 d], .string s] w fun e w' => MeasP w (measI (n, d) s.data.toList) e w' := by
  have hm := sMeas_raw n d s w (h.small hk) (s.data.toList == [67]) (by rw [ByteArray.toList_eq])
  rw [unit_same h.okT, meas_same] at hm
  exact hm
theorem sInL {k : Nat} (n d : Int) (v : Value) (ys : List Int) (s : ByteArray) (w : World) (hd : DimIn w v ys) (h : DT k s) (hk : k ≤ 1048576) :
    Calls Tryz.prog 18 #[.agg #[.int .i64 n, .int .i64 d, v], .string s] w fun e w' => e = .returned (.tuple #[.agg #[.int .i64 (inI (n, d) ys s.data.toList).1, .int .i64 (inI (n, d) ys s.data.toList).2.1], .bool (inI (n, d) ys s.data.toList).2.2]) ∧ Below w.heap.size w w' := by
  have hm := sIn_raw n d v ys s w hd (h.small hk) (fun q hq h2 => by rw [unit_same h.okT] at hq; rw [hq] at h2 ⊢; exact unitT_len h2) (s.data.toList == [67]) (by rw [ByteArray.toList_eq])
  rw [unit_same h.okT, in_same] at hm
  exact hm
theorem measI_dims {v : Int × Int} {l : List UInt8} (h : (measI v l).2.2.2 = true) : (measI v l).2.2.1 = (unitT l).2.2.1 := by
  unfold measI at h ⊢
  cases hu : unitI l with
  | none => rw [hu] at h; cases h
  | some f =>
    rw [hu] at h
    rw [unitT_some hu]
    simp only at h ⊢
    cases ho : (plainQ v (zer l) f).2.2
    · rw [ho] at h; cases h
    · rfl
/-- what is measured is in its unit what it was -/
theorem in_meas {v : Int × Int} {l : List UInt8} (h : (measI v l).2.2.2 = true) (h2 : (inI ((measI v l).1, (measI v l).2.1) (measI v l).2.2.1 l).2.2 = true) : (inI ((measI v l).1, (measI v l).2.1) (measI v l).2.2.1 l).1 = v.1 ∧ (inI ((measI v l).1, (measI v l).2.1) (measI v l).2.2.1 l).2.1 = v.2 := by
  unfold measI at h h2 ⊢
  cases hu : unitI l with
  | none => rw [hu] at h; cases h
  | some f =>
    rw [hu] at h h2
    simp only at h h2 ⊢
    cases ho : (plainQ v (zer l) f).2.2
    · rw [ho] at h; cases h
    simp only [ho, toldQ_yes] at h2 ⊢
    unfold inI at h2 ⊢
    rw [hu] at h2 ⊢
    simp only at h2 ⊢
    split at h2
    · rename_i hc
      rw [if_pos hc]
      have h3 : (convQ v (zer l) f f (zer l)).2.2 = true := h2
      have hf : uq f ≠ 0 := by
        obtain ⟨-, -, -, -, -, -, -, a8⟩ := conv_qf h3
        obtain ⟨-, hF, -, -⟩ := mul_q a8
        intro h0
        exact unitI_nz hu ((dzQ (okQ_ne hF)).1 h0)
      have h4 := conv_self h3 hf
      have h5 : aheadQ ((plainQ v (zer l) f).1, (plainQ v (zer l) f).2.1) (zer l) f = (v.1, v.2, true) := h4
      rw [h5]
      exact ⟨rfl, rfl⟩
    · cases h2
end Go.Proofs.YtnhefbhiemdhoaaGreat

/- The draws of quantities. -/
namespace Go.Proofs.YtnhefbhiemdhoaaGreat
open Go.RowKit Go.Proofs.YtnhefbhiemdhoaaGreat.RM

theorem IsB.ex {W W' : World} {B cb : Nat} {vs : Array Value} {t : TypeId} (h : IsB W B vs t) (hx : Ex cb W W') (hne : B ≠ cb) : IsB W' B vs t := (hx.2.2.2.2 B h.lt hne).trans h
theorem Cur.set1 {W : World} {cb R : Nat} {a : Option Addr} {len cap : Nat} {zs : List Int} (h : Cur W cb a len cap zs) (hne : R ≠ cb) (hr : ∀ b off, a = some ⟨b, off, none⟩ → 0 < zs.length → b ≠ R) (k : Nat) (v : Value) : Cur (W.setCell ⟨R, k, none⟩ v) cb a len cap zs :=
  h.ex ((Ex.refl R W).setCell (.inl rfl) v) hne hr
theorem rowNe {w : World} {a : Option Addr} {n R : Nat} (h : ∀ b off, a = some ⟨b, off, none⟩ → 0 < n → b < w.heap.size) (hR : w.heap.size ≤ R) : ∀ b off, a = some ⟨b, off, none⟩ → 0 < n → b ≠ R := fun b off e hz => by have := h b off e hz; omega
/-- a list in memory of its own from B on, or not of five numbers -/
def DimZ (B : Nat) (w : World) (v : Value) (ys : List Int) : Prop := (∃ base et, B ≤ base ∧ w.ownsRow base et 1 v ys.length (ys.map (Value.int .i64))) ∨ (ys.length ≠ 5 ∧ ∃ a c, v = .slice a ys.length c)
theorem DimZ.of {B : Nat} {w : World} {v : Value} {ys : List Int} (h : DimAt B w v ys) : DimZ B w v ys := by
  rcases h with ⟨base, hb, h⟩ | h
  · exact .inl ⟨base, _, hb, h⟩
  · exact .inr h
theorem DimZ.to {B : Nat} {w : World} {v : Value} {ys : List Int} (h : DimZ B w v ys) : DimIn w v ys := by
  rcases h with ⟨base, et, _, h⟩ | h
  · exact .inl ⟨base, et, h⟩
  · exact .inr h
theorem DimZ.ex {B cb : Nat} {w w' : World} {v : Value} {ys : List Int} (h : DimZ B w v ys) (hx : Ex cb w w') (hc : cb < B) : DimZ B w' v ys := by
  rcases h with ⟨base, et, hb, h⟩ | h
  · exact .inl ⟨base, et, hb, ownExI h hx (by omega)⟩
  · exact .inr h
theorem DimZ.below {B : Nat} {w w' : World} {v : Value} {ys : List Int} (h : DimZ B w v ys) (hb : Below w.heap.size w w') : DimZ B w' v ys := by
  rcases h with ⟨base, et, h0, h⟩ | h
  · exact .inl ⟨base, et, h0, own_below h hb⟩
  · exact .inr h
theorem DimZ.mono {B B' : Nat} {w : World} {v : Value} {ys : List Int} (h : DimZ B w v ys) (hb : B' ≤ B) : DimZ B' w v ys := by
  rcases h with ⟨base, et, h0, h⟩ | h
  · exact .inl ⟨base, et, Nat.le_trans hb h0, h⟩
  · exact .inr h
theorem ownLow {W : World} {base b : Nat} {e : TypeId} {v : Value} {n : Nat} {xs : List Value} (h : W.ownsRow base e 1 v n xs) (hb : b < base) : v.ownBlock = none ∨ v.ownBlock ≠ some b := by
  rcases h.2 with ⟨rfl, _⟩ | ⟨g, c, cur, rfl, hg0, _⟩
  · exact .inl rfl
  · refine .inr fun e => ?_
    have e2 : g = b := by simpa [Value.ownBlock] using e
    omega
theorem DimZ.set {B b : Nat} {w : World} {v : Value} {ys : List Int} (h : DimZ B w v ys) (hb : b < B) (k : Nat) (x : Value) : DimZ B (w.setCell ⟨b, k, none⟩ x) v ys := by
  rcases h with ⟨base, et, h0, h⟩ | h
  · exact .inl ⟨base, et, h0, ownSet h (ownLow h (by omega)) k x⟩
  · exact .inr h
theorem DimZ.shape {B : Nat} {w : World} {v : Value} {ys : List Int} (h : DimZ B w v ys) : ∃ a c, v = .slice a ys.length c := h.to.shape
theorem ownFive {W : World} {G : Nat} {x0 x1 x2 x3 x4 : Int} (h : IsB W G #[.int .i64 x0, .int .i64 x1, .int .i64 x2, .int .i64 x3, .int .i64 x4] 2) : W.ownsRow G 2 1 (.slice (some ⟨G, 0, none⟩) 5 5) ([x0, x1, x2, x3, x4] : List Int).length (([x0, x1, x2, x3, x4] : List Int).map (Value.int .i64)) :=
  ⟨rfl, .inr ⟨G, 5, _, rfl, Nat.le_refl _, h, Nat.le_refl _, by unfold maxLen; omega, rfl, rfl⟩⟩
theorem measI_len (v : Int × Int) (l : List UInt8) : (measI v l).2.2.1.length ≤ 5 := by
  unfold measI
  cases unitI l with
  | none => exact Nat.zero_le _
  | some f => exact toldQ_len _ _ _ _ (fun _ => Nat.le_refl _)

set_option maxRecDepth 100000 in
set_option maxHeartbeats 2000000 in
theorem draw6_any (cb : Nat) (a : Option Addr) (len cap : Nat) (zs : List Int) (w : World) (hc : Cur w cb a len cap zs) :
    Calls Tryz.prog 30 #[.pointer (some ⟨cb, 0, none⟩)] w fun e w' => ∃ (n d : Int) (v : Value) (ys : List Int), e = .returned (.agg #[.int .i64 n, .int .i64 d, v]) ∧ ys.length ≤ 5 ∧ DimZ w.heap.size w' v ys ∧ Cur w' cb a len cap zs ∧ Ex cb w w' := by
  have HROW := hidU hc.2.1.lt
  have HC := hidU hc
  have HE := hidU (Ex.refl cb w)
  clear hc
  go_enter Tryz.func30, Tryz.ntmps30
  have hb := b0_any w (.cells #[.int .i64 0, .int .i64 0, .slice none 0 0] 30)
  go_upto_region 1 with fail
  obtain ⟨W0, hY⟩ : ∃ Y, Y = w.alloc (.cells #[.int .i64 0, .int .i64 0, .slice none 0 0] 30) := ⟨_, rfl⟩
  obtain ⟨R, hF⟩ : ∃ F, F = w.heap.size := ⟨_, rfl⟩
  have KR : Hid (IsB W0 R #[.int .i64 0, .int .i64 0, .slice none 0 0] 30) := by show IsB _ _ _ _; rw [hY, hF]; exact IsB.new _ _ _
  have HCW : Hid (cb < R) := by show _ < _; have := HC.out.lt; rw [hF]; omega
  have NEKR : Hid (R ≠ cb) := by show _ ≠ _; have := HC.out.lt; rw [hF]; omega
  have GEKR : Hid (w.heap.size ≤ R) := by show _ ≤ _; rw [hF]; exact HE.out.size
  rw [← hY] at hb
  rw [← hY, ← hF]
  clear hY hF
  replace HC := hidU (HC.out.below hb)
  replace HE := hidU (HE.out.trans (Ex.of_below hb))
  clear hb
  go_wp2_with fail
  refine (drawAny_any cb a len cap zs _ HC.out).mono ?_
  rintro e v0 ⟨n, d, rfl, hC, hx⟩
  replace KR := hidU (KR.out.ex hx NEKR.out)
  replace HC := hidU hC
  replace HE := hidU (HE.out.trans hx)
  clear hx hC
  go_wp2_with fail
  refine (from_any cb (-1) 2 a len cap zs _ HC.out (by omega) (by omega) (by omega)).mono ?_
  rintro e v1 ⟨x, rfl, -, -, hC, hx⟩
  replace KR := hidU (KR.out.ex hx NEKR.out)
  replace HC := hidU hC
  replace HE := hidU (HE.out.trans hx)
  clear hx hC
  go_upto_region 2 with fail
  have hb := b0_any v1 (.cells #[.int .i64 1, .int .i64 0, .int .i64 x, .int .i64 0, .int .i64 0] 2)
  obtain ⟨Y0, hY⟩ : ∃ Y, Y = v1.alloc (.cells #[.int .i64 1, .int .i64 0, .int .i64 x, .int .i64 0, .int .i64 0] 2) := ⟨_, rfl⟩
  obtain ⟨G, hF⟩ : ∃ F, F = v1.heap.size := ⟨_, rfl⟩
  have KG : Hid (IsB Y0 G #[.int .i64 1, .int .i64 0, .int .i64 x, .int .i64 0, .int .i64 0] 2) := by show IsB _ _ _ _; rw [hY, hF]; exact IsB.new _ _ _
  have NEKG : Hid (G ≠ cb) := by show _ ≠ _; have := HC.out.lt; rw [hF]; omega
  have GEKG : Hid (w.heap.size ≤ G) := by show _ ≤ _; rw [hF]; exact HE.out.size
  have APKRKG : Hid (R ≠ G) := by show _ ≠ _; have := KR.out.lt; rw [hF]; omega
  have HSZ : Hid (Y0.heap.size = G + 1) := by show _ = _; rw [hY, hF]; simp
  have HRG : Hid (R < G) := by show _ < _; rw [hF]; exact KR.out.lt
  rw [← hY] at hb
  rw [← hY, ← hF]
  clear hY hF
  replace KR := hidU (KR.out.below hb)
  replace HC := hidU (HC.out.below hb)
  replace HE := hidU (HE.out.trans (Ex.of_below hb))
  clear hb
  have HD : Hid (DimZ (R + 1) Y0 (.slice (some ⟨G, 0, none⟩) 5 5) [1, 0, x, 0, 0]) := .inl ⟨G, 2, (by have := APKRKG.out; have := KR.out.lt; have := HRG.out; omega), ownFive KG.out⟩
  have HCR : Hid (cb < R + 1) := by show _ < _; have := HCW.out; omega
  clear KG NEKG GEKG APKRKG
  have hb := b0_any Y0 (.cells #[.int .i64 n, .int .i64 d, .slice (some ⟨G, 0, none⟩) 5 5] 30)
  obtain ⟨Y1, hY⟩ : ∃ Y, Y = Y0.alloc (.cells #[.int .i64 n, .int .i64 d, .slice (some ⟨G, 0, none⟩) 5 5] 30) := ⟨_, rfl⟩
  obtain ⟨S, hF⟩ : ∃ F, F = Y0.heap.size := ⟨_, rfl⟩
  have KS : Hid (IsB Y1 S #[.int .i64 n, .int .i64 d, .slice (some ⟨G, 0, none⟩) 5 5] 30) := by show IsB _ _ _ _; rw [hY, hF]; exact IsB.new _ _ _
  have NEKS : Hid (S ≠ cb) := by show _ ≠ _; have := HC.out.lt; rw [hF]; omega
  have GEKS : Hid (w.heap.size ≤ S) := by show _ ≤ _; rw [hF]; exact HE.out.size
  have APKRKS : Hid (R ≠ S) := by show _ ≠ _; have := KR.out.lt; rw [hF]; omega
  rw [← hY] at hb
  rw [← hY, ← HSZ.out, ← hF]
  clear hY hF
  replace KR := hidU (KR.out.below hb)
  replace HD := hidU (HD.out.below hb)
  replace HC := hidU (HC.out.below hb)
  replace HE := hidU (HE.out.trans (Ex.of_below hb))
  clear hb
  go_wp2_with fail
  refine (once_any cb 3 a len cap zs _ HC.out (by omega)).mono ?_
  rintro e v2 ⟨b, rfl, hC, hx⟩
  replace KR := hidU (KR.out.ex hx NEKR.out)
  replace KS := hidU (KS.out.ex hx NEKS.out)
  replace HD := hidU (HD.out.ex hx HCR.out)
  replace HC := hidU hC
  replace HE := hidU (HE.out.trans hx)
  clear hx hC
  cases b
  · skip
    obtain ⟨z0, z1, z2⟩ := KR.out.c3
    obtain ⟨f0, f1, f2⟩ := KR.out.f3
    obtain ⟨y0, y1, y2⟩ := KS.out.c3
    go_wp2
    obtain ⟨q0, q1, q2⟩ := (KR.out.set3 (.int .i64 n) (.int .i64 d) (.slice (some ⟨G, 0, none⟩) 5 5)).c3
    have hD := (((HD.out.set (b := R) (Nat.lt_succ_self _) 0 (.int .i64 n)).set (b := R) (Nat.lt_succ_self _) 1 (.int .i64 d)).set (b := R) (Nat.lt_succ_self _) 2 (.slice (some ⟨G, 0, none⟩) 5 5)).mono (show w.heap.size ≤ R + 1 by have := GEKR.out; omega)
    exact bodyPost_ret (v := .agg #[.int .i64 n, .int .i64 d, .slice (some ⟨G, 0, none⟩) 5 5]) (by simp [results, Tryz.results30, go_sem, q0, q1, q2]) rfl ⟨_, _, _, _, rfl, Nat.le_refl _, hD, ((HC.out.set1 NEKR.out (rowNe HROW.out GEKR.out) 0 _).set1 NEKR.out (rowNe HROW.out GEKR.out) 1 _).set1 NEKR.out (rowNe HROW.out GEKR.out) 2 _, ((HE.out.setCell (.inr GEKR.out) _).setCell (.inr GEKR.out) _).setCell (.inr GEKR.out) _⟩
  clear HD
  obtain ⟨s0, s1, s2⟩ := KS.out.c3
  obtain ⟨t0, t1, t2⟩ := KS.out.f3
  go_wp2_with fail
  refine (l4Draw_any cb a len cap zs _ HC.out).mono ?_
  rintro e v3 ⟨v, ys, rfl, hl, hd, hC, hx⟩
  have HD0 := hidU (DimZ.of hd)
  have HRV : Hid (R + 1 ≤ v2.heap.size ∧ S < v2.heap.size) := ⟨KR.out.lt, KS.out.lt⟩
  have HL := hidU hl
  clear s0 s1 s2 t0 t1 t2 hd hl
  replace KR := hidU (KR.out.ex hx NEKR.out)
  replace KS := hidU (KS.out.ex hx NEKS.out)
  replace HC := hidU hC
  replace HE := hidU (HE.out.trans hx)
  clear hx hC
  obtain ⟨av, cv, hav⟩ := HD0.out.shape
  obtain ⟨lv, hlv⟩ : ∃ k, k = ys.length := ⟨_, rfl⟩
  rw [← hlv] at hav
  subst hav
  clear hlv
  have HD := hidU ((HD0.out.set (b := S) HRV.out.2 2 (.slice av lv cv)).mono HRV.out.1)
  obtain ⟨s0, s1, s2⟩ := KS.out.c3
  obtain ⟨t0, t1, t2⟩ := KS.out.f3
  go_upto_region 4 with fail
  replace KR := hidU (KR.out.other APKRKS.out 2 (.slice av lv cv))
  replace HC := hidU (HC.out.set1 NEKS.out (rowNe HROW.out GEKS.out) 2 (.slice av lv cv))
  replace HE := hidU (HE.out.setCell (.inr GEKS.out) (b := S) (o := 2) (.slice av lv cv))
  replace KS := hidU (KS.out.set 2 (.slice av lv cv))
  replace KS : Hid (IsB (v3.setCell ⟨S, 2, none⟩ (.slice av lv cv)) S #[.int .i64 n, .int .i64 d, .slice av lv cv] 30) := KS.out
  obtain ⟨v4, hv4⟩ : ∃ Y, Y = v3.setCell ⟨S, 2, none⟩ (.slice av lv cv) := ⟨_, rfl⟩
  rw [← hv4] at KS KR HC HE HD ⊢
  clear hv4 s0 s1 s2 t0 t1 t2 HD0
  obtain ⟨z0, z1, z2⟩ := KR.out.c3
  obtain ⟨f0, f1, f2⟩ := KR.out.f3
  obtain ⟨y0, y1, y2⟩ := KS.out.c3
  go_wp2
  obtain ⟨q0, q1, q2⟩ := (KR.out.set3 (.int .i64 n) (.int .i64 d) (.slice av lv cv)).c3
  have hD := (((HD.out.set (b := R) (Nat.lt_succ_self _) 0 (.int .i64 n)).set (b := R) (Nat.lt_succ_self _) 1 (.int .i64 d)).set (b := R) (Nat.lt_succ_self _) 2 (.slice av lv cv)).mono (show w.heap.size ≤ R + 1 by have := GEKR.out; omega)
  exact bodyPost_ret (v := .agg #[.int .i64 n, .int .i64 d, .slice av lv cv]) (by simp [results, Tryz.results30, go_sem, q0, q1, q2]) rfl ⟨_, _, _, ys, rfl, HL.out, hD, ((HC.out.set1 NEKR.out (rowNe HROW.out GEKR.out) 0 _).set1 NEKR.out (rowNe HROW.out GEKR.out) 1 _).set1 NEKR.out (rowNe HROW.out GEKR.out) 2 _, ((HE.out.setCell (.inr GEKR.out) _).setCell (.inr GEKR.out) _).setCell (.inr GEKR.out) _⟩

set_option maxRecDepth 100000 in
set_option maxHeartbeats 2000000 in
theorem dPlus_any (a : Option Addr) (len cap : Nat) (zs : List Int) (w : World) (hr : IsRow .u8 w a len cap zs) :
    Calls Tryz.prog 7 #[.slice a len cap] w fun e w' => ∃ (n d m c : Int) (v u : Value) (ys zs' : List Int), e = .returned (.tuple #[.agg #[.int .i64 n, .int .i64 d, v], .agg #[.int .i64 m, .int .i64 c, u]]) ∧ ys.length ≤ 5 ∧ zs'.length ≤ 5 ∧ DimIn w' v ys ∧ DimIn w' u zs' ∧ Below w.heap.size w w' := by
  go_enter Tryz.func7, Tryz.ntmps7
  go_upto_region 1 with fail
  obtain ⟨W0, hW⟩ : ∃ Y, Y = (w.alloc (.cells #[.int .i64 0, .int .i64 0, .slice none 0 0] 30)).alloc (.cells #[.int .i64 0, .int .i64 0, .slice none 0 0] 30) := ⟨_, rfl⟩
  obtain ⟨P, hP⟩ : ∃ P, P = w.heap.size := ⟨_, rfl⟩
  have KR : Hid (IsB W0 P #[.int .i64 0, .int .i64 0, .slice none 0 0] 30) := by show IsB _ _ _ _; rw [hW, hP]; exact (IsB.new w _ _).below (b0_any _ _)
  have KS : Hid (IsB W0 (P + 1) #[.int .i64 0, .int .i64 0, .slice none 0 0] 30) := by show IsB _ _ _ _; rw [hW, hP]; exact IsB.new2c w _ _ _
  have HB : Hid (Below w.heap.size w W0) := by show Below _ _ _; rw [hW]; exact (b0_any w _).alloc (by simp) _
  have HR := hidU (hr.below HB.out)
  have GEKR : Hid (w.heap.size ≤ P) := by show _ ≤ _; omega
  have hPs : P + 1 < W0.heap.size := KS.out.lt
  rw [← hW, ← hP]
  clear hW hr hP
  obtain ⟨Q, hQ⟩ : ∃ Q, Q = P + 1 := ⟨_, rfl⟩
  rw [← hQ] at KS ⊢
  have GEKS : Hid (w.heap.size ≤ Q) := by show _ ≤ _; have := GEKR.out; omega
  have APKS : Hid (P ≠ Q) := by show _ ≠ _; omega
  go_wp2_with fail
  refine (new_any a len cap zs _ HR.out).mono ?_
  rintro e v0 ⟨rfl, hC, hb, -⟩
  obtain ⟨cb, hcb⟩ : ∃ cb, cb = W0.heap.size := ⟨_, rfl⟩
  rw [← hcb] at hC ⊢
  have HCB : Hid (w.heap.size ≤ cb) := by show _ ≤ _; rw [hcb]; exact HB.out.size
  have NEKR : Hid (P ≠ cb) := by show _ ≠ _; omega
  have LTKR : Hid (P < cb) := by show _ < _; omega
  have NEKS : Hid (Q ≠ cb) := by show _ ≠ _; omega
  have LTKS : Hid (Q < cb) := by show _ < _; omega
  have HC := hidU hC
  replace KR := hidU (KR.out.below hb)
  replace KS := hidU (KS.out.below hb)
  replace HB := hidU (HB.out.trans (hb.mono HB.out.size))
  clear hC hb HR hPs hcb hQ
  go_wp2_with fail
  refine (draw6_any cb a len cap zs _ HC.out).mono ?_
  rintro e v1 ⟨n, d, v, ys, rfl, hl, hd, hC, hx⟩
  have HL := hidU hl
  have HD : Hid (DimZ v0.heap.size v1 v ys) := hd
  have HCV : Hid (cb < v0.heap.size) := HC.out.lt
  clear hl hd
  replace KR := hidU (KR.out.ex hx NEKR.out)
  replace KS := hidU (KS.out.ex hx NEKS.out)
  replace HC := hidU hC
  replace HB := hidU (Ex.below HB.out hx HCB.out)
  clear hx hC
  obtain ⟨av, cv, hav⟩ := HD.out.shape
  obtain ⟨lv, hlv⟩ : ∃ k, k = ys.length := ⟨_, rfl⟩
  rw [← hlv] at hav
  subst hav
  clear hlv
  have hb := b0_any v1 (.cells #[.int .i64 n, .int .i64 d, .slice av lv cv] 30)
  go_upto_region 3 with fail
  obtain ⟨Y1, hY⟩ : ∃ Y, Y = v1.alloc (.cells #[.int .i64 n, .int .i64 d, .slice av lv cv] 30) := ⟨_, rfl⟩
  obtain ⟨A, hF⟩ : ∃ F, F = v1.heap.size := ⟨_, rfl⟩
  have KA : Hid (IsB Y1 A #[.int .i64 n, .int .i64 d, .slice av lv cv] 30) := by show IsB _ _ _ _; rw [hY, hF]; exact IsB.new _ _ _
  have NEKA : Hid (A ≠ cb) := by show _ ≠ _; have := HC.out.lt; rw [hF]; omega
  have GEKA : Hid (w.heap.size ≤ A) := by show _ ≤ _; rw [hF]; exact HB.out.size
  have APKRKA : Hid (P ≠ A) := by show _ ≠ _; have := KR.out.lt; rw [hF]; omega
  have APKSKA : Hid (Q ≠ A) := by show _ ≠ _; have := KS.out.lt; rw [hF]; omega
  rw [← hY] at hb
  rw [← hY, ← hF]
  clear hY hF
  replace KR := hidU (KR.out.below hb)
  replace KS := hidU (KS.out.below hb)
  replace HD := hidU (HD.out.below hb)
  replace HC := hidU (HC.out.below hb)
  replace HB := hidU (HB.out.trans (hb.mono HB.out.size))
  clear hb
  have hb := (Below.refl Y1.heap.size Y1).drew
  replace KR := hidU (KR.out.below hb)
  replace KS := hidU (KS.out.below hb)
  replace KA := hidU (KA.out.below hb)
  replace HD := hidU (HD.out.below hb)
  replace HC := hidU (HC.out.below hb)
  replace HB := hidU (HB.out.trans (hb.mono HB.out.size))
  clear hb
  refine wp_region_noPanic ?_
  refine wp_region_held_drew (S := fun W => IsB W A #[.int .i64 n, .int .i64 d, .slice av lv cv] 30) (by kernel_rfl) KA.out (fun hHeld => ?_)
  obtain ⟨wd, hwd⟩ : ∃ u, u = Y1.drew := ⟨_, rfl⟩
  rw [← hwd] at KR KS KA HD HC HB hHeld ⊢
  clear hwd
  refine wpAnyH_take (i := 0) (v := ?_) rfl (by kernel_rfl) (by kernel_rfl) (by kernel_rfl) (fun _ _ _ h => h) (Or.inl ⟨by kernel_rfl, ?_⟩) hHeld ?_
  rotate_left
  · intro wz hSw; obtain ⟨p0, p1, p2⟩ := IsB.c3 hSw; clear hSw; go_simp; all_goals (try with_reducible rfl)
  (try simp only [List.getElem_toArray]); (try simp only [List.getElem_cons_succ]); (try simp only [List.getElem_cons_zero]); (try simp only [Act.put]); (try simp only [List.setIfInBounds_toArray]); (try simp only [List.set_cons_succ]); (try simp only [List.set_cons_zero])
  refine wpAnyH_take (i := 1) (v := ?_) rfl (by kernel_rfl) (by kernel_rfl) (by kernel_rfl) (fun _ _ _ h => h) (Or.inl ⟨by kernel_rfl, ?_⟩) hHeld ?_
  rotate_left
  · intro wz hSw; obtain ⟨p0, p1, p2⟩ := IsB.c3 hSw; clear hSw; go_simp; all_goals (try with_reducible rfl)
  (try simp only [List.getElem_toArray]); (try simp only [List.getElem_cons_succ]); (try simp only [List.getElem_cons_zero]); (try simp only [Act.put]); (try simp only [List.setIfInBounds_toArray]); (try simp only [List.set_cons_succ]); (try simp only [List.set_cons_zero])
  refine wpAnyH_ready (rs := [2]) (by kernel_rfl) (by simp) (AllReadyH.cons rfl (fun Kc hKc => ?_) AllReadyH.nil)
  go_simp
  refine (draw6_any cb a len cap zs _ HC.out).mono ?_
  rintro e r2 ⟨m, c, u, us, rfl, hl, hd, hC, hx⟩
  have HM := hidU hl
  have HU : Hid (DimZ wd.heap.size r2 u us) := hd
  have HCU : Hid (cb < wd.heap.size) := HC.out.lt
  clear hl hd
  replace KR := hidU (KR.out.ex hx NEKR.out)
  replace KS := hidU (KS.out.ex hx NEKS.out)
  replace KA := hidU (KA.out.ex hx NEKA.out)
  replace HD := hidU (HD.out.ex hx HCV.out)
  replace HC := hidU hC
  replace HB := hidU (Ex.below HB.out hx HCB.out)
  clear hx hC
  go_wp2_with fail
  obtain ⟨au, cu, hau⟩ := HU.out.shape
  obtain ⟨lu, hlu⟩ : ∃ k, k = us.length := ⟨_, rfl⟩
  rw [← hlu] at hau
  subst hau
  clear hlu
  refine hKc.out _ _ KA.out (fun hHeld => ?_)
  clear hKc Kc
  (try simp only [List.getElem_toArray]); (try simp only [List.getElem_cons_succ]); (try simp only [List.getElem_cons_zero]); (try simp only [Act.put]); (try simp only [List.setIfInBounds_toArray]); (try simp only [List.set_cons_succ]); (try simp only [List.set_cons_zero])
  clear HC
  obtain ⟨z0, z1, z2⟩ := KR.out.c3
  obtain ⟨f0, f1, f2⟩ := KR.out.f3
  have Kb := hidU (KR.out.set3 (.int .i64 n) (.int .i64 d) (.slice av lv cv))
  replace KS := hidU (((KS.out.other APKS.out.symm 0 (.int .i64 n)).other APKS.out.symm 1 (.int .i64 d)).other APKS.out.symm 2 (.slice av lv cv))
  replace KA := hidU (((KA.out.other APKRKA.out.symm 0 (.int .i64 n)).other APKRKA.out.symm 1 (.int .i64 d)).other APKRKA.out.symm 2 (.slice av lv cv))
  replace HD := hidU (((HD.out.set (b := P) (Nat.lt_trans LTKR.out HCV.out) 0 (.int .i64 n)).set (b := P) (Nat.lt_trans LTKR.out HCV.out) 1 (.int .i64 d)).set (b := P) (Nat.lt_trans LTKR.out HCV.out) 2 (.slice av lv cv))
  replace HU := hidU (((HU.out.set (b := P) (Nat.lt_trans LTKR.out HCU.out) 0 (.int .i64 n)).set (b := P) (Nat.lt_trans LTKR.out HCU.out) 1 (.int .i64 d)).set (b := P) (Nat.lt_trans LTKR.out HCU.out) 2 (.slice av lv cv))
  replace HB := hidU (HB.out.setCell (p := ⟨P, 0, none⟩) GEKR.out (.int .i64 n))
  replace HB := hidU (HB.out.setCell (p := ⟨P, 1, none⟩) GEKR.out (.int .i64 d))
  replace HB := hidU (HB.out.setCell (p := ⟨P, 2, none⟩) GEKR.out (.slice av lv cv))
  refine wpAnyH_ready (rs := [3]) (by kernel_rfl) (by simp) (AllReadyH.cons rfl (fun Kc hKc => ?_) AllReadyH.nil)
  go_simp
  refine hKc.out _ _ KA.out (fun hHeld => ?_)
  clear hKc Kc z0 z1 z2 f0 f1 f2 KR
  (try simp only [List.getElem_toArray]); (try simp only [List.getElem_cons_succ]); (try simp only [List.getElem_cons_zero]); (try simp only [Act.put]); (try simp only [List.setIfInBounds_toArray]); (try simp only [List.set_cons_succ]); (try simp only [List.set_cons_zero])
  have KR := Kb
  clear Kb
  obtain ⟨z0, z1, z2⟩ := KS.out.c3
  obtain ⟨f0, f1, f2⟩ := KS.out.f3
  have Kb := hidU (KS.out.set3 (.int .i64 m) (.int .i64 c) (.slice au lu cu))
  replace KR := hidU (((KR.out.other APKS.out 0 (.int .i64 m)).other APKS.out 1 (.int .i64 c)).other APKS.out 2 (.slice au lu cu))
  replace KA := hidU (((KA.out.other APKSKA.out.symm 0 (.int .i64 m)).other APKSKA.out.symm 1 (.int .i64 c)).other APKSKA.out.symm 2 (.slice au lu cu))
  replace HD := hidU (((HD.out.set (b := Q) (Nat.lt_trans LTKS.out HCV.out) 0 (.int .i64 m)).set (b := Q) (Nat.lt_trans LTKS.out HCV.out) 1 (.int .i64 c)).set (b := Q) (Nat.lt_trans LTKS.out HCV.out) 2 (.slice au lu cu))
  replace HU := hidU (((HU.out.set (b := Q) (Nat.lt_trans LTKS.out HCU.out) 0 (.int .i64 m)).set (b := Q) (Nat.lt_trans LTKS.out HCU.out) 1 (.int .i64 c)).set (b := Q) (Nat.lt_trans LTKS.out HCU.out) 2 (.slice au lu cu))
  replace HB := hidU (HB.out.setCell (p := ⟨Q, 0, none⟩) GEKS.out (.int .i64 m))
  replace HB := hidU (HB.out.setCell (p := ⟨Q, 1, none⟩) GEKS.out (.int .i64 c))
  replace HB := hidU (HB.out.setCell (p := ⟨Q, 2, none⟩) GEKS.out (.slice au lu cu))
  refine wpAnyH_ready (rs := [4]) (by kernel_rfl) (by simp) (AllReadyH.cons rfl (fun Kc hKc => ?_) AllReadyH.nil)
  go_simp
  refine hKc.out _ _ KA.out (fun hHeld => ?_)
  clear hKc Kc z0 z1 z2 f0 f1 f2 KS
  (try simp only [List.getElem_toArray]); (try simp only [List.getElem_cons_succ]); (try simp only [List.getElem_cons_zero]); (try simp only [Act.put]); (try simp only [List.setIfInBounds_toArray]); (try simp only [List.set_cons_succ]); (try simp only [List.set_cons_zero])
  have KS := Kb
  clear Kb
  refine wpAnyH_done (by kernel_rfl) ?_ _
  refine NoPanic.normal ?_
  clear hHeld
  go_wp2
  obtain ⟨q0, q1, q2⟩ := KR.out.c3
  obtain ⟨s0, s1, s2⟩ := KS.out.c3
  exact bodyPost_ret (v := .tuple #[.agg #[.int .i64 n, .int .i64 d, .slice av lv cv], .agg #[.int .i64 m, .int .i64 c, .slice au lu cu]]) (by simp [results, Tryz.results7, go_sem, q0, q1, q2, s0, s1, s2]) rfl ⟨n, d, m, c, _, _, ys, us, rfl, HL.out, HM.out, HD.out.to, HU.out.to, HB.out⟩

set_option maxRecDepth 100000 in
set_option maxHeartbeats 2000000 in
theorem dMeas_any (a : Option Addr) (len cap : Nat) (zs : List Int) (w : World) (hr : IsRow .u8 w a len cap zs) :
    Calls Tryz.prog 5 #[.slice a len cap] w fun e w' => ∃ (n d : Int) (s : ByteArray), e = .returned (.tuple #[.agg #[.int .i64 n, .int .i64 d], .string s]) ∧ DT 26 s ∧ Below w.heap.size w w' := by
  go_enter Tryz.func5, Tryz.ntmps5
  go_upto_region 1 with fail
  obtain ⟨W0, hW⟩ : ∃ Y, Y = w.alloc (.cells #[.int .i64 0, .int .i64 0] 25) := ⟨_, rfl⟩
  obtain ⟨P, hP⟩ : ∃ P, P = w.heap.size := ⟨_, rfl⟩
  have KR : Hid (IsB W0 P #[.int .i64 0, .int .i64 0] 25) := by show IsB _ _ _ _; rw [hW, hP]; exact IsB.new w _ _
  have HB : Hid (Below w.heap.size w W0) := by show Below _ _ _; rw [hW]; exact b0_any w _
  have HR := hidU (hr.below HB.out)
  have GEKR : Hid (w.heap.size ≤ P) := by show _ ≤ _; omega
  have hPs : P < W0.heap.size := KR.out.lt
  rw [← hW, ← hP]
  clear hW hr hP
  go_wp2_with fail
  refine (new_any a len cap zs _ HR.out).mono ?_
  rintro e v0 ⟨rfl, hC, hb, -⟩
  obtain ⟨cb, hcb⟩ : ∃ cb, cb = W0.heap.size := ⟨_, rfl⟩
  rw [← hcb] at hC ⊢
  have HCB : Hid (w.heap.size ≤ cb) := by show _ ≤ _; rw [hcb]; exact HB.out.size
  have NEKR : Hid (P ≠ cb) := by show _ ≠ _; omega
  have LTKR : Hid (P < cb) := by show _ < _; omega
  have HC := hidU hC
  replace KR := hidU (KR.out.below hb)
  replace HB := hidU (HB.out.trans (hb.mono HB.out.size))
  clear hC hb HR hPs hcb
  go_wp2_with fail
  refine (drawAny_any cb a len cap zs _ HC.out).mono ?_
  rintro e v1 ⟨n, d, rfl, hC, hx⟩
  replace KR := hidU (KR.out.ex hx NEKR.out)
  replace HC := hidU hC
  replace HB := hidU (Ex.below HB.out hx HCB.out)
  clear hx hC
  have hb := b0_any v1 (.cells #[.int .i64 n, .int .i64 d] 25)
  go_upto_region 3 with fail
  obtain ⟨Y1, hY⟩ : ∃ Y, Y = v1.alloc (.cells #[.int .i64 n, .int .i64 d] 25) := ⟨_, rfl⟩
  obtain ⟨A, hF⟩ : ∃ F, F = v1.heap.size := ⟨_, rfl⟩
  have KA : Hid (IsB Y1 A #[.int .i64 n, .int .i64 d] 25) := by show IsB _ _ _ _; rw [hY, hF]; exact IsB.new _ _ _
  have NEKA : Hid (A ≠ cb) := by show _ ≠ _; have := HC.out.lt; rw [hF]; omega
  have GEKA : Hid (w.heap.size ≤ A) := by show _ ≤ _; rw [hF]; exact HB.out.size
  have APKRKA : Hid (P ≠ A) := by show _ ≠ _; have := KR.out.lt; rw [hF]; omega
  rw [← hY] at hb
  rw [← hY, ← hF]
  clear hY hF
  replace KR := hidU (KR.out.below hb)
  replace HC := hidU (HC.out.below hb)
  replace HB := hidU (HB.out.trans (hb.mono HB.out.size))
  clear hb
  go_wp2_with fail
  refine (drawPair_any cb a len cap zs _ HC.out).mono ?_
  rintro e v2 ⟨s, t, rfl, hs, -, hC, hx⟩
  have HS := hidU hs
  clear hs
  replace KR := hidU (KR.out.ex hx NEKR.out)
  replace KA := hidU (KA.out.ex hx NEKA.out)
  replace HC := hidU hC
  replace HB := hidU (Ex.below HB.out hx HCB.out)
  clear hx hC
  go_wp2_with fail
  refine (once_any cb 4 a len cap zs _ HC.out (by omega)).mono ?_
  rintro e v3 ⟨b, rfl, hC, hx⟩
  replace KR := hidU (KR.out.ex hx NEKR.out)
  replace KA := hidU (KA.out.ex hx NEKA.out)
  replace HC := hidU hC
  replace HB := hidU (Ex.below HB.out hx HCB.out)
  clear hx hC
  cases b
  · skip
    obtain ⟨z0, z1⟩ := KR.out.c2
    obtain ⟨f0, f1⟩ := KR.out.f2
    obtain ⟨y0, y1⟩ := KA.out.c2
    go_wp2
    obtain ⟨q0, q1⟩ := (KR.out.set2 (.int .i64 n) (.int .i64 d)).c2
    exact bodyPost_ret (v := .tuple #[.agg #[.int .i64 n, .int .i64 d], .string s]) (by simp [results, Tryz.results5, go_sem, q0, q1]) rfl ⟨_, _, _, rfl, HS.out, below_set2 HB.out GEKR.out _ _⟩
  clear HS
  go_wp2_with fail
  refine (draw5_any cb a len cap zs _ HC.out).mono ?_
  rintro e v4 ⟨s', rfl, hs, hC, hx⟩
  have HS := hidU hs
  clear hs
  replace KR := hidU (KR.out.ex hx NEKR.out)
  replace KA := hidU (KA.out.ex hx NEKA.out)
  replace HC := hidU hC
  replace HB := hidU (Ex.below HB.out hx HCB.out)
  clear hx hC
  obtain ⟨z0, z1⟩ := KR.out.c2
  obtain ⟨f0, f1⟩ := KR.out.f2
  obtain ⟨y0, y1⟩ := KA.out.c2
  go_wp2
  obtain ⟨q0, q1⟩ := (KR.out.set2 (.int .i64 n) (.int .i64 d)).c2
  exact bodyPost_ret (v := .tuple #[.agg #[.int .i64 n, .int .i64 d], .string s']) (by simp [results, Tryz.results5, go_sem, q0, q1]) rfl ⟨_, _, _, rfl, HS.out, below_set2 HB.out GEKR.out _ _⟩

set_option maxRecDepth 100000 in
set_option maxHeartbeats 2000000 in
theorem dIn_any (a : Option Addr) (len cap : Nat) (zs : List Int) (w : World) (hr : IsRow .u8 w a len cap zs) :
    Calls Tryz.prog 10 #[.slice a len cap] w fun e w' => ∃ (n d : Int) (v : Value) (ys : List Int) (s : ByteArray), e = .returned (.tuple #[.agg #[.int .i64 n, .int .i64 d, v], .string s]) ∧ ys.length ≤ 5 ∧ DimIn w' v ys ∧ DT 26 s ∧ Below w.heap.size w w' := by
  go_enter Tryz.func10, Tryz.ntmps10
  go_upto_region 1 with fail
  obtain ⟨W0, hW⟩ : ∃ Y, Y = w.alloc (.cells #[.int .i64 0, .int .i64 0, .slice none 0 0] 30) := ⟨_, rfl⟩
  obtain ⟨P, hP⟩ : ∃ P, P = w.heap.size := ⟨_, rfl⟩
  have KR : Hid (IsB W0 P #[.int .i64 0, .int .i64 0, .slice none 0 0] 30) := by show IsB _ _ _ _; rw [hW, hP]; exact IsB.new w _ _
  have HB : Hid (Below w.heap.size w W0) := by show Below _ _ _; rw [hW]; exact b0_any w _
  have HR := hidU (hr.below HB.out)
  have GEKR : Hid (w.heap.size ≤ P) := by show _ ≤ _; omega
  have hPs : P < W0.heap.size := KR.out.lt
  rw [← hW, ← hP]
  clear hW hr hP
  go_wp2_with fail
  refine (new_any a len cap zs _ HR.out).mono ?_
  rintro e v0 ⟨rfl, hC, hb, -⟩
  obtain ⟨cb, hcb⟩ : ∃ cb, cb = W0.heap.size := ⟨_, rfl⟩
  rw [← hcb] at hC ⊢
  have HCB : Hid (w.heap.size ≤ cb) := by show _ ≤ _; rw [hcb]; exact HB.out.size
  have NEKR : Hid (P ≠ cb) := by show _ ≠ _; omega
  have LTKR : Hid (P < cb) := by show _ < _; omega
  have HC := hidU hC
  replace KR := hidU (KR.out.below hb)
  replace HB := hidU (HB.out.trans (hb.mono HB.out.size))
  clear hC hb HR hPs hcb
  go_wp2_with fail
  refine (drawPair_any cb a len cap zs _ HC.out).mono ?_
  rintro e v1 ⟨s, t, rfl, hs, ht, hC, hx⟩
  have HS := hidU hs
  have HT := hidU ht
  clear hs ht
  replace KR := hidU (KR.out.ex hx NEKR.out)
  replace HC := hidU hC
  replace HB := hidU (Ex.below HB.out hx HCB.out)
  clear hx hC
  go_wp2_with fail
  refine (drawAny_any cb a len cap zs _ HC.out).mono ?_
  rintro e v2 ⟨n0, d0, rfl, hC, hx⟩
  replace KR := hidU (KR.out.ex hx NEKR.out)
  replace HC := hidU hC
  replace HB := hidU (Ex.below HB.out hx HCB.out)
  clear hx hC
  have HML := hidU (measI_len (n0, d0) s.data.toList)
  have HM := hidU (fun W => sMeasL n0 d0 s W HS.out (by decide))
  obtain ⟨⟨n, d, ys, is⟩, hm⟩ : ∃ q, q = measI (n0, d0) s.data.toList := ⟨_, rfl⟩
  rw [← hm] at HM HML
  unfold MeasP at HM
  simp only at HM HML
  clear hm
  go_wp2_with fail
  refine (HM.out _).mono ?_
  rintro e v3 ⟨v, et, rfl, hd, hb⟩
  have HD : Hid (DimZ v2.heap.size v3 v ys) := .inl ⟨_, et, Nat.le_refl _, hd⟩
  have HCV : Hid (cb < v2.heap.size) := HC.out.lt
  clear hd HM
  replace KR := hidU (KR.out.below hb)
  replace HC := hidU (HC.out.below hb)
  replace HB := hidU (HB.out.trans (hb.mono HB.out.size))
  clear hb
  obtain ⟨av, cv, hav⟩ := HD.out.shape
  obtain ⟨lv, hlv⟩ : ∃ k, k = ys.length := ⟨_, rfl⟩
  rw [← hlv] at hav
  subst hav
  clear hlv
  have hb := b0_any v3 (.cells #[.int .i64 n, .int .i64 d, .slice av lv cv] 30)
  go_upto_region 4 with fail
  obtain ⟨Y1, hY⟩ : ∃ Y, Y = v3.alloc (.cells #[.int .i64 n, .int .i64 d, .slice av lv cv] 30) := ⟨_, rfl⟩
  obtain ⟨A, hF⟩ : ∃ F, F = v3.heap.size := ⟨_, rfl⟩
  have KA : Hid (IsB Y1 A #[.int .i64 n, .int .i64 d, .slice av lv cv] 30) := by show IsB _ _ _ _; rw [hY, hF]; exact IsB.new _ _ _
  have NEKA : Hid (A ≠ cb) := by show _ ≠ _; have := HC.out.lt; rw [hF]; omega
  have GEKA : Hid (w.heap.size ≤ A) := by show _ ≤ _; rw [hF]; exact HB.out.size
  have APKRKA : Hid (P ≠ A) := by show _ ≠ _; have := KR.out.lt; rw [hF]; omega
  rw [← hY] at hb
  rw [← hY, ← hF]
  clear hY hF
  replace KR := hidU (KR.out.below hb)
  replace HD := hidU (HD.out.below hb)
  replace HC := hidU (HC.out.below hb)
  replace HB := hidU (HB.out.trans (hb.mono HB.out.size))
  clear hb
  cases is
  · skip
    clear HD HML HCV
    obtain ⟨z0, z1, z2⟩ := KA.out.c3
    obtain ⟨f0, f1, f2⟩ := KA.out.f3
    go_wp2_with fail
    refine (draw6_any cb a len cap zs _ HC.out).mono ?_
    rintro e v4 ⟨m, c, u, us, rfl, hl, hd, hC, hx⟩
    have HML := hidU hl
    have HD : Hid (DimZ Y1.heap.size v4 u us) := hd
    have HCV : Hid (cb < Y1.heap.size) := HC.out.lt
    have HAV : Hid (A < Y1.heap.size) := KA.out.lt
    clear hl hd z0 z1 z2 f0 f1 f2
    replace KR := hidU (KR.out.ex hx NEKR.out)
    replace KA := hidU (KA.out.ex hx NEKA.out)
    replace HC := hidU hC
    replace HB := hidU (Ex.below HB.out hx HCB.out)
    clear hx hC
    obtain ⟨au, cu, hau⟩ := HD.out.shape
    obtain ⟨lu, hlu⟩ : ∃ k, k = us.length := ⟨_, rfl⟩
    rw [← hlu] at hau
    subst hau
    clear hlu
    obtain ⟨z0, z1, z2⟩ := KA.out.c3
    obtain ⟨f0, f1, f2⟩ := KA.out.f3
    go_upto_region 6 with fail
    have Kb := hidU (KA.out.set3 (.int .i64 m) (.int .i64 c) (.slice au lu cu))
    replace KR := hidU (((KR.out.other APKRKA.out 0 (.int .i64 m)).other APKRKA.out 1 (.int .i64 c)).other APKRKA.out 2 (.slice au lu cu))
    replace HD := hidU (((HD.out.set (b := A) (HAV.out) 0 (.int .i64 m)).set (b := A) (HAV.out) 1 (.int .i64 c)).set (b := A) (HAV.out) 2 (.slice au lu cu))
    replace HB := hidU (HB.out.setCell (p := ⟨A, 0, none⟩) GEKA.out (.int .i64 m))
    replace HB := hidU (HB.out.setCell (p := ⟨A, 1, none⟩) GEKA.out (.int .i64 c))
    replace HB := hidU (HB.out.setCell (p := ⟨A, 2, none⟩) GEKA.out (.slice au lu cu))
    obtain ⟨v9, hv9⟩ : ∃ Y, Y = (((v4).setCell ⟨A, 0, none⟩ (.int .i64 m)).setCell ⟨A, 1, none⟩ (.int .i64 c)).setCell ⟨A, 2, none⟩ (.slice au lu cu) := ⟨_, rfl⟩
    rw [← hv9] at Kb KR HD HB ⊢
    clear hv9 z0 z1 z2 f0 f1 f2 KA HC
    have KA := Kb
    clear Kb
    obtain ⟨z0, z1, z2⟩ := KR.out.c3
    obtain ⟨f0, f1, f2⟩ := KR.out.f3
    obtain ⟨y0, y1, y2⟩ := KA.out.c3
    have hD := ((HD.out.set (b := P) (Nat.lt_trans LTKR.out HCV.out) 0 (.int .i64 m)).set (b := P) (Nat.lt_trans LTKR.out HCV.out) 1 (.int .i64 c)).set (b := P) (Nat.lt_trans LTKR.out HCV.out) 2 (.slice au lu cu)
    have HD2 := hidU hD
    clear hD
    go_wp2
    obtain ⟨q0, q1, q2⟩ := (KR.out.set3 (.int .i64 m) (.int .i64 c) (.slice au lu cu)).c3
    exact bodyPost_ret (v := .tuple #[.agg #[.int .i64 m, .int .i64 c, .slice au lu cu], .string t]) (by simp [results, Tryz.results10, go_sem, q0, q1, q2]) rfl ⟨_, _, _, us, _, rfl, HML.out, HD2.out.to, HT.out, below_set3 HB.out GEKR.out _ _ _⟩
  go_wp2_with fail
  refine (once_any cb 8 a len cap zs _ HC.out (by omega)).mono ?_
  rintro e v5 ⟨b, rfl, hC, hx⟩
  replace KR := hidU (KR.out.ex hx NEKR.out)
  replace KA := hidU (KA.out.ex hx NEKA.out)
  replace HD := hidU (HD.out.ex hx HCV.out)
  replace HC := hidU hC
  replace HB := hidU (Ex.below HB.out hx HCB.out)
  clear hx hC
  cases b
  · skip
    obtain ⟨z0, z1, z2⟩ := KR.out.c3
    obtain ⟨f0, f1, f2⟩ := KR.out.f3
    obtain ⟨y0, y1, y2⟩ := KA.out.c3
    have hD := ((HD.out.set (b := P) (Nat.lt_trans LTKR.out HCV.out) 0 (.int .i64 n)).set (b := P) (Nat.lt_trans LTKR.out HCV.out) 1 (.int .i64 d)).set (b := P) (Nat.lt_trans LTKR.out HCV.out) 2 (.slice av lv cv)
    have HD2 := hidU hD
    clear hD
    go_wp2
    obtain ⟨q0, q1, q2⟩ := (KR.out.set3 (.int .i64 n) (.int .i64 d) (.slice av lv cv)).c3
    exact bodyPost_ret (v := .tuple #[.agg #[.int .i64 n, .int .i64 d, .slice av lv cv], .string t]) (by simp [results, Tryz.results10, go_sem, q0, q1, q2]) rfl ⟨_, _, _, ys, _, rfl, HML.out, HD2.out.to, HT.out, below_set3 HB.out GEKR.out _ _ _⟩
  clear HD HML HCV
  obtain ⟨z0, z1, z2⟩ := KA.out.c3
  obtain ⟨f0, f1, f2⟩ := KA.out.f3
  go_wp2_with fail
  refine (draw6_any cb a len cap zs _ HC.out).mono ?_
  rintro e v6 ⟨m, c, u, us, rfl, hl, hd, hC, hx⟩
  have HML := hidU hl
  have HD : Hid (DimZ v5.heap.size v6 u us) := hd
  have HCV : Hid (cb < v5.heap.size) := HC.out.lt
  have HAV : Hid (A < v5.heap.size) := KA.out.lt
  clear hl hd z0 z1 z2 f0 f1 f2
  replace KR := hidU (KR.out.ex hx NEKR.out)
  replace KA := hidU (KA.out.ex hx NEKA.out)
  replace HC := hidU hC
  replace HB := hidU (Ex.below HB.out hx HCB.out)
  clear hx hC
  obtain ⟨au, cu, hau⟩ := HD.out.shape
  obtain ⟨lu, hlu⟩ : ∃ k, k = us.length := ⟨_, rfl⟩
  rw [← hlu] at hau
  subst hau
  clear hlu
  obtain ⟨z0, z1, z2⟩ := KA.out.c3
  obtain ⟨f0, f1, f2⟩ := KA.out.f3
  go_upto_region 6 with fail
  have Kb := hidU (KA.out.set3 (.int .i64 m) (.int .i64 c) (.slice au lu cu))
  replace KR := hidU (((KR.out.other APKRKA.out 0 (.int .i64 m)).other APKRKA.out 1 (.int .i64 c)).other APKRKA.out 2 (.slice au lu cu))
  replace HD := hidU (((HD.out.set (b := A) (HAV.out) 0 (.int .i64 m)).set (b := A) (HAV.out) 1 (.int .i64 c)).set (b := A) (HAV.out) 2 (.slice au lu cu))
  replace HB := hidU (HB.out.setCell (p := ⟨A, 0, none⟩) GEKA.out (.int .i64 m))
  replace HB := hidU (HB.out.setCell (p := ⟨A, 1, none⟩) GEKA.out (.int .i64 c))
  replace HB := hidU (HB.out.setCell (p := ⟨A, 2, none⟩) GEKA.out (.slice au lu cu))
  obtain ⟨v9, hv9⟩ : ∃ Y, Y = (((v6).setCell ⟨A, 0, none⟩ (.int .i64 m)).setCell ⟨A, 1, none⟩ (.int .i64 c)).setCell ⟨A, 2, none⟩ (.slice au lu cu) := ⟨_, rfl⟩
  rw [← hv9] at Kb KR HD HB ⊢
  clear hv9 z0 z1 z2 f0 f1 f2 KA HC
  have KA := Kb
  clear Kb
  obtain ⟨z0, z1, z2⟩ := KR.out.c3
  obtain ⟨f0, f1, f2⟩ := KR.out.f3
  obtain ⟨y0, y1, y2⟩ := KA.out.c3
  have hD := ((HD.out.set (b := P) (Nat.lt_trans LTKR.out HCV.out) 0 (.int .i64 m)).set (b := P) (Nat.lt_trans LTKR.out HCV.out) 1 (.int .i64 c)).set (b := P) (Nat.lt_trans LTKR.out HCV.out) 2 (.slice au lu cu)
  have HD2 := hidU hD
  clear hD
  go_wp2
  obtain ⟨q0, q1, q2⟩ := (KR.out.set3 (.int .i64 m) (.int .i64 c) (.slice au lu cu)).c3
  exact bodyPost_ret (v := .tuple #[.agg #[.int .i64 m, .int .i64 c, .slice au lu cu], .string t]) (by simp [results, Tryz.results10, go_sem, q0, q1, q2]) rfl ⟨_, _, _, us, _, rfl, HML.out, HD2.out.to, HT.out, below_set3 HB.out GEKR.out _ _ _⟩
end Go.Proofs.YtnhefbhiemdhoaaGreat

/- The model's Plus and Product of quantities. -/
namespace Go.Proofs.YtnhefbhiemdhoaaGreat
open Go.RowKit Go.Proofs.YtnhefbhiemdhoaaGreat.RM

theorem IsB.other3 {W : World} {K B : Nat} {vs : Array Value} {t : TypeId} (h : IsB W K vs t) (hne : K ≠ B) (b0 b1 b2 : Value) : IsB (((W.setCell ⟨B, 0, none⟩ b0).setCell ⟨B, 1, none⟩ b1).setCell ⟨B, 2, none⟩ b2) K vs t :=
  ((h.other hne 0 b0).other hne 1 b1).other hne 2 b2
theorem quaB_swap (n d : Int) (ys : List Int) : quaB n d ys = (dimB ys && okB n d) := Bool.and_comm _ _
theorem IsB.grown {W W' : World} {B : Nat} {row : Option Nat} {vs : Array Value} {t : TypeId} (h : IsB W B vs t) (hg : W.grownBy W' row) (hne : some B ≠ row) : IsB W' B vs t := (hg.block B h.lt hne).trans h
set_option maxRecDepth 100000 in
set_option maxHeartbeats 2000000 in
theorem sQPlus_any (n d m c : Int) (v u : Value) (ys zs : List Int) (w : World) (h0 : DimIn w v ys) (h1 : DimIn w u zs) :
    Calls Tryz.prog 16 #[.agg #[.int .i64 n, .int .i64 d, v], .agg #[.int .i64 m, .int .i64 c, u]] w fun e w' => QuaP w (plusQ n d ys m c zs) e w' := by
  have b0 : ∀ (u : World) (o : Obj), Below u.heap.size u (u.alloc o) := fun u o => (Below.refl _ _).alloc (Nat.le_refl _) o
  have HM0 := hidU (fun W (hW : Below w.heap.size w W) => sQuaOk_any n d v ys W (h0.below hW))
  have HM1 := hidU (fun W (hW : Below w.heap.size w W) => sQuaOk_any m c u zs W (h1.below hW))
  rw [quaB_swap] at HM0 HM1
  have HA := hidU (fun W => sAdd_any n d m c W)
  have HNO : Hid ((dimB ys && okB n d) = false ∨ (dimB zs && okB m c) = false ∨ ys ≠ zs → plusQ n d ys m c zs = (0, 0, [], false)) := plusQ_no
  have HYES : Hid ((dimB ys && okB n d) = true → (dimB zs && okB m c) = true → ys = zs → plusQ n d ys m c zs = toldQ (opN (two n d m c) (n * c + m * d) (d * c)) (opD (two n d m c) (n * c + m * d) (d * c)) ys (opOk (two n d m c) (n * c + m * d) (d * c))) := plusQ_yes
  obtain ⟨i0, hi, hz0, hz1, hz2⟩ := info_parts infoI
  have HI := hidU (⟨hi, hz0, hz1, hz2⟩ : _ ∧ _ ∧ _ ∧ _)
  clear hi hz0 hz1 hz2
  obtain ⟨RQ, hRQ⟩ : ∃ R, R = plusQ n d ys m c zs := ⟨_, rfl⟩
  rw [← hRQ] at HNO HYES ⊢
  obtain ⟨rN, hN⟩ : ∃ x, x = opN (two n d m c) (n * c + m * d) (d * c) := ⟨_, rfl⟩
  obtain ⟨rD, hD⟩ : ∃ x, x = opD (two n d m c) (n * c + m * d) (d * c) := ⟨_, rfl⟩
  obtain ⟨rO, hO⟩ : ∃ x, x = opOk (two n d m c) (n * c + m * d) (d * c) := ⟨_, rfl⟩
  rw [← hN, ← hD, ← hO] at HA HYES
  clear hRQ hN hD hO
  obtain ⟨p, hp⟩ : ∃ p, p = (dimB ys && okB n d) := ⟨_, rfl⟩
  obtain ⟨q, hq⟩ : ∃ q, q = (dimB zs && okB m c) := ⟨_, rfl⟩
  have HDP : Hid (p = true → dimB ys = true) := by intro h; rw [hp, Bool.and_eq_true] at h; exact h.1
  have HDQ : Hid (q = true → dimB zs = true) := by intro h; rw [hq, Bool.and_eq_true] at h; exact h.1
  rw [← hp] at HM0 HNO HYES
  rw [← hq] at HM1 HNO HYES
  have HI0 := hidU h0
  have HI1 := hidU h1
  obtain ⟨a0, c0, rfl⟩ := h0.shape
  obtain ⟨a1, c1, rfl⟩ := h1.shape
  obtain ⟨m0, hk0⟩ : ∃ k, k = ys.length := ⟨_, rfl⟩
  obtain ⟨m1, hk1⟩ : ∃ k, k = zs.length := ⟨_, rfl⟩
  rw [← hk0] at HM0 HI0 ⊢
  rw [← hk1] at HM1 HI1 ⊢
  have HK0 := hidU hk0
  have HK1 := hidU hk1
  clear hp hq h0 h1 hk0 hk1
  go_enter Tryz.func16, Tryz.ntmps16
  go_wp2_with fail
  refine (HM0.out _ (((b0 _ _).alloc (by simp) _).alloc (by simp; omega) _)).mono ?_
  rintro e w1 ⟨rfl, hb⟩
  obtain ⟨A, hA⟩ : ∃ A, A = w.heap.size := ⟨_, rfl⟩
  have hAw : Hid (w.heap.size ≤ A) := Nat.le_of_eq hA.symm
  have k1 : IsB w1 A #[.int .i64 n, .int .i64 d, .slice a0 m0 c0] 30 := by rw [hA]; exact (((IsB.new w _ _).below (b0 _ _)).below (b0 _ _)).below hb
  have k2 : IsB w1 (A + 1) #[.int .i64 m, .int .i64 c, .slice a1 m1 c1] 30 := by rw [hA]; exact ((IsB.new2c w _ _ _).below (b0 _ _)).below hb
  have k3 : IsB w1 (A + 1 + 1) #[.int .i64 0, .int .i64 0, .slice none 0 0] 30 := by rw [hA]; exact (IsB.new3c w _ _ _ _).below hb
  have hB1 : Below w.heap.size w w1 := (((b0 _ _).alloc (by simp) _).alloc (by simp; omega) _).trans (hb.mono (by simp; omega))
  rw [← hA]
  clear hb hA
  obtain ⟨Z, hZ⟩ : ∃ Z, Z = A + 1 + 1 := ⟨_, rfl⟩
  obtain ⟨D, hD⟩ : ∃ D, D = A + 1 := ⟨_, rfl⟩
  rw [← hD] at k2 k3 hZ ⊢
  rw [← hZ] at k3 ⊢
  have hZw : Hid (w.heap.size ≤ Z) := by have := hAw.out; show _ ≤ _; omega
  have HAZ : Hid (A ≠ Z) := by show _ ≠ _; omega
  clear hZ hD
  have K1 := hidU k1
  have K2 := hidU k2
  have K3 := hidU k3
  have HB := hidU hB1
  clear k1 k2 k3 hB1
  cases p
  · have HNN := hidU (HNO.out (.inl (by simp)))
    obtain ⟨z0, z1, z2⟩ := K3.out.c3
    obtain ⟨f0, f1, f2⟩ := K3.out.f3
    go_wp2
    exact bodyPost_ret (v := .tuple #[.agg #[.int .i64 0, .int .i64 0, .slice none 0 0], .bool false]) (by simp [results, Tryz.results16, go_sem, z0, z1, z2]) rfl (by rw [HNN.out]; exact ⟨_, rfl, RowM.empty _ _, below_set3 HB.out hZw.out _ _ _⟩)
  obtain ⟨d0, d1, d2⟩ := K2.out.c3
  go_wp2_with fail
  refine (HM1.out _ HB.out).mono ?_
  rintro e w2 ⟨rfl, hb⟩
  replace K1 := hidU (K1.out.below hb)
  replace K2 := hidU (K2.out.below hb)
  replace K3 := hidU (K3.out.below hb)
  replace HB := hidU (HB.out.trans (hb.mono HB.out.size))
  clear hb d0 d1 d2
  cases q
  · have HNN := hidU (HNO.out (.inr (.inl (by simp))))
    obtain ⟨z0, z1, z2⟩ := K3.out.c3
    obtain ⟨f0, f1, f2⟩ := K3.out.f3
    go_wp2
    exact bodyPost_ret (v := .tuple #[.agg #[.int .i64 0, .int .i64 0, .slice none 0 0], .bool false]) (by simp [results, Tryz.results16, go_sem, z0, z1, z2]) rfl (by rw [HNN.out]; exact ⟨_, rfl, RowM.empty _ _, below_set3 HB.out hZw.out _ _ _⟩)
  have g1 : dimB ys = true := by have h := HDP.out; simpa using h
  have g2 : dimB zs = true := by have h := HDQ.out; simpa using h
  have l0 : ys.length = 5 := dimB_len g1
  have l1 : zs.length = 5 := dimB_len g2
  have e5 : m0 = 5 := by rw [HK0.out]; exact l0
  have e6 : m1 = 5 := by rw [HK1.out]; exact l1
  subst e5 e6
  have HL0 := hidU l0
  have HL1 := hidU l1
  obtain ⟨bs0, et0, o0⟩ := HI0.out.five l0
  obtain ⟨bs1, et1, o1⟩ := HI1.out.five l1
  rw [l0] at o0
  rw [l1] at o1
  have HO0 := hidU o0
  have HO1 := hidU o1
  have HSM := hidU (fun W (hW : Below w.heap.size w W) => sSame_any _ _ ys zs 5 _ _ _ _ W HL0.out HL1.out (by omega) ((RowM.own HO0.out).below hW) ((RowM.own HO1.out).below hW))
  obtain ⟨g, hg⟩ : ∃ g, g = decide (ys = zs) := ⟨_, rfl⟩
  have HG : Hid (g = true ↔ ys = zs) := by show _ ↔ _; rw [hg, decide_eq_true_eq]
  rw [← hg] at HSM
  clear hg g1 g2 l0 l1 o0 o1
  obtain ⟨x0, x1, x2⟩ := K1.out.c3
  obtain ⟨d0, d1, d2⟩ := K2.out.c3
  go_wp2_with fail
  refine (HSM.out _ HB.out).mono ?_
  rintro e w3 ⟨rfl, mm, hw⟩
  have hb : Below w2.heap.size w2 w3 := by rw [hw]; exact below_drewN (Below.refl _ _) _
  replace K1 := hidU (K1.out.below hb)
  replace K2 := hidU (K2.out.below hb)
  replace K3 := hidU (K3.out.below hb)
  replace HB := hidU (HB.out.trans (hb.mono HB.out.size))
  clear hb hw x0 x1 x2 d0 d1 d2 HSM
  cases g
  · have HNN := hidU (HNO.out (.inr (.inr (fun h => by have := HG.out.2 h; cases this))))
    obtain ⟨z0, z1, z2⟩ := K3.out.c3
    obtain ⟨f0, f1, f2⟩ := K3.out.f3
    go_wp2
    exact bodyPost_ret (v := .tuple #[.agg #[.int .i64 0, .int .i64 0, .slice none 0 0], .bool false]) (by simp [results, Tryz.results16, go_sem, z0, z1, z2]) rfl (by rw [HNN.out]; exact ⟨_, rfl, RowM.empty _ _, below_set3 HB.out hZw.out _ _ _⟩)
  have HRES : Hid (RQ = toldQ rN rD ys rO) := HYES.out (by simp) (by simp) (HG.out.1 (by simp))
  clear HNO HYES HG HDP HDQ HM0 HM1
  obtain ⟨x0, x1, x2⟩ := K1.out.c3
  obtain ⟨d0, d1, d2⟩ := K2.out.c3
  go_wp2_with fail
  refine (HA.out _).mono ?_
  rintro e w4 ⟨rfl, hb⟩
  replace K1 := hidU (K1.out.below hb)
  replace K3 := hidU (K3.out.below hb)
  replace HB := hidU (HB.out.trans (hb.mono HB.out.size))
  clear hb x0 x1 x2 d0 d1 d2 K2 HA
  cases rO
  · have HNN : Hid (RQ = (0, 0, [], false)) := HRES.out
    have hb := b0 w4 (.cells #[.int .i64 rN, .int .i64 rD] 25)
    replace K3 := hidU (K3.out.below hb)
    replace HB := hidU (HB.out.trans (hb.mono HB.out.size))
    clear hb
    obtain ⟨z0, z1, z2⟩ := K3.out.c3
    obtain ⟨f0, f1, f2⟩ := K3.out.f3
    go_wp2
    exact bodyPost_ret (v := .tuple #[.agg #[.int .i64 0, .int .i64 0, .slice none 0 0], .bool false]) (by simp [results, Tryz.results16, go_sem, z0, z1, z2]) rfl (by rw [HNN.out]; exact ⟨_, rfl, RowM.empty _ _, below_set3 HB.out hZw.out _ _ _⟩)
  go_upto_region 6 with fail
  obtain ⟨X, hX⟩ : ∃ Y, Y = w4.alloc (.cells #[.int .i64 rN, .int .i64 rD] 25) := ⟨_, rfl⟩
  obtain ⟨V, hV⟩ : ∃ F, F = w4.heap.size := ⟨_, rfl⟩
  have hb : Below w4.heap.size w4 X := by rw [hX]; exact b0 _ _
  have hVZ : V ≠ Z := by have := K3.out.lt; omega
  replace K1 := hidU (K1.out.below hb)
  replace K3 := hidU (K3.out.below hb)
  replace HB := hidU (HB.out.trans (hb.mono HB.out.size))
  have k6 : IsB X V #[.int .i64 rN, .int .i64 rD] 25 := by rw [hX, hV]; exact IsB.new _ _ _
  have K6 := hidU k6
  have HVZ := hidU hVZ
  have HO := hidU (own_below HO0.out HB.out)
  obtain ⟨gg, cc, hsl⟩ := own_some HO0.out (by omega)
  injection hsl with hsl1 hsl2 hsl3
  subst hsl1
  have HC := hidU (fun j u (h : (ys.map (Value.int .i64))[j]? = some u) => (show X.cell? ((⟨gg, 0, none⟩ : Addr).add j) = some u from by
    have hj : j < 5 := by have := (List.getElem?_eq_some_iff.1 h).1; rw [List.length_map, HL0.out] at this; exact this
    have ha : (⟨gg, 0, none⟩ : Addr).add j = ⟨gg, j, none⟩ := by by_cases i0 : j = 0 <;> simp [Addr.add, i0]
    have hc := HO.out.cellAt j (by omega)
    rw [ha, hc, h]))
  rw [← hX, ← hV]
  clear hX hV hb k6 hVZ hsl2 hsl3
  have HZL := hidU (K3.out.lt)
  have HAL := hidU (K1.out.lt)
  have HVL := hidU (K6.out.lt)
  have HBX := hidU (HB.out.size)
  refine wp_region_noPanic ?_
  refine wp_region_held_drew (S := fun W => IsB W V #[.int .i64 rN, .int .i64 rD] 25 ∧ IsB W A #[.int .i64 n, .int .i64 d, .slice (some ⟨gg, 0, none⟩) 5 c0] 30) (by kernel_rfl) ⟨K6.out.drew, K1.out.drew⟩ (fun hHeld => ?_)
  refine wpAnyH_take (i := 0) (v := ?_) rfl (by kernel_rfl) (by kernel_rfl) (by kernel_rfl) (fun _ _ _ h => h) (Or.inl ⟨by kernel_rfl, ?_⟩) hHeld ?_
  rotate_left
  · intro wz hSw; obtain ⟨hS1, hS2⟩ := hSw; have p0 := hS1.cell (v := .int .i64 rN) 0 rfl; have p1 := hS1.cell (v := .int .i64 rD) 1 rfl; obtain ⟨a0, a1, a2⟩ := hS2.c3; clear hS1 hS2; go_simp; all_goals (try with_reducible rfl)
  (try simp only [List.getElem_toArray]); (try simp only [List.getElem_cons_succ]); (try simp only [List.getElem_cons_zero]); (try simp only [Act.put]); (try simp only [List.setIfInBounds_toArray]); (try simp only [List.set_cons_succ]); (try simp only [List.set_cons_zero])
  refine wpAnyH_take (i := 2) (v := ?_) rfl (by kernel_rfl) (by kernel_rfl) (by kernel_rfl) (fun _ _ _ h => h) (Or.inl ⟨by kernel_rfl, ?_⟩) hHeld ?_
  rotate_left
  · intro wz hSw; obtain ⟨hS1, hS2⟩ := hSw; have p0 := hS1.cell (v := .int .i64 rN) 0 rfl; have p1 := hS1.cell (v := .int .i64 rD) 1 rfl; obtain ⟨a0, a1, a2⟩ := hS2.c3; clear hS1 hS2; go_simp; all_goals (try with_reducible rfl)
  (try simp only [List.getElem_toArray]); (try simp only [List.getElem_cons_succ]); (try simp only [List.getElem_cons_zero]); (try simp only [Act.put]); (try simp only [List.setIfInBounds_toArray]); (try simp only [List.set_cons_succ]); (try simp only [List.set_cons_zero])
  refine wpAnyH_take (i := 3) (v := ?_) rfl (by kernel_rfl) (by kernel_rfl) (by kernel_rfl) (fun _ _ _ h => h) (Or.inl ⟨by kernel_rfl, ?_⟩) hHeld ?_
  rotate_left
  · intro wz hSw; obtain ⟨hS1, hS2⟩ := hSw; have p0 := hS1.cell (v := .int .i64 rN) 0 rfl; have p1 := hS1.cell (v := .int .i64 rD) 1 rfl; obtain ⟨a0, a1, a2⟩ := hS2.c3; clear hS1 hS2; go_simp; all_goals (try with_reducible rfl)
  (try simp only [List.getElem_toArray]); (try simp only [List.getElem_cons_succ]); (try simp only [List.getElem_cons_zero]); (try simp only [Act.put]); (try simp only [List.setIfInBounds_toArray]); (try simp only [List.set_cons_succ]); (try simp only [List.set_cons_zero])
  have hb := b0 X.drew (.cells #[] 2)
  replace K1 := hidU (K1.out.drew.below hb)
  replace K3 := hidU (K3.out.drew.below hb)
  replace K6 := hidU (K6.out.drew.below hb)
  replace HB := hidU (HB.out.drew.trans (hb.mono HB.out.drew.size))
  have HLT := hidU (show (X.drew.alloc (.cells #[] 2)).ownsRow X.heap.size 2 1 (.slice (some ⟨X.heap.size, 0, none⟩) 0 0) 0 [] from by have := World.ownsRow_lit X.drew (base := X.heap.size) (e := 2) (size := 1) #[] 0 (Nat.le_refl _) (Nat.zero_le _) rfl; simpa using this)
  have HXX := hidU HB.out.size
  have HZX := hidU (show Z < X.heap.size from HZL.out)
  refine wpAnyH_ready (rs := [1]) (by kernel_rfl) (by simp) (AllReadyH.cons rfl (fun Kc hKc => ?_) AllReadyH.nil)
  go_simp
  refine hKc.out _ _ ⟨K6.out, K1.out⟩ (fun hHeld => ?_)
  clear hKc Kc hb
  (try simp only [List.getElem_toArray]); (try simp only [List.getElem_cons_succ]); (try simp only [List.getElem_cons_zero]); (try simp only [Act.put]); (try simp only [List.setIfInBounds_toArray]); (try simp only [List.set_cons_succ]); (try simp only [List.set_cons_zero])
  have hi := HI.out.1
  have hz0 := HI.out.2.1
  have hz1 := HI.out.2.2.1
  have hz2 := HI.out.2.2.2
  refine wpAnyH_ready (rs := [4]) (by kernel_rfl) (by simp) (AllReadyH.cons rfl (fun Kc hKc => ?_) AllReadyH.nil)
  refine step_append_own rfl (.tmp 37) (.tmp 39) 28 rfl X.heap.size 2 i0 (.int .i64 0) 1 8 Tryz.underlying28 hi hz0 hz1 hz2 rfl (by decide) _ 0 [] (by simp [Act.eval]) HLT.out ⟨gg, 0, none⟩ 5 c0 (ys.map (Value.int .i64)) (by simp [Act.eval]) (by rw [List.length_map, HL0.out]) (fun j u h => cell_later (b0 _ _) (cell_dr (HC.out j u h))) (by intro u hu; rw [List.mem_map] at hu; obtain ⟨x, _, rfl⟩ := hu; rfl) (by unfold maxLen; omega) (by omega) (by simp) ?_
  intro v5 w5 hown hgrow
  obtain ⟨a5, c5, rfl⟩ := own_shape hown
  have hbk : (Value.slice (some ⟨X.heap.size, 0, none⟩) 0 0).ownBlock = some X.heap.size := rfl
  rw [hbk] at hgrow
  replace K1 := hidU (K1.out.grown hgrow (by have := K1.out.lt; have := HAL.out; simp; omega))
  replace K3 := hidU (K3.out.grown hgrow (by have := HZX.out; simp; omega))
  replace K6 := hidU (K6.out.grown hgrow (by have := HVL.out; simp; omega))
  replace HB := hidU (HB.out.trans ((Below.refl _ _).grown hgrow HB.out.size (fun j ej => by cases ej; exact HBX.out)))
  have HOW : Hid (RowM w5 X.heap.size w5.heap.size (.slice a5 5 c5) ys) := RowM.own (by simpa using hown)
  clear hown hgrow hbk hi hz0 hz1 hz2
  refine hKc.out _ _ ⟨K6.out, K1.out⟩ (fun hHeld => ?_)
  clear hKc Kc
  (try simp only [List.getElem_toArray]); (try simp only [List.getElem_cons_succ]); (try simp only [List.getElem_cons_zero]); (try simp only [Act.put]); (try simp only [List.setIfInBounds_toArray]); (try simp only [List.set_cons_succ]); (try simp only [List.set_cons_zero])
  refine wpAnyH_take (i := 5) (v := ?_) rfl (by kernel_rfl) (by kernel_rfl) (by kernel_rfl) (fun _ _ _ h => h) (Or.inl ⟨by kernel_rfl, ?_⟩) hHeld ?_
  rotate_left
  · intro wz hSw; obtain ⟨hS1, hS2⟩ := hSw; have p0 := hS1.cell (v := .int .i64 rN) 0 rfl; have p1 := hS1.cell (v := .int .i64 rD) 1 rfl; obtain ⟨a0, a1, a2⟩ := hS2.c3; clear hS1 hS2; go_simp; all_goals (try with_reducible rfl)
  (try simp only [List.getElem_toArray]); (try simp only [List.getElem_cons_succ]); (try simp only [List.getElem_cons_zero]); (try simp only [Act.put]); (try simp only [List.setIfInBounds_toArray]); (try simp only [List.set_cons_succ]); (try simp only [List.set_cons_zero])
  obtain ⟨z0, z1, z2⟩ := K3.out.c3
  obtain ⟨f0, f1, f2⟩ := K3.out.f3
  have K6b := hidU (K6.out.other3 HVZ.out (.int .i64 rN) (.int .i64 rD) (.slice a5 5 c5))
  have K1b := hidU (K1.out.other3 HAZ.out (.int .i64 rN) (.int .i64 rD) (.slice a5 5 c5))
  have KZ := hidU (K3.out.set3 (.int .i64 rN) (.int .i64 rD) (.slice a5 5 c5))
  refine wpAnyH_ready (rs := [6]) (by kernel_rfl) (by simp) (AllReadyH.cons rfl (fun Kc hKc => ?_) AllReadyH.nil)
  go_simp
  refine hKc.out _ _ ⟨K6b.out, K1b.out⟩ (fun hHeld => ?_)
  clear hKc Kc z0 z1 z2 f0 f1 f2
  (try simp only [List.getElem_toArray]); (try simp only [List.getElem_cons_succ]); (try simp only [List.getElem_cons_zero]); (try simp only [Act.put]); (try simp only [List.setIfInBounds_toArray]); (try simp only [List.set_cons_succ]); (try simp only [List.set_cons_zero])
  refine wpAnyH_take (i := 7) (v := ?_) rfl (by kernel_rfl) (by kernel_rfl) (by kernel_rfl) (fun _ _ _ h => h) (Or.inl ⟨by kernel_rfl, ?_⟩) hHeld ?_
  rotate_left
  · intro wz hSw; obtain ⟨hS1, hS2⟩ := hSw; have p0 := hS1.cell (v := .int .i64 rN) 0 rfl; have p1 := hS1.cell (v := .int .i64 rD) 1 rfl; obtain ⟨a0, a1, a2⟩ := hS2.c3; clear hS1 hS2; go_simp; all_goals (try with_reducible rfl)
  (try simp only [List.getElem_toArray]); (try simp only [List.getElem_cons_succ]); (try simp only [List.getElem_cons_zero]); (try simp only [Act.put]); (try simp only [List.setIfInBounds_toArray]); (try simp only [List.set_cons_succ]); (try simp only [List.set_cons_zero])
  refine wpAnyH_done (by kernel_rfl) ?_ _
  refine NoPanic.normal ?_
  go_wp2
  obtain ⟨y0, y1, y2⟩ := KZ.out.c3
  have h9 : Kp Z (Z + 1) w5 (((w5.setCell ⟨Z, 0, none⟩ (.int .i64 rN)).setCell ⟨Z, 1, none⟩ (.int .i64 rD)).setCell ⟨Z, 2, none⟩ (.slice a5 5 c5)) := ((Kp.set _ _ (Nat.le_refl _) (Nat.lt_succ_self _)).trans (Kp.set _ _ (Nat.le_refl _) (Nat.lt_succ_self _))).trans (Kp.set _ _ (Nat.le_refl _) (Nat.lt_succ_self _))
  have h8 := (HOW.out.kp h9 (.inr HZX.out)).mono HBX.out h9.size
  exact bodyPost_ret (v := .tuple #[.agg #[.int .i64 rN, .int .i64 rD, .slice a5 5 c5], .bool true]) (by simp [results, Tryz.results16, go_sem, y0, y1, y2]) rfl (by rw [HRES.out]; exact ⟨_, rfl, h8, below_set3 HB.out hZw.out _ _ _⟩)
set_option maxRecDepth 100000 in
set_option maxHeartbeats 2000000 in
theorem sQProd_any (n d m c : Int) (v u : Value) (ys zs : List Int) (w : World) (h0 : DimIn w v ys) (h1 : DimIn w u zs) :
    Calls Tryz.prog 17 #[.agg #[.int .i64 n, .int .i64 d, v], .agg #[.int .i64 m, .int .i64 c, u]] w fun e w' => QuaP w (prodQ n d ys m c zs) e w' := by
  have b0 : ∀ (u : World) (o : Obj), Below u.heap.size u (u.alloc o) := fun u o => (Below.refl _ _).alloc (Nat.le_refl _) o
  have HM0 := hidU (fun W (hW : Below w.heap.size w W) => sQuaOk_any n d v ys W (h0.below hW))
  have HM1 := hidU (fun W (hW : Below w.heap.size w W) => sQuaOk_any m c u zs W (h1.below hW))
  rw [quaB_swap] at HM0 HM1
  have HA := hidU (fun W => sMul_any n d m c W)
  have HDT := hidU (fun W (hW : Below w.heap.size w W) => sDimTimes_in v u ys zs W (h0.below hW) (h1.below hW))
  have HNO : Hid ((dimB ys && okB n d) = false ∨ (dimB zs && okB m c) = false → prodQ n d ys m c zs = (0, 0, [], false)) := prodQ_no
  have HYES : Hid ((dimB ys && okB n d) = true → (dimB zs && okB m c) = true → prodQ n d ys m c zs = toldQ (opN (two n d m c) (n * m) (d * c)) (opD (two n d m c) (n * m) (d * c)) (List.zipWith (· + ·) ys zs) (dimB (List.zipWith (· + ·) ys zs) && opOk (two n d m c) (n * m) (d * c))) := prodQ_yes
  obtain ⟨RQ, hRQ⟩ : ∃ R, R = prodQ n d ys m c zs := ⟨_, rfl⟩
  rw [← hRQ] at HNO HYES ⊢
  obtain ⟨rN, hN⟩ : ∃ x, x = opN (two n d m c) (n * m) (d * c) := ⟨_, rfl⟩
  obtain ⟨rD, hD⟩ : ∃ x, x = opD (two n d m c) (n * m) (d * c) := ⟨_, rfl⟩
  obtain ⟨rO, hO⟩ : ∃ x, x = opOk (two n d m c) (n * m) (d * c) := ⟨_, rfl⟩
  rw [← hN, ← hD, ← hO] at HA HYES
  clear hRQ hN hD hO
  obtain ⟨p, hp⟩ : ∃ p, p = (dimB ys && okB n d) := ⟨_, rfl⟩
  obtain ⟨q, hq⟩ : ∃ q, q = (dimB zs && okB m c) := ⟨_, rfl⟩
  have HDP : Hid (p = true → dimB ys = true) := by intro h; rw [hp, Bool.and_eq_true] at h; exact h.1
  have HDQ : Hid (q = true → dimB zs = true) := by intro h; rw [hq, Bool.and_eq_true] at h; exact h.1
  rw [← hp] at HM0 HNO HYES
  rw [← hq] at HM1 HNO HYES
  have HI0 := hidU h0
  have HI1 := hidU h1
  obtain ⟨a0, c0, rfl⟩ := h0.shape
  obtain ⟨a1, c1, rfl⟩ := h1.shape
  obtain ⟨m0, hk0⟩ : ∃ k, k = ys.length := ⟨_, rfl⟩
  obtain ⟨m1, hk1⟩ : ∃ k, k = zs.length := ⟨_, rfl⟩
  rw [← hk0] at HM0 HI0 HDT ⊢
  rw [← hk1] at HM1 HI1 HDT ⊢
  have HK0 := hidU hk0
  have HK1 := hidU hk1
  clear hp hq h0 h1 hk0 hk1
  go_enter Tryz.func17, Tryz.ntmps17
  go_wp2_with fail
  refine (HM0.out _ (((b0 _ _).alloc (by simp) _).alloc (by simp; omega) _)).mono ?_
  rintro e w1 ⟨rfl, hb⟩
  obtain ⟨A, hA⟩ : ∃ A, A = w.heap.size := ⟨_, rfl⟩
  have hAw : Hid (w.heap.size ≤ A) := Nat.le_of_eq hA.symm
  have k1 : IsB w1 A #[.int .i64 n, .int .i64 d, .slice a0 m0 c0] 30 := by rw [hA]; exact (((IsB.new w _ _).below (b0 _ _)).below (b0 _ _)).below hb
  have k2 : IsB w1 (A + 1) #[.int .i64 m, .int .i64 c, .slice a1 m1 c1] 30 := by rw [hA]; exact ((IsB.new2c w _ _ _).below (b0 _ _)).below hb
  have k3 : IsB w1 (A + 1 + 1) #[.int .i64 0, .int .i64 0, .slice none 0 0] 30 := by rw [hA]; exact (IsB.new3c w _ _ _ _).below hb
  have hB1 : Below w.heap.size w w1 := (((b0 _ _).alloc (by simp) _).alloc (by simp; omega) _).trans (hb.mono (by simp; omega))
  rw [← hA]
  clear hb hA
  obtain ⟨Z, hZ⟩ : ∃ Z, Z = A + 1 + 1 := ⟨_, rfl⟩
  obtain ⟨D, hD⟩ : ∃ D, D = A + 1 := ⟨_, rfl⟩
  rw [← hD] at k2 k3 hZ ⊢
  rw [← hZ] at k3 ⊢
  have hZw : Hid (w.heap.size ≤ Z) := by have := hAw.out; show _ ≤ _; omega
  have HAZ : Hid (A ≠ Z) := by show _ ≠ _; omega
  clear hZ hD
  have K1 := hidU k1
  have K2 := hidU k2
  have K3 := hidU k3
  have HB := hidU hB1
  clear k1 k2 k3 hB1
  cases p
  · have HNN := hidU (HNO.out (.inl (by simp)))
    obtain ⟨z0, z1, z2⟩ := K3.out.c3
    obtain ⟨f0, f1, f2⟩ := K3.out.f3
    go_wp2
    exact bodyPost_ret (v := .tuple #[.agg #[.int .i64 0, .int .i64 0, .slice none 0 0], .bool false]) (by simp [results, Tryz.results17, go_sem, z0, z1, z2]) rfl (by rw [HNN.out]; exact ⟨_, rfl, RowM.empty _ _, below_set3 HB.out hZw.out _ _ _⟩)
  obtain ⟨d0, d1, d2⟩ := K2.out.c3
  go_wp2_with fail
  refine (HM1.out _ HB.out).mono ?_
  rintro e w2 ⟨rfl, hb⟩
  replace K1 := hidU (K1.out.below hb)
  replace K2 := hidU (K2.out.below hb)
  replace K3 := hidU (K3.out.below hb)
  replace HB := hidU (HB.out.trans (hb.mono HB.out.size))
  clear hb d0 d1 d2
  cases q
  · have HNN := hidU (HNO.out (.inr (by simp)))
    obtain ⟨z0, z1, z2⟩ := K3.out.c3
    obtain ⟨f0, f1, f2⟩ := K3.out.f3
    go_wp2
    exact bodyPost_ret (v := .tuple #[.agg #[.int .i64 0, .int .i64 0, .slice none 0 0], .bool false]) (by simp [results, Tryz.results17, go_sem, z0, z1, z2]) rfl (by rw [HNN.out]; exact ⟨_, rfl, RowM.empty _ _, below_set3 HB.out hZw.out _ _ _⟩)
  have g1 : dimB ys = true := by have h := HDP.out; simpa using h
  have g2 : dimB zs = true := by have h := HDQ.out; simpa using h
  have HRES : Hid (RQ = toldQ rN rD (List.zipWith (· + ·) ys zs) (dimB (List.zipWith (· + ·) ys zs) && rO)) := HYES.out (by simp) (by simp)
  have hAT : ansDimTimes ys zs = dimN (List.zipWith (· + ·) ys zs) := by unfold ansDimTimes; rw [g1, g2]; rfl
  rw [hAT] at HDT
  clear HNO HYES HDP HDQ HM0 HM1 hAT g1 g2
  obtain ⟨XS, hXS⟩ : ∃ xs, xs = List.zipWith (· + ·) ys zs := ⟨_, rfl⟩
  rw [← hXS] at HRES HDT
  clear hXS
  obtain ⟨x0, x1, x2⟩ := K1.out.c3
  obtain ⟨d0, d1, d2⟩ := K2.out.c3
  go_wp2_with fail
  refine (HA.out _).mono ?_
  rintro e w4 ⟨rfl, hb⟩
  replace K1 := hidU (K1.out.below hb)
  replace K2 := hidU (K2.out.below hb)
  replace K3 := hidU (K3.out.below hb)
  replace HB := hidU (HB.out.trans (hb.mono HB.out.size))
  clear hb x0 x1 x2 d0 d1 d2 HA
  go_upto_region 4 with fail
  obtain ⟨X, hX⟩ : ∃ Y, Y = w4.alloc (.cells #[.int .i64 rN, .int .i64 rD] 25) := ⟨_, rfl⟩
  obtain ⟨V, hV⟩ : ∃ F, F = w4.heap.size := ⟨_, rfl⟩
  have hb : Below w4.heap.size w4 X := by rw [hX]; exact b0 _ _
  replace K1 := hidU (K1.out.below hb)
  replace K2 := hidU (K2.out.below hb)
  replace K3 := hidU (K3.out.below hb)
  replace HB := hidU (HB.out.trans (hb.mono HB.out.size))
  have k6 : IsB X V #[.int .i64 rN, .int .i64 rD] 25 := by rw [hX, hV]; exact IsB.new _ _ _
  have K6 := hidU k6
  rw [← hX, ← hV]
  clear hX hV hb k6
  obtain ⟨x0, x1, x2⟩ := K1.out.c3
  obtain ⟨d0, d1, d2⟩ := K2.out.c3
  go_wp2_with fail
  refine (HDT.out _ HB.out).mono ?_
  rintro e w5 ⟨v5, et, rfl, ov, hb⟩
  obtain ⟨a5, c5, rfl⟩ := own_shape ov
  have hXB := HB.out.size
  have HZX := hidU (show Z < X.heap.size from K3.out.lt)
  replace K3 := hidU (K3.out.below hb)
  replace K6 := hidU (K6.out.below hb)
  replace HB := hidU (HB.out.trans (hb.mono HB.out.size))
  have HBX := hidU hXB
  have HV := hidU ov
  clear hb x0 x1 x2 d0 d1 d2 ov K1 K2 hXB HDT
  obtain ⟨z0, z1, z2⟩ := K3.out.c3
  obtain ⟨f0, f1, f2⟩ := K3.out.f3
  cases rO
  · have HNN : Hid (RQ = (0, 0, [], false)) := by show _ = _; rw [HRES.out, Bool.and_false]; rfl
    go_wp2
    exact bodyPost_ret (v := .tuple #[.agg #[.int .i64 0, .int .i64 0, .slice none 0 0], .bool false]) (by simp [results, Tryz.results17, go_sem, z0, z1, z2]) rfl (by rw [HNN.out]; exact ⟨_, rfl, RowM.empty _ _, below_set3 HB.out hZw.out _ _ _⟩)
  obtain ⟨g, hg⟩ : ∃ g, g = dimB XS := ⟨_, rfl⟩
  cases g
  · have hN : dimN XS = [] := by unfold dimN; rw [← hg]; rfl
    have HNN : Hid (RQ = (0, 0, [], false)) := by show _ = _; rw [HRES.out, ← hg]; rfl
    rw [hN]
    clear hN hg
    have hl0 : (([] : List Int).length : Int) = 0 := rfl
    go_wp2
    exact bodyPost_ret (v := .tuple #[.agg #[.int .i64 0, .int .i64 0, .slice none 0 0], .bool false]) (by simp [results, Tryz.results17, go_sem, z0, z1, z2]) rfl (by rw [HNN.out]; exact ⟨_, rfl, RowM.empty _ _, below_set3 HB.out hZw.out _ _ _⟩)
  · have hN : dimN XS = XS := by unfold dimN; rw [← hg]; rfl
    have hl : XS.length = 5 := dimB_len hg.symm
    have HNN : Hid (RQ = (rN, rD, XS, true)) := by show _ = _; rw [HRES.out, ← hg]; rfl
    rw [hN] at HV ⊢
    have HW := hidU (RowM.own HV.out)
    rw [hl]
    rw [hl] at HV
    have HL5 := hidU hl
    clear hN hg hl
    have y0 := K6.out.cell (v := .int .i64 rN) 0 rfl
    have y1 := K6.out.cell (v := .int .i64 rD) 1 rfl
    have KZ := hidU (K3.out.set3 (.int .i64 rN) (.int .i64 rD) (.slice a5 5 c5))
    go_wp2
    obtain ⟨y0, y1, y2⟩ := KZ.out.c3
    have h9 : Kp Z (Z + 1) w5 (((w5.setCell ⟨Z, 0, none⟩ (.int .i64 rN)).setCell ⟨Z, 1, none⟩ (.int .i64 rD)).setCell ⟨Z, 2, none⟩ (.slice a5 5 c5)) := ((Kp.set _ _ (Nat.le_refl _) (Nat.lt_succ_self _)).trans (Kp.set _ _ (Nat.le_refl _) (Nat.lt_succ_self _))).trans (Kp.set _ _ (Nat.le_refl _) (Nat.lt_succ_self _))
    have h7 : RowM w5 X.heap.size w5.heap.size (.slice a5 5 c5) XS := by have h := HW.out; rw [HL5.out] at h; exact h
    have h8 := (h7.kp h9 (.inr HZX.out)).mono HBX.out h9.size
    exact bodyPost_ret (v := .tuple #[.agg #[.int .i64 rN, .int .i64 rD, .slice a5 5 c5], .bool true]) (by simp [results, Tryz.results17, go_sem, y0, y1, y2]) rfl (by rw [HNN.out]; exact ⟨_, rfl, h8, below_set3 HB.out hZw.out _ _ _⟩)
end Go.Proofs.YtnhefbhiemdhoaaGreat

/- The walk of the laws' copy of a list of numbers that came in. -/
namespace Go.Proofs.YtnhefbhiemdhoaaGreat
open Go.RowKit Go.Proofs.YtnhefbhiemdhoaaGreat.RM

/-- what is copied when k of n have been -/
def cpy (zs : List Int) (n k : Nat) : List Int := (List.range n).map (fun i => if i < k then zs[i]?.getD 0 else 0)
theorem cpy_len (zs : List Int) (n k : Nat) : (cpy zs n k).length = n := by simp [cpy]
theorem cpy_zero (zs : List Int) (n : Nat) : cpy zs n 0 = List.replicate n 0 := by
  apply List.ext_getElem
  · simp [cpy]
  · intro i h1 h2
    simp [cpy]
theorem cpy_all (zs : List Int) (n : Nat) (h : (zs.take n).length = n) : cpy zs n n = zs.take n := by
  apply List.ext_getElem
  · rw [h, cpy_len]
  · intro i h1 h2
    rw [cpy_len] at h1
    rw [List.length_take] at h
    simp [cpy, h1, List.getElem?_eq_getElem (show i < zs.length by omega)]
theorem cpy_set (zs : List Int) (n k : Nat) : (cpy zs n k).set k (zs[k]?.getD 0) = cpy zs n (k + 1) := by
  apply List.ext_getElem
  · simp [cpy]
  · intro i h1 h2
    simp only [cpy, List.getElem_set, List.getElem_map, List.getElem_range]
    by_cases e : k = i
    · subst e
      rw [if_pos rfl, if_pos (by omega)]
    · rw [if_neg e]
      by_cases h3 : i < k
      · rw [if_pos h3, if_pos (by omega)]
      · rw [if_neg h3, if_neg (by omega)]

end Go.Proofs.YtnhefbhiemdhoaaGreat

/- The laws' helpers over quantities: copied, measured, held against each other, marked. -/
namespace Go.Proofs.YtnhefbhiemdhoaaGreat
open Go.RowKit Go.Proofs.YtnhefbhiemdhoaaGreat.RM

theorem IsB.kp {W W' : World} {B lo hi : Nat} {vs : Array Value} {t : TypeId} (h : IsB W B vs t) (hk : Kp lo hi W W') (hr : B < lo ∨ hi ≤ B) : IsB W' B vs t := (hk.block B h.lt hr).trans h
theorem own_other {W : World} {base n b : Nat} {e : TypeId} {v : Value} {xs : List Value} (h : W.ownsRow base e 1 v n xs) (hb : b < base) (o : Nat) (x : Value) : (W.setCell ⟨b, o, none⟩ x).ownsRow base e 1 v n xs :=
  h.kept (row := some b) ⟨rfl, rfl, rfl, by simp, fun j _ hj => Below.heap_setCell W ⟨b, o, none⟩ x j (fun e => hj (by rw [e]))⟩ (.inr fun e' => by have := (h.lt b e').1; omega)

theorem row_len {a : Option Addr} {len cap : Nat} {zs : List Int} {w : World} (h : IsRow .i64 w a len cap zs) : (len : Int) ≤ 9223372036854775807 := by
  rcases h with ⟨rfl, _, _⟩ | ⟨b, off, _, h1, h2, _⟩
  · omega
  · unfold maxLen at h2; omega
theorem row_take {a : Option Addr} {len cap : Nat} {zs : List Int} {w : World} (h : IsRow .i64 w a len cap zs) : (zs.take len).length = len := by
  rcases h with ⟨rfl, _, _⟩ | ⟨b, off, _, h1, _, h3, _⟩
  · simp
  · rw [List.length_take]; omega

end Go.Proofs.YtnhefbhiemdhoaaGreat

/- What the law of quantities calls, each told in one way; what the numbers fulfil. -/
namespace Go.Proofs.YtnhefbhiemdhoaaGreat
open Go.RowKit Go.Proofs.YtnhefbhiemdhoaaGreat.RM

/-- a quantity is told, its list can be read -/
def QuaRd (q : Int × Int × List Int × Bool) (e : Ending) (w w' : World) : Prop :=
  ∃ a k c, e = .returned (.tuple #[.agg #[.int .i64 q.1, .int .i64 q.2.1, .slice a k c], .bool q.2.2.2]) ∧ RdU w' (.slice a k c) q.2.2.1 ∧ Below w.heap.size w w'
theorem QuaP.rd {w w' : World} {q : Int × Int × List Int × Bool} {e : Ending} (h : QuaP w q e w') : QuaRd q e w w' := by
  obtain ⟨v, he, hv, hb⟩ := h
  obtain ⟨a, c, rfl⟩ := hv.shape
  exact ⟨a, _, c, he, hv.rdU, hb⟩
theorem MeasP.rd {w w' : World} {q : Int × Int × List Int × Bool} {e : Ending} (h : MeasP w q e w') : QuaRd q e w w' := by
  obtain ⟨v, et, he, hv, hb⟩ := h
  obtain ⟨a, c, rfl⟩ := own_shape hv
  exact ⟨a, _, c, he, rdU_own hv, hb⟩
theorem iMeasQ (n d : Int) (s : ByteArray) (w : World) (h : DT 26 s) :
    Calls Tryz.prog 6 #[.agg #[.int .i64 n, .int .i64 d], .string s] w fun e w' => QuaRd (measI (n, d) s.data.toList) e w w' :=
  (iMeas_any n d s w (h.small (by decide)) h.lt).mono fun _ _ hq => QuaP.rd hq
theorem sMeasQ (n d : Int) (s : ByteArray) (w : World) (h : DT 26 s) :
    Calls Tryz.prog 12 #[.agg #[.int .i64 n, .int .i64 d], .string s] w fun e w' => QuaRd (measI (n, d) s.data.toList) e w w' :=
  (sMeasL n d s w h (by decide)).mono fun _ _ hq => MeasP.rd hq
theorem iPlusQ (n d m c : Int) (v u : Value) (ys zs : List Int) (w : World) (h0 : DimIn w v ys) (h1 : DimIn w u zs) :
    Calls Tryz.prog 8 #[.agg #[.int .i64 n, .int .i64 d, v], .agg #[.int .i64 m, .int .i64 c, u]] w fun e w' => QuaRd (plusQ n d ys m c zs) e w w' :=
  (iQPlus_any n d m c v u ys zs w h0 h1).mono fun _ _ hq => QuaP.rd hq
theorem sPlusQ (n d m c : Int) (v u : Value) (ys zs : List Int) (w : World) (h0 : DimIn w v ys) (h1 : DimIn w u zs) :
    Calls Tryz.prog 16 #[.agg #[.int .i64 n, .int .i64 d, v], .agg #[.int .i64 m, .int .i64 c, u]] w fun e w' => QuaRd (plusQ n d ys m c zs) e w w' :=
  (sQPlus_any n d m c v u ys zs w h0 h1).mono fun _ _ hq => QuaP.rd hq
theorem iProdQ (n d m c : Int) (v u : Value) (ys zs : List Int) (w : World) (h0 : DimIn w v ys) (h1 : DimIn w u zs) :
    Calls Tryz.prog 9 #[.agg #[.int .i64 n, .int .i64 d, v], .agg #[.int .i64 m, .int .i64 c, u]] w fun e w' => QuaRd (prodQ n d ys m c zs) e w w' :=
  (iQProd_any n d m c v u ys zs w h0 h1).mono fun _ _ hq => QuaP.rd hq
theorem sProdQ (n d m c : Int) (v u : Value) (ys zs : List Int) (w : World) (h0 : DimIn w v ys) (h1 : DimIn w u zs) :
    Calls Tryz.prog 17 #[.agg #[.int .i64 n, .int .i64 d, v], .agg #[.int .i64 m, .int .i64 c, u]] w fun e w' => QuaRd (prodQ n d ys m c zs) e w w' :=
  (sQProd_any n d m c v u ys zs w h0 h1).mono fun _ _ hq => QuaP.rd hq
theorem DimIn.rdU {w : World} {v : Value} {ys : List Int} (h : DimIn w v ys) (h5 : ys.length = 5) : RdU w v ys := by
  obtain ⟨base, et, ho⟩ := h.five h5
  exact rdU_own ho
theorem likeQua (n d : Int) (v u : Value) (xs : List Int) (w : World) (hl : xs.length ≤ 5) (h1 : RdU w v xs) (h2 : RdU w u xs) :
    Calls Tryz.prog 13 #[.agg #[.int .i64 n, .int .i64 d, v], .agg #[.int .i64 n, .int .i64 d, u]] w fun e w' => e = .returned (.bool true) ∧ Below w.heap.size w w' := by
  have HL := hidU (fun W (hW : Below w.heap.size w W) => likeSame v u xs W hl (h1.below hW) (h2.below hW))
  obtain ⟨a1, c1, rfl⟩ := h1.shape
  obtain ⟨a2, c2, rfl⟩ := h2.shape
  obtain ⟨k, hk⟩ : ∃ k, k = xs.length := ⟨_, rfl⟩
  rw [← hk] at HL ⊢
  clear hk h1 h2 hl
  go_enter Tryz.func13, Tryz.ntmps13
  go_wp2_with fail
  refine (HL.out _ ((b0_any w _).alloc (by simp) _)).mono ?_
  rintro e w1 ⟨rfl, hb⟩
  have HB := hidU (((b0_any w (.cells #[.int .i64 n, .int .i64 d, .slice a1 k c1] 30)).alloc (by simp) (.cells #[.int .i64 n, .int .i64 d, .slice a2 k c2] 30)).trans (hb.mono (by simp <;> omega)))
  clear hb
  go_wp2
  go_ret
  exact ⟨rfl, HB.out⟩
theorem plus_dims {n d m c : Int} {ys zs : List Int} (h : (plusQ n d ys m c zs).2.2.2 = true) : ys = zs ∧ (plusQ n d ys m c zs).2.2.1 = ys ∧ ys.length = 5 := by
  unfold plusQ at h ⊢
  cases hb : (dimB ys && dimB zs && decide (ys = zs) && opOk (two n d m c) (n * c + m * d) (d * c))
  · rw [hb] at h; cases h
  · simp only [Bool.and_eq_true, decide_eq_true_eq] at hb
    exact ⟨hb.1.2, rfl, dimB_len hb.1.1.1⟩
theorem prod_dims {n d m c : Int} {ys zs : List Int} (h : (prodQ n d ys m c zs).2.2.2 = true) : ansDimTimes ys zs = (prodQ n d ys m c zs).2.2.1 := by
  unfold prodQ at h ⊢
  cases hb : (dimB ys && dimB zs && dimB (List.zipWith (· + ·) ys zs) && opOk (two n d m c) (n * m) (d * c))
  · rw [hb] at h; cases h
  · simp only [Bool.and_eq_true] at hb
    unfold ansDimTimes
    rw [hb.1.1.1, hb.1.1.2]
    have e : dimN (List.zipWith (· + ·) ys zs) = List.zipWith (· + ·) ys zs := by unfold dimN; rw [if_pos hb.1.2]
    simp only [Bool.and_self, if_true]
    exact e
theorem zip_comm (ys zs : List Int) : List.zipWith (· + ·) ys zs = List.zipWith (· + ·) zs ys := by
  induction ys generalizing zs with
  | nil => cases zs <;> rfl
  | cons y ys ih =>
    cases zs with
    | nil => rfl
    | cons z zs => simp only [List.zipWith_cons_cons, ih zs, Int.add_comm y z]
theorem two_comm (a b c d : Int) : two a b c d = two c d a b := Bool.and_comm _ _
theorem prod_comm (n d m c : Int) (ys zs : List Int) : prodQ m c zs n d ys = prodQ n d ys m c zs := by
  unfold prodQ
  rw [two_comm m c n d, zip_comm zs ys, Int.mul_comm m n, Int.mul_comm c d, Bool.and_comm (dimB zs) (dimB ys)]
end Go.Proofs.YtnhefbhiemdhoaaGreat
