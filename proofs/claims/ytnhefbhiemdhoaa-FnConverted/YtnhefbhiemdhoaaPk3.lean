/- Several texts of this proof laid one behind the other: each has its own heading below. -/
import Derived.Test.YtnhefbhiemdhoaaPk2
import Derived.Test.YtnhefbhiemdhoaaRowsW
import Derived.Test.YtnhefbhiemdhoaaRatioW4
import Derived.Deep.RegionWith
import Derived.Test.YtnhefbhiemdhoaaRowsI
import Derived.Test.YtnhefbhiemdhoaaUnitR
import Derived.Test.YtnhefbhiemdhoaaUnitW5
import Derived.Test.YtnhefbhiemdhoaaPk1

/- The model's Converted and Dims. -/
namespace Go.Proofs.Ytnhefbhiemdhoaa
open Go.RowKit Go.Proofs.Ytnhefbhiemdhoaa.RM

def addC (f : Ca) (u : Int × Int) : Ca :=
  ((kN (opOk (two f.1.1 f.1.2 u.1 u.2) (f.1.1 * u.2 + u.1 * f.1.2) (f.1.2 * u.2)) (opN (two f.1.1 f.1.2 u.1 u.2) (f.1.1 * u.2 + u.1 * f.1.2) (f.1.2 * u.2)), kD (opOk (two f.1.1 f.1.2 u.1 u.2) (f.1.1 * u.2 + u.1 * f.1.2) (f.1.2 * u.2)) (opD (two f.1.1 f.1.2 u.1 u.2) (f.1.1 * u.2 + u.1 * f.1.2) (f.1.2 * u.2))), f.2 || !opOk (two f.1.1 f.1.2 u.1 u.2) (f.1.1 * u.2 + u.1 * f.1.2) (f.1.2 * u.2))
def subC (f : Ca) (u : Int × Int) : Ca :=
  ((kN (opOk (two f.1.1 f.1.2 u.1 u.2) (f.1.1 * u.2 - u.1 * f.1.2) (f.1.2 * u.2)) (opN (two f.1.1 f.1.2 u.1 u.2) (f.1.1 * u.2 - u.1 * f.1.2) (f.1.2 * u.2)), kD (opOk (two f.1.1 f.1.2 u.1 u.2) (f.1.1 * u.2 - u.1 * f.1.2) (f.1.2 * u.2)) (opD (two f.1.1 f.1.2 u.1 u.2) (f.1.1 * u.2 - u.1 * f.1.2) (f.1.2 * u.2))), f.2 || !opOk (two f.1.1 f.1.2 u.1 u.2) (f.1.1 * u.2 - u.1 * f.1.2) (f.1.2 * u.2))
/-- what has been reckoned, as it is told -/
def ansC (c : Ca) : Int × Int × Bool := if c.2 = true then (0, 0, false) else (c.1.1, c.1.2, true)
/-- what the model converts -/
def convM (v : Int × Int) (qs qt : Int × Int × List Int × Bool) (cs ct : Bool) : Int × Int × Bool :=
  if qs.2.2.2 = true ∧ qt.2.2.2 = true ∧ okB v.1 v.2 = true ∧ qs.2.2.1 = qt.2.2.1 then
    ansC (if ct then subC (divC (mulC (if cs then addC (v, false) (5463, 20) else (v, false)) (qs.1, qs.2.1)) (qt.1, qt.2.1)) (5463, 20) else divC (mulC (if cs then addC (v, false) (5463, 20) else (v, false)) (qs.1, qs.2.1)) (qt.1, qt.2.1))
  else (0, 0, false)
theorem IsB.gr {W W' : World} {B K : Nat} {vs : Array Value} {t : TypeId} (h : IsB W B vs t) (hg : W.grownBy W' (some K)) (hne : B ≠ K) : IsB W' B vs t := (hg.block B h.lt (by simpa using hne)).trans h

theorem l5Zero_any (w : World) :
    Calls Try.prog 34 #[] w fun e w' => e = .returned (.agg #[.int .i64 5463, .int .i64 20]) ∧ Below w.heap.size w w' := by
  go_enter Try.func34, Try.ntmps34
  go_wp2
  exact bodyPost_ret (v := .agg #[.int .i64 5463, .int .i64 20]) (by simp [results, Try.results34, go_sem]) rfl ⟨rfl, (Below.refl _ _).alloc (Nat.le_refl _) _⟩

set_option maxRecDepth 100000 in
set_option maxHeartbeats 1000000 in
theorem sDims_any (s : ByteArray) (w : World) (hs : s.size ≤ 1048576) :
    Calls Try.prog 16 #[.string s] w fun e w' => ∃ v et, e = .returned v ∧ w'.ownsRow w.heap.size et 1 v (ansU (unitM s.data.toList)).2.2.1.length ((ansU (unitM s.data.toList)).2.2.1.map (Value.int .i64)) ∧ Below w.heap.size w w' := by
  have b0 : ∀ (u : World) (o : Obj), Below u.heap.size u (u.alloc o) := fun u o => (Below.refl _ _).alloc (Nat.le_refl _) o
  have HU := hidU (fun W => sUnitOf_any s W hs)
  unfold UofP at HU
  obtain ⟨⟨n, d, xs, b⟩, hq⟩ : ∃ q, q = ansU (unitM s.data.toList) := ⟨_, rfl⟩
  rw [← hq] at HU ⊢
  clear hq
  simp only at HU ⊢
  go_enter Try.func16, Try.ntmps16
  go_wp2_with fail
  refine (HU.out _).mono ?_
  rintro e w1 ⟨v, et, rfl, o, hb⟩
  have HO := hidU (own_below o (b0 w1 (.cells #[.int .i64 n, .int .i64 d] 25)))
  have HB := hidU (hb.trans ((b0 w1 (.cells #[.int .i64 n, .int .i64 d] 25)).mono hb.size))
  clear o hb
  go_wp2
  go_ret
  exact ⟨v, et, rfl, HO.out, HB.out⟩

set_option maxRecDepth 100000 in
set_option maxHeartbeats 8000000 in
theorem sConverted_raw (vn vd : Int) (s t : ByteArray) (w : World) (hs : s.size ≤ 1048576) (ht : t.size ≤ 1048576) (cs ct : Bool) (hcs : (s.toList == [67]) = cs) (hct : (t.toList == [67]) = ct)
    (hls : ∀ q, q = ansU (unitM s.data.toList) → q.2.2.2 = true → q.2.2.1.length = 5) (hlt : ∀ q, q = ansU (unitM t.data.toList) → q.2.2.2 = true → q.2.2.1.length = 5) :
    Calls Try.prog 11 #[.agg #[.int .i64 vn, .int .i64 vd], .string s, .string t] w fun e w' => e = .returned (.tuple #[.agg #[.int .i64 (convM (vn, vd) (ansU (unitM s.data.toList)) (ansU (unitM t.data.toList)) cs ct).1, .int .i64 (convM (vn, vd) (ansU (unitM s.data.toList)) (ansU (unitM t.data.toList)) cs ct).2.1], .bool (convM (vn, vd) (ansU (unitM s.data.toList)) (ansU (unitM t.data.toList)) cs ct).2.2]) ∧ Below w.heap.size w w' := by
  have b0 : ∀ (u : World) (o : Obj), Below u.heap.size u (u.alloc o) := fun u o => (Below.refl _ _).alloc (Nat.le_refl _) o
  have HUS := hidU (fun W => sUnitOf_any s W hs)
  have HUT := hidU (fun W => sUnitOf_any t W ht)
  unfold UofP at HUS HUT
  obtain ⟨⟨fn, fd, xs, sb⟩, hqs⟩ : ∃ q, q = ansU (unitM s.data.toList) := ⟨_, rfl⟩
  obtain ⟨⟨gn, gd, ys, tb⟩, hqt⟩ : ∃ q, q = ansU (unitM t.data.toList) := ⟨_, rfl⟩
  have HLS := hidU (hls _ hqs)
  have HLT := hidU (hlt _ hqt)
  rw [← hqs] at HUS
  rw [← hqt] at HUT
  rw [← hqs, ← hqt]
  clear hqs hqt hls hlt
  simp only at HUS HUT HLS HLT
  have HOK := hidU (fun W => sOk_any vn vd W)
  obtain ⟨ok, hok⟩ : ∃ b, b = okB vn vd := ⟨_, rfl⟩
  rw [← hok] at HOK
  obtain ⟨g, hg⟩ : ∃ b, b = decide (xs = ys) := ⟨_, rfl⟩
  obtain ⟨RR, hRR⟩ : ∃ r, r = convM (vn, vd) (fn, fd, xs, sb) (gn, gd, ys, tb) cs ct := ⟨_, rfl⟩
  have HNO : Hid (sb = false ∨ tb = false ∨ ok = false ∨ g = false → RR = (0, 0, false)) := by
    intro h
    rw [hRR]
    unfold convM
    rw [if_neg]
    rintro ⟨h1, h2, h3, h4⟩
    simp only at h1 h2 h3 h4
    rcases h with h | h | h | h
    · rw [h1] at h; cases h
    · rw [h2] at h; cases h
    · rw [hok, h3] at h; cases h
    · rw [hg, decide_eq_true h4] at h; cases h
  have HYES : Hid (sb = true → tb = true → ok = true → g = true → RR = ansC (if ct then subC (divC (mulC (if cs then addC ((vn, vd), false) (5463, 20) else ((vn, vd), false)) (fn, fd)) (gn, gd)) (5463, 20) else divC (mulC (if cs then addC ((vn, vd), false) (5463, 20) else ((vn, vd), false)) (fn, fd)) (gn, gd))) := by
    intro h1 h2 h3 h4
    rw [hRR]
    unfold convM
    rw [if_pos ⟨h1, h2, by rw [← hok]; exact h3, of_decide_eq_true (by rw [← hg]; exact h4)⟩]
  rw [← hRR]
  have HG := hidU hg
  clear hRR hok hg hs ht
  go_enter Try.func11, Try.ntmps11
  go_wp2_with fail
  refine (HUS.out _).mono ?_
  rintro e w1 ⟨lv, let1, rfl, ol, hb⟩
  obtain ⟨V, hVe⟩ : ∃ Z, Z = w.heap.size := ⟨_, rfl⟩
  have k1 : IsB w1 V #[.int .i64 vn, .int .i64 vd] 25 := by rw [hVe]; exact ((IsB.new w _ _).below (b0 _ _)).below hb
  have k2 : IsB w1 (V + 1) #[.int .i64 0, .int .i64 0] 25 := by rw [hVe]; exact (IsB.new2c w _ _ _).below hb
  have hB : Below w.heap.size w w1 := ((b0 _ _).alloc (by simp) _).trans (hb.mono (by simp; omega))
  have hVw : w.heap.size ≤ V := Nat.le_of_eq hVe.symm
  rw [← hVe]
  clear hb hVe
  obtain ⟨Z, hZ⟩ : ∃ Z, Z = V + 1 := ⟨_, rfl⟩
  rw [← hZ] at k2 ⊢
  have HNE := hidU (show w.heap.size ≤ V ∧ w.heap.size ≤ Z ∧ Z ≠ V by omega)
  have K1 := hidU k1
  have K2 := hidU k2
  have HB := hidU hB
  have HOL := hidU ol
  clear k1 k2 hB hVw hZ ol
  go_upto_region 2 with fail
  obtain ⟨X, hX⟩ : ∃ X, X = w1.alloc (.cells #[.int .i64 fn, .int .i64 fd] 25) := ⟨_, rfl⟩
  obtain ⟨F, hF⟩ : ∃ G, G = w1.heap.size := ⟨_, rfl⟩
  have hb : Below w1.heap.size w1 X := by rw [hX]; exact b0 _ _
  have HF : Hid (IsB X F #[.int .i64 fn, .int .i64 fd] 25) := by show IsB _ _ _ _; rw [hX, hF]; exact IsB.new _ _ _
  have HFV : Hid (F ≠ V) := by have := K1.out.lt; show _ ≠ _; rw [hF]; omega
  replace K1 := hidU (K1.out.below hb)
  replace K2 := hidU (K2.out.below hb)
  replace HOL := hidU (own_below HOL.out hb)
  replace HB := hidU (HB.out.trans (hb.mono HB.out.size))
  rw [← hX, ← hF]
  clear hb hX hF
  go_wp2_with fail
  refine (HUT.out _).mono ?_
  rintro e w2 ⟨rv, let2, rfl, orr, hb⟩
  replace K1 := hidU (K1.out.below hb)
  replace K2 := hidU (K2.out.below hb)
  replace HF := hidU (HF.out.below hb)
  replace HOL := hidU (own_below HOL.out hb)
  replace HB := hidU (HB.out.trans (hb.mono HB.out.size))
  have HOR := hidU orr
  clear hb orr
  go_upto_region 3 with fail
  obtain ⟨Y, hY⟩ : ∃ X, X = w2.alloc (.cells #[.int .i64 gn, .int .i64 gd] 25) := ⟨_, rfl⟩
  obtain ⟨G, hG⟩ : ∃ G, G = w2.heap.size := ⟨_, rfl⟩
  have hb : Below w2.heap.size w2 Y := by rw [hY]; exact b0 _ _
  have HGB : Hid (IsB Y G #[.int .i64 gn, .int .i64 gd] 25) := by show IsB _ _ _ _; rw [hY, hG]; exact IsB.new _ _ _
  have HGV : Hid (G ≠ V) := by have := K1.out.lt; show _ ≠ _; rw [hG]; omega
  replace K1 := hidU (K1.out.below hb)
  replace K2 := hidU (K2.out.below hb)
  replace HF := hidU (HF.out.below hb)
  replace HOL := hidU (own_below HOL.out hb)
  replace HOR := hidU (own_below HOR.out hb)
  replace HB := hidU (HB.out.trans (hb.mono HB.out.size))
  rw [← hY, ← hG]
  clear hb hY hG
  cases sb
  · have HNN := hidU (HNO.out (.inl rfl))
    obtain ⟨z0, z1⟩ := K2.out.c2
    obtain ⟨f0, f1⟩ := K2.out.f2
    have KZ := hidU (K2.out.set2 (.int .i64 0) (.int .i64 0))
    have HBZ := hidU (below_set2 HB.out HNE.out.2.1 (.int .i64 0) (.int .i64 0))
    go_wp2
    obtain ⟨y0, y1⟩ := KZ.out.c2
    exact bodyPost_ret (v := .tuple #[.agg #[.int .i64 0, .int .i64 0], .bool false]) (by simp [results, Try.results11, go_sem, y0, y1]) rfl (by rw [HNN.out]; exact ⟨rfl, HBZ.out⟩)
  cases tb
  · have HNN := hidU (HNO.out (.inr (.inl rfl)))
    obtain ⟨z0, z1⟩ := K2.out.c2
    obtain ⟨f0, f1⟩ := K2.out.f2
    have KZ := hidU (K2.out.set2 (.int .i64 0) (.int .i64 0))
    have HBZ := hidU (below_set2 HB.out HNE.out.2.1 (.int .i64 0) (.int .i64 0))
    go_wp2
    obtain ⟨y0, y1⟩ := KZ.out.c2
    exact bodyPost_ret (v := .tuple #[.agg #[.int .i64 0, .int .i64 0], .bool false]) (by simp [results, Try.results11, go_sem, y0, y1]) rfl (by rw [HNN.out]; exact ⟨rfl, HBZ.out⟩)
  have hl5 : xs.length = 5 := HLS.out rfl
  have hr5 : ys.length = 5 := HLT.out rfl
  obtain ⟨v0, v1⟩ := K1.out.c2
  have HL5 := hidU hl5
  have HR5 := hidU hr5
  clear hl5 hr5 HLS HLT
  go_wp2_with fail
  refine (HOK.out _).mono ?_
  rintro e w3 ⟨rfl, hb⟩
  replace K1 := hidU (K1.out.below hb)
  replace K2 := hidU (K2.out.below hb)
  replace HF := hidU (HF.out.below hb)
  replace HGB := hidU (HGB.out.below hb)
  replace HOL := hidU (own_below HOL.out hb)
  replace HOR := hidU (own_below HOR.out hb)
  replace HB := hidU (HB.out.trans (hb.mono HB.out.size))
  clear hb v0 v1
  cases ok
  · have HNN := hidU (HNO.out (.inr (.inr (.inl (by simp)))))
    obtain ⟨z0, z1⟩ := K2.out.c2
    obtain ⟨f0, f1⟩ := K2.out.f2
    have KZ := hidU (K2.out.set2 (.int .i64 0) (.int .i64 0))
    have HBZ := hidU (below_set2 HB.out HNE.out.2.1 (.int .i64 0) (.int .i64 0))
    go_wp2
    obtain ⟨y0, y1⟩ := KZ.out.c2
    exact bodyPost_ret (v := .tuple #[.agg #[.int .i64 0, .int .i64 0], .bool false]) (by simp [results, Try.results11, go_sem, y0, y1]) rfl (by rw [HNN.out]; exact ⟨rfl, HBZ.out⟩)
  have HSM : Hid (∀ W : World, Below w3.heap.size w3 W → Calls Try.prog 32 #[lv, rv] W fun e w' => e = .returned (.bool g) ∧ Below W.heap.size W w') := by
    intro W hW
    refine (sSame_any lv rv xs ys 5 _ _ _ _ W HL5.out HR5.out (by omega) ((RowM.own HOL.out).below hW) ((RowM.own HOR.out).below hW)).mono ?_
    rintro e w' ⟨rfl, m, rfl⟩
    exact ⟨by rw [HG.out], below_drewN (Below.refl _ _) _⟩
  go_wp2_with fail
  refine (HSM.out _ (Below.refl _ _)).mono ?_
  rintro e w4 ⟨rfl, hb⟩
  replace K1 := hidU (K1.out.below hb)
  replace K2 := hidU (K2.out.below hb)
  replace HF := hidU (HF.out.below hb)
  replace HGB := hidU (HGB.out.below hb)
  replace HB := hidU (HB.out.trans (hb.mono HB.out.size))
  clear hb HSM HOL HOR
  cases g
  · have HNN := hidU (HNO.out (.inr (.inr (.inr (by simp)))))
    obtain ⟨z0, z1⟩ := K2.out.c2
    obtain ⟨f0, f1⟩ := K2.out.f2
    have KZ := hidU (K2.out.set2 (.int .i64 0) (.int .i64 0))
    have HBZ := hidU (below_set2 HB.out HNE.out.2.1 (.int .i64 0) (.int .i64 0))
    go_wp2
    obtain ⟨y0, y1⟩ := KZ.out.c2
    exact bodyPost_ret (v := .tuple #[.agg #[.int .i64 0, .int .i64 0], .bool false]) (by simp [results, Try.results11, go_sem, y0, y1]) rfl (by rw [HNN.out]; exact ⟨rfl, HBZ.out⟩)
  have HRES := hidU (HYES.out (by simp) (by simp) (by simp) (by simp))
  clear HNO HYES HG
  go_upto_region 6 with fail
  obtain ⟨T0, hT⟩ : ∃ X, X = w4.alloc (.cells #[.bool false] 59) := ⟨_, rfl⟩
  obtain ⟨K, hK⟩ : ∃ G, G = w4.heap.size := ⟨_, rfl⟩
  have hb : Below w4.heap.size w4 T0 := by rw [hT]; exact b0 _ _
  have HKK : Hid (IsK T0 K false) := by show IsK _ _ _; rw [hT, hK]; exact IsK.new _ _
  have HNK : Hid (V ≠ K ∧ Z ≠ K ∧ F ≠ K ∧ G ≠ K ∧ w.heap.size ≤ K) := by
    have h1 := K1.out.lt
    have h2 := K2.out.lt
    have h3 := HF.out.lt
    have h4 := HGB.out.lt
    have h5 := HB.out.size
    show _ ∧ _
    rw [hK]
    omega
  replace K1 := hidU (K1.out.below hb)
  replace K2 := hidU (K2.out.below hb)
  replace HF := hidU (HF.out.below hb)
  replace HGB := hidU (HGB.out.below hb)
  replace HB := hidU (HB.out.trans (hb.mono HB.out.size))
  rw [← hT, ← hK]
  clear hb hT hK
  have HADD : Hid (∀ (W : World) (f : Ca) (u : Int × Int), IsK W K f.2 → Calls Try.prog 33 #[.pointer (some ⟨K, 0, none⟩), .agg #[.int .i64 f.1.1, .int .i64 f.1.2], .agg #[.int .i64 u.1, .int .i64 u.2]] W fun e w' => e = .returned (.agg #[.int .i64 (addC f u).1.1, .int .i64 (addC f u).1.2]) ∧ IsK w' K (addC f u).2 ∧ W.grownBy w' (some K)) := fun W f u h => cAdd_any K f.2 f.1.1 f.1.2 u.1 u.2 W h
  have HSUB : Hid (∀ (W : World) (f : Ca) (u : Int × Int), IsK W K f.2 → Calls Try.prog 37 #[.pointer (some ⟨K, 0, none⟩), .agg #[.int .i64 f.1.1, .int .i64 f.1.2], .agg #[.int .i64 u.1, .int .i64 u.2]] W fun e w' => e = .returned (.agg #[.int .i64 (subC f u).1.1, .int .i64 (subC f u).1.2]) ∧ IsK w' K (subC f u).2 ∧ W.grownBy w' (some K)) := fun W f u h => cSub_any K f.2 f.1.1 f.1.2 u.1 u.2 W h
  have HMUL : Hid (∀ (W : World) (f : Ca) (u : Int × Int), IsK W K f.2 → Calls Try.prog 36 #[.pointer (some ⟨K, 0, none⟩), .agg #[.int .i64 f.1.1, .int .i64 f.1.2], .agg #[.int .i64 u.1, .int .i64 u.2]] W fun e w' => e = .returned (.agg #[.int .i64 (mulC f u).1.1, .int .i64 (mulC f u).1.2]) ∧ IsK w' K (mulC f u).2 ∧ W.grownBy w' (some K)) := fun W f u h => cMul_any K f.2 f.1.1 f.1.2 u.1 u.2 W h
  have HDIV : Hid (∀ (W : World) (f : Ca) (u : Int × Int), IsK W K f.2 → Calls Try.prog 35 #[.pointer (some ⟨K, 0, none⟩), .agg #[.int .i64 f.1.1, .int .i64 f.1.2], .agg #[.int .i64 u.1, .int .i64 u.2]] W fun e w' => e = .returned (.agg #[.int .i64 (divC f u).1.1, .int .i64 (divC f u).1.2]) ∧ IsK w' K (divC f u).2 ∧ W.grownBy w' (some K)) := fun W f u h => cDiv_any K f.2 f.1.1 f.1.2 u.1 u.2 W h
  cases cs
  · replace HRES := hidU HRES.out
    simp only [Bool.false_eq_true, if_false] at HRES
    go_upto_region 8 with fail
    refine wp_region_noPanic ?_
    have hb := (Below.refl T0.heap.size T0).drew
    replace K1 := hidU (K1.out.below hb)
    replace K2 := hidU (K2.out.below hb)
    replace HF := hidU (HF.out.below hb)
    replace HGB := hidU (HGB.out.below hb)
    replace HKK := hidU (HKK.out.below hb)
    replace HB := hidU (HB.out.trans (hb.mono HB.out.size))
    clear hb
    refine wp_region_held_drew (S := fun W => IsB W F #[.int .i64 fn, .int .i64 fd] 25 ∧ IsB W G #[.int .i64 gn, .int .i64 gd] 25) (by kernel_rfl) ⟨HF.out, HGB.out⟩ (fun hHeld => ?_)
    obtain ⟨t1, hwd⟩ : ∃ u, u = T0.drew := ⟨_, rfl⟩
    rw [← hwd] at K1 K2 HF HGB HKK HB hHeld ⊢
    clear hwd
    refine wpAnyH_take (i := 0) (v := ?_) rfl (by kernel_rfl) (by kernel_rfl) (by kernel_rfl) (fun _ _ _ h => h) (Or.inl ⟨by kernel_rfl, ?_⟩) hHeld ?_
    rotate_left
    · intro wz hSw; obtain ⟨hS1, hS2⟩ := hSw; obtain ⟨p0, p1⟩ := hS1.c2; obtain ⟨q0, q1⟩ := hS2.c2; clear hS1 hS2; go_simp; all_goals (try with_reducible rfl)
    (try simp only [List.getElem_toArray]); (try simp only [List.getElem_cons_succ]); (try simp only [List.getElem_cons_zero]); (try simp only [Act.put]); (try simp only [List.setIfInBounds_toArray]); (try simp only [List.set_cons_succ]); (try simp only [List.set_cons_zero])
    refine wpAnyH_take (i := 1) (v := ?_) rfl (by kernel_rfl) (by kernel_rfl) (by kernel_rfl) (fun _ _ _ h => h) (Or.inl ⟨by kernel_rfl, ?_⟩) hHeld ?_
    rotate_left
    · intro wz hSw; obtain ⟨hS1, hS2⟩ := hSw; obtain ⟨p0, p1⟩ := hS1.c2; obtain ⟨q0, q1⟩ := hS2.c2; clear hS1 hS2; go_simp; all_goals (try with_reducible rfl)
    (try simp only [List.getElem_toArray]); (try simp only [List.getElem_cons_succ]); (try simp only [List.getElem_cons_zero]); (try simp only [Act.put]); (try simp only [List.setIfInBounds_toArray]); (try simp only [List.set_cons_succ]); (try simp only [List.set_cons_zero])
    refine wpAnyH_take (i := 3) (v := ?_) rfl (by kernel_rfl) (by kernel_rfl) (by kernel_rfl) (fun _ _ _ h => h) (Or.inl ⟨by kernel_rfl, ?_⟩) hHeld ?_
    rotate_left
    · intro wz hSw; obtain ⟨hS1, hS2⟩ := hSw; obtain ⟨p0, p1⟩ := hS1.c2; obtain ⟨q0, q1⟩ := hS2.c2; clear hS1 hS2; go_simp; all_goals (try with_reducible rfl)
    (try simp only [List.getElem_toArray]); (try simp only [List.getElem_cons_succ]); (try simp only [List.getElem_cons_zero]); (try simp only [Act.put]); (try simp only [List.setIfInBounds_toArray]); (try simp only [List.set_cons_succ]); (try simp only [List.set_cons_zero])
    refine wpAnyH_take (i := 5) (v := ?_) rfl (by kernel_rfl) (by kernel_rfl) (by kernel_rfl) (fun _ _ _ h => h) (Or.inl ⟨by kernel_rfl, ?_⟩) hHeld ?_
    rotate_left
    · intro wz hSw; obtain ⟨hS1, hS2⟩ := hSw; obtain ⟨p0, p1⟩ := hS1.c2; obtain ⟨q0, q1⟩ := hS2.c2; clear hS1 hS2; go_simp; all_goals (try with_reducible rfl)
    (try simp only [List.getElem_toArray]); (try simp only [List.getElem_cons_succ]); (try simp only [List.getElem_cons_zero]); (try simp only [Act.put]); (try simp only [List.setIfInBounds_toArray]); (try simp only [List.set_cons_succ]); (try simp only [List.set_cons_zero])
    refine wpAnyH_ready (rs := [2]) (by kernel_rfl) (by simp) (AllReadyH.cons rfl (fun Kc hKc => ?_) AllReadyH.nil)
    obtain ⟨v0, v1⟩ := K1.out.c2
    go_simp
    refine hKc.out _ _ ⟨HF.out, HGB.out⟩ (fun hHeld => ?_)
    clear hKc Kc v0 v1
    (try simp only [List.getElem_toArray]); (try simp only [List.getElem_cons_succ]); (try simp only [List.getElem_cons_zero]); (try simp only [Act.put]); (try simp only [List.setIfInBounds_toArray]); (try simp only [List.set_cons_succ]); (try simp only [List.set_cons_zero])
    refine wpAnyH_ready (rs := [4]) (by kernel_rfl) (by simp) (AllReadyH.cons rfl (fun Kc hKc => ?_) AllReadyH.nil)
    go_simp
    refine (HMUL.out _ (((vn, vd), false)) (fn, fd) HKK.out).mono ?_
    rintro e t2 ⟨rfl, hkk, hg⟩
    replace K1 := hidU (K1.out.gr hg HNK.out.1)
    replace K2 := hidU (K2.out.gr hg HNK.out.2.1)
    replace HF := hidU (HF.out.gr hg HNK.out.2.2.1)
    replace HGB := hidU (HGB.out.gr hg HNK.out.2.2.2.1)
    replace HKK := hidU hkk
    replace HB := hidU (HB.out.trans (below_grownK hg HNK.out.2.2.2.2 HB.out.size))
    clear hkk hg
    go_wp2_with fail
    refine hKc.out _ _ ⟨HF.out, HGB.out⟩ (fun hHeld => ?_)
    clear hKc Kc
    (try simp only [List.getElem_toArray]); (try simp only [List.getElem_cons_succ]); (try simp only [List.getElem_cons_zero]); (try simp only [Act.put]); (try simp only [List.setIfInBounds_toArray]); (try simp only [List.set_cons_succ]); (try simp only [List.set_cons_zero])
    refine wpAnyH_ready (rs := [6]) (by kernel_rfl) (by simp) (AllReadyH.cons rfl (fun Kc hKc => ?_) AllReadyH.nil)
    go_simp
    refine (HDIV.out _ (mulC (((vn, vd), false)) (fn, fd)) (gn, gd) HKK.out).mono ?_
    rintro e t3 ⟨rfl, hkk, hg⟩
    replace K1 := hidU (K1.out.gr hg HNK.out.1)
    replace K2 := hidU (K2.out.gr hg HNK.out.2.1)
    replace HF := hidU (HF.out.gr hg HNK.out.2.2.1)
    replace HGB := hidU (HGB.out.gr hg HNK.out.2.2.2.1)
    replace HKK := hidU hkk
    replace HB := hidU (HB.out.trans (below_grownK hg HNK.out.2.2.2.2 HB.out.size))
    clear hkk hg
    go_wp2_with fail
    refine hKc.out _ _ ⟨HF.out, HGB.out⟩ (fun hHeld => ?_)
    clear hKc Kc
    (try simp only [List.getElem_toArray]); (try simp only [List.getElem_cons_succ]); (try simp only [List.getElem_cons_zero]); (try simp only [Act.put]); (try simp only [List.setIfInBounds_toArray]); (try simp only [List.set_cons_succ]); (try simp only [List.set_cons_zero])
    obtain ⟨v0, v1⟩ := K1.out.c2
    obtain ⟨f0, f1⟩ := K1.out.f2
    replace K2 := hidU (K2.out.other2 HNE.out.2.2 (.int .i64 (divC (mulC (((vn, vd), false)) (fn, fd)) (gn, gd)).1.1) (.int .i64 (divC (mulC (((vn, vd), false)) (fn, fd)) (gn, gd)).1.2))
    replace HF := hidU (HF.out.other2 HFV.out (.int .i64 (divC (mulC (((vn, vd), false)) (fn, fd)) (gn, gd)).1.1) (.int .i64 (divC (mulC (((vn, vd), false)) (fn, fd)) (gn, gd)).1.2))
    replace HGB := hidU (HGB.out.other2 HGV.out (.int .i64 (divC (mulC (((vn, vd), false)) (fn, fd)) (gn, gd)).1.1) (.int .i64 (divC (mulC (((vn, vd), false)) (fn, fd)) (gn, gd)).1.2))
    replace HKK := hidU ((HKK.out.other (Ne.symm HNK.out.1) 0 (.int .i64 (divC (mulC (((vn, vd), false)) (fn, fd)) (gn, gd)).1.1)).other (Ne.symm HNK.out.1) 1 (.int .i64 (divC (mulC (((vn, vd), false)) (fn, fd)) (gn, gd)).1.2))
    have K1b := hidU (K1.out.set2 (.int .i64 (divC (mulC (((vn, vd), false)) (fn, fd)) (gn, gd)).1.1) (.int .i64 (divC (mulC (((vn, vd), false)) (fn, fd)) (gn, gd)).1.2))
    replace HB := hidU (below_set2 HB.out HNE.out.1 (.int .i64 (divC (mulC (((vn, vd), false)) (fn, fd)) (gn, gd)).1.1) (.int .i64 (divC (mulC (((vn, vd), false)) (fn, fd)) (gn, gd)).1.2))
    refine wpAnyH_ready (rs := [7]) (by kernel_rfl) (by simp) (AllReadyH.cons rfl (fun Kc hKc => ?_) AllReadyH.nil)
    go_simp
    refine hKc.out _ _ ⟨HF.out, HGB.out⟩ (fun hHeld => ?_)
    clear hKc Kc v0 v1 f0 f1 K1
    (try simp only [List.getElem_toArray]); (try simp only [List.getElem_cons_succ]); (try simp only [List.getElem_cons_zero]); (try simp only [Act.put]); (try simp only [List.setIfInBounds_toArray]); (try simp only [List.set_cons_succ]); (try simp only [List.set_cons_zero])
    have K1 := K1b
    clear K1b
    refine wpAnyH_done (by kernel_rfl) ?_ _
    refine NoPanic.normal ?_
    obtain ⟨t4, hwd⟩ : ∃ u, u = (t3.setCell ⟨V, 0, none⟩ (.int .i64 (divC (mulC (((vn, vd), false)) (fn, fd)) (gn, gd)).1.1)).setCell ⟨V, 1, none⟩ (.int .i64 (divC (mulC (((vn, vd), false)) (fn, fd)) (gn, gd)).1.2) := ⟨_, rfl⟩
    rw [← hwd] at K1 K2 HF HGB HKK HB ⊢
    clear hwd
    cases ct
    · replace HRES := hidU HRES.out
      simp only [Bool.false_eq_true, if_false] at HRES
      obtain ⟨⟨⟨cn, cd⟩, cb⟩, hC⟩ : ∃ c, c = divC (mulC (((vn, vd), false)) (fn, fd)) (gn, gd) := ⟨_, rfl⟩
      rw [← hC] at HKK HRES K1
      clear hC
      have kc := HKK.out.cell
      obtain ⟨z0, z1⟩ := K2.out.c2
      obtain ⟨f0, f1⟩ := K2.out.f2
      obtain ⟨v0, v1⟩ := K1.out.c2
      cases cb
      · have HNN : Hid (RR = (cn, cd, true)) := HRES.out
        have KZ := hidU (K2.out.set2 (.int .i64 cn) (.int .i64 cd))
        have HBZ := hidU (below_set2 HB.out HNE.out.2.1 (.int .i64 cn) (.int .i64 cd))
        go_wp2
        obtain ⟨y0, y1⟩ := KZ.out.c2
        exact bodyPost_ret (v := .tuple #[.agg #[.int .i64 cn, .int .i64 cd], .bool true]) (by simp [results, Try.results11, go_sem, y0, y1]) rfl (by rw [HNN.out]; exact ⟨rfl, HBZ.out⟩)
      · have HNN : Hid (RR = (0, 0, false)) := HRES.out
        have KZ := hidU (K2.out.set2 (.int .i64 0) (.int .i64 0))
        have HBZ := hidU (below_set2 HB.out HNE.out.2.1 (.int .i64 0) (.int .i64 0))
        go_wp2
        obtain ⟨y0, y1⟩ := KZ.out.c2
        exact bodyPost_ret (v := .tuple #[.agg #[.int .i64 0, .int .i64 0], .bool false]) (by simp [results, Try.results11, go_sem, y0, y1]) rfl (by rw [HNN.out]; exact ⟨rfl, HBZ.out⟩)
    · replace HRES := hidU HRES.out
      simp only [if_true] at HRES
      go_upto_region 10 with fail
      refine wp_region_noPanic ?_
      have hb := (Below.refl t4.heap.size t4).drew
      replace K1 := hidU (K1.out.below hb)
      replace K2 := hidU (K2.out.below hb)
      replace HF := hidU (HF.out.below hb)
      replace HGB := hidU (HGB.out.below hb)
      replace HKK := hidU (HKK.out.below hb)
      replace HB := hidU (HB.out.trans (hb.mono HB.out.size))
      clear hb
      refine wp_region_held_drew (S := fun _ => True) (by kernel_rfl) trivial (fun hHeld => ?_)
      obtain ⟨t5, hwd⟩ : ∃ u, u = t4.drew := ⟨_, rfl⟩
      rw [← hwd] at K1 K2 HF HGB HKK HB ⊢
      clear hwd
      refine wpAnyH_take (i := 0) (v := ?_) rfl (by kernel_rfl) (by kernel_rfl) (by kernel_rfl) (fun _ _ _ h => h) (Or.inl ⟨by kernel_rfl, ?_⟩) hHeld ?_
      rotate_left
      · intro wz hSw; (try dsimp only at hSw); go_simp; all_goals (try with_reducible rfl)
      (try simp only [List.getElem_toArray]); (try simp only [List.getElem_cons_succ]); (try simp only [List.getElem_cons_zero]); (try simp only [Act.put]); (try simp only [List.setIfInBounds_toArray]); (try simp only [List.set_cons_succ]); (try simp only [List.set_cons_zero])
      refine wpAnyH_ready (rs := [1, 2]) (by kernel_rfl) (by simp) (AllReadyH.cons rfl (fun Kc hKc => ?_) (AllReadyH.cons rfl (fun Kc hKc => ?_) AllReadyH.nil))
      · obtain ⟨v0, v1⟩ := K1.out.c2
        go_simp
        refine hKc.out _ _ trivial (fun hHeld => ?_)
        clear hKc Kc v0 v1
        (try simp only [List.getElem_toArray]); (try simp only [List.getElem_cons_succ]); (try simp only [List.getElem_cons_zero]); (try simp only [Act.put]); (try simp only [List.setIfInBounds_toArray]); (try simp only [List.set_cons_succ]); (try simp only [List.set_cons_zero])
        refine wpAnyH_ready (rs := [2]) (by kernel_rfl) (by simp) (AllReadyH.cons rfl (fun Kc hKc => ?_) AllReadyH.nil)
        go_simp
        refine (l5Zero_any _).mono ?_
        rintro e t6 ⟨rfl, hb⟩
        replace K1 := hidU (K1.out.below hb)
        replace K2 := hidU (K2.out.below hb)
        replace HF := hidU (HF.out.below hb)
        replace HGB := hidU (HGB.out.below hb)
        replace HKK := hidU (HKK.out.below hb)
        replace HB := hidU (HB.out.trans (hb.mono HB.out.size))
        clear hb
        go_wp2_with fail
        refine hKc.out _ _ trivial (fun hHeld => ?_)
        clear hKc Kc
        (try simp only [List.getElem_toArray]); (try simp only [List.getElem_cons_succ]); (try simp only [List.getElem_cons_zero]); (try simp only [Act.put]); (try simp only [List.setIfInBounds_toArray]); (try simp only [List.set_cons_succ]); (try simp only [List.set_cons_zero])
        refine wpAnyH_ready (rs := [3]) (by kernel_rfl) (by simp) (AllReadyH.cons rfl (fun Kc hKc => ?_) AllReadyH.nil)
        go_simp
        refine (HSUB.out _ (divC (mulC (((vn, vd), false)) (fn, fd)) (gn, gd)) (5463, 20) HKK.out).mono ?_
        rintro e t7 ⟨rfl, hkk, hg⟩
        replace K1 := hidU (K1.out.gr hg HNK.out.1)
        replace K2 := hidU (K2.out.gr hg HNK.out.2.1)
        replace HF := hidU (HF.out.gr hg HNK.out.2.2.1)
        replace HGB := hidU (HGB.out.gr hg HNK.out.2.2.2.1)
        replace HKK := hidU hkk
        replace HB := hidU (HB.out.trans (below_grownK hg HNK.out.2.2.2.2 HB.out.size))
        clear hkk hg
        go_wp2_with fail
        refine hKc.out _ _ trivial (fun hHeld => ?_)
        clear hKc Kc
        (try simp only [List.getElem_toArray]); (try simp only [List.getElem_cons_succ]); (try simp only [List.getElem_cons_zero]); (try simp only [Act.put]); (try simp only [List.setIfInBounds_toArray]); (try simp only [List.set_cons_succ]); (try simp only [List.set_cons_zero])
        obtain ⟨v0, v1⟩ := K1.out.c2
        obtain ⟨f0, f1⟩ := K1.out.f2
        replace K2 := hidU (K2.out.other2 HNE.out.2.2 (.int .i64 (subC (divC (mulC (((vn, vd), false)) (fn, fd)) (gn, gd)) (5463, 20)).1.1) (.int .i64 (subC (divC (mulC (((vn, vd), false)) (fn, fd)) (gn, gd)) (5463, 20)).1.2))
        replace HF := hidU (HF.out.other2 HFV.out (.int .i64 (subC (divC (mulC (((vn, vd), false)) (fn, fd)) (gn, gd)) (5463, 20)).1.1) (.int .i64 (subC (divC (mulC (((vn, vd), false)) (fn, fd)) (gn, gd)) (5463, 20)).1.2))
        replace HGB := hidU (HGB.out.other2 HGV.out (.int .i64 (subC (divC (mulC (((vn, vd), false)) (fn, fd)) (gn, gd)) (5463, 20)).1.1) (.int .i64 (subC (divC (mulC (((vn, vd), false)) (fn, fd)) (gn, gd)) (5463, 20)).1.2))
        replace HKK := hidU ((HKK.out.other (Ne.symm HNK.out.1) 0 (.int .i64 (subC (divC (mulC (((vn, vd), false)) (fn, fd)) (gn, gd)) (5463, 20)).1.1)).other (Ne.symm HNK.out.1) 1 (.int .i64 (subC (divC (mulC (((vn, vd), false)) (fn, fd)) (gn, gd)) (5463, 20)).1.2))
        have K1b := hidU (K1.out.set2 (.int .i64 (subC (divC (mulC (((vn, vd), false)) (fn, fd)) (gn, gd)) (5463, 20)).1.1) (.int .i64 (subC (divC (mulC (((vn, vd), false)) (fn, fd)) (gn, gd)) (5463, 20)).1.2))
        replace HB := hidU (below_set2 HB.out HNE.out.1 (.int .i64 (subC (divC (mulC (((vn, vd), false)) (fn, fd)) (gn, gd)) (5463, 20)).1.1) (.int .i64 (subC (divC (mulC (((vn, vd), false)) (fn, fd)) (gn, gd)) (5463, 20)).1.2))
        refine wpAnyH_ready (rs := [4]) (by kernel_rfl) (by simp) (AllReadyH.cons rfl (fun Kc hKc => ?_) AllReadyH.nil)
        go_simp
        refine hKc.out _ _ trivial (fun hHeld => ?_)
        clear hKc Kc v0 v1 f0 f1 K1
        (try simp only [List.getElem_toArray]); (try simp only [List.getElem_cons_succ]); (try simp only [List.getElem_cons_zero]); (try simp only [Act.put]); (try simp only [List.setIfInBounds_toArray]); (try simp only [List.set_cons_succ]); (try simp only [List.set_cons_zero])
        have K1 := K1b
        clear K1b
        refine wpAnyH_done (by kernel_rfl) ?_ _
        refine NoPanic.normal ?_
        obtain ⟨t8, hwd⟩ : ∃ u, u = (t7.setCell ⟨V, 0, none⟩ (.int .i64 (subC (divC (mulC (((vn, vd), false)) (fn, fd)) (gn, gd)) (5463, 20)).1.1)).setCell ⟨V, 1, none⟩ (.int .i64 (subC (divC (mulC (((vn, vd), false)) (fn, fd)) (gn, gd)) (5463, 20)).1.2) := ⟨_, rfl⟩
        rw [← hwd] at K1 K2 HF HGB HKK HB ⊢
        clear hwd
        obtain ⟨⟨⟨cn, cd⟩, cb⟩, hC⟩ : ∃ c, c = subC (divC (mulC (((vn, vd), false)) (fn, fd)) (gn, gd)) (5463, 20) := ⟨_, rfl⟩
        rw [← hC] at HKK HRES K1
        clear hC
        have kc := HKK.out.cell
        obtain ⟨z0, z1⟩ := K2.out.c2
        obtain ⟨f0, f1⟩ := K2.out.f2
        obtain ⟨v0, v1⟩ := K1.out.c2
        cases cb
        · have HNN : Hid (RR = (cn, cd, true)) := HRES.out
          have KZ := hidU (K2.out.set2 (.int .i64 cn) (.int .i64 cd))
          have HBZ := hidU (below_set2 HB.out HNE.out.2.1 (.int .i64 cn) (.int .i64 cd))
          go_wp2
          obtain ⟨y0, y1⟩ := KZ.out.c2
          exact bodyPost_ret (v := .tuple #[.agg #[.int .i64 cn, .int .i64 cd], .bool true]) (by simp [results, Try.results11, go_sem, y0, y1]) rfl (by rw [HNN.out]; exact ⟨rfl, HBZ.out⟩)
        · have HNN : Hid (RR = (0, 0, false)) := HRES.out
          have KZ := hidU (K2.out.set2 (.int .i64 0) (.int .i64 0))
          have HBZ := hidU (below_set2 HB.out HNE.out.2.1 (.int .i64 0) (.int .i64 0))
          go_wp2
          obtain ⟨y0, y1⟩ := KZ.out.c2
          exact bodyPost_ret (v := .tuple #[.agg #[.int .i64 0, .int .i64 0], .bool false]) (by simp [results, Try.results11, go_sem, y0, y1]) rfl (by rw [HNN.out]; exact ⟨rfl, HBZ.out⟩)
      · go_simp
        refine (l5Zero_any _).mono ?_
        rintro e t9 ⟨rfl, hb⟩
        replace K1 := hidU (K1.out.below hb)
        replace K2 := hidU (K2.out.below hb)
        replace HF := hidU (HF.out.below hb)
        replace HGB := hidU (HGB.out.below hb)
        replace HKK := hidU (HKK.out.below hb)
        replace HB := hidU (HB.out.trans (hb.mono HB.out.size))
        clear hb
        go_wp2_with fail
        refine hKc.out _ _ trivial (fun hHeld => ?_)
        clear hKc Kc
        (try simp only [List.getElem_toArray]); (try simp only [List.getElem_cons_succ]); (try simp only [List.getElem_cons_zero]); (try simp only [Act.put]); (try simp only [List.setIfInBounds_toArray]); (try simp only [List.set_cons_succ]); (try simp only [List.set_cons_zero])
        refine wpAnyH_ready (rs := [1]) (by kernel_rfl) (by simp) (AllReadyH.cons rfl (fun Kc hKc => ?_) AllReadyH.nil)
        obtain ⟨v0, v1⟩ := K1.out.c2
        go_simp
        refine hKc.out _ _ trivial (fun hHeld => ?_)
        clear hKc Kc v0 v1
        (try simp only [List.getElem_toArray]); (try simp only [List.getElem_cons_succ]); (try simp only [List.getElem_cons_zero]); (try simp only [Act.put]); (try simp only [List.setIfInBounds_toArray]); (try simp only [List.set_cons_succ]); (try simp only [List.set_cons_zero])
        refine wpAnyH_ready (rs := [3]) (by kernel_rfl) (by simp) (AllReadyH.cons rfl (fun Kc hKc => ?_) AllReadyH.nil)
        go_simp
        refine (HSUB.out _ (divC (mulC (((vn, vd), false)) (fn, fd)) (gn, gd)) (5463, 20) HKK.out).mono ?_
        rintro e t10 ⟨rfl, hkk, hg⟩
        replace K1 := hidU (K1.out.gr hg HNK.out.1)
        replace K2 := hidU (K2.out.gr hg HNK.out.2.1)
        replace HF := hidU (HF.out.gr hg HNK.out.2.2.1)
        replace HGB := hidU (HGB.out.gr hg HNK.out.2.2.2.1)
        replace HKK := hidU hkk
        replace HB := hidU (HB.out.trans (below_grownK hg HNK.out.2.2.2.2 HB.out.size))
        clear hkk hg
        go_wp2_with fail
        refine hKc.out _ _ trivial (fun hHeld => ?_)
        clear hKc Kc
        (try simp only [List.getElem_toArray]); (try simp only [List.getElem_cons_succ]); (try simp only [List.getElem_cons_zero]); (try simp only [Act.put]); (try simp only [List.setIfInBounds_toArray]); (try simp only [List.set_cons_succ]); (try simp only [List.set_cons_zero])
        obtain ⟨v0, v1⟩ := K1.out.c2
        obtain ⟨f0, f1⟩ := K1.out.f2
        replace K2 := hidU (K2.out.other2 HNE.out.2.2 (.int .i64 (subC (divC (mulC (((vn, vd), false)) (fn, fd)) (gn, gd)) (5463, 20)).1.1) (.int .i64 (subC (divC (mulC (((vn, vd), false)) (fn, fd)) (gn, gd)) (5463, 20)).1.2))
        replace HF := hidU (HF.out.other2 HFV.out (.int .i64 (subC (divC (mulC (((vn, vd), false)) (fn, fd)) (gn, gd)) (5463, 20)).1.1) (.int .i64 (subC (divC (mulC (((vn, vd), false)) (fn, fd)) (gn, gd)) (5463, 20)).1.2))
        replace HGB := hidU (HGB.out.other2 HGV.out (.int .i64 (subC (divC (mulC (((vn, vd), false)) (fn, fd)) (gn, gd)) (5463, 20)).1.1) (.int .i64 (subC (divC (mulC (((vn, vd), false)) (fn, fd)) (gn, gd)) (5463, 20)).1.2))
        replace HKK := hidU ((HKK.out.other (Ne.symm HNK.out.1) 0 (.int .i64 (subC (divC (mulC (((vn, vd), false)) (fn, fd)) (gn, gd)) (5463, 20)).1.1)).other (Ne.symm HNK.out.1) 1 (.int .i64 (subC (divC (mulC (((vn, vd), false)) (fn, fd)) (gn, gd)) (5463, 20)).1.2))
        have K1b := hidU (K1.out.set2 (.int .i64 (subC (divC (mulC (((vn, vd), false)) (fn, fd)) (gn, gd)) (5463, 20)).1.1) (.int .i64 (subC (divC (mulC (((vn, vd), false)) (fn, fd)) (gn, gd)) (5463, 20)).1.2))
        replace HB := hidU (below_set2 HB.out HNE.out.1 (.int .i64 (subC (divC (mulC (((vn, vd), false)) (fn, fd)) (gn, gd)) (5463, 20)).1.1) (.int .i64 (subC (divC (mulC (((vn, vd), false)) (fn, fd)) (gn, gd)) (5463, 20)).1.2))
        refine wpAnyH_ready (rs := [4]) (by kernel_rfl) (by simp) (AllReadyH.cons rfl (fun Kc hKc => ?_) AllReadyH.nil)
        go_simp
        refine hKc.out _ _ trivial (fun hHeld => ?_)
        clear hKc Kc v0 v1 f0 f1 K1
        (try simp only [List.getElem_toArray]); (try simp only [List.getElem_cons_succ]); (try simp only [List.getElem_cons_zero]); (try simp only [Act.put]); (try simp only [List.setIfInBounds_toArray]); (try simp only [List.set_cons_succ]); (try simp only [List.set_cons_zero])
        have K1 := K1b
        clear K1b
        refine wpAnyH_done (by kernel_rfl) ?_ _
        refine NoPanic.normal ?_
        obtain ⟨t11, hwd⟩ : ∃ u, u = (t10.setCell ⟨V, 0, none⟩ (.int .i64 (subC (divC (mulC (((vn, vd), false)) (fn, fd)) (gn, gd)) (5463, 20)).1.1)).setCell ⟨V, 1, none⟩ (.int .i64 (subC (divC (mulC (((vn, vd), false)) (fn, fd)) (gn, gd)) (5463, 20)).1.2) := ⟨_, rfl⟩
        rw [← hwd] at K1 K2 HF HGB HKK HB ⊢
        clear hwd
        obtain ⟨⟨⟨cn, cd⟩, cb⟩, hC⟩ : ∃ c, c = subC (divC (mulC (((vn, vd), false)) (fn, fd)) (gn, gd)) (5463, 20) := ⟨_, rfl⟩
        rw [← hC] at HKK HRES K1
        clear hC
        have kc := HKK.out.cell
        obtain ⟨z0, z1⟩ := K2.out.c2
        obtain ⟨f0, f1⟩ := K2.out.f2
        obtain ⟨v0, v1⟩ := K1.out.c2
        cases cb
        · have HNN : Hid (RR = (cn, cd, true)) := HRES.out
          have KZ := hidU (K2.out.set2 (.int .i64 cn) (.int .i64 cd))
          have HBZ := hidU (below_set2 HB.out HNE.out.2.1 (.int .i64 cn) (.int .i64 cd))
          go_wp2
          obtain ⟨y0, y1⟩ := KZ.out.c2
          exact bodyPost_ret (v := .tuple #[.agg #[.int .i64 cn, .int .i64 cd], .bool true]) (by simp [results, Try.results11, go_sem, y0, y1]) rfl (by rw [HNN.out]; exact ⟨rfl, HBZ.out⟩)
        · have HNN : Hid (RR = (0, 0, false)) := HRES.out
          have KZ := hidU (K2.out.set2 (.int .i64 0) (.int .i64 0))
          have HBZ := hidU (below_set2 HB.out HNE.out.2.1 (.int .i64 0) (.int .i64 0))
          go_wp2
          obtain ⟨y0, y1⟩ := KZ.out.c2
          exact bodyPost_ret (v := .tuple #[.agg #[.int .i64 0, .int .i64 0], .bool false]) (by simp [results, Try.results11, go_sem, y0, y1]) rfl (by rw [HNN.out]; exact ⟨rfl, HBZ.out⟩)
  · replace HRES := hidU HRES.out
    simp only [if_true] at HRES
    go_upto_region 7 with fail
    refine wp_region_noPanic ?_
    have hb := (Below.refl T0.heap.size T0).drew
    replace K1 := hidU (K1.out.below hb)
    replace K2 := hidU (K2.out.below hb)
    replace HF := hidU (HF.out.below hb)
    replace HGB := hidU (HGB.out.below hb)
    replace HKK := hidU (HKK.out.below hb)
    replace HB := hidU (HB.out.trans (hb.mono HB.out.size))
    clear hb
    refine wp_region_held_drew (S := fun _ => True) (by kernel_rfl) trivial (fun hHeld => ?_)
    obtain ⟨t12, hwd⟩ : ∃ u, u = T0.drew := ⟨_, rfl⟩
    rw [← hwd] at K1 K2 HF HGB HKK HB ⊢
    clear hwd
    refine wpAnyH_take (i := 0) (v := ?_) rfl (by kernel_rfl) (by kernel_rfl) (by kernel_rfl) (fun _ _ _ h => h) (Or.inl ⟨by kernel_rfl, ?_⟩) hHeld ?_
    rotate_left
    · intro wz hSw; (try dsimp only at hSw); go_simp; all_goals (try with_reducible rfl)
    (try simp only [List.getElem_toArray]); (try simp only [List.getElem_cons_succ]); (try simp only [List.getElem_cons_zero]); (try simp only [Act.put]); (try simp only [List.setIfInBounds_toArray]); (try simp only [List.set_cons_succ]); (try simp only [List.set_cons_zero])
    refine wpAnyH_ready (rs := [1, 2]) (by kernel_rfl) (by simp) (AllReadyH.cons rfl (fun Kc hKc => ?_) (AllReadyH.cons rfl (fun Kc hKc => ?_) AllReadyH.nil))
    · obtain ⟨v0, v1⟩ := K1.out.c2
      go_simp
      refine hKc.out _ _ trivial (fun hHeld => ?_)
      clear hKc Kc v0 v1
      (try simp only [List.getElem_toArray]); (try simp only [List.getElem_cons_succ]); (try simp only [List.getElem_cons_zero]); (try simp only [Act.put]); (try simp only [List.setIfInBounds_toArray]); (try simp only [List.set_cons_succ]); (try simp only [List.set_cons_zero])
      refine wpAnyH_ready (rs := [2]) (by kernel_rfl) (by simp) (AllReadyH.cons rfl (fun Kc hKc => ?_) AllReadyH.nil)
      go_simp
      refine (l5Zero_any _).mono ?_
      rintro e t13 ⟨rfl, hb⟩
      replace K1 := hidU (K1.out.below hb)
      replace K2 := hidU (K2.out.below hb)
      replace HF := hidU (HF.out.below hb)
      replace HGB := hidU (HGB.out.below hb)
      replace HKK := hidU (HKK.out.below hb)
      replace HB := hidU (HB.out.trans (hb.mono HB.out.size))
      clear hb
      go_wp2_with fail
      refine hKc.out _ _ trivial (fun hHeld => ?_)
      clear hKc Kc
      (try simp only [List.getElem_toArray]); (try simp only [List.getElem_cons_succ]); (try simp only [List.getElem_cons_zero]); (try simp only [Act.put]); (try simp only [List.setIfInBounds_toArray]); (try simp only [List.set_cons_succ]); (try simp only [List.set_cons_zero])
      refine wpAnyH_ready (rs := [3]) (by kernel_rfl) (by simp) (AllReadyH.cons rfl (fun Kc hKc => ?_) AllReadyH.nil)
      go_simp
      refine (HADD.out _ (((vn, vd), false)) (5463, 20) HKK.out).mono ?_
      rintro e t14 ⟨rfl, hkk, hg⟩
      replace K1 := hidU (K1.out.gr hg HNK.out.1)
      replace K2 := hidU (K2.out.gr hg HNK.out.2.1)
      replace HF := hidU (HF.out.gr hg HNK.out.2.2.1)
      replace HGB := hidU (HGB.out.gr hg HNK.out.2.2.2.1)
      replace HKK := hidU hkk
      replace HB := hidU (HB.out.trans (below_grownK hg HNK.out.2.2.2.2 HB.out.size))
      clear hkk hg
      go_wp2_with fail
      refine hKc.out _ _ trivial (fun hHeld => ?_)
      clear hKc Kc
      (try simp only [List.getElem_toArray]); (try simp only [List.getElem_cons_succ]); (try simp only [List.getElem_cons_zero]); (try simp only [Act.put]); (try simp only [List.setIfInBounds_toArray]); (try simp only [List.set_cons_succ]); (try simp only [List.set_cons_zero])
      obtain ⟨v0, v1⟩ := K1.out.c2
      obtain ⟨f0, f1⟩ := K1.out.f2
      replace K2 := hidU (K2.out.other2 HNE.out.2.2 (.int .i64 (addC ((vn, vd), false) (5463, 20)).1.1) (.int .i64 (addC ((vn, vd), false) (5463, 20)).1.2))
      replace HF := hidU (HF.out.other2 HFV.out (.int .i64 (addC ((vn, vd), false) (5463, 20)).1.1) (.int .i64 (addC ((vn, vd), false) (5463, 20)).1.2))
      replace HGB := hidU (HGB.out.other2 HGV.out (.int .i64 (addC ((vn, vd), false) (5463, 20)).1.1) (.int .i64 (addC ((vn, vd), false) (5463, 20)).1.2))
      replace HKK := hidU ((HKK.out.other (Ne.symm HNK.out.1) 0 (.int .i64 (addC ((vn, vd), false) (5463, 20)).1.1)).other (Ne.symm HNK.out.1) 1 (.int .i64 (addC ((vn, vd), false) (5463, 20)).1.2))
      have K1b := hidU (K1.out.set2 (.int .i64 (addC ((vn, vd), false) (5463, 20)).1.1) (.int .i64 (addC ((vn, vd), false) (5463, 20)).1.2))
      replace HB := hidU (below_set2 HB.out HNE.out.1 (.int .i64 (addC ((vn, vd), false) (5463, 20)).1.1) (.int .i64 (addC ((vn, vd), false) (5463, 20)).1.2))
      refine wpAnyH_ready (rs := [4]) (by kernel_rfl) (by simp) (AllReadyH.cons rfl (fun Kc hKc => ?_) AllReadyH.nil)
      go_simp
      refine hKc.out _ _ trivial (fun hHeld => ?_)
      clear hKc Kc v0 v1 f0 f1 K1
      (try simp only [List.getElem_toArray]); (try simp only [List.getElem_cons_succ]); (try simp only [List.getElem_cons_zero]); (try simp only [Act.put]); (try simp only [List.setIfInBounds_toArray]); (try simp only [List.set_cons_succ]); (try simp only [List.set_cons_zero])
      have K1 := K1b
      clear K1b
      refine wpAnyH_done (by kernel_rfl) ?_ _
      refine NoPanic.normal ?_
      obtain ⟨t15, hwd⟩ : ∃ u, u = (t14.setCell ⟨V, 0, none⟩ (.int .i64 (addC ((vn, vd), false) (5463, 20)).1.1)).setCell ⟨V, 1, none⟩ (.int .i64 (addC ((vn, vd), false) (5463, 20)).1.2) := ⟨_, rfl⟩
      rw [← hwd] at K1 K2 HF HGB HKK HB ⊢
      clear hwd
      go_upto_region 8 with fail
      refine wp_region_noPanic ?_
      have hb := (Below.refl t15.heap.size t15).drew
      replace K1 := hidU (K1.out.below hb)
      replace K2 := hidU (K2.out.below hb)
      replace HF := hidU (HF.out.below hb)
      replace HGB := hidU (HGB.out.below hb)
      replace HKK := hidU (HKK.out.below hb)
      replace HB := hidU (HB.out.trans (hb.mono HB.out.size))
      clear hb
      refine wp_region_held_drew (S := fun W => IsB W F #[.int .i64 fn, .int .i64 fd] 25 ∧ IsB W G #[.int .i64 gn, .int .i64 gd] 25) (by kernel_rfl) ⟨HF.out, HGB.out⟩ (fun hHeld => ?_)
      obtain ⟨t16, hwd⟩ : ∃ u, u = t15.drew := ⟨_, rfl⟩
      rw [← hwd] at K1 K2 HF HGB HKK HB hHeld ⊢
      clear hwd
      refine wpAnyH_take (i := 0) (v := ?_) rfl (by kernel_rfl) (by kernel_rfl) (by kernel_rfl) (fun _ _ _ h => h) (Or.inl ⟨by kernel_rfl, ?_⟩) hHeld ?_
      rotate_left
      · intro wz hSw; obtain ⟨hS1, hS2⟩ := hSw; obtain ⟨p0, p1⟩ := hS1.c2; obtain ⟨q0, q1⟩ := hS2.c2; clear hS1 hS2; go_simp; all_goals (try with_reducible rfl)
      (try simp only [List.getElem_toArray]); (try simp only [List.getElem_cons_succ]); (try simp only [List.getElem_cons_zero]); (try simp only [Act.put]); (try simp only [List.setIfInBounds_toArray]); (try simp only [List.set_cons_succ]); (try simp only [List.set_cons_zero])
      refine wpAnyH_take (i := 1) (v := ?_) rfl (by kernel_rfl) (by kernel_rfl) (by kernel_rfl) (fun _ _ _ h => h) (Or.inl ⟨by kernel_rfl, ?_⟩) hHeld ?_
      rotate_left
      · intro wz hSw; obtain ⟨hS1, hS2⟩ := hSw; obtain ⟨p0, p1⟩ := hS1.c2; obtain ⟨q0, q1⟩ := hS2.c2; clear hS1 hS2; go_simp; all_goals (try with_reducible rfl)
      (try simp only [List.getElem_toArray]); (try simp only [List.getElem_cons_succ]); (try simp only [List.getElem_cons_zero]); (try simp only [Act.put]); (try simp only [List.setIfInBounds_toArray]); (try simp only [List.set_cons_succ]); (try simp only [List.set_cons_zero])
      refine wpAnyH_take (i := 3) (v := ?_) rfl (by kernel_rfl) (by kernel_rfl) (by kernel_rfl) (fun _ _ _ h => h) (Or.inl ⟨by kernel_rfl, ?_⟩) hHeld ?_
      rotate_left
      · intro wz hSw; obtain ⟨hS1, hS2⟩ := hSw; obtain ⟨p0, p1⟩ := hS1.c2; obtain ⟨q0, q1⟩ := hS2.c2; clear hS1 hS2; go_simp; all_goals (try with_reducible rfl)
      (try simp only [List.getElem_toArray]); (try simp only [List.getElem_cons_succ]); (try simp only [List.getElem_cons_zero]); (try simp only [Act.put]); (try simp only [List.setIfInBounds_toArray]); (try simp only [List.set_cons_succ]); (try simp only [List.set_cons_zero])
      refine wpAnyH_take (i := 5) (v := ?_) rfl (by kernel_rfl) (by kernel_rfl) (by kernel_rfl) (fun _ _ _ h => h) (Or.inl ⟨by kernel_rfl, ?_⟩) hHeld ?_
      rotate_left
      · intro wz hSw; obtain ⟨hS1, hS2⟩ := hSw; obtain ⟨p0, p1⟩ := hS1.c2; obtain ⟨q0, q1⟩ := hS2.c2; clear hS1 hS2; go_simp; all_goals (try with_reducible rfl)
      (try simp only [List.getElem_toArray]); (try simp only [List.getElem_cons_succ]); (try simp only [List.getElem_cons_zero]); (try simp only [Act.put]); (try simp only [List.setIfInBounds_toArray]); (try simp only [List.set_cons_succ]); (try simp only [List.set_cons_zero])
      refine wpAnyH_ready (rs := [2]) (by kernel_rfl) (by simp) (AllReadyH.cons rfl (fun Kc hKc => ?_) AllReadyH.nil)
      obtain ⟨v0, v1⟩ := K1.out.c2
      go_simp
      refine hKc.out _ _ ⟨HF.out, HGB.out⟩ (fun hHeld => ?_)
      clear hKc Kc v0 v1
      (try simp only [List.getElem_toArray]); (try simp only [List.getElem_cons_succ]); (try simp only [List.getElem_cons_zero]); (try simp only [Act.put]); (try simp only [List.setIfInBounds_toArray]); (try simp only [List.set_cons_succ]); (try simp only [List.set_cons_zero])
      refine wpAnyH_ready (rs := [4]) (by kernel_rfl) (by simp) (AllReadyH.cons rfl (fun Kc hKc => ?_) AllReadyH.nil)
      go_simp
      refine (HMUL.out _ (addC ((vn, vd), false) (5463, 20)) (fn, fd) HKK.out).mono ?_
      rintro e t17 ⟨rfl, hkk, hg⟩
      replace K1 := hidU (K1.out.gr hg HNK.out.1)
      replace K2 := hidU (K2.out.gr hg HNK.out.2.1)
      replace HF := hidU (HF.out.gr hg HNK.out.2.2.1)
      replace HGB := hidU (HGB.out.gr hg HNK.out.2.2.2.1)
      replace HKK := hidU hkk
      replace HB := hidU (HB.out.trans (below_grownK hg HNK.out.2.2.2.2 HB.out.size))
      clear hkk hg
      go_wp2_with fail
      refine hKc.out _ _ ⟨HF.out, HGB.out⟩ (fun hHeld => ?_)
      clear hKc Kc
      (try simp only [List.getElem_toArray]); (try simp only [List.getElem_cons_succ]); (try simp only [List.getElem_cons_zero]); (try simp only [Act.put]); (try simp only [List.setIfInBounds_toArray]); (try simp only [List.set_cons_succ]); (try simp only [List.set_cons_zero])
      refine wpAnyH_ready (rs := [6]) (by kernel_rfl) (by simp) (AllReadyH.cons rfl (fun Kc hKc => ?_) AllReadyH.nil)
      go_simp
      refine (HDIV.out _ (mulC (addC ((vn, vd), false) (5463, 20)) (fn, fd)) (gn, gd) HKK.out).mono ?_
      rintro e t18 ⟨rfl, hkk, hg⟩
      replace K1 := hidU (K1.out.gr hg HNK.out.1)
      replace K2 := hidU (K2.out.gr hg HNK.out.2.1)
      replace HF := hidU (HF.out.gr hg HNK.out.2.2.1)
      replace HGB := hidU (HGB.out.gr hg HNK.out.2.2.2.1)
      replace HKK := hidU hkk
      replace HB := hidU (HB.out.trans (below_grownK hg HNK.out.2.2.2.2 HB.out.size))
      clear hkk hg
      go_wp2_with fail
      refine hKc.out _ _ ⟨HF.out, HGB.out⟩ (fun hHeld => ?_)
      clear hKc Kc
      (try simp only [List.getElem_toArray]); (try simp only [List.getElem_cons_succ]); (try simp only [List.getElem_cons_zero]); (try simp only [Act.put]); (try simp only [List.setIfInBounds_toArray]); (try simp only [List.set_cons_succ]); (try simp only [List.set_cons_zero])
      obtain ⟨v0, v1⟩ := K1.out.c2
      obtain ⟨f0, f1⟩ := K1.out.f2
      replace K2 := hidU (K2.out.other2 HNE.out.2.2 (.int .i64 (divC (mulC (addC ((vn, vd), false) (5463, 20)) (fn, fd)) (gn, gd)).1.1) (.int .i64 (divC (mulC (addC ((vn, vd), false) (5463, 20)) (fn, fd)) (gn, gd)).1.2))
      replace HF := hidU (HF.out.other2 HFV.out (.int .i64 (divC (mulC (addC ((vn, vd), false) (5463, 20)) (fn, fd)) (gn, gd)).1.1) (.int .i64 (divC (mulC (addC ((vn, vd), false) (5463, 20)) (fn, fd)) (gn, gd)).1.2))
      replace HGB := hidU (HGB.out.other2 HGV.out (.int .i64 (divC (mulC (addC ((vn, vd), false) (5463, 20)) (fn, fd)) (gn, gd)).1.1) (.int .i64 (divC (mulC (addC ((vn, vd), false) (5463, 20)) (fn, fd)) (gn, gd)).1.2))
      replace HKK := hidU ((HKK.out.other (Ne.symm HNK.out.1) 0 (.int .i64 (divC (mulC (addC ((vn, vd), false) (5463, 20)) (fn, fd)) (gn, gd)).1.1)).other (Ne.symm HNK.out.1) 1 (.int .i64 (divC (mulC (addC ((vn, vd), false) (5463, 20)) (fn, fd)) (gn, gd)).1.2))
      have K1b := hidU (K1.out.set2 (.int .i64 (divC (mulC (addC ((vn, vd), false) (5463, 20)) (fn, fd)) (gn, gd)).1.1) (.int .i64 (divC (mulC (addC ((vn, vd), false) (5463, 20)) (fn, fd)) (gn, gd)).1.2))
      replace HB := hidU (below_set2 HB.out HNE.out.1 (.int .i64 (divC (mulC (addC ((vn, vd), false) (5463, 20)) (fn, fd)) (gn, gd)).1.1) (.int .i64 (divC (mulC (addC ((vn, vd), false) (5463, 20)) (fn, fd)) (gn, gd)).1.2))
      refine wpAnyH_ready (rs := [7]) (by kernel_rfl) (by simp) (AllReadyH.cons rfl (fun Kc hKc => ?_) AllReadyH.nil)
      go_simp
      refine hKc.out _ _ ⟨HF.out, HGB.out⟩ (fun hHeld => ?_)
      clear hKc Kc v0 v1 f0 f1 K1
      (try simp only [List.getElem_toArray]); (try simp only [List.getElem_cons_succ]); (try simp only [List.getElem_cons_zero]); (try simp only [Act.put]); (try simp only [List.setIfInBounds_toArray]); (try simp only [List.set_cons_succ]); (try simp only [List.set_cons_zero])
      have K1 := K1b
      clear K1b
      refine wpAnyH_done (by kernel_rfl) ?_ _
      refine NoPanic.normal ?_
      obtain ⟨t19, hwd⟩ : ∃ u, u = (t18.setCell ⟨V, 0, none⟩ (.int .i64 (divC (mulC (addC ((vn, vd), false) (5463, 20)) (fn, fd)) (gn, gd)).1.1)).setCell ⟨V, 1, none⟩ (.int .i64 (divC (mulC (addC ((vn, vd), false) (5463, 20)) (fn, fd)) (gn, gd)).1.2) := ⟨_, rfl⟩
      rw [← hwd] at K1 K2 HF HGB HKK HB ⊢
      clear hwd
      cases ct
      · replace HRES := hidU HRES.out
        simp only [Bool.false_eq_true, if_false] at HRES
        obtain ⟨⟨⟨cn, cd⟩, cb⟩, hC⟩ : ∃ c, c = divC (mulC (addC ((vn, vd), false) (5463, 20)) (fn, fd)) (gn, gd) := ⟨_, rfl⟩
        rw [← hC] at HKK HRES K1
        clear hC
        have kc := HKK.out.cell
        obtain ⟨z0, z1⟩ := K2.out.c2
        obtain ⟨f0, f1⟩ := K2.out.f2
        obtain ⟨v0, v1⟩ := K1.out.c2
        cases cb
        · have HNN : Hid (RR = (cn, cd, true)) := HRES.out
          have KZ := hidU (K2.out.set2 (.int .i64 cn) (.int .i64 cd))
          have HBZ := hidU (below_set2 HB.out HNE.out.2.1 (.int .i64 cn) (.int .i64 cd))
          go_wp2
          obtain ⟨y0, y1⟩ := KZ.out.c2
          exact bodyPost_ret (v := .tuple #[.agg #[.int .i64 cn, .int .i64 cd], .bool true]) (by simp [results, Try.results11, go_sem, y0, y1]) rfl (by rw [HNN.out]; exact ⟨rfl, HBZ.out⟩)
        · have HNN : Hid (RR = (0, 0, false)) := HRES.out
          have KZ := hidU (K2.out.set2 (.int .i64 0) (.int .i64 0))
          have HBZ := hidU (below_set2 HB.out HNE.out.2.1 (.int .i64 0) (.int .i64 0))
          go_wp2
          obtain ⟨y0, y1⟩ := KZ.out.c2
          exact bodyPost_ret (v := .tuple #[.agg #[.int .i64 0, .int .i64 0], .bool false]) (by simp [results, Try.results11, go_sem, y0, y1]) rfl (by rw [HNN.out]; exact ⟨rfl, HBZ.out⟩)
      · replace HRES := hidU HRES.out
        simp only [if_true] at HRES
        go_upto_region 10 with fail
        refine wp_region_noPanic ?_
        have hb := (Below.refl t19.heap.size t19).drew
        replace K1 := hidU (K1.out.below hb)
        replace K2 := hidU (K2.out.below hb)
        replace HF := hidU (HF.out.below hb)
        replace HGB := hidU (HGB.out.below hb)
        replace HKK := hidU (HKK.out.below hb)
        replace HB := hidU (HB.out.trans (hb.mono HB.out.size))
        clear hb
        refine wp_region_held_drew (S := fun _ => True) (by kernel_rfl) trivial (fun hHeld => ?_)
        obtain ⟨t20, hwd⟩ : ∃ u, u = t19.drew := ⟨_, rfl⟩
        rw [← hwd] at K1 K2 HF HGB HKK HB ⊢
        clear hwd
        refine wpAnyH_take (i := 0) (v := ?_) rfl (by kernel_rfl) (by kernel_rfl) (by kernel_rfl) (fun _ _ _ h => h) (Or.inl ⟨by kernel_rfl, ?_⟩) hHeld ?_
        rotate_left
        · intro wz hSw; (try dsimp only at hSw); go_simp; all_goals (try with_reducible rfl)
        (try simp only [List.getElem_toArray]); (try simp only [List.getElem_cons_succ]); (try simp only [List.getElem_cons_zero]); (try simp only [Act.put]); (try simp only [List.setIfInBounds_toArray]); (try simp only [List.set_cons_succ]); (try simp only [List.set_cons_zero])
        refine wpAnyH_ready (rs := [1, 2]) (by kernel_rfl) (by simp) (AllReadyH.cons rfl (fun Kc hKc => ?_) (AllReadyH.cons rfl (fun Kc hKc => ?_) AllReadyH.nil))
        · obtain ⟨v0, v1⟩ := K1.out.c2
          go_simp
          refine hKc.out _ _ trivial (fun hHeld => ?_)
          clear hKc Kc v0 v1
          (try simp only [List.getElem_toArray]); (try simp only [List.getElem_cons_succ]); (try simp only [List.getElem_cons_zero]); (try simp only [Act.put]); (try simp only [List.setIfInBounds_toArray]); (try simp only [List.set_cons_succ]); (try simp only [List.set_cons_zero])
          refine wpAnyH_ready (rs := [2]) (by kernel_rfl) (by simp) (AllReadyH.cons rfl (fun Kc hKc => ?_) AllReadyH.nil)
          go_simp
          refine (l5Zero_any _).mono ?_
          rintro e t21 ⟨rfl, hb⟩
          replace K1 := hidU (K1.out.below hb)
          replace K2 := hidU (K2.out.below hb)
          replace HF := hidU (HF.out.below hb)
          replace HGB := hidU (HGB.out.below hb)
          replace HKK := hidU (HKK.out.below hb)
          replace HB := hidU (HB.out.trans (hb.mono HB.out.size))
          clear hb
          go_wp2_with fail
          refine hKc.out _ _ trivial (fun hHeld => ?_)
          clear hKc Kc
          (try simp only [List.getElem_toArray]); (try simp only [List.getElem_cons_succ]); (try simp only [List.getElem_cons_zero]); (try simp only [Act.put]); (try simp only [List.setIfInBounds_toArray]); (try simp only [List.set_cons_succ]); (try simp only [List.set_cons_zero])
          refine wpAnyH_ready (rs := [3]) (by kernel_rfl) (by simp) (AllReadyH.cons rfl (fun Kc hKc => ?_) AllReadyH.nil)
          go_simp
          refine (HSUB.out _ (divC (mulC (addC ((vn, vd), false) (5463, 20)) (fn, fd)) (gn, gd)) (5463, 20) HKK.out).mono ?_
          rintro e t22 ⟨rfl, hkk, hg⟩
          replace K1 := hidU (K1.out.gr hg HNK.out.1)
          replace K2 := hidU (K2.out.gr hg HNK.out.2.1)
          replace HF := hidU (HF.out.gr hg HNK.out.2.2.1)
          replace HGB := hidU (HGB.out.gr hg HNK.out.2.2.2.1)
          replace HKK := hidU hkk
          replace HB := hidU (HB.out.trans (below_grownK hg HNK.out.2.2.2.2 HB.out.size))
          clear hkk hg
          go_wp2_with fail
          refine hKc.out _ _ trivial (fun hHeld => ?_)
          clear hKc Kc
          (try simp only [List.getElem_toArray]); (try simp only [List.getElem_cons_succ]); (try simp only [List.getElem_cons_zero]); (try simp only [Act.put]); (try simp only [List.setIfInBounds_toArray]); (try simp only [List.set_cons_succ]); (try simp only [List.set_cons_zero])
          obtain ⟨v0, v1⟩ := K1.out.c2
          obtain ⟨f0, f1⟩ := K1.out.f2
          replace K2 := hidU (K2.out.other2 HNE.out.2.2 (.int .i64 (subC (divC (mulC (addC ((vn, vd), false) (5463, 20)) (fn, fd)) (gn, gd)) (5463, 20)).1.1) (.int .i64 (subC (divC (mulC (addC ((vn, vd), false) (5463, 20)) (fn, fd)) (gn, gd)) (5463, 20)).1.2))
          replace HF := hidU (HF.out.other2 HFV.out (.int .i64 (subC (divC (mulC (addC ((vn, vd), false) (5463, 20)) (fn, fd)) (gn, gd)) (5463, 20)).1.1) (.int .i64 (subC (divC (mulC (addC ((vn, vd), false) (5463, 20)) (fn, fd)) (gn, gd)) (5463, 20)).1.2))
          replace HGB := hidU (HGB.out.other2 HGV.out (.int .i64 (subC (divC (mulC (addC ((vn, vd), false) (5463, 20)) (fn, fd)) (gn, gd)) (5463, 20)).1.1) (.int .i64 (subC (divC (mulC (addC ((vn, vd), false) (5463, 20)) (fn, fd)) (gn, gd)) (5463, 20)).1.2))
          replace HKK := hidU ((HKK.out.other (Ne.symm HNK.out.1) 0 (.int .i64 (subC (divC (mulC (addC ((vn, vd), false) (5463, 20)) (fn, fd)) (gn, gd)) (5463, 20)).1.1)).other (Ne.symm HNK.out.1) 1 (.int .i64 (subC (divC (mulC (addC ((vn, vd), false) (5463, 20)) (fn, fd)) (gn, gd)) (5463, 20)).1.2))
          have K1b := hidU (K1.out.set2 (.int .i64 (subC (divC (mulC (addC ((vn, vd), false) (5463, 20)) (fn, fd)) (gn, gd)) (5463, 20)).1.1) (.int .i64 (subC (divC (mulC (addC ((vn, vd), false) (5463, 20)) (fn, fd)) (gn, gd)) (5463, 20)).1.2))
          replace HB := hidU (below_set2 HB.out HNE.out.1 (.int .i64 (subC (divC (mulC (addC ((vn, vd), false) (5463, 20)) (fn, fd)) (gn, gd)) (5463, 20)).1.1) (.int .i64 (subC (divC (mulC (addC ((vn, vd), false) (5463, 20)) (fn, fd)) (gn, gd)) (5463, 20)).1.2))
          refine wpAnyH_ready (rs := [4]) (by kernel_rfl) (by simp) (AllReadyH.cons rfl (fun Kc hKc => ?_) AllReadyH.nil)
          go_simp
          refine hKc.out _ _ trivial (fun hHeld => ?_)
          clear hKc Kc v0 v1 f0 f1 K1
          (try simp only [List.getElem_toArray]); (try simp only [List.getElem_cons_succ]); (try simp only [List.getElem_cons_zero]); (try simp only [Act.put]); (try simp only [List.setIfInBounds_toArray]); (try simp only [List.set_cons_succ]); (try simp only [List.set_cons_zero])
          have K1 := K1b
          clear K1b
          refine wpAnyH_done (by kernel_rfl) ?_ _
          refine NoPanic.normal ?_
          obtain ⟨t23, hwd⟩ : ∃ u, u = (t22.setCell ⟨V, 0, none⟩ (.int .i64 (subC (divC (mulC (addC ((vn, vd), false) (5463, 20)) (fn, fd)) (gn, gd)) (5463, 20)).1.1)).setCell ⟨V, 1, none⟩ (.int .i64 (subC (divC (mulC (addC ((vn, vd), false) (5463, 20)) (fn, fd)) (gn, gd)) (5463, 20)).1.2) := ⟨_, rfl⟩
          rw [← hwd] at K1 K2 HF HGB HKK HB ⊢
          clear hwd
          obtain ⟨⟨⟨cn, cd⟩, cb⟩, hC⟩ : ∃ c, c = subC (divC (mulC (addC ((vn, vd), false) (5463, 20)) (fn, fd)) (gn, gd)) (5463, 20) := ⟨_, rfl⟩
          rw [← hC] at HKK HRES K1
          clear hC
          have kc := HKK.out.cell
          obtain ⟨z0, z1⟩ := K2.out.c2
          obtain ⟨f0, f1⟩ := K2.out.f2
          obtain ⟨v0, v1⟩ := K1.out.c2
          cases cb
          · have HNN : Hid (RR = (cn, cd, true)) := HRES.out
            have KZ := hidU (K2.out.set2 (.int .i64 cn) (.int .i64 cd))
            have HBZ := hidU (below_set2 HB.out HNE.out.2.1 (.int .i64 cn) (.int .i64 cd))
            go_wp2
            obtain ⟨y0, y1⟩ := KZ.out.c2
            exact bodyPost_ret (v := .tuple #[.agg #[.int .i64 cn, .int .i64 cd], .bool true]) (by simp [results, Try.results11, go_sem, y0, y1]) rfl (by rw [HNN.out]; exact ⟨rfl, HBZ.out⟩)
          · have HNN : Hid (RR = (0, 0, false)) := HRES.out
            have KZ := hidU (K2.out.set2 (.int .i64 0) (.int .i64 0))
            have HBZ := hidU (below_set2 HB.out HNE.out.2.1 (.int .i64 0) (.int .i64 0))
            go_wp2
            obtain ⟨y0, y1⟩ := KZ.out.c2
            exact bodyPost_ret (v := .tuple #[.agg #[.int .i64 0, .int .i64 0], .bool false]) (by simp [results, Try.results11, go_sem, y0, y1]) rfl (by rw [HNN.out]; exact ⟨rfl, HBZ.out⟩)
        · go_simp
          refine (l5Zero_any _).mono ?_
          rintro e t24 ⟨rfl, hb⟩
          replace K1 := hidU (K1.out.below hb)
          replace K2 := hidU (K2.out.below hb)
          replace HF := hidU (HF.out.below hb)
          replace HGB := hidU (HGB.out.below hb)
          replace HKK := hidU (HKK.out.below hb)
          replace HB := hidU (HB.out.trans (hb.mono HB.out.size))
          clear hb
          go_wp2_with fail
          refine hKc.out _ _ trivial (fun hHeld => ?_)
          clear hKc Kc
          (try simp only [List.getElem_toArray]); (try simp only [List.getElem_cons_succ]); (try simp only [List.getElem_cons_zero]); (try simp only [Act.put]); (try simp only [List.setIfInBounds_toArray]); (try simp only [List.set_cons_succ]); (try simp only [List.set_cons_zero])
          refine wpAnyH_ready (rs := [1]) (by kernel_rfl) (by simp) (AllReadyH.cons rfl (fun Kc hKc => ?_) AllReadyH.nil)
          obtain ⟨v0, v1⟩ := K1.out.c2
          go_simp
          refine hKc.out _ _ trivial (fun hHeld => ?_)
          clear hKc Kc v0 v1
          (try simp only [List.getElem_toArray]); (try simp only [List.getElem_cons_succ]); (try simp only [List.getElem_cons_zero]); (try simp only [Act.put]); (try simp only [List.setIfInBounds_toArray]); (try simp only [List.set_cons_succ]); (try simp only [List.set_cons_zero])
          refine wpAnyH_ready (rs := [3]) (by kernel_rfl) (by simp) (AllReadyH.cons rfl (fun Kc hKc => ?_) AllReadyH.nil)
          go_simp
          refine (HSUB.out _ (divC (mulC (addC ((vn, vd), false) (5463, 20)) (fn, fd)) (gn, gd)) (5463, 20) HKK.out).mono ?_
          rintro e t25 ⟨rfl, hkk, hg⟩
          replace K1 := hidU (K1.out.gr hg HNK.out.1)
          replace K2 := hidU (K2.out.gr hg HNK.out.2.1)
          replace HF := hidU (HF.out.gr hg HNK.out.2.2.1)
          replace HGB := hidU (HGB.out.gr hg HNK.out.2.2.2.1)
          replace HKK := hidU hkk
          replace HB := hidU (HB.out.trans (below_grownK hg HNK.out.2.2.2.2 HB.out.size))
          clear hkk hg
          go_wp2_with fail
          refine hKc.out _ _ trivial (fun hHeld => ?_)
          clear hKc Kc
          (try simp only [List.getElem_toArray]); (try simp only [List.getElem_cons_succ]); (try simp only [List.getElem_cons_zero]); (try simp only [Act.put]); (try simp only [List.setIfInBounds_toArray]); (try simp only [List.set_cons_succ]); (try simp only [List.set_cons_zero])
          obtain ⟨v0, v1⟩ := K1.out.c2
          obtain ⟨f0, f1⟩ := K1.out.f2
          replace K2 := hidU (K2.out.other2 HNE.out.2.2 (.int .i64 (subC (divC (mulC (addC ((vn, vd), false) (5463, 20)) (fn, fd)) (gn, gd)) (5463, 20)).1.1) (.int .i64 (subC (divC (mulC (addC ((vn, vd), false) (5463, 20)) (fn, fd)) (gn, gd)) (5463, 20)).1.2))
          replace HF := hidU (HF.out.other2 HFV.out (.int .i64 (subC (divC (mulC (addC ((vn, vd), false) (5463, 20)) (fn, fd)) (gn, gd)) (5463, 20)).1.1) (.int .i64 (subC (divC (mulC (addC ((vn, vd), false) (5463, 20)) (fn, fd)) (gn, gd)) (5463, 20)).1.2))
          replace HGB := hidU (HGB.out.other2 HGV.out (.int .i64 (subC (divC (mulC (addC ((vn, vd), false) (5463, 20)) (fn, fd)) (gn, gd)) (5463, 20)).1.1) (.int .i64 (subC (divC (mulC (addC ((vn, vd), false) (5463, 20)) (fn, fd)) (gn, gd)) (5463, 20)).1.2))
          replace HKK := hidU ((HKK.out.other (Ne.symm HNK.out.1) 0 (.int .i64 (subC (divC (mulC (addC ((vn, vd), false) (5463, 20)) (fn, fd)) (gn, gd)) (5463, 20)).1.1)).other (Ne.symm HNK.out.1) 1 (.int .i64 (subC (divC (mulC (addC ((vn, vd), false) (5463, 20)) (fn, fd)) (gn, gd)) (5463, 20)).1.2))
          have K1b := hidU (K1.out.set2 (.int .i64 (subC (divC (mulC (addC ((vn, vd), false) (5463, 20)) (fn, fd)) (gn, gd)) (5463, 20)).1.1) (.int .i64 (subC (divC (mulC (addC ((vn, vd), false) (5463, 20)) (fn, fd)) (gn, gd)) (5463, 20)).1.2))
          replace HB := hidU (below_set2 HB.out HNE.out.1 (.int .i64 (subC (divC (mulC (addC ((vn, vd), false) (5463, 20)) (fn, fd)) (gn, gd)) (5463, 20)).1.1) (.int .i64 (subC (divC (mulC (addC ((vn, vd), false) (5463, 20)) (fn, fd)) (gn, gd)) (5463, 20)).1.2))
          refine wpAnyH_ready (rs := [4]) (by kernel_rfl) (by simp) (AllReadyH.cons rfl (fun Kc hKc => ?_) AllReadyH.nil)
          go_simp
          refine hKc.out _ _ trivial (fun hHeld => ?_)
          clear hKc Kc v0 v1 f0 f1 K1
          (try simp only [List.getElem_toArray]); (try simp only [List.getElem_cons_succ]); (try simp only [List.getElem_cons_zero]); (try simp only [Act.put]); (try simp only [List.setIfInBounds_toArray]); (try simp only [List.set_cons_succ]); (try simp only [List.set_cons_zero])
          have K1 := K1b
          clear K1b
          refine wpAnyH_done (by kernel_rfl) ?_ _
          refine NoPanic.normal ?_
          obtain ⟨t26, hwd⟩ : ∃ u, u = (t25.setCell ⟨V, 0, none⟩ (.int .i64 (subC (divC (mulC (addC ((vn, vd), false) (5463, 20)) (fn, fd)) (gn, gd)) (5463, 20)).1.1)).setCell ⟨V, 1, none⟩ (.int .i64 (subC (divC (mulC (addC ((vn, vd), false) (5463, 20)) (fn, fd)) (gn, gd)) (5463, 20)).1.2) := ⟨_, rfl⟩
          rw [← hwd] at K1 K2 HF HGB HKK HB ⊢
          clear hwd
          obtain ⟨⟨⟨cn, cd⟩, cb⟩, hC⟩ : ∃ c, c = subC (divC (mulC (addC ((vn, vd), false) (5463, 20)) (fn, fd)) (gn, gd)) (5463, 20) := ⟨_, rfl⟩
          rw [← hC] at HKK HRES K1
          clear hC
          have kc := HKK.out.cell
          obtain ⟨z0, z1⟩ := K2.out.c2
          obtain ⟨f0, f1⟩ := K2.out.f2
          obtain ⟨v0, v1⟩ := K1.out.c2
          cases cb
          · have HNN : Hid (RR = (cn, cd, true)) := HRES.out
            have KZ := hidU (K2.out.set2 (.int .i64 cn) (.int .i64 cd))
            have HBZ := hidU (below_set2 HB.out HNE.out.2.1 (.int .i64 cn) (.int .i64 cd))
            go_wp2
            obtain ⟨y0, y1⟩ := KZ.out.c2
            exact bodyPost_ret (v := .tuple #[.agg #[.int .i64 cn, .int .i64 cd], .bool true]) (by simp [results, Try.results11, go_sem, y0, y1]) rfl (by rw [HNN.out]; exact ⟨rfl, HBZ.out⟩)
          · have HNN : Hid (RR = (0, 0, false)) := HRES.out
            have KZ := hidU (K2.out.set2 (.int .i64 0) (.int .i64 0))
            have HBZ := hidU (below_set2 HB.out HNE.out.2.1 (.int .i64 0) (.int .i64 0))
            go_wp2
            obtain ⟨y0, y1⟩ := KZ.out.c2
            exact bodyPost_ret (v := .tuple #[.agg #[.int .i64 0, .int .i64 0], .bool false]) (by simp [results, Try.results11, go_sem, y0, y1]) rfl (by rw [HNN.out]; exact ⟨rfl, HBZ.out⟩)
    · go_simp
      refine (l5Zero_any _).mono ?_
      rintro e t27 ⟨rfl, hb⟩
      replace K1 := hidU (K1.out.below hb)
      replace K2 := hidU (K2.out.below hb)
      replace HF := hidU (HF.out.below hb)
      replace HGB := hidU (HGB.out.below hb)
      replace HKK := hidU (HKK.out.below hb)
      replace HB := hidU (HB.out.trans (hb.mono HB.out.size))
      clear hb
      go_wp2_with fail
      refine hKc.out _ _ trivial (fun hHeld => ?_)
      clear hKc Kc
      (try simp only [List.getElem_toArray]); (try simp only [List.getElem_cons_succ]); (try simp only [List.getElem_cons_zero]); (try simp only [Act.put]); (try simp only [List.setIfInBounds_toArray]); (try simp only [List.set_cons_succ]); (try simp only [List.set_cons_zero])
      refine wpAnyH_ready (rs := [1]) (by kernel_rfl) (by simp) (AllReadyH.cons rfl (fun Kc hKc => ?_) AllReadyH.nil)
      obtain ⟨v0, v1⟩ := K1.out.c2
      go_simp
      refine hKc.out _ _ trivial (fun hHeld => ?_)
      clear hKc Kc v0 v1
      (try simp only [List.getElem_toArray]); (try simp only [List.getElem_cons_succ]); (try simp only [List.getElem_cons_zero]); (try simp only [Act.put]); (try simp only [List.setIfInBounds_toArray]); (try simp only [List.set_cons_succ]); (try simp only [List.set_cons_zero])
      refine wpAnyH_ready (rs := [3]) (by kernel_rfl) (by simp) (AllReadyH.cons rfl (fun Kc hKc => ?_) AllReadyH.nil)
      go_simp
      refine (HADD.out _ (((vn, vd), false)) (5463, 20) HKK.out).mono ?_
      rintro e t28 ⟨rfl, hkk, hg⟩
      replace K1 := hidU (K1.out.gr hg HNK.out.1)
      replace K2 := hidU (K2.out.gr hg HNK.out.2.1)
      replace HF := hidU (HF.out.gr hg HNK.out.2.2.1)
      replace HGB := hidU (HGB.out.gr hg HNK.out.2.2.2.1)
      replace HKK := hidU hkk
      replace HB := hidU (HB.out.trans (below_grownK hg HNK.out.2.2.2.2 HB.out.size))
      clear hkk hg
      go_wp2_with fail
      refine hKc.out _ _ trivial (fun hHeld => ?_)
      clear hKc Kc
      (try simp only [List.getElem_toArray]); (try simp only [List.getElem_cons_succ]); (try simp only [List.getElem_cons_zero]); (try simp only [Act.put]); (try simp only [List.setIfInBounds_toArray]); (try simp only [List.set_cons_succ]); (try simp only [List.set_cons_zero])
      obtain ⟨v0, v1⟩ := K1.out.c2
      obtain ⟨f0, f1⟩ := K1.out.f2
      replace K2 := hidU (K2.out.other2 HNE.out.2.2 (.int .i64 (addC ((vn, vd), false) (5463, 20)).1.1) (.int .i64 (addC ((vn, vd), false) (5463, 20)).1.2))
      replace HF := hidU (HF.out.other2 HFV.out (.int .i64 (addC ((vn, vd), false) (5463, 20)).1.1) (.int .i64 (addC ((vn, vd), false) (5463, 20)).1.2))
      replace HGB := hidU (HGB.out.other2 HGV.out (.int .i64 (addC ((vn, vd), false) (5463, 20)).1.1) (.int .i64 (addC ((vn, vd), false) (5463, 20)).1.2))
      replace HKK := hidU ((HKK.out.other (Ne.symm HNK.out.1) 0 (.int .i64 (addC ((vn, vd), false) (5463, 20)).1.1)).other (Ne.symm HNK.out.1) 1 (.int .i64 (addC ((vn, vd), false) (5463, 20)).1.2))
      have K1b := hidU (K1.out.set2 (.int .i64 (addC ((vn, vd), false) (5463, 20)).1.1) (.int .i64 (addC ((vn, vd), false) (5463, 20)).1.2))
      replace HB := hidU (below_set2 HB.out HNE.out.1 (.int .i64 (addC ((vn, vd), false) (5463, 20)).1.1) (.int .i64 (addC ((vn, vd), false) (5463, 20)).1.2))
      refine wpAnyH_ready (rs := [4]) (by kernel_rfl) (by simp) (AllReadyH.cons rfl (fun Kc hKc => ?_) AllReadyH.nil)
      go_simp
      refine hKc.out _ _ trivial (fun hHeld => ?_)
      clear hKc Kc v0 v1 f0 f1 K1
      (try simp only [List.getElem_toArray]); (try simp only [List.getElem_cons_succ]); (try simp only [List.getElem_cons_zero]); (try simp only [Act.put]); (try simp only [List.setIfInBounds_toArray]); (try simp only [List.set_cons_succ]); (try simp only [List.set_cons_zero])
      have K1 := K1b
      clear K1b
      refine wpAnyH_done (by kernel_rfl) ?_ _
      refine NoPanic.normal ?_
      obtain ⟨t29, hwd⟩ : ∃ u, u = (t28.setCell ⟨V, 0, none⟩ (.int .i64 (addC ((vn, vd), false) (5463, 20)).1.1)).setCell ⟨V, 1, none⟩ (.int .i64 (addC ((vn, vd), false) (5463, 20)).1.2) := ⟨_, rfl⟩
      rw [← hwd] at K1 K2 HF HGB HKK HB ⊢
      clear hwd
      go_upto_region 8 with fail
      refine wp_region_noPanic ?_
      have hb := (Below.refl t29.heap.size t29).drew
      replace K1 := hidU (K1.out.below hb)
      replace K2 := hidU (K2.out.below hb)
      replace HF := hidU (HF.out.below hb)
      replace HGB := hidU (HGB.out.below hb)
      replace HKK := hidU (HKK.out.below hb)
      replace HB := hidU (HB.out.trans (hb.mono HB.out.size))
      clear hb
      refine wp_region_held_drew (S := fun W => IsB W F #[.int .i64 fn, .int .i64 fd] 25 ∧ IsB W G #[.int .i64 gn, .int .i64 gd] 25) (by kernel_rfl) ⟨HF.out, HGB.out⟩ (fun hHeld => ?_)
      obtain ⟨t30, hwd⟩ : ∃ u, u = t29.drew := ⟨_, rfl⟩
      rw [← hwd] at K1 K2 HF HGB HKK HB hHeld ⊢
      clear hwd
      refine wpAnyH_take (i := 0) (v := ?_) rfl (by kernel_rfl) (by kernel_rfl) (by kernel_rfl) (fun _ _ _ h => h) (Or.inl ⟨by kernel_rfl, ?_⟩) hHeld ?_
      rotate_left
      · intro wz hSw; obtain ⟨hS1, hS2⟩ := hSw; obtain ⟨p0, p1⟩ := hS1.c2; obtain ⟨q0, q1⟩ := hS2.c2; clear hS1 hS2; go_simp; all_goals (try with_reducible rfl)
      (try simp only [List.getElem_toArray]); (try simp only [List.getElem_cons_succ]); (try simp only [List.getElem_cons_zero]); (try simp only [Act.put]); (try simp only [List.setIfInBounds_toArray]); (try simp only [List.set_cons_succ]); (try simp only [List.set_cons_zero])
      refine wpAnyH_take (i := 1) (v := ?_) rfl (by kernel_rfl) (by kernel_rfl) (by kernel_rfl) (fun _ _ _ h => h) (Or.inl ⟨by kernel_rfl, ?_⟩) hHeld ?_
      rotate_left
      · intro wz hSw; obtain ⟨hS1, hS2⟩ := hSw; obtain ⟨p0, p1⟩ := hS1.c2; obtain ⟨q0, q1⟩ := hS2.c2; clear hS1 hS2; go_simp; all_goals (try with_reducible rfl)
      (try simp only [List.getElem_toArray]); (try simp only [List.getElem_cons_succ]); (try simp only [List.getElem_cons_zero]); (try simp only [Act.put]); (try simp only [List.setIfInBounds_toArray]); (try simp only [List.set_cons_succ]); (try simp only [List.set_cons_zero])
      refine wpAnyH_take (i := 3) (v := ?_) rfl (by kernel_rfl) (by kernel_rfl) (by kernel_rfl) (fun _ _ _ h => h) (Or.inl ⟨by kernel_rfl, ?_⟩) hHeld ?_
      rotate_left
      · intro wz hSw; obtain ⟨hS1, hS2⟩ := hSw; obtain ⟨p0, p1⟩ := hS1.c2; obtain ⟨q0, q1⟩ := hS2.c2; clear hS1 hS2; go_simp; all_goals (try with_reducible rfl)
      (try simp only [List.getElem_toArray]); (try simp only [List.getElem_cons_succ]); (try simp only [List.getElem_cons_zero]); (try simp only [Act.put]); (try simp only [List.setIfInBounds_toArray]); (try simp only [List.set_cons_succ]); (try simp only [List.set_cons_zero])
      refine wpAnyH_take (i := 5) (v := ?_) rfl (by kernel_rfl) (by kernel_rfl) (by kernel_rfl) (fun _ _ _ h => h) (Or.inl ⟨by kernel_rfl, ?_⟩) hHeld ?_
      rotate_left
      · intro wz hSw; obtain ⟨hS1, hS2⟩ := hSw; obtain ⟨p0, p1⟩ := hS1.c2; obtain ⟨q0, q1⟩ := hS2.c2; clear hS1 hS2; go_simp; all_goals (try with_reducible rfl)
      (try simp only [List.getElem_toArray]); (try simp only [List.getElem_cons_succ]); (try simp only [List.getElem_cons_zero]); (try simp only [Act.put]); (try simp only [List.setIfInBounds_toArray]); (try simp only [List.set_cons_succ]); (try simp only [List.set_cons_zero])
      refine wpAnyH_ready (rs := [2]) (by kernel_rfl) (by simp) (AllReadyH.cons rfl (fun Kc hKc => ?_) AllReadyH.nil)
      obtain ⟨v0, v1⟩ := K1.out.c2
      go_simp
      refine hKc.out _ _ ⟨HF.out, HGB.out⟩ (fun hHeld => ?_)
      clear hKc Kc v0 v1
      (try simp only [List.getElem_toArray]); (try simp only [List.getElem_cons_succ]); (try simp only [List.getElem_cons_zero]); (try simp only [Act.put]); (try simp only [List.setIfInBounds_toArray]); (try simp only [List.set_cons_succ]); (try simp only [List.set_cons_zero])
      refine wpAnyH_ready (rs := [4]) (by kernel_rfl) (by simp) (AllReadyH.cons rfl (fun Kc hKc => ?_) AllReadyH.nil)
      go_simp
      refine (HMUL.out _ (addC ((vn, vd), false) (5463, 20)) (fn, fd) HKK.out).mono ?_
      rintro e t31 ⟨rfl, hkk, hg⟩
      replace K1 := hidU (K1.out.gr hg HNK.out.1)
      replace K2 := hidU (K2.out.gr hg HNK.out.2.1)
      replace HF := hidU (HF.out.gr hg HNK.out.2.2.1)
      replace HGB := hidU (HGB.out.gr hg HNK.out.2.2.2.1)
      replace HKK := hidU hkk
      replace HB := hidU (HB.out.trans (below_grownK hg HNK.out.2.2.2.2 HB.out.size))
      clear hkk hg
      go_wp2_with fail
      refine hKc.out _ _ ⟨HF.out, HGB.out⟩ (fun hHeld => ?_)
      clear hKc Kc
      (try simp only [List.getElem_toArray]); (try simp only [List.getElem_cons_succ]); (try simp only [List.getElem_cons_zero]); (try simp only [Act.put]); (try simp only [List.setIfInBounds_toArray]); (try simp only [List.set_cons_succ]); (try simp only [List.set_cons_zero])
      refine wpAnyH_ready (rs := [6]) (by kernel_rfl) (by simp) (AllReadyH.cons rfl (fun Kc hKc => ?_) AllReadyH.nil)
      go_simp
      refine (HDIV.out _ (mulC (addC ((vn, vd), false) (5463, 20)) (fn, fd)) (gn, gd) HKK.out).mono ?_
      rintro e t32 ⟨rfl, hkk, hg⟩
      replace K1 := hidU (K1.out.gr hg HNK.out.1)
      replace K2 := hidU (K2.out.gr hg HNK.out.2.1)
      replace HF := hidU (HF.out.gr hg HNK.out.2.2.1)
      replace HGB := hidU (HGB.out.gr hg HNK.out.2.2.2.1)
      replace HKK := hidU hkk
      replace HB := hidU (HB.out.trans (below_grownK hg HNK.out.2.2.2.2 HB.out.size))
      clear hkk hg
      go_wp2_with fail
      refine hKc.out _ _ ⟨HF.out, HGB.out⟩ (fun hHeld => ?_)
      clear hKc Kc
      (try simp only [List.getElem_toArray]); (try simp only [List.getElem_cons_succ]); (try simp only [List.getElem_cons_zero]); (try simp only [Act.put]); (try simp only [List.setIfInBounds_toArray]); (try simp only [List.set_cons_succ]); (try simp only [List.set_cons_zero])
      obtain ⟨v0, v1⟩ := K1.out.c2
      obtain ⟨f0, f1⟩ := K1.out.f2
      replace K2 := hidU (K2.out.other2 HNE.out.2.2 (.int .i64 (divC (mulC (addC ((vn, vd), false) (5463, 20)) (fn, fd)) (gn, gd)).1.1) (.int .i64 (divC (mulC (addC ((vn, vd), false) (5463, 20)) (fn, fd)) (gn, gd)).1.2))
      replace HF := hidU (HF.out.other2 HFV.out (.int .i64 (divC (mulC (addC ((vn, vd), false) (5463, 20)) (fn, fd)) (gn, gd)).1.1) (.int .i64 (divC (mulC (addC ((vn, vd), false) (5463, 20)) (fn, fd)) (gn, gd)).1.2))
      replace HGB := hidU (HGB.out.other2 HGV.out (.int .i64 (divC (mulC (addC ((vn, vd), false) (5463, 20)) (fn, fd)) (gn, gd)).1.1) (.int .i64 (divC (mulC (addC ((vn, vd), false) (5463, 20)) (fn, fd)) (gn, gd)).1.2))
      replace HKK := hidU ((HKK.out.other (Ne.symm HNK.out.1) 0 (.int .i64 (divC (mulC (addC ((vn, vd), false) (5463, 20)) (fn, fd)) (gn, gd)).1.1)).other (Ne.symm HNK.out.1) 1 (.int .i64 (divC (mulC (addC ((vn, vd), false) (5463, 20)) (fn, fd)) (gn, gd)).1.2))
      have K1b := hidU (K1.out.set2 (.int .i64 (divC (mulC (addC ((vn, vd), false) (5463, 20)) (fn, fd)) (gn, gd)).1.1) (.int .i64 (divC (mulC (addC ((vn, vd), false) (5463, 20)) (fn, fd)) (gn, gd)).1.2))
      replace HB := hidU (below_set2 HB.out HNE.out.1 (.int .i64 (divC (mulC (addC ((vn, vd), false) (5463, 20)) (fn, fd)) (gn, gd)).1.1) (.int .i64 (divC (mulC (addC ((vn, vd), false) (5463, 20)) (fn, fd)) (gn, gd)).1.2))
      refine wpAnyH_ready (rs := [7]) (by kernel_rfl) (by simp) (AllReadyH.cons rfl (fun Kc hKc => ?_) AllReadyH.nil)
      go_simp
      refine hKc.out _ _ ⟨HF.out, HGB.out⟩ (fun hHeld => ?_)
      clear hKc Kc v0 v1 f0 f1 K1
      (try simp only [List.getElem_toArray]); (try simp only [List.getElem_cons_succ]); (try simp only [List.getElem_cons_zero]); (try simp only [Act.put]); (try simp only [List.setIfInBounds_toArray]); (try simp only [List.set_cons_succ]); (try simp only [List.set_cons_zero])
      have K1 := K1b
      clear K1b
      refine wpAnyH_done (by kernel_rfl) ?_ _
      refine NoPanic.normal ?_
      obtain ⟨t33, hwd⟩ : ∃ u, u = (t32.setCell ⟨V, 0, none⟩ (.int .i64 (divC (mulC (addC ((vn, vd), false) (5463, 20)) (fn, fd)) (gn, gd)).1.1)).setCell ⟨V, 1, none⟩ (.int .i64 (divC (mulC (addC ((vn, vd), false) (5463, 20)) (fn, fd)) (gn, gd)).1.2) := ⟨_, rfl⟩
      rw [← hwd] at K1 K2 HF HGB HKK HB ⊢
      clear hwd
      cases ct
      · replace HRES := hidU HRES.out
        simp only [Bool.false_eq_true, if_false] at HRES
        obtain ⟨⟨⟨cn, cd⟩, cb⟩, hC⟩ : ∃ c, c = divC (mulC (addC ((vn, vd), false) (5463, 20)) (fn, fd)) (gn, gd) := ⟨_, rfl⟩
        rw [← hC] at HKK HRES K1
        clear hC
        have kc := HKK.out.cell
        obtain ⟨z0, z1⟩ := K2.out.c2
        obtain ⟨f0, f1⟩ := K2.out.f2
        obtain ⟨v0, v1⟩ := K1.out.c2
        cases cb
        · have HNN : Hid (RR = (cn, cd, true)) := HRES.out
          have KZ := hidU (K2.out.set2 (.int .i64 cn) (.int .i64 cd))
          have HBZ := hidU (below_set2 HB.out HNE.out.2.1 (.int .i64 cn) (.int .i64 cd))
          go_wp2
          obtain ⟨y0, y1⟩ := KZ.out.c2
          exact bodyPost_ret (v := .tuple #[.agg #[.int .i64 cn, .int .i64 cd], .bool true]) (by simp [results, Try.results11, go_sem, y0, y1]) rfl (by rw [HNN.out]; exact ⟨rfl, HBZ.out⟩)
        · have HNN : Hid (RR = (0, 0, false)) := HRES.out
          have KZ := hidU (K2.out.set2 (.int .i64 0) (.int .i64 0))
          have HBZ := hidU (below_set2 HB.out HNE.out.2.1 (.int .i64 0) (.int .i64 0))
          go_wp2
          obtain ⟨y0, y1⟩ := KZ.out.c2
          exact bodyPost_ret (v := .tuple #[.agg #[.int .i64 0, .int .i64 0], .bool false]) (by simp [results, Try.results11, go_sem, y0, y1]) rfl (by rw [HNN.out]; exact ⟨rfl, HBZ.out⟩)
      · replace HRES := hidU HRES.out
        simp only [if_true] at HRES
        go_upto_region 10 with fail
        refine wp_region_noPanic ?_
        have hb := (Below.refl t33.heap.size t33).drew
        replace K1 := hidU (K1.out.below hb)
        replace K2 := hidU (K2.out.below hb)
        replace HF := hidU (HF.out.below hb)
        replace HGB := hidU (HGB.out.below hb)
        replace HKK := hidU (HKK.out.below hb)
        replace HB := hidU (HB.out.trans (hb.mono HB.out.size))
        clear hb
        refine wp_region_held_drew (S := fun _ => True) (by kernel_rfl) trivial (fun hHeld => ?_)
        obtain ⟨t34, hwd⟩ : ∃ u, u = t33.drew := ⟨_, rfl⟩
        rw [← hwd] at K1 K2 HF HGB HKK HB ⊢
        clear hwd
        refine wpAnyH_take (i := 0) (v := ?_) rfl (by kernel_rfl) (by kernel_rfl) (by kernel_rfl) (fun _ _ _ h => h) (Or.inl ⟨by kernel_rfl, ?_⟩) hHeld ?_
        rotate_left
        · intro wz hSw; (try dsimp only at hSw); go_simp; all_goals (try with_reducible rfl)
        (try simp only [List.getElem_toArray]); (try simp only [List.getElem_cons_succ]); (try simp only [List.getElem_cons_zero]); (try simp only [Act.put]); (try simp only [List.setIfInBounds_toArray]); (try simp only [List.set_cons_succ]); (try simp only [List.set_cons_zero])
        refine wpAnyH_ready (rs := [1, 2]) (by kernel_rfl) (by simp) (AllReadyH.cons rfl (fun Kc hKc => ?_) (AllReadyH.cons rfl (fun Kc hKc => ?_) AllReadyH.nil))
        · obtain ⟨v0, v1⟩ := K1.out.c2
          go_simp
          refine hKc.out _ _ trivial (fun hHeld => ?_)
          clear hKc Kc v0 v1
          (try simp only [List.getElem_toArray]); (try simp only [List.getElem_cons_succ]); (try simp only [List.getElem_cons_zero]); (try simp only [Act.put]); (try simp only [List.setIfInBounds_toArray]); (try simp only [List.set_cons_succ]); (try simp only [List.set_cons_zero])
          refine wpAnyH_ready (rs := [2]) (by kernel_rfl) (by simp) (AllReadyH.cons rfl (fun Kc hKc => ?_) AllReadyH.nil)
          go_simp
          refine (l5Zero_any _).mono ?_
          rintro e t35 ⟨rfl, hb⟩
          replace K1 := hidU (K1.out.below hb)
          replace K2 := hidU (K2.out.below hb)
          replace HF := hidU (HF.out.below hb)
          replace HGB := hidU (HGB.out.below hb)
          replace HKK := hidU (HKK.out.below hb)
          replace HB := hidU (HB.out.trans (hb.mono HB.out.size))
          clear hb
          go_wp2_with fail
          refine hKc.out _ _ trivial (fun hHeld => ?_)
          clear hKc Kc
          (try simp only [List.getElem_toArray]); (try simp only [List.getElem_cons_succ]); (try simp only [List.getElem_cons_zero]); (try simp only [Act.put]); (try simp only [List.setIfInBounds_toArray]); (try simp only [List.set_cons_succ]); (try simp only [List.set_cons_zero])
          refine wpAnyH_ready (rs := [3]) (by kernel_rfl) (by simp) (AllReadyH.cons rfl (fun Kc hKc => ?_) AllReadyH.nil)
          go_simp
          refine (HSUB.out _ (divC (mulC (addC ((vn, vd), false) (5463, 20)) (fn, fd)) (gn, gd)) (5463, 20) HKK.out).mono ?_
          rintro e t36 ⟨rfl, hkk, hg⟩
          replace K1 := hidU (K1.out.gr hg HNK.out.1)
          replace K2 := hidU (K2.out.gr hg HNK.out.2.1)
          replace HF := hidU (HF.out.gr hg HNK.out.2.2.1)
          replace HGB := hidU (HGB.out.gr hg HNK.out.2.2.2.1)
          replace HKK := hidU hkk
          replace HB := hidU (HB.out.trans (below_grownK hg HNK.out.2.2.2.2 HB.out.size))
          clear hkk hg
          go_wp2_with fail
          refine hKc.out _ _ trivial (fun hHeld => ?_)
          clear hKc Kc
          (try simp only [List.getElem_toArray]); (try simp only [List.getElem_cons_succ]); (try simp only [List.getElem_cons_zero]); (try simp only [Act.put]); (try simp only [List.setIfInBounds_toArray]); (try simp only [List.set_cons_succ]); (try simp only [List.set_cons_zero])
          obtain ⟨v0, v1⟩ := K1.out.c2
          obtain ⟨f0, f1⟩ := K1.out.f2
          replace K2 := hidU (K2.out.other2 HNE.out.2.2 (.int .i64 (subC (divC (mulC (addC ((vn, vd), false) (5463, 20)) (fn, fd)) (gn, gd)) (5463, 20)).1.1) (.int .i64 (subC (divC (mulC (addC ((vn, vd), false) (5463, 20)) (fn, fd)) (gn, gd)) (5463, 20)).1.2))
          replace HF := hidU (HF.out.other2 HFV.out (.int .i64 (subC (divC (mulC (addC ((vn, vd), false) (5463, 20)) (fn, fd)) (gn, gd)) (5463, 20)).1.1) (.int .i64 (subC (divC (mulC (addC ((vn, vd), false) (5463, 20)) (fn, fd)) (gn, gd)) (5463, 20)).1.2))
          replace HGB := hidU (HGB.out.other2 HGV.out (.int .i64 (subC (divC (mulC (addC ((vn, vd), false) (5463, 20)) (fn, fd)) (gn, gd)) (5463, 20)).1.1) (.int .i64 (subC (divC (mulC (addC ((vn, vd), false) (5463, 20)) (fn, fd)) (gn, gd)) (5463, 20)).1.2))
          replace HKK := hidU ((HKK.out.other (Ne.symm HNK.out.1) 0 (.int .i64 (subC (divC (mulC (addC ((vn, vd), false) (5463, 20)) (fn, fd)) (gn, gd)) (5463, 20)).1.1)).other (Ne.symm HNK.out.1) 1 (.int .i64 (subC (divC (mulC (addC ((vn, vd), false) (5463, 20)) (fn, fd)) (gn, gd)) (5463, 20)).1.2))
          have K1b := hidU (K1.out.set2 (.int .i64 (subC (divC (mulC (addC ((vn, vd), false) (5463, 20)) (fn, fd)) (gn, gd)) (5463, 20)).1.1) (.int .i64 (subC (divC (mulC (addC ((vn, vd), false) (5463, 20)) (fn, fd)) (gn, gd)) (5463, 20)).1.2))
          replace HB := hidU (below_set2 HB.out HNE.out.1 (.int .i64 (subC (divC (mulC (addC ((vn, vd), false) (5463, 20)) (fn, fd)) (gn, gd)) (5463, 20)).1.1) (.int .i64 (subC (divC (mulC (addC ((vn, vd), false) (5463, 20)) (fn, fd)) (gn, gd)) (5463, 20)).1.2))
          refine wpAnyH_ready (rs := [4]) (by kernel_rfl) (by simp) (AllReadyH.cons rfl (fun Kc hKc => ?_) AllReadyH.nil)
          go_simp
          refine hKc.out _ _ trivial (fun hHeld => ?_)
          clear hKc Kc v0 v1 f0 f1 K1
          (try simp only [List.getElem_toArray]); (try simp only [List.getElem_cons_succ]); (try simp only [List.getElem_cons_zero]); (try simp only [Act.put]); (try simp only [List.setIfInBounds_toArray]); (try simp only [List.set_cons_succ]); (try simp only [List.set_cons_zero])
          have K1 := K1b
          clear K1b
          refine wpAnyH_done (by kernel_rfl) ?_ _
          refine NoPanic.normal ?_
          obtain ⟨t37, hwd⟩ : ∃ u, u = (t36.setCell ⟨V, 0, none⟩ (.int .i64 (subC (divC (mulC (addC ((vn, vd), false) (5463, 20)) (fn, fd)) (gn, gd)) (5463, 20)).1.1)).setCell ⟨V, 1, none⟩ (.int .i64 (subC (divC (mulC (addC ((vn, vd), false) (5463, 20)) (fn, fd)) (gn, gd)) (5463, 20)).1.2) := ⟨_, rfl⟩
          rw [← hwd] at K1 K2 HF HGB HKK HB ⊢
          clear hwd
          obtain ⟨⟨⟨cn, cd⟩, cb⟩, hC⟩ : ∃ c, c = subC (divC (mulC (addC ((vn, vd), false) (5463, 20)) (fn, fd)) (gn, gd)) (5463, 20) := ⟨_, rfl⟩
          rw [← hC] at HKK HRES K1
          clear hC
          have kc := HKK.out.cell
          obtain ⟨z0, z1⟩ := K2.out.c2
          obtain ⟨f0, f1⟩ := K2.out.f2
          obtain ⟨v0, v1⟩ := K1.out.c2
          cases cb
          · have HNN : Hid (RR = (cn, cd, true)) := HRES.out
            have KZ := hidU (K2.out.set2 (.int .i64 cn) (.int .i64 cd))
            have HBZ := hidU (below_set2 HB.out HNE.out.2.1 (.int .i64 cn) (.int .i64 cd))
            go_wp2
            obtain ⟨y0, y1⟩ := KZ.out.c2
            exact bodyPost_ret (v := .tuple #[.agg #[.int .i64 cn, .int .i64 cd], .bool true]) (by simp [results, Try.results11, go_sem, y0, y1]) rfl (by rw [HNN.out]; exact ⟨rfl, HBZ.out⟩)
          · have HNN : Hid (RR = (0, 0, false)) := HRES.out
            have KZ := hidU (K2.out.set2 (.int .i64 0) (.int .i64 0))
            have HBZ := hidU (below_set2 HB.out HNE.out.2.1 (.int .i64 0) (.int .i64 0))
            go_wp2
            obtain ⟨y0, y1⟩ := KZ.out.c2
            exact bodyPost_ret (v := .tuple #[.agg #[.int .i64 0, .int .i64 0], .bool false]) (by simp [results, Try.results11, go_sem, y0, y1]) rfl (by rw [HNN.out]; exact ⟨rfl, HBZ.out⟩)
        · go_simp
          refine (l5Zero_any _).mono ?_
          rintro e t38 ⟨rfl, hb⟩
          replace K1 := hidU (K1.out.below hb)
          replace K2 := hidU (K2.out.below hb)
          replace HF := hidU (HF.out.below hb)
          replace HGB := hidU (HGB.out.below hb)
          replace HKK := hidU (HKK.out.below hb)
          replace HB := hidU (HB.out.trans (hb.mono HB.out.size))
          clear hb
          go_wp2_with fail
          refine hKc.out _ _ trivial (fun hHeld => ?_)
          clear hKc Kc
          (try simp only [List.getElem_toArray]); (try simp only [List.getElem_cons_succ]); (try simp only [List.getElem_cons_zero]); (try simp only [Act.put]); (try simp only [List.setIfInBounds_toArray]); (try simp only [List.set_cons_succ]); (try simp only [List.set_cons_zero])
          refine wpAnyH_ready (rs := [1]) (by kernel_rfl) (by simp) (AllReadyH.cons rfl (fun Kc hKc => ?_) AllReadyH.nil)
          obtain ⟨v0, v1⟩ := K1.out.c2
          go_simp
          refine hKc.out _ _ trivial (fun hHeld => ?_)
          clear hKc Kc v0 v1
          (try simp only [List.getElem_toArray]); (try simp only [List.getElem_cons_succ]); (try simp only [List.getElem_cons_zero]); (try simp only [Act.put]); (try simp only [List.setIfInBounds_toArray]); (try simp only [List.set_cons_succ]); (try simp only [List.set_cons_zero])
          refine wpAnyH_ready (rs := [3]) (by kernel_rfl) (by simp) (AllReadyH.cons rfl (fun Kc hKc => ?_) AllReadyH.nil)
          go_simp
          refine (HSUB.out _ (divC (mulC (addC ((vn, vd), false) (5463, 20)) (fn, fd)) (gn, gd)) (5463, 20) HKK.out).mono ?_
          rintro e t39 ⟨rfl, hkk, hg⟩
          replace K1 := hidU (K1.out.gr hg HNK.out.1)
          replace K2 := hidU (K2.out.gr hg HNK.out.2.1)
          replace HF := hidU (HF.out.gr hg HNK.out.2.2.1)
          replace HGB := hidU (HGB.out.gr hg HNK.out.2.2.2.1)
          replace HKK := hidU hkk
          replace HB := hidU (HB.out.trans (below_grownK hg HNK.out.2.2.2.2 HB.out.size))
          clear hkk hg
          go_wp2_with fail
          refine hKc.out _ _ trivial (fun hHeld => ?_)
          clear hKc Kc
          (try simp only [List.getElem_toArray]); (try simp only [List.getElem_cons_succ]); (try simp only [List.getElem_cons_zero]); (try simp only [Act.put]); (try simp only [List.setIfInBounds_toArray]); (try simp only [List.set_cons_succ]); (try simp only [List.set_cons_zero])
          obtain ⟨v0, v1⟩ := K1.out.c2
          obtain ⟨f0, f1⟩ := K1.out.f2
          replace K2 := hidU (K2.out.other2 HNE.out.2.2 (.int .i64 (subC (divC (mulC (addC ((vn, vd), false) (5463, 20)) (fn, fd)) (gn, gd)) (5463, 20)).1.1) (.int .i64 (subC (divC (mulC (addC ((vn, vd), false) (5463, 20)) (fn, fd)) (gn, gd)) (5463, 20)).1.2))
          replace HF := hidU (HF.out.other2 HFV.out (.int .i64 (subC (divC (mulC (addC ((vn, vd), false) (5463, 20)) (fn, fd)) (gn, gd)) (5463, 20)).1.1) (.int .i64 (subC (divC (mulC (addC ((vn, vd), false) (5463, 20)) (fn, fd)) (gn, gd)) (5463, 20)).1.2))
          replace HGB := hidU (HGB.out.other2 HGV.out (.int .i64 (subC (divC (mulC (addC ((vn, vd), false) (5463, 20)) (fn, fd)) (gn, gd)) (5463, 20)).1.1) (.int .i64 (subC (divC (mulC (addC ((vn, vd), false) (5463, 20)) (fn, fd)) (gn, gd)) (5463, 20)).1.2))
          replace HKK := hidU ((HKK.out.other (Ne.symm HNK.out.1) 0 (.int .i64 (subC (divC (mulC (addC ((vn, vd), false) (5463, 20)) (fn, fd)) (gn, gd)) (5463, 20)).1.1)).other (Ne.symm HNK.out.1) 1 (.int .i64 (subC (divC (mulC (addC ((vn, vd), false) (5463, 20)) (fn, fd)) (gn, gd)) (5463, 20)).1.2))
          have K1b := hidU (K1.out.set2 (.int .i64 (subC (divC (mulC (addC ((vn, vd), false) (5463, 20)) (fn, fd)) (gn, gd)) (5463, 20)).1.1) (.int .i64 (subC (divC (mulC (addC ((vn, vd), false) (5463, 20)) (fn, fd)) (gn, gd)) (5463, 20)).1.2))
          replace HB := hidU (below_set2 HB.out HNE.out.1 (.int .i64 (subC (divC (mulC (addC ((vn, vd), false) (5463, 20)) (fn, fd)) (gn, gd)) (5463, 20)).1.1) (.int .i64 (subC (divC (mulC (addC ((vn, vd), false) (5463, 20)) (fn, fd)) (gn, gd)) (5463, 20)).1.2))
          refine wpAnyH_ready (rs := [4]) (by kernel_rfl) (by simp) (AllReadyH.cons rfl (fun Kc hKc => ?_) AllReadyH.nil)
          go_simp
          refine hKc.out _ _ trivial (fun hHeld => ?_)
          clear hKc Kc v0 v1 f0 f1 K1
          (try simp only [List.getElem_toArray]); (try simp only [List.getElem_cons_succ]); (try simp only [List.getElem_cons_zero]); (try simp only [Act.put]); (try simp only [List.setIfInBounds_toArray]); (try simp only [List.set_cons_succ]); (try simp only [List.set_cons_zero])
          have K1 := K1b
          clear K1b
          refine wpAnyH_done (by kernel_rfl) ?_ _
          refine NoPanic.normal ?_
          obtain ⟨t40, hwd⟩ : ∃ u, u = (t39.setCell ⟨V, 0, none⟩ (.int .i64 (subC (divC (mulC (addC ((vn, vd), false) (5463, 20)) (fn, fd)) (gn, gd)) (5463, 20)).1.1)).setCell ⟨V, 1, none⟩ (.int .i64 (subC (divC (mulC (addC ((vn, vd), false) (5463, 20)) (fn, fd)) (gn, gd)) (5463, 20)).1.2) := ⟨_, rfl⟩
          rw [← hwd] at K1 K2 HF HGB HKK HB ⊢
          clear hwd
          obtain ⟨⟨⟨cn, cd⟩, cb⟩, hC⟩ : ∃ c, c = subC (divC (mulC (addC ((vn, vd), false) (5463, 20)) (fn, fd)) (gn, gd)) (5463, 20) := ⟨_, rfl⟩
          rw [← hC] at HKK HRES K1
          clear hC
          have kc := HKK.out.cell
          obtain ⟨z0, z1⟩ := K2.out.c2
          obtain ⟨f0, f1⟩ := K2.out.f2
          obtain ⟨v0, v1⟩ := K1.out.c2
          cases cb
          · have HNN : Hid (RR = (cn, cd, true)) := HRES.out
            have KZ := hidU (K2.out.set2 (.int .i64 cn) (.int .i64 cd))
            have HBZ := hidU (below_set2 HB.out HNE.out.2.1 (.int .i64 cn) (.int .i64 cd))
            go_wp2
            obtain ⟨y0, y1⟩ := KZ.out.c2
            exact bodyPost_ret (v := .tuple #[.agg #[.int .i64 cn, .int .i64 cd], .bool true]) (by simp [results, Try.results11, go_sem, y0, y1]) rfl (by rw [HNN.out]; exact ⟨rfl, HBZ.out⟩)
          · have HNN : Hid (RR = (0, 0, false)) := HRES.out
            have KZ := hidU (K2.out.set2 (.int .i64 0) (.int .i64 0))
            have HBZ := hidU (below_set2 HB.out HNE.out.2.1 (.int .i64 0) (.int .i64 0))
            go_wp2
            obtain ⟨y0, y1⟩ := KZ.out.c2
            exact bodyPost_ret (v := .tuple #[.agg #[.int .i64 0, .int .i64 0], .bool false]) (by simp [results, Try.results11, go_sem, y0, y1]) rfl (by rw [HNN.out]; exact ⟨rfl, HBZ.out⟩)
end Go.Proofs.Ytnhefbhiemdhoaa

/- Converted, the program's. -/
namespace Go.Proofs.Ytnhefbhiemdhoaa
open Go.RowKit Go.MapKept Go.Proofs.Ytnhefbhiemdhoaa.RM

set_option maxRecDepth 100000 in
set_option maxHeartbeats 2000000 in
theorem iConv_yes (vn vd : Int) (s t : ByteArray) (w : World) (u v : UV)
    (HF : Hid (∀ W, Calls Try.prog 23 #[.string s] W fun e w' => e = .returned (.tuple #[uVal u, .bool true]) ∧ Below W.heap.size W w'))
    (HT : Hid (∀ W, Calls Try.prog 23 #[.string t] W fun e w' => e = .returned (.tuple #[uVal v, .bool true]) ∧ Below W.heap.size W w'))
    (hd : u.dims = v.dims) :
    Calls Try.prog 6 #[.agg #[.int .i64 vn, .int .i64 vd], .string s, .string t] w fun e w' => e = .returned (.tuple #[.agg #[.int .i64 (convQ (vn, vd) (zer s.data.toList) u v (zer t.data.toList)).1, .int .i64 (convQ (vn, vd) (zer s.data.toList) u v (zer t.data.toList)).2.1], .bool (convQ (vn, vd) (zer s.data.toList) u v (zer t.data.toList)).2.2]) ∧ Below w.heap.size w w' := by
  have b0 : ∀ (u : World) (o : Obj), Below u.heap.size u (u.alloc o) := fun u o => (Below.refl _ _).alloc (Nat.le_refl _) o
  obtain ⟨⟨pn, pd, po⟩, hP⟩ : ∃ r, r = plainQ (vn, vd) (zer s.data.toList) u := ⟨_, rfl⟩
  have HP : Hid (∀ W, Calls Try.prog 24 #[uVal u, .agg #[.int .i64 vn, .int .i64 vd], .string s] W fun e w' => e = .returned (.tuple #[.agg #[.int .i64 pn, .int .i64 pd], .bool po]) ∧ Below W.heap.size W w') := fun W => by
    have h := plain_any u vn vd s W
    rw [← hP] at h
    exact h
  obtain ⟨⟨rn, rd, ro⟩, hR⟩ : ∃ r, r = convQ (vn, vd) (zer s.data.toList) u v (zer t.data.toList) := ⟨_, rfl⟩
  have HQ : Hid (∀ W, Calls Try.prog 25 #[uVal v, .agg #[.int .i64 pn, .int .i64 pd], .string t] W fun e w' => e = .returned (.tuple #[.agg #[.int .i64 rn, .int .i64 rd], .bool ro]) ∧ Below W.heap.size W w') := fun W => by
    have h := ahead_any v pn pd t W
    have e : (rn, rd, ro) = aheadQ (pn, pd) (zer t.data.toList) v := by rw [hR, conv_two, ← hP]; rfl
    rw [← e] at h
    exact h
  rw [← hR]
  simp only
  clear hR hP
  obtain ⟨an, ad, ax0, ax1, ax2, ax3, ax4⟩ := u
  obtain ⟨bn, bd, bx0, bx1, bx2, bx3, bx4⟩ := v
  simp only [UV.dims, List.cons.injEq, and_true] at hd
  obtain ⟨rfl, rfl, rfl, rfl, rfl⟩ := hd
  have E5 : ∀ W, _ := fun W => eq5 ax0 ax1 ax2 ax3 ax4 ax0 ax1 ax2 ax3 ax4 W
  have hq : (ax0 == ax0 && (ax1 == ax1 && (ax2 == ax2 && (ax3 == ax3 && ax4 == ax4)))) = true := by simp
  rw [hq] at E5
  clear hq
  simp only [uVal] at HF HT HP HQ
  go_enter Try.func6, Try.ntmps6
  go_wp2_with fail
  refine (HF.out _).mono ?_
  rintro e w1 ⟨rfl, hb⟩
  obtain ⟨V, hVe⟩ : ∃ Z, Z = w.heap.size := ⟨_, rfl⟩
  have k1 : IsB w1 V #[.int .i64 vn, .int .i64 vd] 25 := by rw [hVe]; exact ((IsB.new w _ _).below (b0 _ _)).below hb
  have k2 : IsB w1 (V + 1) #[.int .i64 0, .int .i64 0] 25 := by rw [hVe]; exact (IsB.new2c w _ _ _).below hb
  have hB : Below w.heap.size w w1 := ((b0 _ _).alloc (by simp) _).trans (hb.mono (by simp; omega))
  have hVw : w.heap.size ≤ V := Nat.le_of_eq hVe.symm
  rw [← hVe]
  clear hb hVe
  obtain ⟨Z, hZ⟩ : ∃ Z, Z = V + 1 := ⟨_, rfl⟩
  have HNE := hidU (show w.heap.size ≤ V ∧ w.heap.size ≤ Z ∧ Z ≠ V by omega)
  rw [← hZ] at k2 ⊢
  have K1 := hidU k1
  have K2 := hidU k2
  have HB := hidU hB
  clear k1 k2 hB hVw hZ
  go_upto_region 2 with fail
  obtain ⟨X, hX⟩ : ∃ X, X = w1.alloc (.cells #[.int .i64 an, .int .i64 ad, .int .i64 ax0, .int .i64 ax1, .int .i64 ax2, .int .i64 ax3, .int .i64 ax4] 47) := ⟨_, rfl⟩
  obtain ⟨G, hG⟩ : ∃ G, G = w1.heap.size := ⟨_, rfl⟩
  have hb : Below w1.heap.size w1 X := by rw [hX]; exact b0 _ _
  have HG : Hid (IsB X G #[.int .i64 an, .int .i64 ad, .int .i64 ax0, .int .i64 ax1, .int .i64 ax2, .int .i64 ax3, .int .i64 ax4] 47) := by show IsB _ _ _ _; rw [hX, hG]; exact IsB.new _ _ _
  have HGV : Hid (G ≠ V) := by have := K1.out.lt; show _ ≠ _; rw [hG]; omega
  replace K1 := hidU (K1.out.below hb)
  replace K2 := hidU (K2.out.below hb)
  replace HB := hidU (HB.out.trans (hb.mono HB.out.size))
  rw [← hX, ← hG]
  clear hb hX hG
  go_wp2_with fail
  refine (HT.out _).mono ?_
  rintro e w2 ⟨rfl, hb⟩
  replace K1 := hidU (K1.out.below hb)
  replace K2 := hidU (K2.out.below hb)
  replace HG := hidU (HG.out.below hb)
  replace HB := hidU (HB.out.trans (hb.mono HB.out.size))
  clear hb
  go_upto_region 3 with fail
  obtain ⟨Y, hY⟩ : ∃ X, X = w2.alloc (.cells #[.int .i64 bn, .int .i64 bd, .int .i64 ax0, .int .i64 ax1, .int .i64 ax2, .int .i64 ax3, .int .i64 ax4] 47) := ⟨_, rfl⟩
  obtain ⟨K, hK⟩ : ∃ G, G = w2.heap.size := ⟨_, rfl⟩
  have hb : Below w2.heap.size w2 Y := by rw [hY]; exact b0 _ _
  have HK : Hid (IsB Y K #[.int .i64 bn, .int .i64 bd, .int .i64 ax0, .int .i64 ax1, .int .i64 ax2, .int .i64 ax3, .int .i64 ax4] 47) := by show IsB _ _ _ _; rw [hY, hK]; exact IsB.new _ _ _
  have HKV : Hid (K ≠ V) := by have := K1.out.lt; show _ ≠ _; rw [hK]; omega
  replace K1 := hidU (K1.out.below hb)
  replace K2 := hidU (K2.out.below hb)
  replace HG := hidU (HG.out.below hb)
  replace HB := hidU (HB.out.trans (hb.mono HB.out.size))
  rw [← hY, ← hK]
  clear hb hY hK
  obtain ⟨a0, a1, a2, a3, a4, a5, a6⟩ := HG.out.c7
  obtain ⟨c0, c1, c2, c3, c4, c5, c6⟩ := HK.out.c7
  obtain ⟨v0, v1⟩ := K1.out.c2
  have E := E5 Y
  clear E5
  go_wp2_with fail
  refine (HP.out _).mono ?_
  rintro e w3 ⟨rfl, hb⟩
  replace K1 := hidU (K1.out.below hb)
  replace K2 := hidU (K2.out.below hb)
  replace HK := hidU (HK.out.below hb)
  replace HB := hidU (HB.out.trans (hb.mono HB.out.size))
  clear hb a0 a1 a2 a3 a4 a5 a6 c0 c1 c2 c3 c4 c5 c6 v0 v1 E HG
  obtain ⟨v0, v1⟩ := K1.out.c2
  obtain ⟨f0, f1⟩ := K1.out.f2
  have HKb := hidU (HK.out.other2 HKV.out (.int .i64 pn) (.int .i64 pd))
  have K2b := hidU (K2.out.other2 HNE.out.2.2 (.int .i64 pn) (.int .i64 pd))
  have K1b := hidU (K1.out.set2 (.int .i64 pn) (.int .i64 pd))
  have HBb := hidU (below_set2 HB.out HNE.out.1 (.int .i64 pn) (.int .i64 pd))
  go_upto_region 6 with fail
  obtain ⟨T, hT⟩ : ∃ Y, Y = (w3.setCell ⟨V, 0, none⟩ (.int .i64 pn)).setCell ⟨V, 1, none⟩ (.int .i64 pd) := ⟨_, rfl⟩
  rw [← hT] at K1b K2b HKb HBb ⊢
  clear hT v0 v1 f0 f1 K1 K2 HK HB
  obtain ⟨c0, c1, c2, c3, c4, c5, c6⟩ := HKb.out.c7
  obtain ⟨v0, v1⟩ := K1b.out.c2
  go_wp2_with fail
  refine (HQ.out _).mono ?_
  rintro e w4 ⟨rfl, hb⟩
  replace K2b := hidU (K2b.out.below hb)
  replace HBb := hidU (HBb.out.trans (hb.mono HBb.out.size))
  clear hb c0 c1 c2 c3 c4 c5 c6 v0 v1 HKb K1b
  obtain ⟨z0, z1⟩ := K2b.out.c2
  obtain ⟨f0, f1⟩ := K2b.out.f2
  have KZ := hidU (K2b.out.set2 (.int .i64 rn) (.int .i64 rd))
  have HBZ := hidU (below_set2 HBb.out HNE.out.2.1 (.int .i64 rn) (.int .i64 rd))
  go_wp2
  obtain ⟨y0, y1⟩ := KZ.out.c2
  exact bodyPost_ret (v := .tuple #[.agg #[.int .i64 rn, .int .i64 rd], .bool ro]) (by simp [results, Try.results6, go_sem, y0, y1]) rfl ⟨rfl, HBZ.out⟩

theorem iConverted_any (vn vd : Int) (s t : ByteArray) (w : World) (hs : s.size ≤ 1048576) (ht : t.size ≤ 1048576) (ha : ∀ b ∈ s.data.toList, b.toNat < 128) (hb : ∀ b ∈ t.data.toList, b.toNat < 128) :
    Calls Try.prog 6 #[.agg #[.int .i64 vn, .int .i64 vd], .string s, .string t] w fun e w' => e = .returned (.tuple #[.agg #[.int .i64 (convI (vn, vd) s.data.toList t.data.toList).1, .int .i64 (convI (vn, vd) s.data.toList t.data.toList).2.1], .bool (convI (vn, vd) s.data.toList t.data.toList).2.2]) ∧ Below w.heap.size w w' := by
  have HF : Hid (∀ W, Calls Try.prog 23 #[.string s] W fun e w' => e = .returned (.tuple #[uVal ((unitI s.data.toList).getD .zero), .bool (unitI s.data.toList).isSome]) ∧ Below W.heap.size W w') := fun W => unitOf_any s W hs ha
  have HT : Hid (∀ W, Calls Try.prog 23 #[.string t] W fun e w' => e = .returned (.tuple #[uVal ((unitI t.data.toList).getD .zero), .bool (unitI t.data.toList).isSome]) ∧ Below W.heap.size W w') := fun W => unitOf_any t W ht hb
  unfold convI
  cases h1 : unitI s.data.toList with
  | none =>
    rw [h1] at HF
    exact iConv_no vn vd s t w _ _ _ _ HF HT (.inl rfl)
  | some f =>
    rw [h1] at HF
    cases h2 : unitI t.data.toList with
    | none =>
      rw [h2] at HT
      exact iConv_no vn vd s t w _ _ _ _ HF HT (.inr (.inl rfl))
    | some g =>
      rw [h2] at HT
      simp only
      by_cases hd : f.dims = g.dims
      · rw [if_pos hd]
        exact iConv_yes vn vd s t w f g HF HT hd
      · rw [if_neg hd]
        exact iConv_no vn vd s t w _ _ _ _ HF HT (.inr (.inr hd))
end Go.Proofs.Ytnhefbhiemdhoaa

/- The model converts as the program does. -/
namespace Go.Proofs.Ytnhefbhiemdhoaa
open Go.Proofs.Ytnhefbhiemdhoaa.RM

theorem op_no' {t : Bool} {x y : Int} (h : opOk t x y = false) : opN t x y = 0 ∧ opD t x y = 0 := by
  unfold opOk at h
  unfold opN opD
  cases t
  · simp
  · simp only [Bool.true_and] at h
    unfold redN redD
    simp [h]
theorem op_ok {t : Bool} {x y : Int} (h : opOk t x y = true) : okB (opN t x y) (opD t x y) = true := by
  unfold opOk at h
  rw [Bool.and_eq_true] at h
  unfold opN opD
  rw [h.1, if_pos rfl, if_pos rfl]
  exact okB_redN h.2
theorem two_zero (a b : Int) : two 0 0 a b = false := two_no1 (by decide)
/-- what the model has reckoned fits what the program has -/
def Cor (c : Ca) (p : Int × Int × Bool) : Prop := (p.2.2 = true ∧ c = (fr p, false)) ∨ (p.2.2 = false ∧ fr p = (0, 0) ∧ c.2 = true)
theorem Cor.ans {c : Ca} {p : Int × Int × Bool} (h : Cor c p) : ansC c = p := by
  obtain ⟨n, d, b⟩ := p
  rcases h with ⟨h1, h2⟩ | ⟨h1, h2, h3⟩
  · simp only at h1; subst h1; rw [h2]; rfl
  · simp only at h1; subst h1
    unfold fr at h2
    injection h2 with h4 h5
    simp only at h4 h5
    subst h4 h5
    unfold ansC; rw [h3]; rfl
theorem Cor.mul {c : Ca} {p : Int × Int × Bool} (h : Cor c p) (u : Int × Int) : Cor (mulC c u) (mulQ (fr p) u) := by
  rcases h with ⟨h1, rfl⟩ | ⟨h1, h2, h3⟩
  · by_cases ho : (mulQ (fr p) u).2.2 = true
    · exact .inl ⟨ho, mulC_yes ho⟩
    · rw [Bool.not_eq_true] at ho
      exact .inr ⟨ho, Prod.ext (op_no' ho).1 (op_no' ho).2, mulC_no ho⟩
  · rw [h2, mulQ_zero]
    exact .inr ⟨rfl, rfl, mulC_bad c u h3⟩
theorem Cor.div {c : Ca} {p : Int × Int × Bool} (h : Cor c p) (u : Int × Int) : Cor (divC c u) (divQ (fr p) u) := by
  rcases h with ⟨h1, rfl⟩ | ⟨h1, h2, h3⟩
  · by_cases ho : (divQ (fr p) u).2.2 = true
    · refine .inl ⟨ho, ?_⟩
      unfold divC divQ at *
      simp only at ho ⊢
      rw [ho]
      rfl
    · rw [Bool.not_eq_true] at ho
      refine .inr ⟨ho, Prod.ext (op_no' ho).1 (op_no' ho).2, ?_⟩
      unfold divC divQ at *
      simp only at ho ⊢
      rw [ho]
      rfl
  · rw [h2]
    refine .inr ⟨?_, ?_, divC_bad c u h3⟩
    · unfold divQ; simp only [two_zero]; rfl
    · unfold divQ fr; simp only [two_zero]; rfl
theorem addC_bad (f : Ca) (u : Int × Int) (h : f.2 = true) : (addC f u).2 = true := by unfold addC; simp [h]
theorem subC_bad (f : Ca) (u : Int × Int) (h : f.2 = true) : (subC f u).2 = true := by unfold subC; simp [h]
theorem Cor.add {c : Ca} {p : Int × Int × Bool} (h : Cor c p) (u : Int × Int) : Cor (addC c u) (addQ (fr p) u) := by
  rcases h with ⟨h1, rfl⟩ | ⟨h1, h2, h3⟩
  · by_cases ho : (addQ (fr p) u).2.2 = true
    · refine .inl ⟨ho, ?_⟩
      unfold addC addQ at *
      simp only at ho ⊢
      rw [ho]
      rfl
    · rw [Bool.not_eq_true] at ho
      refine .inr ⟨ho, Prod.ext (op_no' ho).1 (op_no' ho).2, ?_⟩
      unfold addC addQ at *
      simp only at ho ⊢
      rw [ho]
      rfl
  · rw [h2]
    refine .inr ⟨?_, ?_, addC_bad c u h3⟩
    · unfold addQ; simp only [two_zero]; rfl
    · unfold addQ fr; simp only [two_zero]; rfl
theorem Cor.sub {c : Ca} {p : Int × Int × Bool} (h : Cor c p) (u : Int × Int) : Cor (subC c u) (subQ (fr p) u) := by
  rcases h with ⟨h1, rfl⟩ | ⟨h1, h2, h3⟩
  · by_cases ho : (subQ (fr p) u).2.2 = true
    · refine .inl ⟨ho, ?_⟩
      unfold subC subQ at *
      simp only at ho ⊢
      rw [ho]
      rfl
    · rw [Bool.not_eq_true] at ho
      refine .inr ⟨ho, Prod.ext (op_no' ho).1 (op_no' ho).2, ?_⟩
      unfold subC subQ at *
      simp only at ho ⊢
      rw [ho]
      rfl
  · rw [h2]
    refine .inr ⟨?_, ?_, subC_bad c u h3⟩
    · unfold subQ; simp only [two_zero]; rfl
    · unfold subQ fr; simp only [two_zero]; rfl
theorem red_same {n d : Int} (h : okB n d = true) : redOk n d = true ∧ redN n d = n ∧ redD n d = d := by
  obtain ⟨h1, h2, h3, h4, h5⟩ := okB_out h
  have hs : sg n d = 1 := by rw [sg_pos (by omega), h5]
  have hi : redIn n d = true := redIn_mk ⟨by omega, by omega, by omega, by omega, by omega⟩
  have hb : bdB (n.tdiv (sg n d)) (d.tdiv (sg n d)) = true := by
    rw [hs]
    simp only [Int.tdiv_one]
    exact bdB_mk ⟨h1, h2, h3, h4⟩
  obtain ⟨r1, r2, r3⟩ := red_yes hi hb
  refine ⟨r1, ?_, ?_⟩
  · rw [r2, hs, Int.tdiv_one]
  · rw [r3, hs, Int.tdiv_one]
theorem two_nought {n d : Int} (h : okB n d = true) : two n d 0 1 = true := two_yes h (by decide +kernel)
theorem add_nought {v : Int × Int} (h : okB v.1 v.2 = true) : addQ v (0, 1) = (v.1, v.2, true) := by
  obtain ⟨h1, h2, h3⟩ := red_same h
  unfold addQ opN opD opOk
  simp only [two_nought h, Int.mul_one, Int.zero_mul, Int.add_zero, if_true, Bool.true_and, h1, h2, h3]
theorem sub_nought {v : Int × Int} (h : okB v.1 v.2 = true) : subQ v (0, 1) = (v.1, v.2, true) := by
  obtain ⟨h1, h2, h3⟩ := red_same h
  unfold subQ opN opD opOk
  simp only [two_nought h, Int.mul_one, Int.zero_mul, Int.sub_zero, if_true, Bool.true_and, h1, h2, h3]
theorem Cor.sub0 {c : Ca} {p : Int × Int × Bool} (h : Cor c p) (hk : p.2.2 = true → okB p.1 p.2.1 = true) : Cor c (subQ (fr p) (0, 1)) := by
  rcases h with ⟨h1, h2⟩ | ⟨h1, h2, h3⟩
  · rw [sub_nought (v := fr p) (hk h1)]
    exact .inl ⟨rfl, h2⟩
  · rw [h2]
    refine .inr ⟨?_, ?_, h3⟩
    · unfold subQ; simp only [two_zero]; rfl
    · unfold subQ fr; simp only [two_zero]; rfl
theorem conv_bad {v : Int × Int} (h : okB v.1 v.2 = false) (z y : Int × Int) (f g : UV) : convQ v z f g y = (0, 0, false) := by
  have h1 : addQ v z = (0, 0, false) := by unfold addQ; rw [two_no1 h]; rfl
  have h2 : ∀ u, divQ (0, 0) u = (0, 0, false) := fun u => by unfold divQ; simp only [two_zero]; rfl
  have h3 : ∀ u, subQ (0, 0) u = (0, 0, false) := fun u => by unfold subQ; simp only [two_zero]; rfl
  unfold convQ
  rw [h1]
  show subQ (fr (divQ (fr (mulQ (0, 0) _)) _)) _ = _
  rw [mulQ_zero]
  show subQ (fr (divQ (0, 0) _)) _ = _
  rw [h2]
  exact h3 _
theorem unitT_some {l : List UInt8} {f : UV} (h : unitI l = some f) : unitT l = (f.n, f.d, f.dims, true) := by unfold unitT; rw [h]; rfl
theorem unitT_none {l : List UInt8} (h : unitI l = none) : unitT l = (0, 0, [], false) := by unfold unitT; rw [h]; rfl
theorem unitT_len {l : List UInt8} (h : (unitT l).2.2.2 = true) : (unitT l).2.2.1.length = 5 := by
  cases hu : unitI l with
  | none => rw [unitT_none hu] at h; cases h
  | some f => rw [unitT_some hu]; rfl
/-- both convert alike -/
theorem conv_same (v : Int × Int) (s t : List UInt8) : convM v (unitT s) (unitT t) (s == [67]) (t == [67]) = convI v s t := by
  unfold convI
  cases h1 : unitI s with
  | none =>
    rw [unitT_none h1]
    unfold convM
    rw [if_neg (fun h => by have := h.1; cases this)]
  | some f =>
    cases h2 : unitI t with
    | none =>
      rw [unitT_none h2]
      unfold convM
      rw [if_neg (fun h => by have := h.2.1; cases this)]
    | some g =>
      rw [unitT_some h1, unitT_some h2]
      simp only
      by_cases hd : f.dims = g.dims
      · rw [if_pos hd]
        by_cases hv : okB v.1 v.2 = true
        · unfold convM
          rw [if_pos ⟨rfl, rfl, hv, hd⟩]
          have c1 : Cor (if (s == [67]) = true then addC (v, false) (5463, 20) else (v, false)) (addQ v (zer s)) := by
            unfold zer
            by_cases hs : s = [67]
            · rw [if_pos (by rw [hs]; rfl), if_pos hs]
              exact Cor.add (c := (v, false)) (p := (v.1, v.2, true)) (.inl ⟨rfl, rfl⟩) (5463, 20)
            · rw [if_neg (by simpa using hs), if_neg hs, add_nought hv]
              exact .inl ⟨rfl, rfl⟩
          have c3 := (c1.mul (f.n, f.d)).div (g.n, g.d)
          have hk : (divQ (fr (mulQ (fr (addQ v (zer s))) (f.n, f.d))) (g.n, g.d)).2.2 = true → okB (divQ (fr (mulQ (fr (addQ v (zer s))) (f.n, f.d))) (g.n, g.d)).1 (divQ (fr (mulQ (fr (addQ v (zer s))) (f.n, f.d))) (g.n, g.d)).2.1 = true := fun h => op_ok h
          unfold convQ
          by_cases ht : t = [67]
          · rw [if_pos (by rw [ht]; rfl), show zer t = (5463, 20) from if_pos ht]
            exact (c3.sub (5463, 20)).ans
          · rw [if_neg (by simpa using ht), show zer t = (0, 1) from if_neg ht]
            exact (c3.sub0 hk).ans
        · rw [Bool.not_eq_true] at hv
          rw [conv_bad hv]
          unfold convM
          rw [if_neg (fun h => by have := h.2.2.1; rw [hv] at this; cases this)]
      · rw [if_neg hd]
        unfold convM
        rw [if_neg (fun h => hd h.2.2.2)]
open Go.RowKit in
theorem sConverted_any (vn vd : Int) (s t : ByteArray) (w : World) (hs : s.size ≤ 1048576) (ht : t.size ≤ 1048576) (ha : okT s.data.toList) (hb : okT t.data.toList) :
    Calls Try.prog 11 #[.agg #[.int .i64 vn, .int .i64 vd], .string s, .string t] w fun e w' => e = .returned (.tuple #[.agg #[.int .i64 (convI (vn, vd) s.data.toList t.data.toList).1, .int .i64 (convI (vn, vd) s.data.toList t.data.toList).2.1], .bool (convI (vn, vd) s.data.toList t.data.toList).2.2]) ∧ Below w.heap.size w w' := by
  have h := sConverted_raw vn vd s t w hs ht (s.data.toList == [67]) (t.data.toList == [67]) (by rw [ByteArray.toList_eq]) (by rw [ByteArray.toList_eq]) (fun q hq h => by rw [unit_same ha] at hq; rw [hq] at h ⊢; exact unitT_len h) (fun q hq h => by rw [unit_same hb] at hq; rw [hq] at h ⊢; exact unitT_len h)
  rw [unit_same ha, unit_same hb, conv_same] at h
  exact h
end Go.Proofs.Ytnhefbhiemdhoaa

/- The walks of the laws' helpers over rows of fractions: held against each other, marked, held to be marked. -/
namespace Go.Proofs.Ytnhefbhiemdhoaa
open Go.RowKit Go.Proofs.Ytnhefbhiemdhoaa.RM

/-- the cells of a row of fractions -/
def cellsR (ps : List (Int × Int)) : List Value := ps.flatMap fun p => [Value.int .i64 p.1, .int .i64 p.2]
theorem cellsR_nil : cellsR [] = [] := rfl
theorem cellsR_cons (p : Int × Int) (ps : List (Int × Int)) : cellsR (p :: ps) = Value.int .i64 p.1 :: .int .i64 p.2 :: cellsR ps := rfl
theorem cellsR_append (ps qs : List (Int × Int)) : cellsR (ps ++ qs) = cellsR ps ++ cellsR qs := by simp [cellsR]
theorem cellsR_len (ps : List (Int × Int)) : (cellsR ps).length = ps.length * 2 := by
  induction ps with
  | nil => rfl
  | cons p ps ih => rw [cellsR_cons]; simp [ih]; omega
theorem cellsR_at : ∀ (ps : List (Int × Int)) (j : Nat), j < ps.length → (cellsR ps)[j * 2]? = some (.int .i64 (ps[j]?.getD (0, 0)).1) ∧ (cellsR ps)[j * 2 + 1]? = some (.int .i64 (ps[j]?.getD (0, 0)).2)
  | [], j, h => by simp at h
  | p :: ps, 0, _ => ⟨rfl, rfl⟩
  | p :: ps, j + 1, h => by
    have ih := cellsR_at ps j (by simpa using h)
    rw [cellsR_cons, show (j + 1) * 2 = j * 2 + 1 + 1 by omega]
    simpa using ih
theorem cellsR_set : ∀ (ps : List (Int × Int)) (j : Nat) (x y : Int), j < ps.length → ((cellsR ps).set (j * 2) (.int .i64 x)).set (j * 2 + 1) (.int .i64 y) = cellsR (ps.set j (x, y))
  | [], j, _, _, h => by simp at h
  | p :: ps, 0, _, _, _ => rfl
  | p :: ps, j + 1, x, y, h => by
    have ih := cellsR_set ps j x y (by simpa using h)
    rw [cellsR_cons, show (j + 1) * 2 = j * 2 + 1 + 1 by omega]
    simp only [List.set_cons_succ]
    rw [ih]; rfl
/-- what a row of fractions tells of its cells -/
theorem own_R {W : World} {base g n c : Nat} {ps : List (Int × Int)} (h : W.ownsRow base 25 2 (.slice (some ⟨g, 0, none⟩) n c) n (cellsR ps)) (hl : ps.length = n) (j : Nat) (hj : j < n) :
    W.cell? ⟨g, j * 2, none⟩ = some (.int .i64 (ps[j]?.getD (0, 0)).1) ∧ W.cell? ⟨g, j * 2 + 1, none⟩ = some (.int .i64 (ps[j]?.getD (0, 0)).2) := by
  have h1 := h.cellAt (j * 2) (by omega)
  have h2 := h.cellAt (j * 2 + 1) (by omega)
  have h3 := cellsR_at ps j (by omega)
  exact ⟨h1.trans h3.1, h2.trans h3.2⟩

/-- what is marked when j of them have been -/
def mrkR (ps : List (Int × Int)) (j : Nat) : List (Int × Int) := (List.range ps.length).map (fun i => if i < j then (1 + 2 * (i : Int), 2 + 2 * (i : Int)) else ps[i]?.getD (0, 0))
theorem mrkR_len (ps : List (Int × Int)) (j : Nat) : (mrkR ps j).length = ps.length := by simp [mrkR]
theorem mrkR_zero (ps : List (Int × Int)) : mrkR ps 0 = ps := by
  apply List.ext_getElem
  · rw [mrkR_len]
  · intro i h1 h2
    simp [mrkR, List.getElem?_eq_getElem h2]
theorem mrkR_set (ps : List (Int × Int)) (j : Nat) : (mrkR ps j).set j (1 + 2 * (j : Int), 2 + 2 * (j : Int)) = mrkR ps (j + 1) := by
  apply List.ext_getElem
  · simp [mrkR]
  · intro i h1 h2
    simp only [mrkR, List.getElem_set, List.getElem_map, List.getElem_range]
    by_cases e : j = i
    · subst e
      rw [if_pos rfl, if_pos (by omega)]
    · rw [if_neg e]
      by_cases h3 : i < j
      · rw [if_pos h3, if_pos (by omega)]
      · rw [if_neg h3, if_neg (by omega)]
theorem mrkR_at (ps : List (Int × Int)) (j : Nat) (h : j < ps.length) : (mrkR ps ps.length)[j]?.getD (0, 0) = (1 + 2 * (j : Int), 2 + 2 * (j : Int)) := by
  simp [mrkR, h]

end Go.Proofs.Ytnhefbhiemdhoaa

/- The walks of the laws' helpers that hold two lists against each other. -/
namespace Go.Proofs.Ytnhefbhiemdhoaa
open Go.RowKit Go.Proofs.Ytnhefbhiemdhoaa.RM

set_option maxRecDepth 100000 in
set_option maxHeartbeats 1000000 in
theorem likeI_same (v u : Value) (zs : List Int) (n b1 b2 : Nat) (w : World) (hn : zs.length = n) (hn2 : n ≤ 1000000000) (h1 : w.ownsRow b1 2 1 v n (zs.map (Value.int .i64))) (h2 : w.ownsRow b2 2 1 u n (zs.map (Value.int .i64))) :
    Calls Try.prog 14 #[v, u] w fun e w' => e = .returned (.bool true) ∧ ∃ m, w' = w.drewN m := by
  by_cases h0 : n = 0
  · obtain ⟨a, c, rfl⟩ := own_shape h1
    obtain ⟨a', c', rfl⟩ := own_shape h2
    subst h0
    clear h1 h2 hn
    go_enter Try.func14, Try.ntmps14
    go_wp2
    go_loop [5] (fun i => i = .int .i64 0) (fun _ => 0)
    case atStart => exact rfl
    case round =>
      subst hrel
      go_wp2
      go_ret
      exact ⟨rfl, 0, rfl⟩
  · obtain ⟨g, c, rfl⟩ := own_some h1 (by omega)
    obtain ⟨g', c', rfl⟩ := own_some h2 (by omega)
    have H1 : Hid (∀ j, j < n → w.cell? ⟨g, j, none⟩ = some (.int .i64 (zs[j]?.getD 0))) := fun j hj => own_int h1 hn j hj
    have H2 : Hid (∀ j, j < n → w.cell? ⟨g', j, none⟩ = some (.int .i64 (zs[j]?.getD 0))) := fun j hj => own_int h2 hn j hj
    clear h1 h2 hn h0
    go_enter Try.func14, Try.ntmps14
    go_wp2
    go_loopw [5] (fun i wr => ∃ k : Nat, k ≤ n ∧ i = .int .i64 k ∧ Hid (∃ m, wr = w.drewN m)) (fun i _ => n - (intOf i).toNat)
    case atStart => exact ⟨0, Nat.zero_le _, rfl, 0, rfl⟩
    case round =>
      obtain ⟨k, hk, rfl, hw⟩ := hrel
      obtain ⟨m, rfl⟩ := hw.out
      clear hw
      by_cases hlt : k < n
      · have c1 := H1.out k hlt
        have c2 := H2.out k hlt
        obtain ⟨x, hx⟩ : ∃ x, x = zs[k]?.getD 0 := ⟨_, rfl⟩
        rw [← hx] at c1 c2
        clear hx
        have ht : (x != x) = false := by simp
        go_wp2
        go_quiet (fail)
        go_wp2
        go_roundw
        case rel => exact ⟨k + 1, by omega, by go_num, m + nq, rfl⟩
        case measure => simp [intOf]; omega
      · go_wp2
        go_ret
        exact ⟨rfl, m, rfl⟩

end Go.Proofs.Ytnhefbhiemdhoaa

/- The law's comparison of two lists of numbers, alike or not; what powers of dimensions are. -/
namespace Go.Proofs.Ytnhefbhiemdhoaa
open Go.RowKit Go.Proofs.Ytnhefbhiemdhoaa.RM

theorem hidJ {p : Prop} (h : p) : Hid p := h
set_option maxRecDepth 100000 in
set_option maxHeartbeats 1000000 in
theorem likeI_any (v u : Value) (zs ys : List Int) (b1 b2 : Nat) (e1 e2 : TypeId) (w : World) (hz : zs.length ≤ 1000000000) (hy : ys.length ≤ 1000000000) (h1 : w.ownsRow b1 e1 1 v zs.length (zs.map (Value.int .i64))) (h2 : w.ownsRow b2 e2 1 u ys.length (ys.map (Value.int .i64))) :
    Calls Try.prog 14 #[v, u] w fun e w' => e = .returned (.bool (decide (zs = ys))) ∧ Below w.heap.size w w' := by
  obtain ⟨n, hn⟩ : ∃ n, n = zs.length := ⟨_, rfl⟩
  obtain ⟨m, hm⟩ : ∃ m, m = ys.length := ⟨_, rfl⟩
  rw [← hn] at h1 hz
  rw [← hm] at h2 hy
  obtain ⟨a, c, rfl⟩ := own_shape h1
  obtain ⟨a', c', rfl⟩ := own_shape h2
  have H1 : Hid (∀ j, j < n → ∃ g, a = some ⟨g, 0, none⟩ ∧ w.cell? ⟨g, j, none⟩ = some (.int .i64 (zs[j]?.getD 0))) := by
    intro j hj
    obtain ⟨g, cc, e⟩ := own_some h1 (by omega)
    cases e
    exact ⟨g, rfl, own_int h1 hn.symm j hj⟩
  have H2 : Hid (∀ j, j < m → ∃ g, a' = some ⟨g, 0, none⟩ ∧ w.cell? ⟨g, j, none⟩ = some (.int .i64 (ys[j]?.getD 0))) := by
    intro j hj
    obtain ⟨g, cc, e⟩ := own_some h2 (by omega)
    cases e
    exact ⟨g, rfl, own_int h2 hm.symm j hj⟩
  have HN := hidJ hn
  have HM := hidJ hm
  clear h1 h2 hn hm
  by_cases hnm : n = m
  · subst hnm
    have hne : ((n : Int) != (n : Int)) = false := by simp
    go_enter Try.func14, Try.ntmps14
    go_wp2
    go_loopw [5] (fun i wr => ∃ k : Nat, k ≤ n ∧ i = .int .i64 k ∧ Hid (∃ m, wr = w.drewN m) ∧ Hid (∀ j, j < k → zs[j]?.getD 0 = ys[j]?.getD 0)) (fun i _ => n - (intOf i).toNat)
    case atStart => exact ⟨0, Nat.zero_le _, rfl, ⟨0, rfl⟩, fun j hj => absurd hj (Nat.not_lt_zero _)⟩
    case round =>
      obtain ⟨k, hk, rfl, hw, HE⟩ := hrel
      obtain ⟨m, rfl⟩ := hw.out
      clear hw
      by_cases hlt : k < n
      · obtain ⟨g, rfl, c1⟩ := H1.out k hlt
        obtain ⟨g', rfl, c2⟩ := H2.out k hlt
        obtain ⟨x, hx⟩ : ∃ x, x = zs[k]?.getD 0 := ⟨_, rfl⟩
        obtain ⟨y, hy'⟩ : ∃ x, x = ys[k]?.getD 0 := ⟨_, rfl⟩
        have HX : Hid (x = zs[k]?.getD 0 ∧ y = ys[k]?.getD 0) := ⟨hx, hy'⟩
        rw [← hx] at c1
        rw [← hy'] at c2
        clear hx hy'
        by_cases hxy : x = y
        · subst hxy
          have ht : (x != x) = false := by simp
          go_wp2
          go_quiet (fail)
          go_wp2
          go_roundw
          case rel =>
            refine ⟨k + 1, by omega, by go_num, ⟨m + nq, rfl⟩, fun j hj => ?_⟩
            by_cases e : j = k
            · subst e; rw [← HX.out.1]; exact HX.out.2
            · exact HE.out j (by omega)
          case measure => simp [intOf]; omega
        · have ht : (x != y) = true := by simpa using hxy
          have HF : Hid (decide (zs = ys) = false) := by
            refine decide_eq_false fun e => hxy ?_
            rw [HX.out.1, HX.out.2, e]
          go_wp2
          go_quiet (fail)
          go_wp2
          go_ret
          exact ⟨ret_bool HF.out.symm, by first | exact below_drewN (below_drewN (Below.refl _ _) _) _ | exact below_drewN (Below.refl _ _) _⟩
      · obtain rfl : k = n := by omega
        have HT : Hid (decide (zs = ys) = true) := by
          refine decide_eq_true (List.ext_getElem (by rw [← HN.out, ← HM.out]) fun j h1 h2 => ?_)
          have := HE.out j (by have := HN.out; omega)
          rw [List.getElem?_eq_getElem h1, List.getElem?_eq_getElem h2] at this
          exact this
        go_wp2
        go_ret
        exact ⟨ret_bool HT.out.symm, below_drewN (Below.refl _ _) _⟩
  · have hne : ((n : Int) != (m : Int)) = true := by simp; omega
    have HF : Hid (decide (zs = ys) = false) := decide_eq_false fun e => hnm (by rw [HN.out, HM.out, e])
    go_enter Try.func14, Try.ntmps14
    go_wp2
    go_ret
    exact ⟨ret_bool HF.out.symm, Below.refl _ _⟩
end Go.Proofs.Ytnhefbhiemdhoaa

/- The law's comparison of two lists of numbers that lie anywhere. -/
namespace Go.Proofs.Ytnhefbhiemdhoaa
open Go.RowKit Go.Proofs.Ytnhefbhiemdhoaa.RM

/-- a list of numbers that can be read, anywhere -/
def RdU (w : World) (v : Value) (xs : List Int) : Prop := ∃ a c, v = .slice a xs.length c ∧ ∀ j, j < xs.length → ∃ g off, a = some ⟨g, off, none⟩ ∧ w.cell? ⟨g, off + j, none⟩ = some (.int .i64 (xs[j]?.getD 0))
theorem RowU.rdU {W : World} {base : Nat} {v : Value} {xs : List Int} (h : RowU W base v xs) : RdU W v xs := by
  obtain ⟨g, off, e, -, -, hj⟩ := h.cells
  exact ⟨_, _, e, fun j h => ⟨g, off, rfl, (hj j h).1⟩⟩
theorem rdU_own {W : World} {b : Nat} {e : TypeId} {v : Value} {xs : List Int} (h : W.ownsRow b e 1 v xs.length (xs.map (Value.int .i64))) : RdU W v xs := by
  obtain ⟨a, c, rfl⟩ := own_shape h
  refine ⟨a, c, rfl, fun j hj => ?_⟩
  obtain ⟨g, cc, e⟩ := own_some h (by omega)
  cases e
  exact ⟨g, 0, rfl, by rw [Nat.zero_add]; exact own_int h rfl j hj⟩
set_option maxRecDepth 100000 in
set_option maxHeartbeats 1000000 in
theorem likeU_any (v u : Value) (zs ys : List Int) (w : World) (hz : zs.length ≤ 1000000000) (hy : ys.length ≤ 1000000000) (h1 : RdU w v zs) (h2 : RdU w u ys) :
    Calls Try.prog 14 #[v, u] w fun e w' => e = .returned (.bool (decide (zs = ys))) ∧ Below w.heap.size w w' := by
  obtain ⟨n, hn⟩ : ∃ n, n = zs.length := ⟨_, rfl⟩
  obtain ⟨m, hm⟩ : ∃ m, m = ys.length := ⟨_, rfl⟩
  obtain ⟨a, c, rfl, h1⟩ := h1
  obtain ⟨a', c', rfl, h2⟩ := h2
  rw [← hn] at h1 hz ⊢
  rw [← hm] at h2 hy ⊢
  have H1 : Hid (∀ j, j < n → ∃ g off, a = some ⟨g, off, none⟩ ∧ w.cell? ⟨g, off + j, none⟩ = some (.int .i64 (zs[j]?.getD 0))) := h1
  have H2 : Hid (∀ j, j < m → ∃ g off, a' = some ⟨g, off, none⟩ ∧ w.cell? ⟨g, off + j, none⟩ = some (.int .i64 (ys[j]?.getD 0))) := h2
  have HN := hidJ hn
  have HM := hidJ hm
  clear h1 h2 hn hm
  by_cases hnm : n = m
  · subst hnm
    have hne : ((n : Int) != (n : Int)) = false := by simp
    go_enter Try.func14, Try.ntmps14
    go_wp2
    go_loopw [5] (fun i wr => ∃ k : Nat, k ≤ n ∧ i = .int .i64 k ∧ Hid (∃ m, wr = w.drewN m) ∧ Hid (∀ j, j < k → zs[j]?.getD 0 = ys[j]?.getD 0)) (fun i _ => n - (intOf i).toNat)
    case atStart => exact ⟨0, Nat.zero_le _, rfl, ⟨0, rfl⟩, fun j hj => absurd hj (Nat.not_lt_zero _)⟩
    case round =>
      obtain ⟨k, hk, rfl, hw, HE⟩ := hrel
      obtain ⟨m, rfl⟩ := hw.out
      clear hw
      by_cases hlt : k < n
      · obtain ⟨g, off, rfl, c1⟩ := H1.out k hlt
        obtain ⟨g', off', rfl, c2⟩ := H2.out k hlt
        obtain ⟨x, hx⟩ : ∃ x, x = zs[k]?.getD 0 := ⟨_, rfl⟩
        obtain ⟨y, hy'⟩ : ∃ x, x = ys[k]?.getD 0 := ⟨_, rfl⟩
        have HX : Hid (x = zs[k]?.getD 0 ∧ y = ys[k]?.getD 0) := ⟨hx, hy'⟩
        rw [← hx] at c1
        rw [← hy'] at c2
        clear hx hy'
        by_cases hxy : x = y
        · subst hxy
          have ht : (x != x) = false := by simp
          go_wp2
          go_quiet (fail)
          go_wp2
          go_roundw
          case rel =>
            refine ⟨k + 1, by omega, by go_num, ⟨m + nq, rfl⟩, fun j hj => ?_⟩
            by_cases e : j = k
            · subst e; rw [← HX.out.1]; exact HX.out.2
            · exact HE.out j (by omega)
          case measure => simp [intOf]; omega
        · have ht : (x != y) = true := by simpa using hxy
          have HF : Hid (decide (zs = ys) = false) := by
            refine decide_eq_false fun e => hxy ?_
            rw [HX.out.1, HX.out.2, e]
          go_wp2
          go_quiet (fail)
          go_wp2
          go_ret
          exact ⟨ret_bool HF.out.symm, by first | exact below_drewN (below_drewN (Below.refl _ _) _) _ | exact below_drewN (Below.refl _ _) _⟩
      · obtain rfl : k = n := by omega
        have HT : Hid (decide (zs = ys) = true) := by
          refine decide_eq_true (List.ext_getElem (by rw [← HN.out, ← HM.out]) fun j h1 h2 => ?_)
          have := HE.out j (by have := HN.out; omega)
          rw [List.getElem?_eq_getElem h1, List.getElem?_eq_getElem h2] at this
          exact this
        go_wp2
        go_ret
        exact ⟨ret_bool HT.out.symm, below_drewN (Below.refl _ _) _⟩
  · have hne : ((n : Int) != (m : Int)) = true := by simp; omega
    have HF : Hid (decide (zs = ys) = false) := decide_eq_false fun e => hnm (by rw [HN.out, HM.out, e])
    go_enter Try.func14, Try.ntmps14
    go_wp2
    go_ret
    exact ⟨ret_bool HF.out.symm, Below.refl _ _⟩
end Go.Proofs.Ytnhefbhiemdhoaa

/- The walk of the law of Both. -/
namespace Go.Proofs.Ytnhefbhiemdhoaa
open Go.RowKit Go.Proofs.Ytnhefbhiemdhoaa.RM

theorem both_same (l : List UInt8) : ((unitS l).2.2.2 && (preS l).2.2.2) = ((uFind l).isSome && (preI l).2) := by
  have h1 : (unitS l).2.2.2 = (uFind l).isSome := by
    unfold unitS
    cases uFind l <;> rfl
  have h2 : (preS l).2.2.2 = (preI l).2 := by
    unfold preS told
    cases (preI l).2 <;> rfl
  rw [h1, h2]

end Go.Proofs.Ytnhefbhiemdhoaa

/- What the law of conversion calls, each told in one way: lists that can be read, texts that were drawn. -/
namespace Go.Proofs.Ytnhefbhiemdhoaa
open Go.RowKit Go.Proofs.Ytnhefbhiemdhoaa.RM

theorem b0_any (u : World) (x : Obj) : Below u.heap.size u (u.alloc x) := (Below.refl _ _).alloc (Nat.le_refl _) x
theorem RdU.below {W W' : World} {v : Value} {xs : List Int} (h : RdU W v xs) (hb : Below W.heap.size W W') : RdU W' v xs := by
  obtain ⟨a, c, e, h⟩ := h
  refine ⟨a, c, e, fun j hj => ?_⟩
  obtain ⟨g, off, e2, hc⟩ := h j hj
  exact ⟨g, off, e2, (hb.cell (p := ⟨g, off + j, none⟩) (World.block_lt_of_cell? W _ hc)).trans hc⟩
theorem likeSame (v u : Value) (xs : List Int) (w : World) (hl : xs.length ≤ 5) (h1 : RdU w v xs) (h2 : RdU w u xs) :
    Calls Try.prog 14 #[v, u] w fun e w' => e = .returned (.bool true) ∧ Below w.heap.size w w' := by
  have h := likeU_any v u xs xs w (by omega) (by omega) h1 h2
  rw [decide_eq_true rfl] at h
  exact h
theorem wordS_len (l : List UInt8) : (wordS l).2.2.1.length ≤ 5 := told_len _
theorem unitT_len5 (l : List UInt8) : (unitT l).2.2.1.length ≤ 5 := told_len _
theorem iWordL {k : Nat} (s : ByteArray) (w : World) (h : DT k s) (hk : k ≤ 1048576) :
    Calls Try.prog 8 #[.string s] w fun e w' => ∃ v, e = .returned (.tuple #[.agg #[.int .i64 (wordS s.data.toList).1, .int .i64 (wordS s.data.toList).2.1], v, .bool (wordS s.data.toList).2.2.2]) ∧ RdU w' v (wordS s.data.toList).2.2.1 ∧ Below w.heap.size w w' := by
  refine (iWord_any s w (h.small hk)).mono ?_
  rintro e w' ⟨v, rfl, hr, hb⟩
  exact ⟨v, rfl, hr.rdU, hb⟩
theorem sWordL (s : ByteArray) (w : World) :
    Calls Try.prog 17 #[.string s] w fun e w' => ∃ v, e = .returned (.tuple #[.agg #[.int .i64 (wordS s.data.toList).1, .int .i64 (wordS s.data.toList).2.1], v, .bool (wordS s.data.toList).2.2.2]) ∧ RdU w' v (wordS s.data.toList).2.2.1 ∧ Below w.heap.size w w' := by
  refine (sWord_any s w).mono ?_
  rintro e w' ⟨v, rfl, hr, hb⟩
  exact ⟨v, rfl, rdU_own hr, hb⟩
theorem iUnitL {k : Nat} (s : ByteArray) (w : World) (h : DT k s) (hk : k ≤ 1048576) :
    Calls Try.prog 10 #[.string s] w fun e w' => ∃ v, e = .returned (.tuple #[.agg #[.int .i64 (unitT s.data.toList).1, .int .i64 (unitT s.data.toList).2.1], v, .bool (unitT s.data.toList).2.2.2]) ∧ RdU w' v (unitT s.data.toList).2.2.1 ∧ Below w.heap.size w w' := by
  refine (iUnitOf_any s w (h.small hk) h.lt).mono ?_
  rintro e w' ⟨v, rfl, hr, hb⟩
  exact ⟨v, rfl, hr.rdU, hb⟩
theorem sUnitL {k : Nat} (s : ByteArray) (w : World) (h : DT k s) (hk : k ≤ 1048576) :
    Calls Try.prog 18 #[.string s] w fun e w' => ∃ v, e = .returned (.tuple #[.agg #[.int .i64 (unitT s.data.toList).1, .int .i64 (unitT s.data.toList).2.1], v, .bool (unitT s.data.toList).2.2.2]) ∧ RdU w' v (unitT s.data.toList).2.2.1 ∧ Below w.heap.size w w' := by
  have hu := sUnitOf_any s w (h.small hk)
  rw [unit_same h.okT] at hu
  refine hu.mono ?_
  rintro e w' ⟨v, et, rfl, hr, hb⟩
  exact ⟨v, rfl, rdU_own hr, hb⟩
theorem iDimsL {k : Nat} (s : ByteArray) (w : World) (h : DT k s) (hk : k ≤ 1048576) :
    Calls Try.prog 15 #[.string s] w fun e w' => ∃ v, e = .returned v ∧ RdU w' v (unitT s.data.toList).2.2.1 ∧ Below w.heap.size w w' := by
  refine (iDims_any s w (h.small hk) h.lt).mono ?_
  rintro e w' ⟨v, rfl, hr, hb⟩
  exact ⟨v, rfl, hr.rdU, hb⟩
theorem sDimsL {k : Nat} (s : ByteArray) (w : World) (h : DT k s) (hk : k ≤ 1048576) :
    Calls Try.prog 16 #[.string s] w fun e w' => ∃ v, e = .returned v ∧ RdU w' v (unitT s.data.toList).2.2.1 ∧ Below w.heap.size w w' := by
  have hu := sDims_any s w (h.small hk)
  rw [unit_same h.okT] at hu
  refine hu.mono ?_
  rintro e w' ⟨v, et, rfl, hr, hb⟩
  exact ⟨v, rfl, rdU_own hr, hb⟩
theorem iConvL {k m : Nat} (vn vd : Int) (s t : ByteArray) (w : World) (h : DT k s) (g : DT m t) (hk : k ≤ 1048576) (hm : m ≤ 1048576) :
    Calls Try.prog 6 #[.agg #[.int .i64 vn, .int .i64 vd], .string s, .string t] w fun e w' => e = .returned (.tuple #[.agg #[.int .i64 (convI (vn, vd) s.data.toList t.data.toList).1, .int .i64 (convI (vn, vd) s.data.toList t.data.toList).2.1], .bool (convI (vn, vd) s.data.toList t.data.toList).2.2]) ∧ Below w.heap.size w w' :=
  iConverted_any vn vd s t w (h.small hk) (g.small hm) h.lt g.lt
theorem sConvL {k m : Nat} (vn vd : Int) (s t : ByteArray) (w : World) (h : DT k s) (g : DT m t) (hk : k ≤ 1048576) (hm : m ≤ 1048576) :
    Calls Try.prog 11 #[.agg #[.int .i64 vn, .int .i64 vd], .string s, .string t] w fun e w' => e = .returned (.tuple #[.agg #[.int .i64 (convI (vn, vd) s.data.toList t.data.toList).1, .int .i64 (convI (vn, vd) s.data.toList t.data.toList).2.1], .bool (convI (vn, vd) s.data.toList t.data.toList).2.2]) ∧ Below w.heap.size w w' :=
  sConverted_any vn vd s t w (h.small hk) (g.small hm) h.okT g.okT
/-- is it a unit and a word with a prefix, too -/
def bothL (l : List UInt8) : Bool := (uFind l).isSome && (preI l).2
theorem iBothL {k : Nat} (s : ByteArray) (w : World) (h : DT k s) (hk : k ≤ 1048576) :
    Calls Try.prog 12 #[.string s] w fun e w' => e = .returned (.bool (bothL s.data.toList)) ∧ Below w.heap.size w w' := iBoth_any s w (h.small hk)
theorem sBothL (s : ByteArray) (w : World) :
    Calls Try.prog 13 #[.string s] w fun e w' => e = .returned (.bool (bothL s.data.toList)) ∧ Below w.heap.size w w' := by
  have h := sBoth_any s w
  rw [both_same] at h
  exact h
theorem DT_min : DT 3 ⟨#[109, 105, 110]⟩ := by decide
theorem wordS_min : wordS [109, 105, 110] = (60, 1, [0, 0, 1, 0, 0], true) := by unfold wordS; rw [word_min]; rfl
theorem bothL_min : bothL [109, 105, 110] = true := by decide +kernel
theorem conv_dims {v : Int × Int} {s t : List UInt8} (h : (convI v s t).2.2 = true) : (unitT t).2.2.1 = (unitT s).2.2.1 := by
  obtain ⟨f, g, e1, e2, e3, -⟩ := convI_yes h
  unfold unitT
  rw [e1, e2]
  exact e3.symm
theorem fiveC7 {W : World} {G : Nat} {t : TypeId} (h : IsB W G #[.int .i64 0, .int .i64 0, .int .i64 1, .int .i64 0, .int .i64 0] t) : ∀ j, j < ([0, 0, 1, 0, 0] : List Int).length → ∃ g off, (some ⟨G, 0, none⟩ : Option Addr) = some ⟨g, off, none⟩ ∧ W.cell? ⟨g, off + j, none⟩ = some (.int .i64 (([0, 0, 1, 0, 0] : List Int)[j]?.getD 0)) := by
  intro j hj
  refine ⟨G, 0, rfl, ?_⟩
  match j, hj with
  | 0, _ => exact h.cell 0 rfl
  | 1, _ => exact h.cell 1 rfl
  | 2, _ => exact h.cell 2 rfl
  | 3, _ => exact h.cell 3 rfl
  | 4, _ => exact h.cell 4 rfl
def thT (k : Nat) : ByteArray := ([⟨#[75]⟩, ⟨#[109, 47, 115]⟩, ⟨#[74]⟩, ⟨#[107, 103, 47, 109, 94, 51]⟩, ⟨#[115]⟩, ⟨#[87]⟩, ⟨#[78]⟩] : List ByteArray)[k]?.getD ⟨#[]⟩
theorem getD_mem {α : Type} (l : List α) (k : Nat) (d : α) (h : k < l.length) : l[k]?.getD d ∈ l := by
  rw [List.getElem?_eq_getElem h]
  exact List.getElem_mem h
theorem thT_ok {k : Nat} (h : k < 7) : DT 6 (thT k) := thirds_ok _ (getD_mem _ k _ h)
theorem thT_cell {W : World} {B : Nat} {t : TypeId} (h : IsB W B #[.string ⟨#[75]⟩, .string ⟨#[109, 47, 115]⟩, .string ⟨#[74]⟩, .string ⟨#[107, 103, 47, 109, 94, 51]⟩, .string ⟨#[115]⟩, .string ⟨#[87]⟩, .string ⟨#[78]⟩] t) {k : Nat} (hk : k < 7) : W.cell? ⟨B, k, none⟩ = some (.string (thT k)) := by
  match k, hk with
  | 0, _ => exact h.cell 0 rfl
  | 1, _ => exact h.cell 1 rfl
  | 2, _ => exact h.cell 2 rfl
  | 3, _ => exact h.cell 3 rfl
  | 4, _ => exact h.cell 4 rfl
  | 5, _ => exact h.cell 5 rfl
  | 6, _ => exact h.cell 6 rfl
end Go.Proofs.Ytnhefbhiemdhoaa
