/- The walk of the program's Cover. -/
import Derived.Test.YtaaefebjjjfgbaaPtI1
import Derived.Test.YtaaefebjjjfgbaaPtW5
namespace Go.Proofs.Ytaaefebjjjfgbaa
open Go.RowKit Go.Proofs.Ytaaefebjjjfgbaa.RM

theorem at_lt {ps : List Fr} (hP : ∀ k, k < ps.length → ptP ps k) {i j : Nat} (hij : i < j) (hj : j < ps.length) : (fr ps i).1 < (fr ps j).1 := by
  have h1 := at_mono hP (i := i) (d := j - 1 - i) (by omega)
  rw [show i + (j - 1 - i) = j - 1 by omega] at h1
  have h2 := (hP j hj).2.2 (by omega)
  omega
theorem at_le {ps : List Fr} (hP : ∀ k, k < ps.length → ptP ps k) {i j : Nat} (hij : i ≤ j) (hj : j < ps.length) : (fr ps i).1 ≤ (fr ps j).1 := by
  have h1 := at_mono hP (i := i) (d := j - i) (by omega)
  rwa [show i + (j - i) = j by omega] at h1
/-- what lies from one point's place to another's is the sum of the weights between them -/
theorem ins_span {ps : List Fr} (hP : ∀ k, k < ps.length → ptP ps k) {i k : Nat} (hik : i ≤ k) (hk : k < ps.length) : insS ps (fr ps i).1 (fr ps k).1 ps.length = wtS ps (k + 1) - wtS ps i := by
  have hs : ∀ n, insS ps (fr ps i).1 (fr ps k).1 (n + 1) = if (fr ps i).1 ≤ (fr ps n).1 ∧ (fr ps n).1 ≤ (fr ps k).1 then insS ps (fr ps i).1 (fr ps k).1 n + (fr ps n).2 else insS ps (fr ps i).1 (fr ps k).1 n := fun _ => rfl
  have hw : ∀ n, wtS ps (n + 1) = wtS ps n + (fr ps n).2 := fun _ => rfl
  have h1 : ∀ n, n ≤ i → insS ps (fr ps i).1 (fr ps k).1 n = 0 := by
    intro n
    induction n with
    | zero => intro _; rfl
    | succ n ih =>
      intro hn
      have := at_lt hP (i := n) (j := i) (by omega) (by omega)
      rw [hs, if_neg (by omega), ih (by omega)]
  have h2 : ∀ n, i + n ≤ k + 1 → insS ps (fr ps i).1 (fr ps k).1 (i + n) = wtS ps (i + n) - wtS ps i := by
    intro n
    induction n with
    | zero => intro _; rw [Nat.add_zero, h1 i (Nat.le_refl _)]; omega
    | succ n ih =>
      intro hn
      have a1 := at_le hP (i := i) (j := i + n) (by omega) (by omega)
      have a2 := at_le hP (i := i + n) (j := k) (by omega) (by omega)
      rw [← Nat.add_assoc, hs, if_pos ⟨a1, a2⟩, ih (by omega), hw]; omega
  have h3 : ∀ n, k + 1 + n ≤ ps.length → insS ps (fr ps i).1 (fr ps k).1 (k + 1 + n) = wtS ps (k + 1) - wtS ps i := by
    intro n
    induction n with
    | zero =>
      intro _
      have := h2 (k + 1 - i) (by omega)
      rw [show i + (k + 1 - i) = k + 1 by omega] at this
      exact this
    | succ n ih =>
      intro hn
      have := at_lt hP (i := k) (j := k + 1 + n) (by omega) (by omega)
      rw [← Nat.add_assoc, hs, if_neg (by omega), ih (by omega)]
  have := h3 (ps.length - (k + 1)) (by omega)
  rwa [show k + 1 + (ps.length - (k + 1)) = ps.length by omega] at this
/-- the ends that the program holds where the model holds a stretch: those of all where it holds none -/
def cvT (ps : List Fr) (s : Int × Int) : Int × Int := if s.1 < 0 then ((fr ps 0).1, (fr ps (ps.length - 1)).1) else ((fr ps s.1.toNat).1, (fr ps s.2.toNat).1)
theorem cvT_step {ps : List Fr} (hP : ∀ k, k < ps.length → ptP ps k) {r : Fr} {s : Int × Int} {i k : Nat} (hik : i ≤ k) (hk : k < ps.length) :
    cvT ps (cvS ps r s i k) = if wtS ps ps.length * r.1 ≤ (wtS ps (k + 1) - wtS ps i) * r.2 ∧ (fr ps k).1 - (fr ps i).1 < (cvT ps s).2 - (cvT ps s).1 then ((fr ps i).1, (fr ps k).1) else cvT ps s := by
  unfold cvS
  rw [ins_span hP hik hk]
  by_cases h1 : (wtS ps (k + 1) - wtS ps i) * r.2 < wtS ps ps.length * r.1
  · rw [if_pos h1, if_neg (by omega)]
  rw [if_neg h1]
  have hT : cvT ps ((i : Int), (k : Int)) = ((fr ps i).1, (fr ps k).1) := by
    unfold cvT
    dsimp only
    rw [if_neg (by omega)]
    simp
  by_cases h2 : s.1 < 0
  · have hs : cvT ps s = ((fr ps 0).1, (fr ps (ps.length - 1)).1) := if_pos h2
    rw [if_pos (.inl h2), hT, hs]
    dsimp only
    by_cases h3 : (fr ps k).1 - (fr ps i).1 < (fr ps (ps.length - 1)).1 - (fr ps 0).1
    · rw [if_pos ⟨by omega, h3⟩]
    · rw [if_neg (fun z => h3 z.2)]
      have a1 := at_le hP (i := 0) (j := i) (by omega) (by omega)
      have a2 := at_le hP (i := k) (j := ps.length - 1) (by omega) (by omega)
      exact Prod.ext (by dsimp only; omega) (by dsimp only; omega)
  · have hs : cvT ps s = ((fr ps s.1.toNat).1, (fr ps s.2.toNat).1) := if_neg h2
    rw [hs]
    dsimp only
    by_cases h3 : (fr ps k).1 - (fr ps i).1 < (fr ps s.2.toNat).1 - (fr ps s.1.toNat).1
    · rw [if_pos (.inr h3), if_pos ⟨by omega, h3⟩, hT]
    · rw [if_neg (fun z => by rcases z with z | z <;> omega), if_neg (fun z => h3 z.2), hs]

set_option maxRecDepth 100000 in
set_option maxHeartbeats 8000000 in
theorem iCover_any (v : Value) (ps : List Fr) (r1 r2 : Int) (w : World) (h : RdR w v ps) :
    Calls Try.prog 8 #[v, .agg #[.int .i64 r1, .int .i64 r2]] w fun e w' => e = .returned (.tuple #[.int .i64 (covL ps (r1, r2)), .int .i64 (covH ps (r1, r2)), .bool (covC ps (r1, r2))]) ∧ Below w.heap.size w w' := by
  have HWG := hidP (fun W (hW : Below w.heap.size w W) => iWeight_any v ps W (h.below hW))
  have HOK := hidP (fun W => right_any r1 r2 W)
  obtain ⟨a, c, rfl, h2, h3, h4, h5⟩ := h
  have H5 : Hid (∀ j, j < ps.length → ∃ b off, a = some ⟨b, off, none⟩ ∧ w.cell? ⟨b, off + j * 2, none⟩ = some (.int .i64 (fr ps j).1) ∧ w.cell? ⟨b, off + j * 2 + 1, none⟩ = some (.int .i64 (fr ps j).2)) := h5
  unfold maxLen at h2 h4
  obtain ⟨q, hq⟩ : ∃ q, q = sprB ps := ⟨_, rfl⟩
  obtain ⟨k, hk⟩ : ∃ q, q = okB r1 r2 := ⟨_, rfl⟩
  have HC : Hid (covC ps (r1, r2) = (q && k && decide (0 ≤ r1 ∧ r1 ≤ r2))) := by show _ = _; rw [hq, hk]; rfl
  rw [← hk] at HOK
  have HQ := hidP hq
  have HK := hidP hk
  have HW0 : Hid (q = false → wgtA ps = -1) := fun e => by unfold wgtA; rw [← hq, e]; rfl
  have HW1 : Hid (q = true → wgtA ps = wtS ps ps.length) := fun e => by unfold wgtA; rw [← hq, e]; rfl
  have BB : Below w.heap.size w (w.alloc (.cells #[.int .i64 r1, .int .i64 r2] 29)) := b0P _ _
  have ZR := IsR.new w r1 r2
  obtain ⟨L, hL⟩ : ∃ L, L = ps.length := ⟨_, rfl⟩
  have HL := hidP hL
  rw [← hL] at h2 h3 H5 HWG HW1 ⊢
  clear h5 hq hk hL
  go_enter Try.func8, Try.ntmps8
  go_wp2_with fail
  refine (HWG.out _ BB).mono ?_
  rintro e w1 ⟨rfl, hb⟩
  replace ZR := ZR.below hb
  replace BB := BB.trans (hb.mono BB.size)
  have z0 := ZR.c0
  have z1 := ZR.c1
  clear hb HWG
  cases q
  · have HCF : Hid (covC ps (r1, r2) = false) := by show _ = _; rw [HC.out]; rfl
    have HN := hidP (covC_no HCF.out)
    rw [HW0.out rfl]
    go_wp2
    exact bodyPost_ret (v := .tuple #[.int .i64 0, .int .i64 0, .bool false]) (by simp [results, Try.results8, go_sem]) rfl ⟨ret_c9 HN.out.1.symm HN.out.2.symm HCF.out.symm, BB⟩
  rw [HW1.out rfl]
  have hsp := sprB_out HQ.out.symm
  have hw0 := (wtS_in hsp.2.1).1
  have hw6 := hsp.2.2
  obtain ⟨T, hT⟩ : ∃ T, T = wtS ps L := ⟨_, rfl⟩
  rw [← HL.out] at hw0 hw6
  rw [← hT] at hw0 hw6 ⊢
  have HT := hidP hT
  clear hT hsp HW0 HW1
  go_wp2_with fail
  refine (HOK.out _).mono ?_
  rintro e w2 ⟨rfl, hb⟩
  replace ZR := ZR.below hb
  replace BB := BB.trans (hb.mono BB.size)
  replace z0 := cell_keep hb z0
  replace z1 := cell_keep hb z1
  clear hb
  cases k
  · have HCF : Hid (covC ps (r1, r2) = false) := by show _ = _; rw [HC.out]; rfl
    have HN := hidP (covC_no HCF.out)
    go_wp2
    exact bodyPost_ret (v := .tuple #[.int .i64 0, .int .i64 0, .bool false]) (by simp [results, Try.results8, go_sem]) rfl ⟨ret_c9 HN.out.1.symm HN.out.2.symm HCF.out.symm, BB⟩
  by_cases g0 : r1 < 0
  · have HCF : Hid (covC ps (r1, r2) = false) := by show _ = _; rw [HC.out, decide_eq_false (by omega)]; rfl
    have HN := hidP (covC_no HCF.out)
    go_wp2
    exact bodyPost_ret (v := .tuple #[.int .i64 0, .int .i64 0, .bool false]) (by simp [results, Try.results8, go_sem]) rfl ⟨ret_c9 HN.out.1.symm HN.out.2.symm HCF.out.symm, BB⟩
  by_cases g1 : r2 < r1
  · have HCF : Hid (covC ps (r1, r2) = false) := by show _ = _; rw [HC.out, decide_eq_false (by omega)]; rfl
    have HN := hidP (covC_no HCF.out)
    go_wp2
    exact bodyPost_ret (v := .tuple #[.int .i64 0, .int .i64 0, .bool false]) (by simp [results, Try.results8, go_sem]) rfl ⟨ret_c9 HN.out.1.symm HN.out.2.symm HCF.out.symm, BB⟩
  have HCT : Hid (covC ps (r1, r2) = true) := by show _ = _; rw [HC.out, decide_eq_true (by omega)]; rfl
  have hok := okB_out HK.out.symm
  have hsp := sprB_out HQ.out.symm
  have HN : Hid (covL ps (r1, r2) = (cvT ps (cvO ps (r1, r2) L)).1 ∧ covH ps (r1, r2) = (cvT ps (cvO ps (r1, r2) L)).2) := by
    have h := covC_yes HCT.out
    have h1 := cvO_some (r := (r1, r2)) hsp (by show r1 ≤ r2; omega) (i := ps.length) hsp.1.1
    have e : cvT ps (cvO ps (r1, r2) L) = ((fr ps (cvO ps (r1, r2) L).1.toNat).1, (fr ps (cvO ps (r1, r2) L).2.toNat).1) := if_neg (by rw [HL.out]; omega)
    rw [e, HL.out]
    exact h
  obtain ⟨⟨l1, l2⟩, hP, -⟩ := hsp
  have HP := hidP hP
  have HTR := hidP (mul_in (a := r1) (b := T) (A := 1000000000) (B := 1000000) (by omega) (by omega) (by omega) (by omega))
  rw [← HL.out] at l1 l2 HP
  obtain ⟨O, hO⟩ : ∃ O, O = fun i => cvT ps (cvO ps (r1, r2) i) := ⟨_, rfl⟩
  have HOE : Hid (O = fun i => cvT ps (cvO ps (r1, r2) i)) := hO
  have HO0 : Hid (O 0 = ((fr ps 0).1, (fr ps (L - 1)).1)) := by show _ = _; rw [hO, HL.out]; rfl
  have HN' : Hid (covL ps (r1, r2) = (O L).1 ∧ covH ps (r1, r2) = (O L).2) := by show _ ∧ _; rw [hO]; exact HN.out
  have HWS : Hid (∀ i j, i ≤ j → j ≤ L → 0 ≤ wtS ps j - wtS ps i ∧ wtS ps j - wtS ps i ≤ 1000000) := by
    intro i j hij hj
    have a1 := wtS_mono (ps := ps) (n := j) (fun x hx => HP.out x (by omega)) hij
    have a2 := wtS_mono (ps := ps) (n := L) (fun x hx => HP.out x hx) hj
    have a3 := wtS_pos (ps := ps) (k := i) (fun x hx => HP.out x (by omega))
    rw [← HT.out] at a2
    omega
  have HOI : Hid (∀ i, i < L → -1000 ≤ (fr ps i).1 ∧ (fr ps i).1 ≤ 1000) := fun i hi => (HP.out i hi).1
  have HOB : Hid (∀ s : Int × Int, cvP ps.length s → (-1000 ≤ (cvT ps s).1 ∧ (cvT ps s).1 ≤ 1000) ∧ (-1000 ≤ (cvT ps s).2 ∧ (cvT ps s).2 ≤ 1000)) := by
    intro s hs
    unfold cvT
    rw [← HL.out] at hs ⊢
    split
    · exact ⟨HOI.out 0 (by omega), HOI.out (L - 1) (by omega)⟩
    · rcases hs with ⟨e, _⟩ | ⟨a1, a2, a3, a4⟩
      · omega
      · exact ⟨HOI.out _ (by omega), HOI.out _ (by omega)⟩
  clear hP hO HN
  obtain ⟨d2, d1⟩ := hok
  obtain ⟨n, rfl⟩ : ∃ n, L = n + 1 := ⟨L - 1, by omega⟩
  rw [Nat.add_sub_cancel] at HO0
  obtain ⟨b, off, rfl, c1, -⟩ := H5.out 0 (by omega)
  obtain ⟨b', off', e, c2, -⟩ := H5.out n (by omega)
  cases e
  replace c1 := cell_keep BB c1
  replace c2 := cell_keep BB c2
  simp only [Nat.zero_mul, Nat.add_zero] at c1
  have HO1 : Hid (O 0 = ((fr ps 0).1, (fr ps n).1)) := HO0.out
  obtain ⟨x0, hx0⟩ : ∃ x, x = (fr ps 0).1 := ⟨_, rfl⟩
  obtain ⟨xn, hxn⟩ : ∃ x, x = (fr ps n).1 := ⟨_, rfl⟩
  rw [← hx0] at c1 HO1
  rw [← hxn] at c2 HO1
  clear hx0 hxn HO0
  go_upto_region 4 with fail
  go_quiet (fail)
  have ZH := hidP ZR
  have BH := hidP BB
  clear ZR BB z0 z1 c1 c2
  go_wp2
  go_loopw [8, 9, 49] (fun lo hi i wr => ∃ k : Nat, k ≤ n + 1 ∧ i = .int .i64 k ∧ lo = .int .i64 (O k).1 ∧ hi = .int .i64 (O k).2 ∧ Hid (IsR wr w.heap.size r1 r2) ∧ Hid (Below w.heap.size w wr)) (fun _ _ i _ => n + 1 - (intOf i).toNat)
  case atStart => exact ⟨0, Nat.zero_le _, rfl, by rw [HO1.out], by rw [HO1.out], by first | exact ZH.out | exact ZH.out.below (below_drewN (Below.refl _ _) _), by first | exact BH.out | exact below_drewN BH.out _⟩
  case round =>
    clear ZH BH
    obtain ⟨k, hk, rfl, rfl, rfl, hZ, hB⟩ := hrel
    by_cases hlt : k < n + 1
    · obtain ⟨C, hC⟩ : ∃ C, C = fun j => cvT ps (cvR ps (r1, r2) k (cvO ps (r1, r2) k) j) := ⟨_, rfl⟩
      have HC0 : Hid (C 0 = O k) := by show _ = _; rw [hC, HOE.out]; rfl
      have HCE : Hid (O (k + 1) = C (n + 1 - k)) := by show _ = _; rw [hC, HOE.out, HL.out]; rfl
      have HCR : Hid (∀ j, k + j < n + 1 → C (j + 1) = if r1 * T ≤ (wtS ps (k + j + 1) - wtS ps k) * r2 ∧ (fr ps (k + j)).1 - (fr ps k).1 < (C j).2 - (C j).1 then ((fr ps k).1, (fr ps (k + j)).1) else C j) := by
        intro j hj
        have := cvT_step (ps := ps) (fun x hx => HP.out x (by rw [HL.out]; exact hx)) (r := (r1, r2)) (s := cvR ps (r1, r2) k (cvO ps (r1, r2) k) j) (i := k) (k := k + j) (by omega) (by rw [← HL.out]; exact hj)
        rw [← HL.out, ← HT.out, Int.mul_comm T] at this
        rw [hC]
        exact this
      have HCB : Hid (∀ j, k + j ≤ n + 1 → (-1000 ≤ (C j).1 ∧ (C j).1 ≤ 1000) ∧ (-1000 ≤ (C j).2 ∧ (C j).2 ≤ 1000)) := by
        intro j hj
        rw [hC]
        exact HOB.out _ (cvR_in (cvO_in (by rw [← HL.out]; exact hk)) (by rw [← HL.out]; exact hlt) (by rw [← HL.out]; exact hj))
      obtain ⟨b1, o1, e, c1, c2⟩ := H5.out k hlt
      cases e
      replace c1 := cell_keep hB.out c1
      replace c2 := cell_keep hB.out c2
      have hx := HOI.out k hlt
      obtain ⟨p, hp⟩ : ∃ p, p = fr ps k := ⟨_, rfl⟩
      have HQP := hidP hp
      rw [← hp] at c1 c2 hx HCR
      obtain ⟨x, y⟩ := p
      dsimp only at c1 c2 hx HCR
      clear hp hC
      go_upto_region 8 with fail
      have hb : Below wr.heap.size wr (wr.alloc (.cells #[.int .i64 x, .int .i64 y] 36)) := (Below.refl _ _).alloc (Nat.le_refl _) _
      obtain ⟨X, hX⟩ : ∃ X, X = wr.alloc (.cells #[.int .i64 x, .int .i64 y] 36) := ⟨_, rfl⟩
      obtain ⟨Pb, hPb⟩ : ∃ P, P = wr.heap.size := ⟨_, rfl⟩
      have p1 : X.cell? ⟨Pb, 0, none⟩ = some (.int .i64 x) := by rw [hX, hPb]; simp [go_sem]
      rw [← hX] at hb
      rw [← hX, ← hPb]
      have zk := hidP (hZ.out.below hb)
      have bk := hidP (hB.out.trans (hb.mono hB.out.size))
      have pk := hidP p1
      clear hX hPb hb c1 c2 p1 hZ hB
      go_wp2
      go_loopw [8, 9, 12, 58] (fun lo hi s i wz => ∃ j : Nat, k + j ≤ n + 1 ∧ i = .int .i64 j ∧ lo = .int .i64 (C j).1 ∧ hi = .int .i64 (C j).2 ∧ s = .int .i64 (wtS ps (k + j) - wtS ps k) ∧ Hid (IsR wz w.heap.size r1 r2) ∧ Hid (Below w.heap.size w wz) ∧ Hid (wz.cell? ⟨Pb, 0, none⟩ = some (.int .i64 x))) (fun _ _ _ i _ => n + 1 - k - (intOf i).toNat)
      case atStart => exact ⟨0, by omega, rfl, by rw [HC0.out], by rw [HC0.out], by rw [Nat.add_zero, Int.sub_self], zk.out, bk.out, pk.out⟩
      case round =>
        clear zk bk pk
        obtain ⟨j, hj, rfl, rfl, rfl, rfl, hZ, hB, hp1⟩ := hrel
        by_cases hjl : k + j < n + 1
        · obtain ⟨b2, o2, e, d1, d2⟩ := H5.out (k + j) hjl
          cases e
          have eo : off + (k + j) * 2 = off + k * 2 + j * 2 := by omega
          rw [eo] at d1 d2
          replace d1 := cell_keep hB.out d1
          replace d2 := cell_keep hB.out d2
          have hy := HOI.out (k + j) hjl
          have hcr := HCR.out j hjl
          have hcb := HCB.out j (by omega)
          have hs0 := HWS.out k (k + j) (by omega) (by omega)
          have hs1 := HWS.out k (k + j + 1) (by omega) (by omega)
          have hse : wtS ps (k + j + 1) = wtS ps (k + j) + (fr ps (k + j)).2 := rfl
          obtain ⟨p, hp⟩ : ∃ p, p = fr ps (k + j) := ⟨_, rfl⟩
          rw [← hp] at d1 d2 hy hcr hse
          obtain ⟨x2, y2⟩ := p
          dsimp only at d1 d2 hy hcr hse
          obtain ⟨s, hs⟩ : ∃ s, s = wtS ps (k + j) - wtS ps k := ⟨_, rfl⟩
          have hs' : wtS ps (k + j + 1) - wtS ps k = s + y2 := by rw [hse, hs]; omega
          rw [← hs] at hs0 ⊢
          rw [hs'] at hs1 hcr
          have HS' := hidP hs'
          obtain ⟨⟨lo, hi⟩, hlh⟩ : ∃ z, z = C j := ⟨_, rfl⟩
          rw [← hlh] at hcr hcb ⊢
          dsimp only at hcr hcb ⊢
          have HCJ := hidP hcr
          obtain ⟨s1, hs1e⟩ : ∃ z, z = s + y2 := ⟨_, rfl⟩
          have HS1 : s + y2 = s1 := hs1e.symm
          rw [HS1] at hs1 HCJ HS'
          have hsr := mul_in (a := s1) (b := r2) (A := 1000000) (B := 1000000000) (by omega) (by omega) (by omega) (by omega)
          have htr := HTR.out
          obtain ⟨⟨cl1, cl2⟩, ch1, ch2⟩ := hcb
          obtain ⟨hx1, hx2⟩ := hx
          obtain ⟨hy1, hy2⟩ := hy
          clear hp hs hs' hlh hcr hse hs1e
          go_upto_region 12 with fail
          have hb : Below wr.heap.size wr (wr.alloc (.cells #[.int .i64 x2, .int .i64 y2] 36)) := (Below.refl _ _).alloc (Nat.le_refl _) _
          obtain ⟨X, hX⟩ : ∃ X, X = wr.alloc (.cells #[.int .i64 x2, .int .i64 y2] 36) := ⟨_, rfl⟩
          obtain ⟨Qb, hQb⟩ : ∃ P, P = wr.heap.size := ⟨_, rfl⟩
          have q1 : X.cell? ⟨Qb, 0, none⟩ = some (.int .i64 x2) := by rw [hX, hQb]; simp [go_sem]
          have q2 : X.cell? ⟨Qb, 1, none⟩ = some (.int .i64 y2) := by rw [hX, hQb]; simp [go_sem]
          rw [← hX] at hb
          rw [← hX, ← hQb]
          replace hZ := hidP (hZ.out.below hb)
          replace hp1 := hidP (cell_keep hb hp1.out)
          replace hB := hidP (hB.out.trans (hb.mono hB.out.size))
          have p1 := hp1.out
          have z0 := hZ.out.c0
          have z1 := hZ.out.c1
          clear hX hQb hb d1 d2
          by_cases g1 : r1 * T ≤ s1 * r2
          · have d1 : decide (r1 * T ≤ s1 * r2) = true := decide_eq_true g1
            by_cases g2 : x2 - x < hi - lo
            · have d2 : decide (x2 - x < hi - lo) = true := decide_eq_true g2
              have HCN : Hid (C (j + 1) = (x, x2)) := by show _ = _; rw [HCJ.out, if_pos ⟨g1, g2⟩]
              go_upto_region 14 with fail
              go_quiet (fail)
              go_wp2
              go_roundw
              case rel => exact ⟨j + 1, by omega, by go_num, by rw [HCN.out], by rw [HCN.out], by rw [← Nat.add_assoc, HS'.out], by first | exact hZ.out | exact hZ.out.below (below_drewN (Below.refl _ _) _), by first | exact hB.out | exact below_drewN hB.out _, by first | exact hp1.out | exact cell_keep (below_drewN (Below.refl _ _) _) hp1.out⟩
              case measure => simp [intOf]; omega
            · have d2 : decide (x2 - x < hi - lo) = false := decide_eq_false g2
              have HCN : Hid (C (j + 1) = (lo, hi)) := by show _ = _; rw [HCJ.out, if_neg (fun z => g2 z.2)]
              go_wp2
              go_roundw
              case rel => exact ⟨j + 1, by omega, by go_num, by rw [HCN.out], by rw [HCN.out], by rw [← Nat.add_assoc, HS'.out], by first | exact hZ.out | exact hZ.out.below (below_drewN (Below.refl _ _) _), by first | exact hB.out | exact below_drewN hB.out _, by first | exact hp1.out | exact cell_keep (below_drewN (Below.refl _ _) _) hp1.out⟩
              case measure => simp [intOf]; omega
          · have d1 : decide (r1 * T ≤ s1 * r2) = false := decide_eq_false g1
            have HCN : Hid (C (j + 1) = (lo, hi)) := by show _ = _; rw [HCJ.out, if_neg (fun z => g1 z.1)]
            go_wp2
            go_roundw
            case rel => exact ⟨j + 1, by omega, by go_num, by rw [HCN.out], by rw [HCN.out], by rw [← Nat.add_assoc, HS'.out], by first | exact hZ.out | exact hZ.out.below (below_drewN (Below.refl _ _) _), by first | exact hB.out | exact below_drewN hB.out _, by first | exact hp1.out | exact cell_keep (below_drewN (Below.refl _ _) _) hp1.out⟩
            case measure => simp [intOf]; omega
        · obtain rfl : j = n + 1 - k := by omega
          go_wp2
          go_roundw
          case rel => exact ⟨k + 1, by omega, by go_num, by rw [HCE.out], by rw [HCE.out], hZ.out, hB.out⟩
          case measure => simp [intOf]; omega
    · obtain rfl : k = n + 1 := by omega
      go_wp2
      exact bodyPost_ret (v := .tuple #[.int .i64 (O (n + 1)).1, .int .i64 (O (n + 1)).2, .bool true]) (by simp [results, Try.results8, go_sem]) rfl ⟨ret_c9 HN'.out.1.symm HN'.out.2.symm HCT.out.symm, hB.out⟩
end Go.Proofs.Ytaaefebjjjfgbaa
