/- The walk of the model's Cover. -/
import Derived.Test.YtaaefebjjjfgbaaPtW4
namespace Go.Proofs.Ytaaefebjjjfgbaa
open Go.RowKit Go.Proofs.Ytaaefebjjjfgbaa.RM

set_option maxRecDepth 100000 in
set_option maxHeartbeats 2000000 in
theorem sInsQ_any (v : Value) (ps : List Fr) (lo hi : Int) (w : World) (h : RdR w v ps) (hn : ps.length ≤ 40) (hP : ∀ k, k < ps.length → ptP ps k) :
    Calls Try.prog 27 #[v, .int .i64 lo, .int .i64 hi] w fun e w' => e = .returned (.int .i64 (insS ps lo hi ps.length)) ∧ w' = w := by
  obtain ⟨a, c, rfl, h2, h3, h4, h5⟩ := h
  have H5 : Hid (∀ j, j < ps.length → ∃ b off, a = some ⟨b, off, none⟩ ∧ w.cell? ⟨b, off + j * 2, none⟩ = some (.int .i64 (fr ps j).1) ∧ w.cell? ⟨b, off + j * 2 + 1, none⟩ = some (.int .i64 (fr ps j).2)) := h5
  have HP := hidP hP
  obtain ⟨L, hL⟩ : ∃ L, L = ps.length := ⟨_, rfl⟩
  rw [← hL] at hn H5 HP ⊢
  clear h5 h2 h3 h4 hL hP
  go_enter Try.func27, Try.ntmps27
  go_wp2
  go_loop [7, 8] (fun s i => ∃ k : Nat, k ≤ L ∧ i = .int .i64 k ∧ s = .int .i64 (insS ps lo hi k)) (fun _ i => L - (intOf i).toNat)
  case atStart => exact ⟨0, Nat.zero_le _, rfl, rfl⟩
  case round =>
    obtain ⟨k, hk, rfl, rfl⟩ := hrel
    have hw := wtS_in (ps := ps) (k := k) (fun j hj => HP.out j (by omega))
    have hw2 := insS_in (ps := ps) (lo := lo) (hi := hi) (k := k) (fun j hj => HP.out j (by omega))
    obtain ⟨s, hs⟩ : ∃ s, s = insS ps lo hi k := ⟨_, rfl⟩
    have HS := hidP hs
    rw [← hs] at hw2 ⊢
    have hsk : s ≤ 40000000 := by omega
    have hs0 := hw2.1
    clear hs hw hw2
    by_cases hlt : k < L
    · obtain ⟨b, off, rfl, c1, c2⟩ := H5.out k hlt
      have hp2 := (HP.out k hlt).2.1
      obtain ⟨p, hp⟩ : ∃ p, p = fr ps k := ⟨_, rfl⟩
      have HQ := hidP hp
      rw [← hp] at c1 c2 hp2
      obtain ⟨x, y⟩ := p
      dsimp only at c1 c2 hp2
      clear hp
      have hk1 : s + y ≤ 41000000 := by omega
      have hk0 : 0 ≤ s + y := by omega
      by_cases g : lo ≤ x ∧ x ≤ hi
      · have HN : Hid (insS ps lo hi (k + 1) = s + y) := by
          show (if lo ≤ (fr ps k).1 ∧ (fr ps k).1 ≤ hi then insS ps lo hi k + (fr ps k).2 else insS ps lo hi k) = _
          rw [← HQ.out, if_pos g, ← HS.out]
        have HX := hidP (in_any x lo hi w)
        rw [inB_yes g.1 g.2] at HX
        clear g
        go_wp2_with fail
        refine HX.out.mono ?_
        rintro e w1 ⟨rfl, hw⟩
        have hw2 := hw.symm
        subst hw2
        clear hw
        go_wp2
        go_round
        case rel => exact ⟨k + 1, by omega, by go_num, by rw [HN.out]⟩
        case measure => simp [intOf]; omega
      · have HN : Hid (insS ps lo hi (k + 1) = s) := by
          show (if lo ≤ (fr ps k).1 ∧ (fr ps k).1 ≤ hi then insS ps lo hi k + (fr ps k).2 else insS ps lo hi k) = _
          rw [← HQ.out, if_neg g, ← HS.out]
        have HX := hidP (in_any x lo hi w)
        rw [inB_no g] at HX
        clear g
        go_wp2_with fail
        refine HX.out.mono ?_
        rintro e w1 ⟨rfl, hw⟩
        have hw2 := hw.symm
        subst hw2
        clear hw
        go_wp2
        go_round
        case rel => exact ⟨k + 1, by omega, by go_num, by rw [HN.out]⟩
        case measure => simp [intOf]; omega
    · obtain rfl : k = L := by omega
      go_wp2
      go_ret
      exact ⟨ret_i HS.out, rfl⟩

/-- one stretch more: the shortest so far (-1 where there is none) -/
def cvS (ps : List Fr) (r : Fr) (s : Int × Int) (i k : Nat) : Int × Int :=
  if insS ps (fr ps i).1 (fr ps k).1 ps.length * r.2 < wtS ps ps.length * r.1 then s
  else if s.1 < 0 ∨ (fr ps k).1 - (fr ps i).1 < (fr ps s.2.toNat).1 - (fr ps s.1.toNat).1 then ((i : Int), (k : Int)) else s
def cvR (ps : List Fr) (r : Fr) (i : Nat) (s : Int × Int) : Nat → Int × Int
  | 0 => s
  | j + 1 => cvS ps r (cvR ps r i s j) i (i + j)
def cvO (ps : List Fr) (r : Fr) : Nat → Int × Int
  | 0 => (-1, -1)
  | i + 1 => cvR ps r i (cvO ps r i) (ps.length - i)
/-- a stretch of the list, or none -/
def cvP (L : Nat) (s : Int × Int) : Prop := (s.1 = -1 ∧ s.2 = -1) ∨ (0 ≤ s.1 ∧ s.1 < L ∧ 0 ≤ s.2 ∧ s.2 < L)
theorem cvS_in {ps : List Fr} {r : Fr} {s : Int × Int} {i k : Nat} (h : cvP ps.length s) (hi : i < ps.length) (hk : k < ps.length) : cvP ps.length (cvS ps r s i k) := by
  unfold cvS
  split
  · exact h
  · split
    · exact .inr ⟨by show 0 ≤ (i : Int); omega, by show (i : Int) < _; omega, by show 0 ≤ (k : Int); omega, by show (k : Int) < _; omega⟩
    · exact h
theorem cvR_in {ps : List Fr} {r : Fr} {s : Int × Int} {i : Nat} (h : cvP ps.length s) (hi : i < ps.length) : ∀ {j : Nat}, i + j ≤ ps.length → cvP ps.length (cvR ps r i s j)
  | 0, _ => h
  | j + 1, hj => cvS_in (cvR_in h hi (by omega)) hi (by omega)
theorem cvO_in {ps : List Fr} {r : Fr} : ∀ {i : Nat}, i ≤ ps.length → cvP ps.length (cvO ps r i)
  | 0, _ => .inl ⟨rfl, rfl⟩
  | i + 1, h => cvR_in (cvO_in (by omega)) (by omega) (by omega)
def covC (ps : List Fr) (r : Fr) : Bool := sprB ps && okB r.1 r.2 && decide (0 ≤ r.1 ∧ r.1 ≤ r.2)
def covL (ps : List Fr) (r : Fr) : Int := if covC ps r = true then (fr ps (cvO ps r ps.length).1.toNat).1 else 0
def covH (ps : List Fr) (r : Fr) : Int := if covC ps r = true then (fr ps (cvO ps r ps.length).2.toNat).1 else 0
theorem cvS_pos {ps : List Fr} {r : Fr} {s : Int × Int} {i k : Nat} (h : 0 ≤ s.1) : 0 ≤ (cvS ps r s i k).1 := by
  unfold cvS
  split
  · exact h
  · split
    · show 0 ≤ (i : Int); omega
    · exact h
theorem cvR_pos {ps : List Fr} {r : Fr} {s : Int × Int} {i : Nat} (h : 0 ≤ s.1) : ∀ {j : Nat}, 0 ≤ (cvR ps r i s j).1
  | 0 => h
  | _ + 1 => cvS_pos (cvR_pos h)
theorem at_mono {ps : List Fr} (hP : ∀ k, k < ps.length → ptP ps k) {i : Nat} : ∀ {d : Nat}, i + d < ps.length → (fr ps i).1 ≤ (fr ps (i + d)).1
  | 0, _ => Int.le_refl _
  | d + 1, h => by
    have h1 := at_mono hP (i := i) (d := d) (by omega)
    have h2 := (hP (i + (d + 1)) h).2.2 (by omega)
    rw [show i + (d + 1) - 1 = i + d by omega] at h2
    omega
theorem ins_all {ps : List Fr} {lo hi : Int} : ∀ {k : Nat}, (∀ j, j < k → lo ≤ (fr ps j).1 ∧ (fr ps j).1 ≤ hi) → insS ps lo hi k = wtS ps k
  | 0, _ => rfl
  | k + 1, h => by
    rw [show insS ps lo hi (k + 1) = if lo ≤ (fr ps k).1 ∧ (fr ps k).1 ≤ hi then insS ps lo hi k + (fr ps k).2 else insS ps lo hi k from rfl, if_pos (h k (by omega)), ins_all fun j hj => h j (by omega)]
    rfl
theorem cvO_some {ps : List Fr} {r : Fr} (h : sprP ps) (h1 : r.1 ≤ r.2) : ∀ {i : Nat}, 1 ≤ i → 0 ≤ (cvO ps r i).1
  | 1, _ => by
    obtain ⟨⟨l1, _⟩, hP, _⟩ := h
    obtain ⟨n, hn⟩ : ∃ n, ps.length = n + 1 := ⟨ps.length - 1, by omega⟩
    show 0 ≤ (cvR ps r 0 (-1, -1) (ps.length - 0)).1
    rw [Nat.sub_zero, hn]
    show 0 ≤ (cvS ps r (cvR ps r 0 (-1, -1) n) 0 (0 + n)).1
    rw [Nat.zero_add]
    have hall : insS ps (fr ps 0).1 (fr ps n).1 ps.length = wtS ps ps.length := ins_all fun j hj => by
      have a1 := at_mono hP (i := 0) (d := j) (by omega)
      have a2 := at_mono hP (i := j) (d := n - j) (by omega)
      rw [Nat.zero_add] at a1
      rw [show j + (n - j) = n by omega] at a2
      exact ⟨a1, a2⟩
    have hw := (wtS_in hP).1
    have hm := Int.mul_le_mul_of_nonneg_left h1 hw
    unfold cvS
    rw [hall, if_neg (by omega)]
    split
    · show (0 : Int) ≤ ((0 : Nat) : Int); omega
    · omega
  | i + 2, _ => cvR_pos (cvO_some h h1 (by omega))
theorem ret_c9 {a b a' b' : Int} {o o' : Bool} (h1 : a = a') (h2 : b = b') (h3 : o = o') : Ending.returned (.tuple #[.int .i64 a, .int .i64 b, .bool o]) = .returned (.tuple #[.int .i64 a', .int .i64 b', .bool o']) := by rw [h1, h2, h3]
theorem covC_no {ps : List Fr} {r : Fr} (h : covC ps r = false) : covL ps r = 0 ∧ covH ps r = 0 := by unfold covL covH; rw [h]; exact ⟨rfl, rfl⟩
theorem covC_yes {ps : List Fr} {r : Fr} (h : covC ps r = true) : covL ps r = (fr ps (cvO ps r ps.length).1.toNat).1 ∧ covH ps r = (fr ps (cvO ps r ps.length).2.toNat).1 := by unfold covL covH; rw [h]; exact ⟨rfl, rfl⟩

set_option maxRecDepth 100000 in
set_option maxHeartbeats 8000000 in
theorem sCover_any (v : Value) (ps : List Fr) (r1 r2 : Int) (w : World) (h : RdR w v ps) :
    Calls Try.prog 9 #[v, .agg #[.int .i64 r1, .int .i64 r2]] w fun e w' => e = .returned (.tuple #[.int .i64 (covL ps (r1, r2)), .int .i64 (covH ps (r1, r2)), .bool (covC ps (r1, r2))]) ∧ Below w.heap.size w w' := by
  have HSP := hidP (fun W (hW : Below w.heap.size w W) => sSpr_any v ps W (h.below hW))
  have HOK := hidP (fun W => sOk_any r1 r2 W)
  have H := hidP h
  obtain ⟨a, c, rfl, h2, h3, h4, h5⟩ := h
  have H5 : Hid (∀ j, j < ps.length → ∃ b off, a = some ⟨b, off, none⟩ ∧ w.cell? ⟨b, off + j * 2, none⟩ = some (.int .i64 (fr ps j).1) ∧ w.cell? ⟨b, off + j * 2 + 1, none⟩ = some (.int .i64 (fr ps j).2)) := h5
  obtain ⟨q, hq⟩ : ∃ q, q = sprB ps := ⟨_, rfl⟩
  obtain ⟨k, hk⟩ : ∃ q, q = okB r1 r2 := ⟨_, rfl⟩
  have HC : Hid (covC ps (r1, r2) = (q && k && decide (0 ≤ r1 ∧ r1 ≤ r2))) := by show _ = _; rw [hq, hk]; rfl
  rw [← hq] at HSP
  rw [← hk] at HOK
  have HQ := hidP hq
  have HK := hidP hk
  have BB : Below w.heap.size w (w.alloc (.cells #[.int .i64 r1, .int .i64 r2] 29)) := b0P _ _
  have ZR := IsR.new w r1 r2
  clear h5 h2 h3 h4 hq hk
  go_enter Try.func9, Try.ntmps9
  go_wp2_with fail
  refine (HSP.out _ BB).mono ?_
  rintro e w1 ⟨rfl, hb⟩
  replace ZR := ZR.below hb
  replace BB := BB.trans (hb.mono BB.size)
  have z0 := ZR.c0
  have z1 := ZR.c1
  clear hb
  cases q
  · have HCF : Hid (covC ps (r1, r2) = false) := by show _ = _; rw [HC.out]; rfl
    have HN := hidP (covC_no HCF.out)
    go_wp2
    exact bodyPost_ret (v := .tuple #[.int .i64 0, .int .i64 0, .bool false]) (by simp [results, Try.results9, go_sem]) rfl ⟨ret_c9 HN.out.1.symm HN.out.2.symm HCF.out.symm, BB⟩
  go_wp2_with fail
  refine (HOK.out _).mono ?_
  rintro e w2 ⟨rfl, hb⟩
  replace ZR := ZR.below hb
  replace BB := BB.trans (hb.mono BB.size)
  replace z0 := cell_keep hb z0
  replace z1 := cell_keep hb z1
  clear hb
  cases k
  · have HCF : Hid (covC ps (r1, r2) = false) := by show _ = _; rw [HC.out]; rfl
    have HN := hidP (covC_no HCF.out)
    go_wp2
    exact bodyPost_ret (v := .tuple #[.int .i64 0, .int .i64 0, .bool false]) (by simp [results, Try.results9, go_sem]) rfl ⟨ret_c9 HN.out.1.symm HN.out.2.symm HCF.out.symm, BB⟩
  by_cases g0 : r1 < 0
  · have HCF : Hid (covC ps (r1, r2) = false) := by show _ = _; rw [HC.out, decide_eq_false (by omega)]; rfl
    have HN := hidP (covC_no HCF.out)
    go_wp2
    exact bodyPost_ret (v := .tuple #[.int .i64 0, .int .i64 0, .bool false]) (by simp [results, Try.results9, go_sem]) rfl ⟨ret_c9 HN.out.1.symm HN.out.2.symm HCF.out.symm, BB⟩
  by_cases g1 : r2 < r1
  · have HCF : Hid (covC ps (r1, r2) = false) := by show _ = _; rw [HC.out, decide_eq_false (by omega)]; rfl
    have HN := hidP (covC_no HCF.out)
    go_wp2
    exact bodyPost_ret (v := .tuple #[.int .i64 0, .int .i64 0, .bool false]) (by simp [results, Try.results9, go_sem]) rfl ⟨ret_c9 HN.out.1.symm HN.out.2.symm HCF.out.symm, BB⟩
  have HCT : Hid (covC ps (r1, r2) = true) := by show _ = _; rw [HC.out, decide_eq_true (by omega)]; rfl
  have HN := hidP (covC_yes HCT.out)
  have hok := okB_out HK.out.symm
  have hsp := sprB_out HQ.out.symm
  have HSM := hidP (fun (i : Nat) (hi : 1 ≤ i) => cvO_some (r := (r1, r2)) hsp (by show r1 ≤ r2; omega) hi)
  obtain ⟨⟨l1, l2⟩, hP, hs6⟩ := hsp
  have HP := hidP hP
  have HWT := hidP (fun W (hW : Below w.heap.size w W) => sWt_any _ ps W (H.out.below hW) l2 hP)
  have HIN := hidP (fun lo hi W (hW : Below w.heap.size w W) => sInsQ_any _ ps lo hi W (H.out.below hW) l2 hP)
  have hw0 := (wtS_in hP).1
  have HII := hidP (fun lo hi => insS_in (ps := ps) (lo := lo) (hi := hi) hP)
  obtain ⟨O, hO⟩ : ∃ O, O = cvO ps (r1, r2) := ⟨_, rfl⟩
  have HO0 : Hid (O 0 = (-1, -1)) := by show _ = _; rw [hO]; rfl
  have HOS : Hid (∀ i, O (i + 1) = cvR ps (r1, r2) i (O i) (ps.length - i)) := by intro i; rw [hO]; rfl
  have HOI : Hid (∀ i, i ≤ ps.length → cvP ps.length (O i)) := by intro i hi; rw [hO]; exact cvO_in hi
  rw [← hO] at HSM HN
  obtain ⟨I, hI⟩ : ∃ I, I = fun lo hi => insS ps lo hi ps.length := ⟨_, rfl⟩
  obtain ⟨T, hT⟩ : ∃ T, T = wtS ps ps.length := ⟨_, rfl⟩
  have HIE : Hid (∀ lo hi, insS ps lo hi ps.length = I lo hi) := by intro lo hi; rw [hI]
  rw [← hT] at hs6 hw0 HWT
  have HI1 : Hid (∀ lo hi, 0 ≤ I lo hi ∧ I lo hi ≤ 1000000) := by intro lo hi; have := HII.out lo hi; rw [HIE.out, ← hT] at this; omega
  have HIQ : Hid (∀ lo hi W, Below w.heap.size w W → Calls Try.prog 27 #[.slice a ps.length c, .int .i64 lo, .int .i64 hi] W fun e w' => e = .returned (.int .i64 (I lo hi)) ∧ w' = W) := by
    intro lo hi W hW; rw [← HIE.out]; exact HIN.out lo hi W hW
  have HCS : Hid (∀ s i k, cvS ps (r1, r2) s i k = if I (fr ps i).1 (fr ps k).1 * r2 < T * r1 then s else if s.1 < 0 ∨ (fr ps k).1 - (fr ps i).1 < (fr ps s.2.toNat).1 - (fr ps s.1.toNat).1 then ((i : Int), (k : Int)) else s) := by
    intro s i k; rw [hI, hT]; rfl
  have hTr := mul_in (a := T) (b := r1) (A := 1000000) (B := 1000000000) (by omega) (by omega) (by omega) (by omega)
  obtain ⟨L, hL⟩ : ∃ L, L = ps.length := ⟨_, rfl⟩
  have HL := hidP hL
  rw [← hL] at l1 l2 H5 HP HOS HOI HIQ HN HWT ⊢
  have hwR : w.heap.size ≤ w.heap.size := Nat.le_refl _
  clear hP hO hI hT hL HII HIN HSP HOK HIE
  go_wp2_with fail
  refine (HWT.out _ BB).mono ?_
  rintro e w3 ⟨rfl, hb⟩
  replace ZR := ZR.below hb
  replace BB := BB.trans (hb.mono BB.size)
  clear hb z0 z1 HWT
  go_wp2
  go_loopw [8, 9, 10] (fun b f i wr => ∃ k : Nat, k ≤ L ∧ i = .int .i64 k ∧ b = .int .i64 (O k).1 ∧ f = .int .i64 (O k).2 ∧ Hid (IsR wr w.heap.size r1 r2) ∧ Hid (Below w.heap.size w wr)) (fun _ _ i _ => L - (intOf i).toNat)
  case atStart => exact ⟨0, Nat.zero_le _, rfl, by rw [HO0.out], by rw [HO0.out], ZR, BB⟩
  case round =>
    clear ZR BB
    obtain ⟨k, hk, rfl, rfl, rfl, hZ, hB⟩ := hrel
    by_cases hlt : k < L
    · obtain ⟨C, hC⟩ : ∃ C, C = cvR ps (r1, r2) k (O k) := ⟨_, rfl⟩
      have HC0 : Hid (C 0 = O k) := by show _ = _; rw [hC]; rfl
      have HCR : Hid (∀ j, C (j + 1) = cvS ps (r1, r2) (C j) k (k + j)) := by intro j; rw [hC]; rfl
      have HCI : Hid (∀ j, k + j ≤ L → cvP L (C j)) := by
        intro j hj
        rw [hC, HL.out]
        exact cvR_in (by rw [← HL.out]; exact HOI.out k hk) (by rw [← HL.out]; exact hlt) (by rw [← HL.out]; exact hj)
      have HCE : Hid (O (k + 1) = C (L - k)) := by show _ = _; rw [HOS.out, hC]
      have hz1 : IsR wr w.heap.size r1 r2 := hZ.out
      have hb1 : Below w.heap.size w wr := hB.out
      clear hC hZ hB
      go_wp2
      go_loopw [8, 9, 11] (fun b f i wz => ∃ m : Nat, k ≤ m ∧ m ≤ L ∧ i = .int .i64 m ∧ b = .int .i64 (C (m - k)).1 ∧ f = .int .i64 (C (m - k)).2 ∧ Hid (IsR wz w.heap.size r1 r2) ∧ Hid (Below w.heap.size w wz)) (fun _ _ i _ => L - (intOf i).toNat)
      case atStart => exact ⟨k, Nat.le_refl _, hk, rfl, by rw [Nat.sub_self, HC0.out], by rw [Nat.sub_self, HC0.out], hz1, hb1⟩
      case round =>
        clear hz1 hb1
        obtain ⟨m, hkm, hj, rfl, rfl, rfl, hZ, hB⟩ := hrel
        obtain ⟨j, hjj⟩ : ∃ j, j = m - k := ⟨_, rfl⟩
        rw [← hjj]
        have hm : m = k + j := by omega
        by_cases hjl : m < L
        · obtain ⟨b0, o0, rfl, c1, -⟩ := H5.out k hlt
          obtain ⟨b1, o1, e, d1, -⟩ := H5.out m hjl
          cases e
          replace c1 := cell_keep hB.out c1
          replace d1 := cell_keep hB.out d1
          have hcs := HCR.out j
          rw [← hm, HCS.out] at hcs
          obtain ⟨x, hx⟩ : ∃ x, x = (fr ps k).1 := ⟨_, rfl⟩
          obtain ⟨y, hy⟩ : ∃ x, x = (fr ps m).1 := ⟨_, rfl⟩
          rw [← hx] at c1 hcs
          rw [← hy] at d1 hcs
          have HI := hidP (fun W hW => HIQ.out x y W hW)
          have hn := HI1.out x y
          obtain ⟨n, hnn⟩ : ∃ n, n = I x y := ⟨_, rfl⟩
          rw [← hnn] at HI hn hcs
          have hnr := mul_in (a := n) (b := r2) (A := 1000000) (B := 1000000000) (by omega) (by omega) (by omega) (by omega)
          have hr0 : -1000000000000000 ≤ n * r2 := by omega
          have hr1 : n * r2 ≤ 1000000000000000 := by omega
          have ht0 : -1000000000000000 ≤ T * r1 := by omega
          have ht1 : T * r1 ≤ 1000000000000000 := by omega
          have hcv := HCI.out j (by omega)
          obtain ⟨⟨s1, s2⟩, hs⟩ : ∃ s, s = C j := ⟨_, rfl⟩
          rw [← hs] at hcs hcv ⊢
          dsimp only at hcs hcv ⊢
          have z0 := hZ.out.c0
          have z1 := hZ.out.c1
          have HM1 := hidP (show m + 1 - k = j + 1 by omega)
          have hPk := (HP.out k hlt).1
          have hPm := (HP.out m hjl).1
          rw [← hx] at hPk
          rw [← hy] at hPm
          clear hx hy hnn hs hnr hTr hm hjj
          by_cases g : n * r2 < T * r1
          · have hd : decide (n * r2 < T * r1) = true := decide_eq_true g
            rw [if_pos g] at hcs
            have HX := hidP hcs
            clear hcs g hcv
            go_upto_region 12 with fail
            go_quiet (with_reducible exact Calls.quiet_of_same (HI.out _ (below_drewN hB.out _)))
            go_wp2
            go_roundw
            case rel => exact ⟨m + 1, by omega, by omega, by go_num, by rw [HM1.out, HX.out], by rw [HM1.out, HX.out], IsR.below (hZ.out) (below_drewN (Below.refl _ _) _), below_drewN hB.out _⟩
            case measure => simp [intOf]; omega
          · have hd : decide (n * r2 < T * r1) = false := decide_eq_false g
            rw [if_neg g] at hcs
            clear g
            go_upto_region 12 with fail
            go_quiet (with_reducible exact Calls.quiet_of_same (HI.out _ (below_drewN hB.out _)))
            go_upto_region 13 with fail
            by_cases gs : s1 < 0
            · have hd2 : decide (s1 < 0) = true := decide_eq_true gs
              rw [if_pos (.inl gs)] at hcs
              have HX := hidP hcs
              clear hcs gs hcv
              go_quiet (fail)
              go_wp2
              go_roundw
              case rel => exact ⟨m + 1, by omega, by omega, by go_num, by rw [HM1.out, HX.out], by rw [HM1.out, HX.out], (by first | exact IsR.below hZ.out (below_drewN (Below.refl _ _) _) | exact IsR.below hZ.out (below_drewN (below_drewN (Below.refl _ _) _) _)), (by first | exact below_drewN hB.out _ | exact below_drewN (below_drewN hB.out _) _)⟩
              case measure => simp [intOf]; omega
            · obtain ⟨v1, v2, v3, v4⟩ : 0 ≤ s1 ∧ s1 < L ∧ 0 ≤ s2 ∧ s2 < L := by
                rcases hcv with ⟨e, _⟩ | h
                · exact absurd (show s1 < 0 by have : s1 = -1 := e; omega) gs
                · exact h
              obtain ⟨a1, rfl⟩ : ∃ a1 : Nat, s1 = (a1 : Int) := ⟨s1.toNat, by omega⟩
              obtain ⟨a2, rfl⟩ : ∃ a2 : Nat, s2 = (a2 : Int) := ⟨s2.toNat, by omega⟩
              have hd2 : decide ((a1 : Int) < 0) = false := decide_eq_false gs
              obtain ⟨b2, o2, e, f1, -⟩ := H5.out a1 (by omega)
              cases e
              obtain ⟨b3, o3, e, f2, -⟩ := H5.out a2 (by omega)
              cases e
              replace f1 := cell_keep hB.out f1
              replace f2 := cell_keep hB.out f2
              have hP1 := (HP.out a1 (by omega)).1
              have hP2 := (HP.out a2 (by omega)).1
              rw [Int.toNat_natCast, Int.toNat_natCast] at hcs
              obtain ⟨u, hu⟩ : ∃ x, x = (fr ps a1).1 := ⟨_, rfl⟩
              obtain ⟨z, hz⟩ : ∃ x, x = (fr ps a2).1 := ⟨_, rfl⟩
              rw [← hu] at f1 hP1 hcs
              rw [← hz] at f2 hP2 hcs
              clear hu hz hcv
              by_cases g3 : y - x < z - u
              · have hd3 : decide (y - x < z - u) = true := decide_eq_true g3
                rw [if_pos (.inr g3)] at hcs
                have HX := hidP hcs
                clear hcs g3
                go_quiet (fail)
                go_wp2
                go_roundw
                case rel => exact ⟨m + 1, by omega, by omega, by go_num, by rw [HM1.out, HX.out], by rw [HM1.out, HX.out], (by first | exact IsR.below hZ.out (below_drewN (Below.refl _ _) _) | exact IsR.below hZ.out (below_drewN (below_drewN (Below.refl _ _) _) _)), (by first | exact below_drewN hB.out _ | exact below_drewN (below_drewN hB.out _) _)⟩
                case measure => simp [intOf]; omega
              · have hd3 : decide (y - x < z - u) = false := decide_eq_false g3
                rw [if_neg (fun q => q.elim gs g3)] at hcs
                have HX := hidP hcs
                clear hcs g3
                go_quiet (fail)
                go_wp2
                go_roundw
                case rel => exact ⟨m + 1, by omega, by omega, by go_num, by rw [HM1.out, HX.out], by rw [HM1.out, HX.out], (by first | exact IsR.below hZ.out (below_drewN (Below.refl _ _) _) | exact IsR.below hZ.out (below_drewN (below_drewN (Below.refl _ _) _) _)), (by first | exact below_drewN hB.out _ | exact below_drewN (below_drewN hB.out _) _)⟩
                case measure => simp [intOf]; omega
        · have hmL : j = L - k := by omega
          have e1 : m = L := by omega
          have HX := hidP (show O (k + 1) = C j by rw [HCE.out, hmL])
          have hz1 : IsR wr w.heap.size r1 r2 := hZ.out
          have hb1 : Below w.heap.size w wr := hB.out
          clear hZ hB hm hmL hjj
          subst e1
          go_wp2
          go_roundw
          case rel => exact ⟨k + 1, by omega, by go_num, by rw [HX.out], by rw [HX.out], hz1, hb1⟩
          case measure => simp [intOf]; omega
    · obtain rfl : k = L := by omega
      have BK : Below w.heap.size w wr := hB.out
      have hp := HSM.out k l1
      obtain ⟨⟨s1, s2⟩, hs⟩ : ∃ s, s = O k := ⟨_, rfl⟩
      have hcv := HOI.out k (by rw [HL.out]; exact Nat.le_refl _)
      rw [← hs] at HN hp hcv ⊢
      dsimp only at hp hcv HN ⊢
      obtain ⟨v1, v2, v3, v4⟩ : 0 ≤ s1 ∧ s1 < k ∧ 0 ≤ s2 ∧ s2 < k := by
        rcases hcv with ⟨e, _⟩ | h
        · exact absurd hp (by have : s1 = -1 := e; omega)
        · exact h
      obtain ⟨a1, rfl⟩ : ∃ a1 : Nat, s1 = (a1 : Int) := ⟨s1.toNat, by omega⟩
      obtain ⟨a2, rfl⟩ : ∃ a2 : Nat, s2 = (a2 : Int) := ⟨s2.toNat, by omega⟩
      rw [Int.toNat_natCast, Int.toNat_natCast] at HN
      obtain ⟨b2, o2, rfl, f1, -⟩ := H5.out a1 (by omega)
      obtain ⟨b3, o3, e, f2, -⟩ := H5.out a2 (by omega)
      cases e
      replace f1 := cell_keep hB.out f1
      replace f2 := cell_keep hB.out f2
      obtain ⟨u, hu⟩ : ∃ x, x = (fr ps a1).1 := ⟨_, rfl⟩
      obtain ⟨z, hz⟩ : ∃ x, x = (fr ps a2).1 := ⟨_, rfl⟩
      rw [← hu] at f1 HN
      rw [← hz] at f2 HN
      clear hu hz hcv hs hp hZ hB
      go_upto_region 16 with fail
      go_quiet (fail)
      go_wp2
      exact bodyPost_ret (v := .tuple #[.int .i64 u, .int .i64 z, .bool true]) (by simp [results, Try.results9, go_sem]) rfl ⟨ret_c9 HN.out.1.symm HN.out.2.symm HCT.out.symm, below_drewN BK _⟩
end Go.Proofs.Ytaaefebjjjfgbaa
