/- A kernel's denominators: all of a row divide one number that stays small (a determinant of the table). -/
import Derived.Test.YtbbkejfcheobaakDetMath
import Derived.Test.YtbbkejfcheobaakTabLaw2
namespace Go.Proofs.Ytbbkejfcheobaak
open Go.RowKit Go.Proofs.Ytbbkejfcheobaak.RM

theorem sum_cast (f : Nat → Int) : ∀ n, ((sumI f n : Int) : Rat) = sumN (fun j => ((f j : Int) : Rat)) n
  | 0 => rfl
  | n + 1 => by
    simp only [sumI, sumN]
    rw [Rat.intCast_add, sum_cast f n]
/-- a sum of what is 0 out of the columns C -/
theorem sumN_on {f : Nat → Rat} : ∀ (n : Nat) (C : List Nat), rises C → (∀ c, c ∈ C → c < n) → (∀ j, j < n → j ∉ C → f j = 0) → sumN f n = sumN (fun k => f (nt C k)) C.length
  | 0, C, _, hC, _ => by
    cases C with
    | nil => rfl
    | cons c r => exact absurd (hC c (by simp)) (Nat.not_lt_zero _)
  | n + 1, C, hr, hC, h0 => by
    simp only [sumN]
    by_cases hmem : n ∈ C
    · obtain ⟨k, hk, hkn⟩ := mem_nt hmem
      have hlast : k = C.length - 1 := by
        apply Classical.byContradiction
        intro hne
        have h1 := hr k (C.length - 1) (by omega) (by omega)
        have h2 := hC _ (nt_mem (C := C) (k := C.length - 1) (by omega))
        omega
      have hdl : C.dropLast.length = C.length - 1 := List.length_dropLast
      have hnt : ∀ i, i < C.length - 1 → nt C.dropLast i = nt C i := by
        intro i hi
        unfold nt
        rw [List.getElem?_dropLast, if_pos hi]
      have hr' : rises C.dropLast := by
        intro i j hij hj
        rw [hdl] at hj
        rw [hnt i (by omega), hnt j hj]
        exact hr i j hij (by omega)
      have hlt : ∀ c, c ∈ C.dropLast → c < n := by
        intro c hc
        obtain ⟨i, hi, rfl⟩ := mem_nt hc
        rw [hdl] at hi
        rw [hnt i hi, ← hkn, hlast]
        exact hr i (C.length - 1) hi (by omega)
      rw [sumN_on n C.dropLast hr' hlt (fun j hj hjn => h0 j (by omega) (fun hjC => by
        obtain ⟨i, hi, rfl⟩ := mem_nt hjC
        by_cases e : i = C.length - 1
        · rw [e, ← hlast, hkn] at hj; omega
        · exact hjn (by rw [← hnt i (by omega)]; exact nt_mem (by omega))))]
      obtain ⟨r, hr2⟩ : ∃ r, C.length = r + 1 := ⟨C.length - 1, by omega⟩
      rw [hdl, hr2]
      simp only [sumN, Nat.add_sub_cancel]
      rw [show nt C r = n by rw [← hkn, hlast, hr2]; rfl]
      congr 1
      exact sumN_congr fun i hi => by rw [hnt i (by omega)]
    · rw [h0 n (by omega) hmem, sumN_on n C hr (fun c hc => by
        have := hC c hc
        have : c ≠ n := fun e => hmem (e ▸ hc)
        omega) (fun j hj hjn => h0 j (by omega) hjn)]
      grind
theorem qf_int (a : Int) : qf (a, 1) = (a : Rat) := by
  unfold qf
  rw [Rat.divInt_eq_div]
  show (a : Rat) / 1 = a
  grind
/-- the product of these numbers -/
def prodI (f : Nat → Int) : Nat → Int
  | 0 => 1
  | n + 1 => prodI f n * f n
theorem prodI_pos {f : Nat → Int} {n : Nat} (h : ∀ k, k < n → 1 ≤ f k) : 1 ≤ prodI f n := by
  induction n with
  | zero => simp [prodI]
  | succ n ih =>
    simp only [prodI]
    have h1 := ih (fun k hk => h k (by omega))
    have h2 := h n (by omega)
    have := Int.mul_le_mul h1 h2 (by omega) (by omega)
    omega
theorem prodI_dvd (f : Nat → Int) : ∀ n k, k < n → ∃ e, prodI f n = f k * e
  | n + 1, k, hk => by
    simp only [prodI]
    by_cases e : k = n
    · subst e
      exact ⟨prodI f k, Int.mul_comm _ _⟩
    · obtain ⟨x, hx⟩ := prodI_dvd f n k (by omega)
      exact ⟨x * f n, by rw [hx, Int.mul_assoc]⟩
theorem cop_dvd {n d x : Int} (h : gcdi n d = 1) (hx : d ∣ n * x) : d ∣ x := by
  have h1 : Int.gcd n d = 1 := by unfold gcdi at h; omega
  have h2 : d.natAbs ∣ n.natAbs * x.natAbs := by rw [← Int.natAbs_mul]; exact Int.natAbs_dvd_natAbs.2 hx
  have h3 : Nat.Coprime d.natAbs n.natAbs := by
    show Nat.gcd _ _ = 1
    rw [Nat.gcd_comm]
    exact h1
  exact Int.natAbs_dvd_natAbs.1 (h3.dvd_of_dvd_mul_left h2)
theorem fac_small {r : Nat} (h : r ≤ 5) : facN r * 9 ^ r ≤ 7085880 := by
  have : r = 0 ∨ r = 1 ∨ r = 2 ∨ r = 3 ∨ r = 4 ∨ r = 5 := by omega
  rcases this with rfl | rfl | rfl | rfl | rfl | rfl <;> decide

set_option maxHeartbeats 1000000 in
theorem ker_den {rows : List (List Fr)} (h : echO rows = true) (hm : rows.length ≤ 5) (hint : ∀ i, i < rows.length → ∀ j, j < (rw' rows 0).length → (fr (rw' rows i) j).2 = 1 ∧ ((fr (rw' rows i) j).1).natAbs ≤ 9) {col : Nat} (hcol : col < (rw' rows 0).length) (hn : col ∉ echC rows) :
    ∃ D : Nat, 1 ≤ D ∧ D ≤ 7085880 ∧ ∀ j, j < (rw' rows 0).length → (fr (kerRow (echR rows) (echC rows) (rw' rows 0).length col) j).2 ∣ (D : Int) := by
  have hker := ker_solves h hcol hn
  have h' := h
  unfold echO at h'
  rw [Bool.and_eq_true] at h'
  obtain ⟨ht, hk⟩ := h'
  obtain ⟨⟨hspan, hU, -⟩, hB⟩ := ech_keeps rfl ht hk
  have hr := ech_rises hk
  obtain ⟨k1, k2, k3⟩ := kerRow_at (R := echR rows) hr hB.chs hcol hn
  obtain ⟨n, hnn⟩ : ∃ n, n = (rw' rows 0).length := ⟨_, rfl⟩
  obtain ⟨C, hC⟩ : ∃ C, C = echC rows := ⟨_, rfl⟩
  obtain ⟨x, hx⟩ : ∃ x, x = kerRow (echR rows) (echC rows) (rw' rows 0).length col := ⟨_, rfl⟩
  obtain ⟨m, hmm⟩ : ∃ m, m = rows.length := ⟨_, rfl⟩
  have hcl : C.length ≤ m := by rw [hC, hmm]; exact hB.cl
  have hchs : ∀ c, c ∈ C → c < n := by rw [hC, hnn]; exact hB.chs
  rw [← hx] at hker k1 k2 k3 ⊢
  rw [← hnn] at hker hint hcol k3 hspan ⊢
  rw [← hmm] at hm hint hker hspan hU
  rw [← hC] at hn k2 k3 hr hU
  have okx : ∀ k, k < C.length → okB (fr x (nt C k)).1 (fr x (nt C k)).2 = true := by
    intro k hk2
    rw [k2 k hk2]
    have hb : okF (fr (rw' (echR rows) k) col) = true := hB.ok k (by rw [← hmm]; omega) col (by rw [← hnn]; exact hcol)
    obtain ⟨q1, q2, q3, q4, q5⟩ := okB_out hb
    unfold mirF
    simp only
    have hw : wrap64 (-(fr (rw' (echR rows) k) col).1) = -(fr (rw' (echR rows) k) col).1 := by unfold wrap64; omega
    rw [hw]
    exact okB_mk ⟨q1, q2, by omega, by omega, by rw [gcdi_neg_l]; exact q5⟩
  obtain ⟨A, hA⟩ : ∃ A : Nat → Nat → Int, A = fun i j => (fr (rw' rows i) j).1 := ⟨_, rfl⟩
  have hmv : ∀ i j, i < m → j < n → mv rows i j = (A i j : Rat) := by
    intro i j hi hj
    have e : fr (rw' rows i) j = (A i j, 1) := by rw [hA]; exact Prod.ext rfl (hint i hi j hj).1
    unfold mv
    rw [e, qf_int]
  have hA9 : ∀ i j, i < m → j < n → (A i j).natAbs ≤ 9 := fun i j hi hj => by rw [hA]; exact (hint i hi j hj).2
  obtain ⟨cs, hcs⟩ : ∃ cs : List Col, cs = C.map (fun c => fun i => if i < m then A i c else 0) := ⟨_, rfl⟩
  have hcsl : cs.length = C.length := by rw [hcs, List.length_map]
  have hcv : ∀ k, k < C.length → cv cs k = fun i => if i < m then A i (nt C k) else 0 := by
    intro k hk2
    unfold cv
    rw [hcs, List.getElem?_map, List.getElem?_eq_getElem hk2]
    have : nt C k = C[k] := by unfold nt; rw [List.getElem?_eq_getElem hk2]; rfl
    rw [this]
    rfl
  have hntn : ∀ k, k < C.length → nt C k < n := fun k hk2 => hchs _ (nt_mem hk2)
  -- of these columns nothing but nothing makes nothing
  have hind : Indep cs := by
    intro y hy k hk2
    rw [hcsl] at hy hk2
    obtain ⟨X, hX⟩ : ∃ X : Nat → Rat, X = fun j => ((sumI (fun k => if nt C k = j then y k else 0) C.length : Int) : Rat) := ⟨_, rfl⟩
    have hXk : ∀ k, k < C.length → X (nt C k) = (y k : Rat) := by
      intro k hk2
      rw [hX]
      show ((sumI _ _ : Int) : Rat) = _
      rw [sumI_one (a := k) hk2 (fun j hj hne => ?_), if_pos rfl]
      rw [if_neg]
      intro e
      rcases Nat.lt_or_gt_of_ne hne with hl | hl
      · have := hr j k hl hk2; omega
      · have := hr k j hl hj; omega
    have hX0 : ∀ j, j ∉ C → X j = 0 := by
      intro j hj
      rw [hX]
      show ((sumI _ _ : Int) : Rat) = _
      rw [sumI_zero (fun k hk2 => if_neg (fun (e : nt C k = j) => hj (by rw [← e]; exact nt_mem hk2)))]
      rfl
    have h1 : ∀ i, i < m → sumN (fun j => mv rows i j * X j) n = 0 := by
      intro i hi
      rw [sumN_on n C hr hchs (fun j hj hjn => by rw [hX0 j hjn]; grind)]
      have h2 := hy i
      have h3 := sum_cast (fun j => y j * cv cs j i) C.length
      rw [h2] at h3
      rw [← show ((0 : Int) : Rat) = 0 from rfl, h3]
      refine sumN_congr fun k hk3 => ?_
      rw [hXk k hk3, hmv i _ hi (hntn k hk3), hcv k hk3]
      simp only [hi, if_true]
      rw [Rat.intCast_mul]
      grind
    have h4 := (hspan X).2 h1 k (by omega)
    rw [sumN_on n C hr hchs (fun j hj hjn => by rw [hX0 j hjn]; grind), sumN_one (a := k) hk2 (fun i hi hne => ?_)] at h4
    · rw [hU k hk2 k (by omega), if_pos rfl, hXk k hk2] at h4
      have h5 : ((y k : Int) : Rat) = ((0 : Int) : Rat) := by
        rw [show ((0 : Int) : Rat) = 0 from rfl]
        grind
      exact Rat.intCast_inj.1 h5
    · rw [hU i hi k (by omega), if_neg (fun e => hne e.symm)]
      grind
  obtain ⟨I, hI, hd⟩ := indep_det C.length cs hcsl hind
  have habs := det_abs 9 I cs (by rw [hI, hcsl]) (fun c hc i => by
    rw [hcs, List.mem_map] at hc
    obtain ⟨c', hc', rfl⟩ := hc
    simp only
    split
    · rename_i hi
      exact hA9 i c' hi (hchs c' hc')
    · simp)
  rw [hcsl] at habs
  have hsm := fac_small (r := C.length) (by omega)
  refine ⟨(det I cs).natAbs, by omega, by omega, fun j hj => ?_⟩
  -- the denominators
  have hden : ∀ k, k < C.length → 1 ≤ (fr x (nt C k)).2 := fun k hk2 => (okB_out (okx k hk2)).1
  obtain ⟨M, hM⟩ : ∃ M, M = prodI (fun k => (fr x (nt C k)).2) C.length := ⟨_, rfl⟩
  have hM1 : 1 ≤ M := by rw [hM]; exact prodI_pos hden
  have hMd : ∀ k, ∃ e, k < C.length → M = (fr x (nt C k)).2 * e := by
    intro k
    by_cases hk2 : k < C.length
    · obtain ⟨e, he⟩ := prodI_dvd (fun k => (fr x (nt C k)).2) C.length k hk2
      exact ⟨e, fun _ => by rw [hM]; exact he⟩
    · exact ⟨0, fun hh => absurd hh hk2⟩
  obtain ⟨e, he⟩ : ∃ e : Nat → Int, ∀ k, k < C.length → M = (fr x (nt C k)).2 * e k := ⟨fun k => (hMd k).choose, fun k hk2 => (hMd k).choose_spec hk2⟩
  have hcr : ∀ i, M * (fun i => if i < m then - A i col else 0) i = sumI (fun k => ((fr x (nt C k)).1 * e k) * cv cs k i) cs.length := by
    intro i
    rw [hcsl]
    by_cases hi : i < m
    · simp only [hi, if_true]
      have h1 := hker i hi
      have h2 := sumN_turn (fun j => mv rows i j * qf (fr x j)) col 0 hcol
      rw [sumN_on n C hr hchs (fun j hj hjn => by
        by_cases ec : j = col
        · rw [if_pos ec]
        · rw [if_neg ec, k3 j hj ec hjn, qf_null]; grind)] at h2
      rw [h1, k1, qf_one, hmv i col hi hcol] at h2
      have h3 : sumN (fun k => ((((fr x (nt C k)).1 * e k) * cv cs k i : Int) : Rat)) C.length = (M : Rat) * sumN (fun k => if nt C k = col then 0 else mv rows i (nt C k) * qf (fr x (nt C k))) C.length := by
        rw [← sumN_mulL]
        refine sumN_congr fun k hk2 => ?_
        rw [if_neg (fun (ec : nt C k = col) => hn (by rw [← ec]; exact nt_mem hk2)), hmv i _ hi (hntn k hk2), hcv k hk2]
        simp only [hi, if_true]
        have hq : (M : Rat) * qf (fr x (nt C k)) = (((fr x (nt C k)).1 * e k : Int) : Rat) := by
          have hd1 := hden k hk2
          unfold qf
          rw [Rat.divInt_eq_div, he k hk2, Rat.intCast_mul, Rat.intCast_mul]
          have hd2 : (((fr x (nt C k)).2 : Int) : Rat) ≠ 0 := by
            intro hz
            rw [← show ((0 : Int) : Rat) = 0 from rfl] at hz
            have := Rat.intCast_inj.1 hz
            omega
          grind
        rw [Rat.intCast_mul, ← hq]
        grind
      apply Rat.intCast_inj.1
      rw [sum_cast, h3, h2, Rat.intCast_mul, Rat.intCast_neg]
      grind
    · rw [sumI_zero (fun k hk2 => by rw [hcv k hk2]; simp only [hi, if_false]; omega)]
      simp only [hi, if_false]
      omega
  by_cases hjc : j ∈ C
  · obtain ⟨k, hk2, rfl⟩ := mem_nt hjc
    have h1 := cramer hcr I (by rw [hI, hcsl]) k (by omega)
    have h2 := he k hk2
    have hd1 := hden k hk2
    have he0 : e k ≠ 0 := by
      intro hz
      rw [hz] at h2
      omega
    have h3 : (fr x (nt C k)).1 * det I cs = (fr x (nt C k)).2 * det I (cs.set k (fun i => if i < m then - A i col else 0)) := by
      apply Int.eq_of_mul_eq_mul_left he0
      rw [h2] at h1
      have e1 : e k * ((fr x (nt C k)).1 * det I cs) = (fr x (nt C k)).1 * e k * det I cs := by
        rw [← Int.mul_assoc, Int.mul_comm (e k)]
      rw [e1, h1, ← Int.mul_assoc, Int.mul_comm (e k)]
    have h4 := cop_dvd (okB_out (okx k hk2)).2.2.2.2 ⟨_, h3⟩
    exact Int.dvd_natAbs.2 h4
  · by_cases ec : j = col
    · rw [ec, k1]; exact Int.one_dvd _
    · rw [k3 j hj ec hjc]; exact Int.one_dvd _
end Go.Proofs.Ytbbkejfcheobaak
