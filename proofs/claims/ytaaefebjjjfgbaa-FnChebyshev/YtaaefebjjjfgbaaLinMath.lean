/- Sums, tables of fractions as numbers, and what a column's step of the echelon keeps: the solutions, the dependence of rows, the units of the chosen columns. -/
import Derived.Test.YtaaefebjjjfgbaaSolMath
import Derived.Test.YtaaefebjjjfgbaaFracMath
namespace Go.Proofs.Ytaaefebjjjfgbaa
open Go.RowKit Go.Proofs.Ytaaefebjjjfgbaa.RM

/-- a sum of n -/
def sumN (f : Nat → Rat) : Nat → Rat
  | 0 => 0
  | n + 1 => sumN f n + f n
theorem sumN_congr {f g : Nat → Rat} : ∀ {n : Nat}, (∀ i, i < n → f i = g i) → sumN f n = sumN g n
  | 0, _ => rfl
  | n + 1, h => by
    simp only [sumN]
    rw [sumN_congr (fun i hi => h i (by omega)), h n (by omega)]
theorem sumN_zero {f : Nat → Rat} : ∀ {n : Nat}, (∀ i, i < n → f i = 0) → sumN f n = 0
  | 0, _ => rfl
  | n + 1, h => by
    simp only [sumN]
    rw [sumN_zero (fun i hi => h i (by omega)), h n (by omega)]
    grind
theorem sumN_add (f g : Nat → Rat) : ∀ n, sumN (fun i => f i + g i) n = sumN f n + sumN g n
  | 0 => by simp only [sumN]; grind
  | n + 1 => by simp only [sumN]; rw [sumN_add f g n]; grind
theorem sumN_sub (f g : Nat → Rat) : ∀ n, sumN (fun i => f i - g i) n = sumN f n - sumN g n
  | 0 => by simp only [sumN]; grind
  | n + 1 => by simp only [sumN]; rw [sumN_sub f g n]; grind
theorem sumN_mul (f : Nat → Rat) (c : Rat) : ∀ n, sumN (fun i => f i * c) n = sumN f n * c
  | 0 => by simp only [sumN]; grind
  | n + 1 => by simp only [sumN]; rw [sumN_mul f c n]; grind
theorem sumN_swap (f : Nat → Nat → Rat) (m : Nat) : ∀ n, sumN (fun i => sumN (fun j => f i j) m) n = sumN (fun j => sumN (fun i => f i j) n) m
  | 0 => by
    simp only [sumN]
    rw [sumN_zero (fun _ _ => rfl)]
  | n + 1 => by
    simp only [sumN]
    rw [sumN_swap f m n, ← sumN_add]
/-- one of them turned -/
theorem sumN_turn (f : Nat → Rat) (a : Nat) (c : Rat) : ∀ {n : Nat}, a < n → sumN (fun i => if i = a then c else f i) n = sumN f n - f a + c
  | 0, h => by omega
  | n + 1, h => by
    simp only [sumN]
    by_cases e : a = n
    · subst e
      rw [if_pos rfl, sumN_congr (g := f) (fun i hi => by rw [if_neg (by omega)])]
      grind
    · rw [if_neg (fun h => e h.symm), sumN_turn f a c (by omega)]
      grind
/-- just one is not 0 -/
theorem sumN_one {f : Nat → Rat} {a n : Nat} (ha : a < n) (h : ∀ i, i < n → i ≠ a → f i = 0) : sumN f n = f a := by
  have h1 : sumN f n = sumN (fun i => if i = a then f a else (fun _ => 0) i) n := sumN_congr (fun i hi => by
    by_cases e : i = a
    · rw [if_pos e, e]
    · rw [if_neg e, h i hi e])
  rw [h1, sumN_turn _ _ _ ha, sumN_zero (fun _ _ => rfl)]
  grind
/-- in another order: two were exchanged -/
theorem sumN_exch (f : Nat → Rat) (a b : Nat) {n : Nat} (ha : a < n) (hb : b < n) : sumN (fun i => f (exch a b i)) n = sumN f n := by
  by_cases e : a = b
  · subst e
    apply sumN_congr
    intro i _
    unfold exch
    split
    · rename_i h; rw [h]
    · rfl
  · have h1 : sumN (fun i => f (exch a b i)) n = sumN (fun i => if i = b then f a else (fun i => if i = a then f b else f i) i) n := sumN_congr (fun i hi => by
      unfold exch
      by_cases e1 : b = i
      · rw [if_pos e1, if_pos e1.symm]
      · rw [if_neg e1, if_neg (show ¬ i = b from fun h => e1 h.symm)]
        show _ = if i = a then f b else f i
        by_cases e2 : a = i
        · rw [if_pos e2, if_pos e2.symm]
        · rw [if_neg e2, if_neg (show ¬ i = a from fun h => e2 h.symm)])
    rw [h1, sumN_turn _ _ _ hb, sumN_turn _ _ _ ha, if_neg (fun h => e h.symm)]
    grind
/-- the number that a fraction is -/
def qf (p : Fr) : Rat := Rat.divInt p.1 p.2
theorem qf_red {x y : Int} (h : redOk x y = true) : qf (redN x y, redD x y) = Rat.divInt x y := by
  obtain ⟨h1, h2, h3⟩ := red_sg h
  have hb := okB_out (okB_redN h)
  have hy : y ≠ 0 := by
    intro h0
    have h4 : sg x y * redD x y = 0 := by rw [h3]; exact h0
    rcases Int.mul_eq_zero.1 h4 with k | k
    · exact h1 k
    · omega
  unfold qf
  rw [Rat.divInt_eq_divInt_iff (by show redD x y ≠ 0; omega) hy]
  show redN x y * y = x * redD x y
  obtain ⟨p, hp⟩ : ∃ p, p = redN x y := ⟨_, rfl⟩
  obtain ⟨q, hq⟩ : ∃ q, q = redD x y := ⟨_, rfl⟩
  obtain ⟨s, hs⟩ : ∃ s, s = sg x y := ⟨_, rfl⟩
  rw [← hp, ← hs] at h2
  rw [← hq, ← hs] at h3
  rw [← hp, ← hq]
  clear hp hq hs h1 hb hy h
  grind
theorem okF_ne {p : Fr} (h : okF p = true) : p.2 ≠ 0 := by have := okB_out h; omega
theorem op_parts {p q : Fr} {x y : Int} (h : opOk (two p.1 p.2 q.1 q.2) x y = true) : okF p = true ∧ okF q = true ∧ qf (opN (two p.1 p.2 q.1 q.2) x y, opD (two p.1 p.2 q.1 q.2) x y) = Rat.divInt x y := by
  obtain ⟨t, h2, h3, h4⟩ := op_true h
  obtain ⟨t1, t2⟩ := two_out t
  exact ⟨t1, t2, by rw [h3, h4]; exact qf_red h2⟩
theorem dz {n d : Int} (hd : d ≠ 0) : Rat.divInt n d = 0 ↔ n = 0 := by
  rw [show (0 : Rat) = Rat.divInt 0 1 from rfl, Rat.divInt_eq_divInt_iff hd (by decide)]
  omega
theorem qf_mul {p q : Fr} (h : mulK p q = true) : qf (mulP p q) = qf p * qf q := by
  obtain ⟨h1, h2, h3⟩ := op_parts h
  unfold mulP
  rw [h3]
  unfold qf
  rw [Rat.divInt_mul_divInt]
theorem qf_add {p q : Fr} (h : addK p q = true) : qf (addP p q) = qf p + qf q := by
  obtain ⟨h1, h2, h3⟩ := op_parts h
  unfold addP
  rw [h3]
  unfold qf
  rw [Rat.divInt_add_divInt _ _ (okF_ne h1) (okF_ne h2)]
theorem qf_sub {p q : Fr} (h : subK p q = true) : qf (subP p q) = qf p - qf q := by
  obtain ⟨h1, h2, h3⟩ := op_parts h
  unfold subP
  rw [h3]
  unfold qf
  rw [Rat.divInt_sub_divInt _ _ (okF_ne h1) (okF_ne h2)]
theorem qf_div {p q : Fr} (h : divK p q = true) : qf q ≠ 0 ∧ qf (divP p q) = qf p / qf q := by
  obtain ⟨h1, h2, h3⟩ := op_parts h
  have h4 : opOk (two p.1 p.2 q.1 q.2) (p.1 * q.2) (p.2 * q.1) = true := h
  obtain ⟨-, h5, -, -⟩ := op_true h4
  have hq : q.1 ≠ 0 := by
    intro h0
    unfold redOk at h5
    rw [Bool.and_eq_true] at h5
    have := (redIn_out h5.1).1
    rw [h0] at this
    omega
  unfold divP
  rw [h3]
  unfold qf
  have hz : Rat.divInt q.1 q.2 ≠ 0 := by
    intro h0
    rw [dz (okF_ne h2)] at h0
    exact hq h0
  refine ⟨hz, ?_⟩
  have hm : Rat.divInt (p.1 * q.2) (p.2 * q.1) * Rat.divInt q.1 q.2 = Rat.divInt p.1 p.2 := by
    rw [Rat.divInt_mul_divInt, Rat.divInt_eq_divInt_iff (by
      intro h0
      rcases Int.mul_eq_zero.1 h0 with k | k
      · rcases Int.mul_eq_zero.1 k with k | k
        · exact okF_ne h1 k
        · exact hq k
      · exact okF_ne h2 k) (okF_ne h1)]
    grind
  rw [← hm]
  grind
theorem qf_inj {p q : Fr} (h1 : okF p = true) (h2 : okF q = true) (h : qf p = qf q) : p = q := by
  unfold qf at h
  rw [Rat.divInt_eq_divInt_iff (okF_ne h1) (okF_ne h2)] at h
  obtain ⟨e1, e2⟩ := okB_eq h1 h2 h
  exact Prod.ext e1 e2
theorem qf_zero {p : Fr} (h : okF p = true) : qf p = 0 ↔ p.1 = 0 := by
  unfold qf
  rw [dz (okF_ne h)]
theorem qf_null : qf (0, 1) = 0 := by unfold qf; rfl
theorem qf_one : qf (1, 1) = 1 := by unfold qf; rfl
/-- a table as numbers -/
def mv (rows : List (List Fr)) (i j : Nat) : Rat := qf (fr (rw' rows i) j)
/-- what every column's step of the echelon is, in numbers -/
structure StepQ (m L at' r col : Nat) (M M' : Nat → Nat → Rat) : Prop where
  ha : at' < m
  hr : r < m
  hge : at' ≤ r
  hc : col < L
  f0 : M r col ≠ 0
  top : ∀ j, j < L → M' at' j = M r j / M r col
  oth : ∀ i, i < m → i ≠ at' → ∀ j, j < L → M' i j = M (exch r at' i) j - M (exch r at' i) col * M' at' j
/-- the same solutions -/
theorem StepQ.ker {m L at' r col : Nat} {M M' : Nat → Nat → Rat} (h : StepQ m L at' r col M M') (v : Nat → Rat) : (∀ i, i < m → sumN (fun j => M' i j * v j) L = 0) ↔ (∀ i, i < m → sumN (fun j => M i j * v j) L = 0) := by
  have e1 : sumN (fun j => M' at' j * v j) L = sumN (fun j => M r j * v j) L / M r col := by
    have := h.f0
    rw [show sumN (fun j => M r j * v j) L / M r col = sumN (fun j => M r j * v j) L * (1 / M r col) by grind, ← sumN_mul]
    apply sumN_congr
    intro j hj
    rw [h.top j hj]
    grind
  have e2 : ∀ i, i < m → i ≠ at' → sumN (fun j => M' i j * v j) L = sumN (fun j => M (exch r at' i) j * v j) L - M (exch r at' i) col * sumN (fun j => M' at' j * v j) L := by
    intro i hi hne
    rw [show M (exch r at' i) col * sumN (fun j => M' at' j * v j) L = sumN (fun j => M' at' j * v j) L * M (exch r at' i) col by grind, ← sumN_mul, ← sumN_sub]
    apply sumN_congr
    intro j hj
    rw [h.oth i hi hne j hj]
    grind
  have f0 := h.f0
  constructor
  · intro h0
    have hr0 : sumN (fun j => M r j * v j) L = 0 := by
      have := h0 at' h.ha
      rw [e1] at this
      grind
    intro i hi
    by_cases e : i = r
    · rw [e]; exact hr0
    · have hx : exch r at' (exch r at' i) = i := by
        unfold exch
        split <;> split <;> (try split) <;> omega
      have hne : exch r at' i ≠ at' := by
        unfold exch
        have := h.ha
        split
        · omega
        · split <;> omega
      have := e2 (exch r at' i) (exch_lt h.hr h.ha hi) hne
      rw [hx, h0 _ (exch_lt h.hr h.ha hi), h0 _ h.ha] at this
      grind
  · intro h0
    have ha0 : sumN (fun j => M' at' j * v j) L = 0 := by
      rw [e1, h0 r h.hr]
      grind
    intro i hi
    by_cases e : i = at'
    · rw [e]; exact ha0
    · rw [e2 i hi e, ha0, h0 _ (exch_lt h.hr h.ha hi)]
      grind
/-- rows of which some make up nothing, by the first n columns -/
def Dep (m n : Nat) (M : Nat → Nat → Rat) : Prop := ∃ y : Nat → Rat, (∃ i, i < m ∧ y i ≠ 0) ∧ ∀ j, j < n → sumN (fun i => y i * M i j) m = 0
theorem StepQ.dep {m L at' r col n : Nat} {M M' : Nat → Nat → Rat} (h : StepQ m L at' r col M M') (hn : n ≤ L) (hcn : col < n) (hd : Dep m n M) : Dep m n M' := by
  obtain ⟨y, ⟨k, hk, hy⟩, h0⟩ := hd
  have hx : ∀ i, exch r at' (exch r at' i) = i := by
    intro i
    unfold exch
    split <;> split <;> (try split) <;> omega
  have hsum : ∀ j, j < n → sumN (fun i => y (exch r at' i) * M (exch r at' i) j) m = 0 := by
    intro j hj
    rw [sumN_exch (fun i => y i * M i j) r at' h.hr h.ha]
    exact h0 j hj
  have hat : exch r at' at' = r := by unfold exch; rw [if_pos rfl]
  have f0 := h.f0
  refine ⟨fun i => if i = at' then 0 else y (exch r at' i), ?_, ?_⟩
  · apply Classical.byContradiction
    intro hn0
    have hz : ∀ i, i < m → i ≠ at' → y (exch r at' i) = 0 := by
      intro i hi hne
      apply Classical.byContradiction
      intro h1
      exact hn0 ⟨i, hi, by show (if i = at' then (0 : Rat) else _) ≠ 0; rw [if_neg hne]; exact h1⟩
    have hs := hsum col hcn
    rw [sumN_one h.ha (fun i hi hne => by rw [hz i hi hne]; grind), hat] at hs
    have hyr : y r = 0 := by grind
    apply hy
    by_cases e : k = r
    · rw [e]; exact hyr
    · have := hz (exch r at' k) (exch_lt h.hr h.ha hk) (by
        intro h1
        have h2 : exch r at' (exch r at' k) = exch r at' at' := by rw [h1]
        rw [hx, hat] at h2
        exact e h2)
      rw [hx] at this
      exact this
  · intro j hj
    have he : sumN (fun i => (if i = at' then 0 else y (exch r at' i)) * M' i j) m = sumN (fun i => y (exch r at' i) * M (exch r at' i) j - (y (exch r at' i) * M (exch r at' i) col) * M' at' j) m := by
      apply sumN_congr
      intro i hi
      by_cases e : i = at'
      · rw [if_pos e, e, hat, h.top j (by omega)]
        grind
      · rw [if_neg e, h.oth i hi e j (by omega)]
        grind
    rw [he, sumN_sub, sumN_mul, hsum j hj, hsum col hcn]
    grind
/-- the chosen columns are units -/
def Units (m : Nat) (M : Nat → Nat → Rat) (ch : List Nat) : Prop := ∀ k, k < ch.length → ∀ i, i < m → M i (nt ch k) = if i = k then 1 else 0
theorem nt_app {ch : List Nat} {c k : Nat} (h : k < ch.length) : nt (ch ++ [c]) k = nt ch k := by unfold nt; rw [List.getElem?_append_left h]
theorem nt_last (ch : List Nat) (c : Nat) : nt (ch ++ [c]) ch.length = c := by simp [nt]
theorem StepQ.units {m L r col : Nat} {M M' : Nat → Nat → Rat} {ch : List Nat} (h : StepQ m L ch.length r col M M') (hu : Units m M ch) (hl : ∀ c, c ∈ ch → c < L) : Units m M' (ch ++ [col]) := by
  have f0 := h.f0
  have hge := h.hge
  have hr := h.hr
  have ha := h.ha
  intro k hk i hi
  rw [List.length_append, List.length_singleton] at hk
  by_cases e : k < ch.length
  · rw [nt_app e]
    have hc : nt ch k < L := hl _ (nt_mem e)
    have htop : M' ch.length (nt ch k) = 0 := by
      rw [h.top _ hc, hu k e r h.hr, if_neg (by omega)]
      grind
    by_cases e2 : i = ch.length
    · rw [e2, htop, if_neg (by omega)]
    · rw [h.oth i hi e2 _ hc, htop, hu k e _ (exch_lt h.hr h.ha hi)]
      by_cases e3 : i = k
      · have : exch r ch.length i = i := by unfold exch; rw [if_neg (by omega), if_neg (by omega)]
        rw [this, if_pos e3]
        grind
      · have : exch r ch.length i ≠ k := by unfold exch; split <;> (try split) <;> omega
        rw [if_neg this, if_neg e3]
        grind
  · obtain rfl : k = ch.length := by omega
    rw [nt_last]
    have htop : M' ch.length col = 1 := by rw [h.top _ h.hc]; grind
    by_cases e2 : i = ch.length
    · rw [if_pos e2, e2, htop]
    · rw [if_neg e2, h.oth i hi e2 _ h.hc, htop]
      grind
/-- what every state of the echelon is -/
structure Base (m L : Nat) (rows : List (List Fr)) (ch : List Nat) (col : Nat) : Prop where
  len : rows.length = m
  row : ∀ x, x < m → (rw' rows x).length = L
  ok : ∀ x, x < m → ∀ j, j < L → okF (fr (rw' rows x) j) = true
  cl : ch.length ≤ m
  chs : ∀ c, c ∈ ch → c < col
theorem divR_at {row : List Fr} {f : Fr} {j : Nat} (hj : j < row.length) : fr (divR row f) j = divP (fr row j) f := by simp [divR, fr, hj]
theorem takeR_at {o w : List Fr} {t : Fr} {j : Nat} (hj : j < o.length) : fr (takeR o t w) j = takeE (fr o j) t (fr w j) := by simp [takeR, fr, hj]
theorem divB_at {row : List Fr} {f : Fr} (h : divB row f = true) {j : Nat} (hj : j < row.length) : divK (fr row j) f = true := all_at (p := fun p => divK p f) (d := ((0, 0) : Fr)) h hj
theorem takeB_at {o w : List Fr} {t : Fr} (h : takeB o t w = true) {j : Nat} (hj : j < o.length) : takeK (fr o j) t (fr w j) = true := by
  unfold takeB at h
  rw [List.all_eq_true] at h
  exact h j (by simpa using hj)
theorem qf_take {o t x : Fr} (h : takeK o t x = true) : qf (takeE o t x) = qf o - qf t * qf x ∧ okF (takeE o t x) = true := by
  unfold takeK at h
  have hm : mulK t x = true := by
    rw [← Bool.not_eq_false]
    intro h0
    rw [mul_none h0, sub_zero_r] at h
    cases h
  unfold takeE
  exact ⟨by rw [qf_sub h, qf_mul hm], sub_right h⟩
/-- one column's step, in numbers; the state behind it -/
theorem stepQ {m L r col : Nat} {rows : List (List Fr)} {ch : List Nat} (hB : Base m L rows ch col) (hc : col < L) (h1 : ch.length ≤ r) (h2 : r < m) (hb : stepB rows ch.length r col = true) :
    StepQ m L ch.length r col (mv rows) (mv (stepT rows ch.length r col)) ∧ Base m L (stepT rows ch.length r col) (ch ++ [col]) (col + 1) := by
  have ha : ch.length < m := by omega
  have hb' := hb
  unfold stepB at hb'
  rw [Bool.and_eq_true, List.all_eq_true] at hb'
  obtain ⟨hd, ht⟩ := hb'
  have hlr : (rw' rows r).length = L := hB.row r h2
  have hat : ∀ i, i < m → rw' (stepT rows ch.length r col) i = if i = ch.length then divR (rw' rows r) (fr (rw' rows r) col) else takeR (rw' (swapT rows r ch.length) i) (fr (rw' (swapT rows r ch.length) i) col) (divR (rw' rows r) (fr (rw' rows r) col)) := by
    intro i hi
    have hi2 : i < rows.length := by rw [hB.len]; exact hi
    rw [← stepP_all, stepP_at _ _ _ _ _ _ hi2, if_pos hi2]
  have htop : ∀ j, j < L → fr (rw' (stepT rows ch.length r col) ch.length) j = divP (fr (rw' rows r) j) (fr (rw' rows r) col) := by
    intro j hj
    rw [hat _ ha, if_pos rfl, divR_at (by omega)]
  have hkd : ∀ j, j < L → divK (fr (rw' rows r) j) (fr (rw' rows r) col) = true := fun j hj => divB_at hd (by omega)
  have hoth : ∀ i, i < m → i ≠ ch.length → ∀ j, j < L → fr (rw' (stepT rows ch.length r col) i) j = takeE (fr (rw' rows (exch r ch.length i)) j) (fr (rw' rows (exch r ch.length i)) col) (divP (fr (rw' rows r) j) (fr (rw' rows r) col)) ∧ takeK (fr (rw' rows (exch r ch.length i)) j) (fr (rw' rows (exch r ch.length i)) col) (divP (fr (rw' rows r) j) (fr (rw' rows r) col)) = true := by
    intro i hi hne j hj
    have hl := hB.row _ (exch_lt h2 ha hi)
    have hti := ht i (by simpa [hB.len] using hi)
    rw [rw_exch _ _ _ _ (by rw [hB.len]; exact h2) (by rw [hB.len]; exact ha)] at hti
    have hti2 : takeB (rw' rows (exch r ch.length i)) (fr (rw' rows (exch r ch.length i)) col) (divR (rw' rows r) (fr (rw' rows r) col)) = true := by
      simpa [hne] using hti
    have hk := takeB_at hti2 (j := j) (by omega)
    rw [divR_at (by omega)] at hk
    rw [hat i hi, if_neg hne, rw_exch _ _ _ _ (by rw [hB.len]; exact h2) (by rw [hB.len]; exact ha), takeR_at (by omega), divR_at (by omega)]
    exact ⟨rfl, hk⟩
  refine ⟨⟨ha, h2, h1, hc, (qf_div (hkd col hc)).1, fun j hj => ?_, fun i hi hne j hj => ?_⟩, ⟨by rw [stepT_len]; exact hB.len, fun x hx => ?_, fun x hx j hj => ?_, by simp; omega, fun c hx => ?_⟩⟩
  · show qf _ = _
    rw [htop j hj, (qf_div (hkd j hj)).2]
    rfl
  · obtain ⟨e1, e2⟩ := hoth i hi hne j hj
    show qf _ = _
    rw [e1, (qf_take e2).1]
    show _ = mv rows _ j - mv rows _ col * qf _
    rw [htop j hj]
    rfl
  · exact stepT_row (fun y hy => hB.row y (by rw [← hB.len]; exact hy)) (by rw [hB.len]; exact ha) (by rw [hB.len]; exact h2) x (by rw [stepT_len, hB.len]; exact hx)
  · by_cases e : x = ch.length
    · rw [e, htop j hj]
      exact div_right (hkd j hj)
    · obtain ⟨e1, e2⟩ := hoth x hx e j hj
      rw [e1]
      exact (qf_take e2).2
  · rw [List.mem_append] at hx
    rcases hx with hx | hx
    · have := hB.chs c hx; omega
    · simp at hx; omega
/-- what every step keeps, the whole echelon does -/
theorem ech_ind {m L : Nat} {P : Nat → List (List Fr) → List Nat → Prop}
    (free : ∀ col rows ch, Base m L rows ch col → col < L → (∀ x, ch.length ≤ x → x < m → (fr (rw' rows x) col).1 = 0) → P col rows ch → P (col + 1) rows ch)
    (yes : ∀ col rows ch r, Base m L rows ch col → col < L → ch.length ≤ r → r < m → (fr (rw' rows r) col).1 ≠ 0 → (∀ x, ch.length ≤ x → x < r → (fr (rw' rows x) col).1 = 0) → stepB rows ch.length r col = true → P col rows ch → P (col + 1) (stepT rows ch.length r col) (ch ++ [col])) :
    ∀ n col rows ch R C, col + n ≤ L → Base m L rows ch col → P col rows ch → echF n col rows ch = some (R, C) → P (col + n) R C ∧ Base m L R C (col + n)
  | 0, col, rows, ch, R, C, _, hB, hP, he => by
    simp only [echF] at he
    cases he
    exact ⟨hP, hB⟩
  | n + 1, col, rows, ch, R, C, hl, hB, hP, he => by
    have hp := piv_le (rows := rows) (col := col) (at' := ch.length) (by rw [hB.len]; exact hB.cl)
    by_cases hf : piv rows col ch.length = rows.length
    · rw [echF_free hf] at he
      have hz : ∀ x, ch.length ≤ x → x < m → (fr (rw' rows x) col).1 = 0 := by
        intro x h1 h2
        refine pivF_zero rows col (rows.length - ch.length) ch.length x h1 ?_
        show x < piv rows col ch.length
        rw [hf, hB.len]
        exact h2
      have := ech_ind free yes n (col + 1) rows ch R C (by omega) ⟨hB.len, hB.row, hB.ok, hB.cl, fun c hx => by have := hB.chs c hx; omega⟩ (free col rows ch hB (by omega) hz hP) he
      rw [show col + (n + 1) = col + 1 + n by omega]
      exact this
    · have hlt : piv rows col ch.length < m := by rw [← hB.len]; omega
      by_cases hs : stepB rows ch.length (piv rows col ch.length) col = true
      · rw [echF_yes rfl hf hs] at he
        obtain ⟨-, hB2⟩ := stepQ hB (by omega) hp.1 hlt hs
        have hne : (fr (rw' rows (piv rows col ch.length)) col).1 ≠ 0 := by
          apply pivF_at
          show piv rows col ch.length < _
          have := hB.cl
          rw [hB.len]
          omega
        have hzz : ∀ x, ch.length ≤ x → x < piv rows col ch.length → (fr (rw' rows x) col).1 = 0 := fun x h1 h2 => pivF_zero rows col _ _ x h1 h2
        have := ech_ind free yes n (col + 1) _ _ R C (by omega) hB2 (yes col rows ch _ hB (by omega) hp.1 hlt hne hzz hs hP) he
        rw [show col + (n + 1) = col + 1 + n by omega]
        exact this
      · rw [Bool.not_eq_true] at hs
        rw [echF_no rfl hf hs] at he
        cases he
theorem base_start {rows : List (List Fr)} {L : Nat} (hL : L = (rw' rows 0).length) (h : tabB rows 6 = true) : Base rows.length L rows [] 0 := by
  obtain ⟨-, hr⟩ := tabB_out h
  refine ⟨rfl, fun x hx => by rw [hL]; exact (hr x hx).1, fun x hx j hj => ?_, Nat.zero_le _, fun c hc => absurd hc (by simp)⟩
  exact allOk_at (hr x hx).2 (by rw [(hr x hx).1]; omega)
end Go.Proofs.Ytaaefebjjjfgbaa
