/- What the law of tables asks of the echelon, without any program: its form, its kernel, the number of its columns. -/
import Derived.Test.YtbbkejfcheobaakTabLaw1
import Derived.Test.YtbbkejfcheobaakKerMath
namespace Go.Proofs.Ytbbkejfcheobaak
open Go.RowKit Go.Proofs.Ytbbkejfcheobaak.RM

/-- reduced so far: past the chosen rows nothing, ahead of each chosen column nothing in its row -/
structure RedQ (m col : Nat) (M : Nat → Nat → Rat) (ch : List Nat) : Prop where
  zero : ∀ i, ch.length ≤ i → i < m → ∀ j, j < col → M i j = 0
  left : ∀ k, k < ch.length → ∀ j, j < nt ch k → M k j = 0
theorem StepQ.red {m L r col : Nat} {M M' : Nat → Nat → Rat} {ch : List Nat} (h : StepQ m L ch.length r col M M') (hq : RedQ m col M ch) (hch : ∀ c, c ∈ ch → c < col) : RedQ m (col + 1) M' (ch ++ [col]) := by
  have f0 := h.f0
  have hge := h.hge
  have hr := h.hr
  have ha := h.ha
  have hc := h.hc
  have hlow : ∀ j, j < col → M' ch.length j = 0 := by
    intro j hj
    rw [h.top j (by omega), hq.zero r hge hr j hj]
    grind
  have htop : M' ch.length col = 1 := by rw [h.top _ hc]; grind
  constructor
  · intro i h1 h2 j hj
    rw [List.length_append, List.length_singleton] at h1
    have he : ch.length ≤ exch r ch.length i := by unfold exch; split <;> (try split) <;> omega
    rw [h.oth i h2 (by omega) j (by omega)]
    by_cases e : j = col
    · subst e; rw [htop]; grind
    · rw [hlow j (by omega), hq.zero _ he (exch_lt hr ha h2) j (by omega)]; grind
  · intro k hk j hj
    rw [List.length_append, List.length_singleton] at hk
    by_cases e : k < ch.length
    · rw [nt_app e] at hj
      have hn := hch _ (nt_mem e)
      have : exch r ch.length k = k := by unfold exch; rw [if_neg (by omega), if_neg (by omega)]
      rw [h.oth k (by omega) (by omega) j (by omega), this, hlow j (by omega), hq.left k e j hj]
      grind
    · obtain rfl : k = ch.length := by omega
      rw [nt_last] at hj
      exact hlow j hj
/-- the echelon's form at its end -/
theorem ech_red {rows : List (List Fr)} {L : Nat} (hL : L = (rw' rows 0).length) (ht : tabB rows 6 = true) (hk : echK rows = true) : RedQ rows.length L (mv (echR rows)) (echC rows) := by
  have he := echK_out hk
  unfold ech at he
  rw [← hL] at he
  have key := ech_ind (m := rows.length) (L := L) (P := fun col R C => RedQ rows.length col (mv R) C)
    (fun col R C hB hc hz hP => ⟨fun i h1 h2 j hj => by
      by_cases e : j = col
      · subst e
        show qf _ = 0
        rw [qf_zero (hB.ok i h2 j hc)]
        exact hz i h1 h2
      · exact hP.zero i h1 h2 j (by omega), hP.left⟩)
    (fun col R C r hB hc h1 h2 hne hz hb hP => by
      obtain ⟨hs, hB2⟩ := stepQ hB hc h1 h2 hb
      exact hs.red hP hB.chs)
    L 0 rows [] (echR rows) (echC rows) (by omega) (base_start hL ht) ⟨fun i _ _ j hj => absurd hj (Nat.not_lt_zero _), fun k hk => absurd hk (by simp)⟩ he
  rw [Nat.zero_add] at key
  exact key.1
/-- so many columns are chosen, so many free -/
theorem free_count {C : List Nat} {L : Nat} (hr : rises C) (hC : ∀ c, c ∈ C → c < L) : (freeC L C).length + C.length = L := by
  have key : ∀ col, ∃ at', atP C at' col ∧ (freeC col C).length + at' = col := by
    intro col
    induction col with
    | zero => exact ⟨0, atP_zero C, by simp [freeC]⟩
    | succ col ih =>
      obtain ⟨at', h1, h2⟩ := ih
      by_cases h : at' < C.length ∧ nt C at' = col
      · obtain ⟨k1, k2⟩ := atP_yes hr h1 h.1 h.2
        exact ⟨at' + 1, k1, by rw [freeC_in k2]; omega⟩
      · obtain ⟨k1, k2⟩ := atP_no hr h1 (fun h3 h4 => h ⟨h3, h4⟩)
        exact ⟨at', k1, by rw [freeC_out k2, List.length_append, List.length_singleton]; omega⟩
  obtain ⟨at', h1, h2⟩ := key L
  have : at' = C.length := by
    apply Classical.byContradiction
    intro hn
    have hlt : at' < C.length := by have := h1.1; omega
    have := h1.2.2 at' (Nat.le_refl _) hlt
    have := hC _ (nt_mem hlt)
    omega
  omega
/-- a sum with something at two places alone -/
theorem sumN_two {f : Nat → Rat} {a b n : Nat} (ha : a < n) (hb : b < n) (hab : a ≠ b) (h : ∀ i, i < n → i ≠ a → i ≠ b → f i = 0) : sumN f n = f a + f b := by
  have e := sumN_turn f a 0 ha
  have e2 : sumN (fun i => if i = a then 0 else f i) n = f b := by
    rw [sumN_one (a := b) hb (fun i hi hne => by
      by_cases h1 : i = a
      · rw [if_pos h1]
      · rw [if_neg h1]; exact h i hi h1 hne)]
    rw [if_neg (fun h => hab h.symm)]
  rw [e2] at e
  grind
theorem qf_mir {p : Fr} (h : okF p = true) : qf (mirF p) = - qf p := by
  have hk := okB_out h
  have hw : wrap64 (-p.1) = -p.1 := by unfold wrap64; omega
  unfold mirF
  rw [hw]
  unfold qf
  exact (Rat.neg_divInt p.1 p.2).symm
/-- the elements of a kernel's row -/
theorem kerRow_at {R : List (List Fr)} {C : List Nat} {L col : Nat} (hr : rises C) (hC : ∀ c, c ∈ C → c < L) (hcol : col < L) (hn : col ∉ C) :
    fr (kerRow R C L col) col = (1, 1) ∧ (∀ k, k < C.length → fr (kerRow R C L col) (nt C k) = mirF (fr (rw' R k) col)) ∧ ∀ j, j < L → j ≠ col → j ∉ C → fr (kerRow R C L col) j = (0, 1) := by
  have key : ∀ k, k ≤ C.length → ∀ b : List Fr, b.length = L → ∀ x, fr (setsK R C col k b) x = if (∃ i, i < k ∧ nt C i = x) then fr (setsK R C col k b) x else fr b x := by
    intro k
    induction k with
    | zero => intro _ b hb x; split <;> rfl
    | succ k ih =>
      intro hk b hb x
      by_cases h : ∃ i, i < k + 1 ∧ nt C i = x
      · rw [if_pos h]
      · rw [if_neg h]
        simp only [setsK]
        rw [fr_set _ _ _ _ (by rw [setsK_len, hb]; exact hC _ (nt_mem (by omega))), if_neg (fun e => h ⟨k, by omega, e⟩), ih (by omega) b hb x, if_neg (fun ⟨i, hi, he⟩ => h ⟨i, by omega, he⟩)]
  have set_at : ∀ n, n ≤ C.length → ∀ b : List Fr, b.length = L → ∀ k, k < n → fr (setsK R C col n b) (nt C k) = mirF (fr (rw' R k) col) := by
    intro n
    induction n with
    | zero => intro _ b hb k hk; omega
    | succ n ih =>
      intro hn b hb k hk
      simp only [setsK]
      rw [fr_set _ _ _ _ (by rw [setsK_len, hb]; exact hC _ (nt_mem (by omega)))]
      by_cases e : k = n
      · subst e; rw [if_pos rfl]
      · have : nt C n ≠ nt C k := by have := hr k n (by omega) (by omega); omega
        rw [if_neg this]
        exact ih (by omega) b hb k (by omega)
  have hb : ((List.replicate L ((0, 1) : Fr)).set col (1, 1)).length = L := by simp
  have hbase : ∀ x, x ∉ C → fr (kerRow R C L col) x = fr ((List.replicate L ((0, 1) : Fr)).set col (1, 1)) x := by
    intro x hx
    unfold kerRow
    rw [key _ (Nat.le_refl _) _ hb x, if_neg]
    rintro ⟨i, hi, he⟩
    exact hx (he ▸ nt_mem hi)
  refine ⟨?_, fun k hk => ?_, fun j hj hne hnj => ?_⟩
  · rw [hbase col hn]
    simp [fr, hcol]
  · unfold kerRow
    exact set_at _ (Nat.le_refl _) _ hb k hk
  · rw [hbase j hnj]
    have : ¬ col = j := fun e => hne e.symm
    simp [fr, hj, this]
/-- each row of the kernel solves the echelon -/
theorem ker_ech {R : List (List Fr)} {C : List Nat} {m L col : Nat} (hB : Base m L R C L) (hU : Units m (mv R) C) (hQ : RedQ m L (mv R) C) (hr : rises C) (hcol : col < L) (hn : col ∉ C) (i : Nat) (hi : i < m) :
    sumN (fun j => mv R i j * qf (fr (kerRow R C L col) j)) L = 0 := by
  obtain ⟨k1, k2, k3⟩ := kerRow_at (R := R) hr hB.chs hcol hn
  by_cases hc : i < C.length
  · have hci : nt C i < L := hB.chs _ (nt_mem hc)
    have hne : col ≠ nt C i := fun e => hn (e ▸ nt_mem hc)
    rw [sumN_two hcol hci hne]
    · rw [k1, k2 i hc, qf_mir (hB.ok i hi col hcol), qf_one, hU i hc i hi, if_pos rfl]
      show mv R i col * 1 + 1 * (- mv R i col) = 0
      grind
    · intro j hj h1 h2
      by_cases hj2 : j ∈ C
      · obtain ⟨k, hk, rfl⟩ := mem_nt hj2
        have hik : i ≠ k := fun e => h2 (by rw [e])
        rw [hU k hk i hi, if_neg hik]
        grind
      · rw [k3 j hj h1 hj2, qf_null]
        grind
  · refine sumN_zero fun j hj => ?_
    rw [hQ.zero i (by omega) hi j hj]
    grind
/-- .. and the table -/
theorem ker_solves {rows : List (List Fr)} (h : echO rows = true) {col : Nat} (hcol : col < (rw' rows 0).length) (hn : col ∉ echC rows) (i : Nat) (hi : i < rows.length) :
    sumN (fun j => mv rows i j * qf (fr (kerRow (echR rows) (echC rows) (rw' rows 0).length col) j)) (rw' rows 0).length = 0 := by
  unfold echO at h
  rw [Bool.and_eq_true] at h
  obtain ⟨ht, hk⟩ := h
  obtain ⟨⟨h1, h2, -⟩, hB⟩ := ech_keeps rfl ht hk
  have hQ := ech_red rfl ht hk
  exact (h1 (fun j => qf (fr (kerRow (echR rows) (echC rows) (rw' rows 0).length col) j))).1 (fun i hi => ker_ech hB h2 hQ (ech_rises hk) hcol hn i hi) i hi
/-- what the law's loop makes of a row and a row of the kernel, as far as it goes -/
theorem ker_check {rows : List (List Fr)} (h : echO rows = true) {col : Nat} (hcol : col < (rw' rows 0).length) (hn : col ∉ echC rows) (i : Nat) (hi : i < rows.length)
    (hg : (chkS (rw' rows i) (kerRow (echR rows) (echC rows) (rw' rows 0).length col) (rw' rows 0).length).2 = true) : (chkS (rw' rows i) (kerRow (echR rows) (echC rows) (rw' rows 0).length col) (rw' rows 0).length).1 = (0, 1) := by
  obtain ⟨e1, e2⟩ := chkS_is _ _ _ hg
  refine qf_inj e1 (by decide) ?_
  rw [e2, qf_null]
  exact ker_solves h hcol hn i hi
/-- rank and kernel make up the columns -/
theorem rank_ker {rows : List (List Fr)} (h : echO rows = true) : (echC rows).length + (kerA rows).length = (rw' rows 0).length := by
  have h' := h
  unfold echO at h'
  rw [Bool.and_eq_true] at h'
  obtain ⟨ht, hk⟩ := h'
  have hB := (ech_keeps rfl ht hk).2
  rw [kerA_yes h, List.length_map]
  have := free_count (ech_rises hk) hB.chs
  omega
end Go.Proofs.Ytbbkejfcheobaak
