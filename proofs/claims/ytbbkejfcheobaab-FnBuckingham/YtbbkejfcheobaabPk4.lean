/- Several texts of this proof laid one behind the other: each has its own heading below. -/
import Derived.Test.YtbbkejfcheobaabPk3
import Derived.Test.YtbbkejfcheobaabRatioMath
import Derived.Test.YtbbkejfcheobaabTimMath
import Derived.Test.YtbbkejfcheobaabPk2
import Derived.Test.YtbbkejfcheobaabTabI0

/- The kernel's rows, in plain lists. -/
namespace Go.Proofs.Ytbbkejfcheobaab
open Go.RowKit Go.Proofs.Ytbbkejfcheobaab.RM

def mirF (p : Fr) : Fr := (wrap64 (-p.1), p.2)
/-- number k of a list of columns -/
def nt (C : List Nat) (k : Nat) : Nat := C[k]?.getD 0
/-- the chosen columns' elements laid, the first k -/
def setsK (R : List (List Fr)) (C : List Nat) (col : Nat) : Nat → List Fr → List Fr
  | 0, b => b
  | k + 1, b => (setsK R C col k b).set (nt C k) (mirF (fr (rw' R k) col))
/-- the free columns' noughts laid, the first k -/
def setsF (F : List Nat) : Nat → List Fr → List Fr
  | 0, b => b
  | k + 1, b => (setsF F k b).set (nt F k) (0, 1)
theorem setsK_len (R : List (List Fr)) (C : List Nat) (col k : Nat) (b : List Fr) : (setsK R C col k b).length = b.length := by
  induction k with
  | zero => rfl
  | succ k ih => simp [setsK, ih]
theorem setsF_len (F : List Nat) (k : Nat) (b : List Fr) : (setsF F k b).length = b.length := by
  induction k with
  | zero => rfl
  | succ k ih => simp [setsF, ih]
theorem nt_mem {C : List Nat} {k : Nat} (h : k < C.length) : nt C k ∈ C := by
  unfold nt
  rw [List.getElem?_eq_getElem h]
  exact List.getElem_mem h
/-- the row of one free column -/
def kerRow (R : List (List Fr)) (C : List Nat) (L col : Nat) : List Fr := setsK R C col C.length ((List.replicate L ((0, 1) : Fr)).set col (1, 1))
theorem kerRow_len (R : List (List Fr)) (C : List Nat) (L col : Nat) : (kerRow R C L col).length = L := by simp [kerRow, setsK_len]
theorem setsK_same (R : List (List Fr)) (C : List Nat) (col : Nat) (b b' : List Fr) (hl : b.length = b'.length) (x : Nat) : ∀ k, k ≤ C.length → (∀ i, i < k → nt C i < b.length) → ((∀ i, i < k → nt C i ≠ x) → fr b x = fr b' x) → fr (setsK R C col k b) x = fr (setsK R C col k b') x
  | 0, _, _, h => h (fun i hi => absurd hi (Nat.not_lt_zero _))
  | k + 1, hk, hc, h => by
    simp only [setsK]
    rw [fr_set _ _ _ _ (by rw [setsK_len]; exact hc k (by omega)), fr_set _ _ _ _ (by rw [setsK_len, ← hl]; exact hc k (by omega))]
    by_cases e : nt C k = x
    · rw [if_pos e, if_pos e]
    · rw [if_neg e, if_neg e]
      refine setsK_same R C col b b' hl x k (by omega) (fun i hi => hc i (by omega)) (fun hn => h (fun i hi => ?_))
      by_cases e2 : i = k
      · subst e2; exact e
      · exact hn i (by omega)
theorem setsF_at (F : List Nat) (b : List Fr) (x : Nat) : ∀ k, k ≤ F.length → (∀ i, i < k → nt F i < b.length) → fr (setsF F k b) x = if (∃ i, i < k ∧ nt F i = x) then (0, 1) else fr b x
  | 0, _, _ => by
    rw [if_neg (by rintro ⟨i, hi, _⟩; omega)]; rfl
  | k + 1, hk, hc => by
    simp only [setsF]
    rw [fr_set _ _ _ _ (by rw [setsF_len]; exact hc k (by omega)), setsF_at F b x k (by omega) (fun i hi => hc i (by omega))]
    by_cases e : nt F k = x
    · rw [if_pos e, if_pos ⟨k, by omega, e⟩]
    · rw [if_neg e]
      by_cases h : ∃ i, i < k ∧ nt F i = x
      · obtain ⟨i, hi, he⟩ := h
        rw [if_pos ⟨i, hi, he⟩, if_pos ⟨i, by omega, he⟩]
      · rw [if_neg h, if_neg]
        rintro ⟨i, hi, he⟩
        by_cases e2 : i = k
        · subst e2; exact e he
        · exact h ⟨i, by omega, he⟩
theorem mem_nt {C : List Nat} {x : Nat} (h : x ∈ C) : ∃ i, i < C.length ∧ nt C i = x := by
  obtain ⟨i, hi, rfl⟩ := List.mem_iff_getElem.1 h
  exact ⟨i, hi, by simp [nt, hi]⟩
theorem freeC_mem {L : Nat} {C : List Nat} {x : Nat} : x ∈ freeC L C ↔ x < L ∧ x ∉ C := by
  unfold freeC
  rw [List.mem_filter, List.mem_range]
  simp
/-- the program's way to the same row -/
theorem kerRow_impl (R : List (List Fr)) (C : List Nat) (L col : Nat) (hC : ∀ c, c ∈ C → c < L) (hcol : col < L) :
    setsK R C col C.length ((setsF (freeC L C) (freeC L C).length (List.replicate L (0, 0))).set col (1, 1)) = kerRow R C L col := by
  unfold kerRow
  apply fr_ext
  · rw [setsK_len, setsK_len, List.length_set, List.length_set, setsF_len]; simp
  · intro x hx
    rw [setsK_len, List.length_set, setsF_len, List.length_replicate] at hx
    refine setsK_same R C col _ _ (by rw [List.length_set, List.length_set, setsF_len]; simp) x C.length (Nat.le_refl _) (fun i hi => by rw [List.length_set, setsF_len, List.length_replicate]; exact hC _ (nt_mem hi)) (fun hn => ?_)
    rw [fr_set _ _ _ _ (by rw [setsF_len]; simpa using hcol), fr_set _ _ _ _ (by simpa using hcol)]
    by_cases e : col = x
    · rw [if_pos e, if_pos e]
    · rw [if_neg e, if_neg e, setsF_at _ _ _ _ (Nat.le_refl _) (fun i hi => by rw [List.length_replicate]; exact (freeC_mem.1 (nt_mem hi)).1)]
      have hxC : x ∉ C := fun h => by
        obtain ⟨i, hi, he⟩ := mem_nt h
        exact hn i hi he
      rw [if_pos (mem_nt (freeC_mem.2 ⟨hx, hxC⟩))]
      simp [fr, hx]
/-- what Kernel answers -/
def kerA (rows : List (List Fr)) : List (List Fr) := if echO rows then (freeC (rw' rows 0).length (echC rows)).map (kerRow (echR rows) (echC rows) (rw' rows 0).length) else []
theorem kerA_no {rows : List (List Fr)} (h : echO rows = false) : kerA rows = [] := by simp [kerA, h]
theorem kerA_yes {rows : List (List Fr)} (h : echO rows = true) : kerA rows = (freeC (rw' rows 0).length (echC rows)).map (kerRow (echR rows) (echC rows) (rw' rows 0).length) := by simp [kerA, h]
theorem freeC_len (L : Nat) (C : List Nat) : (freeC L C).length ≤ L := by
  unfold freeC
  have := List.length_filter_le (fun c => !C.contains c) (List.range L)
  simpa using this
theorem kerA_small (rows : List (List Fr)) : (kerA rows).length ≤ 1048576 ∧ ∀ i, i < (kerA rows).length → (rw' (kerA rows) i).length ≤ 1048576 := by
  cases ho : echO rows with
  | false => rw [kerA_no ho]; exact ⟨by simp, fun i hi => absurd hi (Nat.not_lt_zero _)⟩
  | true =>
    have h := ho
    unfold echO at h
    rw [Bool.and_eq_true] at h
    obtain ⟨⟨t1, t2, t3, t4⟩, tr⟩ := tabB_out h.1
    have hl := freeC_len (rw' rows 0).length (echC rows)
    rw [kerA_yes ho]
    refine ⟨by rw [List.length_map]; omega, fun i hi => ?_⟩
    rw [List.length_map] at hi
    have : rw' ((freeC (rw' rows 0).length (echC rows)).map (kerRow (echR rows) (echC rows) (rw' rows 0).length)) i = kerRow (echR rows) (echC rows) (rw' rows 0).length (nt (freeC (rw' rows 0).length (echC rows)) i) := by
      show (List.map _ _)[i]?.getD [] = _
      unfold nt
      rw [List.getElem?_map, List.getElem?_eq_getElem hi]
      rfl
    rw [this, kerRow_len]
    omega
/-- the chosen columns rise -/
def rises (C : List Nat) : Prop := ∀ i j, i < j → j < C.length → nt C i < nt C j
theorem echF_rises {L : Nat} : ∀ (n col : Nat) (rows : List (List Fr)) (ch : List Nat) (R : List (List Fr)) (C : List Nat), rises ch → (∀ c, c ∈ ch → c < col) → echF n col rows ch = some (R, C) → rises C
  | 0, col, rows, ch, R, C, hr, hc, h => by
    simp only [echF, Option.some.injEq, Prod.mk.injEq] at h
    obtain ⟨rfl, rfl⟩ := h
    exact hr
  | n + 1, col, rows, ch, R, C, hr, hc, h => by
    by_cases hp : piv rows col ch.length = rows.length
    · rw [echF_free hp] at h
      exact echF_rises (L := L) n (col + 1) rows ch R C hr (fun c hx => by have := hc c hx; omega) h
    · cases hb : stepB rows ch.length (piv rows col ch.length) col with
      | false => rw [echF_no rfl hp hb] at h; cases h
      | true =>
        rw [echF_yes rfl hp hb] at h
        refine echF_rises (L := L) n (col + 1) _ (ch ++ [col]) R C (fun i j hij hj => ?_) (fun c hx => ?_) h
        · rw [List.length_append, List.length_singleton] at hj
          have hi : nt (ch ++ [col]) i = nt ch i := by unfold nt; rw [List.getElem?_append_left (by omega)]
          rw [hi]
          by_cases e : j < ch.length
          · have : nt (ch ++ [col]) j = nt ch j := by unfold nt; rw [List.getElem?_append_left e]
            rw [this]
            exact hr i j hij e
          · obtain rfl : j = ch.length := by omega
            have : nt (ch ++ [col]) ch.length = col := by simp [nt]
            rw [this]
            exact hc _ (nt_mem (by omega))
        · rw [List.mem_append] at hx
          rcases hx with hx | hx
          · have := hc c hx; omega
          · simp at hx; omega
theorem ech_rises {rows : List (List Fr)} (hk : echK rows = true) : rises (echC rows) := by
  unfold echK at hk
  cases he : ech rows with
  | none => rw [he] at hk; cases hk
  | some p =>
    obtain ⟨R, C⟩ := p
    obtain ⟨-, e1, e2⟩ := ech_yes he
    rw [e2]
    exact echF_rises (L := 0) _ 0 rows [] R C (fun _ _ _ hj => absurd hj (Nat.not_lt_zero _)) (fun c hx => absurd hx (by simp)) he
/-- so many of the chosen ones lie ahead of col -/
def atP (C : List Nat) (at' col : Nat) : Prop := at' ≤ C.length ∧ (∀ i, i < at' → nt C i < col) ∧ ∀ i, at' ≤ i → i < C.length → col ≤ nt C i
theorem atP_zero (C : List Nat) : atP C 0 0 := ⟨Nat.zero_le _, fun _ hi => absurd hi (Nat.not_lt_zero _), fun _ _ _ => Nat.zero_le _⟩
theorem atP_yes {C : List Nat} {at' col : Nat} (hr : rises C) (h : atP C at' col) (h1 : at' < C.length) (h2 : nt C at' = col) : atP C (at' + 1) (col + 1) ∧ col ∈ C := by
  refine ⟨⟨by omega, fun i hi => ?_, fun i hi hl => ?_⟩, h2 ▸ nt_mem h1⟩
  · by_cases e : i = at'
    · subst e; omega
    · have := h.2.1 i (by omega); omega
  · have := hr at' i (by omega) hl; omega
theorem atP_no {C : List Nat} {at' col : Nat} (hr : rises C) (h : atP C at' col) (h1 : at' < C.length → nt C at' ≠ col) : atP C at' (col + 1) ∧ col ∉ C := by
  have hgt : ∀ i, at' ≤ i → i < C.length → col < nt C i := by
    intro i hi hl
    have h3 := h.2.2 at' (Nat.le_refl _) (by omega)
    have h4 := h1 (by omega)
    by_cases e : i = at'
    · subst e; omega
    · have := hr at' i (by omega) hl; omega
  refine ⟨⟨h.1, fun i hi => by have := h.2.1 i hi; omega, fun i hi hl => by have := hgt i hi hl; omega⟩, fun hm => ?_⟩
  obtain ⟨i, hi, he⟩ := mem_nt hm
  by_cases e : i < at'
  · have := h.2.1 i e; omega
  · have := hgt i (by omega) hi; omega
theorem freeC_in {col : Nat} {C : List Nat} (h : col ∈ C) : freeC (col + 1) C = freeC col C := by
  unfold freeC
  rw [List.range_succ, List.filter_append]
  simp [h]
theorem freeC_out {col : Nat} {C : List Nat} (h : col ∉ C) : freeC (col + 1) C = freeC col C ++ [col] := by
  unfold freeC
  rw [List.range_succ, List.filter_append]
  simp [h]
end Go.Proofs.Ytbbkejfcheobaab

/- What Solved answers, in plain lists. -/
namespace Go.Proofs.Ytbbkejfcheobaab
open Go.RowKit Go.Proofs.Ytbbkejfcheobaab.RM

/-- the rows with right's elements behind them -/
def wideT (rows : List (List Fr)) (right : List Fr) : List (List Fr) := (List.range rows.length).map fun i => rw' rows i ++ [fr right i]
theorem wideT_len (rows : List (List Fr)) (right : List Fr) : (wideT rows right).length = rows.length := by simp [wideT]
theorem wideT_at (rows : List (List Fr)) (right : List Fr) (i : Nat) (h : i < rows.length) : rw' (wideT rows right) i = rw' rows i ++ [fr right i] := by simp [wideT, rw', h]
/-- is it as told, right's fractions aside -/
def solC (rows : List (List Fr)) (right : List Fr) : Bool := decide (rows.length ≤ 5) && (tabB rows 6 && (decide ((rw' rows 0).length = rows.length) && decide (right.length = rows.length)))
theorem solC_out {rows : List (List Fr)} {right : List Fr} (h : solC rows right = true) : rows.length ≤ 5 ∧ tabB rows 6 = true ∧ (rw' rows 0).length = rows.length ∧ right.length = rows.length := by
  unfold solC at h
  simpa [Bool.and_eq_true, and_assoc] using h
theorem solC_no {rows : List (List Fr)} {right : List Fr} (h : ¬ (rows.length ≤ 5 ∧ tabB rows 6 = true ∧ (rw' rows 0).length = rows.length ∧ right.length = rows.length)) : solC rows right = false := by
  rw [← Bool.not_eq_true]
  exact fun h2 => h (solC_out h2)
/-- just one free column: right's -/
def solF (n : Nat) (C : List Nat) : Bool := decide (freeC (n + 1) C = [n])
def solO (rows : List (List Fr)) (right : List Fr) : Bool := solC rows right && (echO (wideT rows right) && solF rows.length (echC (wideT rows right)))
def solX (rows : List (List Fr)) (right : List Fr) : List Fr := (List.range rows.length).map fun i => fr (rw' (echR (wideT rows right)) i) rows.length
def solA (rows : List (List Fr)) (right : List Fr) : List Fr := if solO rows right then solX rows right else []
theorem solA_no {rows : List (List Fr)} {right : List Fr} (h : solO rows right = false) : solA rows right = [] := by simp [solA, h]
theorem solA_yes {rows : List (List Fr)} {right : List Fr} (h : solO rows right = true) : solA rows right = solX rows right := by simp [solA, h]
theorem solX_len (rows : List (List Fr)) (right : List Fr) : (solX rows right).length = rows.length := by simp [solX]
theorem solX_at (rows : List (List Fr)) (right : List Fr) (i : Nat) (h : i < rows.length) : fr (solX rows right) i = fr (rw' (echR (wideT rows right)) i) rows.length := by simp [solX, fr, h]
/-- the wide table is one where right's fractions are right -/
theorem wide_tab {rows : List (List Fr)} {right : List Fr} (h : solC rows right = true) : tabB (wideT rows right) 6 = allOk right := by
  obtain ⟨h1, h2, h3, h4⟩ := solC_out h
  obtain ⟨⟨t1, t2, t3, t4⟩, tr⟩ := tabB_out h2
  have h0 : (rw' (wideT rows right) 0).length = rows.length + 1 := by rw [wideT_at _ _ _ (by omega)]; simp [h3]
  cases hr : allOk right with
  | true =>
    refine tabB_yes (by rw [wideT_len, h0]; omega) (fun k hk => ?_)
    rw [wideT_len] at hk
    rw [h0, wideT_at _ _ _ hk]
    refine ⟨by rw [List.length_append, (tr k hk).1, h3]; rfl, ?_⟩
    unfold allOk
    rw [List.all_append]
    have e1 := (tr k hk).2
    unfold allOk at e1
    rw [e1]
    have e2 := allOk_at hr (k := k) (by omega)
    simpa using e2
  | false =>
    have hbad : ∃ k, k < right.length ∧ okB (fr right k).1 (fr right k).2 = false := by
      apply Classical.byContradiction
      intro hn
      have : allOk right = true := allOk_yes (fun k hk => by
        cases e : okB (fr right k).1 (fr right k).2 with
        | true => rfl
        | false => exact absurd ⟨k, hk, e⟩ hn)
      rw [hr] at this; cases this
    obtain ⟨k, hk, hb⟩ := hbad
    refine tabB_row (k := k) (by rw [wideT_len]; omega) (fun hh => ?_)
    have e1 := hh.2
    rw [wideT_at _ _ _ (by omega)] at e1
    unfold allOk at e1
    rw [List.all_append, Bool.and_eq_true] at e1
    have e2 := e1.2
    simp [hb] at e2
theorem atP_run {n : Nat} {C : List Nat} (hr : rises C) (h : ∀ x, x < n → x ∈ C) : ∀ k, k ≤ n → atP C k k ∧ ∀ i, i < k → nt C i = i
  | 0, _ => ⟨atP_zero C, fun i hi => absurd hi (Nat.not_lt_zero _)⟩
  | k + 1, hk => by
    obtain ⟨h1, h2⟩ := atP_run hr h k (by omega)
    have hm := h k (by omega)
    have hc : k < C.length ∧ nt C k = k := by
      apply Classical.byContradiction
      intro hn
      exact (atP_no hr h1 (fun hl e => hn ⟨hl, e⟩)).2 hm
    refine ⟨(atP_yes hr h1 hc.1 hc.2).1, fun i hi => ?_⟩
    by_cases e : i = k
    · subst e; exact hc.2
    · exact h2 i (by omega)
/-- the model's way to say the same -/
theorem solF_model {n : Nat} {C : List Nat} (hn : 1 ≤ n) (hr : rises C) (hl : ∀ c, c ∈ C → c < n + 1) : solF n C = (decide (C.length = n) && decide (nt C (n - 1) = n - 1)) := by
  unfold solF
  rw [Bool.eq_iff_iff, decide_eq_true_eq, Bool.and_eq_true, decide_eq_true_eq, decide_eq_true_eq]
  constructor
  · intro h
    have hin : ∀ x, x < n → x ∈ C := by
      intro x hx
      apply Classical.byContradiction
      intro hn2
      have : x ∈ freeC (n + 1) C := freeC_mem.2 ⟨by omega, hn2⟩
      rw [h] at this
      simp at this
      omega
    have hout : n ∉ C := by
      have : n ∈ freeC (n + 1) C := by rw [h]; simp
      exact (freeC_mem.1 this).2
    obtain ⟨h1, h2⟩ := atP_run hr hin n (Nat.le_refl _)
    have hlen : C.length = n := by
      apply Classical.byContradiction
      intro hne
      have hgt : n < C.length := by have := h1.1; omega
      have h3 := h1.2.2 n (Nat.le_refl _) hgt
      have h4 := hl _ (nt_mem hgt)
      exact hout (by have := nt_mem hgt; rw [show nt C n = n by omega] at this; exact this)
    exact ⟨hlen, h2 (n - 1) (by omega)⟩
  · rintro ⟨h1, h2⟩
    have hle : ∀ k, k < n → nt C (n - 1 - k) ≤ n - 1 - k := by
      intro k
      induction k with
      | zero => intro _; simp [h2]
      | succ k ih =>
        intro hk
        have := ih (by omega)
        have := hr (n - 1 - (k + 1)) (n - 1 - k) (by omega) (by omega)
        omega
    have hge : ∀ k, k < n → k ≤ nt C k := by
      intro k
      induction k with
      | zero => intro _; omega
      | succ k ih =>
        intro hk
        have := ih (by omega)
        have := hr k (k + 1) (by omega) (by omega)
        omega
    have heq : ∀ k, k < n → nt C k = k := by
      intro k hk
      have a := hge k hk
      have b := hle (n - 1 - k) (by omega)
      rw [show n - 1 - (n - 1 - k) = k by omega] at b
      omega
    have hin : ∀ x, x < n → x ∈ C := fun x hx => by have := nt_mem (C := C) (k := x) (by omega); rw [heq x hx] at this; exact this
    have hout : n ∉ C := by
      intro hm
      obtain ⟨i, hi, he⟩ := mem_nt hm
      have := heq i (by omega)
      omega
    have hz : ∀ k, k ≤ n → freeC k C = [] := by
      intro k
      induction k with
      | zero => intro _; rfl
      | succ k ih => intro hk; rw [freeC_in (hin k (by omega))]; exact ih (by omega)
    rw [freeC_out hout, hz n (Nat.le_refl _)]
    rfl
theorem solA_small (rows : List (List Fr)) (right : List Fr) : (solA rows right).length ≤ 1048576 := by
  cases ho : solO rows right with
  | false => rw [solA_no ho]; simp
  | true =>
    have h := ho
    unfold solO at h
    rw [Bool.and_eq_true] at h
    obtain ⟨h1, _⟩ := solC_out h.1
    rw [solA_yes ho, solX_len]
    omega
end Go.Proofs.Ytbbkejfcheobaab

/- The order of fractions: sums keep it, and of two unlike ones one is less. -/
namespace Go.Proofs.Ytbbkejfcheobaab.RM
theorem lt_iff_mul {x y k : Int} (hk : 0 < k) : k * x < k * y ↔ x < y :=
  ⟨fun h => Int.lt_of_mul_lt_mul_left h (Int.le_of_lt hk), fun h => Int.mul_lt_mul_of_pos_left h hk⟩
theorem red_parts {x y : Int} (h : redOk x y = true) (hy : 0 < y) : 0 < gcdi x y ∧ gcdi x y * redN x y = x ∧ gcdi x y * redD x y = y := by
  have hs := sg_pos (n := x) (d := y) (by omega)
  have e1 : redN x y = x / sg x y := by unfold redN; rw [if_pos h]
  have e2 : redD x y = y / sg x y := by unfold redD; rw [if_pos h]
  rw [e1, e2, hs]
  exact ⟨gcdi_pos_r x y (by omega), Int.mul_ediv_cancel' (gcdi_dvd_l x y), Int.mul_ediv_cancel' (gcdi_dvd_r x y)⟩
theorem add_less {a b c d p q : Int} (hb : 0 < b) (hd : 0 < d) (hq : 0 < q) (hab : two a b c d = true) (h1 : redOk (a * q + p * b) (b * q) = true) (h2 : redOk (c * q + p * d) (d * q) = true) :
    lessB (redN (a * q + p * b) (b * q)) (redD (a * q + p * b) (b * q)) (redN (c * q + p * d) (d * q)) (redD (c * q + p * d) (d * q)) = lessB a b c d := by
  have t := two_yes (okB_redN h1) (okB_redN h2)
  obtain ⟨g1, n1, d1⟩ := red_parts h1 (Int.mul_pos hb hq)
  obtain ⟨g2, n2, d2⟩ := red_parts h2 (Int.mul_pos hd hq)
  unfold lessB
  rw [t, hab]
  generalize gcdi (a * q + p * b) (b * q) = k1 at *
  generalize gcdi (c * q + p * d) (d * q) = k2 at *
  generalize redN (a * q + p * b) (b * q) = N1 at *
  generalize redD (a * q + p * b) (b * q) = D1 at *
  generalize redN (c * q + p * d) (d * q) = N2 at *
  generalize redD (c * q + p * d) (d * q) = D2 at *
  have e : (N1 * D2 < N2 * D1) ↔ (a * d < c * b) := by
    rw [← lt_iff_mul (Int.mul_pos g1 g2), ← lt_iff_mul (Int.mul_pos hq hq) (x := a * d)]
    have e1 : k1 * k2 * (N1 * D2) = (a * q + p * b) * (d * q) := by rw [← n1, ← d2]; ac_rfl
    have e2 : k1 * k2 * (N2 * D1) = (c * q + p * d) * (b * q) := by rw [← n2, ← d1]; ac_rfl
    have e3 : (a * q + p * b) * (d * q) = q * q * (a * d) + p * b * d * q := by rw [Int.add_mul]; congr 1 <;> ac_rfl
    have e4 : (c * q + p * d) * (b * q) = q * q * (c * b) + p * b * d * q := by rw [Int.add_mul]; congr 1 <;> ac_rfl
    rw [e1, e2, e3, e4]
    omega
  simp only [e]
theorem less_same (a b : Int) : lessB a b a b = false := by unfold lessB; rw [decide_eq_false (by omega)]; simp
theorem dvd_cop {k m n : Int} (h : Int.gcd k m = 1) (hd : k ∣ m * n) : k ∣ n := by
  rw [← Int.natAbs_dvd_natAbs] at hd ⊢
  rw [Int.natAbs_mul] at hd
  exact Nat.Coprime.dvd_of_dvd_mul_left (by unfold Nat.Coprime; rw [Int.gcd_eq_natAbs_gcd_natAbs] at h; exact h) hd
theorem okB_eq {a b c d : Int} (h1 : okB a b = true) (h2 : okB c d = true) (h : a * d = c * b) : a = c ∧ b = d := by
  have p1 := okB_out h1
  have p2 := okB_out h2
  have g1 : Int.gcd a b = 1 := by have := p1.2.2.2.2; unfold gcdi at this; omega
  have g2 : Int.gcd c d = 1 := by have := p2.2.2.2.2; unfold gcdi at this; omega
  have d1 : b ∣ d := by
    have : b ∣ a * d := ⟨c, by rw [h]; ac_rfl⟩
    exact dvd_cop (by rw [Int.gcd_comm]; exact g1) this
  have d2 : d ∣ b := by
    have : d ∣ c * b := ⟨a, by rw [← h]; ac_rfl⟩
    exact dvd_cop (by rw [Int.gcd_comm]; exact g2) this
  have e : b = d := Int.dvd_antisymm (by omega) (by omega) d1 d2
  subst e
  exact ⟨Int.eq_of_mul_eq_mul_right (by omega) h, rfl⟩
theorem less_flip {a b c d : Int} (h1 : okB a b = true) (h2 : okB c d = true) (hne : ¬ (a = c ∧ b = d)) : lessB c d a b = !lessB a b c d := by
  have k : a * d ≠ c * b := fun h => hne (okB_eq h1 h2 h)
  unfold lessB
  rw [two_yes h1 h2, two_yes h2 h1]
  by_cases h : a * d < c * b
  · rw [decide_eq_true h, decide_eq_false (by omega)]; rfl
  · rw [decide_eq_false h, decide_eq_true (by omega)]; rfl
end Go.Proofs.Ytbbkejfcheobaab.RM

/- Fractions are a field, as far as they go: what is taken or divided comes back. -/
namespace Go.Proofs.Ytbbkejfcheobaab.RM
theorem mul_in (x y A B : Int) (h1 : -A ≤ x) (h2 : x ≤ A) (h3 : -B ≤ y) (h4 : y ≤ B) : -(A * B) ≤ x * y ∧ x * y ≤ A * B := by
  have hA : 0 ≤ A := by omega
  have hB : 0 ≤ B := by omega
  have k : (x * y).natAbs ≤ (A * B).natAbs := by
    rw [Int.natAbs_mul, Int.natAbs_mul]; exact Nat.mul_le_mul (by omega) (by omega)
  have hp : 0 ≤ A * B := Int.mul_nonneg hA hB
  generalize x * y = z at *
  generalize A * B = u at *
  omega
/-- what a reduced fraction times its divisor is -/
theorem red_sg {x y : Int} (h : redOk x y = true) : sg x y ≠ 0 ∧ sg x y * redN x y = x ∧ sg x y * redD x y = y := by
  have h' := h
  unfold redOk at h'
  rw [Bool.and_eq_true] at h'
  have hy := (redIn_out h'.1).1
  have e1 : redN x y = x / sg x y := by unfold redN; rw [if_pos h]
  have e2 : redD x y = y / sg x y := by unfold redD; rw [if_pos h]
  rw [e1, e2]
  exact ⟨sg_ne x y hy, Int.mul_ediv_cancel' (sg_dvd_l x y), Int.mul_ediv_cancel' (sg_dvd_r x y)⟩
theorem cancel {k x y : Int} (hk : k ≠ 0) (h : k * x = k * y) : x = y := Int.eq_of_mul_eq_mul_left hk h
theorem add_sub {a b c d : Int} (h1 : okB a b = true) (s : redOk (a * d + c * b) (b * d) = true)
    (t : redOk (redN (a * d + c * b) (b * d) * d - c * redD (a * d + c * b) (b * d)) (redD (a * d + c * b) (b * d) * d) = true) :
    redN (redN (a * d + c * b) (b * d) * d - c * redD (a * d + c * b) (b * d)) (redD (a * d + c * b) (b * d) * d) = a ∧
    redD (redN (a * d + c * b) (b * d) * d - c * redD (a * d + c * b) (b * d)) (redD (a * d + c * b) (b * d) * d) = b := by
  obtain ⟨k1, n1, d1⟩ := red_sg s
  obtain ⟨k2, n2, d2⟩ := red_sg t
  have ht := okB_redN t
  generalize redN (a * d + c * b) (b * d) = N at *
  generalize redD (a * d + c * b) (b * d) = D at *
  generalize sg (a * d + c * b) (b * d) = g at *
  generalize redN (N * d - c * D) (D * d) = X at *
  generalize redD (N * d - c * D) (D * d) = Y at *
  generalize sg (N * d - c * D) (D * d) = k at *
  refine okB_eq ht h1 (cancel (Int.mul_ne_zero k1 k2) ?_)
  have e1 : g * k * (X * b) = g * (N * d - c * D) * b := by rw [← n2]; ac_rfl
  have e2 : g * k * (a * Y) = a * (g * D) * d := by rw [show g * k * (a * Y) = a * g * (k * Y) from by ac_rfl, d2]; ac_rfl
  have e3 : g * (N * d - c * D) * b = (g * N * d - c * (g * D)) * b := by rw [Int.mul_sub]; congr 2 <;> ac_rfl
  rw [e1, e2, e3, n1, d1, Int.add_mul, show c * b * d = c * (b * d) from by ac_rfl, Int.add_sub_cancel]
  ac_rfl
theorem div_mul {a b c d : Int} (h1 : okB a b = true) (s : redOk (a * d) (b * c) = true)
    (t : redOk (redN (a * d) (b * c) * c) (redD (a * d) (b * c) * d) = true) :
    redN (redN (a * d) (b * c) * c) (redD (a * d) (b * c) * d) = a ∧ redD (redN (a * d) (b * c) * c) (redD (a * d) (b * c) * d) = b := by
  obtain ⟨k1, n1, d1⟩ := red_sg s
  obtain ⟨k2, n2, d2⟩ := red_sg t
  have ht := okB_redN t
  generalize redN (a * d) (b * c) = N at *
  generalize redD (a * d) (b * c) = D at *
  generalize sg (a * d) (b * c) = g at *
  generalize redN (N * c) (D * d) = X at *
  generalize redD (N * c) (D * d) = Y at *
  generalize sg (N * c) (D * d) = k at *
  refine okB_eq ht h1 (cancel (Int.mul_ne_zero k1 k2) ?_)
  have e1 : g * k * (X * b) = g * N * c * b := by rw [show g * k * (X * b) = g * (k * X) * b from by ac_rfl, n2]; ac_rfl
  have e2 : g * k * (a * Y) = a * (g * D) * d := by rw [show g * k * (a * Y) = a * g * (k * Y) from by ac_rfl, d2]; ac_rfl
  rw [e1, e2, n1, d1]
  ac_rfl
theorem add_comm2 (a b c d : Int) : c * b + a * d = a * d + c * b ∧ d * b = b * d := ⟨Int.add_comm _ _, Int.mul_comm _ _⟩
/-- of three small right fractions: the product over the sum is the sum of the products, and nothing is too great -/
theorem spread {a b c d p q : Int} (a1 : -6 ≤ a) (a2 : a ≤ 6) (b1 : 1 ≤ b) (b2 : b ≤ 4) (c1 : -6 ≤ c) (c2 : c ≤ 6) (d1 : 1 ≤ d) (d2 : d ≤ 4) (p1 : -6 ≤ p) (p2 : p ≤ 6) (q1 : 1 ≤ q) (q2 : q ≤ 4) :
    ∃ sN sD lN lD mN mD nN nD rN rD : Int,
      (redOk (c * q + p * d) (d * q) = true ∧ redN (c * q + p * d) (d * q) = sN ∧ redD (c * q + p * d) (d * q) = sD ∧ okB sN sD = true) ∧
      (redOk (a * sN) (b * sD) = true ∧ redN (a * sN) (b * sD) = lN ∧ redD (a * sN) (b * sD) = lD) ∧
      (redOk (a * c) (b * d) = true ∧ redN (a * c) (b * d) = mN ∧ redD (a * c) (b * d) = mD ∧ okB mN mD = true) ∧
      (redOk (a * p) (b * q) = true ∧ redN (a * p) (b * q) = nN ∧ redD (a * p) (b * q) = nD ∧ okB nN nD = true) ∧
      (redOk (mN * nD + nN * mD) (mD * nD) = true ∧ redN (mN * nD + nN * mD) (mD * nD) = rN ∧ redD (mN * nD + nN * mD) (mD * nD) = rD) ∧ lN = rN ∧ lD = rD := by
  have pos : ∀ {x y : Int}, 1 ≤ x → 1 ≤ y → 1 ≤ x * y := fun hx hy => Int.mul_pos (by omega) (by omega)
  have u1 := mul_in c q 6 4 c1 c2 (by omega) q2
  have u2 := mul_in p d 6 4 p1 p2 (by omega) d2
  have u3 := mul_in d q 4 4 (by omega) d2 (by omega) q2
  have u3' := pos d1 q1
  obtain ⟨s1, s2, s3, s4, s5, s6⟩ := red_small (x := c * q + p * d) (y := d * q) (m := 48) (by omega) (by omega) (by omega) u3' (by omega)
  obtain ⟨gs, gs1, gs2⟩ := red_sg s1
  have v1 := mul_in a (redN (c * q + p * d) (d * q)) 6 48 a1 a2 s3 s4
  have v2 := mul_in b (redD (c * q + p * d) (d * q)) 4 16 (by omega) b2 (by omega) (by omega)
  have v2' := pos b1 s5
  obtain ⟨l1, l2, l3, l4, l5, l6⟩ := red_small (x := a * redN (c * q + p * d) (d * q)) (y := b * redD (c * q + p * d) (d * q)) (m := 288) (by omega) (by omega) (by omega) v2' (by omega)
  obtain ⟨gl, gl1, gl2⟩ := red_sg l1
  have w1 := mul_in a c 6 6 a1 a2 c1 c2
  have w2 := mul_in b d 4 4 (by omega) b2 (by omega) d2
  have w2' := pos b1 d1
  obtain ⟨m1, m2, m3, m4, m5, m6⟩ := red_small (x := a * c) (y := b * d) (m := 36) (by omega) (by omega) (by omega) w2' (by omega)
  obtain ⟨gm, gm1, gm2⟩ := red_sg m1
  have x1 := mul_in a p 6 6 a1 a2 p1 p2
  have x2 := mul_in b q 4 4 (by omega) b2 (by omega) q2
  have x2' := pos b1 q1
  obtain ⟨n1, n2, n3, n4, n5, n6⟩ := red_small (x := a * p) (y := b * q) (m := 36) (by omega) (by omega) (by omega) x2' (by omega)
  obtain ⟨gn, gn1, gn2⟩ := red_sg n1
  have y1 := mul_in (redN (a * c) (b * d)) (redD (a * p) (b * q)) 36 16 m3 m4 (by omega) (by omega)
  have y2 := mul_in (redN (a * p) (b * q)) (redD (a * c) (b * d)) 36 16 n3 n4 (by omega) (by omega)
  have y3 := mul_in (redD (a * c) (b * d)) (redD (a * p) (b * q)) 16 16 (by omega) (by omega) (by omega) (by omega)
  have y3' := pos m5 n5
  obtain ⟨r1, r2, r3, r4, r5, r6⟩ := red_small (x := redN (a * c) (b * d) * redD (a * p) (b * q) + redN (a * p) (b * q) * redD (a * c) (b * d)) (y := redD (a * c) (b * d) * redD (a * p) (b * q)) (m := 1152) (by omega) (by omega) (by omega) y3' (by omega)
  obtain ⟨gr, gr1, gr2⟩ := red_sg r1
  refine ⟨_, _, _, _, _, _, _, _, _, _, ⟨s1, rfl, rfl, s2⟩, ⟨l1, rfl, rfl⟩, ⟨m1, rfl, rfl, m2⟩, ⟨n1, rfl, rfl, n2⟩, ⟨r1, rfl, rfl⟩, ?_⟩
  refine okB_eq l2 r2 ?_
  clear s1 s2 s3 s4 s5 s6 l1 l2 l3 l4 l5 l6 m1 m2 m3 m4 m5 m6 n1 n2 n3 n4 n5 n6 r1 r2 r3 r4 r5 r6 u1 u2 u3 u3' v1 v2 v2' w1 w2 w2' x1 x2 x2' y1 y2 y3 y3' pos
  generalize redN (c * q + p * d) (d * q) = sN at *
  generalize redD (c * q + p * d) (d * q) = sD at *
  generalize sg (c * q + p * d) (d * q) = ks at *
  generalize redN (a * sN) (b * sD) = lN at *
  generalize redD (a * sN) (b * sD) = lD at *
  generalize sg (a * sN) (b * sD) = kl at *
  generalize redN (a * c) (b * d) = mN at *
  generalize redD (a * c) (b * d) = mD at *
  generalize sg (a * c) (b * d) = km at *
  generalize redN (a * p) (b * q) = nN at *
  generalize redD (a * p) (b * q) = nD at *
  generalize sg (a * p) (b * q) = kn at *
  generalize redN (mN * nD + nN * mD) (mD * nD) = rN at *
  generalize redD (mN * nD + nN * mD) (mD * nD) = rD at *
  generalize sg (mN * nD + nN * mD) (mD * nD) = kr at *
  refine cancel (Int.mul_ne_zero (Int.mul_ne_zero gs gl) (Int.mul_ne_zero gr (Int.mul_ne_zero gm gn))) ?_
  have e1 : ks * kl * (kr * (km * kn)) * (lN * rD) = a * (ks * sN) * ((km * mD) * (kn * nD)) := by
    rw [show ks * kl * (kr * (km * kn)) * (lN * rD) = ks * (kl * lN) * ((km * kn) * (kr * rD)) from by ac_rfl, gl1, gr2]; ac_rfl
  have e2 : ks * kl * (kr * (km * kn)) * (rN * lD) = b * (ks * sD) * ((km * mN) * (kn * nD) + (kn * nN) * (km * mD)) := by
    rw [show ks * kl * (kr * (km * kn)) * (rN * lD) = ks * (kl * lD) * ((km * kn) * (kr * rN)) from by ac_rfl, gl2, gr1, Int.mul_add (km * kn)]
    congr 1
    · ac_rfl
    · congr 1 <;> ac_rfl
  rw [e1, e2, gs1, gs2, gm1, gm2, gn1, gn2, Int.mul_add a, Int.add_mul (a * (c * q)), Int.mul_add (b * (d * q))]
  congr 1 <;> ac_rfl
theorem op_true {t : Bool} {x y : Int} (h : opOk t x y = true) : t = true ∧ redOk x y = true ∧ opN t x y = redN x y ∧ opD t x y = redD x y := by
  unfold opOk at h
  rw [Bool.and_eq_true] at h
  obtain ⟨h1, h2⟩ := h
  subst h1
  exact ⟨rfl, h2, rfl, rfl⟩
theorem sub_back {a b c d N D : Int} (hN : N = opN (two a b c d) (a * d + c * b) (b * d)) (hD : D = opD (two a b c d) (a * d + c * b) (b * d)) (h : opOk (two a b c d) (a * d + c * b) (b * d) = true)
    (k : opOk (two N D c d) (N * d - c * D) (D * d) = true) : a = opN (two N D c d) (N * d - c * D) (D * d) ∧ b = opD (two N D c d) (N * d - c * D) (D * d) := by
  obtain ⟨t1, r1, e1, e2⟩ := op_true h
  obtain ⟨t2, r2, e3, e4⟩ := op_true k
  rw [e3, e4]
  rw [e1] at hN
  rw [e2] at hD
  subst hN hD
  have := add_sub (two_out t1).1 r1 r2
  exact ⟨this.1.symm, this.2.symm⟩
theorem mul_back {a b c d N D : Int} (hN : N = opN (two a b c d) (a * d) (b * c)) (hD : D = opD (two a b c d) (a * d) (b * c)) (h : opOk (two a b c d) (a * d) (b * c) = true)
    (k : opOk (two N D c d) (N * c) (D * d) = true) : a = opN (two N D c d) (N * c) (D * d) ∧ b = opD (two N D c d) (N * c) (D * d) := by
  obtain ⟨t1, r1, e1, e2⟩ := op_true h
  obtain ⟨t2, r2, e3, e4⟩ := op_true k
  rw [e3, e4]
  rw [e1] at hN
  rw [e2] at hD
  subst hN hD
  have := div_mul (two_out t1).1 r1 r2
  exact ⟨this.1.symm, this.2.symm⟩
end Go.Proofs.Ytbbkejfcheobaab.RM

/- Sums, tables of fractions as numbers, and what a column's step of the echelon keeps: the solutions, the dependence of rows, the units of the chosen columns. -/
namespace Go.Proofs.Ytbbkejfcheobaab
open Go.RowKit Go.Proofs.Ytbbkejfcheobaab.RM

/-- a sum of n -/
def sumN (f : Nat → Rat) : Nat → Rat
  | 0 => 0
  | n + 1 => sumN f n + f n
theorem sumN_congr {f g : Nat → Rat} : ∀ {n : Nat}, (∀ i, i < n → f i = g i) → sumN f n = sumN g n
  | 0, _ => rfl
  | n + 1, h => by
    simp only [sumN]
    rw [sumN_congr (fun i hi => h i (by omega)), h n (by omega)]
theorem sumN_zero {f : Nat → Rat} : ∀ {n : Nat}, (∀ i, i < n → f i = 0) → sumN f n = 0
  | 0, _ => rfl
  | n + 1, h => by
    simp only [sumN]
    rw [sumN_zero (fun i hi => h i (by omega)), h n (by omega)]
    grind
theorem sumN_add (f g : Nat → Rat) : ∀ n, sumN (fun i => f i + g i) n = sumN f n + sumN g n
  | 0 => by simp only [sumN]; grind
  | n + 1 => by simp only [sumN]; rw [sumN_add f g n]; grind
theorem sumN_sub (f g : Nat → Rat) : ∀ n, sumN (fun i => f i - g i) n = sumN f n - sumN g n
  | 0 => by simp only [sumN]; grind
  | n + 1 => by simp only [sumN]; rw [sumN_sub f g n]; grind
theorem sumN_mul (f : Nat → Rat) (c : Rat) : ∀ n, sumN (fun i => f i * c) n = sumN f n * c
  | 0 => by simp only [sumN]; grind
  | n + 1 => by simp only [sumN]; rw [sumN_mul f c n]; grind
theorem sumN_swap (f : Nat → Nat → Rat) (m : Nat) : ∀ n, sumN (fun i => sumN (fun j => f i j) m) n = sumN (fun j => sumN (fun i => f i j) n) m
  | 0 => by
    simp only [sumN]
    rw [sumN_zero (fun _ _ => rfl)]
  | n + 1 => by
    simp only [sumN]
    rw [sumN_swap f m n, ← sumN_add]
/-- one of them turned -/
theorem sumN_turn (f : Nat → Rat) (a : Nat) (c : Rat) : ∀ {n : Nat}, a < n → sumN (fun i => if i = a then c else f i) n = sumN f n - f a + c
  | 0, h => by omega
  | n + 1, h => by
    simp only [sumN]
    by_cases e : a = n
    · subst e
      rw [if_pos rfl, sumN_congr (g := f) (fun i hi => by rw [if_neg (by omega)])]
      grind
    · rw [if_neg (fun h => e h.symm), sumN_turn f a c (by omega)]
      grind
/-- just one is not 0 -/
theorem sumN_one {f : Nat → Rat} {a n : Nat} (ha : a < n) (h : ∀ i, i < n → i ≠ a → f i = 0) : sumN f n = f a := by
  have h1 : sumN f n = sumN (fun i => if i = a then f a else (fun _ => 0) i) n := sumN_congr (fun i hi => by
    by_cases e : i = a
    · rw [if_pos e, e]
    · rw [if_neg e, h i hi e])
  rw [h1, sumN_turn _ _ _ ha, sumN_zero (fun _ _ => rfl)]
  grind
/-- in another order: two were exchanged -/
theorem sumN_exch (f : Nat → Rat) (a b : Nat) {n : Nat} (ha : a < n) (hb : b < n) : sumN (fun i => f (exch a b i)) n = sumN f n := by
  by_cases e : a = b
  · subst e
    apply sumN_congr
    intro i _
    unfold exch
    split
    · rename_i h; rw [h]
    · rfl
  · have h1 : sumN (fun i => f (exch a b i)) n = sumN (fun i => if i = b then f a else (fun i => if i = a then f b else f i) i) n := sumN_congr (fun i hi => by
      unfold exch
      by_cases e1 : b = i
      · rw [if_pos e1, if_pos e1.symm]
      · rw [if_neg e1, if_neg (show ¬ i = b from fun h => e1 h.symm)]
        show _ = if i = a then f b else f i
        by_cases e2 : a = i
        · rw [if_pos e2, if_pos e2.symm]
        · rw [if_neg e2, if_neg (show ¬ i = a from fun h => e2 h.symm)])
    rw [h1, sumN_turn _ _ _ hb, sumN_turn _ _ _ ha, if_neg (fun h => e h.symm)]
    grind
/-- the number that a fraction is -/
def qf (p : Fr) : Rat := Rat.divInt p.1 p.2
theorem qf_red {x y : Int} (h : redOk x y = true) : qf (redN x y, redD x y) = Rat.divInt x y := by
  obtain ⟨h1, h2, h3⟩ := red_sg h
  have hb := okB_out (okB_redN h)
  have hy : y ≠ 0 := by
    intro h0
    have h4 : sg x y * redD x y = 0 := by rw [h3]; exact h0
    rcases Int.mul_eq_zero.1 h4 with k | k
    · exact h1 k
    · omega
  unfold qf
  rw [Rat.divInt_eq_divInt_iff (by show redD x y ≠ 0; omega) hy]
  show redN x y * y = x * redD x y
  obtain ⟨p, hp⟩ : ∃ p, p = redN x y := ⟨_, rfl⟩
  obtain ⟨q, hq⟩ : ∃ q, q = redD x y := ⟨_, rfl⟩
  obtain ⟨s, hs⟩ : ∃ s, s = sg x y := ⟨_, rfl⟩
  rw [← hp, ← hs] at h2
  rw [← hq, ← hs] at h3
  rw [← hp, ← hq]
  clear hp hq hs h1 hb hy h
  grind
theorem okF_ne {p : Fr} (h : okF p = true) : p.2 ≠ 0 := by have := okB_out h; omega
theorem op_parts {p q : Fr} {x y : Int} (h : opOk (two p.1 p.2 q.1 q.2) x y = true) : okF p = true ∧ okF q = true ∧ qf (opN (two p.1 p.2 q.1 q.2) x y, opD (two p.1 p.2 q.1 q.2) x y) = Rat.divInt x y := by
  obtain ⟨t, h2, h3, h4⟩ := op_true h
  obtain ⟨t1, t2⟩ := two_out t
  exact ⟨t1, t2, by rw [h3, h4]; exact qf_red h2⟩
theorem dz {n d : Int} (hd : d ≠ 0) : Rat.divInt n d = 0 ↔ n = 0 := by
  rw [show (0 : Rat) = Rat.divInt 0 1 from rfl, Rat.divInt_eq_divInt_iff hd (by decide)]
  omega
theorem qf_mul {p q : Fr} (h : mulK p q = true) : qf (mulP p q) = qf p * qf q := by
  obtain ⟨h1, h2, h3⟩ := op_parts h
  unfold mulP
  rw [h3]
  unfold qf
  rw [Rat.divInt_mul_divInt]
theorem qf_add {p q : Fr} (h : addK p q = true) : qf (addP p q) = qf p + qf q := by
  obtain ⟨h1, h2, h3⟩ := op_parts h
  unfold addP
  rw [h3]
  unfold qf
  rw [Rat.divInt_add_divInt _ _ (okF_ne h1) (okF_ne h2)]
theorem qf_sub {p q : Fr} (h : subK p q = true) : qf (subP p q) = qf p - qf q := by
  obtain ⟨h1, h2, h3⟩ := op_parts h
  unfold subP
  rw [h3]
  unfold qf
  rw [Rat.divInt_sub_divInt _ _ (okF_ne h1) (okF_ne h2)]
theorem qf_div {p q : Fr} (h : divK p q = true) : qf q ≠ 0 ∧ qf (divP p q) = qf p / qf q := by
  obtain ⟨h1, h2, h3⟩ := op_parts h
  have h4 : opOk (two p.1 p.2 q.1 q.2) (p.1 * q.2) (p.2 * q.1) = true := h
  obtain ⟨-, h5, -, -⟩ := op_true h4
  have hq : q.1 ≠ 0 := by
    intro h0
    unfold redOk at h5
    rw [Bool.and_eq_true] at h5
    have := (redIn_out h5.1).1
    rw [h0] at this
    omega
  unfold divP
  rw [h3]
  unfold qf
  have hz : Rat.divInt q.1 q.2 ≠ 0 := by
    intro h0
    rw [dz (okF_ne h2)] at h0
    exact hq h0
  refine ⟨hz, ?_⟩
  have hm : Rat.divInt (p.1 * q.2) (p.2 * q.1) * Rat.divInt q.1 q.2 = Rat.divInt p.1 p.2 := by
    rw [Rat.divInt_mul_divInt, Rat.divInt_eq_divInt_iff (by
      intro h0
      rcases Int.mul_eq_zero.1 h0 with k | k
      · rcases Int.mul_eq_zero.1 k with k | k
        · exact okF_ne h1 k
        · exact hq k
      · exact okF_ne h2 k) (okF_ne h1)]
    grind
  rw [← hm]
  grind
theorem qf_inj {p q : Fr} (h1 : okF p = true) (h2 : okF q = true) (h : qf p = qf q) : p = q := by
  unfold qf at h
  rw [Rat.divInt_eq_divInt_iff (okF_ne h1) (okF_ne h2)] at h
  obtain ⟨e1, e2⟩ := okB_eq h1 h2 h
  exact Prod.ext e1 e2
theorem qf_zero {p : Fr} (h : okF p = true) : qf p = 0 ↔ p.1 = 0 := by
  unfold qf
  rw [dz (okF_ne h)]
theorem qf_null : qf (0, 1) = 0 := by unfold qf; rfl
theorem qf_one : qf (1, 1) = 1 := by unfold qf; rfl
/-- a table as numbers -/
def mv (rows : List (List Fr)) (i j : Nat) : Rat := qf (fr (rw' rows i) j)
/-- what every column's step of the echelon is, in numbers -/
structure StepQ (m L at' r col : Nat) (M M' : Nat → Nat → Rat) : Prop where
  ha : at' < m
  hr : r < m
  hge : at' ≤ r
  hc : col < L
  f0 : M r col ≠ 0
  top : ∀ j, j < L → M' at' j = M r j / M r col
  oth : ∀ i, i < m → i ≠ at' → ∀ j, j < L → M' i j = M (exch r at' i) j - M (exch r at' i) col * M' at' j
/-- the same solutions -/
theorem StepQ.ker {m L at' r col : Nat} {M M' : Nat → Nat → Rat} (h : StepQ m L at' r col M M') (v : Nat → Rat) : (∀ i, i < m → sumN (fun j => M' i j * v j) L = 0) ↔ (∀ i, i < m → sumN (fun j => M i j * v j) L = 0) := by
  have e1 : sumN (fun j => M' at' j * v j) L = sumN (fun j => M r j * v j) L / M r col := by
    have := h.f0
    rw [show sumN (fun j => M r j * v j) L / M r col = sumN (fun j => M r j * v j) L * (1 / M r col) by grind, ← sumN_mul]
    apply sumN_congr
    intro j hj
    rw [h.top j hj]
    grind
  have e2 : ∀ i, i < m → i ≠ at' → sumN (fun j => M' i j * v j) L = sumN (fun j => M (exch r at' i) j * v j) L - M (exch r at' i) col * sumN (fun j => M' at' j * v j) L := by
    intro i hi hne
    rw [show M (exch r at' i) col * sumN (fun j => M' at' j * v j) L = sumN (fun j => M' at' j * v j) L * M (exch r at' i) col by grind, ← sumN_mul, ← sumN_sub]
    apply sumN_congr
    intro j hj
    rw [h.oth i hi hne j hj]
    grind
  have f0 := h.f0
  constructor
  · intro h0
    have hr0 : sumN (fun j => M r j * v j) L = 0 := by
      have := h0 at' h.ha
      rw [e1] at this
      grind
    intro i hi
    by_cases e : i = r
    · rw [e]; exact hr0
    · have hx : exch r at' (exch r at' i) = i := by
        unfold exch
        split <;> split <;> (try split) <;> omega
      have hne : exch r at' i ≠ at' := by
        unfold exch
        have := h.ha
        split
        · omega
        · split <;> omega
      have := e2 (exch r at' i) (exch_lt h.hr h.ha hi) hne
      rw [hx, h0 _ (exch_lt h.hr h.ha hi), h0 _ h.ha] at this
      grind
  · intro h0
    have ha0 : sumN (fun j => M' at' j * v j) L = 0 := by
      rw [e1, h0 r h.hr]
      grind
    intro i hi
    by_cases e : i = at'
    · rw [e]; exact ha0
    · rw [e2 i hi e, ha0, h0 _ (exch_lt h.hr h.ha hi)]
      grind
/-- rows of which some make up nothing, by the first n columns -/
def Dep (m n : Nat) (M : Nat → Nat → Rat) : Prop := ∃ y : Nat → Rat, (∃ i, i < m ∧ y i ≠ 0) ∧ ∀ j, j < n → sumN (fun i => y i * M i j) m = 0
theorem StepQ.dep {m L at' r col n : Nat} {M M' : Nat → Nat → Rat} (h : StepQ m L at' r col M M') (hn : n ≤ L) (hcn : col < n) (hd : Dep m n M) : Dep m n M' := by
  obtain ⟨y, ⟨k, hk, hy⟩, h0⟩ := hd
  have hx : ∀ i, exch r at' (exch r at' i) = i := by
    intro i
    unfold exch
    split <;> split <;> (try split) <;> omega
  have hsum : ∀ j, j < n → sumN (fun i => y (exch r at' i) * M (exch r at' i) j) m = 0 := by
    intro j hj
    rw [sumN_exch (fun i => y i * M i j) r at' h.hr h.ha]
    exact h0 j hj
  have hat : exch r at' at' = r := by unfold exch; rw [if_pos rfl]
  have f0 := h.f0
  refine ⟨fun i => if i = at' then 0 else y (exch r at' i), ?_, ?_⟩
  · apply Classical.byContradiction
    intro hn0
    have hz : ∀ i, i < m → i ≠ at' → y (exch r at' i) = 0 := by
      intro i hi hne
      apply Classical.byContradiction
      intro h1
      exact hn0 ⟨i, hi, by show (if i = at' then (0 : Rat) else _) ≠ 0; rw [if_neg hne]; exact h1⟩
    have hs := hsum col hcn
    rw [sumN_one h.ha (fun i hi hne => by rw [hz i hi hne]; grind), hat] at hs
    have hyr : y r = 0 := by grind
    apply hy
    by_cases e : k = r
    · rw [e]; exact hyr
    · have := hz (exch r at' k) (exch_lt h.hr h.ha hk) (by
        intro h1
        have h2 : exch r at' (exch r at' k) = exch r at' at' := by rw [h1]
        rw [hx, hat] at h2
        exact e h2)
      rw [hx] at this
      exact this
  · intro j hj
    have he : sumN (fun i => (if i = at' then 0 else y (exch r at' i)) * M' i j) m = sumN (fun i => y (exch r at' i) * M (exch r at' i) j - (y (exch r at' i) * M (exch r at' i) col) * M' at' j) m := by
      apply sumN_congr
      intro i hi
      by_cases e : i = at'
      · rw [if_pos e, e, hat, h.top j (by omega)]
        grind
      · rw [if_neg e, h.oth i hi e j (by omega)]
        grind
    rw [he, sumN_sub, sumN_mul, hsum j hj, hsum col hcn]
    grind
/-- the chosen columns are units -/
def Units (m : Nat) (M : Nat → Nat → Rat) (ch : List Nat) : Prop := ∀ k, k < ch.length → ∀ i, i < m → M i (nt ch k) = if i = k then 1 else 0
theorem nt_app {ch : List Nat} {c k : Nat} (h : k < ch.length) : nt (ch ++ [c]) k = nt ch k := by unfold nt; rw [List.getElem?_append_left h]
theorem nt_last (ch : List Nat) (c : Nat) : nt (ch ++ [c]) ch.length = c := by simp [nt]
theorem StepQ.units {m L r col : Nat} {M M' : Nat → Nat → Rat} {ch : List Nat} (h : StepQ m L ch.length r col M M') (hu : Units m M ch) (hl : ∀ c, c ∈ ch → c < L) : Units m M' (ch ++ [col]) := by
  have f0 := h.f0
  have hge := h.hge
  have hr := h.hr
  have ha := h.ha
  intro k hk i hi
  rw [List.length_append, List.length_singleton] at hk
  by_cases e : k < ch.length
  · rw [nt_app e]
    have hc : nt ch k < L := hl _ (nt_mem e)
    have htop : M' ch.length (nt ch k) = 0 := by
      rw [h.top _ hc, hu k e r h.hr, if_neg (by omega)]
      grind
    by_cases e2 : i = ch.length
    · rw [e2, htop, if_neg (by omega)]
    · rw [h.oth i hi e2 _ hc, htop, hu k e _ (exch_lt h.hr h.ha hi)]
      by_cases e3 : i = k
      · have : exch r ch.length i = i := by unfold exch; rw [if_neg (by omega), if_neg (by omega)]
        rw [this, if_pos e3]
        grind
      · have : exch r ch.length i ≠ k := by unfold exch; split <;> (try split) <;> omega
        rw [if_neg this, if_neg e3]
        grind
  · obtain rfl : k = ch.length := by omega
    rw [nt_last]
    have htop : M' ch.length col = 1 := by rw [h.top _ h.hc]; grind
    by_cases e2 : i = ch.length
    · rw [if_pos e2, e2, htop]
    · rw [if_neg e2, h.oth i hi e2 _ h.hc, htop]
      grind
/-- what every state of the echelon is -/
structure Base (m L : Nat) (rows : List (List Fr)) (ch : List Nat) (col : Nat) : Prop where
  len : rows.length = m
  row : ∀ x, x < m → (rw' rows x).length = L
  ok : ∀ x, x < m → ∀ j, j < L → okF (fr (rw' rows x) j) = true
  cl : ch.length ≤ m
  chs : ∀ c, c ∈ ch → c < col
theorem divR_at {row : List Fr} {f : Fr} {j : Nat} (hj : j < row.length) : fr (divR row f) j = divP (fr row j) f := by simp [divR, fr, hj]
theorem takeR_at {o w : List Fr} {t : Fr} {j : Nat} (hj : j < o.length) : fr (takeR o t w) j = takeE (fr o j) t (fr w j) := by simp [takeR, fr, hj]
theorem divB_at {row : List Fr} {f : Fr} (h : divB row f = true) {j : Nat} (hj : j < row.length) : divK (fr row j) f = true := all_at (p := fun p => divK p f) (d := ((0, 0) : Fr)) h hj
theorem takeB_at {o w : List Fr} {t : Fr} (h : takeB o t w = true) {j : Nat} (hj : j < o.length) : takeK (fr o j) t (fr w j) = true := by
  unfold takeB at h
  rw [List.all_eq_true] at h
  exact h j (by simpa using hj)
theorem qf_take {o t x : Fr} (h : takeK o t x = true) : qf (takeE o t x) = qf o - qf t * qf x ∧ okF (takeE o t x) = true := by
  unfold takeK at h
  have hm : mulK t x = true := by
    rw [← Bool.not_eq_false]
    intro h0
    rw [mul_none h0, sub_zero_r] at h
    cases h
  unfold takeE
  exact ⟨by rw [qf_sub h, qf_mul hm], sub_right h⟩
/-- one column's step, in numbers; the state behind it -/
theorem stepQ {m L r col : Nat} {rows : List (List Fr)} {ch : List Nat} (hB : Base m L rows ch col) (hc : col < L) (h1 : ch.length ≤ r) (h2 : r < m) (hb : stepB rows ch.length r col = true) :
    StepQ m L ch.length r col (mv rows) (mv (stepT rows ch.length r col)) ∧ Base m L (stepT rows ch.length r col) (ch ++ [col]) (col + 1) := by
  have ha : ch.length < m := by omega
  have hb' := hb
  unfold stepB at hb'
  rw [Bool.and_eq_true, List.all_eq_true] at hb'
  obtain ⟨hd, ht⟩ := hb'
  have hlr : (rw' rows r).length = L := hB.row r h2
  have hat : ∀ i, i < m → rw' (stepT rows ch.length r col) i = if i = ch.length then divR (rw' rows r) (fr (rw' rows r) col) else takeR (rw' (swapT rows r ch.length) i) (fr (rw' (swapT rows r ch.length) i) col) (divR (rw' rows r) (fr (rw' rows r) col)) := by
    intro i hi
    have hi2 : i < rows.length := by rw [hB.len]; exact hi
    rw [← stepP_all, stepP_at _ _ _ _ _ _ hi2, if_pos hi2]
  have htop : ∀ j, j < L → fr (rw' (stepT rows ch.length r col) ch.length) j = divP (fr (rw' rows r) j) (fr (rw' rows r) col) := by
    intro j hj
    rw [hat _ ha, if_pos rfl, divR_at (by omega)]
  have hkd : ∀ j, j < L → divK (fr (rw' rows r) j) (fr (rw' rows r) col) = true := fun j hj => divB_at hd (by omega)
  have hoth : ∀ i, i < m → i ≠ ch.length → ∀ j, j < L → fr (rw' (stepT rows ch.length r col) i) j = takeE (fr (rw' rows (exch r ch.length i)) j) (fr (rw' rows (exch r ch.length i)) col) (divP (fr (rw' rows r) j) (fr (rw' rows r) col)) ∧ takeK (fr (rw' rows (exch r ch.length i)) j) (fr (rw' rows (exch r ch.length i)) col) (divP (fr (rw' rows r) j) (fr (rw' rows r) col)) = true := by
    intro i hi hne j hj
    have hl := hB.row _ (exch_lt h2 ha hi)
    have hti := ht i (by simpa [hB.len] using hi)
    rw [rw_exch _ _ _ _ (by rw [hB.len]; exact h2) (by rw [hB.len]; exact ha)] at hti
    have hti2 : takeB (rw' rows (exch r ch.length i)) (fr (rw' rows (exch r ch.length i)) col) (divR (rw' rows r) (fr (rw' rows r) col)) = true := by
      simpa [hne] using hti
    have hk := takeB_at hti2 (j := j) (by omega)
    rw [divR_at (by omega)] at hk
    rw [hat i hi, if_neg hne, rw_exch _ _ _ _ (by rw [hB.len]; exact h2) (by rw [hB.len]; exact ha), takeR_at (by omega), divR_at (by omega)]
    exact ⟨rfl, hk⟩
  refine ⟨⟨ha, h2, h1, hc, (qf_div (hkd col hc)).1, fun j hj => ?_, fun i hi hne j hj => ?_⟩, ⟨by rw [stepT_len]; exact hB.len, fun x hx => ?_, fun x hx j hj => ?_, by simp; omega, fun c hx => ?_⟩⟩
  · show qf _ = _
    rw [htop j hj, (qf_div (hkd j hj)).2]
    rfl
  · obtain ⟨e1, e2⟩ := hoth i hi hne j hj
    show qf _ = _
    rw [e1, (qf_take e2).1]
    show _ = mv rows _ j - mv rows _ col * qf _
    rw [htop j hj]
    rfl
  · exact stepT_row (fun y hy => hB.row y (by rw [← hB.len]; exact hy)) (by rw [hB.len]; exact ha) (by rw [hB.len]; exact h2) x (by rw [stepT_len, hB.len]; exact hx)
  · by_cases e : x = ch.length
    · rw [e, htop j hj]
      exact div_right (hkd j hj)
    · obtain ⟨e1, e2⟩ := hoth x hx e j hj
      rw [e1]
      exact (qf_take e2).2
  · rw [List.mem_append] at hx
    rcases hx with hx | hx
    · have := hB.chs c hx; omega
    · simp at hx; omega
/-- what every step keeps, the whole echelon does -/
theorem ech_ind {m L : Nat} {P : Nat → List (List Fr) → List Nat → Prop}
    (free : ∀ col rows ch, Base m L rows ch col → col < L → (∀ x, ch.length ≤ x → x < m → (fr (rw' rows x) col).1 = 0) → P col rows ch → P (col + 1) rows ch)
    (yes : ∀ col rows ch r, Base m L rows ch col → col < L → ch.length ≤ r → r < m → (fr (rw' rows r) col).1 ≠ 0 → (∀ x, ch.length ≤ x → x < r → (fr (rw' rows x) col).1 = 0) → stepB rows ch.length r col = true → P col rows ch → P (col + 1) (stepT rows ch.length r col) (ch ++ [col])) :
    ∀ n col rows ch R C, col + n ≤ L → Base m L rows ch col → P col rows ch → echF n col rows ch = some (R, C) → P (col + n) R C ∧ Base m L R C (col + n)
  | 0, col, rows, ch, R, C, _, hB, hP, he => by
    simp only [echF] at he
    cases he
    exact ⟨hP, hB⟩
  | n + 1, col, rows, ch, R, C, hl, hB, hP, he => by
    have hp := piv_le (rows := rows) (col := col) (at' := ch.length) (by rw [hB.len]; exact hB.cl)
    by_cases hf : piv rows col ch.length = rows.length
    · rw [echF_free hf] at he
      have hz : ∀ x, ch.length ≤ x → x < m → (fr (rw' rows x) col).1 = 0 := by
        intro x h1 h2
        refine pivF_zero rows col (rows.length - ch.length) ch.length x h1 ?_
        show x < piv rows col ch.length
        rw [hf, hB.len]
        exact h2
      have := ech_ind free yes n (col + 1) rows ch R C (by omega) ⟨hB.len, hB.row, hB.ok, hB.cl, fun c hx => by have := hB.chs c hx; omega⟩ (free col rows ch hB (by omega) hz hP) he
      rw [show col + (n + 1) = col + 1 + n by omega]
      exact this
    · have hlt : piv rows col ch.length < m := by rw [← hB.len]; omega
      by_cases hs : stepB rows ch.length (piv rows col ch.length) col = true
      · rw [echF_yes rfl hf hs] at he
        obtain ⟨-, hB2⟩ := stepQ hB (by omega) hp.1 hlt hs
        have hne : (fr (rw' rows (piv rows col ch.length)) col).1 ≠ 0 := by
          apply pivF_at
          show piv rows col ch.length < _
          have := hB.cl
          rw [hB.len]
          omega
        have hzz : ∀ x, ch.length ≤ x → x < piv rows col ch.length → (fr (rw' rows x) col).1 = 0 := fun x h1 h2 => pivF_zero rows col _ _ x h1 h2
        have := ech_ind free yes n (col + 1) _ _ R C (by omega) hB2 (yes col rows ch _ hB (by omega) hp.1 hlt hne hzz hs hP) he
        rw [show col + (n + 1) = col + 1 + n by omega]
        exact this
      · rw [Bool.not_eq_true] at hs
        rw [echF_no rfl hf hs] at he
        cases he
theorem base_start {rows : List (List Fr)} {L : Nat} (hL : L = (rw' rows 0).length) (h : tabB rows 6 = true) : Base rows.length L rows [] 0 := by
  obtain ⟨-, hr⟩ := tabB_out h
  refine ⟨rfl, fun x hx => by rw [hL]; exact (hr x hx).1, fun x hx j hj => ?_, Nat.zero_le _, fun c hc => absurd hc (by simp)⟩
  exact allOk_at (hr x hx).2 (by rw [(hr x hx).1]; omega)
end Go.Proofs.Ytbbkejfcheobaab

/- What the law of Solved asks, without any program: what is solved solves; a table with two rows alike has no one solution; the rank is full. -/
namespace Go.Proofs.Ytbbkejfcheobaab
open Go.RowKit Go.Proofs.Ytbbkejfcheobaab.RM

theorem solO_out {rows : List (List Fr)} {right : List Fr} (h : solO rows right = true) : solC rows right = true ∧ tabB (wideT rows right) 6 = true ∧ echK (wideT rows right) = true ∧ solF rows.length (echC (wideT rows right)) = true := by
  unfold solO echO at h
  simpa [Bool.and_eq_true, and_assoc] using h
theorem echK_out {rows : List (List Fr)} (h : echK rows = true) : ech rows = some (echR rows, echC rows) := by
  unfold echK at h
  cases he : ech rows with
  | none => rw [he] at h; cases h
  | some p =>
    obtain ⟨R, C⟩ := p
    obtain ⟨-, e1, e2⟩ := ech_yes he
    rw [e1, e2]
/-- solutions, units and dependence at the echelon's end -/
theorem ech_keeps {rows : List (List Fr)} {L : Nat} (hL : L = (rw' rows 0).length) (ht : tabB rows 6 = true) (hk : echK rows = true) :
    ((∀ v : Nat → Rat, (∀ i, i < rows.length → sumN (fun j => mv (echR rows) i j * v j) L = 0) ↔ (∀ i, i < rows.length → sumN (fun j => mv rows i j * v j) L = 0)) ∧ Units rows.length (mv (echR rows)) (echC rows) ∧ ∀ k, k ≤ L → (∀ c, c ∈ echC rows → c < k) → Dep rows.length k (mv rows) → Dep rows.length k (mv (echR rows))) ∧ Base rows.length L (echR rows) (echC rows) L := by
  have he := echK_out hk
  unfold ech at he
  rw [← hL] at he
  have key := ech_ind (m := rows.length) (L := L) (P := fun col R C => (∀ v : Nat → Rat, (∀ i, i < rows.length → sumN (fun j => mv R i j * v j) L = 0) ↔ (∀ i, i < rows.length → sumN (fun j => mv rows i j * v j) L = 0)) ∧ Units rows.length (mv R) C ∧ ∀ k, k ≤ L → (∀ c, c ∈ C → c < k) → Dep rows.length k (mv rows) → Dep rows.length k (mv R))
    (fun col R C hB hc hz hP => hP)
    (fun col R C r hB hc h1 h2 hne hz hb hP => by
      obtain ⟨hs, hB2⟩ := stepQ hB hc h1 h2 hb
      refine ⟨fun v => (hs.ker v).trans (hP.1 v), hs.units hP.2.1 (fun c hx => by have := hB.chs c hx; omega), fun k hk hck hd => ?_⟩
      exact hs.dep hk (hck col (by simp)) (hP.2.2 k hk (fun c hx => hck c (by simp [hx])) hd))
    L 0 rows [] (echR rows) (echC rows) (by omega) (base_start hL ht) ⟨fun v => Iff.rfl, fun k hk => absurd hk (by simp), fun k hk hck hd => hd⟩ he
  rw [Nat.zero_add] at key
  exact key
/-- where it is solved the chosen columns are all but right's -/
theorem sol_cols {rows : List (List Fr)} {right : List Fr} (h : solO rows right = true) : (echC (wideT rows right)).length = rows.length ∧ (∀ i, i < rows.length → nt (echC (wideT rows right)) i = i) ∧ ∀ c, c ∈ echC (wideT rows right) → c < rows.length := by
  obtain ⟨h1, h2, h3, h4⟩ := solO_out h
  obtain ⟨s1, s2, s3, s4⟩ := solC_out h1
  obtain ⟨⟨t1, -⟩, -⟩ := tabB_out s2
  have hr := ech_rises h3
  have hl0 : (rw' (wideT rows right) 0).length = rows.length + 1 := by rw [wideT_at _ _ _ (by omega)]; simp [s3]
  have hB := (ech_keeps (L := rows.length + 1) hl0.symm h2 h3).2
  have hm := h4
  rw [solF_model t1 hr hB.chs, Bool.and_eq_true, decide_eq_true_eq, decide_eq_true_eq] at hm
  have hf := h4
  unfold solF at hf
  rw [decide_eq_true_eq] at hf
  have hin : ∀ x, x < rows.length → x ∈ echC (wideT rows right) := by
    intro x hx
    apply Classical.byContradiction
    intro hn
    have : x ∈ freeC (rows.length + 1) (echC (wideT rows right)) := freeC_mem.2 ⟨by omega, hn⟩
    rw [hf] at this
    simp at this
    omega
  obtain ⟨a1, a2⟩ := atP_run hr hin rows.length (Nat.le_refl _)
  refine ⟨hm.1, a2, fun c hx => ?_⟩
  obtain ⟨i, hi, he⟩ := mem_nt hx
  rw [← he, a2 i (by omega)]
  omega
/-- what is solved solves -/
theorem sol_solves {rows : List (List Fr)} {right : List Fr} (h : solO rows right = true) (i : Nat) (hi : i < rows.length) :
    sumN (fun k => mv rows i k * qf (fr (solX rows right) k)) rows.length = qf (fr right i) := by
  obtain ⟨h1, h2, h3, h4⟩ := solO_out h
  obtain ⟨s1, s2, s3, s4⟩ := solC_out h1
  obtain ⟨-, sr⟩ := tabB_out s2
  obtain ⟨c1, c2, c3⟩ := sol_cols h
  have hl0 : (rw' (wideT rows right) 0).length = rows.length + 1 := by rw [wideT_at _ _ _ (by omega)]; simp [s3]
  obtain ⟨⟨k1, k2, -⟩, hB⟩ := ech_keeps (L := rows.length + 1) hl0.symm h2 h3
  rw [wideT_len] at k1 k2 hB
  have hv := (k1 (fun j => if j = rows.length then -1 else qf (fr (solX rows right) j))).1 (by
    intro x hx
    simp only [sumN]
    rw [if_pos trivial]
    rw [sumN_one (a := x) hx (fun y hy hne => by
      rw [if_neg (by omega)]
      have := k2 y (by omega) x hx
      rw [c2 y hy, if_neg (by omega)] at this
      rw [this]
      grind)]
    rw [if_neg (by omega)]
    have := k2 x (by omega) x hx
    rw [c2 x hx, if_pos rfl] at this
    rw [this, solX_at _ _ _ hx]
    show 1 * mv (echR (wideT rows right)) x rows.length + mv (echR (wideT rows right)) x rows.length * -1 = 0
    grind) i hi
  simp only [sumN] at hv
  rw [if_pos trivial] at hv
  have hw : ∀ j, j < rows.length → mv (wideT rows right) i j = mv rows i j := by
    intro j hj
    unfold mv
    rw [wideT_at _ _ _ hi]
    unfold fr
    rw [List.getElem?_append_left (by rw [(sr i hi).1, s3]; exact hj)]
  have hb : mv (wideT rows right) i rows.length = qf (fr right i) := by
    unfold mv
    rw [wideT_at _ _ _ hi]
    congr 1
    have : (rw' rows i).length = rows.length := by rw [(sr i hi).1, s3]
    unfold fr
    rw [List.getElem?_append_right (by omega), this, Nat.sub_self]
    rfl
  rw [hb, sumN_congr (g := fun k => mv rows i k * qf (fr (solX rows right) k)) (fun j hj => by rw [if_neg (by omega), hw j hj])] at hv
  grind
/-- the table with its second row in the first one's place -/
def twiceT (rows : List (List Fr)) : List (List Fr) := rw' rows 1 :: rows.drop 1
theorem twice_len {rows : List (List Fr)} (h : 2 ≤ rows.length) : (twiceT rows).length = rows.length := by simp [twiceT]; omega
theorem twice_at {rows : List (List Fr)} {i : Nat} (h : i ≠ 0) : rw' (twiceT rows) i = rw' rows i := by
  obtain ⟨k, rfl⟩ : ∃ k, i = k + 1 := ⟨i - 1, by omega⟩
  simp [twiceT, rw']
theorem twice_zero (rows : List (List Fr)) : rw' (twiceT rows) 0 = rw' rows 1 := by simp [twiceT, rw']
theorem sol_twice {rows : List (List Fr)} {right : List Fr} (h2 : 2 ≤ rows.length) : solO (twiceT rows) right = false := by
  rw [← Bool.not_eq_true]
  intro h
  obtain ⟨h1, ht, h3, h4⟩ := solO_out h
  obtain ⟨s1, s2, s3, s4⟩ := solC_out h1
  obtain ⟨-, sr⟩ := tabB_out s2
  obtain ⟨c1, c2, c3⟩ := sol_cols h
  have hl := twice_len h2
  have hl0 : (rw' (wideT (twiceT rows) right) 0).length = (twiceT rows).length + 1 := by rw [wideT_at _ _ _ (by omega)]; simp [s3]
  obtain ⟨⟨k1, k2, k3⟩, hB⟩ := ech_keeps (L := (twiceT rows).length + 1) hl0.symm ht h3
  rw [wideT_len] at k2 k3
  have hsame : ∀ j, j < (twiceT rows).length → mv (wideT (twiceT rows) right) 0 j = mv (wideT (twiceT rows) right) 1 j := by
    intro j hj
    have e0 := (sr 0 (by omega)).1
    have e1 := (sr 1 (by omega)).1
    unfold mv
    rw [wideT_at _ _ _ (by omega), wideT_at _ _ _ (by omega)]
    unfold fr
    rw [List.getElem?_append_left (by omega), List.getElem?_append_left (by omega), twice_zero, twice_at (by decide)]
  have hd := k3 (twiceT rows).length (by omega) c3 ⟨fun i => if i = 0 then 1 else if i = 1 then -1 else 0, ⟨0, by omega, by show (if (0 : Nat) = 0 then (1 : Rat) else if (0 : Nat) = 1 then -1 else 0) ≠ 0; rw [if_pos rfl]; grind⟩, fun j hj => by
    have hs := hsame j hj
    generalize mv (wideT (twiceT rows) right) = M at *
    have e : sumN (fun i => (if i = 0 then (1 : Rat) else if i = 1 then -1 else 0) * M i j) (twiceT rows).length = sumN (fun i => if i = 0 then M 0 j else (fun i => if i = 1 then - M 1 j else (fun _ => 0) i) i) (twiceT rows).length := by
      apply sumN_congr
      intro i _
      by_cases e1 : i = 0
      · subst e1; rw [if_pos rfl, if_pos rfl]; grind
      · rw [if_neg e1, if_neg e1]
        show _ = if i = 1 then _ else _
        by_cases e2 : i = 1
        · subst e2; rw [if_pos rfl, if_pos rfl]; grind
        · rw [if_neg e2, if_neg e2]; grind
    rw [e, sumN_turn _ _ _ (by omega), sumN_turn _ _ _ (by omega), sumN_zero (fun _ _ => rfl), if_neg (by decide), hs]
    grind⟩
  obtain ⟨y, ⟨k, hk, hy⟩, h0⟩ := hd
  apply hy
  have := h0 k hk
  rw [sumN_one hk (fun i hi hne => by
    have hu := k2 k (by omega) i hi
    rw [c2 k hk, if_neg hne] at hu
    rw [hu]
    grind)] at this
  have hu := k2 k (by omega) k hk
  rw [c2 k hk, if_pos rfl] at hu
  rw [hu] at this
  grind
/-- the first L columns of a table are those of another one -/
structure Cut (m L : Nat) (rows wide : List (List Fr)) : Prop where
  l1 : rows.length = m
  l2 : wide.length = m
  r1 : ∀ i, i < m → (rw' rows i).length = L
  r2 : ∀ i, i < m → L ≤ (rw' wide i).length
  same : ∀ i, i < m → ∀ j, j < L → fr (rw' wide i) j = fr (rw' rows i) j
theorem Cut.pivF {m L col : Nat} {rows wide : List (List Fr)} (h : Cut m L rows wide) (hc : col < L) : ∀ n r, r + n ≤ m → pivF wide col n r = pivF rows col n r
  | 0, r, _ => rfl
  | n + 1, r, hr => by
    simp only [Go.Proofs.Ytbbkejfcheobaab.pivF]
    rw [h.same r (by omega) col hc, h.pivF hc n (r + 1) (by omega)]
theorem Cut.stepB {m L col at' r : Nat} {rows wide : List (List Fr)} (h : Cut m L rows wide) (hc : col < L) (ha : at' < m) (hr : r < m) (hb : stepB wide at' r col = true) : stepB rows at' r col = true := by
  unfold Go.Proofs.Ytbbkejfcheobaab.stepB at hb
  rw [Bool.and_eq_true, List.all_eq_true] at hb
  obtain ⟨hd, ht⟩ := hb
  have hd2 : divB (rw' rows r) (fr (rw' rows r) col) = true := by
    apply all_yes (p := fun p => divK p (fr (rw' rows r) col)) (d := ((0, 0) : Fr))
    intro k hk
    rw [h.r1 r hr] at hk
    have := divB_at hd (j := k) (by have := h.r2 r hr; omega)
    rw [h.same r hr k hk, h.same r hr col hc] at this
    exact this
  refine stepB_yes hd2 (fun k hk hne => ?_)
  rw [h.l1] at hk
  have hti := ht k (by simpa [h.l2] using hk)
  rw [rw_exch _ _ _ _ (by rw [h.l2]; exact hr) (by rw [h.l2]; exact ha)] at hti
  have hti2 : takeB (rw' wide (exch r at' k)) (fr (rw' wide (exch r at' k)) col) (divR (rw' wide r) (fr (rw' wide r) col)) = true := by simpa [hne] using hti
  rw [rw_exch _ _ _ _ (by rw [h.l1]; exact hr) (by rw [h.l1]; exact ha)]
  have hx := exch_lt hr ha hk
  unfold takeB
  rw [List.all_eq_true]
  intro j hj
  rw [List.mem_range, h.r1 _ hx] at hj
  have := takeB_at hti2 (j := j) (by have := h.r2 _ hx; omega)
  rw [divR_at (by have := h.r2 r hr; omega), h.same _ hx j hj, h.same _ hx col hc, h.same r hr j hj, h.same r hr col hc] at this
  rw [divR_at (by rw [h.r1 r hr]; exact hj)]
  exact this
theorem Cut.stepT {m L col at' r : Nat} {rows wide : List (List Fr)} (h : Cut m L rows wide) (hc : col < L) (ha : at' < m) (hr : r < m) : Cut m L (stepT rows at' r col) (stepT wide at' r col) := by
  have e1 : ∀ (T : List (List Fr)), T.length = m → ∀ i, i < m → rw' (Go.Proofs.Ytbbkejfcheobaab.stepT T at' r col) i = if i = at' then divR (rw' T r) (fr (rw' T r) col) else takeR (rw' T (exch r at' i)) (fr (rw' T (exch r at' i)) col) (divR (rw' T r) (fr (rw' T r) col)) := by
    intro T hT i hi
    have hi2 : i < T.length := by rw [hT]; exact hi
    rw [← stepP_all, stepP_at _ _ _ _ _ _ hi2, if_pos hi2, rw_exch _ _ _ _ (by rw [hT]; exact hr) (by rw [hT]; exact ha)]
  refine ⟨by rw [stepT_len]; exact h.l1, by rw [stepT_len]; exact h.l2, fun i hi => ?_, fun i hi => ?_, fun i hi j hj => ?_⟩
  · rw [e1 rows h.l1 i hi]
    split
    · rw [divR_len]; exact h.r1 r hr
    · rw [takeR_len]; exact h.r1 _ (exch_lt hr ha hi)
  · rw [e1 wide h.l2 i hi]
    split
    · rw [divR_len]; exact h.r2 r hr
    · rw [takeR_len]; exact h.r2 _ (exch_lt hr ha hi)
  · rw [e1 rows h.l1 i hi, e1 wide h.l2 i hi]
    have hx := exch_lt hr ha hi
    have hr2 := h.r2 r hr
    have hx2 := h.r2 _ hx
    by_cases e : i = at'
    · rw [if_pos e, if_pos e, divR_at (by omega), divR_at (by rw [h.r1 r hr]; exact hj), h.same r hr j hj, h.same r hr col hc]
    · rw [if_neg e, if_neg e, takeR_at (by omega), takeR_at (by rw [h.r1 _ hx]; exact hj), divR_at (by omega), divR_at (by rw [h.r1 r hr]; exact hj), h.same r hr j hj, h.same r hr col hc, h.same _ hx j hj, h.same _ hx col hc]
theorem Cut.ech {m L : Nat} : ∀ n col rows wide ch R C, Cut m L rows wide → col + n ≤ L → ch.length ≤ m → echF n col wide ch = some (R, C) → ∃ R', echF n col rows ch = some (R', C) ∧ Cut m L R' R
  | 0, col, rows, wide, ch, R, C, h, _, _, he => by
    simp only [echF] at he ⊢
    cases he
    exact ⟨rows, rfl, h⟩
  | n + 1, col, rows, wide, ch, R, C, h, hl, hcl, he => by
    have hp : piv wide col ch.length = piv rows col ch.length := by
      unfold piv
      rw [h.l1, h.l2, h.pivF (by omega) _ _ (by omega)]
    have hple := piv_le (rows := rows) (col := col) (at' := ch.length) (by rw [h.l1]; exact hcl)
    by_cases hf : piv rows col ch.length = rows.length
    · rw [echF_free (by rw [hp, hf, h.l1, h.l2])] at he
      rw [echF_free hf]
      exact Cut.ech n (col + 1) rows wide ch R C h (by omega) hcl he
    · have hw : piv wide col ch.length ≠ wide.length := by rw [hp, h.l2, ← h.l1]; exact hf
      have hlt : piv rows col ch.length < m := by rw [← h.l1]; omega
      by_cases hs : Go.Proofs.Ytbbkejfcheobaab.stepB wide ch.length (piv rows col ch.length) col = true
      · rw [echF_yes hp.symm (by rw [← hp]; exact hw) hs] at he
        rw [echF_yes rfl hf (h.stepB (by omega) (by omega) hlt hs)]
        exact Cut.ech n (col + 1) _ _ _ R C (h.stepT (by omega) (by omega) hlt) (by omega) (by simp; omega) he
      · rw [Bool.not_eq_true] at hs
        rw [echF_no hp.symm (by rw [← hp]; exact hw) hs] at he
        cases he
theorem echF_split : ∀ (a b col : Nat) (rows : List (List Fr)) (ch : List Nat) (R : List (List Fr)) (C : List Nat), echF (a + b) col rows ch = some (R, C) → ∃ R1 C1, echF a col rows ch = some (R1, C1) ∧ echF b (col + a) R1 C1 = some (R, C)
  | 0, b, col, rows, ch, R, C, h => ⟨rows, ch, rfl, by rw [Nat.zero_add] at h; exact h⟩
  | a + 1, b, col, rows, ch, R, C, h => by
    rw [show a + 1 + b = (a + b) + 1 by omega] at h
    rw [show col + (a + 1) = col + 1 + a by omega]
    by_cases hf : piv rows col ch.length = rows.length
    · rw [echF_free hf] at h ⊢
      exact echF_split a b (col + 1) rows ch R C h
    · by_cases hs : stepB rows ch.length (piv rows col ch.length) col = true
      · rw [echF_yes rfl hf hs] at h ⊢
        exact echF_split a b (col + 1) _ _ R C h
      · rw [Bool.not_eq_true] at hs
        rw [echF_no rfl hf hs] at h
        cases h
/-- where it is solved, the rank is full -/
theorem sol_rank {rows : List (List Fr)} {right : List Fr} (h : solO rows right = true) : echO rows = true ∧ (echC rows).length = rows.length := by
  obtain ⟨h1, h2, h3, h4⟩ := solO_out h
  obtain ⟨s1, s2, s3, s4⟩ := solC_out h1
  obtain ⟨⟨t1, -⟩, sr⟩ := tabB_out s2
  obtain ⟨c1, c2, c3⟩ := sol_cols h
  have hl0 : (rw' (wideT rows right) 0).length = rows.length + 1 := by rw [wideT_at _ _ _ (by omega)]; simp [s3]
  have he := echK_out h3
  unfold ech at he
  rw [hl0] at he
  obtain ⟨R1, C1, e1, e2⟩ := echF_split rows.length 1 0 _ _ _ _ he
  rw [Nat.zero_add] at e2
  have hC : C1 = echC (wideT rows right) := by
    simp only [echF] at e2
    split at e2
    · cases e2; rfl
    · split at e2
      · exfalso
        have e3 : C1 ++ [rows.length] = echC (wideT rows right) := (Prod.mk.inj (Option.some.inj e2)).2
        have := c3 rows.length (by rw [← e3]; simp)
        omega
      · cases e2
  have hcut : Cut rows.length rows.length rows (wideT rows right) := by
    refine ⟨rfl, wideT_len _ _, fun i hi => by rw [(sr i hi).1, s3], fun i hi => by rw [wideT_at _ _ _ hi, List.length_append, (sr i hi).1, s3]; omega, fun i hi j hj => ?_⟩
    rw [wideT_at _ _ _ hi]
    unfold fr
    rw [List.getElem?_append_left (by rw [(sr i hi).1, s3]; exact hj)]
  obtain ⟨R', e3, -⟩ := Cut.ech _ 0 rows _ [] R1 C1 hcut (by omega) (by simp) e1
  have he2 : ech rows = some (R', C1) := by
    unfold ech
    rw [s3]
    exact e3
  obtain ⟨f1, f2, f3⟩ := ech_yes he2
  refine ⟨by unfold echO; rw [s2, f1]; rfl, ?_⟩
  rw [f3, hC, c1]
/-- is row by solution right, as far as it goes: what the law's loop makes -/
def chkS (row x : List Fr) : Nat → Fr × Bool
  | 0 => ((0, 1), true)
  | k + 1 => (addP (chkS row x k).1 (mulP (fr row k) (fr x k)), (chkS row x k).2 && mulK (fr row k) (fr x k) && addK (chkS row x k).1 (mulP (fr row k) (fr x k)))
theorem chkS_is (row x : List Fr) : ∀ k, (chkS row x k).2 = true → okF (chkS row x k).1 = true ∧ qf (chkS row x k).1 = sumN (fun j => qf (fr row j) * qf (fr x j)) k
  | 0, _ => ⟨by show okF (0, 1) = true; decide, by simp only [chkS, sumN]; exact qf_null⟩
  | k + 1, h => by
    simp only [chkS, Bool.and_eq_true] at h
    obtain ⟨⟨h1, h2⟩, h3⟩ := h
    obtain ⟨i1, i2⟩ := chkS_is row x k h1
    simp only [chkS, sumN]
    exact ⟨add_right h3, by rw [qf_add h3, qf_mul h2, i2]⟩
theorem sol_check {rows : List (List Fr)} {right : List Fr} (h : solO rows right = true) (i : Nat) (hi : i < rows.length) (hg : (chkS (rw' rows i) (solX rows right) rows.length).2 = true) : (chkS (rw' rows i) (solX rows right) rows.length).1 = fr right i := by
  obtain ⟨h1, h2, h3, h4⟩ := solO_out h
  obtain ⟨s1, s2, s3, s4⟩ := solC_out h1
  obtain ⟨e1, e2⟩ := chkS_is _ _ _ hg
  have hr : allOk right = true := by rw [← wide_tab h1]; exact h2
  refine qf_inj e1 (allOk_at hr (by omega)) ?_
  rw [e2]
  exact sol_solves h i hi
end Go.Proofs.Ytbbkejfcheobaab

/- What the law of tables asks of Times, without any program: a product's entries are sums of products, and products are reckoned in either order. -/
namespace Go.Proofs.Ytbbkejfcheobaab
open Go.RowKit Go.Proofs.Ytbbkejfcheobaab.RM

theorem sumN_mulL (f : Nat → Rat) (c : Rat) (n : Nat) : sumN (fun i => c * f i) n = c * sumN f n := by
  rw [sumN_congr (g := fun i => f i * c) (fun i _ => by grind), sumN_mul]
  grind
/-- the model's sum, in numbers -/
theorem sdot_is (row : List Fr) (b : List (List Fr)) (j : Nat) : ∀ k, (sdot row b j k).2 = false → okF (sdot row b j k).1 = true ∧ qf (sdot row b j k).1 = sumN (fun i => qf (fr row i) * mv b i j) (k + 1)
  | 0, h => by
    have hm : mulK (fr row 0) (fr (rw' b 0) j) = true := by simpa [sdot] using h
    have e : (sdot row b j 0).1 = mulP (fr row 0) (fr (rw' b 0) j) := by simp only [sdot]; exact keepF_yes hm
    rw [e]
    refine ⟨mul_right hm, ?_⟩
    rw [qf_mul hm]
    simp only [sumN, mv]
    grind
  | k + 1, h => by
    have h1 : (sdot row b j k).2 = false := by
      cases hs : (sdot row b j k).2 with
      | false => rfl
      | true => simp [sdot, hs] at h
    have hm : mulK (fr row (k + 1)) (fr (rw' b (k + 1)) j) = true := by
      cases hs : mulK (fr row (k + 1)) (fr (rw' b (k + 1)) j) with
      | true => rfl
      | false => simp [sdot, hs] at h
    have ha : addK (sdot row b j k).1 (mulP (fr row (k + 1)) (fr (rw' b (k + 1)) j)) = true := by
      cases hs : addK (sdot row b j k).1 (mulP (fr row (k + 1)) (fr (rw' b (k + 1)) j)) with
      | true => rfl
      | false => simp [sdot, hm, keepF_yes, hs] at h
    have e : (sdot row b j (k + 1)).1 = addP (sdot row b j k).1 (mulP (fr row (k + 1)) (fr (rw' b (k + 1)) j)) := by
      simp only [sdot]
      rw [keepF_yes hm, keepF_yes ha]
    obtain ⟨i1, i2⟩ := sdot_is row b j k h1
    rw [e]
    refine ⟨add_right ha, ?_⟩
    rw [qf_add ha, qf_mul hm, i2]
    rfl
theorem timO_out {a b : List (List Fr)} (h : timO a b = true) : timC a b = true ∧ ∀ i j, i < a.length → j < (rw' b 0).length → (timE a b i j).2 = false := by
  constructor
  · cases hc : timC a b with
    | true => rfl
    | false => rw [timO_no hc] at h; cases h
  · intro i j hi hj
    cases hb : (timE a b i j).2 with
    | false => rfl
    | true => rw [timO_bad hi hj hb] at h; cases h
theorem timT_row (a b : List (List Fr)) (k i : Nat) (h : i < k) : rw' (timT a b k) i = timRow a b i (rw' b 0).length := by simp [rw', timT, h]
theorem timRow_at (a b : List (List Fr)) (i L j : Nat) (h : j < L) : fr (timRow a b i L) j = (timE a b i j).1 := by simp [fr, timRow, h]
theorem tim_shape {a b : List (List Fr)} (h : timO a b = true) : (timA a b).length = a.length ∧ ∀ i, i < a.length → (rw' (timA a b) i).length = (rw' b 0).length := by
  rw [timA_yes h]
  exact ⟨timT_len _ _ _, fun i hi => by rw [timT_row _ _ _ _ hi, timRow_len]⟩
theorem tim_at {a b : List (List Fr)} (h : timO a b = true) (hb : 1 ≤ b.length) {i j : Nat} (hi : i < a.length) (hj : j < (rw' b 0).length) :
    okF (fr (rw' (timA a b) i) j) = true ∧ mv (timA a b) i j = sumN (fun k => mv a i k * mv b k j) b.length := by
  obtain ⟨hc, hg⟩ := timO_out h
  have e := sdot_is (rw' a i) b j (b.length - 1) (hg i j hi hj)
  rw [Nat.sub_add_cancel hb] at e
  unfold mv
  rw [timA_yes h, timT_row _ _ _ _ hi, timRow_at _ _ _ _ _ hj]
  exact e
theorem tabs_ext {S T : List (List Fr)} (h1 : S.length = T.length) (h2 : ∀ i, i < S.length → (rw' S i).length = (rw' T i).length) (h3 : ∀ i j, i < S.length → j < (rw' S i).length → fr (rw' S i) j = fr (rw' T i) j) : S = T := by
  refine List.ext_getElem h1 fun i hi hi' => ?_
  have es : rw' S i = S[i] := by simp [rw', hi]
  have et : rw' T i = T[i] := by simp [rw', hi']
  have l := h2 i hi
  rw [es, et] at l
  refine List.ext_getElem l fun j hj hj' => ?_
  have e := h3 i j hi (by rw [es]; exact hj)
  rw [es, et] at e
  simpa [fr, hj, hj'] using e
/-- products in either order -/
theorem tim_assoc {a b c : List (List Fr)} (hab : timO a b = true) (hbc : timO b c = true) (h1 : timO a (timA b c) = true) (h2 : timO (timA a b) c = true) (hb : 1 ≤ b.length) (hc : 1 ≤ c.length) :
    timA a (timA b c) = timA (timA a b) c := by
  obtain ⟨s1, s2⟩ := tim_shape hab
  obtain ⟨s3, s4⟩ := tim_shape hbc
  obtain ⟨s5, s6⟩ := tim_shape h1
  obtain ⟨s7, s8⟩ := tim_shape h2
  have c1 := (timC_out (timO_out hbc).1).2.2
  have hl : (rw' (timA b c) 0).length = (rw' c 0).length := s4 0 (by omega)
  refine tabs_ext (by rw [s5, s7, s1]) (fun i hi => by rw [s6 i (by omega), s8 i (by omega), hl]) fun i j hi hj => ?_
  rw [s5] at hi
  rw [s6 i hi, hl] at hj
  obtain ⟨k1, q1⟩ := tim_at h1 (by omega) hi (by rw [hl]; exact hj)
  obtain ⟨k2, q2⟩ := tim_at h2 hc (by rw [s1]; exact hi) hj
  refine qf_inj k1 k2 ?_
  unfold mv at q1 q2
  rw [q1, q2, s3]
  have e1 : sumN (fun k => qf (fr (rw' a i) k) * qf (fr (rw' (timA b c) k) j)) b.length = sumN (fun k => sumN (fun l => mv a i k * (mv b k l * mv c l j)) c.length) b.length := by
    refine sumN_congr fun k hk => ?_
    have := (tim_at hbc hc (i := k) (j := j) hk hj).2
    unfold mv at this
    rw [this, sumN_mulL]
    rfl
  have e2 : sumN (fun k => qf (fr (rw' (timA a b) i) k) * qf (fr (rw' c k) j)) c.length = sumN (fun l => sumN (fun k => mv a i k * (mv b k l * mv c l j)) b.length) c.length := by
    refine sumN_congr fun l hl' => ?_
    have := (tim_at hab hb (i := i) (j := l) hi (by rw [c1]; exact hl')).2
    unfold mv at this
    rw [this, ← sumN_mul]
    exact sumN_congr fun k _ => by unfold mv; grind
  rw [e1, e2, sumN_swap]
end Go.Proofs.Ytbbkejfcheobaab

/- What the law of tables asks of the echelon, without any program: its form, its kernel, the number of its columns. -/
namespace Go.Proofs.Ytbbkejfcheobaab
open Go.RowKit Go.Proofs.Ytbbkejfcheobaab.RM

/-- reduced so far: past the chosen rows nothing, ahead of each chosen column nothing in its row -/
structure RedQ (m col : Nat) (M : Nat → Nat → Rat) (ch : List Nat) : Prop where
  zero : ∀ i, ch.length ≤ i → i < m → ∀ j, j < col → M i j = 0
  left : ∀ k, k < ch.length → ∀ j, j < nt ch k → M k j = 0
theorem StepQ.red {m L r col : Nat} {M M' : Nat → Nat → Rat} {ch : List Nat} (h : StepQ m L ch.length r col M M') (hq : RedQ m col M ch) (hch : ∀ c, c ∈ ch → c < col) : RedQ m (col + 1) M' (ch ++ [col]) := by
  have f0 := h.f0
  have hge := h.hge
  have hr := h.hr
  have ha := h.ha
  have hc := h.hc
  have hlow : ∀ j, j < col → M' ch.length j = 0 := by
    intro j hj
    rw [h.top j (by omega), hq.zero r hge hr j hj]
    grind
  have htop : M' ch.length col = 1 := by rw [h.top _ hc]; grind
  constructor
  · intro i h1 h2 j hj
    rw [List.length_append, List.length_singleton] at h1
    have he : ch.length ≤ exch r ch.length i := by unfold exch; split <;> (try split) <;> omega
    rw [h.oth i h2 (by omega) j (by omega)]
    by_cases e : j = col
    · subst e; rw [htop]; grind
    · rw [hlow j (by omega), hq.zero _ he (exch_lt hr ha h2) j (by omega)]; grind
  · intro k hk j hj
    rw [List.length_append, List.length_singleton] at hk
    by_cases e : k < ch.length
    · rw [nt_app e] at hj
      have hn := hch _ (nt_mem e)
      have : exch r ch.length k = k := by unfold exch; rw [if_neg (by omega), if_neg (by omega)]
      rw [h.oth k (by omega) (by omega) j (by omega), this, hlow j (by omega), hq.left k e j hj]
      grind
    · obtain rfl : k = ch.length := by omega
      rw [nt_last] at hj
      exact hlow j hj
/-- the echelon's form at its end -/
theorem ech_red {rows : List (List Fr)} {L : Nat} (hL : L = (rw' rows 0).length) (ht : tabB rows 6 = true) (hk : echK rows = true) : RedQ rows.length L (mv (echR rows)) (echC rows) := by
  have he := echK_out hk
  unfold ech at he
  rw [← hL] at he
  have key := ech_ind (m := rows.length) (L := L) (P := fun col R C => RedQ rows.length col (mv R) C)
    (fun col R C hB hc hz hP => ⟨fun i h1 h2 j hj => by
      by_cases e : j = col
      · subst e
        show qf _ = 0
        rw [qf_zero (hB.ok i h2 j hc)]
        exact hz i h1 h2
      · exact hP.zero i h1 h2 j (by omega), hP.left⟩)
    (fun col R C r hB hc h1 h2 hne hz hb hP => by
      obtain ⟨hs, hB2⟩ := stepQ hB hc h1 h2 hb
      exact hs.red hP hB.chs)
    L 0 rows [] (echR rows) (echC rows) (by omega) (base_start hL ht) ⟨fun i _ _ j hj => absurd hj (Nat.not_lt_zero _), fun k hk => absurd hk (by simp)⟩ he
  rw [Nat.zero_add] at key
  exact key.1
/-- so many columns are chosen, so many free -/
theorem free_count {C : List Nat} {L : Nat} (hr : rises C) (hC : ∀ c, c ∈ C → c < L) : (freeC L C).length + C.length = L := by
  have key : ∀ col, ∃ at', atP C at' col ∧ (freeC col C).length + at' = col := by
    intro col
    induction col with
    | zero => exact ⟨0, atP_zero C, by simp [freeC]⟩
    | succ col ih =>
      obtain ⟨at', h1, h2⟩ := ih
      by_cases h : at' < C.length ∧ nt C at' = col
      · obtain ⟨k1, k2⟩ := atP_yes hr h1 h.1 h.2
        exact ⟨at' + 1, k1, by rw [freeC_in k2]; omega⟩
      · obtain ⟨k1, k2⟩ := atP_no hr h1 (fun h3 h4 => h ⟨h3, h4⟩)
        exact ⟨at', k1, by rw [freeC_out k2, List.length_append, List.length_singleton]; omega⟩
  obtain ⟨at', h1, h2⟩ := key L
  have : at' = C.length := by
    apply Classical.byContradiction
    intro hn
    have hlt : at' < C.length := by have := h1.1; omega
    have := h1.2.2 at' (Nat.le_refl _) hlt
    have := hC _ (nt_mem hlt)
    omega
  omega
/-- a sum with something at two places alone -/
theorem sumN_two {f : Nat → Rat} {a b n : Nat} (ha : a < n) (hb : b < n) (hab : a ≠ b) (h : ∀ i, i < n → i ≠ a → i ≠ b → f i = 0) : sumN f n = f a + f b := by
  have e := sumN_turn f a 0 ha
  have e2 : sumN (fun i => if i = a then 0 else f i) n = f b := by
    rw [sumN_one (a := b) hb (fun i hi hne => by
      by_cases h1 : i = a
      · rw [if_pos h1]
      · rw [if_neg h1]; exact h i hi h1 hne)]
    rw [if_neg (fun h => hab h.symm)]
  rw [e2] at e
  grind
theorem qf_mir {p : Fr} (h : okF p = true) : qf (mirF p) = - qf p := by
  have hk := okB_out h
  have hw : wrap64 (-p.1) = -p.1 := by unfold wrap64; omega
  unfold mirF
  rw [hw]
  unfold qf
  exact (Rat.neg_divInt p.1 p.2).symm
/-- the elements of a kernel's row -/
theorem kerRow_at {R : List (List Fr)} {C : List Nat} {L col : Nat} (hr : rises C) (hC : ∀ c, c ∈ C → c < L) (hcol : col < L) (hn : col ∉ C) :
    fr (kerRow R C L col) col = (1, 1) ∧ (∀ k, k < C.length → fr (kerRow R C L col) (nt C k) = mirF (fr (rw' R k) col)) ∧ ∀ j, j < L → j ≠ col → j ∉ C → fr (kerRow R C L col) j = (0, 1) := by
  have key : ∀ k, k ≤ C.length → ∀ b : List Fr, b.length = L → ∀ x, fr (setsK R C col k b) x = if (∃ i, i < k ∧ nt C i = x) then fr (setsK R C col k b) x else fr b x := by
    intro k
    induction k with
    | zero => intro _ b hb x; split <;> rfl
    | succ k ih =>
      intro hk b hb x
      by_cases h : ∃ i, i < k + 1 ∧ nt C i = x
      · rw [if_pos h]
      · rw [if_neg h]
        simp only [setsK]
        rw [fr_set _ _ _ _ (by rw [setsK_len, hb]; exact hC _ (nt_mem (by omega))), if_neg (fun e => h ⟨k, by omega, e⟩), ih (by omega) b hb x, if_neg (fun ⟨i, hi, he⟩ => h ⟨i, by omega, he⟩)]
  have set_at : ∀ n, n ≤ C.length → ∀ b : List Fr, b.length = L → ∀ k, k < n → fr (setsK R C col n b) (nt C k) = mirF (fr (rw' R k) col) := by
    intro n
    induction n with
    | zero => intro _ b hb k hk; omega
    | succ n ih =>
      intro hn b hb k hk
      simp only [setsK]
      rw [fr_set _ _ _ _ (by rw [setsK_len, hb]; exact hC _ (nt_mem (by omega)))]
      by_cases e : k = n
      · subst e; rw [if_pos rfl]
      · have : nt C n ≠ nt C k := by have := hr k n (by omega) (by omega); omega
        rw [if_neg this]
        exact ih (by omega) b hb k (by omega)
  have hb : ((List.replicate L ((0, 1) : Fr)).set col (1, 1)).length = L := by simp
  have hbase : ∀ x, x ∉ C → fr (kerRow R C L col) x = fr ((List.replicate L ((0, 1) : Fr)).set col (1, 1)) x := by
    intro x hx
    unfold kerRow
    rw [key _ (Nat.le_refl _) _ hb x, if_neg]
    rintro ⟨i, hi, he⟩
    exact hx (he ▸ nt_mem hi)
  refine ⟨?_, fun k hk => ?_, fun j hj hne hnj => ?_⟩
  · rw [hbase col hn]
    simp [fr, hcol]
  · unfold kerRow
    exact set_at _ (Nat.le_refl _) _ hb k hk
  · rw [hbase j hnj]
    have : ¬ col = j := fun e => hne e.symm
    simp [fr, hj, this]
/-- each row of the kernel solves the echelon -/
theorem ker_ech {R : List (List Fr)} {C : List Nat} {m L col : Nat} (hB : Base m L R C L) (hU : Units m (mv R) C) (hQ : RedQ m L (mv R) C) (hr : rises C) (hcol : col < L) (hn : col ∉ C) (i : Nat) (hi : i < m) :
    sumN (fun j => mv R i j * qf (fr (kerRow R C L col) j)) L = 0 := by
  obtain ⟨k1, k2, k3⟩ := kerRow_at (R := R) hr hB.chs hcol hn
  by_cases hc : i < C.length
  · have hci : nt C i < L := hB.chs _ (nt_mem hc)
    have hne : col ≠ nt C i := fun e => hn (e ▸ nt_mem hc)
    rw [sumN_two hcol hci hne]
    · rw [k1, k2 i hc, qf_mir (hB.ok i hi col hcol), qf_one, hU i hc i hi, if_pos rfl]
      show mv R i col * 1 + 1 * (- mv R i col) = 0
      grind
    · intro j hj h1 h2
      by_cases hj2 : j ∈ C
      · obtain ⟨k, hk, rfl⟩ := mem_nt hj2
        have hik : i ≠ k := fun e => h2 (by rw [e])
        rw [hU k hk i hi, if_neg hik]
        grind
      · rw [k3 j hj h1 hj2, qf_null]
        grind
  · refine sumN_zero fun j hj => ?_
    rw [hQ.zero i (by omega) hi j hj]
    grind
/-- .. and the table -/
theorem ker_solves {rows : List (List Fr)} (h : echO rows = true) {col : Nat} (hcol : col < (rw' rows 0).length) (hn : col ∉ echC rows) (i : Nat) (hi : i < rows.length) :
    sumN (fun j => mv rows i j * qf (fr (kerRow (echR rows) (echC rows) (rw' rows 0).length col) j)) (rw' rows 0).length = 0 := by
  unfold echO at h
  rw [Bool.and_eq_true] at h
  obtain ⟨ht, hk⟩ := h
  obtain ⟨⟨h1, h2, -⟩, hB⟩ := ech_keeps rfl ht hk
  have hQ := ech_red rfl ht hk
  exact (h1 (fun j => qf (fr (kerRow (echR rows) (echC rows) (rw' rows 0).length col) j))).1 (fun i hi => ker_ech hB h2 hQ (ech_rises hk) hcol hn i hi) i hi
/-- what the law's loop makes of a row and a row of the kernel, as far as it goes -/
theorem ker_check {rows : List (List Fr)} (h : echO rows = true) {col : Nat} (hcol : col < (rw' rows 0).length) (hn : col ∉ echC rows) (i : Nat) (hi : i < rows.length)
    (hg : (chkS (rw' rows i) (kerRow (echR rows) (echC rows) (rw' rows 0).length col) (rw' rows 0).length).2 = true) : (chkS (rw' rows i) (kerRow (echR rows) (echC rows) (rw' rows 0).length col) (rw' rows 0).length).1 = (0, 1) := by
  obtain ⟨e1, e2⟩ := chkS_is _ _ _ hg
  refine qf_inj e1 (by decide) ?_
  rw [e2, qf_null]
  exact ker_solves h hcol hn i hi
/-- rank and kernel make up the columns -/
theorem rank_ker {rows : List (List Fr)} (h : echO rows = true) : (echC rows).length + (kerA rows).length = (rw' rows 0).length := by
  have h' := h
  unfold echO at h'
  rw [Bool.and_eq_true] at h'
  obtain ⟨ht, hk⟩ := h'
  have hB := (ech_keeps rfl ht hk).2
  rw [kerA_yes h, List.length_map]
  have := free_count (ech_rises hk) hB.chs
  omega
end Go.Proofs.Ytbbkejfcheobaab

/- A kernel's denominators: all of a row divide one number that stays small (a determinant of the table). -/
namespace Go.Proofs.Ytbbkejfcheobaab
open Go.RowKit Go.Proofs.Ytbbkejfcheobaab.RM

theorem sum_cast (f : Nat → Int) : ∀ n, ((sumI f n : Int) : Rat) = sumN (fun j => ((f j : Int) : Rat)) n
  | 0 => rfl
  | n + 1 => by
    simp only [sumI, sumN]
    rw [Rat.intCast_add, sum_cast f n]
/-- a sum of what is 0 out of the columns C -/
theorem sumN_on {f : Nat → Rat} : ∀ (n : Nat) (C : List Nat), rises C → (∀ c, c ∈ C → c < n) → (∀ j, j < n → j ∉ C → f j = 0) → sumN f n = sumN (fun k => f (nt C k)) C.length
  | 0, C, _, hC, _ => by
    cases C with
    | nil => rfl
    | cons c r => exact absurd (hC c (by simp)) (Nat.not_lt_zero _)
  | n + 1, C, hr, hC, h0 => by
    simp only [sumN]
    by_cases hmem : n ∈ C
    · obtain ⟨k, hk, hkn⟩ := mem_nt hmem
      have hlast : k = C.length - 1 := by
        apply Classical.byContradiction
        intro hne
        have h1 := hr k (C.length - 1) (by omega) (by omega)
        have h2 := hC _ (nt_mem (C := C) (k := C.length - 1) (by omega))
        omega
      have hdl : C.dropLast.length = C.length - 1 := List.length_dropLast
      have hnt : ∀ i, i < C.length - 1 → nt C.dropLast i = nt C i := by
        intro i hi
        unfold nt
        rw [List.getElem?_dropLast, if_pos hi]
      have hr' : rises C.dropLast := by
        intro i j hij hj
        rw [hdl] at hj
        rw [hnt i (by omega), hnt j hj]
        exact hr i j hij (by omega)
      have hlt : ∀ c, c ∈ C.dropLast → c < n := by
        intro c hc
        obtain ⟨i, hi, rfl⟩ := mem_nt hc
        rw [hdl] at hi
        rw [hnt i hi, ← hkn, hlast]
        exact hr i (C.length - 1) hi (by omega)
      rw [sumN_on n C.dropLast hr' hlt (fun j hj hjn => h0 j (by omega) (fun hjC => by
        obtain ⟨i, hi, rfl⟩ := mem_nt hjC
        by_cases e : i = C.length - 1
        · rw [e, ← hlast, hkn] at hj; omega
        · exact hjn (by rw [← hnt i (by omega)]; exact nt_mem (by omega))))]
      obtain ⟨r, hr2⟩ : ∃ r, C.length = r + 1 := ⟨C.length - 1, by omega⟩
      rw [hdl, hr2]
      simp only [sumN, Nat.add_sub_cancel]
      rw [show nt C r = n by rw [← hkn, hlast, hr2]; rfl]
      congr 1
      exact sumN_congr fun i hi => by rw [hnt i (by omega)]
    · rw [h0 n (by omega) hmem, sumN_on n C hr (fun c hc => by
        have := hC c hc
        have : c ≠ n := fun e => hmem (e ▸ hc)
        omega) (fun j hj hjn => h0 j (by omega) hjn)]
      grind
theorem qf_int (a : Int) : qf (a, 1) = (a : Rat) := by
  unfold qf
  rw [Rat.divInt_eq_div]
  show (a : Rat) / 1 = a
  grind
/-- the product of these numbers -/
def prodI (f : Nat → Int) : Nat → Int
  | 0 => 1
  | n + 1 => prodI f n * f n
theorem prodI_pos {f : Nat → Int} {n : Nat} (h : ∀ k, k < n → 1 ≤ f k) : 1 ≤ prodI f n := by
  induction n with
  | zero => simp [prodI]
  | succ n ih =>
    simp only [prodI]
    have h1 := ih (fun k hk => h k (by omega))
    have h2 := h n (by omega)
    have := Int.mul_le_mul h1 h2 (by omega) (by omega)
    omega
theorem prodI_dvd (f : Nat → Int) : ∀ n k, k < n → ∃ e, prodI f n = f k * e
  | n + 1, k, hk => by
    simp only [prodI]
    by_cases e : k = n
    · subst e
      exact ⟨prodI f k, Int.mul_comm _ _⟩
    · obtain ⟨x, hx⟩ := prodI_dvd f n k (by omega)
      exact ⟨x * f n, by rw [hx, Int.mul_assoc]⟩
theorem cop_dvd {n d x : Int} (h : gcdi n d = 1) (hx : d ∣ n * x) : d ∣ x := by
  have h1 : Int.gcd n d = 1 := by unfold gcdi at h; omega
  have h2 : d.natAbs ∣ n.natAbs * x.natAbs := by rw [← Int.natAbs_mul]; exact Int.natAbs_dvd_natAbs.2 hx
  have h3 : Nat.Coprime d.natAbs n.natAbs := by
    show Nat.gcd _ _ = 1
    rw [Nat.gcd_comm]
    exact h1
  exact Int.natAbs_dvd_natAbs.1 (h3.dvd_of_dvd_mul_left h2)
theorem fac_small {r : Nat} (h : r ≤ 5) : facN r * 9 ^ r ≤ 7085880 := by
  have : r = 0 ∨ r = 1 ∨ r = 2 ∨ r = 3 ∨ r = 4 ∨ r = 5 := by omega
  rcases this with rfl | rfl | rfl | rfl | rfl | rfl <;> decide

set_option maxHeartbeats 1000000 in
theorem ker_den {rows : List (List Fr)} (h : echO rows = true) (hm : rows.length ≤ 5) (hint : ∀ i, i < rows.length → ∀ j, j < (rw' rows 0).length → (fr (rw' rows i) j).2 = 1 ∧ ((fr (rw' rows i) j).1).natAbs ≤ 9) {col : Nat} (hcol : col < (rw' rows 0).length) (hn : col ∉ echC rows) :
    ∃ D : Nat, 1 ≤ D ∧ D ≤ 7085880 ∧ ∀ j, j < (rw' rows 0).length → (fr (kerRow (echR rows) (echC rows) (rw' rows 0).length col) j).2 ∣ (D : Int) := by
  have hker := ker_solves h hcol hn
  have h' := h
  unfold echO at h'
  rw [Bool.and_eq_true] at h'
  obtain ⟨ht, hk⟩ := h'
  obtain ⟨⟨hspan, hU, -⟩, hB⟩ := ech_keeps rfl ht hk
  have hr := ech_rises hk
  obtain ⟨k1, k2, k3⟩ := kerRow_at (R := echR rows) hr hB.chs hcol hn
  obtain ⟨n, hnn⟩ : ∃ n, n = (rw' rows 0).length := ⟨_, rfl⟩
  obtain ⟨C, hC⟩ : ∃ C, C = echC rows := ⟨_, rfl⟩
  obtain ⟨x, hx⟩ : ∃ x, x = kerRow (echR rows) (echC rows) (rw' rows 0).length col := ⟨_, rfl⟩
  obtain ⟨m, hmm⟩ : ∃ m, m = rows.length := ⟨_, rfl⟩
  have hcl : C.length ≤ m := by rw [hC, hmm]; exact hB.cl
  have hchs : ∀ c, c ∈ C → c < n := by rw [hC, hnn]; exact hB.chs
  rw [← hx] at hker k1 k2 k3 ⊢
  rw [← hnn] at hker hint hcol k3 hspan ⊢
  rw [← hmm] at hm hint hker hspan hU
  rw [← hC] at hn k2 k3 hr hU
  have okx : ∀ k, k < C.length → okB (fr x (nt C k)).1 (fr x (nt C k)).2 = true := by
    intro k hk2
    rw [k2 k hk2]
    have hb : okF (fr (rw' (echR rows) k) col) = true := hB.ok k (by rw [← hmm]; omega) col (by rw [← hnn]; exact hcol)
    obtain ⟨q1, q2, q3, q4, q5⟩ := okB_out hb
    unfold mirF
    simp only
    have hw : wrap64 (-(fr (rw' (echR rows) k) col).1) = -(fr (rw' (echR rows) k) col).1 := by unfold wrap64; omega
    rw [hw]
    exact okB_mk ⟨q1, q2, by omega, by omega, by rw [gcdi_neg_l]; exact q5⟩
  obtain ⟨A, hA⟩ : ∃ A : Nat → Nat → Int, A = fun i j => (fr (rw' rows i) j).1 := ⟨_, rfl⟩
  have hmv : ∀ i j, i < m → j < n → mv rows i j = (A i j : Rat) := by
    intro i j hi hj
    have e : fr (rw' rows i) j = (A i j, 1) := by rw [hA]; exact Prod.ext rfl (hint i hi j hj).1
    unfold mv
    rw [e, qf_int]
  have hA9 : ∀ i j, i < m → j < n → (A i j).natAbs ≤ 9 := fun i j hi hj => by rw [hA]; exact (hint i hi j hj).2
  obtain ⟨cs, hcs⟩ : ∃ cs : List Col, cs = C.map (fun c => fun i => if i < m then A i c else 0) := ⟨_, rfl⟩
  have hcsl : cs.length = C.length := by rw [hcs, List.length_map]
  have hcv : ∀ k, k < C.length → cv cs k = fun i => if i < m then A i (nt C k) else 0 := by
    intro k hk2
    unfold cv
    rw [hcs, List.getElem?_map, List.getElem?_eq_getElem hk2]
    have : nt C k = C[k] := by unfold nt; rw [List.getElem?_eq_getElem hk2]; rfl
    rw [this]
    rfl
  have hntn : ∀ k, k < C.length → nt C k < n := fun k hk2 => hchs _ (nt_mem hk2)
  -- of these columns nothing but nothing makes nothing
  have hind : Indep cs := by
    intro y hy k hk2
    rw [hcsl] at hy hk2
    obtain ⟨X, hX⟩ : ∃ X : Nat → Rat, X = fun j => ((sumI (fun k => if nt C k = j then y k else 0) C.length : Int) : Rat) := ⟨_, rfl⟩
    have hXk : ∀ k, k < C.length → X (nt C k) = (y k : Rat) := by
      intro k hk2
      rw [hX]
      show ((sumI _ _ : Int) : Rat) = _
      rw [sumI_one (a := k) hk2 (fun j hj hne => ?_), if_pos rfl]
      rw [if_neg]
      intro e
      rcases Nat.lt_or_gt_of_ne hne with hl | hl
      · have := hr j k hl hk2; omega
      · have := hr k j hl hj; omega
    have hX0 : ∀ j, j ∉ C → X j = 0 := by
      intro j hj
      rw [hX]
      show ((sumI _ _ : Int) : Rat) = _
      rw [sumI_zero (fun k hk2 => if_neg (fun (e : nt C k = j) => hj (by rw [← e]; exact nt_mem hk2)))]
      rfl
    have h1 : ∀ i, i < m → sumN (fun j => mv rows i j * X j) n = 0 := by
      intro i hi
      rw [sumN_on n C hr hchs (fun j hj hjn => by rw [hX0 j hjn]; grind)]
      have h2 := hy i
      have h3 := sum_cast (fun j => y j * cv cs j i) C.length
      rw [h2] at h3
      rw [← show ((0 : Int) : Rat) = 0 from rfl, h3]
      refine sumN_congr fun k hk3 => ?_
      rw [hXk k hk3, hmv i _ hi (hntn k hk3), hcv k hk3]
      simp only [hi, if_true]
      rw [Rat.intCast_mul]
      grind
    have h4 := (hspan X).2 h1 k (by omega)
    rw [sumN_on n C hr hchs (fun j hj hjn => by rw [hX0 j hjn]; grind), sumN_one (a := k) hk2 (fun i hi hne => ?_)] at h4
    · rw [hU k hk2 k (by omega), if_pos rfl, hXk k hk2] at h4
      have h5 : ((y k : Int) : Rat) = ((0 : Int) : Rat) := by
        rw [show ((0 : Int) : Rat) = 0 from rfl]
        grind
      exact Rat.intCast_inj.1 h5
    · rw [hU i hi k (by omega), if_neg (fun e => hne e.symm)]
      grind
  obtain ⟨I, hI, hd⟩ := indep_det C.length cs hcsl hind
  have habs := det_abs 9 I cs (by rw [hI, hcsl]) (fun c hc i => by
    rw [hcs, List.mem_map] at hc
    obtain ⟨c', hc', rfl⟩ := hc
    simp only
    split
    · rename_i hi
      exact hA9 i c' hi (hchs c' hc')
    · simp)
  rw [hcsl] at habs
  have hsm := fac_small (r := C.length) (by omega)
  refine ⟨(det I cs).natAbs, by omega, by omega, fun j hj => ?_⟩
  -- the denominators
  have hden : ∀ k, k < C.length → 1 ≤ (fr x (nt C k)).2 := fun k hk2 => (okB_out (okx k hk2)).1
  obtain ⟨M, hM⟩ : ∃ M, M = prodI (fun k => (fr x (nt C k)).2) C.length := ⟨_, rfl⟩
  have hM1 : 1 ≤ M := by rw [hM]; exact prodI_pos hden
  have hMd : ∀ k, ∃ e, k < C.length → M = (fr x (nt C k)).2 * e := by
    intro k
    by_cases hk2 : k < C.length
    · obtain ⟨e, he⟩ := prodI_dvd (fun k => (fr x (nt C k)).2) C.length k hk2
      exact ⟨e, fun _ => by rw [hM]; exact he⟩
    · exact ⟨0, fun hh => absurd hh hk2⟩
  obtain ⟨e, he⟩ : ∃ e : Nat → Int, ∀ k, k < C.length → M = (fr x (nt C k)).2 * e k := ⟨fun k => (hMd k).choose, fun k hk2 => (hMd k).choose_spec hk2⟩
  have hcr : ∀ i, M * (fun i => if i < m then - A i col else 0) i = sumI (fun k => ((fr x (nt C k)).1 * e k) * cv cs k i) cs.length := by
    intro i
    rw [hcsl]
    by_cases hi : i < m
    · simp only [hi, if_true]
      have h1 := hker i hi
      have h2 := sumN_turn (fun j => mv rows i j * qf (fr x j)) col 0 hcol
      rw [sumN_on n C hr hchs (fun j hj hjn => by
        by_cases ec : j = col
        · rw [if_pos ec]
        · rw [if_neg ec, k3 j hj ec hjn, qf_null]; grind)] at h2
      rw [h1, k1, qf_one, hmv i col hi hcol] at h2
      have h3 : sumN (fun k => ((((fr x (nt C k)).1 * e k) * cv cs k i : Int) : Rat)) C.length = (M : Rat) * sumN (fun k => if nt C k = col then 0 else mv rows i (nt C k) * qf (fr x (nt C k))) C.length := by
        rw [← sumN_mulL]
        refine sumN_congr fun k hk2 => ?_
        rw [if_neg (fun (ec : nt C k = col) => hn (by rw [← ec]; exact nt_mem hk2)), hmv i _ hi (hntn k hk2), hcv k hk2]
        simp only [hi, if_true]
        have hq : (M : Rat) * qf (fr x (nt C k)) = (((fr x (nt C k)).1 * e k : Int) : Rat) := by
          have hd1 := hden k hk2
          unfold qf
          rw [Rat.divInt_eq_div, he k hk2, Rat.intCast_mul, Rat.intCast_mul]
          have hd2 : (((fr x (nt C k)).2 : Int) : Rat) ≠ 0 := by
            intro hz
            rw [← show ((0 : Int) : Rat) = 0 from rfl] at hz
            have := Rat.intCast_inj.1 hz
            omega
          grind
        rw [Rat.intCast_mul, ← hq]
        grind
      apply Rat.intCast_inj.1
      rw [sum_cast, h3, h2, Rat.intCast_mul, Rat.intCast_neg]
      grind
    · rw [sumI_zero (fun k hk2 => by rw [hcv k hk2]; simp only [hi, if_false]; omega)]
      simp only [hi, if_false]
      omega
  by_cases hjc : j ∈ C
  · obtain ⟨k, hk2, rfl⟩ := mem_nt hjc
    have h1 := cramer hcr I (by rw [hI, hcsl]) k (by omega)
    have h2 := he k hk2
    have hd1 := hden k hk2
    have he0 : e k ≠ 0 := by
      intro hz
      rw [hz] at h2
      omega
    have h3 : (fr x (nt C k)).1 * det I cs = (fr x (nt C k)).2 * det I (cs.set k (fun i => if i < m then - A i col else 0)) := by
      apply Int.eq_of_mul_eq_mul_left he0
      rw [h2] at h1
      have e1 : e k * ((fr x (nt C k)).1 * det I cs) = (fr x (nt C k)).1 * e k * det I cs := by
        rw [← Int.mul_assoc, Int.mul_comm (e k)]
      rw [e1, h1, ← Int.mul_assoc, Int.mul_comm (e k)]
    have h4 := cop_dvd (okB_out (okx k hk2)).2.2.2.2 ⟨_, h3⟩
    exact Int.dvd_natAbs.2 h4
  · by_cases ec : j = col
    · rw [ec, k1]; exact Int.one_dvd _
    · rw [k3 j hj ec hjc]; exact Int.one_dvd _
end Go.Proofs.Ytbbkejfcheobaab

/- The least whole numbers of a row of fractions, in plain numbers; groups of dimensions. -/
namespace Go.Proofs.Ytbbkejfcheobaab
open Go.RowKit Go.Proofs.Ytbbkejfcheobaab.RM

/-- the least common multiple of the first k denominators; the numbers; their common divisor -/
def lcF (ps : List Fr) : Nat → Int
  | 0 => 1
  | k + 1 => lcF ps k * ((fr ps k).2.tdiv (gcdi (lcF ps k) (fr ps k).2))
def nmF (ps : List Fr) (k : Nat) : Int := (lcF ps ps.length).tdiv (fr ps k).2 * (fr ps k).1
def gdF (ps : List Fr) : Nat → Int
  | 0 => 0
  | k + 1 => gcdi (gdF ps k) (nmF ps k)
def nmL (ps : List Fr) : List Int := (List.range ps.length).map (nmF ps)
def lwF (ps : List Fr) : List Int := (List.range ps.length).map (fun k => (nmF ps k).tdiv (gdF ps ps.length))
/-- what a kernel's row is: its denominators divide one small number, and it has a 1 -/
structure Small (ps : List Fr) : Prop where
  den : ∀ k, k < ps.length → 1 ≤ (fr ps k).2
  num : ∀ k, k < ps.length → -1000000000 ≤ (fr ps k).1 ∧ (fr ps k).1 ≤ 1000000000
  one : ∃ k, k < ps.length ∧ (fr ps k).1 ≠ 0
  dvd : ∃ D : Nat, 1 ≤ D ∧ D ≤ 7085880 ∧ ∀ k, k < ps.length → (fr ps k).2 ∣ (D : Int)
theorem tdiv_gcd {a b : Int} (hb : 1 ≤ b) : ∃ q, b = gcdi a b * q ∧ b.tdiv (gcdi a b) = q ∧ 1 ≤ q := by
  obtain ⟨q, hq⟩ := gcdi_dvd_r a b
  have hg : 0 < gcdi a b := gcdi_pos_r a b (by omega)
  obtain ⟨G, hG⟩ : ∃ G, G = gcdi a b := ⟨_, rfl⟩
  rw [← hG] at hq hg ⊢
  clear hG
  refine ⟨q, hq, ?_, ?_⟩
  · rw [hq, Int.mul_tdiv_cancel_left _ (by omega)]
  · apply Classical.byContradiction
    intro hn
    have : G * q ≤ 0 := Int.mul_nonpos_of_nonneg_of_nonpos (by omega) (by omega)
    omega
theorem gcdi_mul {G p q : Int} (h : 0 ≤ G) : gcdi (G * p) (G * q) = G * gcdi p q := by
  unfold gcdi
  rw [Int.gcd_mul_left, Int.natCast_mul, Int.natAbs_of_nonneg h]
theorem lcm_dvd {a b D : Int} (ha : a ∣ D) (hb : b ∣ D) (hb1 : 1 ≤ b) : a * (b.tdiv (gcdi a b)) ∣ D := by
  obtain ⟨q, hq, e, -⟩ := tdiv_gcd (a := a) hb1
  rw [e]
  have hg : gcdi a b ≠ 0 := by have := gcdi_pos_r a b (by omega); omega
  obtain ⟨p, hp⟩ := gcdi_dvd_l a b
  obtain ⟨x, hx⟩ := ha
  obtain ⟨y, hy⟩ := hb
  -- p and q have no common divisor
  have hc : gcdi p q = 1 := by
    have h0 := gcdi_mul (G := gcdi a b) (p := p) (q := q) (gcdi_nonneg a b)
    rw [← hp, ← hq] at h0
    have h1 : gcdi a b = gcdi a b * gcdi p q := h0
    have h2 : gcdi a b * 1 = gcdi a b * gcdi p q := by rw [Int.mul_one]; exact h1
    exact (Int.eq_of_mul_eq_mul_left hg h2).symm
  have h3 : q ∣ p * x := by
    have h4 : gcdi a b * (p * x) = gcdi a b * (q * y) := by
      rw [← Int.mul_assoc, ← Int.mul_assoc, ← hp, ← hq, ← hx, ← hy]
    exact ⟨y, Int.eq_of_mul_eq_mul_left hg h4⟩
  obtain ⟨z, hz⟩ := cop_dvd hc h3
  exact ⟨z, by rw [hx, hz, ← Int.mul_assoc]⟩
theorem lcF_dvd {ps : List Fr} (h : Small ps) {D : Nat} (hD : ∀ k, k < ps.length → (fr ps k).2 ∣ (D : Int)) : ∀ k, k ≤ ps.length → lcF ps k ∣ (D : Int) ∧ 1 ≤ lcF ps k
  | 0, _ => ⟨Int.one_dvd _, by simp [lcF]⟩
  | k + 1, hk => by
    obtain ⟨h1, h2⟩ := lcF_dvd h hD k (by omega)
    have h3 := h.den k (by omega)
    simp only [lcF]
    refine ⟨lcm_dvd h1 (hD k (by omega)) h3, ?_⟩
    obtain ⟨q, -, e, hq⟩ := tdiv_gcd (a := lcF ps k) h3
    rw [e]
    have := Int.mul_le_mul h2 hq (by omega) (by omega)
    omega
theorem lcF_small {ps : List Fr} (h : Small ps) {k : Nat} (hk : k ≤ ps.length) : 1 ≤ lcF ps k ∧ lcF ps k ≤ 7085880 := by
  obtain ⟨D, d1, d2, d3⟩ := h.dvd
  obtain ⟨h1, h2⟩ := lcF_dvd h d3 k hk
  have := Int.le_of_dvd (by omega) h1
  exact ⟨h2, by omega⟩
theorem den_lcF {ps : List Fr} (h : Small ps) : ∀ n k, k < n → n ≤ ps.length → (fr ps k).2 ∣ lcF ps n
  | n + 1, k, hk, hn => by
    simp only [lcF]
    have h3 := h.den n (by omega)
    obtain ⟨q, hq, e, -⟩ := tdiv_gcd (a := lcF ps n) h3
    rw [e]
    by_cases ek : k = n
    · subst ek
      obtain ⟨p, hp⟩ := gcdi_dvd_l (lcF ps k) (fr ps k).2
      exact ⟨p, by conv => lhs; rw [hp]
                   rw [Int.mul_assoc, Int.mul_comm p q, ← Int.mul_assoc, ← hq]⟩
    · obtain ⟨x, hx⟩ := den_lcF h n k (by omega) (by omega)
      exact ⟨x * q, by rw [hx, Int.mul_assoc]⟩
theorem nmF_small {ps : List Fr} (h : Small ps) {k : Nat} (hk : k < ps.length) : -7085880000000000 ≤ nmF ps k ∧ nmF ps k ≤ 7085880000000000 := by
  unfold nmF
  obtain ⟨h1, h2⟩ := lcF_small h (Nat.le_refl ps.length)
  have h3 := h.den k hk
  obtain ⟨h4, h5⟩ := h.num k hk
  obtain ⟨x, hx⟩ := den_lcF h ps.length k hk (Nat.le_refl _)
  have e : (lcF ps ps.length).tdiv (fr ps k).2 = x := by
    rw [hx, Int.mul_tdiv_cancel_left _ (by omega)]
  rw [e]
  have hx1 : 0 ≤ x := by
    apply Classical.byContradiction
    intro hn
    have : (fr ps k).2 * x ≤ 0 := Int.mul_nonpos_of_nonneg_of_nonpos (by omega) (by omega)
    omega
  have hx2 : x ≤ 7085880 := by
    have : 1 * x ≤ (fr ps k).2 * x := Int.mul_le_mul_of_nonneg_right h3 hx1
    omega
  constructor
  · have a1 : x * (-1000000000) ≤ x * (fr ps k).1 := Int.mul_le_mul_of_nonneg_left h4 hx1
    omega
  · have a1 : x * (fr ps k).1 ≤ x * 1000000000 := Int.mul_le_mul_of_nonneg_left h5 hx1
    omega
theorem nmF_ne {ps : List Fr} (h : Small ps) {k : Nat} (hk : k < ps.length) (hn : (fr ps k).1 ≠ 0) : nmF ps k ≠ 0 := by
  unfold nmF
  obtain ⟨h1, h2⟩ := lcF_small h (Nat.le_refl ps.length)
  have h3 := h.den k hk
  obtain ⟨x, hx⟩ := den_lcF h ps.length k hk (Nat.le_refl _)
  have e : (lcF ps ps.length).tdiv (fr ps k).2 = x := by
    rw [hx, Int.mul_tdiv_cancel_left _ (by omega)]
  rw [e]
  intro hz
  rcases Int.mul_eq_zero.1 hz with h6 | h6
  · rw [h6, Int.mul_zero] at hx; omega
  · exact hn h6
theorem gdF_small {ps : List Fr} (h : Small ps) : ∀ k, k ≤ ps.length → 0 ≤ gdF ps k ∧ gdF ps k ≤ 7085880000000000 ∧ ((∃ j, j < k ∧ (fr ps j).1 ≠ 0) → 1 ≤ gdF ps k)
  | 0, _ => ⟨by simp [gdF], by simp [gdF], fun ⟨j, hj, _⟩ => absurd hj (Nat.not_lt_zero _)⟩
  | k + 1, hk => by
    obtain ⟨h1, h2, h3⟩ := gdF_small h k (by omega)
    have h4 := nmF_small h (k := k) (by omega)
    simp only [gdF]
    refine ⟨gcdi_nonneg _ _, ?_, fun ⟨j, hj, hne⟩ => ?_⟩
    · by_cases hz : nmF ps k = 0
      · rw [hz, gcdi_zero_abs]; split <;> omega
      · exact gcdi_le_r _ _ _ hz h4.2 h4.1
    · by_cases hz : nmF ps k = 0
      · rw [hz, gcdi_zero_abs]
        have hjk : j < k := by
          have : j ≠ k := fun e => nmF_ne h (k := k) (by omega) (e ▸ hne) hz
          omega
        have := h3 ⟨j, hjk, hne⟩
        split <;> omega
      · have := gcdi_pos_r (gdF ps k) (nmF ps k) hz; omega
theorem gdF_pos {ps : List Fr} (h : Small ps) : 1 ≤ gdF ps ps.length := (gdF_small h ps.length (Nat.le_refl _)).2.2 h.one
/-- the model's way to the same multiple -/
theorem lcF_model {ps : List Fr} (h : Small ps) {k : Nat} (hk : k < ps.length) : (lcF ps k).tdiv (gcdi (lcF ps k) (fr ps k).2) * (fr ps k).2 = lcF ps (k + 1) := by
  have h3 := h.den k hk
  obtain ⟨q, hq, e, -⟩ := tdiv_gcd (a := lcF ps k) h3
  obtain ⟨p, hp⟩ := gcdi_dvd_l (lcF ps k) (fr ps k).2
  have hg : gcdi (lcF ps k) (fr ps k).2 ≠ 0 := by have := gcdi_pos_r (lcF ps k) (fr ps k).2 (by omega); omega
  simp only [lcF]
  rw [e]
  have e2 : (lcF ps k).tdiv (gcdi (lcF ps k) (fr ps k).2) = p := by
    conv => lhs; arg 1; rw [hp]
    rw [Int.mul_tdiv_cancel_left _ hg]
  rw [e2]
  conv => lhs; rw [hq]
  conv => rhs; rw [hp]
  rw [← Int.mul_assoc, Int.mul_comm p]
theorem nmF_model (ps : List Fr) (k : Nat) : (fr ps k).1 * (lcF ps ps.length).tdiv (fr ps k).2 = nmF ps k := Int.mul_comm _ _
end Go.Proofs.Ytbbkejfcheobaab

/- The walk of the program's least whole numbers of a row. -/
namespace Go.Proofs.Ytbbkejfcheobaab
open Go.RowKit Go.Proofs.Ytbbkejfcheobaab.RM

theorem hidN {p : Prop} (h : p) : Hid p := h
/-- what is filled in when k numbers are there -/
def nmK (ps : List Fr) (k : Nat) : List Int := (List.range ps.length).map fun i => if i < k then nmF ps i else 0
def lwK (ps : List Fr) (k : Nat) : List Int := (List.range ps.length).map fun i => if i < k then (nmF ps i).tdiv (gdF ps ps.length) else nmF ps i
theorem nmK_len (ps : List Fr) (k : Nat) : (nmK ps k).length = ps.length := by simp [nmK]
theorem lwK_len (ps : List Fr) (k : Nat) : (lwK ps k).length = ps.length := by simp [lwK]
theorem nmK_zero (ps : List Fr) : nmK ps 0 = List.replicate ps.length 0 := by
  apply List.ext_getElem
  · simp [nmK]
  · intro i h1 h2
    simp [nmK]
theorem nmK_set (ps : List Fr) (k : Nat) : (nmK ps k).set k (nmF ps k) = nmK ps (k + 1) := by
  apply List.ext_getElem
  · simp [nmK]
  · intro i h1 h2
    simp only [nmK, List.getElem_set, List.getElem_map, List.getElem_range]
    by_cases e : k = i
    · subst e; rw [if_pos rfl, if_pos (by omega)]
    · rw [if_neg e]
      by_cases h3 : i < k
      · rw [if_pos h3, if_pos (by omega)]
      · rw [if_neg h3, if_neg (by omega)]
theorem nmK_all (ps : List Fr) : nmK ps ps.length = lwK ps 0 := by
  apply List.ext_getElem
  · simp [nmK, lwK]
  · intro i h1 h2
    have hi : i < ps.length := by simpa [nmK] using h1
    simp [nmK, lwK, hi]
theorem lwK_set (ps : List Fr) (k : Nat) : (lwK ps k).set k ((nmF ps k).tdiv (gdF ps ps.length)) = lwK ps (k + 1) := by
  apply List.ext_getElem
  · simp [lwK]
  · intro i h1 h2
    simp only [lwK, List.getElem_set, List.getElem_map, List.getElem_range]
    by_cases e : k = i
    · subst e; rw [if_pos rfl, if_pos (by omega)]
    · rw [if_neg e]
      by_cases h3 : i < k
      · rw [if_pos h3, if_pos (by omega)]
      · rw [if_neg h3, if_neg (by omega)]
theorem lwK_at (ps : List Fr) (k : Nat) (h : k < ps.length) : (lwK ps k)[k]?.getD 0 = nmF ps k := by simp [lwK, h]
theorem lwK_all (ps : List Fr) : lwK ps ps.length = lwF ps := by
  apply List.ext_getElem
  · simp [lwK, lwF]
  · intro i h1 h2
    have hi : i < ps.length := by simpa [lwK] using h1
    simp [lwK, lwF, hi]

set_option maxRecDepth 100000 in
set_option maxHeartbeats 4000000 in
theorem iLeast_any (v : Value) (ps : List Fr) (w : World) (h : RdR w v ps) (hs : Small ps) (hl : ps.length ≤ 1000) :
    Calls Try.prog 79 #[v] w fun e w' => ∃ u, e = .returned u ∧ w'.ownsRow w.heap.size 2 1 u ps.length ((lwF ps).map (Value.int .i64)) ∧ Below w.heap.size w w' := by
  have b0 : ∀ (u : World) (o : Obj), Below u.heap.size u (u.alloc o) := fun u o => (Below.refl _ _).alloc (Nat.le_refl _) o
  obtain ⟨i0, hi, hz0, hz1, hz2⟩ := info_parts infoI
  obtain ⟨a, c, rfl, h2, h3, h4, h5⟩ := h
  have H5 := hidN h5
  have HS := hidN hs
  obtain ⟨n, hn⟩ : ∃ n, n = ps.length := ⟨_, rfl⟩
  rw [← hn] at h5 hl ⊢
  have HN := hidN hn
  have hnn : 1 ≤ n := by obtain ⟨k, hk, _⟩ := hs.one; omega
  clear h5 h2 h3 h4 hs hn
  go_enter Try.func79, Try.ntmps79
  go_wp2
  go_loopw [3, 13] (fun m i wr => ∃ k : Nat, k ≤ n ∧ i = .int .i64 k ∧ m = .int .i64 (lcF ps k) ∧ Hid (Below w.heap.size w wr)) (fun _ i _ => n - (intOf i).toNat)
  case atStart => exact ⟨0, Nat.zero_le _, rfl, rfl, Below.refl _ _⟩
  case round =>
    obtain ⟨k, hk, rfl, rfl, hB⟩ := hrel
    have hsz := hB.out.size
    by_cases hlt : k < n
    · obtain ⟨b, off, rfl, c1, c2⟩ := H5.out k (by have := HN.out; omega)
      replace c1 := cell_keep hB.out c1
      replace c2 := cell_keep hB.out c2
      obtain ⟨l1, l2⟩ := lcF_small HS.out (k := k) (by have := HN.out; omega)
      obtain ⟨m1, m2⟩ := lcF_small HS.out (k := k + 1) (by have := HN.out; omega)
      have hd1 := HS.out.den k (by have := HN.out; omega)
      have hd2 : (fr ps k).2 ≤ 7085880 := by
        obtain ⟨D, d1, d2, d3⟩ := HS.out.dvd
        have := Int.le_of_dvd (by omega) (d3 k (by have := HN.out; omega))
        omega
      obtain ⟨q, hq1, hq2, hq3⟩ := tdiv_gcd (a := lcF ps k) hd1
      have hg0 : 0 < gcdi (lcF ps k) (fr ps k).2 := gcdi_pos_r _ _ (by omega)
      have hm : lcF ps (k + 1) = lcF ps k * (fr ps k).2.tdiv (gcdi (lcF ps k) (fr ps k).2) := rfl
      have hq4 : q ≤ 7085880 := by
        have : 1 * q ≤ gcdi (lcF ps k) (fr ps k).2 * q := Int.mul_le_mul_of_nonneg_right (by omega) (by omega)
        omega
      rw [hq2] at hm
      have hq6 : (fr ps k).2 / gcdi (lcF ps k) (fr ps k).2 = q := by rw [← Int.tdiv_eq_ediv_of_nonneg (by omega)]; exact hq2
      obtain ⟨l, hll⟩ : ∃ l, l = lcF ps k := ⟨_, rfl⟩
      obtain ⟨l', hll'⟩ : ∃ l, l = lcF ps (k + 1) := ⟨_, rfl⟩
      obtain ⟨G, hG⟩ : ∃ G, G = gcdi (lcF ps k) (fr ps k).2 := ⟨_, rfl⟩
      obtain ⟨p1, hp1⟩ : ∃ p, p = (fr ps k).1 := ⟨_, rfl⟩
      obtain ⟨p2, hp2⟩ : ∃ p, p = (fr ps k).2 := ⟨_, rfl⟩
      have HC : Hid (∀ u : World, Calls Try.prog 89 #[.int .i64 l, .int .i64 p2] u fun e w' => e = .returned (.int .i64 G) ∧ ∃ n, w' = u.drewN n) := by
        intro u
        rw [hG, hll, hp2]
        exact common_any _ _ u (by omega) (by omega) (by omega) (by omega)
      rw [← hG, ← hp2] at hq6
      rw [← hll] at l1 l2 hm ⊢
      rw [← hll'] at m1 m2 hm
      rw [← hG] at hg0
      rw [← hp1] at c1
      rw [← hp2] at c2 hd1 hd2
      have HLL := hidN (hll'.symm.trans hm)
      have hb1 : 1 ≤ l * q := by omega
      have hb2 : l * q ≤ 7085880 := by omega
      have hGn : ¬ G = 0 := by omega
      have HB := hB
      clear hll hG hp1 hp2 hq1 hq2 hll' hm m1 m2 hB
      go_upto_region 5 with fail
      obtain ⟨X, hX⟩ : ∃ X, X = wr.alloc (.cells #[.int .i64 p1, .int .i64 p2] 25) := ⟨_, rfl⟩
      obtain ⟨Z, hZ⟩ : ∃ Z, Z = wr.heap.size := ⟨_, rfl⟩
      have r1 : X.cell? ⟨Z, 1, none⟩ = some (.int .i64 p2) := by rw [hX, hZ]; simp [go_sem]
      replace HB := hidN (HB.out.trans (show Below w.heap.size wr X by rw [hX]; exact (b0 _ _).mono hsz))
      rw [← hX, ← hZ]
      clear hX hZ c1 c2
      go_region_with (go_at_call 89; refine (HC.out _).mono ?_; rintro e w2 ⟨rfl, nn, hw2⟩; have hb : Below X.heap.size X w2 := (by rw [hw2]; first | exact below_drewN (Below.refl _ _) _ | exact below_drewN ((Below.refl _ _).drew) _); have r1 := cell_later hb r1; clear hw2)
      all_goals go_wp2
      all_goals
        go_roundw
        case rel => exact ⟨k + 1, by omega, by go_num, by rw [hq6, show wrap64 (l * q) = l * q by unfold wrap64; omega, HLL.out], HB.out.trans (hb.mono HB.out.size)⟩
        case measure => simp [intOf]; omega
    · obtain rfl : k = n := by omega
      obtain ⟨l1, l2⟩ := lcF_small HS.out (k := k) (by have := HN.out; omega)
      have hl0 : ∀ j, j < k → ∃ x, (lcF ps k) / (fr ps j).2 = x ∧ nmF ps j = x * (fr ps j).1 ∧ 1 ≤ (fr ps j).2 := by
        intro j hj
        have hd1 := HS.out.den j (by have := HN.out; omega)
        refine ⟨_, rfl, ?_, hd1⟩
        unfold nmF
        rw [← HN.out, Int.tdiv_eq_ediv_of_nonneg (by omega)]
      obtain ⟨l, hll⟩ : ∃ l, l = lcF ps k := ⟨_, rfl⟩
      rw [← hll] at l1 l2 hl0 ⊢
      have HL0 := hidN hl0
      clear hl0 hll hk hlt
      go_wp2_with (at_make; refine wpList_make_full _ rfl _ _ 57 rfl wr.heap.size 2 i0 (.int .i64 0) 1 Try.underlying57 hi hz0 hz1 .i64 .i64 _ _ k rfl rfl rfl rfl (by rw [hz2]; omega) (by unfold maxLen; omega) (Nat.le_refl _) ?_; intro w1 hown hgrow)
      have o0 : w1.ownsRow wr.heap.size 2 1 (.slice (some ⟨wr.heap.size, 0, none⟩) k k) k ((nmK ps 0).map (Value.int .i64)) := by
        have e : (madeCells (Value.int .i64 0).cells (k * 1)).toList = (nmK ps 0).map (Value.int .i64) := by
          rw [show (Value.int .i64 0).cells = #[Value.int .i64 0] from rfl, Nat.mul_one, toList_madeCells_one]
          rw [nmK_zero, ← HN.out]; simp
        rw [← e]; exact hown
      have HB1 := hidN (hB.out.grown hgrow hsz (fun b e => by cases e))
      obtain ⟨S, hS⟩ : ∃ S, S = wr.heap.size := ⟨_, rfl⟩
      rw [← hS]
      rw [← hS] at o0
      have hwS : w.heap.size ≤ S := by omega
      have O0 := hidN o0
      clear hown hgrow hS o0 hB hsz
      go_loopw [7, 32] (fun d i wr2 => ∃ j : Nat, j ≤ k ∧ i = .int .i64 j ∧ d = .int .i64 (gdF ps j) ∧ Hid (wr2.ownsRow S 2 1 (.slice (some ⟨S, 0, none⟩) k k) k ((nmK ps j).map (Value.int .i64))) ∧ Hid (Below w.heap.size w wr2)) (fun _ i _ => k - (intOf i).toNat)
      case atStart => exact ⟨0, Nat.zero_le _, rfl, rfl, O0.out, HB1.out⟩
      case round =>
        clear O0 HB1
        obtain ⟨j, hj, rfl, rfl, hO, hB⟩ := hrel
        have hsz := hB.out.size
        obtain ⟨g1, g2, -⟩ := gdF_small HS.out j (by have := HN.out; omega)
        by_cases hlt : j < k
        · obtain ⟨b, off, rfl, c1, c2⟩ := H5.out j (by have := HN.out; omega)
          replace c1 := cell_keep hB.out c1
          replace c2 := cell_keep hB.out c2
          obtain ⟨x, hx1, hx2, hd1⟩ := HL0.out j hlt
          obtain ⟨n1, n2⟩ := nmF_small HS.out (k := j) (by have := HN.out; omega)
          have hgn : gdF ps (j + 1) = gcdi (gdF ps j) (nmF ps j) := rfl
          obtain ⟨y, hy⟩ : ∃ y, y = nmF ps j := ⟨_, rfl⟩
          obtain ⟨d, hdd⟩ : ∃ y, y = gdF ps j := ⟨_, rfl⟩
          obtain ⟨d', hdd'⟩ : ∃ y, y = gdF ps (j + 1) := ⟨_, rfl⟩
          obtain ⟨p1, hp1⟩ : ∃ p, p = (fr ps j).1 := ⟨_, rfl⟩
          obtain ⟨p2, hp2⟩ : ∃ p, p = (fr ps j).2 := ⟨_, rfl⟩
          rw [← hp1] at c1 hx2
          rw [← hp2] at c2 hx1 hd1
          rw [← hy] at n1 n2 hx2 hgn
          rw [← hdd] at g1 g2 hgn ⊢
          rw [← hdd'] at hgn
          have hval : wrap64 (l / p2 * p1) = y := by rw [hx1, ← hx2]; unfold wrap64; omega
          have HC : Hid (∀ u : World, Calls Try.prog 89 #[.int .i64 d, .int .i64 y] u fun e w' => e = .returned (.int .i64 d') ∧ ∃ n, w' = u.drewN n) := by
            intro u
            rw [hgn]
            exact common_any _ _ u (by omega) (by omega) (by omega) (by omega)
          have HYD := hidN (And.intro hy hdd')
          have hp2n : ¬ p2 = 0 := by omega
          have hcl := cI_len (nmK ps j)
          clear hy hdd hdd' hp1 hp2 hx1 hx2 hgn
          go_upto_region 11 with fail
          obtain ⟨X, hX⟩ : ∃ X, X = wr.alloc (.cells #[.int .i64 p1, .int .i64 p2] 25) := ⟨_, rfl⟩
          obtain ⟨Z, hZ⟩ : ∃ Z, Z = wr.heap.size := ⟨_, rfl⟩
          have r0 : X.cell? ⟨Z, 0, none⟩ = some (.int .i64 p1) := by rw [hX, hZ]; simp [go_sem]
          have r1 : X.cell? ⟨Z, 1, none⟩ = some (.int .i64 p2) := by rw [hX, hZ]; simp [go_sem]
          have OX : Hid (X.ownsRow S 2 1 (.slice (some ⟨S, 0, none⟩) k k) k ((nmK ps j).map (Value.int .i64))) := by show World.ownsRow _ _ _ _ _ _ _; rw [hX]; exact hO.out.alloc _
          replace hB := hidN (hB.out.trans (show Below w.heap.size wr X by rw [hX]; exact (b0 _ _).mono hsz))
          rw [← hX, ← hZ]
          have hZS : Z ≠ S := by have := (hO.out.lt S rfl).2; omega
          clear hX hZ c1 c2 hO
          have d1 := OX.out.cellAt j (by omega)
          rw [List.getElem?_eq_getElem (by rw [List.length_map, nmK_len, ← HN.out]; exact hlt)] at d1
          have f1 := OX.out.frozenAt j
          go_region
          all_goals rw [hval]
          all_goals
            have O4 : Hid ((X.setCell ⟨S, j, none⟩ (.int .i64 y)).ownsRow S 2 1 (.slice (some ⟨S, 0, none⟩) k k) k ((nmK ps (j + 1)).map (Value.int .i64))) := by
              show World.ownsRow _ _ _ _ _ _ _
              rw [← nmK_set, List.map_set, ← HYD.out.1]
              exact (OX.out.stored j (.int .i64 y)).1
            have B4 : Hid (Below w.heap.size w (X.setCell ⟨S, j, none⟩ (.int .i64 y))) := hB.out.setCell (p := ⟨S, j, none⟩) hwS _
            have c4 : (X.setCell ⟨S, j, none⟩ (.int .i64 y)).cell? ⟨S, j, none⟩ = some (.int .i64 y) := by
              have := O4.out.cellAt j (by omega)
              rw [this, List.getElem?_map, List.getElem?_eq_getElem (by rw [nmK_len, ← HN.out]; exact hlt)]
              simp [nmK, ← HYD.out.1]
            generalize X.setCell ⟨S, j, none⟩ (.int .i64 y) = X5 at O4 B4 c4 ⊢
            clear OX hB d1 f1 r0 r1 hval
            go_wp2_with fail
            refine (HC.out _).mono ?_
            rintro e w6 ⟨rfl, nn, hw6⟩
            have hb6 : Below X5.heap.size X5 w6 := by rw [hw6]; first | exact below_drewN ((Below.refl _ _).drew) _ | exact below_drewN (Below.refl _ _) _
            clear hw6
            go_wp2
            go_roundw
            case rel => exact ⟨j + 1, by omega, by go_num, by rw [HYD.out.2], own_below O4.out hb6, B4.out.trans (hb6.mono B4.out.size)⟩
            case measure => simp [intOf]; omega
        · obtain rfl : j = k := by omega
          have hgd := gdF_pos HS.out
          rw [← HN.out] at hgd
          have hOL : Hid (wr.ownsRow S 2 1 (.slice (some ⟨S, 0, none⟩) j j) j ((lwK ps 0).map (Value.int .i64))) := by
            show World.ownsRow _ _ _ _ _ _ _
            have := hO.out
            have e := nmK_all ps
            rw [← HN.out] at e
            rw [e] at this
            exact this
          obtain ⟨d, hdd⟩ : ∃ y, y = gdF ps j := ⟨_, rfl⟩
          have HDD : Hid (d = gdF ps ps.length) := by show _ = _; rw [← HN.out]; exact hdd
          rw [← hdd] at hgd g1 g2 ⊢
          clear hO hdd HL0 H5
          go_wp2
          go_loopw [56] (fun i wr3 => ∃ x : Nat, x ≤ j ∧ i = .int .i64 x ∧ Hid (wr3.ownsRow S 2 1 (.slice (some ⟨S, 0, none⟩) j j) j ((lwK ps x).map (Value.int .i64))) ∧ Hid (Below w.heap.size w wr3)) (fun i _ => j - (intOf i).toNat)
          case atStart => exact ⟨0, Nat.zero_le _, rfl, hOL.out, hB.out⟩
          case round =>
            clear hOL hB hsz
            obtain ⟨x, hx, rfl, hO, hB⟩ := hrel
            by_cases hlx : x < j
            · obtain ⟨n1, n2⟩ := nmF_small HS.out (k := x) (by have := HN.out; omega)
              have d1 := hO.out.cellAt x (by omega)
              rw [List.getElem?_map, List.getElem?_eq_getElem (by rw [lwK_len, ← HN.out]; exact hlx)] at d1
              have ev : (lwK ps x)[x]'(by rw [lwK_len, ← HN.out]; exact hlx) = nmF ps x := by
                have := lwK_at ps x (by have := HN.out; omega)
                rw [List.getElem?_eq_getElem (by rw [lwK_len, ← HN.out]; exact hlx)] at this
                exact this
              rw [ev] at d1
              have f1 := hO.out.frozenAt x
              obtain ⟨y, hy⟩ : ∃ y, y = nmF ps x := ⟨_, rfl⟩
              have HYY := hidN hy
              rw [← hy] at n1 n2 d1
              simp only [Option.map_some] at d1
              have hdn : ¬ d = 0 := by omega
              have hq0 : -7085880000000000 ≤ y.tdiv d ∧ y.tdiv d ≤ 7085880000000000 := by
                have h1 := Int.natAbs_tdiv_le_natAbs y d
                omega
              obtain ⟨hq1, hq2⟩ := hq0
              clear ev hy
              have O4 : Hid ((wr.setCell ⟨S, x, none⟩ (.int .i64 (y.tdiv d))).ownsRow S 2 1 (.slice (some ⟨S, 0, none⟩) j j) j ((lwK ps (x + 1)).map (Value.int .i64))) := by
                show World.ownsRow _ _ _ _ _ _ _
                rw [← lwK_set, List.map_set, ← HYY.out, ← HDD.out]
                exact (hO.out.stored x (.int .i64 (y.tdiv d))).1
              have hwr : wrap64 (y.tdiv d) = y.tdiv d := by unfold wrap64; omega
              go_wp2
              go_roundw
              case rel => exact ⟨x + 1, by omega, by go_num, by first | exact O4.out | (rw [hwr]; exact O4.out), by first | exact hB.out.setCell (p := ⟨S, x, none⟩) hwS _⟩
              case measure => simp [intOf]; omega
            · obtain rfl : x = j := by omega
              go_wp2
              go_ret
              refine ⟨_, rfl, ?_, hB.out⟩
              have := hO.out
              have e := lwK_all ps
              rw [← HN.out] at e
              rw [e] at this
              exact own_le this hwS
end Go.Proofs.Ytbbkejfcheobaab
