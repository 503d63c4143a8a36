/- The kernel's rows, in plain lists. -/
import Derived.Test.YtibncepllmjhhaaEchW12
namespace Go.Proofs.Ytibncepllmjhhaa
open Go.RowKit Go.Proofs.Ytibncepllmjhhaa.RM

def mirF (p : Fr) : Fr := (wrap64 (-p.1), p.2)
/-- number k of a list of columns -/
def nt (C : List Nat) (k : Nat) : Nat := C[k]?.getD 0
/-- the chosen columns' elements laid, the first k -/
def setsK (R : List (List Fr)) (C : List Nat) (col : Nat) : Nat → List Fr → List Fr
  | 0, b => b
  | k + 1, b => (setsK R C col k b).set (nt C k) (mirF (fr (rw' R k) col))
/-- the free columns' noughts laid, the first k -/
def setsF (F : List Nat) : Nat → List Fr → List Fr
  | 0, b => b
  | k + 1, b => (setsF F k b).set (nt F k) (0, 1)
theorem setsK_len (R : List (List Fr)) (C : List Nat) (col k : Nat) (b : List Fr) : (setsK R C col k b).length = b.length := by
  induction k with
  | zero => rfl
  | succ k ih => simp [setsK, ih]
theorem setsF_len (F : List Nat) (k : Nat) (b : List Fr) : (setsF F k b).length = b.length := by
  induction k with
  | zero => rfl
  | succ k ih => simp [setsF, ih]
theorem nt_mem {C : List Nat} {k : Nat} (h : k < C.length) : nt C k ∈ C := by
  unfold nt
  rw [List.getElem?_eq_getElem h]
  exact List.getElem_mem h
/-- the row of one free column -/
def kerRow (R : List (List Fr)) (C : List Nat) (L col : Nat) : List Fr := setsK R C col C.length ((List.replicate L ((0, 1) : Fr)).set col (1, 1))
theorem kerRow_len (R : List (List Fr)) (C : List Nat) (L col : Nat) : (kerRow R C L col).length = L := by simp [kerRow, setsK_len]
theorem setsK_same (R : List (List Fr)) (C : List Nat) (col : Nat) (b b' : List Fr) (hl : b.length = b'.length) (x : Nat) : ∀ k, k ≤ C.length → (∀ i, i < k → nt C i < b.length) → ((∀ i, i < k → nt C i ≠ x) → fr b x = fr b' x) → fr (setsK R C col k b) x = fr (setsK R C col k b') x
  | 0, _, _, h => h (fun i hi => absurd hi (Nat.not_lt_zero _))
  | k + 1, hk, hc, h => by
    simp only [setsK]
    rw [fr_set _ _ _ _ (by rw [setsK_len]; exact hc k (by omega)), fr_set _ _ _ _ (by rw [setsK_len, ← hl]; exact hc k (by omega))]
    by_cases e : nt C k = x
    · rw [if_pos e, if_pos e]
    · rw [if_neg e, if_neg e]
      refine setsK_same R C col b b' hl x k (by omega) (fun i hi => hc i (by omega)) (fun hn => h (fun i hi => ?_))
      by_cases e2 : i = k
      · subst e2; exact e
      · exact hn i (by omega)
theorem setsF_at (F : List Nat) (b : List Fr) (x : Nat) : ∀ k, k ≤ F.length → (∀ i, i < k → nt F i < b.length) → fr (setsF F k b) x = if (∃ i, i < k ∧ nt F i = x) then (0, 1) else fr b x
  | 0, _, _ => by
    rw [if_neg (by rintro ⟨i, hi, _⟩; omega)]; rfl
  | k + 1, hk, hc => by
    simp only [setsF]
    rw [fr_set _ _ _ _ (by rw [setsF_len]; exact hc k (by omega)), setsF_at F b x k (by omega) (fun i hi => hc i (by omega))]
    by_cases e : nt F k = x
    · rw [if_pos e, if_pos ⟨k, by omega, e⟩]
    · rw [if_neg e]
      by_cases h : ∃ i, i < k ∧ nt F i = x
      · obtain ⟨i, hi, he⟩ := h
        rw [if_pos ⟨i, hi, he⟩, if_pos ⟨i, by omega, he⟩]
      · rw [if_neg h, if_neg]
        rintro ⟨i, hi, he⟩
        by_cases e2 : i = k
        · subst e2; exact e he
        · exact h ⟨i, by omega, he⟩
theorem mem_nt {C : List Nat} {x : Nat} (h : x ∈ C) : ∃ i, i < C.length ∧ nt C i = x := by
  obtain ⟨i, hi, rfl⟩ := List.mem_iff_getElem.1 h
  exact ⟨i, hi, by simp [nt, hi]⟩
theorem freeC_mem {L : Nat} {C : List Nat} {x : Nat} : x ∈ freeC L C ↔ x < L ∧ x ∉ C := by
  unfold freeC
  rw [List.mem_filter, List.mem_range]
  simp
/-- the program's way to the same row -/
theorem kerRow_impl (R : List (List Fr)) (C : List Nat) (L col : Nat) (hC : ∀ c, c ∈ C → c < L) (hcol : col < L) :
    setsK R C col C.length ((setsF (freeC L C) (freeC L C).length (List.replicate L (0, 0))).set col (1, 1)) = kerRow R C L col := by
  unfold kerRow
  apply fr_ext
  · rw [setsK_len, setsK_len, List.length_set, List.length_set, setsF_len]; simp
  · intro x hx
    rw [setsK_len, List.length_set, setsF_len, List.length_replicate] at hx
    refine setsK_same R C col _ _ (by rw [List.length_set, List.length_set, setsF_len]; simp) x C.length (Nat.le_refl _) (fun i hi => by rw [List.length_set, setsF_len, List.length_replicate]; exact hC _ (nt_mem hi)) (fun hn => ?_)
    rw [fr_set _ _ _ _ (by rw [setsF_len]; simpa using hcol), fr_set _ _ _ _ (by simpa using hcol)]
    by_cases e : col = x
    · rw [if_pos e, if_pos e]
    · rw [if_neg e, if_neg e, setsF_at _ _ _ _ (Nat.le_refl _) (fun i hi => by rw [List.length_replicate]; exact (freeC_mem.1 (nt_mem hi)).1)]
      have hxC : x ∉ C := fun h => by
        obtain ⟨i, hi, he⟩ := mem_nt h
        exact hn i hi he
      rw [if_pos (mem_nt (freeC_mem.2 ⟨hx, hxC⟩))]
      simp [fr, hx]
/-- what Kernel answers -/
def kerA (rows : List (List Fr)) : List (List Fr) := if echO rows then (freeC (rw' rows 0).length (echC rows)).map (kerRow (echR rows) (echC rows) (rw' rows 0).length) else []
theorem kerA_no {rows : List (List Fr)} (h : echO rows = false) : kerA rows = [] := by simp [kerA, h]
theorem kerA_yes {rows : List (List Fr)} (h : echO rows = true) : kerA rows = (freeC (rw' rows 0).length (echC rows)).map (kerRow (echR rows) (echC rows) (rw' rows 0).length) := by simp [kerA, h]
theorem freeC_len (L : Nat) (C : List Nat) : (freeC L C).length ≤ L := by
  unfold freeC
  have := List.length_filter_le (fun c => !C.contains c) (List.range L)
  simpa using this
theorem kerA_small (rows : List (List Fr)) : (kerA rows).length ≤ 1048576 ∧ ∀ i, i < (kerA rows).length → (rw' (kerA rows) i).length ≤ 1048576 := by
  cases ho : echO rows with
  | false => rw [kerA_no ho]; exact ⟨by simp, fun i hi => absurd hi (Nat.not_lt_zero _)⟩
  | true =>
    have h := ho
    unfold echO at h
    rw [Bool.and_eq_true] at h
    obtain ⟨⟨t1, t2, t3, t4⟩, tr⟩ := tabB_out h.1
    have hl := freeC_len (rw' rows 0).length (echC rows)
    rw [kerA_yes ho]
    refine ⟨by rw [List.length_map]; omega, fun i hi => ?_⟩
    rw [List.length_map] at hi
    have : rw' ((freeC (rw' rows 0).length (echC rows)).map (kerRow (echR rows) (echC rows) (rw' rows 0).length)) i = kerRow (echR rows) (echC rows) (rw' rows 0).length (nt (freeC (rw' rows 0).length (echC rows)) i) := by
      show (List.map _ _)[i]?.getD [] = _
      unfold nt
      rw [List.getElem?_map, List.getElem?_eq_getElem hi]
      rfl
    rw [this, kerRow_len]
    omega
/-- the chosen columns rise -/
def rises (C : List Nat) : Prop := ∀ i j, i < j → j < C.length → nt C i < nt C j
theorem echF_rises {L : Nat} : ∀ (n col : Nat) (rows : List (List Fr)) (ch : List Nat) (R : List (List Fr)) (C : List Nat), rises ch → (∀ c, c ∈ ch → c < col) → echF n col rows ch = some (R, C) → rises C
  | 0, col, rows, ch, R, C, hr, hc, h => by
    simp only [echF, Option.some.injEq, Prod.mk.injEq] at h
    obtain ⟨rfl, rfl⟩ := h
    exact hr
  | n + 1, col, rows, ch, R, C, hr, hc, h => by
    by_cases hp : piv rows col ch.length = rows.length
    · rw [echF_free hp] at h
      exact echF_rises (L := L) n (col + 1) rows ch R C hr (fun c hx => by have := hc c hx; omega) h
    · cases hb : stepB rows ch.length (piv rows col ch.length) col with
      | false => rw [echF_no rfl hp hb] at h; cases h
      | true =>
        rw [echF_yes rfl hp hb] at h
        refine echF_rises (L := L) n (col + 1) _ (ch ++ [col]) R C (fun i j hij hj => ?_) (fun c hx => ?_) h
        · rw [List.length_append, List.length_singleton] at hj
          have hi : nt (ch ++ [col]) i = nt ch i := by unfold nt; rw [List.getElem?_append_left (by omega)]
          rw [hi]
          by_cases e : j < ch.length
          · have : nt (ch ++ [col]) j = nt ch j := by unfold nt; rw [List.getElem?_append_left e]
            rw [this]
            exact hr i j hij e
          · obtain rfl : j = ch.length := by omega
            have : nt (ch ++ [col]) ch.length = col := by simp [nt]
            rw [this]
            exact hc _ (nt_mem (by omega))
        · rw [List.mem_append] at hx
          rcases hx with hx | hx
          · have := hc c hx; omega
          · simp at hx; omega
theorem ech_rises {rows : List (List Fr)} (hk : echK rows = true) : rises (echC rows) := by
  unfold echK at hk
  cases he : ech rows with
  | none => rw [he] at hk; cases hk
  | some p =>
    obtain ⟨R, C⟩ := p
    obtain ⟨-, e1, e2⟩ := ech_yes he
    rw [e2]
    exact echF_rises (L := 0) _ 0 rows [] R C (fun _ _ _ hj => absurd hj (Nat.not_lt_zero _)) (fun c hx => absurd hx (by simp)) he
/-- so many of the chosen ones lie ahead of col -/
def atP (C : List Nat) (at' col : Nat) : Prop := at' ≤ C.length ∧ (∀ i, i < at' → nt C i < col) ∧ ∀ i, at' ≤ i → i < C.length → col ≤ nt C i
theorem atP_zero (C : List Nat) : atP C 0 0 := ⟨Nat.zero_le _, fun _ hi => absurd hi (Nat.not_lt_zero _), fun _ _ _ => Nat.zero_le _⟩
theorem atP_yes {C : List Nat} {at' col : Nat} (hr : rises C) (h : atP C at' col) (h1 : at' < C.length) (h2 : nt C at' = col) : atP C (at' + 1) (col + 1) ∧ col ∈ C := by
  refine ⟨⟨by omega, fun i hi => ?_, fun i hi hl => ?_⟩, h2 ▸ nt_mem h1⟩
  · by_cases e : i = at'
    · subst e; omega
    · have := h.2.1 i (by omega); omega
  · have := hr at' i (by omega) hl; omega
theorem atP_no {C : List Nat} {at' col : Nat} (hr : rises C) (h : atP C at' col) (h1 : at' < C.length → nt C at' ≠ col) : atP C at' (col + 1) ∧ col ∉ C := by
  have hgt : ∀ i, at' ≤ i → i < C.length → col < nt C i := by
    intro i hi hl
    have h3 := h.2.2 at' (Nat.le_refl _) (by omega)
    have h4 := h1 (by omega)
    by_cases e : i = at'
    · subst e; omega
    · have := hr at' i (by omega) hl; omega
  refine ⟨⟨h.1, fun i hi => by have := h.2.1 i hi; omega, fun i hi hl => by have := hgt i hi hl; omega⟩, fun hm => ?_⟩
  obtain ⟨i, hi, he⟩ := mem_nt hm
  by_cases e : i < at'
  · have := h.2.1 i e; omega
  · have := hgt i (by omega) hi; omega
theorem freeC_in {col : Nat} {C : List Nat} (h : col ∈ C) : freeC (col + 1) C = freeC col C := by
  unfold freeC
  rw [List.range_succ, List.filter_append]
  simp [h]
theorem freeC_out {col : Nat} {C : List Nat} (h : col ∉ C) : freeC (col + 1) C = freeC col C ++ [col] := by
  unfold freeC
  rw [List.range_succ, List.filter_append]
  simp [h]
end Go.Proofs.Ytibncepllmjhhaa
