/- How great what Echelon answers can be. -/
import Derived.Test.YtkcdpjcfbpjkeaiEchW11
namespace Go.Proofs.Ytkcdpjcfbpjkeai
open Go.Proofs.Ytkcdpjcfbpjkeai.RM

/-- the steps keep the table's form -/
theorem echF_dims {L : Nat} : ∀ (n col : Nat) (rows : List (List Fr)) (ch : List Nat) (R : List (List Fr)) (C : List Nat), (∀ x, x < rows.length → (rw' rows x).length = L) → ch.length ≤ rows.length → (∀ c, c ∈ ch → c < col) → echF n col rows ch = some (R, C) →
    R.length = rows.length ∧ (∀ x, x < R.length → (rw' R x).length = L) ∧ C.length ≤ rows.length ∧ ∀ c, c ∈ C → c < col + n
  | 0, col, rows, ch, R, C, hd, hl, hc, h => by
    simp only [echF, Option.some.injEq, Prod.mk.injEq] at h
    obtain ⟨rfl, rfl⟩ := h
    exact ⟨rfl, hd, hl, fun c hx => by have := hc c hx; omega⟩
  | n + 1, col, rows, ch, R, C, hd, hl, hc, h => by
    by_cases hp : piv rows col ch.length = rows.length
    · rw [echF_free hp] at h
      obtain ⟨h1, h2, h3, h4⟩ := echF_dims n (col + 1) rows ch R C hd hl (fun c hx => by have := hc c hx; omega) h
      exact ⟨h1, h2, h3, fun c hx => by have := h4 c hx; omega⟩
    · obtain ⟨p1, p2⟩ := piv_le (rows := rows) (col := col) hl
      cases hb : stepB rows ch.length (piv rows col ch.length) col with
      | false => rw [echF_no rfl hp hb] at h; cases h
      | true =>
        rw [echF_yes rfl hp hb] at h
        have := echF_dims n (col + 1) (stepT rows ch.length (piv rows col ch.length) col) (ch ++ [col]) R C (stepT_row hd (by omega) (by omega)) (by rw [stepT_len]; simp; omega) (fun c hx => by
          rw [List.mem_append] at hx
          rcases hx with hx | hx
          · have := hc c hx; omega
          · simp at hx; omega) h
        rw [stepT_len] at this
        obtain ⟨h1, h2, h3, h4⟩ := this
        exact ⟨h1, h2, h3, fun c hx => by have := h4 c hx; omega⟩
theorem ech_dims {rows : List (List Fr)} (ht : tabB rows 6 = true) (hk : echK rows = true) : (echR rows).length = rows.length ∧ (∀ x, x < (echR rows).length → (rw' (echR rows) x).length = (rw' rows 0).length) ∧ (echC rows).length ≤ rows.length ∧ ∀ c, c ∈ echC rows → c < (rw' rows 0).length := by
  obtain ⟨⟨t1, t2, t3, t4⟩, tr⟩ := tabB_out ht
  unfold echK at hk
  cases he : ech rows with
  | none => rw [he] at hk; cases hk
  | some p =>
    obtain ⟨R, C⟩ := p
    obtain ⟨-, e1, e2⟩ := ech_yes he
    rw [e1, e2]
    have := echF_dims (L := (rw' rows 0).length) _ 0 rows [] R C (fun x hx => (tr x hx).1) (Nat.zero_le _) (fun c hx => absurd hx (by simp)) he
    simpa using this
theorem echA_small (rows : List (List Fr)) : (echA rows).length ≤ 1048576 ∧ ∀ i, i < (echA rows).length → (rw' (echA rows) i).length ≤ 1048576 := by
  cases ho : echO rows with
  | false => rw [(echO_no ho).1]; exact ⟨by simp, fun i hi => absurd hi (Nat.not_lt_zero _)⟩
  | true =>
    have h := ho
    unfold echO at h
    rw [Bool.and_eq_true] at h
    obtain ⟨h1, h2, _⟩ := ech_dims h.1 h.2
    obtain ⟨⟨t1, t2, t3, t4⟩, tr⟩ := tabB_out h.1
    rw [(echO_yes ho).1]
    exact ⟨by omega, fun i hi => by rw [h2 i hi]; omega⟩
end Go.Proofs.Ytkcdpjcfbpjkeai
