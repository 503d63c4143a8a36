/- The walks of the program's sum over a cover and of its test of a cover. -/
import Derived.Test.YtkcdpjcfbpjkeanBudP4
import Derived.Test.YtkcdpjcfbpjkeanTabW3
import Derived.Deep.AppendLies
namespace Go.Proofs.Ytkcdpjcfbpjkean
open Go.RowKit Go.Proofs.Ytkcdpjcfbpjkean.RM

/-- the program's sum over all of a cover -/
def togP (ps : List Fr) (rows : List (List Fr)) (bs : List Fr) : Fr × Bool :=
  if (sumV ps rows bs false rows.length).2 = true then ((0, 0), false) else ((sumV ps rows bs false rows.length).1, true)
theorem RelS.out {p m : Fr × Bool} (h : RelS p m) : p = if m.2 = true then ((0, 0), false) else (m.1, true) := by
  rcases h with ⟨h1, rfl⟩ | ⟨h1, rfl⟩
  · rw [if_pos h1]
  · rw [if_neg (by rw [h1]; decide)]

set_option maxRecDepth 100000 in
set_option maxHeartbeats 2000000 in
theorem tog_any (va vt vb : Value) (ps bs : List Fr) (rows : List (List Fr)) (w : World) (ha : RdR w va ps) (ht : RdT w vt rows) (hb : RdR w vb bs)
    (h1 : 1 ≤ rows.length) (h6 : rows.length ≤ 6) (hl : ∀ k, k < rows.length → (rw' rows k).length = rows.length) (hp : ps.length = rows.length) (hbs : bs.length = rows.length) :
    Calls Try.prog 41 #[va, vt, vb] w fun e w' =>
      e = .returned (.tuple #[.agg #[.int .i64 (togP ps rows bs).1.1, .int .i64 (togP ps rows bs).1.2], .bool (togP ps rows bs).2]) ∧ Below w.heap.size w w' := by
  have b0 : ∀ {u : World} (o : Obj), Below u.heap.size u (u.alloc o) := fun o => (Below.refl _ _).alloc (Nat.le_refl _) o
  obtain ⟨n, hn⟩ : ∃ n, n = rows.length := ⟨_, rfl⟩
  obtain ⟨f, hf⟩ : ∃ f : Nat → Fr, f = fun t => tbP (fr ps (t / n)) (fr (rw' rows (t / n)) (t % n)) (fr bs (t % n)) := ⟨_, rfl⟩
  have hn36 : n * n ≤ 36 := by have : n * n ≤ 6 * 6 := Nat.mul_le_mul (by omega) (by omega); omega
  have hnp : 0 < n * n := Nat.mul_pos (by omega) (by omega)
  have HS : Hid (pfold f (n * n) = togP ps rows bs) := by
    have := fold_sum f ps rows bs (by
      intro a hA b hB
      rw [← hn, hf]
      have e1 : (a * n + b) / n = a := by rw [Nat.mul_comm, Nat.mul_add_div (by omega), Nat.div_eq_of_lt (by omega), Nat.add_zero]
      have e2 : (a * n + b) % n = b := by rw [Nat.mul_comm, Nat.mul_add_mod, Nat.mod_eq_of_lt (by omega)]
      show tbP _ _ _ = _
      rw [e1, e2]) rows.length (Nat.le_refl _)
    rw [← hn] at this
    have := this.out
    rw [hn] at this
    show _ = _
    rw [hn, this]
    rfl
  have HA := hidW8 ha
  have HT := hidW8 ht
  have HB := hidW8 hb
  have HF : Hid (∀ (W : World) (B1 B2 B3 : Nat), Below w.heap.size w W → W.cell? ⟨B1, 0, none⟩ = some va → W.cell? ⟨B2, 0, none⟩ = some vt → W.cell? ⟨B3, 0, none⟩ = some vb → ∀ k, k < n * n →
      Calls Try.prog 56 #[.agg #[.int .i64 (fr (plcT n n) k).1, .int .i64 (fr (plcT n n) k).2], .pointer (some ⟨B1, 0, none⟩), .pointer (some ⟨B2, 0, none⟩), .pointer (some ⟨B3, 0, none⟩)] W fun e w' =>
      e = .returned (.agg #[.int .i64 (f k).1, .int .i64 (f k).2]) ∧ Below W.heap.size W w') := by
    intro W B1 B2 B3 hW c1 c2 c3 k hk
    have hk1 : k / n < n := Nat.div_lt_of_lt_mul hk
    have hk2 : k % n < n := Nat.mod_lt _ (by omega)
    have e := plcT_at n n (k / n) (k % n) hk1 hk2
    rw [show k / n * n + k % n = k by rw [Nat.mul_comm]; exact Nat.div_add_mod k n] at e
    rw [e, hf]
    exact plcF_any B1 B2 B3 va vt vb ps bs rows (k / n) (k % n) W c1 c2 c3 (HA.out.below hW) (HT.out.below hW) (HB.out.below hW) (by omega) (by omega) (by rw [hl _ (by omega)]; omega) (by omega)
  have HP : Hid (∀ W : World, Below w.heap.size w W → Calls Try.prog 55 #[vt] W fun e w' => ∃ o, e = .returned o ∧ w'.ownsRow W.heap.size 86 2 o (n * n) (cellsR (plcT n n)) ∧ Below W.heap.size W w') := by
    intro W hW
    have := plc_any vt rows W (HT.out.below hW) hl h6
    rw [← hn] at this
    exact this
  have HL : Hid ((plcT n n).length = n * n) := plcT_len n n
  obtain ⟨q, hq⟩ : ∃ q, q = togP ps rows bs := ⟨_, rfl⟩
  rw [← hq] at HS ⊢
  obtain ⟨⟨q1, q2⟩, qo⟩ := q
  obtain ⟨m, hm⟩ : ∃ m, m = n * n := ⟨_, rfl⟩
  rw [← hm] at HF HS HP HL hn36 hnp
  obtain ⟨pa, na, ca, rfl⟩ : ∃ a n c, va = .slice a n c := by obtain ⟨a, c, rfl, _⟩ := ha; exact ⟨a, _, c, rfl⟩
  obtain ⟨pt, nt, ct, rfl⟩ : ∃ a n c, vt = .slice a n c := by obtain ⟨a, c, rfl, _⟩ := ht; exact ⟨a, _, c, rfl⟩
  obtain ⟨pb, nb, cb, rfl⟩ : ∃ a n c, vb = .slice a n c := by obtain ⟨a, c, rfl, _⟩ := hb; exact ⟨a, _, c, rfl⟩
  clear ha ht hb hl hp hbs hf h1 h6 hn hq hm
  go_enter Try.func41, Try.ntmps41
  go_wp2_with fail
  obtain ⟨X1, hX1⟩ : ∃ X, X = w.alloc (.cells #[.slice pa na ca] 35) := ⟨_, rfl⟩
  obtain ⟨X2, hX2⟩ : ∃ X, X = X1.alloc (.cells #[.slice pt nt ct] 25) := ⟨_, rfl⟩
  obtain ⟨X3, hX3⟩ : ∃ X, X = X2.alloc (.cells #[.slice pb nb cb] 35) := ⟨_, rfl⟩
  obtain ⟨X, hX⟩ : ∃ X, X = X3.alloc (.cells #[.int .i64 0, .int .i64 0] 32) := ⟨_, rfl⟩
  obtain ⟨B, hBB⟩ : ∃ B, B = w.heap.size := ⟨_, rfl⟩
  have e1 : X1.heap.size = B + 1 := by rw [hX1, hBB]; simp
  have e2 : X2.heap.size = B + 2 := by rw [hX2]; simp [e1]
  have e3 : X3.heap.size = B + 3 := by rw [hX3]; simp [e2]
  have k1 : Below X1.heap.size X1 X2 := by rw [hX2]; exact b0 _
  have k2 : Below X2.heap.size X2 X3 := by rw [hX3]; exact b0 _
  have k3 : Below X3.heap.size X3 X := by rw [hX]; exact b0 _
  have d1 : X1.cell? ⟨B, 0, none⟩ = some (.slice pa na ca) := by rw [hX1, hBB]; simp [go_sem]
  have d2 : X2.cell? ⟨B + 1, 0, none⟩ = some (.slice pt nt ct) := by rw [hX2, ← e1]; simp [go_sem]
  have d3 : X3.cell? ⟨B + 2, 0, none⟩ = some (.slice pb nb cb) := by rw [hX3, ← e2]; simp [go_sem]
  have Z0 : IsR X (B + 3) 0 0 := by rw [hX, ← e3]; exact IsR.new X3 0 0
  have B0 : Below w.heap.size w X := by
    rw [hX, hX3, hX2, hX1]; exact ((((Below.refl _ _).alloc (Nat.le_refl _) _).alloc (by simp) _).alloc (by simp; omega) _).alloc (by simp; omega) _
  replace d1 := cell_keep k3 (cell_keep k2 (cell_keep k1 d1))
  replace d2 := cell_keep k3 (cell_keep k2 d2)
  replace d3 := cell_keep k3 d3
  have hwB : w.heap.size ≤ B := by omega
  rw [← hX1, ← hX2, ← hX3, ← hX, ← hBB]
  clear hX1 hX2 hX3 hX hBB e1 e2 e3 k1 k2 k3
  refine (HP.out _ B0).mono ?_
  rintro e w1 ⟨o, rfl, hown, hb1⟩
  have B1 := B0.trans (hb1.mono B0.size)
  obtain ⟨g, c, rfl, -⟩ := World.ownsRow.form hown hnp
  have D1 := cell_keep hb1 d1
  have D2 := cell_keep hb1 d2
  have D3 := cell_keep hb1 d3
  have Z1 := Z0.below hb1
  have HC := hidW8 (totP_any f g m c (plcT n n) HL.out (.pointer (some ⟨B, 0, none⟩)) (.pointer (some ⟨B + 1, 0, none⟩)) (.pointer (some ⟨B + 2, 0, none⟩)) _ w1 hn36 hown (fun k hk W hW => HF.out W B (B + 1) (B + 2) (B1.trans (hW.mono B1.size)) (cell_keep hW D1) (cell_keep hW D2) (cell_keep hW D3) k hk))
  rw [HS.out] at HC
  clear d1 d2 d3 Z0 B0 hb1 D1 D2 D3 hown
  go_wp2_with fail
  refine HC.out.mono ?_
  rintro e w2 ⟨rfl, hb2⟩
  have Z2 := Z1.below hb2
  have B2 := B1.trans (hb2.mono B1.size)
  have z0 := Z2.c0
  have z1 := Z2.c1
  have z2 := Z2.f0
  have z3 := Z2.f1
  clear hb2 Z1
  go_wp2
  exact bodyPost_ret (v := .tuple #[.agg #[.int .i64 q1, .int .i64 q2], .bool qo]) (by simp [results, Try.results41, go_sem, z0, z1]) rfl ⟨rfl, (B2.setCell (p := ⟨B + 3, 0, none⟩) (by simp; omega) _).setCell (p := ⟨B + 3, 1, none⟩) (by simp; omega) _⟩
end Go.Proofs.Ytkcdpjcfbpjkean
