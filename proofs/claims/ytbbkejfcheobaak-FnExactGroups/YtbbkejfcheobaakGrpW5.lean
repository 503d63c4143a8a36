/- A table of whole numbers whose marks are held; how long what Groups answers is. -/
import Derived.Test.YtbbkejfcheobaakGrpW4
import Derived.Test.YtbbkejfcheobaakTabI3
namespace Go.Proofs.Ytbbkejfcheobaak
open Go.RowKit Go.Proofs.Ytbbkejfcheobaak.RM

theorem TabI.out_hi {lo hi : Nat} {w w' : World} {base : Nat} {v : Value} {us : List Value} {rows : List (List Int)} (h : TabI w base v us rows) (ho : Out lo hi w w') (hb : hi ≤ base) : TabI w' base v us rows :=
  h.out ho (fun b e => .inr (by have := (h.outer.lt b e).1; omega)) (fun i hi' b e => .inr (by have := ((h.inner i hi').lt b e).1; omega))
theorem grA_small (L : List (List Int)) : (grA L).length ≤ 1048576 ∧ ∀ i, i < (grA L).length → (ri (grA L) i).length ≤ 1048576 := by
  cases h : grO L with
  | false => rw [grA_no h]; exact ⟨by simp, fun i hi => absurd hi (Nat.not_lt_zero _)⟩
  | true =>
    rw [grA_yes h]
    obtain ⟨k1, k2⟩ := kerA_small (dimT L)
    rw [List.length_map]
    refine ⟨k1, fun i hi => ?_⟩
    have e : ri ((kerA (dimT L)).map lwF) i = lwF (rw' (kerA (dimT L)) i) := by simp [ri, rw', hi]
    rw [e]
    have := k2 i hi
    simp only [lwF, List.length_map, List.length_range]
    exact this

set_option maxRecDepth 100000 in
set_option maxHeartbeats 2000000 in
theorem heldU_any (v : Value) (us : List Value) (rows : List (List Int)) (base : Nat) (k0 : Int) (w : World) (h : TabI w base v us (mkU k0 rows rows.length)) (hl : rows.length ≤ 1048576) (hrl : ∀ i, i < rows.length → (ri rows i).length ≤ 1048576) (hk0 : 0 ≤ k0) (hk1 : k0 ≤ 100000000000000) :
    Calls Try.prog 13 #[v, .int .i64 k0] w fun e w' => e = .returned (.int .i64 (k0 + (offI rows rows.length : Int))) ∧ Below w.heap.size w w' := by
  obtain ⟨n, hn⟩ : ∃ n, n = rows.length := ⟨_, rfl⟩
  have ho := h.outer
  have e1 : us.length = n := by rw [h.len, mkU_len, hn]
  rw [e1] at ho
  obtain ⟨a, c, rfl⟩ := own_shape ho
  have HO : Hid (∀ i, i ≤ n → (offI rows i : Int) ≤ 1099511627776) := by
    intro i hi
    have := offI_le hrl i (by omega)
    have : i * 1048576 ≤ 1048576 * 1048576 := Nat.mul_le_mul_right _ (by omega)
    omega
  have HR : Hid (∀ i, i < n → (ri rows i).length ≤ 1048576) := fun i hi => hrl i (by omega)
  have H5 : Hid (∀ i, i < n → ∃ g, a = some ⟨g, 0, none⟩ ∧ w.cell? ⟨g, i, none⟩ = some (vl us i)) := by
    intro i hi
    obtain ⟨g, cc, e⟩ := own_some ho (by omega)
    cases e
    have d1 := ho.cellAt i (by omega)
    rw [List.getElem?_eq_getElem (by omega)] at d1
    exact ⟨g, rfl, by rw [d1]; simp [vl, List.getElem?_eq_getElem (show i < us.length by omega)]⟩
  have HIN : Hid (∀ i, i < n → w.ownsRow base 2 1 (vl us i) (ri rows i).length ((mrk (k0 + (offI rows i : Int)) (ri rows i) (ri rows i).length).map (Value.int .i64))) := by
    intro i hi
    have := h.inner i (by omega)
    rw [mkU_at _ _ _ _ (by omega), if_pos (by omega)] at this
    have hml : (mrk (k0 + (offI rows i : Int)) (ri rows i) (ri rows i).length).length = (ri rows i).length := mrk_len _ _ _ (Nat.le_refl _)
    rw [hml] at this
    exact this
  rw [← hn] at hl ⊢
  clear h ho hrl hn e1
  go_enter Try.func13, Try.ntmps13
  go_wp2
  go_loopw [1, 5] (fun q i wr => ∃ k : Nat, k ≤ n ∧ i = .int .i64 k ∧ q = .int .i64 (k0 + (offI rows k : Int)) ∧ Hid (Below w.heap.size w wr)) (fun _ i _ => n - (intOf i).toNat)
  case atStart => exact ⟨0, Nat.zero_le _, rfl, by simp [offI], Below.refl _ _⟩
  case round =>
    obtain ⟨k, hk, rfl, rfl, hB⟩ := hrel
    have hoff := HO.out k hk
    by_cases hlt : k < n
    · obtain ⟨g, rfl, c1⟩ := H5.out k hlt
      replace c1 := cell_keep hB.out c1
      have HU := hidM (own_below (HIN.out k hlt) hB.out)
      have hrk := HR.out k hlt
      have hsz := hB.out.size
      obtain ⟨x, hx⟩ : ∃ x, x = vl us k := ⟨_, rfl⟩
      rw [← hx] at c1 HU
      clear hx
      go_wp2_with (go_at_call 19; refine (heldG_any x (ri rows k) _ _ _ _ _ rfl (by omega) (by omega) (by omega) HU.out).mono ?_; rintro e w2 ⟨rfl, m2, hw2⟩; have hb2 : Below wr.heap.size wr w2 := by { rw [hw2]; exact below_drewN (Below.refl _ _) _ }; clear hw2)
      go_roundw
      case rel =>
        refine ⟨k + 1, by omega, by go_num, ?_, hB.out.trans (hb2.mono hsz)⟩
        simp only [offI]; congr 1; omega
      case measure => simp [intOf]; omega
    · obtain rfl : k = n := by omega
      go_wp2
      go_ret
      exact ⟨rfl, hB.out⟩
end Go.Proofs.Ytbbkejfcheobaak
