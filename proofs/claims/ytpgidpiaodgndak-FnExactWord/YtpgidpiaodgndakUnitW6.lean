/- The model's units: the walk of l5Unit. -/
import Derived.Test.YtpgidpiaodgndakUnitMath
import Derived.Test.YtpgidpiaodgndakUnitB
import Derived.Test.YtpgidpiaodgndakRowsW
import Derived.BigRegion
import Derived.Outline
import Derived.Deep.DeepCutAuto
namespace Go.Proofs.Ytpgidpiaodgndak
open Go.RowKit Go.Proofs.Ytpgidpiaodgndak.RM

/-- several objects laid, one behind the other -/
def alls (w : World) : List Obj → World
  | [] => w
  | o :: r => alls (w.alloc o) r
theorem alls_size : ∀ (os : List Obj) (w : World), (alls w os).heap.size = w.heap.size + os.length
  | [], _ => rfl
  | o :: r, w => by
    show (alls (w.alloc o) r).heap.size = _
    rw [alls_size r (w.alloc o)]
    simp; omega
theorem alls_below : ∀ (os : List Obj) (w : World), Below w.heap.size w (alls w os)
  | [], _ => Below.refl _ _
  | o :: r, w => ((Below.refl _ _).alloc (Nat.le_refl _) o).trans ((alls_below r (w.alloc o)).mono (by simp))
theorem alls_at : ∀ (os : List Obj) (w : World) (i : Nat) (o : Obj), os[i]? = some o → (alls w os).heap[w.heap.size + i]? = some o
  | [], _, _, _, h => by simp at h
  | p :: r, w, 0, o, h => by
    have h1 : (w.alloc p).heap[w.heap.size]? = some p := by show (w.heap.push p)[w.heap.size]? = _; simp
    have h2 := (alls_below r (w.alloc p)).block w.heap.size (by simp)
    simp at h
    subst h
    show (alls (w.alloc p) r).heap[w.heap.size + 0]? = _
    rw [Nat.add_zero, h2, h1]
  | p :: r, w, i + 1, o, h => by
    have h1 := alls_at r (w.alloc p) i o (by simpa using h)
    show (alls (w.alloc p) r).heap[w.heap.size + (i + 1)]? = _
    rw [show w.heap.size + (i + 1) = (w.alloc p).heap.size + i by simp; omega]
    exact h1

def sName (k : Nat) : List UInt8 := ((sTab[k]?).map (·.1)).getD []
def sUv (k : Nat) : UV := ((sTab[k]?).map (·.2)).getD .zero
def sObjs (A : Nat) : List Obj :=
  [.cells #[.int .i64 0, .int .i64 0] 36, .cells (sTab.map fun r => Value.string ⟨r.1.toArray⟩).toArray 9, .cells (sTab.flatMap fun r => [Value.int .i64 r.2.n, .int .i64 r.2.d]).toArray 36]
  ++ (sTab.map fun r => Obj.cells (r.2.dims.map (Value.int .i64)).toArray 2) ++ [.cells ((List.range 15).map fun k => Value.slice (some ⟨A + 3 + k, 0, none⟩) 5 5).toArray 29]

theorem sName_dec : ∀ k, k < 15 → (sTab.map fun r => Value.string ⟨r.1.toArray⟩).toArray[k]? = some (.string ⟨(sName k).toArray⟩) := by
  intro k hk
  match k, hk with
  | 0, _ => rfl
  | 1, _ => rfl
  | 2, _ => rfl
  | 3, _ => rfl
  | 4, _ => rfl
  | 5, _ => rfl
  | 6, _ => rfl
  | 7, _ => rfl
  | 8, _ => rfl
  | 9, _ => rfl
  | 10, _ => rfl
  | 11, _ => rfl
  | 12, _ => rfl
  | 13, _ => rfl
  | 14, _ => rfl
theorem sFac_dec : ∀ k, k < 15 → (sTab.flatMap fun r => [Value.int .i64 r.2.n, .int .i64 r.2.d]).toArray[k * 2]? = some (.int .i64 (sUv k).n) ∧ (sTab.flatMap fun r => [Value.int .i64 r.2.n, .int .i64 r.2.d]).toArray[k * 2 + 1]? = some (.int .i64 (sUv k).d) := by
  intro k hk
  match k, hk with
  | 0, _ => exact ⟨rfl, rfl⟩
  | 1, _ => exact ⟨rfl, rfl⟩
  | 2, _ => exact ⟨rfl, rfl⟩
  | 3, _ => exact ⟨rfl, rfl⟩
  | 4, _ => exact ⟨rfl, rfl⟩
  | 5, _ => exact ⟨rfl, rfl⟩
  | 6, _ => exact ⟨rfl, rfl⟩
  | 7, _ => exact ⟨rfl, rfl⟩
  | 8, _ => exact ⟨rfl, rfl⟩
  | 9, _ => exact ⟨rfl, rfl⟩
  | 10, _ => exact ⟨rfl, rfl⟩
  | 11, _ => exact ⟨rfl, rfl⟩
  | 12, _ => exact ⟨rfl, rfl⟩
  | 13, _ => exact ⟨rfl, rfl⟩
  | 14, _ => exact ⟨rfl, rfl⟩
theorem sRow_dec (A : Nat) : ∀ k, k < 15 → (sObjs A)[3 + k]? = some (.cells ((sUv k).dims.map (Value.int .i64)).toArray 2) := by
  intro k hk
  match k, hk with
  | 0, _ => rfl
  | 1, _ => rfl
  | 2, _ => rfl
  | 3, _ => rfl
  | 4, _ => rfl
  | 5, _ => rfl
  | 6, _ => rfl
  | 7, _ => rfl
  | 8, _ => rfl
  | 9, _ => rfl
  | 10, _ => rfl
  | 11, _ => rfl
  | 12, _ => rfl
  | 13, _ => rfl
  | 14, _ => rfl
theorem sOut_dec (A : Nat) : ∀ k, k < 15 → (((List.range 15).map fun k => Value.slice (some ⟨A + 3 + k, 0, none⟩) 5 5).toArray)[k]? = some (.slice (some ⟨A + 3 + k, 0, none⟩) 5 5) := by
  intro k hk
  simp [hk]
theorem look_at (l : List UInt8) : ∀ (T : List (List UInt8 × UV)) (k : Nat) (r : List UInt8 × UV), T[k]? = some r → r.1 = l → (∀ j, j < k → ∀ q, T[j]? = some q → q.1 ≠ l) → look T l = some r.2
  | [], _, _, h, _, _ => by simp at h
  | (p, u) :: T, 0, r, h, e, _ => by
    simp at h
    subst h
    rw [look_cons, if_pos e]
  | (p, u) :: T, k + 1, r, h, e, hn => by
    rw [look_cons, if_neg (hn 0 (by omega) (p, u) rfl)]
    exact look_at l T k r (by simpa using h) e (fun j hj q hq => hn (j + 1) (by omega) q (by simpa using hq))
theorem look_no (l : List UInt8) : ∀ (T : List (List UInt8 × UV)), (∀ q ∈ T, q.1 ≠ l) → look T l = none
  | [], _ => rfl
  | (p, u) :: T, hn => by
    rw [look_cons, if_neg (hn (p, u) (by simp))]
    exact look_no l T (fun q hq => hn q (by simp [hq]))
theorem unit_hit {l : List UInt8} {k : Nat} (hk : k < 15) (he : sName k = l) (hn : ∀ j, j < k → sName j ≠ l) : unitS l = ((sUv k).n, (sUv k).d, (sUv k).dims, true) := by
  have hl : k < sTab.length := hk
  have h1 : sTab[k]? = some sTab[k] := List.getElem?_eq_getElem hl
  have h2 : look sTab l = some (sTab[k]).2 := look_at l sTab k _ h1 (by have := he; unfold sName at this; rw [h1] at this; exact this) (fun j hj q hq => by have := hn j hj; unfold sName at this; rw [hq] at this; exact this)
  have h3 : sUv k = (sTab[k]).2 := by unfold sUv; rw [h1]; rfl
  unfold unitS
  rw [← sFind_eq, h2, h3]
theorem unit_miss {l : List UInt8} (hn : ∀ j, j < 15 → sName j ≠ l) : unitS l = (0, 0, [], false) := by
  have h2 : look sTab l = none := look_no l sTab (fun q hq => by
    obtain ⟨j, hj, he⟩ := List.getElem_of_mem hq
    have := hn j hj
    unfold sName at this
    rw [List.getElem?_eq_getElem hj, he] at this
    exact this)
  unfold unitS
  rw [← sFind_eq, h2]

set_option maxRecDepth 100000 in
set_option maxHeartbeats 1000000 in
theorem sUnit_any (s : ByteArray) (w : World) :
    Calls Try.prog 47 #[.string s] w fun e w' => ∃ v, e = .returned (.tuple #[.agg #[.int .i64 (unitS s.data.toList).1, .int .i64 (unitS s.data.toList).2.1], v, .bool (unitS s.data.toList).2.2.2]) ∧ w'.ownsRow w.heap.size 2 1 v (unitS s.data.toList).2.2.1.length ((unitS s.data.toList).2.2.1.map (Value.int .i64)) ∧ Below w.heap.size w w' := by
  have b0 : ∀ (u : World) (o : Obj), Below u.heap.size u (u.alloc o) := fun u o => (Below.refl _ _).alloc (Nat.le_refl _) o
  obtain ⟨R, hR⟩ : ∃ R, R = unitS s.data.toList := ⟨_, rfl⟩
  have HQ := hidU hR
  rw [← hR]
  clear hR
  have HA : ∀ i o, (sObjs w.heap.size)[i]? = some o → (alls w (sObjs w.heap.size)).heap[w.heap.size + i]? = some o := fun i o h => alls_at _ w i o h
  have HB := alls_below (sObjs w.heap.size) w
  have HS := alls_size (sObjs w.heap.size) w
  go_enter Try.func47, Try.ntmps47
  go_wp2
  show Code.wp _ _ _ _ (alls w (sObjs w.heap.size))
  obtain ⟨A, hA⟩ : ∃ A, A = w.heap.size := ⟨_, rfl⟩
  have HAw : Hid (w.heap.size ≤ A) := Nat.le_of_eq hA.symm
  rw [← hA] at HA HS ⊢
  generalize hX : alls w (sObjs A) = X
  rw [← hA, hX] at HB
  rw [hX] at HA HS
  clear hX
  have HN : Hid (∀ k, k < 15 → X.cell? ⟨A + 1, k, none⟩ = some (.string ⟨(sName k).toArray⟩)) := fun k hk => by
    have h1 : IsB X (A + 1) _ 9 := HA 1 _ rfl
    exact h1.cell k (sName_dec k hk)
  have HF : Hid (∀ k, k < 15 → X.cell? ⟨A + 1 + 1, k * 2, none⟩ = some (.int .i64 (sUv k).n) ∧ X.cell? ⟨A + 1 + 1, k * 2 + 1, none⟩ = some (.int .i64 (sUv k).d)) := fun k hk => by
    have h1 : IsB X (A + 2) _ 36 := HA 2 _ rfl
    exact ⟨h1.cell _ (sFac_dec k hk).1, h1.cell _ (sFac_dec k hk).2⟩
  have HR : Hid (∀ k, k < 15 → X.heap[A + 3 + k]? = some (.cells ((sUv k).dims.map (Value.int .i64)).toArray 2 (0, 0))) := fun k hk => by
    have := HA (3 + k) _ (sRow_dec A k hk)
    rw [show A + 3 + k = A + (3 + k) by omega]
    exact this
  have HO : Hid (∀ k, k < 15 → X.cell? ⟨A + 1 + 1 + 1 + 1 + 1 + 1 + 1 + 1 + 1 + 1 + 1 + 1 + 1 + 1 + 1 + 1 + 1 + 1, k, none⟩ = some (.slice (some ⟨A + 3 + k, 0, none⟩) 5 5)) := fun k hk => by
    have h1 : IsB X (A + 18) _ 29 := HA 18 _ rfl
    exact h1.cell k (sOut_dec A k hk)
  have HZ : Hid (IsB X A #[.int .i64 0, .int .i64 0] 36) := HA 0 _ rfl
  have HBw : Hid (Below w.heap.size w X) := by rw [hA] at HB; exact HB
  obtain ⟨O0, hO0⟩ : ∃ O, O = A + 1 + 1 + 1 + 1 + 1 + 1 + 1 + 1 + 1 + 1 + 1 + 1 + 1 + 1 + 1 + 1 + 1 + 1 := ⟨_, rfl⟩
  obtain ⟨F0, hF0⟩ : ∃ O, O = A + 1 + 1 := ⟨_, rfl⟩
  obtain ⟨N0, hN0⟩ : ∃ O, O = A + 1 := ⟨_, rfl⟩
  rw [← hO0] at HO ⊢
  rw [← hF0] at HF ⊢
  rw [← hN0] at HN ⊢
  have hZ18 : A < X.heap.size := by rw [HS]; simp [sObjs, sTab]
  have hOA : Hid (O0 ≠ A) := by show _ ≠ _; omega
  clear HA HB HS hA hO0 hF0 hN0
  go_loop [8] (fun i => ∃ k : Nat, k ≤ 15 ∧ i = .int .i64 k ∧ Hid (∀ j, j < k → sName j ≠ s.data.toList)) (fun i => 15 - (intOf i).toNat)
  case atStart => exact ⟨0, by omega, rfl, fun j hj => absurd hj (by omega)⟩
  case round =>
    obtain ⟨k, hk, rfl, hN⟩ := hrel
    by_cases hk15 : k < 15
    · have cN := HN.out k hk15
      obtain ⟨nm, hnm⟩ : ∃ nm : ByteArray, nm = ⟨(sName k).toArray⟩ := ⟨_, rfl⟩
      have hnl : nm.toList = sName k := by rw [hnm, ByteArray.toList_eq]
      have hsl : s.toList = s.data.toList := by rw [ByteArray.toList_eq]
      rw [← hnm] at cN
      have hki : (k : Int) < 15 := by omega
      have hki0 : (0 : Int) ≤ k := by omega
      by_cases he : sName k = s.data.toList
      · have hq : (nm.toList == s.toList) = true := by rw [hnl, hsl, he]; simp
        have hq2 : nm.toList = s.toList := by rw [hnl, hsl, he]
        obtain ⟨cF, cG⟩ := HF.out k hk15
        have cO := HO.out k hk15
        obtain rfl : R = _ := HQ.out.trans (unit_hit hk15 he hN.out)
        clear hnm hnl hsl he
        have z0 := HZ.out.cell 0 rfl
        have z1 := HZ.out.cell 1 rfl
        have f0 := HZ.out.frozen 0
        have f1 := HZ.out.frozen 1
        have c2 := cell_stb (u := .int .i64 (sUv k).d) (q := 1) (cell_stb (u := .int .i64 (sUv k).n) (q := 0) cO hOA.out) hOA.out
        go_upto_region 8 with fail
        go_region
        go_wp2
        obtain ⟨e0, e1⟩ := new2 (n := .int .i64 (sUv k).n) (d := .int .i64 (sUv k).d) z0 z1
        have hRk : IsB ((X.setCell ⟨A, 0, none⟩ (.int .i64 (sUv k).n)).setCell ⟨A, 1, none⟩ (.int .i64 (sUv k).d)) (A + 3 + k) _ 2 := (IsB.other (show IsB X (A + 3 + k) _ 2 from HR.out k hk15) (by omega) 0 _).other (by omega) 1 _
        exact bodyPost_ret (v := .tuple #[.agg #[.int .i64 (sUv k).n, .int .i64 (sUv k).d], .slice (some ⟨A + 3 + k, 0, none⟩) 5 5, .bool true]) (by simp [results, Try.results47, go_sem, e0, e1]) rfl ⟨_, rfl, ⟨rfl, .inr ⟨A + 3 + k, 5, _, rfl, by have := HAw.out; omega, hRk, Nat.le_refl _, by unfold maxLen; omega, rfl, rfl⟩⟩, ((HBw.out.setCell (p := ⟨A, 0, none⟩) HAw.out _).setCell (p := ⟨A, 1, none⟩) HAw.out _).drew⟩
      · have hq : (nm.toList == s.toList) = false := by rw [hnl, hsl]; exact beq_eq_false_iff_ne.2 he
        have hq2 : ¬ nm.toList = s.toList := by rw [hnl, hsl]; exact he
        have hN2 : Hid (∀ j, j < k + 1 → sName j ≠ s.data.toList) := fun j hj => by
          by_cases hj2 : j < k
          · exact hN.out j hj2
          · have : j = k := by omega
            subst this; exact he
        clear hnm hnl hsl he
        go_wp2
        go_round
        case rel => exact ⟨k + 1, by omega, by go_num, hN2.out⟩
        case measure => simp [intOf]; omega
    · obtain rfl : k = 15 := by omega
      obtain rfl : R = _ := HQ.out.trans (unit_miss hN.out)
      have z0 := HZ.out.cell 0 rfl
      have z1 := HZ.out.cell 1 rfl
      have f0 := HZ.out.frozen 0
      have f1 := HZ.out.frozen 1
      obtain ⟨e0, e1⟩ := new2 (n := .int .i64 0) (d := .int .i64 0) z0 z1
      have hBF : Hid (Below w.heap.size w ((X.setCell ⟨A, 0, none⟩ (.int .i64 0)).setCell ⟨A, 1, none⟩ (.int .i64 0))) := (HBw.out.setCell (p := ⟨A, 0, none⟩) HAw.out (.int .i64 0)).setCell (p := ⟨A, 1, none⟩) HAw.out (.int .i64 0)
      go_wp2
      have hXs := HBw.out.size
      replace e0 := cell_al (.cells #[] 2) e0
      replace e1 := cell_al (.cells #[] 2) e1
      have hE : IsB (((X.setCell ⟨A, 0, none⟩ (.int .i64 0)).setCell ⟨A, 1, none⟩ (.int .i64 0)).alloc (.cells #[] 2)) X.heap.size #[] 2 := by
        have := IsB.new ((X.setCell ⟨A, 0, none⟩ (.int .i64 0)).setCell ⟨A, 1, none⟩ (.int .i64 0)) #[] 2
        simpa using this
      exact bodyPost_ret (v := .tuple #[.agg #[.int .i64 0, .int .i64 0], .slice (some ⟨X.heap.size, 0, none⟩) 0 0, .bool false]) (by simp [results, Try.results47, go_sem, e0, e1]) rfl ⟨_, rfl, ⟨rfl, .inr ⟨X.heap.size, 0, #[], rfl, hXs, hE, Nat.le_refl _, Nat.zero_le _, rfl, rfl⟩⟩, hBF.out.alloc hBF.out.size _⟩
end Go.Proofs.Ytpgidpiaodgndak
