/- Several texts of this proof laid one behind the other: each has its own heading below. -/
import Derived.Test.YtbbkejfcheobaabRowsR
import Derived.Test.YtbbkejfcheobaabRowsI
import Derived.Test.YtbbkejfcheobaabTabI0
import Derived.Deep.RegionWith
import Derived.Test.YtbbkejfcheobaabRatioMath

/- The walks of the laws' helpers that hold two lists against each other. -/
namespace Go.Proofs.Ytbbkejfcheobaab
open Go.RowKit Go.Proofs.Ytbbkejfcheobaab.RM

set_option maxRecDepth 100000 in
set_option maxHeartbeats 1000000 in
theorem likeI_same (v u : Value) (zs : List Int) (n b1 b2 : Nat) (w : World) (hn : zs.length = n) (hn2 : n ≤ 1000000000) (h1 : w.ownsRow b1 2 1 v n (zs.map (Value.int .i64))) (h2 : w.ownsRow b2 2 1 u n (zs.map (Value.int .i64))) :
    Calls Try.prog 42 #[v, u] w fun e w' => e = .returned (.bool true) ∧ ∃ m, w' = w.drewN m := by
  by_cases h0 : n = 0
  · obtain ⟨a, c, rfl⟩ := own_shape h1
    obtain ⟨a', c', rfl⟩ := own_shape h2
    subst h0
    clear h1 h2 hn
    go_enter Try.func42, Try.ntmps42
    go_wp2
    go_loop [5] (fun i => i = .int .i64 0) (fun _ => 0)
    case atStart => exact rfl
    case round =>
      subst hrel
      go_wp2
      go_ret
      exact ⟨rfl, 0, rfl⟩
  · obtain ⟨g, c, rfl⟩ := own_some h1 (by omega)
    obtain ⟨g', c', rfl⟩ := own_some h2 (by omega)
    have H1 : Hid (∀ j, j < n → w.cell? ⟨g, j, none⟩ = some (.int .i64 (zs[j]?.getD 0))) := fun j hj => own_int h1 hn j hj
    have H2 : Hid (∀ j, j < n → w.cell? ⟨g', j, none⟩ = some (.int .i64 (zs[j]?.getD 0))) := fun j hj => own_int h2 hn j hj
    clear h1 h2 hn h0
    go_enter Try.func42, Try.ntmps42
    go_wp2
    go_loopw [5] (fun i wr => ∃ k : Nat, k ≤ n ∧ i = .int .i64 k ∧ Hid (∃ m, wr = w.drewN m)) (fun i _ => n - (intOf i).toNat)
    case atStart => exact ⟨0, Nat.zero_le _, rfl, 0, rfl⟩
    case round =>
      obtain ⟨k, hk, rfl, hw⟩ := hrel
      obtain ⟨m, rfl⟩ := hw.out
      clear hw
      by_cases hlt : k < n
      · have c1 := H1.out k hlt
        have c2 := H2.out k hlt
        obtain ⟨x, hx⟩ : ∃ x, x = zs[k]?.getD 0 := ⟨_, rfl⟩
        rw [← hx] at c1 c2
        clear hx
        have ht : (x != x) = false := by simp
        go_wp2
        go_quiet (fail)
        go_wp2
        go_roundw
        case rel => exact ⟨k + 1, by omega, by go_num, m + nq, rfl⟩
        case measure => simp [intOf]; omega
      · go_wp2
        go_ret
        exact ⟨rfl, m, rfl⟩

set_option maxRecDepth 100000 in
set_option maxHeartbeats 1000000 in
theorem likeR_same (v u : Value) (ps : List (Int × Int)) (n b1 b2 : Nat) (w : World) (hn : ps.length = n) (hn2 : n ≤ 1000000000) (h1 : w.ownsRow b1 25 2 v n (cellsR ps)) (h2 : w.ownsRow b2 25 2 u n (cellsR ps)) :
    Calls Try.prog 36 #[v, u] w fun e w' => e = .returned (.bool true) ∧ Below w.heap.size w w' := by
  by_cases h0 : n = 0
  · obtain ⟨a, c, rfl⟩ := own_shape h1
    obtain ⟨a', c', rfl⟩ := own_shape h2
    subst h0
    clear h1 h2 hn
    go_enter Try.func36, Try.ntmps36
    go_wp2
    go_loop [5] (fun i => i = .int .i64 0) (fun _ => 0)
    case atStart => exact rfl
    case round =>
      subst hrel
      go_wp2
      go_ret
      exact ⟨rfl, Below.refl _ _⟩
  · obtain ⟨g, c, rfl⟩ := own_some h1 (by omega)
    obtain ⟨g', c', rfl⟩ := own_some h2 (by omega)
    have hg : g < w.heap.size := (h1.lt g rfl).2
    have hg' : g' < w.heap.size := (h2.lt g' rfl).2
    have H1 : Hid (∀ j, j < n → w.cell? ⟨g, j * 2, none⟩ = some (.int .i64 (ps[j]?.getD (0, 0)).1) ∧ w.cell? ⟨g, j * 2 + 1, none⟩ = some (.int .i64 (ps[j]?.getD (0, 0)).2)) := fun j hj => own_R h1 hn j hj
    have H2 : Hid (∀ j, j < n → w.cell? ⟨g', j * 2, none⟩ = some (.int .i64 (ps[j]?.getD (0, 0)).1) ∧ w.cell? ⟨g', j * 2 + 1, none⟩ = some (.int .i64 (ps[j]?.getD (0, 0)).2)) := fun j hj => own_R h2 hn j hj
    clear h1 h2 hn h0
    go_enter Try.func36, Try.ntmps36
    go_wp2
    go_loopw [5] (fun i wr => ∃ k : Nat, k ≤ n ∧ i = .int .i64 k ∧ Hid (Below w.heap.size w wr)) (fun i _ => n - (intOf i).toNat)
    case atStart => exact ⟨0, Nat.zero_le _, rfl, Below.refl _ _⟩
    case round =>
      obtain ⟨k, hk, rfl, hB⟩ := hrel
      by_cases hlt : k < n
      · obtain ⟨c1, c2⟩ := H1.out k hlt
        obtain ⟨c3, c4⟩ := H2.out k hlt
        obtain ⟨p, hp⟩ : ∃ p, p = ps[k]?.getD (0, 0) := ⟨_, rfl⟩
        rw [← hp] at c1 c2 c3 c4
        obtain ⟨x, y⟩ := p
        replace c1 := (hB.out.cell (p := ⟨g, k * 2, none⟩) hg).trans c1
        replace c2 := (hB.out.cell (p := ⟨g, k * 2 + 1, none⟩) hg).trans c2
        replace c3 := (hB.out.cell (p := ⟨g', k * 2, none⟩) hg').trans c3
        replace c4 := (hB.out.cell (p := ⟨g', k * 2 + 1, none⟩) hg').trans c4
        clear hp
        have ht : (x != x) = false := by simp
        have ht2 : (y != y) = false := by simp
        go_wp2
        go_quiet (fail)
        go_wp2
        go_roundw
        case rel => exact ⟨k + 1, by omega, by go_num, below_drewN hB.out _⟩
        case measure => simp [intOf]; omega
      · go_wp2
        go_ret
        exact ⟨rfl, hB.out⟩

end Go.Proofs.Ytbbkejfcheobaab

/- The law's comparison of two lists of numbers, alike or not; what powers of dimensions are. -/
namespace Go.Proofs.Ytbbkejfcheobaab
open Go.RowKit Go.Proofs.Ytbbkejfcheobaab.RM

theorem hidJ {p : Prop} (h : p) : Hid p := h
set_option maxRecDepth 100000 in
set_option maxHeartbeats 1000000 in
theorem likeI_any (v u : Value) (zs ys : List Int) (b1 b2 : Nat) (e1 e2 : TypeId) (w : World) (hz : zs.length ≤ 1000000000) (hy : ys.length ≤ 1000000000) (h1 : w.ownsRow b1 e1 1 v zs.length (zs.map (Value.int .i64))) (h2 : w.ownsRow b2 e2 1 u ys.length (ys.map (Value.int .i64))) :
    Calls Try.prog 42 #[v, u] w fun e w' => e = .returned (.bool (decide (zs = ys))) ∧ Below w.heap.size w w' := by
  obtain ⟨n, hn⟩ : ∃ n, n = zs.length := ⟨_, rfl⟩
  obtain ⟨m, hm⟩ : ∃ m, m = ys.length := ⟨_, rfl⟩
  rw [← hn] at h1 hz
  rw [← hm] at h2 hy
  obtain ⟨a, c, rfl⟩ := own_shape h1
  obtain ⟨a', c', rfl⟩ := own_shape h2
  have H1 : Hid (∀ j, j < n → ∃ g, a = some ⟨g, 0, none⟩ ∧ w.cell? ⟨g, j, none⟩ = some (.int .i64 (zs[j]?.getD 0))) := by
    intro j hj
    obtain ⟨g, cc, e⟩ := own_some h1 (by omega)
    cases e
    exact ⟨g, rfl, own_int h1 hn.symm j hj⟩
  have H2 : Hid (∀ j, j < m → ∃ g, a' = some ⟨g, 0, none⟩ ∧ w.cell? ⟨g, j, none⟩ = some (.int .i64 (ys[j]?.getD 0))) := by
    intro j hj
    obtain ⟨g, cc, e⟩ := own_some h2 (by omega)
    cases e
    exact ⟨g, rfl, own_int h2 hm.symm j hj⟩
  have HN := hidJ hn
  have HM := hidJ hm
  clear h1 h2 hn hm
  by_cases hnm : n = m
  · subst hnm
    have hne : ((n : Int) != (n : Int)) = false := by simp
    go_enter Try.func42, Try.ntmps42
    go_wp2
    go_loopw [5] (fun i wr => ∃ k : Nat, k ≤ n ∧ i = .int .i64 k ∧ Hid (∃ m, wr = w.drewN m) ∧ Hid (∀ j, j < k → zs[j]?.getD 0 = ys[j]?.getD 0)) (fun i _ => n - (intOf i).toNat)
    case atStart => exact ⟨0, Nat.zero_le _, rfl, ⟨0, rfl⟩, fun j hj => absurd hj (Nat.not_lt_zero _)⟩
    case round =>
      obtain ⟨k, hk, rfl, hw, HE⟩ := hrel
      obtain ⟨m, rfl⟩ := hw.out
      clear hw
      by_cases hlt : k < n
      · obtain ⟨g, rfl, c1⟩ := H1.out k hlt
        obtain ⟨g', rfl, c2⟩ := H2.out k hlt
        obtain ⟨x, hx⟩ : ∃ x, x = zs[k]?.getD 0 := ⟨_, rfl⟩
        obtain ⟨y, hy'⟩ : ∃ x, x = ys[k]?.getD 0 := ⟨_, rfl⟩
        have HX : Hid (x = zs[k]?.getD 0 ∧ y = ys[k]?.getD 0) := ⟨hx, hy'⟩
        rw [← hx] at c1
        rw [← hy'] at c2
        clear hx hy'
        by_cases hxy : x = y
        · subst hxy
          have ht : (x != x) = false := by simp
          go_wp2
          go_quiet (fail)
          go_wp2
          go_roundw
          case rel =>
            refine ⟨k + 1, by omega, by go_num, ⟨m + nq, rfl⟩, fun j hj => ?_⟩
            by_cases e : j = k
            · subst e; rw [← HX.out.1]; exact HX.out.2
            · exact HE.out j (by omega)
          case measure => simp [intOf]; omega
        · have ht : (x != y) = true := by simpa using hxy
          have HF : Hid (decide (zs = ys) = false) := by
            refine decide_eq_false fun e => hxy ?_
            rw [HX.out.1, HX.out.2, e]
          go_wp2
          go_quiet (fail)
          go_wp2
          go_ret
          exact ⟨ret_bool HF.out.symm, by first | exact below_drewN (below_drewN (Below.refl _ _) _) _ | exact below_drewN (Below.refl _ _) _⟩
      · obtain rfl : k = n := by omega
        have HT : Hid (decide (zs = ys) = true) := by
          refine decide_eq_true (List.ext_getElem (by rw [← HN.out, ← HM.out]) fun j h1 h2 => ?_)
          have := HE.out j (by have := HN.out; omega)
          rw [List.getElem?_eq_getElem h1, List.getElem?_eq_getElem h2] at this
          exact this
        go_wp2
        go_ret
        exact ⟨ret_bool HT.out.symm, below_drewN (Below.refl _ _) _⟩
  · have hne : ((n : Int) != (m : Int)) = true := by simp; omega
    have HF : Hid (decide (zs = ys) = false) := decide_eq_false fun e => hnm (by rw [HN.out, HM.out, e])
    go_enter Try.func42, Try.ntmps42
    go_wp2
    go_ret
    exact ⟨ret_bool HF.out.symm, Below.refl _ _⟩
end Go.Proofs.Ytbbkejfcheobaab

/- The walk of two like tables of whole numbers held against each other. -/
namespace Go.Proofs.Ytbbkejfcheobaab
open Go.RowKit Go.Proofs.Ytbbkejfcheobaab.RM

set_option maxRecDepth 100000 in
set_option maxHeartbeats 1000000 in
theorem likeG_any (v u : Value) (us vs : List Value) (b1 b2 : Nat) (rows : List (List Int)) (w : World) (hl : rows.length ≤ 1048576) (hrl : ∀ i, i < rows.length → (ri rows i).length ≤ 1048576) (h : TabI w b1 v us rows) (h' : TabI w b2 u vs rows) :
    Calls Try.prog 41 #[v, u] w fun e w' => e = .returned (.bool true) ∧ Below w.heap.size w w' := by
  obtain ⟨n, hn⟩ : ∃ n, n = rows.length := ⟨_, rfl⟩
  have ho := h.outer
  have ho' := h'.outer
  have e1 : us.length = n := h.len.trans hn.symm
  have e2 : vs.length = n := h'.len.trans hn.symm
  rw [e1] at ho
  rw [e2] at ho'
  obtain ⟨a, c, rfl⟩ := own_shape ho
  obtain ⟨a', c', rfl⟩ := own_shape ho'
  have H5 : Hid (∀ i, i < n → ∃ g, a = some ⟨g, 0, none⟩ ∧ w.cell? ⟨g, i, none⟩ = some (vl us i)) := by
    intro i hi
    obtain ⟨g, cc, e⟩ := own_some ho (by omega)
    cases e
    have d1 := ho.cellAt i (by omega)
    rw [List.getElem?_eq_getElem (by omega)] at d1
    exact ⟨g, rfl, by rw [d1]; simp [vl, List.getElem?_eq_getElem (show i < us.length by omega)]⟩
  have H6 : Hid (∀ i, i < n → ∃ g, a' = some ⟨g, 0, none⟩ ∧ w.cell? ⟨g, i, none⟩ = some (vl vs i)) := by
    intro i hi
    obtain ⟨g, cc, e⟩ := own_some ho' (by omega)
    cases e
    have d1 := ho'.cellAt i (by omega)
    rw [List.getElem?_eq_getElem (by omega)] at d1
    exact ⟨g, rfl, by rw [d1]; simp [vl, List.getElem?_eq_getElem (show i < vs.length by omega)]⟩
  have HC : Hid (∀ k, k < n → ∀ W : World, Below w.heap.size w W → Calls Try.prog 42 #[vl us k, vl vs k] W fun e w' => e = .returned (.bool true) ∧ Below W.heap.size W w') := by
    intro k hk W hW
    have hh := likeI_any (vl us k) (vl vs k) (ri rows k) (ri rows k) _ _ _ _ W (by have := hrl k (by omega); omega) (by have := hrl k (by omega); omega) (own_below (h.inner k (by omega)) hW) (own_below (h'.inner k (by omega)) hW)
    rw [decide_eq_true rfl] at hh
    exact hh
  rw [← hn] at hl
  clear h h' ho ho' hn e1 e2 hrl
  go_enter Try.func41, Try.ntmps41
  go_wp2
  go_loopw [5] (fun i wr => ∃ k : Nat, k ≤ n ∧ i = .int .i64 k ∧ Hid (Below w.heap.size w wr)) (fun i _ => n - (intOf i).toNat)
  case atStart => exact ⟨0, Nat.zero_le _, rfl, Below.refl _ _⟩
  case round =>
    obtain ⟨k, hk, rfl, hB⟩ := hrel
    by_cases hlt : k < n
    · obtain ⟨g, rfl, c1⟩ := H5.out k hlt
      obtain ⟨g', rfl, c3⟩ := H6.out k hlt
      replace c1 := cell_keep hB.out c1
      replace c3 := cell_keep hB.out c3
      have HCk := hidL0 (HC.out k hlt)
      obtain ⟨x, hx⟩ : ∃ x, x = vl us k := ⟨_, rfl⟩
      obtain ⟨y, hy⟩ : ∃ x, x = vl vs k := ⟨_, rfl⟩
      rw [← hx] at c1 HCk
      rw [← hy] at c3 HCk
      clear hx hy
      go_wp2
      go_region_with (go_at_call 42; refine (HCk.out _ (by first | exact hB.out | exact hB.out.drew | exact below_drewN hB.out _)).mono ?_; rintro e w1 ⟨rfl, hb⟩; have B1 : Below w.heap.size w w1 := Below.trans (by first | exact hB.out | exact hB.out.drew | exact below_drewN hB.out _) (hb.mono (by simpa using hB.out.size)))
      all_goals go_wp2
      all_goals
        go_roundw
        case rel => exact ⟨k + 1, by omega, by go_num, B1⟩
        case measure => simp [intOf]; omega
    · go_wp2
      go_ret
      exact ⟨rfl, hB.out⟩

end Go.Proofs.Ytbbkejfcheobaab

/- Determinants of whole numbers, by rows that are chosen: linear, alternating; what solves is told by them; how great they are. -/
namespace Go.Proofs.Ytbbkejfcheobaab

def sumI (f : Nat → Int) : Nat → Int
  | 0 => 0
  | n + 1 => sumI f n + f n
theorem sumI_congr {f g : Nat → Int} {n : Nat} (h : ∀ j, j < n → f j = g j) : sumI f n = sumI g n := by
  induction n with
  | zero => rfl
  | succ n ih => simp only [sumI]; rw [ih (fun j hj => h j (by omega)), h n (by omega)]
theorem sumI_add (f g : Nat → Int) (n : Nat) : sumI (fun j => f j + g j) n = sumI f n + sumI g n := by
  induction n with
  | zero => rfl
  | succ n ih => simp only [sumI]; rw [ih]; omega
theorem sumI_mul (a : Int) (f : Nat → Int) (n : Nat) : sumI (fun j => a * f j) n = a * sumI f n := by
  induction n with
  | zero => simp [sumI]
  | succ n ih => simp only [sumI]; rw [ih, Int.mul_add]
theorem sumI_zero {f : Nat → Int} {n : Nat} (h : ∀ j, j < n → f j = 0) : sumI f n = 0 := by
  rw [sumI_congr (g := fun _ => 0) h]
  induction n with
  | zero => rfl
  | succ n ih => simp only [sumI]; rw [ih (fun _ _ => h _ (by omega))]; rfl
theorem sumI_one {f : Nat → Int} {n a : Nat} (ha : a < n) (h : ∀ j, j < n → j ≠ a → f j = 0) : sumI f n = f a := by
  induction n with
  | zero => omega
  | succ n ih =>
    simp only [sumI]
    by_cases e : a = n
    · subst e
      rw [sumI_zero (fun j hj => h j (by omega) (by omega))]
      omega
    · rw [ih (by omega) (fun j hj hne => h j (by omega) hne), h n (by omega) (by omega)]
      omega
theorem sumI_two {f : Nat → Int} {n a : Nat} (ha : a + 1 < n) (h : ∀ j, j < n → j ≠ a → j ≠ a + 1 → f j = 0) : sumI f n = f a + f (a + 1) := by
  induction n with
  | zero => omega
  | succ n ih =>
    simp only [sumI]
    by_cases e : a + 1 = n
    · subst e
      rw [sumI_one (a := a) (by omega) (fun j hj hne => h j (by omega) hne (by omega))]
    · rw [ih (by omega) (fun j hj h1 h2 => h j (by omega) h1 h2), h n (by omega) (by omega) (by omega)]
      omega
def sgn (k : Nat) : Int := if k % 2 = 0 then 1 else -1
theorem sgn_succ (k : Nat) : sgn (k + 1) = - sgn k := by
  unfold sgn
  by_cases h : k % 2 = 0
  · rw [if_pos h, if_neg (by omega)]
  · rw [if_neg h, if_pos (by omega)]; rfl
theorem sgn_ne (k : Nat) : sgn k ≠ 0 := by
  unfold sgn
  split <;> omega
abbrev Col := Nat → Int
def cv (cs : List Col) (k : Nat) : Col := cs[k]?.getD (fun _ => 0)
def det : List Nat → List Col → Int
  | [], _ => 1
  | i :: I, cs => sumI (fun k => sgn k * cv cs k i * det I (cs.eraseIdx k)) cs.length
theorem cv_set (cs : List Col) (k j : Nat) (u : Col) (hk : k < cs.length) : cv (cs.set k u) j = if k = j then u else cv cs j := by
  unfold cv
  rw [List.getElem?_set]
  by_cases e : k = j
  · subst e; rw [if_pos rfl, if_pos rfl, if_pos hk]; rfl
  · rw [if_neg e, if_neg e]
theorem len_erase (cs : List Col) (j : Nat) (h : j < cs.length) : (cs.eraseIdx j).length = cs.length - 1 := List.length_eraseIdx_of_lt h
theorem det_add : ∀ (I : List Nat) (cs : List Col) (k : Nat) (u v : Col), I.length = cs.length → k < cs.length → det I (cs.set k (fun i => u i + v i)) = det I (cs.set k u) + det I (cs.set k v)
  | [], cs, k, u, v, hl, hk => by simp at hl; omega
  | i :: I, cs, k, u, v, hl, hk => by
    simp only [det, List.length_set]
    rw [← sumI_add]
    refine sumI_congr fun j hj => ?_
    rw [cv_set _ _ _ _ hk, cv_set _ _ _ _ hk, cv_set _ _ _ _ hk]
    by_cases e : k = j
    · subst e
      rw [if_pos rfl, if_pos rfl, if_pos rfl, List.eraseIdx_set_eq, List.eraseIdx_set_eq, List.eraseIdx_set_eq, Int.mul_add, Int.add_mul]
    · rw [if_neg e, if_neg e, if_neg e, ← Int.mul_add]
      congr 1
      have hl' : I.length = (cs.eraseIdx j).length := by rw [len_erase cs j hj]; simp at hl; omega
      by_cases hjk : j < k
      · rw [List.eraseIdx_set_lt hjk, List.eraseIdx_set_lt hjk, List.eraseIdx_set_lt hjk]
        exact det_add I (cs.eraseIdx j) (k - 1) u v hl' (by rw [len_erase cs j hj]; omega)
      · rw [List.eraseIdx_set_gt (by omega), List.eraseIdx_set_gt (by omega), List.eraseIdx_set_gt (by omega)]
        exact det_add I (cs.eraseIdx j) k u v hl' (by rw [len_erase cs j hj]; omega)
theorem det_mul : ∀ (I : List Nat) (cs : List Col) (k : Nat) (a : Int) (u : Col), I.length = cs.length → k < cs.length → det I (cs.set k (fun i => a * u i)) = a * det I (cs.set k u)
  | [], cs, k, a, u, hl, hk => by simp at hl; omega
  | i :: I, cs, k, a, u, hl, hk => by
    simp only [det, List.length_set]
    rw [← sumI_mul]
    refine sumI_congr fun j hj => ?_
    rw [cv_set _ _ _ _ hk, cv_set _ _ _ _ hk]
    by_cases e : k = j
    · subst e
      rw [if_pos rfl, if_pos rfl, List.eraseIdx_set_eq, List.eraseIdx_set_eq, ← Int.mul_assoc, ← Int.mul_assoc]
      congr 1
      rw [← Int.mul_assoc, Int.mul_comm (sgn k) a]
    · rw [if_neg e, if_neg e]
      have hl' : I.length = (cs.eraseIdx j).length := by rw [len_erase cs j hj]; simp at hl; omega
      have key : det I ((cs.set k (fun i => a * u i)).eraseIdx j) = a * det I ((cs.set k u).eraseIdx j) := by
        by_cases hjk : j < k
        · rw [List.eraseIdx_set_lt hjk, List.eraseIdx_set_lt hjk]
          exact det_mul I (cs.eraseIdx j) (k - 1) a u hl' (by rw [len_erase cs j hj]; omega)
        · rw [List.eraseIdx_set_gt (by omega), List.eraseIdx_set_gt (by omega)]
          exact det_mul I (cs.eraseIdx j) k a u hl' (by rw [len_erase cs j hj]; omega)
      rw [key, ← Int.mul_assoc, ← Int.mul_assoc, Int.mul_comm a, Int.mul_assoc]
/-- two that stand side by side are alike -/
theorem det_adj : ∀ (I : List Nat) (cs : List Col) (p : Nat), I.length = cs.length → p + 1 < cs.length → cs[p]? = cs[p + 1]? → det I cs = 0
  | [], cs, p, hl, hp, h => by simp at hl; omega
  | i :: I, cs, p, hl, hp, h => by
    simp only [det]
    have hsame : cs.eraseIdx p = cs.eraseIdx (p + 1) := by
      apply List.ext_getElem?
      intro j
      rw [List.getElem?_eraseIdx, List.getElem?_eraseIdx]
      by_cases h1 : j < p
      · rw [if_pos h1, if_pos (by omega)]
      · rw [if_neg h1]
        by_cases h2 : j = p
        · subst h2; rw [if_pos (by omega)]; exact h.symm
        · rw [if_neg (by omega)]
    rw [sumI_two (a := p) hp (fun j hj h1 h2 => ?_)]
    · rw [hsame, sgn_succ]
      have : cv cs (p + 1) = cv cs p := by unfold cv; rw [h]
      rw [this, Int.neg_mul, Int.neg_mul]
      omega
    · have hl' : I.length = (cs.eraseIdx j).length := by rw [len_erase cs j hj]; simp at hl; omega
      by_cases hjp : j < p
      · rw [det_adj I (cs.eraseIdx j) (p - 1) hl' (by rw [len_erase cs j hj]; omega) (by
          rw [List.getElem?_eraseIdx, List.getElem?_eraseIdx, if_neg (by omega), if_neg (by omega), show p - 1 + 1 = p by omega]; exact h), Int.mul_zero]
      · rw [det_adj I (cs.eraseIdx j) p hl' (by rw [len_erase cs j hj]; omega) (by
          rw [List.getElem?_eraseIdx, List.getElem?_eraseIdx, if_pos (by omega), if_pos (by omega)]; exact h), Int.mul_zero]
/-- two that stand side by side are exchanged -/
theorem det_swap (I : List Nat) (cs : List Col) (p : Nat) (u v : Col) (hl : I.length = cs.length) (hp : p + 1 < cs.length) :
    det I ((cs.set p u).set (p + 1) v) = - det I ((cs.set p v).set (p + 1) u) := by
  have z : ∀ x : Col, det I ((cs.set p x).set (p + 1) x) = 0 := fun x => det_adj I _ p (by simp [hl]) (by simpa using hp) (by
    rw [List.getElem?_set_ne (by omega), List.getElem?_set_self (by omega), List.getElem?_set_self (by simpa using hp)])
  have l2 : ∀ x y1 y2 : Col, det I ((cs.set p x).set (p + 1) (fun i => y1 i + y2 i)) = det I ((cs.set p x).set (p + 1) y1) + det I ((cs.set p x).set (p + 1) y2) := fun x y1 y2 => det_add I (cs.set p x) (p + 1) y1 y2 (by simp [hl]) (by simpa using hp)
  have l1 : ∀ x1 x2 y : Col, det I ((cs.set p (fun i => x1 i + x2 i)).set (p + 1) y) = det I ((cs.set p x1).set (p + 1) y) + det I ((cs.set p x2).set (p + 1) y) := by
    intro x1 x2 y
    rw [List.set_comm _ _ (by omega), List.set_comm x1 _ (by omega), List.set_comm x2 _ (by omega)]
    exact det_add I (cs.set (p + 1) y) p x1 x2 (by simp [hl]) (by simp; omega)
  have h := z (fun i => u i + v i)
  rw [l2, l1, l1, z u, z v] at h
  omega
theorem set_cv (cs : List Col) (k : Nat) (hk : k < cs.length) : cs.set k (cv cs k) = cs := by
  apply List.ext_getElem?
  intro j
  rw [List.getElem?_set]
  by_cases e : k = j
  · subst e
    rw [if_pos rfl, if_pos hk]
    unfold cv
    rw [List.getElem?_eq_getElem hk]; rfl
  · rw [if_neg e]
/-- two are alike -/
theorem det_alt (I : List Nat) : ∀ (n : Nat) (cs : List Col) (p q : Nat), q = p + 1 + n → I.length = cs.length → q < cs.length → cv cs p = cv cs q → det I cs = 0
  | 0, cs, p, q, hq, hl, hlt, h => by
    subst hq
    refine det_adj I cs p hl hlt ?_
    unfold cv at h
    rw [List.getElem?_eq_getElem (by omega), List.getElem?_eq_getElem hlt] at h ⊢
    simpa using h
  | n + 1, cs, p, q, hq, hl, hlt, h => by
    have e1 : (cs.set (q - 1) (cv cs (q - 1))).set (q - 1 + 1) (cv cs q) = cs := by
      rw [set_cv cs (q - 1) (by omega), show q - 1 + 1 = q by omega, set_cv cs q hlt]
    have h2 := det_swap I cs (q - 1) (cv cs (q - 1)) (cv cs q) hl (by omega)
    rw [e1] at h2
    rw [h2]
    have h3 : det I ((cs.set (q - 1) (cv cs q)).set (q - 1 + 1) (cv cs (q - 1))) = 0 := by
      refine det_alt I n _ p (q - 1) (by omega) (by simp [hl]) (by simp; omega) ?_
      rw [cv_set _ _ _ _ (by simp; omega), if_neg (by omega), cv_set _ _ _ _ (by omega), if_neg (by omega), cv_set _ _ _ _ (by simp; omega), if_neg (by omega), cv_set _ _ _ _ (by omega), if_pos rfl]
      exact h
    rw [h3]; rfl
theorem det_same (I : List Nat) (cs : List Col) (p q : Nat) (hpq : p ≠ q) (hl : I.length = cs.length) (hp : p < cs.length) (hq : q < cs.length) (h : cv cs p = cv cs q) : det I cs = 0 := by
  rcases Nat.lt_or_gt_of_ne hpq with hlt | hlt
  · exact det_alt I (q - p - 1) cs p q (by omega) hl hq h
  · exact det_alt I (p - q - 1) cs q p (by omega) hl hp h.symm
theorem det_sum (I : List Nat) (cs : List Col) (k : Nat) (Z : Nat → Int) (w : Nat → Col) (hl : I.length = cs.length) (hk : k < cs.length) : ∀ n, det I (cs.set k (fun i => sumI (fun j => Z j * w j i) n)) = sumI (fun j => Z j * det I (cs.set k (w j))) n
  | 0 => by
    have := det_mul I cs k 0 (fun _ => 0) hl hk
    simp only [sumI]
    simpa using this
  | n + 1 => by
    simp only [sumI]
    rw [det_add I cs k (fun i => sumI (fun j => Z j * w j i) n) (fun i => Z n * w n i) hl hk, det_sum I cs k Z w hl hk n, det_mul I cs k (Z n) (w n) hl hk]
/-- Cramer: what makes N times b of the columns -/
theorem cramer {cs : List Col} {b : Col} {Z : Nat → Int} {N : Int} (h : ∀ i, N * b i = sumI (fun j => Z j * cv cs j i) cs.length) (I : List Nat) (hl : I.length = cs.length) (k : Nat) (hk : k < cs.length) :
    Z k * det I cs = N * det I (cs.set k b) := by
  rw [← det_mul I cs k N b hl hk]
  have e : (fun i => N * b i) = fun i => sumI (fun j => Z j * cv cs j i) cs.length := funext h
  rw [e, det_sum I cs k Z (cv cs) hl hk, sumI_one (a := k) hk (fun j hj hne => ?_), set_cv cs k hk]
  rw [det_same I (cs.set k (cv cs j)) j k hne (by simp [hl]) (by simpa using hj) (by simpa using hk) ?_, Int.mul_zero]
  rw [cv_set _ _ _ _ hk, if_neg (fun e => hne e.symm), cv_set _ _ _ _ hk, if_pos rfl]
/-- columns of which nothing but nothing makes nothing -/
def Indep (cs : List Col) : Prop := ∀ y : Nat → Int, (∀ i, sumI (fun j => y j * cv cs j i) cs.length = 0) → ∀ k, k < cs.length → y k = 0
theorem indep_det : ∀ (n : Nat) (cs : List Col), cs.length = n → Indep cs → ∃ I : List Nat, I.length = n ∧ det I cs ≠ 0
  | 0, cs, hn, _ => ⟨[], rfl, by simp [det]⟩
  | n + 1, cs, hn, h => by
    have hlen : (cs.eraseIdx n).length = n := by rw [len_erase cs n (by omega)]; omega
    have hcv : ∀ j, j < n → cv (cs.eraseIdx n) j = cv cs j := by
      intro j hj
      unfold cv
      rw [List.getElem?_eraseIdx, if_pos hj]
    obtain ⟨I, hI, hd⟩ := indep_det n (cs.eraseIdx n) hlen (fun y hy k hk => by
      rw [hlen] at hy hk
      have := h (fun j => if j < n then y j else 0) (fun i => by
        rw [hn]
        simp only [sumI]
        rw [if_neg (Nat.lt_irrefl n), Int.zero_mul, Int.add_zero, ← hy i]
        refine sumI_congr fun j hj => ?_
        rw [if_pos hj, hcv j hj]) k (by omega)
      simpa [hk] using this)
    apply Classical.byContradiction
    intro hno
    have hall : ∀ i, det (i :: I) cs = 0 := by
      intro i
      apply Classical.byContradiction
      intro hne
      exact hno ⟨i :: I, by simp [hI], hne⟩
    have := h (fun k => sgn k * det I (cs.eraseIdx k)) (fun i => by
      rw [← hall i]
      simp only [det]
      refine sumI_congr fun j _ => ?_
      rw [Int.mul_assoc, Int.mul_comm (det I _), ← Int.mul_assoc]) n (by omega)
    rcases Int.mul_eq_zero.1 this with h1 | h1
    · exact sgn_ne n h1
    · exact hd h1
def facN : Nat → Nat
  | 0 => 1
  | n + 1 => (n + 1) * facN n
theorem sumI_abs (f : Nat → Int) (B : Nat) : ∀ n, (∀ j, j < n → (f j).natAbs ≤ B) → (sumI f n).natAbs ≤ n * B
  | 0, _ => by simp [sumI]
  | n + 1, h => by
    simp only [sumI]
    have h1 := sumI_abs f B n (fun j hj => h j (by omega))
    have h2 := h n (by omega)
    have h3 := Int.natAbs_add_le (sumI f n) (f n)
    rw [Nat.succ_mul]
    omega
theorem det_abs (m : Nat) : ∀ (I : List Nat) (cs : List Col), I.length = cs.length → (∀ c, c ∈ cs → ∀ i, (c i).natAbs ≤ m) → (det I cs).natAbs ≤ facN cs.length * m ^ cs.length
  | [], cs, hl, _ => by
    have : cs.length = 0 := by simpa using hl.symm
    rw [this]
    simp [det, facN]
  | i :: I, cs, hl, h => by
    obtain ⟨n, hn⟩ : ∃ n, cs.length = n + 1 := ⟨I.length, by simpa using hl.symm⟩
    simp only [det]
    rw [hn]
    refine Nat.le_trans (sumI_abs _ (m * (facN n * m ^ n)) (n + 1) fun j hj => ?_) ?_
    · have hj' : j < cs.length := by omega
      have h1 := det_abs m I (cs.eraseIdx j) (by rw [len_erase cs j hj']; simp at hl; omega) (fun c hc i => h c (List.mem_of_mem_eraseIdx hc) i)
      rw [len_erase cs j hj', hn] at h1
      simp only [Nat.add_sub_cancel] at h1
      have h2 : (cv cs j i).natAbs ≤ m := by
        unfold cv
        rw [List.getElem?_eq_getElem hj']
        exact h _ (List.getElem_mem hj') i
      have h3 : (sgn j).natAbs = 1 := by unfold sgn; split <;> rfl
      rw [Int.natAbs_mul, Int.natAbs_mul, h3, Nat.one_mul]
      exact Nat.mul_le_mul h2 h1
    · simp only [facN, Nat.pow_succ]
      rw [Nat.mul_assoc, Nat.mul_comm (m ^ n) m, ← Nat.mul_assoc (facN n), Nat.mul_comm (facN n) m, Nat.mul_assoc]
      exact Nat.le_refl _
end Go.Proofs.Ytbbkejfcheobaab
