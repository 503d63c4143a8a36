/- A word is read. -/
import Derived.Test.YtnhefbhiemdhoaaGreatUnitP4
import Derived.Test.YtnhefbhiemdhoaaGreatShelf
import Derived.Deep.RegionHeld3
import Derived.BigRegion
namespace Go.Proofs.YtnhefbhiemdhoaaGreat
open Go.RowKit Go.MapKept Go.Proofs.YtnhefbhiemdhoaaGreat.RM

/-- what ends a word -/
def sepB (b : UInt8) : Bool := [46, 94, 47].contains b
def hdW (l : List UInt8) : List UInt8 := l.takeWhile fun b => !sepB b
def tlW (l : List UInt8) : List UInt8 := l.dropWhile fun b => !sepB b
theorem hd_tl (l : List UInt8) : hdW l ++ tlW l = l := List.takeWhile_append_dropWhile
theorem idx_eq : ∀ l : List UInt8, Lib.indexAny l [46, 94, 47] = if tlW l = [] then -1 else ((hdW l).length : Int)
  | [] => rfl
  | b :: l => by
    have ih := idx_eq l
    unfold Lib.indexAny
    unfold tlW hdW
    cases h : sepB b with
    | true =>
      have h' : [46, 94, 47].contains b = true := h
      rw [List.dropWhile_cons_of_neg (by simp [h]), List.takeWhile_cons_of_neg (by simp [h]), if_pos h']
      simp
    | false =>
      have h' : [46, 94, 47].contains b = false := h
      rw [List.dropWhile_cons_of_pos (by simp [h]), List.takeWhile_cons_of_pos (by simp [h])]
      unfold tlW hdW at ih
      rw [if_neg (by rw [h']; simp), ih]
      by_cases hn : List.dropWhile (fun b => !sepB b) l = []
      · simp [hn]
      · rw [if_neg hn, if_neg hn]
        rw [if_neg (by first | (simp; done) | (simp; omega))]
        simp
theorem ext_tk (s : ByteArray) (k : Nat) : (s.extract 0 k).data.toList = s.data.toList.take k := by
  simp [ByteArray.data_extract]
theorem ext_dp (s : ByteArray) (k : Nat) : (s.extract k s.size).data.toList = s.data.toList.drop k := by
  rw [ByteArray.data_extract, Array.toList_extract]
  have : s.size = s.data.toList.length := rfl
  rw [this, List.extract_eq_take_drop]
  exact List.take_of_length_le (by rw [List.length_drop]; omega)

theorem IsT.w0 {W : World} {B M : Nat} {s : ByteArray} {u : UV} {p : Int} {dv : Bool} {P : UV} (h : IsT W B M s u p dv P) (x : Int) : IsT (W.setCell ⟨B, 2, none⟩ (.int .i64 x)) B M s { u with n := x } p dv P := ⟨h.1.set 2 _, h.2.otherB h.ne _ _⟩
theorem IsT.w1 {W : World} {B M : Nat} {s : ByteArray} {u : UV} {p : Int} {dv : Bool} {P : UV} (h : IsT W B M s u p dv P) (x : Int) : IsT (W.setCell ⟨B, 3, none⟩ (.int .i64 x)) B M s { u with d := x } p dv P := ⟨h.1.set 3 _, h.2.otherB h.ne _ _⟩
theorem IsT.w2 {W : World} {B M : Nat} {s : ByteArray} {u : UV} {p : Int} {dv : Bool} {P : UV} (h : IsT W B M s u p dv P) (x : Int) : IsT (W.setCell ⟨B, 4, none⟩ (.int .i64 x)) B M s { u with x0 := x } p dv P := ⟨h.1.set 4 _, h.2.otherB h.ne _ _⟩
theorem IsT.w3 {W : World} {B M : Nat} {s : ByteArray} {u : UV} {p : Int} {dv : Bool} {P : UV} (h : IsT W B M s u p dv P) (x : Int) : IsT (W.setCell ⟨B, 5, none⟩ (.int .i64 x)) B M s { u with x1 := x } p dv P := ⟨h.1.set 5 _, h.2.otherB h.ne _ _⟩
theorem IsT.w4 {W : World} {B M : Nat} {s : ByteArray} {u : UV} {p : Int} {dv : Bool} {P : UV} (h : IsT W B M s u p dv P) (x : Int) : IsT (W.setCell ⟨B, 6, none⟩ (.int .i64 x)) B M s { u with x2 := x } p dv P := ⟨h.1.set 6 _, h.2.otherB h.ne _ _⟩
theorem IsT.w5 {W : World} {B M : Nat} {s : ByteArray} {u : UV} {p : Int} {dv : Bool} {P : UV} (h : IsT W B M s u p dv P) (x : Int) : IsT (W.setCell ⟨B, 7, none⟩ (.int .i64 x)) B M s { u with x3 := x } p dv P := ⟨h.1.set 7 _, h.2.otherB h.ne _ _⟩
theorem IsT.w6 {W : World} {B M : Nat} {s : ByteArray} {u : UV} {p : Int} {dv : Bool} {P : UV} (h : IsT W B M s u p dv P) (x : Int) : IsT (W.setCell ⟨B, 8, none⟩ (.int .i64 x)) B M s { u with x4 := x } p dv P := ⟨h.1.set 8 _, h.2.otherB h.ne _ _⟩
theorem IsT.word {W : World} {B M : Nat} {s : ByteArray} {u : UV} {p : Int} {dv : Bool} {P : UV} (h : IsT W B M s u p dv P) (v : UV) : IsT (((((((W.setCell ⟨B, 2, none⟩ (.int .i64 v.n)).setCell ⟨B, 3, none⟩ (.int .i64 v.d)).setCell ⟨B, 4, none⟩ (.int .i64 v.x0)).setCell ⟨B, 5, none⟩ (.int .i64 v.x1)).setCell ⟨B, 6, none⟩ (.int .i64 v.x2)).setCell ⟨B, 7, none⟩ (.int .i64 v.x3)).setCell ⟨B, 8, none⟩ (.int .i64 v.x4)) B M s v p dv P ∧ W.grownBy (((((((W.setCell ⟨B, 2, none⟩ (.int .i64 v.n)).setCell ⟨B, 3, none⟩ (.int .i64 v.d)).setCell ⟨B, 4, none⟩ (.int .i64 v.x0)).setCell ⟨B, 5, none⟩ (.int .i64 v.x1)).setCell ⟨B, 6, none⟩ (.int .i64 v.x2)).setCell ⟨B, 7, none⟩ (.int .i64 v.x3)).setCell ⟨B, 8, none⟩ (.int .i64 v.x4)) (some B) :=
  ⟨(IsT.w6 (IsT.w5 (IsT.w4 (IsT.w3 (IsT.w2 (IsT.w1 (IsT.w0 h v.n) v.d) v.x0) v.x1) v.x2) v.x3) v.x4), (g_set ((g_set ((g_set ((g_set ((g_set ((g_set ((g_set (g_refl W _) (.inr rfl) _ _)) (.inr rfl) _ _)) (.inr rfl) _ _)) (.inr rfl) _ _)) (.inr rfl) _ _)) (.inr rfl) _ _)) (.inr rfl) _ _)⟩

set_option maxRecDepth 100000 in
set_option maxHeartbeats 1000000 in
theorem readWord_any (B M : Nat) (s : ByteArray) (u : UV) (p : Int) (dv : Bool) (P : UV) (w : World) (h : IsT w B M s u p dv P) (hs : s.size ≤ 1048576) (ha : ∀ b ∈ s.data.toList, b.toNat < 128) :
    Calls Tryz.prog 54 #[.pointer (some ⟨B, 0, none⟩)] w fun e w' => ∃ s', e = .returned (.bool (wordI (hdW s.data.toList)).2) ∧ s'.data.toList = tlW s.data.toList ∧ IsT w' B M s' (wordI (hdW s.data.toList)).1 1 dv P ∧ w.grownBy w' (some B) := by
  have b0 : ∀ (u : World) (o : Obj), Below u.heap.size u (u.alloc o) := fun u o => (Below.refl _ _).alloc (Nat.le_refl _) o
  have hv : ∀ w, (zeroValue 117).run Tryz.prog w = .ok (.agg (Array.replicate 256 (.bool false))) w := fun w => by kernel_rfl
  have HX : Hid (∀ W, Calls Tryz.prog 81 #[.string s, .string ⟨#[46, 94, 47]⟩] W fun e w' => e = .returned (.int .i64 (if tlW s.data.toList = [] then -1 else ((hdW s.data.toList).length : Int))) ∧ Below W.heap.size W w') := fun W => by
    have := Tryz.strings_IndexAny hv s ⟨#[46, 94, 47]⟩ W (by omega) (by show (3 : Nat) < _; omega) (fun j b hj => ha b (List.mem_of_getElem? hj)) (fun j b hj => by
      have : b ∈ [46, 94, 47] := List.mem_of_getElem? hj
      simp at this
      rcases this with rfl | rfl | rfl <;> decide)
    rw [show (ByteArray.mk #[46, 94, 47]).data.toList = [46, 94, 47] from rfl, idx_eq] at this
    exact this
  clear hv
  obtain ⟨k, hk⟩ : ∃ k, k = (hdW s.data.toList).length := ⟨_, rfl⟩
  have hz : s.size = s.data.toList.length := rfl
  have hap := hd_tl s.data.toList
  have hks : k ≤ s.size := by
    have e := congrArg List.length hap
    rw [List.length_append] at e
    omega
  have htk : (s.extract 0 k).data.toList = hdW s.data.toList := by
    rw [ext_tk, hk]
    have e := @List.take_left _ (hdW s.data.toList) (tlW s.data.toList)
    rw [hap] at e
    exact e
  have hdp : (s.extract k s.size).data.toList = tlW s.data.toList := by
    rw [ext_dp, hk]
    have e := @List.drop_left _ (hdW s.data.toList) (tlW s.data.toList)
    rw [hap] at e
    exact e
  obtain ⟨q, hq⟩ : ∃ q, q = wordI (hdW s.data.toList) := ⟨_, rfl⟩
  have HW : Hid (∀ W, IsM W M uEnts 15 → Calls Tryz.prog 82 #[.map (some M), .string (s.extract 0 k)] W fun e w' => e = .returned (.tuple #[uVal q.1, .bool q.2]) ∧ Below W.heap.size W w') := fun W hM => by
    have := word_any (s.extract 0 k) M W (by rw [ByteArray.size_extract]; omega) hM
    rw [htk, ← hq] at this
    exact this
  have HR := hidU hdp
  rw [← hq]
  have hkz : tlW s.data.toList = [] → k = s.size := fun e => by
    have e2 := congrArg List.length hap
    rw [List.length_append, e] at e2
    simp at e2
    omega
  rw [← hk] at HX
  clear hk hap htk hdp hq ha hz
  obtain ⟨⟨vn, vd, y0, y1, y2, y3, y4⟩, o⟩ := q
  simp only [uVal] at HW
  have c1 := h.1.cell (v := .string s) 1 rfl
  have HT0 := hidU h
  clear h
  go_enter Tryz.func54, Tryz.ntmps54
  go_wp2_with fail
  refine (HX.out _).mono ?_
  rintro e w1 ⟨rfl, hb⟩
  have HT := hidU (HT0.out.below hb)
  have HG := hidU (grown_new (row := some B) hb)
  clear c1 hb HT0
  have c0 := HT.out.1.cell (v := .map (some M)) 0 rfl
  have c1 := HT.out.1.cell (v := .string s) 1 rfl
  by_cases he : tlW s.data.toList = []
  · have hke := hkz he
    rw [if_pos he]
    have HEm := hidU (show ByteArray.empty.data.toList = tlW s.data.toList by rw [he]; rfl)
    subst hke
    clear hkz he hks
    have hk0 : (0 : Int) ≤ s.size := by omega
    have hes : s.extract 0 s.size = s := by simp
    rw [hes] at HW
    clear hes
    go_upto_region 5 with (first | go_values | go_skip | go_guarded | go_step | go_upon | go_in)
    refine wp_region_noPanic ?_
    refine wp_region_held_drew (S := fun w' => w'.cell? ⟨B, 0, none⟩ = some (.map (some M)) ∧ w'.cell? ⟨B, 1, none⟩ = some (.string s)) (by kernel_rfl) ⟨c0, c1⟩ (fun hHeld => ?_)
    refine wpAnyH_take (i := 0) (v := ?_) rfl (by kernel_rfl) (by kernel_rfl) (by kernel_rfl) (fun _ _ _ h => h) (Or.inl ⟨by kernel_rfl, ?_⟩) hHeld ?_
    rotate_left
    · intro wz hSw; (try dsimp only at hSw); go_simp; all_goals (try with_reducible rfl)
    (try simp only [List.getElem_toArray]); (try simp only [List.getElem_cons_succ]); (try simp only [List.getElem_cons_zero]); (try simp only [Act.put]); (try simp only [List.setIfInBounds_toArray]); (try simp only [List.set_cons_succ]); (try simp only [List.set_cons_zero])
    refine wpAnyH_take (i := 1) (v := ?_) rfl (by kernel_rfl) (by kernel_rfl) (by kernel_rfl) (fun _ _ _ h => h) (Or.inl ⟨by kernel_rfl, ?_⟩) hHeld ?_
    rotate_left
    · intro wz hSw; (try dsimp only at hSw); go_simp; all_goals (try with_reducible rfl)
    (try simp only [List.getElem_toArray]); (try simp only [List.getElem_cons_succ]); (try simp only [List.getElem_cons_zero]); (try simp only [Act.put]); (try simp only [List.setIfInBounds_toArray]); (try simp only [List.set_cons_succ]); (try simp only [List.set_cons_zero])
    refine wpAnyH_take (i := 2) (v := ?_) rfl (by kernel_rfl) (by kernel_rfl) (by kernel_rfl) (fun _ _ _ h => h) (Or.inl ⟨by kernel_rfl, ?_⟩) hHeld ?_
    rotate_left
    · intro wz hSw; (try dsimp only at hSw); go_simp; all_goals (try with_reducible rfl)
    (try simp only [List.getElem_toArray]); (try simp only [List.getElem_cons_succ]); (try simp only [List.getElem_cons_zero]); (try simp only [Act.put]); (try simp only [List.setIfInBounds_toArray]); (try simp only [List.set_cons_succ]); (try simp only [List.set_cons_zero])
    refine wpAnyH_take (i := 3) (v := ?_) rfl (by kernel_rfl) (by kernel_rfl) (by kernel_rfl) (fun _ _ _ h => h) (Or.inl ⟨by kernel_rfl, ?_⟩) hHeld ?_
    rotate_left
    · intro wz hSw; (try dsimp only at hSw); go_simp; all_goals (try with_reducible rfl)
    (try simp only [List.getElem_toArray]); (try simp only [List.getElem_cons_succ]); (try simp only [List.getElem_cons_zero]); (try simp only [Act.put]); (try simp only [List.setIfInBounds_toArray]); (try simp only [List.set_cons_succ]); (try simp only [List.set_cons_zero])
    refine wpAnyH_take (i := 4) (v := ?_) rfl (by kernel_rfl) (by kernel_rfl) (by kernel_rfl) (fun _ _ _ h => h) (Or.inl ⟨by kernel_rfl, ?_⟩) hHeld ?_
    rotate_left
    · intro wz hSw; (try dsimp only at hSw); go_simp; all_goals (try with_reducible rfl)
    (try simp only [List.getElem_toArray]); (try simp only [List.getElem_cons_succ]); (try simp only [List.getElem_cons_zero]); (try simp only [Act.put]); (try simp only [List.setIfInBounds_toArray]); (try simp only [List.set_cons_succ]); (try simp only [List.set_cons_zero])
    refine wpAnyH_take (i := 5) (v := ?_) rfl (by kernel_rfl) (by kernel_rfl) (by kernel_rfl) (fun _ _ _ h => h) (Or.inl ⟨by kernel_rfl, ?_⟩) hHeld ?_
    rotate_left
    · intro wz hSw; (try dsimp only at hSw); go_simp; all_goals (try with_reducible rfl)
    (try simp only [List.getElem_toArray]); (try simp only [List.getElem_cons_succ]); (try simp only [List.getElem_cons_zero]); (try simp only [Act.put]); (try simp only [List.setIfInBounds_toArray]); (try simp only [List.set_cons_succ]); (try simp only [List.set_cons_zero])
    refine wpAnyH_take (i := 6) (v := ?_) rfl (by kernel_rfl) (by kernel_rfl) (by kernel_rfl) (fun _ _ _ h => h) (Or.inl ⟨by kernel_rfl, ?_⟩) hHeld ?_
    rotate_left
    · intro wz hSw; (try dsimp only at hSw); go_simp; all_goals (try with_reducible rfl)
    (try simp only [List.getElem_toArray]); (try simp only [List.getElem_cons_succ]); (try simp only [List.getElem_cons_zero]); (try simp only [Act.put]); (try simp only [List.setIfInBounds_toArray]); (try simp only [List.set_cons_succ]); (try simp only [List.set_cons_zero])
    refine wpAnyH_take (i := 7) (v := ?_) rfl (by kernel_rfl) (by kernel_rfl) (by kernel_rfl) (fun _ _ _ h => h) (Or.inl ⟨by kernel_rfl, ?_⟩) hHeld ?_
    rotate_left
    · intro wz hSw; (try dsimp only at hSw); go_simp; all_goals (try with_reducible rfl)
    (try simp only [List.getElem_toArray]); (try simp only [List.getElem_cons_succ]); (try simp only [List.getElem_cons_zero]); (try simp only [Act.put]); (try simp only [List.setIfInBounds_toArray]); (try simp only [List.set_cons_succ]); (try simp only [List.set_cons_zero])
    refine wpAnyH_take (i := 8) (v := ?_) rfl (by kernel_rfl) (by kernel_rfl) (by kernel_rfl) (fun _ _ _ h => h) (Or.inl ⟨by kernel_rfl, ?_⟩) hHeld ?_
    rotate_left
    · intro wz hSw; (try dsimp only at hSw); go_simp; all_goals (try with_reducible rfl)
    (try simp only [List.getElem_toArray]); (try simp only [List.getElem_cons_succ]); (try simp only [List.getElem_cons_zero]); (try simp only [Act.put]); (try simp only [List.setIfInBounds_toArray]); (try simp only [List.set_cons_succ]); (try simp only [List.set_cons_zero])
    refine wpAnyH_take (i := 9) (v := ?_) rfl (by kernel_rfl) (by kernel_rfl) (by kernel_rfl) (fun _ _ _ h => h) (Or.inl ⟨by kernel_rfl, ?_⟩) hHeld ?_
    rotate_left
    · intro wz hSw; (try dsimp only at hSw); go_simp; all_goals (try with_reducible rfl)
    (try simp only [List.getElem_toArray]); (try simp only [List.getElem_cons_succ]); (try simp only [List.getElem_cons_zero]); (try simp only [Act.put]); (try simp only [List.setIfInBounds_toArray]); (try simp only [List.set_cons_succ]); (try simp only [List.set_cons_zero])
    refine wpAnyH_take (i := 10) (v := ?_) rfl (by kernel_rfl) (by kernel_rfl) (by kernel_rfl) (fun _ _ _ h => h) (Or.inl ⟨by kernel_rfl, ?_⟩) hHeld ?_
    rotate_left
    · intro wz hSw; (try dsimp only at hSw); go_simp; all_goals (try with_reducible rfl)
    (try simp only [List.getElem_toArray]); (try simp only [List.getElem_cons_succ]); (try simp only [List.getElem_cons_zero]); (try simp only [Act.put]); (try simp only [List.setIfInBounds_toArray]); (try simp only [List.set_cons_succ]); (try simp only [List.set_cons_zero])
    refine wpAnyH_ready (rs := [11]) (by kernel_rfl) (by simp) (AllReadyH.cons rfl (fun Kc hKc => ?_) AllReadyH.nil)
    go_simp
    (go_at_call 82; refine (HW.out _ (HT.out.2.below (Below.refl _ _).drew)).mono ?_)
    rintro e w2 ⟨rfl, hb2⟩
    have hb3 : Below w1.heap.size w1 w2 := ((Below.refl _ _).drew).trans hb2
    have h2 := HT.out.below hb3
    have HG2 := hidU (g_below HG.out hb3)
    clear hb2 hb3 HT HG c0 c1
    have c0 := h2.1.cell (v := .map (some M)) 0 rfl
    have c1 := h2.1.cell (v := .string s) 1 rfl
    go_wp2_with fail
    refine hKc.out _ _ ⟨c0, c1⟩ (fun hHeld => ?_)
    clear hKc Kc
    (try simp only [List.getElem_toArray]); (try simp only [List.getElem_cons_succ]); (try simp only [List.getElem_cons_zero]); (try simp only [Act.put]); (try simp only [List.setIfInBounds_toArray]); (try simp only [List.set_cons_succ]); (try simp only [List.set_cons_zero])
    refine wpAnyH_take (i := 12) (v := ?_) rfl (by kernel_rfl) (by kernel_rfl) (by kernel_rfl) (fun _ _ _ h => h) (Or.inl ⟨by kernel_rfl, ?_⟩) hHeld ?_
    rotate_left
    · intro wz hSw; (try dsimp only at hSw); go_simp; all_goals (try with_reducible rfl)
    (try simp only [List.getElem_toArray]); (try simp only [List.getElem_cons_succ]); (try simp only [List.getElem_cons_zero]); (try simp only [Act.put]); (try simp only [List.setIfInBounds_toArray]); (try simp only [List.set_cons_succ]); (try simp only [List.set_cons_zero])
    refine wpAnyH_take (i := 13) (v := ?_) rfl (by kernel_rfl) (by kernel_rfl) (by kernel_rfl) (fun _ _ _ h => h) (Or.inl ⟨by kernel_rfl, ?_⟩) hHeld ?_
    rotate_left
    · intro wz hSw; (try dsimp only at hSw); go_simp; all_goals (try with_reducible rfl)
    (try simp only [List.getElem_toArray]); (try simp only [List.getElem_cons_succ]); (try simp only [List.getElem_cons_zero]); (try simp only [Act.put]); (try simp only [List.setIfInBounds_toArray]); (try simp only [List.set_cons_succ]); (try simp only [List.set_cons_zero])
    refine wpAnyH_take (i := 14) (v := ?_) rfl (by kernel_rfl) (by kernel_rfl) (by kernel_rfl) (fun _ _ _ h => h) (Or.inl ⟨by kernel_rfl, ?_⟩) hHeld ?_
    rotate_left
    · intro wz hSw; (try dsimp only at hSw); go_simp; all_goals (try with_reducible rfl)
    (try simp only [List.getElem_toArray]); (try simp only [List.getElem_cons_succ]); (try simp only [List.getElem_cons_zero]); (try simp only [Act.put]); (try simp only [List.setIfInBounds_toArray]); (try simp only [List.set_cons_succ]); (try simp only [List.set_cons_zero])
    refine wpAnyH_take (i := 15) (v := ?_) rfl (by kernel_rfl) (by kernel_rfl) (by kernel_rfl) (fun _ _ _ h => h) (Or.inl ⟨by kernel_rfl, ?_⟩) hHeld ?_
    rotate_left
    · intro wz hSw; (try dsimp only at hSw); go_simp; all_goals (try with_reducible rfl)
    (try simp only [List.getElem_toArray]); (try simp only [List.getElem_cons_succ]); (try simp only [List.getElem_cons_zero]); (try simp only [Act.put]); (try simp only [List.setIfInBounds_toArray]); (try simp only [List.set_cons_succ]); (try simp only [List.set_cons_zero])
    refine wpAnyH_take (i := 16) (v := ?_) rfl (by kernel_rfl) (by kernel_rfl) (by kernel_rfl) (fun _ _ _ h => h) (Or.inl ⟨by kernel_rfl, ?_⟩) hHeld ?_
    rotate_left
    · intro wz hSw; (try dsimp only at hSw); go_simp; all_goals (try with_reducible rfl)
    (try simp only [List.getElem_toArray]); (try simp only [List.getElem_cons_succ]); (try simp only [List.getElem_cons_zero]); (try simp only [Act.put]); (try simp only [List.setIfInBounds_toArray]); (try simp only [List.set_cons_succ]); (try simp only [List.set_cons_zero])
    have f2 := h2.1.frozen 2
    have f3 := h2.1.frozen 3
    have f4 := h2.1.frozen 4
    have f5 := h2.1.frozen 5
    have f6 := h2.1.frozen 6
    have f7 := h2.1.frozen 7
    have f8 := h2.1.frozen 8
    have d2 := h2.1.cell (v := .int .i64 u.n) 2 rfl
    have d3 := h2.1.cell (v := .int .i64 u.d) 3 rfl
    have d4 := h2.1.cell (v := .int .i64 u.x0) 4 rfl
    have d5 := h2.1.cell (v := .int .i64 u.x1) 5 rfl
    have d6 := h2.1.cell (v := .int .i64 u.x2) 6 rfl
    have d7 := h2.1.cell (v := .int .i64 u.x3) 7 rfl
    have d8 := h2.1.cell (v := .int .i64 u.x4) 8 rfl
    refine wpAnyH_ready (rs := [17]) (by kernel_rfl) (by simp) (AllReadyH.cons rfl (fun Kc hKc => ?_) AllReadyH.nil)
    go_simp
    obtain ⟨h3, g3⟩ := IsT.word h2 ⟨vn, vd, y0, y1, y2, y3, y4⟩
    clear c0 c1
    have c0 := h3.1.cell (v := .map (some M)) 0 rfl
    have c1 := h3.1.cell (v := .string s) 1 rfl
    refine hKc.out _ _ ⟨c0, c1⟩ (fun hHeld => ?_)
    clear hKc Kc
    (try simp only [List.getElem_toArray]); (try simp only [List.getElem_cons_succ]); (try simp only [List.getElem_cons_zero]); (try simp only [Act.put]); (try simp only [List.setIfInBounds_toArray]); (try simp only [List.set_cons_succ]); (try simp only [List.set_cons_zero])
    refine wpAnyH_take (i := 18) (v := ?_) rfl (by kernel_rfl) (by kernel_rfl) (by kernel_rfl) (fun _ _ _ h => h) (Or.inl ⟨by kernel_rfl, ?_⟩) hHeld ?_
    rotate_left
    · intro wz hSw; (try dsimp only at hSw); go_simp; all_goals (try with_reducible rfl)
    (try simp only [List.getElem_toArray]); (try simp only [List.getElem_cons_succ]); (try simp only [List.getElem_cons_zero]); (try simp only [Act.put]); (try simp only [List.setIfInBounds_toArray]); (try simp only [List.set_cons_succ]); (try simp only [List.set_cons_zero])
    refine wpAnyH_done (by kernel_rfl) ?_ _
    refine NoPanic.normal ?_
    have G3 := hidU (HG2.out.trans g3)
    obtain ⟨X, hX⟩ : ∃ X, X = (((((((w2.setCell ⟨B, 2, none⟩ (.int .i64 vn)).setCell ⟨B, 3, none⟩ (.int .i64 vd)).setCell ⟨B, 4, none⟩ (.int .i64 y0)).setCell ⟨B, 5, none⟩ (.int .i64 y1)).setCell ⟨B, 6, none⟩ (.int .i64 y2)).setCell ⟨B, 7, none⟩ (.int .i64 y3)).setCell ⟨B, 8, none⟩ (.int .i64 y4)) := ⟨_, rfl⟩
    rw [← hX] at h3 G3 c0 c1 ⊢
    clear hX hHeld g3 h2 f2 d2 f3 d3 f4 d4 f5 d5 f6 d6 f7 d7 f8 d8
    have f1 := h3.1.frozen 1
    have f9 := h3.1.frozen 9
    have c9 := h3.1.cell (v := .int .i64 p) 9 rfl
    have HT3 := hidU h3
    clear h3
    go_wp2
    go_ret
    exact ⟨_, rfl, HEm.out, (HT3.out.rest _).power _, (G3.out.trans (set_grown _ _ _ _)).trans (set_grown _ _ _ _)⟩
  · rw [if_neg he]
    have hk0 : ¬ (k : Int) < 0 := by omega
    have hk1 : (0 : Int) ≤ k := by omega
    have hk2 : (k : Int) ≤ s.size := by omega
    clear hkz he hks
    go_upto_region 5 with fail
    refine wp_region_noPanic ?_
    refine wp_region_held_drew (S := fun w' => w'.cell? ⟨B, 0, none⟩ = some (.map (some M)) ∧ w'.cell? ⟨B, 1, none⟩ = some (.string s)) (by kernel_rfl) ⟨c0, c1⟩ (fun hHeld => ?_)
    refine wpAnyH_take (i := 0) (v := ?_) rfl (by kernel_rfl) (by kernel_rfl) (by kernel_rfl) (fun _ _ _ h => h) (Or.inl ⟨by kernel_rfl, ?_⟩) hHeld ?_
    rotate_left
    · intro wz hSw; (try dsimp only at hSw); go_simp; all_goals (try with_reducible rfl)
    (try simp only [List.getElem_toArray]); (try simp only [List.getElem_cons_succ]); (try simp only [List.getElem_cons_zero]); (try simp only [Act.put]); (try simp only [List.setIfInBounds_toArray]); (try simp only [List.set_cons_succ]); (try simp only [List.set_cons_zero])
    refine wpAnyH_take (i := 1) (v := ?_) rfl (by kernel_rfl) (by kernel_rfl) (by kernel_rfl) (fun _ _ _ h => h) (Or.inl ⟨by kernel_rfl, ?_⟩) hHeld ?_
    rotate_left
    · intro wz hSw; (try dsimp only at hSw); go_simp; all_goals (try with_reducible rfl)
    (try simp only [List.getElem_toArray]); (try simp only [List.getElem_cons_succ]); (try simp only [List.getElem_cons_zero]); (try simp only [Act.put]); (try simp only [List.setIfInBounds_toArray]); (try simp only [List.set_cons_succ]); (try simp only [List.set_cons_zero])
    refine wpAnyH_take (i := 2) (v := ?_) rfl (by kernel_rfl) (by kernel_rfl) (by kernel_rfl) (fun _ _ _ h => h) (Or.inl ⟨by kernel_rfl, ?_⟩) hHeld ?_
    rotate_left
    · intro wz hSw; (try dsimp only at hSw); go_simp; all_goals (try with_reducible rfl)
    (try simp only [List.getElem_toArray]); (try simp only [List.getElem_cons_succ]); (try simp only [List.getElem_cons_zero]); (try simp only [Act.put]); (try simp only [List.setIfInBounds_toArray]); (try simp only [List.set_cons_succ]); (try simp only [List.set_cons_zero])
    refine wpAnyH_take (i := 3) (v := ?_) rfl (by kernel_rfl) (by kernel_rfl) (by kernel_rfl) (fun _ _ _ h => h) (Or.inl ⟨by kernel_rfl, ?_⟩) hHeld ?_
    rotate_left
    · intro wz hSw; (try dsimp only at hSw); go_simp; all_goals (try with_reducible rfl)
    (try simp only [List.getElem_toArray]); (try simp only [List.getElem_cons_succ]); (try simp only [List.getElem_cons_zero]); (try simp only [Act.put]); (try simp only [List.setIfInBounds_toArray]); (try simp only [List.set_cons_succ]); (try simp only [List.set_cons_zero])
    refine wpAnyH_take (i := 4) (v := ?_) rfl (by kernel_rfl) (by kernel_rfl) (by kernel_rfl) (fun _ _ _ h => h) (Or.inl ⟨by kernel_rfl, ?_⟩) hHeld ?_
    rotate_left
    · intro wz hSw; (try dsimp only at hSw); go_simp; all_goals (try with_reducible rfl)
    (try simp only [List.getElem_toArray]); (try simp only [List.getElem_cons_succ]); (try simp only [List.getElem_cons_zero]); (try simp only [Act.put]); (try simp only [List.setIfInBounds_toArray]); (try simp only [List.set_cons_succ]); (try simp only [List.set_cons_zero])
    refine wpAnyH_take (i := 5) (v := ?_) rfl (by kernel_rfl) (by kernel_rfl) (by kernel_rfl) (fun _ _ _ h => h) (Or.inl ⟨by kernel_rfl, ?_⟩) hHeld ?_
    rotate_left
    · intro wz hSw; (try dsimp only at hSw); go_simp; all_goals (try with_reducible rfl)
    (try simp only [List.getElem_toArray]); (try simp only [List.getElem_cons_succ]); (try simp only [List.getElem_cons_zero]); (try simp only [Act.put]); (try simp only [List.setIfInBounds_toArray]); (try simp only [List.set_cons_succ]); (try simp only [List.set_cons_zero])
    refine wpAnyH_take (i := 6) (v := ?_) rfl (by kernel_rfl) (by kernel_rfl) (by kernel_rfl) (fun _ _ _ h => h) (Or.inl ⟨by kernel_rfl, ?_⟩) hHeld ?_
    rotate_left
    · intro wz hSw; (try dsimp only at hSw); go_simp; all_goals (try with_reducible rfl)
    (try simp only [List.getElem_toArray]); (try simp only [List.getElem_cons_succ]); (try simp only [List.getElem_cons_zero]); (try simp only [Act.put]); (try simp only [List.setIfInBounds_toArray]); (try simp only [List.set_cons_succ]); (try simp only [List.set_cons_zero])
    refine wpAnyH_take (i := 7) (v := ?_) rfl (by kernel_rfl) (by kernel_rfl) (by kernel_rfl) (fun _ _ _ h => h) (Or.inl ⟨by kernel_rfl, ?_⟩) hHeld ?_
    rotate_left
    · intro wz hSw; (try dsimp only at hSw); go_simp; all_goals (try with_reducible rfl)
    (try simp only [List.getElem_toArray]); (try simp only [List.getElem_cons_succ]); (try simp only [List.getElem_cons_zero]); (try simp only [Act.put]); (try simp only [List.setIfInBounds_toArray]); (try simp only [List.set_cons_succ]); (try simp only [List.set_cons_zero])
    refine wpAnyH_take (i := 8) (v := ?_) rfl (by kernel_rfl) (by kernel_rfl) (by kernel_rfl) (fun _ _ _ h => h) (Or.inl ⟨by kernel_rfl, ?_⟩) hHeld ?_
    rotate_left
    · intro wz hSw; (try dsimp only at hSw); go_simp; all_goals (try with_reducible rfl)
    (try simp only [List.getElem_toArray]); (try simp only [List.getElem_cons_succ]); (try simp only [List.getElem_cons_zero]); (try simp only [Act.put]); (try simp only [List.setIfInBounds_toArray]); (try simp only [List.set_cons_succ]); (try simp only [List.set_cons_zero])
    refine wpAnyH_take (i := 9) (v := ?_) rfl (by kernel_rfl) (by kernel_rfl) (by kernel_rfl) (fun _ _ _ h => h) (Or.inl ⟨by kernel_rfl, ?_⟩) hHeld ?_
    rotate_left
    · intro wz hSw; (try dsimp only at hSw); go_simp; all_goals (try with_reducible rfl)
    (try simp only [List.getElem_toArray]); (try simp only [List.getElem_cons_succ]); (try simp only [List.getElem_cons_zero]); (try simp only [Act.put]); (try simp only [List.setIfInBounds_toArray]); (try simp only [List.set_cons_succ]); (try simp only [List.set_cons_zero])
    refine wpAnyH_take (i := 10) (v := ?_) rfl (by kernel_rfl) (by kernel_rfl) (by kernel_rfl) (fun _ _ _ h => h) (Or.inl ⟨by kernel_rfl, ?_⟩) hHeld ?_
    rotate_left
    · intro wz hSw; (try dsimp only at hSw); go_simp; all_goals (try with_reducible rfl)
    (try simp only [List.getElem_toArray]); (try simp only [List.getElem_cons_succ]); (try simp only [List.getElem_cons_zero]); (try simp only [Act.put]); (try simp only [List.setIfInBounds_toArray]); (try simp only [List.set_cons_succ]); (try simp only [List.set_cons_zero])
    refine wpAnyH_ready (rs := [11]) (by kernel_rfl) (by simp) (AllReadyH.cons rfl (fun Kc hKc => ?_) AllReadyH.nil)
    go_simp
    (go_at_call 82; refine (HW.out _ (HT.out.2.below (Below.refl _ _).drew)).mono ?_)
    rintro e w2 ⟨rfl, hb2⟩
    have hb3 : Below w1.heap.size w1 w2 := ((Below.refl _ _).drew).trans hb2
    have h2 := HT.out.below hb3
    have HG2 := hidU (g_below HG.out hb3)
    clear hb2 hb3 HT HG c0 c1
    have c0 := h2.1.cell (v := .map (some M)) 0 rfl
    have c1 := h2.1.cell (v := .string s) 1 rfl
    go_wp2_with fail
    refine hKc.out _ _ ⟨c0, c1⟩ (fun hHeld => ?_)
    clear hKc Kc
    (try simp only [List.getElem_toArray]); (try simp only [List.getElem_cons_succ]); (try simp only [List.getElem_cons_zero]); (try simp only [Act.put]); (try simp only [List.setIfInBounds_toArray]); (try simp only [List.set_cons_succ]); (try simp only [List.set_cons_zero])
    refine wpAnyH_take (i := 12) (v := ?_) rfl (by kernel_rfl) (by kernel_rfl) (by kernel_rfl) (fun _ _ _ h => h) (Or.inl ⟨by kernel_rfl, ?_⟩) hHeld ?_
    rotate_left
    · intro wz hSw; (try dsimp only at hSw); go_simp; all_goals (try with_reducible rfl)
    (try simp only [List.getElem_toArray]); (try simp only [List.getElem_cons_succ]); (try simp only [List.getElem_cons_zero]); (try simp only [Act.put]); (try simp only [List.setIfInBounds_toArray]); (try simp only [List.set_cons_succ]); (try simp only [List.set_cons_zero])
    refine wpAnyH_take (i := 13) (v := ?_) rfl (by kernel_rfl) (by kernel_rfl) (by kernel_rfl) (fun _ _ _ h => h) (Or.inl ⟨by kernel_rfl, ?_⟩) hHeld ?_
    rotate_left
    · intro wz hSw; (try dsimp only at hSw); go_simp; all_goals (try with_reducible rfl)
    (try simp only [List.getElem_toArray]); (try simp only [List.getElem_cons_succ]); (try simp only [List.getElem_cons_zero]); (try simp only [Act.put]); (try simp only [List.setIfInBounds_toArray]); (try simp only [List.set_cons_succ]); (try simp only [List.set_cons_zero])
    refine wpAnyH_take (i := 14) (v := ?_) rfl (by kernel_rfl) (by kernel_rfl) (by kernel_rfl) (fun _ _ _ h => h) (Or.inl ⟨by kernel_rfl, ?_⟩) hHeld ?_
    rotate_left
    · intro wz hSw; (try dsimp only at hSw); go_simp; all_goals (try with_reducible rfl)
    (try simp only [List.getElem_toArray]); (try simp only [List.getElem_cons_succ]); (try simp only [List.getElem_cons_zero]); (try simp only [Act.put]); (try simp only [List.setIfInBounds_toArray]); (try simp only [List.set_cons_succ]); (try simp only [List.set_cons_zero])
    refine wpAnyH_take (i := 15) (v := ?_) rfl (by kernel_rfl) (by kernel_rfl) (by kernel_rfl) (fun _ _ _ h => h) (Or.inl ⟨by kernel_rfl, ?_⟩) hHeld ?_
    rotate_left
    · intro wz hSw; (try dsimp only at hSw); go_simp; all_goals (try with_reducible rfl)
    (try simp only [List.getElem_toArray]); (try simp only [List.getElem_cons_succ]); (try simp only [List.getElem_cons_zero]); (try simp only [Act.put]); (try simp only [List.setIfInBounds_toArray]); (try simp only [List.set_cons_succ]); (try simp only [List.set_cons_zero])
    refine wpAnyH_take (i := 16) (v := ?_) rfl (by kernel_rfl) (by kernel_rfl) (by kernel_rfl) (fun _ _ _ h => h) (Or.inl ⟨by kernel_rfl, ?_⟩) hHeld ?_
    rotate_left
    · intro wz hSw; (try dsimp only at hSw); go_simp; all_goals (try with_reducible rfl)
    (try simp only [List.getElem_toArray]); (try simp only [List.getElem_cons_succ]); (try simp only [List.getElem_cons_zero]); (try simp only [Act.put]); (try simp only [List.setIfInBounds_toArray]); (try simp only [List.set_cons_succ]); (try simp only [List.set_cons_zero])
    have f2 := h2.1.frozen 2
    have f3 := h2.1.frozen 3
    have f4 := h2.1.frozen 4
    have f5 := h2.1.frozen 5
    have f6 := h2.1.frozen 6
    have f7 := h2.1.frozen 7
    have f8 := h2.1.frozen 8
    have d2 := h2.1.cell (v := .int .i64 u.n) 2 rfl
    have d3 := h2.1.cell (v := .int .i64 u.d) 3 rfl
    have d4 := h2.1.cell (v := .int .i64 u.x0) 4 rfl
    have d5 := h2.1.cell (v := .int .i64 u.x1) 5 rfl
    have d6 := h2.1.cell (v := .int .i64 u.x2) 6 rfl
    have d7 := h2.1.cell (v := .int .i64 u.x3) 7 rfl
    have d8 := h2.1.cell (v := .int .i64 u.x4) 8 rfl
    refine wpAnyH_ready (rs := [17]) (by kernel_rfl) (by simp) (AllReadyH.cons rfl (fun Kc hKc => ?_) AllReadyH.nil)
    go_simp
    obtain ⟨h3, g3⟩ := IsT.word h2 ⟨vn, vd, y0, y1, y2, y3, y4⟩
    clear c0 c1
    have c0 := h3.1.cell (v := .map (some M)) 0 rfl
    have c1 := h3.1.cell (v := .string s) 1 rfl
    refine hKc.out _ _ ⟨c0, c1⟩ (fun hHeld => ?_)
    clear hKc Kc
    (try simp only [List.getElem_toArray]); (try simp only [List.getElem_cons_succ]); (try simp only [List.getElem_cons_zero]); (try simp only [Act.put]); (try simp only [List.setIfInBounds_toArray]); (try simp only [List.set_cons_succ]); (try simp only [List.set_cons_zero])
    refine wpAnyH_take (i := 18) (v := ?_) rfl (by kernel_rfl) (by kernel_rfl) (by kernel_rfl) (fun _ _ _ h => h) (Or.inl ⟨by kernel_rfl, ?_⟩) hHeld ?_
    rotate_left
    · intro wz hSw; (try dsimp only at hSw); go_simp; all_goals (try with_reducible rfl)
    (try simp only [List.getElem_toArray]); (try simp only [List.getElem_cons_succ]); (try simp only [List.getElem_cons_zero]); (try simp only [Act.put]); (try simp only [List.setIfInBounds_toArray]); (try simp only [List.set_cons_succ]); (try simp only [List.set_cons_zero])
    refine wpAnyH_done (by kernel_rfl) ?_ _
    refine NoPanic.normal ?_
    have G3 := hidU (HG2.out.trans g3)
    obtain ⟨X, hX⟩ : ∃ X, X = (((((((w2.setCell ⟨B, 2, none⟩ (.int .i64 vn)).setCell ⟨B, 3, none⟩ (.int .i64 vd)).setCell ⟨B, 4, none⟩ (.int .i64 y0)).setCell ⟨B, 5, none⟩ (.int .i64 y1)).setCell ⟨B, 6, none⟩ (.int .i64 y2)).setCell ⟨B, 7, none⟩ (.int .i64 y3)).setCell ⟨B, 8, none⟩ (.int .i64 y4)) := ⟨_, rfl⟩
    rw [← hX] at h3 G3 c0 c1 ⊢
    clear hX hHeld g3 h2 f2 d2 f3 d3 f4 d4 f5 d5 f6 d6 f7 d7 f8 d8
    have f1 := h3.1.frozen 1
    have f9 := h3.1.frozen 9
    have c9 := h3.1.cell (v := .int .i64 p) 9 rfl
    have HT3 := hidU h3
    clear h3
    go_wp2
    go_ret
    exact ⟨_, rfl, HR.out, (HT3.out.rest _).power _, (G3.out.trans (set_grown _ _ _ _)).trans (set_grown _ _ _ _)⟩
end Go.Proofs.YtnhefbhiemdhoaaGreat
