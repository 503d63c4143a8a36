/- A unit text is read: what it tells, and the walk's relations. -/
import Derived.Test.YtnhefbhiemdhoaaGreatUnitP6
import Derived.Test.YtnhefbhiemdhoaaGreatScopeM
namespace Go.Proofs.YtnhefbhiemdhoaaGreat
open Go.RowKit Go.MapKept Go.Proofs.YtnhefbhiemdhoaaGreat.RM

/-- behind a word and its power -/
def partU (rec : List UInt8 → Bool → UV → Option UV) (r : List UInt8) (u : UV) (p : Int) (dv : Bool) (P : UV) : Option UV :=
  match mulP u p dv P with
  | none => none
  | some P' =>
    match r with
    | [] => some P'
    | b :: r' => if b = 46 then rec r' dv P' else if b = 47 ∧ dv = false then rec r' true P' else none
/-- behind the ^ -/
def powU (rec : List UInt8 → Bool → UV → Option UV) (r : List UInt8) (u : UV) (dv : Bool) (P : UV) : Option UV :=
  match powL r with
  | none => none
  | some q => partU rec q.2 u q.1 dv P
/-- a unit text from a word on -/
def uo : Nat → List UInt8 → Bool → UV → Option UV
  | 0, _, _, _ => none
  | n + 1, l, dv, P =>
    if (wordI (hdW l)).2 = true then
      (if (passL 94 (tlW l)).2 = true then powU (uo n) (passL 94 (tlW l)).1 (wordI (hdW l)).1 dv P else partU (uo n) (passL 94 (tlW l)).1 (wordI (hdW l)).1 1 dv P)
    else none
def oneV : UV := ⟨1, 1, 0, 0, 0, 0, 0⟩
def unitI (l : List UInt8) : Option UV := if l = [49] then some oneV else uo (l.length + 1) l false oneV

theorem okD_tab : ∀ r ∈ uTab, okD r.2 := by
  have h : uTab.all (fun r => decide (-9 ≤ r.2.x0 ∧ r.2.x0 ≤ 9) && decide (-9 ≤ r.2.x1 ∧ r.2.x1 ≤ 9) && decide (-9 ≤ r.2.x2 ∧ r.2.x2 ≤ 9) && decide (-9 ≤ r.2.x3 ∧ r.2.x3 ≤ 9) && decide (-9 ≤ r.2.x4 ∧ r.2.x4 ≤ 9)) = true := by decide
  intro r hr
  have := List.all_eq_true.1 h r hr
  simp only [Bool.and_eq_true, decide_eq_true_eq] at this
  exact ⟨this.1.1.1.1, this.1.1.1.2, this.1.1.2, this.1.2, this.2⟩
theorem okD_find {l : List UInt8} {u : UV} (h : uFind l = some u) : okD u := by
  unfold uFind look at h
  rw [Option.map_eq_some_iff] at h
  obtain ⟨r, hr, rfl⟩ := h
  exact okD_tab r (List.mem_of_find?_eq_some hr)
theorem okD_zero : okD .zero := by unfold okD UV.zero; simp
theorem okD_word (l : List UInt8) : okD (wordI l).1 := by
  unfold wordI
  cases h : uFind l with
  | some u => exact okD_find h
  | none =>
    show okD (preI l).1
    cases l with
    | nil => exact okD_zero
    | cons b r =>
      cases hr : uFind r with
      | none => simp only [preI, hr]; exact okD_zero
      | some u =>
        simp only [preI, hr]
        split
        · exact okD_zero
        · have h9 : okD u := okD_find hr
          exact h9
theorem tlW_len (l : List UInt8) : (tlW l).length ≤ l.length := by
  have := congrArg List.length (hd_tl l)
  rw [List.length_append] at this
  omega
theorem tlW_mem {l : List UInt8} {b : UInt8} (h : b ∈ tlW l) : b ∈ l := by
  rw [← hd_tl l]; exact List.mem_append_right _ h
theorem passL_cons (c b : UInt8) (r : List UInt8) : passL c (b :: r) = if b = c then (r, true) else (b :: r, false) := rfl
theorem passL_len (c : UInt8) (l : List UInt8) : (passL c l).1.length ≤ l.length ∧ ((passL c l).2 = true → (passL c l).1.length < l.length) := by
  cases l with
  | nil => simp [passL]
  | cons b r =>
    rw [passL_cons]
    by_cases h : b = c
    · simp [h]
    · simp [h]
theorem passL_mem {c b : UInt8} {l : List UInt8} (h : b ∈ (passL c l).1) : b ∈ l := by
  cases l with
  | nil => simp [passL] at h
  | cons d r =>
    rw [passL_cons] at h
    by_cases e : d = c
    · rw [if_pos e] at h; exact List.mem_cons_of_mem _ h
    · rw [if_neg e] at h; exact h
theorem powL_out {l : List UInt8} {q : Int × List UInt8} (h : powL l = some q) : q.1 ≠ 0 ∧ (-9 ≤ q.1 ∧ q.1 ≤ 9) ∧ q.2.length ≤ l.length ∧ ∀ b ∈ q.2, b ∈ l := by
  have h1 := passL_len 45 l
  have h2 := fun b => @passL_mem 45 b l
  unfold powL at h
  generalize (passL 45 l).1 = m at h h1 h2
  generalize (passL 45 l).2 = n at h h1
  cases m with
  | nil => cases h
  | cons b r =>
    unfold powA at h
    simp only at h
    split at h
    · cases h
    · cases h
      have h3 := h1.1
      simp at h3
      refine ⟨?_, ?_, by show r.length ≤ _; omega, fun c hc => h2 c (by simp [hc])⟩
      · cases n <;> simp <;> omega
      · cases n <;> simp <;> omega

/-- how much is left to be read -/
def restN (T : Nat) (w : World) : Nat := match w.cell? ⟨T, 1, none⟩ with | some (.string s) => s.size | _ => 0
def muU (T : Nat) (l : Nat) (w : World) : Nat := if l = 0 then 0 else 3 * restN T w + (if l = 1 then 2 else 1)
theorem restN_is {W : World} {B M : Nat} {s : ByteArray} {u : UV} {p : Int} {dv : Bool} {P : UV} (h : IsT W B M s u p dv P) : restN B W = s.data.toList.length := by
  unfold restN
  rw [h.1.cell (v := .string s) 1 rfl]
  rfl
def FrU (s : ByteArray) (Z T : Nat) (a : Act) : Prop := ∃ v1 v3 v4 v6 v7 v8 v9 v10 v11 v12 v13 v14 v15 v16 v17 v18 v19 v20 v21 v22 v23 v24 v25 v26 v27 v28 v29 v30 v31 v32 v33 v34 v35 v36 v37 v38 : Value, a = ⟨#[.string s, v1, .pointer (some ⟨Z, 0, none⟩), v3, v4, .pointer (some ⟨T, 0, none⟩), v6, v7, v8, v9, v10, v11, v12, v13, v14, v15, v16, v17, v18, v19, v20, v21, v22, v23, v24, v25, v26, v27, v28, v29, v30, v31, v32, v33, v34, v35, v36, v37, v38], []⟩
/-- what holds wherever a unit text is being read -/
def StU (w0 : World) (Z T M : Nat) (wr : World) (st : ByteArray) (u : UV) (p : Int) (dv : Bool) (P : UV) : Prop :=
  IsT wr T M st u p dv P ∧ okD u ∧ okD P ∧ (∀ b ∈ st.data.toList, b.toNat < 128) ∧ st.data.toList.length ≤ 1048576 ∧ IsB wr Z #[.int .i64 0, .int .i64 0, .int .i64 0, .int .i64 0, .int .i64 0, .int .i64 0, .int .i64 0] 55 ∧ Below w0.heap.size w0 wr ∧ Z ≠ T ∧ w0.heap.size ≤ Z ∧ w0.heap.size ≤ T
/-- .. what is wanted of it in the end -/
def StZ (w0 : World) (Z : Nat) (wr : World) : Prop := IsB wr Z #[.int .i64 0, .int .i64 0, .int .i64 0, .int .i64 0, .int .i64 0, .int .i64 0, .int .i64 0] 55 ∧ Below w0.heap.size w0 wr ∧ w0.heap.size ≤ Z
theorem StU.z {w0 wr : World} {Z T M : Nat} {st : ByteArray} {u : UV} {p : Int} {dv : Bool} {P : UV} (h : StU w0 Z T M wr st u p dv P) : StZ w0 Z wr := ⟨h.2.2.2.2.2.1, h.2.2.2.2.2.2.1, h.2.2.2.2.2.2.2.2.1⟩
theorem StU.zg {w0 wr w' : World} {Z T M : Nat} {st : ByteArray} {u : UV} {p : Int} {dv : Bool} {P : UV} (h : StU w0 Z T M wr st u p dv P) (hg : wr.grownBy w' (some T)) : StZ w0 Z w' := by
  obtain ⟨h1, h2, h3, h4, h5, h6, h7, h8, h9, h10⟩ := h
  exact ⟨(hg.block Z h6.lt (by simpa using h8)).trans h6, h7.trans (below_grownK hg h10 h7.size), h9⟩
def JU (w0 : World) (s : ByteArray) (o : Option UV) (Z T M : Nat) : Nat → Act → World → Prop
  | 0, a, wr => FrU s Z T a ∧ Hid (o = none) ∧ Hid (StZ w0 Z wr)
  | 1, a, wr => FrU s Z T a ∧ ∃ st u p dv P n, Hid (o = uo n st.data.toList dv P) ∧ st.data.toList.length < n ∧ Hid (StU w0 Z T M wr st u p dv P)
  | 2, a, wr => FrU s Z T a ∧ ∃ st u p dv P n, Hid (o = powU (uo n) st.data.toList u dv P) ∧ st.data.toList.length ≤ n ∧ Hid (StU w0 Z T M wr st u p dv P)
  | 3, a, wr => FrU s Z T a ∧ ∃ st u p dv P n, Hid (o = partU (uo n) st.data.toList u p dv P) ∧ st.data.toList.length ≤ n ∧ (p ≠ 0 ∧ -9 ≤ p ∧ p ≤ 9) ∧ Hid (StU w0 Z T M wr st u p dv P)
  | _, _, _ => False
theorem StU.step {w0 wr w' : World} {Z T M : Nat} {st st' : ByteArray} {u u' : UV} {p p' : Int} {dv dv' : Bool} {P P' : UV} (h : StU w0 Z T M wr st u p dv P) (hT : IsT w' T M st' u' p' dv' P') (hg : wr.grownBy w' (some T)) (hu : okD u') (hP : okD P') (hm : ∀ b ∈ st'.data.toList, b ∈ st.data.toList) (hl : st'.data.toList.length ≤ st.data.toList.length) : StU w0 Z T M w' st' u' p' dv' P' := by
  obtain ⟨h1, h2, h3, h4, h5, h6, h7, h8, h9, h10⟩ := h
  refine ⟨hT, hu, hP, fun b hb => h4 b (hm b hb), by omega, ?_, h7.trans (below_grownK hg h10 h7.size), h8, h9, h10⟩
  exact (hg.block Z h6.lt (by simpa using h8)).trans h6
end Go.Proofs.YtnhefbhiemdhoaaGreat
