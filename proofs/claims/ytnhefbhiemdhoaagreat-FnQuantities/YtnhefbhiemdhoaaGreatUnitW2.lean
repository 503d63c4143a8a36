/- Look-ups in the program's map of units, and a prefix's factor. -/
import Derived.Test.YtnhefbhiemdhoaaGreatUnitW1
namespace Go.Proofs.YtnhefbhiemdhoaaGreat
open Go.RowKit Go.MapKept

/-- a look-up whose answer is known -/
theorem wpList_look {P : Program} (w : World) {ops : Array Oper} {rest : List Oper} {o : Oper} {a : Act} {Q : Exit → Act → World → Prop}
    (hg : o.guard = none) (m x : Operand) (t : TypeId) (ok : Bool) (hop : o.op = Op.lookup t m x ok) (mv xv v : Value) (hm : a.eval m = mv) (hx : a.eval x = xv)
    (hrun : (Instr.lookup t mv xv ok).run P w = .ok v w) (hK : wpList P ops Q rest (a.put o.dst v) w) : wpList P ops Q (o :: rest) a w := by
  refine wpList_plain hg fun K' hK' => ?_
  unfold Oper.wp
  simp [execOp, hop, hm, hx, hrun, Result.andThen]
  exact hK' _ _ hK

theorem bytes_beq (s : ByteArray) (l : List UInt8) : (s == (⟨l.toArray⟩ : ByteArray)) = (l == s.data.toList) := by
  rw [beq_toListBytes, ByteArray.toList_eq, ByteArray.toList_eq]
  show (s.data.toList == l) = _
  by_cases h : s.data.toList = l
  · rw [h]
  · have h2 : ¬ l = s.data.toList := fun e => h e.symm
    rw [beq_eq_false_iff_ne.2 h, beq_eq_false_iff_ne.2 h2]
theorem find_ents (s : ByteArray) : ∀ (T : List (List UInt8 × UV)) (c i : Nat), ∃ r, Instr.findNow .string (.string s) (ents c (T.map fun r => (Value.string ⟨r.1.toArray⟩, uVal r.2))) i = some r ∧ r.map (·.2) = (look T s.data.toList).map uVal
  | [], _, _ => ⟨none, rfl, rfl⟩
  | q :: T, c, i => by
    obtain ⟨r, h1, h2⟩ := find_ents s T (c + 1) (i + 1)
    obtain ⟨k, u⟩ := q
    rw [look_cons]
    by_cases h : k = s.data.toList
    · refine ⟨some (i, uVal u), ?_, by simp [h]⟩
      have hb := bytes_beq s k
      rw [show (k == s.data.toList) = true by simpa using h] at hb
      show (match (some (s == (⟨k.toArray⟩ : ByteArray)) : Option Bool) with | some true => _ | some false => _ | none => _) = _
      rw [hb]
    · refine ⟨r, ?_, by simp [h, h2]⟩
      have hb := bytes_beq s k
      rw [show (k == s.data.toList) = false by simpa using h] at hb
      show (match (some (s == (⟨k.toArray⟩ : ByteArray)) : Option Bool) with | some true => _ | some false => _ | none => _) = _
      rw [hb]
      exact h1
theorem look_any (s : ByteArray) (B : Nat) (w : World) (h : IsM w B uEnts 15) :
    (Instr.lookup 86 (.map (some B)) (.string s) true).run Tryz.prog w = .ok (.tuple #[uVal ((uFind s.data.toList).getD .zero), .bool (uFind s.data.toList).isSome]) w := by
  obtain ⟨r, h1, h2⟩ := find_ents s uTab 0 0
  have hz : (zeroValue 55).run Tryz.prog w = .ok (uVal .zero) w := by kernel_rfl
  rw [run_look_ok Tryz.underlying86 Tryz.underlying9 (d := .string) (key := .string s) (show IsKey .string (.string s) from trivial) h hz h1]
  unfold uFind
  cases hr : look uTab s.data.toList with
  | none => rw [hr] at h2; cases r with
    | none => rfl
    | some q => cases h2
  | some u => rw [hr] at h2; cases r with
    | none => cases h2
    | some q => simp at h2; simp [h2]

theorem keep_cell {w w' : World} {b o c : Nat} {v : Value} (hg : w.grownBy w' (some c)) (h : w.cell? ⟨b, o, none⟩ = some v) (hne : b ≠ c) : w'.cell? ⟨b, o, none⟩ = some v :=
  (World.cell?_of_block (w := w) (a := ⟨b, o, none⟩) (hg.block b (lt_cell h) (by simpa using hne))).trans h
theorem keep_frozen {w w' : World} {b o c : Nat} {v : Value} (hg : w.grownBy w' (some c)) (h : w.cell? ⟨b, o, none⟩ = some v) (hf : w.frozen? ⟨b, o, none⟩ = false) (hne : b ≠ c) : w'.frozen? ⟨b, o, none⟩ = false :=
  (World.frozen?_of_block (w := w) (a := ⟨b, o, none⟩) (hg.block b (lt_cell h) (by simpa using hne))).trans hf
def rat (p : Int × Int) : Value := .agg #[.int .i64 p.1, .int .i64 p.2]
def pKV : List (Value × Value) := [(.int .u8 107, rat (1000, 1)), (.int .u8 99, rat (1, 100)), (.int .u8 109, rat (1, 1000)), (.int .u8 117, rat (1, 1000000)), (.int .u8 77, rat (1000000, 1))]
def pFind (b : UInt8) : Option (Nat × Value) :=
  if b = 107 then some (0, rat (1000, 1)) else if b = 99 then some (1, rat (1, 100)) else if b = 109 then some (2, rat (1, 1000)) else if b = 117 then some (3, rat (1, 1000000)) else if b = 77 then some (4, rat (1000000, 1)) else none
theorem nat8 (b c : UInt8) : ((b.toNat : Int) == (c.toNat : Int)) = (b == c) := by
  by_cases h : b = c
  · subst h; simp
  · have h2 : ¬ (b.toNat : Int) = (c.toNat : Int) := fun e => h (UInt8.toNat.inj (by omega))
    rw [beq_eq_false_iff_ne.2 h, beq_eq_false_iff_ne.2 h2]
theorem sameNow_u8 (b c : UInt8) : Instr.sameNow (.int .u8) (.int .u8 (b.toNat : Int)) (.int .u8 (c.toNat : Int)) = some (b == c) := by
  show (if IntKind.u8 = IntKind.u8 then some ((b.toNat : Int) == (c.toNat : Int)) else none) = _
  rw [if_pos rfl, nat8]
theorem findNow_u8 (b c : UInt8) (v : Value) (n i : Nat) (es : List MapEntry) : Instr.findNow (.int .u8) (.int .u8 (b.toNat : Int)) ({ key := .int .u8 (c.toNat : Int), val := v, born := n } :: es) i = if b = c then some (some (i, v)) else Instr.findNow (.int .u8) (.int .u8 (b.toNat : Int)) es (i + 1) := by
  show (match Instr.sameNow (.int .u8) (.int .u8 (b.toNat : Int)) (.int .u8 (c.toNat : Int)) with | some true => some (some (i, v)) | some false => Instr.findNow (.int .u8) (.int .u8 (b.toNat : Int)) es (i + 1) | none => none) = _
  rw [sameNow_u8]
  by_cases h : b = c
  · simp [h]
  · rw [beq_eq_false_iff_ne.2 h, if_neg h]
theorem find_pfx (b : UInt8) : Instr.findNow (.int .u8) (.int .u8 (b.toNat : Int)) (ents 0 pKV) 0 = some (pFind b) := by
  have h := findNow_u8 b
  unfold pKV
  show Instr.findNow (.int .u8) (.int .u8 (b.toNat : Int)) [{ key := .int .u8 ((107 : UInt8).toNat : Int), val := _, born := _ }, { key := .int .u8 ((99 : UInt8).toNat : Int), val := _, born := _ }, { key := .int .u8 ((109 : UInt8).toNat : Int), val := _, born := _ }, { key := .int .u8 ((117 : UInt8).toNat : Int), val := _, born := _ }, { key := .int .u8 ((77 : UInt8).toNat : Int), val := _, born := _ }] 0 = _
  rw [h, h, h, h, h]
  unfold pFind
  by_cases h1 : b = 107
  · simp [h1]
  by_cases h2 : b = 99
  · simp [h2]
  by_cases h3 : b = 109
  · simp [h3]
  by_cases h4 : b = 117
  · simp [h4]
  by_cases h5 : b = 77
  · simp [h5]
  simp [h1, h2, h3, h4, h5]
  rfl
theorem pFind_pfx (b : UInt8) : ((pFind b).map (·.2)).getD (.agg #[.int .i64 0, .int .i64 0]) = .agg #[.int .i64 (pfx b).1, .int .i64 (pfx b).2] := by
  unfold pFind pfx
  by_cases h1 : b = 107
  · simp [h1, rat]
  by_cases h2 : b = 99
  · simp [h2, rat]
  by_cases h3 : b = 109
  · simp [h3, rat]
  by_cases h4 : b = 117
  · simp [h4, rat]
  by_cases h5 : b = 77
  · simp [h5, rat]
  simp [h1, h2, h3, h4, h5]
theorem look_pfx (b : UInt8) (B : Nat) (w : World) (h : IsM w B (ents 0 pKV) 5) :
    (Instr.lookup 129 (.map (some B)) (.int .u8 (b.toNat : Int)) false).run Tryz.prog w = .ok (.agg #[.int .i64 (pfx b).1, .int .i64 (pfx b).2]) w := by
  have hu : Tryz.prog.underlying 5 = some (.int .u8) := Tryz.underlying5
  have hz : (zeroValue 25).run Tryz.prog w = .ok (.agg #[.int .i64 0, .int .i64 0]) w := by kernel_rfl
  rw [run_look (key := .int .u8 (b.toNat : Int)) Tryz.underlying129 hu (show IsKey (.int .u8) (.int .u8 (b.toNat : Int)) from rfl) h hz (find_pfx b), pFind_pfx]

set_option maxRecDepth 100000 in
set_option maxHeartbeats 1000000 in
theorem pfx_any (b : UInt8) (w : World) :
    Calls Tryz.prog 105 #[.int .u8 (b.toNat : Int)] w fun e w' => e = .returned (.agg #[.int .i64 (pfx b).1, .int .i64 (pfx b).2]) ∧ Below w.heap.size w w' := by
  have hmm := @run_makeMap Tryz.prog
  have hM : IsM ((w.alloc (.cells #[.int .i64 0, .int .i64 0] 25)).alloc (.map #[] 0)) (w.heap.size + 1) [] 0 := by
    have := IsM.new (w.alloc (.cells #[.int .i64 0, .int .i64 0] 25))
    simpa using this
  have hB : Below w.heap.size w ((w.alloc (.cells #[.int .i64 0, .int .i64 0] 25)).alloc (.map #[] 0)) := ((Below.refl _ _).alloc (Nat.le_refl _) _).alloc (by simp) _
  have h0 : ((w.alloc (.cells #[.int .i64 0, .int .i64 0] 25)).alloc (.map #[] 0)).cell? ⟨w.heap.size, 0, none⟩ = some (.int .i64 0) := by simp [go_sem]
  have h1 : ((w.alloc (.cells #[.int .i64 0, .int .i64 0] 25)).alloc (.map #[] 0)).cell? ⟨w.heap.size, 1, none⟩ = some (.int .i64 0) := by simp [go_sem]
  have f0 : ((w.alloc (.cells #[.int .i64 0, .int .i64 0] 25)).alloc (.map #[] 0)).frozen? ⟨w.heap.size, 0, none⟩ = false := by simp [go_sem]
  have f1 : ((w.alloc (.cells #[.int .i64 0, .int .i64 0] 25)).alloc (.map #[] 0)).frozen? ⟨w.heap.size, 1, none⟩ = false := by simp [go_sem]
  have hu : Tryz.prog.underlying 5 = some (.int .u8) := Tryz.underlying5
  go_enter Tryz.func105, Tryz.ntmps105
  go_wp2_with (first | (refine wpList_insert_new _ rfl _ _ _ 129 rfl 5 25 (.int .u8) Tryz.underlying129 hu _ _ _ rfl hM _ _ rfl rfl rfl (by kernel_rfl) ?_; intro w1 hM1 hG1;  replace f0 := keep_frozen hG1 h0 f0 (by simp); replace f1 := keep_frozen hG1 h1 f1 (by simp); replace h0 := keep_cell hG1 h0 (by simp); replace h1 := keep_cell hG1 h1 (by simp); replace hB := hB.trans (below_grownM hG1 (Nat.le_succ _) hB.size); clear hM; have hM := hM1; clear hM1 hG1) | (refine wpList_look _ rfl _ _ _ _ rfl _ _ _ rfl rfl (look_pfx b _ _ hM) ?_) | go_in)
  obtain ⟨e0, e1⟩ := new2 (n := .int .i64 (pfx b).1) (d := .int .i64 (pfx b).2) h0 h1
  exact bodyPost_ret (v := .agg #[.int .i64 (pfx b).1, .int .i64 (pfx b).2]) (by simp [results, Tryz.results105, go_sem, e0, e1]) rfl ⟨rfl, (hB.setCell (Nat.le_refl _) _).setCell (Nat.le_refl _) _⟩
end Go.Proofs.YtnhefbhiemdhoaaGreat
