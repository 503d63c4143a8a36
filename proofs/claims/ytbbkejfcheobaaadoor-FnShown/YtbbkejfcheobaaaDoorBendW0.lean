/- Bytes that a call may read and write: what a text's bytes are, what is cut of them, what was appended. -/
import Derived.Test.YtbbkejfcheobaaaDoorDrawI
import Derived.Laws.IdiomStrings
import Derived.Lib.BufferRead
namespace Go.Proofs.YtbbkejfcheobaaaDoor
open Go.RowKit Go.Proofs.YtbbkejfcheobaaaDoor.RM

theorem hidB {p : Prop} (h : p) : Hid p := h
theorem infoU8 : (Tryd.prog.info? 5).map (fun i => (i.zero, i.size, i.bytes)) = some (some (.int .u8 0), 1, 1) := by kernel_rfl
def vB (bs : List UInt8) : List Value := bs.map fun b => Value.int .u8 (b.toNat : Int)
theorem vB_len (bs : List UInt8) : (vB bs).length = bs.length := by simp [vB]
theorem vB_at (bs : List UInt8) (j : Nat) (h : j < bs.length) : (vB bs)[j]? = some (.int .u8 ((bs[j]?.getD 0).toNat : Int)) := by
  simp [vB, List.getElem?_eq_getElem h]
/-- the bytes bs, to be read and written, in a block from B on -/
def RdB (W : World) (B : Nat) (v : Value) (bs : List UInt8) : Prop :=
  ∃ a c, v = .slice a bs.length c ∧ bs.length ≤ c ∧ c ≤ maxLen ∧ (bs ≠ [] → ∃ g, a = some ⟨g, 0, none⟩ ∧ B ≤ g ∧ ∀ j, j < bs.length → W.cell? ⟨g, j, none⟩ = some (.int .u8 ((bs[j]?.getD 0).toNat : Int)) ∧ W.frozen? ⟨g, j, none⟩ = false)
theorem RdB.ex {W W' : World} {B cb : Nat} {v : Value} {bs : List UInt8} (h : RdB W B v bs) (hx : Ex cb W W') (hc : cb < B) : RdB W' B v bs := by
  obtain ⟨a, c, h1, h2, h3, h4⟩ := h
  refine ⟨a, c, h1, h2, h3, fun hne => ?_⟩
  obtain ⟨g, k1, k2, k3⟩ := h4 hne
  exact ⟨g, k1, k2, fun j hj => ⟨hx.cell (k3 j hj).1 (by omega), hx.frozen (k3 j hj).1 (k3 j hj).2 (by omega)⟩⟩
theorem RdB.own {W : World} {base B n : Nat} {v : Value} {bs : List UInt8} (h : W.ownsRow base 5 1 v n (vB bs)) (hb : B ≤ base) : RdB W B v bs := by
  have hn : bs.length = n := by have := h.1; rw [vB_len] at this; omega
  subst hn
  rcases h.2 with ⟨e, h0⟩ | ⟨g, cap, cur, e, h1, h2, h3, h4, h5⟩
  · subst e
    exact ⟨none, 0, by rw [h0], by omega, Nat.zero_le _, fun hne => absurd (List.eq_nil_of_length_eq_zero h0) hne⟩
  · subst e
    refine ⟨_, cap, rfl, h3, h4, fun _ => ⟨g, rfl, by omega, fun j hj => ⟨?_, h.frozenAt j⟩⟩⟩
    rw [h.cellAt j (by omega), vB_at bs j hj]
theorem RdB.put {W : World} {B n c k : Nat} {g : Nat} {bs : List UInt8} (h : RdB W B (.slice (some ⟨g, 0, none⟩) n c) bs) (hk : k < bs.length) (x : UInt8) : RdB (W.setCell ⟨g, k, none⟩ (.int .u8 (x.toNat : Int))) B (.slice (some ⟨g, 0, none⟩) n c) (bs.set k x) := by
  obtain ⟨a, c', h1, h2, h3, h4⟩ := h
  injection h1 with e1 e2 e3
  subst e1 e2 e3
  refine ⟨_, _, by rw [List.length_set], by rw [List.length_set]; exact h2, h3, fun _ => ?_⟩
  obtain ⟨g', k1, k2, k3⟩ := h4 (by intro e; rw [e] at hk; exact absurd hk (Nat.not_lt_zero _))
  cases k1
  refine ⟨g, rfl, k2, fun j hj => ?_⟩
  rw [List.length_set] at hj
  obtain ⟨q1, q2⟩ := k3 j hj
  refine ⟨?_, by rw [World.frozen?_setCell]; exact q2⟩
  by_cases e : k = j
  · subst e
    rw [World.cell?_setCell_same (h := q1), List.getElem?_set_self hk]
    rfl
  · rw [World.cell?_setCell_other (h := by intro e2; injection e2 with _ e3 _; exact e e3), q1, List.getElem?_set_ne e]
theorem RdB.cut {W : World} {B c k : Nat} {a : Option Addr} {bs : List UInt8} (h : RdB W B (.slice a bs.length c) bs) (hk : k ≤ bs.length) : RdB W B (.slice a k c) (bs.take k) := by
  obtain ⟨a', c', h1, h2, h3, h4⟩ := h
  injection h1 with e1 e2 e3
  subst e1 e3
  have hl : (bs.take k).length = k := by rw [List.length_take]; omega
  refine ⟨_, _, by rw [hl], by rw [hl]; omega, h3, fun hne => ?_⟩
  obtain ⟨g, k1, k2, k3⟩ := h4 (by intro e; rw [e] at hne; simp at hne)
  refine ⟨g, k1, k2, fun j hj => ?_⟩
  rw [hl] at hj
  have := k3 j (by omega)
  rw [List.getElem?_take, if_pos hj]
  exact this
/-- 'string(b)' -/
theorem RdB.back {W : World} {B c : Nat} {a : Option Addr} {bs : List UInt8} (h : RdB W B (.slice a bs.length c) bs) : (convert 22 9 (.slice a bs.length c)).run Tryd.prog W = .ok (.string ⟨bs.toArray⟩) W := by
  obtain ⟨a', c', h1, h2, h3, h4⟩ := h
  injection h1 with e1 e2 e3
  subst e1 e3
  by_cases hne : bs = []
  · subst hne
    cases a with
    | none => exact Lib.run_convert_nil_bytes W 22 9 5 c Tryd.underlying22 Tryd.underlying5 Tryd.underlying9
    | some ad => exact run_convert_bytes_back W 22 9 5 ad c [] Tryd.underlying22 Tryd.underlying5 Tryd.underlying9 (fun j hj => absurd hj (Nat.not_lt_zero _))
  · obtain ⟨g, rfl, k2, k3⟩ := h4 hne
    refine run_convert_bytes_back W 22 9 5 ⟨g, 0, none⟩ c bs Tryd.underlying22 Tryd.underlying5 Tryd.underlying9 (fun j hj => ?_)
    have e : (⟨g, 0, none⟩ : Addr).add j = ⟨g, j, none⟩ := by by_cases i0 : j = 0 <;> simp [Addr.add, i0]
    rw [e, (k3 j hj).1, List.getElem?_eq_getElem hj]
    rfl
/-- '[]byte(s)' -/
theorem RdB.of (w : World) (s : ByteArray) (c : Nat) (hc : s.size ≤ c) (hm : c ≤ maxLen) : RdB (w.drew.alloc (.cells (bytesRow s c) 5 ((bytesRow s c).size, (bytesRow s c).size + 1))) w.heap.size (.slice (some ⟨w.heap.size, 0, none⟩) s.size c) s.data.toList := by
  have hl : s.data.toList.length = s.size := by rw [Array.length_toList]; rfl
  refine ⟨_, c, by rw [hl], by rw [hl]; exact hc, hm, fun _ => ⟨_, rfl, Nat.le_refl _, fun j hj => ?_⟩⟩
  have hb : (w.drew.alloc (.cells (bytesRow s c) 5 ((bytesRow s c).size, (bytesRow s c).size + 1))).heap[w.heap.size]? = some (.cells (bytesRow s c) 5 ((bytesRow s c).size, (bytesRow s c).size + 1)) := by
    show (w.heap.push _)[w.heap.size]? = _
    simp
  have hsz : j < (bytesRow s c).size := by
    unfold bytesRow
    simp
    omega
  constructor
  · unfold World.cell?
    rw [hb]
    have hj' : j < s.data.size := by simpa using hj
    simp [bytesRow, Array.getElem?_append]
    have hj2 : j < s.size := hj'
    rw [if_pos hj2, Array.getElem?_eq_getElem hj']
    rfl
  · unfold World.frozen?
    rw [hb]
    simp
    omega
theorem exGrowI {w0 w w1 : World} {cb base : Nat} {e : TypeId} {size : Nat} {v : Value} {n : Nat} {xs : List Value} (h : Ex cb w0 w) (hr : w.ownsRow base e size v n xs) (hb : w0.heap.size ≤ base) (hg : w.grownBy w1 v.ownBlock) : Ex cb w0 w1 := by
  refine ⟨hg.os.trans h.1, hg.tape.trans h.2.1, hg.output.trans h.2.2.1, Nat.le_trans h.size hg.size, fun k hk hne => ?_⟩
  rw [hg.block k (Nat.lt_of_lt_of_le hk h.size) (fun e => by have := (hr.lt k e.symm).1; omega)]
  exact h.2.2.2.2 k hk hne
theorem curOwnI {w w1 : World} {cb base : Nat} {a : Option Addr} {len cap : Nat} {zs : List Int} {e : TypeId} {size : Nat} {v : Value} {n : Nat} {xs : List Value} (h : Cur w cb a len cap zs) (hr : w.ownsRow base e size v n xs) (hc : cb < base) (ha : ∀ b off, a = some ⟨b, off, none⟩ → 0 < zs.length → b < base) (hg : w.grownBy w1 v.ownBlock) : Cur w1 cb a len cap zs := by
  refine curGrownI h hg (fun e => ?_) (fun b off e1 e2 e => ?_)
  · have := (hr.lt cb e).1; omega
  · have := (hr.lt b e).1; have := ha b off e1 e2; omega
end Go.Proofs.YtbbkejfcheobaaaDoor
