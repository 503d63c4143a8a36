/- Maps that are written out in a function: a store at a key that isn't there yet, a look-up in what is known. -/
import Derived.Test.YtnhefbhiemdhoaaGreatRatioW1
import Derived.WideMake
import Derived.MapKept
import Derived.Carry
namespace Go.Proofs.YtnhefbhiemdhoaaGreat
open Go.RowKit Go.MapKept

/-- block b of W is a map of just these entries -/
def IsM (W : World) (b : Nat) (es : List MapEntry) (c : Nat) : Prop := W.heap[b]? = some (.map es.toArray c)
theorem IsM.lt {W : World} {b c : Nat} {es : List MapEntry} (h : IsM W b es c) : b < W.heap.size := (Array.getElem?_eq_some_iff.1 h).1
theorem IsM.below {W W' : World} {b c : Nat} {es : List MapEntry} (h : IsM W b es c) (hb : Below W.heap.size W W') : IsM W' b es c := (hb.block b h.lt).trans h
theorem IsM.new (W : World) : IsM (W.alloc (.map #[] 0)) W.heap.size [] 0 := (MapKept.heap_alloc W _).1

section
variable {P : Program} {w : World}
theorem run_store_new {mty kt et : TypeId} {d : TypeDesc} {key v : Value} {b c : Nat} {es : List MapEntry} (hm : P.underlying mty = some (.map kt et)) (hk : P.underlying kt = some d) (hi : IsKey d key) (hb : IsM w b es c) (hf : Instr.findNow d key es 0 = some none) :
    (Instr.mapUpdate mty (.map (some b)) key v).run P w = .ok () { w with heap := w.heap.setIfInBounds b (.map (es ++ [({ key := key, val := v, born := c } : MapEntry)]).toArray (c + 1)) } := by
  have hc : (Instr.checkKey false 10000 kt key).run P w = .ok () w := run_checkKey hk hi false 9999
  have hb' : w.heap[b]? = some (.map es.toArray c) := hb
  simp [Instr.mapUpdate, run_underlying hm, MapKept.run_getObj_map hb', hc, run_findKey hk hf, MapKept.run_setObj_map _ hb', Result.andThen]
theorem run_look_ok {mty kt et : TypeId} {d : TypeDesc} {key z : Value} {b c : Nat} {es : List MapEntry} {r : Option (Nat × Value)} (hm : P.underlying mty = some (.map kt et)) (hk : P.underlying kt = some d) (hi : IsKey d key) (hb : IsM w b es c) (hz : (zeroValue et).run P w = .ok z w) (hf : Instr.findNow d key es 0 = some r) :
    (Instr.lookup mty (.map (some b)) key true).run P w = .ok (.tuple #[(r.map (·.2)).getD z, .bool r.isSome]) w := by
  have hc : ∀ e, (Instr.checkKey e 10000 kt key).run P w = .ok () w := fun e => run_checkKey hk hi e 9999
  have hb' : w.heap[b]? = some (.map es.toArray c) := hb
  cases r with
  | none => simp [Instr.lookup, run_underlying hm, MapKept.run_getObj_map hb', hc, run_findKey hk hf, hz, Result.andThen]
  | some q => simp [Instr.lookup, run_underlying hm, MapKept.run_getObj_map hb', hc, run_findKey hk hf, Result.andThen]
theorem run_look {mty kt et : TypeId} {d : TypeDesc} {key z : Value} {b c : Nat} {es : List MapEntry} {r : Option (Nat × Value)} (hm : P.underlying mty = some (.map kt et)) (hk : P.underlying kt = some d) (hi : IsKey d key) (hb : IsM w b es c) (hz : (zeroValue et).run P w = .ok z w) (hf : Instr.findNow d key es 0 = some r) :
    (Instr.lookup mty (.map (some b)) key false).run P w = .ok ((r.map (·.2)).getD z) w := by
  have hc : ∀ e, (Instr.checkKey e 10000 kt key).run P w = .ok () w := fun e => run_checkKey hk hi e 9999
  have hb' : w.heap[b]? = some (.map es.toArray c) := hb
  cases r with
  | none => simp [Instr.lookup, run_underlying hm, MapKept.run_getObj_map hb', hc, run_findKey hk hf, hz, Result.andThen]
  | some q => simp [Instr.lookup, run_underlying hm, MapKept.run_getObj_map hb', hc, run_findKey hk hf, Result.andThen]
end

/-- an entry of a map's literal -/
theorem wpList_insert_new {P : Program} (w : World) {ops : Array Oper} {rest : List Oper} {o : Oper} {a : Act} {Q : Exit → Act → World → Prop}
    (hg : o.guard = none) (m x v : Operand) (t : TypeId) (hop : o.op = Op.insert t m x v)
    (kt et : TypeId) (d : TypeDesc) (ht : P.underlying t = some (.map kt et)) (hk : P.underlying kt = some d) (b c : Nat) (es : List MapEntry)
    (hm : a.eval m = .map (some b)) (hb : IsM w b es c) (key val : Value) (hx : a.eval x = key) (hv : a.eval v = val) (hi : IsKey d key) (hf : Instr.findNow d key es 0 = some none)
    (hK : ∀ w', IsM w' b (es ++ [({ key := key, val := val, born := c } : MapEntry)]) (c + 1) → w.grownBy w' (some b) → wpList P ops Q rest (a.put o.dst undef) w') :
    wpList P ops Q (o :: rest) a w := by
  refine wpList_plain hg fun K' hK' => ?_
  have hrun := run_store_new (v := val) ht hk hi hb hf
  unfold Oper.wp
  simp [execOp, hop, hm, hx, hv, hrun, Result.andThen]
  have hb' : w.heap[b]? = some (.map es.toArray c) := hb
  refine hK' _ _ (hK _ ?_ ⟨rfl, rfl, rfl, by simp, fun i _ hi => ?_⟩)
  · show (w.heap.setIfInBounds b _)[b]? = _
    simp [hb.lt]
  · have hne : ¬ b = i := fun e => hi (by rw [e])
    show (w.heap.setIfInBounds b _)[i]? = _
    simp [hne]

/-- entries in the order in which they were laid -/
def ents : Nat → List (Value × Value) → List MapEntry
  | _, [] => []
  | c, p :: r => { key := p.1, val := p.2, born := c } :: ents (c + 1) r
theorem ents_snoc (p : Value × Value) : ∀ (c : Nat) (l : List (Value × Value)), ents c l ++ [({ key := p.1, val := p.2, born := c + l.length } : MapEntry)] = ents c (l ++ [p])
  | c, [] => rfl
  | c, q :: r => by
    have h := ents_snoc p (c + 1) r
    show _ :: (ents (c + 1) r ++ _) = _ :: ents (c + 1) (r ++ [p])
    rw [← h, show c + (q :: r).length = c + 1 + r.length by simp; omega]
end Go.Proofs.YtnhefbhiemdhoaaGreat
