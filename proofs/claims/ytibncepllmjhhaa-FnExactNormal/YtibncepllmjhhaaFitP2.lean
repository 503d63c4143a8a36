/- The walk of the program's CurveAt: the library's iterator from the end on, and a step of the curve in each round. -/
import Derived.Test.YtibncepllmjhhaaFitP1
import Derived.Test.YtibncepllmjhhaaFitPM
import Derived.RangeFuncWrites
import Derived.RangeFuncBox
import Derived.RangeFuncNested
import Derived.RangeFuncLeaves
import Derived.RangeFuncBound
import Derived.RangeFuncCalls
import Derived.Shelf.RegionOpen
namespace Go.Proofs.Ytibncepllmjhhaa
open Go.RowKit Go.Shelf Go.Proofs.Ytibncepllmjhhaa.RM
attribute [local go_sem] Oper.semAt_some

/-- blocks p and q lie as they lay -/
def KpB (p q : Nat) (W W' : World) : Prop := W'.heap[p]? = W.heap[p]? ∧ W'.heap[q]? = W.heap[q]?
theorem KpB.refl (p q : Nat) (W : World) : KpB p q W W := ⟨rfl, rfl⟩
theorem KpB.trans {p q : Nat} {X Y Z : World} (h : KpB p q X Y) (k : KpB p q Y Z) : KpB p q X Z := ⟨k.1.trans h.1, k.2.trans h.2⟩
theorem KpB.below {p q : Nat} {W W' : World} (h : Below W.heap.size W W') (hp : p < W.heap.size) (hq : q < W.heap.size) : KpB p q W W' := ⟨h.block p hp, h.block q hq⟩
theorem KpB.set {p q b o : Nat} {W : World} {v : Value} (hp : b ≠ p) (hq : b ≠ q) : KpB p q W (W.setCell ⟨b, o, none⟩ v) := ⟨Below.heap_setCell W ⟨b, o, none⟩ v p hp.symm, Below.heap_setCell W ⟨b, o, none⟩ v q hq.symm⟩
/-- what has come when j rounds from the end on are over -/
def frEnd (cs : List Fr) (m j : Nat) : List (Int × Fr) := (List.range j).map (fun (i : Nat) => ((m : Int) - 1 - (i : Int), fr cs (m - 1 - i)))
theorem frEnd_succ (cs : List Fr) (m j : Nat) : frEnd cs m (j + 1) = frEnd cs m j ++ [((m : Int) - 1 - j, fr cs (m - 1 - j))] := by simp [frEnd, List.range_succ]
theorem frEnd_len (cs : List Fr) (m j : Nat) : (frEnd cs m j).length = j := by simp [frEnd]
/-- the curve's steps over what has come -/
def phF (x : Fr) (pre : List (Int × Fr)) : Fr × Bool := pre.foldl (fun s y => (addP (mulP s.1 x) y.2, addK (mulP s.1 x) y.2)) ((0, 1), true)
theorem phF_app (x : Fr) (pre : List (Int × Fr)) (y : Int × Fr) : phF x (pre ++ [y]) = (addP (mulP (phF x pre).1 x) y.2, addK (mulP (phF x pre).1 x) y.2) := by unfold phF; rw [List.foldl_append]; rfl
theorem phF_all (cs : List Fr) (x : Fr) : ∀ j, phF x (frEnd cs cs.length j) = phr cs x j
  | 0 => rfl
  | j + 1 => by rw [frEnd_succ, phF_app, phF_all cs x j]; rfl

set_option maxRecDepth 100000 in
set_option maxHeartbeats 2000000 in
/-- the library's iterator from the end on -/
theorem backR_in (n l Bs g off m cap : Nat) (cs : List Fr) (hn : 1 ≤ n) (hm : m ≤ 1000000000) (J Jx : List (Int × Fr) → World → Prop)
    (hY : ∀ pre x W1, J pre W1 → pre.length < m → YieldAt Fence.wide (n - 1) Try.prog l #[.int .i64 x.1, .agg #[.int .i64 x.2.1, .int .i64 x.2.2]] W1 fun e W' =>
      (e = .returned (.bool true) ∧ J (pre ++ [x]) W' ∧ KpB Bs g W1 W') ∨ (e = .returned (.bool false) ∧ Jx (pre ++ [x]) W'))
    (W : World) (hBs : W.cell? ⟨Bs, 0, none⟩ = some (.slice (some ⟨g, off, none⟩) m cap)) (hc : ∀ j, j < m → W.cell? ⟨g, off + j * 2, none⟩ = some (.int .i64 (fr cs j).1) ∧ W.cell? ⟨g, off + j * 2 + 1, none⟩ = some (.int .i64 (fr cs j).2)) (h0 : J [] W) :
    CallsIn Fence.wide n Try.prog 60 #[.func (.yield l) #[] #[], .pointer (some ⟨Bs, 0, none⟩)] W fun e W' => (∃ v, e = .returned v) ∧
      ((∃ ys, ys = frEnd cs m m ∧ J ys W') ∨ (∃ pre, True ∧ Jx pre W')) := by
  have HC : Hid (∀ j, j < m → W.cell? ⟨g, off + j * 2, none⟩ = some (.int .i64 (fr cs j).1) ∧ W.cell? ⟨g, off + j * 2 + 1, none⟩ = some (.int .i64 (fr cs j).2)) := hc
  have HS : Hid (W.cell? ⟨Bs, 0, none⟩ = some (.slice (some ⟨g, off, none⟩) m cap)) := hBs
  clear hc
  refine callsIn_of_wp Try.func60 rfl trivial ?_ rfl
  simp only [Try.ntmps60, List.size_toArray, List.length_cons, List.length_nil, Nat.reduceAdd, Nat.reduceSub, Array.replicate_succ, Array.replicate_zero, List.push_toArray, List.append_toArray, List.nil_append, List.cons_append]
  gi_wp2
  clear hBs
  gi_loopw [3] (fun i wr => ∃ (j : Nat) (i0 : Int), j ≤ m ∧ i0 = (m : Int) - 1 - j ∧ i = .int .i64 i0 ∧ Hid (J (frEnd cs m j) wr) ∧ Hid (KpB Bs g W wr)) (fun i _ => (intOf i + 1).toNat)
  case atStart => exact ⟨0, (m : Int) - 1, Nat.zero_le _, by omega, rfl, h0, KpB.refl _ _ _⟩
  case round =>
    clear h0
    obtain ⟨j, i0, hj, hi0, rfl, hJ, hK⟩ := hrel
    have hs : wr.cell? ⟨Bs, 0, none⟩ = some (.slice (some ⟨g, off, none⟩) m cap) := (World.cell?_of_block (w := W) (a := ⟨Bs, 0, none⟩) hK.out.1).trans HS.out
    by_cases hlt : j < m
    · obtain ⟨i, rfl⟩ : ∃ i : Nat, i0 = i := ⟨i0.toNat, by omega⟩
      have hi : i < m := by omega
      have ei : m - 1 - j = i := by omega
      have hx : wr.cell? ⟨g, off + i * 2, none⟩ = some (.int .i64 (fr cs i).1) := (World.cell?_of_block (w := W) (a := ⟨g, off + i * 2, none⟩) hK.out.2).trans (HC.out i hi).1
      have hx' : wr.cell? ⟨g, off + i * 2 + 1, none⟩ = some (.int .i64 (fr cs i).2) := (World.cell?_of_block (w := W) (a := ⟨g, off + i * 2 + 1, none⟩) hK.out.2).trans (HC.out i hi).2
      obtain ⟨fn, tmps, assign, body, hy, hR⟩ := hY _ ((i : Int), fr cs i) wr hJ.out (by rw [frEnd_len]; exact hlt)
      dsimp only at hy
      obtain ⟨x, hxx⟩ : ∃ x, x = fr cs i := ⟨_, rfl⟩
      have HX : Hid (x = fr cs i) := hxx
      rw [← hxx] at hx hx' hy hR
      have HI : Hid ((i : Int) = (m : Int) - 1 - j) := hi0
      have HE : Hid (m - 1 - j = i) := ei
      clear hxx hi0 ei
      obtain ⟨x1, x2⟩ := x
      dsimp only at hx hx' hy hR
      gi_wp2
      refine hR.mono ?_
      rintro e W3 (⟨rfl, hJ3, hk3⟩ | ⟨rfl, hJx3⟩)
      · clear hy hR hx hx' hs
        gi_wp2
        go_roundw
        case rel => exact ⟨j + 1, (i : Int) - 1, by omega, by have := HI.out; omega, rfl, by rw [frEnd_succ, ← HI.out, HE.out, ← HX.out]; exact hJ3, hK.out.trans hk3⟩
        case measure => simp [intOf] <;> omega
      · gi_wp2
        refine bodyPost_ret (results_none rfl _ _ _) rfl ?_
        exact ⟨⟨_, rfl⟩, .inr ⟨_, trivial, hJx3⟩⟩
    · obtain rfl : j = m := by omega
      obtain rfl : i0 = -1 := by omega
      gi_wp2
      go_end0
      exact ⟨⟨_, rfl⟩, .inl ⟨_, rfl, hJ.out⟩⟩

theorem backRv_in (n : Nat) (a : Option Addr) (len cap : Nat) (w : World) :
    CallsIn Fence.wide n Try.prog 37 #[.slice a len cap] w fun e w' => e = .returned (.func (.func 60) #[] #[.pointer (some ⟨w.heap.size, 0, none⟩)]) ∧ w' = w.alloc (.cells #[.slice a len cap] 36) := by
  refine callsIn_of_wp Try.func37 rfl trivial ?_ rfl
  simp only [Try.ntmps37, List.size_toArray, List.length_cons, List.length_nil, Nat.reduceAdd, Nat.reduceSub, Array.replicate_succ, Array.replicate_zero, List.push_toArray, List.append_toArray, List.nil_append, List.cons_append]
  gi_wp2
  go_ret
  exact ⟨rfl, rfl⟩
theorem backR_seq (n Bs g off m cap : Nat) (cs : List Fr) (hn : 1 ≤ n) (hm : m ≤ 1000000000) (w : World) (hBs : w.cell? ⟨Bs, 0, none⟩ = some (.slice (some ⟨g, off, none⟩) m cap)) (hg : g < w.heap.size) (hc : ∀ j, j < m → w.cell? ⟨g, off + j * 2, none⟩ = some (.int .i64 (fr cs j).1) ∧ w.cell? ⟨g, off + j * 2 + 1, none⟩ = some (.int .i64 (fr cs j).2)) :
    SeqStopsK Fence.wide n Try.prog 60 #[.pointer (some ⟨Bs, 0, none⟩)] (fun x : Int × Fr => #[Value.int .i64 x.1, .agg #[.int .i64 x.2.1, .int .i64 x.2.2]]) (KpB Bs g) (fun ys => ys = frEnd cs m m) (fun _ => True) m w :=
  fun l J Jx W hW _ _ hY h0 => backR_in n l Bs g off m cap cs hn hm J Jx hY W ((hW.cell (p := ⟨Bs, 0, none⟩) (World.block_lt_of_cell? w _ hBs)).trans hBs) (fun j hj => ⟨(hW.cell (p := ⟨g, off + j * 2, none⟩) hg).trans (hc j hj).1, (hW.cell (p := ⟨g, off + j * 2 + 1, none⟩) hg).trans (hc j hj).2⟩) h0
end Go.Proofs.Ytibncepllmjhhaa
