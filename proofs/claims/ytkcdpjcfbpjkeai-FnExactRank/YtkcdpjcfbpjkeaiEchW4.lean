/- The echelon that a pointer holds; the walk of choose. -/
import Derived.Test.YtkcdpjcfbpjkeaiEchW3
import Derived.BigRegion
import Derived.WalkKit
namespace Go.Proofs.Ytkcdpjcfbpjkeai
open Go.RowKit Go.Proofs.Ytkcdpjcfbpjkeai.RM

/-- whole numbers as cells -/
def natV (ns : List Nat) : List Value := ns.map fun (n : Nat) => Value.int .i64 (n : Int)
/-- the program's echelon: its struct, its rows, and the two lists -/
structure EchS (W : World) (base E : Nat) (v vc vf : Value) (us : List Value) (rows : List (List Fr)) (ch fe : List Nat) : Prop where
  blk : W.heap[E]? = some (.cells #[v, vc, vf] 77 (0, 0))
  lo : base ≤ E
  tab : Tab W base v us rows
  cho : W.ownsRow base 3 1 vc ch.length (natV ch)
  fre : W.ownsRow base 3 1 vf fe.length (natV fe)
  nc : ch = [] → vc = .slice none 0 0
  nf : fe = [] → vf = .slice none 0 0
  ne : ∀ c, c ∈ ch → ∀ f, f ∈ fe → c ≠ f
/-- two lists that have nothing in common lie apart -/
theorem own_apart {W : World} {base e n m : Nat} {vc vf : Value} {ch fe : List Nat} (h : W.ownsRow base e 1 vc n (natV ch)) (k : W.ownsRow base e 1 vf m (natV fe)) (nc : ch = [] → vc = .slice none 0 0) (nf : fe = [] → vf = .slice none 0 0) (ne : ∀ c, c ∈ ch → ∀ f, f ∈ fe → c ≠ f) :
    ∀ b, vc.ownBlock = some b → vf.ownBlock ≠ some b := by
  intro b hb hb2
  cases ch with
  | nil => rw [nc rfl] at hb; cases hb
  | cons c ch =>
    cases fe with
    | nil => rw [nf rfl] at hb2; cases hb2
    | cons f fe =>
      have h1 := h.cells hb 0 (.int .i64 (c : Int)) (by simp [natV])
      have h2 := k.cells hb2 0 (.int .i64 (f : Int)) (by simp [natV])
      rw [h1] at h2
      have : (c : Int) = f := by injection h2 with h2; injection h2
      exact ne c (by simp) f (by simp) (by omega)
/-- the cells of a struct of three -/
theorem cells3 {W : World} {E : Nat} {a b c : Value} {t : TypeId} (h : W.heap[E]? = some (.cells #[a, b, c] t (0, 0))) :
    W.cell? ⟨E, 0, none⟩ = some a ∧ W.cell? ⟨E, 1, none⟩ = some b ∧ W.cell? ⟨E, 2, none⟩ = some c ∧ W.frozen? ⟨E, 0, none⟩ = false ∧ W.frozen? ⟨E, 1, none⟩ = false ∧ W.frozen? ⟨E, 2, none⟩ = false ∧ E < W.heap.size := by
  have hl : E < W.heap.size := (Array.getElem?_eq_some_iff.1 h).1
  refine ⟨?_, ?_, ?_, ?_, ?_, ?_, hl⟩ <;> simp [World.cell?, World.frozen?, h]
/-- a block of a type that no row has -/
theorem own_ne {W : World} {base e size n E : Nat} {v : Value} {xs : List Value} {cs : Array Value} {t : TypeId} {f : Nat × Nat} (h : W.ownsRow base e size v n xs) (hE : W.heap[E]? = some (.cells cs t f)) (hne : e ≠ t) : ∀ b, v.ownBlock = some b → b ≠ E := by
  rintro b hb rfl
  obtain ⟨cs', h'⟩ := own_type h hb
  rw [h'] at hE
  cases hE
  exact hne rfl
/-- where an exchange takes a row from -/
def exch (i r x : Nat) : Nat := if r = x then i else if i = x then r else x
theorem exch_lt {i r x n : Nat} (hi : i < n) (hr : r < n) (hx : x < n) : exch i r x < n := by unfold exch; split <;> (try split) <;> omega
theorem exch_inj {i r x y : Nat} (h : exch i r x = exch i r y) : x = y := by
  unfold exch at h
  split at h <;> split at h <;> (try split at h) <;> (try split at h) <;> omega
theorem vl_exch (us : List Value) (i r x : Nat) (hi : i < us.length) (hr : r < us.length) : vl ((us.set i (vl us r)).set r (vl us i)) x = vl us (exch i r x) := by
  rw [vl_set _ _ _ _ (by rw [List.length_set]; exact hr), vl_set _ _ _ _ hi]
  unfold exch
  split <;> (try split) <;> rfl
theorem rw_exch (rows : List (List Fr)) (i r x : Nat) (hi : i < rows.length) (hr : r < rows.length) : rw' (swapT rows i r) x = rw' rows (exch i r x) := by
  unfold swapT
  rw [rw_set _ _ _ _ (by rw [List.length_set]; exact hr), rw_set _ _ _ _ hi]
  unfold exch
  split <;> (try split) <;> rfl
theorem swapT_len (rows : List (List Fr)) (i r : Nat) : (swapT rows i r).length = rows.length := by simp [swapT]
/-- two rows of a table are exchanged -/
theorem Tab.swap {W : World} {base G n c i r : Nat} {us : List Value} {rows : List (List Fr)} (h : Tab W base (.slice (some ⟨G, 0, none⟩) n c) us rows) (hi : i < us.length) (hr : r < us.length) :
    Tab ((W.setCell ⟨G, i, none⟩ (vl us r)).setCell ⟨G, r, none⟩ (vl us i)) base (.slice (some ⟨G, 0, none⟩) n c) ((us.set i (vl us r)).set r (vl us i)) (swapT rows i r) ∧ W.grownBy ((W.setCell ⟨G, i, none⟩ (vl us r)).setCell ⟨G, r, none⟩ (vl us i)) (some G) := by
  have hn : us.length = n := by
    rcases h.outer.2 with ⟨e, _⟩ | ⟨g', c', cur, e, _⟩ <;> cases e; rfl
  subst hn
  obtain ⟨s1, s2⟩ := h.outer.stored i (vl us r)
  obtain ⟨t1, t2⟩ := s1.stored r (vl us i)
  have keep : ∀ {m : Nat} {x : Value} {xs : List Value}, W.ownsRow base 24 2 x m xs → ((W.setCell ⟨G, i, none⟩ (vl us r)).setCell ⟨G, r, none⟩ (vl us i)).ownsRow base 24 2 x m xs := fun hx => own_oth (own_oth hx h.outer (by decide) s2) s1 (by decide) t2
  have hl := h.len
  refine ⟨⟨by rw [List.length_set, List.length_set]; exact t1, by rw [List.length_set, List.length_set, swapT_len]; exact hl, fun x hx => ?_, fun x y hx hy hne b hb => ?_⟩, ?_⟩
  · rw [List.length_set, List.length_set] at hx
    rw [vl_exch _ _ _ _ hi hr, rw_exch _ _ _ _ (by omega) (by omega)]
    exact keep (h.inner _ (exch_lt hi hr hx))
  · rw [List.length_set, List.length_set] at hx hy
    rw [vl_exch _ _ _ _ hi hr] at hb ⊢
    exact h.apart _ _ (exch_lt hi hr hx) (exch_lt hi hr hy) (fun e => hne (exch_inj e)) b hb
  · exact ⟨t2.os.trans s2.os, t2.tape.trans s2.tape, t2.output.trans s2.output, Nat.le_trans s2.size t2.size, fun k hk hne => (t2.block k (Nat.lt_of_lt_of_le hk s2.size) hne).trans (s2.block k hk hne)⟩
theorem EchS.ap {W : World} {base E : Nat} {v vc vf : Value} {us : List Value} {rows : List (List Fr)} {ch fe : List Nat} (h : EchS W base E v vc vf us rows ch fe) : ∀ b, vc.ownBlock = some b → vf.ownBlock ≠ some b := own_apart h.cho h.fre h.nc h.nf h.ne
theorem EchS.below {W W' : World} {base E : Nat} {v vc vf : Value} {us : List Value} {rows : List (List Fr)} {ch fe : List Nat} (h : EchS W base E v vc vf us rows ch fe) (hb : Below W.heap.size W W') : EchS W' base E v vc vf us rows ch fe :=
  ⟨(hb.block E (cells3 h.blk).2.2.2.2.2.2).trans h.blk, h.lo, h.tab.below hb, own_below h.cho hb, own_below h.fre hb, h.nc, h.nf, h.ne⟩
theorem EchS.swap {W : World} {base E G n c i r : Nat} {vc vf : Value} {us : List Value} {rows : List (List Fr)} {ch fe : List Nat} (h : EchS W base E (.slice (some ⟨G, 0, none⟩) n c) vc vf us rows ch fe) (hi : i < us.length) (hr : r < us.length) :
    EchS ((W.setCell ⟨G, i, none⟩ (vl us r)).setCell ⟨G, r, none⟩ (vl us i)) base E (.slice (some ⟨G, 0, none⟩) n c) vc vf ((us.set i (vl us r)).set r (vl us i)) (swapT rows i r) ch fe := by
  obtain ⟨t, g⟩ := h.tab.swap hi hr
  have hGE : G ≠ E := own_ne h.tab.outer h.blk (by decide) G rfl
  have hg : W.grownBy ((W.setCell ⟨G, i, none⟩ (vl us r)).setCell ⟨G, r, none⟩ (vl us i)) (Value.slice (some ⟨G, 0, none⟩) n c).ownBlock := g
  refine ⟨(g.block E (cells3 h.blk).2.2.2.2.2.2 (fun e => hGE (by cases e; rfl))).trans h.blk, h.lo, t, own_oth h.cho h.tab.outer (by decide) hg, own_oth h.fre h.tab.outer (by decide) hg, h.nc, h.nf, h.ne⟩
/-- a row is turned -/
theorem EchS.turn {W W' : World} {base E k : Nat} {v vc vf : Value} {us : List Value} {rows : List (List Fr)} {ps : List Fr} {ch fe : List Nat} (h : EchS W base E v vc vf us rows ch fe) (hk : k < us.length)
    (hu : W'.ownsRow base 24 2 (vl us k) ps.length (cellsR ps)) (hg : W.grownBy W' (vl us k).ownBlock) : EchS W' base E v vc vf us (rows.set k ps) ch fe := by
  have hne := own_ne (h.tab.inner k hk) h.blk (by decide)
  exact ⟨(hg.block E (cells3 h.blk).2.2.2.2.2.2 (fun e => hne E e.symm rfl)).trans h.blk, h.lo, h.tab.turn hk hu hg, own_oth h.cho (h.tab.inner k hk) (by decide) hg, own_oth h.fre (h.tab.inner k hk) (by decide) hg, h.nc, h.nf, h.ne⟩
theorem natV_app (ch : List Nat) (c : Nat) : natV (ch ++ [c]) = natV ch ++ [Value.int .i64 (c : Int)] := by simp [natV]
/-- a column is added to the chosen ones -/
theorem EchS.push {W w1 : World} {base E : Nat} {v vc vc' vf : Value} {us : List Value} {rows : List (List Fr)} {ch fe : List Nat} {tmp : Obj} {col n : Nat} (h : EchS W base E v vc vf us rows ch fe)
    (hown : w1.ownsRow base 3 1 vc' n (natV ch ++ [Value.int .i64 (col : Int)])) (hn : n = (ch ++ [col]).length) (hgrow : (W.alloc tmp).grownBy w1 vc.ownBlock) (hne : ∀ f, f ∈ fe → col ≠ f) :
    EchS (w1.setCell ⟨E, 1, none⟩ vc') base E v vc' vf us rows (ch ++ [col]) fe := by
  have hEl := (cells3 h.blk).2.2.2.2.2.2
  have hcE := own_ne h.cho h.blk (by decide)
  have ga : ∀ k, k < W.heap.size → some k ≠ vc.ownBlock → w1.heap[k]? = W.heap[k]? := fun k hk hne => (hgrow.block k (by simp; omega) hne).trans (Below.heap_alloc _ _ _ hk)
  have gW : W.grownBy w1 vc.ownBlock := ⟨hgrow.os, hgrow.tape, hgrow.output, Nat.le_trans (by simp) hgrow.size, ga⟩
  have b1 : w1.heap[E]? = some (.cells #[v, vc, vf] 77 (0, 0)) := (ga E hEl (fun e => hcE E e.symm rfl)).trans h.blk
  have t1 : Tab w1 base v us rows := h.tab.kept gW (fun k e h2 => own_unlike h.cho h.tab.outer (by decide) e h2) (fun i hi k e h2 => own_unlike h.cho (h.tab.inner i hi) (by decide) e h2)
  have f1 : w1.ownsRow base 3 1 vf fe.length (natV fe) := h.fre.kept gW (by
    cases hv : vf.ownBlock with
    | none => exact .inl rfl
    | some b => exact .inr (fun e => h.ap b e.symm hv))
  have gs : w1.grownBy (w1.setCell ⟨E, 1, none⟩ vc') (some E) := ⟨rfl, rfl, rfl, by simp [World.setCell], fun k _ hk => Below.heap_setCell _ _ _ _ (fun e => hk (by rw [e]))⟩
  have kb : ∀ {e size m : Nat} {x : Value} {xs : List Value}, w1.ownsRow base e size x m xs → e ≠ 77 → (w1.setCell ⟨E, 1, none⟩ vc').ownsRow base e size x m xs := fun hx hd => hx.kept gs (by
    cases hv : Value.ownBlock _ with
    | none => exact .inl rfl
    | some b => exact .inr (by intro e; exact own_ne hx b1 hd b hv (by cases e; rfl)))
  rw [← natV_app, hn] at hown
  refine ⟨?_, h.lo, t1.kept gs (fun k e h2 => own_ne t1.outer b1 (by decide) k h2 (by cases e; rfl)) (fun i hi k e h2 => own_ne (t1.inner i hi) b1 (by decide) k h2 (by cases e; rfl)), kb hown (by decide), kb f1 (by decide), fun e => by simp at e, h.nf, fun c hc f hf => ?_⟩
  · simp [World.setCell, Array.getElem?_modify, b1]
  · rw [List.mem_append] at hc
    rcases hc with hc | hc
    · exact h.ne c hc f hf
    · simp at hc; subst hc; exact hne f hf
end Go.Proofs.Ytkcdpjcfbpjkeai
