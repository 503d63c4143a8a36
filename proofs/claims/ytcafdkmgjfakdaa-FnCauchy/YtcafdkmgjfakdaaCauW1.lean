/- Three lists that a call appends to, two of them in a table of its own; a pick as a value. -/
import Derived.Test.YtcafdkmgjfakdaaBudP10
import Derived.Test.YtcafdkmgjfakdaaBudLaw4
import Derived.Test.YtcafdkmgjfakdaaDrawW4
import Derived.Test.YtcafdkmgjfakdaaLikeT
namespace Go
open Go.RowKit
/-- append to a row of the call's own, as one step of a region that draws, told where the row lies -/
theorem step_app_at {P : Program} {ops : Array Oper} {o : Oper} {a : Act} {w : World} {K : Act → World → Prop} {Q : Exit → Act → World → Prop} {E : Prop}
    (hg : o.guard = none) (s x : Operand) (t : TypeId) (hop : o.op = Op.call { callee := Callee.builtin Builtin.append, args := #[s, x], argTypes := #[t, t] })
    (base : Nat) (e : TypeId) (i : TypeInfo) (z : Value) (size bytes : Nat) (ht : P.underlying t = some (.slice e)) (hi : P.info? e = some i) (hz : i.zero = some z)
    (hsize : i.size = size) (hby : i.bytes = bytes) (hzs : z.cells.size = size) (hsz : 0 < size)
    (v : Value) (n : Nat) (xs : List Value) (hs : a.eval s = v) (hown : w.ownsRow base e size v n xs)
    (ad : Addr) (m c : Nat) (news : List Value) (hx : a.eval x = .slice (some ad) m c) (hl : news.length = m * size) (hnews : ∀ j u, news[j]? = some u → w.cell? (ad.add j) = some u) (h1 : ∀ u ∈ news, u.oneCell' = true)
    (h63 : n + m ≤ maxLen) (hbytes : (n + m) * bytes ≤ 140737488355328) (hbase : base ≤ w.heap.size)
    (hK : ∀ v' w', w'.ownsRow base e size v' (n + m) (xs ++ news) → w.grownBy w' v.ownBlock → (v'.ownBlock = v.ownBlock ∨ v'.ownBlock = some w.heap.size) → K (a.put o.dst v') w') :
    if Region.wanted o (yielded ops a.tmps) = true then Oper.wp P o a w K Q else E := by
  have hw : Region.wanted o (yielded ops a.tmps) = true := by simp [Region.wanted, hg]
  rw [if_pos hw]
  obtain ⟨v', w', hrun, h2, h3, _, h4⟩ := run_append_own_at (P := P) (w := w) base t o.type e i z size bytes ht hi hz hsize hby hzs hsz v n xs hown ad m c news hl hnews h1 h63 hbytes hbase
  unfold Oper.wp
  simp [execOp, hop, resolve, invoke, builtin, hs, hx, hrun, Result.andThen]
  exact hK _ _ h2 h3 h4
end Go
namespace Go.Proofs.Ytcafdkmgjfakdaa
open Go.RowKit Go.Proofs.Ytcafdkmgjfakdaa.RM

/-- what a pick reckons with behind k bytes -/
def pickH (len : Nat) (zs : List Int) (seed : Int) : Nat → Int
  | 0 => (len : Int) + 7919 * seed
  | k + 1 => (pickH len zs seed k * 139 + zs.getD k 0 + seed) % 1000003
def pickV (len : Nat) (zs : List Int) (seed n : Int) : Int := pickH len zs seed len % n
set_option maxHeartbeats 1600000 in
theorem pickV_any (a : Option Addr) (len cap : Nat) (zs : List Int) (seed n : Int) (w : World) (hr : IsRow .u8 w a len cap zs) (hl : len ≤ 4096) (hs0 : 0 ≤ seed) (hs1 : seed ≤ 1000) (hn : 0 < n) :
    Calls Try.prog 6 #[.slice a len cap, .int .i64 seed, .int .i64 n] w fun e w' => e = .returned (.int .i64 (pickV len zs seed n)) ∧ Below w.heap.size w w' := by
  have HR : Hid (IsRow .u8 w a len cap zs) := hr
  obtain ⟨H, hH⟩ : ∃ H, H = pickH len zs seed := ⟨_, rfl⟩
  have H0 : Hid (H 0 = (len : Int) + 7919 * seed) := by show _ = _; rw [hH]; rfl
  have HS : Hid (∀ k, H (k + 1) = (H k * 139 + zs.getD k 0 + seed) % 1000003) := by intro k; rw [hH]; rfl
  have HV : Hid (pickV len zs seed n = H len % n) := by show _ = _; rw [hH]; rfl
  rw [HV.out]
  clear hr hH HV
  go_enter Try.func6, Try.ntmps6
  go_wp2
  go_loop [7, 8] (fun x y => ∃ (k : Nat), 0 ≤ H k ∧ H k ≤ 10000000 ∧ k ≤ len ∧ x = .int .i64 (H k) ∧ y = .int .i64 k) (fun _ y => len - (intOf y).toNat)
  case atStart => exact ⟨0, by rw [H0.out]; omega, by rw [H0.out]; omega, Nat.zero_le _, by rw [H0.out], rfl⟩
  case round =>
    obtain ⟨k, hh0, hh1, hk, rfl, rfl⟩ := hrel
    by_cases hlt : k < len
    · rcases HR.out with ⟨rfl, _⟩ | ⟨b, off, rfl, g1, g2, g3, g4, g5⟩
      · omega
      · have hx := g4 k (by omega)
        have hwf := range_u8 g5 k
        have hq := HS.out k
        have hy : ∃ y, y = zs.getD k 0 ∧ w.cell? ⟨b, off + k, none⟩ = some (.int .u8 y) ∧ 0 ≤ y ∧ y ≤ 255 := ⟨_, rfl, hx, by rw [List.getD_eq_getElem?_getD]; exact hwf.1, by rw [List.getD_eq_getElem?_getD]; exact hwf.2⟩
        obtain ⟨y, hy0, hy1, hy2, hy3⟩ := hy
        rw [← hy0] at hq
        obtain ⟨h, hh⟩ : ∃ h, h = H k := ⟨_, rfl⟩
        rw [← hh] at hh0 hh1 hq ⊢
        have HQ := hidW8 hq
        clear hx hwf g4 g5 hy0 hh hq
        have hm := rem_in (h * 139 + y + seed) 1000003 (by omega)
        obtain ⟨hm0, hm1⟩ := hm
        go_wp2
        go_round
        case rel => exact ⟨k + 1, by rw [HQ.out]; omega, by rw [HQ.out]; omega, by omega, by rw [HQ.out], by go_num⟩
        case measure => simp [intOf]; omega
    · obtain rfl : k = len := by omega
      have hm := rem_in (H k) n hn
      obtain ⟨hm0, hm1⟩ := hm
      have hn0 : ¬ n = 0 := by omega
      go_wp2
      go_ret
      exact ⟨rfl, Below.refl _ _⟩
theorem pickV_in (len : Nat) (zs : List Int) (seed : Int) {n : Int} (hn : 0 < n) : 0 ≤ pickV len zs seed n ∧ pickV len zs seed n < n := rem_in _ _ hn
theorem wholeB_any (n : Int) (w : World) :
    Calls Try.prog 5 #[.int .i64 n] w fun e w' => e = .returned (.agg #[.int .i64 n, .int .i64 1]) ∧ Below w.heap.size w w' := by
  refine (whole_any n w).mono ?_
  rintro e w' ⟨rfl, rfl⟩
  exact ⟨rfl, (Below.refl _ _).alloc (Nat.le_refl _) _⟩

/-- three lists of fractions of one's own, two of them in a table -/
structure Own3 (W : World) (B : Nat) (o : Value) (Tb : Nat) (u0 u1 : Value) (vs xs ys : List Fr) : Prop where
  ov : W.ownsRow B 27 2 o vs.length (cellsR vs)
  ox : W.ownsRow B 27 2 u0 xs.length (cellsR xs)
  oy : W.ownsRow B 27 2 u1 ys.length (cellsR ys)
  tb : W.heap[Tb]? = some (.cells #[u0, u1] 24 (0, 0))
  hB : B ≤ Tb
  vx : ∀ b, o.ownBlock = some b → u0.ownBlock ≠ some b
  vy : ∀ b, o.ownBlock = some b → u1.ownBlock ≠ some b
  xy : ∀ b, u0.ownBlock = some b → u1.ownBlock ≠ some b
theorem Own3.ltT {W : World} {B : Nat} {o : Value} {Tb : Nat} {u0 u1 : Value} {vs xs ys : List Fr} (h : Own3 W B o Tb u0 u1 vs xs ys) : Tb < W.heap.size := (Array.getElem?_eq_some_iff.1 h.tb).1
theorem Own3.below {W W' : World} {B : Nat} {o : Value} {Tb : Nat} {u0 u1 : Value} {vs xs ys : List Fr} (h : Own3 W B o Tb u0 u1 vs xs ys) (hb : Below W.heap.size W W') : Own3 W' B o Tb u0 u1 vs xs ys :=
  ⟨own_below h.ov hb, own_below h.ox hb, own_below h.oy hb, (hb.block Tb h.ltT).trans h.tb, h.hB, h.vx, h.vy, h.xy⟩
theorem own3_type {W : World} {B Tb : Nat} {v u0 u1 : Value} {n : Nat} {xs : List Value} (h : W.ownsRow B 27 2 v n xs) (ht : W.heap[Tb]? = some (.cells #[u0, u1] 24 (0, 0))) : v.ownBlock ≠ some Tb := by
  intro e
  obtain ⟨cs, h1⟩ := own_type h e
  rw [ht] at h1; injection h1 with hc; injection hc with _ hc _
  exact absurd hc (by decide)
theorem own3_keep {W W' : World} {B : Nat} {v u : Value} {n : Nat} {xs : List Value} (h : W.ownsRow B 27 2 v n xs) (hg : W.grownBy W' u.ownBlock) (hne : ∀ b, u.ownBlock = some b → v.ownBlock ≠ some b) : W'.ownsRow B 27 2 v n xs := by
  refine h.kept hg ?_
  cases e : u.ownBlock
  · cases e2 : v.ownBlock
    · exact .inl rfl
    · exact .inr (by simp)
  · exact .inr (hne _ e)
theorem own3_apart {W : World} {B : Nat} {v v' u : Value} {n : Nat} {xs : List Value} (h : W.ownsRow B 27 2 u n xs) (hb : v'.ownBlock = v.ownBlock ∨ v'.ownBlock = some W.heap.size) (hne : ∀ b, v.ownBlock = some b → u.ownBlock ≠ some b) : ∀ b, v'.ownBlock = some b → u.ownBlock ≠ some b := by
  intro b e e2
  rcases hb with k | k
  · exact hne b (k.symm.trans e) e2
  · rw [k] at e; injection e with e; subst e
    exact absurd (World.ownsRow.lt h _ e2).2 (Nat.lt_irrefl _)
theorem symm3 {v u : Value} (h : ∀ b, v.ownBlock = some b → u.ownBlock ≠ some b) : ∀ b, u.ownBlock = some b → v.ownBlock ≠ some b := fun b e k => h b k e
theorem len_snoc (l : List Fr) (x : Fr) : (l ++ [x]).length = l.length + 1 := by simp
theorem cells_snoc (l : List Fr) (x y : Int) : cellsR (l ++ [(x, y)]) = cellsR l ++ [.int .i64 x, .int .i64 y] := by rw [cellsR_append]; rfl
theorem Own3.appV {W W' : World} {B : Nat} {o o' : Value} {Tb : Nat} {u0 u1 : Value} {vs xs ys : List Fr} (h : Own3 W B o Tb u0 u1 vs xs ys) {x y : Int} (ho : W'.ownsRow B 27 2 o' (vs.length + 1) (cellsR vs ++ [.int .i64 x, .int .i64 y]))
    (hg : W.grownBy W' o.ownBlock) (hb : o'.ownBlock = o.ownBlock ∨ o'.ownBlock = some W.heap.size) : Own3 W' B o' Tb u0 u1 (vs ++ [(x, y)]) xs ys :=
  ⟨by rw [len_snoc, cells_snoc]; exact ho, own3_keep h.ox hg h.vx, own3_keep h.oy hg h.vy, (hg.block Tb h.ltT (fun e => own3_type h.ov h.tb e.symm)).trans h.tb, h.hB, own3_apart h.ox hb h.vx, own3_apart h.oy hb h.vy, h.xy⟩
theorem set_0 {W : World} {Tb : Nat} {u0 u1 u : Value} (h : W.heap[Tb]? = some (.cells #[u0, u1] 24 (0, 0))) : (W.setCell ⟨Tb, 0, none⟩ u).heap[Tb]? = some (.cells #[u, u1] 24 (0, 0)) := by
  obtain ⟨hlt, hk⟩ := Array.getElem?_eq_some_iff.1 h
  show (W.heap.modify Tb _)[Tb]? = _
  rw [Array.getElem?_eq_getElem (by rw [Array.size_modify]; exact hlt), Array.getElem_modify_self, hk]
  rfl
theorem set_1 {W : World} {Tb : Nat} {u0 u1 u : Value} (h : W.heap[Tb]? = some (.cells #[u0, u1] 24 (0, 0))) : (W.setCell ⟨Tb, 1, none⟩ u).heap[Tb]? = some (.cells #[u0, u] 24 (0, 0)) := by
  obtain ⟨hlt, hk⟩ := Array.getElem?_eq_some_iff.1 h
  show (W.heap.modify Tb _)[Tb]? = _
  rw [Array.getElem?_eq_getElem (by rw [Array.size_modify]; exact hlt), Array.getElem_modify_self, hk]
  rfl
theorem own3_set {W : World} {B Tb o : Nat} {v u : Value} {n : Nat} {xs : List Value} (h : W.ownsRow B 27 2 v n xs) (hne : v.ownBlock ≠ some Tb) : (W.setCell ⟨Tb, o, none⟩ u).ownsRow B 27 2 v n xs :=
  h.kept (grown_set W Tb o u) (.inr hne)
theorem Own3.appX {W W' : World} {B : Nat} {o : Value} {Tb : Nat} {u0 u1 u' : Value} {vs xs ys : List Fr} (h : Own3 W B o Tb u0 u1 vs xs ys) {x y : Int} (ho : W'.ownsRow B 27 2 u' (xs.length + 1) (cellsR xs ++ [.int .i64 x, .int .i64 y]))
    (hg : W.grownBy W' u0.ownBlock) (hb : u'.ownBlock = u0.ownBlock ∨ u'.ownBlock = some W.heap.size) : Own3 (W'.setCell ⟨Tb, 0, none⟩ u') B o Tb u' u1 vs (xs ++ [(x, y)]) ys := by
  have ht := (hg.block Tb h.ltT (fun e => own3_type h.ox h.tb e.symm)).trans h.tb
  have k1 := own3_keep h.ov hg (symm3 h.vx)
  have k2 := own3_keep h.oy hg h.xy
  exact ⟨own3_set k1 (own3_type k1 ht), by rw [len_snoc, cells_snoc]; exact own3_set ho (own3_type ho ht), own3_set k2 (own3_type k2 ht), set_0 ht, h.hB, symm3 (own3_apart h.ov hb (symm3 h.vx)), h.vy, own3_apart h.oy hb h.xy⟩
theorem Own3.appY {W W' : World} {B : Nat} {o : Value} {Tb : Nat} {u0 u1 u' : Value} {vs xs ys : List Fr} (h : Own3 W B o Tb u0 u1 vs xs ys) {x y : Int} (ho : W'.ownsRow B 27 2 u' (ys.length + 1) (cellsR ys ++ [.int .i64 x, .int .i64 y]))
    (hg : W.grownBy W' u1.ownBlock) (hb : u'.ownBlock = u1.ownBlock ∨ u'.ownBlock = some W.heap.size) : Own3 (W'.setCell ⟨Tb, 1, none⟩ u') B o Tb u0 u' vs xs (ys ++ [(x, y)]) := by
  have ht := (hg.block Tb h.ltT (fun e => own3_type h.oy h.tb e.symm)).trans h.tb
  have k1 := own3_keep h.ov hg (symm3 h.vy)
  have k2 := own3_keep h.ox hg (symm3 h.xy)
  exact ⟨own3_set k1 (own3_type k1 ht), own3_set k2 (own3_type k2 ht), by rw [len_snoc, cells_snoc]; exact own3_set ho (own3_type ho ht), set_1 ht, h.hB, h.vx, symm3 (own3_apart h.ov hb (symm3 h.vy)), symm3 (own3_apart h.ox hb (symm3 h.xy))⟩
theorem Own3.c0 {W : World} {B : Nat} {o : Value} {Tb : Nat} {u0 u1 : Value} {vs xs ys : List Fr} (h : Own3 W B o Tb u0 u1 vs xs ys) : W.cell? ⟨Tb, 0, none⟩ = some u0 := by simp [World.cell?, h.tb]
theorem Own3.c1 {W : World} {B : Nat} {o : Value} {Tb : Nat} {u0 u1 : Value} {vs xs ys : List Fr} (h : Own3 W B o Tb u0 u1 vs xs ys) : W.cell? ⟨Tb, 1, none⟩ = some u1 := by simp [World.cell?, h.tb]
theorem Own3.f0 {W : World} {B : Nat} {o : Value} {Tb : Nat} {u0 u1 : Value} {vs xs ys : List Fr} (h : Own3 W B o Tb u0 u1 vs xs ys) : W.frozen? ⟨Tb, 0, none⟩ = false := by simp [World.frozen?, h.tb]
theorem Own3.f1 {W : World} {B : Nat} {o : Value} {Tb : Nat} {u0 u1 : Value} {vs xs ys : List Fr} (h : Own3 W B o Tb u0 u1 vs xs ys) : W.frozen? ⟨Tb, 1, none⟩ = false := by simp [World.frozen?, h.tb]
theorem rdT_two {W : World} {Tb : Nat} {u0 u1 : Value} {xs ys : List Fr} (h : W.heap[Tb]? = some (.cells #[u0, u1] 24 (0, 0))) (h0 : RdR W u0 xs) (h1 : RdR W u1 ys) : RdT W (.slice (some ⟨Tb, 0, none⟩) 2 2) [xs, ys] := by
  refine ⟨some ⟨Tb, 0, none⟩, 2, rfl, by unfold maxLen; simp, by simp, by unfold maxLen; omega, ?_⟩
  intro i hi
  have hi2 : i < 2 := hi
  obtain rfl | rfl : i = 0 ∨ i = 1 := by omega
  · exact ⟨Tb, 0, u0, rfl, by simp [World.cell?, h], h0⟩
  · exact ⟨Tb, 0, u1, rfl, by simp [World.cell?, h], h1⟩
theorem Own3.rd {W : World} {B : Nat} {o : Value} {Tb : Nat} {u0 u1 : Value} {vs xs ys : List Fr} (h : Own3 W B o Tb u0 u1 vs xs ys) : RdR W o vs ∧ RdT W (.slice (some ⟨Tb, 0, none⟩) 2 2) [xs, ys] :=
  ⟨(RdR.own h.ov).1, rdT_two h.tb (RdR.own h.ox).1 (RdR.own h.oy).1⟩
/-- rows[1] = rows[0] -/
theorem Own3.same {W : World} {B : Nat} {o : Value} {Tb : Nat} {u0 u1 : Value} {vs xs ys : List Fr} (h : Own3 W B o Tb u0 u1 vs xs ys) : RdR (W.setCell ⟨Tb, 1, none⟩ u0) o vs ∧ RdT (W.setCell ⟨Tb, 1, none⟩ u0) (.slice (some ⟨Tb, 0, none⟩) 2 2) [xs, xs] := by
  have k1 := own3_set (o := 1) (u := u0) h.ov (own3_type h.ov h.tb)
  have k2 := own3_set (o := 1) (u := u0) h.ox (own3_type h.ox h.tb)
  exact ⟨(RdR.own k1).1, rdT_two (set_1 h.tb) (RdR.own k2).1 (RdR.own k2).1⟩
/-- small fractions that a law draws -/
def SmL (l : List Fr) (A B : Int) : Prop := ∀ i, i < l.length → Sm (fr l i) A B
theorem SmL.nil (A B : Int) : SmL [] A B := fun _ h => absurd h (Nat.not_lt_zero _)
theorem SmL.snoc {l : List Fr} {A B : Int} (h : SmL l A B) {x : Fr} (hx : Sm x A B) : SmL (l ++ [x]) A B := by
  intro i hi
  rw [len_snoc] at hi
  by_cases e : i < l.length
  · rw [fr_app1 _ _ _ e]; exact h i e
  · obtain rfl : i = l.length := by omega
    rw [fr_app2 _ _ _ (Nat.le_refl _), Nat.sub_self]; exact hx
theorem whole_sm {n A : Int} (h1 : -A ≤ n) (h2 : n ≤ A) (hA : A ≤ 1000000000) {B : Int} (hB : 1 ≤ B) : Sm (n, 1) A B := by
  refine ⟨?_, h1, h2, by show (1 : Int) ≤ 1; omega, hB⟩
  exact okB_whole (by omega) (by omega)
end Go.Proofs.Ytcafdkmgjfakdaa
