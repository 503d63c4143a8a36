/- The walk of the program's Joined. -/
import Derived.Test.YtgboaeokbglgdaaPtI5
import Derived.Test.YtgboaeokbglgdaaPtI1
import Derived.Laws.IdiomCopy
namespace Go.Proofs.Ytgboaeokbglgdaa
open Go.RowKit Go.Proofs.Ytgboaeokbglgdaa.RM

theorem run_clear_pts (w : World) (ty : TypeId) (b n c : Nat) (hn : 0 < n) (hc : ∀ j, j < n * 2 → (w.cell? ⟨b, j, none⟩).isSome = true) (hf : ∀ j, j < n * 2 → w.frozen? ⟨b, j, none⟩ = false) :
    (Builtin.clear_ #[24] ty #[.slice (some ⟨b, 0, none⟩) n c]).run Try.prog w = .ok (.tuple #[]) (w.setCells b 0 (Builtin.zeroCells #[.int .i64 0, .int .i64 0] n).toList) := by
  have hlen : (Builtin.zeroCells #[Value.int .i64 0, .int .i64 0] n).toList.length = n * 2 := by simp [Builtin.zeroCells]
  have h1 : ∀ v ∈ (Builtin.zeroCells #[Value.int .i64 0, .int .i64 0] n).toList, v.oneCell' = true := by
    intro v hv
    simp only [Builtin.zeroCells, Array.toList_map, List.mem_map] at hv
    obtain ⟨i, _, rfl⟩ := hv
    have : i % 2 = 0 ∨ i % 2 = 1 := Nat.mod_two_eq_zero_or_one i
    rcases this with e | e <;> simp [e, Value.oneCell']
  have hst := run_storeCells_cells (P := Try.prog) b 0 (Builtin.zeroCells #[Value.int .i64 0, .int .i64 0] n).toList 0 w (by rw [hlen]; simpa using hc) (by rw [hlen]; simpa using hf) h1
  simp only [Nat.add_zero] at hst
  obtain ⟨m, rfl⟩ : ∃ m, n = m + 1 := ⟨n - 1, by omega⟩
  simp [Builtin.clear_, run_underlying Try.underlying24, hst, Value.cells]
theorem own_cleared {base g n c : Nat} {e : TypeId} {size : Nat} : ∀ (vs : List Value) (o : Nat) (w : World) (xs : List Value), w.ownsRow base e size (.slice (some ⟨g, 0, none⟩) n c) n xs → ∃ ys, (w.setCells g o vs).ownsRow base e size (.slice (some ⟨g, 0, none⟩) n c) n ys ∧ w.grownBy (w.setCells g o vs) (some g)
  | [], _, w, xs, h => ⟨xs, h, ⟨rfl, rfl, rfl, Nat.le_refl _, fun _ _ _ => rfl⟩⟩
  | v :: r, o, w, xs, h => by
    obtain ⟨h1, h2⟩ := h.stored o v
    obtain ⟨ys, h3, h4⟩ := own_cleared r (o + 1) _ _ h1
    exact ⟨ys, h3, h2.trans h4⟩
theorem own_cut0 {w : World} {base g n c : Nat} {e : TypeId} {size : Nat} {xs : List Value} (h : w.ownsRow base e size (.slice (some ⟨g, 0, none⟩) n c) n xs) : w.ownsRow base e size (.slice (some ⟨g, 0, none⟩) 0 c) 0 [] := by
  rcases h.2 with ⟨e, _⟩ | ⟨g', c', cur, e, h3, h4, h5, h6, h7, _⟩
  · cases e
  · cases e
    exact ⟨by simp, .inr ⟨g, c, cur, rfl, h3, h4, Nat.zero_le _, h6, h7, by simp⟩⟩
theorem insP_ne {l : List Fr} {x : Fr} : 1 ≤ (insP l x).length := by
  cases l with
  | nil => exact Nat.le_refl _
  | cons p r =>
    show 1 ≤ List.length (if p.1 < x.1 then p :: insP r x else if p.1 = x.1 then (p.1, p.2 + x.2) :: r else x :: p :: r)
    split
    · simp
    · split <;> simp
theorem jnO_ne {us vs : List Fr} (h1 : 1 ≤ us.length) (h2 : 1 ≤ vs.length) : 1 ≤ (jnO us vs us.length).length := by
  obtain ⟨m, hm⟩ : ∃ m, us.length = m + 1 := ⟨us.length - 1, by omega⟩
  obtain ⟨k, hk⟩ : ∃ k, vs.length = k + 1 := ⟨vs.length - 1, by omega⟩
  rw [hm]
  show 1 ≤ (jnI us vs m (jnO us vs m) vs.length).length
  rw [hk]
  exact insP_ne
theorem ret_qbI {v : Value} {o o' : Bool} (h : o = o') : Ending.returned (.tuple #[v, .bool o]) = .returned (.tuple #[v, .bool o']) := by rw [h]

set_option maxRecDepth 100000 in
set_option maxHeartbeats 4000000 in
theorem iJoined_any (va vb : Value) (us vs : List Fr) (w : World) (ha : RdR w va us) (hb : RdR w vb vs) :
    Calls Try.prog 6 #[va, vb] w fun e w' => ∃ v, e = .returned (.tuple #[v, .bool (joiO us vs)]) ∧ w'.ownsRow w.heap.size 44 2 v (joiA us vs).length (cellsR (joiA us vs)) ∧ Below w.heap.size w w' := by
  have CSP := hidP (fun (v : Value) (ps : List Fr) (W : World) (h : RdR W v ps) => iSpr_any v ps W h)
  have RA := hidP ha
  have RB := hidP hb
  obtain ⟨pa, na, ca, rfl⟩ : ∃ a n c, va = .slice a n c := by obtain ⟨a, c, rfl, _⟩ := ha; exact ⟨a, _, c, rfl⟩
  obtain ⟨pb, nb, cb, rfl⟩ : ∃ a n c, vb = .slice a n c := by obtain ⟨a, c, rfl, _⟩ := hb; exact ⟨a, _, c, rfl⟩
  obtain ⟨qa, hqa⟩ : ∃ q, q = sprB us := ⟨_, rfl⟩
  obtain ⟨qb, hqb⟩ : ∃ q, q = sprB vs := ⟨_, rfl⟩
  obtain ⟨qj, hqj⟩ : ∃ q, q = sprB (jnO us vs us.length) := ⟨_, rfl⟩
  have HQA := hidP hqa
  have HQB := hidP hqb
  have HJO : Hid (joiO us vs = (qa && (qb && qj))) := by show _ = _; rw [hqa, hqb, hqj]; rfl
  have CA := hidP (fun (W : World) (h : Below w.heap.size w W) => CSP.out _ us W (RA.out.below h))
  have CB := hidP (fun (W : World) (h : Below w.heap.size w W) => CSP.out _ vs W (RB.out.below h))
  have CJ := hidP (fun (v : Value) (W : World) (h : RdR W v (jnO us vs us.length)) => CSP.out v _ W h)
  rw [← hqa] at CA
  rw [← hqb] at CB
  rw [← hqj] at CJ
  clear ha hb hqa hqb hqj CSP
  go_enter Try.func6, Try.ntmps6
  go_wp2_with fail
  refine (CA.out _ (Below.refl _ _)).mono ?_
  rintro e w1 ⟨rfl, h1⟩
  have B1 := hidP h1
  clear h1 CA
  cases qa
  · have HF : Hid (joiO us vs = false) := by show _ = _; rw [HJO.out]; simp
    have HN := hidP (joiA_no HF.out)
    go_wp2
    refine bodyPost_ret (v := .tuple #[.slice (some ⟨w1.heap.size, 0, none⟩) 0 0, .bool false]) (by simp [results, Try.results6, go_sem]) rfl ⟨.slice (some ⟨w1.heap.size, 0, none⟩) 0 0, ret_qbI HF.out.symm, ?_, B1.out.alloc B1.out.size _⟩
    rw [HN.out]
    exact own_lit _ _ B1.out.size
  go_wp2_with fail
  refine (CB.out _ B1.out).mono ?_
  rintro e w2 ⟨rfl, h2⟩
  replace B1 := hidP (B1.out.trans (h2.mono B1.out.size))
  clear h2 CB
  cases qb
  · have HF : Hid (joiO us vs = false) := by show _ = _; rw [HJO.out]; simp
    have HN := hidP (joiA_no HF.out)
    go_wp2
    refine bodyPost_ret (v := .tuple #[.slice (some ⟨w2.heap.size, 0, none⟩) 0 0, .bool false]) (by simp [results, Try.results6, go_sem]) rfl ⟨.slice (some ⟨w2.heap.size, 0, none⟩) 0 0, ret_qbI HF.out.symm, ?_, B1.out.alloc B1.out.size _⟩
    rw [HN.out]
    exact own_lit _ _ B1.out.size
  have hsa := sprB_out HQA.out.symm
  have hsb := sprB_out HQB.out.symm
  have HNE := hidP (jnO_ne hsa.1.1 hsb.1.1)
  have CS := hidP (iSums_any _ _ us vs w2 (RA.out.below B1.out) (RB.out.below B1.out) hsa hsb)
  clear hsa hsb
  go_wp2_with fail
  refine CS.out.mono ?_
  rintro e w3 ⟨g, c, rfl, hO, h3⟩
  have O3 := hidP (own_le hO B1.out.size)
  replace B1 := hidP (B1.out.trans (h3.mono B1.out.size))
  obtain ⟨J, hJ⟩ : ∃ J, J = jnO us vs us.length := ⟨_, rfl⟩
  have HJ := hidP hJ
  rw [← hJ] at O3 HNE CJ ⊢
  have CJ2 := hidP (CJ.out _ w3 (RdR.ownQ O3.out).1)
  obtain ⟨n, hn⟩ : ∃ n, n = J.length := ⟨_, rfl⟩
  have HN0 := hidP hn
  rw [← hn] at O3 HNE CJ2 ⊢
  clear hO h3 CS hJ hn CJ
  go_wp2_with fail
  refine CJ2.out.mono ?_
  rintro e w4 ⟨rfl, h4⟩
  replace O3 := hidP (own_below O3.out h4)
  replace B1 := hidP (B1.out.trans (h4.mono B1.out.size))
  clear h4 CJ2
  cases qj
  · have HF : Hid (joiO us vs = false) := by show _ = _; rw [HJO.out]; rfl
    have HN := hidP (joiA_no HF.out)
    have hcl := fun ty => run_clear_pts w4 ty g n c HNE.out (fun j hj => by rw [O3.out.cellAt j hj, List.getElem?_eq_getElem (by rw [O3.out.1]; exact hj)]; rfl) (fun j hj => O3.out.frozenAt j)
    obtain ⟨ys, y1, y2⟩ := own_cleared (Builtin.zeroCells #[.int .i64 0, .int .i64 0] n).toList 0 w4 _ O3.out
    have hgw := (O3.out.lt g rfl).1
    have O5 := hidP (own_cut0 y1)
    have B5 := hidP (B1.out.grown y2 B1.out.size (fun j e => by cases e; exact hgw))
    obtain ⟨w5, hw5⟩ : ∃ u, u = w4.setCells g 0 (Builtin.zeroCells #[.int .i64 0, .int .i64 0] n).toList := ⟨_, rfl⟩
    rw [← hw5] at O5 B5
    simp only [← hw5] at hcl
    clear y1 y2 hw5
    go_wp2
    refine bodyPost_ret (v := .tuple #[.slice (some ⟨g, 0, none⟩) 0 c, .bool false]) (by simp [results, Try.results6, go_sem]) rfl ⟨.slice (some ⟨g, 0, none⟩) 0 c, ret_qbI HF.out.symm, ?_, B5.out⟩
    rw [HN.out]
    exact O5.out
  · have HF : Hid (joiO us vs = true) := by show _ = _; rw [HJO.out]; rfl
    have HN : Hid (joiA us vs = J) := by show _ = _; rw [joiA_yes HF.out, HJ.out]
    go_wp2
    refine bodyPost_ret (v := .tuple #[.slice (some ⟨g, 0, none⟩) n c, .bool true]) (by simp [results, Try.results6, go_sem]) rfl ⟨.slice (some ⟨g, 0, none⟩) n c, ret_qbI HF.out.symm, ?_, B1.out⟩
    rw [HN.out, ← HN0.out]
    exact O3.out
end Go.Proofs.Ytgboaeokbglgdaa
