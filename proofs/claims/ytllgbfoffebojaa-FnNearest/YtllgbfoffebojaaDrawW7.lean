/- What is drawn for the law of terms: a fraction, and a list of numbers. -/
import Derived.Test.YtllgbfoffebojaaDrawW4
import Derived.Test.YtllgbfoffebojaaRowsW
namespace Go.Proofs.Ytllgbfoffebojaa
open Go.RowKit Go.Proofs.Ytllgbfoffebojaa.RM

def slLen : Value → Nat
  | .slice _ n _ => n
  | _ => 0
theorem Cur.grown {w w' : World} {cb : Nat} {a : Option Addr} {len cap : Nat} {zs : List Int} {row : Option Nat} (h : Cur w cb a len cap zs) (hg : w.grownBy w' row) (hne : row ≠ some cb) (hrow : ∀ b off, a = some ⟨b, off, none⟩ → 0 < zs.length → row ≠ some b) : Cur w' cb a len cap zs := by
  cases row with
  | none => exact h.below ⟨hg.os, hg.tape, hg.output, hg.size, fun k hk => hg.block k hk (by simp)⟩
  | some g => exact h.ex (x := g) ⟨hg.os, hg.tape, hg.output, hg.size, fun k hk hne => hg.block k hk (by simpa using hne)⟩ (by simpa using hne) (fun b off e hz hb => hrow b off e hz (by rw [hb]))
/-- a row that lies beyond the cursor stays where the cursor moves -/
theorem own_ex {w w' : World} {cb base : Nat} {e : TypeId} {size : Nat} {v : Value} {n : Nat} {xs : List Value} (h : w.ownsRow base e size v n xs) (hx : Ex cb w w') (hc : cb < base) : w'.ownsRow base e size v n xs := by
  refine h.kept (row := some cb) ⟨hx.1, hx.2.1, hx.2.2.1, hx.2.2.2.1, fun k hk hne => hx.2.2.2.2 k hk (by simpa using hne)⟩ (.inr fun e => ?_)
  have := (h.lt cb e).1
  omega
/-- the cursor stays where a row beyond it grows -/
theorem Cur.row {w w1 : World} {cb base : Nat} {a : Option Addr} {len cap : Nat} {zs : List Int} {e : TypeId} {size : Nat} {v : Value} {n : Nat} {xs : List Value} {o : Obj} (h : Cur w cb a len cap zs) (hr : w.ownsRow base e size v n xs) (hc : cb < base) (ha : ∀ b off, a = some ⟨b, off, none⟩ → 0 < zs.length → b < base) (hg : (w.alloc o).grownBy w1 v.ownBlock) : Cur w1 cb a len cap zs := by
  have h1 : Cur (w.alloc o) cb a len cap zs := h.below ((Below.refl _ _).alloc (Nat.le_refl _) _)
  refine h1.grown hg (fun e => ?_) (fun b off e hz hb => ?_)
  · have := (hr.lt cb e).1; omega
  · have := (hr.lt b hb).1; have := ha b off e hz; omega

set_option maxHeartbeats 800000 in
theorem dTerms_any (a : Option Addr) (len cap : Nat) (zs : List Int) (w : World) (hr : IsRow .u8 w a len cap zs) :
    Calls Try.prog 30 #[.slice a len cap] w fun e w' => ∃ n d : Int, e = .returned (.agg #[.int .i64 n, .int .i64 d]) ∧ Below w.heap.size w w' := by
  have HR : Hid (IsRow .u8 (w.alloc (.cells #[.int .i64 0, .int .i64 0] 25)) a len cap zs) := hr.below ((Below.refl _ _).alloc (Nat.le_refl _) _)
  clear hr
  go_enter Try.func30, Try.ntmps30
  go_wp2_with fail
  refine (dRatio_any a len cap zs _ HR.out).mono ?_
  rintro e w1 ⟨n, d, rfl, hB1⟩
  have B1 : Below w.heap.size w w1 := ((Below.refl _ _).alloc (Nat.le_refl _) _).trans (hB1.mono (by simp))
  have rc0 : w1.cell? ⟨w.heap.size, 0, none⟩ = some (.int .i64 0) := by refine cell_later hB1 ?_; simp [go_sem]
  have rc1 : w1.cell? ⟨w.heap.size, 1, none⟩ = some (.int .i64 0) := by refine cell_later hB1 ?_; simp [go_sem]
  have rf0 : w1.frozen? ⟨w.heap.size, 0, none⟩ = false := by refine frozen_later (v := .int .i64 0) hB1 ?_ ?_ <;> simp [go_sem]
  have rf1 : w1.frozen? ⟨w.heap.size, 1, none⟩ = false := by refine frozen_later (v := .int .i64 0) hB1 ?_ ?_ <;> simp [go_sem]
  clear hB1 HR
  have r0 := (new2 (n := .int .i64 n) (d := .int .i64 d) rc0 rc1)
  go_wp2
  exact bodyPost_ret (v := .agg #[.int .i64 n, .int .i64 d]) (by simp [results, Try.results30, go_sem, r0.1, r0.2]) rfl ⟨_, _, rfl, (B1.setCell (Nat.le_refl _) _).setCell (Nat.le_refl _) _⟩

set_option maxRecDepth 100000 in
set_option maxHeartbeats 4000000 in
theorem dFrom_any (a : Option Addr) (len cap : Nat) (zs : List Int) (w : World) (hr : IsRow .u8 w a len cap zs) :
    Calls Try.prog 32 #[.slice a len cap] w fun e w' => ∃ (v : Value) (ts : List Int), e = .returned v ∧ w'.ownsRow w.heap.size 2 1 v ts.length (ts.map (Value.int .i64)) ∧ ts.length ≤ 1000 ∧ Below w.heap.size w w' := by
  obtain ⟨i0, hi, hz0', hz1, hz2⟩ := info_parts infoI
  have HR : Hid (IsRow .u8 w a len cap zs) := hr
  have HROW : Hid (∀ b off, a = some ⟨b, off, none⟩ → 0 < zs.length → b < w.heap.size + 1) := fun b off e hz => Nat.lt_succ_of_lt (hr.lt b off e hz)
  clear hr
  go_enter Try.func32, Try.ntmps32
  go_wp2_with fail
  refine (new_any a len cap zs _ HR.out).mono ?_
  rintro e w1 ⟨rfl, hC1, B1, hs1⟩
  have HC : Hid (Cur w1 w.heap.size a len cap zs) := hC1
  clear hC1 HR
  go_wp2_with fail
  refine (from_any w.heap.size _ _ a len cap zs _ HC.out (by omega) (by omega) (by omega)).mono ?_
  rintro e w2 ⟨x, rfl, hx0, hx1, hC', hE⟩
  replace HC : Hid (Cur w2 w.heap.size a len cap zs) := hC'
  have B2 : Below w.heap.size w w2 := Ex.below B1 hE (by omega)
  have hs2 : w.heap.size + 1 ≤ w2.heap.size := by have := hE.size; omega
  clear hC' hE hx0 hx1 hs1 B1
  obtain ⟨X2, hX2⟩ : ∃ X, X = w2.alloc (.cells #[.int .i64 x] 2) := ⟨_, rfl⟩
  obtain ⟨Z, hZ⟩ : ∃ Z, Z = w2.heap.size := ⟨_, rfl⟩
  have o2 : X2.ownsRow (w.heap.size + 1) 2 1 (.slice (some ⟨Z, 0, none⟩) 1 1) ([x] : List Int).length (([x] : List Int).map (Value.int .i64)) := by
    rw [hX2, hZ]
    exact World.ownsRow_lit w2 (base := w.heap.size + 1) (e := 2) (size := 1) #[.int .i64 x] 1 hs2 (by decide) rfl
  have hbx : Below w2.heap.size w2 X2 := by rw [hX2]; exact (Below.refl _ _).alloc (Nat.le_refl _) _
  replace B2 : Below w.heap.size w X2 := B2.trans (hbx.mono B2.size)
  replace HC : Hid (Cur X2 w.heap.size a len cap zs) := HC.out.below hbx
  clear hbx
  go_wp2_with fail
  rw [← hX2, ← hZ]
  clear hX2 hZ hs2
  refine (below_any w.heap.size _ a len cap zs _ HC.out (by omega)).mono ?_
  rintro e w3 ⟨y, rfl, hy0, hy1, hC', hE⟩
  replace HC : Hid (Cur w3 w.heap.size a len cap zs) := hC'
  replace B2 : Below w.heap.size w w3 := Ex.below B2 hE (by omega)
  replace o2 := own_ex o2 hE (by omega)
  have o3 : Hid (w3.ownsRow (w.heap.size + 1) 2 1 (.slice (some ⟨Z, 0, none⟩) 1 1) ([x] : List Int).length (([x] : List Int).map (Value.int .i64))) := o2
  clear hC' hE o2
  go_wp2
  go_loopw [4, 5] (fun o i wr => ∃ (ts : List Int) (m : Int), i = .int .i64 m ∧ 0 ≤ m ∧ m ≤ 5 ∧ ts.length + m ≤ 6 ∧ 0 < ts.length ∧ Hid (wr.ownsRow (w.heap.size + 1) 2 1 o ts.length (ts.map (Value.int .i64))) ∧ Hid (Cur wr w.heap.size a len cap zs) ∧ Hid (Below w.heap.size w wr)) (fun _ i _ => (intOf i).toNat)
  case atStart => exact ⟨[x], y, rfl, hy0, by omega, by simp; omega, by simp, o3.out, HC.out, B2⟩
  case round =>
    clear o3 HC B2 hy0 hy1
    obtain ⟨ts, m, rfl, hm0, hm1, hts, htp, hO, HC, hB⟩ := hrel
    have hsz := hB.out.size
    have hkm : ts.length + 1 ≤ maxLen := by unfold maxLen; omega
    by_cases hlt : 0 < m
    · go_wp2_with (first | (go_at_call 52; refine (below_any w.heap.size _ a len cap zs _ HC.out (by omega)).mono ?_; rintro e w4 ⟨x, rfl, hx0, hx1, hC', hE⟩; have hO2 := own_ex hO.out hE (by omega); have hB2 : Below w.heap.size w w4 := Ex.below hB.out hE (by omega); have hs2 := hB2.size) | (at_builtin; refine wpList_append_own _ rfl _ _ 39 rfl (w.heap.size + 1) 2 i0 (.int .i64 0) 1 8 Try.underlying39 hi hz0' hz1 hz2 rfl (by decide) _ _ _ rfl (hO2.alloc _) ⟨w4.heap.size, 0, none⟩ 1 1 [.int .i64 (1 + x)] rfl rfl (cell_one_new _ _ _) (by simp [Value.oneCell']) (by omega) (by omega) (by simp; have := hC'.lt; omega) ?_; intro v' w5 hown' hgrow _))
      have hC5 := hC'.row hO2 (by omega) HROW.out hgrow
      refine ⟨⟨ts ++ [1 + x], m - 1, rfl, by omega, by omega, by simp; omega, by simp, ?_, hC5, hB2.trans ((below_appended hO2 (by have := hC'.lt; omega) hgrow).mono (by omega))⟩, by simp [intOf]; omega⟩
      show World.ownsRow _ _ _ _ _ _ _
      simpa using hown'
    · obtain ⟨gg, cc, rfl⟩ := own_some hO.out htp
      go_wp2_with fail
      refine (once_any w.heap.size _ a len cap zs _ HC.out (by omega)).mono ?_
      rintro e w4 ⟨z, rfl, hC', hE⟩
      replace HC : Hid (Cur w4 w.heap.size a len cap zs) := hC'
      replace hO := own_ex hO.out hE (by omega)
      replace hB : Below w.heap.size w w4 := Ex.below hB.out hE (by omega)
      clear hC' hE hkm
      cases z
      · go_wp2
        refine bodyPost_ret (results_tmp rfl _ _ _) rfl ⟨_, ts, rfl, own_le hO (by omega), by omega, hB⟩
      · go_wp2_with fail
        refine (below_any w.heap.size _ a len cap zs _ HC.out (by omega)).mono ?_
        rintro e w5 ⟨z, rfl, hv0, hv1, hC', hE⟩
        replace HC : Hid (Cur w5 w.heap.size a len cap zs) := hC'
        replace hO := own_ex hO hE (by omega)
        replace hB : Below w.heap.size w w5 := Ex.below hB hE (by omega)
        clear hC' hE
        obtain rfl | rfl | rfl | rfl : z = 0 ∨ z = 1 ∨ z = 2 ∨ z = 3 := by omega
        · obtain ⟨X5, hX5⟩ : ∃ X, X = w5.alloc (.cells #[.int .i64 0, .int .i64 (-1), .int .i64 1000000000, .int .i64 1000000001, .int .i64 1] 2) := ⟨_, rfl⟩
          obtain ⟨Z5, hZ5⟩ : ∃ Z, Z = w5.heap.size := ⟨_, rfl⟩
          have hcell : ∀ k : Nat, k < 5 → ∃ q : Int, X5.cell? ⟨Z5, k, none⟩ = some (.int .i64 q) := by
            intro k hk
            rw [hX5, hZ5]
            match k, hk with
            | 0, _ => exact ⟨0, by simp [go_sem]⟩
            | 1, _ => exact ⟨(-1), by simp [go_sem]⟩
            | 2, _ => exact ⟨1000000000, by simp [go_sem]⟩
            | 3, _ => exact ⟨1000000001, by simp [go_sem]⟩
            | 4, _ => exact ⟨1, by simp [go_sem]⟩
          have HCELL : Hid _ := hcell
          have hbx : Below w5.heap.size w5 X5 := by rw [hX5]; exact (Below.refl _ _).alloc (Nat.le_refl _) _
          have hne : w.heap.size < Z5 := by rw [hZ5]; exact HC.out.lt
          replace HC : Hid (Cur X5 w.heap.size a len cap zs) := HC.out.below hbx
          replace hO := own_below hO hbx
          replace hB : Below w.heap.size w X5 := hB.trans (hbx.mono hB.size)
          clear hbx hcell
          go_wp2_with fail
          rw [← hX5, ← hZ5]
          clear hX5 hZ5
          refine (below_any w.heap.size _ a len cap zs _ HC.out (by omega)).mono ?_
          rintro e w6 ⟨k, rfl, hk0, hk1, hC', hE⟩
          obtain ⟨k, rfl⟩ := Int.eq_ofNat_of_zero_le hk0
          obtain ⟨q, hq⟩ := HCELL.out k (by omega)
          have hq6 := hE.cell hq (by omega)
          replace HC : Hid (Cur w6 w.heap.size a len cap zs) := hC'
          replace hO := own_ex hO hE (by omega)
          replace hB : Below w.heap.size w w6 := Ex.below hB hE (by omega)
          have hs6 := hC'.lt
          clear hC' hE hq HCELL
          have hkm : ts.length + 1 ≤ maxLen := by unfold maxLen; omega
          go_wp2_with (at_builtin; refine wpList_append_own _ rfl _ _ 39 rfl (w.heap.size + 1) 2 i0 (.int .i64 0) 1 8 Try.underlying39 hi hz0' hz1 hz2 rfl (by decide) _ _ _ rfl (hO.alloc _) ⟨w6.heap.size, 0, none⟩ 1 1 [.int .i64 q] rfl rfl (cell_one_new _ _ _) (by simp [Value.oneCell']) (by omega) (by omega) (by simp; omega) ?_; intro v' w7 hown' hgrow _)
          refine bodyPost_ret (results_tmp rfl _ _ _) rfl ⟨_, ts ++ [q], rfl, ?_, by simp; omega, hB.trans ((below_appended hO (by omega) hgrow).mono (by omega))⟩
          exact own_le (base := w.heap.size + 1) (by simpa using hown') (by omega)
        · go_wp2
          refine bodyPost_ret (results_tmp rfl _ _ _) rfl ⟨_, [], rfl, ?_, by simp, hB.alloc hB.size _⟩
          exact World.ownsRow_lit w5 (base := w.heap.size) (e := 2) (size := 1) #[] 0 hB.size (Nat.zero_le _) rfl
        · go_wp2
          have htp' : ts.length ≤ 61 := by omega
          have hO' : Hid (w5.ownsRow (w.heap.size + 1) 2 1 (.slice (some ⟨gg, 0, none⟩) ts.length cc) ts.length (ts.map (Value.int .i64))) := hO
          clear hO hts
          go_loopw [4] (fun o wr => ∃ ts : List Int, 0 < ts.length ∧ ts.length ≤ 61 ∧ Hid (wr.ownsRow (w.heap.size + 1) 2 1 o ts.length (ts.map (Value.int .i64))) ∧ Hid (Cur wr w.heap.size a len cap zs) ∧ Hid (Below w.heap.size w wr)) (fun o _ => 61 - slLen o)
          case atStart => exact ⟨ts, htp, htp', hO'.out, HC.out, hB⟩
          case round =>
            clear hO' HC hB htp htp'
            obtain ⟨us, hu0, hu1, hO, HC, hB⟩ := hrel
            obtain ⟨g2, c2, rfl⟩ := own_some hO.out hu0
            go_wp2_with fail
            refine (below_any w.heap.size _ a len cap zs _ HC.out (by omega)).mono ?_
            rintro e w6 ⟨k, rfl, hk0, hk1, hC', hE⟩
            have hO2 := own_ex hO.out hE (by omega)
            have hB2 : Below w.heap.size w w6 := Ex.below hB.out hE (by omega)
            have hs6 := hC'.lt
            have hkm : us.length + 1 ≤ maxLen := by unfold maxLen; omega
            by_cases hlt : (us.length : Int) < 60 + k
            · go_wp2_with (at_builtin; refine wpList_append_own _ rfl _ _ 39 rfl (w.heap.size + 1) 2 i0 (.int .i64 0) 1 8 Try.underlying39 hi hz0' hz1 hz2 rfl (by decide) _ _ _ rfl (hO2.alloc _) ⟨w6.heap.size, 0, none⟩ 1 1 [.int .i64 1] rfl rfl (cell_one_new _ _ _) (by simp [Value.oneCell']) (by omega) (by omega) (by simp; omega) ?_; intro v' w7 hown' hgrow _)
              have hC7 := hC'.row hO2 (by omega) HROW.out hgrow
              have e7 : slLen v' = us.length + 1 := by
                obtain ⟨x, c, rfl⟩ := own_shape hown'
                rfl
              refine ⟨⟨us ++ [1], by simp, by simp; omega, ?_, hC7, hB2.trans ((below_appended hO2 (by omega) hgrow).mono (by omega))⟩, by rw [e7]; simp only [slLen]; omega⟩
              show World.ownsRow _ _ _ _ _ _ _
              simpa using hown'
            · go_wp2
              refine bodyPost_ret (results_tmp rfl _ _ _) rfl ⟨_, us, rfl, own_le hO2 (by omega), by omega, hB2⟩
        · obtain ⟨X5, hX5⟩ : ∃ X, X = w5.alloc (.cells #[.int .i64 (-9223372036854775808), .int .i64 1000000000, .int .i64 4611686018427387904] 2) := ⟨_, rfl⟩
          obtain ⟨Z5, hZ5⟩ : ∃ Z, Z = w5.heap.size := ⟨_, rfl⟩
          have hcell : ∀ k : Nat, k < 3 → ∃ q : Int, X5.cell? ⟨Z5, k, none⟩ = some (.int .i64 q) := by
            intro k hk
            rw [hX5, hZ5]
            match k, hk with
            | 0, _ => exact ⟨(-9223372036854775808), by simp [go_sem]⟩
            | 1, _ => exact ⟨1000000000, by simp [go_sem]⟩
            | 2, _ => exact ⟨4611686018427387904, by simp [go_sem]⟩
          have HCELL : Hid _ := hcell
          have hbx : Below w5.heap.size w5 X5 := by rw [hX5]; exact (Below.refl _ _).alloc (Nat.le_refl _) _
          have hne : w.heap.size < Z5 := by rw [hZ5]; exact HC.out.lt
          replace HC : Hid (Cur X5 w.heap.size a len cap zs) := HC.out.below hbx
          replace hO := own_below hO hbx
          replace hB : Below w.heap.size w X5 := hB.trans (hbx.mono hB.size)
          clear hbx hcell
          go_wp2_with fail
          rw [← hX5, ← hZ5]
          clear hX5 hZ5
          refine (below_any w.heap.size _ a len cap zs _ HC.out (by omega)).mono ?_
          rintro e w6 ⟨k, rfl, hk0, hk1, hC', hE⟩
          obtain ⟨k, rfl⟩ := Int.eq_ofNat_of_zero_le hk0
          obtain ⟨q, hq⟩ := HCELL.out k (by omega)
          have hq6 := hE.cell hq (by omega)
          replace HC : Hid (Cur w6 w.heap.size a len cap zs) := hC'
          replace hO := own_ex hO hE (by omega)
          replace hB : Below w.heap.size w w6 := Ex.below hB hE (by omega)
          have hs6 := hC'.lt
          clear hC' hE hq HCELL
          have c1 := own_int hO rfl 0 htp
          have f1 := hO.frozenAt 0
          have htn : ¬ ts.length = 0 := by omega
          go_wp2
          obtain ⟨s1, s2⟩ := hO.stored 0 (.int .i64 q)
          rw [← List.map_set] at s1
          refine bodyPost_ret (results_tmp rfl _ _ _) rfl ⟨_, ts.set 0 q, rfl, ?_, by simp; omega, hB.setCell (p := ⟨gg, 0, none⟩) (by have := (hO.lt gg rfl).1; show _ ≤ gg; omega) _⟩
          exact own_le (base := w.heap.size + 1) (by simpa using s1) (by omega)
end Go.Proofs.Ytllgbfoffebojaa
