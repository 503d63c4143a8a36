/- The walk of the program's ShowDim. -/
import Derived.Test.YtbbkejfcheobaabDoorDimS1
import Derived.Test.YtbbkejfcheobaabDoorDimW3
import Derived.Test.YtbbkejfcheobaabDoorShelf
import Derived.Lib.AppendIntMem
import Derived.Deep.RegionLaw
import Derived.Deep.Cut
import Derived.Deep.CutRange
import Derived.Deep.RegionHeld3
import Derived.Deep.DeepCutAuto
namespace Go.Proofs.YtbbkejfcheobaabDoor
open Go.RowKit Go.Proofs.YtbbkejfcheobaabDoor.RM

def PowD (B : Nat) (w : World) : Prop := Lib.TabBelow Tryd.prog B w "internal/strconv.uint64pow10" .u64 Lib.pow10Tab
theorem PowD.below {w w' : World} {B : Nat} (h : PowD B w) (hb : Below B w w') : PowD B w' := Lib.TabBelow.on h hb
theorem fmtD_any (x : Int) (B : Nat) (w : World) (h : PowD B w) (h0 : -9223372036854775808 ≤ x) (h1 : x ≤ 9223372036854775807) :
    Calls Tryd.prog 28 #[.int .i64 x, .int .i64 10] w fun e w' => e = .returned (.string ⟨(Lib.itoa x).toArray⟩) ∧ Below w.heap.size w w' := by
  refine (Tryd.strconv_FormatInt_10 x h0 h1 w h.here).mono ?_
  rintro e w' ⟨rfl, k, os, rfl⟩
  exact ⟨rfl, Lib.below_grow _ _ (Nat.le_refl _) _ _⟩
/-- a list of texts as values -/
def strV (ws : List (List UInt8)) : List Value := ws.map fun l => Value.string ⟨l.toArray⟩
theorem strV_snoc (ws : List (List UInt8)) (l : List UInt8) : strV (ws ++ [l]) = strV ws ++ [Value.string ⟨l.toArray⟩] := by simp [strV]
theorem infoS : (Tryd.prog.info? 9).map (fun i => (i.zero, i.size, i.bytes)) = some (some (.string ⟨#[]⟩), 1, 16) := by kernel_rfl

set_option maxRecDepth 100000 in
set_option maxHeartbeats 2000000 in
theorem iShowD_in (v : Value) (ys : List Int) (B : Nat) (w : World) (h : DimIn w v ys) (hP : PowD B w) (hBw : B ≤ w.heap.size) :
    Calls Tryd.prog 13 #[v] w fun e w' => e = .returned (.string ⟨(showD ys).toArray⟩) ∧ Below w.heap.size w w' := by
  obtain ⟨i0, hi, hz0, hz1, hz2⟩ := info_parts infoS
  have b0 : ∀ (u : World) (o : Obj), Below u.heap.size u (u.alloc o) := fun u o => (Below.refl _ _).alloc (Nat.le_refl _) o
  have H := hidD h
  have HP := hidD hP
  obtain ⟨S, hS⟩ : ∃ S, S = showD ys := ⟨_, rfl⟩
  have HS := hidD hS
  have HD := hidD (dimOf_in v ys w h)
  obtain ⟨q, hq⟩ : ∃ q, q = dimB ys := ⟨_, rfl⟩
  have HQ := hidD hq
  rw [← hq] at HD
  rw [← hS]
  clear h hS hq hP
  go_enter Tryd.func13, Tryd.ntmps13
  go_wp2_with fail
  refine HD.out.mono ?_
  rintro e w1 ⟨a, b, c, d, e', rfl, hys, B1⟩
  simp only [arr]
  have HYS := hidD hys
  have B1h := hidD B1
  clear HD hys B1 H
  cases q with
  | false =>
    obtain rfl : S = [] := by rw [HS.out]; unfold showD; rw [← HQ.out]; rfl
    go_wp2
    exact bodyPost_ret (v := .string ⟨#[]⟩) (by simp [results, Tryd.results13, go_sem]) rfl ⟨rfl, by first | exact B1h.out | exact B1h.out.alloc B1h.out.size _⟩
  | true =>
    obtain rfl := HYS.out rfl
    have hb5 := HQ.out.symm
    rw [dimB_five] at hb5
    obtain ⟨ba, bb, bc, bd, be⟩ := lim5_out hb5
    go_upto_region 4 with fail
    obtain ⟨Z, hZ⟩ : ∃ Z, Z = w1.heap.size := ⟨_, rfl⟩
    obtain ⟨X, hX⟩ : ∃ X, X = w1.alloc (.cells (arr a b c d e') 40) := ⟨_, rfl⟩
    have D0 : IsD X Z a b c d e' := by rw [hX, hZ]; exact IsD.new w1 a b c d e'
    have BX : Below w.heap.size w X := by rw [hX]; exact B1h.out.alloc B1h.out.size _
    simp only [arr] at hX
    rw [← hX, ← hZ]
    have hzw : w.heap.size ≤ Z := by rw [hZ]; exact B1h.out.size
    clear hX hZ B1h
    obtain ⟨c0, c1, c2, c3, c4⟩ := D0.c
    have hZl := D0.lt
    obtain ⟨z, hz⟩ : ∃ z, z = z5 a b c d e' := ⟨_, rfl⟩
    have heq := eq5 a b c d e' 0 0 0 0 0 X
    rw [show (a == 0 && (b == 0 && (c == 0 && (d == 0 && e' == 0)))) = z from hz.symm] at heq
    have HW : Hid (wdU [a, b, c, d, e'] 5 = [] ↔ z = true) := by
      show _ ↔ _
      rw [wdU_five, hz]
      unfold z5
      simp
    have HSS : Hid (S = if wdU [a, b, c, d, e'] 5 = [] then [49] else txU [a, b, c, d, e'] 5) := by show _ = _; rw [HS.out]; unfold showD; rw [← HQ.out]; rfl
    have HR : Hid (∀ k, k < 5 → -9 ≤ ky [a, b, c, d, e'] k ∧ ky [a, b, c, d, e'] k ≤ 9) := by
      intro k hk
      match k, hk with
      | 0, _ => exact ba
      | 1, _ => exact bb
      | 2, _ => exact bc
      | 3, _ => exact bd
      | 4, _ => exact be
    have HD0 := hidD D0
    have HBX := hidD BX
    clear D0 BX hz hb5 HS HQ
    cases z with
    | true =>
      rw [if_pos (HW.out.2 rfl)] at HSS
      go_wp2
      exact bodyPost_ret (v := .string ⟨#[49]⟩) (by simp [results, Tryd.results13, go_sem]) rfl ⟨by rw [HSS.out], HBX.out⟩
    | false =>
      rw [if_neg (fun h => by have := HW.out.1 h; cases this)] at HSS
      obtain ⟨ys, hys⟩ : ∃ ys, ys = [a, b, c, d, e'] := ⟨_, rfl⟩
      have HI : Hid (∀ (x : Int) (W : World), Below w.heap.size w W → -9 ≤ x → x ≤ 9 → Calls Tryd.prog 28 #[.int .i64 x, .int .i64 10] W fun e w' => e = .returned (.string ⟨(Lib.itoa x).toArray⟩) ∧ Below W.heap.size W w') := fun x W hW h0 h1 => fmtD_any x B W (HP.out.below (hW.mono hBw)) (by omega) (by omega)
      have HPT : Hid (∀ (k : Nat) (W : World), k < 5 → (Instr.index 40 (.agg #[.int .i64 a, .int .i64 b, .int .i64 c, .int .i64 d, .int .i64 e']) (.int .i64 k)).run Tryd.prog W = .ok (.int .i64 (ky ys k)) W) := by
        intro k W hk
        rw [hys]
        match k, hk with
        | 0, _ => show _ = Result.ok (Value.int .i64 a) W; kernel_rfl
        | 1, _ => show _ = Result.ok (Value.int .i64 b) W; kernel_rfl
        | 2, _ => show _ = Result.ok (Value.int .i64 c) W; kernel_rfl
        | 3, _ => show _ = Result.ok (Value.int .i64 d) W; kernel_rfl
        | 4, _ => show _ = Result.ok (Value.int .i64 e') W; kernel_rfl
      rw [← hys] at HSS HR HW
      clear hys
      go_upto_region 8 with fail
      clear heq
      have hXs : Hid (w.heap.size ≤ X.heap.size) := HBX.out.size
      have o0 : (X.alloc (.cells #[] 9)).ownsRow X.heap.size 9 1 (.slice (some ⟨X.heap.size, 0, none⟩) 0 0) (wdU ys 0).length (strV (wdU ys 0)) := ⟨rfl, .inr ⟨X.heap.size, 0, #[], rfl, Nat.le_refl _, World.alloc_heap_new X _, Nat.le_refl _, Nat.zero_le _, rfl, rfl⟩⟩
      go_loopw [5, 20] (fun q i wr => ∃ (o : Value) (k : Nat), o = q ∧ i = .int .i64 k ∧ k ≤ 5 ∧ Hid (wr.ownsRow X.heap.size 9 1 o (wdU ys k).length (strV (wdU ys k))) ∧ Hid (Below X.heap.size X wr)) (fun _ i _ => 5 - (intOf i).toNat)
      case atStart => exact ⟨_, 0, rfl, rfl, by omega, o0, b0 _ _⟩
      case round =>
        clear o0
        obtain ⟨o, k, rfl, rfl, hk, hO, hB⟩ := hrel
        by_cases hk5 : k < 5
        · have hki : ((k : Nat) : Int) < 5 := by omega
          have hpt := fun W => HPT.out k W hk5
          obtain ⟨y, hyy⟩ : ∃ y, y = ky ys k := ⟨_, rfl⟩
          rw [← hyy] at hpt
          have hyb := HR.out k hk5
          rw [← hyy] at hyb
          have HY := hidD hyy
          clear hyy
          by_cases hz : y = 0
          · subst hz
            go_wp2
            go_roundw
            case rel => exact ⟨o, k + 1, rfl, by go_num, by omega, by rw [wdU_no HY.out.symm]; exact hO.out, hB.out⟩
            case measure => simp [intOf]; omega
          · obtain ⟨l2, hl2⟩ : ∃ l, l = Lib.itoa y := ⟨_, rfl⟩
            have hl2l : l2.length ≤ 2 := by rw [hl2]; exact itoa_small hyb.1 hyb.2
            have HBW := hidD (HBX.out.trans (hB.out.mono hXs.out))
            have HC : Hid (∀ W : World, Below w.heap.size w W → Calls Tryd.prog 28 #[.int .i64 y, .int .i64 10] W fun e w' => e = .returned (.string ⟨l2.toArray⟩) ∧ Below W.heap.size W w') := by intro W hW; rw [hl2]; exact HI.out y W hW hyb.1 hyb.2
            have HT : Hid (wdU ys (k + 1) = wdU ys k ++ [dl k :: l2]) := by
              show _ = _
              rw [wdU_yes (by rw [← HY.out]; exact hz), hl2, HY.out]
            have hsz := hB.out.size
            have hs1 : (0 : Int) ≤ (k : Int) + 1 := by omega
            have hs2 : (k : Int) + 1 ≤ 5 := by omega
            have hs3 : (0 : Int) ≤ (k : Int) := by omega
            have hs4 : (k : Int) ≤ (k : Int) + 1 := by omega
            have hex : (ByteArray.mk #[76, 77, 84, 73, 75]).extract k (k + 1) = ByteArray.mk #[dl k] := let1 hk5
            have htn : ((k : Int) + 1).toNat = k + 1 := by omega
            have hwr : IntKind.i64.wrap ((k : Int) + 1) = (k : Int) + 1 := by rw [IntKind.wrap_i64]; omega
            have hlq : ¬ 9223372036854775807 < 1 + l2.length := by omega
            clear hl2 hyb HI
            go_upto_region 11 with fail
            clear hpt
            --REG11
            refine wp_region_noPanic ?_
            refine wp_region_held_drew (S := fun _ => True) (by kernel_rfl) trivial (fun hHeld => ?_)
            refine wpAnyH_take (i := 0) (v := ?_) rfl (by kernel_rfl) (by kernel_rfl) (by kernel_rfl) (fun _ _ _ h => h) (Or.inl ⟨by kernel_rfl, ?_⟩) hHeld ?_
            rotate_left
            · intro wz hSw; (try dsimp only at hSw); go_simp; all_goals (try with_reducible rfl)
            (try simp only [List.getElem_toArray]); (try simp only [List.getElem_cons_succ]); (try simp only [List.getElem_cons_zero]); (try simp only [Act.put]); (try simp only [List.setIfInBounds_toArray]); (try simp only [List.set_cons_succ]); (try simp only [List.set_cons_zero])
            refine wpAnyH_take (i := 1) (v := ?_) rfl (by kernel_rfl) (by kernel_rfl) (by kernel_rfl) (fun _ _ _ h => h) (Or.inl ⟨by kernel_rfl, ?_⟩) hHeld ?_
            rotate_left
            · intro wz hSw; (try dsimp only at hSw); go_simp; all_goals (try with_reducible rfl)
            (try simp only [List.getElem_toArray]); (try simp only [List.getElem_cons_succ]); (try simp only [List.getElem_cons_zero]); (try simp only [Act.put]); (try simp only [List.setIfInBounds_toArray]); (try simp only [List.set_cons_succ]); (try simp only [List.set_cons_zero])
            refine wpAnyH_take (i := 2) (v := ?_) rfl (by kernel_rfl) (by kernel_rfl) (by kernel_rfl) (fun _ _ _ h => h) (Or.inl ⟨by kernel_rfl, ?_⟩) hHeld ?_
            rotate_left
            · intro wz hSw; (try dsimp only at hSw); go_simp; all_goals (try with_reducible rfl)
            (try simp only [List.getElem_toArray]); (try simp only [List.getElem_cons_succ]); (try simp only [List.getElem_cons_zero]); (try simp only [Act.put]); (try simp only [List.setIfInBounds_toArray]); (try simp only [List.set_cons_succ]); (try simp only [List.set_cons_zero])
            refine wpAnyH_take (i := 3) (v := ?_) rfl (by kernel_rfl) (by kernel_rfl) (by kernel_rfl) (fun _ _ _ h => h) (Or.inl ⟨by kernel_rfl, ?_⟩) hHeld ?_
            rotate_left
            · intro wz hSw; (try dsimp only at hSw); go_simp; all_goals (try with_reducible rfl)
            (try simp only [List.getElem_toArray]); (try simp only [List.getElem_cons_succ]); (try simp only [List.getElem_cons_zero]); (try simp only [Act.put]); (try simp only [List.setIfInBounds_toArray]); (try simp only [List.set_cons_succ]); (try simp only [List.set_cons_zero])
            refine wpAnyH_take (i := 4) (v := ?_) rfl (by kernel_rfl) (by kernel_rfl) (by kernel_rfl) (fun _ _ _ h => h) (Or.inl ⟨by kernel_rfl, ?_⟩) hHeld ?_
            rotate_left
            · intro wz hSw; (try dsimp only at hSw); go_simp; all_goals (try with_reducible rfl)
            (try simp only [List.getElem_toArray]); (try simp only [List.getElem_cons_succ]); (try simp only [List.getElem_cons_zero]); (try simp only [Act.put]); (try simp only [List.setIfInBounds_toArray]); (try simp only [List.set_cons_succ]); (try simp only [List.set_cons_zero])
            refine wpAnyH_take (i := 5) (v := ?_) rfl (by kernel_rfl) (by kernel_rfl) (by kernel_rfl) (fun _ _ _ h => h) (Or.inl ⟨by kernel_rfl, ?_⟩) hHeld ?_
            rotate_left
            · intro wz hSw; (try dsimp only at hSw); go_simp; all_goals (try with_reducible rfl)
            (try simp only [List.getElem_toArray]); (try simp only [List.getElem_cons_succ]); (try simp only [List.getElem_cons_zero]); (try simp only [Act.put]); (try simp only [List.setIfInBounds_toArray]); (try simp only [List.set_cons_succ]); (try simp only [List.set_cons_zero])
            refine wpAnyH_ready (rs := [6]) (by kernel_rfl) (by simp) (AllReadyH.cons rfl (fun Kc hKc => ?_) AllReadyH.nil)
            go_simp
            (go_at_call 28; refine (HC.out _ ?_).mono ?_)
            · exact (HBW.out).drew
            rintro e w4 ⟨rfl, hb4⟩
            have hb5 : Below wr.heap.size wr w4 := ((Below.refl _ _).drew).trans (hb4.mono (by simp))
            go_wp2_with fail
            refine hKc.out _ _ trivial (fun hHeld => ?_)
            clear hKc Kc
            (try simp only [List.getElem_toArray]); (try simp only [List.getElem_cons_succ]); (try simp only [List.getElem_cons_zero]); (try simp only [Act.put]); (try simp only [List.setIfInBounds_toArray]); (try simp only [List.set_cons_succ]); (try simp only [List.set_cons_zero])
            refine wpAnyH_take (i := 7) (v := (.string (ByteArray.mk #[dl k] ++ ByteArray.mk l2.toArray))) rfl (by kernel_rfl) (by kernel_rfl) (by kernel_rfl) (fun _ _ _ h => h) (Or.inl ⟨by kernel_rfl, ?_⟩) hHeld ?_
            skip
            · intro wz hSw; (try dsimp only at hSw); go_simp; all_goals (try with_reducible rfl)
            (try simp only [List.getElem_toArray]); (try simp only [List.getElem_cons_succ]); (try simp only [List.getElem_cons_zero]); (try simp only [Act.put]); (try simp only [List.setIfInBounds_toArray]); (try simp only [List.set_cons_succ]); (try simp only [List.set_cons_zero])
            refine wpAnyH_ready (rs := [8]) (by kernel_rfl) (by simp) (AllReadyH.cons rfl (fun Kc hKc => ?_) AllReadyH.nil)
            go_simp
            refine hKc.out _ _ trivial (fun hHeld => ?_)
            clear hKc Kc
            (try simp only [List.getElem_toArray]); (try simp only [List.getElem_cons_succ]); (try simp only [List.getElem_cons_zero]); (try simp only [Act.put]); (try simp only [List.setIfInBounds_toArray]); (try simp only [List.set_cons_succ]); (try simp only [List.set_cons_zero])
            have O4 := hidD (own_below hO.out hb5)
            have hs4 := hb5.size
            refine wpAnyH_ready (rs := [9]) (by kernel_rfl) (by simp) (AllReadyH.cons rfl (fun Kc hKc => ?_) AllReadyH.nil)
            refine step_append_own rfl (.tmp 26) (.tmp 34) 49 rfl X.heap.size 9 i0 (.string ⟨#[]⟩) 1 16 Tryd.underlying49 hi hz0 hz1 hz2 rfl (by decide) _ (wdU ys k).length _ (by simp [Act.eval]) (own_below O4.out (b0 _ _)) ⟨w4.heap.size, 0, none⟩ 1 1 [.string (ByteArray.mk #[dl k] ++ ByteArray.mk l2.toArray)] (by simp [Act.eval]) rfl (fun j u h => cell_one_new w4 _ _ j u h) (by simp [Value.oneCell']) (by have := wdU_len ys k; unfold maxLen; omega) (by have := wdU_len ys k; omega) (by simp; omega) ?_
            intro v' w5 hown' hgrow
            refine hKc.out _ _ trivial (fun hHeld => ?_)
            clear hKc Kc
            (try simp only [List.getElem_toArray]); (try simp only [List.getElem_cons_succ]); (try simp only [List.getElem_cons_zero]); (try simp only [Act.put]); (try simp only [List.setIfInBounds_toArray]); (try simp only [List.set_cons_succ]); (try simp only [List.set_cons_zero])
            refine wpAnyH_take (i := 10) (v := ?_) rfl (by kernel_rfl) (by kernel_rfl) (by kernel_rfl) (fun _ _ _ h => h) (Or.inl ⟨by kernel_rfl, ?_⟩) hHeld ?_
            rotate_left
            · intro wz hSw; (try dsimp only at hSw); go_simp; all_goals (try with_reducible rfl)
            (try simp only [List.getElem_toArray]); (try simp only [List.getElem_cons_succ]); (try simp only [List.getElem_cons_zero]); (try simp only [Act.put]); (try simp only [List.setIfInBounds_toArray]); (try simp only [List.set_cons_succ]); (try simp only [List.set_cons_zero])
            refine wpAnyH_done (by kernel_rfl) ?_ _
            refine NoPanic.normal ?_
            --REGEND
            go_wp2
            go_roundw
            case rel =>
              refine ⟨v', k + 1, rfl, by go_num, by omega, ?_, hB.out.trans ((hb5.mono hsz).trans (below_appended O4.out (by omega) hgrow))⟩
              show World.ownsRow _ _ _ _ _ _ _
              rw [HT.out, strV_snoc, List.length_append, List.length_singleton, ← show (ByteArray.mk #[dl k] ++ ByteArray.mk l2.toArray) = ByteArray.mk (dl k :: l2).toArray from cat1 (dl k) l2]
              exact hown'
            case measure => simp [intOf]; omega
        · obtain rfl : k = 5 := by omega
          have hne : 0 < (wdU ys 5).length := by
            apply Nat.pos_of_ne_zero
            intro h0
            have := HW.out.1 (List.eq_nil_of_length_eq_zero h0)
            cases this
          obtain ⟨g, c', rfl⟩ := own_some hO.out hne
          have hgl := (World.ownsRow.lt hO.out g rfl).2
          have hll := wdU_len ys 5
          have hcap : (wdU ys 5).length ≤ c' := by
            rcases hO.out.2 with ⟨e, _⟩ | ⟨g', c'', cur, e, _, _, h1, h2, _⟩
            · cases e
            · cases e; exact h1
          have HJ : Hid (Calls Tryd.prog 29 #[.slice (some ⟨g, 0, none⟩) (wdU ys 5).length c', .string ⟨#[32]⟩] wr fun e w' => e = .returned (.string ⟨(txU ys 5).toArray⟩) ∧ Below wr.heap.size wr w') := by
            show Calls _ _ _ _ _
            have e1 : ((wdU ys 5).map fun l => ByteArray.mk l.toArray).length = (wdU ys 5).length := by simp
            have e2 : (((wdU ys 5).map fun l => ByteArray.mk l.toArray).map (·.data.toList)) = wdU ys 5 := by
              rw [List.map_map]
              conv => rhs; rw [← List.map_id (wdU ys 5)]
              apply List.map_congr_left
              intro l _
              simp
            have h9 := Tryd.strings_Join g 0 c' ((wdU ys 5).map fun l => ByteArray.mk l.toArray) ⟨#[32]⟩ wr (fun j x hx => by
              rw [List.getElem?_map] at hx
              have hj : j < (wdU ys 5).length := by
                apply Classical.byContradiction
                intro hn
                rw [List.getElem?_eq_none (by omega)] at hx
                cases hx
              have hc := hO.out.cellAt j (by omega)
              rw [Nat.zero_add, hc]
              unfold strV
              rw [List.getElem?_map]
              rw [List.getElem?_eq_getElem hj] at hx ⊢
              cases hx
              rfl) hgl (by rw [e1]; omega) (by rw [e1]; exact hcap) (by rw [e2]; show (txU ys 5).length ≤ _; have := txU_len HR.out 5 (by omega); omega)
            rw [e1, e2] at h9
            exact h9
          go_wp2_with fail
          refine HJ.out.mono ?_
          rintro e w9 ⟨rfl, hb9⟩
          go_wp2
          exact bodyPost_ret (v := .string ⟨(txU ys 5).toArray⟩) (by simp [results, Tryd.results13, go_sem]) rfl ⟨by rw [HSS.out], (HBX.out.trans (hB.out.mono hXs.out)).trans (hb9.mono (by have := hB.out.size; have := hXs.out; omega))⟩
theorem iShowD_any (v : Value) (ys : List Int) (base : Nat) (et : TypeId) (B : Nat) (w : World) (h : w.ownsRow base et 1 v ys.length (ys.map (Value.int .i64))) (hP : PowD B w) (hBw : B ≤ w.heap.size) :
    Calls Tryd.prog 13 #[v] w fun e w' => e = .returned (.string ⟨(showD ys).toArray⟩) ∧ Below w.heap.size w w' := iShowD_in v ys B w (.of h) hP hBw
end Go.Proofs.YtbbkejfcheobaabDoor
