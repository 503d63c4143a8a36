/- spec.ReadRatio's walk. -/
import Derived.Test.YtbbkejfcheobaaaDoorReadW3
namespace Go.Proofs.YtbbkejfcheobaaaDoor
open Go.RowKit Go.Proofs.YtbbkejfcheobaaaDoor.RM

theorem spec_none {l : List UInt8} {v : Int} {b : Bool} (h47 : (47 : UInt8) ∉ l) (hD : DigP l v b) : rdI l = if b = true ∧ shw v 1 = l then (v, 1, true) else (0, 0, false) := by
  by_cases hx : ∃ n d, okB n d = true ∧ shw n d = l
  · obtain ⟨n, d, ho, rfl⟩ := hx
    rw [rdI_shw ho]
    by_cases h1 : d = 1
    · subst h1
      obtain ⟨hd1, hd2, hn1, hn2, -⟩ := okB_out ho
      obtain ⟨rfl, rfl⟩ := hD.1 n hn1 hn2 (shw_one ho)
      rw [if_pos ⟨rfl, rfl⟩]
    · rw [shw_more ho h1] at h47
      exact absurd (by simp) h47
  · rw [rdI_no hx, if_neg]
    rintro ⟨h1, h2⟩
    cases hk : okB v 1 with
    | true => exact hx ⟨_, _, hk, h2⟩
    | false =>
      rw [shw_no hk] at h2
      have := hD.2 h2.symm
      rw [h1] at this
      cases this
theorem spec_cut {x y : List UInt8} {v1 v2 : Int} {b1 b2 : Bool} (h47 : (47 : UInt8) ∉ x) (hD1 : DigP x v1 b1) (hD2 : DigP y v2 b2) :
    rdI (x ++ 47 :: y) = if b1 = true ∧ b2 = true ∧ shw v1 v2 = x ++ 47 :: y then (v1, v2, true) else (0, 0, false) := by
  by_cases hx : ∃ n d, okB n d = true ∧ shw n d = x ++ 47 :: y
  · obtain ⟨n, d, ho, he⟩ := hx
    rw [← he, rdI_shw ho]
    obtain ⟨hd1, hd2, hn1, hn2, -⟩ := okB_out ho
    by_cases h1 : d = 1
    · subst h1
      rw [shw_one ho] at he
      exact absurd (by rw [he]; simp) (itoa_no47 n)
    · rw [shw_more ho h1] at he
      have e := cut_at (a := Lib.itoa n) (b := Lib.itoa d) (itoa_no47 n)
      rw [he, cut_at h47] at e
      injection e with e1 e2
      injection e2 with e2 _
      obtain ⟨rfl, rfl⟩ := hD1.1 n hn1 hn2 e1
      obtain ⟨rfl, rfl⟩ := hD2.1 d (by omega) hd2 e2
      rw [if_pos ⟨rfl, rfl, rfl⟩]
  · rw [rdI_no hx, if_neg]
    rintro ⟨h1, h3, h2⟩
    cases hk : okB v1 v2 with
    | true => exact hx ⟨_, _, hk, h2⟩
    | false =>
      rw [shw_no hk] at h2
      exact absurd h2 (by simp)
theorem frz_rd {w : World} {a p : Addr} {u : Value} (h : w.frozen? a = false) : (w.setCell p u).frozen? a = false := by simp [h]
theorem ext_take (s : ByteArray) (k : Nat) : (s.extract 0 k).data.toList = s.data.toList.take k := by
  simp [ByteArray.data_extract]
theorem ext_drop (s : ByteArray) (k : Nat) : (s.extract k s.size).data.toList = s.data.toList.drop k := by
  rw [ByteArray.data_extract, Array.toList_extract]
  have : s.size = s.data.toList.length := (len_s s).symm
  rw [this, List.extract_eq_take_drop]
  exact List.take_of_length_le (by rw [List.length_drop]; omega)
theorem ext_size (s : ByteArray) (i k : Nat) : (s.extract i k).size ≤ s.size := by
  rw [ByteArray.size_extract]
  omega
theorem no_snoc (s : ByteArray) (k : Nat) (h : k < s.size) (hn : (47 : UInt8) ∉ s.data.toList.take k) (hc : s[k] ≠ 47) : (47 : UInt8) ∉ s.data.toList.take (k + 1) := by
  have := drop_take s 0 k (Nat.zero_le _) h
  simp only [List.drop_zero, Nat.sub_zero] at this
  rw [this, List.mem_append, List.mem_singleton]
  rintro (h | h)
  · exact hn h
  · exact hc h.symm
theorem at_slash (s : ByteArray) (k : Nat) (h : k < s.size) (hc : s[k] = 47) : s.data.toList = s.data.toList.take k ++ 47 :: s.data.toList.drop (k + 1) := by
  have hl : k < s.data.toList.length := by rw [len_s]; exact h
  have e : s.data.toList[k] = 47 := hc
  conv => lhs; rw [← List.take_append_drop k s.data.toList, List.drop_eq_getElem_cons hl, e]

set_option maxRecDepth 100000 in
set_option maxHeartbeats 1000000 in
theorem sRead_any (s : ByteArray) (w : World) (hs : s.size ≤ 1048576) :
    Calls Tryd.prog 9 #[.string s] w fun e w' => e = .returned (.tuple #[.agg #[.int .i64 (rdI s.data.toList).1, .int .i64 (rdI s.data.toList).2.1], .bool (rdI s.data.toList).2.2]) ∧ Below w.heap.size w w' := by
  have b0 : ∀ (u : World) (o : Obj), Below u.heap.size u (u.alloc o) := fun u o => (Below.refl _ _).alloc (Nat.le_refl _) o
  obtain ⟨R, hRe⟩ : ∃ R, R = rdI s.data.toList := ⟨_, rfl⟩
  have HR : Hid (R = rdI s.data.toList) := hRe
  rw [← hRe]
  clear hRe
  have HS : Hid (∀ (n d : Int) (W : World), Calls Tryd.prog 10 #[.agg #[.int .i64 n, .int .i64 d]] W fun e w' => e = .returned (.string ⟨(shw n d).toArray⟩) ∧ Below W.heap.size W w') := fun n d W => sShow_any n d W
  have HD : Hid (∀ (t : ByteArray) (W : World), t.size ≤ 1048576 → Calls Tryd.prog 21 #[.string t, .int .i64 10] W fun e w' => DigE t.data.toList e ∧ w' = W) := fun t W h => dig_any t W h
  go_enter Tryd.func9, Tryd.ntmps9
  go_upto_region 1 with fail
  obtain ⟨X, hX⟩ : ∃ X, X = w.alloc (.cells #[.int .i64 0, .int .i64 0] 25) := ⟨_, rfl⟩
  obtain ⟨Z, hZ⟩ : ∃ Z, Z = w.heap.size := ⟨_, rfl⟩
  have c0 : X.cell? ⟨Z, 0, none⟩ = some (.int .i64 0) := by rw [hX, hZ]; simp [go_sem]
  have c1 : X.cell? ⟨Z, 1, none⟩ = some (.int .i64 0) := by rw [hX, hZ]; simp [go_sem]
  have f0 : X.frozen? ⟨Z, 0, none⟩ = false := by rw [hX, hZ]; simp [go_sem]
  have f1 : X.frozen? ⟨Z, 1, none⟩ = false := by rw [hX, hZ]; simp [go_sem]
  have HB : Hid (Below w.heap.size w X) := by show Below _ _ _; rw [hX]; exact b0 _ _
  rw [← hX, ← hZ]
  have HZ : Hid (w.heap.size ≤ Z) := by show _ ≤ _; omega
  clear hX hZ
  go_wp2
  go_loop [4] (fun i => ∃ k : Nat, k ≤ s.size ∧ i = .int .i64 k ∧ Hid ((47 : UInt8) ∉ s.data.toList.take k)) (fun i => s.size - (intOf i).toNat)
  case atStart => exact ⟨0, by omega, rfl, by show _ ∉ _; simp⟩
  case round =>
    obtain ⟨k, hk, rfl, hN⟩ := hrel
    have hk0 : (0 : Int) ≤ k := by omega
    have hk1 : (k : Int) ≤ s.size := by omega
    by_cases hlt : k < s.size
    · have hk3 : (k : Int) < s.size := by omega
      by_cases hc : s[k] = 47
      · have hcn : ((s[k]).toNat : Int) = 47 := by rw [hc]; rfl
        have HC : Hid (s.data.toList = s.data.toList.take k ++ 47 :: s.data.toList.drop (k + 1)) := at_slash s k hlt hc
        have hk4 : (0 : Int) ≤ (k : Int) + 1 := by omega
        have hk5 : (k : Int) + 1 ≤ s.size := by omega
        clear hc
        go_upto_region 5 with fail
        obtain ⟨X2, hX⟩ : ∃ X2, X2 = X.alloc (.cells #[.int .i64 0, .int .i64 1] 25) := ⟨_, rfl⟩
        obtain ⟨Z2, hZ⟩ : ∃ Z2, Z2 = X.heap.size := ⟨_, rfl⟩
        have d0 : X2.cell? ⟨Z2, 0, none⟩ = some (.int .i64 0) := by rw [hX, hZ]; simp [go_sem]
        have d1 : X2.cell? ⟨Z2, 1, none⟩ = some (.int .i64 1) := by rw [hX, hZ]; simp [go_sem]
        have g0 : X2.frozen? ⟨Z2, 0, none⟩ = false := by rw [hX, hZ]; simp [go_sem]
        have g1 : X2.frozen? ⟨Z2, 1, none⟩ = false := by rw [hX, hZ]; simp [go_sem]
        have hb : Below X.heap.size X X2 := by rw [hX]; exact b0 _ _
        have hne : Z ≠ Z2 := by have := lt_cell c0; omega
        have HZ2 : Hid (w.heap.size ≤ Z2) := by show _ ≤ _; rw [hZ]; exact HB.out.size
        replace f0 := frozen_later hb c0 f0
        replace f1 := frozen_later hb c1 f1
        replace c0 := cell_later hb c0
        replace c1 := cell_later hb c1
        replace HB := hidS (HB.out.trans (hb.mono HB.out.size))
        rw [← hX, ← hZ]
        clear hb hX hZ
        go_wp2_with fail
        refine (HD.out _ _ (Nat.le_trans (ext_size s 0 k) hs)).mono ?_
        rintro e w2 ⟨⟨v, b, rfl, hv⟩, h2⟩
        obtain rfl := h2
        rw [ext_take] at hv
        have HV := hidS hv
        clear hv
        have q0 := (new2 (n := .int .i64 v) (d := .int .i64 1) d0 d1)
        have e0 : (w2.setCell ⟨Z2, 0, none⟩ (.int .i64 v)).cell? ⟨Z2, 0, none⟩ = some (.int .i64 v) := by simp [go_sem, d0]
        have e1 : (w2.setCell ⟨Z2, 0, none⟩ (.int .i64 v)).cell? ⟨Z2, 1, none⟩ = some (.int .i64 1) := by simp [go_sem, d1]
        have k0 : (w2.setCell ⟨Z2, 0, none⟩ (.int .i64 v)).frozen? ⟨Z2, 1, none⟩ = false := by simp [go_sem, g1]
        have l0 := cell_stb (u := .int .i64 v) (q := 0) c0 hne
        have l1 := cell_stb (u := .int .i64 v) (q := 0) c1 hne
        have m0 : (w2.setCell ⟨Z2, 0, none⟩ (.int .i64 v)).frozen? ⟨Z, 0, none⟩ = false := by simp [go_sem, f0]
        have m1 : (w2.setCell ⟨Z2, 0, none⟩ (.int .i64 v)).frozen? ⟨Z, 1, none⟩ = false := by simp [go_sem, f1]
        have HB2 := hidS (HB.out.setCell (p := ⟨Z2, 0, none⟩) HZ2.out (.int .i64 v))
        clear q0
        go_wp2_with fail
        refine (HD.out _ _ (Nat.le_trans (ext_size s (k + 1) s.size) hs)).mono ?_
        rintro e w3 ⟨⟨v2, b2, rfl, hv2⟩, h3⟩
        obtain rfl := h3
        rw [ext_drop] at hv2
        have HV2 := hidS hv2
        clear hv2
        have HRR : Hid (R = if b = true ∧ b2 = true ∧ shw v v2 = s.data.toList then (v, v2, true) else (0, 0, false)) := by
          show _ = _
          have e := spec_cut hN.out HV.out HV2.out
          rw [← HC.out] at e
          rw [HR.out]
          exact e
        clear HV HV2 hN HR HC
        replace m0 := frz_rd (p := ⟨Z2, 1, none⟩) (u := .int .i64 v2) m0
        replace m1 := frz_rd (p := ⟨Z2, 1, none⟩) (u := .int .i64 v2) m1
        replace l0 := cell_stb (u := .int .i64 v2) (q := 1) l0 hne
        replace l1 := cell_stb (u := .int .i64 v2) (q := 1) l1 hne
        replace HB2 := hidS (HB2.out.setCell (p := ⟨Z2, 1, none⟩) HZ2.out (.int .i64 v2))
        have E1 := e1
        obtain ⟨e0, e1⟩ := new2 (n := .int .i64 v) (d := .int .i64 v2) d0 d1
        cases b with
        | false =>
          obtain rfl : R = (0, 0, false) := by rw [HRR.out]; simp
          obtain ⟨z0, z1⟩ := new2 (n := .int .i64 0) (d := .int .i64 0) l0 l1
          go_wp2
          exact bodyPost_ret (v := .tuple #[.agg #[.int .i64 0, .int .i64 0], .bool false]) (by simp [results, Tryd.results9, go_sem, z0, z1]) rfl ⟨rfl, (HB2.out.setCell HZ.out _).setCell HZ.out _⟩
        | true =>
          cases b2 with
          | false =>
            obtain rfl : R = (0, 0, false) := by rw [HRR.out]; simp
            obtain ⟨z0, z1⟩ := new2 (n := .int .i64 0) (d := .int .i64 0) l0 l1
            go_wp2
            exact bodyPost_ret (v := .tuple #[.agg #[.int .i64 0, .int .i64 0], .bool false]) (by simp [results, Tryd.results9, go_sem, z0, z1]) rfl ⟨rfl, (HB2.out.setCell HZ.out _).setCell HZ.out _⟩
          | true =>
            go_wp2_with fail
            refine (HS.out v v2 _).mono ?_
            rintro e w5 ⟨rfl, hb⟩
            replace m0 := frozen_later hb l0 m0
            replace m1 := frozen_later hb l1 m1
            replace l0 := cell_later hb l0
            replace l1 := cell_later hb l1
            replace e0 := cell_later hb e0
            replace e1 := cell_later hb e1
            replace HB2 := hidS (HB2.out.trans (hb.mono HB2.out.size))
            clear hb
            obtain ⟨S, hS⟩ : ∃ S, S = shw v v2 := ⟨_, rfl⟩
            rw [← hS]
            rw [← hS, ← ByteArray.toList_eq] at HRR
            clear hS
            by_cases hq : S = s.toList
            · obtain rfl : R = (v, v2, true) := by rw [HRR.out]; simp [hq]
              have hq2 : (S == s.toList) = true := by simp [hq]
              obtain ⟨z0, z1⟩ := new2 (n := .int .i64 v) (d := .int .i64 v2) l0 l1
              clear hq
              go_wp2
              exact bodyPost_ret (v := .tuple #[.agg #[.int .i64 v, .int .i64 v2], .bool true]) (by simp [results, Tryd.results9, go_sem, z0, z1]) rfl ⟨rfl, (HB2.out.setCell HZ.out _).setCell HZ.out _⟩
            · obtain rfl : R = (0, 0, false) := by rw [HRR.out]; simp [hq]
              have hq2 : (S == s.toList) = false := by simpa using hq
              obtain ⟨z0, z1⟩ := new2 (n := .int .i64 0) (d := .int .i64 0) l0 l1
              clear hq
              go_wp2
              exact bodyPost_ret (v := .tuple #[.agg #[.int .i64 0, .int .i64 0], .bool false]) (by simp [results, Tryd.results9, go_sem, z0, z1]) rfl ⟨rfl, (HB2.out.setCell HZ.out _).setCell HZ.out _⟩
      · have hcn : ((s[k]).toNat : Int) ≠ 47 := by intro e; exact hc (UInt8.toNat_inj.1 (by have : (47 : UInt8).toNat = 47 := rfl; omega))
        have HN : Hid _ := no_snoc s k hlt hN.out hc
        clear hc hN
        go_wp2
        go_round
        case rel => exact ⟨k + 1, by omega, by go_num, HN⟩
        case measure => simp [intOf]; omega
    · have hk9 : ¬ (k : Int) < s.size := by omega
      go_upto_region 5 with fail
      obtain ⟨X2, hX⟩ : ∃ X2, X2 = X.alloc (.cells #[.int .i64 0, .int .i64 1] 25) := ⟨_, rfl⟩
      obtain ⟨Z2, hZ⟩ : ∃ Z2, Z2 = X.heap.size := ⟨_, rfl⟩
      have d0 : X2.cell? ⟨Z2, 0, none⟩ = some (.int .i64 0) := by rw [hX, hZ]; simp [go_sem]
      have d1 : X2.cell? ⟨Z2, 1, none⟩ = some (.int .i64 1) := by rw [hX, hZ]; simp [go_sem]
      have g0 : X2.frozen? ⟨Z2, 0, none⟩ = false := by rw [hX, hZ]; simp [go_sem]
      have g1 : X2.frozen? ⟨Z2, 1, none⟩ = false := by rw [hX, hZ]; simp [go_sem]
      have hb : Below X.heap.size X X2 := by rw [hX]; exact b0 _ _
      have hne : Z ≠ Z2 := by have := lt_cell c0; omega
      have HZ2 : Hid (w.heap.size ≤ Z2) := by show _ ≤ _; rw [hZ]; exact HB.out.size
      replace f0 := frozen_later hb c0 f0
      replace f1 := frozen_later hb c1 f1
      replace c0 := cell_later hb c0
      replace c1 := cell_later hb c1
      replace HB := hidS (HB.out.trans (hb.mono HB.out.size))
      rw [← hX, ← hZ]
      clear hb hX hZ
      go_wp2_with fail
      refine (HD.out _ _ (Nat.le_trans (ext_size s 0 k) hs)).mono ?_
      rintro e w2 ⟨⟨v, b, rfl, hv⟩, h2⟩
      obtain rfl := h2
      rw [ext_take] at hv
      have HV := hidS hv
      clear hv
      have q0 := (new2 (n := .int .i64 v) (d := .int .i64 1) d0 d1)
      have e0 : (w2.setCell ⟨Z2, 0, none⟩ (.int .i64 v)).cell? ⟨Z2, 0, none⟩ = some (.int .i64 v) := by simp [go_sem, d0]
      have e1 : (w2.setCell ⟨Z2, 0, none⟩ (.int .i64 v)).cell? ⟨Z2, 1, none⟩ = some (.int .i64 1) := by simp [go_sem, d1]
      have k0 : (w2.setCell ⟨Z2, 0, none⟩ (.int .i64 v)).frozen? ⟨Z2, 1, none⟩ = false := by simp [go_sem, g1]
      have l0 := cell_stb (u := .int .i64 v) (q := 0) c0 hne
      have l1 := cell_stb (u := .int .i64 v) (q := 0) c1 hne
      have m0 : (w2.setCell ⟨Z2, 0, none⟩ (.int .i64 v)).frozen? ⟨Z, 0, none⟩ = false := by simp [go_sem, f0]
      have m1 : (w2.setCell ⟨Z2, 0, none⟩ (.int .i64 v)).frozen? ⟨Z, 1, none⟩ = false := by simp [go_sem, f1]
      have HB2 := hidS (HB.out.setCell (p := ⟨Z2, 0, none⟩) HZ2.out (.int .i64 v))
      clear q0
      have HRR : Hid (R = if b = true ∧ shw v 1 = s.data.toList then (v, 1, true) else (0, 0, false)) := by
        have e := HV.out
        have e2 := hN.out
        rw [List.take_of_length_le (by rw [len_s]; omega)] at e e2
        show _ = _
        rw [HR.out]
        exact spec_none e2 e
      clear HV hN HR
      cases b with
      | false =>
        obtain rfl : R = (0, 0, false) := by rw [HRR.out]; simp
        obtain ⟨z0, z1⟩ := new2 (n := .int .i64 0) (d := .int .i64 0) l0 l1
        go_wp2
        exact bodyPost_ret (v := .tuple #[.agg #[.int .i64 0, .int .i64 0], .bool false]) (by simp [results, Tryd.results9, go_sem, z0, z1]) rfl ⟨rfl, (HB2.out.setCell HZ.out _).setCell HZ.out _⟩
      | true =>
        go_wp2_with fail
        refine (HS.out v 1 _).mono ?_
        rintro e w5 ⟨rfl, hb⟩
        replace m0 := frozen_later hb l0 m0
        replace m1 := frozen_later hb l1 m1
        replace l0 := cell_later hb l0
        replace l1 := cell_later hb l1
        replace e0 := cell_later hb e0
        replace e1 := cell_later hb e1
        replace HB2 := hidS (HB2.out.trans (hb.mono HB2.out.size))
        clear hb
        obtain ⟨S, hS⟩ : ∃ S, S = shw v 1 := ⟨_, rfl⟩
        rw [← hS]
        rw [← hS, ← ByteArray.toList_eq] at HRR
        clear hS
        by_cases hq : S = s.toList
        · obtain rfl : R = (v, 1, true) := by rw [HRR.out]; simp [hq]
          have hq2 : (S == s.toList) = true := by simp [hq]
          obtain ⟨z0, z1⟩ := new2 (n := .int .i64 v) (d := .int .i64 1) l0 l1
          clear hq
          go_wp2
          exact bodyPost_ret (v := .tuple #[.agg #[.int .i64 v, .int .i64 1], .bool true]) (by simp [results, Tryd.results9, go_sem, z0, z1]) rfl ⟨rfl, (HB2.out.setCell HZ.out _).setCell HZ.out _⟩
        · obtain rfl : R = (0, 0, false) := by rw [HRR.out]; simp [hq]
          have hq2 : (S == s.toList) = false := by simpa using hq
          obtain ⟨z0, z1⟩ := new2 (n := .int .i64 0) (d := .int .i64 0) l0 l1
          clear hq
          go_wp2
          exact bodyPost_ret (v := .tuple #[.agg #[.int .i64 0, .int .i64 0], .bool false]) (by simp [results, Tryd.results9, go_sem, z0, z1]) rfl ⟨rfl, (HB2.out.setCell HZ.out _).setCell HZ.out _⟩
end Go.Proofs.YtbbkejfcheobaaaDoor
