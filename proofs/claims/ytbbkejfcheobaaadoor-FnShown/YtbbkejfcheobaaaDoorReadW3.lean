/- spec.l1Digits's walk, as far as the reading of a fraction needs it. -/
import Derived.Test.YtbbkejfcheobaaaDoorReadW2
import Derived.LoopTactic
namespace Go.Proofs.YtbbkejfcheobaaaDoor
open Go.RowKit Go.Proofs.YtbbkejfcheobaaaDoor.RM

def DigP (l : List UInt8) (v : Int) (b : Bool) : Prop := (∀ x : Int, -1000000000 ≤ x → x ≤ 1000000000 → l = Lib.itoa x → v = x ∧ b = true) ∧ (l = [] → b = false)
theorem DigP.no {l : List UInt8} (h : ∀ x : Int, -1000000000 ≤ x → x ≤ 1000000000 → l = Lib.itoa x → False) : DigP l 0 false := ⟨fun x h0 h1 e => (h x h0 h1 e).elim, fun _ => rfl⟩
def DigE (l : List UInt8) (e : Ending) : Prop := ∃ v b, e = .returned (.tuple #[.int .i64 v, .bool b]) ∧ DigP l v b
theorem DigE.mk {l : List UInt8} {v : Int} {b : Bool} (h : DigP l v b) : DigE l (.returned (.tuple #[.int .i64 v, .bool b])) := ⟨v, b, rfl, h⟩
theorem ita_n {l : List UInt8} {x : Int} (e : l = Lib.itoa x) (h : l.head? = some 45) : x < 0 ∧ l.drop 1 = Lib.decDigits x.natAbs := by
  subst e
  unfold Lib.itoa at *
  by_cases hx : x < 0
  · rw [if_pos hx]; exact ⟨hx, rfl⟩
  · rw [if_neg hx] at h
    exfalso
    have := dec_digits x.toNat 45 (List.mem_of_mem_head? (by rw [h]; rfl))
    unfold isD at this
    exact absurd this (by decide)
theorem ita_p {l : List UInt8} {x : Int} (e : l = Lib.itoa x) (h : l.head? ≠ some 45) : 0 ≤ x ∧ l.drop 0 = Lib.decDigits x.natAbs := by
  subst e
  unfold Lib.itoa at *
  by_cases hx : x < 0
  · rw [if_pos hx] at h; exact absurd rfl h
  · rw [if_neg hx]
    exact ⟨by omega, by rw [List.drop_zero, show x.toNat = x.natAbs by omega]⟩
theorem dec_len_pow : ∀ (k u : Nat), u < 10 ^ (k + 1) → (Lib.decDigits u).length ≤ k + 1
  | 0, u, h => by
    rw [dec_step, if_pos (by omega)]
    simp
  | k + 1, u, h => by
    rw [dec_step]
    by_cases hz : u / 10 = 0
    · rw [if_pos hz]; simp
    · rw [if_neg hz, List.length_append, List.length_singleton]
      have := dec_len_pow k (u / 10) (by rw [Nat.pow_succ] at h; omega)
      omega
theorem dec_head : ∀ (u : Nat) (c : UInt8) (r : List UInt8), Lib.decDigits u = c :: r → c.toNat = 48 → u = 0 := by
  intro u
  induction u using Nat.strongRecOn with
  | _ u ih =>
    intro c r h hc
    rw [dec_step] at h
    by_cases hz : u / 10 = 0
    · rw [if_pos hz] at h
      simp only [List.nil_append, List.cons.injEq] at h
      rw [← h.1, dig_toNat (by omega)] at hc
      omega
    · rw [if_neg hz] at h
      cases h2 : Lib.decDigits (u / 10) with
      | nil => exact absurd h2 (dec_ne _)
      | cons c2 r2 =>
        rw [h2, List.cons_append] at h
        have hc2 : c2 = c := by injection h
        have := ih (u / 10) (by omega) c2 r2 h2 (by rw [hc2]; exact hc)
        omega
theorem dgF_bd : ∀ (l : List UInt8) (a b k : Nat), dgF l a = some b → l.length ≤ k → b + 1 ≤ (a + 1) * 10 ^ k
  | [], a, b, k, h, hk => by
    simp only [dgF] at h
    cases h
    have := Nat.pow_pos (n := k) (show 0 < 10 by omega)
    exact Nat.le_mul_of_pos_right _ this
  | c :: r, a, b, 0, h, hk => by simp at hk
  | c :: r, a, b, k + 1, h, hk => by
    simp only [dgF] at h
    split at h
    · rename_i hc
      have := dgF_bd r _ _ k h (by simpa using hk)
      refine Nat.le_trans this ?_
      rw [Nat.pow_succ, Nat.mul_comm (10 ^ k) 10, ← Nat.mul_assoc]
      exact Nat.mul_le_mul_right _ (by omega)
    · cases h
theorem dgF_bd10 {l : List UInt8} {b : Nat} (h : dgF l 0 = some b) (hl : l.length ≤ 10) : b ≤ 9999999999 := by
  have := dgF_bd l 0 b 10 h hl
  have e : (0 + 1) * 10 ^ 10 = 10000000000 := by decide
  rw [e] at this
  omega
theorem len_s (s : ByteArray) : s.data.toList.length = s.size := by rw [Array.length_toList]; rfl
theorem head_s (s : ByteArray) (h : 0 < s.size) : s.data.toList.head? = some s[0] := by
  rw [List.head?_eq_getElem?, List.getElem?_eq_getElem (by simpa using h)]
  rfl
theorem drop_take (s : ByteArray) (i k : Nat) (hi : i ≤ k) (h : k < s.size) : (s.data.toList.drop i).take (k + 1 - i) = (s.data.toList.drop i).take (k - i) ++ [s[k]] := by
  have e : k + 1 - i = (k - i) + 1 := by omega
  have hl : k - i < (s.data.toList.drop i).length := by
    rw [List.length_drop]
    have : s.data.toList.length = s.size := len_s s
    omega
  rw [e, List.take_succ_eq_append_getElem hl]
  congr 2
  rw [List.getElem_drop]
  have e2 : i + (k - i) = k := by omega
  simp only [e2]
  rfl
theorem dgF_one {l : List UInt8} {a : Nat} {c : UInt8} (h : dgF l 0 = some a) (h1 : 48 ≤ c.toNat) (h2 : c.toNat ≤ 57) : dgF (l ++ [c]) 0 = some (a * 10 + (c.toNat - 48)) := by
  rw [dgF_app _ _ _ _ h]
  simp only [dgF]
  rw [if_pos ⟨h1, h2⟩]
theorem drop_mem (s : ByteArray) (i k : Nat) (hi : i ≤ k) (h : k < s.size) : s[k] ∈ s.data.toList.drop i := by
  have hl : k - i < (s.data.toList.drop i).length := by
    rw [List.length_drop]
    have : s.data.toList.length = s.size := len_s s
    omega
  have : (s.data.toList.drop i)[k - i] = s[k] := by
    rw [List.getElem_drop]
    have e2 : i + (k - i) = k := by omega
    simp only [e2]
    rfl
  rw [← this]
  exact List.getElem_mem _
theorem drop_cons (s : ByteArray) (i : Nat) (h : i < s.size) : ∃ r, s.data.toList.drop i = s[i] :: r := by
  have hl : i < s.data.toList.length := by rw [len_s]; exact h
  exact ⟨_, List.drop_eq_getElem_cons hl⟩
theorem ita_len {l : List UInt8} {u i : Nat} (hu : u ≤ 1000000000) (h : l.drop i = Lib.decDigits u) : 1 ≤ l.length - i ∧ l.length - i ≤ 10 := by
  have h1 := dec_len_pow 9 u (Nat.lt_of_le_of_lt hu (by decide))
  have h2 : (Lib.decDigits u).length ≠ 0 := fun e => dec_ne u (List.eq_nil_of_length_eq_zero e)
  rw [← h, List.length_drop] at h1 h2
  omega

set_option maxRecDepth 100000 in
set_option maxHeartbeats 1000000 in
theorem dig_any (s : ByteArray) (w : World) (hs : s.size ≤ 1048576) :
    Calls Tryd.prog 21 #[.string s, .int .i64 10] w fun e w' => DigE s.data.toList e ∧ w' = w := by
  obtain ⟨l, hl⟩ : ∃ l, l = s.data.toList := ⟨_, rfl⟩
  have HL : Hid (l = s.data.toList) := hl
  have hll : l.length = s.size := by rw [hl]; exact len_s s
  rw [← hl]
  by_cases h0 : s.size = 0
  · have hn : l = [] := List.eq_nil_of_length_eq_zero (by omega)
    have hn2 : s.toList = [] := by rw [ByteArray.toList_eq, ← hl]; exact hn
    have hn3 : s.toList.isEmpty = true := by rw [hn2]; rfl
    have HN : Hid (DigP l 0 false) := DigP.no fun x _ _ e => itoa_ne x (by rw [← e]; exact hn)
    clear hl hn hll
    go_enter Tryd.func21, Tryd.ntmps21
    go_wp2
    go_ret2
    exact ⟨DigE.mk HN.out, rfl⟩
  · have hlt0 : 0 < s.size := by omega
    have hn2 : s.toList ≠ [] := by rw [ByteArray.toList_eq, ← hl]; intro e; rw [e] at hll; simp at hll; omega
    have hn3 : s.toList.isEmpty = false := by rw [List.isEmpty_eq_false_iff]; exact hn2
    clear hn2
    have hh := head_s s hlt0
    rw [← hl] at hh
    by_cases hc : s[0] = 45
    · have HX : Hid (∀ x : Int, l = Lib.itoa x → x < 0 ∧ l.drop 1 = Lib.decDigits x.natAbs) := fun x e => ita_n e (by rw [hh, hc])
      have h45 : ((s[0]).toNat : Int) = 45 := by rw [hc]; rfl
      clear hh
      by_cases hsz : s.size - 1 < 1 ∨ 10 < s.size - 1
      · have HN : Hid (DigP l 0 false) := DigP.no fun x hx0 hx1 e => by
          have := ita_len (i := 1) (u := x.natAbs) (by omega) (HX.out x e).2
          omega
        clear hl
        go_enter Tryd.func21, Tryd.ntmps21
        rcases hsz with hsz | hsz
        all_goals
          go_wp2
          try (go_ret2; exact ⟨DigE.mk HN.out, rfl⟩)
      · have hsz1 : 1 < s.size := by omega
        have hsz2 : s.size ≤ 10 + 1 := by omega
        have HQ : Hid (∀ (k a : Nat), 1 ≤ k → k ≤ s.size → dgF ((l.drop 1).take (k - 1)) 0 = some a → a ≤ 9999999999) := by
          intro k a hk1 hk2 h
          refine dgF_bd10 h ?_
          rw [List.length_take]
          omega
        have HT : Hid (∀ (k a : Nat) (hk : 1 ≤ k) (hk2 : k < s.size), dgF ((l.drop 1).take (k - 1)) 0 = some a → 48 ≤ (s[k]).toNat → (s[k]).toNat ≤ 57 → dgF ((l.drop 1).take (k + 1 - 1)) 0 = some (a * 10 + ((s[k]).toNat - 48))) := by
          intro k a hk hk2 h h1 h2
          rw [HL.out] at h ⊢
          rw [drop_take s 1 k hk hk2]
          exact dgF_one h h1 h2
        have HD : Hid (∀ (k : Nat) (hk : 1 ≤ k) (hk2 : k < s.size), ¬ (48 ≤ (s[k]).toNat ∧ (s[k]).toNat ≤ 57) → DigP l 0 false) := by
          intro k hk hk2 h
          refine DigP.no fun x hx0 hx1 e => h ?_
          have := drop_mem s 1 k hk hk2
          rw [← HL.out, (HX.out x e).2] at this
          exact dec_digits _ _ this
        have HZ : Hid ((s[1]).toNat = 48 → DigP l 0 false) := by
          intro h 
          refine DigP.no fun x hx0 hx1 e => ?_
          obtain ⟨hsg, hd⟩ := HX.out x e
          obtain ⟨r, hr⟩ := drop_cons s 1 hsz1
          rw [← HL.out, hd] at hr
          have hz := dec_head _ _ _ hr h
          omega
        have HV : Hid (∀ a : Nat, dgF (l.drop 1) 0 = some a → DigP l (-(a : Int)) true) := by
          intro a h
          refine ⟨fun x hx0 hx1 e => ⟨?_, rfl⟩, fun e => by rw [e] at hll; simp at hll; omega⟩
          obtain ⟨hsg, hd⟩ := HX.out x e
          rw [hd, dgF_dec] at h
          simp only [Nat.zero_mul, Nat.zero_add, Option.some.injEq] at h
          omega
        have HW : Hid (∀ k : Nat, s.size ≤ k → (l.drop 1).take (k - 1) = l.drop 1) := by
          intro k hk
          exact List.take_of_length_le (by rw [List.length_drop]; omega)
        clear hl HX hsz
        go_enter Tryd.func21, Tryd.ntmps21
        go_wp2
        go_loop [8, 9] (fun n i => ∃ k a : Nat, 1 ≤ k ∧ k ≤ s.size ∧ i = .int .i64 k ∧ n = .int .i64 a ∧ Hid (dgF ((l.drop 1).take (k - 1)) 0 = some a)) (fun _ i => s.size - (intOf i).toNat)
        case atStart => exact ⟨1, 0, by omega, by omega, rfl, rfl, by show _ = _; rw [Nat.sub_self, List.take_zero]; rfl⟩
        case round =>
          obtain ⟨k, a, hk1, hk2, rfl, rfl, hI⟩ := hrel
          have ha := HQ.out k a hk1 hk2 hI.out
          by_cases hlt : k < s.size
          · have hk3 : (k : Int) < s.size := by omega
            by_cases hdg : 48 ≤ (s[k]).toNat ∧ (s[k]).toNat ≤ 57
            · have HS : Hid _ := HT.out k a hk1 hlt hI.out hdg.1 hdg.2
              obtain ⟨g1, g2⟩ := hdg
              have wu : IntKind.u8.wrap (((s[k]).toNat : Int) - 48) = ((s[k]).toNat : Int) - 48 := by rw [IntKind.wrap_u8]; omega
              have g3 : ¬ ((s[k]).toNat : Int) < 48 := by omega
              have g4 : ¬ 57 < ((s[k]).toNat : Int) := by omega
              clear hI
              go_wp2
              all_goals
                go_round
                case rel => exact ⟨k + 1, a * 10 + ((s[k]).toNat - 48), by omega, by omega, by go_num, by go_num, HS.out⟩
                case measure => simp [intOf]; omega
            · have HN : Hid (DigP l 0 false) := HD.out k hk1 hlt hdg
              clear hI
              by_cases g1 : 48 ≤ (s[k]).toNat
              · have g3 : ¬ ((s[k]).toNat : Int) < 48 := by omega
                have g4 : 57 < ((s[k]).toNat : Int) := by omega
                go_wp2
                go_ret2
                exact ⟨DigE.mk HN.out, rfl⟩
              · have g3 : ((s[k]).toNat : Int) < 48 := by omega
                go_wp2
                go_ret2
                exact ⟨DigE.mk HN.out, rfl⟩
          · have hE : dgF (l.drop 1) 0 = some a := by rw [← HW.out k (by omega)]; exact hI.out
            have HG : Hid (DigP l (-(a : Int)) true) := HV.out a hE
            clear hE hI
            by_cases hz : (s[1]).toNat = 48
            · have hzi : ((s[1]).toNat : Int) = 48 := by omega
              have HN : Hid (DigP l 0 false) := HZ.out hz
              go_wp2
              go_ret2
              exact ⟨DigE.mk HN.out, rfl⟩
            · have hzi : ((s[1]).toNat : Int) ≠ 48 := by omega
              go_wp2
              go_ret2
              exact ⟨DigE.mk HG.out, rfl⟩
    · have HX : Hid (∀ x : Int, l = Lib.itoa x → 0 ≤ x ∧ l.drop 0 = Lib.decDigits x.natAbs) := fun x e => ita_p e (by rw [hh]; simpa using hc)
      have h45 : ((s[0]).toNat : Int) ≠ 45 := by intro e; exact hc (UInt8.toNat_inj.1 (by have : (45 : UInt8).toNat = 45 := rfl; omega))
      clear hh
      by_cases hsz : s.size - 0 < 1 ∨ 10 < s.size - 0
      · have HN : Hid (DigP l 0 false) := DigP.no fun x hx0 hx1 e => by
          have := ita_len (i := 0) (u := x.natAbs) (by omega) (HX.out x e).2
          omega
        clear hl
        go_enter Tryd.func21, Tryd.ntmps21
        rcases hsz with hsz | hsz
        all_goals
          go_wp2
          try (go_ret2; exact ⟨DigE.mk HN.out, rfl⟩)
      · have hsz1 : 0 < s.size := by omega
        have hsz2 : s.size ≤ 10 + 0 := by omega
        have HQ : Hid (∀ (k a : Nat), 0 ≤ k → k ≤ s.size → dgF ((l.drop 0).take (k - 0)) 0 = some a → a ≤ 9999999999) := by
          intro k a hk1 hk2 h
          refine dgF_bd10 h ?_
          rw [List.length_take]
          omega
        have HT : Hid (∀ (k a : Nat) (hk : 0 ≤ k) (hk2 : k < s.size), dgF ((l.drop 0).take (k - 0)) 0 = some a → 48 ≤ (s[k]).toNat → (s[k]).toNat ≤ 57 → dgF ((l.drop 0).take (k + 1 - 0)) 0 = some (a * 10 + ((s[k]).toNat - 48))) := by
          intro k a hk hk2 h h1 h2
          rw [HL.out] at h ⊢
          rw [drop_take s 0 k hk hk2]
          exact dgF_one h h1 h2
        have HD : Hid (∀ (k : Nat) (hk : 0 ≤ k) (hk2 : k < s.size), ¬ (48 ≤ (s[k]).toNat ∧ (s[k]).toNat ≤ 57) → DigP l 0 false) := by
          intro k hk hk2 h
          refine DigP.no fun x hx0 hx1 e => h ?_
          have := drop_mem s 0 k hk hk2
          rw [← HL.out, (HX.out x e).2] at this
          exact dec_digits _ _ this
        have HZ : Hid ((s[0]).toNat = 48 → 1 < s.size → DigP l 0 false) := by
          intro h h1
          refine DigP.no fun x hx0 hx1 e => ?_
          obtain ⟨hsg, hd⟩ := HX.out x e
          obtain ⟨r, hr⟩ := drop_cons s 0 hsz1
          rw [← HL.out, hd] at hr
          have hz := dec_head _ _ _ hr h
          have : (Lib.decDigits x.natAbs).length = 1 := by rw [hz, dec_step]; rfl
          rw [← hd, List.drop_zero] at this
          omega
        have HV : Hid (∀ a : Nat, dgF (l.drop 0) 0 = some a → DigP l (a : Int) true) := by
          intro a h
          refine ⟨fun x hx0 hx1 e => ⟨?_, rfl⟩, fun e => by rw [e] at hll; simp at hll; omega⟩
          obtain ⟨hsg, hd⟩ := HX.out x e
          rw [hd, dgF_dec] at h
          simp only [Nat.zero_mul, Nat.zero_add, Option.some.injEq] at h
          omega
        have HW : Hid (∀ k : Nat, s.size ≤ k → (l.drop 0).take (k - 0) = l.drop 0) := by
          intro k hk
          exact List.take_of_length_le (by rw [List.length_drop]; omega)
        clear hl HX hsz
        go_enter Tryd.func21, Tryd.ntmps21
        go_wp2
        go_loop [8, 9] (fun n i => ∃ k a : Nat, 0 ≤ k ∧ k ≤ s.size ∧ i = .int .i64 k ∧ n = .int .i64 a ∧ Hid (dgF ((l.drop 0).take (k - 0)) 0 = some a)) (fun _ i => s.size - (intOf i).toNat)
        case atStart => exact ⟨0, 0, by omega, by omega, rfl, rfl, by show _ = _; rw [Nat.sub_self, List.take_zero]; rfl⟩
        case round =>
          obtain ⟨k, a, hk1, hk2, rfl, rfl, hI⟩ := hrel
          have ha := HQ.out k a hk1 hk2 hI.out
          by_cases hlt : k < s.size
          · have hk3 : (k : Int) < s.size := by omega
            by_cases hdg : 48 ≤ (s[k]).toNat ∧ (s[k]).toNat ≤ 57
            · have HS : Hid _ := HT.out k a hk1 hlt hI.out hdg.1 hdg.2
              obtain ⟨g1, g2⟩ := hdg
              have wu : IntKind.u8.wrap (((s[k]).toNat : Int) - 48) = ((s[k]).toNat : Int) - 48 := by rw [IntKind.wrap_u8]; omega
              have g3 : ¬ ((s[k]).toNat : Int) < 48 := by omega
              have g4 : ¬ 57 < ((s[k]).toNat : Int) := by omega
              clear hI
              go_wp2
              all_goals
                go_round
                case rel => exact ⟨k + 1, a * 10 + ((s[k]).toNat - 48), by omega, by omega, by go_num, by go_num, HS.out⟩
                case measure => simp [intOf]; omega
            · have HN : Hid (DigP l 0 false) := HD.out k hk1 hlt hdg
              clear hI
              by_cases g1 : 48 ≤ (s[k]).toNat
              · have g3 : ¬ ((s[k]).toNat : Int) < 48 := by omega
                have g4 : 57 < ((s[k]).toNat : Int) := by omega
                go_wp2
                go_ret2
                exact ⟨DigE.mk HN.out, rfl⟩
              · have g3 : ((s[k]).toNat : Int) < 48 := by omega
                go_wp2
                go_ret2
                exact ⟨DigE.mk HN.out, rfl⟩
          · have hE : dgF (l.drop 0) 0 = some a := by rw [← HW.out k (by omega)]; exact hI.out
            have HG : Hid (DigP l (a : Int) true) := HV.out a hE
            clear hE hI
            by_cases hz : (s[0]).toNat = 48
            · have hzi : ((s[0]).toNat : Int) = 48 := by omega
              by_cases h1 : 1 < s.size
              · have HN : Hid (DigP l 0 false) := HZ.out hz h1
                go_wp2
                go_ret2
                exact ⟨DigE.mk HN.out, rfl⟩
              · go_wp2
                go_ret2
                exact ⟨DigE.mk HG.out, rfl⟩
            · have hzi : ((s[0]).toNat : Int) ≠ 48 := by omega
              go_wp2
              go_ret2
              exact ⟨DigE.mk HG.out, rfl⟩
end Go.Proofs.YtbbkejfcheobaaaDoor
