/- Lines as the program reckons them, held together with the model: what the one has not is (0, 0) there and a flag here. -/
import Derived.Test.YthnlcgilmljliaaFitW6
import Derived.Test.YthnlcgilmljliaaBudP1
namespace Go.Proofs.Ythnlcgilmljliaa
open Go.RowKit Go.Proofs.Ythnlcgilmljliaa.RM

theorem mulZl (x : Fr) : mulP (0, 0) x = (0, 0) := mul_none (by unfold mulK opOk; rw [two_no1 okB_zero]; rfl)
theorem mulZr (x : Fr) : mulP x (0, 0) = (0, 0) := mul_none (by unfold mulK opOk; rw [two_no2 okB_zero]; rfl)
theorem addZl (x : Fr) : addP (0, 0) x = (0, 0) := add_none (add_zero_l x)
theorem addZr (x : Fr) : addP x (0, 0) = (0, 0) := add_none (add_zero_r x)
theorem sub_none {x y : Fr} (h : subK x y = false) : subP x y = (0, 0) := by unfold subP; rw [(op_zero h).1, (op_zero h).2]
theorem subZr (x : Fr) : subP x (0, 0) = (0, 0) := sub_none (sub_zero_r x)
theorem okF_zero : okF (0, 0) = false := okB_zero
theorem mul_null {p : Fr} (h : okF p = true) : mulK (0, 1) p = true ∧ mulP (0, 1) p = (0, 1) := by
  have h0 : two 0 1 p.1 p.2 = true := two_yes (okB_whole (by omega) (by omega)) h
  have e1 : (0 : Int) * p.1 = 0 := by omega
  have e2 : (1 : Int) * p.2 = p.2 := by omega
  obtain ⟨p1, p2⟩ := p
  obtain ⟨k1, k2, k3, k4, k5⟩ := okB_out h
  have hd : p2 ≠ 0 := by omega
  have hs : sg 0 p2 = p2 := by
    rw [sg_pos (by omega)]
    unfold gcdi
    simp
    omega
  have hi : redIn 0 p2 = true := redIn_mk ⟨by omega, by omega, by omega, by omega, by omega⟩
  have hb : bdB ((0 : Int).tdiv (sg 0 p2)) (p2.tdiv (sg 0 p2)) = true := by rw [hs, Int.zero_tdiv, Int.tdiv_self hd]; decide
  obtain ⟨r1, r2, r3⟩ := red_yes hi hb
  rw [hs, Int.zero_tdiv] at r2
  rw [hs, Int.tdiv_self hd] at r3
  unfold mulK mulP
  show opOk (two 0 1 p1 p2) (0 * p1) (1 * p2) = true ∧ (opN (two 0 1 p1 p2) (0 * p1) (1 * p2), opD (two 0 1 p1 p2) (0 * p1) (1 * p2)) = (0, 1)
  rw [h0, e1, e2, (op_yes _ _).1, (op_yes _ _).2.1, (op_yes _ _).2.2, r1, r2, r3]
  exact ⟨rfl, rfl⟩
theorem mul_unit {p : Fr} (h : okF p = true) : mulP p (1, 1) = p := by
  have h0 : two p.1 p.2 1 1 = true := two_yes h (okB_whole (by omega) (by omega))
  obtain ⟨r1, r2, r3⟩ := red_self (show okB p.1 p.2 = true from h)
  unfold mulP
  show (opN (two p.1 p.2 1 1) (p.1 * 1) (p.2 * 1), opD (two p.1 p.2 1 1) (p.1 * 1) (p.2 * 1)) = p
  rw [h0, Int.mul_one, Int.mul_one, (op_yes _ _).1, (op_yes _ _).2.1, r2, r3]

/-- what the program and the model have of a fraction: it is none there where the flag is up here -/
def RelZ (p : Fr) (m : Fr × Bool) : Prop := (m.2 = true ∧ p = (0, 0)) ∨ (m.2 = false ∧ p = m.1)
theorem RelZ.mul {x y a b : Fr} {f : Bool} (h : (f = true ∧ (x = (0, 0) ∨ y = (0, 0))) ∨ (f = false ∧ x = a ∧ y = b)) : RelZ (mulP x y) (p1V a b, f || !mulK a b) := by
  rcases h with ⟨rfl, h⟩ | ⟨rfl, rfl, rfl⟩
  · refine .inl ⟨rfl, ?_⟩
    rcases h with rfl | rfl
    · exact mulZl _
    · exact mulZr _
  · cases e : mulK x y
    · exact .inl ⟨rfl, mul_none e⟩
    · exact .inr ⟨rfl, (keepF_yes e).symm⟩
theorem RelZ.sub {x y b : Fr} {f : Bool} (h : (f = true ∧ y = (0, 0)) ∨ (f = false ∧ y = b)) : RelZ (subP x y) (s1V x b, f || !subK x b) := by
  rcases h with ⟨rfl, rfl⟩ | ⟨rfl, rfl⟩
  · exact .inl ⟨rfl, subZr _⟩
  · cases e : subK x y
    · exact .inl ⟨rfl, sub_none e⟩
    · exact .inr ⟨rfl, (keepF_yes e).symm⟩
theorem RelS.add {x y a b : Fr} {f : Bool} (h : (f = true ∧ (x = (0, 0) ∨ y = (0, 0))) ∨ (f = false ∧ x = a ∧ y = b)) : RelS (addP x y, addK x y) (a1V a b, f || !addK a b) := by
  rcases h with ⟨rfl, h⟩ | ⟨rfl, rfl, rfl⟩
  · refine .inl ⟨rfl, ?_⟩
    rcases h with rfl | rfl
    · rw [addZl, add_zero_l]
    · rw [addZr, add_zero_r]
  · cases e : addK x y
    · exact .inl ⟨rfl, by rw [add_none e]⟩
    · exact .inr ⟨rfl, by rw [show a1V x y = addP x y from keepF_yes e]⟩
theorem RelS.z {p m : Fr × Bool} (h : RelS p m) : RelZ p.1 m := by
  rcases h with ⟨h1, rfl⟩ | ⟨h1, rfl⟩
  · exact .inl ⟨h1, rfl⟩
  · exact .inr ⟨h1, rfl⟩
/-- a summand more; e is reckoned behind m -/
theorem RelS.addZ {p m e : Fr × Bool} {y : Fr} (h : RelS p m) (h1 : m.2 = true → e.2 = true) (h2 : m.2 = false → RelZ y e) : RelS (addP p.1 y, addK p.1 y) (a1V m.1 e.1, e.2 || !addK m.1 e.1) := by
  refine RelS.add ?_
  rcases h with ⟨k, rfl⟩ | ⟨k, rfl⟩
  · exact .inl ⟨h1 k, .inl rfl⟩
  · rcases h2 k with ⟨e1, rfl⟩ | ⟨e1, rfl⟩
    · exact .inl ⟨e1, .inr rfl⟩
    · exact .inr ⟨e1, rfl, rfl⟩
theorem RelZ.addZ {p : Fr} {m e : Fr × Bool} {y : Fr} (h : RelZ p m) (h1 : m.2 = true → e.2 = true) (h2 : m.2 = false → RelZ y e) : RelZ (addP p y) (a1V m.1 e.1, e.2 || !addK m.1 e.1) := by
  refine RelS.z (p := (addP p y, addK p y)) (RelS.add ?_)
  rcases h with ⟨k, rfl⟩ | ⟨k, rfl⟩
  · exact .inl ⟨h1 k, .inl rfl⟩
  · rcases h2 k with ⟨e1, rfl⟩ | ⟨e1, rfl⟩
    · exact .inl ⟨e1, .inr rfl⟩
    · exact .inr ⟨e1, rfl, rfl⟩

/-- from the highest power on, as the program goes: k steps -/
def phr (cs : List Fr) (x : Fr) : Nat → Fr × Bool
  | 0 => ((0, 1), true)
  | k + 1 => (addP (mulP (phr cs x k).1 x) (fr cs (cs.length - 1 - k)), addK (mulP (phr cs x k).1 x) (fr cs (cs.length - 1 - k)))
theorem hrn_bd (cs : List Fr) (x : Fr) (bd : Bool) : ∀ k, hrnV cs x bd k = ((hrnV cs x false k).1, bd || (hrnV cs x false k).2)
  | 0 => by simp [hrnV]
  | k + 1 => by
    show hrS (hrnV cs x bd k) x _ = _
    rw [hrn_bd cs x bd k]
    simp [hrnV, hrS, Bool.or_assoc]
theorem at_bd (cs : List Fr) (x : Fr) (bd : Bool) : atV cs x bd = ((atV cs x false).1, bd || (atV cs x false).2) := hrn_bd cs x bd _
theorem phr_both {cs : List Fr} {x : Fr} (hc : 1 ≤ cs.length) (ho : allOk cs = true) (hx : okF x = true) : ∀ k, RelS (phr cs x (k + 1)) (hrnV cs x false k)
  | 0 => by
    refine .inr ⟨rfl, ?_⟩
    show (addP (mulP (0, 1) x) (fr cs (cs.length - 1 - 0)), addK (mulP (0, 1) x) (fr cs (cs.length - 1 - 0))) = (fr cs (cs.length - 1), true)
    have hl : okF (fr cs (cs.length - 1)) = true := allOk_at ho (by omega)
    rw [(mul_null hx).2, Nat.sub_zero, (add_null hl).1, (add_null hl).2]
  | k + 1 => by
    have ih := phr_both hc ho hx k
    have e : cs.length - 1 - (k + 1) = cs.length - 2 - k := by omega
    show RelS (addP (mulP (phr cs x (k + 1)).1 x) (fr cs (cs.length - 1 - (k + 1))), addK (mulP (phr cs x (k + 1)).1 x) (fr cs (cs.length - 1 - (k + 1)))) (hrS (hrnV cs x false k) x (fr cs (cs.length - 2 - k)))
    rw [e]
    refine RelS.add ?_
    have hm : RelZ (mulP (phr cs x (k + 1)).1 x) (p1V (hrnV cs x false k).1 x, (hrnV cs x false k).2 || !mulK (hrnV cs x false k).1 x) := by
      refine RelZ.mul ?_
      rcases ih.z with ⟨h1, h2⟩ | ⟨h1, h2⟩
      · exact .inl ⟨h1, .inl h2⟩
      · exact .inr ⟨h1, h2, rfl⟩
    rcases hm with ⟨h1, h2⟩ | ⟨h1, h2⟩
    · exact .inl ⟨h1, .inl h2⟩
    · exact .inr ⟨h1, h2, rfl⟩
/-- what CurveAt answers, as the program goes -/
theorem crv_both (cs : List Fr) (x : Fr) (h : crvB cs = true) (hx : okB x.1 x.2 = true) : phr cs x cs.length = (crvA cs x, crvO cs x) := by
  obtain ⟨⟨h1, _⟩, ho⟩ := crvB_out h
  have hb := phr_both h1 ho (show okF x = true from hx) (cs.length - 1)
  rw [show cs.length - 1 + 1 = cs.length by omega] at hb
  have hO : crvO cs x = !(atV cs x false).2 := by unfold crvO; rw [h, hx]; simp
  rcases hb with ⟨k1, k2⟩ | ⟨k1, k2⟩
  · have : crvO cs x = false := by rw [hO]; show (!(hrnV cs x false (cs.length - 1)).2) = false; rw [k1]; rfl
    rw [crvA_no this, this, k2]
  · have : crvO cs x = true := by rw [hO]; show (!(hrnV cs x false (cs.length - 1)).2) = true; rw [k1]; rfl
    rw [crvA_yes this, this, k2]; rfl
theorem crvA_z {cs : List Fr} {x : Fr} (h : crvB cs = true) (hx : okB x.1 x.2 = true) : RelZ (crvA cs x) (atV cs x false) := by
  have hO : crvO cs x = !(atV cs x false).2 := by unfold crvO; rw [h, hx]; simp
  cases e : (atV cs x false).2
  · rw [e] at hO; exact .inr ⟨e, crvA_yes hO⟩
  · rw [e] at hO; exact .inl ⟨e, crvA_no hO⟩

/-- y less what the curve has at x -/
def abv (cs : List Fr) (t : Sp) : Fr := subP t.2 (crvA cs t.1)
theorem dif_bd (cs : List Fr) (t : Sp) (bd : Bool) : difV cs t bd = ((difV cs t false).1, bd || (difV cs t false).2) := by
  unfold difV
  rw [at_bd cs t.1 bd]
  simp [Bool.or_assoc]
theorem abv_z {cs : List Fr} {t : Sp} (h : crvB cs = true) (ht : okB t.1.1 t.1.2 = true) : RelZ (abv cs t) (difV cs t false) := by
  unfold abv difV
  exact RelZ.sub (crvA_z h ht)
/-- the sum of squares -/
def sqF (cs : List Fr) (ss : List Sp) (j : Nat) : Fr := mulP (abv cs (sp ss j)) (abv cs (sp ss j))
theorem two1 {a b c d : Int} (h : two a b c d = true) : okB a b = true := by unfold two at h; rw [Bool.and_eq_true] at h; exact h.1
theorem two2 {a b c d : Int} (h : two a b c d = true) : okB c d = true := by unfold two at h; rw [Bool.and_eq_true] at h; exact h.2
theorem mis_both {cs : List Fr} {ss : List Sp} (h : crvB cs = true) (hs : sptB ss = true) : ∀ k, k ≤ ss.length → RelS (pfold (sqF cs ss) k) (misV cs ss k)
  | 0, _ => .inr ⟨rfl, rfl⟩
  | k + 1, hk => by
    have ih := mis_both h hs k (by omega)
    have ht := two1 ((sptB_out hs).2 k (by omega))
    show RelS (addP (pfold (sqF cs ss) k).1 (sqF cs ss k), addK (pfold (sqF cs ss) k).1 (sqF cs ss k)) (sqS (misV cs ss k).1 (difV cs (sp ss k) (misV cs ss k).2))
    refine RelS.addZ (m := misV cs ss k) (e := (p1V (difV cs (sp ss k) (misV cs ss k).2).1 (difV cs (sp ss k) (misV cs ss k).2).1, (difV cs (sp ss k) (misV cs ss k).2).2 || !mulK (difV cs (sp ss k) (misV cs ss k).2).1 (difV cs (sp ss k) (misV cs ss k).2).1)) ih (fun e => ?_) (fun e => ?_)
    · rw [dif_bd, e]; simp
    · rw [e]
      refine RelZ.mul ?_
      rcases abv_z h ht with ⟨k1, k2⟩ | ⟨k1, k2⟩
      · exact .inl ⟨k1, .inl k2⟩
      · exact .inr ⟨k1, k2, k2⟩
/-- what Miss answers, as the program goes -/
theorem mis_all {cs : List Fr} {ss : List Sp} (h : crvB cs = true) (hs : sptB ss = true) : pfold (sqF cs ss) ss.length = (misA cs ss, misO cs ss) := by
  have hO : misO cs ss = !(misV cs ss ss.length).2 := by unfold misO; rw [h, hs]; simp
  rcases mis_both h hs ss.length (Nat.le_refl _) with ⟨k1, k2⟩ | ⟨k1, k2⟩
  · rw [k1] at hO; rw [misA_no hO, hO, k2]; rfl
  · rw [k1] at hO; rw [misA_yes hO, hO, k2]; rfl

/-- the powers as the program tells them -/
def powP (x : Fr) : Nat → Fr
  | 0 => (1, 1)
  | k + 1 => mulP (powP x k) x
theorem pow_bd (x : Fr) (bd : Bool) : ∀ k, powV x bd k = ((powV x false k).1, bd || (powV x false k).2)
  | 0 => by simp [powV]
  | k + 1 => by
    show (p1V (powV x bd k).1 x, (powV x bd k).2 || !mulK (powV x bd k).1 x) = _
    rw [pow_bd x bd k]
    simp [powV, Bool.or_assoc]
theorem pow_z (x : Fr) : ∀ k, RelZ (powP x k) (powV x false k)
  | 0 => .inr ⟨rfl, rfl⟩
  | k + 1 => by
    refine RelZ.mul ?_
    rcases pow_z x k with ⟨h1, h2⟩ | ⟨h1, h2⟩
    · exact .inl ⟨h1, .inl h2⟩
    · exact .inr ⟨h1, h2, rfl⟩
theorem pow_ok (x : Fr) : ∀ k, (powV x false k).2 = false → okF (powV x false k).1 = true
  | 0, _ => by show okF (1, 1) = true; decide
  | k + 1, h => by
    have h' : ((powV x false k).2 || !mulK (powV x false k).1 x) = false := h
    rw [Bool.or_eq_false_iff] at h'
    have hm : mulK (powV x false k).1 x = true := by simpa using h'.2
    show okF (p1V (powV x false k).1 x) = true
    unfold p1V
    rw [keepF_yes hm]
    exact mul_right hm
/-- the program's sum of x to p times what is told, over k spots -/
def spS (f : Nat → Fr) (ss : List Sp) (p : Nat) : Nat → Fr
  | 0 => (0, 1)
  | k + 1 => addP (spS f ss p k) (mulP (powP (sp ss k).1 p) (f k))
theorem nrm_bd (cs : List Fr) (ss : List Sp) (p : Nat) (bd : Bool) : ∀ k, nrmV cs ss p bd k = ((nrmV cs ss p false k).1, bd || (nrmV cs ss p false k).2)
  | 0 => by simp [nrmV]
  | k + 1 => by
    show nrS (nrmV cs ss p bd k).1 (sp ss k).1 p (difV cs (sp ss k) (nrmV cs ss p bd k).2) = ((nrS (nrmV cs ss p false k).1 (sp ss k).1 p (difV cs (sp ss k) (nrmV cs ss p false k).2)).1, _)
    rw [nrm_bd cs ss p bd k]
    show _ = (_, bd || (nrS (nrmV cs ss p false k).1 (sp ss k).1 p (difV cs (sp ss k) (nrmV cs ss p false k).2)).2)
    unfold nrS
    dsimp only
    rw [pow_bd _ (difV cs (sp ss k) (bd || (nrmV cs ss p false k).2)).2, pow_bd _ (difV cs (sp ss k) (nrmV cs ss p false k).2).2, dif_bd cs _ (bd || (nrmV cs ss p false k).2), dif_bd cs _ (nrmV cs ss p false k).2]
    simp [Bool.or_assoc]
/-- one summand of a sum of powers -/
theorem spS_step {p : Nat} {s : Fr} {m : Fr × Bool} {x y : Fr} {d : Fr × Bool} (h : RelZ s m) (hm : m.2 = true → d.2 = true) (hd : m.2 = false → RelZ y d) : RelZ (addP s (mulP (powP x p) y)) (nrS m.1 x p d) := by
  refine RelZ.addZ (e := (p1V (powV x d.2 p).1 d.1, (powV x d.2 p).2 || !mulK (powV x d.2 p).1 d.1)) h (fun e => ?_) (fun e => ?_)
  · rw [pow_bd, hm e]; simp
  · refine RelZ.mul ?_
    rw [pow_bd]
    rcases hd e with ⟨k1, k2⟩ | ⟨k1, k2⟩
    · exact .inl ⟨by rw [k1]; rfl, .inr k2⟩
    · rw [k1]
      rcases pow_z x p with ⟨j1, j2⟩ | ⟨j1, j2⟩
      · exact .inl ⟨by rw [j1]; rfl, .inl j2⟩
      · exact .inr ⟨by rw [j1]; rfl, j2, k2⟩
theorem nrS_ok {s x : Fr} {p : Nat} {d : Fr × Bool} (h : (nrS s x p d).2 = false) : okF (nrS s x p d).1 = true := by
  unfold nrS at h ⊢
  dsimp only at h ⊢
  rw [Bool.or_eq_false_iff] at h
  have hm := h.2
  rw [Bool.not_eq_false'] at hm
  unfold a1V
  rw [keepF_yes hm]
  exact add_right hm
theorem nrm_z {cs : List Fr} {ss : List Sp} (h : crvB cs = true) (hs : sptB ss = true) (p : Nat) : ∀ k, k ≤ ss.length → RelZ (spS (fun j => abv cs (sp ss j)) ss p k) (nrmV cs ss p false k)
  | 0, _ => .inr ⟨rfl, rfl⟩
  | k + 1, hk => by
    have ih := nrm_z h hs p k (by omega)
    have ht := two1 ((sptB_out hs).2 k (by omega))
    refine spS_step ih (fun e => by rw [dif_bd, e]; rfl) (fun e => ?_)
    rw [e]
    exact abv_z h ht
theorem nrm_ok {cs : List Fr} {ss : List Sp} (p k : Nat) (h : (nrmV cs ss p false (k + 1)).2 = false) : okF (nrmV cs ss p false (k + 1)).1 = true := nrS_ok h
/-- the sums for each power below n -/
def smsL (f : Nat → Fr) (ss : List Sp) (n : Nat) : List Fr := (List.range n).map fun p => spS f ss p ss.length
theorem smsL_len (f : Nat → Fr) (ss : List Sp) (n : Nat) : (smsL f ss n).length = n := by simp [smsL]
theorem smsL_at {f : Nat → Fr} {ss : List Sp} {n p : Nat} (h : p < n) : fr (smsL f ss n) p = spS f ss p ss.length := by unfold fr smsL; simp [h]
theorem nor_list (cs : List Fr) (ss : List Sp) : ∀ n, norV cs ss n = ((List.range n).map (fun p => (nrmV cs ss p false ss.length).1), (List.range n).any (fun p => (nrmV cs ss p false ss.length).2))
  | 0 => rfl
  | n + 1 => by
    show ((norV cs ss n).1 ++ [(nrmV cs ss n (norV cs ss n).2 ss.length).1], (nrmV cs ss n (norV cs ss n).2 ss.length).2) = _
    rw [nor_list cs ss n, nrm_bd]
    simp [List.range_succ]
/-- what Normal answers, as the program goes -/
theorem nor_all {cs : List Fr} {ss : List Sp} (h : crvB cs = true) (hs : sptB ss = true) :
    rowB (smsL (fun j => abv cs (sp ss j)) ss cs.length) = norO cs ss ∧ (norO cs ss = true → smsL (fun j => abv cs (sp ss j)) ss cs.length = norA cs ss) := by
  obtain ⟨⟨c1, c2⟩, _⟩ := crvB_out h
  have hL : 1 ≤ ss.length := by have := (sptB_out hs).1.1; omega
  obtain ⟨l, hl⟩ : ∃ l, ss.length = l + 1 := ⟨ss.length - 1, by omega⟩
  have hO : norO cs ss = !(norV cs ss cs.length).2 := by unfold norO; rw [h, hs]; simp
  rw [nor_list] at hO
  dsimp only at hO
  cases e : (List.range cs.length).any (fun p => (nrmV cs ss p false ss.length).2)
  · rw [e] at hO
    have hall : ∀ p, p < cs.length → (nrmV cs ss p false ss.length).2 = false := by
      intro p hp
      have := List.any_eq_false.1 e p (List.mem_range.2 hp)
      simpa using this
    have hz : ∀ p, p < cs.length → spS (fun j => abv cs (sp ss j)) ss p ss.length = (nrmV cs ss p false ss.length).1 := by
      intro p hp
      rcases nrm_z h hs p ss.length (Nat.le_refl _) with ⟨k1, _⟩ | ⟨_, k2⟩
      · rw [hall p hp] at k1; cases k1
      · exact k2
    refine ⟨?_, fun _ => ?_⟩
    · rw [hO]
      unfold rowB
      rw [smsL_len, decide_eq_true (show 1 ≤ cs.length ∧ cs.length ≤ 6 by omega), Bool.true_and]
      refine allOk_yes fun k hk => ?_
      rw [smsL_len] at hk
      rw [smsL_at hk, hz k hk]
      have := hall k hk
      rw [hl] at this ⊢
      exact nrm_ok k l this
    · rw [norA_yes hO, nor_list]
      unfold smsL
      exact List.map_congr_left fun p hp => hz p (List.mem_range.1 hp)
  · rw [e] at hO
    refine ⟨?_, fun k => by rw [hO] at k; cases k⟩
    rw [hO]
    obtain ⟨p, hp, hq⟩ := List.any_eq_true.1 e
    rw [List.mem_range] at hp
    unfold rowB
    rw [allOk_no (k := p) (by rw [smsL_len]; exact hp) ?_, Bool.and_false]; · rfl
    rw [smsL_at hp]
    rcases nrm_z h hs p ss.length (Nat.le_refl _) with ⟨_, k2⟩ | ⟨k1, _⟩
    · rw [k2]; exact okB_zero
    · rw [show (nrmV cs ss p false ss.length).2 = true from hq] at k1; cases k1
end Go.Proofs.Ythnlcgilmljliaa
