/- What joins: weights are products, means and variances go with sums, and it is the same both ways. -/
import Derived.Test.YtgboaeokbglgdaaJoinMath
import Derived.Test.YtgboaeokbglgdaaPk1
namespace Go.Proofs.Ytgboaeokbglgdaa
open Go.Proofs.Ytgboaeokbglgdaa.RM

/-- a sum over the points of a list -/
def sL (f : Int → Int) : List Fr → Int
  | [] => 0
  | p :: r => p.2 * f p.1 + sL f r
def sI (g : Nat → Int) : Nat → Int
  | 0 => 0
  | n + 1 => sI g n + g n
theorem sL_ins (f : Int → Int) {x : Fr} : ∀ {l : List Fr}, sL f (insP l x) = sL f l + x.2 * f x.1
  | [] => by show x.2 * f x.1 + 0 = 0 + x.2 * f x.1; omega
  | p :: r => by
    have ih := sL_ins f (x := x) (l := r)
    show sL f (if p.1 < x.1 then p :: insP r x else if p.1 = x.1 then (p.1, p.2 + x.2) :: r else x :: p :: r) = p.2 * f p.1 + sL f r + x.2 * f x.1
    split
    · show p.2 * f p.1 + sL f (insP r x) = _
      rw [ih]; omega
    · split
      · rename_i c
        show (p.2 + x.2) * f p.1 + sL f r = _
        rw [c, Int.add_mul]; omega
      · show x.2 * f x.1 + (p.2 * f p.1 + sL f r) = _
        omega
theorem sI_congr {g h : Nat → Int} : ∀ {n : Nat}, (∀ i, i < n → g i = h i) → sI g n = sI h n
  | 0, _ => rfl
  | n + 1, k => by show sI g n + g n = sI h n + h n; rw [sI_congr fun i hi => k i (by omega), k n (by omega)]
theorem sI_add (g h : Nat → Int) : ∀ n, sI (fun i => g i + h i) n = sI g n + sI h n
  | 0 => rfl
  | n + 1 => by show sI _ n + (g n + h n) = (sI g n + g n) + (sI h n + h n); rw [sI_add g h n]; omega
theorem sI_zero : ∀ n, sI (fun _ => 0) n = 0
  | 0 => rfl
  | n + 1 => by show sI _ n + 0 = 0; rw [sI_zero n]; rfl
theorem sI_swap (g : Nat → Nat → Int) (m : Nat) : ∀ n, sI (fun i => sI (fun k => g i k) m) n = sI (fun k => sI (fun i => g i k) n) m
  | 0 => (sI_zero m).symm
  | n + 1 => by
    show sI (fun i => sI (fun k => g i k) m) n + sI (fun k => g n k) m = sI (fun k => sI (fun i => g i k) n + g n k) m
    rw [sI_swap g m n, sI_add]
theorem sI_shift (g : Nat → Int) : ∀ n, sI g (n + 1) = g 0 + sI (fun j => g (j + 1)) n
  | 0 => by show 0 + g 0 = g 0 + 0; omega
  | n + 1 => by
    have ih := sI_shift g n
    show sI g (n + 1) + g (n + 1) = g 0 + (sI (fun j => g (j + 1)) n + g (n + 1))
    rw [ih]; omega
theorem sL_sI (f : Int → Int) : ∀ ps : List Fr, sL f ps = sI (fun j => (fr ps j).2 * f (fr ps j).1) ps.length
  | [] => rfl
  | p :: r => by
    show p.2 * f p.1 + sL f r = sI (fun j => (fr (p :: r) j).2 * f (fr (p :: r) j).1) (r.length + 1)
    rw [sI_shift, sL_sI f r]
    rfl
theorem jnI_sL (f : Int → Int) (us vs : List Fr) (i : Nat) (s : List Fr) : ∀ k, sL f (jnI us vs i s k) = sL f s + sI (fun k => (sumP us vs i k).2 * f (sumP us vs i k).1) k
  | 0 => by show sL f s = sL f s + 0; omega
  | k + 1 => by
    have ih := jnI_sL f us vs i s k
    show sL f (insP (jnI us vs i s k) (sumP us vs i k)) = sL f s + (sI _ k + _)
    rw [sL_ins, ih, Int.add_assoc]
theorem jnO_sL (f : Int → Int) (us vs : List Fr) : ∀ n, sL f (jnO us vs n) = sI (fun i => sI (fun k => (sumP us vs i k).2 * f (sumP us vs i k).1) vs.length) n
  | 0 => rfl
  | n + 1 => by
    show sL f (jnI us vs n (jnO us vs n) vs.length) = sI _ n + _
    rw [jnI_sL, jnO_sL f us vs n]
theorem wt_sI (ps : List Fr) : ∀ n, wtS ps n = sI (fun j => (fr ps j).2) n
  | 0 => rfl
  | n + 1 => by show wtS ps n + _ = sI _ n + _; rw [wt_sI ps n]
theorem m1_sI (ps : List Fr) : ∀ n, momS ps 1 n = sI (fun j => (fr ps j).2 * (fr ps j).1) n
  | 0 => rfl
  | n + 1 => by show momS ps 1 n + _ = sI _ n + _; rw [m1_sI ps n]; rfl
theorem m2_sI (ps : List Fr) : ∀ n, momS ps 2 n = sI (fun j => (fr ps j).2 * (fr ps j).1 * (fr ps j).1) n
  | 0 => rfl
  | n + 1 => by show momS ps 2 n + _ = sI _ n + _; rw [m2_sI ps n]; rfl
theorem wt_sL (ps : List Fr) : wtS ps ps.length = sL (fun _ => 1) ps := by
  rw [wt_sI, sL_sI]; exact sI_congr fun i _ => by rw [Int.mul_one]
theorem m1_sL (ps : List Fr) : momS ps 1 ps.length = sL (fun x => x) ps := by
  rw [m1_sI, sL_sI]
theorem m2_sL (ps : List Fr) : momS ps 2 ps.length = sL (fun x => x * x) ps := by
  rw [m2_sI, sL_sI]; exact sI_congr fun i _ => by rw [Int.mul_assoc]
theorem in0 (w : Int) (vs : List Fr) : ∀ n, sI (fun k => w * (fr vs k).2) n = w * wtS vs n
  | 0 => by show (0 : Int) = w * 0; omega
  | n + 1 => by
    have ih := in0 w vs n
    show sI (fun k => w * (fr vs k).2) n + w * (fr vs n).2 = w * (wtS vs n + (fr vs n).2)
    rw [ih]; grind
theorem in1 (w x : Int) (vs : List Fr) : ∀ n, sI (fun k => w * (fr vs k).2 * (x + (fr vs k).1)) n = w * x * wtS vs n + w * momS vs 1 n
  | 0 => by show (0 : Int) = w * x * 0 + w * 0; omega
  | n + 1 => by
    have ih := in1 w x vs n
    show sI (fun k => w * (fr vs k).2 * (x + (fr vs k).1)) n + w * (fr vs n).2 * (x + (fr vs n).1) = w * x * (wtS vs n + (fr vs n).2) + w * (momS vs 1 n + (fr vs n).2 * (fr vs n).1)
    rw [ih]; grind
theorem in2 (w x : Int) (vs : List Fr) : ∀ n, sI (fun k => w * (fr vs k).2 * ((x + (fr vs k).1) * (x + (fr vs k).1))) n = w * x * x * wtS vs n + 2 * (w * x) * momS vs 1 n + w * momS vs 2 n
  | 0 => by show (0 : Int) = w * x * x * 0 + 2 * (w * x) * 0 + w * 0; omega
  | n + 1 => by
    have ih := in2 w x vs n
    show sI (fun k => w * (fr vs k).2 * ((x + (fr vs k).1) * (x + (fr vs k).1))) n + w * (fr vs n).2 * ((x + (fr vs n).1) * (x + (fr vs n).1)) = w * x * x * (wtS vs n + (fr vs n).2) + 2 * (w * x) * (momS vs 1 n + (fr vs n).2 * (fr vs n).1) + w * (momS vs 2 n + (fr vs n).2 * (fr vs n).1 * (fr vs n).1)
    rw [ih]; grind
theorem out0 (us : List Fr) (B : Int) : ∀ n, sI (fun i => (fr us i).2 * B) n = wtS us n * B
  | 0 => by show (0 : Int) = 0 * B; omega
  | n + 1 => by
    have ih := out0 us B n
    show sI (fun i => (fr us i).2 * B) n + (fr us n).2 * B = (wtS us n + (fr us n).2) * B
    rw [ih]; grind
theorem out1 (us : List Fr) (B C : Int) : ∀ n, sI (fun i => (fr us i).2 * (fr us i).1 * B + (fr us i).2 * C) n = momS us 1 n * B + wtS us n * C
  | 0 => by show (0 : Int) = 0 * B + 0 * C; omega
  | n + 1 => by
    have ih := out1 us B C n
    show sI (fun i => (fr us i).2 * (fr us i).1 * B + (fr us i).2 * C) n + ((fr us n).2 * (fr us n).1 * B + (fr us n).2 * C) = (momS us 1 n + (fr us n).2 * (fr us n).1) * B + (wtS us n + (fr us n).2) * C
    rw [ih]; grind
theorem out2 (us : List Fr) (B C D : Int) : ∀ n, sI (fun i => (fr us i).2 * (fr us i).1 * (fr us i).1 * B + 2 * ((fr us i).2 * (fr us i).1) * C + (fr us i).2 * D) n = momS us 2 n * B + 2 * momS us 1 n * C + wtS us n * D
  | 0 => by show (0 : Int) = 0 * B + 2 * 0 * C + 0 * D; omega
  | n + 1 => by
    have ih := out2 us B C D n
    show sI (fun i => (fr us i).2 * (fr us i).1 * (fr us i).1 * B + 2 * ((fr us i).2 * (fr us i).1) * C + (fr us i).2 * D) n + ((fr us n).2 * (fr us n).1 * (fr us n).1 * B + 2 * ((fr us n).2 * (fr us n).1) * C + (fr us n).2 * D) = (momS us 2 n + (fr us n).2 * (fr us n).1 * (fr us n).1) * B + 2 * (momS us 1 n + (fr us n).2 * (fr us n).1) * C + (wtS us n + (fr us n).2) * D
    rw [ih]; grind
/-- weights are products -/
theorem jn_wt (us vs : List Fr) : wtS (jnO us vs us.length) (jnO us vs us.length).length = wtS us us.length * wtS vs vs.length := by
  rw [wt_sL, jnO_sL]
  have h : ∀ i, i < us.length → sI (fun k => (sumP us vs i k).2 * 1) vs.length = (fr us i).2 * wtS vs vs.length := fun i _ => by
    rw [← in0]; exact sI_congr fun k _ => by rw [Int.mul_one]; rfl
  rw [sI_congr h, out0]
theorem jn_m1 (us vs : List Fr) : momS (jnO us vs us.length) 1 (jnO us vs us.length).length = momS us 1 us.length * wtS vs vs.length + wtS us us.length * momS vs 1 vs.length := by
  rw [m1_sL, jnO_sL]
  have h : ∀ i, i < us.length → sI (fun k => (sumP us vs i k).2 * (sumP us vs i k).1) vs.length = (fr us i).2 * (fr us i).1 * wtS vs vs.length + (fr us i).2 * momS vs 1 vs.length := fun i _ => by
    rw [← in1]; exact sI_congr fun k _ => rfl
  rw [sI_congr h, out1]
theorem jn_m2 (us vs : List Fr) : momS (jnO us vs us.length) 2 (jnO us vs us.length).length = momS us 2 us.length * wtS vs vs.length + 2 * momS us 1 us.length * momS vs 1 vs.length + wtS us us.length * momS vs 2 vs.length := by
  rw [m2_sL, jnO_sL]
  have h : ∀ i, i < us.length → sI (fun k => (sumP us vs i k).2 * ((sumP us vs i k).1 * (sumP us vs i k).1)) vs.length = (fr us i).2 * (fr us i).1 * (fr us i).1 * wtS vs vs.length + 2 * ((fr us i).2 * (fr us i).1) * momS vs 1 vs.length + (fr us i).2 * momS vs 2 vs.length := fun i _ => by
    rw [← in2]; exact sI_congr fun k _ => rfl
  rw [sI_congr h, out2]
/-- it is the same both ways, summed -/
theorem jn_swap (f : Int → Int) (us vs : List Fr) : sL f (jnO us vs us.length) = sL f (jnO vs us vs.length) := by
  rw [jnO_sL, jnO_sL, sI_swap]
  refine sI_congr fun k _ => sI_congr fun i _ => ?_
  show (fr us i).2 * (fr vs k).2 * f ((fr us i).1 + (fr vs k).1) = (fr vs k).2 * (fr us i).2 * f ((fr vs k).1 + (fr us i).1)
  rw [Int.mul_comm (fr us i).2, Int.add_comm (fr us i).1]
/-- each has weight -/
def wpos (l : List Fr) : Prop := ∀ p ∈ l, 1 ≤ p.2
theorem insP_wpos {x : Fr} (hx : 1 ≤ x.2) : ∀ {l : List Fr}, wpos l → wpos (insP l x)
  | [], _ => fun p hp => by have := List.mem_singleton.1 hp; subst this; exact hx
  | q :: r, h => by
    have hq := h q (List.mem_cons_self ..)
    have hr : wpos r := fun p hp => h p (List.mem_cons_of_mem _ hp)
    show wpos (if q.1 < x.1 then q :: insP r x else if q.1 = x.1 then (q.1, q.2 + x.2) :: r else x :: q :: r)
    split
    · intro p hp
      rcases List.mem_cons.1 hp with e | e
      · subst e; exact hq
      · exact insP_wpos hx hr p e
    · split
      · intro p hp
        rcases List.mem_cons.1 hp with e | e
        · subst e; show 1 ≤ q.2 + x.2; omega
        · exact hr p e
      · intro p hp
        rcases List.mem_cons.1 hp with e | e
        · subst e; exact hx
        · exact h p e
theorem jnI_wpos {us vs : List Fr} {i : Nat} {s : List Fr} (ha : ptP us i) (hs : wpos s) : ∀ {k : Nat}, (∀ j, j < k → ptP vs j) → wpos (jnI us vs i s k)
  | 0, _ => hs
  | k + 1, h => by
    refine insP_wpos ?_ (jnI_wpos ha hs fun j hj => h j (by omega))
    have h1 := Int.mul_le_mul ha.2.1.1 (h k (by omega)).2.1.1 (by omega) (by have := ha.2.1.1; omega)
    show 1 ≤ (fr us i).2 * (fr vs k).2
    omega
theorem jnO_wpos {us vs : List Fr} (hb : ∀ j, j < vs.length → ptP vs j) : ∀ {n : Nat}, (∀ j, j < n → ptP us j) → wpos (jnO us vs n)
  | 0, _ => fun p hp => (by cases hp)
  | n + 1, h => jnI_wpos (h n (by omega)) (jnO_wpos hb fun j hj => h j (by omega)) hb
/-- the weight at a place -/
def cntL (t : Int) (l : List Fr) : Int := sL (fun x => if x = t then 1 else 0) l
theorem cnt_cons (t : Int) (p : Fr) (r : List Fr) : cntL t (p :: r) = (if p.1 = t then p.2 else 0) + cntL t r := by
  show p.2 * (if p.1 = t then 1 else 0) + cntL t r = _
  split
  · rw [Int.mul_one]
  · rw [Int.mul_zero]
theorem cnt_none {t : Int} : ∀ {l : List Fr}, (∀ p ∈ l, p.1 ≠ t) → cntL t l = 0
  | [], _ => rfl
  | p :: r, h => by rw [cnt_cons, if_neg (h p (List.mem_cons_self ..)), cnt_none fun q hq => h q (List.mem_cons_of_mem _ hq)]; rfl
theorem cnt_nn {t : Int} : ∀ {l : List Fr}, wpos l → 0 ≤ cntL t l
  | [], _ => Int.le_refl _
  | p :: r, h => by
    have h1 := h p (List.mem_cons_self ..)
    have h2 := cnt_nn (t := t) (l := r) fun q hq => h q (List.mem_cons_of_mem _ hq)
    rw [cnt_cons]
    split <;> omega
/-- two rising lists that weigh the same everywhere are one -/
theorem rising_cnt {l : List Fr} : ∀ {l' : List Fr}, rising l → rising l' → wpos l → wpos l' → (∀ t, cntL t l = cntL t l') → l = l' := by
  induction l with
  | nil =>
    intro l' _ _ _ w2 h
    cases l' with
    | nil => rfl
    | cons q s =>
      have h1 := h q.1
      have h2 := w2 q (List.mem_cons_self ..)
      have h3 := cnt_nn (t := q.1) (l := s) fun p hp => w2 p (List.mem_cons_of_mem _ hp)
      rw [cnt_cons, if_pos rfl] at h1
      have h4 : cntL q.1 [] = 0 := rfl
      omega
  | cons p r ih =>
    intro l' r1 r2 w1 w2 h
    have p1 := w1 p (List.mem_cons_self ..)
    have wr : wpos r := fun x hx => w1 x (List.mem_cons_of_mem _ hx)
    have a1 := List.pairwise_cons.1 r1
    cases l' with
    | nil =>
      have h1 := h p.1
      have h3 := cnt_nn (t := p.1) wr
      rw [cnt_cons, if_pos rfl] at h1
      have h4 : cntL p.1 [] = 0 := rfl
      omega
    | cons q s =>
      have q1 := w2 q (List.mem_cons_self ..)
      have ws : wpos s := fun x hx => w2 x (List.mem_cons_of_mem _ hx)
      have a2 := List.pairwise_cons.1 r2
      have z1 : ∀ t, t ≤ p.1 → cntL t r = 0 := fun t ht => cnt_none fun x hx => by have := a1.1 x hx; omega
      have z2 : ∀ t, t ≤ q.1 → cntL t s = 0 := fun t ht => cnt_none fun x hx => by have := a2.1 x hx; omega
      have hp := h p.1
      have hq := h q.1
      rw [cnt_cons, cnt_cons, if_pos rfl, z1 p.1 (Int.le_refl _)] at hp
      rw [cnt_cons, cnt_cons, if_pos rfl, z2 q.1 (Int.le_refl _)] at hq
      have e1 : p.1 = q.1 := by
        rcases Int.lt_or_le p.1 q.1 with c | c
        · rw [if_neg (by omega), z2 p.1 (by omega)] at hp
          omega
        · rcases Int.lt_or_le q.1 p.1 with c2 | c2
          · rw [if_neg (by omega), z1 q.1 (by omega)] at hq
            omega
          · omega
      rw [if_pos e1.symm, z2 p.1 (by omega)] at hp
      have e : p = q := Prod.ext e1 (by omega)
      subst e
      rw [ih a1.2 a2.2 wr ws fun t => by have := h t; rw [cnt_cons, cnt_cons] at this; omega]
theorem jn_comm {us vs : List Fr} (ha : sprP us) (hb : sprP vs) : jnO us vs us.length = jnO vs us vs.length :=
  rising_cnt (jnO_both us vs _).1 (jnO_both vs us _).1 (jnO_wpos hb.2.1 ha.2.1) (jnO_wpos ha.2.1 hb.2.1) fun _ => jn_swap _ us vs
/-- a mean, times the weight -/
theorem men_mul {ps : List Fr} (h : menO ps = true) : sprP ps ∧ okF (menA ps) = true ∧ qf (menA ps) * ((wtS ps ps.length : Int) : Rat) = ((momS ps 1 ps.length : Int) : Rat) ∧ ((wtS ps ps.length : Int) : Rat) ≠ 0 ∧ menA ps = (momA ps 1).1 ∧ (momA ps 1).2 = true := by
  have hs : sprB ps = true ∧ (momA ps 1).2 = true := by unfold menO at h; simpa using h
  have em : menA ps = (momA ps 1).1 := if_pos hs.1
  have hp := sprB_out hs.1
  have hw : wtS ps ps.length ≠ 0 := by
    obtain ⟨⟨l1, _⟩, hP, _⟩ := hp
    obtain ⟨n, hn⟩ : ∃ n, ps.length = n + 1 := ⟨ps.length - 1, by omega⟩
    have a1 := (wtS_in (ps := ps) (k := n) (fun j hj => hP j (by omega))).1
    have a2 := (hP n (by omega)).2.1.1
    rw [hn]
    show wtS ps n + (fr ps n).2 ≠ 0
    omega
  have hW : ((wtS ps ps.length : Int) : Rat) ≠ 0 := fun h => hw (by exact_mod_cast h)
  have q1 : qf (momA ps 1).1 = Rat.divInt (momS ps 1 ps.length) (wtS ps ps.length) := qf_red hs.2
  rw [Rat.divInt_eq_div] at q1
  exact ⟨hp, by rw [em]; exact okB_redN hs.2, by rw [em, q1, Rat.div_mul_cancel hW], hW, em, hs.2⟩
/-- a variance, times the weight -/
theorem vry_mul {ps : List Fr} (h : vryO ps = true) : menO ps = true ∧ okF (vryA ps) = true ∧ ((wtS ps ps.length : Int) : Rat) * qf (vryA ps) = sqW ps (qf (menA ps)) ps.length := by
  have hv : sprB ps = true ∧ (momA ps 1).2 = true ∧ (momA ps 2).2 = true ∧ (vryV (momA ps 2).1 (momA ps 1).1).2 = false := by
    have h' := h
    unfold vryO at h'
    simpa using h'
  have hm : menO ps = true := by unfold menO; rw [hv.1, hv.2.1]; rfl
  obtain ⟨hp, hok, _, hW, em, _⟩ := men_mul hm
  have hw : wtS ps ps.length ≠ 0 := fun e => hW (by rw [e]; rfl)
  refine ⟨hm, ?_, ?_⟩
  · rw [vryA_yes h]
    have hk : subK (momA ps 2).1 (p1V (momA ps 1).1 (momA ps 1).1) = true := by
      have := hv.2.2.2
      unfold vryV at this
      simp only [Bool.or_eq_false_iff, Bool.not_eq_false'] at this
      exact this.2
    show okF (keepF (subK (momA ps 2).1 (p1V (momA ps 1).1 (momA ps 1).1)) (subP (momA ps 2).1 (p1V (momA ps 1).1 (momA ps 1).1))) = true
    rw [keepF_yes hk]
    exact op_right hk
  · rw [vryA_yes h, em]
    exact vary_val hw hv.2.1 hv.2.2.1 hv.2.2.2
theorem sumN_nn {f : Nat → Rat} : ∀ {n : Nat}, (∀ i, i < n → 0 ≤ f i) → 0 ≤ sumN f n
  | 0, _ => Rat.le_refl
  | n + 1, h => Rat.add_nonneg (sumN_nn fun i hi => h i (by omega)) (h n (by omega))
theorem sq_nn (x : Rat) : 0 ≤ x * x := by
  rcases Rat.le_total (a := 0) (b := x) with h | h
  · exact Rat.mul_nonneg h h
  · have := Rat.mul_nonneg (a := -x) (b := -x) (by grind) (by grind)
    grind
/-- no variance is below 0 -/
theorem vry_nn {ps : List Fr} (h : vryO ps = true) : 0 ≤ (vryA ps).1 := by
  obtain ⟨hm, hok, hv⟩ := vry_mul h
  obtain ⟨hp, -, -, hW, -⟩ := men_mul hm
  have hwi := (wtS_in hp.2.1).1
  have hw0 : (0 : Rat) < ((wtS ps ps.length : Int) : Rat) := by
    have : 0 < wtS ps ps.length := by
      rcases Int.lt_or_eq_of_le hwi with c | c
      · exact c
      · exact absurd (by rw [← c]; rfl) hW
    exact_mod_cast this
  have h0 : 0 ≤ sqW ps (qf (menA ps)) ps.length := sumN_nn fun i hi => Rat.mul_nonneg (by have := (hp.2.1 i hi).2.1.1; exact_mod_cast (by omega : 0 ≤ (fr ps i).2)) (sq_nn _)
  rw [← hv] at h0
  have h1 : 0 ≤ qf (vryA ps) := by
    refine Classical.byContradiction fun c => ?_
    have d := Rat.not_le.1 c
    have := Rat.mul_lt_mul_of_pos_left d hw0
    rw [Rat.mul_zero] at this
    exact absurd h0 (Rat.not_le.2 this)
  have := okB_out hok
  unfold qf at h1
  exact (Rat.divInt_nonneg_iff_of_pos_right (by omega)).1 h1
theorem mul_cancelW {x y W : Rat} (hW : W ≠ 0) (h : x * W = y * W) : x = y := by
  have : (x - y) * W = 0 := by grind
  rcases Rat.mul_eq_zero.1 this with e | e
  · grind
  · exact absurd e hW
/-- means go with sums -/
theorem mean_sum {us vs : List Fr} (h1 : menO us = true) (h2 : menO vs = true) (h3 : menO (jnO us vs us.length) = true) (h4 : addK (menA us) (menA vs) = true) : menA (jnO us vs us.length) = addP (menA us) (menA vs) := by
  obtain ⟨-, o1, e1, w1, -⟩ := men_mul h1
  obtain ⟨-, o2, e2, w2, -⟩ := men_mul h2
  obtain ⟨-, o3, e3, w3, -⟩ := men_mul h3
  refine qf_inj o3 (op_right h4) ?_
  rw [qf_add h4]
  rw [jn_m1, jn_wt, Rat.intCast_mul, Rat.intCast_add, Rat.intCast_mul, Rat.intCast_mul, ← e1, ← e2] at e3
  rw [jn_wt, Rat.intCast_mul] at w3
  exact mul_cancelW w3 (by rw [e3]; grind)
/-- variances go with sums -/
theorem vary_sum {us vs : List Fr} (h1 : vryO us = true) (h2 : vryO vs = true) (h3 : vryO (jnO us vs us.length) = true) (h4 : addK (vryA us) (vryA vs) = true) : vryA (jnO us vs us.length) = addP (vryA us) (vryA vs) := by
  obtain ⟨m1, o1, v1⟩ := vry_mul h1
  obtain ⟨m2, o2, v2⟩ := vry_mul h2
  obtain ⟨m3, o3, v3⟩ := vry_mul h3
  obtain ⟨-, -, e1, w1, -⟩ := men_mul m1
  obtain ⟨-, -, e2, w2, -⟩ := men_mul m2
  obtain ⟨-, -, e3, w3, -⟩ := men_mul m3
  refine qf_inj o3 (op_right h4) ?_
  rw [qf_add h4]
  rw [sqW_is] at v1 v2 v3
  have hu : qf (menA (jnO us vs us.length)) = qf (menA us) + qf (menA vs) := by
    have e3' := e3
    rw [jn_m1, jn_wt, Rat.intCast_mul, Rat.intCast_add, Rat.intCast_mul, Rat.intCast_mul, ← e1, ← e2] at e3'
    have w3' := w3
    rw [jn_wt, Rat.intCast_mul] at w3'
    exact mul_cancelW w3' (by rw [e3']; grind)
  rw [hu, jn_m2, jn_m1, jn_wt] at v3
  rw [jn_wt] at w3
  simp only [Rat.intCast_mul, Rat.intCast_add] at v3 w3
  have e2' : ((2 : Int) : Rat) = 2 := rfl
  rw [e2'] at v3
  generalize ((momS us 2 us.length : Int) : Rat) = A2 at *
  generalize ((momS vs 2 vs.length : Int) : Rat) = B2 at *
  rw [← e1] at v1 v3
  rw [← e2] at v2 v3
  refine mul_cancelW w3 ?_
  generalize qf (menA us) = x at *
  generalize qf (menA vs) = y at *
  generalize ((wtS us us.length : Int) : Rat) = Wa at *
  generalize ((wtS vs vs.length : Int) : Rat) = Wb at *
  generalize qf (vryA us) = p at *
  generalize qf (vryA vs) = r at *
  generalize qf (vryA (jnO us vs us.length)) = z at *
  have k1 : A2 = Wa * p + x * x * Wa := by grind
  have k2 : B2 = Wb * r + y * y * Wb := by grind
  rw [k1, k2] at v3
  clear v1 v2 k1 k2
  grind
end Go.Proofs.Ytgboaeokbglgdaa
