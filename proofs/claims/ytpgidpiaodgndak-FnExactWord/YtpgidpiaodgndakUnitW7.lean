/- The model's words: a prefix and a unit where there is none. -/
import Derived.Test.YtpgidpiaodgndakUnitW6
import Derived.Test.YtpgidpiaodgndakMapLit
namespace Go.Proofs.Ytpgidpiaodgndak
open Go.RowKit Go.Proofs.Ytpgidpiaodgndak.RM

theorem byte0 {s : ByteArray} {b : UInt8} {r : List UInt8} (hl : s.data.toList = b :: r) (h : 0 < s.size) : s[0] = b := by
  have h0 : s.data.toList[0]? = some b := by rw [hl]; rfl
  have := (Array.getElem?_toList (xs := s.data) (i := 0)).symm.trans h0
  rw [Array.getElem?_eq_getElem (by exact h)] at this
  exact Option.some.inj this
theorem tail_s (s : ByteArray) (b : UInt8) (r : List UInt8) (h : s.data.toList = b :: r) : (s.extract 1 s.size).data.toList = r := by
  rw [ByteArray.data_extract, Array.toList_extract, List.extract_eq_take_drop, h]
  have : s.size = s.data.toList.length := rfl
  rw [this, h]
  simp
/-- is it barred: too short, or what takes no prefix -/
def barS (l : List UInt8) : Bool := match l with | [] => true | [_] => true | _ :: r => r == [109, 105, 110] || r == [104] || r == [67]
theorem preS_bar {l : List UInt8} (h : barS l = true) : preS l = (0, 0, [], false) := by
  match l, h with
  | [], _ => rfl
  | [b], _ => rfl
  | b :: c :: r, h =>
    unfold barS at h
    simp only [Bool.or_eq_true, beq_iff_eq] at h
    have h2 : c :: r = [109, 105, 110] ∨ c :: r = [104] ∨ c :: r = [67] := by
      rcases h with (h | h) | h
      · exact .inl h
      · exact .inr (.inl h)
      · exact .inr (.inr h)
    have e : preI (b :: c :: r) = (.zero, false) := by
      cases hu : uFind (c :: r) with
      | none => simp only [preI, hu]
      | some u => simp only [preI, hu, if_pos h2]
    unfold preS
    rw [e]
    rfl

set_option maxRecDepth 100000 in
set_option maxHeartbeats 1000000 in
theorem sPre_bar (s : ByteArray) (w : World) (h : barS s.data.toList = true) :
    Calls Try.prog 48 #[.string s] w fun e w' => ∃ v, e = .returned (.tuple #[.agg #[.int .i64 0, .int .i64 0], v, .bool false]) ∧ w'.ownsRow w.heap.size 2 1 v 0 [] ∧ Below w.heap.size w w' := by
  have b0 : ∀ (u : World) (o : Obj), Below u.heap.size u (u.alloc o) := fun u o => (Below.refl _ _).alloc (Nat.le_refl _) o
  have hE : IsB ((w.alloc (.cells #[.int .i64 0, .int .i64 0] 36)).alloc (.cells #[] 2)) (w.heap.size + 1) #[] 2 := by
    have := IsB.new (w.alloc (.cells #[.int .i64 0, .int .i64 0] 36)) #[] 2
    simpa using this
  have HE := hidU hE
  clear hE
  have hz : s.size = s.data.toList.length := rfl
  by_cases h2 : s.size < 2
  · have h3 : (s.size : Int) < 2 := by omega
    clear h hz
    go_enter Try.func48, Try.ntmps48
    go_wp2
    exact bodyPost_ret (v := .tuple #[.agg #[.int .i64 0, .int .i64 0], .slice (some ⟨w.heap.size + 1, 0, none⟩) 0 0, .bool false]) (by simp [results, Try.results48, go_sem]) rfl ⟨_, rfl, ⟨rfl, .inr ⟨_, 0, #[], rfl, by omega, HE.out, Nat.le_refl _, Nat.zero_le _, rfl, rfl⟩⟩, (b0 _ _).alloc (by simp) _⟩
  · have h3 : ¬ (s.size : Int) < 2 := by omega
    have h4 : (1 : Int) ≤ s.size := by omega
    obtain ⟨b, r, hl⟩ : ∃ b r, s.data.toList = b :: r := by
      cases hl : s.data.toList with
      | nil => exact absurd (show s.size = 0 by rw [hz, hl]; rfl) (by omega)
      | cons b r => exact ⟨b, r, rfl⟩
    have hr : (s.extract 1 s.size).toList = r := by rw [ByteArray.toList_eq]; exact tail_s s b r hl
    have hc : r = [109, 105, 110] ∨ r = [104] ∨ r = [67] := by
      rw [hl] at h
      cases r with
      | nil => exact absurd (show s.size = 1 by rw [hz, hl]; rfl) (by omega)
      | cons c r =>
        unfold barS at h
        simp only [Bool.or_eq_true, beq_iff_eq] at h
        rcases h with (h | h) | h
        · exact .inl h
        · exact .inr (.inl h)
        · exact .inr (.inr h)
    clear h hz hl
    rcases hc with rfl | rfl | rfl
    all_goals
      go_enter Try.func48, Try.ntmps48
      go_wp2
      exact bodyPost_ret (v := .tuple #[.agg #[.int .i64 0, .int .i64 0], .slice (some ⟨w.heap.size + 1, 0, none⟩) 0 0, .bool false]) (by simp [results, Try.results48, go_sem]) rfl ⟨_, rfl, ⟨rfl, .inr ⟨_, 0, #[], rfl, by omega, HE.out, Nat.le_refl _, Nat.zero_le _, rfl, rfl⟩⟩, (b0 _ _).alloc (by simp) _⟩
end Go.Proofs.Ytpgidpiaodgndak
