/- A unit text is read: from a word on, wherever one comes there from. -/
import Derived.Test.YtnhefbhiemdhoaaGreatUnitP7
namespace Go.Proofs.YtnhefbhiemdhoaaGreat
open Go.RowKit Go.MapKept Go.Proofs.YtnhefbhiemdhoaaGreat.RM

def muA (l : Nat) (a : Act) (w : World) : Nat := match (a.tmps[5]? : Option Value) with | some (Value.pointer (some p)) => muU p.block l w | _ => 0
def JA (w0 : World) (s : ByteArray) (o : Option UV) (l : Nat) (a : Act) (w : World) : Prop := ∃ Z T M, JU w0 s o Z T M l a w
/-- the code of unitOf within its labels, and from its first label on -/
noncomputable def unitCode : Code := match Tryz.f27.body with | some (.seq _ (.scope c)) => c | _ => .skip

set_option maxRecDepth 100000 in
set_option maxHeartbeats 2000000 in
theorem unit_word (w : World) (s : ByteArray) (o : Option UV) (Qb : Exit → Act → World → Prop) (a : Act) (wr : World) (rest : Code) (hrest : findLabel unitCode 1 = some (.seq .skip rest)) (hJ : JA w s o 1 a wr) : Code.wp Tryz.prog rest (jumps (JA w s o) Qb) a wr := by
  have h2 := (show some (Code.seq Code.skip _) = some (Code.seq Code.skip rest) from hrest)
  injection h2 with h2
  injection h2 with _ h2
  subst h2
  obtain ⟨Z, T, M, ⟨v1, v3, v4, v6, v7, v8, v9, v10, v11, v12, v13, v14, v15, v16, v17, v18, v19, v20, v21, v22, v23, v24, v25, v26, v27, v28, v29, v30, v31, v32, v33, v34, v35, v36, v37, v38, rfl⟩, st, u, p, dv, P, n, HOr, hn, HS2⟩ := hJ
  obtain ⟨m, rfl⟩ : ∃ m, n = m + 1 := ⟨n - 1, by omega⟩
  have HR := hidU (readWord_any T M st u p dv P wr HS2.out.1 (show st.data.toList.length ≤ _ from HS2.out.2.2.2.2.1) HS2.out.2.2.2.1)
  have hUO : uo (m + 1) st.data.toList dv P = if (wordI (hdW st.data.toList)).2 = true then (if (passL 94 (tlW st.data.toList)).2 = true then powU (uo m) (passL 94 (tlW st.data.toList)).1 (wordI (hdW st.data.toList)).1 dv P else partU (uo m) (passL 94 (tlW st.data.toList)).1 (wordI (hdW st.data.toList)).1 1 dv P) else none := rfl
  have hVD := okD_word (hdW st.data.toList)
  obtain ⟨⟨V, vo⟩, hV⟩ : ∃ q, q = wordI (hdW st.data.toList) := ⟨_, rfl⟩
  rw [← hV] at HR hUO hVD
  simp only at HR hUO hVD
  have HO1 := hidU (HOr.out.trans hUO)
  clear hV hUO HOr
  have hVD2 := hidU hVD
  clear hVD
  go_wp2_with fail
  refine HR.out.mono ?_
  rintro e w1 ⟨s1, rfl, hs1, hT1, hg1⟩
  have HS1 := hidU (StU.step HS2.out hT1 hg1 hVD2.out HS2.out.2.2.1 (by rw [hs1]; exact fun b hb => tlW_mem hb) (by rw [hs1]; exact tlW_len _))
  have hl1 : s1.data.toList.length ≤ st.data.toList.length := by rw [hs1]; exact tlW_len _
  rw [← hs1] at HO1
  clear hT1 hg1 hs1 HR
  cases vo with
  | false =>
    have HON := hidU (show o = none by rw [HO1.out]; simp)
    clear HO1
    go_wp2
    refine wp_goto ?_
    refine (show JA w s o 0 _ _ from ?_)
    exact ⟨Z, T, M, ⟨_, _, _, _, _, _, _, _, _, _, _, _, _, _, _, _, _, _, _, _, _, _, _, _, _, _, _, _, _, _, _, _, _, _, _, _, rfl⟩, HON.out, HS1.out.z⟩
  | true =>
    have HO2 := hidU (show o = (if (passL 94 s1.data.toList).2 = true then powU (uo m) (passL 94 s1.data.toList).1 V dv P else partU (uo m) (passL 94 s1.data.toList).1 V 1 dv P) by rw [HO1.out, if_pos rfl])
    clear HO1
    have HP := hidU (show Calls Tryz.prog 55 #[.pointer (some ⟨T, 0, none⟩), .int .u8 94] w1 fun e w' => ∃ s', e = .returned (.bool (passL 94 s1.data.toList).2) ∧ s'.data.toList = (passL 94 s1.data.toList).1 ∧ IsT w' T M s' V 1 dv P ∧ w1.grownBy w' (some T) from passes_any T M s1 V 1 dv P 94 w1 HS1.out.1)
    have hpl := passL_len 94 s1.data.toList
    have hpm := fun b => @passL_mem 94 b s1.data.toList
    generalize passL 94 s1.data.toList = q at HP HO2 hpl hpm
    obtain ⟨l2, pb⟩ := q
    simp only at HP HO2 hpl hpm
    go_wp2_with fail
    refine HP.out.mono ?_
    rintro e w2 ⟨s2, rfl, hs2, hT2, hg2⟩
    have HS2 := hidU (StU.step HS1.out hT2 hg2 HS1.out.2.1 HS1.out.2.2.1 (by rw [hs2]; exact hpm) (by rw [hs2]; exact hpl.1))
    have hl2 : s2.data.toList.length ≤ s1.data.toList.length := by rw [hs2]; exact hpl.1
    rw [← hs2] at HO2
    clear hT2 hg2 hs2 HP hpl hpm
    cases pb with
    | true =>
      have HOp := hidU (show o = powU (uo m) s2.data.toList V dv P by rw [HO2.out, if_pos rfl])
      clear HO2
      go_wp2
      refine wp_goto ?_
      refine (show JA w s o 2 _ _ from ?_)
      exact ⟨Z, T, M, ⟨_, _, _, _, _, _, _, _, _, _, _, _, _, _, _, _, _, _, _, _, _, _, _, _, _, _, _, _, _, _, _, _, _, _, _, _, rfl⟩, _, _, _, _, _, m, HOp.out, by omega, HS2.out⟩
    | false =>
      have HOp := hidU (show o = partU (uo m) s2.data.toList V 1 dv P by rw [HO2.out, if_neg (by simp)])
      clear HO2
      go_wp2
      refine wp_goto ?_
      refine (show JA w s o 3 _ _ from ?_)
      exact ⟨Z, T, M, ⟨_, _, _, _, _, _, _, _, _, _, _, _, _, _, _, _, _, _, _, _, _, _, _, _, _, _, _, _, _, _, _, _, _, _, _, _, rfl⟩, _, _, _, _, _, m, HOp.out, by omega, ⟨by decide, by decide⟩, HS2.out⟩
end Go.Proofs.YtnhefbhiemdhoaaGreat
