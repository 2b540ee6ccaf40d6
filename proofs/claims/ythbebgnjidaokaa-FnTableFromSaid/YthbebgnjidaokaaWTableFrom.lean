/-
  The walk of FnTableFrom: it answers true.
-/
import Derived.Test.YthbebgnjidaokaaDrawTF
import Derived.Test.YthbebgnjidaokaaIFrom
namespace Go.Proofs.Ythbebgnjidaokaa
open Go.RowKit Fl

/-- The columns of a table make the table. -/
theorem mkRows_cols (rs : List RowW) : mkRows (rs.map RowW.f) (rs.map fun r => r.num 0) (rs.map fun r => r.num 1) (rs.map fun r => r.num 2) (rs.map fun r => r.num 3) rs.length = rs := by
  apply List.ext_getElem
  · rw [mkRows_len]
  · intro i h1 h2
    simp only [mkRows, List.getElem_map, List.getElem_range]
    unfold rowAt numAt
    simp only [List.getElem?_map, List.getElem?_eq_getElem h2, Option.map_some, Option.getD_some]
    rfl
/-- What TableFrom gives for the drawn columns. -/
theorem from_cols {rs : List RowW} {D : List (Nat × Nat)} (hD : D = colB rs 3 ∨ D = colB rs 3 ++ [(1065353216, 0)]) : fromT (rs.map RowW.f) (colB rs 0) (colB rs 1) (colB rs 2) D = none ∨ (fromT (rs.map RowW.f) (colB rs 0) (colB rs 1) (colB rs 2) D = some rs ∧ tabB rs = true ∧ D = colB rs 3) := by
  cases hT : tabB rs
  · left
    have e : ∀ k, colB rs k = [] := fun k => by unfold colB; rw [hT]; rfl
    rw [e 0, e 1, e 2]
    rw [e 3] at hD
    unfold fromT lensB
    rw [if_neg]
    intro h
    simp only [Bool.and_eq_true, decide_eq_true_eq, List.length_nil, List.length_map] at h
    obtain ⟨⟨⟨h1, _⟩, _, h4⟩, h5⟩ := h
    have h0 : rs = [] := List.length_eq_zero_iff.1 h1.symm
    subst h0
    rw [show mkRows (List.map RowW.f []) [] [] [] D ([] : List RowW).length = [] from rfl] at h5
    cases h5
  · have e : ∀ k, 0 ≤ k → k ≤ 3 → colB rs k = rs.map fun r => r.num k := fun k h0 h3 => by
      unfold colB
      rw [hT, if_pos (by simp; exact ⟨h0, h3⟩)]
    rcases hD with hD | hD
    · right
      refine ⟨?_, rfl, hD⟩
      rw [hD, e 0 (by decide) (by decide), e 1 (by decide) (by decide), e 2 (by decide) (by decide), e 3 (by decide) (by decide)]
      unfold fromT lensB
      simp only [List.length_map]
      rw [mkRows_cols, hT]
      simp
    · left
      rw [hD, e 3 (by decide) (by decide)]
      unfold fromT lensB
      rw [if_neg]
      simp

set_option maxRecDepth 8000 in
set_option maxHeartbeats 4000000 in
theorem FnTableFrom_walk (a : Option Addr) (len cap : Nat) (zs : List Int) (w : World) (h : IsRow .u8 w a len cap zs) :
    Calls Try.prog 5 #[.slice a len cap] w fun e w' => e = .returned (.bool true) ∧ Below w.heap.size w w' := by
  by_cases hl : (1048576 : Int) < (len : Int)
  · go_enter Try.func5, Try.ntmps5
    go_wp2_with fail
    go_ret
    exact ⟨rfl, Below.refl _ _⟩
  · go_enter Try.func5, Try.ntmps5
    go_wp2_with fail
    refine (drawFrom_any h).mono ?_
    rintro e w1 ⟨rs, D, x0, x1, x2, x3, x4, k0, k1, k2, k3, k4, rfl, h9, hD, F1, A1, B1, C1, D1, BL1⟩
    clear h
    have HF1 := Lib.hid F1
    have HA1 := Lib.hid A1
    have HB1 := Lib.hid B1
    have HC1 := Lib.hid C1
    have HD1 := Lib.hid D1
    have HL1 := Lib.hid BL1
    have HO := Lib.hid (from_cols hD)
    clear F1 A1 B1 C1 D1 BL1 hD
    obtain ⟨o, ho⟩ : ∃ o, fromT (rs.map RowW.f) (colB rs 0) (colB rs 1) (colB rs 2) D = o := ⟨_, rfl⟩
    have HI := Lib.hid (implFrom_any (kf := k0) (ka := k1) (kb := k2) (kc := k3) (kd := k4) HF1.out HA1.out HB1.out HC1.out HD1.out (List.length_map ..) rfl rfl rfl rfl (by omega))
    have HS := Lib.hid (fun w' (C : Calm w1 w') => specFrom_any (kf := k0) (ka := k1) (kb := k2) (kc := k3) (kd := k4) (HF1.out.calm C) (HA1.out.calm C) (HB1.out.calm C) (HC1.out.calm C) (HD1.out.calm C) (List.length_map ..) rfl rfl rfl rfl (by omega))
    rw [ho] at HO HI HS
    clear ho
    go_wp2_with fail
    refine HI.out.mono ?_
    rintro z w2 ⟨⟨xi, ci, rfl, T2⟩, C2⟩
    have HT2 := Lib.hid T2
    have HC2 := Lib.hid C2
    clear T2 C2 HI
    go_wp2_with fail
    refine (HS.out w2 HC2.out).mono ?_
    rintro z w3 ⟨⟨xs, cs, rfl, T3⟩, C3⟩
    have HU3 := Lib.hid T3
    have HT3 := Lib.hid (HT2.out.calm C3)
    have HC3 := Lib.hid (calm_trans HC2.out C3)
    clear T3 C3 HT2 HC2 HS
    rcases HO.out with ho | ⟨ho, htab, hD⟩
    · subst ho
      go_wp2_with fail
      refine (sameTable_eq HT3.out HU3.out rfl rfl (by simp) (fun i h => by simp at h)).mono ?_
      rintro z w4 ⟨rfl, C4⟩
      have HC4 := Lib.hid (calm_trans HC3.out C4)
      clear C4
      go_wp2_with fail
      refine (alive_any _).mono ?_
      rintro z w5 ⟨rfl, hw5⟩
      subst hw5
      go_wp2_with fail
      go_ret
      exact ⟨rfl, below_calm HL1.out HL1.out.size HC4.out⟩
    · subst ho
      have HTab := Lib.hid htab
      have HDD := Lib.hid hD
      have h1 := (tabB_len htab).1
      clear htab hD HO
      have hg : ∃ g, xi = some ⟨g, 0, none⟩ := by
        rcases HT3.out with e | ⟨g, e, _⟩
        · exfalso; have e' : rs = [] := e; rw [e'] at h1; simp at h1
        · exact ⟨g, e⟩
      obtain ⟨g, rfl⟩ := hg
      have HR3 := Lib.hid (show Row5 w3 g rs from by
        rcases HT3.out with e | ⟨g', e, R⟩
        · exfalso; have e' : rs = [] := e; rw [e'] at h1; simp at h1
        · injection e with e; injection e with e; subst e; exact R)
      go_wp2_with fail
      refine (sameTable_eq (rs := rs) (ss := rs) HT3.out HU3.out rfl rfl (by omega) (tabE_refl (.inl HTab.out))).mono ?_
      rintro z w4 ⟨rfl, C4⟩
      have HR4 := Lib.hid (HR3.out.calm C4)
      have HC4 := Lib.hid (calm_trans HC3.out C4)
      clear C4 HT3 HU3 HC3 HR3
      have HA4 := Lib.hid (HA1.out.calm HC4.out)
      have HB4 := Lib.hid (HB1.out.calm HC4.out)
      have HC4' := Lib.hid (HC1.out.calm HC4.out)
      have HD4 := Lib.hid (show CRow w4 x4 (colB rs 3) from by rw [← HDD.out]; exact HD1.out.calm HC4.out)
      have hDl : D.length = (colB rs 3).length := by rw [HDD.out]
      have hc9 : ∀ k, (colB rs k).length ≤ 9 := fun k => by
        unfold colB
        split
        · rw [List.length_map]; exact h9
        · simp
      have H9 := Lib.hid hc9
      rw [hDl]
      clear HA1 HB1 HC1 HD1 HF1 hDl hc9
      go_wp2_with fail
      refine (implTableOk_any HR4.out rfl (by omega)).mono ?_
      rw [HTab.out]
      rintro z w5 ⟨rfl, C5⟩
      have HK0 := Lib.hid C5
      clear C5
      go_wp2_with fail
      refine (implColumn_any (which := 0) (HR4.out.calm HK0.out) rfl (by omega) (by omega) (by omega)).mono ?_
      rintro z wc0 ⟨ca0, cc0, rfl, CR0, C⟩
      have HX0 := Lib.hid CR0
      have HJ0 := Lib.hid (calm_trans HK0.out C)
      clear C CR0 HK0
      go_wp2_with fail
      refine (sameColumn_same HX0.out (HA4.out.calm HJ0.out) rfl (Nat.le_trans (H9.out 0) (by omega))).mono ?_
      rintro z wd0 ⟨rfl, C⟩
      have HK1 := Lib.hid (calm_trans HJ0.out C)
      clear C HJ0 HX0 HA4
      go_wp2_with fail
      refine (implColumn_any (which := 1) (HR4.out.calm HK1.out) rfl (by omega) (by omega) (by omega)).mono ?_
      rintro z wc1 ⟨ca1, cc1, rfl, CR1, C⟩
      have HX1 := Lib.hid CR1
      have HJ1 := Lib.hid (calm_trans HK1.out C)
      clear C CR1 HK1
      go_wp2_with fail
      refine (sameColumn_same HX1.out (HB4.out.calm HJ1.out) rfl (Nat.le_trans (H9.out 1) (by omega))).mono ?_
      rintro z wd1 ⟨rfl, C⟩
      have HK2 := Lib.hid (calm_trans HJ1.out C)
      clear C HJ1 HX1 HB4
      go_wp2_with fail
      refine (implColumn_any (which := 2) (HR4.out.calm HK2.out) rfl (by omega) (by omega) (by omega)).mono ?_
      rintro z wc2 ⟨ca2, cc2, rfl, CR2, C⟩
      have HX2 := Lib.hid CR2
      have HJ2 := Lib.hid (calm_trans HK2.out C)
      clear C CR2 HK2
      go_wp2_with fail
      refine (sameColumn_same HX2.out (HC4'.out.calm HJ2.out) rfl (Nat.le_trans (H9.out 2) (by omega))).mono ?_
      rintro z wd2 ⟨rfl, C⟩
      have HK3 := Lib.hid (calm_trans HJ2.out C)
      clear C HJ2 HX2 HC4'
      go_wp2_with fail
      refine (implColumn_any (which := 3) (HR4.out.calm HK3.out) rfl (by omega) (by omega) (by omega)).mono ?_
      rintro z wc3 ⟨ca3, cc3, rfl, CR3, C⟩
      have HX3 := Lib.hid CR3
      have HJ3 := Lib.hid (calm_trans HK3.out C)
      clear C CR3 HK3
      go_wp2_with fail
      refine (sameColumn_same HX3.out (HD4.out.calm HJ3.out) rfl (Nat.le_trans (H9.out 3) (by omega))).mono ?_
      rintro z wd3 ⟨rfl, C⟩
      have HK4 := Lib.hid (calm_trans HJ3.out C)
      clear C HJ3 HX3 HD4
      go_wp2_with fail
      go_ret
      exact ⟨rfl, below_calm HL1.out HL1.out.size (calm_trans HC4.out HK4.out)⟩

end Go.Proofs.Ythbebgnjidaokaa
