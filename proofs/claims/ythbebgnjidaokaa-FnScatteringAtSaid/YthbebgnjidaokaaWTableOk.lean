/-
  The walk of FnTableOk: it answers true.
-/
import Derived.Test.YthbebgnjidaokaaDrawTb
import Derived.Test.YthbebgnjidaokaaImplTb
import Derived.Laws.OwnMore
import Derived.Deep.RegionHeld3
namespace Go.Proofs.Ythbebgnjidaokaa
open Go.RowKit Fl

theorem row5_of {w : World} {base g cap : Nat} {rs : List RowW} (h : w.ownsRow base 47 5 (.slice (some ⟨g, 0, none⟩) rs.length cap) rs.length (cells5 rs)) : Row5 w g rs := by
  intro i hi
  obtain ⟨a, b, c, d, e⟩ := cells5_at rs i hi
  have hl := cells5_length rs
  exact ⟨by show w.cell? _ = _; rw [h.cellAt _ (by omega)]; exact a, by show w.cell? _ = _; rw [h.cellAt _ (by omega)]; exact b, by show w.cell? _ = _; rw [h.cellAt _ (by omega)]; exact c, by show w.cell? _ = _; rw [h.cellAt _ (by omega)]; exact d, by show w.cell? _ = _; rw [h.cellAt _ (by omega)]; exact e⟩

theorem rowsB_less (rs : List RowW) (r : RowW) : ∀ p, rowsB p (rs ++ [r]) = true → rowsB p rs = true := by
  induction rs with
  | nil => intro p _; rfl
  | cons x xs ih =>
    intro p h
    have h' : (freqB x.f && x.finB && afterB p x.f && rowsB (some x.f) (xs ++ [r])) = true := h
    simp only [Bool.and_eq_true] at h'
    show (freqB x.f && x.finB && afterB p x.f && rowsB (some x.f) xs) = true
    rw [h'.1.1.1, h'.1.1.2, h'.1.2, ih _ h'.2]
    rfl
/-- Without its last row a table of two rows or more is one. -/
theorem tabB_less {rs : List RowW} (h : tabB rs = true) (h2 : 2 ≤ rs.length) : tabB (rs.take (rs.length - 1)) = true := by
  obtain ⟨l1, l8⟩ := tabB_len h
  have hne : rs ≠ [] := by intro e; subst e; simp at h2
  have e1 : rs = rs.dropLast ++ [rs.getLast hne] := (List.dropLast_concat_getLast hne).symm
  have hr : rowsB none rs = true := by
    unfold tabB at h
    simp only [Bool.and_eq_true] at h
    exact h.1
  rw [e1] at hr
  have := rowsB_less _ _ _ hr
  rw [← List.dropLast_eq_take]
  unfold tabB
  rw [this, List.length_dropLast]
  simp
  omega

set_option maxRecDepth 8000 in
set_option maxHeartbeats 2000000 in
theorem drawTableOk_any {a : Option Addr} {len cap : Nat} {zs : List Int} {w : World} (h : IsRow .u8 w a len cap zs) :
    Calls Try.prog 7 #[.slice a len cap] w fun e w' => ∃ (g c : Nat) (rs : List RowW), e = .returned (.slice (some ⟨g, 0, none⟩) rs.length c) ∧ rs.length ≤ 9 ∧ rs.length ≤ c ∧ Row5 w' g rs ∧ Below w.heap.size w w' := by
  go_enter Try.func7, Try.ntmps7
  go_wp2_with fail
  refine (open_any h).mono ?_
  rintro e w1 ⟨b, a1, len1, cap1, rfl, R1, hb, B1⟩
  go_wp2_with fail
  refine (table_any R1 (by omega) (by omega) (by omega)).mono ?_
  rintro e w2 ⟨g, c, k2, rs, rfl, hl, _, _, _, O2, G2⟩
  have HO := Lib.hid O2
  have HB := Lib.hid (below_drawn B1 hb B1.size G2)
  clear O2 G2 B1
  go_wp2_with fail
  go_ret
  exact ⟨g, c, rs, rfl, hl, (own_cells HO.out).2.2.2.2, row5_of HO.out, HB.out⟩

set_option maxRecDepth 8000 in
set_option maxHeartbeats 4000000 in
theorem FnTableOk_walk (a : Option Addr) (len cap : Nat) (zs : List Int) (w : World) (h : IsRow .u8 w a len cap zs) :
    Calls Try.prog 3 #[.slice a len cap] w fun e w' => e = .returned (.bool true) ∧ Below w.heap.size w w' := by
  by_cases hl : (1048576 : Int) < (len : Int)
  · go_enter Try.func3, Try.ntmps3
    go_wp2_with fail
    go_ret
    exact ⟨rfl, Below.refl _ _⟩
  · go_enter Try.func3, Try.ntmps3
    go_wp2_with fail
    refine (drawTableOk_any h).mono ?_
    rintro e w1 ⟨g, c, rs, rfl, h9, hrc, R1, B1⟩
    clear h
    obtain ⟨β, hβ⟩ : ∃ β, tabB rs = β := ⟨_, rfl⟩
    have HB := Lib.hid hβ
    have HR1 := Lib.hid R1
    have HB1 := Lib.hid B1
    clear hβ R1 B1
    go_wp2_with fail
    refine (implTableOk_any HR1.out rfl (by omega)).mono ?_
    rw [HB.out]
    rintro z w2 ⟨rfl, C⟩
    have HR2 := Lib.hid (HR1.out.calm C)
    have HB2 := Lib.hid (below_calm HB1.out HB1.out.size C)
    clear C HR1 HB1
    go_wp2_with fail
    refine (specTableOk_any HR2.out rfl (by omega)).mono ?_
    rw [HB.out]
    rintro z w3 ⟨rfl, C⟩
    have HR3 := Lib.hid (HR2.out.calm C)
    have HB3 := Lib.hid (below_calm HB2.out HB2.out.size C)
    clear C HR2 HB2
    have hs0 : tabB [] = false := rfl
    cases β
    · go_wp2_with fail
      refine (implTableOk_any (n := 0) (rs := []) (fun i hi => by simp at hi) rfl (by omega)).mono ?_
      rw [hs0]
      rintro z w5 ⟨rfl, C⟩
      have B5 := Lib.hid (below_calm (HB3.out.alloc HB3.out.size (.cells #[] 47)) (HB3.out.alloc HB3.out.size (.cells #[] 47)).size C)
      clear C
      go_wp2_with fail
      refine (alive_any _).mono ?_
      rintro z w6 ⟨rfl, hw6⟩
      subst hw6
      go_wp2_with fail
      go_ret
      exact ⟨rfl, B5.out⟩
    · by_cases h2 : rs.length < 2
      · go_wp2_with fail
        refine (implTableOk_any (n := 0) (rs := []) (fun i hi => by simp at hi) rfl (by omega)).mono ?_
        rw [hs0]
        rintro z w5 ⟨rfl, C⟩
        have B5 := Lib.hid (below_calm (HB3.out.alloc HB3.out.size (.cells #[] 47)) (HB3.out.alloc HB3.out.size (.cells #[] 47)).size C)
        clear C
        go_wp2_with fail
        refine (alive_any _).mono ?_
        rintro z w6 ⟨rfl, hw6⟩
        subst hw6
        go_wp2_with fail
        go_ret
        exact ⟨rfl, B5.out⟩
      · have HL := Lib.hid (tabB_less HB.out (by omega))
        go_wp2_with fail
        refine (implTableOk_any (HR3.out.take (rs.length - 1)) (by rw [List.length_take]; omega) (by omega)).mono ?_
        rw [HL.out]
        rintro z w4 ⟨rfl, C⟩
        have HB4 := Lib.hid (below_calm HB3.out HB3.out.size C)
        clear C HR3 HB3
        go_wp2_with fail
        refine (implTableOk_any (n := 0) (rs := []) (fun i hi => by simp at hi) rfl (by omega)).mono ?_
        rw [hs0]
        rintro z w5 ⟨rfl, C⟩
        have B5 := Lib.hid (below_calm (HB4.out.alloc HB4.out.size (.cells #[] 47)) (HB4.out.alloc HB4.out.size (.cells #[] 47)).size C)
        clear C
        go_wp2_with fail
        refine (alive_any _).mono ?_
        rintro z w6 ⟨rfl, hw6⟩
        subst hw6
        go_wp2_with fail
        go_ret
        exact ⟨rfl, B5.out⟩

end Go.Proofs.Ythbebgnjidaokaa
