/-
  The walk of FnColumnOf: it answers true.
-/
import Derived.Test.YthbebgnjidaokaaWTableOk
import Derived.Test.YthbebgnjidaokaaICol
import Derived.Test.YthbebgnjidaokaaSameCol
namespace Go.Proofs.Ythbebgnjidaokaa
open Go.RowKit Fl

set_option maxRecDepth 8000 in
set_option maxHeartbeats 2000000 in
theorem drawColumn_any {a : Option Addr} {len cap : Nat} {zs : List Int} {w : World} (h : IsRow .u8 w a len cap zs) :
    Calls Try.prog 11 #[.slice a len cap] w fun e w' => ∃ (g c : Nat) (rs : List RowW) (k : Int), e = .returned (.tuple #[.slice (some ⟨g, 0, none⟩) rs.length c, .int .i64 k]) ∧ rs.length ≤ 9 ∧ rs.length ≤ c ∧ -1 ≤ k ∧ k ≤ 4 ∧ Row5 w' g rs ∧ Below w.heap.size w w' := by
  go_enter Try.func11, Try.ntmps11
  go_wp2_with fail
  refine (open_any h).mono ?_
  rintro e w1 ⟨b, a1, len1, cap1, rfl, R1, hb, B1⟩
  go_wp2_with fail
  refine (table_any R1 (by omega) (by omega) (by omega)).mono ?_
  rintro e w2 ⟨g, c, k2, rs, rfl, hl, _, hk2, R2, O2, G2⟩
  have HO := Lib.hid O2
  have HB := Lib.hid (below_drawn B1 hb B1.size G2)
  clear O2 G2 B1
  have hlt := R1.lt
  go_wp2_with fail
  refine (pick_any R2 (by omega) (by omega) (by omega)).mono ?_
  rintro e w3 ⟨q, m3, q0, q1, rfl, hw3⟩
  have G3 : w2.grownBy w3 (some b) := by rw [hw3]; exact grown_drewN (Lib.grownBy_setB (grown_refl _ _) 1 _) m3
  have R3 : Rd w3 b a1 len1 cap1 (k2 + 1) := by rw [hw3]; exact R2.step m3
  clear hw3 R2
  go_wp2_with fail
  refine (pick_any R3 (by omega) (by omega) (by omega)).mono ?_
  rintro e w4 ⟨p, m4, p0, p1, rfl, hw4⟩
  have G4 : w3.grownBy w4 (some b) := by rw [hw4]; exact grown_drewN (Lib.grownBy_setB (grown_refl _ _) 1 _) m4
  clear hw4 R3
  have G := Lib.grownBy_trans G3 G4
  have O4 := Lib.hid (HO.out.kept G (.inr (by intro e; have := (HO.out.lt _ e).1; omega)))
  have B4 := Lib.hid (below_drawn HB.out hb HB.out.size G)
  clear G G3 G4 HO HB
  go_wp2_with fail
  go_ret2
  exact ⟨g, c, rs, _, rfl, hl, (own_cells O4.out).2.2.2.2, by omega, by omega, row5_of O4.out, B4.out⟩

set_option maxRecDepth 8000 in
set_option maxHeartbeats 4000000 in
theorem FnColumnOf_walk (a : Option Addr) (len cap : Nat) (zs : List Int) (w : World) (h : IsRow .u8 w a len cap zs) :
    Calls Try.prog 4 #[.slice a len cap] w fun e w' => e = .returned (.bool true) ∧ Below w.heap.size w w' := by
  by_cases hl : (1048576 : Int) < (len : Int)
  · go_enter Try.func4, Try.ntmps4
    go_wp2_with fail
    go_ret
    exact ⟨rfl, Below.refl _ _⟩
  · go_enter Try.func4, Try.ntmps4
    go_wp2_with fail
    refine (drawColumn_any h).mono ?_
    rintro e w1 ⟨g, c, rs, k, rfl, h9, hrc, k0, k1, R1, B1⟩
    clear h
    have HR1 := Lib.hid R1
    have HB1 := Lib.hid B1
    clear R1 B1
    go_wp2_with fail
    refine (implColumn_any HR1.out rfl (by omega) (by omega) (by omega)).mono ?_
    rintro z w2 ⟨ca, cc, rfl, CA, C⟩
    have HR2 := Lib.hid (HR1.out.calm C)
    have HB2 := Lib.hid (below_calm HB1.out HB1.out.size C)
    have HC2 := Lib.hid CA
    clear C HR1 HB1 CA
    go_wp2_with fail
    refine (specColumn_any HR2.out rfl (by omega) (by omega) (by omega)).mono ?_
    rintro z w3 ⟨cx, cd, rfl, CX, C⟩
    have HR3 := Lib.hid (HR2.out.calm C)
    have HB3 := Lib.hid (below_calm HB2.out HB2.out.size C)
    have HC3 := Lib.hid (HC2.out.calm C)
    have HX3 := Lib.hid CX
    clear C HR2 HB2 HC2 CX
    have hcl : (colB rs k).length ≤ 9 := by
      unfold colB
      split
      · rw [List.length_map]; exact h9
      · simp
    go_wp2_with fail
    refine (sameColumn_same HC3.out HX3.out rfl (by omega)).mono ?_
    rintro z w4 ⟨rfl, C⟩
    have HR4 := Lib.hid (HR3.out.calm C)
    have HB4 := Lib.hid (below_calm HB3.out HB3.out.size C)
    clear C HR3 HB3 HC3 HX3
    cases hT : tabB rs
    · have hcol : colB rs k = [] := by unfold colB; rw [hT]; rfl
      have HT := Lib.hid hT
      rw [hcol]
      clear hT hcol hcl
      go_wp2_with fail
      refine (implTableOk_any HR4.out rfl (by omega)).mono ?_
      rw [HT.out]
      rintro z w5 ⟨rfl, C⟩
      have HB5 := Lib.hid (below_calm HB4.out HB4.out.size C)
      clear C HR4 HB4
      go_wp2_with fail
      refine (alive_any _).mono ?_
      rintro z w6 ⟨rfl, hw6⟩
      subst hw6
      go_wp2_with fail
      go_ret
      exact ⟨rfl, HB5.out⟩
    · by_cases hk : 0 ≤ k ∧ k ≤ 3
      · have hcol : (colB rs k).length = rs.length := by
          unfold colB
          rw [hT, if_pos (by simp; exact hk), List.length_map]
        have hlen := (tabB_len hT).1
        obtain ⟨n, hn⟩ : ∃ n, rs.length = n := ⟨_, rfl⟩
        rw [hcol, hn]
        rw [hn] at hlen
        have hn0 : ¬(n = 0) := by omega
        clear hT hcol hcl
        go_wp2_with fail
        go_ret
        exact ⟨rfl, HB4.out⟩
      · have hcol : colB rs k = [] := by
          unfold colB
          rw [if_neg (by simp; omega)]
        have HT := Lib.hid hT
        rw [hcol]
        clear hT hcol hcl
        by_cases hk0 : k < 0
        · go_wp2_with fail
          refine (implTableOk_any HR4.out rfl (by omega)).mono ?_
          rw [HT.out]
          rintro z w5 ⟨rfl, C⟩
          have HB5 := Lib.hid (below_calm HB4.out HB4.out.size C)
          clear C HR4 HB4
          go_wp2_with fail
          refine (alive_any _).mono ?_
          rintro z w6 ⟨rfl, hw6⟩
          subst hw6
          go_wp2_with fail
          go_ret
          exact ⟨rfl, HB5.out⟩
        · have hk3 : 3 < k := by omega
          go_wp2_with fail
          refine (implTableOk_any HR4.out rfl (by omega)).mono ?_
          rw [HT.out]
          rintro z w5 ⟨rfl, C⟩
          have HB5 := Lib.hid (below_calm HB4.out HB4.out.size C)
          clear C HR4 HB4
          go_wp2_with fail
          refine (alive_any _).mono ?_
          rintro z w6 ⟨rfl, hw6⟩
          subst hw6
          go_wp2_with fail
          go_ret
          exact ⟨rfl, HB5.out⟩

end Go.Proofs.Ythbebgnjidaokaa
