/-
  The walks of FnTablePart and of FnExactTablePart: they answer true.
-/
import Derived.Test.YteikkbmmbnihaaaTab
import Derived.Test.YteikkbmmbnihaaaDraw3
namespace Go.Proofs.Yteikkbmmbnihaaa
open Go.RowKit Fl

set_option maxHeartbeats 1000000 in
theorem drawTablePart_any {a : Option Addr} {len cap : Nat} {zs : List Int} {w : World} (h : IsRow .u8 w a len cap zs) :
    Calls Try.prog 12 #[.slice a len cap] w (Got (fun v => ∃ k, v = .int .i64 k ∧ -1 ≤ k ∧ k ≤ 9) w) := by
  go_enter Try.func12, Try.ntmps12
  go_wp2_with fail
  refine (open_any h).mono ?_
  rintro e w1 ⟨b, a1, len1, cap1, rfl, R1, hb, B1⟩
  go_wp2_with fail
  refine (pick_any R1 (by omega) (by omega) (by omega)).mono ?_
  rintro e w2 ⟨x, m2, p0, p1, rfl, hw2⟩
  have B2 : Below w.heap.size w w2 := by rw [hw2]; exact below_drawn B1 hb B1.size (step_grown ..)
  clear hw2 R1 B1
  go_wp2_with fail
  go_ret
  exact ⟨_, ⟨_, rfl, by omega, by omega⟩, rfl, B2⟩

set_option maxHeartbeats 1000000 in
theorem FnTablePart_walk (a : Option Addr) (len cap : Nat) (zs : List Int) (w : World) (h : IsRow .u8 w a len cap zs) :
    Calls Try.prog 3 #[.slice a len cap] w fun e w' => e = .returned (.bool true) ∧ Below w.heap.size w w' := by
  by_cases hl : (1048576 : Int) < (len : Int)
  · go_enter Try.func3, Try.ntmps3
    go_wp2_with fail
    go_ret
    exact ⟨rfl, Below.refl _ _⟩
  · go_enter Try.func3, Try.ntmps3
    go_wp2_with fail
    refine (drawTablePart_any h).mono ?_
    rintro e w1 ⟨v, ⟨k, rfl, k0, k1⟩, rfl, B1⟩
    clear h
    cases hk : okP k
    · have hk' : k < 0 ∨ 7 < k := by
        have := mt okP_iff.2 (by rw [hk]; decide)
        omega
      have HP := Lib.hid (show partB k = 0 by unfold partB; rw [hk]; rfl)
      clear hk
      by_cases h0 : k < 0
      all_goals
        try (have h8 : 8 ≤ k := by omega)
        go_wp2_with fail
        refine (implPart_any _ _).mono ?_
        rw [HP.out]
        rintro e w2 ⟨rfl, C⟩
        have B2 := below_calm B1 B1.size C
        clear C
        go_wp2_with fail
        refine (specPart_any _ _).mono ?_
        rw [HP.out]
        rintro e w3 ⟨rfl, C⟩
        have B3 := below_calm B2 B2.size C
        clear C B2
        go_wp2_with fail
        refine (sameBits_same _ _ _).mono ?_
        rintro e w4 ⟨rfl, n, rfl⟩
        go_wp2_with fail
        refine (alive_any _).mono ?_
        rintro e w4 ⟨rfl, rfl⟩
        go_wp2_with fail
        go_ret
        exact ⟨rfl, below_drewN B3 _⟩
    · obtain ⟨h0, h7⟩ := okP_iff.1 hk
      have hc := ptable ⟨k.toNat, by omega⟩
      obtain ⟨k', hk'⟩ : ∃ k', k' = k + 1 - 2 * (k % 2) := ⟨_, rfl⟩
      have e1 : partB k = tabI k.toNat := by unfold partB; rw [hk]; rfl
      have e2 : partB k' = tabI (k.toNat + 1 - 2 * (k.toNat % 2)) := by
        unfold partB
        rw [okP_iff.2 (by omega), if_pos rfl]
        congr 1
        omega
      simp only [pcheck, ← e1, ← e2, Bool.and_eq_true, Bool.not_eq_true'] at hc
      obtain ⟨⟨⟨⟨c1, c2⟩, c3⟩, c4⟩, c5⟩ := hc
      have s1 : ∀ w, fres .add .f32 0 0 w = (floatBits .add .f32 0 0).getD 0 := fun w => fres_some w (by cases hh : floatBits .add .f32 0 0 with | none => rw [hh] at c1; cases c1 | some v => rfl)
      have s2 : fask .add .f32 0 0 = 0 := fask_some (r := (floatBits .add .f32 0 0).getD 0) (by cases hh : floatBits .add .f32 0 0 with | none => rw [hh] at c1; cases c1 | some v => rfl)
      have s3 : ∀ w, fres .add .f32 (partB k) (partB k') w = (floatBits .add .f32 (partB k) (partB k')).getD 0 := fun w => fres_some w (by cases hh : floatBits .add .f32 (partB k) (partB k') with | none => rw [hh] at c2; cases c2 | some v => rfl)
      have s4 : fask .add .f32 (partB k) (partB k') = 0 := fask_some (r := (floatBits .add .f32 (partB k) (partB k')).getD 0) (by cases hh : floatBits .add .f32 (partB k) (partB k') with | none => rw [hh] at c2; cases c2 | some v => rfl)
      generalize (floatBits .add .f32 0 0).getD 0 = u0 at *
      generalize (floatBits .add .f32 (partB k) (partB k')).getD 0 = u1 at *
      have hm : k % 2 = 0 ∨ k % 2 = 1 := by omega
      have HK := Lib.hid hk'
      have ez : (FloatKind.f32.format.order 0 0 == some .eq) = true := by decide
      clear hk c1 c2 e1 e2
      rw [hk'] at s3 s4
      go_wp2_with fail
      refine (implPart_any _ _).mono ?_
      rintro e w2 ⟨rfl, C⟩
      have B2 := below_calm B1 B1.size C
      clear C
      go_wp2_with fail
      refine (specPart_any _ _).mono ?_
      rintro e w3 ⟨rfl, C⟩
      have B3 := below_calm B2 B2.size C
      clear C B2
      go_wp2_with fail
      refine (sameBits_same _ _ _).mono ?_
      rintro e w4 ⟨rfl, n, rfl⟩
      go_wp2_with fail
      refine (implPart_any _ _).mono ?_
      rintro e w5 ⟨rfl, C⟩
      have B5 := below_calm (below_drewN B3 n) (below_drewN B3 n).size C
      clear C B3
      go_wp2_with fail
      go_ret
      exact ⟨rfl, B5⟩

set_option maxHeartbeats 1000000 in
theorem FnExactTablePart_walk (k : Int) (_w0 : (Lit.int .i64 k).wf = true) (w : World) :
    Calls Try.prog 9 #[.int .i64 k] w fun e w' => e = .returned (.bool true) ∧ Below w.heap.size w w' := by
  have hc := widen_walk (show fin .f32 0 = true by decide) (partB_fin k)
  go_enter Try.func9, Try.ntmps9
  go_wp2_with fail
  refine (specPart_any _ _).mono ?_
  rintro e w1 ⟨rfl, C⟩
  have B1 := below_calm (Below.refl w.heap.size w) (Nat.le_refl _) C
  clear C
  go_wp2_with fail
  refine (implPart_any _ _).mono ?_
  rintro e w2 ⟨rfl, C⟩
  have B2 := below_calm B1 B1.size C
  clear C B1
  go_wp2_with fail
  refine (sameComplex_same _ _ _).mono ?_
  rintro e w3 ⟨rfl, n, rfl⟩
  go_wp2_with fail
  go_ret
  exact ⟨rfl, below_drewN B2 _⟩

end Go.Proofs.Yteikkbmmbnihaaa
