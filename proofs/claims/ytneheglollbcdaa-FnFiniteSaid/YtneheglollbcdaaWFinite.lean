/-
  The walk of FnFinite: it answers true.
-/
import Derived.Test.YtneheglollbcdaaDraw3
import Derived.Test.YtneheglollbcdaaSame
namespace Go.Proofs.Ytneheglollbcdaa
open Go.RowKit Fl

theorem milli57 : milliV (-5) 7 = .complex .f32 (milliB (-5)) (milliB 7) ∧ fin .f32 (milliB (-5)) = true ∧ fin .f32 (milliB 7) = true := by
  refine ⟨rfl, fin_milli (by decide) (by decide), fin_milli (by decide) (by decide)⟩

set_option maxHeartbeats 1000000 in
theorem FnFinite_walk (a : Option Addr) (len cap : Nat) (zs : List Int) (w : World) (h : IsRow .u8 w a len cap zs) :
    Calls Try.prog 3 #[.slice a len cap] w fun e w' => e = .returned (.bool true) ∧ Below w.heap.size w w' := by
  by_cases hl : (1048576 : Int) < (len : Int)
  · go_enter Try.func3, Try.ntmps3
    go_wp2_with fail
    go_ret
    exact ⟨rfl, Below.refl _ _⟩
  · have H57 := Lib.hid milli57.1
    go_enter Try.func3, Try.ntmps3
    go_wp2_with fail
    refine (drawFinite_any h).mono ?_
    rintro e w1 ⟨v, ⟨x, y, re, im, rfl, hrest⟩, rfl, B1⟩
    clear hrest h
    obtain ⟨fx, hfx⟩ : ∃ β, fin .f32 x = β := ⟨_, rfl⟩
    obtain ⟨fy, hfy⟩ : ∃ β, fin .f32 y = β := ⟨_, rfl⟩
    have o1 : fx = true → FloatKind.f32.format.order x x = some .eq := fun h => order_eq (by rw [hfx, h])
    have o2 : fy = true → FloatKind.f32.format.order y y = some .eq := fun h => order_eq (by rw [hfy, h])
    have O1 := Lib.hid o1
    have O2 := Lib.hid o2
    have FX := Lib.hid hfx
    have FY := Lib.hid hfy
    clear o1 o2 hfx hfy
    cases fx <;> cases fy
    all_goals
      try have p1 := O1.out rfl
      try have p2 := O2.out rfl
      go_wp2_with fail
      refine (implFinite_any _ _ _).mono ?_
      rw [FX.out, FY.out]
      rintro e w2 ⟨rfl, n2, rfl⟩
      go_wp2_with fail
      refine (specFinite_any _ _ _).mono ?_
      rw [FX.out, FY.out]
      rintro e w2 ⟨rfl, n3, rfl⟩
      go_wp2_with fail
      refine (implFinite_any _ _ _).mono ?_
      rw [FX.out, FY.out]
      rintro e w2 ⟨rfl, n4, rfl⟩
      go_wp2_with fail
      refine (implMilli_any _ _ _).mono ?_
      rintro e w2 ⟨rfl, rfl⟩
      rw [H57.out]
      go_wp2_with fail
      refine (implFinite_any _ _ _).mono ?_
      rw [milli57.2.1, milli57.2.2]
      rintro e w2 ⟨rfl, n5, rfl⟩
      go_wp2_with fail
      refine (alive_any _).mono ?_
      rintro e w2 ⟨rfl, rfl⟩
      go_wp2_with fail
      go_ret
      exact ⟨rfl, below_drewN B1 _⟩

end Go.Proofs.Ytneheglollbcdaa
