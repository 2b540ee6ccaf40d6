/-
  The walk of FnTurned: it answers true.
-/
import Derived.Test.YtneheglollbcdaaDraw3
import Derived.Test.YtneheglollbcdaaPow
namespace Go.Proofs.Ytneheglollbcdaa
open Go.RowKit Fl

theorem numOk_lt {n : Int} {x y : Nat} {re im : Int} (r0 : -25000 ≤ re) (r1 : re ≤ 50000) (i0 : -25000 ≤ im) (i1 : im ≤ 50000)
    (h : (x = milliB re ∧ y = milliB im) ∨ (n ≠ 0 ∧ Odd x y re im)) : y < 2 ^ 32 := by
  have hr : milliB re < 2 ^ 32 := milli_lt (by omega) (by omega)
  have hi : milliB im < 2 ^ 32 := milli_lt (by omega) (by omega)
  rcases h with ⟨_, h⟩ | ⟨_, ⟨_, h⟩ | ⟨_, _, h⟩ | ⟨_, h⟩ | ⟨_, h⟩ | ⟨_, h⟩ | ⟨_, h⟩⟩ <;> omega

set_option maxHeartbeats 1000000 in
theorem FnTurned_walk (a : Option Addr) (len cap : Nat) (zs : List Int) (w : World) (h : IsRow .u8 w a len cap zs) :
    Calls Try.prog 9 #[.slice a len cap] w fun e w' => e = .returned (.bool true) ∧ Below w.heap.size w w' := by
  by_cases hl : (1048576 : Int) < (len : Int)
  · go_enter Try.func9, Try.ntmps9
    go_wp2_with fail
    go_ret
    exact ⟨rfl, Below.refl _ _⟩
  · go_enter Try.func9, Try.ntmps9
    go_wp2_with fail
    refine (drawTurned_any h).mono ?_
    rintro e w1 ⟨v, ⟨x, y, re, im, rfl, r0, r1, i0, i1, hrest⟩, rfl, B1⟩
    have hy := numOk_lt r0 r1 i0 i1 hrest
    have ho := order_eq (powV_num x y)
    have PN := Lib.hid (powV_neg (x := x) hy)
    clear hrest h hy
    go_wp2_with fail
    refine (implTurned_any _ _ _).mono ?_
    rintro e w2 ⟨rfl, rfl⟩
    go_wp2_with fail
    refine (specTurned_any _ _ _).mono ?_
    rintro e w2 ⟨rfl, rfl⟩
    go_wp2_with fail
    refine (sameBits_same _ _ _).mono ?_
    rintro e w2 ⟨rfl, n1, rfl⟩
    go_wp2_with fail
    refine (implTurned_any _ _ _).mono ?_
    rw [neg_neg]
    rintro e w2 ⟨rfl, rfl⟩
    go_wp2_with fail
    refine (sameBits_same _ _ _).mono ?_
    rintro e w2 ⟨rfl, n2, rfl⟩
    go_wp2_with fail
    refine (implPower_any _ _ _).mono ?_
    rw [PN.out]
    rintro e w2 ⟨rfl, n3, rfl⟩
    go_wp2_with fail
    refine (implPower_any _ _ _).mono ?_
    rintro e w2 ⟨rfl, n4, rfl⟩
    go_wp2_with fail
    refine (alive_any _).mono ?_
    rintro e w2 ⟨rfl, rfl⟩
    go_wp2_with fail
    go_ret
    exact ⟨rfl, below_drewN B1 _⟩

end Go.Proofs.Ytneheglollbcdaa
