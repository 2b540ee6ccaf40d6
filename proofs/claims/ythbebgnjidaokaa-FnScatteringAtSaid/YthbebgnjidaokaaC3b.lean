/-
  Contracts: the chain with its ends exchanged, the determinant, and the statements' test of whole matrices.
-/
import Derived.Test.YthbebgnjidaokaaC3
namespace Go.Proofs.Ythbebgnjidaokaa
open Go.RowKit Fl

/-- A number, and whether it is told. -/
def ToldC (x : Ending) : Prop := ∃ (e f : Nat) (β : Bool), x = .returned (.tuple #[.complex .f32 e f, .bool β])

/-- The difference of two whole numbers. -/
theorem diff_int {a b c d : Nat} {i j k l : Int} (h1 : IsInt a b i j) (h2 : IsInt c d k l) (bi : i.natAbs ≤ 2000000) (bj : j.natAbs ≤ 2000000) (bk : k.natAbs ≤ 2000000) (bl : l.natAbs ≤ 2000000) :
    ∃ e f, (∀ w, fres .sub .f32 a c w = e) ∧ fask .sub .f32 a c = 0 ∧ (∀ w, fres .sub .f32 b d w = f) ∧ fask .sub .f32 b d = 0 ∧ IsInt e f (i - k) (j - l) := by
  obtain ⟨ha, hb, va, vb⟩ := h1
  obtain ⟨hc, hd, vc, vd⟩ := h2
  obtain ⟨e, e1, e2, e3⟩ := sub32_exact ha hc va vc (by omega)
  obtain ⟨f, f1, f2, f3⟩ := sub32_exact hb hd vb vd (by omega)
  exact ⟨e, f, fun w => fres_some w e1, fask_some e1, fun w => fres_some w f1, fask_some f1, e2, f2, e3, f3⟩

/-- What the test of whole matrices gives. -/
def WholeTwo (a b c d e f g h : Nat) (most : Int) (w : World) (x : Ending) (w' : World) : Prop :=
  ∃ β : Bool, x = .returned (.bool β) ∧ Calm w w' ∧ (β = true → Whole a b most ∧ Whole c d most ∧ Whole e f most ∧ Whole g h most)

set_option maxHeartbeats 1000000 in
theorem wholeTwo_any (a b c d e f g h : Nat) (most : Int) (w : World) (h0 : 0 ≤ most) (h1 : most ≤ 9999) :
    Calls Try.prog 24 #[twoV a b c d e f g h, .int .i64 most] w (WholeTwo a b c d e f g h most w) := by
  go_enter Try.func24, Try.ntmps24
  go_wp2_with fail
  refine (whole_any _ _ _ _ h0 h1).mono ?_
  rintro x w1 ⟨β, n1, rfl, rfl, hβ⟩
  have H1 := Lib.hid hβ
  clear hβ
  cases β
  · go_wp2_with fail
    go_ret
    exact ⟨_, rfl, grown_drewN (calm_new w _) _, fun h => by cases h⟩
  go_wp2_with fail
  refine (whole_any _ _ _ _ h0 h1).mono ?_
  rintro x w1 ⟨β, n2, rfl, rfl, hβ⟩
  have H2 := Lib.hid hβ
  clear hβ
  cases β
  · go_wp2_with fail
    go_ret
    exact ⟨_, rfl, grown_drewN (calm_new w _) _, fun h => by cases h⟩
  go_wp2_with fail
  refine (whole_any _ _ _ _ h0 h1).mono ?_
  rintro x w1 ⟨β, n3, rfl, rfl, hβ⟩
  have H3 := Lib.hid hβ
  clear hβ
  cases β
  · go_wp2_with fail
    go_ret
    exact ⟨_, rfl, grown_drewN (calm_new w _) _, fun h => by cases h⟩
  go_wp2_with fail
  refine (whole_any _ _ _ _ h0 h1).mono ?_
  rintro x w1 ⟨β, n4, rfl, rfl, hβ⟩
  have H4 := Lib.hid hβ
  clear hβ
  cases β
  · go_wp2_with fail
    go_ret
    exact ⟨_, rfl, grown_drewN (calm_new w _) _, fun h => by cases h⟩
  · go_wp2_with fail
    go_ret
    exact ⟨_, rfl, grown_drewN (calm_new w _) _, fun _ => ⟨H1.out (by trivial), H2.out (by trivial), H3.out (by trivial), H4.out (by trivial)⟩⟩

end Go.Proofs.Ythbebgnjidaokaa
