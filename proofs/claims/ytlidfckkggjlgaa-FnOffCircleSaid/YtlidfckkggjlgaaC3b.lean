/-
  Contracts: the chain with its ends exchanged, the determinant, and the statements' test of whole matrices.
-/
import Derived.Test.YtlidfckkggjlgaaC3
namespace Go.Proofs.Ytlidfckkggjlgaa
open Go.RowKit Fl

/-- A number, and whether it is told. -/
def ToldC (x : Ending) : Prop := ∃ (e f : Nat) (β : Bool), x = .returned (.tuple #[.complex .f32 e f, .bool β])

theorem ifFinite_any2 (a b : Nat) (w : World) :
    Calls Try.prog 52 #[.complex .f32 a b] w fun x w' => ToldC x ∧ ∃ n, w' = w.drewN n := by
  refine (ifFinite_any a b w).mono ?_
  rintro e w1 ⟨rfl, n, rfl⟩
  refine ⟨?_, n, rfl⟩
  cases (fin .f32 a && fin .f32 b)
  · exact ⟨_, _, _, rfl⟩
  · exact ⟨_, _, _, rfl⟩

set_option maxHeartbeats 1000000 in
/-- Whatever the numbers are, Product tells something. -/
theorem implProduct_any (a b c d : Nat) (w : World) :
    Calls Try.prog 55 #[.complex .f32 a b, .complex .f32 c d] w fun x w' => ToldC x ∧ ∃ n, w' = w.drewN n := by
  have hm := fun (P : Program) (t : TypeId) (w : World) => run_c_mul P t a b c d w
  obtain ⟨β, hβ⟩ : ∃ β, (fin .f32 a && fin .f32 b) = β := ⟨_, rfl⟩
  obtain ⟨γ, hγ⟩ : ∃ γ, (fin .f32 c && fin .f32 d) = γ := ⟨_, rfl⟩
  have HB := Lib.hid hβ
  have HC := Lib.hid hγ
  clear hβ hγ
  cases β
  · go_enter Try.func55, Try.ntmps55
    go_wp2_with fail
    refine (implFinite_any _ _ _).mono ?_
    rw [HB.out]
    rintro e w1 ⟨rfl, n, rfl⟩
    go_wp2_with fail
    go_ret2
    exact ⟨⟨_, _, _, rfl⟩, _, rfl⟩
  · cases γ
    all_goals
      go_enter Try.func55, Try.ntmps55
      go_wp2_with fail
      refine (implFinite_any _ _ _).mono ?_
      rw [HB.out]
      rintro e w1 ⟨rfl, n, rfl⟩
      go_wp2_with fail
      refine (implFinite_any _ _ _).mono ?_
      rw [HC.out]
      rintro e w1 ⟨rfl, n2, rfl⟩
      go_wp2_with fail
    · go_ret2
      exact ⟨⟨_, _, _, rfl⟩, _, rfl⟩
    · refine (ifFinite_any2 _ _ _).mono ?_
      rintro e w1 ⟨⟨u, v, δ, rfl⟩, n3, rfl⟩
      go_wp2_with fail
      go_ret2
      exact ⟨⟨_, _, _, rfl⟩, _, rfl⟩

theorem ifFinite_of {a b : Nat} (ha : fin .f32 a = true) (hb : fin .f32 b = true) (w : World) :
    Calls Try.prog 52 #[.complex .f32 a b] w fun x w' => x = .returned (.tuple #[.complex .f32 a b, .bool true]) ∧ ∃ n, w' = w.drewN n := by
  refine (ifFinite_any a b w).mono ?_
  rw [ha, hb]
  rintro e w1 ⟨rfl, n, rfl⟩
  exact ⟨rfl, n, rfl⟩

/-- The difference of two whole numbers. -/
theorem diff_int {a b c d : Nat} {i j k l : Int} (h1 : IsInt a b i j) (h2 : IsInt c d k l) (bi : i.natAbs ≤ 2000000) (bj : j.natAbs ≤ 2000000) (bk : k.natAbs ≤ 2000000) (bl : l.natAbs ≤ 2000000) :
    ∃ e f, (∀ w, fres .sub .f32 a c w = e) ∧ fask .sub .f32 a c = 0 ∧ (∀ w, fres .sub .f32 b d w = f) ∧ fask .sub .f32 b d = 0 ∧ IsInt e f (i - k) (j - l) := by
  obtain ⟨ha, hb, va, vb⟩ := h1
  obtain ⟨hc, hd, vc, vd⟩ := h2
  obtain ⟨e, e1, e2, e3⟩ := sub32_exact ha hc va vc (by omega)
  obtain ⟨f, f1, f2, f3⟩ := sub32_exact hb hd vb vd (by omega)
  exact ⟨e, f, fun w => fres_some w e1, fask_some e1, fun w => fres_some w f1, fask_some f1, e2, f2, e3, f3⟩

/-- What the test of whole matrices gives. -/
def WholeTwo (a b c d e f g h : Nat) (most : Int) (w : World) (x : Ending) (w' : World) : Prop :=
  ∃ β : Bool, x = .returned (.bool β) ∧ Calm w w' ∧ (β = true → Whole a b most ∧ Whole c d most ∧ Whole e f most ∧ Whole g h most)

end Go.Proofs.Ytlidfckkggjlgaa
