/-
  The comparisons of the statements, at the same words on both sides: they answer yes.
-/
import Derived.Test.YthbebgnjidaokaaDoorNum
import Derived.Below
namespace Go.Proofs.YthbebgnjidaokaaDoor
open Go.RowKit Fl
open Ieee

/-- The word of a part, widened. -/
theorem yW_spec {x : Nat} (h : fin .f32 x = true) : floatToFloatBits .f32 x .f64 = some (yW x) ∧ fin .f64 (yW x) = true ∧ V FloatKind.f64.format (yW x) = V FloatKind.f32.format x := by
  obtain ⟨r, h1, h2, h3⟩ := widen_spec (fin_num.1 h)
  have : yW x = r := by unfold yW; rw [h1]; rfl
  rw [this]
  exact ⟨h1, fin_num.2 h2, h3⟩

theorem fin_not_nan {k : FloatKind} {x : Nat} (h : fin k x = true) : (k.format.read x).isNaN = false := by
  unfold fin at h
  cases hr : k.format.read x with
  | nan => rw [hr] at h; cases h
  | number => rfl
  | infinity => rfl

theorem widen_walk {a b : Nat} (ha : fin .f32 a = true) (hb : fin .f32 b = true) (w : World) :
    (convert 33 48 (.complex .f32 a b)).run Tryd.prog w = .ok (.complex .f64 (yW a) (yW b)) w := by
  refine run_convert_complex w _ _ .f32 .f64 _ _ _ _ ?_ Tryd.underlying48 ?_
  · rw [Tryd.underlying33]; rfl
  · unfold cConvBits
    rw [(yW_spec ha).1, (yW_spec hb).1]
    rfl

/-- 1 divided by a zero is an infinity. -/
theorem inv_zero {x : Nat} (h : FloatKind.f64.format.order x 0 = some .eq) : ∃ r, floatBits .quo .f64 4607182418800017408 x = some r := by
  unfold Format.order at h
  have h0 : FloatKind.f64.format.read 0 = .number false 0 FloatKind.f64.format.leastPlace := by decide
  have h1 : FloatKind.f64.format.read 4607182418800017408 = .number false 4503599627370496 (-52) := by decide
  rw [h0] at h
  show ∃ r, FloatKind.f64.format.div 4607182418800017408 x = some r
  unfold Format.div
  rw [h1]
  cases hr : FloatKind.f64.format.read x with
  | nan => rw [hr] at h; cases h
  | infinity s => rw [hr] at h; cases s <;> cases h
  | number s m e =>
    unfold Datum.quotient
    simp only
    split <;> exact ⟨_, rfl⟩

set_option maxHeartbeats 400000 in
theorem sameFloat_same (x : Nat) (w : World) :
    Calls Tryd.prog 46 #[.float .f64 x, .float .f64 x] w fun e w' => e = .returned (.bool true) ∧ ∃ n, w' = w.drewN n := by
  cases hn : (FloatKind.f64.format.read x).isNaN
  · have ho := order_self FloatKind.f64.format hn
    cases hz : (FloatKind.f64.format.order x 0 == some .eq)
    · go_enter Tryd.func46, Tryd.ntmps46
      go_wp2
      go_ret
      exact ⟨rfl, 0, rfl⟩
    · obtain ⟨r, hr⟩ := inv_zero (by simpa using hz)
      have e1 : ∀ w, fres .quo .f64 4607182418800017408 x w = r := fun w => fres_some w hr
      have e2 : fask .quo .f64 4607182418800017408 x = 0 := fask_some hr
      go_enter Tryd.func46, Tryd.ntmps46
      go_wp2
      go_ret
      exact ⟨by simp, _, rfl⟩
  · have ho := order_not FloatKind.f64.format (x := x) (y := x) (.inl hn)
    go_enter Tryd.func46, Tryd.ntmps46
    go_wp2
    go_ret
    exact ⟨rfl, 0, rfl⟩

set_option maxHeartbeats 400000 in
theorem sameComplex_same (a b : Nat) (w : World) :
    Calls Tryd.prog 33 #[.complex .f64 a b, .complex .f64 a b] w fun e w' => e = .returned (.bool true) ∧ ∃ n, w' = w.drewN n := by
  go_enter Tryd.func33, Tryd.ntmps33
  go_wp2_with (go_at_call 46; refine (sameFloat_same _ _).mono ?_; rintro e w' ⟨rfl, n, rfl⟩)
  go_ret
  exact ⟨rfl, _, rfl⟩

theorem below_drewN {B : Nat} {a w : World} (h : Below B a w) (n : Nat) : Below B a (w.drewN n) := ⟨h.os, h.tape, h.output, h.size, h.block⟩

theorem order_eq {k : FloatKind} {x : Nat} (h : fin k x = true) : k.format.order x x = some .eq := order_self _ (fin_not_nan h)

theorem fin_zero32 : fin .f32 0 = true := by decide

end Go.Proofs.YthbebgnjidaokaaDoor
