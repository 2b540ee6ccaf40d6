/-
  The comparisons of the statements, at the same words on both sides: they answer yes.
-/
import Derived.Test.YthbebgnjidaokaaGreatDoorNum
import Derived.Below
namespace Go.Proofs.YthbebgnjidaokaaGreatDoor
open Go.RowKit Fl
open Ieee

/-- The word of a part, widened. -/
theorem yW_spec {x : Nat} (h : fin .f32 x = true) : floatToFloatBits .f32 x .f64 = some (yW x) ∧ fin .f64 (yW x) = true ∧ V FloatKind.f64.format (yW x) = V FloatKind.f32.format x := by
  obtain ⟨r, h1, h2, h3⟩ := widen_spec (fin_num.1 h)
  have : yW x = r := by unfold yW; rw [h1]; rfl
  rw [this]
  exact ⟨h1, fin_num.2 h2, h3⟩

theorem fin_not_nan {k : FloatKind} {x : Nat} (h : fin k x = true) : (k.format.read x).isNaN = false := by
  unfold fin at h
  cases hr : k.format.read x with
  | nan => rw [hr] at h; cases h
  | number => rfl
  | infinity => rfl

theorem widen_walk {a b : Nat} (ha : fin .f32 a = true) (hb : fin .f32 b = true) (w : World) :
    (convert 30 71 (.complex .f32 a b)).run Tryz.prog w = .ok (.complex .f64 (yW a) (yW b)) w := by
  refine run_convert_complex w _ _ .f32 .f64 _ _ _ _ ?_ Tryz.underlying71 ?_
  · rw [Tryz.underlying30]; rfl
  · unfold cConvBits
    rw [(yW_spec ha).1, (yW_spec hb).1]
    rfl

/-- 1 divided by a zero is an infinity. -/
theorem inv_zero {x : Nat} (h : FloatKind.f64.format.order x 0 = some .eq) : ∃ r, floatBits .quo .f64 4607182418800017408 x = some r := by
  unfold Format.order at h
  have h0 : FloatKind.f64.format.read 0 = .number false 0 FloatKind.f64.format.leastPlace := by decide
  have h1 : FloatKind.f64.format.read 4607182418800017408 = .number false 4503599627370496 (-52) := by decide
  rw [h0] at h
  show ∃ r, FloatKind.f64.format.div 4607182418800017408 x = some r
  unfold Format.div
  rw [h1]
  cases hr : FloatKind.f64.format.read x with
  | nan => rw [hr] at h; cases h
  | infinity s => rw [hr] at h; cases s <;> cases h
  | number s m e =>
    unfold Datum.quotient
    simp only
    split <;> exact ⟨_, rfl⟩

set_option maxHeartbeats 400000 in
theorem samePart_eq (x y : Nat) (w : World) (h : FloatKind.f64.format.order x y = some .eq) :
    Calls Tryz.prog 35 #[.float .f64 x, .float .f64 y] w fun e w' => e = .returned (.bool true) ∧ ∃ n, w' = w.drewN n := by
  go_enter Tryz.func35, Tryz.ntmps35
  go_wp2
  go_ret
  exact ⟨rfl, 0, rfl⟩

set_option maxHeartbeats 400000 in
theorem samePart_nan (x y : Nat) (w : World) (hx : (FloatKind.f64.format.read x).isNaN = true) (hy : (FloatKind.f64.format.read y).isNaN = true) :
    Calls Tryz.prog 35 #[.float .f64 x, .float .f64 y] w fun e w' => e = .returned (.bool true) ∧ ∃ n, w' = w.drewN n := by
  have h1 := order_not FloatKind.f64.format (x := x) (y := y) (.inl hx)
  have h2 := order_not FloatKind.f64.format (x := x) (y := x) (.inl hx)
  have h3 := order_not FloatKind.f64.format (x := y) (y := y) (.inl hy)
  clear hx hy
  go_enter Tryz.func35, Tryz.ntmps35
  go_wp2
  go_ret
  exact ⟨rfl, 0, rfl⟩

/-- The same part, widened twice. -/
theorem samePart_widened (x : Nat) (w1 w2 w : World) :
    Calls Tryz.prog 35 #[.float .f64 (fconv .f32 x .f64 w1), .float .f64 (fconv .f32 x .f64 w2)] w fun e w' => e = .returned (.bool true) ∧ ∃ n, w' = w.drewN n := by
  cases hr : FloatKind.f32.format.read x with
  | number s m e =>
    have hf : fin .f32 x = true := by unfold fin; rw [hr]; rfl
    obtain ⟨h1, h2, _⟩ := yW_spec hf
    rw [fconv_some w1 h1, fconv_some w2 h1]
    exact samePart_eq _ _ w (order_self _ (fin_not_nan h2))
  | infinity s =>
    have h1 := fconv_inf hr
    rw [fconv_some w1 h1, fconv_some w2 h1]
    exact samePart_eq _ _ w (by cases s <;> decide)
  | nan s t =>
    exact samePart_nan _ _ w (fconv_nan w1 (by rw [hr]; rfl)) (fconv_nan w2 (by rw [hr]; rfl))

set_option maxHeartbeats 400000 in
theorem sameBits_same (a b : Nat) (w : World) :
    Calls Tryz.prog 11 #[.complex .f32 a b, .complex .f32 a b] w fun e w' => e = .returned (.bool true) ∧ ∃ n, w' = w.drewN n := by
  go_enter Tryz.func11, Tryz.ntmps11
  go_wp2_with (go_at_call 35; refine (samePart_widened _ _ _ _).mono ?_; rintro e w' ⟨rfl, n, rfl⟩)
  go_ret
  exact ⟨rfl, _, rfl⟩

theorem below_drewN {B : Nat} {a w : World} (h : Below B a w) (n : Nat) : Below B a (w.drewN n) := ⟨h.os, h.tape, h.output, h.size, h.block⟩

theorem order_eq {k : FloatKind} {x : Nat} (h : fin k x = true) : k.format.order x x = some .eq := order_self _ (fin_not_nan h)

theorem fin_zero32 : fin .f32 0 = true := by decide

end Go.Proofs.YthbebgnjidaokaaGreatDoor
