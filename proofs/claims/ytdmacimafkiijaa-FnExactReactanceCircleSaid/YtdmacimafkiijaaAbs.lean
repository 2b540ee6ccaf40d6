/-
  The absolute value of a part, as the program takes it: through float64, and back.
-/
import Derived.Test.YtdmacimafkiijaaMo
import Derived.Test.YtdmacimafkiijaaTop
namespace Go.Proofs.Ytdmacimafkiijaa
open Go.RowKit Fl

/-- The word of the absolute value. -/
def aQ (q : Nat) : Nat := (floatToFloatBits .f64 (yW q % 2 ^ 63) .f32).getD 0

theorem aQ_spec {q : Nat} (h : fin .f32 q = true) (hB : absR (V FloatKind.f32.format q) ≤ top32) :
    floatToFloatBits .f64 (yW q % 2 ^ 63) .f32 = some (aQ q) ∧ fin .f32 (aQ q) = true ∧ V FloatKind.f32.format (aQ q) = absR (V FloatKind.f32.format q) := by
  obtain ⟨y1, y2, y3⟩ := yW_spec h
  obtain ⟨a1, a2⟩ := abs_spec .f64 (fin_num.1 y2)
  rw [show FloatKind.f64.format.signWeight = 2 ^ 63 by decide] at a1 a2
  have a3 : V FloatKind.f64.format (yW q % 2 ^ 63) = absR (V FloatKind.f32.format q) := by rw [a2, y3]; rfl
  have hn := absR_nonneg (V FloatKind.f32.format q)
  have ht : 0 ≤ top32 := by decide +kernel
  obtain ⟨r, r1, r2, r3⟩ := narrow_top a1 (by rw [a3]; exact hB) (by rw [a3]; grind)
  have hH : Has FloatKind.f32.format (absR (V FloatKind.f32.format q)) := by
    have hh := has_V FloatKind.f32.format q
    rcases absR_cases (V FloatKind.f32.format q) with ⟨_, e⟩ | ⟨_, e⟩
    · rw [e]; exact has_neg hh
    · rw [e]; exact hh
  rw [a3] at r3
  have e : aQ q = r := by unfold aQ; rw [r1]; rfl
  rw [e]
  exact ⟨r1, fin_num.2 r2, rndV_exact r3 hH⟩

set_option maxHeartbeats 1000000 in
theorem absolute_of {q r : Nat} (h : fin .f32 q = true) (hr : floatToFloatBits .f64 (yW q % 2 ^ 63) .f32 = some r) (w : World) :
    Calls Try.prog 53 #[.float .f32 q] w fun x w' => x = .returned (.float .f32 r) ∧ w' = w := by
  obtain ⟨y1, _, _⟩ := yW_spec h
  have a5 : ∀ w, fconv .f32 q .f64 w = yW q := fun w => fconv_some w y1
  have a6 : fcask .f32 q .f64 = 0 := fcask_some y1
  have a7 : ∀ w, fconv .f64 (yW q % 2 ^ 63) .f32 w = r := fun w => fconv_some w hr
  have a8 : fcask .f64 (yW q % 2 ^ 63) .f32 = 0 := fcask_some hr
  have HL := Lib.hid (yW_lt q)
  clear h hr y1
  go_enter Try.func53, Try.ntmps53
  go_wp2_with fail
  refine (abs_any _ _ HL.out).mono ?_
  rintro e w1 ⟨rfl, rfl⟩
  go_wp2_with fail
  go_ret
  exact ⟨rfl, rfl⟩

end Go.Proofs.Ytdmacimafkiijaa
