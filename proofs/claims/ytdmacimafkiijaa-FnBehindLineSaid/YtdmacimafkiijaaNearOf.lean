/-
  Nearness in the plane, as the program's Near says it; narrowing what is a float32 number.
-/
import Derived.Test.YtdmacimafkiijaaScatN
namespace Go.Proofs.Ytdmacimafkiijaa
open Go.RowKit Fl
open Ieee

/-- Parts that are not farther from each other than 2^-12 are near with the bound 0.001. -/
theorem near_of {a c : Nat} (ha : fin .f32 a = true) (hc : fin .f32 c = true) (h : absR (V FloatKind.f32.format a - V FloatKind.f32.format c) ≤ p2 (-12)) : nearP a c 4562254508917369340 = true := by
  obtain ⟨_, _, _, d4⟩ := dW_spec ha hc
  obtain ⟨h1, h2⟩ := absR_le.1 h
  have hb := absR_le.2 (rndV_between d4 (c := p2 (-12)) ⟨1, -12, by decide, by decide, by simp⟩ h1 h2)
  have hd : p2 (-12) ≤ V FloatKind.f64.format 4562254508917369340 := by decide +kernel
  unfold nearP
  simp only [decide_eq_true_eq]
  grind

theorem Cm.near {a b c d : Nat} {X Y ε δ : Rat} (h1 : Cm a b X Y ε) (h2 : Cm c d X Y δ) (h : ε + δ ≤ p2 (-12)) : nearB a b c d 4562254508917369340 = true := by
  have m := (h1.2.2.add h2.2.2.neg).le h
  have n1 := near_of h1.1 h2.1 (by have := m.fst; have e : V FloatKind.f32.format a - X + -(V FloatKind.f32.format c - X) = V FloatKind.f32.format a - V FloatKind.f32.format c := by grind
                                   rwa [e] at this)
  have n2 := near_of h1.2.1 h2.2.1 (by have := m.snd; have e : V FloatKind.f32.format b - Y + -(V FloatKind.f32.format d - Y) = V FloatKind.f32.format b - V FloatKind.f32.format d := by grind
                                       rwa [e] at this)
  unfold nearB
  rw [h1.1, h1.2.1, h2.1, h2.2.1, n1, n2]
  rfl

theorem narrow_same {r : Nat} {x : Nat} (hr : fin .f64 r = true) (h : RndV FloatKind.f64.format (V FloatKind.f32.format x) (V FloatKind.f64.format r)) (hx : absR (V FloatKind.f32.format x) ≤ top32) :
    ∃ e, floatToFloatBits .f64 r .f32 = some e ∧ fin .f32 e = true ∧ V FloatKind.f32.format e = V FloatKind.f32.format x := by
  have hh : Has FloatKind.f64.format (V FloatKind.f32.format x) := by
    have := has_prod x 1065353216
    have e : V FloatKind.f32.format 1065353216 = 1 := by decide +kernel
    rw [e, Rat.mul_one] at this
    exact this
  have v := rndV_exact h hh
  obtain ⟨h1, h2⟩ := absR_le.1 hx
  obtain ⟨e, k1, k2, k3⟩ := narrow_top (fin_num.1 hr) (by rw [v]; exact h1) (by rw [v]; exact h2)
  rw [v] at k3
  exact ⟨e, k1, fin_num.2 k2, rndV_exact k3 (has_V _ _)⟩

end Go.Proofs.Ytdmacimafkiijaa
