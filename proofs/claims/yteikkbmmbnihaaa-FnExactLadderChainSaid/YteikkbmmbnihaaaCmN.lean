/-
  Nearness in the plane, as the program's Near says it; small facts on it.
-/
import Derived.Test.YteikkbmmbnihaaaCm
import Derived.Test.YteikkbmmbnihaaaOps
import Derived.Test.YteikkbmmbnihaaaNear
namespace Go.Proofs.Yteikkbmmbnihaaa
open Go.RowKit Fl
open Ieee

theorem one_cm : Cm 1065353216 0 1 0 0 := Cm.of (by decide) (by decide) (by decide +kernel) (by decide +kernel)
theorem two_cm : Cm 1073741824 0 2 0 0 := Cm.of (by decide) (by decide) (by decide +kernel) (by decide +kernel)
theorem p22_num : p2 (-22) = 1 / 4194304 ∧ p2 (-23) = 1 / 8388608 ∧ p2 (-60) ≤ 1 / 1000000000000 := ⟨by decide +kernel, by decide +kernel, by decide +kernel⟩

theorem Cm.f2 {a b : Nat} {X Y ε : Rat} (h : Cm a b X Y ε) : Fin2 a b := by
  show (fin .f32 a && fin .f32 b) = true
  rw [h.1, h.2.1]
  rfl

theorem Cm.nz {a b : Nat} {X Y ε m : Rat} (h : Cm a b X Y ε) (hm : m * m ≤ X * X + Y * Y) (hε : ε < m) : Nz a b := by
  intro ⟨h1, h2⟩
  have v1 := (order_spec _ (fin_num.1 h.1) zero32.1).2.1.1 h1
  have v2 := (order_spec _ (fin_num.1 h.2.1) zero32.1).2.1.1 h2
  rw [zero32.2] at v1 v2
  obtain ⟨h0, h3⟩ := h.2.2
  rw [v1, v2] at h3
  have := Rat.mul_pos (show 0 < m - ε by grind) (show 0 < m + ε by grind)
  grind

/-- Parts that are not farther from each other than 2^-12 are near with the bound 0.001. -/
theorem near_of {a c : Nat} (ha : fin .f32 a = true) (hc : fin .f32 c = true) (h : absR (V FloatKind.f32.format a - V FloatKind.f32.format c) ≤ p2 (-12)) : nearP a c 4562254508917369340 = true := by
  obtain ⟨_, _, _, d4⟩ := dW_spec ha hc
  obtain ⟨h1, h2⟩ := absR_le.1 h
  have hb := absR_le.2 (rndV_between d4 (c := p2 (-12)) ⟨1, -12, by decide, by decide, by simp⟩ h1 h2)
  have hd : p2 (-12) ≤ V FloatKind.f64.format 4562254508917369340 := by decide +kernel
  unfold nearP
  simp only [decide_eq_true_eq]
  grind

theorem Cm.near {a b c d : Nat} {X Y ε δ : Rat} (h1 : Cm a b X Y ε) (h2 : Cm c d X Y δ) (h : ε + δ ≤ p2 (-12)) : nearB a b c d 4562254508917369340 = true := by
  have m := (h1.2.2.add h2.2.2.neg).le h
  have n1 := near_of h1.1 h2.1 (by have := m.fst; have e : V FloatKind.f32.format a - X + -(V FloatKind.f32.format c - X) = V FloatKind.f32.format a - V FloatKind.f32.format c := by grind
                                   rwa [e] at this)
  have n2 := near_of h1.2.1 h2.2.1 (by have := m.snd; have e : V FloatKind.f32.format b - Y + -(V FloatKind.f32.format d - Y) = V FloatKind.f32.format b - V FloatKind.f32.format d := by grind
                                       rwa [e] at this)
  unfold nearB
  rw [h1.1, h1.2.1, h2.1, h2.2.1, n1, n2]
  rfl

theorem near_of2 {a c : Nat} (ha : fin .f32 a = true) (hc : fin .f32 c = true) (h : absR (V FloatKind.f32.format a - V FloatKind.f32.format c) ≤ p2 (-7)) : nearP a c 4576918229304087675 = true := by
  obtain ⟨_, _, _, d4⟩ := dW_spec ha hc
  obtain ⟨h1, h2⟩ := absR_le.1 h
  have hb := absR_le.2 (rndV_between d4 (c := p2 (-7)) ⟨1, -7, by decide, by decide, by simp⟩ h1 h2)
  have hd : p2 (-7) ≤ V FloatKind.f64.format 4576918229304087675 := by decide +kernel
  unfold nearP
  simp only [decide_eq_true_eq]
  grind

theorem Cm.near2 {a b c d : Nat} {X Y Z W ε δ η : Rat} (h1 : Cm a b X Y ε) (h2 : Cm c d Z W δ) (hm : Md (X - Z) (Y - W) η) (h : ε + δ + η ≤ p2 (-7)) : nearB a b c d 4576918229304087675 = true := by
  have m := (((h1.2.2.add h2.2.2.neg).add hm).to (z := V FloatKind.f32.format a - V FloatKind.f32.format c) (w := V FloatKind.f32.format b - V FloatKind.f32.format d) (by grind) (by grind)).le h
  unfold nearB
  rw [h1.1, h1.2.1, h2.1, h2.2.1, near_of2 h1.1 h2.1 m.fst, near_of2 h1.2.1 h2.2.1 m.snd]
  rfl

end Go.Proofs.Yteikkbmmbnihaaa
