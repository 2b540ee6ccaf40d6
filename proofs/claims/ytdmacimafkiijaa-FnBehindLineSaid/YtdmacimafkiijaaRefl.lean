/-
  A reflection at the reference 1: it lies within the circle around 0 through 1, and on the circle of its resistance. Numbers alone; no dump is read.
-/
import Derived.Test.YtdmacimafkiijaaErr
namespace Go.Proofs.Ytdmacimafkiijaa
open Go.RowKit Fl
open Ieee

theorem ab_scale {P t c : Rat} (hP : 0 < P) (h : absR (P * t) ≤ P * c) : absR t ≤ c := by
  obtain ⟨h1, h2⟩ := absR_le.1 h
  refine absR_le.2 ⟨?_, ?_⟩
  · rcases Rat.le_total (a := t) (b := c) with g | g
    · exact g
    · by_cases he : t = c
      · grind
      · have := Rat.mul_pos hP (show 0 < t - c by grind)
        grind
  · rcases Rat.le_total (a := -c) (b := t) with g | g
    · exact g
    · by_cases he : t = -c
      · grind
      · have := Rat.mul_pos hP (show 0 < -c - t by grind)
        grind

theorem ab_sq {a A : Rat} (h : absR a ≤ A) : 0 ≤ a * a ∧ a * a ≤ A * A := by
  have h1 := (absR_le.1 (ab_mul h h)).1
  refine ⟨?_, h1⟩
  rcases Rat.le_total (a := 0) (b := a) with g | g
  · exact Rat.mul_nonneg g g
  · have := Rat.mul_nonneg (show 0 ≤ -a by grind) (show 0 ≤ -a by grind)
    grind

/-- The square of the reflection. -/
theorem refl_power {v X u e f M ε : Rat} (hv : absR v ≤ M) (hX : absR X ≤ M) (hm : absR v = M ∨ absR X = M) (hM : 0 < M) (hu : u * u ≤ v * v) (hu1 : absR u ≤ M)
    (h1 : absR (v * e - X * f - u) ≤ M * ε) (h2 : absR (v * f + X * e - X) ≤ M * ε) (hε : ε ≤ 1 / 2) : e * e + f * f ≤ 1 + 5 * ε := by
  have hε0 : 0 ≤ ε := by
    have := ab_nonneg h1
    rcases Rat.le_total (a := 0) (b := ε) with g | g
    · exact g
    · by_cases he : ε = 0
      · grind
      · have := Rat.mul_pos hM (show 0 < -ε by grind)
        grind
  generalize hρ1 : v * e - X * f - u = ρ1 at h1
  generalize hρ2 : v * f + X * e - X = ρ2 at h2
  have q1 : v * e - X * f = u + ρ1 := by grind
  have q2 : v * f + X * e = X + ρ2 := by grind
  have id : (v * v + X * X) * (e * e + f * f) = (u + ρ1) * (u + ρ1) + (X + ρ2) * (X + ρ2) := by
    rw [← q1, ← q2]
    grind
  have sv := ab_sq hv
  have sX := ab_sq hX
  have s1 := ab_sq h1
  have s2 := ab_sq h2
  have t1 := (absR_le.1 (ab_mul hu1 h1)).1
  have t2 := (absR_le.1 (ab_mul hX h2)).1
  have hP : M * M ≤ v * v + X * X := by
    rcases hm with h | h
    · have : v * v = M * M := by
        rcases absR_cases v with ⟨_, c⟩ | ⟨_, c⟩ <;> (rw [c] at h; grind)
      grind
    · have : X * X = M * M := by
        rcases absR_cases X with ⟨_, c⟩ | ⟨_, c⟩ <;> (rw [c] at h; grind)
      grind
  have hMM := Rat.mul_pos hM hM
  have k1 := Rat.mul_nonneg (Rat.le_of_lt hMM) hε0
  have k2 := Rat.mul_nonneg k1 (show 0 ≤ 1 / 2 - ε by grind)
  have k3 := Rat.mul_nonneg hε0 (show 0 ≤ v * v + X * X - M * M by grind)
  have hD : u * u + X * X ≤ v * v + X * X := by grind
  have id3 : (u + ρ1) * (u + ρ1) + (X + ρ2) * (X + ρ2) = (u * u + X * X) + 2 * (u * ρ1) + 2 * (X * ρ2) + ρ1 * ρ1 + ρ2 * ρ2 := by grind
  rw [id3] at id
  have e1 : M * (M * ε) = M * M * ε := by grind
  have e2 : M * ε * (M * ε) = M * M * ε * ε := by grind
  rw [e1] at t1 t2
  rw [e2] at s1 s2
  clear id3 e1 e2 q1 q2 hρ1 hρ2 h1 h2 hu1 hv hX hm sv sX hu
  generalize v * v + X * X = P at *
  generalize e * e + f * f = S at *
  generalize u * u + X * X = U at *
  generalize M * M = Q at *
  generalize u * ρ1 = A1 at *
  generalize X * ρ2 = A2 at *
  generalize ρ1 * ρ1 = A3 at *
  generalize ρ2 * ρ2 = A4 at *
  have big : P * S ≤ P * (1 + 5 * ε) := by grind
  rcases Rat.le_total (a := S) (b := 1 + 5 * ε) with g | g
  · exact g
  · by_cases he : S = 1 + 5 * ε
    · grind
    · have := Rat.mul_pos (show 0 < P by grind) (show 0 < S - (1 + 5 * ε) by grind)
      grind

/-- The square of its distance from the middle of the circle, j being 1 divided by W. -/
theorem refl_circle {W X e f M ε j : Rat} (hW : absR W ≤ M) (hX : absR X ≤ M) (hm : absR W = M ∨ absR X = M) (hM : 1 ≤ M) (hj : j * W = 1) (hj1 : absR j ≤ 1)
    (h1 : absR (W * e - X * f - (W - 2)) ≤ M * ε) (h2 : absR (W * f + X * e - X) ≤ M * ε) (hε : ε ≤ 1 / 2) :
    absR ((e - (1 - j)) * (e - (1 - j)) + f * f - j * j) ≤ 5 * ε := by
  have hε0 : 0 ≤ ε := by
    have := ab_nonneg h1
    rcases Rat.le_total (a := 0) (b := ε) with g | g
    · exact g
    · by_cases he : ε = 0
      · grind
      · have := Rat.mul_pos (show 0 < M by grind) (show 0 < -ε by grind)
        grind
  generalize hρ1 : W * e - X * f - (W - 2) = ρ1 at h1
  generalize hρ2 : W * f + X * e - X = ρ2 at h2
  generalize ha : e - (1 - j) = a
  have q1 : W * a - X * f = -1 + ρ1 := by rw [← ha]; grind
  have q2 : W * f + X * a = X * j + ρ2 := by rw [← ha]; grind
  have id : (W * W + X * X) * (a * a + f * f) = (-1 + ρ1) * (-1 + ρ1) + (X * j + ρ2) * (X * j + ρ2) := by
    rw [← q1, ← q2]
    grind
  have id2 : (W * W + X * X) * (j * j) = 1 + (X * j) * (X * j) := by
    have : W * W * (j * j) = 1 := by
      have : W * W * (j * j) = (j * W) * (j * W) := by grind
      rw [this, hj]; decide +kernel
    grind
  have key : (W * W + X * X) * (a * a + f * f - j * j) = -2 * ρ1 + ρ1 * ρ1 + 2 * (X * j * ρ2) + ρ2 * ρ2 := by
    have : (W * W + X * X) * (a * a + f * f - j * j) = (W * W + X * X) * (a * a + f * f) - (W * W + X * X) * (j * j) := by grind
    rw [this, id, id2]
    grind
  have hP : M * M ≤ W * W + X * X := by
    have sv := ab_sq hW
    have sX := ab_sq hX
    rcases hm with h | h
    · have : W * W = M * M := by
        rcases absR_cases W with ⟨_, c⟩ | ⟨_, c⟩ <;> (rw [c] at h; grind)
      grind
    · have : X * X = M * M := by
        rcases absR_cases X with ⟨_, c⟩ | ⟨_, c⟩ <;> (rw [c] at h; grind)
      grind
  have s1 := ab_sq h1
  have s2 := ab_sq h2
  have t2 := ab_mul (ab_mul hX hj1) h2
  have e0 : M * 1 * (M * ε) = M * M * ε := by grind
  rw [e0] at t2
  obtain ⟨t3, t4⟩ := absR_le.1 t2
  obtain ⟨r1, r2⟩ := absR_le.1 h1
  have hMM : M ≤ M * M := by
    have := Rat.mul_nonneg (show 0 ≤ M by grind) (show 0 ≤ M - 1 by grind)
    grind
  have k0 := Rat.mul_nonneg hε0 (show 0 ≤ M * M - M by grind)
  have k1 := Rat.mul_nonneg (show 0 ≤ M * M by grind) hε0
  have k2 := Rat.mul_nonneg k1 (show 0 ≤ 1 / 2 - ε by grind)
  have k3 := Rat.mul_nonneg hε0 (show 0 ≤ W * W + X * X - M * M by grind)
  have big : absR ((W * W + X * X) * (a * a + f * f - j * j)) ≤ (W * W + X * X) * (5 * ε) := by
    rw [key]
    exact absR_le.2 ⟨by grind, by grind⟩
  have := ab_scale (show 0 < W * W + X * X by grind) big
  exact this

end Go.Proofs.Ytdmacimafkiijaa
