/-
  1 divided by a number, times the number: how near to 1 it comes. No dump is read.
-/
import Derived.Test.YthbebgnjidaokaaQuo
namespace Go.Proofs.Ythbebgnjidaokaa
open Go.RowKit Fl
open Ieee

theorem ab_mul {a b A B : Rat} (h1 : absR a ≤ A) (h2 : absR b ≤ B) : absR (a * b) ≤ A * B := by
  obtain ⟨a1, a2⟩ := absR_le.1 h1
  obtain ⟨b1, b2⟩ := absR_le.1 h2
  have m1 := Rat.mul_nonneg (show 0 ≤ A - a by grind) (show 0 ≤ B + b by grind)
  have m2 := Rat.mul_nonneg (show 0 ≤ A + a by grind) (show 0 ≤ B - b by grind)
  have m3 := Rat.mul_nonneg (show 0 ≤ A - a by grind) (show 0 ≤ B - b by grind)
  have m4 := Rat.mul_nonneg (show 0 ≤ A + a by grind) (show 0 ≤ B + b by grind)
  exact absR_le.2 ⟨by grind, by grind⟩
theorem ab_add {a b A B : Rat} (h1 : absR a ≤ A) (h2 : absR b ≤ B) : absR (a + b) ≤ A + B := by
  obtain ⟨a1, a2⟩ := absR_le.1 h1
  obtain ⟨b1, b2⟩ := absR_le.1 h2
  exact absR_le.2 ⟨by grind, by grind⟩
theorem ab_neg {a A : Rat} (h : absR a ≤ A) : absR (-a) ≤ A := by
  obtain ⟨a1, a2⟩ := absR_le.1 h
  exact absR_le.2 ⟨by grind, by grind⟩
theorem ab_le {a A B : Rat} (h : absR a ≤ A) (hB : A ≤ B) : absR a ≤ B := by grind

/-- The heart: p is the greater part, q the smaller one, R their quotient, T what Smith divides by, G and H the quotients. -/
theorem inv_core {p q R T Y G H M N k h δ : Rat} (hp : absR p ≤ M) (hq : absR q ≤ M) (hMN : M * N = 1)
    (hT : absR (T - (p + R * q)) ≤ k * M) (hY : Y * T = 1) (hYN : absR Y ≤ N) (hG : absR (G - Y) ≤ h * N) (hH : absR (H - R * Y) ≤ h * N) (hX : absR (R * p - q) ≤ δ * M) :
    absR (p * G + q * H - 1) ≤ 2 * h + k ∧ absR (q * G - p * H) ≤ 2 * h + δ := by
  have e1 : M * (h * N) = h := by grind
  have e2 : k * M * N = k := by grind
  have e3 : δ * M * N = δ := by grind
  have a1 := ab_mul hp hG
  have a2 := ab_mul hq hH
  have a3 := ab_mul hq hG
  have a4 := ab_mul hp hH
  have a5 := ab_mul hT hYN
  have a6 := ab_mul hX hYN
  rw [e1] at a1 a2 a3 a4
  rw [e2] at a5
  rw [e3] at a6
  have i1 : p * G + q * H - 1 = p * (G - Y) + (q * (H - R * Y) + -((T - (p + R * q)) * Y)) := by grind
  have i2 : q * G - p * H = q * (G - Y) + (-(p * (H - R * Y)) + -((R * p - q) * Y)) := by grind
  rw [i1, i2]
  exact ⟨ab_le (ab_add a1 (ab_add a2 (ab_neg a5))) (by grind), ab_le (ab_add a3 (ab_add (ab_neg a4) (ab_neg a6))) (by grind)⟩

/-- Half a unit of the last place of a number no greater than A, where A is not too small. -/
theorem err64 {x r A : Rat} (h : RndV FloatKind.f64.format x r) (hx : absR x ≤ A) (hA : p2 (-60) ≤ A) : absR (r - x) ≤ A * p2 (-52) := by
  obtain ⟨h1, h2⟩ := absR_le.1 hx
  obtain ⟨e1, e2⟩ := rndV_err h h1 h2
  have u1 : p2 (-(FloatKind.f64.format.fractionBits + 1)) = p2 (-53) := rfl
  have u2 : p2 (FloatKind.f64.format.leastPlace - 1) ≤ p2 (-113) := p2_le (by decide)
  have u3 : p2 (-52) = 2 * p2 (-53) := by rw [← p2_succ]; rfl
  have u4 : p2 (-113) = p2 (-60) * p2 (-53) := by rw [← p2_add]; rfl
  have m := Rat.mul_nonneg (show 0 ≤ A - p2 (-60) by grind) (Rat.le_of_lt (p2_pos (-53)))
  rw [u1] at e1 e2
  rw [u3]
  exact absR_le.2 ⟨by grind, by grind⟩
theorem err32 {x r A : Rat} (h : RndV FloatKind.f32.format x r) (hx : absR x ≤ A) (hA : p2 (-60) ≤ A) : absR (r - x) ≤ A * p2 (-23) := by
  obtain ⟨h1, h2⟩ := absR_le.1 hx
  obtain ⟨e1, e2⟩ := rndV_err h h1 h2
  have u1 : p2 (-(FloatKind.f32.format.fractionBits + 1)) = p2 (-24) := rfl
  have u2 : p2 (FloatKind.f32.format.leastPlace - 1) ≤ p2 (-84) := p2_le (by decide)
  have u3 : p2 (-23) = 2 * p2 (-24) := by rw [← p2_succ]; rfl
  have u4 : p2 (-84) = p2 (-60) * p2 (-24) := by rw [← p2_add]; rfl
  have m := Rat.mul_nonneg (show 0 ≤ A - p2 (-60) by grind) (Rat.le_of_lt (p2_pos (-24)))
  rw [u1] at e1 e2
  rw [u3]
  exact absR_le.2 ⟨by grind, by grind⟩

theorem some_of {o : Option Nat} {a b : Nat} (h1 : o = some a) (h2 : o = some b) : a = b := by rw [h1] at h2; injection h2

/-- Smith's way, with how near each step comes. -/
theorem smith_near {p q : Nat} {M : Rat} (hp : fin .f64 p = true) (hq : fin .f64 q = true) (hM : absR (V FloatKind.f64.format p) = M) (hM0 : p2 (-30) ≤ M) (hM1 : M ≤ p2 30)
    (h1 : absR (V FloatKind.f64.format q) ≤ M) :
    ∃ r s t, floatBits .quo .f64 q p = some r ∧ floatBits .mul .f64 r q = some s ∧ floatBits .add .f64 p s = some t ∧ fin .f64 r = true ∧ fin .f64 s = true ∧ fin .f64 t = true ∧
      absR (V FloatKind.f64.format r) ≤ 1 ∧ M ≤ absR (V FloatKind.f64.format t) ∧
      absR (V FloatKind.f64.format t - (V FloatKind.f64.format p + V FloatKind.f64.format r * V FloatKind.f64.format q)) ≤ p2 (-50) * M ∧
      absR (V FloatKind.f64.format r * V FloatKind.f64.format p - V FloatKind.f64.format q) ≤ p2 (-52) * M := by
  have z1 := p2_pos (-30)
  have hP0 : V FloatKind.f64.format p ≠ 0 := by
    have := absR_cases (V FloatKind.f64.format p)
    grind
  have hM2 : absR (V FloatKind.f64.format p) ≤ p2 128 := by
    have : p2 30 ≤ p2 128 := p2_le (by decide)
    grind
  obtain ⟨q1, q2⟩ := absR_le.1 h1
  obtain ⟨r, s, t, r1, s1, t1, rf, sf, tf, v1, v2, v3⟩ := smith hp hq hP0 (by grind) (by grind) hM2
  refine ⟨r, s, t, r1, s1, t1, rf, sf, tf, absR_le.2 ⟨v1, v2⟩, by grind, ?_, ?_⟩
  all_goals
    have l1 := lim64_big.1
    have l2 := lim64_big.2
    have w1 : p2 30 < p2 31 := p2_lt (by decide)
    have w2 : p2 31 < p2 400 := p2_lt (by decide)
    have w3 : p2 31 = 2 * p2 30 := p2_succ 30
    have w10 : p2 32 < p2 400 := p2_lt (by decide)
    have w11 : p2 32 = 2 * p2 31 := p2_succ 31
    have w4 : p2 (-60) ≤ p2 (-30) := p2_le (by decide)
    have w6 : (1 : Rat) ≤ p2 30 := by rw [← p2_zero]; exact p2_le (by decide)
    have w5 : p2 (-60) ≤ 1 := by rw [← p2_zero]; exact p2_le (by decide)
    have w7 : p2 (-50) = 4 * p2 (-52) := by rw [show (-50 : Int) = -52 + 1 + 1 from rfl, p2_succ, p2_succ]; grind
    have w8 := p2_pos (-52)
    have w9 : p2 (-52) ≤ 1 := by rw [← p2_zero]; exact p2_le (by decide)
    have aR := absR_le.2 ⟨v1, v2⟩
    have aP : absR (V FloatKind.f64.format p) ≤ M := by grind
    generalize hP : V FloatKind.f64.format p = P at *
    generalize hQ : V FloatKind.f64.format q = Q at *
    generalize hR : V FloatKind.f64.format r = R at *
  · -- T
    have a1 := ab_mul aR h1
    obtain ⟨a2, a3⟩ := absR_le.1 a1
    obtain ⟨s', g1, g2, g3⟩ := mul_spec .f64 (fin_num.1 rf) (fin_num.1 hq) (by rw [hR, hQ]; grind) (by rw [hR, hQ]; grind)
    obtain rfl := some_of s1 g1
    rw [hR, hQ] at g3
    have b1 := err64 g3 a1 (by grind)
    generalize hS : V FloatKind.f64.format s = S at *
    have b2 : absR S ≤ 2 * M := by
      have := ab_add a1 b1
      have e : R * Q + (S - R * Q) = S := by grind
      rw [e] at this
      have m := Rat.mul_nonneg (show 0 ≤ 1 - p2 (-52) by grind) (show 0 ≤ M by grind)
      grind
    have b3 := ab_add aP b2
    obtain ⟨b4, b5⟩ := absR_le.1 b3
    obtain ⟨t', k1, k2, k3⟩ := add_spec .f64 (fin_num.1 hp) (fin_num.1 sf) (by rw [hP, hS]; grind) (by rw [hP, hS]; grind)
    obtain rfl := some_of t1 k1
    rw [hP, hS] at k3
    have c1 := err64 k3 b3 (by grind)
    have := ab_add c1 b1
    have e : V FloatKind.f64.format t - (P + S) + (S - R * Q) = V FloatKind.f64.format t - (P + R * Q) := by grind
    rw [e] at this
    rw [w7]
    grind
  · -- R
    have hX : Q / P * P = Q := Rat.div_mul_cancel hP0
    obtain ⟨X, x1, x2, x3⟩ := div_bound (N := Q) (T := P) (K := 1) hP0 (by grind)
    obtain ⟨r', g1, g2, g3⟩ := quo_spec .f64 (fin_num.1 hq) (fin_num.1 hp) (by rw [hP]; exact hP0) X (by rw [hP, hQ]; exact x1) (by grind) (by grind)
    obtain rfl := some_of r1 g1
    rw [hR] at g3
    have b1 := err64 g3 (absR_le.2 ⟨x2, x3⟩) w5
    have := ab_mul b1 aP
    have e : (R - X) * P = R * P - Q := by grind
    rw [e] at this
    grind

/-- A quotient, and how near it comes. -/
theorem quo_near {x t : Nat} {M N : Rat} (hx : fin .f64 x = true) (ht : fin .f64 t = true) (hMN : M * N = 1) (hM : 0 < M) (hN : p2 (-60) ≤ N) (hN1 : N ≤ p2 60) (hT : M ≤ absR (V FloatKind.f64.format t)) (hx1 : absR (V FloatKind.f64.format x) ≤ 1) :
    ∃ m Z, floatBits .quo .f64 x t = some m ∧ fin .f64 m = true ∧ Z * V FloatKind.f64.format t = V FloatKind.f64.format x ∧ absR Z ≤ N ∧ absR (V FloatKind.f64.format m - Z) ≤ N * p2 (-52) := by
  have l2 := lim64_big.2
  have w1 : p2 60 < p2 400 := p2_lt (by decide)
  have h0 : V FloatKind.f64.format t ≠ 0 := by
    have := absR_cases (V FloatKind.f64.format t)
    grind
  have hN0 : 0 < N := by have := p2_pos (-60); grind
  have m1 := Rat.mul_nonneg (show 0 ≤ N by grind) (show 0 ≤ absR (V FloatKind.f64.format t) - M by grind)
  obtain ⟨Z, z1, z2, z3⟩ := div_bound (K := N) h0 (show absR (V FloatKind.f64.format x) ≤ N * absR (V FloatKind.f64.format t) by grind)
  obtain ⟨m, g1, g2, g3⟩ := quo_spec .f64 (fin_num.1 hx) (fin_num.1 ht) h0 Z z1 (by grind) (by grind)
  exact ⟨m, Z, g1, fin_num.2 g2, z1, absR_le.2 ⟨z2, z3⟩, err64 g3 (absR_le.2 ⟨z2, z3⟩) hN⟩

theorem narrow_near {x : Nat} {N Z : Rat} (hx : fin .f64 x = true) (hZ : absR Z ≤ N) (hz : absR (V FloatKind.f64.format x - Z) ≤ N * p2 (-52)) (hN : p2 (-60) ≤ N) (hN1 : N ≤ p2 60) :
    ∃ m, floatToFloatBits .f64 x .f32 = some m ∧ fin .f32 m = true ∧ absR (V FloatKind.f32.format m - Z) ≤ p2 (-21) * N := by
  have w0 : p2 61 < lim FloatKind.f32.format := by decide +kernel
  have w1 : p2 61 = 2 * p2 60 := p2_succ 60
  have w2 : p2 (-52) ≤ p2 (-23) := p2_le (by decide)
  have w3 : p2 (-23) ≤ 1 := by rw [← p2_zero]; exact p2_le (by decide)
  have w4 : p2 (-21) = 4 * p2 (-23) := by rw [show (-21 : Int) = -23 + 1 + 1 from rfl, p2_succ, p2_succ]; grind
  have w5 := p2_pos (-60)
  have m1 := Rat.mul_nonneg (show 0 ≤ N by grind) (show 0 ≤ p2 (-23) - p2 (-52) by grind)
  have m2 := Rat.mul_nonneg (show 0 ≤ N by grind) (show 0 ≤ 1 - p2 (-23) by grind)
  have m3 := Rat.mul_nonneg (show 0 ≤ N by grind) (Rat.le_of_lt (p2_pos (-23)))
  have hb : absR (V FloatKind.f64.format x) ≤ 2 * N := by
    have := ab_add hZ hz
    have e : Z + (V FloatKind.f64.format x - Z) = V FloatKind.f64.format x := by grind
    rw [e] at this
    grind
  obtain ⟨h1, h2⟩ := absR_le.1 hb
  obtain ⟨m, g1, g2, g3⟩ := narrow_spec (fin_num.1 hx) (by grind) (by grind)
  refine ⟨m, g1, fin_num.2 g2, ?_⟩
  have e1 := err32 g3 hb (by grind)
  have := ab_add e1 hz
  have e : V FloatKind.f32.format m - V FloatKind.f64.format x + (V FloatKind.f64.format x - Z) = V FloatKind.f32.format m - Z := by grind
  rw [e] at this
  rw [w4]
  grind

theorem one64 : V FloatKind.f64.format 4607182418800017408 = 1 ∧ fin .f64 4607182418800017408 = true := ⟨by decide +kernel, by decide⟩
theorem zero64' : V FloatKind.f64.format 0 = 0 ∧ fin .f64 0 = true := ⟨by decide +kernel, by decide⟩
theorem yW_one : yW 1065353216 = 4607182418800017408 ∧ yW 0 = 0 := ⟨by decide +kernel, by decide +kernel⟩

/-- 1 divided by a number of which the first part is the greater one, by both roads: the quotients G (by the greater part) and H. -/
theorem inv_road {p q : Nat} {M N : Rat} (hp : fin .f64 p = true) (hq : fin .f64 q = true) (hM : absR (V FloatKind.f64.format p) = M) (hM0 : p2 (-30) ≤ M) (hM1 : M ≤ p2 30) (hMN : M * N = 1)
    (h1 : absR (V FloatKind.f64.format q) ≤ M) :
    ∃ r s t, floatBits .quo .f64 q p = some r ∧ floatBits .mul .f64 r q = some s ∧ floatBits .add .f64 p s = some t ∧
      (∃ br n1 e ar n2 f e' f', floatBits .mul .f64 0 r = some br ∧ floatBits .add .f64 4607182418800017408 br = some n1 ∧ floatBits .quo .f64 n1 t = some e ∧
        floatBits .mul .f64 4607182418800017408 r = some ar ∧ floatBits .sub .f64 0 ar = some n2 ∧ floatBits .quo .f64 n2 t = some f ∧ fin .f64 e = true ∧
        floatToFloatBits .f64 e .f32 = some e' ∧ floatToFloatBits .f64 f .f32 = some f' ∧ fin .f32 e' = true ∧ fin .f32 f' = true ∧ absR (V FloatKind.f32.format e') ≤ 2 * N ∧ absR (V FloatKind.f32.format f') ≤ 2 * N ∧
        absR (V FloatKind.f64.format p * V FloatKind.f32.format e' - V FloatKind.f64.format q * V FloatKind.f32.format f' - 1) ≤ p2 (-19) ∧
        absR (V FloatKind.f64.format q * V FloatKind.f32.format e' + V FloatKind.f64.format p * V FloatKind.f32.format f') ≤ p2 (-19)) ∧
      (∃ ar n1 e br n2 f e' f', floatBits .mul .f64 4607182418800017408 r = some ar ∧ floatBits .add .f64 ar 0 = some n1 ∧ floatBits .quo .f64 n1 t = some e ∧
        floatBits .mul .f64 0 r = some br ∧ floatBits .sub .f64 br 4607182418800017408 = some n2 ∧ floatBits .quo .f64 n2 t = some f ∧ fin .f64 e = true ∧
        floatToFloatBits .f64 e .f32 = some e' ∧ floatToFloatBits .f64 f .f32 = some f' ∧ fin .f32 e' = true ∧ fin .f32 f' = true ∧ absR (V FloatKind.f32.format e') ≤ 2 * N ∧ absR (V FloatKind.f32.format f') ≤ 2 * N ∧
        absR (V FloatKind.f64.format q * V FloatKind.f32.format e' - V FloatKind.f64.format p * V FloatKind.f32.format f' - 1) ≤ p2 (-19) ∧
        absR (V FloatKind.f64.format p * V FloatKind.f32.format e' + V FloatKind.f64.format q * V FloatKind.f32.format f') ≤ p2 (-19)) := by
  obtain ⟨r, s, t, r1, s1, t1, rf, sf, tf, aR, aT, near, nearR⟩ := smith_near hp hq hM hM0 hM1 h1
  have l1 := lim64_big.1
  have l0 : (2 : Rat) < p2 400 := by rw [← p2_one]; exact p2_lt (by decide)
  obtain ⟨o1, o2⟩ := one64
  obtain ⟨z1, z2⟩ := zero64'
  have z0 := p2_pos (-30)
  have hN : p2 (-30) ≤ N ∧ N ≤ p2 30 := by
    have e1 : p2 (-30) * p2 30 = 1 := by rw [← p2_add]; exact p2_zero
    constructor
    · rcases Rat.le_total (a := p2 (-30)) (b := N) with g | g
      · exact g
      · by_cases he : N = p2 (-30)
        · grind
        · have m1 := Rat.mul_pos (show 0 < p2 (-30) - N by grind) (show 0 < M by grind)
          have m2 := Rat.mul_nonneg (show 0 ≤ p2 30 - M by grind) (show 0 ≤ p2 (-30) by grind)
          grind
    · rcases Rat.le_total (a := N) (b := p2 30) with g | g
      · exact g
      · by_cases he : N = p2 30
        · grind
        · have m1 := Rat.mul_pos (show 0 < N - p2 30 by grind) (show 0 < M by grind)
          have m2 := Rat.mul_nonneg (show 0 ≤ M - p2 (-30) by grind) (show 0 ≤ p2 30 by grind)
          grind
  obtain ⟨hN0, hN1⟩ := hN
  have y1 : p2 (-60) ≤ N := by have : p2 (-60) ≤ p2 (-30) := p2_le (by decide)
                               grind
  have y2 : N ≤ p2 60 := by have : p2 30 ≤ p2 60 := p2_le (by decide)
                            grind
  have hM3 : 0 < M := by grind
  have y3 : p2 (-21) ≤ 1 := by rw [← p2_zero]; exact p2_le (by decide)
  have y4 : p2 (-19) = 4 * p2 (-21) := by rw [show (-19 : Int) = -21 + 1 + 1 from rfl, p2_succ, p2_succ]; grind
  have y5 : p2 (-50) ≤ p2 (-21) := p2_le (by decide)
  have y6 : p2 (-52) ≤ p2 (-21) := p2_le (by decide)
  have has1 : Has FloatKind.f64.format 1 := by simpa using has_int (f := FloatKind.f64.format) (by decide) 1 (by decide)
  have y7 := p2_pos (-21)
  have k1 : 2 * p2 (-21) + p2 (-50) ≤ p2 (-19) := by rw [y4]; grind
  have k2 : 2 * p2 (-21) + p2 (-52) ≤ p2 (-19) := by rw [y4]; grind
  have K1 := Lib.hid k1
  have K2 := Lib.hid k2
  clear k1 k2
  have two : ∀ {A B : Rat}, absR A ≤ N → absR (B - A) ≤ p2 (-21) * N → absR B ≤ 2 * N := by
    intro A B ha hb
    have := ab_add ha hb
    have e : A + (B - A) = B := by grind
    rw [e] at this
    have := Rat.mul_nonneg (show 0 ≤ 1 - p2 (-21) by grind) (show 0 ≤ N by grind)
    grind
  refine ⟨r, s, t, r1, s1, t1, ?_, ?_⟩
  · obtain ⟨v1, v2⟩ := absR_le.1 aR
    obtain ⟨br, b1, b2, b3⟩ := mul_spec .f64 (fin_num.1 z2) (fin_num.1 rf) (by rw [z1]; grind) (by rw [z1]; grind)
    rw [z1, Rat.zero_mul] at b3
    have b4 := rndV_exact b3 (has_zero _)
    obtain ⟨n1, c1, c2, c3⟩ := add_spec .f64 (fin_num.1 o2) b2 (by rw [o1, b4]; grind) (by rw [o1, b4]; grind)
    rw [o1, b4, Rat.add_zero] at c3
    have c4 := rndV_exact c3 has1
    obtain ⟨e, Y, d1, d2, d3, d4, d5⟩ := quo_near (fin_num.2 c2) tf hMN hM3 y1 y2 aT (by rw [c4]; decide +kernel)
    obtain ⟨ar, f1, f2, f3⟩ := mul_spec .f64 (fin_num.1 o2) (fin_num.1 rf) (by rw [o1]; grind) (by rw [o1]; grind)
    rw [o1, Rat.one_mul] at f3
    have f4 := rndV_exact f3 (has_V _ _)
    obtain ⟨n2, g1, g2, g3⟩ := sub_spec .f64 (fin_num.1 z2) f2 (by rw [z1, f4]; grind) (by rw [z1, f4]; grind)
    rw [z1, f4, show (0 : Rat) - V FloatKind.f64.format r = -V FloatKind.f64.format r by grind] at g3
    have g4 := rndV_exact g3 (has_neg (has_V _ _))
    obtain ⟨f, Z, i1, i2, i3, i4, i5⟩ := quo_near (fin_num.2 g2) tf hMN hM3 y1 y2 aT (by rw [g4]; exact ab_neg aR)
    obtain ⟨e', j1, j2, j3⟩ := narrow_near d2 d4 d5 y1 y2
    obtain ⟨f', k1, k2, k3⟩ := narrow_near i2 i4 i5 y1 y2
    refine ⟨br, n1, e, ar, n2, f, e', f', b1, c1, d1, f1, g1, i1, d2, j1, k1, j2, k2, two d4 j3, two i4 k3, ?_⟩
    rw [c4] at d3
    rw [g4] at i3
    have hZ : Z = -(V FloatKind.f64.format r * Y) := by
      have ht0 : V FloatKind.f64.format t ≠ 0 := by
        have := absR_cases (V FloatKind.f64.format t)
        grind
      have : (Z + V FloatKind.f64.format r * Y) * V FloatKind.f64.format t = 0 := by grind
      have := (Rat.mul_eq_zero.1 this).resolve_right ht0
      grind
    have hH : absR (-V FloatKind.f32.format f' - V FloatKind.f64.format r * Y) ≤ p2 (-21) * N := by
      have := ab_neg k3
      rw [hZ] at this
      have e : -(V FloatKind.f32.format f' - -(V FloatKind.f64.format r * Y)) = -V FloatKind.f32.format f' - V FloatKind.f64.format r * Y := by grind
      rwa [e] at this
    obtain ⟨u1, u2⟩ := inv_core (p := V FloatKind.f64.format p) (q := V FloatKind.f64.format q) (by grind) h1 hMN near d3 d4 j3 hH nearR
    constructor
    · have e : V FloatKind.f64.format p * V FloatKind.f32.format e' - V FloatKind.f64.format q * V FloatKind.f32.format f' - 1 = V FloatKind.f64.format p * V FloatKind.f32.format e' + V FloatKind.f64.format q * -V FloatKind.f32.format f' - 1 := by grind
      rw [e]; exact Rat.le_trans u1 K1.out
    · have e : V FloatKind.f64.format q * V FloatKind.f32.format e' + V FloatKind.f64.format p * V FloatKind.f32.format f' = V FloatKind.f64.format q * V FloatKind.f32.format e' - V FloatKind.f64.format p * -V FloatKind.f32.format f' := by grind
      rw [e]; exact Rat.le_trans u2 K2.out
  · obtain ⟨v1, v2⟩ := absR_le.1 aR
    obtain ⟨ar, f1, f2, f3⟩ := mul_spec .f64 (fin_num.1 o2) (fin_num.1 rf) (by rw [o1]; grind) (by rw [o1]; grind)
    rw [o1, Rat.one_mul] at f3
    have f4 := rndV_exact f3 (has_V _ _)
    obtain ⟨n1, c1, c2, c3⟩ := add_spec .f64 f2 (fin_num.1 z2) (by rw [z1, f4]; grind) (by rw [z1, f4]; grind)
    rw [z1, f4, Rat.add_zero] at c3
    have c4 := rndV_exact c3 (has_V _ _)
    obtain ⟨e, Z, d1, d2, d3, d4, d5⟩ := quo_near (fin_num.2 c2) tf hMN hM3 y1 y2 aT (by rw [c4]; exact aR)
    obtain ⟨br, b1, b2, b3⟩ := mul_spec .f64 (fin_num.1 z2) (fin_num.1 rf) (by rw [z1]; grind) (by rw [z1]; grind)
    rw [z1, Rat.zero_mul] at b3
    have b4 := rndV_exact b3 (has_zero _)
    obtain ⟨n2, g1, g2, g3⟩ := sub_spec .f64 b2 (fin_num.1 o2) (by rw [o1, b4]; grind) (by rw [o1, b4]; grind)
    rw [o1, b4, show (0 : Rat) - 1 = -1 by decide +kernel] at g3
    have g4 := rndV_exact g3 (has_neg has1)
    obtain ⟨f, W, i1, i2, i3, i4, i5⟩ := quo_near (fin_num.2 g2) tf hMN hM3 y1 y2 aT (by rw [g4]; decide +kernel)
    obtain ⟨e', j1, j2, j3⟩ := narrow_near d2 d4 d5 y1 y2
    obtain ⟨f', k1, k2, k3⟩ := narrow_near i2 i4 i5 y1 y2
    refine ⟨ar, n1, e, br, n2, f, e', f', f1, c1, d1, b1, g1, i1, d2, j1, k1, j2, k2, two d4 j3, two i4 k3, ?_⟩
    rw [c4] at d3
    rw [g4] at i3
    have hY : -W * V FloatKind.f64.format t = 1 := by grind
    have hZ : Z = V FloatKind.f64.format r * -W := by
      have ht0 : V FloatKind.f64.format t ≠ 0 := by
        have := absR_cases (V FloatKind.f64.format t)
        grind
      have : (Z + V FloatKind.f64.format r * W) * V FloatKind.f64.format t = 0 := by grind
      have := (Rat.mul_eq_zero.1 this).resolve_right ht0
      grind
    have hG : absR (-V FloatKind.f32.format f' - -W) ≤ p2 (-21) * N := by
      have := ab_neg k3
      have e : -(V FloatKind.f32.format f' - W) = -V FloatKind.f32.format f' - -W := by grind
      rwa [e] at this
    rw [hZ] at j3
    obtain ⟨u1, u2⟩ := inv_core (p := V FloatKind.f64.format p) (q := V FloatKind.f64.format q) (by grind) h1 hMN near hY (ab_neg i4) hG j3 nearR
    constructor
    · have e : V FloatKind.f64.format q * V FloatKind.f32.format e' - V FloatKind.f64.format p * V FloatKind.f32.format f' - 1 = V FloatKind.f64.format p * -V FloatKind.f32.format f' + V FloatKind.f64.format q * V FloatKind.f32.format e' - 1 := by grind
      rw [e]; exact Rat.le_trans u1 K1.out
    · have e : V FloatKind.f64.format p * V FloatKind.f32.format e' + V FloatKind.f64.format q * V FloatKind.f32.format f' = -(V FloatKind.f64.format q * -V FloatKind.f32.format f' - V FloatKind.f64.format p * V FloatKind.f32.format e') := by grind
      rw [e]
      exact Rat.le_trans (ab_neg u2) K2.out

end Go.Proofs.Ythbebgnjidaokaa
