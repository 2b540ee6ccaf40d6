/-
  How near products and quotients of complex64 numbers come to the true ones. A quotient's nearness is said of what is left when it is multiplied back: (c + di)(e + fi) is near a + bi. No dump is read.
-/
import Derived.Test.YthbebgnjidaokaaInv
namespace Go.Proofs.Ythbebgnjidaokaa
open Go.RowKit Fl
open Ieee

theorem ab_nonneg {a A : Rat} (h : absR a ≤ A) : 0 ≤ A := by
  have := absR_nonneg a
  grind

/-- The heart of Smith's way: p is the greater part, q the smaller one, R their quotient, T what is divided by; n1 and n2 stand for a + bR and b - aR. -/
theorem quo_core {p q R T Y G H M N k h δ a b A n1 n2 α : Rat} (hp : absR p ≤ M) (hq : absR q ≤ M) (hMN : M * N = 1)
    (hT : absR (T - (p + R * q)) ≤ k * M) (hY : Y * T = 1) (hYN : absR Y ≤ N) (hX : absR (R * p - q) ≤ δ * M) (ha : absR a ≤ A) (hb : absR b ≤ A)
    (h1 : absR (n1 - (a + b * R)) ≤ α * A) (h2 : absR (n2 - (b - a * R)) ≤ α * A) (hG : absR (G - n1 * Y) ≤ h * A * N) (hH : absR (H - n2 * Y) ≤ h * A * N) :
    absR (p * G - q * H - a) ≤ A * (2 * h + k + δ + 2 * α) ∧ absR (q * G + p * H - b) ≤ A * (2 * h + k + δ + 2 * α) := by
  have e1 : M * (h * A * N) = h * A := by grind
  have e2 : A * (k * M) * N = A * k := by grind
  have e3 : A * (δ * M) * N = A * δ := by grind
  have e4 : M * (α * A) * N = α * A := by grind
  have a1 := ab_mul hp hG
  have a2 := ab_mul hq hH
  have a3 := ab_mul hq hG
  have a4 := ab_mul hp hH
  have a5 := ab_mul (ab_mul ha hT) hYN
  have a6 := ab_mul (ab_mul hb hX) hYN
  have a7 := ab_mul (ab_mul hb hT) hYN
  have a8 := ab_mul (ab_mul ha hX) hYN
  have b1 := ab_mul (ab_mul hp h1) hYN
  have b2 := ab_mul (ab_mul hq h2) hYN
  have b3 := ab_mul (ab_mul hq h1) hYN
  have b4 := ab_mul (ab_mul hp h2) hYN
  rw [e1] at a1 a2 a3 a4
  rw [e2] at a5 a7
  rw [e3] at a6 a8
  rw [e4] at b1 b2 b3 b4
  have i1 : p * G - q * H - a = p * (G - n1 * Y) + (-(q * (H - n2 * Y)) + (p * (n1 - (a + b * R)) * Y + (-(q * (n2 - (b - a * R)) * Y) + (-(a * (T - (p + R * q)) * Y) + b * (R * p - q) * Y)))) := by grind
  have i2 : q * G + p * H - b = q * (G - n1 * Y) + (p * (H - n2 * Y) + (q * (n1 - (a + b * R)) * Y + (p * (n2 - (b - a * R)) * Y + (-(b * (T - (p + R * q)) * Y) + -(a * (R * p - q) * Y))))) := by grind
  rw [i1, i2]
  exact ⟨ab_le (ab_add a1 (ab_add (ab_neg a2) (ab_add b1 (ab_add (ab_neg b2) (ab_add (ab_neg a5) a6))))) (by grind), ab_le (ab_add a3 (ab_add a4 (ab_add b3 (ab_add b4 (ab_add (ab_neg a7) (ab_neg a8)))))) (by grind)⟩

/-- A quotient by T, narrowed: how near it comes. -/
theorem quo_narrow {x t : Nat} {M N B : Rat} (hx : fin .f64 x = true) (ht : fin .f64 t = true) (hMN : M * N = 1) (hM : 0 < M) (hB : p2 (-60) ≤ B * N) (hB1 : B * N ≤ p2 60) (hT : M ≤ absR (V FloatKind.f64.format t)) (hx1 : absR (V FloatKind.f64.format x) ≤ B) :
    ∃ m m' Z, floatBits .quo .f64 x t = some m ∧ fin .f64 m = true ∧ Z * V FloatKind.f64.format t = V FloatKind.f64.format x ∧ absR Z ≤ B * N ∧
      floatToFloatBits .f64 m .f32 = some m' ∧ fin .f32 m' = true ∧ absR (V FloatKind.f32.format m' - Z) ≤ (B * N) * (p2 (-23) + p2 (-50)) := by
  have l2 := lim64_big.2
  have w0 : p2 61 < lim FloatKind.f32.format := by decide +kernel
  have w1 : p2 61 = 2 * p2 60 := p2_succ 60
  have w2 : p2 60 < p2 400 := p2_lt (by decide)
  have w3 := p2_pos (-60)
  have w4 : p2 (-52) ≤ 1 := by rw [← p2_zero]; exact p2_le (by decide)
  have w5 := p2_pos (-52)
  have w6 := p2_pos (-23)
  have w7 : p2 (-23) ≤ 1 := by rw [← p2_zero]; exact p2_le (by decide)
  have w8 : p2 (-50) = 4 * p2 (-52) := by rw [show (-50 : Int) = -52 + 1 + 1 from rfl, p2_succ, p2_succ]; grind
  have h0 : V FloatKind.f64.format t ≠ 0 := by
    have := absR_cases (V FloatKind.f64.format t)
    grind
  have hB0 := ab_nonneg hx1
  have hk : absR (V FloatKind.f64.format x) ≤ B * N * absR (V FloatKind.f64.format t) := by
    have m1 := Rat.mul_nonneg (show 0 ≤ B * N by grind) (show 0 ≤ absR (V FloatKind.f64.format t) - M by grind)
    have e : B * N * M = B := by grind
    grind
  obtain ⟨Z, z1, z2, z3⟩ := div_bound (K := B * N) h0 hk
  generalize B * N = C at *
  have zC := absR_le.2 ⟨z2, z3⟩
  obtain ⟨m, g1, g2, g3⟩ := quo_spec .f64 (fin_num.1 hx) (fin_num.1 ht) h0 Z z1 (by grind) (by grind)
  have e1 := err64 g3 zC hB
  have e2 : absR (V FloatKind.f64.format m) ≤ C + C * p2 (-52) := by
    have := ab_add zC e1
    have e : Z + (V FloatKind.f64.format m - Z) = V FloatKind.f64.format m := by grind
    rwa [e] at this
  have c1 := Rat.mul_nonneg (show 0 ≤ C by grind) (show 0 ≤ 1 - p2 (-52) by grind)
  have c2 := Rat.mul_nonneg (show 0 ≤ C by grind) (show 0 ≤ p2 (-52) by grind)
  obtain ⟨h3, h4⟩ := absR_le.1 e2
  obtain ⟨m', k1, k2, k3⟩ := narrow_spec (fin_num.1 g2) (by grind) (by grind)
  have e3 := err32 k3 e2 (by grind)
  have e4 := ab_add e3 e1
  have e : V FloatKind.f32.format m' - V FloatKind.f64.format m + (V FloatKind.f64.format m - Z) = V FloatKind.f32.format m' - Z := by grind
  rw [e] at e4
  refine ⟨m, m', Z, g1, fin_num.2 g2, z1, zC, k1, fin_num.2 k2, ab_le e4 ?_⟩
  have c3 := Rat.mul_nonneg (show 0 ≤ C * p2 (-52) by grind) (show 0 ≤ 1 - p2 (-23) by grind)
  rw [w8]
  grind

theorem mul_near1 {y r : Nat} {A : Rat} (hy : fin .f64 y = true) (hr : fin .f64 r = true) (hA : p2 (-60) ≤ A) (hA1 : A ≤ p2 60) (h1 : absR (V FloatKind.f64.format y) ≤ A) (h2 : absR (V FloatKind.f64.format r) ≤ 1) :
    ∃ m, floatBits .mul .f64 y r = some m ∧ fin .f64 m = true ∧ absR (V FloatKind.f64.format m - V FloatKind.f64.format y * V FloatKind.f64.format r) ≤ A * p2 (-52) ∧ absR (V FloatKind.f64.format m) ≤ 2 * A := by
  have l1 := lim64_big.1
  have w2 : p2 60 < p2 400 := p2_lt (by decide)
  have w4 : p2 (-52) ≤ 1 := by rw [← p2_zero]; exact p2_le (by decide)
  have w3 := p2_pos (-60)
  have a1 := ab_mul h1 h2
  obtain ⟨a2, a3⟩ := absR_le.1 a1
  obtain ⟨m, g1, g2, g3⟩ := mul_spec .f64 (fin_num.1 hy) (fin_num.1 hr) (by grind) (by grind)
  have e1 := err64 g3 a1 (by grind)
  have e2 := ab_add a1 e1
  have e : V FloatKind.f64.format y * V FloatKind.f64.format r + (V FloatKind.f64.format m - V FloatKind.f64.format y * V FloatKind.f64.format r) = V FloatKind.f64.format m := by grind
  rw [e] at e2
  have c1 := Rat.mul_nonneg (show 0 ≤ A by grind) (show 0 ≤ 1 - p2 (-52) by grind)
  exact ⟨m, g1, fin_num.2 g2, ab_le e1 (by grind), ab_le e2 (by grind)⟩

theorem add_near1 {x y : Nat} {B : Rat} (hx : fin .f64 x = true) (hy : fin .f64 y = true) (hB : p2 (-60) ≤ B) (hB1 : B ≤ p2 60) (h : absR (V FloatKind.f64.format x + V FloatKind.f64.format y) ≤ B) :
    ∃ m, floatBits .add .f64 x y = some m ∧ fin .f64 m = true ∧ absR (V FloatKind.f64.format m - (V FloatKind.f64.format x + V FloatKind.f64.format y)) ≤ B * p2 (-52) := by
  have l1 := lim64_big.1
  have w2 : p2 60 < p2 400 := p2_lt (by decide)
  obtain ⟨a2, a3⟩ := absR_le.1 h
  obtain ⟨m, g1, g2, g3⟩ := add_spec .f64 (fin_num.1 hx) (fin_num.1 hy) (by grind) (by grind)
  exact ⟨m, g1, fin_num.2 g2, err64 g3 h hB⟩
theorem sub_near1 {x y : Nat} {B : Rat} (hx : fin .f64 x = true) (hy : fin .f64 y = true) (hB : p2 (-60) ≤ B) (hB1 : B ≤ p2 60) (h : absR (V FloatKind.f64.format x - V FloatKind.f64.format y) ≤ B) :
    ∃ m, floatBits .sub .f64 x y = some m ∧ fin .f64 m = true ∧ absR (V FloatKind.f64.format m - (V FloatKind.f64.format x - V FloatKind.f64.format y)) ≤ B * p2 (-52) := by
  have l1 := lim64_big.1
  have w2 : p2 60 < p2 400 := p2_lt (by decide)
  obtain ⟨a2, a3⟩ := absR_le.1 h
  obtain ⟨m, g1, g2, g3⟩ := sub_spec .f64 (fin_num.1 hx) (fin_num.1 hy) (by grind) (by grind)
  exact ⟨m, g1, fin_num.2 g2, err64 g3 h hB⟩

/-- x and y R, added or taken away, in both orders of the two. -/
theorem side_near {x y r : Nat} {A : Rat} (hx : fin .f64 x = true) (hy : fin .f64 y = true) (hr : fin .f64 r = true) (hA : p2 (-30) ≤ A) (hA1 : A ≤ p2 30) (h0 : absR (V FloatKind.f64.format x) ≤ A) (h1 : absR (V FloatKind.f64.format y) ≤ A) (h2 : absR (V FloatKind.f64.format r) ≤ 1) :
    ∃ m, floatBits .mul .f64 y r = some m ∧
      (∃ n, floatBits .add .f64 x m = some n ∧ fin .f64 n = true ∧ absR (V FloatKind.f64.format n - (V FloatKind.f64.format x + V FloatKind.f64.format y * V FloatKind.f64.format r)) ≤ p2 (-50) * A ∧ absR (V FloatKind.f64.format n) ≤ A * (2 + p2 (-50))) ∧
      (∃ n, floatBits .add .f64 m x = some n ∧ fin .f64 n = true ∧ absR (V FloatKind.f64.format n - (V FloatKind.f64.format x + V FloatKind.f64.format y * V FloatKind.f64.format r)) ≤ p2 (-50) * A ∧ absR (V FloatKind.f64.format n) ≤ A * (2 + p2 (-50))) ∧
      (∃ n, floatBits .sub .f64 x m = some n ∧ fin .f64 n = true ∧ absR (V FloatKind.f64.format n - (V FloatKind.f64.format x - V FloatKind.f64.format y * V FloatKind.f64.format r)) ≤ p2 (-50) * A ∧ absR (V FloatKind.f64.format n) ≤ A * (2 + p2 (-50))) ∧
      (∃ n, floatBits .sub .f64 m x = some n ∧ fin .f64 n = true ∧ absR (-V FloatKind.f64.format n - (V FloatKind.f64.format x - V FloatKind.f64.format y * V FloatKind.f64.format r)) ≤ p2 (-50) * A ∧ absR (V FloatKind.f64.format n) ≤ A * (2 + p2 (-50))) := by
  have w1 : p2 (-60) ≤ p2 (-30) := p2_le (by decide)
  have w2 : p2 32 ≤ p2 60 := p2_le (by decide)
  have w3 : p2 32 = 4 * p2 30 := by rw [show (32 : Int) = 30 + 1 + 1 from rfl, p2_succ, p2_succ]; grind
  have w5 := p2_pos (-30)
  have w6 : p2 (-50) = 4 * p2 (-52) := by rw [show (-50 : Int) = -52 + 1 + 1 from rfl, p2_succ, p2_succ]; grind
  have w7 := p2_pos 30
  obtain ⟨m, g1, g2, g3, g4⟩ := mul_near1 hy hr (by grind) (by grind) h1 h2
  have hyr := ab_mul h1 h2
  have sum : absR (V FloatKind.f64.format x + V FloatKind.f64.format m) ≤ 3 * A := ab_le (ab_add h0 g4) (by grind)
  have sum' : absR (V FloatKind.f64.format m + V FloatKind.f64.format x) ≤ 3 * A := by rw [Rat.add_comm]; exact sum
  have dif : absR (V FloatKind.f64.format x - V FloatKind.f64.format m) ≤ 3 * A := by
    have := ab_add h0 (ab_neg g4)
    rw [← Rat.sub_eq_add_neg] at this
    exact ab_le this (by grind)
  have dif' : absR (V FloatKind.f64.format m - V FloatKind.f64.format x) ≤ 3 * A := by
    have := ab_neg dif
    have e : -(V FloatKind.f64.format x - V FloatKind.f64.format m) = V FloatKind.f64.format m - V FloatKind.f64.format x := by grind
    rwa [e] at this
  obtain ⟨n1, a1, a2, a3⟩ := add_near1 hx g2 (B := 3 * A) (by grind) (by grind) sum
  obtain ⟨n2, b1, b2, b3⟩ := add_near1 g2 hx (B := 3 * A) (by grind) (by grind) sum'
  obtain ⟨n3, c1, c2, c3⟩ := sub_near1 hx g2 (B := 3 * A) (by grind) (by grind) dif
  obtain ⟨n4, d1, d2, d3⟩ := sub_near1 g2 hx (B := 3 * A) (by grind) (by grind) dif'
  clear sum sum' dif dif'
  generalize hX : V FloatKind.f64.format x = X at *
  generalize V FloatKind.f64.format m = Mv at *
  generalize V FloatKind.f64.format y * V FloatKind.f64.format r = YR at *
  have tot : ∀ n : Rat, absR (n - (X + YR)) ≤ p2 (-50) * A → absR n ≤ A * (2 + p2 (-50)) := by
    intro n hn
    have := ab_add hn (ab_add h0 hyr)
    have e : n - (X + YR) + (X + YR) = n := by grind
    rw [e] at this
    exact ab_le this (by grind)
  have tot' : ∀ n : Rat, absR (n - (X - YR)) ≤ p2 (-50) * A → absR n ≤ A * (2 + p2 (-50)) := by
    intro n hn
    have := ab_add hn (ab_add h0 (ab_neg hyr))
    have e : n - (X - YR) + (X + -YR) = n := by grind
    rw [e] at this
    exact ab_le this (by grind)
  have r1 : absR (V FloatKind.f64.format n1 - (X + YR)) ≤ p2 (-50) * A := by
    have := ab_add a3 g3
    have e : V FloatKind.f64.format n1 - (X + Mv) + (Mv - YR) = V FloatKind.f64.format n1 - (X + YR) := by grind
    rw [e] at this
    exact ab_le this (by rw [w6]; grind)
  have r2 : absR (V FloatKind.f64.format n2 - (X + YR)) ≤ p2 (-50) * A := by
    have := ab_add b3 g3
    have e : V FloatKind.f64.format n2 - (Mv + X) + (Mv - YR) = V FloatKind.f64.format n2 - (X + YR) := by grind
    rw [e] at this
    exact ab_le this (by rw [w6]; grind)
  have r3 : absR (V FloatKind.f64.format n3 - (X - YR)) ≤ p2 (-50) * A := by
    have := ab_add c3 (ab_neg g3)
    have e : V FloatKind.f64.format n3 - (X - Mv) + -(Mv - YR) = V FloatKind.f64.format n3 - (X - YR) := by grind
    rw [e] at this
    exact ab_le this (by rw [w6]; grind)
  have r4 : absR (-V FloatKind.f64.format n4 - (X - YR)) ≤ p2 (-50) * A := by
    have := ab_add (ab_neg d3) (ab_neg g3)
    have e : -(V FloatKind.f64.format n4 - (Mv - X)) + -(Mv - YR) = -V FloatKind.f64.format n4 - (X - YR) := by grind
    rw [e] at this
    exact ab_le this (by rw [w6]; grind)
  have t4 := ab_neg (tot' _ r4)
  rw [Rat.neg_neg] at t4
  exact ⟨m, g1, ⟨n1, a1, a2, r1, tot _ r1⟩, ⟨n2, b1, b2, r2, tot _ r2⟩, ⟨n3, c1, c2, r3, tot' _ r3⟩, ⟨n4, d1, d2, r4, t4⟩⟩

theorem inv_bounds {M N : Rat} (hM0 : p2 (-30) ≤ M) (hM1 : M ≤ p2 30) (hMN : M * N = 1) : p2 (-30) ≤ N ∧ N ≤ p2 30 := by
  have z0 := p2_pos (-30)
  have e1 : p2 (-30) * p2 30 = 1 := by rw [← p2_add]; exact p2_zero
  constructor
  · rcases Rat.le_total (a := p2 (-30)) (b := N) with g | g
    · exact g
    · by_cases he : N = p2 (-30)
      · grind
      · have m1 := Rat.mul_pos (show 0 < p2 (-30) - N by grind) (show 0 < M by grind)
        have m2 := Rat.mul_nonneg (show 0 ≤ p2 30 - M by grind) (show 0 ≤ p2 (-30) by grind)
        grind
  · rcases Rat.le_total (a := N) (b := p2 30) with g | g
    · exact g
    · by_cases he : N = p2 30
      · grind
      · have m1 := Rat.mul_pos (show 0 < N - p2 30 by grind) (show 0 < M by grind)
        have m2 := Rat.mul_nonneg (show 0 ≤ M - p2 (-30) by grind) (show 0 ≤ p2 30 by grind)
        grind

/-- What one part of a quotient misses, of A N. -/
def qh : Rat := (2 + p2 (-50)) * (p2 (-23) + p2 (-50))
/-- What is left when a quotient is multiplied back, of A. -/
def qe : Rat := 2 * qh + p2 (-50) + p2 (-52) + 2 * p2 (-50)
theorem qh_le : qh ≤ p2 (-22) + p2 (-48) ∧ 0 ≤ qh := by unfold qh; exact ⟨by decide +kernel, by decide +kernel⟩
theorem qe_le : qe ≤ p2 (-21) + p2 (-45) ∧ 0 ≤ qe := by unfold qe qh; exact ⟨by decide +kernel, by decide +kernel⟩

/-- Both parts, behind Smith's way. -/
theorem quo_parts {x t : Nat} {M N A : Rat} (hx : fin .f64 x = true) (ht : fin .f64 t = true) (hMN : M * N = 1) (hM : 0 < M) (hA0 : p2 (-30) ≤ A) (hA1 : A ≤ p2 28) (hN0 : p2 (-30) ≤ N) (hN1 : N ≤ p2 30)
    (hT : M ≤ absR (V FloatKind.f64.format t)) (hx1 : absR (V FloatKind.f64.format x) ≤ A * (2 + p2 (-50))) (Y : Rat) (hY : Y * V FloatKind.f64.format t = 1) :
    ∃ m m', floatBits .quo .f64 x t = some m ∧ fin .f64 m = true ∧ floatToFloatBits .f64 m .f32 = some m' ∧ fin .f32 m' = true ∧ absR (V FloatKind.f32.format m' - V FloatKind.f64.format x * Y) ≤ qh * A * N ∧ absR (V FloatKind.f32.format m') ≤ 3 * A * N := by
  have z0 := p2_pos (-30)
  have z1 := p2_pos (-50)
  have z2 : p2 (-50) ≤ 1 := by rw [← p2_zero]; exact p2_le (by decide)
  have e0 : p2 (-60) = p2 (-30) * p2 (-30) := by rw [← p2_add]; rfl
  have e1 : p2 60 = p2 30 * p2 30 := by rw [← p2_add]; rfl
  have e2 : p2 30 = 4 * p2 28 := by rw [show (30 : Int) = 28 + 1 + 1 from rfl, p2_succ, p2_succ]; grind
  have zN : 0 ≤ N := by grind
  have b1 := Rat.mul_nonneg (show 0 ≤ A - p2 (-30) by grind) (show 0 ≤ N - p2 (-30) by grind)
  have b2 := Rat.mul_nonneg (show 0 ≤ p2 28 - A by grind) (show 0 ≤ N by grind)
  have b3 := Rat.mul_nonneg (show 0 ≤ A by grind) zN
  have b4 := Rat.mul_nonneg (show 0 ≤ p2 30 - N by grind) (show 0 ≤ p2 28 by have := p2_pos 28; grind)
  have b5 := Rat.mul_nonneg b3 (show 0 ≤ 1 - p2 (-50) by grind)
  have b6 := Rat.mul_nonneg b3 (show 0 ≤ p2 (-50) by grind)
  have b7 := Rat.mul_nonneg (Rat.le_of_lt z0) (show 0 ≤ N - p2 (-30) by grind)
  have b8 := Rat.mul_nonneg (Rat.le_of_lt z0) (show 0 ≤ A - p2 (-30) by grind)
  have b9 := Rat.mul_nonneg (Rat.le_of_lt (p2_pos 28)) (Rat.le_of_lt (p2_pos 30))
  have f1 : A * N ≤ p2 28 * p2 30 := by grind
  have f2 : A * (2 + p2 (-50)) * N ≤ 3 * (A * N) := by grind
  have f3 : p2 60 = 4 * (p2 28 * p2 30) := by rw [e1]; grind
  have f4 : p2 (-60) ≤ A * (2 + p2 (-50)) * N := by rw [e0]; grind
  obtain ⟨m, m', Z, g1, g2, g3, g4, g5, g6, g7⟩ := quo_narrow hx ht hMN hM (B := A * (2 + p2 (-50))) f4 (by rw [f3]; grind) hT hx1
  have hZ : Z = V FloatKind.f64.format x * Y := by
    have ht0 : V FloatKind.f64.format t ≠ 0 := by
      have := absR_cases (V FloatKind.f64.format t)
      grind
    have : (Z - V FloatKind.f64.format x * Y) * V FloatKind.f64.format t = 0 := by grind
    have := (Rat.mul_eq_zero.1 this).resolve_right ht0
    grind
  rw [← hZ]
  have e3 : A * (2 + p2 (-50)) * N * (p2 (-23) + p2 (-50)) = qh * A * N := by unfold qh; grind
  rw [e3] at g7
  refine ⟨m, m', g1, g2, g5, g6, g7, ?_⟩
  have := ab_add g7 g4
  have e : V FloatKind.f32.format m' - Z + Z = V FloatKind.f32.format m' := by grind
  rw [e] at this
  have q1 : qh ≤ 1 / 2 := by unfold qh; decide +kernel
  have q2 : p2 (-50) ≤ 1 / 2 := by decide +kernel
  have c1 := Rat.mul_nonneg b3 (show 0 ≤ 1 / 2 - qh by grind)
  have c2 := Rat.mul_nonneg b3 (show 0 ≤ 1 / 2 - p2 (-50) by grind)
  exact ab_le this (by grind)

/-- The quotient of two complex64 numbers, multiplied back, is near what was divided. -/
theorem quo64_near {a b c d : Nat} {A M N : Rat} (ha : fin .f32 a = true) (hb : fin .f32 b = true) (hc : fin .f32 c = true) (hd : fin .f32 d = true)
    (ha1 : absR (V FloatKind.f32.format a) ≤ A) (hb1 : absR (V FloatKind.f32.format b) ≤ A) (hc1 : absR (V FloatKind.f32.format c) ≤ M) (hd1 : absR (V FloatKind.f32.format d) ≤ M)
    (hm : absR (V FloatKind.f32.format c) = M ∨ absR (V FloatKind.f32.format d) = M) (hA0 : p2 (-30) ≤ A) (hA1 : A ≤ p2 28) (hM0 : p2 (-30) ≤ M) (hM1 : M ≤ p2 30) (hMN : M * N = 1) :
    ∃ e f, (∀ (P : Program) (t : TypeId) (w : World), (binOp .quo t (.complex .f32 a b) (.complex .f32 c d)).run P w = .ok (.complex .f32 e f) w) ∧ fin .f32 e = true ∧ fin .f32 f = true ∧
      absR (V FloatKind.f32.format c * V FloatKind.f32.format e - V FloatKind.f32.format d * V FloatKind.f32.format f - V FloatKind.f32.format a) ≤ A * qe ∧
      absR (V FloatKind.f32.format c * V FloatKind.f32.format f + V FloatKind.f32.format d * V FloatKind.f32.format e - V FloatKind.f32.format b) ≤ A * qe ∧
      absR (V FloatKind.f32.format e) ≤ 3 * A * N ∧ absR (V FloatKind.f32.format f) ≤ 3 * A * N := by
  obtain ⟨_, ya, wa⟩ := yW_spec ha
  obtain ⟨_, yb, wb⟩ := yW_spec hb
  obtain ⟨_, yc, wc⟩ := yW_spec hc
  obtain ⟨_, yd, wd⟩ := yW_spec hd
  obtain ⟨hN0, hN1⟩ := inv_bounds hM0 hM1 hMN
  have z0 := p2_pos (-30)
  have hM : 0 < M := by grind
  have hA2 : A ≤ p2 30 := by have : p2 28 ≤ p2 30 := p2_le (by decide)
                             grind
  have ge := absGe_iff yc yd
  rw [wc, wd] at ge
  by_cases hcd : absR (V FloatKind.f32.format d) ≤ absR (V FloatKind.f32.format c)
  · rw [decide_eq_true hcd] at ge
    have hcM : absR (V FloatKind.f32.format c) = M := by grind
    obtain ⟨r, s, t, r1, s1, t1, rf, sf, tf, aR, aT, near, nearR⟩ := smith_near (p := yW c) (q := yW d) (M := M) yc yd (by rw [wc]; exact hcM) hM0 hM1 (by rw [wd]; exact hd1)
    obtain ⟨br, b1, ⟨n1, g1, g2, g3, g4⟩, _⟩ := side_near ya yb rf hA0 hA2 (by rw [wa]; exact ha1) (by rw [wb]; exact hb1) aR
    obtain ⟨ar, c1, _, _, ⟨n2, k1, k2, k3, k4⟩, _⟩ := side_near yb ya rf hA0 hA2 (by rw [wb]; exact hb1) (by rw [wa]; exact ha1) aR
    have ht0 : V FloatKind.f64.format t ≠ 0 := by
      have := absR_cases (V FloatKind.f64.format t)
      grind
    obtain ⟨Y, hY, y1, y2⟩ := div_bound (N := 1) (K := N) ht0 (by
      have m1 := Rat.mul_nonneg (show 0 ≤ N by have := p2_pos (-30); grind) (show 0 ≤ absR (V FloatKind.f64.format t) - M by grind)
      have : absR 1 = 1 := by decide +kernel
      grind)
    obtain ⟨e, e', q1, q2, q3, q4, q5, q6⟩ := quo_parts g2 tf hMN hM hA0 hA1 hN0 hN1 aT g4 Y hY
    obtain ⟨f, f', u1, u2, u3, u4, u5, u6⟩ := quo_parts k2 tf hMN hM hA0 hA1 hN0 hN1 aT k4 Y hY
    have hr : ∀ (P : Program) (w : World), (Op.Complex.quotient (yW a) (yW b) (yW c) (yW d)).run P w = .ok (e, f) w := fun P w =>
      run_quotient_ge w ge r1 s1 t1 b1 g1 q1 c1 k1 u1 (by rw [fin_isNaN q2]; rfl)
    rw [wc, wd] at near nearR
    rw [wa, wb] at g3 k3
    obtain ⟨v1, v2⟩ := quo_core hc1 hd1 hMN near hY (absR_le.2 ⟨y1, y2⟩) nearR ha1 hb1 g3 k3 q5 u5
    refine ⟨e', f', fun P t w => run_quo64 P t ha hb hc hd (hr P) q3 u3 w, q4, u4, v1, ?_, q6, u6⟩
    have e0 : V FloatKind.f32.format c * V FloatKind.f32.format f' + V FloatKind.f32.format d * V FloatKind.f32.format e' - V FloatKind.f32.format b = V FloatKind.f32.format d * V FloatKind.f32.format e' + V FloatKind.f32.format c * V FloatKind.f32.format f' - V FloatKind.f32.format b := by grind
    rw [e0]
    exact v2
  · rw [decide_eq_false hcd] at ge
    have hdM : absR (V FloatKind.f32.format d) = M := by grind
    obtain ⟨r, s, t, r1, s1, t1, rf, sf, tf, aR, aT, near, nearR⟩ := smith_near (p := yW d) (q := yW c) (M := M) yd yc (by rw [wd]; exact hdM) hM0 hM1 (by rw [wc]; exact hc1)
    obtain ⟨ar, b1, _, ⟨n1, g1, g2, g3, g4⟩, _⟩ := side_near yb ya rf hA0 hA2 (by rw [wb]; exact hb1) (by rw [wa]; exact ha1) aR
    obtain ⟨br, c1, _, _, _, ⟨n2, k1, k2, k3, k4⟩⟩ := side_near ya yb rf hA0 hA2 (by rw [wa]; exact ha1) (by rw [wb]; exact hb1) aR
    have ht0 : V FloatKind.f64.format t ≠ 0 := by
      have := absR_cases (V FloatKind.f64.format t)
      grind
    obtain ⟨Y, hY, y1, y2⟩ := div_bound (N := 1) (K := N) ht0 (by
      have m1 := Rat.mul_nonneg (show 0 ≤ N by have := p2_pos (-30); grind) (show 0 ≤ absR (V FloatKind.f64.format t) - M by grind)
      have : absR 1 = 1 := by decide +kernel
      grind)
    obtain ⟨e, e', q1, q2, q3, q4, q5, q6⟩ := quo_parts g2 tf hMN hM hA0 hA1 hN0 hN1 aT g4 Y hY
    obtain ⟨f, f', u1, u2, u3, u4, u5, u6⟩ := quo_parts k2 tf hMN hM hA0 hA1 hN0 hN1 aT k4 Y hY
    have hr : ∀ (P : Program) (w : World), (Op.Complex.quotient (yW a) (yW b) (yW c) (yW d)).run P w = .ok (e, f) w := fun P w =>
      run_quotient_lt w ge r1 s1 t1 b1 g1 q1 c1 k1 u1 (by rw [fin_isNaN q2]; rfl)
    rw [wc, wd] at near nearR
    rw [wa, wb] at g3 k3
    have near' : absR (V FloatKind.f64.format t - (V FloatKind.f32.format d + -V FloatKind.f64.format r * -V FloatKind.f32.format c)) ≤ p2 (-50) * M := by
      have e0 : V FloatKind.f64.format t - (V FloatKind.f32.format d + -V FloatKind.f64.format r * -V FloatKind.f32.format c) = V FloatKind.f64.format t - (V FloatKind.f32.format d + V FloatKind.f64.format r * V FloatKind.f32.format c) := by grind
      rw [e0]; exact near
    have nearR' : absR (-V FloatKind.f64.format r * V FloatKind.f32.format d - -V FloatKind.f32.format c) ≤ p2 (-52) * M := by
      have e0 : -V FloatKind.f64.format r * V FloatKind.f32.format d - -V FloatKind.f32.format c = -(V FloatKind.f64.format r * V FloatKind.f32.format d - V FloatKind.f32.format c) := by grind
      rw [e0]; exact ab_neg nearR
    have g3' : absR (V FloatKind.f64.format n1 - (V FloatKind.f32.format b - V FloatKind.f32.format a * -V FloatKind.f64.format r)) ≤ p2 (-50) * A := by
      have e0 : V FloatKind.f64.format n1 - (V FloatKind.f32.format b - V FloatKind.f32.format a * -V FloatKind.f64.format r) = V FloatKind.f64.format n1 - (V FloatKind.f32.format b + V FloatKind.f32.format a * V FloatKind.f64.format r) := by grind
      rw [e0]; exact g3
    have k3' : absR (-V FloatKind.f64.format n2 - (V FloatKind.f32.format a + V FloatKind.f32.format b * -V FloatKind.f64.format r)) ≤ p2 (-50) * A := by
      have e0 : -V FloatKind.f64.format n2 - (V FloatKind.f32.format a + V FloatKind.f32.format b * -V FloatKind.f64.format r) = -V FloatKind.f64.format n2 - (V FloatKind.f32.format a - V FloatKind.f32.format b * V FloatKind.f64.format r) := by grind
      rw [e0]; exact k3
    have u5' : absR (-V FloatKind.f32.format f' - -V FloatKind.f64.format n2 * Y) ≤ qh * A * N := by
      have e0 : -V FloatKind.f32.format f' - -V FloatKind.f64.format n2 * Y = -(V FloatKind.f32.format f' - V FloatKind.f64.format n2 * Y) := by grind
      rw [e0]; exact ab_neg u5
    obtain ⟨v1, v2⟩ := quo_core (p := V FloatKind.f32.format d) (q := -V FloatKind.f32.format c) hd1 (ab_neg hc1) hMN near' hY (absR_le.2 ⟨y1, y2⟩) nearR' ha1 hb1 k3' g3' u5' q5
    refine ⟨e', f', fun P t w => run_quo64 P t ha hb hc hd (hr P) q3 u3 w, q4, u4, ?_, ?_, q6, u6⟩
    · have e0 : V FloatKind.f32.format c * V FloatKind.f32.format e' - V FloatKind.f32.format d * V FloatKind.f32.format f' - V FloatKind.f32.format a = V FloatKind.f32.format d * -V FloatKind.f32.format f' - -V FloatKind.f32.format c * V FloatKind.f32.format e' - V FloatKind.f32.format a := by grind
      rw [e0]
      exact v1
    · have e0 : V FloatKind.f32.format c * V FloatKind.f32.format f' + V FloatKind.f32.format d * V FloatKind.f32.format e' - V FloatKind.f32.format b = -V FloatKind.f32.format c * -V FloatKind.f32.format f' + V FloatKind.f32.format d * V FloatKind.f32.format e' - V FloatKind.f32.format b := by grind
      rw [e0]
      exact v2

end Go.Proofs.Ythbebgnjidaokaa
