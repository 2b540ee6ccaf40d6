/-
  The quotient of two complex64 numbers, where what one divides by is not 0: no operation on the way asks; how great both parts can become.
-/
import Derived.Test.YthbebgnjidaokaaWhole
import Derived.Laws.ComplexQuo
namespace Go.Proofs.Ythbebgnjidaokaa
open Go.RowKit Fl
open Ieee

theorem has_double {f : Format} {r : Rat} (h : Has f r) : Has f (2 * r) := by
  obtain ⟨n, e, h1, h2, h3⟩ := h
  refine ⟨n, e + 1, h1, by omega, ?_⟩
  rw [p2_succ, h3]
  grind

/-- Between a number that the format has and its negative, the rounded one is so too. -/
theorem rndV_between {f : Format} {x r c : Rat} (h : RndV f x r) (hc : Has f c) (h1 : x ≤ c) (h2 : -c ≤ x) : r ≤ c ∧ -c ≤ r :=
  ⟨rndV_le h hc h1, rndV_ge h (has_neg hc) h2⟩

theorem lim64_big : p2 400 < lim FloatKind.f64.format ∧ p2 400 < p2 (2 ^ (FloatKind.f64.format.exponentBits - 1) - 2) := ⟨by decide +kernel, p2_lt (by decide)⟩

/-- The smaller part divided by the greater one, times itself, and the greater one: Smith's way. -/
theorem smith {p q : Nat} (hp : fin .f64 p = true) (hq : fin .f64 q = true) (h0 : V FloatKind.f64.format p ≠ 0)
    (h1 : V FloatKind.f64.format q ≤ absR (V FloatKind.f64.format p)) (h2 : -absR (V FloatKind.f64.format p) ≤ V FloatKind.f64.format q) (hb : absR (V FloatKind.f64.format p) ≤ p2 128) :
    ∃ r s t, floatBits .quo .f64 q p = some r ∧ floatBits .mul .f64 r q = some s ∧ floatBits .add .f64 p s = some t ∧ fin .f64 r = true ∧ fin .f64 s = true ∧ fin .f64 t = true ∧
      V FloatKind.f64.format r ≤ 1 ∧ -1 ≤ V FloatKind.f64.format r ∧ absR (V FloatKind.f64.format p) ≤ absR (V FloatKind.f64.format t) := by
  have hasP := has_V FloatKind.f64.format p
  have has1 : Has FloatKind.f64.format 1 := by simpa using has_int (f := FloatKind.f64.format) (by decide) 1 (by decide)
  have l1 := lim64_big.1
  have l2 := lim64_big.2
  have b1 : p2 128 < p2 400 := p2_lt (by decide)
  have b2 : (1 : Rat) ≤ p2 128 := by rw [← p2_zero]; exact p2_le (by decide)
  have b3 : 2 * p2 128 < p2 400 := by rw [← p2_succ]; exact p2_lt (by decide)
  generalize hP : V FloatKind.f64.format p = P at *
  generalize hQ : V FloatKind.f64.format q = Q at *
  have hX : Q / P * P = Q := Rat.div_mul_cancel h0
  generalize Q / P = X at hX
  have hA := absR_cases P
  have x1 : X ≤ 1 ∧ -1 ≤ X := by
    rcases hA with ⟨a1, a2⟩ | ⟨a1, a2⟩
    · constructor
      · rcases Rat.le_total (a := X) (b := 1) with h | h
        · exact h
        · have := Rat.mul_nonneg (show 0 ≤ X - 1 by grind) (show 0 ≤ -P by grind)
          by_cases he : X = 1
          · grind
          · have := Rat.mul_pos (show 0 < X - 1 by grind) (show 0 < -P by grind)
            grind
      · rcases Rat.le_total (a := -1) (b := X) with h | h
        · exact h
        · by_cases he : X = -1
          · grind
          · have := Rat.mul_pos (show 0 < -1 - X by grind) (show 0 < -P by grind)
            grind
    · have hp0 : 0 < P := by grind
      constructor
      · rcases Rat.le_total (a := X) (b := 1) with h | h
        · exact h
        · by_cases he : X = 1
          · grind
          · have := Rat.mul_pos (show 0 < X - 1 by grind) hp0
            grind
      · rcases Rat.le_total (a := -1) (b := X) with h | h
        · exact h
        · by_cases he : X = -1
          · grind
          · have := Rat.mul_pos (show 0 < -1 - X by grind) hp0
            grind
  obtain ⟨r, r1, r2, r3⟩ := quo_spec .f64 (fin_num.1 hq) (fin_num.1 hp) (by rw [hP]; exact h0) X (by rw [hP, hQ]; exact hX) (by grind) (by grind)
  obtain ⟨v1, v2⟩ := rndV_between r3 has1 x1.1 x1.2
  -- the sign of the quotient
  have sg : (0 ≤ X → 0 ≤ V FloatKind.f64.format r) ∧ (X ≤ 0 → V FloatKind.f64.format r ≤ 0) := ⟨fun h => rndV_ge r3 (has_zero _) h, fun h => rndV_le r3 (has_zero _) h⟩
  generalize hR : V FloatKind.f64.format r = R at *
  -- R Q has P's sign, and is no greater
  have rq : (0 < P → 0 ≤ R * Q ∧ R * Q ≤ P) ∧ (P < 0 → R * Q ≤ 0 ∧ P ≤ R * Q) := by
    constructor
    · intro hp0
      rcases Rat.le_total (a := 0) (b := Q) with hq0 | hq0
      · have hx0 : 0 ≤ X := by
          rcases Rat.le_total (a := 0) (b := X) with h | h
          · exact h
          · by_cases he : X = 0
            · grind
            · have := Rat.mul_pos (show 0 < -X by grind) hp0
              grind
        have hr0 := sg.1 hx0
        have m1 := Rat.mul_nonneg hr0 hq0
        have m2 := Rat.mul_nonneg (show 0 ≤ 1 - R by grind) hq0
        grind
      · have hx0 : X ≤ 0 := by
          rcases Rat.le_total (a := X) (b := 0) with h | h
          · exact h
          · by_cases he : X = 0
            · grind
            · have := Rat.mul_pos (show 0 < X by grind) hp0
              grind
        have hr0 := sg.2 hx0
        have m1 := Rat.mul_nonneg (show 0 ≤ -R by grind) (show 0 ≤ -Q by grind)
        have m2 := Rat.mul_nonneg (show 0 ≤ 1 + R by grind) (show 0 ≤ -Q by grind)
        grind
    · intro hp0
      rcases Rat.le_total (a := 0) (b := Q) with hq0 | hq0
      · have hx0 : X ≤ 0 := by
          rcases Rat.le_total (a := X) (b := 0) with h | h
          · exact h
          · by_cases he : X = 0
            · grind
            · have := Rat.mul_pos (show 0 < X by grind) (show 0 < -P by grind)
              grind
        have hr0 := sg.2 hx0
        have m1 := Rat.mul_nonneg (show 0 ≤ -R by grind) hq0
        have m2 := Rat.mul_nonneg (show 0 ≤ 1 + R by grind) hq0
        grind
      · have hx0 : 0 ≤ X := by
          rcases Rat.le_total (a := 0) (b := X) with h | h
          · exact h
          · by_cases he : X = 0
            · grind
            · have := Rat.mul_pos (show 0 < -X by grind) (show 0 < -P by grind)
              grind
        have hr0 := sg.1 hx0
        have m1 := Rat.mul_nonneg hr0 (show 0 ≤ -Q by grind)
        have m2 := Rat.mul_nonneg (show 0 ≤ 1 - R by grind) (show 0 ≤ -Q by grind)
        grind
  have hsgn : 0 < P ∨ P < 0 := by grind
  obtain ⟨s, s1, s2, s3⟩ := mul_spec .f64 r2 (fin_num.1 hq) (by rw [hR, hQ]; grind) (by rw [hR, hQ]; grind)
  rw [hR, hQ] at s3
  have sb : (0 < P → 0 ≤ V FloatKind.f64.format s ∧ V FloatKind.f64.format s ≤ P) ∧ (P < 0 → V FloatKind.f64.format s ≤ 0 ∧ P ≤ V FloatKind.f64.format s) :=
    ⟨fun h => ⟨rndV_ge s3 (has_zero _) (rq.1 h).1, rndV_le s3 hasP (rq.1 h).2⟩, fun h => ⟨rndV_le s3 (has_zero _) (rq.2 h).1, rndV_ge s3 hasP (rq.2 h).2⟩⟩
  obtain ⟨t, t1, t2, t3⟩ := add_spec .f64 (fin_num.1 hp) s2 (by rw [hP]; grind) (by rw [hP]; grind)
  rw [hP] at t3
  refine ⟨r, s, t, r1, s1, t1, fin_num.2 r2, fin_num.2 s2, fin_num.2 t2, by rw [hR]; exact v1, by rw [hR]; exact v2, ?_⟩
  have ht := absR_cases (V FloatKind.f64.format t)
  rcases hsgn with h | h
  · have := rndV_ge t3 hasP (by have := (sb.1 h).1; grind)
    grind
  · have := rndV_le t3 hasP (by have := (sb.2 h).1; grind)
    grind

theorem absR_le {x c : Rat} : absR x ≤ c ↔ x ≤ c ∧ -c ≤ x := by
  have := absR_cases x
  constructor <;> grind

/-- A quotient is no greater than so much. -/
theorem div_bound {N T K : Rat} (hT : T ≠ 0) (h : absR N ≤ K * absR T) : ∃ X, X * T = N ∧ X ≤ K ∧ -K ≤ X := by
  refine ⟨N / T, Rat.div_mul_cancel hT, ?_⟩
  have hX : N / T * T = N := Rat.div_mul_cancel hT
  generalize N / T = X at hX
  obtain ⟨h1, h2⟩ := absR_le.1 h
  rcases absR_cases T with ⟨a1, a2⟩ | ⟨a1, a2⟩
  · rw [a2] at h1 h2
    constructor
    · rcases Rat.le_total (a := X) (b := K) with g | g
      · exact g
      · by_cases he : X = K
        · grind
        · have := Rat.mul_pos (show 0 < X - K by grind) (show 0 < -T by grind)
          grind
    · rcases Rat.le_total (a := -K) (b := X) with g | g
      · exact g
      · by_cases he : X = -K
        · grind
        · have := Rat.mul_pos (show 0 < -K - X by grind) (show 0 < -T by grind)
          grind
  · rw [a2] at h1 h2
    have ht : 0 < T := by grind
    constructor
    · rcases Rat.le_total (a := X) (b := K) with g | g
      · exact g
      · by_cases he : X = K
        · grind
        · have := Rat.mul_pos (show 0 < X - K by grind) ht
          grind
    · rcases Rat.le_total (a := -K) (b := X) with g | g
      · exact g
      · by_cases he : X = -K
        · grind
        · have := Rat.mul_pos (show 0 < -K - X by grind) ht
          grind

/-- A product with what is at most 1. -/
theorem mul_small {y r : Nat} {A : Rat} (hy : fin .f64 y = true) (hr : fin .f64 r = true) (hA : Has FloatKind.f64.format A) (hb : A ≤ p2 128) (h1 : absR (V FloatKind.f64.format y) ≤ A)
    (h2 : V FloatKind.f64.format r ≤ 1) (h3 : -1 ≤ V FloatKind.f64.format r) : ∃ m, floatBits .mul .f64 y r = some m ∧ fin .f64 m = true ∧ absR (V FloatKind.f64.format m) ≤ A := by
  obtain ⟨y1, y2⟩ := absR_le.1 h1
  have l1 := lim64_big.1
  have b1 : p2 128 < p2 400 := p2_lt (by decide)
  have e1 : V FloatKind.f64.format y * V FloatKind.f64.format r ≤ A ∧ -A ≤ V FloatKind.f64.format y * V FloatKind.f64.format r := by
    generalize V FloatKind.f64.format y = Y at *
    generalize V FloatKind.f64.format r = R at *
    have m1 := Rat.mul_nonneg (show 0 ≤ A - Y by grind) (show 0 ≤ 1 + R by grind)
    have m2 := Rat.mul_nonneg (show 0 ≤ A + Y by grind) (show 0 ≤ 1 - R by grind)
    have m3 := Rat.mul_nonneg (show 0 ≤ A - Y by grind) (show 0 ≤ 1 - R by grind)
    have m4 := Rat.mul_nonneg (show 0 ≤ A + Y by grind) (show 0 ≤ 1 + R by grind)
    constructor <;> grind
  obtain ⟨m, g1, g2, g3⟩ := mul_spec .f64 (fin_num.1 hy) (fin_num.1 hr) (by grind) (by grind)
  exact ⟨m, g1, fin_num.2 g2, absR_le.2 (rndV_between g3 hA e1.1 e1.2)⟩

theorem add_small {x y : Nat} {A B S : Rat} (hx : fin .f64 x = true) (hy : fin .f64 y = true) (hS : Has FloatKind.f64.format S) (hb : S ≤ p2 129) (h1 : absR (V FloatKind.f64.format x) ≤ A) (h2 : absR (V FloatKind.f64.format y) ≤ B) (h3 : A + B ≤ S) :
    ∃ m, floatBits .add .f64 x y = some m ∧ fin .f64 m = true ∧ absR (V FloatKind.f64.format m) ≤ S := by
  obtain ⟨x1, x2⟩ := absR_le.1 h1
  obtain ⟨y1, y2⟩ := absR_le.1 h2
  have l1 := lim64_big.1
  have b3 : p2 129 < p2 400 := p2_lt (by decide)
  obtain ⟨m, g1, g2, g3⟩ := add_spec .f64 (fin_num.1 hx) (fin_num.1 hy) (by grind) (by grind)
  exact ⟨m, g1, fin_num.2 g2, absR_le.2 (rndV_between g3 hS (by grind) (by grind))⟩

theorem sub_small {x y : Nat} {A B S : Rat} (hx : fin .f64 x = true) (hy : fin .f64 y = true) (hS : Has FloatKind.f64.format S) (hb : S ≤ p2 129) (h1 : absR (V FloatKind.f64.format x) ≤ A) (h2 : absR (V FloatKind.f64.format y) ≤ B) (h3 : A + B ≤ S) :
    ∃ m, floatBits .sub .f64 x y = some m ∧ fin .f64 m = true ∧ absR (V FloatKind.f64.format m) ≤ S := by
  obtain ⟨x1, x2⟩ := absR_le.1 h1
  obtain ⟨y1, y2⟩ := absR_le.1 h2
  have l1 := lim64_big.1
  have b3 : p2 129 < p2 400 := p2_lt (by decide)
  obtain ⟨m, g1, g2, g3⟩ := sub_spec .f64 (fin_num.1 hx) (fin_num.1 hy) (by grind) (by grind)
  exact ⟨m, g1, fin_num.2 g2, absR_le.2 (rndV_between g3 hS (by grind) (by grind))⟩

theorem quo_small {x t : Nat} {K : Rat} (hx : fin .f64 x = true) (ht : fin .f64 t = true) (h0 : V FloatKind.f64.format t ≠ 0) (hK : Has FloatKind.f64.format K) (h2 : K < p2 400)
    (h : absR (V FloatKind.f64.format x) ≤ K * absR (V FloatKind.f64.format t)) : ∃ m, floatBits .quo .f64 x t = some m ∧ fin .f64 m = true ∧ absR (V FloatKind.f64.format m) ≤ K := by
  obtain ⟨X, x1, x2, x3⟩ := div_bound h0 h
  have l2 := lim64_big.2
  obtain ⟨m, g1, g2, g3⟩ := quo_spec .f64 (fin_num.1 hx) (fin_num.1 ht) h0 X x1 (by grind) (by grind)
  exact ⟨m, g1, fin_num.2 g2, absR_le.2 (rndV_between g3 hK x2 x3)⟩

theorem absGe_iff {c d : Nat} (hc : fin .f64 c = true) (hd : fin .f64 d = true) : absGe c d = decide (absR (V FloatKind.f64.format d) ≤ absR (V FloatKind.f64.format c)) := by
  obtain ⟨c1, c2⟩ := abs_spec .f64 (fin_num.1 hc)
  obtain ⟨d1, d2⟩ := abs_spec .f64 (fin_num.1 hd)
  have e1 : Op.Complex.abs c = c % FloatKind.f64.format.signWeight := rfl
  have e2 : Op.Complex.abs d = d % FloatKind.f64.format.signWeight := rfl
  unfold absGe absR
  rw [e1, e2, gt_walk c1 d1, eq_walk c1 d1, c2, d2, Bool.eq_iff_iff]
  simp only [Bool.or_eq_true, decide_eq_true_eq]
  generalize (if V FloatKind.f64.format c < 0 then -V FloatKind.f64.format c else V FloatKind.f64.format c) = C
  generalize (if V FloatKind.f64.format d < 0 then -V FloatKind.f64.format d else V FloatKind.f64.format d) = D
  constructor
  · intro h; rcases h with h | h <;> grind
  · intro h
    by_cases he : C = D
    · exact .inr he
    · exact .inl (by grind)

theorem fin_isNaN {x : Nat} (h : fin .f64 x = true) : Op.Complex.isNaN x = false := fin_not_nan h

/-- The quotient of two complex128 numbers that are not too great, by one that is not 0. -/
theorem cquo_fin {a b c d : Nat} {A B S K : Rat} (ha : fin .f64 a = true) (hb : fin .f64 b = true) (hc : fin .f64 c = true) (hd : fin .f64 d = true) (hA : Has FloatKind.f64.format A) (hA1 : A ≤ p2 128) (hB : Has FloatKind.f64.format B) (hB1 : B ≤ p2 128) (hS : Has FloatKind.f64.format S) (hS1 : S ≤ p2 129) (hAB : A + B ≤ S)
    (a1 : absR (V FloatKind.f64.format a) ≤ A) (b1 : absR (V FloatKind.f64.format b) ≤ B) (c1 : absR (V FloatKind.f64.format c) ≤ p2 128) (d1 : absR (V FloatKind.f64.format d) ≤ p2 128)
    (h0 : V FloatKind.f64.format c ≠ 0 ∨ V FloatKind.f64.format d ≠ 0) (hK : Has FloatKind.f64.format K) (hK0 : 0 ≤ K) (hK1 : K < p2 400)
    (hK2 : S ≤ K * absR (V FloatKind.f64.format c) ∨ S ≤ K * absR (V FloatKind.f64.format d)) :
    ∃ e f, (∀ (P : Program) (w : World), (Op.Complex.quotient a b c d).run P w = .ok (e, f) w) ∧ fin .f64 e = true ∧ fin .f64 f = true ∧ absR (V FloatKind.f64.format e) ≤ K ∧ absR (V FloatKind.f64.format f) ≤ K := by
  have hge := absGe_iff hc hd
  have ca := absR_cases (V FloatKind.f64.format c)
  have da := absR_cases (V FloatKind.f64.format d)
  by_cases hcd : absR (V FloatKind.f64.format d) ≤ absR (V FloatKind.f64.format c)
  · rw [decide_eq_true hcd] at hge
    have hc0 : V FloatKind.f64.format c ≠ 0 := by grind
    obtain ⟨g1, g2⟩ := absR_le.1 hcd
    obtain ⟨r, s, t, r1, s1, t1, rf, sf, tf, v1, v2, v3⟩ := smith hc hd hc0 g1 g2 c1
    have hk : S ≤ K * absR (V FloatKind.f64.format t) := by
      have m1 := Rat.mul_nonneg hK0 (show 0 ≤ absR (V FloatKind.f64.format t) - absR (V FloatKind.f64.format c) by grind)
      have m2 := Rat.mul_nonneg hK0 (show 0 ≤ absR (V FloatKind.f64.format c) - absR (V FloatKind.f64.format d) by grind)
      rcases hK2 with h | h <;> grind
    have ht0 : V FloatKind.f64.format t ≠ 0 := by
      have := absR_cases (V FloatKind.f64.format t)
      grind
    obtain ⟨br, q1, q2, q3⟩ := mul_small hb rf hB hB1 b1 v1 v2
    obtain ⟨n1, q4, q5, q6⟩ := add_small ha q2 hS hS1 a1 q3 hAB
    obtain ⟨e, q7, q8, q9⟩ := quo_small q5 tf ht0 hK hK1 (by grind)
    obtain ⟨ar, p1, pp, p3⟩ := mul_small ha rf hA hA1 a1 v1 v2
    obtain ⟨n2, p4, p5, p6⟩ := sub_small hb pp hS hS1 b1 p3 (by grind)
    obtain ⟨f, p7, p8, p9⟩ := quo_small p5 tf ht0 hK hK1 (by grind)
    exact ⟨e, f, fun P w => run_quotient_ge w hge r1 s1 t1 q1 q4 q7 p1 p4 p7 (by rw [fin_isNaN q8]; rfl), q8, p8, q9, p9⟩
  · rw [decide_eq_false hcd] at hge
    have hd0 : V FloatKind.f64.format d ≠ 0 := by grind
    obtain ⟨g1, g2⟩ := absR_le.1 (show absR (V FloatKind.f64.format c) ≤ absR (V FloatKind.f64.format d) by grind)
    obtain ⟨r, s, t, r1, s1, t1, rf, sf, tf, v1, v2, v3⟩ := smith hd hc hd0 g1 g2 d1
    have hk : S ≤ K * absR (V FloatKind.f64.format t) := by
      have m1 := Rat.mul_nonneg hK0 (show 0 ≤ absR (V FloatKind.f64.format t) - absR (V FloatKind.f64.format d) by grind)
      have m2 := Rat.mul_nonneg hK0 (show 0 ≤ absR (V FloatKind.f64.format d) - absR (V FloatKind.f64.format c) by grind)
      rcases hK2 with h | h <;> grind
    have ht0 : V FloatKind.f64.format t ≠ 0 := by
      have := absR_cases (V FloatKind.f64.format t)
      grind
    obtain ⟨ar, q1, q2, q3⟩ := mul_small ha rf hA hA1 a1 v1 v2
    obtain ⟨n1, q4, q5, q6⟩ := add_small q2 hb hS hS1 q3 b1 hAB
    obtain ⟨e, q7, q8, q9⟩ := quo_small q5 tf ht0 hK hK1 (by grind)
    obtain ⟨br, p1, pp, p3⟩ := mul_small hb rf hB hB1 b1 v1 v2
    obtain ⟨n2, p4, p5, p6⟩ := sub_small pp ha hS hS1 p3 a1 (by grind)
    obtain ⟨f, p7, p8, p9⟩ := quo_small p5 tf ht0 hK hK1 (by grind)
    exact ⟨e, f, fun P w => run_quotient_lt w hge r1 s1 t1 q1 q4 q7 p1 p4 p7 (by rw [fin_isNaN q8]; rfl), q8, p8, q9, p9⟩

/-- A quotient of two complex64 numbers, where no operation on the way asks. -/
theorem run_quo64 (P : Program) (t : TypeId) {a b c d e f e' f' : Nat} (ha : fin .f32 a = true) (hb : fin .f32 b = true) (hc : fin .f32 c = true) (hd : fin .f32 d = true)
    (h : ∀ w, (Op.Complex.quotient (yW a) (yW b) (yW c) (yW d)).run P w = .ok (e, f) w) (he : floatToFloatBits .f64 e .f32 = some e') (hf : floatToFloatBits .f64 f .f32 = some f') (w : World) :
    (binOp .quo t (.complex .f32 a b) (.complex .f32 c d)).run P w = .ok (.complex .f32 e' f') w := by
  have conv : ∀ (s k : FloatKind) (x r : Nat), floatToFloatBits s x k = some r → ∀ w, (Op.Complex.conv s x k).run P w = .ok r w := by
    intro s k x r hr w
    unfold Op.Complex.conv
    by_cases hk : s = k
    · unfold floatToFloatBits at hr
      rw [if_pos hk] at hr
      injection hr with hr
      rw [if_pos hk, hr]; rfl
    · rw [if_neg hk]
      simp [run_floatToFloat w hr]
  have c1 := conv _ _ _ _ (yW_spec ha).1
  have c2 := conv _ _ _ _ (yW_spec hb).1
  have c3 := conv _ _ _ _ (yW_spec hc).1
  have c4 := conv _ _ _ _ (yW_spec hd).1
  have c5 := conv _ _ _ _ he
  have c6 := conv _ _ _ _ hf
  simp [binOp, Op.complexOp, c1, c2, c3, c4, c5, c6, h]

theorem widen_bound {x : Nat} (hx : fin .f32 x = true) : absR (V FloatKind.f64.format (yW x)) ≤ p2 128 := by
  obtain ⟨_, _, h⟩ := yW_spec hx
  rw [h]
  exact Rat.le_of_lt (absR_bound x).1

/-- The quotient of two complex64 numbers is there, and no greater than so much, where nothing on the way becomes too great. -/
theorem quo64_fin {a b c d : Nat} {A B S K : Rat} (ha : fin .f32 a = true) (hb : fin .f32 b = true) (hc : fin .f32 c = true) (hd : fin .f32 d = true) (hA : Has FloatKind.f64.format A) (hA1 : A ≤ p2 128) (hB : Has FloatKind.f64.format B) (hB1 : B ≤ p2 128) (hS : Has FloatKind.f64.format S) (hS1 : S ≤ p2 129) (hAB : A + B ≤ S)
    (a1 : absR (V FloatKind.f32.format a) ≤ A) (b1 : absR (V FloatKind.f32.format b) ≤ B) (h0 : V FloatKind.f32.format c ≠ 0 ∨ V FloatKind.f32.format d ≠ 0)
    (hK : Has FloatKind.f64.format K) (hK3 : Has FloatKind.f32.format K) (hK0 : 0 ≤ K) (hK1 : K < lim FloatKind.f32.format) (hK2 : S ≤ K * absR (V FloatKind.f32.format c) ∨ S ≤ K * absR (V FloatKind.f32.format d)) :
    ∃ e f, (∀ (P : Program) (t : TypeId) (w : World), (binOp .quo t (.complex .f32 a b) (.complex .f32 c d)).run P w = .ok (.complex .f32 e f) w) ∧ fin .f32 e = true ∧ fin .f32 f = true ∧
      absR (V FloatKind.f32.format e) ≤ K ∧ absR (V FloatKind.f32.format f) ≤ K := by
  obtain ⟨_, ya, wa⟩ := yW_spec ha
  obtain ⟨_, yb, wb⟩ := yW_spec hb
  obtain ⟨_, yc, wc⟩ := yW_spec hc
  obtain ⟨_, yd, wd⟩ := yW_spec hd
  have l : lim FloatKind.f32.format < p2 400 := by decide +kernel
  obtain ⟨e, f, r, e1, f1, e2, f2⟩ := cquo_fin (K := K) ya yb yc yd hA hA1 hB hB1 hS hS1 hAB (by rw [wa]; exact a1) (by rw [wb]; exact b1) (widen_bound hc) (widen_bound hd) (by rw [wc, wd]; exact h0) hK hK0 (by grind) (by rw [wc, wd]; exact hK2)
  obtain ⟨e3, e4⟩ := absR_le.1 e2
  obtain ⟨f3, f4⟩ := absR_le.1 f2
  obtain ⟨e', m1, m2, m3⟩ := narrow_spec (fin_num.1 e1) (by grind) (by grind)
  obtain ⟨f', n1, n2, n3⟩ := narrow_spec (fin_num.1 f1) (by grind) (by grind)
  exact ⟨e', f', fun P t w => run_quo64 P t ha hb hc hd (r P) m1 n1 w, fin_num.2 m2, fin_num.2 n2, absR_le.2 (rndV_between m3 hK3 e3 e4), absR_le.2 (rndV_between n3 hK3 f3 f4)⟩

end Go.Proofs.Ythbebgnjidaokaa
