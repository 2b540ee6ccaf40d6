/-
  Nearness of complex64 numbers step by step: sums, differences, products and quotients of numbers that are near known ones are there, without a question to the tape, and near the known result.
-/
import Derived.Test.YteikkbmmbnihaaaTop
import Derived.Test.YteikkbmmbnihaaaCir
namespace Go.Proofs.Yteikkbmmbnihaaa
open Go.RowKit Fl
open Ieee

theorem v128 (x : Nat) : absR (V FloatKind.f32.format x) ≤ p2 128 := Rat.le_of_lt (absR_bound x).1

/-- A product of two float32 parts, exact as float64. -/
theorem prod64 {a c : Nat} (ha : fin .f32 a = true) (hc : fin .f32 c = true) :
    ∃ p, floatBits .mul .f64 (yW a) (yW c) = some p ∧ fin .f64 p = true ∧ V FloatKind.f64.format p = V FloatKind.f32.format a * V FloatKind.f32.format c := by
  obtain ⟨_, ya, wa⟩ := yW_spec ha
  obtain ⟨_, yc, wc⟩ := yW_spec hc
  have l1 := lim64_big.1
  have w1 : p2 256 < p2 400 := p2_lt (by decide)
  have e1 : p2 128 * p2 128 = p2 256 := by rw [← p2_add]; rfl
  have m := ab_mul (v128 a) (v128 c)
  rw [e1] at m
  obtain ⟨m1, m2⟩ := absR_le.1 m
  obtain ⟨p, p1, p2', p3⟩ := mul_spec .f64 (fin_num.1 ya) (fin_num.1 yc) (by rw [wa, wc]; grind) (by rw [wa, wc]; grind)
  rw [wa, wc] at p3
  exact ⟨p, p1, fin_num.2 p2', rndV_exact p3 (has_prod a c)⟩

theorem p2_256 : p2 256 + p2 256 < p2 400 ∧ 0 ≤ p2 256 := by
  have e : p2 257 = 2 * p2 256 := p2_succ 256
  have w1 : p2 257 < p2 400 := p2_lt (by decide)
  have w2 := p2_pos 256
  constructor <;> grind

theorem prod_bound (a c : Nat) : absR (V FloatKind.f32.format a * V FloatKind.f32.format c) ≤ p2 256 := by
  have e1 : p2 128 * p2 128 = p2 256 := by rw [← p2_add]; rfl
  have m := ab_mul (v128 a) (v128 c)
  rwa [e1] at m

/-- The difference, and the sum, of two products, as float64. -/
theorem dot64_sub {a b c d : Nat} (ha : fin .f32 a = true) (hb : fin .f32 b = true) (hc : fin .f32 c = true) (hd : fin .f32 d = true) :
    ∃ p q r, floatBits .mul .f64 (yW a) (yW c) = some p ∧ floatBits .mul .f64 (yW b) (yW d) = some q ∧ floatBits .sub .f64 p q = some r ∧ fin .f64 r = true ∧
      RndV FloatKind.f64.format (V FloatKind.f32.format a * V FloatKind.f32.format c - V FloatKind.f32.format b * V FloatKind.f32.format d) (V FloatKind.f64.format r) := by
  obtain ⟨p, p1, pf, p3⟩ := prod64 ha hc
  obtain ⟨q, q1, q2, q3⟩ := prod64 hb hd
  have l1 := lim64_big.1
  have w := p2_256
  obtain ⟨m1, m2⟩ := absR_le.1 (prod_bound a c)
  obtain ⟨n1, n2⟩ := absR_le.1 (prod_bound b d)
  obtain ⟨r, r1, r2, r3⟩ := sub_spec .f64 (fin_num.1 pf) (fin_num.1 q2) (by rw [p3, q3]; grind) (by rw [p3, q3]; grind)
  rw [p3, q3] at r3
  exact ⟨p, q, r, p1, q1, r1, fin_num.2 r2, r3⟩
theorem dot64_add {a b c d : Nat} (ha : fin .f32 a = true) (hb : fin .f32 b = true) (hc : fin .f32 c = true) (hd : fin .f32 d = true) :
    ∃ p q r, floatBits .mul .f64 (yW a) (yW c) = some p ∧ floatBits .mul .f64 (yW b) (yW d) = some q ∧ floatBits .add .f64 p q = some r ∧ fin .f64 r = true ∧
      RndV FloatKind.f64.format (V FloatKind.f32.format a * V FloatKind.f32.format c + V FloatKind.f32.format b * V FloatKind.f32.format d) (V FloatKind.f64.format r) := by
  obtain ⟨p, p1, pf, p3⟩ := prod64 ha hc
  obtain ⟨q, q1, q2, q3⟩ := prod64 hb hd
  have l1 := lim64_big.1
  have w := p2_256
  obtain ⟨m1, m2⟩ := absR_le.1 (prod_bound a c)
  obtain ⟨n1, n2⟩ := absR_le.1 (prod_bound b d)
  obtain ⟨r, r1, r2, r3⟩ := add_spec .f64 (fin_num.1 pf) (fin_num.1 q2) (by rw [p3, q3]; grind) (by rw [p3, q3]; grind)
  rw [p3, q3] at r3
  exact ⟨p, q, r, p1, q1, r1, fin_num.2 r2, r3⟩

theorem top_facts : p2 (-52) ≤ 1 / 1000000 ∧ p2 (-23) + p2 (-45) ≤ p2 (-22) ∧ 0 < p2 (-52) ∧ 0 < p2 (-23) ∧ p2 (-52) + p2 (-23) * (1 + p2 (-52)) ≤ p2 (-22) ∧ (320000000000000000000000000000000000000 : Rat) * (1 + p2 (-52)) ≤ top32 := by
  refine ⟨by decide +kernel, by decide +kernel, by decide +kernel, by decide +kernel, by decide +kernel, by decide +kernel⟩

/-- Narrowed after one rounding as float64. -/
theorem narrow_two {r : Nat} {P A : Rat} (hr : fin .f64 r = true) (h : RndV FloatKind.f64.format P (V FloatKind.f64.format r)) (hP : absR P ≤ A) (hA0 : p2 (-60) ≤ A) (hA1 : A ≤ 320000000000000000000000000000000000000) :
    ∃ e, floatToFloatBits .f64 r .f32 = some e ∧ fin .f32 e = true ∧ absR (V FloatKind.f32.format e - P) ≤ A * p2 (-22) := by
  obtain ⟨t1, t2, t3, t4, t5, t6⟩ := top_facts
  have z := p2_pos (-60)
  have e1 := err64 h hP hA0
  have b1 : absR (V FloatKind.f64.format r) ≤ A * (1 + p2 (-52)) := by
    have := ab_add e1 hP
    have e : V FloatKind.f64.format r - P + P = V FloatKind.f64.format r := by grind
    rw [e] at this
    exact ab_le this (by grind)
  have b2 : A * (1 + p2 (-52)) ≤ top32 := by
    have := Rat.mul_le_mul_of_nonneg_right hA1 (show 0 ≤ 1 + p2 (-52) by grind)
    grind
  obtain ⟨b3, b4⟩ := absR_le.1 (ab_le b1 b2)
  obtain ⟨e, k1, k2, k3⟩ := narrow_top (fin_num.1 hr) b3 b4
  have e2 := err32 k3 b1 (by
    have := Rat.mul_nonneg (show 0 ≤ A by grind) (show 0 ≤ p2 (-52) by grind)
    grind)
  refine ⟨e, k1, fin_num.2 k2, ?_⟩
  have := ab_add e2 e1
  have e3 : V FloatKind.f32.format e - V FloatKind.f64.format r + (V FloatKind.f64.format r - P) = V FloatKind.f32.format e - P := by grind
  rw [e3] at this
  refine ab_le this ?_
  have := Rat.mul_le_mul_of_nonneg_left t5 (show 0 ≤ A by grind)
  grind

/-- The product of two complex64 numbers. -/
theorem cmul_gen {a b c d : Nat} {A : Rat} (ha : fin .f32 a = true) (hb : fin .f32 b = true) (hc : fin .f32 c = true) (hd : fin .f32 d = true) (hA0 : p2 (-60) ≤ A) (hA1 : A ≤ 320000000000000000000000000000000000000)
    (h1 : absR (V FloatKind.f32.format a * V FloatKind.f32.format c - V FloatKind.f32.format b * V FloatKind.f32.format d) ≤ A) (h2 : absR (V FloatKind.f32.format a * V FloatKind.f32.format d + V FloatKind.f32.format b * V FloatKind.f32.format c) ≤ A) :
    ∃ e f, (∀ (P : Program) (t : TypeId) (w : World), (binOp .mul t (.complex .f32 a b) (.complex .f32 c d)).run P w = .ok (.complex .f32 e f) w) ∧ fin .f32 e = true ∧ fin .f32 f = true ∧
      absR (V FloatKind.f32.format e - (V FloatKind.f32.format a * V FloatKind.f32.format c - V FloatKind.f32.format b * V FloatKind.f32.format d)) ≤ A * p2 (-22) ∧
      absR (V FloatKind.f32.format f - (V FloatKind.f32.format a * V FloatKind.f32.format d + V FloatKind.f32.format b * V FloatKind.f32.format c)) ≤ A * p2 (-22) ∧ e < 2 ^ 32 ∧ f < 2 ^ 32 := by
  obtain ⟨p, q, r, p1, q1, r1, r2, r3⟩ := dot64_sub ha hb hc hd
  obtain ⟨p', q', u, p1', q1', u1, u2, u3⟩ := dot64_add ha hb hd hc
  obtain ⟨e, e1, e2, e3⟩ := narrow_two r2 r3 h1 hA0 hA1
  obtain ⟨f, f1, f2, f3⟩ := narrow_two u2 u3 h2 hA0 hA1
  refine ⟨e, f, fun P t w => run_mul64 P t ha hb hc hd ?_ e1 f1 w, e2, f2, e3, f3, narrow_lt e1, narrow_lt f1⟩
  unfold cMulBits
  rw [p1, q1, p1', q1']
  simp [r1, u1]

/-- A number of these words is near that of these parts. -/
def Cx (a b : Nat) (X Y ε : Rat) : Prop := fin .f32 a = true ∧ fin .f32 b = true ∧ absR (V FloatKind.f32.format a - X) ≤ ε ∧ absR (V FloatKind.f32.format b - Y) ≤ ε

theorem Cx.of {a b : Nat} (ha : fin .f32 a = true) (hb : fin .f32 b = true) : Cx a b (V FloatKind.f32.format a) (V FloatKind.f32.format b) 0 := by
  have z : ∀ x : Rat, absR (x - x) ≤ 0 := fun x => absR_le.2 ⟨by grind, by grind⟩
  exact ⟨ha, hb, z _, z _⟩
theorem Cx.le {a b : Nat} {X Y ε δ : Rat} (h : Cx a b X Y ε) (hd : ε ≤ δ) : Cx a b X Y δ := ⟨h.1, h.2.1, ab_le h.2.2.1 hd, ab_le h.2.2.2 hd⟩
theorem Cx.to {a b : Nat} {X Y Z W ε : Rat} (h : Cx a b X Y ε) (h1 : X = Z) (h2 : Y = W) : Cx a b Z W ε := by rw [← h1, ← h2]; exact h
theorem Cx.move {a b : Nat} {X Y Z W ε δ : Rat} (h : Cx a b X Y ε) (h1 : absR (X - Z) ≤ δ) (h2 : absR (Y - W) ≤ δ) : Cx a b Z W (ε + δ) := by
  refine ⟨h.1, h.2.1, ?_, ?_⟩
  · have := ab_add h.2.2.1 h1
    have e : V FloatKind.f32.format a - X + (X - Z) = V FloatKind.f32.format a - Z := by grind
    rwa [e] at this
  · have := ab_add h.2.2.2 h2
    have e : V FloatKind.f32.format b - Y + (Y - W) = V FloatKind.f32.format b - W := by grind
    rwa [e] at this
theorem Cx.eps {a b : Nat} {X Y ε : Rat} (h : Cx a b X Y ε) : 0 ≤ ε := ab_nonneg h.2.2.1
theorem near_le {x X ε A : Rat} (h : absR (x - X) ≤ ε) (hA : absR X ≤ A) : absR x ≤ A + ε := by
  have := ab_add h hA
  have e : x - X + X = x := by grind
  rw [e] at this
  exact ab_le this (by grind)

theorem prod_near {x y X Y A B ε δ : Rat} (h1 : absR (x - X) ≤ ε) (h2 : absR (y - Y) ≤ δ) (hA : absR X ≤ A) (hB : absR Y ≤ B) : absR (x * y - X * Y) ≤ A * δ + B * ε + ε * δ := by
  have m1 := ab_mul h1 h2
  have m2 := ab_mul hA h2
  have m3 := ab_mul h1 hB
  have := ab_add (ab_add m2 m3) m1
  have e : X * (y - Y) + (x - X) * Y + (x - X) * (y - Y) = x * y - X * Y := by grind
  rw [e] at this
  exact ab_le this (by grind)

/-- A product of numbers near X + Yi and Z + Wi. -/
theorem Cx.mul {a b c d : Nat} {X Y Z W ε δ : Rat} (h1 : Cx a b X Y ε) (h2 : Cx c d Z W δ) (A B η : Rat) (hX : absR X ≤ A) (hY : absR Y ≤ A) (hZ : absR Z ≤ B) (hW : absR W ≤ B)
    (hl : p2 (-60) ≤ 2 * ((A + ε) * (B + δ))) (hu : 2 * ((A + ε) * (B + δ)) ≤ 320000000000000000000000000000000000000) (hη : 2 * (A * δ + B * ε + ε * δ) + 2 * ((A + ε) * (B + δ)) * p2 (-22) ≤ η) :
    ∃ e f, (∀ (P : Program) (t : TypeId) (w : World), (binOp .mul t (.complex .f32 a b) (.complex .f32 c d)).run P w = .ok (.complex .f32 e f) w) ∧ Cx e f (X * Z - Y * W) (X * W + Y * Z) η := by
  obtain ⟨ha, hb, a1, b1⟩ := h1
  obtain ⟨hc, hd, c1, d1⟩ := h2
  have a2 := near_le a1 hX
  have b2 := near_le b1 hY
  have c2 := near_le c1 hZ
  have d2 := near_le d1 hW
  have ac := ab_mul a2 c2
  have bd := ab_mul b2 d2
  have ad := ab_mul a2 d2
  have bc := ab_mul b2 c2
  have g1 := ab_add ac (ab_neg bd)
  have g2 := ab_add ad bc
  rw [← Rat.sub_eq_add_neg] at g1
  have eA : (A + ε) * (B + δ) + (A + ε) * (B + δ) = 2 * ((A + ε) * (B + δ)) := by grind
  rw [eA] at g1 g2
  obtain ⟨e, f, hm, he, hf, e3, f3, _, _⟩ := cmul_gen ha hb hc hd hl hu g1 g2
  refine ⟨e, f, hm, he, hf, ?_, ?_⟩
  · have n1 := prod_near a1 c1 hX hZ
    have n2 := prod_near b1 d1 hY hW
    have := ab_add e3 (ab_add n1 (ab_neg n2))
    have e0 : V FloatKind.f32.format e - (V FloatKind.f32.format a * V FloatKind.f32.format c - V FloatKind.f32.format b * V FloatKind.f32.format d) + (V FloatKind.f32.format a * V FloatKind.f32.format c - X * Z + -(V FloatKind.f32.format b * V FloatKind.f32.format d - Y * W)) = V FloatKind.f32.format e - (X * Z - Y * W) := by grind
    rw [e0] at this
    exact ab_le this (by grind)
  · have n1 := prod_near a1 d1 hX hW
    have n2 := prod_near b1 c1 hY hZ
    have := ab_add f3 (ab_add n1 n2)
    have e0 : V FloatKind.f32.format f - (V FloatKind.f32.format a * V FloatKind.f32.format d + V FloatKind.f32.format b * V FloatKind.f32.format c) + (V FloatKind.f32.format a * V FloatKind.f32.format d - X * W + (V FloatKind.f32.format b * V FloatKind.f32.format c - Y * Z)) = V FloatKind.f32.format f - (X * W + Y * Z) := by grind
    rw [e0] at this
    exact ab_le this (by grind)

theorem part_add {a c : Nat} {X Z S ε δ η : Rat} (ha : fin .f32 a = true) (hc : fin .f32 c = true) (a1 : absR (V FloatKind.f32.format a - X) ≤ ε) (c1 : absR (V FloatKind.f32.format c - Z) ≤ δ) (hS : absR (X + Z) + ε + δ ≤ S) (hl : p2 (-60) ≤ S) (hu : S ≤ 100000000000000000000)
    (hη : ε + δ + S * p2 (-23) ≤ η) : floatBits .add .f32 a c = some (addB a c) ∧ fin .f32 (addB a c) = true ∧ absR (V FloatKind.f32.format (addB a c) - (X + Z)) ≤ η := by
  have n := ab_add a1 c1
  have e0 : V FloatKind.f32.format a - X + (V FloatKind.f32.format c - Z) = V FloatKind.f32.format a + V FloatKind.f32.format c - (X + Z) := by grind
  rw [e0] at n
  have b := near_le n (ab_le (A := absR (X + Z)) (B := S - ε - δ) Rat.le_refl (by grind))
  have b' := ab_le (B := S) b (by grind)
  obtain ⟨b1, b2⟩ := absR_le.1 b'
  have l := lim32.1
  obtain ⟨r, r1, r2, r3⟩ := add_spec .f32 (fin_num.1 ha) (fin_num.1 hc) (by grind) (by grind)
  have e : addB a c = r := by unfold addB; rw [r1]; rfl
  rw [e]
  refine ⟨r1, fin_num.2 r2, ?_⟩
  have := ab_add (err32 r3 b' hl) n
  have e1 : V FloatKind.f32.format r - (V FloatKind.f32.format a + V FloatKind.f32.format c) + (V FloatKind.f32.format a + V FloatKind.f32.format c - (X + Z)) = V FloatKind.f32.format r - (X + Z) := by grind
  rw [e1] at this
  exact ab_le this (by grind)

theorem part_sub {a c : Nat} {X Z S ε δ η : Rat} (ha : fin .f32 a = true) (hc : fin .f32 c = true) (a1 : absR (V FloatKind.f32.format a - X) ≤ ε) (c1 : absR (V FloatKind.f32.format c - Z) ≤ δ) (hS : absR (X - Z) + ε + δ ≤ S) (hl : p2 (-60) ≤ S) (hu : S ≤ 100000000000000000000)
    (hη : ε + δ + S * p2 (-23) ≤ η) : floatBits .sub .f32 a c = some (subB a c) ∧ fin .f32 (subB a c) = true ∧ absR (V FloatKind.f32.format (subB a c) - (X - Z)) ≤ η := by
  have n := ab_add a1 (ab_neg c1)
  have e0 : V FloatKind.f32.format a - X + -(V FloatKind.f32.format c - Z) = V FloatKind.f32.format a - V FloatKind.f32.format c - (X - Z) := by grind
  rw [e0] at n
  have b := near_le n (ab_le (A := absR (X - Z)) (B := S - ε - δ) Rat.le_refl (by grind))
  have b' := ab_le (B := S) b (by grind)
  obtain ⟨b1, b2⟩ := absR_le.1 b'
  have l := lim32.1
  obtain ⟨r, r1, r2, r3⟩ := sub_spec .f32 (fin_num.1 ha) (fin_num.1 hc) (by grind) (by grind)
  have e : subB a c = r := by unfold subB; rw [r1]; rfl
  rw [e]
  refine ⟨r1, fin_num.2 r2, ?_⟩
  have := ab_add (err32 r3 b' hl) n
  have e1 : V FloatKind.f32.format r - (V FloatKind.f32.format a - V FloatKind.f32.format c) + (V FloatKind.f32.format a - V FloatKind.f32.format c - (X - Z)) = V FloatKind.f32.format r - (X - Z) := by grind
  rw [e1] at this
  exact ab_le this (by grind)

/-- What the walk asks of a sum, and of a difference, of parts. -/
def AddOk (a c : Nat) : Prop := (∀ w, fres .add .f32 a c w = addB a c) ∧ fask .add .f32 a c = 0
def SubOk (a c : Nat) : Prop := (∀ w, fres .sub .f32 a c w = subB a c) ∧ fask .sub .f32 a c = 0

theorem Cx.add {a b c d : Nat} {X Y Z W ε δ : Rat} (h1 : Cx a b X Y ε) (h2 : Cx c d Z W δ) (S η : Rat) (hX : absR (X + Z) + ε + δ ≤ S) (hY : absR (Y + W) + ε + δ ≤ S) (hl : p2 (-60) ≤ S) (hu : S ≤ 100000000000000000000)
    (hη : ε + δ + S * p2 (-23) ≤ η) : AddOk a c ∧ AddOk b d ∧ Cx (addB a c) (addB b d) (X + Z) (Y + W) η := by
  obtain ⟨p1, q1, r1⟩ := part_add h1.1 h2.1 h1.2.2.1 h2.2.2.1 hX hl hu hη
  obtain ⟨p2', q2, r2⟩ := part_add h1.2.1 h2.2.1 h1.2.2.2 h2.2.2.2 hY hl hu hη
  exact ⟨⟨fun w => fres_some w p1, fask_some p1⟩, ⟨fun w => fres_some w p2', fask_some p2'⟩, q1, q2, r1, r2⟩

theorem Cx.sub {a b c d : Nat} {X Y Z W ε δ : Rat} (h1 : Cx a b X Y ε) (h2 : Cx c d Z W δ) (S η : Rat) (hX : absR (X - Z) + ε + δ ≤ S) (hY : absR (Y - W) + ε + δ ≤ S) (hl : p2 (-60) ≤ S) (hu : S ≤ 100000000000000000000)
    (hη : ε + δ + S * p2 (-23) ≤ η) : SubOk a c ∧ SubOk b d ∧ Cx (subB a c) (subB b d) (X - Z) (Y - W) η := by
  obtain ⟨p1, q1, r1⟩ := part_sub h1.1 h2.1 h1.2.2.1 h2.2.2.1 hX hl hu hη
  obtain ⟨p2', q2, r2⟩ := part_sub h1.2.1 h2.2.1 h1.2.2.2 h2.2.2.2 hY hl hu hη
  exact ⟨⟨fun w => fres_some w p1, fask_some p1⟩, ⟨fun w => fres_some w p2', fask_some p2'⟩, q1, q2, r1, r2⟩

theorem sq_nonneg (x : Rat) : 0 ≤ x * x := by
  rcases Rat.le_total (a := 0) (b := x) with g | g
  · exact Rat.mul_nonneg g g
  · have := Rat.mul_nonneg (show 0 ≤ -x by grind) (show 0 ≤ -x by grind)
    grind

/-- The heart of a quotient's nearness: c and d are what is divided by, u and v by how much the quotient is off. -/
theorem quo_off {c d u v M ρ : Rat} (hc : absR c ≤ M) (hd : absR d ≤ M) (hm : absR c = M ∨ absR d = M) (hM : 0 < M) (h1 : absR (c * u - d * v) ≤ ρ) (h2 : absR (c * v + d * u) ≤ ρ) : absR u * M ≤ 2 * ρ ∧ absR v * M ≤ 2 * ρ := by
  have hρ := ab_nonneg h1
  have sq : M * M ≤ c * c + d * d := by
    rcases hm with g | g
    · have := sq_nonneg d
      rcases absR_cases c with ⟨_, e⟩ | ⟨_, e⟩ <;> rw [← g, e] <;> grind
    · have := sq_nonneg c
      rcases absR_cases d with ⟨_, e⟩ | ⟨_, e⟩ <;> rw [← g, e] <;> grind
  have key : ∀ x : Rat, absR ((c * c + d * d) * x) ≤ M * ρ + M * ρ → absR x * M ≤ 2 * ρ := by
    intro x hx
    have hx0 := absR_nonneg x
    have hp : 0 ≤ c * c + d * d := by
      have := Rat.mul_nonneg (Rat.le_of_lt hM) (Rat.le_of_lt hM)
      grind
    have e1 : absR ((c * c + d * d) * x) = (c * c + d * d) * absR x := by
      rcases absR_cases x with ⟨g, e⟩ | ⟨g, e⟩
      · have hle : (c * c + d * d) * x ≤ 0 := by
          have := Rat.mul_nonneg hp (show 0 ≤ -x by grind)
          grind
        rcases absR_cases ((c * c + d * d) * x) with ⟨g', e'⟩ | ⟨g', e'⟩
        · rw [e', e]; grind
        · have : (c * c + d * d) * x = 0 := by grind
          rw [e', e]; grind
      · have hge := Rat.mul_nonneg hp g
        rcases absR_cases ((c * c + d * d) * x) with ⟨g', e'⟩ | ⟨g', e'⟩
        · exfalso; grind
        · rw [e', e]
    rw [e1] at hx
    have m1 := Rat.mul_le_mul_of_nonneg_right sq hx0
    have m2 : M * (absR x * M) ≤ M * (2 * ρ) := by grind
    exact Rat.le_of_mul_le_mul_left m2 hM
  constructor
  · refine key u ?_
    have := ab_add (ab_mul hc h1) (ab_mul hd h2)
    have e : c * (c * u - d * v) + d * (c * v + d * u) = (c * c + d * d) * u := by grind
    rwa [e] at this
  · refine key v ?_
    have := ab_add (ab_mul hc h2) (ab_neg (ab_mul hd h1))
    have e : c * (c * v + d * u) + -(d * (c * u - d * v)) = (c * c + d * d) * v := by grind
    rwa [e] at this

theorem qe_small : qe ≤ 1 / 2000000 := by unfold qe qh; decide +kernel
theorem p2_28 : p2 28 = 268435456 ∧ p2 30 = 1073741824 ∧ p2 (-30) = 1 / 1073741824 := ⟨by decide +kernel, by decide +kernel, by decide +kernel⟩

/-- A quotient of numbers near X + Yi and Z + Wi, where (Z + Wi)(U + Ti) = X + Yi. -/
theorem Cx.quo {a b c d : Nat} {X Y Z W U T ε δ : Rat} (h1 : Cx a b X Y ε) (h2 : Cx c d Z W δ) (A B K m η : Rat) (hX : absR X ≤ A) (hY : absR Y ≤ A) (hZ : absR Z ≤ B) (hW : absR W ≤ B) (hU : absR U ≤ K) (hT : absR T ≤ K)
    (hq1 : Z * U - W * T = X) (hq2 : Z * T + W * U = Y) (hm : m ≤ absR Z ∨ m ≤ absR W) (hA : 1 / 1073741824 ≤ A) (hA2 : A + ε ≤ 268435456) (hB : B + δ ≤ 1073741824) (hd : 1 / 1073741824 ≤ m - δ)
    (hη : 2 * (ε + 2 * (δ * K) + (A + ε) * (1 / 2000000)) ≤ η * (m - δ)) (hη0 : 0 ≤ η) :
    ∃ e f, (∀ (P : Program) (t : TypeId) (w : World), (binOp .quo t (.complex .f32 a b) (.complex .f32 c d)).run P w = .ok (.complex .f32 e f) w) ∧ Cx e f U T η := by
  have he0 := h1.eps
  have hd0 := h2.eps
  obtain ⟨ha, hb, a1, b1⟩ := h1
  obtain ⟨hc, hdd, c1, d1⟩ := h2
  obtain ⟨k28, k30, k31⟩ := p2_28
  have a2 := near_le a1 hX
  have b2 := near_le b1 hY
  have c2 := near_le c1 hZ
  have d2 := near_le d1 hW
  -- the greater part
  obtain ⟨M, cM, dM, gM⟩ : ∃ M, absR (V FloatKind.f32.format c) ≤ M ∧ absR (V FloatKind.f32.format d) ≤ M ∧ (absR (V FloatKind.f32.format c) = M ∨ absR (V FloatKind.f32.format d) = M) := by
    rcases Rat.le_total (a := absR (V FloatKind.f32.format c)) (b := absR (V FloatKind.f32.format d)) with g | g
    · exact ⟨_, g, Rat.le_refl, .inr rfl⟩
    · exact ⟨_, Rat.le_refl, g, .inl rfl⟩
  have mM : m - δ ≤ M := by
    have back : ∀ {x Z : Rat}, absR (x - Z) ≤ δ → m ≤ absR Z → m - δ ≤ absR x := by
      intro x Z h g
      have h' : absR (Z - x) ≤ δ := by
        have := ab_neg h
        have e : -(x - Z) = Z - x := by grind
        rwa [e] at this
      have := near_le h' (ab_le (A := absR x) (B := absR x) Rat.le_refl Rat.le_refl)
      grind
    rcases hm with g | g
    · have := back c1 g; grind
    · have := back d1 g; grind
  have MB : M ≤ B + δ := by rcases gM with g | g <;> rw [← g] <;> assumption
  have hM : 0 < M := by grind
  obtain ⟨N, hN⟩ : ∃ N, M * N = 1 := ⟨1 / M, by rw [Rat.mul_comm]; exact Rat.div_mul_cancel (by grind)⟩
  obtain ⟨e, f, hq, he, hf, q1, q2, _, _⟩ := quo64_near ha hb hc hdd a2 b2 cM dM gM (by rw [k31]; grind) (by rw [k28]; grind) (by rw [k31]; grind) (by rw [k30]; grind) hN
  refine ⟨e, f, hq, he, hf, ?_⟩
  have hqe : (A + ε) * qe ≤ (A + ε) * (1 / 2000000) := Rat.mul_le_mul_of_nonneg_left qe_small (by grind)
  have cU := ab_mul c1 hU
  have dT := ab_mul d1 hT
  have cT := ab_mul c1 hT
  have dU := ab_mul d1 hU
  have r1 : absR (V FloatKind.f32.format c * (V FloatKind.f32.format e - U) - V FloatKind.f32.format d * (V FloatKind.f32.format f - T)) ≤ ε + 2 * (δ * K) + (A + ε) * (1 / 2000000) := by
    have := ab_add (ab_add q1 a1) (ab_add (ab_neg cU) dT)
    have e0 : V FloatKind.f32.format c * V FloatKind.f32.format e - V FloatKind.f32.format d * V FloatKind.f32.format f - V FloatKind.f32.format a + (V FloatKind.f32.format a - X) + (-((V FloatKind.f32.format c - Z) * U) + (V FloatKind.f32.format d - W) * T) = V FloatKind.f32.format c * (V FloatKind.f32.format e - U) - V FloatKind.f32.format d * (V FloatKind.f32.format f - T) := by grind
    rw [e0] at this
    exact ab_le this (by grind)
  have r2 : absR (V FloatKind.f32.format c * (V FloatKind.f32.format f - T) + V FloatKind.f32.format d * (V FloatKind.f32.format e - U)) ≤ ε + 2 * (δ * K) + (A + ε) * (1 / 2000000) := by
    have := ab_add (ab_add q2 b1) (ab_add (ab_neg cT) (ab_neg dU))
    have e0 : V FloatKind.f32.format c * V FloatKind.f32.format f + V FloatKind.f32.format d * V FloatKind.f32.format e - V FloatKind.f32.format b + (V FloatKind.f32.format b - Y) + (-((V FloatKind.f32.format c - Z) * T) + -((V FloatKind.f32.format d - W) * U)) = V FloatKind.f32.format c * (V FloatKind.f32.format f - T) + V FloatKind.f32.format d * (V FloatKind.f32.format e - U) := by grind
    rw [e0] at this
    exact ab_le this (by grind)
  obtain ⟨o1, o2⟩ := quo_off cM dM gM hM r1 r2
  have hηM : η * (m - δ) ≤ η * M := Rat.mul_le_mul_of_nonneg_left mM hη0
  exact ⟨Rat.le_of_mul_le_mul_right (show absR (V FloatKind.f32.format e - U) * M ≤ η * M by grind) hM, Rat.le_of_mul_le_mul_right (show absR (V FloatKind.f32.format f - T) * M ≤ η * M by grind) hM⟩

end Go.Proofs.Yteikkbmmbnihaaa
