/-
  What is between two numbers: the difference, the product with a part from 0 to 1, the sum: the product is there whenever the difference is finite.
-/
import Derived.Test.YthbebgnjidaokaaTop
import Derived.Test.YthbebgnjidaokaaMax
import Derived.Test.YthbebgnjidaokaaTot
namespace Go.Proofs.Ythbebgnjidaokaa
open Go.RowKit Fl
open Ieee

theorem v128B (x : Nat) : absR (V FloatKind.f32.format x) ≤ p2 128 := Rat.le_of_lt (absR_bound x).1

/-- A product of two float32 parts, exact as float64. -/
theorem prod64B {a c : Nat} (ha : fin .f32 a = true) (hc : fin .f32 c = true) :
    ∃ p, floatBits .mul .f64 (yW a) (yW c) = some p ∧ fin .f64 p = true ∧ V FloatKind.f64.format p = V FloatKind.f32.format a * V FloatKind.f32.format c := by
  obtain ⟨_, ya, wa⟩ := yW_spec ha
  obtain ⟨_, yc, wc⟩ := yW_spec hc
  have l1 := lim64_big.1
  have w1 : p2 256 < p2 400 := p2_lt (by decide)
  have e1 : p2 128 * p2 128 = p2 256 := by rw [← p2_add]; rfl
  have m := ab_mul (v128B a) (v128B c)
  rw [e1] at m
  obtain ⟨m1, m2⟩ := absR_le.1 m
  obtain ⟨p, p1, p2', p3⟩ := mul_spec .f64 (fin_num.1 ya) (fin_num.1 yc) (by rw [wa, wc]; grind) (by rw [wa, wc]; grind)
  rw [wa, wc] at p3
  exact ⟨p, p1, fin_num.2 p2', rndV_exact p3 (has_prod a c)⟩

theorem p2_256B : p2 256 + p2 256 < p2 400 ∧ 0 ≤ p2 256 := by
  have e : p2 257 = 2 * p2 256 := p2_succ 256
  have w1 : p2 257 < p2 400 := p2_lt (by decide)
  have w2 := p2_pos 256
  constructor <;> grind

theorem prod_boundB (a c : Nat) : absR (V FloatKind.f32.format a * V FloatKind.f32.format c) ≤ p2 256 := by
  have e1 : p2 128 * p2 128 = p2 256 := by rw [← p2_add]; rfl
  have m := ab_mul (v128B a) (v128B c)
  rwa [e1] at m

/-- The difference, and the sum, of two products, as float64. -/
theorem dot64_subB {a b c d : Nat} (ha : fin .f32 a = true) (hb : fin .f32 b = true) (hc : fin .f32 c = true) (hd : fin .f32 d = true) :
    ∃ p q r, floatBits .mul .f64 (yW a) (yW c) = some p ∧ floatBits .mul .f64 (yW b) (yW d) = some q ∧ floatBits .sub .f64 p q = some r ∧ fin .f64 r = true ∧
      RndV FloatKind.f64.format (V FloatKind.f32.format a * V FloatKind.f32.format c - V FloatKind.f32.format b * V FloatKind.f32.format d) (V FloatKind.f64.format r) := by
  obtain ⟨p, p1, pf, p3⟩ := prod64B ha hc
  obtain ⟨q, q1, q2, q3⟩ := prod64B hb hd
  have l1 := lim64_big.1
  have w := p2_256B
  obtain ⟨m1, m2⟩ := absR_le.1 (prod_boundB a c)
  obtain ⟨n1, n2⟩ := absR_le.1 (prod_boundB b d)
  obtain ⟨r, r1, r2, r3⟩ := sub_spec .f64 (fin_num.1 pf) (fin_num.1 q2) (by rw [p3, q3]; grind) (by rw [p3, q3]; grind)
  rw [p3, q3] at r3
  exact ⟨p, q, r, p1, q1, r1, fin_num.2 r2, r3⟩
theorem dot64_addB {a b c d : Nat} (ha : fin .f32 a = true) (hb : fin .f32 b = true) (hc : fin .f32 c = true) (hd : fin .f32 d = true) :
    ∃ p q r, floatBits .mul .f64 (yW a) (yW c) = some p ∧ floatBits .mul .f64 (yW b) (yW d) = some q ∧ floatBits .add .f64 p q = some r ∧ fin .f64 r = true ∧
      RndV FloatKind.f64.format (V FloatKind.f32.format a * V FloatKind.f32.format c + V FloatKind.f32.format b * V FloatKind.f32.format d) (V FloatKind.f64.format r) := by
  obtain ⟨p, p1, pf, p3⟩ := prod64B ha hc
  obtain ⟨q, q1, q2, q3⟩ := prod64B hb hd
  have l1 := lim64_big.1
  have w := p2_256B
  obtain ⟨m1, m2⟩ := absR_le.1 (prod_boundB a c)
  obtain ⟨n1, n2⟩ := absR_le.1 (prod_boundB b d)
  obtain ⟨r, r1, r2, r3⟩ := add_spec .f64 (fin_num.1 pf) (fin_num.1 q2) (by rw [p3, q3]; grind) (by rw [p3, q3]; grind)
  rw [p3, q3] at r3
  exact ⟨p, q, r, p1, q1, r1, fin_num.2 r2, r3⟩


/-- A finite number times a part from 0 to 1, narrowed. -/
theorem part_narrow {p r : Nat} {T : Rat} (hp : fin .f32 p = true) (hr : fin .f64 r = true) (hv : V FloatKind.f64.format r = V FloatKind.f32.format p * T) (h0 : 0 ≤ T) (h1 : T ≤ 1) : ∃ e, floatToFloatBits .f64 r .f32 = some e ∧ fin .f32 e = true ∧ RndV FloatKind.f32.format (V FloatKind.f32.format p * T) (V FloatKind.f32.format e) := by
  obtain ⟨m1, m2⟩ := fin_max hp
  have b : V FloatKind.f32.format p * T ≤ max32 ∧ -max32 ≤ V FloatKind.f32.format p * T := by
    have hm : 0 ≤ max32 := by decide +kernel
    rcases Rat.le_total (a := 0) (b := V FloatKind.f32.format p) with h | h
    · have u1 := Rat.mul_le_mul_of_nonneg_left h1 h
      have u2 := Rat.mul_nonneg h h0
      constructor <;> grind
    · have h' : 0 ≤ -V FloatKind.f32.format p := by grind
      have u1 := Rat.mul_le_mul_of_nonneg_left h1 h'
      have u2 := Rat.mul_nonneg h' h0
      constructor <;> grind
  obtain ⟨e, e1, e2, e3⟩ := narrow_max (fin_num.1 hr) (by rw [hv]; exact b.1) (by rw [hv]; exact b.2)
  rw [hv] at e3
  exact ⟨e, e1, fin_num.2 e2, e3⟩

/-- The words of a product with a real part. -/
def prodB (p q t : Nat) : Option (Nat × Nat) := (cMulBits (yW p) (yW q) (yW t) (yW 0)).bind fun r => (floatToFloatBits .f64 r.1 .f32).bind fun e => (floatToFloatBits .f64 r.2 .f32).map fun f => (e, f)
theorem mul_part {p q t : Nat} (hp : fin .f32 p = true) (hq : fin .f32 q = true) (ht : fin .f32 t = true) (h0 : 0 ≤ V FloatKind.f32.format t) (h1 : V FloatKind.f32.format t ≤ 1) :
    ∃ e f, prodB p q t = some (e, f) ∧ (∀ (P : Program) (T : TypeId) (w : World), (binOp .mul T (.complex .f32 p q) (.complex .f32 t 0)).run P w = .ok (.complex .f32 e f) w) ∧ fin .f32 e = true ∧ fin .f32 f = true ∧
      RndV FloatKind.f32.format (V FloatKind.f32.format p * V FloatKind.f32.format t) (V FloatKind.f32.format e) ∧ RndV FloatKind.f32.format (V FloatKind.f32.format q * V FloatKind.f32.format t) (V FloatKind.f32.format f) := by
  have hz : fin .f32 0 = true := by decide
  have vz : V FloatKind.f32.format 0 = 0 := (num_zero .f32).2
  obtain ⟨a, b, r, a1, b1, r1, r2, r3⟩ := dot64_subB hp hq ht hz
  obtain ⟨a', b', u, a1', b1', u1, u2, u3⟩ := dot64_addB hp hq hz ht
  rw [vz, Rat.mul_zero, show V FloatKind.f32.format p * V FloatKind.f32.format t - 0 = V FloatKind.f32.format p * V FloatKind.f32.format t by grind] at r3
  rw [vz, Rat.mul_zero, Rat.zero_add] at u3
  have rv := rndV_exact r3 (has_prod p t)
  have uv := rndV_exact u3 (has_prod q t)
  obtain ⟨e, e1, e2, e3⟩ := part_narrow hp r2 rv h0 h1
  obtain ⟨f, f1, f2, f3⟩ := part_narrow hq u2 uv h0 h1
  have hc : cMulBits (yW p) (yW q) (yW t) (yW 0) = some (r, u) := by
    unfold cMulBits
    rw [a1, b1, a1', b1']
    simp [r1, u1]
  refine ⟨e, f, ?_, fun P T w => run_mul64 P T hp hq ht hz hc e1 f1 w, e2, f2, e3, f3⟩
  unfold prodB
  rw [hc]
  simp [e1, f1]

theorem sub32 {x y : Nat} (hx : fin .f32 x = true) (hy : fin .f32 y = true) : ∃ r, floatBits .sub .f32 x y = some r := by
  obtain ⟨s, m, i, hx⟩ := num_read (fin_num.1 hx)
  obtain ⟨t, n, j, hy⟩ := num_read (fin_num.1 hy)
  obtain ⟨s', m', e', hs, _⟩ := sum_val s (!t) m n i j
  exact ⟨_, by simp only [floatBits, Format.sub, hx, hy, Datum.opposite, hs, Option.map_some]; rfl⟩

theorem add32 {x y : Nat} (hx : fin .f32 x = true) (hy : fin .f32 y = true) : ∃ r, floatBits .add .f32 x y = some r := by
  obtain ⟨s, m, i, hx⟩ := num_read (fin_num.1 hx)
  obtain ⟨t, n, j, hy⟩ := num_read (fin_num.1 hy)
  obtain ⟨s', m', e', hs, _⟩ := sum_val s t m n i j
  exact ⟨_, by simp only [floatBits, Format.add, hx, hy, hs, Option.map_some]; rfl⟩

/-- The words of a difference and of a sum. -/
def sbW (x y : Nat) : Nat := (floatBits .sub .f32 x y).getD 0
def adW (x y : Nat) : Nat := (floatBits .add .f32 x y).getD 0
theorem sbW_some {x y : Nat} (hx : fin .f32 x = true) (hy : fin .f32 y = true) : floatBits .sub .f32 x y = some (sbW x y) := by
  obtain ⟨r, h⟩ := sub32 hx hy
  unfold sbW
  rw [h]
  rfl
theorem adW_some {x y : Nat} (hx : fin .f32 x = true) (hy : fin .f32 y = true) : floatBits .add .f32 x y = some (adW x y) := by
  obtain ⟨r, h⟩ := add32 hx hy
  unfold adW
  rw [h]
  rfl
def pB (p q t : Nat) : Nat × Nat := (prodB p q t).getD (0, 0)
/-- What is between two numbers, at a part; none if a number on the way is not finite. -/
def betB (x y : Nat × Nat) (t : Nat) : Option (Nat × Nat) :=
  if fin .f32 (sbW y.1 x.1) && fin .f32 (sbW y.2 x.2) then
    if fin .f32 (adW x.1 (pB (sbW y.1 x.1) (sbW y.2 x.2) t).1) && fin .f32 (adW x.2 (pB (sbW y.1 x.1) (sbW y.2 x.2) t).2) then some (adW x.1 (pB (sbW y.1 x.1) (sbW y.2 x.2) t).1, adW x.2 (pB (sbW y.1 x.1) (sbW y.2 x.2) t).2) else none
  else none
/-- What is asked of the part. -/
structure Part (t : Nat) : Prop where
  f : fin .f32 t = true
  lo : 0 ≤ V FloatKind.f32.format t
  hi : V FloatKind.f32.format t ≤ 1
theorem pB_run {p q t : Nat} (hp : fin .f32 p = true) (hq : fin .f32 q = true) (T : Part t) : (∀ (P : Program) (ty : TypeId) (w : World), (binOp .mul ty (.complex .f32 p q) (.complex .f32 t 0)).run P w = .ok (.complex .f32 (pB p q t).1 (pB p q t).2) w) ∧ fin .f32 (pB p q t).1 = true ∧ fin .f32 (pB p q t).2 = true := by
  obtain ⟨e, f, h1, h2, h3, h4, _⟩ := mul_part hp hq T.f T.lo T.hi
  unfold pB
  rw [h1]
  exact ⟨h2, h3, h4⟩

end Go.Proofs.Ythbebgnjidaokaa
