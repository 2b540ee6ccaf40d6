/-
  The determinant of a transformer is near 1: a number times 1 divided by it.
-/
import Derived.Test.YtlndnghdddekaaaInvC
import Derived.Test.YtlndnghdddekaaaNear
namespace Go.Proofs.Ytlndnghdddekaaa
open Go.RowKit Fl
open Ieee

theorem two_pow : (2 : Rat) * 2 = p2 2 ∧ p2 2 < p2 400 ∧ p2 (-60) ≤ 2 ∧ p2 (-60) ≤ 6 := by
  refine ⟨?_, p2_lt (by decide), ?_, ?_⟩
  · rw [show (2 : Int) = 1 + 1 from rfl, p2_succ, p2_one]
  · rw [← p2_one]; exact p2_le (by decide)
  · have : p2 (-60) ≤ p2 1 := p2_le (by decide)
    rw [p2_one] at this
    grind

/-- A sum or difference of two products, and how near it comes to a number no greater than 1. -/
theorem dot_near {a b c d : Nat} {s M N X : Rat} {op : BinOp} (hop : (op = .sub ∧ s = -1) ∨ (op = .add ∧ s = 1)) (ha : fin .f64 a = true) (hb : fin .f64 b = true) (hc : fin .f64 c = true) (hd : fin .f64 d = true) (hMN : M * N = 1)
    (a1 : absR (V FloatKind.f64.format a) ≤ M) (b1 : absR (V FloatKind.f64.format b) ≤ M) (c1 : absR (V FloatKind.f64.format c) ≤ 2 * N) (d1 : absR (V FloatKind.f64.format d) ≤ 2 * N) (hX : absR X ≤ 1)
    (h : absR (V FloatKind.f64.format a * V FloatKind.f64.format c + s * (V FloatKind.f64.format b * V FloatKind.f64.format d) - X) ≤ p2 (-19)) :
    ∃ p q r r', floatBits .mul .f64 a c = some p ∧ floatBits .mul .f64 b d = some q ∧ floatBits op .f64 p q = some r ∧ floatToFloatBits .f64 r .f32 = some r' ∧ fin .f32 r' = true ∧ absR (V FloatKind.f32.format r' - X) ≤ p2 (-12) := by
  obtain ⟨t1, t2, t3, t4⟩ := two_pow
  have l1 := lim64_big.1
  have u1 : p2 (-52) ≤ p2 (-19) := p2_le (by decide)
  have u2 : p2 (-23) ≤ p2 (-19) := p2_le (by decide)
  have u3 : p2 (-19) ≤ 1 := by rw [← p2_zero]; exact p2_le (by decide)
  have u4 : p2 (-12) = 128 * p2 (-19) := by
    have : p2 (-12) = p2 7 * p2 (-19) := by rw [← p2_add]; rfl
    rw [this]
    have : p2 7 = 128 := by decide +kernel
    rw [this]
  have u5 := p2_pos (-19)
  have u6 := p2_pos (-52)
  have u7 := p2_pos (-23)
  have e1 : M * (2 * N) = 2 := by grind
  have m1 := ab_mul a1 c1
  have m2 := ab_mul b1 d1
  rw [e1] at m1 m2
  obtain ⟨m3, m4⟩ := absR_le.1 m1
  obtain ⟨m5, m6⟩ := absR_le.1 m2
  obtain ⟨p, p1, pp2, p3⟩ := mul_spec .f64 (fin_num.1 ha) (fin_num.1 hc) (by grind) (by grind)
  obtain ⟨q, q1, q2, q3⟩ := mul_spec .f64 (fin_num.1 hb) (fin_num.1 hd) (by grind) (by grind)
  have e2 := err64 p3 m1 t3
  have e3 := err64 q3 m2 t3
  generalize V FloatKind.f64.format a * V FloatKind.f64.format c = AC at *
  generalize V FloatKind.f64.format b * V FloatKind.f64.format d = BD at *
  generalize hP : V FloatKind.f64.format p = P at *
  generalize hQ : V FloatKind.f64.format q = Q at *
  clear m1 m2 a1 b1 c1 d1 hMN e1 t1
  obtain ⟨f1, f2⟩ := absR_le.1 e2
  obtain ⟨f3, f4⟩ := absR_le.1 e3
  obtain ⟨h1, h2⟩ := absR_le.1 h
  obtain ⟨x1, x2⟩ := absR_le.1 hX
  have b5 : absR (P + s * Q) ≤ 6 := by rcases hop with ⟨_, rfl⟩ | ⟨_, rfl⟩ <;> exact absR_le.2 ⟨by grind, by grind⟩
  have near1 : absR (P + s * Q - X) ≤ 5 * p2 (-19) := by rcases hop with ⟨_, rfl⟩ | ⟨_, rfl⟩ <;> exact absR_le.2 ⟨by grind, by grind⟩
  obtain ⟨b6, b7⟩ := absR_le.1 b5
  have l5 : (6 : Rat) < p2 400 := by
    have : p2 3 < p2 400 := p2_lt (by decide)
    have h3 : p2 3 = 8 := by decide +kernel
    grind
  have key : ∃ r, floatBits op .f64 p q = some r ∧ num FloatKind.f64.format r ∧ RndV FloatKind.f64.format (P + s * Q) (V FloatKind.f64.format r) := by
    rcases hop with ⟨rfl, rfl⟩ | ⟨rfl, rfl⟩
    · obtain ⟨r, r1, r2, r3⟩ := sub_spec .f64 pp2 q2 (by rw [hP, hQ]; grind) (by rw [hP, hQ]; grind)
      rw [hP, hQ] at r3
      have e : P - Q = P + -1 * Q := by grind
      rw [e] at r3
      exact ⟨r, r1, r2, r3⟩
    · obtain ⟨r, r1, r2, r3⟩ := add_spec .f64 pp2 q2 (by rw [hP, hQ]; grind) (by rw [hP, hQ]; grind)
      rw [hP, hQ] at r3
      have e : P + Q = P + 1 * Q := by grind
      rw [e] at r3
      exact ⟨r, r1, r2, r3⟩
  obtain ⟨r, r1, r2, r3⟩ := key
  have e4 := err64 r3 b5 t4
  clear hop h hX e2 e3 f1 f2 f3 f4 h1 h2 p3 q3 m3 m4 m5 m6
  generalize P + s * Q = S at *
  have near2 : absR (V FloatKind.f64.format r - X) ≤ 11 * p2 (-19) := by
    have := ab_add e4 near1
    have e : V FloatKind.f64.format r - S + (S - X) = V FloatKind.f64.format r - X := by grind
    rw [e] at this
    grind
  obtain ⟨n1, n2⟩ := absR_le.1 near2
  have b8 : absR (V FloatKind.f64.format r) ≤ 12 := absR_le.2 ⟨by grind, by grind⟩
  obtain ⟨b9, b10⟩ := absR_le.1 b8
  have l6 := lim32.1
  obtain ⟨r', k1, k2, k3⟩ := narrow_spec r2 (by grind) (by grind)
  have e5 := err32 k3 b8 (by grind)
  have near3 := ab_add e5 near2
  have e : V FloatKind.f32.format r' - V FloatKind.f64.format r + (V FloatKind.f64.format r - X) = V FloatKind.f32.format r' - X := by grind
  rw [e] at near3
  exact ⟨p, q, r, r', p1, q1, r1, k1, fin_num.2 k2, by rw [u4]; grind⟩

theorem p2_11 : p2 (-30) ≤ 1 / 2000 ∧ (20000 : Rat) ≤ p2 30 := ⟨by decide +kernel, by decide +kernel⟩

theorem nonzero_big {x : Nat} (h : sK x ≠ 0) : (1 : Rat) / 2000 ≤ absR (V FloatKind.f32.format x) := by
  have h1 := sK_nat' x
  have hk := (kOf_spec x).1
  have hc : (1 : Rat) ≤ ((kOf x : Nat) : Rat) := by
    have : (1 : Nat) ≤ kOf x := by omega
    exact_mod_cast this
  grind

/-- A product of two complex64 numbers that is near 1. -/
theorem mul_near {a b c d : Nat} {M N : Rat} (ha : fin .f32 a = true) (hb : fin .f32 b = true) (hc : fin .f32 c = true) (hd : fin .f32 d = true) (hMN : M * N = 1)
    (a1 : absR (V FloatKind.f32.format a) ≤ M) (b1 : absR (V FloatKind.f32.format b) ≤ M) (c1 : absR (V FloatKind.f32.format c) ≤ 2 * N) (d1 : absR (V FloatKind.f32.format d) ≤ 2 * N)
    (h1 : absR (V FloatKind.f32.format a * V FloatKind.f32.format c - V FloatKind.f32.format b * V FloatKind.f32.format d - 1) ≤ p2 (-19))
    (h2 : absR (V FloatKind.f32.format a * V FloatKind.f32.format d + V FloatKind.f32.format b * V FloatKind.f32.format c) ≤ p2 (-19)) :
    ∃ re im, (∀ (P : Program) (t : TypeId) (w : World), (binOp .mul t (.complex .f32 a b) (.complex .f32 c d)).run P w = .ok (.complex .f32 re im) w) ∧ fin .f32 re = true ∧ fin .f32 im = true ∧
      absR (V FloatKind.f32.format re - 1) ≤ p2 (-12) ∧ absR (V FloatKind.f32.format im - 0) ≤ p2 (-12) := by
  obtain ⟨_, ya, wa⟩ := yW_spec ha
  obtain ⟨_, yb, wb⟩ := yW_spec hb
  obtain ⟨_, yc, wc⟩ := yW_spec hc
  obtain ⟨_, yd, wd⟩ := yW_spec hd
  obtain ⟨p, q, r, r', e1, e2, e3, e4, e5, e6⟩ := dot_near (a := yW a) (b := yW b) (c := yW c) (d := yW d) (X := 1) (op := .sub) (s := -1) (.inl ⟨rfl, rfl⟩) ya yb yc yd hMN (by rw [wa]; exact a1) (by rw [wb]; exact b1) (by rw [wc]; exact c1) (by rw [wd]; exact d1) (by decide +kernel) (by
    rw [wa, wb, wc, wd]
    have e : V FloatKind.f32.format a * V FloatKind.f32.format c + -1 * (V FloatKind.f32.format b * V FloatKind.f32.format d) - 1 = V FloatKind.f32.format a * V FloatKind.f32.format c - V FloatKind.f32.format b * V FloatKind.f32.format d - 1 := by grind
    rw [e]; exact h1)
  obtain ⟨p', q', u, u', f1, f2, f3, f4, f5, f6⟩ := dot_near (a := yW a) (b := yW b) (c := yW d) (d := yW c) (X := 0) (op := .add) (s := 1) (.inr ⟨rfl, rfl⟩) ya yb yd yc hMN (by rw [wa]; exact a1) (by rw [wb]; exact b1) (by rw [wd]; exact d1) (by rw [wc]; exact c1) (by decide +kernel) (by
    rw [wa, wb, wc, wd]
    have e : V FloatKind.f32.format a * V FloatKind.f32.format d + 1 * (V FloatKind.f32.format b * V FloatKind.f32.format c) - 0 = V FloatKind.f32.format a * V FloatKind.f32.format d + V FloatKind.f32.format b * V FloatKind.f32.format c := by grind
    rw [e]; exact h2)
  refine ⟨r', u', fun P t w => run_mul64 P t ha hb hc hd ?_ e4 f4 w, e5, f5, e6, f6⟩
  unfold cMulBits
  rw [e1, e2, f1, f2]
  simp [e3, f3]

/-- A number of thousandths that is not 0, times 1 divided by it. -/
theorem det_near (w0 : World) {x y e f : Nat} (fx : fin .f32 x = true) (fy : fin .f32 y = true) (kx : okK x = true) (ky : okK y = true) (hn : ¬(sK x = 0 ∧ sK y = 0))
    (hq : ∀ (P : Program) (t : TypeId) (w : World), (binOp .quo t (.complex .f32 1065353216 0) (.complex .f32 x y)).run P w = .ok (.complex .f32 e f) w) :
    ∃ re im, (∀ (P : Program) (t : TypeId) (w : World), (binOp .mul t (.complex .f32 x y) (.complex .f32 e f)).run P w = .ok (.complex .f32 re im) w) ∧ fin .f32 e = true ∧ fin .f32 f = true ∧ fin .f32 re = true ∧ fin .f32 im = true ∧
      absR (V FloatKind.f32.format re - 1) ≤ p2 (-12) ∧ absR (V FloatKind.f32.format im - 0) ≤ p2 (-12) := by
  obtain ⟨_, yx, wx⟩ := yW_spec fx
  obtain ⟨_, yy, wy⟩ := yW_spec fy
  have sx := small_of_k (k_le_of kx)
  have sy := small_of_k (k_le_of ky)
  obtain ⟨b1, b2⟩ := p2_11
  have hbig : p2 (-30) ≤ absR (V FloatKind.f32.format x) ∨ p2 (-30) ≤ absR (V FloatKind.f32.format y) := by
    by_cases h : sK x = 0
    · have := nonzero_big (x := y) (fun h2 => hn ⟨h, h2⟩)
      exact .inr (by grind)
    · have := nonzero_big h
      exact .inl (by grind)
  have z0 := p2_pos (-30)
  have same : ∀ {e' f' : Nat} (P : Program) (w : World), (binOp .quo 0 (.complex .f32 1065353216 0) (.complex .f32 x y)).run P w = .ok (.complex .f32 e' f') w → e' = e ∧ f' = f := by
    intro e' f' P w h
    rw [hq P 0 w] at h
    injection h with h
    injection h with _ h1 h2
    exact ⟨h1.symm, h2.symm⟩
  have ge := absGe_iff yx yy
  rw [wx, wy] at ge
  by_cases hxy : absR (V FloatKind.f32.format y) ≤ absR (V FloatKind.f32.format x)
  · rw [decide_eq_true hxy] at ge
    have hM0 : p2 (-30) ≤ absR (V FloatKind.f32.format x) := by grind
    obtain ⟨N, hN⟩ : ∃ N : Rat, absR (V FloatKind.f32.format x) * N = 1 := ⟨(absR (V FloatKind.f32.format x))⁻¹, Rat.mul_inv_cancel _ (by grind)⟩
    obtain ⟨r, s, t, g1, g2, g3, ⟨br, n1, e1, ar, n2, f1, e', f', c1, c2, c3, c4, c5, c6, c7, c8, c9, c10, c11, c12, c13, c14, c15⟩, _⟩ :=
      inv_road (p := yW x) (q := yW y) (M := absR (V FloatKind.f32.format x)) (N := N) yx yy (by rw [wx]) hM0 (by grind) hN (by rw [wy]; exact hxy)
    have hr : ∀ (P : Program) (w : World), (Op.Complex.quotient (yW 1065353216) (yW 0) (yW x) (yW y)).run P w = .ok (e1, f1) w := by
      intro P w
      rw [yW_one.1, yW_one.2]
      exact run_quotient_ge w ge g1 g2 g3 c1 c2 c3 c4 c5 c6 (by rw [fin_isNaN c7]; rfl)
    obtain ⟨rfl, rfl⟩ := same Try.prog w0 (run_quo64 Try.prog 0 (by decide) (by decide) fx fy (hr Try.prog) c8 c9 w0)
    rw [wx, wy] at c14 c15
    obtain ⟨re, im, m1, m2, m3, m4, m5⟩ := mul_near fx fy c10 c11 hN Rat.le_refl hxy c12 c13 c14 (by
      have e : V FloatKind.f32.format x * V FloatKind.f32.format f' + V FloatKind.f32.format y * V FloatKind.f32.format e' = V FloatKind.f32.format y * V FloatKind.f32.format e' + V FloatKind.f32.format x * V FloatKind.f32.format f' := by grind
      rw [e]; exact c15)
    exact ⟨re, im, m1, c10, c11, m2, m3, m4, m5⟩
  · rw [decide_eq_false hxy] at ge
    have hyx : absR (V FloatKind.f32.format x) ≤ absR (V FloatKind.f32.format y) := by grind
    have hM0 : p2 (-30) ≤ absR (V FloatKind.f32.format y) := by grind
    obtain ⟨N, hN⟩ : ∃ N : Rat, absR (V FloatKind.f32.format y) * N = 1 := ⟨(absR (V FloatKind.f32.format y))⁻¹, Rat.mul_inv_cancel _ (by grind)⟩
    obtain ⟨r, s, t, g1, g2, g3, _, ⟨ar, n1, e1, br, n2, f1, e', f', c1, c2, c3, c4, c5, c6, c7, c8, c9, c10, c11, c12, c13, c14, c15⟩⟩ :=
      inv_road (p := yW y) (q := yW x) (M := absR (V FloatKind.f32.format y)) (N := N) yy yx (by rw [wy]) hM0 (by grind) hN (by rw [wx]; exact hyx)
    have hr : ∀ (P : Program) (w : World), (Op.Complex.quotient (yW 1065353216) (yW 0) (yW x) (yW y)).run P w = .ok (e1, f1) w := by
      intro P w
      rw [yW_one.1, yW_one.2]
      exact run_quotient_lt w ge g1 g2 g3 c1 c2 c3 c4 c5 c6 (by rw [fin_isNaN c7]; rfl)
    obtain ⟨rfl, rfl⟩ := same Try.prog w0 (run_quo64 Try.prog 0 (by decide) (by decide) fx fy (hr Try.prog) c8 c9 w0)
    rw [wx, wy] at c14 c15
    obtain ⟨re, im, m1, m2, m3, m4, m5⟩ := mul_near fx fy c10 c11 hN hyx Rat.le_refl c12 c13 c14 (by
      have e : V FloatKind.f32.format x * V FloatKind.f32.format f' + V FloatKind.f32.format y * V FloatKind.f32.format e' = V FloatKind.f32.format y * V FloatKind.f32.format e' + V FloatKind.f32.format x * V FloatKind.f32.format f' := by grind
      rw [e]; exact c15)
    exact ⟨re, im, m1, c10, c11, m2, m3, m4, m5⟩

theorem near_p {a c : Nat} {C : Rat} (ha : fin .f32 a = true) (hc : fin .f32 c = true) (hC : V FloatKind.f32.format c = C) (h : absR (V FloatKind.f32.format a - C) ≤ p2 (-12)) : nearP a c 4562254508917369340 = true := by
  obtain ⟨_, _, _, d4⟩ := dW_spec ha hc
  rw [hC] at d4
  obtain ⟨h1, h2⟩ := absR_le.1 h
  have hb := absR_le.2 (rndV_between d4 (c := p2 (-12)) ⟨1, -12, by decide, by decide, by simp⟩ h1 h2)
  have hd : p2 (-12) ≤ V FloatKind.f64.format 4562254508917369340 := by decide +kernel
  unfold nearP
  simp only [decide_eq_true_eq]
  grind

set_option maxHeartbeats 1000000 in
/-- The determinant of a transformer whose numbers' product is near 1. -/
theorem implDeterminant_near {x y e f re im : Nat} (fx : fin .f32 x = true) (fy : fin .f32 y = true) (fe : fin .f32 e = true) (ff : fin .f32 f = true) (fr : fin .f32 re = true) (fi : fin .f32 im = true)
    (hm : ∀ (P : Program) (t : TypeId) (w : World), (binOp .mul t (.complex .f32 x y) (.complex .f32 e f)).run P w = .ok (.complex .f32 re im) w)
    (h1 : absR (V FloatKind.f32.format re - 1) ≤ p2 (-12)) (h2 : absR (V FloatKind.f32.format im - 0) ≤ p2 (-12)) (w : World) :
    Calls Try.prog 30 #[twoV x y 0 0 0 0 e f] w fun z w' => (∃ p q, z = .returned (.tuple #[.complex .f32 p q, .bool true]) ∧ nearB p q 1065353216 0 4562254508917369340 = true) ∧ Calm w w' := by
  obtain ⟨u, v, hz, fu, fv, vu, vv⟩ := mul_whole (a := 0) (b := 0) (c := 0) (d := 0) (i := 0) (j := 0) (k := 0) (l := 0) (by decide) (by decide) (by decide) (by decide) (by decide +kernel) (by decide +kernel) (by decide +kernel) (by decide +kernel) (by decide) (by decide) (by decide) (by decide)
  have vu' : V FloatKind.f32.format u = 0 := by rw [vu]; decide +kernel
  have vv' : V FloatKind.f32.format v = 0 := by rw [vv]; decide +kernel
  have b1 := V_bound FloatKind.f32.format (by decide) re
  obtain ⟨a1, a2⟩ := absR_le.1 h1
  obtain ⟨a3, a4⟩ := absR_le.1 h2
  have l := lim32.1
  have k1 : p2 (-12) ≤ 1 := by rw [← p2_zero]; exact p2_le (by decide)
  obtain ⟨p, p1, p2', p3⟩ := sub_spec .f32 (fin_num.1 fr) (fin_num.1 fu) (by rw [vu']; grind) (by rw [vu']; grind)
  obtain ⟨q, q1, q2, q3⟩ := sub_spec .f32 (fin_num.1 fi) (fin_num.1 fv) (by rw [vv']; grind) (by rw [vv']; grind)
  rw [vu', show V FloatKind.f32.format re - 0 = V FloatKind.f32.format re by grind] at p3
  rw [vv', show V FloatKind.f32.format im - 0 = V FloatKind.f32.format im by grind] at q3
  have vp := rndV_exact p3 (has_V _ _)
  have vq := rndV_exact q3 (has_V _ _)
  have g1 : ∀ w, fres .sub .f32 re u w = p := fun w => fres_some w p1
  have g2 : fask .sub .f32 re u = 0 := fask_some p1
  have g3 : ∀ w, fres .sub .f32 im v w = q := fun w => fres_some w q1
  have g4 : fask .sub .f32 im v = 0 := fask_some q1
  have HN : Hid (nearB p q 1065353216 0 4562254508917369340 = true) := Lib.hid (by
    have fp : fin .f32 p = true := fin_num.2 p2'
    have fq : fin .f32 q = true := fin_num.2 q2
    have n1 := near_p fp (c := 1065353216) (C := 1) (by decide) (by decide +kernel) (by rw [vp]; exact h1)
    have n2 := near_p fq (c := 0) (C := 0) (by decide) (by decide +kernel) (by rw [vq]; exact h2)
    have o1 : fin .f32 1065353216 = true := by decide
    have o2 : fin .f32 0 = true := by decide
    unfold nearB
    rw [fp, fq, n1, n2, o1, o2]
    rfl)
  have HP := Lib.hid (fin_num.2 p2' : fin .f32 p = true)
  have HQ := Lib.hid (fin_num.2 q2 : fin .f32 q = true)
  have FX := Lib.hid fx
  have FY := Lib.hid fy
  have FE := Lib.hid fe
  have FF := Lib.hid ff
  have FR := Lib.hid fr
  have FI := Lib.hid fi
  have FU := Lib.hid fu
  have FV := Lib.hid fv
  have HM := Lib.hid hm
  have HZ := Lib.hid hz
  have Z := Lib.hid (show fin .f32 0 = true by decide)
  clear fx fy fe ff fr fi hm hz fu fv vu vv vu' vv' b1 a1 a2 a3 a4 l k1 p1 p2' p3 q1 q2 q3 vp vq h1 h2
  go_enter Try.func30, Try.ntmps30
  go_wp2_with fail
  refine (implProduct_of FX.out FY.out FE.out FF.out FR.out FI.out HM.out _).mono ?_
  rintro z w1 ⟨rfl, n, rfl⟩
  go_wp2_with fail
  refine (implProduct_of Z.out Z.out Z.out Z.out FU.out FV.out HZ.out _).mono ?_
  rintro z w2 ⟨rfl, n2, rfl⟩
  go_wp2_with fail
  refine (ifFinite_of HP.out HQ.out _).mono ?_
  rintro z w3 ⟨rfl, n3, rfl⟩
  go_wp2_with fail
  go_ret2
  exact ⟨⟨_, _, rfl, HN.out⟩, grown_drewN (calm_new w _) _⟩

end Go.Proofs.Ytlndnghdddekaaa
