/-
  A reflection at the reference 1, in floats: its power, and how far it is off the circle of its resistance.
-/
import Derived.Test.YtdmacimafkiijaaRefQ
import Derived.Test.YtdmacimafkiijaaRefl
import Derived.Test.YtdmacimafkiijaaCir2
namespace Go.Proofs.Ytdmacimafkiijaa
open Go.RowKit Fl
open Ieee

/-- Near for one part: rounding to float32 and to float64. -/
theorem near32 {x r A : Rat} (h : RndV FloatKind.f32.format x r) (hx : absR x ≤ A) (hA : 1 ≤ A) : absR (r - x) ≤ A * (1 / 8388608) := by
  have := err32 h hx (by
    have : p2 (-60) ≤ 1 := by rw [← p2_zero]; exact p2_le (by decide)
    grind)
  have e : p2 (-23) = 1 / 8388608 := by decide +kernel
  rw [e] at this
  exact this
theorem near64 {x r A : Rat} (h : RndV FloatKind.f64.format x r) (hx : absR x ≤ A) (hA : 1 ≤ A) : absR (r - x) ≤ A * (1 / 8388608) := by
  have := err64 h hx (by
    have : p2 (-60) ≤ 1 := by rw [← p2_zero]; exact p2_le (by decide)
    grind)
  have e : p2 (-52) ≤ 1 / 8388608 := by decide +kernel
  have := Rat.mul_nonneg (show 0 ≤ A by grind) (show 0 ≤ 1 / 8388608 - p2 (-52) by grind)
  exact ab_le ‹absR (r - x) ≤ A * p2 (-52)› (by grind)

theorem ge_walk' {k : FloatKind} {x y : Nat} (hx : num k.format x) (hy : num k.format y) : (k.format.order x y == some .gt || k.format.order x y == some .eq) = decide (V k.format y ≤ V k.format x) := by
  rw [gt_walk hx hy, eq_walk hx hy, Bool.eq_iff_iff]
  simp only [Bool.or_eq_true, decide_eq_true_eq]
  constructor
  · intro h; rcases h with h | h <;> grind
  · intro h
    by_cases he : V k.format x = V k.format y
    · exact .inr he
    · exact .inl (by grind)

theorem qe_num : qe ≤ 1 / 2000000 := by unfold qe qh; decide +kernel

/-- What a reflection at 1 comes to, R being the resistance and X the reactance: its sum v with 1 is rounded; u is the difference. -/
theorem refl_facts {x y a b e f : Nat} (w0 : World) (fx : fin .f32 x = true) (fy : fin .f32 y = true) (fa : fin .f32 a = true) (fb : fin .f32 b = true) (va : V FloatKind.f32.format a = 1) (vb : V FloatKind.f32.format b = 0)
    (x0 : 0 ≤ V FloatKind.f32.format x) (x1 : V FloatKind.f32.format x ≤ 51) (y1 : absR (V FloatKind.f32.format y) ≤ 51)
    (hq : ∀ (P : Program) (t : TypeId) (w : World), (binOp .quo t (.complex .f32 (subB x a) (subB y b)) (.complex .f32 (addB x a) (addB y b))).run P w = .ok (.complex .f32 e f) w) :
    ∃ u v M : Rat, fin .f32 e = true ∧ fin .f32 f = true ∧ absR (u - (V FloatKind.f32.format x - 1)) ≤ (V FloatKind.f32.format x + 1) * (1 / 8388608) ∧ absR (v - (V FloatKind.f32.format x + 1)) ≤ (V FloatKind.f32.format x + 1) * (1 / 8388608) ∧
      absR u ≤ v ∧ 1 ≤ v ∧ v ≤ M ∧ absR (V FloatKind.f32.format y) ≤ M ∧ (v = M ∨ absR (V FloatKind.f32.format y) = M) ∧
      absR (v * V FloatKind.f32.format e - V FloatKind.f32.format y * V FloatKind.f32.format f - u) ≤ M * (1 / 2000000) ∧ absR (v * V FloatKind.f32.format f + V FloatKind.f32.format y * V FloatKind.f32.format e - V FloatKind.f32.format y) ≤ M * (1 / 2000000) ∧
      absR (V FloatKind.f32.format e) ≤ 3 ∧ absR (V FloatKind.f32.format f) ≤ 3 := by
  have l := lim32.1
  obtain ⟨b1, b2⟩ := absR_le.1 y1
  obtain ⟨s1, p1, p2', p3⟩ := add_spec .f32 (fin_num.1 fx) (fin_num.1 fa) (by rw [va]; grind) (by rw [va]; grind)
  obtain ⟨d1, q1, q2, q3⟩ := sub_spec .f32 (fin_num.1 fx) (fin_num.1 fa) (by rw [va]; grind) (by rw [va]; grind)
  obtain ⟨s2, r1, r2, r3⟩ := add_spec .f32 (fin_num.1 fy) (fin_num.1 fb) (by rw [vb]; grind) (by rw [vb]; grind)
  obtain ⟨d2, t1, t2, t3⟩ := sub_spec .f32 (fin_num.1 fy) (fin_num.1 fb) (by rw [vb]; grind) (by rw [vb]; grind)
  have e1 : addB x a = s1 := by unfold addB; rw [p1]; rfl
  have e2 : subB x a = d1 := by unfold subB; rw [q1]; rfl
  have e3 : addB y b = s2 := by unfold addB; rw [r1]; rfl
  have e4 : subB y b = d2 := by unfold subB; rw [t1]; rfl
  rw [e1, e2, e3, e4] at hq
  rw [va] at p3 q3
  rw [vb, Rat.add_zero] at r3
  rw [vb, show V FloatKind.f32.format y - 0 = V FloatKind.f32.format y by grind] at t3
  have v2 := rndV_exact r3 (has_V _ _)
  have v4 := rndV_exact t3 (has_V _ _)
  have has1 : Has FloatKind.f32.format 1 := by simpa using has_int (f := FloatKind.f32.format) (by decide) 1 (by decide)
  have has64 : Has FloatKind.f32.format 64 := by simpa using has_int (f := FloatKind.f32.format) (by decide) 64 (by decide)
  have hv1 : 1 ≤ V FloatKind.f32.format s1 := rndV_ge p3 has1 (by grind)
  have hv64 : V FloatKind.f32.format s1 ≤ 64 := rndV_le p3 has64 (by grind)
  have n1 := near32 p3 (A := V FloatKind.f32.format x + 1) (absR_le.2 ⟨by grind, by grind⟩) (by grind)
  have n2 := near32 q3 (A := V FloatKind.f32.format x + 1) (absR_le.2 ⟨by grind, by grind⟩) (by grind)
  have hu : absR (V FloatKind.f32.format d1) ≤ V FloatKind.f32.format s1 := by
    have low : -1 ≤ V FloatKind.f32.format d1 := rndV_ge q3 (by have := has_neg has1; simpa using this) (by grind)
    obtain ⟨g1, g2⟩ := absR_le.1 n1
    obtain ⟨g3, g4⟩ := absR_le.1 n2
    exact absR_le.2 ⟨by grind, by grind⟩
  generalize hv : V FloatKind.f32.format s1 = v at *
  obtain ⟨M, hM1, hM2, hM3⟩ : ∃ M : Rat, v ≤ M ∧ absR (V FloatKind.f32.format y) ≤ M ∧ (v = M ∨ absR (V FloatKind.f32.format y) = M) := by
    rcases Rat.le_total (a := v) (b := absR (V FloatKind.f32.format y)) with g | g
    · exact ⟨_, g, Rat.le_refl, .inr rfl⟩
    · exact ⟨_, Rat.le_refl, g, .inl rfl⟩
  have hM4 : M ≤ 64 := by rcases hM3 with h | h <;> grind
  have hM0 : M ≠ 0 := by grind
  obtain ⟨N, hN⟩ : ∃ N : Rat, M * N = 1 := ⟨M⁻¹, Rat.mul_inv_cancel _ hM0⟩
  have hav : absR v = v := by have := absR_cases v; grind
  have k30 : p2 (-30) ≤ 1 := by rw [← p2_zero]; exact p2_le (by decide)
  have k28 : (64 : Rat) ≤ p2 28 := by decide +kernel
  have k31 : p2 28 ≤ p2 30 := p2_le (by decide)
  obtain ⟨e', f', h1, h2, h3, h4, h5, h6, h7⟩ := quo64_near (a := d1) (b := d2) (c := s1) (d := s2) (A := M) (M := M) (N := N) (fin_num.2 q2) (fin_num.2 t2) (fin_num.2 p2') (fin_num.2 r2) (by grind) (by rw [v4]; exact hM2) (by rw [hv, hav]; exact hM1) (by rw [v2]; exact hM2)
    (by rw [hv, hav, v2]; exact hM3) (by grind) (by grind) (by grind) (by grind) hN
  have same : e' = e ∧ f' = f := by
    have := h1 Try.prog 0 w0
    rw [hq Try.prog 0 w0] at this
    injection this with this
    injection this with _ g1 g2
    exact ⟨g1.symm, g2.symm⟩
  obtain ⟨rfl, rfl⟩ := same
  rw [hv, v2] at h4 h5
  rw [v4] at h5
  have qn := qe_num
  have m1 := Rat.mul_nonneg (show 0 ≤ M by grind) (show 0 ≤ 1 / 2000000 - qe by grind)
  have e9 : 3 * M * N = 3 := by grind
  rw [e9] at h6 h7
  exact ⟨V FloatKind.f32.format d1, v, M, h2, h3, n2, n1, hu, hv1, hM1, hM2, hM3, ab_le h4 (by grind), ab_le h5 (by grind), h6, h7⟩

/-- Its power is at most 1.00001. -/
theorem refl_power_le {x y a b e f : Nat} (w0 : World) (fx : fin .f32 x = true) (fy : fin .f32 y = true) (fa : fin .f32 a = true) (fb : fin .f32 b = true) (va : V FloatKind.f32.format a = 1) (vb : V FloatKind.f32.format b = 0)
    (x0 : 0 ≤ V FloatKind.f32.format x) (x1 : V FloatKind.f32.format x ≤ 51) (y1 : absR (V FloatKind.f32.format y) ≤ 51)
    (hq : ∀ (P : Program) (t : TypeId) (w : World), (binOp .quo t (.complex .f32 (subB x a) (subB y b)) (.complex .f32 (addB x a) (addB y b))).run P w = .ok (.complex .f32 e f) w) :
    leB .f64 (powV e f) 4607182463836013682 = true := by
  obtain ⟨u, v, M, fe, ff, _, _, hu, hv, hM1, hM2, hM3, h1, h2, _, _⟩ := refl_facts w0 fx fy fa fb va vb x0 x1 y1 hq
  have hav : absR v = v := by have := absR_cases v; grind
  have hpow := refl_power (v := v) (X := V FloatKind.f32.format y) (u := u) (M := M) (ε := 1 / 2000000) (by rw [hav]; exact hM1) hM2 (by rw [hav]; exact hM3) (by grind) (by
    have := (ab_sq hu).2
    exact this) (by grind) h1 h2 (by decide +kernel)
  have hp : powV e f = pW e f := by unfold powV; rw [fe, ff]; rfl
  obtain ⟨p1, p2', p3⟩ := pW_spec fe ff
  have c : V FloatKind.f64.format (pW e f) ≤ V FloatKind.f64.format 4607182463836013682 := by
    have hb : (1 : Rat) + 5 * (1 / 2000000) ≤ V FloatKind.f64.format 4607182463836013682 := by decide +kernel
    exact rndV_le p3 (has_V _ _) (by grind)
  unfold leB
  rw [hp, le_walk p2' (fin_num.1 (by decide : fin .f64 4607182463836013682 = true))]
  simpa using c

/-- A quotient by the rounded sum n of what is divided by the sum W itself. -/
theorem near_div {T n W k X1 r : Rat} (hn : absR (n - W) ≤ W * (1 / 8388608)) (hW : 1 ≤ W) (hk : k * W = T) (hk0 : 0 ≤ k) (hk1 : k ≤ 1) (hX : X1 * n = T) (hX0 : 0 ≤ X1) (hr : RndV FloatKind.f32.format X1 r) (hX1 : X1 ≤ 2) : absR (r - k) ≤ 4 / 8388608 := by
  have n0 := absR_le.1 hn
  have hn1 : 0 < n := by grind
  have e : n * (X1 - k) = k * (W - n) := by grind
  have a1 := ab_mul (absR_le.2 ⟨hk1, show -1 ≤ k by grind⟩) (ab_neg hn)
  have e1 : -(n - W) = W - n := by grind
  rw [e1] at a1
  have a2 : absR (n * (X1 - k)) ≤ n * (2 / 8388608) := by
    rw [e]
    exact ab_le a1 (by grind)
  have a3 := ab_scale hn1 a2
  have a4 := near32 hr (A := 2) (absR_le.2 ⟨by grind, by grind⟩) (by decide +kernel)
  have a5 := ab_add a4 a3
  have e2 : r - X1 + (X1 - k) = r - k := by grind
  rw [e2] at a5
  exact ab_le a5 (by grind)

/-- How far it is off. -/
theorem refl_off {x y a b e f : Nat} {m : Int} (w0 : World) (fx : fin .f32 x = true) (fy : fin .f32 y = true) (fa : fin .f32 a = true) (fb : fin .f32 b = true) (va : V FloatKind.f32.format a = 1) (vb : V FloatKind.f32.format b = 0)
    (x0 : 0 ≤ V FloatKind.f32.format x) (x1 : V FloatKind.f32.format x ≤ 51) (y1 : absR (V FloatKind.f32.format y) ≤ 51) (m0 : 0 ≤ m) (m1 : m ≤ 50000) (hm : V FloatKind.f32.format (milliB m) = V FloatKind.f32.format x)
    (hq : ∀ (P : Program) (t : TypeId) (w : World), (binOp .quo t (.complex .f32 (subB x a) (subB y b)) (.complex .f32 (addB x a) (addB y b))).run P w = .ok (.complex .f32 e f) w) :
    offV e f (cM m) 0 (cR m) = .tuple #[.float .f64 (offB (subB e (cM m)) (subB f 0) (cR m)), .bool true] ∧
      leB .f64 (offB (subB e (cM m)) (subB f 0) (cR m)) 4547007122018943789 = true ∧ geB .f64 (offB (subB e (cM m)) (subB f 0) (cR m)) 13770379158873719597 = true := by
  obtain ⟨u, v, M, fe, ff, nu, nv, hu, hv, hM1, hM2, hM3, h1, h2, he3, hf3⟩ := refl_facts w0 fx fy fa fb va vb x0 x1 y1 hq
  obtain ⟨n1, n2, n3, n4, c1, c2, r1, r2⟩ := cir_spec m0 (show m ≤ 9999999 by omega)
  obtain ⟨o1, o2⟩ := one32_spec
  obtain ⟨mf, mv0, mv1⟩ := milli_pos m0 (show m ≤ 9999999 by omega)
  obtain ⟨_, _, X1, xa, xb, xc, xd⟩ := quo_unit mf n2 mv0 n3 mv1
  obtain ⟨_, _, Y1, ya, yb, yc, yd⟩ := quo_unit o1 n2 (by rw [o2]; decide +kernel) n3 (by rw [o2]; decide +kernel)
  have eM : quoB (milliB m) (cN m) = cM m := rfl
  have eR : quoB 1065353216 (cN m) = cR m := rfl
  rw [eM] at xd
  rw [eR] at yd
  rw [hm] at xa xc n4
  rw [o2] at ya yc
  have nn := near32 n4 (A := V FloatKind.f32.format x + 1) (absR_le.2 ⟨by grind, by grind⟩) (by grind)
  generalize hX : V FloatKind.f32.format x = R at *
  generalize hY : V FloatKind.f32.format y = X at *
  have hW0 : R + 1 ≠ 0 := by grind
  obtain ⟨j, hj⟩ : ∃ j : Rat, j * (R + 1) = 1 := ⟨(R + 1)⁻¹, Rat.inv_mul_cancel _ hW0⟩
  have j0 : 0 ≤ j ∧ j ≤ 1 := by
    constructor
    · rcases Rat.le_total (a := 0) (b := j) with g | g
      · exact g
      · have := Rat.mul_nonneg (show 0 ≤ -j by grind) (show 0 ≤ R + 1 by grind)
        grind
    · rcases Rat.le_total (a := j) (b := 1) with g | g
      · exact g
      · have := Rat.mul_nonneg (show 0 ≤ j - 1 by grind) (show 0 ≤ R by grind)
        grind
  obtain ⟨j1, j2⟩ := j0
  have nn2 := absR_le.1 nn
  have kk : (1 - j) * (R + 1) = R := by grind
  have xle : X1 ≤ 2 := by
    have := Rat.mul_nonneg xb (show 0 ≤ V FloatKind.f32.format (cN m) - (R + 1) * (1 - 1 / 8388608) by grind)
    rcases Rat.le_total (a := X1) (b := 2) with g | g
    · exact g
    · have := Rat.mul_nonneg (show 0 ≤ X1 - 2 by grind) (show 0 ≤ R + 1 by grind)
      grind
  have nM := near_div nn (by grind) kk (by grind) (by grind) xa xb xd xle
  have nR := near_div nn (by grind) hj j1 j2 ya yb yd (by grind)
  -- the circle
  obtain ⟨M', k1, k2, k3⟩ : ∃ M' : Rat, R + 1 ≤ M' ∧ absR X ≤ M' ∧ (R + 1 = M' ∨ absR X = M') := by
    rcases Rat.le_total (a := R + 1) (b := absR X) with g | g
    · exact ⟨_, g, Rat.le_refl, .inr rfl⟩
    · exact ⟨_, Rat.le_refl, g, .inl rfl⟩
  have nv2 := absR_le.1 nv
  have kM : M ≤ M' * (1 + 1 / 8388608) := by rcases hM3 with h | h <;> grind
  have haw : absR (R + 1) = R + 1 := by have := absR_cases (R + 1); grind
  generalize hE : V FloatKind.f32.format e = E at *
  generalize hF : V FloatKind.f32.format f = F at *
  have g1 : absR ((R + 1) * E - X * F - (R + 1 - 2)) ≤ M' * (1 / 1000000) := by
    have b1 := ab_mul (ab_neg nv) he3
    have b2 := ab_add h1 (ab_add b1 nu)
    have e0 : v * E - X * F - u + (-(v - (R + 1)) * E + (u - (R - 1))) = (R + 1) * E - X * F - (R + 1 - 2) := by grind
    rw [e0] at b2
    exact ab_le b2 (by grind)
  have g2 : absR ((R + 1) * F + X * E - X) ≤ M' * (1 / 1000000) := by
    have b1 := ab_mul (ab_neg nv) hf3
    have b2 := ab_add h2 b1
    have e0 : v * F + X * E - X + -(v - (R + 1)) * F = (R + 1) * F + X * E - X := by grind
    rw [e0] at b2
    exact ab_le b2 (by grind)
  have hcirc := refl_circle (W := R + 1) (X := X) (M := M') (ε := 1 / 1000000) (j := j) (by rw [haw]; exact k1) k2 (by rw [haw]; exact k3) (by grind) hj (absR_le.2 ⟨j2, by grind⟩) g1 g2 (by decide +kernel)
  -- the floats
  obtain ⟨me1, me2⟩ := absR_le.1 nM
  obtain ⟨re1, re2⟩ := absR_le.1 nR
  obtain ⟨ee1, ee2⟩ := absR_le.1 he3
  obtain ⟨ff1, ff2⟩ := absR_le.1 hf3
  have l := lim32.1
  obtain ⟨d1, p1, p2', p3⟩ := sub_spec .f32 (fin_num.1 fe) (fin_num.1 c2) (by rw [hE]; grind) (by rw [hE]; grind)
  have f0 : fin .f32 0 = true := by decide
  have v0 : V FloatKind.f32.format 0 = 0 := by decide +kernel
  obtain ⟨d2, q1, q2, q3⟩ := sub_spec .f32 (fin_num.1 ff) (fin_num.1 f0) (by rw [hF, v0]; grind) (by rw [hF, v0]; grind)
  have e1 : subB e (cM m) = d1 := by unfold subB; rw [p1]; rfl
  have e2 : subB f 0 = d2 := by unfold subB; rw [q1]; rfl
  rw [hE] at p3
  rw [hF, v0, show F - 0 = F by grind] at q3
  have vd2 : V FloatKind.f32.format d2 = F := rndV_exact q3 (by rw [← hF]; exact has_V _ _)
  have nd := near32 p3 (A := 5) (absR_le.2 ⟨by grind, by grind⟩) (by decide +kernel)
  have fd1 : fin .f32 d1 = true := fin_num.2 p2'
  have fd2 : fin .f32 d2 = true := fin_num.2 q2
  rw [e1, e2]
  obtain ⟨w1, w2, w3⟩ := pW_spec fd1 fd2
  obtain ⟨z1, z2, z3⟩ := qW_spec r2
  have hp : powV d1 d2 = pW d1 d2 := by unfold powV; rw [fd1, fd2]; rfl
  generalize hD1 : V FloatKind.f32.format d1 = D1 at *
  generalize hRad : V FloatKind.f32.format (cR m) = rad at *
  generalize hMid : V FloatKind.f32.format (cM m) = mid at *
  rw [vd2] at w3
  have σ : absR (D1 - (E - (1 - j))) ≤ 10 / 8388608 := by
    have := ab_add nd (ab_neg nM)
    have e0 : D1 - (E - mid) + -(mid - (1 - j)) = D1 - (E - (1 - j)) := by grind
    rw [e0] at this
    exact ab_le this (by grind)
  generalize hA : E - (1 - j) = A at *
  have hA5 : absR A ≤ 4 := by
    rw [← hA]
    exact absR_le.2 ⟨by grind, by grind⟩
  have sq1 : absR (D1 * D1 - A * A) ≤ 100 / 8388608 := by
    have hs : absR (D1 + A) ≤ 9 := by
      have := ab_add σ (ab_add hA5 hA5)
      have e0 : D1 - A + (A + A) = D1 + A := by grind
      rw [e0] at this
      exact ab_le this (by grind)
    have := ab_mul hs σ
    have e0 : (D1 + A) * (D1 - A) = D1 * D1 - A * A := by grind
    rw [e0] at this
    exact ab_le this (by grind)
  have sq2 : absR (rad * rad - j * j) ≤ 10 / 8388608 := by
    have hs : absR (rad + j) ≤ 5 / 2 := absR_le.2 ⟨by grind, by grind⟩
    have := ab_mul hs nR
    have e0 : (rad + j) * (rad - j) = rad * rad - j * j := by grind
    rw [e0] at this
    exact ab_le this (by grind)
  have hFF := ab_sq hf3
  have hAA := ab_sq hA5
  have hrr : absR (rad * rad) ≤ 2 := by
    have := ab_add sq2 (show absR (j * j) ≤ 1 from ab_le (ab_mul (absR_le.2 ⟨j2, show -1 ≤ j by grind⟩) (absR_le.2 ⟨j2, show -1 ≤ j by grind⟩)) (by grind))
    have e0 : rad * rad - j * j + j * j = rad * rad := by grind
    rw [e0] at this
    exact ab_le this (by grind)
  obtain ⟨s1, s2⟩ := absR_le.1 sq1
  obtain ⟨s3, s4⟩ := absR_le.1 hrr
  have pn := near64 w3 (A := 30) (absR_le.2 ⟨by grind, by grind⟩) (by decide +kernel)
  obtain ⟨pn1, pn2⟩ := absR_le.1 pn
  have l64 := lim64.1
  obtain ⟨o, oa, ob, oc⟩ := sub_spec .f64 w2 z2 (by rw [z3]; grind) (by rw [z3]; grind)
  have eo : offB d1 d2 (cR m) = o := by unfold offB; rw [hp, oa]; rfl
  rw [z3] at oc
  have on := near64 oc (A := 40) (absR_le.2 ⟨by grind, by grind⟩) (by decide +kernel)
  have fin1 : absR (V FloatKind.f64.format o) ≤ 1 / 20000 := by
    have t1 := ab_add on (ab_add pn (ab_add sq1 (ab_add (ab_neg sq2) hcirc)))
    have e0 : V FloatKind.f64.format o - (V FloatKind.f64.format (pW d1 d2) - rad * rad) + (V FloatKind.f64.format (pW d1 d2) - (D1 * D1 + F * F) + (D1 * D1 - A * A + (-(rad * rad - j * j) + (A * A + F * F - j * j)))) = V FloatKind.f64.format o := by grind
    rw [e0] at t1
    exact ab_le t1 (by grind)
  obtain ⟨fin2, fin3⟩ := absR_le.1 fin1
  have b1 : (1 : Rat) / 20000 ≤ V FloatKind.f64.format 4547007122018943789 := by decide +kernel
  have b2 : V FloatKind.f64.format 13770379158873719597 ≤ -(1 / 20000) := by decide +kernel
  refine ⟨?_, ?_, ?_⟩
  · unfold offV
    rw [fe, ff, c2, f0, e1, e2, fd1, fd2]
    rfl
  · unfold leB
    rw [eo, le_walk ob (fin_num.1 (by decide : fin .f64 4547007122018943789 = true))]
    simp only [decide_eq_true_eq]
    grind
  · unfold geB
    rw [eo, ge_walk' ob (fin_num.1 (by decide : fin .f64 13770379158873719597 = true))]
    simp only [decide_eq_true_eq]
    grind

end Go.Proofs.Ytdmacimafkiijaa
