/-
  The quotient of a reflection of what is drawn asks nothing.
-/
import Derived.Test.YtdmacimafkiijaaGrid
import Derived.Test.YtdmacimafkiijaaBig
namespace Go.Proofs.Ytdmacimafkiijaa
open Go.RowKit Fl
open Ieee

def Big (x : Nat) : Prop := fin .f32 x = true ∧ p2 126 + 200 ≤ V FloatKind.f32.format x
/-- Of what is drawn: both parts are multiples of 2^-36; or the first one is very great; or it is tiny, and the second one 0. -/
def Kind (x y : Nat) : Prop := (Grid x ∧ Grid y) ∨ Big x ∨ (x = 7136239 ∧ Grid y ∧ V FloatKind.f32.format y = 0)

theorem kind_num {x y : Nat} {n : Int} (h : NumOk n (.complex .f32 x y)) (fx : fin .f32 x = true) (fy : fin .f32 y = true) : Kind x y := by
  obtain ⟨x', y', re, im, e, r0, r1, i0, i1, h⟩ := h
  injection e with _ e1 e2
  subst e1; subst e2
  have gz : ∀ z, (z = 0 ∨ z = 2147483648) → Grid z := by
    intro z hz
    rcases hz with rfl | rfl
    · exact grid_zero (by decide) (by decide +kernel)
    · exact grid_zero (by decide) (by decide +kernel)
  rcases h with ⟨rfl, rfl⟩ | ⟨_, h⟩
  · exact .inl ⟨grid_milli (by omega) (by omega), grid_milli (by omega) (by omega)⟩
  · rcases h with ⟨rfl, rfl⟩ | ⟨rfl, hn, _⟩ | ⟨rfl, rfl⟩ | ⟨rfl, rfl⟩ | ⟨h1, h2⟩ | ⟨rfl, rfl⟩
    · exact absurd fx (by decide)
    · have := fin_not_nan fy
      rw [hn] at this
      cases this
    · exact .inr (.inl ⟨by decide, by decide +kernel⟩)
    · exact .inr (.inr ⟨rfl, gz 0 (.inl rfl), by decide +kernel⟩)
    · exact .inl ⟨gz x h1, gz y h2⟩
    · exact .inr (.inl ⟨by decide, by decide +kernel⟩)

theorem kind_load {x y : Nat} (h : LoadOk (.complex .f32 x y)) (fx : fin .f32 x = true) (fy : fin .f32 y = true) : Kind x y := by
  rcases h with ⟨re, im, e, r0, r1, i0, i1⟩ | h
  · injection e with _ e1 e2
    subst e1; subst e2
    exact .inl ⟨grid_milli (by omega) (by omega), grid_milli (by omega) (by omega)⟩
  · exact kind_num h fx fy

theorem kind_ref {x y : Nat} (h : RefOk (.complex .f32 x y)) (fx : fin .f32 x = true) (fy : fin .f32 y = true) : Kind x y := by
  have g1 : Grid 1065353216 := grid_of (by decide) (by decide +kernel) (by decide +kernel)
  have g2 : Grid 1112014848 := grid_of (by decide) (by decide +kernel) (by decide +kernel)
  have g3 : Grid 1117126656 := grid_of (by decide) (by decide +kernel) (by decide +kernel)
  have g4 : Grid 1092616192 := grid_of (by decide) (by decide +kernel) (by decide +kernel)
  have g0 : Grid 0 := grid_zero (by decide) (by decide +kernel)
  rcases h with (e | e | e | e | e) | h
  · injection e with _ e1 e2
    subst e1; subst e2
    exact .inl ⟨g1, g0⟩
  · injection e with _ e1 e2
    subst e1; subst e2
    exact .inl ⟨g2, g0⟩
  · injection e with _ e1 e2
    subst e1; subst e2
    exact .inl ⟨g3, g0⟩
  · injection e with _ e1 e2
    subst e1; subst e2
    exact .inl ⟨g2, g4⟩
  · injection e with _ e1 e2
    subst e1; subst e2
    exact .inl ⟨g0, g0⟩
  · exact kind_num h fx fy

theorem add32_some {x y : Nat} (hx : fin .f32 x = true) (hy : fin .f32 y = true) : floatBits .add .f32 x y = some (addB x y) := by
  obtain ⟨r, h⟩ := add_some (fin_num.1 hx) (fin_num.1 hy)
  unfold addB
  rw [h]
  rfl

/-- What a quotient wants. -/
def Quo (d1 d2 s1 s2 : Nat) : Prop := ∃ e f, (∀ (P : Program) (t : TypeId) (w : World), (binOp .quo t (.complex .f32 d1 d2) (.complex .f32 s1 s2)).run P w = .ok (.complex .f32 e f) w) ∧ fin .f32 e = true ∧ fin .f32 f = true ∧
  absR (V FloatKind.f32.format e) ≤ p2 47 ∧ absR (V FloatKind.f32.format f) ≤ p2 47

theorem quo_of {d1 d2 s1 s2 : Nat} {A S K : Rat} (f1 : fin .f32 d1 = true) (f2 : fin .f32 d2 = true) (f3 : fin .f32 s1 = true) (f4 : fin .f32 s2 = true) (hA : Has FloatKind.f64.format A) (hA1 : A ≤ p2 128) (hS : Has FloatKind.f64.format S) (hS1 : S ≤ p2 129) (hAS : A + A ≤ S)
    (a1 : absR (V FloatKind.f32.format d1) ≤ A) (a2 : absR (V FloatKind.f32.format d2) ≤ A) (h0 : V FloatKind.f32.format s1 ≠ 0 ∨ V FloatKind.f32.format s2 ≠ 0)
    (hK : Has FloatKind.f64.format K) (hK3 : Has FloatKind.f32.format K) (hK0 : 0 ≤ K) (hK1 : K < lim FloatKind.f32.format) (hK2 : S ≤ K * absR (V FloatKind.f32.format s1) ∨ S ≤ K * absR (V FloatKind.f32.format s2)) (hK4 : K ≤ p2 47 := by decide +kernel) : Quo d1 d2 s1 s2 := by
  obtain ⟨e, f, h1, h2, h3, h4, h5⟩ := quo64_fin f1 f2 f3 f4 hA hA1 hA hA1 hS hS1 hAS a1 a2 h0 hK hK3 hK0 hK1 hK2
  exact ⟨e, f, h1, h2, h3, ab_le h4 hK4, ab_le h5 hK4⟩

/-- The divisor has a part that is not smaller than 2^-37, and what is divided is not great. -/
theorem quo_grid {d1 d2 s1 s2 : Nat} (f1 : fin .f32 d1 = true) (f2 : fin .f32 d2 = true) (f3 : fin .f32 s1 = true) (f4 : fin .f32 s2 = true) (a1 : absR (V FloatKind.f32.format d1) ≤ 256) (a2 : absR (V FloatKind.f32.format d2) ≤ 256)
    (h : p2 (-37) ≤ absR (V FloatKind.f32.format s1) ∨ p2 (-37) ≤ absR (V FloatKind.f32.format s2)) : Quo d1 d2 s1 s2 := by
  have hp := p2_pos (-37)
  have e1 : p2 47 * p2 (-37) = 1024 := by rw [← p2_add]; decide +kernel
  have p47 := p2_pos 47
  have k : ∀ z : Rat, p2 (-37) ≤ z → 512 ≤ p2 47 * z := by
    intro z hz
    have := Rat.mul_nonneg (Rat.le_of_lt p47) (show 0 ≤ z - p2 (-37) by grind)
    grind
  refine quo_of (A := 256) (S := 512) (K := p2 47) f1 f2 f3 f4 (by simpa using has_int (f := FloatKind.f64.format) (by decide) 256 (by decide)) (by decide +kernel) (by simpa using has_int (f := FloatKind.f64.format) (by decide) 512 (by decide)) (by decide +kernel) (by decide +kernel) a1 a2 ?_
    ⟨1, 47, by decide, by decide, by simp⟩ ⟨1, 47, by decide, by decide, by simp⟩ (Rat.le_of_lt p47) (p2_lt (by decide)) ?_
  · have z0 : absR 0 = 0 := by decide +kernel
    rcases h with h | h
    · exact .inl (fun hz => by rw [hz, z0] at h; grind)
    · exact .inr (fun hz => by rw [hz, z0] at h; grind)
  · rcases h with h | h
    · exact .inl (k _ h)
    · exact .inr (k _ h)

/-- The divisor's first part is very great. -/
theorem quo_big {d1 d2 s1 s2 : Nat} (f1 : fin .f32 d1 = true) (f2 : fin .f32 d2 = true) (f3 : fin .f32 s1 = true) (f4 : fin .f32 s2 = true) (h : p2 126 ≤ V FloatKind.f32.format s1) : Quo d1 d2 s1 s2 := by
  have hp := p2_pos 126
  have hc := absR_cases (V FloatKind.f32.format s1)
  have e1 : p2 129 = 8 * p2 126 := by rw [show (129 : Int) = 126 + 1 + 1 + 1 from rfl, p2_succ, p2_succ, p2_succ]; grind
  have e2 : p2 129 = p2 128 + p2 128 := by rw [show (129 : Int) = 128 + 1 from rfl, p2_succ]; grind
  refine quo_of (A := p2 128) (S := p2 129) (K := 8) f1 f2 f3 f4 ⟨1, 128, by decide, by decide, by simp⟩ Rat.le_refl ⟨1, 129, by decide, by decide, by simp⟩ Rat.le_refl (by rw [e2]; exact Rat.le_refl) (Rat.le_of_lt (absR_bound d1).1) (Rat.le_of_lt (absR_bound d2).1) (.inl (by grind))
    (by simpa using has_int (f := FloatKind.f64.format) (by decide) 8 (by decide)) (by simpa using has_int (f := FloatKind.f32.format) (by decide) 8 (by decide)) (by decide +kernel) (by decide +kernel) (.inl (by grind))

theorem tiny_facts : fin .f32 7136239 = true ∧ 0 < V FloatKind.f32.format 7136239 ∧ V FloatKind.f32.format 7136239 ≤ p2 (-100) := ⟨by decide, by decide +kernel, by decide +kernel⟩

/-- Both are tiny, and the second parts 0. -/
theorem quo_tiny {d1 d2 s1 s2 : Nat} (f1 : fin .f32 d1 = true) (f2 : fin .f32 d2 = true) (f3 : fin .f32 s1 = true) (f4 : fin .f32 s2 = true) (a1 : absR (V FloatKind.f32.format d1) ≤ V FloatKind.f32.format 7136239) (a2 : absR (V FloatKind.f32.format d2) ≤ 0)
    (v1 : V FloatKind.f32.format s1 = V FloatKind.f32.format 7136239) : Quo d1 d2 s1 s2 := by
  obtain ⟨tf, t1, t2⟩ := tiny_facts
  have hT : Has FloatKind.f64.format (V FloatKind.f32.format 7136239) := by
    obtain ⟨_, _, e⟩ := yW_spec tf
    rw [← e]
    exact has_V _ _
  have e1 : p2 (-100) ≤ p2 128 := p2_le (by decide)
  have e2 : p2 (-99) = 2 * p2 (-100) := by rw [show (-99 : Int) = -100 + 1 from rfl, p2_succ]
  have e3 : p2 (-99) ≤ p2 129 := p2_le (by decide)
  have hc := absR_cases (V FloatKind.f32.format s1)
  refine quo_of (A := V FloatKind.f32.format 7136239) (S := 2 * V FloatKind.f32.format 7136239) (K := 2) f1 f2 f3 f4 hT (by grind) (has_double hT) (by grind) (by grind) a1 (by grind) (.inl (by grind))
    (by simpa using has_int (f := FloatKind.f64.format) (by decide) 2 (by decide)) (by simpa using has_int (f := FloatKind.f32.format) (by decide) 2 (by decide)) (by decide +kernel) (by decide +kernel) (.inl (by grind))

theorem grid_nonzero {x : Nat} (h : Grid x) (h0 : V FloatKind.f32.format x ≠ 0) : p2 (-36) ≤ absR (V FloatKind.f32.format x) := by
  obtain ⟨f, t, ht, _⟩ := h
  have hp := p2_pos (-36)
  have hc := absR_cases (V FloatKind.f32.format x)
  have ht0 : t ≠ 0 := by
    intro h
    rw [h, Rat.intCast_zero, Rat.zero_mul] at ht
    exact h0 ht
  rcases Int.lt_or_lt_of_ne ht0 with g | g
  · have c : (t : Rat) ≤ -1 := by simpa using rat_of_int (show t ≤ -1 by omega)
    have m := Rat.mul_nonneg (show 0 ≤ -1 - (t : Rat) by grind) (Rat.le_of_lt hp)
    grind
  · have c : (1 : Rat) ≤ (t : Rat) := by simpa using rat_of_int (show 1 ≤ t by omega)
    have m := Rat.mul_nonneg (show 0 ≤ (t : Rat) - 1 by grind) (Rat.le_of_lt hp)
    grind

/-- A tiny part and a multiple of 2^-36 that is not 0. -/
theorem tiny_sum {X s : Rat} (ha : p2 (-36) ≤ absR X) (h : RndV FloatKind.f32.format (V FloatKind.f32.format 7136239 + X) s) : p2 (-37) ≤ absR s := by
  obtain ⟨_, t1, t2⟩ := tiny_facts
  have e : p2 (-36) = 2 * p2 (-37) := by rw [show (-36 : Int) = -37 + 1 from rfl, p2_succ]
  have e2 : p2 (-100) ≤ p2 (-37) := p2_le (by decide)
  have hp := p2_pos (-37)
  have hc := absR_cases X
  have hs := absR_cases s
  have hh : Has FloatKind.f32.format (p2 (-37)) := ⟨1, -37, by decide, by decide, by simp⟩
  rcases hc with ⟨c1, c2⟩ | ⟨c1, c2⟩
  · have := rndV_le h (has_neg hh) (by grind)
    grind
  · have := rndV_ge h hh (by grind)
    grind

/-- The quotient of the difference and the sum asks nothing. -/
theorem refl_quo {x y a b : Nat} (hz : Kind x y) (hr : Kind a b) (fx : fin .f32 x = true) (fy : fin .f32 y = true) (fa : fin .f32 a = true) (fb : fin .f32 b = true)
    (g1 : fin .f32 (addB x a) = true) (g2 : fin .f32 (addB y b) = true) (g3 : fin .f32 (subB x a) = true) (g4 : fin .f32 (subB y b) = true)
    (h0 : V FloatKind.f32.format (addB x a) ≠ 0 ∨ V FloatKind.f32.format (addB y b) ≠ 0) : Quo (subB x a) (subB y b) (addB x a) (addB y b) := by
  have s1 := add_spec' (fin_num.1 fx) (fin_num.1 fa) (add32_some fx fa) (fin_num.1 g1)
  have s2 := add_spec' (fin_num.1 fy) (fin_num.1 fb) (add32_some fy fb) (fin_num.1 g2)
  have d1 := sub_spec' (fin_num.1 fx) (fin_num.1 fa) (show floatBits .sub .f32 x a = some (subB x a) from sub_some fx fa) (fin_num.1 g3)
  have d2 := sub_spec' (fin_num.1 fy) (fin_num.1 fb) (show floatBits .sub .f32 y b = some (subB y b) from sub_some fy fb) (fin_num.1 g4)
  have h126 : Has FloatKind.f32.format (p2 126) := ⟨1, 126, by decide, by decide, by simp⟩
  have lowZ : -128 ≤ V FloatKind.f32.format x := by
    rcases hz with ⟨⟨_, _, _, h⟩, _⟩ | ⟨_, h⟩ | ⟨rfl, _⟩
    · have := (absR_le.1 h).2; grind
    · have := p2_pos 126; grind
    · have := tiny_facts.2.1; grind
  have lowR : -128 ≤ V FloatKind.f32.format a := by
    rcases hr with ⟨⟨_, _, _, h⟩, _⟩ | ⟨_, h⟩ | ⟨rfl, _⟩
    · have := (absR_le.1 h).2; grind
    · have := p2_pos 126; grind
    · have := tiny_facts.2.1; grind
  have h256 : Has FloatKind.f32.format 256 := by simpa using has_int (f := FloatKind.f32.format) (by decide) 256 (by decide)
  have t3 : p2 (-100) ≤ 1 := by rw [← p2_zero]; exact p2_le (by decide)
  have le256 : ∀ {X r : Rat}, RndV FloatKind.f32.format X r → absR X ≤ 256 → absR r ≤ 256 := by
    intro X r h hX
    obtain ⟨x1, x2⟩ := absR_le.1 hX
    exact absR_le.2 (rndV_between h h256 x1 x2)
  have e37 : p2 (-37) ≤ p2 (-36) := p2_le (by decide)
  obtain ⟨tf, t1, t2⟩ := tiny_facts
  rcases hz with ⟨gx, gy⟩ | ⟨_, bx⟩ | ⟨rfl, gy, vy⟩
  · rcases hr with ⟨ga, gb⟩ | ⟨_, ba⟩ | ⟨rfl, gb, vb⟩
    · obtain ⟨s, d, q1, q2, q3, q4, q5, q6, q7⟩ := grid_sum gx ga
      obtain ⟨s', d', r1, r2, r3, r4, r5, r6, r7⟩ := grid_sum gy gb
      have e1 : addB x a = s := by unfold addB; rw [q1]; rfl
      have e2 : subB x a = d := by unfold subB; rw [q2]; rfl
      have e3 : addB y b = s' := by unfold addB; rw [r1]; rfl
      have e4 : subB y b = d' := by unfold subB; rw [r2]; rfl
      rw [e1, e3] at h0
      rw [e1, e2, e3, e4]
      refine quo_grid q4 r4 q3 r3 q6 r6 ?_
      rcases h0 with h | h
      · rcases q7 with g | g
        · exact absurd g h
        · exact .inl (by grind)
      · rcases r7 with g | g
        · exact absurd g h
        · exact .inr (by grind)
    · exact quo_big g3 g4 g1 g2 (rndV_ge s1 h126 (by grind))
    · -- the reference is tiny
      have xb := absR_le.1 gx.2.choose_spec.2
      have yb := absR_le.1 gy.2.choose_spec.2
      rw [vb, Rat.add_zero] at s2
      rw [vb, show V FloatKind.f32.format y - 0 = V FloatKind.f32.format y by grind] at d2
      have v2 := rndV_exact s2 (has_V _ _)
      have v4 := rndV_exact d2 (has_V _ _)
      have b1 := le256 d1 (absR_le.2 ⟨by grind, by grind⟩)
      have b2 := le256 d2 (absR_le.2 ⟨by grind, by grind⟩)
      by_cases hy0 : V FloatKind.f32.format y = 0
      · by_cases hx0 : V FloatKind.f32.format x = 0
        · rw [hx0, Rat.zero_add] at s1
          rw [hx0, show (0 : Rat) - V FloatKind.f32.format 7136239 = -V FloatKind.f32.format 7136239 by grind] at d1
          have v1 := rndV_exact s1 (has_V _ _)
          have v3 := rndV_exact d1 (has_neg (has_V _ _))
          exact quo_tiny g3 g4 g1 g2 (by rw [v3]; have := absR_cases (-V FloatKind.f32.format 7136239); grind) (by rw [v4, hy0]; decide +kernel) v1
        · rw [Rat.add_comm] at s1
          exact quo_grid g3 g4 g1 g2 b1 b2 (.inl (tiny_sum (grid_nonzero gx hx0) s1))
      · exact quo_grid g3 g4 g1 g2 b1 b2 (.inr (by rw [v2]; have := grid_nonzero gy hy0; grind))
  · exact quo_big g3 g4 g1 g2 (rndV_ge s1 h126 (by grind))
  · rcases hr with ⟨ga, gb⟩ | ⟨_, ba⟩ | ⟨rfl, gb, vb⟩
    · have ab' := absR_le.1 ga.2.choose_spec.2
      have bb := absR_le.1 gb.2.choose_spec.2
      rw [vy, Rat.zero_add] at s2
      rw [vy, show (0 : Rat) - V FloatKind.f32.format b = -V FloatKind.f32.format b by grind] at d2
      have v2 := rndV_exact s2 (has_V _ _)
      have v4 := rndV_exact d2 (has_neg (has_V _ _))
      have b1 := le256 d1 (absR_le.2 ⟨by grind, by grind⟩)
      have b2 := le256 d2 (absR_le.2 ⟨by grind, by grind⟩)
      by_cases hb0 : V FloatKind.f32.format b = 0
      · by_cases ha0 : V FloatKind.f32.format a = 0
        · rw [ha0, Rat.add_zero] at s1
          rw [ha0, show V FloatKind.f32.format 7136239 - 0 = V FloatKind.f32.format 7136239 by grind] at d1
          have v1 := rndV_exact s1 (has_V _ _)
          have v3 := rndV_exact d1 (has_V _ _)
          exact quo_tiny g3 g4 g1 g2 (by rw [v3]; have := absR_cases (V FloatKind.f32.format 7136239); grind) (by rw [v4, hb0]; decide +kernel) v1
        · exact quo_grid g3 g4 g1 g2 b1 b2 (.inl (tiny_sum (grid_nonzero ga ha0) s1))
      · exact quo_grid g3 g4 g1 g2 b1 b2 (.inr (by rw [v2]; have := grid_nonzero gb hb0; grind))
    · exact quo_big g3 g4 g1 g2 (rndV_ge s1 h126 (by grind))
    · rw [Rat.sub_self] at d1
      have v3 := rndV_exact d1 (has_zero _)
      rw [vy, vb, Rat.sub_self] at d2
      have v4 := rndV_exact d2 (has_zero _)
      have v1 := rndV_exact s1 (by
        have e : V FloatKind.f32.format 7136239 + V FloatKind.f32.format 7136239 = 2 * V FloatKind.f32.format 7136239 := by grind
        rw [e]; exact has_double (has_V _ _))
      refine quo_of (A := 0) (S := 0) (K := 1) g3 g4 g1 g2 (has_zero _) (by decide +kernel) (has_zero _) (by decide +kernel) (by decide +kernel) (by rw [v3]; decide +kernel) (by rw [v4]; decide +kernel) h0
        (by simpa using has_int (f := FloatKind.f64.format) (by decide) 1 (by decide)) (by simpa using has_int (f := FloatKind.f32.format) (by decide) 1 (by decide)) (by decide +kernel) (by decide +kernel) (.inl ?_)
      rw [Rat.one_mul]
      exact absR_nonneg _

end Go.Proofs.Ytdmacimafkiijaa
