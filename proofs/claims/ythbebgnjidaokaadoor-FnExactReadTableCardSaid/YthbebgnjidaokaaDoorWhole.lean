/-
  Numbers with whole parts: the statements' own test of them, and what a product of two of them comes to.
-/
import Derived.Test.YthbebgnjidaokaaDoorPow
namespace Go.Proofs.YthbebgnjidaokaaDoor
open Go.RowKit Fl
open Ieee

/-- Both parts are whole, and not greater than so many. -/
def Whole (x y : Nat) (most : Int) : Prop := fin .f32 x = true ∧ fin .f32 y = true ∧
  ∃ i j : Int, V FloatKind.f32.format x = (i : Rat) ∧ V FloatKind.f32.format y = (j : Rat) ∧ -most ≤ i ∧ i ≤ most ∧ -most ≤ j ∧ j ≤ most

theorem milli_whole {i : Int} (h1 : -9999 ≤ i) (h2 : i ≤ 9999) : V FloatKind.f32.format (milliB (1000 * i)) = (i : Rat) := by
  have b1 : -9999999 ≤ 1000 * i := by omega
  have b2 : 1000 * i ≤ 9999999 := by omega
  obtain ⟨a, b⟩ := milli_bounds b1 b2
  obtain ⟨i1, i2⟩ := ofInt_exact (n := 1000 * i) (by omega) (by omega)
  obtain ⟨c1, c2⟩ := k1000_spec
  have hi : ((1000 * i : Int) : Rat) = 1000 * (i : Rat) := by rw [Rat.intCast_mul]; rfl
  have r1 : (-9999 : Rat) ≤ i := by simpa using rat_of_int h1
  have r2 : (i : Rat) ≤ 9999 := by simpa using rat_of_int h2
  obtain ⟨q, q1, q2, q3⟩ := quo_spec .f64 i1 c1 (by rw [c2]; decide +kernel) (i : Rat) (by rw [c2, i2, hi, Rat.mul_comm])
    (by have := lim64.2; grind) (by have := lim64.2; grind)
  have e0 : milliQ (1000 * i) = q := by unfold milliQ; rw [q1]; rfl
  have hq := rndV_exact q3 (has_int (by decide) i (by have : (2 : Nat) ^ (FloatKind.f64.format.fractionBits + 1) = 9007199254740992 := by decide
                                                      omega))
  obtain ⟨r, n1, n2, n3⟩ := narrow_spec q2 (by have := lim32.1; rw [hq]; grind) (by have := lim32.1; rw [hq]; grind)
  rw [hq] at n3
  have e1 : milliB (1000 * i) = r := by unfold milliB; rw [e0, n1]; rfl
  rw [e1]
  exact rndV_exact n3 (has_int (by decide) i (by have : (2 : Nat) ^ (FloatKind.f32.format.fractionBits + 1) = 16777216 := by decide
                                                 omega))

/-- The exact product. -/
theorem mul_exact {x y : Nat} {i j : Int} (hx : fin .f64 x = true) (hy : fin .f64 y = true) (vx : V FloatKind.f64.format x = (i : Rat)) (vy : V FloatKind.f64.format y = (j : Rat))
    (hb : (i * j).natAbs ≤ 9007199254740992) : ∃ r, floatBits .mul .f64 x y = some r ∧ fin .f64 r = true ∧ V FloatKind.f64.format r = ((i * j : Int) : Rat) := by
  have b1 : (-9007199254740992 : Rat) ≤ ((i * j : Int) : Rat) := by simpa using rat_of_int (show -9007199254740992 ≤ i * j by omega)
  have b2 : ((i * j : Int) : Rat) ≤ 9007199254740992 := by simpa using rat_of_int (show i * j ≤ 9007199254740992 by omega)
  have l := lim64.1
  have e : V FloatKind.f64.format x * V FloatKind.f64.format y = ((i * j : Int) : Rat) := by rw [vx, vy, Rat.intCast_mul]
  obtain ⟨r, r1, r2, r3⟩ := mul_spec .f64 (fin_num.1 hx) (fin_num.1 hy) (by rw [e]; grind) (by rw [e]; grind)
  rw [e] at r3
  exact ⟨r, r1, fin_num.2 r2, rndV_exact r3 (has_int (by decide) _ hb)⟩

theorem sum_exact {x y : Nat} {i j : Int} (hx : fin .f64 x = true) (hy : fin .f64 y = true) (vx : V FloatKind.f64.format x = (i : Rat)) (vy : V FloatKind.f64.format y = (j : Rat))
    (hb : (i + j).natAbs ≤ 9007199254740992) : ∃ r, floatBits .add .f64 x y = some r ∧ fin .f64 r = true ∧ V FloatKind.f64.format r = ((i + j : Int) : Rat) := by
  have b1 : (-9007199254740992 : Rat) ≤ ((i + j : Int) : Rat) := by simpa using rat_of_int (show -9007199254740992 ≤ i + j by omega)
  have b2 : ((i + j : Int) : Rat) ≤ 9007199254740992 := by simpa using rat_of_int (show i + j ≤ 9007199254740992 by omega)
  have l := lim64.1
  have e : V FloatKind.f64.format x + V FloatKind.f64.format y = ((i + j : Int) : Rat) := by rw [vx, vy, Rat.intCast_add]
  obtain ⟨r, r1, r2, r3⟩ := add_spec .f64 (fin_num.1 hx) (fin_num.1 hy) (by rw [e]; grind) (by rw [e]; grind)
  rw [e] at r3
  exact ⟨r, r1, fin_num.2 r2, rndV_exact r3 (has_int (by decide) _ hb)⟩

theorem diff_exact {x y : Nat} {i j : Int} (hx : fin .f64 x = true) (hy : fin .f64 y = true) (vx : V FloatKind.f64.format x = (i : Rat)) (vy : V FloatKind.f64.format y = (j : Rat))
    (hb : (i - j).natAbs ≤ 9007199254740992) : ∃ r, floatBits .sub .f64 x y = some r ∧ fin .f64 r = true ∧ V FloatKind.f64.format r = ((i - j : Int) : Rat) := by
  have b1 : (-9007199254740992 : Rat) ≤ ((i - j : Int) : Rat) := by simpa using rat_of_int (show -9007199254740992 ≤ i - j by omega)
  have b2 : ((i - j : Int) : Rat) ≤ 9007199254740992 := by simpa using rat_of_int (show i - j ≤ 9007199254740992 by omega)
  have l := lim64.1
  have e : V FloatKind.f64.format x - V FloatKind.f64.format y = ((i - j : Int) : Rat) := by rw [vx, vy, Rat.intCast_sub]
  obtain ⟨r, r1, r2, r3⟩ := sub_spec .f64 (fin_num.1 hx) (fin_num.1 hy) (by rw [e]; grind) (by rw [e]; grind)
  rw [e] at r3
  exact ⟨r, r1, fin_num.2 r2, rndV_exact r3 (has_int (by decide) _ hb)⟩

theorem narrow_exact {x : Nat} {i : Int} (hx : fin .f64 x = true) (vx : V FloatKind.f64.format x = (i : Rat)) (hb : i.natAbs ≤ 16777216) :
    ∃ r, floatToFloatBits .f64 x .f32 = some r ∧ fin .f32 r = true ∧ V FloatKind.f32.format r = (i : Rat) := by
  have b1 : (-16777216 : Rat) ≤ (i : Rat) := by simpa using rat_of_int (show -16777216 ≤ i by omega)
  have b2 : (i : Rat) ≤ 16777216 := by simpa using rat_of_int (show i ≤ 16777216 by omega)
  have l := lim32.1
  obtain ⟨r, r1, r2, r3⟩ := narrow_spec (fin_num.1 hx) (by rw [vx]; grind) (by rw [vx]; grind)
  rw [vx] at r3
  exact ⟨r, r1, fin_num.2 r2, rndV_exact r3 (has_int (by decide) _ hb)⟩

/-- A product of two complex64 numbers, where no operation on the way asks. -/
theorem run_mul64 (P : Program) (t : TypeId) {a b c d e f e' f' : Nat} (ha : fin .f32 a = true) (hb : fin .f32 b = true) (hc : fin .f32 c = true) (hd : fin .f32 d = true)
    (h : cMulBits (yW a) (yW b) (yW c) (yW d) = some (e, f)) (he : floatToFloatBits .f64 e .f32 = some e') (hf : floatToFloatBits .f64 f .f32 = some f') (w : World) :
    (binOp .mul t (.complex .f32 a b) (.complex .f32 c d)).run P w = .ok (.complex .f32 e' f') w := by
  have conv : ∀ (s k : FloatKind) (x r : Nat), floatToFloatBits s x k = some r → ∀ w, (Op.Complex.conv s x k).run P w = .ok r w := by
    intro s k x r hr w
    unfold Op.Complex.conv
    by_cases hk : s = k
    · unfold floatToFloatBits at hr
      rw [if_pos hk] at hr
      injection hr with hr
      rw [if_pos hk, hr]; rfl
    · rw [if_neg hk]
      simp [run_floatToFloat w hr]
  have hp : (Op.Complex.product (yW a) (yW b) (yW c) (yW d)).run P w = .ok (e, f) w := by
    unfold cMulBits at h
    obtain ⟨ac, h1, h⟩ := bind_some h
    obtain ⟨bd, h2, h⟩ := bind_some h
    obtain ⟨re, h3, h⟩ := bind_some h
    obtain ⟨ad, h4, h⟩ := bind_some h
    obtain ⟨bc, h5, h⟩ := bind_some h
    obtain ⟨im, h6, h⟩ := bind_some h
    injection h with h
    injection h with g1 g2
    subst g1; subst g2
    simp [Op.Complex.product, Op.Complex.mul, Op.Complex.sub, Op.Complex.add, run_carith w h1, run_carith w h2, run_carith w h3, run_carith w h4, run_carith w h5, run_carith w h6]
  have c1 := conv _ _ _ _ (yW_spec ha).1
  have c2 := conv _ _ _ _ (yW_spec hb).1
  have c3 := conv _ _ _ _ (yW_spec hc).1
  have c4 := conv _ _ _ _ (yW_spec hd).1
  have c5 := conv _ _ _ _ he
  have c6 := conv _ _ _ _ hf
  simp [binOp, Op.complexOp, c1, c2, c3, c4, c5, c6, hp]

/-- Whole products are exact. -/
theorem mul_whole {a b c d : Nat} {i j k l : Int} (ha : fin .f32 a = true) (hb : fin .f32 b = true) (hc : fin .f32 c = true) (hd : fin .f32 d = true)
    (va : V FloatKind.f32.format a = (i : Rat)) (vb : V FloatKind.f32.format b = (j : Rat)) (vc : V FloatKind.f32.format c = (k : Rat)) (vd : V FloatKind.f32.format d = (l : Rat))
    (b1 : (i * k).natAbs ≤ 8388608) (b2 : (j * l).natAbs ≤ 8388608) (b3 : (i * l).natAbs ≤ 8388608) (b4 : (j * k).natAbs ≤ 8388608) :
    ∃ e f, (∀ (P : Program) (t : TypeId) (w : World), (binOp .mul t (.complex .f32 a b) (.complex .f32 c d)).run P w = .ok (.complex .f32 e f) w) ∧ fin .f32 e = true ∧ fin .f32 f = true ∧
      V FloatKind.f32.format e = ((i * k - j * l : Int) : Rat) ∧ V FloatKind.f32.format f = ((i * l + j * k : Int) : Rat) := by
  obtain ⟨_, ya, wa⟩ := yW_spec ha
  obtain ⟨_, yb, wb⟩ := yW_spec hb
  obtain ⟨_, yc, wc⟩ := yW_spec hc
  obtain ⟨_, yd, wd⟩ := yW_spec hd
  rw [va] at wa
  rw [vb] at wb
  rw [vc] at wc
  rw [vd] at wd
  obtain ⟨ac, a1, a2, a3⟩ := mul_exact ya yc wa wc (by omega)
  obtain ⟨bd, d1, d2, d3⟩ := mul_exact yb yd wb wd (by omega)
  obtain ⟨re, r1, r2, r3⟩ := diff_exact a2 d2 a3 d3 (by omega)
  obtain ⟨ad, e1, e2, e3⟩ := mul_exact ya yd wa wd (by omega)
  obtain ⟨bc, f1, f2, f3⟩ := mul_exact yb yc wb wc (by omega)
  obtain ⟨im, m1, m2, m3⟩ := sum_exact e2 f2 e3 f3 (by omega)
  obtain ⟨e', n1, n2, n3⟩ := narrow_exact r2 r3 (by omega)
  obtain ⟨f', o1, o2, o3⟩ := narrow_exact m2 m3 (by omega)
  refine ⟨e', f', fun P t w => run_mul64 P t ha hb hc hd ?_ n1 o1 w, n2, o2, n3, o3⟩
  unfold cMulBits
  rw [a1, d1, e1, f1]
  simp [r1, m1]

theorem sK_nat' (b : Nat) : (sK b).natAbs = kOf b := by unfold sK; split <;> omega

theorem mOf_back' {a b : Nat} (ha : okK a = true) (hb : okK b = true) : milliV (sK a) (sK b) = .complex .f32 (milliB (sK a)) (milliB (sK b)) ∧
    mOf (milliB (sK a)) (milliB (sK b)) = .tuple #[.int .i64 (sK a), .int .i64 (sK b), .bool true] ∧ fin .f32 (milliB (sK a)) = true ∧ fin .f32 (milliB (sK b)) = true := by
  have a1 := k_le_of ha
  have b1 := k_le_of hb
  have an := sK_nat' a
  have bn := sK_nat' b
  have r2 : -9999999 ≤ sK a := by omega
  have r3 : sK a ≤ 9999999 := by omega
  have i2 : -9999999 ≤ sK b := by omega
  have i3 : sK b ≤ 9999999 := by omega
  refine ⟨?_, ?_, fin_milli r2 r3, fin_milli i2 i3⟩
  · unfold milliV; rw [okM_iff.2 ⟨r2, r3⟩, okM_iff.2 ⟨i2, i3⟩]; rfl
  · have k1 : okK (milliB (sK a)) = true := by unfold okK; rw [kOf_milli r2 r3]; simp; omega
    have k2 : okK (milliB (sK b)) = true := by unfold okK; rw [kOf_milli i2 i3]; simp; omega
    unfold mOf
    rw [fin_milli r2 r3, fin_milli i2 i3, k1, k2, sK_milli r2 r3, sK_milli i2 i3]
    rfl

/-- What the test of whole parts gives. -/
def WholeSaid (x y : Nat) (most : Int) (w : World) (e : Ending) (w' : World) : Prop := ∃ β n, e = .returned (.bool β) ∧ w' = w.drewN n ∧ (β = true → Whole x y most)

theorem whole_of {x y : Nat} {most : Int} (h0 : most ≤ 9999) (hx : fin .f32 x = true) (hy : fin .f32 y = true) (hkx : okK x = true) (hky : okK y = true)
    (ox : FloatKind.f32.format.order x (milliB (sK x)) = some .eq) (oy : FloatKind.f32.format.order y (milliB (sK y)) = some .eq)
    (mx : (sK x).tmod 1000 = 0) (my : (sK y).tmod 1000 = 0) (a1 : -1000 * most ≤ sK x) (a2 : sK x ≤ 1000 * most) (a3 : -1000 * most ≤ sK y) (a4 : sK y ≤ 1000 * most) : Whole x y most := by
  obtain ⟨z1, z2, z3, z4⟩ := mOf_back' hkx hky
  have vx := (order_spec _ (fin_num.1 hx) (fin_num.1 z3)).2.1.1 ox
  have vy := (order_spec _ (fin_num.1 hy) (fin_num.1 z4)).2.1.1 oy
  obtain ⟨i, hi⟩ : ∃ i, sK x = 1000 * i := by
    have := Int.dvd_of_tmod_eq_zero mx
    obtain ⟨i, hi⟩ := this
    exact ⟨i, hi⟩
  obtain ⟨j, hj⟩ : ∃ j, sK y = 1000 * j := by
    have := Int.dvd_of_tmod_eq_zero my
    obtain ⟨j, hj⟩ := this
    exact ⟨j, hj⟩
  rw [hi] at vx a1 a2
  rw [hj] at vy a3 a4
  refine ⟨hx, hy, i, j, ?_, ?_, by omega, by omega, by omega, by omega⟩
  · rw [vx, milli_whole (by omega) (by omega)]
  · rw [vy, milli_whole (by omega) (by omega)]

end Go.Proofs.YthbebgnjidaokaaDoor
