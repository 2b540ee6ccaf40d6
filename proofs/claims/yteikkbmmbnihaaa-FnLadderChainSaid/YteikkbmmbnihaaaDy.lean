/-
  Exact sums and products of complex64 numbers whose parts are whole numbers of so many halves of halves.
-/
import Derived.Test.YteikkbmmbnihaaaNc
namespace Go.Proofs.Yteikkbmmbnihaaa
open Go.RowKit Fl
open Ieee

/-- The parts are i and j times 2^e. -/
def IsDy (a b : Nat) (i j e : Int) : Prop := fin .f32 a = true ∧ fin .f32 b = true ∧ V FloatKind.f32.format a = (i : Rat) * p2 e ∧ V FloatKind.f32.format b = (j : Rat) * p2 e

theorem dy_has {k : FloatKind} {i e : Int} (hi : i.natAbs ≤ 16777216) (he : -149 ≤ e) : Has k.format ((i : Rat) * p2 e) := by
  refine ⟨i, e, Nat.le_trans hi (by cases k <;> decide), Int.le_trans (by cases k <;> decide) he, rfl⟩

theorem dy_bound {i e : Int} (hi : i.natAbs ≤ 16777216) (he : e ≤ 0) : absR ((i : Rat) * p2 e) ≤ 16777216 := by
  have h1 : absR (i : Rat) ≤ 16777216 := absR_le.2 ⟨by simpa using rat_of_int (show i ≤ 16777216 by omega), by simpa using rat_of_int (show -16777216 ≤ i by omega)⟩
  have h2 : absR (p2 e) ≤ 1 := by
    have h := p2_le he
    rw [p2_zero] at h
    have := p2_pos e
    exact absR_le.2 ⟨h, by grind⟩
  exact ab_le (ab_mul h1 h2) (by decide +kernel)

/-- Narrowed exactly. -/
theorem narrow_dy {r : Nat} {P : Rat} {i e : Int} (hr : fin .f64 r = true) (h : RndV FloatKind.f64.format P (V FloatKind.f64.format r)) (hP : P = (i : Rat) * p2 e) (hi : i.natAbs ≤ 16777216) (he : -149 ≤ e) (he0 : e ≤ 0) :
    ∃ x, floatToFloatBits .f64 r .f32 = some x ∧ fin .f32 x = true ∧ V FloatKind.f32.format x = (i : Rat) * p2 e := by
  rw [hP] at h
  have v := rndV_exact h (dy_has (k := .f64) hi he)
  have hb := dy_bound hi he0
  have ht : (16777216 : Rat) ≤ top32 := by decide +kernel
  obtain ⟨h1, h2⟩ := absR_le.1 hb
  obtain ⟨x, k1, k2, k3⟩ := narrow_top (fin_num.1 hr) (by rw [v]; grind) (by rw [v]; grind)
  rw [v] at k3
  exact ⟨x, k1, fin_num.2 k2, rndV_exact k3 (dy_has (k := .f32) hi he)⟩

theorem mul_dy {a b c d : Nat} {i j k l e g : Int} (h1 : IsDy a b i j e) (h2 : IsDy c d k l g) (he : -149 ≤ e + g) (he0 : e + g ≤ 0) (b1 : (i * k - j * l).natAbs ≤ 16777216) (b2 : (i * l + j * k).natAbs ≤ 16777216) :
    ∃ x y, (∀ (P : Program) (t : TypeId) (w : World), (binOp .mul t (.complex .f32 a b) (.complex .f32 c d)).run P w = .ok (.complex .f32 x y) w) ∧ IsDy x y (i * k - j * l) (i * l + j * k) (e + g) := by
  obtain ⟨ha, hb, va, vb⟩ := h1
  obtain ⟨hc, hd, vc, vd⟩ := h2
  obtain ⟨p, q, r, p1, q1, r1, r2, r3⟩ := dot64_sub ha hb hc hd
  obtain ⟨p', q', u, p1', q1', u1, u2, u3⟩ := dot64_add ha hb hd hc
  have eg := p2_add e g
  have s1 : V FloatKind.f32.format a * V FloatKind.f32.format c - V FloatKind.f32.format b * V FloatKind.f32.format d = ((i * k - j * l : Int) : Rat) * p2 (e + g) := by
    rw [va, vb, vc, vd, eg, Rat.intCast_sub, Rat.intCast_mul, Rat.intCast_mul]; grind
  have s2 : V FloatKind.f32.format a * V FloatKind.f32.format d + V FloatKind.f32.format b * V FloatKind.f32.format c = ((i * l + j * k : Int) : Rat) * p2 (e + g) := by
    rw [va, vb, vc, vd, eg, Rat.intCast_add, Rat.intCast_mul, Rat.intCast_mul]; grind
  obtain ⟨x, x1, x2, x3⟩ := narrow_dy r2 r3 s1 b1 he he0
  obtain ⟨y, y1, y2, y3⟩ := narrow_dy u2 u3 s2 b2 he he0
  refine ⟨x, y, fun P t w => run_mul64 P t ha hb hc hd ?_ x1 y1 w, x2, y2, x3, y3⟩
  unfold cMulBits
  rw [p1, q1, p1', q1']
  simp [r1, u1]

theorem add_dy {a b c d : Nat} {i j k l e : Int} (h1 : IsDy a b i j e) (h2 : IsDy c d k l e) (he : -149 ≤ e) (he0 : e ≤ 0) (b1 : (i + k).natAbs ≤ 16777216) (b2 : (j + l).natAbs ≤ 16777216) :
    AddOk a c ∧ AddOk b d ∧ IsDy (addB a c) (addB b d) (i + k) (j + l) e := by
  have part : ∀ {x y : Nat} {p q : Int}, fin .f32 x = true → fin .f32 y = true → V FloatKind.f32.format x = (p : Rat) * p2 e → V FloatKind.f32.format y = (q : Rat) * p2 e → (p + q).natAbs ≤ 16777216 →
      AddOk x y ∧ fin .f32 (addB x y) = true ∧ V FloatKind.f32.format (addB x y) = ((p + q : Int) : Rat) * p2 e := by
    intro x y p q hx hy vx vy hb
    have s : V FloatKind.f32.format x + V FloatKind.f32.format y = ((p + q : Int) : Rat) * p2 e := by rw [vx, vy, Rat.intCast_add]; grind
    obtain ⟨h1, h2⟩ := absR_le.1 (dy_bound hb he0)
    have l := lim32.1
    obtain ⟨r, r1, r2, r3⟩ := add_spec .f32 (fin_num.1 hx) (fin_num.1 hy) (by rw [s]; grind) (by rw [s]; grind)
    rw [s] at r3
    have ev : addB x y = r := by unfold addB; rw [r1]; rfl
    rw [← ev] at r1 r2 r3
    exact ⟨⟨fun w => fres_some w r1, fask_some r1⟩, fin_num.2 r2, rndV_exact r3 (dy_has (k := .f32) hb he)⟩
  obtain ⟨o1, f1, v1⟩ := part h1.1 h2.1 h1.2.2.1 h2.2.2.1 b1
  obtain ⟨o2, f2, v2⟩ := part h1.2.1 h2.2.1 h1.2.2.2 h2.2.2.2 b2
  exact ⟨o1, o2, f1, f2, v1, v2⟩

theorem sub_dy {a b c d : Nat} {i j k l e : Int} (h1 : IsDy a b i j e) (h2 : IsDy c d k l e) (he : -149 ≤ e) (he0 : e ≤ 0) (b1 : (i - k).natAbs ≤ 16777216) (b2 : (j - l).natAbs ≤ 16777216) :
    SubOk a c ∧ SubOk b d ∧ IsDy (subB a c) (subB b d) (i - k) (j - l) e := by
  have part : ∀ {x y : Nat} {p q : Int}, fin .f32 x = true → fin .f32 y = true → V FloatKind.f32.format x = (p : Rat) * p2 e → V FloatKind.f32.format y = (q : Rat) * p2 e → (p - q).natAbs ≤ 16777216 →
      SubOk x y ∧ fin .f32 (subB x y) = true ∧ V FloatKind.f32.format (subB x y) = ((p - q : Int) : Rat) * p2 e := by
    intro x y p q hx hy vx vy hb
    have s : V FloatKind.f32.format x - V FloatKind.f32.format y = ((p - q : Int) : Rat) * p2 e := by rw [vx, vy, Rat.intCast_sub]; grind
    obtain ⟨h1, h2⟩ := absR_le.1 (dy_bound hb he0)
    have l := lim32.1
    obtain ⟨r, r1, r2, r3⟩ := sub_spec .f32 (fin_num.1 hx) (fin_num.1 hy) (by rw [s]; grind) (by rw [s]; grind)
    rw [s] at r3
    have ev : subB x y = r := by unfold subB; rw [r1]; rfl
    rw [← ev] at r1 r2 r3
    exact ⟨⟨fun w => fres_some w r1, fask_some r1⟩, fin_num.2 r2, rndV_exact r3 (dy_has (k := .f32) hb he)⟩
  obtain ⟨o1, f1, v1⟩ := part h1.1 h2.1 h1.2.2.1 h2.2.2.1 b1
  obtain ⟨o2, f2, v2⟩ := part h1.2.1 h2.2.1 h1.2.2.2 h2.2.2.2 b2
  exact ⟨o1, o2, f1, f2, v1, v2⟩

/-- The same number in smaller units. -/
theorem IsDy.finer {a b : Nat} {i j e : Int} (h : IsDy a b i j e) (n : Nat) : IsDy a b (i * 2 ^ n) (j * 2 ^ n) (e - n) := by
  obtain ⟨ha, hb, va, vb⟩ := h
  have key : ∀ k : Int, (k : Rat) * p2 e = ((k * 2 ^ n : Int) : Rat) * p2 (e - n) := by
    intro k
    have h1 : p2 e = ((2 ^ n : Nat) : Rat) * p2 (e - n) := by
      rw [← p2_nat, ← p2_add]
      congr 1
      omega
    rw [h1, Rat.intCast_mul]
    have h2 : (((2 : Int) ^ n : Int) : Rat) = ((2 ^ n : Nat) : Rat) := by
      have : ((2 : Int) ^ n) = (((2 ^ n : Nat) : Nat) : Int) := by simp
      rw [this, Rat.intCast_natCast]
    rw [h2]
    grind
  exact ⟨ha, hb, va.trans (key i), vb.trans (key j)⟩

end Go.Proofs.Yteikkbmmbnihaaa
