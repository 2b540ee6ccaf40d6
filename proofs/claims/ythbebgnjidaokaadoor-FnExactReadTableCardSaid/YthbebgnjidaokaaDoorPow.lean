/-
  The turned number and the power, in the program and in the model.
-/
import Derived.Test.YthbebgnjidaokaaDoorNear
namespace Go.Proofs.YthbebgnjidaokaaDoor
open Go.RowKit Fl
open Ieee

theorem neg_neg (k : FloatKind) (b : Nat) : Op.negFloat k (Op.negFloat k b) = b := by
  unfold Op.negFloat
  rw [Nat.xor_assoc, Nat.xor_self, Nat.xor_zero]

/-- The square of a part, as float64, and the power. -/
def qW (a : Nat) : Nat := (floatBits .mul .f64 (yW a) (yW a)).getD 0
def pW (a b : Nat) : Nat := (floatBits .add .f64 (qW a) (qW b)).getD 0

theorem sq_bound (b : Nat) : 0 ≤ V FloatKind.f32.format b * V FloatKind.f32.format b ∧ V FloatKind.f32.format b * V FloatKind.f32.format b ≤ p2 256 := by
  have h1 := (absR_bound b).1
  have h0 := absR_nonneg (V FloatKind.f32.format b)
  have e : V FloatKind.f32.format b * V FloatKind.f32.format b = absR (V FloatKind.f32.format b) * absR (V FloatKind.f32.format b) := by
    rcases absR_cases (V FloatKind.f32.format b) with ⟨_, h⟩ | ⟨_, h⟩ <;> rw [h] <;> grind
  rw [e]
  have h2 := Rat.mul_le_mul_of_nonneg_right (Rat.le_of_lt h1) h0
  have h3 := Rat.mul_le_mul_of_nonneg_left (Rat.le_of_lt h1) (show (0 : Rat) ≤ p2 128 from Rat.le_of_lt (p2_pos _))
  have h4 : p2 128 * p2 128 = p2 256 := by rw [← p2_add]; congr 1
  refine ⟨Rat.mul_nonneg h0 h0, by grind⟩

theorem qW_spec {a : Nat} (ha : fin .f32 a = true) : floatBits .mul .f64 (yW a) (yW a) = some (qW a) ∧ num FloatKind.f64.format (qW a) ∧
    V FloatKind.f64.format (qW a) = V FloatKind.f32.format a * V FloatKind.f32.format a := by
  obtain ⟨y1, y2, y3⟩ := yW_spec ha
  have hb := sq_bound a
  have hl : p2 256 < lim FloatKind.f64.format := by decide +kernel
  have hl0 := lim_pos FloatKind.f64.format
  obtain ⟨m, m1, m2, m3⟩ := mul_spec .f64 (fin_num.1 y2) (fin_num.1 y2) (by rw [y3]; grind) (by rw [y3]; grind)
  rw [y3] at m3
  have e : qW a = m := by unfold qW; rw [m1]; rfl
  rw [e]
  refine ⟨m1, m2, rndV_exact m3 ?_⟩
  obtain ⟨t, L, h1, h2, h3⟩ := has_V FloatKind.f32.format a
  refine ⟨t * t, L + L, ?_, ?_, ?_⟩
  · have hfb : (2 : Nat) ^ (FloatKind.f32.format.fractionBits + 1) = 16777216 := by decide
    have hfb2 : (2 : Nat) ^ (FloatKind.f64.format.fractionBits + 1) = 9007199254740992 := by decide
    rw [hfb] at h1
    rw [hfb2, Int.natAbs_mul]
    have := Nat.mul_le_mul h1 h1
    omega
  · have hlp : FloatKind.f32.format.leastPlace = -149 := by decide
    have hlp2 : FloatKind.f64.format.leastPlace = -1074 := by decide
    omega
  · rw [h3, p2_add, Rat.intCast_mul]; grind

theorem pW_spec {a b : Nat} (ha : fin .f32 a = true) (hb : fin .f32 b = true) : floatBits .add .f64 (qW a) (qW b) = some (pW a b) ∧ num FloatKind.f64.format (pW a b) ∧
    RndV FloatKind.f64.format (V FloatKind.f32.format a * V FloatKind.f32.format a + V FloatKind.f32.format b * V FloatKind.f32.format b) (V FloatKind.f64.format (pW a b)) := by
  obtain ⟨a1, a2, a3⟩ := qW_spec ha
  obtain ⟨b1, b2, b3⟩ := qW_spec hb
  have h1 := sq_bound a
  have h2 := sq_bound b
  have hl : p2 256 + p2 256 < lim FloatKind.f64.format := by decide +kernel
  have hl0 := lim_pos FloatKind.f64.format
  obtain ⟨m, m1, m2, m3⟩ := add_spec .f64 a2 b2 (by rw [a3, b3]; grind) (by rw [a3, b3]; grind)
  rw [a3, b3] at m3
  have e : pW a b = m := by unfold pW; rw [m1]; rfl
  rw [e]
  exact ⟨m1, m2, m3⟩

/-- What Power gives. -/
def powV (a b : Nat) : Nat := if fin .f32 a && fin .f32 b then pW a b else 13830554455654793216

structure PowWalk (a b : Nat) : Prop where
  c1 : ∀ w, fconv .f32 a .f64 w = yW a
  c2 : fcask .f32 a .f64 = 0
  c3 : ∀ w, fconv .f32 b .f64 w = yW b
  c4 : fcask .f32 b .f64 = 0
  c5 : ∀ w, fres .mul .f64 (yW a) (yW a) w = qW a
  c6 : fask .mul .f64 (yW a) (yW a) = 0
  c7 : ∀ w, fres .mul .f64 (yW b) (yW b) w = qW b
  c8 : fask .mul .f64 (yW b) (yW b) = 0
  c9 : ∀ w, fres .add .f64 (qW a) (qW b) w = pW a b
  c10 : fask .add .f64 (qW a) (qW b) = 0

theorem pow_walk {a b : Nat} (ha : fin .f32 a = true) (hb : fin .f32 b = true) : PowWalk a b :=
  ⟨fun w => fconv_some w (yW_spec ha).1, fcask_some (yW_spec ha).1, fun w => fconv_some w (yW_spec hb).1, fcask_some (yW_spec hb).1,
   fun w => fres_some w (qW_spec ha).1, fask_some (qW_spec ha).1, fun w => fres_some w (qW_spec hb).1, fask_some (qW_spec hb).1, fun w => fres_some w (pW_spec ha hb).1, fask_some (pW_spec ha hb).1⟩

theorem fin_neg {y : Nat} (h : y < 2 ^ 32) : fin .f32 (Op.negFloat .f32 y) = fin .f32 y := by
  unfold fin
  rw [read_neg .f32 (show y < 2 ^ FloatKind.f32.format.width from h)]
  cases FloatKind.f32.format.read y <;> rfl

theorem yW_write {y : Nat} {s : Bool} {m : Nat} {e : Int} (hr : FloatKind.f32.format.read y = .number s m e) : yW y = FloatKind.f64.format.write (.number s m e) := by
  have hf : fin .f32 y = true := by unfold fin; rw [hr]; rfl
  have h1 := (yW_spec hf).1
  unfold floatToFloatBits at h1
  have hd : FloatKind.f32.decode y = .number s m e := hr
  rw [if_neg (by decide), hd] at h1
  simp only at h1
  split at h1
  · cases h1
  · injection h1 with h1; exact h1.symm

theorem qW_neg {y : Nat} (h : y < 2 ^ 32) (hf : fin .f32 y = true) : qW (Op.negFloat .f32 y) = qW y := by
  obtain ⟨s, m, e, hr⟩ := num_read (fin_num.1 hf)
  have hr2 : FloatKind.f32.format.read (Op.negFloat .f32 y) = .number (!s) m e := by
    rw [read_neg .f32 (show y < 2 ^ FloatKind.f32.format.width from h), hr]; rfl
  have e1 := yW_write hr
  have e2 := yW_write hr2
  obtain ⟨R, hR, hw⟩ := write_word FloatKind.f64.format m e
  have hn := fin_num.1 (yW_spec hf).2.1
  rw [e1, hw] at hn
  have hlt := num_word (fmt_bin .f64) hR hn
  rw [hw] at e1 e2
  unfold qW
  rw [e1, e2]
  congr 1
  show FloatKind.f64.format.mul _ _ = FloatKind.f64.format.mul _ _
  unfold Format.mul
  rw [read_word _ s R hlt, read_word _ (!s) R hlt]
  split <;> (cases s <;> rfl)

theorem powV_neg {x y : Nat} (h : y < 2 ^ 32) : powV x (Op.negFloat .f32 y) = powV x y := by
  unfold powV
  rw [fin_neg h]
  cases hx : fin .f32 x
  · rfl
  · cases hy : fin .f32 y
    · rfl
    · unfold pW
      rw [qW_neg h hy]

theorem powV_num (x y : Nat) : fin .f64 (powV x y) = true := by
  have hm : fin .f64 13830554455654793216 = true := by decide
  unfold powV
  cases hx : fin .f32 x
  · exact hm
  · cases hy : fin .f32 y
    · exact hm
    · exact fin_num.2 (pW_spec hx hy).2.1

end Go.Proofs.YthbebgnjidaokaaDoor
