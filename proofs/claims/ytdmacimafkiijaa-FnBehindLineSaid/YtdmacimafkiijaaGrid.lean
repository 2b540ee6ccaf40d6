/-
  When the quotient of a reflection asks nothing: the numbers that are drawn as loads and references.
-/
import Derived.Test.YtdmacimafkiijaaCir
import Derived.Test.YtdmacimafkiijaaDraw6
namespace Go.Proofs.Ytdmacimafkiijaa
open Go.RowKit Fl
open Ieee

/-- A part that is a multiple of 2^-36, and not great. -/
def Grid (x : Nat) : Prop := fin .f32 x = true ∧ ∃ t : Int, V FloatKind.f32.format x = (t : Rat) * p2 (-36) ∧ absR (V FloatKind.f32.format x) ≤ 128

theorem grid_zero {x : Nat} (hf : fin .f32 x = true) (h : V FloatKind.f32.format x = 0) : Grid x := ⟨hf, 0, by rw [h]; decide +kernel, by rw [h]; decide +kernel⟩

theorem grid_of {x : Nat} (hf : fin .f32 x = true) (h0 : p2 (-11) ≤ absR (V FloatKind.f32.format x)) (h1 : absR (V FloatKind.f32.format x) ≤ 128) : Grid x := by
  obtain ⟨t, L, ht, _, hv⟩ := has_V FloatKind.f32.format x
  have hfb : (2 : Nat) ^ (FloatKind.f32.format.fractionBits + 1) = 16777216 := by decide
  rw [hfb] at ht
  have hL : -36 ≤ L := by
    rcases Int.lt_or_le L (-36) with h | h
    · exfalso
      have hp := p2_lt h
      have hpos := p2_pos L
      have a1 : absR (t : Rat) ≤ 16777216 := by
        have i1 : (-16777216 : Rat) ≤ (t : Rat) := by simpa using rat_of_int (show -16777216 ≤ t by omega)
        have i2 : (t : Rat) ≤ 16777216 := by simpa using rat_of_int (show t ≤ 16777216 by omega)
        exact absR_le.2 ⟨i2, by grind⟩
      have a2 : absR (p2 L) ≤ p2 (-36) := absR_le.2 ⟨by grind, by have := p2_pos (-36); grind⟩
      have a3 := ab_mul a1 a2
      rw [← hv] at a3
      have e : (16777216 : Rat) * p2 (-36) < p2 (-11) := by decide +kernel
      grind
    · exact h
  refine ⟨hf, t * 2 ^ (L + 36).toNat, ?_, h1⟩
  rw [hv, Rat.intCast_mul]
  have e : p2 L = ((2 ^ (L + 36).toNat : Int) : Rat) * p2 (-36) := by
    have e1 : p2 L = p2 ((L + 36).toNat : Int) * p2 (-36) := by rw [← p2_add]; congr 1; omega
    rw [e1, p2_nat]
    congr 1
  rw [e]
  grind

theorem one_milli' : milliB 1000 = 1065353216 ∧ milliB 0 = 0 := ⟨by decide +kernel, by decide +kernel⟩

theorem grid_milli {n : Int} (h1 : -50000 ≤ n) (h2 : n ≤ 50000) : Grid (milliB n) := by
  by_cases h0 : n = 0
  · subst h0
    exact grid_zero (by rw [one_milli'.2]; decide) (by rw [one_milli'.2]; decide +kernel)
  · have hf := fin_milli (show -9999999 ≤ n by omega) (show n ≤ 9999999 by omega)
    have hk := kOf_milli (show -9999999 ≤ n by omega) (show n ≤ 9999999 by omega)
    obtain ⟨k1, k2⟩ := kOf_spec (milliB n)
    rw [hk] at k1 k2
    have c1 : (1 : Rat) ≤ ((n.natAbs : Nat) : Rat) := by
      have : (1 : Nat) ≤ n.natAbs := by omega
      exact_mod_cast this
    have c2 : ((n.natAbs : Nat) : Rat) ≤ 50000 := by
      have : n.natAbs ≤ 50000 := by omega
      exact_mod_cast this
    have e : p2 (-11) ≤ 1 / 2000 := by decide +kernel
    exact grid_of hf (by grind) (by grind)

/-- The sum and the difference of two such parts: each is 0, or not smaller than 2^-36; and not great. -/
theorem grid_sum {a b : Nat} (ha : Grid a) (hb : Grid b) : ∃ s d, floatBits .add .f32 a b = some s ∧ floatBits .sub .f32 a b = some d ∧ fin .f32 s = true ∧ fin .f32 d = true ∧
    absR (V FloatKind.f32.format s) ≤ 256 ∧ absR (V FloatKind.f32.format d) ≤ 256 ∧ (V FloatKind.f32.format s = 0 ∨ p2 (-36) ≤ absR (V FloatKind.f32.format s)) := by
  obtain ⟨fa, t, ht, a1⟩ := ha
  obtain ⟨fb, u, hu, b1⟩ := hb
  obtain ⟨a2, a3⟩ := absR_le.1 a1
  obtain ⟨b2, b3⟩ := absR_le.1 b1
  have l := lim32.1
  obtain ⟨s, s1, s2, s3⟩ := add_spec .f32 (fin_num.1 fa) (fin_num.1 fb) (by grind) (by grind)
  obtain ⟨d, d1, d2, d3⟩ := sub_spec .f32 (fin_num.1 fa) (fin_num.1 fb) (by grind) (by grind)
  have h256 : Has FloatKind.f32.format 256 := by simpa using has_int (f := FloatKind.f32.format) (by decide) 256 (by decide)
  have hp : Has FloatKind.f32.format (p2 (-36)) := ⟨1, -36, by decide, by decide, by simp⟩
  refine ⟨s, d, s1, d1, fin_num.2 s2, fin_num.2 d2, absR_le.2 (rndV_between s3 h256 (by grind) (by grind)), absR_le.2 (rndV_between d3 h256 (by grind) (by grind)), ?_⟩
  have e : V FloatKind.f32.format a + V FloatKind.f32.format b = ((t + u : Int) : Rat) * p2 (-36) := by rw [ht, hu, Rat.intCast_add]; grind
  rw [e] at s3
  have hpos := p2_pos (-36)
  have hc := absR_cases (V FloatKind.f32.format s)
  by_cases h0 : t + u = 0
  · left
    rw [h0] at s3
    have : ((0 : Int) : Rat) * p2 (-36) = 0 := by rw [Rat.intCast_zero, Rat.zero_mul]
    rw [this] at s3
    exact rndV_exact s3 (has_zero _)
  · right
    rcases Int.lt_or_lt_of_ne h0 with g | g
    · have c : ((t + u : Int) : Rat) ≤ -1 := by simpa using rat_of_int (show t + u ≤ -1 by omega)
      have m := Rat.mul_nonneg (show 0 ≤ -1 - ((t + u : Int) : Rat) by grind) (Rat.le_of_lt hpos)
      have := rndV_le s3 (has_neg hp) (by grind)
      grind
    · have c : (1 : Rat) ≤ ((t + u : Int) : Rat) := by simpa using rat_of_int (show 1 ≤ t + u by omega)
      have m := Rat.mul_nonneg (show 0 ≤ ((t + u : Int) : Rat) - 1 by grind) (Rat.le_of_lt hpos)
      have := rndV_ge s3 hp (by grind)
      grind

end Go.Proofs.Ytdmacimafkiijaa
