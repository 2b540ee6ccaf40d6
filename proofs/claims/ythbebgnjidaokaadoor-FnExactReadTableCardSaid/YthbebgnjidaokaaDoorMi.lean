/-
  Numbers of thousandths: the part that they make, and the thousandths that a part has, as functions of words; that these are there again.
-/
import Derived.Test.YthbebgnjidaokaaDoorFv
namespace Go.Proofs.YthbebgnjidaokaaDoor
namespace Fl
open Ieee

/-- The words of 1000 and of one half, as float64. -/
theorem k1000_spec : num FloatKind.f64.format 4652007308841189376 ∧ V FloatKind.f64.format 4652007308841189376 = 1000 := ⟨fin_num.1 (by decide +kernel), by decide +kernel⟩
theorem khalf_spec : num FloatKind.f64.format 4602678819172646912 ∧ V FloatKind.f64.format 4602678819172646912 = 1 / 2 := ⟨fin_num.1 (by decide +kernel), by decide +kernel⟩

/-- A part, widened. -/
def yW (x : Nat) : Nat := (floatToFloatBits .f32 x .f64).getD 0

/-- So many thousandths as a part: divided as float64, then a float32. -/
def milliQ (n : Int) : Nat := (floatBits .quo .f64 (floatOfInt .f64 n) 4652007308841189376).getD 0
def milliB (n : Int) : Nat := (floatToFloatBits .f64 (milliQ n) .f32).getD 0

theorem rat_of_int {a b : Int} (h : a ≤ b) : (a : Rat) ≤ (b : Rat) := Rat.intCast_le_intCast.2 h

theorem milli_bounds {n : Int} (h1 : -9999999 ≤ n) (h2 : n ≤ 9999999) : -9999999 ≤ (n : Rat) ∧ (n : Rat) ≤ 9999999 := by
  have a := rat_of_int h1
  have b := rat_of_int h2
  constructor
  · simpa using a
  · simpa using b

theorem lim64 : (100000000000000000000 : Rat) < lim FloatKind.f64.format ∧ (100000000000000000000 : Rat) < p2 (2 ^ (FloatKind.f64.format.exponentBits - 1) - 2) := ⟨by decide +kernel, by decide +kernel⟩
theorem lim32 : (100000000000000000000 : Rat) < lim FloatKind.f32.format ∧ (100000000000000000000 : Rat) < p2 (2 ^ (FloatKind.f32.format.exponentBits - 1) - 2) := ⟨by decide +kernel, by decide +kernel⟩

/-- Whole numbers are exact as float64. -/
theorem ofInt_exact {n : Int} (h1 : -9007199254740992 ≤ n) (h2 : n ≤ 9007199254740992) : num FloatKind.f64.format (floatOfInt .f64 n) ∧ V FloatKind.f64.format (floatOfInt .f64 n) = n := by
  have a : (-9007199254740992 : Rat) ≤ n := by simpa using rat_of_int h1
  have b : (n : Rat) ≤ 9007199254740992 := by simpa using rat_of_int h2
  have l := lim64.1
  obtain ⟨g1, g2⟩ := ofInt_spec .f64 n (by grind) (by grind)
  refine ⟨g1, rndV_exact g2 (has_int (by decide) n ?_)⟩
  have : (2 : Nat) ^ (FloatKind.f64.format.fractionBits + 1) = 9007199254740992 := by decide
  omega

theorem milli_spec {n : Int} (h1 : -9999999 ≤ n) (h2 : n ≤ 9999999) :
    floatBits .quo .f64 (floatOfInt .f64 n) 4652007308841189376 = some (milliQ n) ∧ floatToFloatBits .f64 (milliQ n) .f32 = some (milliB n) ∧
    num FloatKind.f32.format (milliB n) ∧ 1000 * V FloatKind.f32.format (milliB n) ≤ n + 489 / 1000 ∧ (n : Rat) ≤ 1000 * V FloatKind.f32.format (milliB n) + 489 / 1000 := by
  obtain ⟨a, b⟩ := milli_bounds h1 h2
  obtain ⟨i1, i2⟩ := ofInt_exact (n := n) (by omega) (by omega)
  obtain ⟨c1, c2⟩ := k1000_spec
  obtain ⟨q, q1, q2, q3⟩ := quo_spec .f64 i1 c1 (by rw [c2]; decide +kernel) ((n : Rat) / 1000) (by rw [c2, i2, Rat.div_mul_cancel (by decide +kernel)])
    (by have := lim64.2; grind) (by have := lim64.2; grind)
  have e0 : milliQ n = q := by unfold milliQ; rw [q1]; rfl
  have er := rndV_ulp 13 q3 (by decide) (by rw [show p2 (13 + 1) = 16384 by decide +kernel]; grind) (by rw [show p2 (13 + 1) = 16384 by decide +kernel]; grind)
  have k1 : p2 (13 - (FloatKind.f64.format.fractionBits : Int) - 1) ≤ 1 / 1000000000 := by decide +kernel
  obtain ⟨r, r1, r2, r3⟩ := narrow_spec q2 (by have := lim32.1; grind) (by have := lim32.1; grind)
  have e1 : milliB n = r := by unfold milliB; rw [e0, r1]; rfl
  have er2 := rndV_ulp 13 r3 (by decide) (by rw [show p2 (13 + 1) = 16384 by decide +kernel]; grind) (by rw [show p2 (13 + 1) = 16384 by decide +kernel]; grind)
  have k2 : p2 (13 - (FloatKind.f32.format.fractionBits : Int) - 1) = 1 / 2048 := by decide +kernel
  rw [k2] at er2
  rw [e1, e0]
  exact ⟨q1, r1, r2, by grind, by grind⟩

/-- The absolute value of a number. -/
def absR (x : Rat) : Rat := if x < 0 then -x else x
theorem absR_nonneg (x : Rat) : 0 ≤ absR x := by unfold absR; split <;> grind
theorem absR_cases (x : Rat) : (x < 0 ∧ absR x = -x) ∨ (0 ≤ x ∧ absR x = x) := by unfold absR; split <;> grind

/-- How many thousandths, rounded, without the sign and with it. -/
def kOf (b : Nat) : Nat := (1000 * absR (V FloatKind.f32.format b) + 1 / 2).floor.toNat
def sK (b : Nat) : Int := if V FloatKind.f32.format b < 0 then -(kOf b : Int) else (kOf b : Int)

theorem floor_nat {x : Rat} (h : 0 ≤ x) : ((x.floor.toNat : Nat) : Rat) ≤ x ∧ x < ((x.floor.toNat : Nat) : Rat) + 1 := by
  have h1 := Rat.floor_le x
  have h2 := Rat.lt_floor_add_one x
  have h0 : 0 ≤ x.floor := by
    rw [Rat.le_floor_iff]; simpa using h
  have e : ((x.floor.toNat : Nat) : Rat) = (x.floor : Rat) := by
    rw [← Rat.intCast_natCast]; congr 1; omega
  rw [e]
  refine ⟨h1, ?_⟩
  have := Rat.intCast_add x.floor 1
  rw [this] at h2
  simpa using h2

theorem kOf_spec (b : Nat) : (kOf b : Rat) ≤ 1000 * absR (V FloatKind.f32.format b) + 1 / 2 ∧ 1000 * absR (V FloatKind.f32.format b) + 1 / 2 < (kOf b : Rat) + 1 := by
  have := absR_nonneg (V FloatKind.f32.format b)
  exact floor_nat (by grind)

theorem nat_of_bounds {a b : Nat} (h1 : (a : Rat) < (b : Rat) + 1) (h2 : (b : Rat) < (a : Rat) + 1) : a = b := by
  have e1 : (a : Rat) < ((b + 1 : Nat) : Rat) := by rw [Rat.natCast_add]; simpa using h1
  have e2 : (b : Rat) < ((a + 1 : Nat) : Rat) := by rw [Rat.natCast_add]; simpa using h2
  have := Rat.natCast_lt_natCast.1 e1
  have := Rat.natCast_lt_natCast.1 e2
  omega

/-- The sum of thousandths and one half is cut as it would be if it were exact: w rounds it. -/
theorem cut_half {b : Nat} {w : Rat} (hs : absR (V FloatKind.f32.format b) ≤ 20000) (hw : RndV FloatKind.f64.format (1000 * absR (V FloatKind.f32.format b) + 1 / 2) w) {n : Nat} (h1 : (n : Rat) ≤ w) (h2 : w < (n : Rat) + 1) : n = kOf b := by
  obtain ⟨k1, k2⟩ := kOf_spec b
  have h0 := absR_nonneg (V FloatKind.f32.format b)
  have hhas : Has FloatKind.f32.format (absR (V FloatKind.f32.format b)) := by
    rcases absR_cases (V FloatKind.f32.format b) with ⟨_, e⟩ | ⟨_, e⟩
    · rw [e]; exact has_neg (has_V ..)
    · rw [e]; exact has_V ..
  obtain ⟨t, L, ht, hL, he⟩ := has_nat hhas h0
  generalize absR (V FloatKind.f32.format b) = x at *
  have hfb : (2 : Nat) ^ (FloatKind.f32.format.fractionBits + 1) = 16777216 := by decide
  have hfb2 : (2 : Nat) ^ (FloatKind.f64.format.fractionBits + 1) = 9007199254740992 := by decide
  rw [hfb] at ht
  by_cases hLs : -53 ≤ L
  · -- exact
    have hex : Has FloatKind.f64.format (1000 * x + 1 / 2) := by
      by_cases hL1 : -1 ≤ L
      · obtain ⟨d, hd⟩ := Int.le.dest hL1
        have hv : 1000 * x + 1 / 2 = ((1000 * t * 2 ^ d + 1 : Nat) : Rat) * p2 (-1) := by
          rw [he, ← hd, p2_add, p2_nat, Rat.natCast_add, Rat.natCast_mul, Rat.natCast_mul, show p2 (-1) = 1 / 2 by decide +kernel]
          simp
          grind
        have hle : ((1000 * t * 2 ^ d + 1 : Nat) : Rat) ≤ ((40000001 : Nat) : Rat) := by
          rw [show p2 (-1) = 1 / 2 by decide +kernel] at hv
          simp at hv ⊢
          grind
        have := Rat.natCast_le_natCast.1 hle
        refine ⟨((1000 * t * 2 ^ d + 1 : Nat) : Int), -1, ?_, by decide, by rw [hv, Rat.intCast_natCast]⟩
        rw [hfb2]; omega
      · obtain ⟨d, hd⟩ := Int.le.dest (show L ≤ -1 by omega)
        have hd52 : d ≤ 52 := by omega
        have hp : 2 ^ d ≤ 4503599627370496 := Nat.le_trans (Nat.pow_le_pow_right (n := 2) (by decide) hd52) (by decide)
        have hv : 1000 * x + 1 / 2 = ((1000 * t + 2 ^ d : Nat) : Rat) * p2 L := by
          have : (1 : Rat) / 2 = p2 d * p2 L := by rw [← p2_add, show (d : Int) + L = -1 by omega]; decide +kernel
          rw [he, this, p2_nat, Rat.natCast_add, Rat.natCast_mul]
          simp
          grind
        refine ⟨((1000 * t + 2 ^ d : Nat) : Int), L, ?_, by
          have : FloatKind.f64.format.leastPlace = -1074 := by decide
          omega, by rw [hv, Rat.intCast_natCast]⟩
        rw [hfb2]
        generalize 2 ^ d = D at hp
        omega
    have := rndV_exact hw hex
    subst this
    exact nat_of_bounds (by grind) (by grind)
  · -- next to nothing
    have hx : x ≤ 1 / 10000000 := by
      have a1 : (t : Rat) ≤ 16777216 := by
        have := Rat.natCast_le_natCast.2 ht
        simpa using this
      have a2 := Rat.mul_le_mul_of_nonneg_right a1 (Rat.le_of_lt (p2_pos L))
      have a3 := p2_le (show L ≤ -54 by omega)
      have a4 : (16777216 : Rat) * p2 (-54) ≤ 1 / 10000000 := by decide +kernel
      have a5 := Rat.mul_le_mul_of_nonneg_left a3 (show (0 : Rat) ≤ 16777216 by decide +kernel)
      grind
    have hw2 : w ≤ 3 / 4 := rndV_le hw ⟨3, -2, by decide, by decide, by decide +kernel⟩ (by grind)
    have hw0 : 0 ≤ w := rndV_nonneg hw (by grind)
    have hn : n = 0 := by
      have : (n : Rat) < ((1 : Nat) : Rat) := by simp; grind
      have := Rat.natCast_lt_natCast.1 this
      omega
    have hk : kOf b = 0 := by
      have : (kOf b : Rat) < ((1 : Nat) : Rat) := by simp; grind
      have := Rat.natCast_lt_natCast.1 this
      omega
    rw [hn, hk]

/-- Thousandths are there again. -/
theorem kOf_milli {n : Int} (h1 : -9999999 ≤ n) (h2 : n ≤ 9999999) : kOf (milliB n) = n.natAbs := by
  obtain ⟨_, _, _, m4, m5⟩ := milli_spec h1 h2
  obtain ⟨k1, k2⟩ := kOf_spec (milliB n)
  have ha : ((n.natAbs : Nat) : Rat) = if n < 0 then -(n : Rat) else (n : Rat) := by
    rw [← Rat.intCast_natCast]
    split
    · rw [← Rat.intCast_neg]; congr 1; omega
    · congr 1; omega
  by_cases hn : n < 0
  · rw [if_pos hn] at ha
    have hneg : (n : Rat) ≤ -1 := by
      have := rat_of_int (show n ≤ -1 by omega)
      simpa using this
    rcases absR_cases (V FloatKind.f32.format (milliB n)) with ⟨c1, c2⟩ | ⟨c1, c2⟩
    · exact nat_of_bounds (by grind) (by grind)
    · grind
  · rw [if_neg hn] at ha
    have hpos : (0 : Rat) ≤ (n : Rat) := by
      have := rat_of_int (show 0 ≤ n by omega)
      simpa using this
    rcases absR_cases (V FloatKind.f32.format (milliB n)) with ⟨c1, c2⟩ | ⟨c1, c2⟩
    · exact nat_of_bounds (by grind) (by grind)
    · exact nat_of_bounds (by grind) (by grind)

theorem sK_milli {n : Int} (h1 : -9999999 ≤ n) (h2 : n ≤ 9999999) : sK (milliB n) = n := by
  have hk := kOf_milli h1 h2
  obtain ⟨_, _, _, m4, m5⟩ := milli_spec h1 h2
  unfold sK
  rw [hk]
  rcases Int.lt_trichotomy n 0 with h | h | h
  · have hneg : (n : Rat) ≤ -1 := by
      have := rat_of_int (show n ≤ -1 by omega)
      simpa using this
    rw [if_pos (by grind)]; omega
  · subst h; split <;> rfl
  · have hpos : (1 : Rat) ≤ (n : Rat) := by
      have := rat_of_int (show 1 ≤ n by omega)
      simpa using this
    rw [if_neg (by grind)]; omega

theorem milli_lt {n : Int} (h1 : -9999999 ≤ n) (h2 : n ≤ 9999999) : milliB n < 2 ^ FloatKind.f32.format.width := by
  obtain ⟨m1, m2, _⟩ := milli_spec h1 h2
  have := floatToFloatBits_wf (floatBits_wf m1) m2
  rw [show (2 : Nat) ^ FloatKind.f32.format.width = 4294967296 by decide]
  simpa [Lit.wf] using this

theorem fin_milli {n : Int} (h1 : -9999999 ≤ n) (h2 : n ≤ 9999999) : fin .f32 (milliB n) = true := fin_num.2 (milli_spec h1 h2).2.2.1

end Fl
end Go.Proofs.YthbebgnjidaokaaDoor
