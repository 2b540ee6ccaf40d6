/-
  A number of at most the greatest float32 in absolute value is narrowed to a finite float32; the product of a difference and a part of it from 0 to 1.
-/
import Derived.Test.YthbebgnjidaokaaBig
import Derived.Test.YthbebgnjidaokaaWhole
import Derived.Test.YthbebgnjidaokaaWord
namespace Go.Proofs.Ythbebgnjidaokaa
namespace Fl
open Ieee

def max32 : Rat := 340282346638528859811704183484516925440

theorem nearest_max (neg : Bool) (m : Nat) (place : Int) (hm : 0 < m) (hx : (m : Rat) * p2 place ≤ max32) : num FloatKind.f32.format (FloatKind.f32.format.nearest neg m place) := by
  obtain ⟨hl1, hl2⟩ := log2_bounds hm
  have hfb : FloatKind.f32.format.fractionBits = 23 := rfl
  have hlp : FloatKind.f32.format.leastPlace = -149 := by decide
  have hbi : FloatKind.f32.format.binade = 8388608 := by decide
  have hin : FloatKind.f32.format.infRung = 255 * 8388608 := by decide
  unfold Format.nearest
  rw [if_neg (by omega)]
  simp only
  rw [hfb, hlp, hbi]
  generalize hlast : max (place + ↑m.log2 - ↑(23 : Nat)) (-149 : Int) = last
  have hge : place + ↑m.log2 - 23 ≤ last := by omega
  have hor : last = -149 ∨ last = place + ↑m.log2 - 23 := by omega
  have hlow : -149 ≤ last := by omega
  clear hlast
  generalize hkept : Toward.even.cut neg (m <<< (place - last).toNat) (last - place).toNat = kept
  obtain ⟨c1, c2⟩ := cut_even neg (m <<< (place - last).toNat) (last - place).toNat
  rw [hkept] at c1 c2
  rw [Nat.shiftLeft_eq] at c1 c2
  have hx1 : (m : Rat) * p2 place < p2 (place + m.log2 + 1) := by
    rw [show place + (m.log2 : Int) + 1 = (m.log2 + 1 : Int) + place by omega, p2_add]
    exact Rat.mul_lt_mul_of_pos_right hl2 (p2_pos place)
  have hx2 : p2 (place + m.log2) ≤ (m : Rat) * p2 place := by
    rw [show place + (m.log2 : Int) = (m.log2 : Int) + place by omega, p2_add]
    exact Rat.mul_le_mul_of_nonneg_right hl1 (Rat.le_of_lt (p2_pos place))
  have hplaces : place = ((place - last).toNat : Int) - ((last - place).toNat : Int) + last := by omega
  generalize (place - last).toNat = a at *
  generalize (last - place).toNat = b at *
  have r1 : 2 * ((kept : Rat) * p2 b) ≤ 2 * ((m : Rat) * p2 a) + p2 b := by
    rw [p2_nat, p2_nat]
    have := Rat.natCast_le_natCast.2 c1
    simpa [Rat.natCast_add, Rat.natCast_mul] using this
  have hlb : p2 last = p2 b * p2 (last - b) := by rw [← p2_add]; congr 1; omega
  have hpa : p2 place = p2 a * p2 (last - b) := by rw [← p2_add]; congr 1; omega
  have hu : 0 ≤ p2 (last - b) := Rat.le_of_lt (p2_pos _)
  have s1 : 2 * ((kept : Rat) * p2 last) ≤ 2 * ((m : Rat) * p2 place) + p2 last := by
    have := Rat.mul_le_mul_of_nonneg_right r1 hu
    rw [hlb, hpa]; grind
  clear r1 c1 c2 hkept hlb hpa hu
  generalize hX : (m : Rat) * p2 place = X at *
  have htop : X < p2 (last + 23 + 1) := by
    have := p2_le (show place + (m.log2 : Int) + 1 ≤ last + 23 + 1 by omega)
    grind
  have hP : 0 < p2 last := p2_pos last
  have kle : kept ≤ 16777216 := by
    have h1 : 2 * ((kept : Rat) * p2 last) < 2 * p2 (last + 23 + 1) + p2 last := by grind
    have e : p2 (last + 23 + 1) = ((16777216 : Nat) : Rat) * p2 last := by
      rw [show last + 23 + 1 = ((24 : Nat) : Int) + last by omega, p2_add, p2_nat]
    rw [e] at h1
    have h2 : (2 * (kept : Rat)) * p2 last < (2 * ((16777216 : Nat) : Rat) + 1) * p2 last := by grind
    have h3 := (Rat.mul_lt_mul_right hP).1 h2
    have e33 : 2 * ((16777216 : Nat) : Rat) + 1 = ((33554433 : Nat) : Rat) := by decide +kernel
    rw [e33] at h3
    have h4 : ((2 * kept : Nat) : Rat) < ((33554433 : Nat) : Rat) := by
      rw [Rat.natCast_mul]; exact h3
    have := Rat.natCast_lt_natCast.1 h4
    omega
  obtain ⟨L, hL⟩ : ∃ L : Nat, last = -149 + (L : Int) := ⟨(last + 149).toNat, by omega⟩
  have hL2 : (last - -149).toNat = L := by omega
  rw [hL2]
  have hrung : L * 8388608 + kept < 255 * 8388608 := by
    rcases Nat.lt_or_ge L 253 with h | h
    · omega
    · have hlog : last = place + ↑m.log2 - 23 := by omega
      rcases Nat.lt_or_ge L 254 with h' | h'
      · have hL3 : L = 253 := by omega
        have e104 : last = 104 := by omega
        have kn : kept ≠ 16777216 := by
          intro hk
          rw [hk, e104] at s1
          have : 2 * X ≤ 2 * max32 := by grind
          have q : ¬ (2 * (((16777216 : Nat) : Rat) * p2 104) ≤ 2 * max32 + p2 104) := by decide +kernel
          exact q (by grind)
        omega
      · exfalso
        have g1 : p2 128 ≤ p2 (place + m.log2) := p2_le (by omega)
        have g2 : max32 < p2 128 := by decide +kernel
        grind
  rw [hin, Nat.min_eq_left (by omega)]
  unfold num
  rw [read_word _ neg _ (by rw [hin]; exact hrung)]
  split <;> rfl

theorem write_max {s : Bool} {m : Nat} {e : Int} (h1 : val (.number s m e) ≤ max32) (h2 : -max32 ≤ val (.number s m e)) :
    num FloatKind.f32.format (FloatKind.f32.format.write (.number s m e)) ∧ RndV FloatKind.f32.format (val (.number s m e)) (V FloatKind.f32.format (FloatKind.f32.format.write (.number s m e))) := by
  have hn : num FloatKind.f32.format (FloatKind.f32.format.write (.number s m e)) := by
    by_cases hm : m = 0
    · subst hm
      have hl := lim_pos FloatKind.f32.format
      have z1 : val (.number s 0 e) = 0 := by cases s <;> simp [val]
      exact (write_rnd FloatKind.f32.format (fmt_he .f32) (by rw [z1]; exact hl) (by rw [z1]; grind)).1
    · refine nearest_max s m e (by omega) ?_
      rw [val_mag] at h1 h2
      cases s <;> simp only [if_true, Bool.false_eq_true, if_false] at h1 h2 <;> grind
  exact ⟨hn, write_rnd' .f32 hn⟩

/-- float64 to float32, up to the greatest one. -/
theorem narrow_max {x : Nat} (hx : num FloatKind.f64.format x) (h1 : V FloatKind.f64.format x ≤ max32) (h2 : -max32 ≤ V FloatKind.f64.format x) :
    ∃ r, floatToFloatBits .f64 x .f32 = some r ∧ num FloatKind.f32.format r ∧ RndV FloatKind.f32.format (V FloatKind.f64.format x) (V FloatKind.f32.format r) := by
  obtain ⟨s, m, i, hx⟩ := num_read hx
  unfold V at h1 h2 ⊢
  rw [hx] at h1 h2 ⊢
  obtain ⟨g1, g2⟩ := write_max h1 h2
  refine ⟨FloatKind.f32.format.write (.number s m i), ?_, g1, g2⟩
  unfold floatToFloatBits
  rw [if_neg (by decide)]
  have hx' : FloatKind.f64.decode x = .number s m i := hx
  rw [hx']
  simp only
  rw [lt_of_num g1]
  rfl

theorem rung_max : V FloatKind.f32.format 2139095039 = max32 ∧ num FloatKind.f32.format 2139095039 := by
  constructor
  · decide +kernel
  · unfold num; decide
/-- No finite float32 is greater. -/
theorem fin_max {x : Nat} (h : fin .f32 x = true) : V FloatKind.f32.format x ≤ max32 ∧ -max32 ≤ V FloatKind.f32.format x := by
  have hn := fin_num.1 h
  have hr := rung_num hn
  have hv := V_rung FloatKind.f32.format hr
  obtain ⟨m1, m2⟩ := rung_max
  have hm := V_rung FloatKind.f32.format (rung_num m2)
  have hi : FloatKind.f32.format.infRung = 2139095040 := by decide
  rw [show 2139095039 % FloatKind.f32.format.signWeight = 2139095039 by decide, show (2139095039 / FloatKind.f32.format.signWeight % 2 == 1) = false by decide, m1] at hm
  simp only [Bool.false_eq_true, if_false] at hm
  rw [hi] at hr
  have hle : rungV FloatKind.f32.format (x % FloatKind.f32.format.signWeight) ≤ rungV FloatKind.f32.format 2139095039 := by
    rcases Nat.lt_or_ge (x % FloatKind.f32.format.signWeight) 2139095039 with g | g
    · have := rung_strict FloatKind.f32.format g; grind
    · rw [show x % FloatKind.f32.format.signWeight = 2139095039 by omega]; exact Rat.le_refl
  have h0 := rung_nonneg FloatKind.f32.format (x % FloatKind.f32.format.signWeight)
  rw [← hm] at hle
  rw [hv]
  split <;> constructor <;> grind

end Fl
end Go.Proofs.Ythbebgnjidaokaa
