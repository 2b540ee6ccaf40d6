/-
  Plain facts on binary floating point, read as rational numbers: what a word stands for (val), that writing a number rounds it by half a unit of its last place at most, and what sums, products, quotients, comparisons and cuts to whole numbers give.
-/
import Derived.Laws.FloatArith
import Derived.Laws.ComplexArith
import Derived.Laws.ComplexQuo
namespace Go.Proofs.YthbebgnjidaokaaDoor
namespace Fl
open Ieee

/-- The power of two at a place. -/
def p2 (e : Int) : Rat := (2 : Rat) ^ e

theorem p2_pos (e : Int) : 0 < p2 e := Rat.zpow_pos (by decide)
theorem p2_add (a b : Int) : p2 (a + b) = p2 a * p2 b := Rat.zpow_add (by decide) a b
theorem p2_nat (n : Nat) : p2 (n : Int) = ((2 ^ n : Nat) : Rat) := by
  unfold p2
  rw [Rat.zpow_natCast, Rat.natCast_pow]
  rfl
theorem p2_zero : p2 0 = 1 := Rat.zpow_zero 2
theorem p2_one : p2 1 = 2 := Rat.zpow_one 2
theorem p2_succ (e : Int) : p2 (e + 1) = 2 * p2 e := by
  rw [p2_add, p2_one, Rat.mul_comm]
theorem p2_le {a b : Int} (h : a ≤ b) : p2 a ≤ p2 b := by
  obtain ⟨n, rfl⟩ := Int.le.dest h
  rw [p2_add, p2_nat]
  have h1 : (1 : Rat) ≤ ((2 ^ n : Nat) : Rat) := by
    have := (Rat.natCast_le_natCast (a := 1) (b := 2 ^ n)).2 (Nat.one_le_two_pow)
    simpa using this
  have := Rat.mul_le_mul_of_nonneg_left h1 (Rat.le_of_lt (p2_pos a))
  rwa [Rat.mul_one] at this
theorem p2_lt {a b : Int} (h : a < b) : p2 a < p2 b := by
  have h1 := p2_le (show a + 1 ≤ b by omega)
  rw [p2_succ] at h1
  have := p2_pos a
  grind
theorem lt_of_p2 {a b : Int} (h : p2 a < p2 b) : a < b := by
  apply Classical.byContradiction
  intro hn
  have := p2_le (show b ≤ a by omega)
  grind

/-- What a datum stands for. -/
def mag : Datum → Rat
  | .number _ m e => (m : Rat) * p2 e
  | _ => 0

def val : Datum → Rat
  | .number s m e => if s then -((m : Rat) * p2 e) else (m : Rat) * p2 e
  | _ => 0

def isNum : Datum → Bool
  | .number .. => true
  | _ => false

theorem cut_even (s : Bool) (n drop : Nat) :
    2 * (Toward.even.cut s n drop * 2 ^ drop) ≤ 2 * n + 2 ^ drop ∧ 2 * n ≤ 2 * (Toward.even.cut s n drop * 2 ^ drop) + 2 ^ drop := by
  unfold Toward.cut
  simp only [Nat.one_shiftLeft]
  by_cases hd : drop ≤ n.log2 + 2
  · rw [Nat.min_eq_left hd]
    have hg : 0 < 2 ^ drop := Nat.two_pow_pos drop
    generalize hG : 2 ^ drop = G at *
    have e := Nat.div_add_mod n G
    have hr := Nat.mod_lt n hg
    generalize n / G = low at *
    generalize n % G = rest at *
    rw [Nat.add_mul]
    have e2 : low * G = G * low := Nat.mul_comm _ _
    by_cases hm : (decide (G < 2 * rest) || G == 2 * rest && low % 2 == 1) = true
    · rw [hm]
      simp only [Bool.or_eq_true, decide_eq_true_eq, Bool.and_eq_true, beq_iff_eq] at hm
      simp only [Bool.toNat_true, Nat.one_mul]
      omega
    · have hm' : (decide (G < 2 * rest) || G == 2 * rest && low % 2 == 1) = false := by simpa using hm
      rw [hm']
      simp only [Bool.or_eq_false_iff, decide_eq_false_iff_not] at hm'
      simp only [Bool.toNat_false, Nat.zero_mul]
      omega
  · rw [Nat.min_eq_right (by omega)]
    have hlt : n < 2 ^ (n.log2 + 1) := Nat.lt_log2_self
    have h4 : 2 ^ (n.log2 + 2) = 2 * 2 ^ (n.log2 + 1) := by rw [Nat.pow_succ, Nat.mul_comm]
    have hle : 2 ^ (n.log2 + 2) ≤ 2 ^ drop := Nat.pow_le_pow_right (by decide) (by omega)
    have hlow : n / 2 ^ (n.log2 + 2) = 0 := Nat.div_eq_of_lt (by omega)
    have hrest : n % 2 ^ (n.log2 + 2) = n := Nat.mod_eq_of_lt (by omega)
    rw [hlow, hrest]
    have hm' : (decide (2 ^ (n.log2 + 2) < 2 * n) || 2 ^ (n.log2 + 2) == 2 * n && 0 % 2 == 1) = false := by
      simp only [Bool.or_eq_false_iff, decide_eq_false_iff_not, Nat.zero_mod]
      refine ⟨by omega, by simp⟩
    rw [hm']
    simp only [Bool.toNat_false, Nat.zero_mul, Nat.add_zero, Nat.mul_zero, Nat.zero_le, true_and]
    omega

theorem cut_zero (s : Bool) (n drop : Nat) : Toward.zero.cut s n drop = n / 2 ^ drop := by
  unfold Toward.cut
  simp only [Nat.one_shiftLeft, Bool.toNat_false, Nat.add_zero]
  by_cases hd : drop ≤ n.log2 + 2
  · rw [Nat.min_eq_left hd]
  · rw [Nat.min_eq_right (by omega)]
    have hlt : n < 2 ^ (n.log2 + 1) := Nat.lt_log2_self
    have h4 : 2 ^ (n.log2 + 2) = 2 * 2 ^ (n.log2 + 1) := by rw [Nat.pow_succ, Nat.mul_comm]
    have hle : 2 ^ (n.log2 + 2) ≤ 2 ^ drop := Nat.pow_le_pow_right (by decide) (by omega)
    rw [Nat.div_eq_of_lt (by omega), Nat.div_eq_of_lt (by omega)]

/-- A word with a rung below infinity, read. -/
theorem read_word (f : Format) (neg : Bool) (rung : Nat) (h : rung < f.infRung) :
    f.read (f.word neg rung) = if rung < f.binade then .number neg rung f.leastPlace
      else .number neg (f.binade + rung % f.binade) (f.leastPlace + (rung / f.binade - 1 : Nat)) := by
  have hi := f.infRung_lt
  have hs : rung < f.signWeight := by omega
  have hsp : 0 < f.signWeight := by omega
  unfold Format.read Format.word
  cases neg
  · simp only [Bool.false_eq_true, if_false]
    rw [Nat.mod_eq_of_lt hs, Nat.div_eq_of_lt hs]
    simp [h]
  · simp only [if_true]
    rw [Nat.add_mod_left, Nat.mod_eq_of_lt hs, Nat.add_div_left _ hsp, Nat.div_eq_of_lt hs]
    simp [h]

theorem log2_bounds {m : Nat} (h : 0 < m) : p2 m.log2 ≤ (m : Rat) ∧ (m : Rat) < p2 (m.log2 + 1) := by
  have h1 := Nat.log2_self_le (n := m) (by omega)
  have h2 := Nat.lt_log2_self (n := m)
  constructor
  · rw [p2_nat]; exact Rat.natCast_le_natCast.2 h1
  · have := p2_nat (m.log2 + 1)
    rw [show ((m.log2 : Int) + 1) = ((m.log2 + 1 : Nat) : Int) by omega, this]
    exact Rat.natCast_lt_natCast.2 h2

/-- How a number that is not 0 is written: as a whole number of units of its last place, half a unit off at most. -/
def Rnd (f : Format) (x r : Rat) : Prop := ∃ (last : Int) (q : Nat), f.leastPlace ≤ last ∧ (last = f.leastPlace ∨ p2 (last + f.fractionBits) ≤ x) ∧
  x < p2 (last + f.fractionBits + 1) ∧ r = (q : Rat) * p2 last ∧ 2 * r ≤ 2 * x + p2 last ∧ 2 * x ≤ 2 * r + p2 last

theorem nearest_spec (f : Format) (he : 2 ≤ f.exponentBits) (neg : Bool) (m : Nat) (place : Int) (hm : 0 < m)
    (hx : (m : Rat) * p2 place < p2 (2 ^ (f.exponentBits - 1) - 1)) :
    ∃ m' e', f.read (f.nearest neg m place) = .number neg m' e' ∧ Rnd f ((m : Rat) * p2 place) ((m' : Rat) * p2 e') := by
  obtain ⟨hl1, hl2⟩ := log2_bounds hm
  unfold Format.nearest
  rw [if_neg (by omega)]
  simp only
  generalize hlast : max (place + ↑m.log2 - ↑f.fractionBits) f.leastPlace = last
  have hlow : f.leastPlace ≤ last := by omega
  have hge : place + ↑m.log2 - ↑f.fractionBits ≤ last := by omega
  have hor : last = f.leastPlace ∨ last = place + ↑m.log2 - ↑f.fractionBits := by omega
  clear hlast
  generalize hkept : Toward.even.cut neg (m <<< (place - last).toNat) (last - place).toNat = kept
  obtain ⟨c1, c2⟩ := cut_even neg (m <<< (place - last).toNat) (last - place).toNat
  rw [hkept] at c1 c2
  rw [Nat.shiftLeft_eq] at c1 c2
  -- the value of what is cut, in units of the last place
  have hx1 : (m : Rat) * p2 place < p2 (place + m.log2 + 1) := by
    rw [show place + (m.log2 : Int) + 1 = (m.log2 + 1 : Int) + place by omega, p2_add]
    exact Rat.mul_lt_mul_of_pos_right hl2 (p2_pos place)
  have hx2 : p2 (place + m.log2) ≤ (m : Rat) * p2 place := by
    rw [show place + (m.log2 : Int) = (m.log2 : Int) + place by omega, p2_add]
    exact Rat.mul_le_mul_of_nonneg_right hl1 (Rat.le_of_lt (p2_pos place))
  have hplaces : place = ((place - last).toNat : Int) - ((last - place).toNat : Int) + last := by omega
  generalize (place - last).toNat = a at *
  generalize (last - place).toNat = b at *
  have r1 : 2 * ((kept : Rat) * p2 b) ≤ 2 * ((m : Rat) * p2 a) + p2 b := by
    rw [p2_nat, p2_nat]
    have := Rat.natCast_le_natCast.2 c1
    simpa [Rat.natCast_add, Rat.natCast_mul] using this
  have r2 : 2 * ((m : Rat) * p2 a) ≤ 2 * ((kept : Rat) * p2 b) + p2 b := by
    rw [p2_nat, p2_nat]
    have := Rat.natCast_le_natCast.2 c2
    simpa [Rat.natCast_add, Rat.natCast_mul] using this
  have hlb : p2 last = p2 b * p2 (last - b) := by rw [← p2_add]; congr 1; omega
  have hpa : p2 place = p2 a * p2 (last - b) := by rw [← p2_add]; congr 1; omega
  have hu : 0 ≤ p2 (last - b) := Rat.le_of_lt (p2_pos _)
  have s1 : 2 * ((kept : Rat) * p2 last) ≤ 2 * ((m : Rat) * p2 place) + p2 last := by
    have := Rat.mul_le_mul_of_nonneg_right r1 hu
    rw [hlb, hpa]; grind
  have s2 : 2 * ((m : Rat) * p2 place) ≤ 2 * ((kept : Rat) * p2 last) + p2 last := by
    have := Rat.mul_le_mul_of_nonneg_right r2 hu
    rw [hlb, hpa]; grind
  clear r1 r2 c1 c2 hkept hlb hpa hu
  generalize hX : (m : Rat) * p2 place = X at *
  have htop : X < p2 (last + f.fractionBits + 1) := by
    have := p2_le (show place + (m.log2 : Int) + 1 ≤ last + f.fractionBits + 1 by omega)
    grind
  -- how many units
  have hP : 0 < p2 last := p2_pos last
  have kle : kept ≤ 2 ^ (f.fractionBits + 1) := by
    have h1 : 2 * ((kept : Rat) * p2 last) < 2 * p2 (last + f.fractionBits + 1) + p2 last := by grind
    rw [show last + (f.fractionBits : Int) + 1 = ((f.fractionBits + 1 : Nat) : Int) + last by omega, p2_add, p2_nat] at h1
    have h2 : (2 * (kept : Rat)) * p2 last < (2 * ((2 ^ (f.fractionBits + 1) : Nat) : Rat) + 1) * p2 last := by grind
    have h3 := (Rat.mul_lt_mul_right hP).1 h2
    have h4 : ((2 * kept : Nat) : Rat) < ((2 * 2 ^ (f.fractionBits + 1) + 1 : Nat) : Rat) := by
      simpa [Rat.natCast_add, Rat.natCast_mul] using h3
    have := Rat.natCast_lt_natCast.1 h4
    omega
  have kge : last = f.leastPlace ∨ 2 ^ f.fractionBits ≤ kept := by
    rcases hor with h | h
    · exact .inl h
    · right
      have h0 : p2 (last + f.fractionBits) ≤ X := by rw [show last + (f.fractionBits : Int) = place + m.log2 by omega]; exact hx2
      rw [Int.add_comm, p2_add, p2_nat] at h0
      have h2 : (2 * ((2 ^ f.fractionBits : Nat) : Rat)) * p2 last ≤ (2 * (kept : Rat) + 1) * p2 last := by grind
      have h3 := Rat.le_of_mul_le_mul_right h2 hP
      have h4 : ((2 * 2 ^ f.fractionBits : Nat) : Rat) ≤ ((2 * kept + 1 : Nat) : Rat) := by
        simpa [Rat.natCast_add, Rat.natCast_mul] using h3
      have := Rat.natCast_le_natCast.1 h4
      omega
  -- no overflow
  have hE : ((2 ^ (f.exponentBits - 1) : Nat) : Int) = 2 ^ (f.exponentBits - 1) := by simp
  have hE2 : 2 ^ f.exponentBits = 2 * 2 ^ (f.exponentBits - 1) := by
    rw [← Nat.pow_succ']; congr 1; omega
  have hE3 : 2 ≤ 2 ^ (f.exponentBits - 1) := by
    have := Nat.pow_le_pow_right (n := 2) (by decide) (show 1 ≤ f.exponentBits - 1 by omega)
    simpa using this
  have hlp : f.leastPlace = 2 - ((2 ^ (f.exponentBits - 1) : Nat) : Int) - f.fractionBits := by unfold Format.leastPlace; rw [hE]
  have hin : f.infRung = (2 ^ f.exponentBits - 1) * 2 ^ f.fractionBits := rfl
  have hbin : f.binade = 2 ^ f.fractionBits := rfl
  have hpl : place + m.log2 < 2 ^ (f.exponentBits - 1) - 1 := by
    apply lt_of_p2
    grind
  rw [← hE] at hpl
  generalize 2 ^ (f.exponentBits - 1) = H at *
  have hB : 0 < f.binade := by rw [hbin]; exact Nat.two_pow_pos _
  have hkB : kept ≤ 2 * f.binade := by rw [hbin]; rw [Nat.pow_succ] at kle; omega
  have hkB2 : last = f.leastPlace ∨ f.binade ≤ kept := by rw [hbin]; exact kge
  obtain ⟨L, hL⟩ : ∃ L : Nat, last = f.leastPlace + L := ⟨(last - f.leastPlace).toNat, by omega⟩
  have hL2 : (last - f.leastPlace).toNat = L := by omega
  have hLb : L + 3 ≤ 2 ^ f.exponentBits - 1 ∨ (last = f.leastPlace) := by
    rcases hor with h | h
    · exact .inr h
    · left; omega
  have hrung : L * f.binade + kept < f.infRung := by
    rw [hin, ← hbin]
    rcases hLb with h | h
    · have := Nat.mul_le_mul_right f.binade h
      rw [Nat.add_mul] at this
      omega
    · have hL0 : L = 0 := by omega
      subst hL0
      have : 3 * f.binade ≤ (2 ^ f.exponentBits - 1) * f.binade := Nat.mul_le_mul_right _ (by omega)
      omega
  rw [hL2, Nat.min_eq_left (by omega), read_word f neg _ hrung]
  have fin : ∀ (m' : Nat) (e' : Int), (m' : Rat) * p2 e' = (kept : Rat) * p2 last → Rnd f X ((m' : Rat) * p2 e') := by
    intro m' e' h
    rw [h]
    refine ⟨last, kept, hlow, ?_, htop, rfl, s1, s2⟩
    rcases hor with h | h
    · exact .inl h
    · right
      rw [show last + (f.fractionBits : Int) = place + m.log2 by omega]; exact hx2
  by_cases hsub : L * f.binade + kept < f.binade
  · rw [if_pos hsub]
    refine ⟨_, _, rfl, fin _ _ ?_⟩
    have hL0 : L = 0 := by
      apply Classical.byContradiction
      intro hn
      have : 1 * f.binade ≤ L * f.binade := Nat.mul_le_mul_right _ (by omega)
      omega
    subst hL0
    rw [show last = f.leastPlace by omega, Nat.zero_mul, Nat.zero_add]
  · rw [if_neg hsub]
    refine ⟨_, _, rfl, fin _ _ ?_⟩
    have hkb : f.binade ≤ kept := by
      rcases hkB2 with h | h
      · have hL0 : L = 0 := by omega
        subst hL0; omega
      · exact h
    by_cases hk2 : kept < 2 * f.binade
    · have hd : (L * f.binade + kept) / f.binade = L + 1 := by
        rw [show L * f.binade + kept = (kept - f.binade) + f.binade * (L + 1) by rw [Nat.mul_add, Nat.mul_comm]; omega]
        rw [Nat.add_mul_div_left _ _ hB, Nat.div_eq_of_lt (by omega)]; omega
      have hr : (L * f.binade + kept) % f.binade = kept - f.binade := by
        rw [show L * f.binade + kept = (kept - f.binade) + f.binade * (L + 1) by rw [Nat.mul_add, Nat.mul_comm]; omega]
        rw [Nat.add_mul_mod_self_left, Nat.mod_eq_of_lt (by omega)]
      rw [hd, hr, show f.binade + (kept - f.binade) = kept by omega]
      congr 2
      omega
    · have hk : kept = 2 * f.binade := by omega
      subst hk
      have hd : (L * f.binade + 2 * f.binade) / f.binade = L + 2 := by
        rw [← Nat.add_mul, Nat.mul_div_cancel _ hB]
      have hr : (L * f.binade + 2 * f.binade) % f.binade = 0 := by
        rw [← Nat.add_mul, Nat.mul_mod_left]
      rw [hd, hr, show f.leastPlace + ((L + 2 - 1 : Nat) : Int) = last + 1 by omega, p2_succ]
      simp only [Nat.add_zero, Rat.natCast_mul]
      grind

/-- A number with its sign, rounded. -/
def RndV (f : Format) (x r : Rat) : Prop := (x = 0 ∧ r = 0) ∨ (0 < x ∧ Rnd f x r) ∨ (x < 0 ∧ Rnd f (-x) (-r))

/-- A word stands for a number. -/
def num (f : Format) (x : Nat) : Prop := isNum (f.read x) = true
/-- The number that a word stands for. -/
def V (f : Format) (x : Nat) : Rat := val (f.read x)
/-- Below this no number is too great. -/
def lim (f : Format) : Rat := p2 (2 ^ (f.exponentBits - 1) - 1)

theorem val_mag (s : Bool) (m : Nat) (e : Int) : val (.number s m e) = if s then -((m : Rat) * p2 e) else (m : Rat) * p2 e := rfl
theorem mag_nonneg (m : Nat) (e : Int) : 0 ≤ (m : Rat) * p2 e := Rat.mul_nonneg Rat.natCast_nonneg (Rat.le_of_lt (p2_pos e))
theorem mag_pos {m : Nat} (h : 0 < m) (e : Int) : 0 < (m : Rat) * p2 e := Rat.mul_pos (Rat.natCast_pos.2 h) (p2_pos e)

theorem write_rnd (f : Format) (he : 2 ≤ f.exponentBits) {s : Bool} {m : Nat} {e : Int} (h1 : val (.number s m e) < lim f) (h2 : -lim f < val (.number s m e)) :
    num f (f.write (.number s m e)) ∧ RndV f (val (.number s m e)) (V f (f.write (.number s m e))) := by
  by_cases hm : m = 0
  · subst hm
    have hr : f.read (f.write (.number s 0 e)) = .number s 0 f.leastPlace := by
      show f.read (f.nearest s 0 e) = _
      unfold Format.nearest
      rw [if_pos rfl, read_word f s 0 (by
        have hE2 : 2 ^ f.exponentBits = 2 * 2 ^ (f.exponentBits - 1) := by rw [← Nat.pow_succ']; congr 1; omega
        have := Nat.two_pow_pos (f.exponentBits - 1)
        unfold Format.infRung Format.binade
        exact Nat.mul_pos (by omega) (Nat.two_pow_pos _)), if_pos (show 0 < f.binade from Nat.two_pow_pos _)]
    have z1 : val (.number s 0 e) = 0 := by cases s <;> simp [val]
    have z2 : V f (f.write (.number s 0 e)) = 0 := by unfold V; rw [hr]; cases s <;> simp [val]
    exact ⟨by unfold num; rw [hr]; rfl, .inl ⟨z1, z2⟩⟩
  · have hm' : 0 < m := by omega
    have hpos := mag_pos hm' e
    have hx : (m : Rat) * p2 e < p2 (2 ^ (f.exponentBits - 1) - 1) := by
      rw [val_mag] at h1 h2
      unfold lim at h1 h2
      cases s <;> simp only [if_true, Bool.false_eq_true, if_false] at h1 h2 <;> grind
    obtain ⟨m', e', hr, hrnd⟩ := nearest_spec f he s m e hm' hx
    have hr' : f.read (f.write (.number s m e)) = .number s m' e' := hr
    refine ⟨by unfold num; rw [hr']; rfl, ?_⟩
    unfold V
    rw [hr', val_mag, val_mag]
    cases s
    · exact .inr (.inl ⟨by simpa using hpos, by simpa using hrnd⟩)
    · refine .inr (.inr ⟨?_, ?_⟩)
      · simp only [if_true]; grind
      · simpa [Rat.neg_neg] using hrnd

/-- Rounding keeps order against a number that the format has. -/
theorem rnd_le {f : Format} {x r c : Rat} (h : Rnd f x r) (t : Nat) (L : Int) (ht : t ≤ 2 ^ (f.fractionBits + 1)) (hL : f.leastPlace ≤ L) (hc : c = (t : Rat) * p2 L) (hle : x ≤ c) : r ≤ c := by
  obtain ⟨last, q, _, h2, h3, h4, h5, h6⟩ := h
  have hP := p2_pos last
  by_cases hb : last ≤ L
  · obtain ⟨n, hn⟩ := Int.le.dest hb
    have hc' : c = ((t * 2 ^ n : Nat) : Rat) * p2 last := by
      rw [hc, ← hn, p2_add, p2_nat, Rat.natCast_mul]; grind
    generalize t * 2 ^ n = C at hc'
    have h7 : (2 * (q : Rat)) * p2 last ≤ (2 * (C : Rat) + 1) * p2 last := by grind
    have h8 := Rat.le_of_mul_le_mul_right h7 hP
    have h9 : ((2 * q : Nat) : Rat) ≤ ((2 * C + 1 : Nat) : Rat) := by simpa [Rat.natCast_add, Rat.natCast_mul] using h8
    have h10 := Rat.natCast_le_natCast.1 h9
    have h11 : (q : Rat) ≤ (C : Rat) := Rat.natCast_le_natCast.2 (by omega)
    rw [h4, hc']
    exact Rat.mul_le_mul_of_nonneg_right h11 (Rat.le_of_lt hP)
  · rcases h2 with h2 | h2
    · omega
    · have ht' : (t : Rat) ≤ p2 ((f.fractionBits + 1 : Nat) : Int) := by rw [p2_nat]; exact Rat.natCast_le_natCast.2 ht
      have h7 := Rat.mul_le_mul_of_nonneg_right ht' (Rat.le_of_lt (p2_pos L))
      rw [← p2_add] at h7
      have h8 := p2_le (show ((f.fractionBits + 1 : Nat) : Int) + L ≤ last + f.fractionBits by omega)
      -- then all are one
      have hx : x = c := by grind
      have hq : c = p2 (last + f.fractionBits) := by grind
      rw [Int.add_comm, p2_add, p2_nat] at hq
      generalize 2 ^ f.fractionBits = C at *
      have h7 : (2 * (q : Rat)) * p2 last ≤ (2 * (C : Rat) + 1) * p2 last := by grind
      have h8 := Rat.le_of_mul_le_mul_right h7 hP
      have h9 : ((2 * q : Nat) : Rat) ≤ ((2 * C + 1 : Nat) : Rat) := by simpa [Rat.natCast_add, Rat.natCast_mul] using h8
      have h10 := Rat.natCast_le_natCast.1 h9
      have h11 : (q : Rat) ≤ (C : Rat) := Rat.natCast_le_natCast.2 (by omega)
      rw [h4, hq]
      exact Rat.mul_le_mul_of_nonneg_right h11 (Rat.le_of_lt hP)

theorem rnd_ge {f : Format} {x r c : Rat} (h : Rnd f x r) (t : Nat) (L : Int) (ht : t ≤ 2 ^ (f.fractionBits + 1)) (hL : f.leastPlace ≤ L) (hc : c = (t : Rat) * p2 L) (hle : c ≤ x) : c ≤ r := by
  obtain ⟨last, q, _, h2, h3, h4, h5, h6⟩ := h
  have hP := p2_pos last
  by_cases hb : last ≤ L
  · obtain ⟨n, hn⟩ := Int.le.dest hb
    have hc' : c = ((t * 2 ^ n : Nat) : Rat) * p2 last := by
      rw [hc, ← hn, p2_add, p2_nat, Rat.natCast_mul]; grind
    generalize t * 2 ^ n = C at hc'
    have h7 : (2 * (C : Rat)) * p2 last ≤ (2 * (q : Rat) + 1) * p2 last := by grind
    have h8 := Rat.le_of_mul_le_mul_right h7 hP
    have h9 : ((2 * C : Nat) : Rat) ≤ ((2 * q + 1 : Nat) : Rat) := by simpa [Rat.natCast_add, Rat.natCast_mul] using h8
    have h10 := Rat.natCast_le_natCast.1 h9
    have h11 : (C : Rat) ≤ (q : Rat) := Rat.natCast_le_natCast.2 (by omega)
    rw [h4, hc']
    exact Rat.mul_le_mul_of_nonneg_right h11 (Rat.le_of_lt hP)
  · rcases h2 with h2 | h2
    · omega
    · have ht' : (t : Rat) ≤ p2 ((f.fractionBits + 1 : Nat) : Int) := by rw [p2_nat]; exact Rat.natCast_le_natCast.2 ht
      have h7 := Rat.mul_le_mul_of_nonneg_right ht' (Rat.le_of_lt (p2_pos L))
      rw [← p2_add] at h7
      have h8 := p2_le (show ((f.fractionBits + 1 : Nat) : Int) + L ≤ last + f.fractionBits by omega)
      have hle : c ≤ p2 (last + f.fractionBits) := by grind
      rw [Int.add_comm, p2_add, p2_nat] at h2 hle
      generalize 2 ^ f.fractionBits = C at *
      have h7 : (2 * (C : Rat)) * p2 last ≤ (2 * (q : Rat) + 1) * p2 last := by grind
      have h8 := Rat.le_of_mul_le_mul_right h7 hP
      have h9 : ((2 * C : Nat) : Rat) ≤ ((2 * q + 1 : Nat) : Rat) := by simpa [Rat.natCast_add, Rat.natCast_mul] using h8
      have h10 := Rat.natCast_le_natCast.1 h9
      have h11 : (C : Rat) ≤ (q : Rat) := Rat.natCast_le_natCast.2 (by omega)
      have := Rat.mul_le_mul_of_nonneg_right h11 (Rat.le_of_lt hP)
      rw [h4]
      grind

/-- What the format has is not changed. -/
theorem rnd_exact {f : Format} {x r : Rat} (h : Rnd f x r) (t : Nat) (L : Int) (ht : t ≤ 2 ^ (f.fractionBits + 1)) (hL : f.leastPlace ≤ L) (hc : x = (t : Rat) * p2 L) : r = x :=
  Rat.le_antisymm (rnd_le h t L ht hL hc Rat.le_refl) (rnd_ge h t L ht hL hc Rat.le_refl)

/-- The error of one rounding. -/
theorem rnd_err {f : Format} {x r : Rat} (h : Rnd f x r) (hx0 : 0 ≤ x) : r ≤ x + x * p2 (-(f.fractionBits + 1)) + p2 (f.leastPlace - 1) ∧ x ≤ r + x * p2 (-(f.fractionBits + 1)) + p2 (f.leastPlace - 1) := by
  obtain ⟨last, q, h1, h2, h3, h4, h5, h6⟩ := h
  have e1 : p2 last = 2 * p2 (last - 1) := by rw [← p2_succ]; congr 1; omega
  have hp := p2_pos (last - 1)
  rcases h2 with h2 | h2
  · subst h2
    have := Rat.mul_nonneg hx0 (Rat.le_of_lt (p2_pos (-(f.fractionBits + 1))))
    grind
  · have h7 := Rat.mul_le_mul_of_nonneg_right h2 (Rat.le_of_lt (p2_pos (-(f.fractionBits + 1))))
    rw [← p2_add, show last + (f.fractionBits : Int) + -(f.fractionBits + 1) = last - 1 by omega] at h7
    have := p2_pos (f.leastPlace - 1)
    grind

theorem rnd_nonneg {f : Format} {x r : Rat} (h : Rnd f x r) : 0 ≤ r := by
  obtain ⟨last, q, h1, h2, h3, h4, h5, h6⟩ := h
  rw [h4]; exact mag_nonneg q last

/-- A number that the format has. -/
def Has (f : Format) (c : Rat) : Prop := ∃ (t : Int) (L : Int), t.natAbs ≤ 2 ^ (f.fractionBits + 1) ∧ f.leastPlace ≤ L ∧ c = (t : Rat) * p2 L

theorem has_neg {f : Format} {c : Rat} (h : Has f c) : Has f (-c) := by
  obtain ⟨t, L, h1, h2, h3⟩ := h
  exact ⟨-t, L, by omega, h2, by rw [h3, Rat.intCast_neg, Rat.neg_mul]⟩

theorem has_nat {f : Format} {c : Rat} (h : Has f c) (h0 : 0 ≤ c) : ∃ (t : Nat) (L : Int), t ≤ 2 ^ (f.fractionBits + 1) ∧ f.leastPlace ≤ L ∧ c = (t : Rat) * p2 L := by
  obtain ⟨t, L, h1, h2, h3⟩ := h
  have ht : 0 ≤ t := by
    apply Classical.byContradiction
    intro hn
    have h4 : (t : Rat) < 0 := by
      have := Rat.intCast_lt_intCast.2 (show t < 0 by omega)
      simpa using this
    have h5 := Rat.mul_lt_mul_of_pos_right h4 (p2_pos L)
    rw [Rat.zero_mul] at h5
    grind
  refine ⟨t.toNat, L, by omega, h2, ?_⟩
  rw [h3]
  congr 1
  have : (t : Int) = ((t.toNat : Nat) : Int) := by omega
  exact (congrArg (fun z : Int => (z : Rat)) this).trans (Rat.intCast_natCast _)

theorem rndV_neg {f : Format} {x r : Rat} (h : RndV f x r) : RndV f (-x) (-r) := by
  rcases h with ⟨h1, h2⟩ | ⟨h1, h2⟩ | ⟨h1, h2⟩
  · exact .inl ⟨by grind, by grind⟩
  · exact .inr (.inr ⟨by grind, by simpa [Rat.neg_neg] using h2⟩)
  · exact .inr (.inl ⟨by grind, h2⟩)

theorem rndV_nonneg {f : Format} {x r : Rat} (h : RndV f x r) (h0 : 0 ≤ x) : 0 ≤ r := by
  rcases h with ⟨h1, h2⟩ | ⟨h1, h2⟩ | ⟨h1, h2⟩
  · grind
  · exact rnd_nonneg h2
  · grind

theorem rndV_nonpos {f : Format} {x r : Rat} (h : RndV f x r) (h0 : x ≤ 0) : r ≤ 0 := by
  have := rndV_nonneg (rndV_neg h) (by grind)
  grind

theorem rndV_le {f : Format} {x r c : Rat} (h : RndV f x r) (hc : Has f c) (hle : x ≤ c) : r ≤ c := by
  rcases h with ⟨h1, h2⟩ | ⟨h1, h2⟩ | ⟨h1, h2⟩
  · grind
  · obtain ⟨t, L, a, b, e⟩ := has_nat hc (by grind)
    exact rnd_le h2 t L a b e hle
  · by_cases h0 : 0 ≤ c
    · have := rnd_nonneg h2; grind
    · obtain ⟨t, L, a, b, e⟩ := has_nat (has_neg hc) (by grind)
      have := rnd_ge h2 t L a b e (by grind)
      grind

theorem rndV_ge {f : Format} {x r c : Rat} (h : RndV f x r) (hc : Has f c) (hle : c ≤ x) : c ≤ r := by
  have := rndV_le (rndV_neg h) (has_neg hc) (by grind)
  grind

theorem rndV_exact {f : Format} {x r : Rat} (h : RndV f x r) (hc : Has f x) : r = x :=
  Rat.le_antisymm (rndV_le h hc Rat.le_refl) (rndV_ge h hc Rat.le_refl)

/-- One rounding of a number that is not greater than A. -/
theorem rndV_err {f : Format} {x r A : Rat} (h : RndV f x r) (h1 : x ≤ A) (h2 : -A ≤ x) :
    r ≤ x + A * p2 (-(f.fractionBits + 1)) + p2 (f.leastPlace - 1) ∧ x ≤ r + A * p2 (-(f.fractionBits + 1)) + p2 (f.leastPlace - 1) := by
  have hu := p2_pos (-(f.fractionBits + 1))
  have hv := p2_pos (f.leastPlace - 1)
  have hA : 0 ≤ A := by grind
  have := Rat.mul_nonneg hA (Rat.le_of_lt hu)
  rcases h with ⟨h3, h4⟩ | ⟨h3, h4⟩ | ⟨h3, h4⟩
  · grind
  · have h5 := rnd_err h4 (Rat.le_of_lt h3)
    have := Rat.mul_le_mul_of_nonneg_right h1 (Rat.le_of_lt hu)
    grind
  · have h5 := rnd_err h4 (by grind)
    have := Rat.mul_le_mul_of_nonneg_right (show -x ≤ A by grind) (Rat.le_of_lt hu)
    grind

/-- One rounding below a power of two. -/
theorem rnd_ulp {f : Format} {x r : Rat} {e : Int} (h : Rnd f x r) (he : f.leastPlace ≤ e - f.fractionBits) (h1 : x < p2 (e + 1)) :
    r ≤ x + p2 (e - f.fractionBits - 1) ∧ x ≤ r + p2 (e - f.fractionBits - 1) := by
  obtain ⟨last, q, _, h2, h3, h4, h5, h6⟩ := h
  have hl : last ≤ e - f.fractionBits := by
    rcases h2 with h2 | h2
    · omega
    · have : last + f.fractionBits < e + 1 := lt_of_p2 (by grind)
      omega
  have e1 : p2 last = 2 * p2 (last - 1) := by rw [← p2_succ]; congr 1; omega
  have := p2_le (show last - 1 ≤ e - f.fractionBits - 1 by omega)
  grind

theorem rndV_ulp {f : Format} {x r : Rat} (e : Int) (h : RndV f x r) (he : f.leastPlace ≤ e - f.fractionBits) (h1 : x < p2 (e + 1)) (h2 : -p2 (e + 1) < x) :
    r ≤ x + p2 (e - f.fractionBits - 1) ∧ x ≤ r + p2 (e - f.fractionBits - 1) := by
  have := p2_pos (e - f.fractionBits - 1)
  rcases h with ⟨h3, h4⟩ | ⟨h3, h4⟩ | ⟨h3, h4⟩
  · grind
  · exact rnd_ulp h4 he h1
  · have := rnd_ulp h4 he (by grind)
    grind

theorem has_int {f : Format} (hf : f.leastPlace ≤ 0) (n : Int) (h : n.natAbs ≤ 2 ^ (f.fractionBits + 1)) : Has f (n : Rat) :=
  ⟨n, 0, h, hf, by rw [p2_zero, Rat.mul_one]⟩

theorem has_zero (f : Format) : Has f 0 := ⟨0, f.leastPlace, by simp, Int.le_refl _, by simp⟩

/-- A word's own number is one that the format has. -/
theorem has_V (f : Format) (x : Nat) : Has f (V f x) := by
  unfold V
  have hb : f.binade = 2 ^ f.fractionBits := rfl
  have hs : ∀ (s : Bool) (m : Nat) (e : Int), m ≤ 2 ^ (f.fractionBits + 1) → f.leastPlace ≤ e → Has f (val (.number s m e)) := by
    intro s m e h1 h2
    cases s
    · exact ⟨m, e, by omega, h2, by simp [val, Rat.intCast_natCast]⟩
    · exact ⟨-(m : Int), e, by omega, h2, by simp [val, Rat.intCast_natCast, Rat.neg_mul]⟩
  unfold Format.read
  simp only
  have hp : 0 < f.binade := Nat.two_pow_pos _
  split
  · rename_i h
    refine hs _ _ _ ?_ (Int.le_refl _)
    rw [Nat.pow_succ]; omega
  · split
    · refine hs _ _ _ ?_ (by omega)
      have := Nat.mod_lt (x % f.signWeight) hp
      rw [Nat.pow_succ]; omega
    · split <;> exact has_zero f

/-! The operations. -/

theorem num_read {f : Format} {x : Nat} (h : num f x) : ∃ s m e, f.read x = .number s m e := by
  unfold num at h
  cases hr : f.read x with
  | number s m e => exact ⟨s, m, e, rfl⟩
  | infinity s => rw [hr] at h; cases h
  | nan s t => rw [hr] at h; cases h

theorem signed_val (s : Bool) (m u : Nat) (base : Int) : (signed s m u : Rat) * p2 base = if s then -((m : Rat) * p2 (base + u)) else (m : Rat) * p2 (base + u) := by
  unfold signed
  rw [Int.add_comm base, p2_add, p2_nat, Nat.shiftLeft_eq]
  cases s
  · simp only [Bool.false_eq_true, if_false, Rat.intCast_natCast, Rat.natCast_mul, Rat.mul_assoc]
  · simp only [if_true, Rat.intCast_neg, Rat.intCast_natCast, Rat.natCast_mul, Rat.mul_assoc, Rat.neg_mul]

theorem sum_val (s t : Bool) (m n : Nat) (i j : Int) : ∃ s' m' e', Datum.sum (.number s m i) (.number t n j) = some (.number s' m' e') ∧ val (.number s' m' e') = val (.number s m i) + val (.number t n j) := by
  refine ⟨_, _, _, rfl, ?_⟩
  generalize hb : min i j = base
  have h1 : base + ((i - base).toNat : Int) = i := by omega
  have h2 : base + ((j - base).toNat : Int) = j := by omega
  have e1 := signed_val s m (i - base).toNat base
  have e2 := signed_val t n (j - base).toNat base
  rw [h1] at e1
  rw [h2] at e2
  rw [val_mag, val_mag, val_mag, ← e1, ← e2, ← Rat.add_mul, ← Rat.intCast_add]
  generalize signed s m (i - base).toNat + signed t n (j - base).toNat = T
  by_cases hT0 : T = 0
  · subst hT0; simp
  · rw [if_neg hT0]
    by_cases hT : T < 0
    · rw [if_pos (by simpa using hT)]
      have : T = -((T.natAbs : Nat) : Int) := by omega
      rw [show ((T.natAbs : Nat) : Rat) = ((T.natAbs : Int) : Rat) from (Rat.intCast_natCast _).symm, ← Rat.neg_mul, ← Rat.intCast_neg, ← this]
    · rw [if_neg (by simpa using hT)]
      have : T = ((T.natAbs : Nat) : Int) := by omega
      rw [show ((T.natAbs : Nat) : Rat) = ((T.natAbs : Int) : Rat) from (Rat.intCast_natCast _).symm, ← this]

theorem opposite_val (s : Bool) (m : Nat) (e : Int) : val (Datum.number s m e).opposite = -val (.number s m e) := by
  cases s <;> simp [Datum.opposite, val, Rat.neg_neg]

theorem product_val (s t : Bool) (m n : Nat) (i j : Int) : Datum.product (.number s m i) (.number t n j) = some (.number (s ^^ t) (m * n) (i + j)) ∧ val (.number (s ^^ t) (m * n) (i + j)) = val (.number s m i) * val (.number t n j) := by
  refine ⟨rfl, ?_⟩
  rw [val_mag, val_mag, val_mag, p2_add, Rat.natCast_mul]
  cases s <;> cases t <;> simp <;> grind

/-- The two formats. -/
theorem fmt_he (k : FloatKind) : 2 ≤ k.format.exponentBits := by cases k <;> decide
theorem fmt_lp (k : FloatKind) : k.format.leastPlace ≤ 0 := by cases k <;> decide

section
variable (k : FloatKind) {x y : Nat}

theorem add_spec (hx : num k.format x) (hy : num k.format y) (h1 : V k.format x + V k.format y < lim k.format) (h2 : -lim k.format < V k.format x + V k.format y) :
    ∃ r, floatBits .add k x y = some r ∧ num k.format r ∧ RndV k.format (V k.format x + V k.format y) (V k.format r) := by
  obtain ⟨s, m, i, hx⟩ := num_read hx
  obtain ⟨t, n, j, hy⟩ := num_read hy
  obtain ⟨s', m', e', hs, hv⟩ := sum_val s t m n i j
  unfold V at h1 h2 ⊢
  rw [hx, hy] at h1 h2 ⊢
  rw [← hv] at h1 h2 ⊢
  obtain ⟨g1, g2⟩ := write_rnd k.format (fmt_he k) h1 h2
  refine ⟨k.format.write (.number s' m' e'), ?_, g1, g2⟩
  simp [floatBits, Format.add, hx, hy, hs]

theorem sub_spec (hx : num k.format x) (hy : num k.format y) (h1 : V k.format x - V k.format y < lim k.format) (h2 : -lim k.format < V k.format x - V k.format y) :
    ∃ r, floatBits .sub k x y = some r ∧ num k.format r ∧ RndV k.format (V k.format x - V k.format y) (V k.format r) := by
  obtain ⟨s, m, i, hx⟩ := num_read hx
  obtain ⟨t, n, j, hy⟩ := num_read hy
  obtain ⟨s', m', e', hs, hv⟩ := sum_val s (!t) m n i j
  have ho : val (.number (!t) n j) = -val (.number t n j) := opposite_val t n j
  rw [ho, ← Rat.sub_eq_add_neg] at hv
  unfold V at h1 h2 ⊢
  rw [hx, hy] at h1 h2 ⊢
  rw [← hv] at h1 h2 ⊢
  obtain ⟨g1, g2⟩ := write_rnd k.format (fmt_he k) h1 h2
  refine ⟨k.format.write (.number s' m' e'), ?_, g1, g2⟩
  simp [floatBits, Format.sub, hx, hy, hs, Datum.opposite]

theorem mul_spec (hx : num k.format x) (hy : num k.format y) (h1 : V k.format x * V k.format y < lim k.format) (h2 : -lim k.format < V k.format x * V k.format y) :
    ∃ r, floatBits .mul k x y = some r ∧ num k.format r ∧ RndV k.format (V k.format x * V k.format y) (V k.format r) := by
  obtain ⟨s, m, i, hx⟩ := num_read hx
  obtain ⟨t, n, j, hy⟩ := num_read hy
  obtain ⟨hs, hv⟩ := product_val s t m n i j
  unfold V at h1 h2 ⊢
  rw [hx, hy] at h1 h2 ⊢
  rw [← hv] at h1 h2 ⊢
  obtain ⟨g1, g2⟩ := write_rnd k.format (fmt_he k) h1 h2
  refine ⟨k.format.write (.number (s ^^ t) (m * n) (i + j)), ?_, g1, g2⟩
  simp [floatBits, Format.mul, hx, hy, hs]
end

/-- A whole number as a float. -/
theorem ofInt_spec (k : FloatKind) (n : Int) (h1 : (n : Rat) < lim k.format) (h2 : -lim k.format < (n : Rat)) :
    num k.format (floatOfInt k n) ∧ RndV k.format (n : Rat) (V k.format (floatOfInt k n)) := by
  have hv : val (.number (decide (n < 0)) n.natAbs 0) = (n : Rat) := by
    rw [val_mag, p2_zero, Rat.mul_one]
    have h0 : ((n.natAbs : Nat) : Rat) = ((n.natAbs : Int) : Rat) := (Rat.intCast_natCast _).symm
    by_cases hn : n < 0
    · rw [if_pos (by simpa using hn), h0, ← Rat.intCast_neg]; congr 1; omega
    · rw [if_neg (by simpa using hn), h0]; congr 1; omega
  rw [← hv] at h1 h2
  have := write_rnd k.format (fmt_he k) h1 h2
  rw [hv] at this
  exact this

/-- No word stands for more. -/
theorem V_bound (f : Format) (he : 2 ≤ f.exponentBits) (x : Nat) : V f x < p2 (2 ^ (f.exponentBits - 1)) ∧ -p2 (2 ^ (f.exponentBits - 1)) < V f x := by
  have hb : f.binade = 2 ^ f.fractionBits := rfl
  have hE : ((2 ^ (f.exponentBits - 1) : Nat) : Int) = 2 ^ (f.exponentBits - 1) := by simp
  have hE2 : 2 ^ f.exponentBits = 2 * 2 ^ (f.exponentBits - 1) := by rw [← Nat.pow_succ']; congr 1; omega
  have hE3 : 2 ≤ 2 ^ (f.exponentBits - 1) := by
    have := Nat.pow_le_pow_right (n := 2) (by decide) (show 1 ≤ f.exponentBits - 1 by omega)
    simpa using this
  have hlp : f.leastPlace = 2 - ((2 ^ (f.exponentBits - 1) : Nat) : Int) - f.fractionBits := by unfold Format.leastPlace; rw [hE]
  have hs : ∀ (s : Bool) (m : Nat) (e : Int), m < 2 ^ (f.fractionBits + 1) → e + f.fractionBits + 1 ≤ 2 ^ (f.exponentBits - 1) →
      val (.number s m e) < p2 (2 ^ (f.exponentBits - 1)) ∧ -p2 (2 ^ (f.exponentBits - 1)) < val (.number s m e) := by
    intro s m e h1 h2
    have h3 := Rat.mul_lt_mul_of_pos_right (Rat.natCast_lt_natCast.2 h1) (p2_pos e)
    rw [← p2_nat, ← p2_add] at h3
    have h4 := p2_le (show ((f.fractionBits + 1 : Nat) : Int) + e ≤ 2 ^ (f.exponentBits - 1) by omega)
    have h5 := mag_nonneg m e
    rw [val_mag]
    cases s <;> simp only [if_true, Bool.false_eq_true, if_false] <;> grind
  have hz : (0 : Rat) < p2 (2 ^ (f.exponentBits - 1)) ∧ -p2 (2 ^ (f.exponentBits - 1)) < 0 := by
    have := p2_pos (2 ^ (f.exponentBits - 1))
    grind
  have hp : 0 < f.binade := Nat.two_pow_pos _
  unfold V Format.read
  simp only
  split
  · rename_i h
    exact hs _ _ _ (by rw [Nat.pow_succ]; omega) (by rw [← hE]; omega)
  · split
    · rename_i h
      have h1 : x % f.signWeight / f.binade < 2 ^ f.exponentBits - 1 := by
        rw [Nat.div_lt_iff_lt_mul hp]; exact h
      refine hs _ _ _ ?_ (by rw [← hE]; omega)
      have := Nat.mod_lt (x % f.signWeight) hp
      rw [Nat.pow_succ]; omega
    · split <;> exact hz

theorem lt_of_num {k : FloatKind} {s : Bool} {m : Nat} {e : Int} (h : num k.format (k.format.write (.number s m e))) : (k.decode (k.encode (.number s m e))).isInfinity = false := by
  unfold num at h
  unfold FloatKind.decode FloatKind.encode
  cases hr : k.format.read (k.format.write (.number s m e)) with
  | number => rfl
  | infinity => rw [hr] at h; cases h
  | nan => rfl

/-- float32 to float64: nothing is changed. -/
theorem widen_spec {x : Nat} (hx : num FloatKind.f32.format x) :
    ∃ r, floatToFloatBits .f32 x .f64 = some r ∧ num FloatKind.f64.format r ∧ V FloatKind.f64.format r = V FloatKind.f32.format x := by
  have hhas := has_V FloatKind.f32.format x
  have hb : V FloatKind.f32.format x < lim FloatKind.f64.format ∧ -lim FloatKind.f64.format < V FloatKind.f32.format x := by
    have h1 := V_bound FloatKind.f32.format (by decide) x
    have h2 : p2 (2 ^ (FloatKind.f32.format.exponentBits - 1)) < lim FloatKind.f64.format := p2_lt (by decide)
    grind
  obtain ⟨s, m, i, hx⟩ := num_read hx
  unfold V at hb hhas ⊢
  rw [hx] at hb hhas ⊢
  obtain ⟨g1, g2⟩ := write_rnd FloatKind.f64.format (fmt_he .f64) hb.1 hb.2
  refine ⟨FloatKind.f64.format.write (.number s m i), ?_, g1, ?_⟩
  · unfold floatToFloatBits
    rw [if_neg (by decide)]
    have hx' : FloatKind.f32.decode x = .number s m i := hx
    rw [hx']
    simp only
    rw [lt_of_num g1]
    rfl
  · refine rndV_exact g2 ?_
    obtain ⟨t, L, h1, h2, h3⟩ := hhas
    exact ⟨t, L, Nat.le_trans h1 (by decide), Int.le_trans (by decide) h2, h3⟩

/-- float64 to float32: one rounding. -/
theorem narrow_spec {x : Nat} (hx : num FloatKind.f64.format x) (h1 : V FloatKind.f64.format x < lim FloatKind.f32.format) (h2 : -lim FloatKind.f32.format < V FloatKind.f64.format x) :
    ∃ r, floatToFloatBits .f64 x .f32 = some r ∧ num FloatKind.f32.format r ∧ RndV FloatKind.f32.format (V FloatKind.f64.format x) (V FloatKind.f32.format r) := by
  obtain ⟨s, m, i, hx⟩ := num_read hx
  unfold V at h1 h2 ⊢
  rw [hx] at h1 h2 ⊢
  obtain ⟨g1, g2⟩ := write_rnd FloatKind.f32.format (fmt_he .f32) h1 h2
  refine ⟨FloatKind.f32.format.write (.number s m i), ?_, g1, g2⟩
  unfold floatToFloatBits
  rw [if_neg (by decide)]
  have hx' : FloatKind.f64.decode x = .number s m i := hx
  rw [hx']
  simp only
  rw [lt_of_num g1]
  rfl

/-- Comparison. -/
theorem order_spec (f : Format) {x y : Nat} (hx : num f x) (hy : num f y) :
    (f.order x y = some .lt ↔ V f x < V f y) ∧ (f.order x y = some .eq ↔ V f x = V f y) ∧ (f.order x y = some .gt ↔ V f y < V f x) := by
  obtain ⟨s, m, i, hx⟩ := num_read hx
  obtain ⟨t, n, j, hy⟩ := num_read hy
  unfold Format.order V
  rw [hx, hy]
  unfold Datum.order
  simp only
  generalize hb : min i j = base
  have h1 : base + ((i - base).toNat : Int) = i := by omega
  have h2 : base + ((j - base).toNat : Int) = j := by omega
  have e1 := signed_val s m (i - base).toNat base
  have e2 := signed_val t n (j - base).toNat base
  rw [h1] at e1
  rw [h2] at e2
  rw [val_mag, val_mag, ← e1, ← e2, Rat.mul_lt_mul_right (p2_pos base), Rat.mul_lt_mul_right (p2_pos base), Rat.intCast_lt_intCast, Rat.intCast_lt_intCast]
  generalize signed s m (i - base).toNat = A
  generalize signed t n (j - base).toNat = B
  have he : (A : Rat) * p2 base = (B : Rat) * p2 base ↔ A = B := by
    constructor
    · intro h
      have l1 : (A : Rat) ≤ B := Rat.le_of_mul_le_mul_right (by rw [h]; exact Rat.le_refl) (p2_pos base)
      have l2 : (B : Rat) ≤ A := Rat.le_of_mul_le_mul_right (by rw [h]; exact Rat.le_refl) (p2_pos base)
      have := Rat.intCast_le_intCast.1 l1
      have := Rat.intCast_le_intCast.1 l2
      omega
    · intro h; rw [h]
  rw [he]
  simp only [Option.some.injEq]
  rcases Int.lt_trichotomy A B with h | h | h
  · have : compare A B = .lt := by rw [Int.compare_eq_lt]; exact h
    rw [this]; simp; omega
  · have : compare A B = .eq := by rw [Int.compare_eq_eq]; exact h
    rw [this]; simp; omega
  · have : compare A B = .gt := by rw [Int.compare_eq_gt]; exact h
    rw [this]; simp; omega

theorem order_not (f : Format) {x y : Nat} (h : (f.read x).isNaN = true ∨ (f.read y).isNaN = true) : f.order x y = none := by
  unfold Format.order
  rcases h with h | h
  · cases hr : f.read x with
    | nan => rfl
    | number => rw [hr] at h; cases h
    | infinity => rw [hr] at h; cases h
  · cases hr : f.read y with
    | nan => cases f.read x <;> rfl
    | number => rw [hr] at h; cases h
    | infinity => rw [hr] at h; cases h

/-- Cut towards 0. -/
theorem toInt_spec {k : FloatKind} {x : Nat} (hx : num k.format x) (h0 : 0 ≤ V k.format x) :
    ∃ n : Nat, (k.decode x).toInt .zero = some (n : Int) ∧ (n : Rat) ≤ V k.format x ∧ V k.format x < (n : Rat) + 1 := by
  obtain ⟨s, m, i, hx⟩ := num_read hx
  unfold V at h0 ⊢
  unfold FloatKind.decode
  rw [hx] at h0 ⊢
  unfold Datum.toInt Datum.integral
  simp only
  rw [cut_zero, Nat.shiftLeft_eq]
  have hi : i = (i.toNat : Int) - ((-i).toNat : Int) := by omega
  generalize i.toNat = a at *
  generalize (-i).toNat = b at *
  generalize hq : m * 2 ^ a / 2 ^ b = q
  have hb : 0 < 2 ^ b := Nat.two_pow_pos b
  have q1 : q * 2 ^ b ≤ m * 2 ^ a := by rw [← hq]; exact Nat.div_mul_le_self _ _
  have q2 : m * 2 ^ a < (q + 1) * 2 ^ b := by rw [← hq, Nat.mul_comm (m * 2 ^ a / 2 ^ b + 1)]; exact Nat.lt_mul_div_succ _ hb
  have r1 : (q : Rat) * p2 b ≤ (m : Rat) * p2 a := by
    rw [p2_nat, p2_nat]
    have := Rat.natCast_le_natCast.2 q1
    simpa [Rat.natCast_mul] using this
  have r2 : (m : Rat) * p2 a < ((q : Rat) + 1) * p2 b := by
    rw [p2_nat, p2_nat]
    have := Rat.natCast_lt_natCast.2 q2
    simpa [Rat.natCast_mul, Rat.natCast_add] using this
  have hm : (m : Rat) * p2 i * p2 b = (m : Rat) * p2 a := by
    rw [Rat.mul_assoc, ← p2_add]; congr 2; omega
  rw [← hm] at r1 r2
  have s1 := Rat.le_of_mul_le_mul_right r1 (p2_pos b)
  have s2 := (Rat.mul_lt_mul_right (p2_pos b)).1 r2
  cases s
  · refine ⟨q, ?_, by simpa [val] using s1, by simpa [val] using s2⟩
    simp [signed]
  · have hz : (m : Rat) * p2 i = 0 := by
      have := mag_nonneg m i
      rw [val_mag] at h0
      simp only [if_true] at h0
      grind
    have hq0 : q = 0 := by
      rw [hz] at s1
      have : (q : Rat) ≤ ((0 : Nat) : Rat) := by simpa using s1
      have := Rat.natCast_le_natCast.1 this
      omega
    subst hq0
    refine ⟨0, by simp [signed], by rw [val_mag]; simp [hz], by rw [val_mag]; simp [hz]; decide +kernel⟩

/-! The sign. -/

theorem xor_top {x n : Nat} (h : x < 2 * 2 ^ n) : x ^^^ 2 ^ n = if x < 2 ^ n then x + 2 ^ n else x - 2 ^ n := by
  have hp : 0 < 2 ^ n := Nat.two_pow_pos n
  have e1 := Nat.div_add_mod (x ^^^ 2 ^ n) (2 ^ n)
  rw [Nat.xor_div_two_pow, Nat.xor_mod_two_pow, Nat.div_self hp, Nat.mod_self, Nat.xor_zero] at e1
  have e2 := Nat.div_add_mod x (2 ^ n)
  by_cases hx : x < 2 ^ n
  · rw [if_pos hx]
    rw [Nat.div_eq_of_lt hx, Nat.mod_eq_of_lt hx, Nat.zero_xor] at e1
    omega
  · rw [if_neg hx]
    have h1 : x / 2 ^ n = 1 := by
      have := Nat.div_lt_of_lt_mul (m := x) (n := 2 ^ n) (k := 2) (by omega)
      have := (Nat.one_le_div_iff hp).2 (Nat.le_of_not_lt hx)
      omega
    rw [h1] at e1 e2
    rw [Nat.xor_self] at e1
    omega

theorem read_neg (k : FloatKind) {x : Nat} (h : x < 2 ^ k.format.width) : k.format.read (Op.negFloat k x) = (k.format.read x).opposite := by
  unfold Op.negFloat
  have hw : 2 ^ k.format.width = 2 * 2 ^ (k.format.exponentBits + k.format.fractionBits) := by
    unfold Format.width; rw [Nat.add_assoc, Nat.add_comm 1, Nat.pow_succ, Nat.mul_comm]
  rw [xor_top (by omega)]
  have hS : k.format.signWeight = 2 ^ (k.format.exponentBits + k.format.fractionBits) := rfl
  have hp : 0 < k.format.signWeight := Nat.two_pow_pos _
  rw [← hS] at hw ⊢
  unfold Format.read
  simp only
  by_cases hx : x < k.format.signWeight
  · rw [if_pos hx, Nat.add_mod_right, Nat.add_div_right _ hp, Nat.div_eq_of_lt hx, Nat.mod_eq_of_lt hx]
    split
    · rfl
    · split
      · rfl
      · split <;> rfl
  · rw [if_neg hx]
    have h1 : x / k.format.signWeight = 1 := by
      have := Nat.div_lt_of_lt_mul (m := x) (n := k.format.signWeight) (k := 2) (by omega)
      have := (Nat.one_le_div_iff hp).2 (Nat.le_of_not_lt hx)
      omega
    have h2 : x % k.format.signWeight = x - k.format.signWeight := by
      have := Nat.div_add_mod x k.format.signWeight
      rw [h1] at this; omega
    rw [h1, h2, Nat.div_eq_of_lt (show x - k.format.signWeight < k.format.signWeight by omega), Nat.mod_eq_of_lt (show x - k.format.signWeight < k.format.signWeight by omega)]
    split
    · rfl
    · split
      · rfl
      · split <;> rfl

theorem neg_spec (k : FloatKind) {x : Nat} (h : x < 2 ^ k.format.width) (hx : num k.format x) : num k.format (Op.negFloat k x) ∧ V k.format (Op.negFloat k x) = -V k.format x := by
  obtain ⟨s, m, i, hx⟩ := num_read hx
  unfold num V
  rw [read_neg k h, hx]
  exact ⟨rfl, opposite_val s m i⟩

theorem neg_lt (k : FloatKind) {x : Nat} (h : x < 2 ^ k.format.width) : Op.negFloat k x < 2 ^ k.format.width := by
  unfold Op.negFloat
  refine Nat.xor_lt_two_pow h ?_
  exact Nat.pow_lt_pow_right (by decide) (by unfold Format.width; omega)

/-- Without its sign. -/
theorem abs_spec (k : FloatKind) {x : Nat} (hx : num k.format x) : num k.format (x % k.format.signWeight) ∧
    V k.format (x % k.format.signWeight) = if V k.format x < 0 then -V k.format x else V k.format x := by
  have hp : 0 < k.format.signWeight := Nat.two_pow_pos _
  have hlt := Nat.mod_lt x hp
  have hr : ∀ s m e, k.format.read x = .number s m e → k.format.read (x % k.format.signWeight) = .number false m e := by
    intro s m e h
    unfold Format.read at h ⊢
    simp only at h ⊢
    rw [Nat.mod_mod, Nat.div_eq_of_lt hlt]
    split at h
    · rename_i g; rw [if_pos g]; cases h; rfl
    · rename_i g
      rw [if_neg g]
      split at h
      · rename_i g2; rw [if_pos g2]; cases h; rfl
      · split at h <;> cases h
  obtain ⟨s, m, i, hx⟩ := num_read hx
  unfold num V
  rw [hr s m i hx, hx]
  refine ⟨rfl, ?_⟩
  have := mag_nonneg m i
  cases s
  · simp only [val, Bool.false_eq_true, if_false]
    rw [if_neg (by grind)]
  · simp only [val, Bool.false_eq_true, if_false, if_true]
    by_cases h0 : -((m : Rat) * p2 i) < 0
    · rw [if_pos h0]; grind
    · rw [if_neg h0]; grind

/-! Quotients: rounded but once, all the same. -/

/-- A number strictly between two whole numbers of units, and another one there: they round alike. -/
theorem rnd_between {f : Format} {x y r : Rat} (D : Nat) (u : Int) (hD : 2 ^ (f.fractionBits + 1) ≤ D) (h : Rnd f y r)
    (y2 : y < ((D : Rat) + 1) * p2 u) (x1 : (D : Rat) * p2 u ≤ x) (x2 : x < ((D : Rat) + 1) * p2 u)
    (hxy : y = x ∨ (D : Rat) * p2 u < y) : Rnd f x r := by
  by_cases hx : y = x
  · rwa [hx] at h
  have hy1 : (D : Rat) * p2 u < y := by grind
  obtain ⟨last, q, h1, h2, h3, h4, h5, h6⟩ := h
  have hu := p2_pos u
  -- the unit is at most half the last place
  have hlu : u + 1 ≤ last := by
    have a1 := Rat.mul_le_mul_of_nonneg_right (Rat.natCast_le_natCast.2 hD) (Rat.le_of_lt hu)
    rw [← p2_nat, ← p2_add] at a1
    have a2 : p2 (((f.fractionBits + 1 : Nat) : Int) + u) < p2 (last + f.fractionBits + 1) := by grind
    have := lt_of_p2 a2
    omega
  -- so all that matters is a whole number of units
  have key : ∀ (z : Int) (e : Int), u ≤ e → ∃ Z : Int, (z : Rat) * p2 e = (Z : Rat) * p2 u := by
    intro z e he
    obtain ⟨n, hn⟩ := Int.le.dest he
    refine ⟨z * (2 ^ n : Nat), ?_⟩
    rw [← hn, p2_add, p2_nat, Rat.intCast_mul, Rat.intCast_natCast]
    grind
  have units_le : ∀ Z : Int, (Z : Rat) * p2 u ≤ y → (Z : Rat) * p2 u ≤ x := by
    intro Z hZ
    have a1 : (Z : Rat) * p2 u < ((D : Rat) + 1) * p2 u := by grind
    have a2 := (Rat.mul_lt_mul_right hu).1 a1
    have a3 : (Z : Rat) < ((D + 1 : Nat) : Int) := by
      rw [Rat.intCast_natCast, Rat.natCast_add]; simpa using a2
    have a4 := Rat.intCast_lt_intCast.1 a3
    have a5 : (Z : Rat) ≤ ((D : Nat) : Int) := Rat.intCast_le_intCast.2 (by omega)
    rw [Rat.intCast_natCast] at a5
    have := Rat.mul_le_mul_of_nonneg_right a5 (Rat.le_of_lt hu)
    grind
  have units_ge : ∀ Z : Int, y < (Z : Rat) * p2 u → x < (Z : Rat) * p2 u := by
    intro Z hZ
    have a1 : (D : Rat) * p2 u < (Z : Rat) * p2 u := by grind
    have a2 := (Rat.mul_lt_mul_right hu).1 a1
    have a3 : ((D : Nat) : Int) < (Z : Rat) := by rw [Rat.intCast_natCast]; exact a2
    have a4 := Rat.intCast_lt_intCast.1 a3
    have a5 : (((D + 1 : Nat) : Int) : Rat) ≤ (Z : Rat) := Rat.intCast_le_intCast.2 (by omega)
    rw [Rat.intCast_natCast, Rat.natCast_add] at a5
    have := Rat.mul_le_mul_of_nonneg_right a5 (Rat.le_of_lt hu)
    simp at this
    grind
  have hh : p2 last = 2 * p2 (last - 1) := by rw [← p2_succ]; congr 1; omega
  refine ⟨last, q, h1, ?_, ?_, h4, ?_, ?_⟩
  · rcases h2 with h2 | h2
    · exact .inl h2
    · right
      obtain ⟨Z, hZ⟩ := key 1 (last + f.fractionBits) (by omega)
      rw [show ((1 : Int) : Rat) = 1 from rfl, Rat.one_mul] at hZ
      rw [hZ] at h2 ⊢
      exact units_le Z h2
  · obtain ⟨Z, hZ⟩ := key 1 (last + f.fractionBits + 1) (by omega)
    rw [show ((1 : Int) : Rat) = 1 from rfl, Rat.one_mul] at hZ
    rw [hZ] at h3 ⊢
    exact units_ge Z h3
  · obtain ⟨Z, hZ⟩ := key (2 * q - 1) (last - 1) (by omega)
    have hz2 : (Z : Rat) * p2 u = r - p2 (last - 1) := by
      rw [← hZ, h4, hh, Rat.intCast_sub, Rat.intCast_mul, Rat.intCast_natCast]
      simp
      grind
    have := units_le Z (by grind)
    grind
  · obtain ⟨Z, hZ⟩ := key (2 * q + 1) (last - 1) (by omega)
    have hz2 : (Z : Rat) * p2 u = r + p2 (last - 1) := by
      rw [← hZ, h4, hh, Rat.intCast_add, Rat.intCast_mul, Rat.intCast_natCast]
      simp
      grind
    by_cases hyz : y < (Z : Rat) * p2 u
    · have := units_ge Z hyz; grind
    · exfalso
      have hye : y = (Z : Rat) * p2 u := by grind
      rw [hye] at hy1 y2
      have a1 := (Rat.mul_lt_mul_right hu).1 hy1
      have a2 := (Rat.mul_lt_mul_right hu).1 y2
      have a3 : ((D : Nat) : Int) < (Z : Rat) := by rw [Rat.intCast_natCast]; exact a1
      have a4 : (Z : Rat) < ((D + 1 : Nat) : Int) := by
        rw [Rat.intCast_natCast, Rat.natCast_add]; simpa using a2
      have := Rat.intCast_lt_intCast.1 a3
      have := Rat.intCast_lt_intCast.1 a4
      omega

theorem rndV_pos_mk {f : Format} {x r : Rat} (h0 : 0 < x) (h : Rnd f x r) : RndV f x r := .inr (.inl ⟨h0, h⟩)

/-- The quotient of two numbers, in magnitude. -/
theorem quo_mag (f : Format) (he : 2 ≤ f.exponentBits) (s t : Bool) (m n : Nat) (i j : Int) (hm : 0 < m) (hn : 0 < n) (X : Rat)
    (hX : X * ((n : Rat) * p2 j) = (m : Rat) * p2 i) (hlim : X < p2 (2 ^ (f.exponentBits - 1) - 2)) :
    ∃ m' e' w, Datum.quotient (f.fractionBits + 2) (.number s m i) (.number t n j) = some w ∧ f.read (f.write w) = .number (s ^^ t) m' e' ∧ Rnd f X ((m' : Rat) * p2 e') := by
  unfold Datum.quotient
  simp only
  rw [if_neg (by omega)]
  generalize hmore : f.fractionBits + 2 + n.log2 - m.log2 = more
  rw [Nat.shiftLeft_eq]
  generalize hdd : m * 2 ^ more = dd
  have e1 := Nat.div_add_mod dd n
  have hrlt := Nat.mod_lt dd hn
  generalize hD : dd / n = D at *
  generalize hR : dd % n = R at *
  -- D is large
  have hDbig : 2 ^ (f.fractionBits + 1) ≤ D := by
    rw [← hD, Nat.le_div_iff_mul_le hn, ← hdd]
    have h1 := Nat.log2_self_le (n := m) (by omega)
    have h2 := Nat.lt_log2_self (n := n)
    calc 2 ^ (f.fractionBits + 1) * n ≤ 2 ^ (f.fractionBits + 1) * 2 ^ (n.log2 + 1) := Nat.mul_le_mul_left _ (by omega)
      _ = 2 ^ (f.fractionBits + 1 + (n.log2 + 1)) := by rw [← Nat.pow_add]
      _ ≤ 2 ^ (m.log2 + more) := Nat.pow_le_pow_right (by decide) (by omega)
      _ = 2 ^ m.log2 * 2 ^ more := by rw [← Nat.pow_add]
      _ ≤ m * 2 ^ more := Nat.mul_le_mul_right _ h1
  -- the quotient, in units
  have hn' : (0 : Rat) < (n : Rat) := Rat.natCast_pos.2 hn
  have hu := p2_pos (i - j - more)
  have hXn : X * (n : Rat) = ((n : Rat) * (D : Rat) + (R : Rat)) * p2 (i - j - more) := by
    have a1 : ((n * D + R : Nat) : Rat) = (m : Rat) * p2 more := by
      rw [e1, ← hdd, Rat.natCast_mul, p2_nat]
    rw [Rat.natCast_add, Rat.natCast_mul] at a1
    rw [a1]
    have a2 : p2 i = p2 more * p2 (i - j - more) * p2 j := by rw [← p2_add, ← p2_add]; congr 1; omega
    have a3 : (X * (n : Rat)) * p2 j = ((m : Rat) * p2 more * p2 (i - j - more)) * p2 j := by
      rw [Rat.mul_assoc, hX, a2]; grind
    have hj := p2_pos j
    have l1 : X * (n : Rat) ≤ (m : Rat) * p2 more * p2 (i - j - more) := Rat.le_of_mul_le_mul_right (by rw [a3]; exact Rat.le_refl) hj
    have l2 : (m : Rat) * p2 more * p2 (i - j - more) ≤ X * (n : Rat) := Rat.le_of_mul_le_mul_right (by rw [a3]; exact Rat.le_refl) hj
    exact Rat.le_antisymm l1 l2
  generalize hU : i - j - (more : Int) = u at *
  have hR0 : (0 : Rat) ≤ (R : Rat) := Rat.natCast_nonneg
  have hRn : (R : Rat) < (n : Rat) := Rat.natCast_lt_natCast.2 hrlt
  have x1 : (D : Rat) * p2 u ≤ X := by
    apply Rat.le_of_mul_le_mul_right _ hn'
    have := Rat.mul_nonneg hR0 (Rat.le_of_lt hu)
    grind
  have x2 : X < ((D : Rat) + 1) * p2 u := by
    apply (Rat.mul_lt_mul_right hn').1
    have := Rat.mul_lt_mul_of_pos_right hRn hu
    grind
  have hDpos : 0 < D := Nat.lt_of_lt_of_le (Nat.two_pow_pos _) hDbig
  have hu2 : p2 u = 2 * p2 (u - 1) := by rw [← p2_succ]; congr 1; omega
  have hu1 := p2_pos (u - 1)
  have hlim2 : p2 (2 ^ (f.exponentBits - 1) - 1) = 2 * p2 (2 ^ (f.exponentBits - 1) - 2) := by rw [← p2_succ]; congr 1; omega
  have hDu : (1 : Rat) * p2 u ≤ (D : Rat) * p2 u := by
    apply Rat.mul_le_mul_of_nonneg_right _ (Rat.le_of_lt hu)
    have := Rat.natCast_le_natCast.2 hDpos
    simpa using this
  obtain ⟨st, hst, hst2⟩ : ∃ st : Nat, (R != 0).toNat = st ∧ ((st = 0 ∧ R = 0) ∨ (st = 1 ∧ R ≠ 0)) := by
    by_cases h0 : R = 0
    · exact ⟨0, by simp [h0], .inl ⟨rfl, h0⟩⟩
    · exact ⟨1, by simp [h0], .inr ⟨rfl, h0⟩⟩
  rw [hst]
  have hy : ((2 * D + st : Nat) : Rat) * p2 (u - 1) = (D : Rat) * p2 u + (st : Rat) * p2 (u - 1) := by
    rw [hu2, Rat.natCast_add, Rat.natCast_mul]; simp; grind
  have hylim : ((2 * D + st : Nat) : Rat) * p2 (u - 1) < p2 (2 ^ (f.exponentBits - 1) - 1) := by
    rw [hy, hlim2]
    have : (st : Rat) ≤ 1 := by
      have := Rat.natCast_le_natCast.2 (show st ≤ 1 by omega)
      simpa using this
    have := Rat.mul_le_mul_of_nonneg_right this (Rat.le_of_lt hu1)
    grind
  obtain ⟨m', e', hr, hrnd⟩ := nearest_spec f he (s ^^ t) (2 * D + st) (u - 1) (by omega) hylim
  refine ⟨m', e', _, rfl, hr, ?_⟩
  rw [hy] at hrnd
  rcases hst2 with ⟨h1, h2⟩ | ⟨h1, h2⟩
  · subst h1; subst h2
    have hXe : X = (D : Rat) * p2 u := by
      have : X * (n : Rat) = ((D : Rat) * p2 u) * (n : Rat) := by rw [hXn]; simp; grind
      have l1 := Rat.le_of_mul_le_mul_right (a := X) (b := (D : Rat) * p2 u) (c := (n : Rat)) (by rw [this]; exact Rat.le_refl) hn'
      have l2 := Rat.le_of_mul_le_mul_right (a := (D : Rat) * p2 u) (b := X) (c := (n : Rat)) (by rw [this]; exact Rat.le_refl) hn'
      exact Rat.le_antisymm l1 l2
    rw [hXe]
    simpa [Rat.add_zero] using hrnd
  · subst h1
    refine rnd_between D u hDbig hrnd ?_ x1 x2 (.inr ?_)
    · simp; grind
    · simp; grind

theorem xor_val (s t : Bool) (a : Rat) : (if (s ^^ t) then -a else a) = (if s then -1 else 1) * ((if t then -1 else 1) * a) := by
  cases s <;> cases t <;> simp <;> grind

theorem quo_spec (k : FloatKind) {x y : Nat} (hx : num k.format x) (hy : num k.format y) (hy0 : V k.format y ≠ 0) (X : Rat) (hX : X * V k.format y = V k.format x)
    (h1 : X < p2 (2 ^ (k.format.exponentBits - 1) - 2)) (h2 : -p2 (2 ^ (k.format.exponentBits - 1) - 2) < X) :
    ∃ r, floatBits .quo k x y = some r ∧ num k.format r ∧ RndV k.format X (V k.format r) := by
  obtain ⟨s, m, i, hx⟩ := num_read hx
  obtain ⟨t, n, j, hy⟩ := num_read hy
  unfold V at hX hy0 ⊢
  rw [hx] at hX
  rw [hy] at hX hy0
  rw [val_mag] at hX hy0
  rw [val_mag] at hX
  have hn : 0 < n := by
    apply Classical.byContradiction
    intro hn
    have : n = 0 := by omega
    subst this
    apply hy0
    cases t <;> simp
  have hN := mag_pos hn j
  by_cases hm : m = 0
  · subst hm
    have hX0 : X = 0 := by
      have hz : (if s then -(((0 : Nat) : Rat) * p2 i) else ((0 : Nat) : Rat) * p2 i) = 0 := by cases s <;> simp
      rw [hz] at hX
      rcases Rat.mul_eq_zero.1 hX with h | h
      · exact h
      · exact absurd h hy0
    obtain ⟨g1, g2⟩ := write_rnd k.format (fmt_he k) (s := s ^^ t) (m := 0) (e := i - j - ((k.format.fractionBits + 2 + n.log2 - (0 : Nat).log2 : Nat) : Int) - 1)
      (by
        have : val (.number (s ^^ t) 0 (i - j - ((k.format.fractionBits + 2 + n.log2 - (0 : Nat).log2 : Nat) : Int) - 1)) = 0 := by rw [val_mag]; cases (s ^^ t) <;> simp
        rw [this]; exact p2_pos _)
      (by
        have : val (.number (s ^^ t) 0 (i - j - ((k.format.fractionBits + 2 + n.log2 - (0 : Nat).log2 : Nat) : Int) - 1)) = 0 := by rw [val_mag]; cases (s ^^ t) <;> simp
        have h := p2_pos (2 ^ (k.format.exponentBits - 1) - 1)
        rw [this]; unfold lim; grind)
    have hv : val (.number (s ^^ t) 0 (i - j - ((k.format.fractionBits + 2 + n.log2 - (0 : Nat).log2 : Nat) : Int) - 1)) = 0 := by rw [val_mag]; cases (s ^^ t) <;> simp
    rw [hv] at g2
    refine ⟨_, ?_, g1, by rw [hX0]; exact g2⟩
    simp [floatBits, Format.div, hx, hy, Datum.quotient, show n ≠ 0 by omega]
  · have hm' : 0 < m := by omega
    have hM := mag_pos hm' i
    -- the magnitude of X
    have hXm : (if (s ^^ t) then -X else X) * ((n : Rat) * p2 j) = (m : Rat) * p2 i := by
      cases s <;> cases t <;> simp at hX ⊢ <;> grind
    have hlim : (if (s ^^ t) then -X else X) < p2 (2 ^ (k.format.exponentBits - 1) - 2) := by
      cases (s ^^ t) <;> simp only [Bool.false_eq_true, if_false, if_true] <;> grind
    obtain ⟨m', e', w, g0, g1, g2⟩ := quo_mag k.format (fmt_he k) s t m n i j hm' hn _ hXm hlim
    refine ⟨k.format.write w, by simp [floatBits, Format.div, hx, hy, g0], by unfold num; rw [g1]; rfl, ?_⟩
    rw [g1, val_mag]
    have hXpos : 0 < (if (s ^^ t) then -X else X) := by
      apply Classical.byContradiction
      intro hneg
      have := Rat.mul_le_mul_of_nonneg_right (show (if (s ^^ t) then -X else X) ≤ 0 by grind) (Rat.le_of_lt hN)
      rw [Rat.zero_mul] at this
      grind
    cases hst : (s ^^ t)
    · rw [hst] at hXpos g2
      simp only [Bool.false_eq_true, if_false] at hXpos g2 ⊢
      exact .inr (.inl ⟨hXpos, g2⟩)
    · rw [hst] at hXpos g2
      simp only [if_true] at hXpos g2 ⊢
      exact .inr (.inr ⟨by grind, by simpa [Rat.neg_neg] using g2⟩)

end Fl
end Go.Proofs.YthbebgnjidaokaaDoor
